/-
  Words for memory: the reference's store.
-/
import Derived.Test.YtmdajmdjmdbonaaShape
import Derived.Test.YtmdajmdjmdbonaaPlainUni
import Derived.Test.YtmdajmdjmdbonaaBaseBind
import Derived.Test.YtmdajmdjmdbonaaBaseTerm
import Derived.Test.YtmdajmdjmdbonaaBaseSym
import Derived.BigQuiet
namespace Go.Proofs.Ytmdajmdjmdbonaa
open Go.RowKit
set_option linter.unusedSimpArgs false
set_option linter.unusedVariables false
set_option maxRecDepth 100000

section
variable {w w' : World} {base sb : Nat} {T : Nat → List Int} {A : Option Addr} {n c : Nat} {r : List Int} {u : Value}
end
def noneC : Array Value := (List.replicate 48 (Value.slice none 0 0)).toArray
theorem noneC_lit : noneC = #[.slice none 0 0, .slice none 0 0, .slice none 0 0, .slice none 0 0, .slice none 0 0, .slice none 0 0, .slice none 0 0, .slice none 0 0, .slice none 0 0, .slice none 0 0, .slice none 0 0, .slice none 0 0, .slice none 0 0, .slice none 0 0, .slice none 0 0, .slice none 0 0, .slice none 0 0, .slice none 0 0, .slice none 0 0, .slice none 0 0, .slice none 0 0, .slice none 0 0, .slice none 0 0, .slice none 0 0, .slice none 0 0, .slice none 0 0, .slice none 0 0, .slice none 0 0, .slice none 0 0, .slice none 0 0, .slice none 0 0, .slice none 0 0, .slice none 0 0, .slice none 0 0, .slice none 0 0, .slice none 0 0, .slice none 0 0, .slice none 0 0, .slice none 0 0, .slice none 0 0, .slice none 0 0, .slice none 0 0, .slice none 0 0, .slice none 0 0, .slice none 0 0, .slice none 0 0, .slice none 0 0, .slice none 0 0] := rfl
theorem tK_no {ss : List Sym} {r : List Int} (hm : mayB ss = true) (h : rowB ss r = false) : termsK ss r = -1 := by
  unfold rowB at h; rw [hm, Bool.true_and] at h; unfold termsK; rw [h]; rfl
theorem tK_yes {ss : List Sym} {r : List Int} (h : rowB ss r = true) : 0 ≤ termsK ss r := by
  unfold termsK; split <;> simp_all [rowB]
end Go.Proofs.Ytmdajmdjmdbonaa
