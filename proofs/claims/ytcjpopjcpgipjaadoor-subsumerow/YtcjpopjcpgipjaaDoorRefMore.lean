/-
  Contracts of the reference: More, IsTerm, IsAtom, Which, Compare.
-/
import Derived.Test.YtcjpopjcpgipjaaDoorRefOrder
namespace Go.Proofs.YtcjpopjcpgipjaaDoor
open Go.RowKit
set_option linter.unusedSimpArgs false
set_option linter.unusedVariables false
set_option maxRecDepth 100000

/-- The first parts that are unlike, of two rows of parts. -/
theorem parts_mor {ss : List Sym} {c : Int} {L M : List (List Int)} {j : Nat} (hj : j < L.length) (hl : L.length = M.length) (tL : ∀ x ∈ L, trm 24 ss x 1) (tM : ∀ x ∈ M, trm 24 ss x 1) (hs : ∀ i, i < j → rowOf L i = rowOf M i) (hne : rowOf L j ≠ rowOf M j)
    (ho : Often (c :: L.flatten) (c :: M.flatten)) (hw : wtSum ss (c :: L.flatten) = wtSum ss (c :: M.flatten)) : morB ss (c :: L.flatten) (c :: M.flatten) = morB ss (rowOf L j) (rowOf M j) := by
  have e1 := rowOf_drop hj
  have e2 := rowOf_drop (L := M) (i := j) (by omega)
  have key : ∀ i, i ≤ j → (L.take i).flatten = (M.take i).flatten := by
    intro i
    induction i with
    | zero => intro _; rfl
    | succ i ih =>
      intro hi
      rw [rowOf_take (by omega), rowOf_take (by omega), ih (by omega), hs i (by omega)]
  have hp : trm 24 ss (L.take j).flatten (L.take j).length := trm_flatten fun x hx => tL x (List.mem_of_mem_take hx)
  rw [e1, e2, ← key j (Nat.le_refl _)] at ho hw ⊢
  exact mor_args ho hw hp (tL _ (rowOf_mem hj)) (tM _ (rowOf_mem (by omega))) hne
theorem parts_some {L M : List (List Int)} (hl : L.length = M.length) (hne : L.flatten ≠ M.flatten) (h : ∀ i, i < L.length → rowOf L i = rowOf M i) : False := by
  apply hne
  have : L = M := by
    apply List.ext_getElem? 
    intro i
    by_cases hi : i < L.length
    · rw [rowOf_get hi, rowOf_get (by omega), h i hi]
    · rw [List.getElem?_eq_none (by omega), List.getElem?_eq_none (by omega)]
  rw [this]

end Go.Proofs.YtcjpopjcpgipjaaDoor
