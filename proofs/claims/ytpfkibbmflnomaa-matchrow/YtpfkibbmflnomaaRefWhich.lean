/-
  Contracts of the reference: IsTerm, IsAtom, Which, Compare.
-/
import Derived.Test.YtpfkibbmflnomaaRefMore
namespace Go.Proofs.Ytpfkibbmflnomaa
open Go.RowKit
set_option linter.unusedSimpArgs false
set_option linter.unusedVariables false
set_option maxRecDepth 100000

theorem termsK_eq {ss : List Sym} {r : List Int} (hm : mayB ss = true) {ar : Int} (har : 0 ≤ ar) : (termsK ss r == ar) = (rowB ss r && decide (((tlD ss r).length : Int) = ar)) := by
  unfold termsK rowB
  rw [hm, Bool.true_and]
  cases h : (decide (r.length ≤ 48) && rowP ss r)
  · simp; omega
  · rw [if_pos rfl, Bool.true_and]; rfl
/-- What Which answers, of two terms or two atoms. -/
def WhichPost (ss : List Sym) (a b : List Int) (w : World) (e : Ending) (w' : World) : Prop := ∃ k : Int, e = .returned (.int .i64 k) ∧ CmpR ss a b 0 k ∧ Below w.heap.size w w'
end Go.Proofs.Ytpfkibbmflnomaa
