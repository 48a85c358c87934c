/-
  Contracts of the reference: Row, Starts, EndOf.
-/
import Derived.Test.YtpblpndlajoebaaBaseTerm
import Derived.Test.YtpblpndlajoebaaTermMore
namespace Go.Proofs.Ytpblpndlajoebaa
open Go.RowKit
set_option linter.unusedSimpArgs false
set_option linter.unusedVariables false

theorem termsK_no {ss : List Sym} {r : List Int} (hm : mayB ss = true) (h : rowB ss r = false) : termsK ss r = -1 := by
  unfold rowB at h; rw [hm] at h; simp only [Bool.true_and] at h; unfold termsK; rw [h]; rfl
theorem termsK_yes {ss : List Sym} {r : List Int} (h : rowB ss r = true) : termsK ss r = ((tlD ss r).length : Int) := by
  unfold rowB at h; unfold termsK; simp at h; simp [h.1.2, h.2]
theorem rowB_may {ss : List Sym} {r : List Int} (h : mayB ss = false) : rowB ss r = false := by unfold rowB; rw [h]; rfl

end Go.Proofs.Ytpblpndlajoebaa
