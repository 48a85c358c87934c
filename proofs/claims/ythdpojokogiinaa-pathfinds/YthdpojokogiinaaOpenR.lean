/-
  An argument that is a slice of rows, opened.
-/
import Derived.Test.YthdpojokogiinaaOpenC
namespace Go.Proofs.Ythdpojokogiinaa
open Go.ChangeShapes Go.WideShapes Go.ChangeAt Go.RowKit Go.Deep
set_option linter.unusedSimpArgs false
set_option linter.unusedVariables false
set_option maxRecDepth 100000

section
variable {H : Type} {enc : TypeId × Value → H} {w : World} {held : Bool}
theorem open_rowsAt {r : Reach} {b0 : Nat} {v : Value} {d : DataW H} {p : List MemPlace} (hv : Value.okWide Try.prog w r b0 25 v) (h : DataW.Trod enc Try.prog w 0 (fun _ => true) held 25 v d p) (hs : Sized 25 d) :
    ∃ (A : Option Addr) (n c : Nat) (ts : List (List Int)), v = .slice A n c ∧ TupsAt w w.heap.size A n ts ∧ n ≤ c ∧ c * 24 ≤ 140737488351232 ∧ (A = none → c = 0) := by
  obtain ⟨A', n', c', rfl⟩ := okWide_slice Try.underlying25 hv
  obtain ⟨fuel, hf⟩ := h
  obtain ⟨A, n, c, ts, h1, h2, h3, h4, h5⟩ := read_rows hf hs
  simp [Value.cells] at h1
  obtain ⟨rfl, rfl, rfl⟩ := h1
  exact ⟨A', n', c', ts, rfl, h2, h3, h4, h5⟩
end
end Go.Proofs.Ythdpojokogiinaa
