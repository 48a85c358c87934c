/-
  Contract: term.Vars.
-/
import Derived.Test.YtcjpopjcpgipjaaDoorPlainCl
namespace Go.Proofs.YtcjpopjcpgipjaaDoor
open Go.RowKit
set_option linter.unusedSimpArgs false
set_option linter.unusedVariables false

theorem run_index_bool (f : Nat → Bool) (j : Nat) (hj : j < 24) (w : World) : (Instr.index 83 (.agg (boolsC f)) (.int .i64 (j : Int))).run Tryd.prog w = .ok (.bool (f j)) w := by
  have h := boolsC_at f j hj
  simp [Instr.index, asIntOf, part, go_sem, h]
  intro h'; omega
/-- The world where k codes of a row have been looked at. -/
structure SeenW (w0 : World) (g : Nat) (r : List Int) (k : Nat) (wr : World) : Prop where
  bel : Below g w0 wr
  sh : wr.heap[g]? = some (.cells (boolsC (hasV (r.take k))) 83 (0, 0))
theorem SeenW.start (w : World) (r : List Int) {o : Obj} : SeenW (w.alloc o) (w.heap.size + 1) r 0 ((w.alloc o).alloc (.cells (boolsC fun _ => false) 83)) := by
  have := below_new (w.alloc o) (.cells (boolsC fun _ => false) 83)
  refine ⟨by simpa using this, ?_⟩
  rw [heap_alloc2_new]; rfl
section
variable {w0 wr : World} {g k q : Nat} {r : List Int}
theorem SeenW.cell (h : SeenW w0 g r k wr) (j : Nat) (hj : j < 24) : wr.cell? ⟨g, j, none⟩ = some (.bool (hasV (r.take k) j)) := by rw [cell_of_row _ _ _ _ _ _ h.sh, boolsC_at _ j hj]
theorem SeenW.frozen (h : SeenW w0 g r k wr) (j : Nat) : wr.frozen? ⟨g, j, none⟩ = false := frozen_of_row _ _ _ _ _ h.sh
theorem SeenW.lt (h : SeenW w0 g r k wr) : g < wr.heap.size := (Array.getElem?_eq_some_iff.1 h.sh).1
theorem SeenW.var (h : SeenW w0 g r k wr) (hk : k < r.length) (hq : intAt r k = -1 - (q : Int)) (hq24 : q < 24) : SeenW w0 g r (k + 1) (wr.setCell ⟨g, q, none⟩ (.bool true)) := by
  refine ⟨h.bel.setCell (Nat.le_refl _) _, ?_⟩
  have := heap_setCell_same _ _ q _ _ (.bool true) h.sh
  rw [seen_var hk hq hq24] at this; exact this
theorem SeenW.sym (h : SeenW w0 g r k wr) (hk : k < r.length) (hx : 0 ≤ intAt r k) : SeenW w0 g r (k + 1) wr := ⟨h.bel, by rw [← seen_sym hk hx]; exact h.sh⟩
end

end Go.Proofs.YtcjpopjcpgipjaaDoor
