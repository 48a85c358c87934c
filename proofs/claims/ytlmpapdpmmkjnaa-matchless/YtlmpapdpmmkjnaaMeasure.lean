/-
  Contract: term.measure: what it tells of a row, and whether it is one.
-/
import Derived.Test.YtlmpapdpmmkjnaaArity
import Derived.Test.YtlmpapdpmmkjnaaJump
import Derived.Deep.WholeRow
import Derived.Laws.ResultCell
namespace Go.Proofs.Ytlmpapdpmmkjnaa
open Go.RowKit
set_option linter.unusedSimpArgs false
set_option linter.unusedVariables false

theorem shape_info : (Try.prog.info? 91).map (fun i => (i.zero, i.size)) = some (some (.agg zeroC), 96) := by kernel_rfl
theorem shape_built : Try.prog.built 91 [] = some zeroC := by kernel_rfl
theorem below_alloc2 (w : World) (o o' : Obj) : Below w.heap.size w ((w.alloc o).alloc o') := ((Below.refl _ _).alloc (Nat.le_refl _) o).alloc (by simp) o'

theorem below_setRow {B g : Nat} {a w : World} (h : Below B a w) (hg : B ≤ g) (cs : Array Value) : Below B a (w.setRow g cs) :=
  ⟨h.os, h.tape, h.output, by simp; exact h.size, fun k hk => (setRow_other w g k cs (by omega)).trans (h.block k hk)⟩
theorem SymsAt.new2 {w : World} {A : Option Addr} {n : Nat} {ss : List Sym} (h : SymsAt w w.heap.size A n ss) (o o' : Obj) : SymsAt ((w.alloc o).alloc o') ((w.alloc o).alloc o').heap.size A n ss :=
  (h.below (below_alloc2 w o o')).more (by simp; omega)
theorem run_storeC {P : Program} (w : World) (g : Nat) (t : TypeId) (old cells : Array Value) (hg : w.heap[g]? = some (.cells old t (0, 0))) (hs : old.size = cells.size) (h1 : cells.all (·.oneCell') = true) :
    (storeCells ⟨g, 0, none⟩ cells.toList).run P w = .ok () (w.setRow g cells) := by
  have := run_storeCells_from (P := P) g t cells.toList 0 old w hg (by simp; omega) (fun v hv => (Array.all_eq_true_iff_forall_mem.1 h1) v (by simpa using hv))
  simpa using this
theorem run_loadC {P : Program} (w : World) (g n : Nat) (t : TypeId) (cs : Array Value) (hg : w.heap[g]? = some (.cells cs t (0, 0))) (hn : cs.size = n) :
    (loadCellsFrom ⟨g, 0, none⟩ 0 n #[]).run P w = .ok cs w := by
  subst hn
  have := run_loadCells_list (P := P) w ⟨g, 0, none⟩ cs.toList (fun j v hv => by
    have hadd : (⟨g, 0, none⟩ : Addr).add j = ⟨g, j, none⟩ := by unfold Addr.add; split <;> simp_all
    rw [hadd, cell_of_row _ _ j cs t (0, 0) hg]
    simpa using hv)
  simpa [loadCells] using this
theorem meas_ret {R : Ending → World → Prop} {a : Act} {w : World} {g : Nat} {b : Bool} {cs : Array Value} (h4 : a.tmps.getD 4 undef = .pointer (some ⟨g, 0, none⟩)) (h5 : a.tmps.getD 5 undef = .bool b) (hd : a.defers = [])
    (hg : w.heap[g]? = some (.cells cs 91 (0, 0))) (hs : cs.size = 96) (hR : R (.returned (.tuple #[.agg cs, .bool b])) w) : bodyPost Try.prog Try.f59 R .ret a w := by
  refine bodyPost_ret (v := .tuple #[.agg cs, .bool b]) ?_ hd hR
  rw [results_cell_tmp rfl, h4, h5]
  have := run_loadVar_row (P := Try.prog) w g 91 91 cs (0, 0) _ hg Try.underlying91 rfl (by rw [hs]; exact (zero_of_info shape_info).2)
  simp [asAddr, Result.andThen, this]
/-- What measure hands back: the cells, whether it is a row. -/
def measC (ss : List Sym) (r : List Int) : Array Value := if rowB ss r then shapeC ss r 0 else zeroC
def MeasPost (ss : List Sym) (r : List Int) (w : World) (e : Ending) (w' : World) : Prop :=
  e = .returned (.tuple #[.agg (measC ss r), .bool (rowB ss r)]) ∧ Below w.heap.size w w'
/-- The world where the places from k on are measured: the result's cell and the shape's in two new blocks. -/
structure StW (ss : List Sym) (r : List Int) (w : World) (k : Nat) (w' : World) : Prop where
  bel : Below w.heap.size w w'
  out : w'.heap[w.heap.size]? = some (.cells zeroC 91 (0, 0))
  sh : w'.heap[w.heap.size + 1]? = some (.cells (shapeC ss r k) 91 (0, 0))
section
variable (A A' : Option Addr) (n c m c' : Nat) (ss : List Sym) (r : List Int) (w : World)
def J0 (g : Nat) (a : Act) (w' : World) : Prop := ∃ (k : Nat) (u : Nat → Value),
  a = ({ tmps := #[.slice A n c, .slice A' m c', u 2, u 3, .pointer (some ⟨w.heap.size, 0, none⟩), u 5, .pointer (some ⟨w.heap.size + 1, 0, none⟩), u 7, u 8, u 9, u 10, .int .i64 (k : Int), u 12, u 13, u 14, u 15, u 16, u 17, u 18, u 19, u 20, u 21, u 22, u 23, u 24, u 25, u 26, u 27, u 28, u 29, u 30, u 31, u 32, u 33, u 34, u 35, u 36, u 37, u 38, u 39, u 40, u 41, u 42, u 43, u 44, u 45, u 46, u 47, u 48, u 49, u 50, u 51, u 52, u 53, u 54, u 55, u 56, u 57, u 58, u 59, u 60, u 61, u 62, u 63, u 64, u 65, u 66, u 67, u 68, u 69], defers := [] } : Act) ∧
  g = 10 * k ∧ k ≤ m ∧ (∃ ms, tl ss (r.drop k) = some ms) ∧ StW ss r w k w'
def J1 (g : Nat) (a : Act) (w' : World) : Prop := ∃ (k en dn : Nat) (u : Nat → Value),
  a = ({ tmps := #[.slice A n c, .slice A' m c', u 2, u 3, .pointer (some ⟨w.heap.size, 0, none⟩), u 5, .pointer (some ⟨w.heap.size + 1, 0, none⟩), .int .i64 (en : Int), .int .i64 (dn : Int), u 9, u 10, .int .i64 (k : Int), u 12, u 13, u 14, u 15, u 16, u 17, u 18, u 19, u 20, u 21, u 22, u 23, u 24, u 25, u 26, u 27, u 28, u 29, u 30, u 31, u 32, u 33, u 34, u 35, u 36, u 37, u 38, u 39, u 40, u 41, u 42, u 43, u 44, u 45, u 46, u 47, u 48, u 49, u 50, u 51, u 52, u 53, u 54, u 55, u 56, u 57, u 58, u 59, u 60, u 61, u 62, u 63, u 64, u 65, u 66, u 67, u 68, u 69], defers := [] } : Act) ∧
  g = 10 * k + 1 ∧ k < m ∧ dn ≤ m ∧ (∃ ms, tl ss (r.drop k) = some ms) ∧ en = endAt ss r k ∧ dn + 1 = depAt ss r k ∧ StW ss r w (k + 1) w'
/-- Of the terms behind the code at k, p are behind; so many are left. -/
def Left (k en dn left : Nat) : Prop := ∃ ms x p, tl ss (r.drop (k + 1)) = some ms ∧ r[k]? = some x ∧ arOf ss x = some (p + left) ∧ p ≤ ms.length ∧ en = k + 1 + sumL (ms.take p) ∧ dn = maxD (ms.take p)
def J2 (g : Nat) (a : Act) (w' : World) : Prop := ∃ (k en dn left : Nat) (u : Nat → Value),
  a = ({ tmps := #[.slice A n c, .slice A' m c', u 2, u 3, .pointer (some ⟨w.heap.size, 0, none⟩), u 5, .pointer (some ⟨w.heap.size + 1, 0, none⟩), .int .i64 (en : Int), .int .i64 (dn : Int), .int .i64 (left : Int), u 10, .int .i64 (k : Int), u 12, u 13, u 14, u 15, u 16, u 17, u 18, u 19, u 20, u 21, u 22, u 23, u 24, u 25, u 26, u 27, u 28, u 29, u 30, u 31, u 32, u 33, u 34, u 35, u 36, u 37, u 38, u 39, u 40, u 41, u 42, u 43, u 44, u 45, u 46, u 47, u 48, u 49, u 50, u 51, u 52, u 53, u 54, u 55, u 56, u 57, u 58, u 59, u 60, u 61, u 62, u 63, u 64, u 65, u 66, u 67, u 68, u 69], defers := [] } : Act) ∧
  g = 10 * k + left + 2 ∧ k < m ∧ left ≤ 3 ∧ Left ss r k en dn left ∧ StW ss r w (k + 1) w'
variable {A A' n c m c' ss r w}
variable {g : Nat} {a : Act} {w' : World} (k : Nat)
theorem J0.mk (ha : a = ({ tmps := #[.slice A n c, .slice A' m c', a.tmps.getD 2 undef, a.tmps.getD 3 undef, .pointer (some ⟨w.heap.size, 0, none⟩), a.tmps.getD 5 undef, .pointer (some ⟨w.heap.size + 1, 0, none⟩), a.tmps.getD 7 undef, a.tmps.getD 8 undef, a.tmps.getD 9 undef, a.tmps.getD 10 undef, .int .i64 (k : Int), a.tmps.getD 12 undef, a.tmps.getD 13 undef, a.tmps.getD 14 undef, a.tmps.getD 15 undef, a.tmps.getD 16 undef, a.tmps.getD 17 undef, a.tmps.getD 18 undef, a.tmps.getD 19 undef, a.tmps.getD 20 undef, a.tmps.getD 21 undef, a.tmps.getD 22 undef, a.tmps.getD 23 undef, a.tmps.getD 24 undef, a.tmps.getD 25 undef, a.tmps.getD 26 undef, a.tmps.getD 27 undef, a.tmps.getD 28 undef, a.tmps.getD 29 undef, a.tmps.getD 30 undef, a.tmps.getD 31 undef, a.tmps.getD 32 undef, a.tmps.getD 33 undef, a.tmps.getD 34 undef, a.tmps.getD 35 undef, a.tmps.getD 36 undef, a.tmps.getD 37 undef, a.tmps.getD 38 undef, a.tmps.getD 39 undef, a.tmps.getD 40 undef, a.tmps.getD 41 undef, a.tmps.getD 42 undef, a.tmps.getD 43 undef, a.tmps.getD 44 undef, a.tmps.getD 45 undef, a.tmps.getD 46 undef, a.tmps.getD 47 undef, a.tmps.getD 48 undef, a.tmps.getD 49 undef, a.tmps.getD 50 undef, a.tmps.getD 51 undef, a.tmps.getD 52 undef, a.tmps.getD 53 undef, a.tmps.getD 54 undef, a.tmps.getD 55 undef, a.tmps.getD 56 undef, a.tmps.getD 57 undef, a.tmps.getD 58 undef, a.tmps.getD 59 undef, a.tmps.getD 60 undef, a.tmps.getD 61 undef, a.tmps.getD 62 undef, a.tmps.getD 63 undef, a.tmps.getD 64 undef, a.tmps.getD 65 undef, a.tmps.getD 66 undef, a.tmps.getD 67 undef, a.tmps.getD 68 undef, a.tmps.getD 69 undef], defers := [] } : Act)) (hg : g = 10 * k) (hk : k ≤ m) (ht : ∃ ms, tl ss (r.drop k) = some ms) (hs : StW ss r w k w') : J0 A A' n c m c' ss r w g a w' :=
  ⟨k, fun i => a.tmps.getD i undef, ha, hg, hk, ht, hs⟩
theorem J1.mk (en dn : Nat) (ha : a = ({ tmps := #[.slice A n c, .slice A' m c', a.tmps.getD 2 undef, a.tmps.getD 3 undef, .pointer (some ⟨w.heap.size, 0, none⟩), a.tmps.getD 5 undef, .pointer (some ⟨w.heap.size + 1, 0, none⟩), .int .i64 (en : Int), .int .i64 (dn : Int), a.tmps.getD 9 undef, a.tmps.getD 10 undef, .int .i64 (k : Int), a.tmps.getD 12 undef, a.tmps.getD 13 undef, a.tmps.getD 14 undef, a.tmps.getD 15 undef, a.tmps.getD 16 undef, a.tmps.getD 17 undef, a.tmps.getD 18 undef, a.tmps.getD 19 undef, a.tmps.getD 20 undef, a.tmps.getD 21 undef, a.tmps.getD 22 undef, a.tmps.getD 23 undef, a.tmps.getD 24 undef, a.tmps.getD 25 undef, a.tmps.getD 26 undef, a.tmps.getD 27 undef, a.tmps.getD 28 undef, a.tmps.getD 29 undef, a.tmps.getD 30 undef, a.tmps.getD 31 undef, a.tmps.getD 32 undef, a.tmps.getD 33 undef, a.tmps.getD 34 undef, a.tmps.getD 35 undef, a.tmps.getD 36 undef, a.tmps.getD 37 undef, a.tmps.getD 38 undef, a.tmps.getD 39 undef, a.tmps.getD 40 undef, a.tmps.getD 41 undef, a.tmps.getD 42 undef, a.tmps.getD 43 undef, a.tmps.getD 44 undef, a.tmps.getD 45 undef, a.tmps.getD 46 undef, a.tmps.getD 47 undef, a.tmps.getD 48 undef, a.tmps.getD 49 undef, a.tmps.getD 50 undef, a.tmps.getD 51 undef, a.tmps.getD 52 undef, a.tmps.getD 53 undef, a.tmps.getD 54 undef, a.tmps.getD 55 undef, a.tmps.getD 56 undef, a.tmps.getD 57 undef, a.tmps.getD 58 undef, a.tmps.getD 59 undef, a.tmps.getD 60 undef, a.tmps.getD 61 undef, a.tmps.getD 62 undef, a.tmps.getD 63 undef, a.tmps.getD 64 undef, a.tmps.getD 65 undef, a.tmps.getD 66 undef, a.tmps.getD 67 undef, a.tmps.getD 68 undef, a.tmps.getD 69 undef], defers := [] } : Act)) (hg : g = 10 * k + 1) (hk : k < m) (hd : dn ≤ m) (ht : ∃ ms, tl ss (r.drop k) = some ms) (he : en = endAt ss r k) (hdn : dn + 1 = depAt ss r k) (hs : StW ss r w (k + 1) w') : J1 A A' n c m c' ss r w g a w' :=
  ⟨k, en, dn, fun i => a.tmps.getD i undef, ha, hg, hk, hd, ht, he, hdn, hs⟩
theorem J2.mk (en dn left : Nat) (ha : a = ({ tmps := #[.slice A n c, .slice A' m c', a.tmps.getD 2 undef, a.tmps.getD 3 undef, .pointer (some ⟨w.heap.size, 0, none⟩), a.tmps.getD 5 undef, .pointer (some ⟨w.heap.size + 1, 0, none⟩), .int .i64 (en : Int), .int .i64 (dn : Int), .int .i64 (left : Int), a.tmps.getD 10 undef, .int .i64 (k : Int), a.tmps.getD 12 undef, a.tmps.getD 13 undef, a.tmps.getD 14 undef, a.tmps.getD 15 undef, a.tmps.getD 16 undef, a.tmps.getD 17 undef, a.tmps.getD 18 undef, a.tmps.getD 19 undef, a.tmps.getD 20 undef, a.tmps.getD 21 undef, a.tmps.getD 22 undef, a.tmps.getD 23 undef, a.tmps.getD 24 undef, a.tmps.getD 25 undef, a.tmps.getD 26 undef, a.tmps.getD 27 undef, a.tmps.getD 28 undef, a.tmps.getD 29 undef, a.tmps.getD 30 undef, a.tmps.getD 31 undef, a.tmps.getD 32 undef, a.tmps.getD 33 undef, a.tmps.getD 34 undef, a.tmps.getD 35 undef, a.tmps.getD 36 undef, a.tmps.getD 37 undef, a.tmps.getD 38 undef, a.tmps.getD 39 undef, a.tmps.getD 40 undef, a.tmps.getD 41 undef, a.tmps.getD 42 undef, a.tmps.getD 43 undef, a.tmps.getD 44 undef, a.tmps.getD 45 undef, a.tmps.getD 46 undef, a.tmps.getD 47 undef, a.tmps.getD 48 undef, a.tmps.getD 49 undef, a.tmps.getD 50 undef, a.tmps.getD 51 undef, a.tmps.getD 52 undef, a.tmps.getD 53 undef, a.tmps.getD 54 undef, a.tmps.getD 55 undef, a.tmps.getD 56 undef, a.tmps.getD 57 undef, a.tmps.getD 58 undef, a.tmps.getD 59 undef, a.tmps.getD 60 undef, a.tmps.getD 61 undef, a.tmps.getD 62 undef, a.tmps.getD 63 undef, a.tmps.getD 64 undef, a.tmps.getD 65 undef, a.tmps.getD 66 undef, a.tmps.getD 67 undef, a.tmps.getD 68 undef, a.tmps.getD 69 undef], defers := [] } : Act)) (hg : g = 10 * k + left + 2) (hk : k < m) (hl : left ≤ 3) (ht : Left ss r k en dn left) (hs : StW ss r w (k + 1) w') : J2 A A' n c m c' ss r w g a w' :=
  ⟨k, en, dn, left, fun i => a.tmps.getD i undef, ha, hg, hk, hl, ht, hs⟩
end
section
variable {ss : List Sym} {r : List Int} {w w' : World} {k : Nat}
theorem StW.cell (h : StW ss r w k w') (j : Nat) : w'.cell? ⟨w.heap.size + 1, j, none⟩ = (shapeC ss r k)[j]? := cell_of_row _ _ _ _ _ _ h.sh
theorem StW.frozen (h : StW ss r w k w') (j : Nat) : w'.frozen? ⟨w.heap.size + 1, j, none⟩ = false := frozen_of_row _ _ _ _ _ h.sh
theorem StW.step (h : StW ss r w (k + 1) w') {x y : Int} (hk : k < r.length) (h48 : r.length ≤ 48) (hx : x = endAt ss r k) (hy : y = depAt ss r k) :
    StW ss r w k ((w'.setCell ⟨w.heap.size + 1, k, none⟩ (.int .i64 x)).setCell ⟨w.heap.size + 1, 48 + k, none⟩ (.int .i64 y)) := by
  refine ⟨(h.bel.setCell (by simp) _).setCell (by simp) _, ?_, ?_⟩
  · rw [heap_setCell_other _ _ _ _ (by simp), heap_setCell_other _ _ _ _ (by simp)]; exact h.out
  · have := heap_setCell_same _ _ (48 + k) _ _ (.int .i64 y) (heap_setCell_same _ _ k _ _ (.int .i64 x) h.sh)
    rw [shapeC_step hk h48 hx hy] at this
    exact this
theorem Left.done {en dn : Nat} (h : Left ss r k en dn 0) (hk : k < r.length) : (∃ ms, tl ss (r.drop k) = some ms) ∧ en = endAt ss r k ∧ dn + 1 = depAt ss r k ∧ dn ≤ r.length := by
  obtain ⟨ms, x, p, h1, h2, h3, h4, h5, h6⟩ := h
  rw [Nat.add_zero] at h3
  obtain ⟨e1, e2, e3⟩ := hd_cons h1 hk h2 h3 h4
  refine ⟨⟨_, e1⟩, by rw [h5, e2], by rw [h6, e3], ?_⟩
  have := tl_deep _ h1
  have t := maxD_take_le ms p
  simp at this
  omega
theorem Left.le {en dn left : Nat} (h : Left ss r k en dn left) (hk : k < r.length) : k + 1 ≤ en ∧ en ≤ r.length ∧ dn ≤ r.length := by
  obtain ⟨ms, x, p, h1, h2, h3, h4, h5, h6⟩ := h
  have := (tl_at (k + 1) p h1 (by omega) h4).1
  have d := tl_deep _ h1
  have t := maxD_take_le ms p
  simp at d
  omega
theorem Left.cut {dn left : Nat} (h : Left ss r k r.length dn left) (hk : k < r.length) (hl : 0 < left) : tl ss r = none := by
  obtain ⟨ms, x, p, h1, h2, h3, h4, h5, h6⟩ := h
  have := (tl_at (k + 1) p h1 (by omega) h4).2.1.1 (by omega)
  exact tl_at_few h1 hk h2 h3 (by omega)
theorem Left.next {en dn left : Nat} (h : Left ss r k en dn (left + 1)) (hk : k < r.length) (he : en < r.length) : Left ss r k (endAt ss r en) (max dn (depAt ss r en)) left := by
  obtain ⟨ms, x, p, h1, h2, h3, h4, h5, h6⟩ := h
  obtain ⟨t1, t2, t3⟩ := tl_at (k + 1) p h1 (by omega) h4
  have hp : p < ms.length := by
    rcases Nat.lt_or_ge p ms.length with h | h
    · exact h
    · have := t2.2 (by omega); omega
  obtain ⟨_, e1, e2⟩ := t3 hp
  refine ⟨ms, x, p + 1, h1, h2, ?_, hp, ?_, ?_⟩
  · rw [h3]; congr 1; omega
  · rw [h5, e1]
  · rw [h5, h6, e2]
theorem Left.start {ms : List (Nat × Nat)} {x : Int} {a : Nat} (h1 : tl ss (r.drop (k + 1)) = some ms) (h2 : r[k]? = some x) (h3 : arOf ss x = some a) : Left ss r k (k + 1) 0 a :=
  ⟨ms, x, 0, h1, h2, by rw [h3, Nat.zero_add], Nat.zero_le _, by simp [sumL], by simp [maxD]⟩
theorem row_false (h : tl ss r = none) : rowB ss r = false := by unfold rowB rowP; rw [h]; simp
theorem row_true {ms : List (Nat × Nat)} (hm : mayB ss = true) (h48 : r.length ≤ 48) (h : tl ss r = some ms) : rowB ss r = true := by unfold rowB rowP; rw [h, hm]; simp [h48]
theorem MeasPost.no {e : Ending} (h : rowB ss r = false) (he : e = .returned (.tuple #[.agg zeroC, .bool false])) (hb : Below w.heap.size w w') : MeasPost ss r w e w' := by
  unfold MeasPost measC; rw [h]; exact ⟨he, hb⟩
theorem MeasPost.yes {e : Ending} (h : rowB ss r = true) (he : e = .returned (.tuple #[.agg (shapeC ss r 0), .bool true])) (hb : Below w.heap.size w w') : MeasPost ss r w e w' := by
  unfold MeasPost measC; rw [h]; exact ⟨he, hb⟩
end
end Go.Proofs.Ytlmpapdpmmkjnaa
