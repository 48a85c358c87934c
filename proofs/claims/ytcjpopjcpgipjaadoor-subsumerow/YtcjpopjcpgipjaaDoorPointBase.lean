/-
  Contracts: point.isNear, point.May, number, conjugate, pointOf, ifNear; PointMay and point of quaereref8.
-/
import Derived.Test.YtcjpopjcpgipjaaDoorPlainFloat
import Derived.Test.YtcjpopjcpgipjaaDoorMemBox
import Derived.Test.YtcjpopjcpgipjaaDoorBaseMore
import Derived.Deep.DeepCutAuto
import Derived.Laws.ComplexArith
namespace Go.Proofs.YtcjpopjcpgipjaaDoor
open Go.RowKit Go.Deep
set_option linter.unusedSimpArgs false
set_option linter.unusedVariables false
set_option maxRecDepth 100000

/-- May an integer be a part of a point? -/
def nearB (a : Int) : Bool := decide (-1000000 ≤ a) && decide (a ≤ 1000000)
def okP (a b : Int) : Bool := nearB a && nearB b
theorem nearB_iff {a : Int} : nearB a = true ↔ -1000000 ≤ a ∧ a ≤ 1000000 := by unfold nearB; simp
theorem okP_iff {a b : Int} : okP a b = true ↔ (-1000000 ≤ a ∧ a ≤ 1000000) ∧ (-1000000 ≤ b ∧ b ≤ 1000000) := by unfold okP; rw [Bool.and_eq_true, nearB_iff, nearB_iff]
/-- A point and an error. -/
def PPost (x y E : Int) (w : World) (e : Ending) (w' : World) : Prop := e = .returned (.tuple #[.agg #[.int .i64 x, .int .i64 y], .int .i64 E]) ∧ Below w.heap.size w w'
/-- What is told of a point that was reckoned out. -/
def farE (x y : Int) : Int := if okP x y then 0 else 901
def farX (x y : Int) : Int := if okP x y then x else 0
def farY (x y : Int) : Int := if okP x y then y else 0
theorem far_yes {x y : Int} (h : okP x y = true) : farX x y = x ∧ farY x y = y ∧ farE x y = 0 := by unfold farX farY farE; rw [h]; exact ⟨rfl, rfl, rfl⟩
theorem far_no {x y : Int} (h : okP x y = false) : farX x y = 0 ∧ farY x y = 0 ∧ farE x y = 901 := by unfold farX farY farE; rw [h]; exact ⟨rfl, rfl, rfl⟩

theorem isNear_is (a : Int) (r : Bool) (w : World) (h : nearB a = r) : Calls Tryd.prog 75 #[.int .i64 a] w fun e w' => e = .returned (.bool r) ∧ w = w' := by
  have H := Lib.hid h
  by_cases h1 : -1000000 ≤ a
  · by_cases h2 : a ≤ 1000000
    · have HR : Hid (true = r) := by have := H.out; unfold nearB at this; rw [decide_eq_true h1, decide_eq_true h2] at this; exact this
      clear h
      go_enter Tryd.func75, Tryd.ntmps75
      go_wp2
      go_ret
      exact ⟨ret_bool HR.out, rfl⟩
    · have HR : Hid (false = r) := by have := H.out; unfold nearB at this; rw [decide_eq_true h1, decide_eq_false h2] at this; exact this
      clear h
      go_enter Tryd.func75, Tryd.ntmps75
      go_wp2
      go_ret
      exact ⟨ret_bool HR.out, rfl⟩
  · have HR : Hid (false = r) := by have := H.out; unfold nearB at this; rw [decide_eq_false h1] at this; exact this
    clear h
    go_enter Tryd.func75, Tryd.ntmps75
    go_wp2
    go_ret
    exact ⟨ret_bool HR.out, rfl⟩
set_option maxHeartbeats 4000000 in
theorem pMay_is (a b : Int) (r : Bool) (w : World) (h : okP a b = r) :
    Calls Tryd.prog 48 #[.agg #[.int .i64 a, .int .i64 b]] w fun e w' => e = .returned (.bool r) ∧ Below w.heap.size w w' := by
  have hb0 := below_new w (.cells #[.int .i64 a, .int .i64 b] 56)
  have HB0 := Lib.hid hb0
  have HR := Lib.hid h
  clear hb0 h
  cases ha : nearB a
  · have H : Hid (false = r) := by have := HR.out; unfold okP at this; rw [ha] at this; exact this
    go_enter Tryd.func48, Tryd.ntmps48
    go_wp2_with (go_at_call 75; refine (isNear_is a false _ ha).mono ?_; rintro e w' ⟨rfl, rfl⟩)
    go_ret
    exact ⟨ret_bool H.out, HB0.out⟩
  · cases hb : nearB b
    · have H : Hid (false = r) := by have := HR.out; unfold okP at this; rw [ha, hb] at this; exact this
      go_enter Tryd.func48, Tryd.ntmps48
      go_wp2_with (go_at_call 75; first | (refine (isNear_is a true _ ha).mono ?_; rintro e w' ⟨rfl, rfl⟩) | (refine (isNear_is b false _ hb).mono ?_; rintro e w' ⟨rfl, rfl⟩))
      go_ret
      exact ⟨ret_bool H.out, HB0.out⟩
    · have H : Hid (true = r) := by have := HR.out; unfold okP at this; rw [ha, hb] at this; exact this
      go_enter Tryd.func48, Tryd.ntmps48
      go_wp2_with (go_at_call 75; first | (refine (isNear_is a true _ ha).mono ?_; rintro e w' ⟨rfl, rfl⟩) | (refine (isNear_is b true _ hb).mono ?_; rintro e w' ⟨rfl, rfl⟩))
      go_ret
      exact ⟨ret_bool H.out, HB0.out⟩
theorem number_any (a b : Int) (w : World) :
    Calls Tryd.prog 49 #[.agg #[.int .i64 a, .int .i64 b]] w fun e w' => e = .returned (.complex .f64 (floatOfInt .f64 a) (floatOfInt .f64 b)) ∧ Below w.heap.size w w' := by
  have hb0 := below_new w (.cells #[.int .i64 a, .int .i64 b] 56)
  have HB0 := Lib.hid hb0
  clear hb0
  go_enter Tryd.func49, Tryd.ntmps49
  go_wp2
  go_ret
  exact ⟨rfl, HB0.out⟩
theorem run_neg_float (k : FloatKind) (b : Nat) (w : World) : (Op.unary .neg (.float k b)).run Tryd.prog w = .ok (.float k (Op.negFloat k b)) w := rfl
/-- A box of a point. -/
structure PBox (w : World) (g : Nat) (a b : Int) : Prop where
  lt : g < w.heap.size
  z : w.heap[g]? = some (.cells #[.int .i64 a, .int .i64 b] 56 (0, 0))
section
variable {w w' : World} {g : Nat} {a b : Int}
theorem PBox.on (h : PBox w g a b) (hb : Below w.heap.size w w') : PBox w' g a b := ⟨by have := h.lt; have := hb.size; omega, by rw [hb.block g h.lt]; exact h.z⟩
theorem PBox.new (w : World) (a b : Int) : PBox (w.alloc (.cells #[.int .i64 a, .int .i64 b] 56)) w.heap.size a b := ⟨by simp, heap_alloc_new w _⟩
theorem PBox.chg {es : List TypeId} {k : Nat} (h : PBox w g a b) (hc : Chg es k w w') (hk : g < k) : PBox w' g a b := ⟨by have := h.lt; have := hc.bel.size; omega, by rw [hc.bel.block g hk]; exact h.z⟩
theorem PBox.of (h : w.heap[g]? = some (.cells #[.int .i64 a, .int .i64 b] 56 (0, 0))) : PBox w g a b := ⟨(Array.getElem?_eq_some_iff.1 h).1, h⟩
theorem PBox.c0 (h : PBox w g a b) : w.cell? ⟨g, 0, none⟩ = some (.int .i64 a) := by rw [cell_of_row _ _ 0 _ _ _ h.z]; rfl
theorem PBox.c1 (h : PBox w g a b) : w.cell? ⟨g, 1, none⟩ = some (.int .i64 b) := by rw [cell_of_row _ _ 1 _ _ _ h.z]; rfl
end
theorem pt_one (a b : Int) : (#[.int .i64 a, .int .i64 b] : Array Value).all (·.oneCell') = true := by simp [Value.oneCell']
/-- A point and an error returned, a point returned. -/
theorem point_ret {fn : Func} {p u : Tmp} (h : fn.results = #[.cell p 56, .tmp u]) {R : Ending → World → Prop} {a : Act} {w : World} {g : Nat} {x : Value} {c d : Int} (h4 : a.tmps.getD p undef = .pointer (some ⟨g, 0, none⟩)) (h5 : a.tmps.getD u undef = x) (hd : a.defers = [])
    (hg : w.heap[g]? = some (.cells #[.int .i64 c, .int .i64 d] 56 (0, 0))) (hR : R (.returned (.tuple #[.agg #[.int .i64 c, .int .i64 d], x])) w) : bodyPost Tryd.prog fn R .ret a w := by
  refine bodyPost_ret (v := .tuple #[.agg #[.int .i64 c, .int .i64 d], x]) ?_ hd hR
  rw [results_cell_tmp h, h4, h5]
  have := run_loadVar_row (P := Tryd.prog) w g 56 56 #[.int .i64 c, .int .i64 d] (0, 0) _ hg Tryd.underlying56 rfl (by kernel_rfl)
  simp [asAddr, Result.andThen, this]
theorem f_int {x : Nat} {a : Int} (h : FI x a) (hb : -4000000000000 ≤ a ∧ a ≤ 4000000000000) (w : World) : (convert 93 3 (.float .f64 x)).run Tryd.prog w = .ok (.int .i64 a) w :=
  run_convert_float_int w _ _ _ _ _ _ (by rw [Tryd.underlying93]; rfl) Tryd.underlying3 (h.toInt (by have : IntKind.i64.min = -9223372036854775808 := rfl; omega) (by have : IntKind.i64.max = 9223372036854775807 := rfl; omega))
def POne (x y : Int) (w : World) (e : Ending) (w' : World) : Prop := e = .returned (.agg #[.int .i64 x, .int .i64 y]) ∧ Below w.heap.size w w'
end Go.Proofs.YtcjpopjcpgipjaaDoor
