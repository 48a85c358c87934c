/-
  Contracts: point.Add, point.Mul.
-/
import Derived.Test.YtcjpopjcpgipjaaDoorPointNear
namespace Go.Proofs.YtcjpopjcpgipjaaDoor
open Go.RowKit Go.Deep
set_option linter.unusedSimpArgs false
set_option linter.unusedVariables false
set_option maxRecDepth 100000

def two (g : Bool) (x y : Int) : Int := if g then x else y
theorem mul_bd {a c : Int} (h1 : -1000000 ≤ a ∧ a ≤ 1000000) (h2 : -1000000 ≤ c ∧ c ≤ 1000000) : -1000000000000 ≤ a * c ∧ a * c ≤ 1000000000000 := by
  have e : (a * c).natAbs = a.natAbs * c.natAbs := Int.natAbs_mul a c
  have : a.natAbs * c.natAbs ≤ 1000000 * 1000000 := Nat.mul_le_mul (by omega) (by omega)
  obtain ⟨z, hz⟩ : ∃ z, z = a * c := ⟨_, rfl⟩
  rw [← hz] at e ⊢
  omega
theorem FI.cast {x : Nat} {a b : Int} (h : FI x a) (e : a = b) : FI x b := e ▸ h
theorem c_add {x1 y1 x2 y2 : Nat} {a b c d : Int} (h1 : FI x1 a) (h2 : FI y1 b) (h3 : FI x2 c) (h4 : FI y2 d) (k1 : (a + c).natAbs < 9007199254740992) (k2 : (b + d).natAbs < 9007199254740992) :
    ∃ re im, FI re (a + c) ∧ FI im (b + d) ∧ ∀ w, (binOp .add 91 (.complex .f64 x1 y1) (.complex .f64 x2 y2)).run Tryd.prog w = .ok (.complex .f64 re im) w := by
  obtain ⟨re, e1, f1⟩ := h1.add h3 k1
  obtain ⟨im, e2, f2⟩ := h2.add h4 k2
  exact ⟨re, im, f1, f2, fun w => run_complex_sum w .add (.inl rfl) _ _ _ _ _ _ _ _ (by unfold cSumBits; rw [e1, e2]; rfl)⟩
theorem c_sub {x1 y1 x2 y2 : Nat} {a b c d : Int} (h1 : FI x1 a) (h2 : FI y1 b) (h3 : FI x2 c) (h4 : FI y2 d) (k1 : (a - c).natAbs < 9007199254740992) (k2 : (b - d).natAbs < 9007199254740992) :
    ∃ re im, FI re (a - c) ∧ FI im (b - d) ∧ ∀ w, (binOp .sub 91 (.complex .f64 x1 y1) (.complex .f64 x2 y2)).run Tryd.prog w = .ok (.complex .f64 re im) w := by
  obtain ⟨re, e1, f1⟩ := h1.sub h3 k1
  obtain ⟨im, e2, f2⟩ := h2.sub h4 k2
  exact ⟨re, im, f1, f2, fun w => run_complex_sum w .sub (.inr rfl) _ _ _ _ _ _ _ _ (by unfold cSumBits; rw [e1, e2]; rfl)⟩
theorem c_mul {x1 y1 x2 y2 : Nat} {a b c d : Int} (h1 : FI x1 a) (h2 : FI y1 b) (h3 : FI x2 c) (h4 : FI y2 d)
    (k1 : -1000000 ≤ a ∧ a ≤ 1000000) (k2 : -1000000 ≤ b ∧ b ≤ 1000000) (k3 : -1000000 ≤ c ∧ c ≤ 1000000) (k4 : -1000000 ≤ d ∧ d ≤ 1000000) :
    ∃ re im, FI re (a * c - b * d) ∧ FI im (a * d + b * c) ∧ ∀ w, (binOp .mul 91 (.complex .f64 x1 y1) (.complex .f64 x2 y2)).run Tryd.prog w = .ok (.complex .f64 re im) w := by
  have m1 := mul_bd k1 k3
  have m2 := mul_bd k2 k4
  have m3 := mul_bd k1 k4
  have m4 := mul_bd k2 k3
  obtain ⟨p1, e1, f1⟩ := h1.mul h3 (by omega)
  obtain ⟨p2, e2, f2⟩ := h2.mul h4 (by omega)
  obtain ⟨p3, e3, f3⟩ := h1.mul h4 (by omega)
  obtain ⟨p4, e4, f4⟩ := h2.mul h3 (by omega)
  obtain ⟨re, e5, f5⟩ := f1.sub f2 (by omega)
  obtain ⟨im, e6, f6⟩ := f3.add f4 (by omega)
  exact ⟨re, im, f5, f6, fun w => run_complex_mul w _ _ _ _ _ _ _ (by unfold cMulBits; simp only [e1, e2, e3, e4, e5, e6, Option.bind_some])⟩
theorem ok_parts {a b : Int} (h : okP a b = true) : (-1000000 ≤ a ∧ a ≤ 1000000) ∧ (-1000000 ≤ b ∧ b ≤ 1000000) := okP_iff.1 h
theorem FI.near {a : Int} (h : -1000000 ≤ a ∧ a ≤ 1000000) : FI (floatOfInt .f64 a) a := FI.int a (by omega)

theorem three_pts (w : World) (a b c d : Int) : ∃ w0, w0 = ((w.alloc (.cells #[.int .i64 a, .int .i64 b] 56)).alloc (.cells #[.int .i64 c, .int .i64 d] 56)).alloc (.cells #[.int .i64 0, .int .i64 0] 56) ∧
    Below w.heap.size w w0 ∧ PBox w0 w.heap.size a b ∧ PBox w0 (w.heap.size + 1) c d ∧ PBox w0 (w.heap.size + 1 + 1) 0 0 := by
  obtain ⟨u, hu⟩ : ∃ u, u = w.alloc (.cells #[.int .i64 a, .int .i64 b] 56) := ⟨_, rfl⟩
  obtain ⟨v, hv⟩ : ∃ v, v = u.alloc (.cells #[.int .i64 c, .int .i64 d] 56) := ⟨_, rfl⟩
  have h1 := PBox.new w a b
  have h2 := PBox.new u c d
  have h3 := PBox.new v 0 0
  have b1 := below_new w (.cells #[.int .i64 a, .int .i64 b] 56)
  have b2 := below_new u (.cells #[.int .i64 c, .int .i64 d] 56)
  have b3 := below_new v (.cells #[.int .i64 0, .int .i64 0] 56)
  rw [← hu] at h1 b1
  rw [← hv] at h2 b2
  have s1 : u.heap.size = w.heap.size + 1 := by rw [hu]; simp
  have s2 : v.heap.size = w.heap.size + 1 + 1 := by rw [hv]; simp; omega
  refine ⟨_, rfl, ?_, ?_, ?_, ?_⟩
  · rw [← hu, ← hv]; exact (b1.trans (b2.mono (by omega))).trans (b3.mono (by omega))
  · rw [← hu, ← hv]; exact (h1.on b2).on b3
  · rw [← hu, ← hv, ← s1]; exact h2.on b3
  · rw [← hu, ← hv, ← s2]; exact h3
theorem two_pts (w : World) (a b c d : Int) : ∃ w0, w0 = ((w.alloc (.cells #[.int .i64 a, .int .i64 b] 56)).alloc (.cells #[.int .i64 c, .int .i64 d] 56)) ∧
    Below w.heap.size w w0 ∧ PBox w0 w.heap.size a b ∧ PBox w0 (w.heap.size + 1) c d := by
  obtain ⟨u, hu⟩ : ∃ u, u = w.alloc (.cells #[.int .i64 a, .int .i64 b] 56) := ⟨_, rfl⟩
  have h1 := PBox.new w a b
  have h2 := PBox.new u c d
  have b1 := below_new w (.cells #[.int .i64 a, .int .i64 b] 56)
  have b2 := below_new u (.cells #[.int .i64 c, .int .i64 d] 56)
  rw [← hu] at h1 b1
  have s1 : u.heap.size = w.heap.size + 1 := by rw [hu]; simp
  refine ⟨_, rfl, ?_, ?_, ?_⟩
  · rw [← hu]; exact b1.trans (b2.mono (by omega))
  · rw [← hu]; exact h1.on b2
  · rw [← hu, ← s1]; exact h2
end Go.Proofs.YtcjpopjcpgipjaaDoor
