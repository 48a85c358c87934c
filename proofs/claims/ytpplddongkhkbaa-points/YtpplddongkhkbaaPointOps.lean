/-
  Contracts: point.Add, point.Mul.
-/
import Derived.Test.YtpplddongkhkbaaPointNear
namespace Go.Proofs.Ytpplddongkhkbaa
open Go.RowKit Go.Deep
set_option linter.unusedSimpArgs false
set_option linter.unusedVariables false
set_option maxRecDepth 100000

def two (g : Bool) (x y : Int) : Int := if g then x else y
theorem mul_bd {a c : Int} (h1 : -1000000 ≤ a ∧ a ≤ 1000000) (h2 : -1000000 ≤ c ∧ c ≤ 1000000) : -1000000000000 ≤ a * c ∧ a * c ≤ 1000000000000 := by
  have e : (a * c).natAbs = a.natAbs * c.natAbs := Int.natAbs_mul a c
  have : a.natAbs * c.natAbs ≤ 1000000 * 1000000 := Nat.mul_le_mul (by omega) (by omega)
  obtain ⟨z, hz⟩ : ∃ z, z = a * c := ⟨_, rfl⟩
  rw [← hz] at e ⊢
  omega
theorem FI.cast {x : Nat} {a b : Int} (h : FI x a) (e : a = b) : FI x b := e ▸ h
theorem c_add {x1 y1 x2 y2 : Nat} {a b c d : Int} (h1 : FI x1 a) (h2 : FI y1 b) (h3 : FI x2 c) (h4 : FI y2 d) (k1 : (a + c).natAbs < 9007199254740992) (k2 : (b + d).natAbs < 9007199254740992) :
    ∃ re im, FI re (a + c) ∧ FI im (b + d) ∧ ∀ w, (binOp .add 61 (.complex .f64 x1 y1) (.complex .f64 x2 y2)).run Try.prog w = .ok (.complex .f64 re im) w := by
  obtain ⟨re, e1, f1⟩ := h1.add h3 k1
  obtain ⟨im, e2, f2⟩ := h2.add h4 k2
  exact ⟨re, im, f1, f2, fun w => run_complex_sum w .add (.inl rfl) _ _ _ _ _ _ _ _ (by unfold cSumBits; rw [e1, e2]; rfl)⟩
theorem c_sub {x1 y1 x2 y2 : Nat} {a b c d : Int} (h1 : FI x1 a) (h2 : FI y1 b) (h3 : FI x2 c) (h4 : FI y2 d) (k1 : (a - c).natAbs < 9007199254740992) (k2 : (b - d).natAbs < 9007199254740992) :
    ∃ re im, FI re (a - c) ∧ FI im (b - d) ∧ ∀ w, (binOp .sub 61 (.complex .f64 x1 y1) (.complex .f64 x2 y2)).run Try.prog w = .ok (.complex .f64 re im) w := by
  obtain ⟨re, e1, f1⟩ := h1.sub h3 k1
  obtain ⟨im, e2, f2⟩ := h2.sub h4 k2
  exact ⟨re, im, f1, f2, fun w => run_complex_sum w .sub (.inr rfl) _ _ _ _ _ _ _ _ (by unfold cSumBits; rw [e1, e2]; rfl)⟩
theorem c_mul {x1 y1 x2 y2 : Nat} {a b c d : Int} (h1 : FI x1 a) (h2 : FI y1 b) (h3 : FI x2 c) (h4 : FI y2 d)
    (k1 : -1000000 ≤ a ∧ a ≤ 1000000) (k2 : -1000000 ≤ b ∧ b ≤ 1000000) (k3 : -1000000 ≤ c ∧ c ≤ 1000000) (k4 : -1000000 ≤ d ∧ d ≤ 1000000) :
    ∃ re im, FI re (a * c - b * d) ∧ FI im (a * d + b * c) ∧ ∀ w, (binOp .mul 61 (.complex .f64 x1 y1) (.complex .f64 x2 y2)).run Try.prog w = .ok (.complex .f64 re im) w := by
  have m1 := mul_bd k1 k3
  have m2 := mul_bd k2 k4
  have m3 := mul_bd k1 k4
  have m4 := mul_bd k2 k3
  obtain ⟨p1, e1, f1⟩ := h1.mul h3 (by omega)
  obtain ⟨p2, e2, f2⟩ := h2.mul h4 (by omega)
  obtain ⟨p3, e3, f3⟩ := h1.mul h4 (by omega)
  obtain ⟨p4, e4, f4⟩ := h2.mul h3 (by omega)
  obtain ⟨re, e5, f5⟩ := f1.sub f2 (by omega)
  obtain ⟨im, e6, f6⟩ := f3.add f4 (by omega)
  exact ⟨re, im, f5, f6, fun w => run_complex_mul w _ _ _ _ _ _ _ (by unfold cMulBits; simp only [e1, e2, e3, e4, e5, e6, Option.bind_some])⟩
theorem ok_parts {a b : Int} (h : okP a b = true) : (-1000000 ≤ a ∧ a ≤ 1000000) ∧ (-1000000 ≤ b ∧ b ≤ 1000000) := okP_iff.1 h
theorem FI.near {a : Int} (h : -1000000 ≤ a ∧ a ≤ 1000000) : FI (floatOfInt .f64 a) a := FI.int a (by omega)

theorem three_pts (w : World) (a b c d : Int) : ∃ w0, w0 = ((w.alloc (.cells #[.int .i64 a, .int .i64 b] 23)).alloc (.cells #[.int .i64 c, .int .i64 d] 23)).alloc (.cells #[.int .i64 0, .int .i64 0] 23) ∧
    Below w.heap.size w w0 ∧ PBox w0 w.heap.size a b ∧ PBox w0 (w.heap.size + 1) c d ∧ PBox w0 (w.heap.size + 1 + 1) 0 0 := by
  obtain ⟨u, hu⟩ : ∃ u, u = w.alloc (.cells #[.int .i64 a, .int .i64 b] 23) := ⟨_, rfl⟩
  obtain ⟨v, hv⟩ : ∃ v, v = u.alloc (.cells #[.int .i64 c, .int .i64 d] 23) := ⟨_, rfl⟩
  have h1 := PBox.new w a b
  have h2 := PBox.new u c d
  have h3 := PBox.new v 0 0
  have b1 := below_new w (.cells #[.int .i64 a, .int .i64 b] 23)
  have b2 := below_new u (.cells #[.int .i64 c, .int .i64 d] 23)
  have b3 := below_new v (.cells #[.int .i64 0, .int .i64 0] 23)
  rw [← hu] at h1 b1
  rw [← hv] at h2 b2
  have s1 : u.heap.size = w.heap.size + 1 := by rw [hu]; simp
  have s2 : v.heap.size = w.heap.size + 1 + 1 := by rw [hv]; simp; omega
  refine ⟨_, rfl, ?_, ?_, ?_, ?_⟩
  · rw [← hu, ← hv]; exact (b1.trans (b2.mono (by omega))).trans (b3.mono (by omega))
  · rw [← hu, ← hv]; exact (h1.on b2).on b3
  · rw [← hu, ← hv, ← s1]; exact h2.on b3
  · rw [← hu, ← hv, ← s2]; exact h3
theorem two_pts (w : World) (a b c d : Int) : ∃ w0, w0 = ((w.alloc (.cells #[.int .i64 a, .int .i64 b] 23)).alloc (.cells #[.int .i64 c, .int .i64 d] 23)) ∧
    Below w.heap.size w w0 ∧ PBox w0 w.heap.size a b ∧ PBox w0 (w.heap.size + 1) c d := by
  obtain ⟨u, hu⟩ : ∃ u, u = w.alloc (.cells #[.int .i64 a, .int .i64 b] 23) := ⟨_, rfl⟩
  have h1 := PBox.new w a b
  have h2 := PBox.new u c d
  have b1 := below_new w (.cells #[.int .i64 a, .int .i64 b] 23)
  have b2 := below_new u (.cells #[.int .i64 c, .int .i64 d] 23)
  rw [← hu] at h1 b1
  have s1 : u.heap.size = w.heap.size + 1 := by rw [hu]; simp
  refine ⟨_, rfl, ?_, ?_, ?_⟩
  · rw [← hu]; exact b1.trans (b2.mono (by omega))
  · rw [← hu]; exact h1.on b2
  · rw [← hu, ← s1]; exact h2
set_option maxHeartbeats 8000000 in
theorem add_any (a b c d : Int) (w : World) : Calls Try.prog 9 #[.agg #[.int .i64 a, .int .i64 b], .agg #[.int .i64 c, .int .i64 d]] w
    (PPost (two (okP a b && okP c d) (farX (a + c) (b + d)) 0) (two (okP a b && okP c d) (farY (a + c) (b + d)) 0) (two (okP a b && okP c d) (farE (a + c) (b + d)) 900) w) := by
  obtain ⟨w0, hw0, hb0, hx0, hy0, hz0⟩ := three_pts w a b c d
  have HB0 := Lib.hid hb0
  have HX := Lib.hid hx0
  have HY := Lib.hid hy0
  have HZ := Lib.hid hz0
  go_enter Try.func9, Try.ntmps9
  go_upto_region 1 with (fail)
  rw [← hw0]
  clear hw0 hb0 hx0 hy0 hz0
  cases h1 : okP a b
  · have H1 := Lib.hid h1
    have p0 := HX.out.c0
    have p1 := HX.out.c1
    have q0 := HY.out.c0
    have q1 := HY.out.c1
    go_wp2_with fail
    refine (pMay_is a b false _ h1).mono ?_
    rintro e w1 ⟨rfl, hb1⟩
    have HB1 := Lib.hid (HB0.out.trans (hb1.mono HB0.out.size))
    replace HZ := Lib.hid (HZ.out.on hb1)
    clear hb1 p0 p1 q0 q1 HB0 h1
    go_wp2_with (refine store_box rfl 23 (.tmp 4) (.tmp 14) rfl rfl (w.heap.size + 1 + 1) _ _ rfl rfl HZ.out.z rfl (by kernel_rfl) (pt_one _ _) ?_
                 intro w9 hg9 hc9 hs9
                 have HG9 := Lib.hid hg9
                 have HB9 := Lib.hid (HB1.out.trans (hc9.bel.mono (by omega)))
                 clear hg9 hc9 hs9 HB1 HZ)
    refine point_ret rfl (g := w.heap.size + 1 + 1) rfl rfl rfl HG9.out ?_
    rw [show (okP a b && okP c d) = false by first | (rw [H1.out]; rfl) | (rw [H2.out]; cases okP a b <;> rfl)]
    exact ⟨rfl, HB9.out⟩
  have H1 := Lib.hid h1
  cases h2 : okP c d
  · have H2 := Lib.hid h2
    have p0 := HX.out.c0
    have p1 := HX.out.c1
    have q0 := HY.out.c0
    have q1 := HY.out.c1
    go_wp2_with fail
    refine (pMay_is a b true _ h1).mono ?_
    rintro e w1 ⟨rfl, hb1⟩
    have HB1 := Lib.hid (HB0.out.trans (hb1.mono HB0.out.size))
    replace HX := Lib.hid (HX.out.on hb1)
    replace HY := Lib.hid (HY.out.on hb1)
    replace HZ := Lib.hid (HZ.out.on hb1)
    clear hb1 p0 p1 q0 q1 HB0 h1
    have p0 := HX.out.c0
    have p1 := HX.out.c1
    have q0 := HY.out.c0
    have q1 := HY.out.c1
    go_wp2_with fail
    refine (pMay_is c d false _ h2).mono ?_
    rintro e w2 ⟨rfl, hb2⟩
    have HB2 := Lib.hid (HB1.out.trans (hb2.mono HB1.out.size))
    replace HZ := Lib.hid (HZ.out.on hb2)
    clear hb2 p0 p1 q0 q1 HB1 h2
    go_wp2_with (refine store_box rfl 23 (.tmp 4) (.tmp 14) rfl rfl (w.heap.size + 1 + 1) _ _ rfl rfl HZ.out.z rfl (by kernel_rfl) (pt_one _ _) ?_
                 intro w9 hg9 hc9 hs9
                 have HG9 := Lib.hid hg9
                 have HB9 := Lib.hid (HB2.out.trans (hc9.bel.mono (by omega)))
                 clear hg9 hc9 hs9 HB2 HZ)
    refine point_ret rfl (g := w.heap.size + 1 + 1) rfl rfl rfl HG9.out ?_
    rw [show (okP a b && okP c d) = false by first | (rw [H1.out]; rfl) | (rw [H2.out]; cases okP a b <;> rfl)]
    exact ⟨rfl, HB9.out⟩
  have H2 := Lib.hid h2
  have p0 := HX.out.c0
  have p1 := HX.out.c1
  have q0 := HY.out.c0
  have q1 := HY.out.c1
  go_wp2_with fail
  refine (pMay_is a b true _ h1).mono ?_
  rintro e w1 ⟨rfl, hb1⟩
  have HB1 := Lib.hid (HB0.out.trans (hb1.mono HB0.out.size))
  replace HX := Lib.hid (HX.out.on hb1)
  replace HY := Lib.hid (HY.out.on hb1)
  replace HZ := Lib.hid (HZ.out.on hb1)
  clear hb1 p0 p1 q0 q1 HB0 h1
  have p0 := HX.out.c0
  have p1 := HX.out.c1
  have q0 := HY.out.c0
  have q1 := HY.out.c1
  go_wp2_with fail
  refine (pMay_is c d true _ h2).mono ?_
  rintro e w2 ⟨rfl, hb2⟩
  have HB2 := Lib.hid (HB1.out.trans (hb2.mono HB1.out.size))
  replace HX := Lib.hid (HX.out.on hb2)
  replace HY := Lib.hid (HY.out.on hb2)
  replace HZ := Lib.hid (HZ.out.on hb2)
  clear hb2 p0 p1 q0 q1 HB1 h2
  have p0 := HX.out.c0
  have p1 := HX.out.c1
  have q0 := HY.out.c0
  have q1 := HY.out.c1
  obtain ⟨k1, k2⟩ := ok_parts H1.out
  obtain ⟨k3, k4⟩ := ok_parts H2.out
  skip
  obtain ⟨re, im, f1, f2, hbin⟩ := c_add (FI.near k1) (FI.near k2) (FI.near k3) (FI.near k4) (by omega) (by omega)
  have HNEAR : Hid (∀ u, Calls Try.prog 28 #[.complex .f64 re im] u (PPost (farX (a + c) (b + d)) (farY (a + c) (b + d)) (farE (a + c) (b + d)) u)) := fun u => ifNear_any re im _ _ u f1 f2 (by omega) (by omega)
  clear f1 f2 k1 k2 k3 k4 
  go_upto_region 3 with (fail)
  refine wp_region_held_drew (S := (fun w' => w'.cell? ⟨w.heap.size, 0, none⟩ = some (.int .i64 a) ∧ w'.cell? ⟨w.heap.size, 1, none⟩ = some (.int .i64 b) ∧ w'.cell? ⟨w.heap.size + 1, 0, none⟩ = some (.int .i64 c) ∧ w'.cell? ⟨w.heap.size + 1, 1, none⟩ = some (.int .i64 d))) (by kernel_rfl) ⟨p0, p1, q0, q1⟩ (fun hHeld => ?_)
  have hd3 : Below w2.heap.size w2 w2.drew := (Below.refl w2.heap.size w2).drew
  refine takeH (i := 0) (v := ?_) rfl rfl (by kernel_rfl) (by kernel_rfl) (by kernel_rfl) (fun _ _ _ h => h) (by rfl) ?_ hHeld ?_
  rotate_left
  · (intro w hSw; (try dsimp only at hSw); first | (go_simp; done) | (go_simp; with_reducible rfl))
  simp only [Act.put, List.setIfInBounds_toArray, List.set_cons_zero, List.set_cons_succ]
  refine takeH (i := 2) (v := ?_) rfl rfl (by kernel_rfl) (by kernel_rfl) (by kernel_rfl) (fun _ _ _ h => h) (by rfl) ?_ hHeld ?_
  rotate_left
  · (intro w hSw; (try dsimp only at hSw); first | (go_simp; done) | (go_simp; with_reducible rfl))
  simp only [Act.put, List.setIfInBounds_toArray, List.set_cons_zero, List.set_cons_succ]
  replace HX := Lib.hid (HX.out.on hd3)
  replace HY := Lib.hid (HY.out.on hd3)
  replace HZ := Lib.hid (HZ.out.on hd3)
  have HB3 := Lib.hid (HB2.out.trans (hd3.mono HB2.out.size))
  clear hd3 p0 p1 q0 q1 HB2
  obtain ⟨w3, hw3⟩ : ∃ w3, w3 = w2.drew := ⟨_, rfl⟩
  rw [← hw3] at HX HY HZ HB3 ⊢
  clear hw3
  have p0 := HX.out.c0
  have p1 := HX.out.c1
  have q0 := HY.out.c0
  have q1 := HY.out.c1
  refine wpAnyH_ready (rs := [1]) (by kernel_rfl) (by simp) ?_
  refine AllReadyH.cons rfl (fun K hK => ?_) AllReadyH.nil
  go_simp
  refine (number_any a b _).mono ?_
  rintro e w4 ⟨rfl, hb4⟩
  have HB4 := Lib.hid (HB3.out.trans (hb4.mono HB3.out.size))
  replace HX := Lib.hid (HX.out.on hb4)
  replace HY := Lib.hid (HY.out.on hb4)
  replace HZ := Lib.hid (HZ.out.on hb4)
  clear hb4 p0 p1 q0 q1
  have p0 := HX.out.c0
  have p1 := HX.out.c1
  have q0 := HY.out.c0
  have q1 := HY.out.c1
  go_wp2_with fail
  refine hK.out _ _ ?_ (fun hHeld => ?_)
  · exact ⟨p0, p1, q0, q1⟩
  clear hK K
  refine wpAnyH_ready (rs := [3]) (by kernel_rfl) (by simp) ?_
  refine AllReadyH.cons rfl (fun K hK => ?_) AllReadyH.nil
  go_simp
  refine (number_any c d _).mono ?_
  rintro e w5 ⟨rfl, hb5⟩
  have HB5 := Lib.hid (HB4.out.trans (hb5.mono HB4.out.size))
  replace HX := Lib.hid (HX.out.on hb5)
  replace HY := Lib.hid (HY.out.on hb5)
  replace HZ := Lib.hid (HZ.out.on hb5)
  clear hb5 p0 p1 q0 q1
  have p0 := HX.out.c0
  have p1 := HX.out.c1
  have q0 := HY.out.c0
  have q1 := HY.out.c1
  go_wp2_with fail
  refine hK.out _ _ ?_ (fun hHeld => ?_)
  · exact ⟨p0, p1, q0, q1⟩
  clear hK K
  refine takeH (i := 4) (v := ?_) rfl rfl (by kernel_rfl) (by kernel_rfl) (by kernel_rfl) (fun _ _ _ h => h) (by rfl) ?_ hHeld ?_
  rotate_left
  · (intro w hSw; (try dsimp only at hSw); first | (go_simp; done) | (go_simp; with_reducible rfl))
  simp only [Act.put, List.setIfInBounds_toArray, List.set_cons_zero, List.set_cons_succ]
  refine wpAnyH_ready (rs := [5]) (by kernel_rfl) (by simp) ?_
  refine AllReadyH.cons rfl (fun K hK => ?_) AllReadyH.nil
  go_simp
  refine HNEAR.out _ |>.mono ?_
  rintro e w6 ⟨rfl, hb6⟩
  have HB6 := Lib.hid (HB5.out.trans (hb6.mono HB5.out.size))
  replace HX := Lib.hid (HX.out.on hb6)
  replace HY := Lib.hid (HY.out.on hb6)
  replace HZ := Lib.hid (HZ.out.on hb6)
  clear hb6 p0 p1 q0 q1
  have p0 := HX.out.c0
  have p1 := HX.out.c1
  have q0 := HY.out.c0
  have q1 := HY.out.c1
  go_wp2_with fail
  refine hK.out _ _ ?_ (fun hHeld => ?_)
  · exact ⟨p0, p1, q0, q1⟩
  clear hK K
  refine takeH (i := 6) (v := ?_) rfl rfl (by kernel_rfl) (by kernel_rfl) (by kernel_rfl) (fun _ _ _ h => h) (by rfl) ?_ hHeld ?_
  rotate_left
  · (intro w hSw; (try dsimp only at hSw); first | (go_simp; done) | (go_simp; with_reducible rfl))
  simp only [Act.put, List.setIfInBounds_toArray, List.set_cons_zero, List.set_cons_succ]
  refine takeH (i := 7) (v := ?_) rfl rfl (by kernel_rfl) (by kernel_rfl) (by kernel_rfl) (fun _ _ _ h => h) (by rfl) ?_ hHeld ?_
  rotate_left
  · (intro w hSw; (try dsimp only at hSw); first | (go_simp; done) | (go_simp; with_reducible rfl))
  simp only [Act.put, List.setIfInBounds_toArray, List.set_cons_zero, List.set_cons_succ]
  refine wpAnyH_ready (rs := [8]) (by kernel_rfl) (by simp) ?_
  refine AllReadyH.cons rfl (fun K hK => ?_) AllReadyH.nil
  refine store_box_step rfl 23 (.tmp 4) (.tmp 21) rfl rfl (w.heap.size + 1 + 1) _ _ rfl rfl HZ.out.z rfl (by kernel_rfl) (pt_one _ _) ?_
  intro w9 hg9 hc9 hs9
  have HG9 := Lib.hid hg9
  have HX9 := HX.out.chg hc9 (by omega)
  have HY9 := HY.out.chg hc9 (by omega)
  have HB9 := Lib.hid (HB6.out.trans (hc9.bel.mono (by omega)))
  clear hg9 hc9 hs9 HB6 HZ
  refine hK.out _ _ ?_ (fun hHeld => ?_)
  · exact ⟨HX9.c0, HX9.c1, HY9.c0, HY9.c1⟩
  clear hK K HX9 HY9
  refine takeH (i := 9) (v := ?_) rfl rfl (by kernel_rfl) (by kernel_rfl) (by kernel_rfl) (fun _ _ _ h => h) (by rfl) ?_ hHeld ?_
  rotate_left
  · (intro w hSw; (try dsimp only at hSw); first | (go_simp; done) | (go_simp; with_reducible rfl))
  simp only [Act.put, List.setIfInBounds_toArray, List.set_cons_zero, List.set_cons_succ]
  refine wpAnyH_done (by kernel_rfl) ?_ _
  go_wp2
  refine point_ret rfl (g := w.heap.size + 1 + 1) rfl rfl rfl HG9.out ?_
  rw [show (okP a b && okP c d) = true by rw [H1.out, H2.out]; rfl]
  exact ⟨rfl, HB9.out⟩
set_option maxHeartbeats 8000000 in
theorem mul_any (a b c d : Int) (w : World) : Calls Try.prog 11 #[.agg #[.int .i64 a, .int .i64 b], .agg #[.int .i64 c, .int .i64 d]] w
    (PPost (two (okP a b && okP c d) (farX (a * c - b * d) (a * d + b * c)) 0) (two (okP a b && okP c d) (farY (a * c - b * d) (a * d + b * c)) 0) (two (okP a b && okP c d) (farE (a * c - b * d) (a * d + b * c)) 900) w) := by
  obtain ⟨w0, hw0, hb0, hx0, hy0, hz0⟩ := three_pts w a b c d
  have HB0 := Lib.hid hb0
  have HX := Lib.hid hx0
  have HY := Lib.hid hy0
  have HZ := Lib.hid hz0
  go_enter Try.func11, Try.ntmps11
  go_upto_region 1 with (fail)
  rw [← hw0]
  clear hw0 hb0 hx0 hy0 hz0
  cases h1 : okP a b
  · have H1 := Lib.hid h1
    have p0 := HX.out.c0
    have p1 := HX.out.c1
    have q0 := HY.out.c0
    have q1 := HY.out.c1
    go_wp2_with fail
    refine (pMay_is a b false _ h1).mono ?_
    rintro e w1 ⟨rfl, hb1⟩
    have HB1 := Lib.hid (HB0.out.trans (hb1.mono HB0.out.size))
    replace HZ := Lib.hid (HZ.out.on hb1)
    clear hb1 p0 p1 q0 q1 HB0 h1
    go_wp2_with (refine store_box rfl 23 (.tmp 4) (.tmp 14) rfl rfl (w.heap.size + 1 + 1) _ _ rfl rfl HZ.out.z rfl (by kernel_rfl) (pt_one _ _) ?_
                 intro w9 hg9 hc9 hs9
                 have HG9 := Lib.hid hg9
                 have HB9 := Lib.hid (HB1.out.trans (hc9.bel.mono (by omega)))
                 clear hg9 hc9 hs9 HB1 HZ)
    refine point_ret rfl (g := w.heap.size + 1 + 1) rfl rfl rfl HG9.out ?_
    rw [show (okP a b && okP c d) = false by first | (rw [H1.out]; rfl) | (rw [H2.out]; cases okP a b <;> rfl)]
    exact ⟨rfl, HB9.out⟩
  have H1 := Lib.hid h1
  cases h2 : okP c d
  · have H2 := Lib.hid h2
    have p0 := HX.out.c0
    have p1 := HX.out.c1
    have q0 := HY.out.c0
    have q1 := HY.out.c1
    go_wp2_with fail
    refine (pMay_is a b true _ h1).mono ?_
    rintro e w1 ⟨rfl, hb1⟩
    have HB1 := Lib.hid (HB0.out.trans (hb1.mono HB0.out.size))
    replace HX := Lib.hid (HX.out.on hb1)
    replace HY := Lib.hid (HY.out.on hb1)
    replace HZ := Lib.hid (HZ.out.on hb1)
    clear hb1 p0 p1 q0 q1 HB0 h1
    have p0 := HX.out.c0
    have p1 := HX.out.c1
    have q0 := HY.out.c0
    have q1 := HY.out.c1
    go_wp2_with fail
    refine (pMay_is c d false _ h2).mono ?_
    rintro e w2 ⟨rfl, hb2⟩
    have HB2 := Lib.hid (HB1.out.trans (hb2.mono HB1.out.size))
    replace HZ := Lib.hid (HZ.out.on hb2)
    clear hb2 p0 p1 q0 q1 HB1 h2
    go_wp2_with (refine store_box rfl 23 (.tmp 4) (.tmp 14) rfl rfl (w.heap.size + 1 + 1) _ _ rfl rfl HZ.out.z rfl (by kernel_rfl) (pt_one _ _) ?_
                 intro w9 hg9 hc9 hs9
                 have HG9 := Lib.hid hg9
                 have HB9 := Lib.hid (HB2.out.trans (hc9.bel.mono (by omega)))
                 clear hg9 hc9 hs9 HB2 HZ)
    refine point_ret rfl (g := w.heap.size + 1 + 1) rfl rfl rfl HG9.out ?_
    rw [show (okP a b && okP c d) = false by first | (rw [H1.out]; rfl) | (rw [H2.out]; cases okP a b <;> rfl)]
    exact ⟨rfl, HB9.out⟩
  have H2 := Lib.hid h2
  have p0 := HX.out.c0
  have p1 := HX.out.c1
  have q0 := HY.out.c0
  have q1 := HY.out.c1
  go_wp2_with fail
  refine (pMay_is a b true _ h1).mono ?_
  rintro e w1 ⟨rfl, hb1⟩
  have HB1 := Lib.hid (HB0.out.trans (hb1.mono HB0.out.size))
  replace HX := Lib.hid (HX.out.on hb1)
  replace HY := Lib.hid (HY.out.on hb1)
  replace HZ := Lib.hid (HZ.out.on hb1)
  clear hb1 p0 p1 q0 q1 HB0 h1
  have p0 := HX.out.c0
  have p1 := HX.out.c1
  have q0 := HY.out.c0
  have q1 := HY.out.c1
  go_wp2_with fail
  refine (pMay_is c d true _ h2).mono ?_
  rintro e w2 ⟨rfl, hb2⟩
  have HB2 := Lib.hid (HB1.out.trans (hb2.mono HB1.out.size))
  replace HX := Lib.hid (HX.out.on hb2)
  replace HY := Lib.hid (HY.out.on hb2)
  replace HZ := Lib.hid (HZ.out.on hb2)
  clear hb2 p0 p1 q0 q1 HB1 h2
  have p0 := HX.out.c0
  have p1 := HX.out.c1
  have q0 := HY.out.c0
  have q1 := HY.out.c1
  obtain ⟨k1, k2⟩ := ok_parts H1.out
  obtain ⟨k3, k4⟩ := ok_parts H2.out
  have mm := And.intro (And.intro (mul_bd k1 k3) (mul_bd k2 k4)) (And.intro (mul_bd k1 k4) (mul_bd k2 k3))
  obtain ⟨re, im, f1, f2, hbin⟩ := c_mul (FI.near k1) (FI.near k2) (FI.near k3) (FI.near k4) k1 k2 k3 k4
  have HNEAR : Hid (∀ u, Calls Try.prog 28 #[.complex .f64 re im] u (PPost (farX (a * c - b * d) (a * d + b * c)) (farY (a * c - b * d) (a * d + b * c)) (farE (a * c - b * d) (a * d + b * c)) u)) := fun u => ifNear_any re im _ _ u f1 f2 (by omega) (by omega)
  clear f1 f2 k1 k2 k3 k4 mm
  go_upto_region 3 with (fail)
  refine wp_region_held_drew (S := (fun w' => w'.cell? ⟨w.heap.size, 0, none⟩ = some (.int .i64 a) ∧ w'.cell? ⟨w.heap.size, 1, none⟩ = some (.int .i64 b) ∧ w'.cell? ⟨w.heap.size + 1, 0, none⟩ = some (.int .i64 c) ∧ w'.cell? ⟨w.heap.size + 1, 1, none⟩ = some (.int .i64 d))) (by kernel_rfl) ⟨p0, p1, q0, q1⟩ (fun hHeld => ?_)
  have hd3 : Below w2.heap.size w2 w2.drew := (Below.refl w2.heap.size w2).drew
  refine takeH (i := 0) (v := ?_) rfl rfl (by kernel_rfl) (by kernel_rfl) (by kernel_rfl) (fun _ _ _ h => h) (by rfl) ?_ hHeld ?_
  rotate_left
  · (intro w hSw; (try dsimp only at hSw); first | (go_simp; done) | (go_simp; with_reducible rfl))
  simp only [Act.put, List.setIfInBounds_toArray, List.set_cons_zero, List.set_cons_succ]
  refine takeH (i := 2) (v := ?_) rfl rfl (by kernel_rfl) (by kernel_rfl) (by kernel_rfl) (fun _ _ _ h => h) (by rfl) ?_ hHeld ?_
  rotate_left
  · (intro w hSw; (try dsimp only at hSw); first | (go_simp; done) | (go_simp; with_reducible rfl))
  simp only [Act.put, List.setIfInBounds_toArray, List.set_cons_zero, List.set_cons_succ]
  replace HX := Lib.hid (HX.out.on hd3)
  replace HY := Lib.hid (HY.out.on hd3)
  replace HZ := Lib.hid (HZ.out.on hd3)
  have HB3 := Lib.hid (HB2.out.trans (hd3.mono HB2.out.size))
  clear hd3 p0 p1 q0 q1 HB2
  obtain ⟨w3, hw3⟩ : ∃ w3, w3 = w2.drew := ⟨_, rfl⟩
  rw [← hw3] at HX HY HZ HB3 ⊢
  clear hw3
  have p0 := HX.out.c0
  have p1 := HX.out.c1
  have q0 := HY.out.c0
  have q1 := HY.out.c1
  refine wpAnyH_ready (rs := [1]) (by kernel_rfl) (by simp) ?_
  refine AllReadyH.cons rfl (fun K hK => ?_) AllReadyH.nil
  go_simp
  refine (number_any a b _).mono ?_
  rintro e w4 ⟨rfl, hb4⟩
  have HB4 := Lib.hid (HB3.out.trans (hb4.mono HB3.out.size))
  replace HX := Lib.hid (HX.out.on hb4)
  replace HY := Lib.hid (HY.out.on hb4)
  replace HZ := Lib.hid (HZ.out.on hb4)
  clear hb4 p0 p1 q0 q1
  have p0 := HX.out.c0
  have p1 := HX.out.c1
  have q0 := HY.out.c0
  have q1 := HY.out.c1
  go_wp2_with fail
  refine hK.out _ _ ?_ (fun hHeld => ?_)
  · exact ⟨p0, p1, q0, q1⟩
  clear hK K
  refine wpAnyH_ready (rs := [3]) (by kernel_rfl) (by simp) ?_
  refine AllReadyH.cons rfl (fun K hK => ?_) AllReadyH.nil
  go_simp
  refine (number_any c d _).mono ?_
  rintro e w5 ⟨rfl, hb5⟩
  have HB5 := Lib.hid (HB4.out.trans (hb5.mono HB4.out.size))
  replace HX := Lib.hid (HX.out.on hb5)
  replace HY := Lib.hid (HY.out.on hb5)
  replace HZ := Lib.hid (HZ.out.on hb5)
  clear hb5 p0 p1 q0 q1
  have p0 := HX.out.c0
  have p1 := HX.out.c1
  have q0 := HY.out.c0
  have q1 := HY.out.c1
  go_wp2_with fail
  refine hK.out _ _ ?_ (fun hHeld => ?_)
  · exact ⟨p0, p1, q0, q1⟩
  clear hK K
  refine takeH (i := 4) (v := ?_) rfl rfl (by kernel_rfl) (by kernel_rfl) (by kernel_rfl) (fun _ _ _ h => h) (by rfl) ?_ hHeld ?_
  rotate_left
  · (intro w hSw; (try dsimp only at hSw); first | (go_simp; done) | (go_simp; with_reducible rfl))
  simp only [Act.put, List.setIfInBounds_toArray, List.set_cons_zero, List.set_cons_succ]
  refine wpAnyH_ready (rs := [5]) (by kernel_rfl) (by simp) ?_
  refine AllReadyH.cons rfl (fun K hK => ?_) AllReadyH.nil
  go_simp
  refine HNEAR.out _ |>.mono ?_
  rintro e w6 ⟨rfl, hb6⟩
  have HB6 := Lib.hid (HB5.out.trans (hb6.mono HB5.out.size))
  replace HX := Lib.hid (HX.out.on hb6)
  replace HY := Lib.hid (HY.out.on hb6)
  replace HZ := Lib.hid (HZ.out.on hb6)
  clear hb6 p0 p1 q0 q1
  have p0 := HX.out.c0
  have p1 := HX.out.c1
  have q0 := HY.out.c0
  have q1 := HY.out.c1
  go_wp2_with fail
  refine hK.out _ _ ?_ (fun hHeld => ?_)
  · exact ⟨p0, p1, q0, q1⟩
  clear hK K
  refine takeH (i := 6) (v := ?_) rfl rfl (by kernel_rfl) (by kernel_rfl) (by kernel_rfl) (fun _ _ _ h => h) (by rfl) ?_ hHeld ?_
  rotate_left
  · (intro w hSw; (try dsimp only at hSw); first | (go_simp; done) | (go_simp; with_reducible rfl))
  simp only [Act.put, List.setIfInBounds_toArray, List.set_cons_zero, List.set_cons_succ]
  refine takeH (i := 7) (v := ?_) rfl rfl (by kernel_rfl) (by kernel_rfl) (by kernel_rfl) (fun _ _ _ h => h) (by rfl) ?_ hHeld ?_
  rotate_left
  · (intro w hSw; (try dsimp only at hSw); first | (go_simp; done) | (go_simp; with_reducible rfl))
  simp only [Act.put, List.setIfInBounds_toArray, List.set_cons_zero, List.set_cons_succ]
  refine wpAnyH_ready (rs := [8]) (by kernel_rfl) (by simp) ?_
  refine AllReadyH.cons rfl (fun K hK => ?_) AllReadyH.nil
  refine store_box_step rfl 23 (.tmp 4) (.tmp 21) rfl rfl (w.heap.size + 1 + 1) _ _ rfl rfl HZ.out.z rfl (by kernel_rfl) (pt_one _ _) ?_
  intro w9 hg9 hc9 hs9
  have HG9 := Lib.hid hg9
  have HX9 := HX.out.chg hc9 (by omega)
  have HY9 := HY.out.chg hc9 (by omega)
  have HB9 := Lib.hid (HB6.out.trans (hc9.bel.mono (by omega)))
  clear hg9 hc9 hs9 HB6 HZ
  refine hK.out _ _ ?_ (fun hHeld => ?_)
  · exact ⟨HX9.c0, HX9.c1, HY9.c0, HY9.c1⟩
  clear hK K HX9 HY9
  refine takeH (i := 9) (v := ?_) rfl rfl (by kernel_rfl) (by kernel_rfl) (by kernel_rfl) (fun _ _ _ h => h) (by rfl) ?_ hHeld ?_
  rotate_left
  · (intro w hSw; (try dsimp only at hSw); first | (go_simp; done) | (go_simp; with_reducible rfl))
  simp only [Act.put, List.setIfInBounds_toArray, List.set_cons_zero, List.set_cons_succ]
  refine wpAnyH_done (by kernel_rfl) ?_ _
  go_wp2
  refine point_ret rfl (g := w.heap.size + 1 + 1) rfl rfl rfl HG9.out ?_
  rw [show (okP a b && okP c d) = true by rw [H1.out, H2.out]; rfl]
  exact ⟨rfl, HB9.out⟩
end Go.Proofs.Ytpplddongkhkbaa
