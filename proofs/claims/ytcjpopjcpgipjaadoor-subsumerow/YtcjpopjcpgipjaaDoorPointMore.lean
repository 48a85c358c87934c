/-
  Contracts: point.Flip, point.Under, point.Score.
-/
import Derived.Test.YtcjpopjcpgipjaaDoorPointOps
namespace Go.Proofs.YtcjpopjcpgipjaaDoor
open Go.RowKit Go.Deep
set_option linter.unusedSimpArgs false
set_option linter.unusedVariables false
set_option maxRecDepth 100000

def UPost (r : Bool) (E : Int) (w : World) (e : Ending) (w' : World) : Prop := e = .returned (.tuple #[.bool r, .int .i64 E]) ∧ Below w.heap.size w w'
def SPost (x E : Int) (w : World) (e : Ending) (w' : World) : Prop := e = .returned (.tuple #[.int .i64 x, .int .i64 E]) ∧ Below w.heap.size w w'
theorem ret_u {a b : Bool} {c d : Int} (h1 : a = b) (h2 : c = d) : Ending.returned (.tuple #[.bool a, .int .i64 c]) = .returned (.tuple #[.bool b, .int .i64 d]) := by rw [h1, h2]
theorem ret_s {a b c d : Int} (h1 : a = b) (h2 : c = d) : Ending.returned (.tuple #[.int .i64 a, .int .i64 c]) = .returned (.tuple #[.int .i64 b, .int .i64 d]) := by rw [h1, h2]
theorem geq_yes {x : Nat} {a : Int} (h : FI x a) (h0 : 0 ≤ a) : (FloatKind.f64.format.order x 0 == some .gt || FloatKind.f64.format.order x 0 == some .eq) = true := by
  have : FloatKind.f64.format.order x 0 = some (compare a 0) := h.order FI.zero
  rw [this]
  show (some (compareOfLessAndEq a 0) == some .gt || some (compareOfLessAndEq a 0) == some .eq) = true
  unfold compareOfLessAndEq
  rw [if_neg (by omega)]
  by_cases e : a = 0
  · rw [if_pos e]; rfl
  · rw [if_neg e]; rfl
theorem geq_no {x : Nat} {a : Int} (h : FI x a) (h0 : a < 0) : (FloatKind.f64.format.order x 0 == some .gt || FloatKind.f64.format.order x 0 == some .eq) = false := by
  have : FloatKind.f64.format.order x 0 = some (compare a 0) := h.order FI.zero
  rw [this]
  show (some (compareOfLessAndEq a 0) == some .gt || some (compareOfLessAndEq a 0) == some .eq) = false
  unfold compareOfLessAndEq
  rw [if_pos (by omega)]
  rfl
set_option maxHeartbeats 4000000 in
theorem under_any (a b c d : Int) (w : World) : Calls Tryd.prog 25 #[.agg #[.int .i64 a, .int .i64 b], .agg #[.int .i64 c, .int .i64 d]] w
    (UPost ((okP a b && okP c d) && (decide (a ≤ c) && decide (b ≤ d))) (two (okP a b && okP c d) 0 900) w) := by
  obtain ⟨w0, hw0, hb0, hx0, hy0⟩ := two_pts w a b c d
  have HB0 := Lib.hid hb0
  have HX := Lib.hid hx0
  have HY := Lib.hid hy0
  go_enter Tryd.func25, Tryd.ntmps25
  go_upto_region 1 with (fail)
  rw [← hw0]
  clear hw0 hb0 hx0 hy0
  cases h1 : okP a b
  · have H1 := Lib.hid h1
    have p0 := HX.out.c0
    have p1 := HX.out.c1
    have q0 := HY.out.c0
    have q1 := HY.out.c1
    go_wp2_with fail
    refine (pMay_is a b false _ h1).mono ?_
    rintro e w1 ⟨rfl, hb1⟩
    have HB1 := Lib.hid (HB0.out.trans (hb1.mono HB0.out.size))
    clear hb1 p0 p1 q0 q1 HB0 h1
    go_wp2
    go_ret2
    exact ⟨ret_u (by rw [H1.out]; rfl) (by rw [H1.out]; rfl), HB1.out⟩
  have H1 := Lib.hid h1
  cases h2 : okP c d
  · have H2 := Lib.hid h2
    have p0 := HX.out.c0
    have p1 := HX.out.c1
    have q0 := HY.out.c0
    have q1 := HY.out.c1
    go_wp2_with fail
    refine (pMay_is a b true _ h1).mono ?_
    rintro e w1 ⟨rfl, hb1⟩
    have HB1 := Lib.hid (HB0.out.trans (hb1.mono HB0.out.size))
    replace HX := Lib.hid (HX.out.on hb1)
    replace HY := Lib.hid (HY.out.on hb1)
    clear hb1 p0 p1 q0 q1 HB0 h1
    have p0 := HX.out.c0
    have p1 := HX.out.c1
    have q0 := HY.out.c0
    have q1 := HY.out.c1
    go_wp2_with fail
    refine (pMay_is c d false _ h2).mono ?_
    rintro e w2 ⟨rfl, hb2⟩
    have HB2 := Lib.hid (HB1.out.trans (hb2.mono HB1.out.size))
    clear hb2 p0 p1 q0 q1 HB1 h2
    go_wp2
    go_ret2
    exact ⟨ret_u (by rw [H1.out, H2.out]; rfl) (by rw [H1.out, H2.out]; rfl), HB2.out⟩
  have H2 := Lib.hid h2
  have p0 := HX.out.c0
  have p1 := HX.out.c1
  have q0 := HY.out.c0
  have q1 := HY.out.c1
  go_wp2_with fail
  refine (pMay_is a b true _ h1).mono ?_
  rintro e w1 ⟨rfl, hb1⟩
  have HB1 := Lib.hid (HB0.out.trans (hb1.mono HB0.out.size))
  replace HX := Lib.hid (HX.out.on hb1)
  replace HY := Lib.hid (HY.out.on hb1)
  clear hb1 p0 p1 q0 q1 HB0 h1
  have p0 := HX.out.c0
  have p1 := HX.out.c1
  have q0 := HY.out.c0
  have q1 := HY.out.c1
  go_wp2_with fail
  refine (pMay_is c d true _ h2).mono ?_
  rintro e w2 ⟨rfl, hb2⟩
  have HB2 := Lib.hid (HB1.out.trans (hb2.mono HB1.out.size))
  replace HX := Lib.hid (HX.out.on hb2)
  replace HY := Lib.hid (HY.out.on hb2)
  clear hb2 p0 p1 q0 q1 HB1 h2
  have p0 := HX.out.c0
  have p1 := HX.out.c1
  have q0 := HY.out.c0
  have q1 := HY.out.c1
  obtain ⟨k1, k2⟩ := ok_parts H1.out
  obtain ⟨k3, k4⟩ := ok_parts H2.out
  obtain ⟨re, im, f1, f2, hbin⟩ := c_sub (FI.near k3) (FI.near k4) (FI.near k1) (FI.near k2) (by omega) (by omega)
  have F1 := Lib.hid f1
  have F2 := Lib.hid f2
  clear f1 f2 k1 k2 k3 k4
  go_upto_region 3 with (fail)
  refine wp_region_held_drew (S := (fun w' => w'.cell? ⟨w.heap.size, 0, none⟩ = some (.int .i64 a) ∧ w'.cell? ⟨w.heap.size, 1, none⟩ = some (.int .i64 b) ∧ w'.cell? ⟨w.heap.size + 1, 0, none⟩ = some (.int .i64 c) ∧ w'.cell? ⟨w.heap.size + 1, 1, none⟩ = some (.int .i64 d))) (by kernel_rfl) ⟨p0, p1, q0, q1⟩ (fun hHeld => ?_)
  have hd3 : Below w2.heap.size w2 w2.drew := (Below.refl w2.heap.size w2).drew
  refine takeH (i := 0) (v := ?_) rfl rfl (by kernel_rfl) (by kernel_rfl) (by kernel_rfl) (fun _ _ _ h => h) (by rfl) ?_ hHeld ?_
  rotate_left
  · (intro w hSw; (try dsimp only at hSw); first | (go_simp; done) | (go_simp; with_reducible rfl))
  simp only [Act.put, List.setIfInBounds_toArray, List.set_cons_zero, List.set_cons_succ]
  refine takeH (i := 2) (v := ?_) rfl rfl (by kernel_rfl) (by kernel_rfl) (by kernel_rfl) (fun _ _ _ h => h) (by rfl) ?_ hHeld ?_
  rotate_left
  · (intro w hSw; (try dsimp only at hSw); first | (go_simp; done) | (go_simp; with_reducible rfl))
  simp only [Act.put, List.setIfInBounds_toArray, List.set_cons_zero, List.set_cons_succ]
  replace HX := Lib.hid (HX.out.on hd3)
  replace HY := Lib.hid (HY.out.on hd3)
  have HB3 := Lib.hid (HB2.out.trans (hd3.mono HB2.out.size))
  clear hd3 p0 p1 q0 q1 HB2
  obtain ⟨w3, hw3⟩ : ∃ w3, w3 = w2.drew := ⟨_, rfl⟩
  rw [← hw3] at HX HY HB3 ⊢
  clear hw3
  have p0 := HX.out.c0
  have p1 := HX.out.c1
  have q0 := HY.out.c0
  have q1 := HY.out.c1
  refine wpAnyH_ready (rs := [1]) (by kernel_rfl) (by simp) ?_
  refine AllReadyH.cons rfl (fun K hK => ?_) AllReadyH.nil
  go_simp
  refine (number_any c d _).mono ?_
  rintro e w4 ⟨rfl, hb4⟩
  have HB4 := Lib.hid (HB3.out.trans (hb4.mono HB3.out.size))
  replace HX := Lib.hid (HX.out.on hb4)
  replace HY := Lib.hid (HY.out.on hb4)
  clear hb4 p0 p1 q0 q1
  have p0 := HX.out.c0
  have p1 := HX.out.c1
  have q0 := HY.out.c0
  have q1 := HY.out.c1
  go_wp2_with fail
  refine hK.out _ _ ?_ (fun hHeld => ?_)
  · exact ⟨p0, p1, q0, q1⟩
  clear hK K
  refine wpAnyH_ready (rs := [3]) (by kernel_rfl) (by simp) ?_
  refine AllReadyH.cons rfl (fun K hK => ?_) AllReadyH.nil
  go_simp
  refine (number_any a b _).mono ?_
  rintro e w5 ⟨rfl, hb5⟩
  have HB5 := Lib.hid (HB4.out.trans (hb5.mono HB4.out.size))
  replace HX := Lib.hid (HX.out.on hb5)
  replace HY := Lib.hid (HY.out.on hb5)
  clear hb5 p0 p1 q0 q1
  have p0 := HX.out.c0
  have p1 := HX.out.c1
  have q0 := HY.out.c0
  have q1 := HY.out.c1
  go_wp2_with fail
  refine hK.out _ _ ?_ (fun hHeld => ?_)
  · exact ⟨p0, p1, q0, q1⟩
  clear hK K
  refine takeH (i := 4) (v := ?_) rfl rfl (by kernel_rfl) (by kernel_rfl) (by kernel_rfl) (fun _ _ _ h => h) (by rfl) ?_ hHeld ?_
  rotate_left
  · (intro w hSw; (try dsimp only at hSw); first | (go_simp; done) | (go_simp; with_reducible rfl))
  simp only [Act.put, List.setIfInBounds_toArray, List.set_cons_zero, List.set_cons_succ]
  refine takeH (i := 5) (v := ?_) rfl rfl (by kernel_rfl) (by kernel_rfl) (by kernel_rfl) (fun _ _ _ h => h) (by rfl) ?_ hHeld ?_
  rotate_left
  · (intro w hSw; (try dsimp only at hSw); first | (go_simp; done) | (go_simp; with_reducible rfl))
  simp only [Act.put, List.setIfInBounds_toArray, List.set_cons_zero, List.set_cons_succ]
  refine wpAnyH_done (by kernel_rfl) ?_ _
  by_cases g1 : a ≤ c
  · have G1 := Lib.hid (decide_eq_true g1)
    have o1 := geq_yes F1.out (by omega)
    by_cases g2 : b ≤ d
    · have G2 := Lib.hid (decide_eq_true g2)
      have o2 := geq_yes F2.out (by omega)
      clear g1 g2
      go_wp2
      go_ret2
      exact ⟨ret_u (by rw [H1.out, H2.out, G1.out, G2.out]; rfl) (by rw [H1.out, H2.out]; rfl), HB5.out⟩
    · have G2 := Lib.hid (decide_eq_false g2)
      have o2 := geq_no F2.out (by omega)
      clear g1 g2
      go_wp2
      go_ret2
      exact ⟨ret_u (by rw [H1.out, H2.out, G1.out, G2.out]; rfl) (by rw [H1.out, H2.out]; rfl), HB5.out⟩
  · have G1 := Lib.hid (decide_eq_false g1)
    have o1 := geq_no F1.out (by omega)
    clear g1
    go_wp2
    go_ret2
    exact ⟨ret_u (by rw [H1.out, H2.out, G1.out]; rfl) (by rw [H1.out, H2.out]; rfl), HB5.out⟩
end Go.Proofs.YtcjpopjcpgipjaaDoor
