/-
  Contracts: point.ifNear; PointMay and point of quaereref8.
-/
import Derived.Test.YtpplddongkhkbaaPointBase
namespace Go.Proofs.Ytpplddongkhkbaa
open Go.RowKit Go.Deep
set_option linter.unusedSimpArgs false
set_option linter.unusedVariables false
set_option maxRecDepth 100000

set_option maxHeartbeats 4000000 in
theorem ifNear_any (x y : Nat) (a b : Int) (w : World) (hx : FI x a) (hy : FI y b) (ha : -4000000000000 ≤ a ∧ a ≤ 4000000000000) (hb : -4000000000000 ≤ b ∧ b ≤ 4000000000000) :
    Calls Try.prog 28 #[.complex .f64 x y] w (PPost (farX a b) (farY a b) (farE a b) w) := by
  have HB0 := Lib.hid (below_new w (.cells #[.int .i64 0, .int .i64 0] 23))
  have HZ := Lib.hid (PBox.new w 0 0)
  have HP := Lib.hid (pointOf_any x y a b (w.alloc (.cells #[.int .i64 0, .int .i64 0] 23)) hx hy ha hb)
  have HN : Hid (okP a b = false → _) := far_no (x := a) (y := b)
  have HY : Hid (okP a b = true → _) := far_yes (x := a) (y := b)
  clear hx hy ha hb
  go_enter Try.func28, Try.ntmps28
  go_wp2_with fail
  refine HP.out.mono ?_
  rintro e w1 ⟨rfl, hb1⟩
  have HB1 := Lib.hid (HB0.out.trans (hb1.mono HB0.out.size))
  have HZL : Hid (w.heap.size < w1.heap.size) := by show _ < _; have := hb1.size; simp at this; omega
  replace HZ := Lib.hid (HZ.out.on hb1)
  clear hb1 HB0 HP
  have hb2 := below_new w1 (.cells #[.int .i64 0, .int .i64 0] 23)
  have HV := Lib.hid (PBox.new w1 0 0)
  have HB2 := Lib.hid (HB1.out.trans (hb2.mono HB1.out.size))
  replace HZ := Lib.hid (HZ.out.on hb2)
  have HS : Hid (w.heap.size < w1.heap.size) := HZL.out
  clear hb2 HB1
  go_wp2_with (refine store_box rfl 23 (.tmp 4) (.tmp 6) rfl rfl w1.heap.size _ _ rfl rfl HV.out.z rfl (by kernel_rfl) (pt_one _ _) ?_
               intro w4 hg4 hc4 hs4
               have HV4 := Lib.hid (PBox.of hg4)
               have p0 := HV4.out.c0
               have p1 := HV4.out.c1
               have HZ4 := Lib.hid (HZ.out.chg hc4 HS.out)
               have HB4 := Lib.hid (HB2.out.trans (hc4.bel.mono (Nat.le_of_lt HS.out)))
               clear hg4 hc4 hs4 HV HB2 HZ)
  clear p0 p1
  cases ho : okP a b
  · obtain ⟨e1, e2, e3⟩ := HN.out ho
    have HE := Lib.hid (And.intro e1 (And.intro e2 e3))
    clear e1 e2 e3
    refine (pMay_is a b false _ ho).mono ?_
    rintro e w5 ⟨rfl, hb5⟩
    have HB5 := Lib.hid (HB4.out.trans (hb5.mono HB4.out.size))
    replace HZ4 := Lib.hid (HZ4.out.on hb5)
    clear hb5 HB4 HV4 HN HY ho
    go_wp2_with (refine store_box rfl 23 (.tmp 2) (.tmp 10) rfl rfl w.heap.size _ _ rfl rfl HZ4.out.z rfl (by kernel_rfl) (pt_one _ _) ?_
                 intro w6 hg6 hc6 hs6
                 have HG6 := Lib.hid hg6
                 have HB6 := Lib.hid (HB5.out.trans (hc6.bel.mono (Nat.le_refl _)))
                 clear hg6 hc6 hs6 HB5 HZ4)
    refine point_ret rfl (g := w.heap.size) rfl rfl rfl HG6.out ?_
    rw [HE.out.1, HE.out.2.1, HE.out.2.2]
    exact ⟨rfl, HB6.out⟩
  · obtain ⟨e1, e2, e3⟩ := HY.out ho
    have HE := Lib.hid (And.intro e1 (And.intro e2 e3))
    clear e1 e2 e3
    refine (pMay_is a b true _ ho).mono ?_
    rintro e w5 ⟨rfl, hb5⟩
    have HB5 := Lib.hid (HB4.out.trans (hb5.mono HB4.out.size))
    replace HZ4 := Lib.hid (HZ4.out.on hb5)
    replace HV4 := Lib.hid (HV4.out.on hb5)
    clear hb5 HB4 HN HY ho
    have p0 := HV4.out.c0
    have p1 := HV4.out.c1
    go_wp2_with (refine store_box rfl 23 (.tmp 2) (.tmp 11) rfl rfl w.heap.size _ _ rfl rfl HZ4.out.z rfl (by kernel_rfl) (pt_one _ _) ?_
                 intro w6 hg6 hc6 hs6
                 have HG6 := Lib.hid hg6
                 have HB6 := Lib.hid (HB5.out.trans (hc6.bel.mono (Nat.le_refl _)))
                 clear hg6 hc6 hs6 HB5 HZ4)
    refine point_ret rfl (g := w.heap.size) rfl rfl rfl HG6.out ?_
    rw [HE.out.1, HE.out.2.1, HE.out.2.2]
    exact ⟨rfl, HB6.out⟩
set_option maxHeartbeats 4000000 in
theorem refPMay_is (a b : Int) (r : Bool) (w : World) (h : okP a b = r) :
    Calls Try.prog 20 #[.agg #[.int .i64 a, .int .i64 b]] w fun e w' => e = .returned (.bool r) ∧ Below w.heap.size w w' := by
  have hb0 := below_new w (.cells #[.int .i64 a, .int .i64 b] 23)
  have HB0 := Lib.hid hb0
  have HR := Lib.hid h
  clear hb0 h
  by_cases h1 : -1000000 ≤ a
  · by_cases h2 : a ≤ 1000000
    · by_cases h3 : -1000000 ≤ b
      · by_cases h4 : b ≤ 1000000
        · have H : Hid (true = r) := by have := HR.out; unfold okP nearB at this; rw [decide_eq_true h1, decide_eq_true h2, decide_eq_true h3, decide_eq_true h4] at this; exact this
          clear HR
          go_enter Try.func20, Try.ntmps20
          go_wp2
          go_ret
          exact ⟨ret_bool H.out, HB0.out⟩
        · have H : Hid (false = r) := by have := HR.out; unfold okP nearB at this; rw [decide_eq_true h1, decide_eq_true h2, decide_eq_true h3, decide_eq_false h4] at this; exact this
          clear HR
          go_enter Try.func20, Try.ntmps20
          go_wp2
          go_ret
          exact ⟨ret_bool H.out, HB0.out⟩
      · have H : Hid (false = r) := by have := HR.out; unfold okP nearB at this; rw [decide_eq_true h1, decide_eq_true h2, decide_eq_false h3] at this; exact this
        clear HR
        go_enter Try.func20, Try.ntmps20
        go_wp2
        go_ret
        exact ⟨ret_bool H.out, HB0.out⟩
    · have H : Hid (false = r) := by have := HR.out; unfold okP nearB at this; rw [decide_eq_true h1, decide_eq_false h2] at this; exact this
      clear HR
      go_enter Try.func20, Try.ntmps20
      go_wp2
      go_ret
      exact ⟨ret_bool H.out, HB0.out⟩
  · have H : Hid (false = r) := by have := HR.out; unfold okP nearB at this; rw [decide_eq_false h1] at this; exact this
    clear HR
    go_enter Try.func20, Try.ntmps20
    go_wp2
    go_ret
    exact ⟨ret_bool H.out, HB0.out⟩
set_option maxHeartbeats 4000000 in
theorem refPoint_any (a b : Int) (w : World) :
    Calls Try.prog 30 #[.int .i64 a, .int .i64 b] w (PPost (farX a b) (farY a b) (farE a b) w) := by
  have HB0 := Lib.hid (below_new w (.cells #[.int .i64 0, .int .i64 0] 23))
  have HZ := Lib.hid (PBox.new w 0 0)
  have HN : Hid (okP a b = false → _) := far_no (x := a) (y := b)
  have HY : Hid (okP a b = true → _) := far_yes (x := a) (y := b)
  obtain ⟨w1, hw1⟩ : ∃ w1, w1 = w.alloc (.cells #[.int .i64 0, .int .i64 0] 23) := ⟨_, rfl⟩
  have HZL : Hid (w.heap.size < w1.heap.size) := by show _ < _; rw [hw1]; simp
  rw [← hw1] at HZ HB0
  have HB1 := HB0
  clear HB0
  go_enter Try.func30, Try.ntmps30
  go_upto_region 1 with (fail)
  rw [← hw1]
  clear hw1
  have hb2 := below_new w1 (.cells #[.int .i64 0, .int .i64 0] 23)
  have HV := Lib.hid (PBox.new w1 0 0)
  have HB2 := Lib.hid (HB1.out.trans (hb2.mono HB1.out.size))
  replace HZ := Lib.hid (HZ.out.on hb2)
  have HS : Hid (w.heap.size < w1.heap.size) := HZL.out
  clear hb2 HB1
  go_wp2_with (refine store_box rfl 23 (.tmp 6) (.tmp 9) rfl rfl w1.heap.size _ _ rfl rfl HV.out.z rfl (by kernel_rfl) (pt_one _ _) ?_
               intro w4 hg4 hc4 hs4
               have HV4 := Lib.hid (PBox.of hg4)
               have p0 := HV4.out.c0
               have p1 := HV4.out.c1
               have HZ4 := Lib.hid (HZ.out.chg hc4 HS.out)
               have HB4 := Lib.hid (HB2.out.trans (hc4.bel.mono (Nat.le_of_lt HS.out)))
               clear hg4 hc4 hs4 HV HB2 HZ)
  clear p0 p1
  cases ho : okP a b
  · obtain ⟨e1, e2, e3⟩ := HN.out ho
    have HE := Lib.hid (And.intro e1 (And.intro e2 e3))
    clear e1 e2 e3
    refine (refPMay_is a b false _ ho).mono ?_
    rintro e w5 ⟨rfl, hb5⟩
    have HB5 := Lib.hid (HB4.out.trans (hb5.mono HB4.out.size))
    replace HZ4 := Lib.hid (HZ4.out.on hb5)
    clear hb5 HB4 HV4 HN HY ho
    go_wp2_with (refine store_box rfl 23 (.tmp 4) (.tmp 13) rfl rfl w.heap.size _ _ rfl rfl HZ4.out.z rfl (by kernel_rfl) (pt_one _ _) ?_
                 intro w6 hg6 hc6 hs6
                 have HG6 := Lib.hid hg6
                 have HB6 := Lib.hid (HB5.out.trans (hc6.bel.mono (Nat.le_refl _)))
                 clear hg6 hc6 hs6 HB5 HZ4)
    refine point_ret rfl (g := w.heap.size) rfl rfl rfl HG6.out ?_
    rw [HE.out.1, HE.out.2.1, HE.out.2.2]
    exact ⟨rfl, HB6.out⟩
  · obtain ⟨e1, e2, e3⟩ := HY.out ho
    have HE := Lib.hid (And.intro e1 (And.intro e2 e3))
    clear e1 e2 e3
    refine (refPMay_is a b true _ ho).mono ?_
    rintro e w5 ⟨rfl, hb5⟩
    have HB5 := Lib.hid (HB4.out.trans (hb5.mono HB4.out.size))
    replace HZ4 := Lib.hid (HZ4.out.on hb5)
    replace HV4 := Lib.hid (HV4.out.on hb5)
    clear hb5 HB4 HN HY ho
    have p0 := HV4.out.c0
    have p1 := HV4.out.c1
    go_wp2_with (refine store_box rfl 23 (.tmp 4) (.tmp 14) rfl rfl w.heap.size _ _ rfl rfl HZ4.out.z rfl (by kernel_rfl) (pt_one _ _) ?_
                 intro w6 hg6 hc6 hs6
                 have HG6 := Lib.hid hg6
                 have HB6 := Lib.hid (HB5.out.trans (hc6.bel.mono (Nat.le_refl _)))
                 clear hg6 hc6 hs6 HB5 HZ4)
    refine point_ret rfl (g := w.heap.size) rfl rfl rfl HG6.out ?_
    rw [HE.out.1, HE.out.2.1, HE.out.2.2]
    exact ⟨rfl, HB6.out⟩
end Go.Proofs.Ytpplddongkhkbaa
