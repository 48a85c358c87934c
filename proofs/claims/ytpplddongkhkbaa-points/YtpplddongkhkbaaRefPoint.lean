/-
  Contracts of quaereref8: Add, Mul, Flip, Under, Score of points.
-/
import Derived.Test.YtpplddongkhkbaaPointMore
namespace Go.Proofs.Ytpplddongkhkbaa
open Go.RowKit Go.Deep
set_option linter.unusedSimpArgs false
set_option linter.unusedVariables false
set_option maxRecDepth 100000

set_option maxHeartbeats 8000000 in
theorem refAdd_pt (a b c d : Int) (w : World) : Calls Try.prog 10 #[.agg #[.int .i64 a, .int .i64 b], .agg #[.int .i64 c, .int .i64 d]] w
    (PPost (two (okP a b && okP c d) (farX (a + c) (b + d)) 0) (two (okP a b && okP c d) (farY (a + c) (b + d)) 0) (two (okP a b && okP c d) (farE (a + c) (b + d)) 900) w) := by
  obtain ⟨w0, hw0, hb0, hx0, hy0, hz0⟩ := three_pts w a b c d
  have HB0 := Lib.hid hb0
  have HX := Lib.hid hx0
  have HY := Lib.hid hy0
  have HZ := Lib.hid hz0
  go_enter Try.func10, Try.ntmps10
  go_upto_region 1 with (fail)
  rw [← hw0]
  clear hw0 hb0 hx0 hy0 hz0
  cases h1 : okP a b
  · have H1 := Lib.hid h1
    have p0 := HX.out.c0
    have p1 := HX.out.c1
    have q0 := HY.out.c0
    have q1 := HY.out.c1
    go_wp2_with fail
    refine (refPMay_is a b false _ h1).mono ?_
    rintro e w1 ⟨rfl, hb1⟩
    have HB1 := Lib.hid (HB0.out.trans (hb1.mono HB0.out.size))
    replace HZ := Lib.hid (HZ.out.on hb1)
    clear hb1 p0 p1 q0 q1 HB0 h1
    go_wp2_with (refine store_box rfl 23 (.tmp 4) (.tmp 14) rfl rfl (w.heap.size + 1 + 1) _ _ rfl rfl HZ.out.z rfl (by kernel_rfl) (pt_one _ _) ?_
                 intro w9 hg9 hc9 hs9
                 have HG9 := Lib.hid hg9
                 have HB9 := Lib.hid (HB1.out.trans (hc9.bel.mono (by omega)))
                 clear hg9 hc9 hs9 HB1 HZ)
    refine point_ret rfl (g := w.heap.size + 1 + 1) rfl rfl rfl HG9.out ?_
    rw [show (okP a b && okP c d) = false by first | (rw [H1.out]; rfl) | (rw [H2.out]; cases okP a b <;> rfl)]
    exact ⟨rfl, HB9.out⟩
  have H1 := Lib.hid h1
  cases h2 : okP c d
  · have H2 := Lib.hid h2
    have p0 := HX.out.c0
    have p1 := HX.out.c1
    have q0 := HY.out.c0
    have q1 := HY.out.c1
    go_wp2_with fail
    refine (refPMay_is a b true _ h1).mono ?_
    rintro e w1 ⟨rfl, hb1⟩
    have HB1 := Lib.hid (HB0.out.trans (hb1.mono HB0.out.size))
    replace HX := Lib.hid (HX.out.on hb1)
    replace HY := Lib.hid (HY.out.on hb1)
    replace HZ := Lib.hid (HZ.out.on hb1)
    clear hb1 p0 p1 q0 q1 HB0 h1
    have p0 := HX.out.c0
    have p1 := HX.out.c1
    have q0 := HY.out.c0
    have q1 := HY.out.c1
    go_wp2_with fail
    refine (refPMay_is c d false _ h2).mono ?_
    rintro e w2 ⟨rfl, hb2⟩
    have HB2 := Lib.hid (HB1.out.trans (hb2.mono HB1.out.size))
    replace HZ := Lib.hid (HZ.out.on hb2)
    clear hb2 p0 p1 q0 q1 HB1 h2
    go_wp2_with (refine store_box rfl 23 (.tmp 4) (.tmp 14) rfl rfl (w.heap.size + 1 + 1) _ _ rfl rfl HZ.out.z rfl (by kernel_rfl) (pt_one _ _) ?_
                 intro w9 hg9 hc9 hs9
                 have HG9 := Lib.hid hg9
                 have HB9 := Lib.hid (HB2.out.trans (hc9.bel.mono (by omega)))
                 clear hg9 hc9 hs9 HB2 HZ)
    refine point_ret rfl (g := w.heap.size + 1 + 1) rfl rfl rfl HG9.out ?_
    rw [show (okP a b && okP c d) = false by first | (rw [H1.out]; rfl) | (rw [H2.out]; cases okP a b <;> rfl)]
    exact ⟨rfl, HB9.out⟩
  have H2 := Lib.hid h2
  have p0 := HX.out.c0
  have p1 := HX.out.c1
  have q0 := HY.out.c0
  have q1 := HY.out.c1
  go_wp2_with fail
  refine (refPMay_is a b true _ h1).mono ?_
  rintro e w1 ⟨rfl, hb1⟩
  have HB1 := Lib.hid (HB0.out.trans (hb1.mono HB0.out.size))
  replace HX := Lib.hid (HX.out.on hb1)
  replace HY := Lib.hid (HY.out.on hb1)
  replace HZ := Lib.hid (HZ.out.on hb1)
  clear hb1 p0 p1 q0 q1 HB0 h1
  have p0 := HX.out.c0
  have p1 := HX.out.c1
  have q0 := HY.out.c0
  have q1 := HY.out.c1
  go_wp2_with fail
  refine (refPMay_is c d true _ h2).mono ?_
  rintro e w2 ⟨rfl, hb2⟩
  have HB2 := Lib.hid (HB1.out.trans (hb2.mono HB1.out.size))
  replace HX := Lib.hid (HX.out.on hb2)
  replace HY := Lib.hid (HY.out.on hb2)
  replace HZ := Lib.hid (HZ.out.on hb2)
  clear hb2 p0 p1 q0 q1 HB1 h2
  have p0 := HX.out.c0
  have p1 := HX.out.c1
  have q0 := HY.out.c0
  have q1 := HY.out.c1
  obtain ⟨⟨k1, k2⟩, k3, k4⟩ := ok_parts H1.out
  obtain ⟨⟨k5, k6⟩, k7, k8⟩ := ok_parts H2.out
  go_wp2_with fail
  refine (refPoint_any (a + c) (b + d) _).mono ?_
  rintro e w6 ⟨rfl, hb6⟩
  have HB6 := Lib.hid (HB2.out.trans (hb6.mono HB2.out.size))
  replace HX := Lib.hid (HX.out.on hb6)
  replace HY := Lib.hid (HY.out.on hb6)
  replace HZ := Lib.hid (HZ.out.on hb6)
  clear hb6 p0 p1 q0 q1 HB2
  go_wp2_with (refine store_box rfl 23 (.tmp 4) (.tmp 26) rfl rfl (w.heap.size + 1 + 1) _ _ rfl rfl HZ.out.z rfl (by kernel_rfl) (pt_one _ _) ?_
               intro w9 hg9 hc9 hs9
               have HG9 := Lib.hid hg9
               have HB9 := Lib.hid (HB6.out.trans (hc9.bel.mono (by omega)))
               clear hg9 hc9 hs9 HB6 HZ)
  refine point_ret rfl (g := w.heap.size + 1 + 1) rfl rfl rfl HG9.out ?_
  rw [show (okP a b && okP c d) = true by rw [H1.out, H2.out]; rfl]
  exact ⟨rfl, HB9.out⟩
set_option maxHeartbeats 8000000 in
theorem refMul_pt (a b c d : Int) (w : World) : Calls Try.prog 12 #[.agg #[.int .i64 a, .int .i64 b], .agg #[.int .i64 c, .int .i64 d]] w
    (PPost (two (okP a b && okP c d) (farX (a * c - b * d) (a * d + b * c)) 0) (two (okP a b && okP c d) (farY (a * c - b * d) (a * d + b * c)) 0) (two (okP a b && okP c d) (farE (a * c - b * d) (a * d + b * c)) 900) w) := by
  obtain ⟨w0, hw0, hb0, hx0, hy0, hz0⟩ := three_pts w a b c d
  have HB0 := Lib.hid hb0
  have HX := Lib.hid hx0
  have HY := Lib.hid hy0
  have HZ := Lib.hid hz0
  go_enter Try.func12, Try.ntmps12
  go_upto_region 1 with (fail)
  rw [← hw0]
  clear hw0 hb0 hx0 hy0 hz0
  cases h1 : okP a b
  · have H1 := Lib.hid h1
    have p0 := HX.out.c0
    have p1 := HX.out.c1
    have q0 := HY.out.c0
    have q1 := HY.out.c1
    go_wp2_with fail
    refine (refPMay_is a b false _ h1).mono ?_
    rintro e w1 ⟨rfl, hb1⟩
    have HB1 := Lib.hid (HB0.out.trans (hb1.mono HB0.out.size))
    replace HZ := Lib.hid (HZ.out.on hb1)
    clear hb1 p0 p1 q0 q1 HB0 h1
    go_wp2_with (refine store_box rfl 23 (.tmp 4) (.tmp 14) rfl rfl (w.heap.size + 1 + 1) _ _ rfl rfl HZ.out.z rfl (by kernel_rfl) (pt_one _ _) ?_
                 intro w9 hg9 hc9 hs9
                 have HG9 := Lib.hid hg9
                 have HB9 := Lib.hid (HB1.out.trans (hc9.bel.mono (by omega)))
                 clear hg9 hc9 hs9 HB1 HZ)
    refine point_ret rfl (g := w.heap.size + 1 + 1) rfl rfl rfl HG9.out ?_
    rw [show (okP a b && okP c d) = false by first | (rw [H1.out]; rfl) | (rw [H2.out]; cases okP a b <;> rfl)]
    exact ⟨rfl, HB9.out⟩
  have H1 := Lib.hid h1
  cases h2 : okP c d
  · have H2 := Lib.hid h2
    have p0 := HX.out.c0
    have p1 := HX.out.c1
    have q0 := HY.out.c0
    have q1 := HY.out.c1
    go_wp2_with fail
    refine (refPMay_is a b true _ h1).mono ?_
    rintro e w1 ⟨rfl, hb1⟩
    have HB1 := Lib.hid (HB0.out.trans (hb1.mono HB0.out.size))
    replace HX := Lib.hid (HX.out.on hb1)
    replace HY := Lib.hid (HY.out.on hb1)
    replace HZ := Lib.hid (HZ.out.on hb1)
    clear hb1 p0 p1 q0 q1 HB0 h1
    have p0 := HX.out.c0
    have p1 := HX.out.c1
    have q0 := HY.out.c0
    have q1 := HY.out.c1
    go_wp2_with fail
    refine (refPMay_is c d false _ h2).mono ?_
    rintro e w2 ⟨rfl, hb2⟩
    have HB2 := Lib.hid (HB1.out.trans (hb2.mono HB1.out.size))
    replace HZ := Lib.hid (HZ.out.on hb2)
    clear hb2 p0 p1 q0 q1 HB1 h2
    go_wp2_with (refine store_box rfl 23 (.tmp 4) (.tmp 14) rfl rfl (w.heap.size + 1 + 1) _ _ rfl rfl HZ.out.z rfl (by kernel_rfl) (pt_one _ _) ?_
                 intro w9 hg9 hc9 hs9
                 have HG9 := Lib.hid hg9
                 have HB9 := Lib.hid (HB2.out.trans (hc9.bel.mono (by omega)))
                 clear hg9 hc9 hs9 HB2 HZ)
    refine point_ret rfl (g := w.heap.size + 1 + 1) rfl rfl rfl HG9.out ?_
    rw [show (okP a b && okP c d) = false by first | (rw [H1.out]; rfl) | (rw [H2.out]; cases okP a b <;> rfl)]
    exact ⟨rfl, HB9.out⟩
  have H2 := Lib.hid h2
  have p0 := HX.out.c0
  have p1 := HX.out.c1
  have q0 := HY.out.c0
  have q1 := HY.out.c1
  go_wp2_with fail
  refine (refPMay_is a b true _ h1).mono ?_
  rintro e w1 ⟨rfl, hb1⟩
  have HB1 := Lib.hid (HB0.out.trans (hb1.mono HB0.out.size))
  replace HX := Lib.hid (HX.out.on hb1)
  replace HY := Lib.hid (HY.out.on hb1)
  replace HZ := Lib.hid (HZ.out.on hb1)
  clear hb1 p0 p1 q0 q1 HB0 h1
  have p0 := HX.out.c0
  have p1 := HX.out.c1
  have q0 := HY.out.c0
  have q1 := HY.out.c1
  go_wp2_with fail
  refine (refPMay_is c d true _ h2).mono ?_
  rintro e w2 ⟨rfl, hb2⟩
  have HB2 := Lib.hid (HB1.out.trans (hb2.mono HB1.out.size))
  replace HX := Lib.hid (HX.out.on hb2)
  replace HY := Lib.hid (HY.out.on hb2)
  replace HZ := Lib.hid (HZ.out.on hb2)
  clear hb2 p0 p1 q0 q1 HB1 h2
  have p0 := HX.out.c0
  have p1 := HX.out.c1
  have q0 := HY.out.c0
  have q1 := HY.out.c1
  obtain ⟨k1, k2⟩ := ok_parts H1.out
  obtain ⟨k3, k4⟩ := ok_parts H2.out
  obtain ⟨m1, m2⟩ := mul_bd k1 k3
  obtain ⟨m3, m4⟩ := mul_bd k2 k4
  obtain ⟨m5, m6⟩ := mul_bd k1 k4
  obtain ⟨m7, m8⟩ := mul_bd k2 k3
  clear k1 k2 k3 k4
  go_wp2_with fail
  refine (refPoint_any (a * c - b * d) (a * d + b * c) _).mono ?_
  rintro e w6 ⟨rfl, hb6⟩
  have HB6 := Lib.hid (HB2.out.trans (hb6.mono HB2.out.size))
  replace HX := Lib.hid (HX.out.on hb6)
  replace HY := Lib.hid (HY.out.on hb6)
  replace HZ := Lib.hid (HZ.out.on hb6)
  clear hb6 p0 p1 q0 q1 HB2
  go_wp2_with (refine store_box rfl 23 (.tmp 4) (.tmp 38) rfl rfl (w.heap.size + 1 + 1) _ _ rfl rfl HZ.out.z rfl (by kernel_rfl) (pt_one _ _) ?_
               intro w9 hg9 hc9 hs9
               have HG9 := Lib.hid hg9
               have HB9 := Lib.hid (HB6.out.trans (hc9.bel.mono (by omega)))
               clear hg9 hc9 hs9 HB6 HZ)
  refine point_ret rfl (g := w.heap.size + 1 + 1) rfl rfl rfl HG9.out ?_
  rw [show (okP a b && okP c d) = true by rw [H1.out, H2.out]; rfl]
  exact ⟨rfl, HB9.out⟩
set_option maxHeartbeats 4000000 in
theorem refFlip_pt (a b : Int) (w : World) : Calls Try.prog 14 #[.agg #[.int .i64 a, .int .i64 b]] w
    (PPost (two (okP a b) b 0) (two (okP a b) a 0) (two (okP a b) 0 900) w) := by
  obtain ⟨w0, hw0, hb0, hx0, hz0⟩ := two_pts w a b 0 0
  have HB0 := Lib.hid hb0
  have HX := Lib.hid hx0
  have HZ := Lib.hid hz0
  go_enter Try.func14, Try.ntmps14
  go_upto_region 1 with (fail)
  rw [← hw0]
  clear hw0 hb0 hx0 hz0
  cases h1 : okP a b
  · have H1 := Lib.hid h1
    have p0 := HX.out.c0
    have p1 := HX.out.c1
    go_wp2_with fail
    refine (refPMay_is a b false _ h1).mono ?_
    rintro e w1 ⟨rfl, hb1⟩
    have HB1 := Lib.hid (HB0.out.trans (hb1.mono HB0.out.size))
    replace HZ := Lib.hid (HZ.out.on hb1)
    clear hb1 p0 p1 HB0 h1
    go_wp2_with (refine store_box rfl 23 (.tmp 2) (.tmp 7) rfl rfl (w.heap.size + 1) _ _ rfl rfl HZ.out.z rfl (by kernel_rfl) (pt_one _ _) ?_
                 intro w9 hg9 hc9 hs9
                 have HG9 := Lib.hid hg9
                 have HB9 := Lib.hid (HB1.out.trans (hc9.bel.mono (by omega)))
                 clear hg9 hc9 hs9 HB1 HZ)
    refine point_ret rfl (g := w.heap.size + 1) rfl rfl rfl HG9.out ?_
    rw [H1.out]
    exact ⟨rfl, HB9.out⟩
  · have H1 := Lib.hid h1
    have p0 := HX.out.c0
    have p1 := HX.out.c1
    go_wp2_with fail
    refine (refPMay_is a b true _ h1).mono ?_
    rintro e w1 ⟨rfl, hb1⟩
    have HB1 := Lib.hid (HB0.out.trans (hb1.mono HB0.out.size))
    replace HX := Lib.hid (HX.out.on hb1)
    replace HZ := Lib.hid (HZ.out.on hb1)
    clear hb1 p0 p1 HB0 h1
    have p0 := HX.out.c0
    have p1 := HX.out.c1
    go_wp2_with (refine store_box rfl 23 (.tmp 2) (.tmp 12) rfl rfl (w.heap.size + 1) _ _ rfl rfl HZ.out.z rfl (by kernel_rfl) (pt_one _ _) ?_
                 intro w9 hg9 hc9 hs9
                 have HG9 := Lib.hid hg9
                 have HB9 := Lib.hid (HB1.out.trans (hc9.bel.mono (by omega)))
                 clear hg9 hc9 hs9 HB1 HZ)
    refine point_ret rfl (g := w.heap.size + 1) rfl rfl rfl HG9.out ?_
    rw [H1.out]
    exact ⟨rfl, HB9.out⟩

set_option maxHeartbeats 4000000 in
theorem refScore_pt (a b c d : Int) (w : World) : Calls Try.prog 18 #[.agg #[.int .i64 a, .int .i64 b], .agg #[.int .i64 c, .int .i64 d]] w
    (SPost (two (okP a b && okP c d) (a * c + b * d) 0) (two (okP a b && okP c d) 0 900) w) := by
  obtain ⟨w0, hw0, hb0, hx0, hy0⟩ := two_pts w a b c d
  have HB0 := Lib.hid hb0
  have HX := Lib.hid hx0
  have HY := Lib.hid hy0
  go_enter Try.func18, Try.ntmps18
  go_upto_region 1 with (fail)
  rw [← hw0]
  clear hw0 hb0 hx0 hy0
  cases h1 : okP a b
  · have H1 := Lib.hid h1
    have p0 := HX.out.c0
    have p1 := HX.out.c1
    have q0 := HY.out.c0
    have q1 := HY.out.c1
    go_wp2_with fail
    refine (refPMay_is a b false _ h1).mono ?_
    rintro e w1 ⟨rfl, hb1⟩
    have HB1 := Lib.hid (HB0.out.trans (hb1.mono HB0.out.size))
    clear hb1 p0 p1 q0 q1 HB0 h1
    go_wp2
    go_ret2
    exact ⟨ret_s (by rw [H1.out]; rfl) (by rw [H1.out]; rfl), HB1.out⟩
  have H1 := Lib.hid h1
  cases h2 : okP c d
  · have H2 := Lib.hid h2
    have p0 := HX.out.c0
    have p1 := HX.out.c1
    have q0 := HY.out.c0
    have q1 := HY.out.c1
    go_wp2_with fail
    refine (refPMay_is a b true _ h1).mono ?_
    rintro e w1 ⟨rfl, hb1⟩
    have HB1 := Lib.hid (HB0.out.trans (hb1.mono HB0.out.size))
    replace HX := Lib.hid (HX.out.on hb1)
    replace HY := Lib.hid (HY.out.on hb1)
    clear hb1 p0 p1 q0 q1 HB0 h1
    have p0 := HX.out.c0
    have p1 := HX.out.c1
    have q0 := HY.out.c0
    have q1 := HY.out.c1
    go_wp2_with fail
    refine (refPMay_is c d false _ h2).mono ?_
    rintro e w2 ⟨rfl, hb2⟩
    have HB2 := Lib.hid (HB1.out.trans (hb2.mono HB1.out.size))
    clear hb2 p0 p1 q0 q1 HB1 h2
    go_wp2
    go_ret2
    exact ⟨ret_s (by rw [H1.out, H2.out]; rfl) (by rw [H1.out, H2.out]; rfl), HB2.out⟩
  have H2 := Lib.hid h2
  have p0 := HX.out.c0
  have p1 := HX.out.c1
  have q0 := HY.out.c0
  have q1 := HY.out.c1
  go_wp2_with fail
  refine (refPMay_is a b true _ h1).mono ?_
  rintro e w1 ⟨rfl, hb1⟩
  have HB1 := Lib.hid (HB0.out.trans (hb1.mono HB0.out.size))
  replace HX := Lib.hid (HX.out.on hb1)
  replace HY := Lib.hid (HY.out.on hb1)
  clear hb1 p0 p1 q0 q1 HB0 h1
  have p0 := HX.out.c0
  have p1 := HX.out.c1
  have q0 := HY.out.c0
  have q1 := HY.out.c1
  go_wp2_with fail
  refine (refPMay_is c d true _ h2).mono ?_
  rintro e w2 ⟨rfl, hb2⟩
  have HB2 := Lib.hid (HB1.out.trans (hb2.mono HB1.out.size))
  replace HX := Lib.hid (HX.out.on hb2)
  replace HY := Lib.hid (HY.out.on hb2)
  clear hb2 p0 p1 q0 q1 HB1 h2
  have p0 := HX.out.c0
  have p1 := HX.out.c1
  have q0 := HY.out.c0
  have q1 := HY.out.c1
  obtain ⟨k1, k2⟩ := ok_parts H1.out
  obtain ⟨k3, k4⟩ := ok_parts H2.out
  obtain ⟨m1, m2⟩ := mul_bd k1 k3
  obtain ⟨m3, m4⟩ := mul_bd k2 k4
  clear k1 k2 k3 k4
  go_wp2
  go_ret2
  exact ⟨ret_s (by rw [H1.out, H2.out]; rfl) (by rw [H1.out, H2.out]; rfl), HB2.out⟩
set_option maxHeartbeats 4000000 in
theorem refUnder_pt (a b c d : Int) (w : World) : Calls Try.prog 16 #[.agg #[.int .i64 a, .int .i64 b], .agg #[.int .i64 c, .int .i64 d]] w
    (UPost ((okP a b && okP c d) && (decide (a ≤ c) && decide (b ≤ d))) (two (okP a b && okP c d) 0 900) w) := by
  obtain ⟨w0, hw0, hb0, hx0, hy0⟩ := two_pts w a b c d
  have HB0 := Lib.hid hb0
  have HX := Lib.hid hx0
  have HY := Lib.hid hy0
  go_enter Try.func16, Try.ntmps16
  go_upto_region 1 with (fail)
  rw [← hw0]
  clear hw0 hb0 hx0 hy0
  cases h1 : okP a b
  · have H1 := Lib.hid h1
    have p0 := HX.out.c0
    have p1 := HX.out.c1
    have q0 := HY.out.c0
    have q1 := HY.out.c1
    go_wp2_with fail
    refine (refPMay_is a b false _ h1).mono ?_
    rintro e w1 ⟨rfl, hb1⟩
    have HB1 := Lib.hid (HB0.out.trans (hb1.mono HB0.out.size))
    clear hb1 p0 p1 q0 q1 HB0 h1
    go_wp2
    go_ret2
    exact ⟨ret_u (by rw [H1.out]; rfl) (by rw [H1.out]; rfl), HB1.out⟩
  have H1 := Lib.hid h1
  cases h2 : okP c d
  · have H2 := Lib.hid h2
    have p0 := HX.out.c0
    have p1 := HX.out.c1
    have q0 := HY.out.c0
    have q1 := HY.out.c1
    go_wp2_with fail
    refine (refPMay_is a b true _ h1).mono ?_
    rintro e w1 ⟨rfl, hb1⟩
    have HB1 := Lib.hid (HB0.out.trans (hb1.mono HB0.out.size))
    replace HX := Lib.hid (HX.out.on hb1)
    replace HY := Lib.hid (HY.out.on hb1)
    clear hb1 p0 p1 q0 q1 HB0 h1
    have p0 := HX.out.c0
    have p1 := HX.out.c1
    have q0 := HY.out.c0
    have q1 := HY.out.c1
    go_wp2_with fail
    refine (refPMay_is c d false _ h2).mono ?_
    rintro e w2 ⟨rfl, hb2⟩
    have HB2 := Lib.hid (HB1.out.trans (hb2.mono HB1.out.size))
    clear hb2 p0 p1 q0 q1 HB1 h2
    go_wp2
    go_ret2
    exact ⟨ret_u (by rw [H1.out, H2.out]; rfl) (by rw [H1.out, H2.out]; rfl), HB2.out⟩
  have H2 := Lib.hid h2
  have p0 := HX.out.c0
  have p1 := HX.out.c1
  have q0 := HY.out.c0
  have q1 := HY.out.c1
  go_wp2_with fail
  refine (refPMay_is a b true _ h1).mono ?_
  rintro e w1 ⟨rfl, hb1⟩
  have HB1 := Lib.hid (HB0.out.trans (hb1.mono HB0.out.size))
  replace HX := Lib.hid (HX.out.on hb1)
  replace HY := Lib.hid (HY.out.on hb1)
  clear hb1 p0 p1 q0 q1 HB0 h1
  have p0 := HX.out.c0
  have p1 := HX.out.c1
  have q0 := HY.out.c0
  have q1 := HY.out.c1
  go_wp2_with fail
  refine (refPMay_is c d true _ h2).mono ?_
  rintro e w2 ⟨rfl, hb2⟩
  have HB2 := Lib.hid (HB1.out.trans (hb2.mono HB1.out.size))
  replace HX := Lib.hid (HX.out.on hb2)
  replace HY := Lib.hid (HY.out.on hb2)
  clear hb2 p0 p1 q0 q1 HB1 h2
  have p0 := HX.out.c0
  have p1 := HX.out.c1
  have q0 := HY.out.c0
  have q1 := HY.out.c1
  by_cases g1 : a ≤ c
  · have G1 := Lib.hid (decide_eq_true g1)
    by_cases g2 : b ≤ d
    · have G2 := Lib.hid (decide_eq_true g2)
      go_wp2
      go_ret2
      exact ⟨ret_u (by rw [H1.out, H2.out, G1.out, G2.out]; rfl) (by rw [H1.out, H2.out]; rfl), HB2.out⟩
    · have G2 := Lib.hid (decide_eq_false g2)
      go_wp2
      go_ret2
      exact ⟨ret_u (by rw [H1.out, H2.out, G1.out, G2.out]; rfl) (by rw [H1.out, H2.out]; rfl), HB2.out⟩
  · have G1 := Lib.hid (decide_eq_false g1)
    go_wp2
    go_ret2
    exact ⟨ret_u (by rw [H1.out, H2.out, G1.out]; rfl) (by rw [H1.out, H2.out]; rfl), HB2.out⟩
end Go.Proofs.Ytpplddongkhkbaa
