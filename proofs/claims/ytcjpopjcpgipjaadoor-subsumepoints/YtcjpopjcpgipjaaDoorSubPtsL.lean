/-
  The walk of the law SubsumePoints.
-/
import Derived.Test.YtcjpopjcpgipjaaDoorSubRow
namespace Go.Proofs.YtcjpopjcpgipjaaDoor
open Go.RowKit Go.Deep
set_option linter.unusedSimpArgs false
set_option linter.unusedVariables false
set_option maxRecDepth 100000

theorem two_pts_under {ss : List Sym} {c d : Cl} (hm : MayC ss c) (hm2 : MayC ss d) (h : Says ss c d) (w : World) :
    Calls Tryd.prog 25 #[.agg #[.int .i64 (ofX ss c), .int .i64 (ofY ss c)], .agg #[.int .i64 (ofX ss d), .int .i64 (ofY ss d)]] w (UPost true 0 w) := by
  obtain ⟨n1, n2⟩ := of_near hm
  obtain ⟨n3, n4⟩ := of_near hm2
  obtain ⟨u1, u2⟩ := h.under hm hm2
  have k1 : okP (ofX ss c) (ofY ss c) = true := okP_iff.2 ⟨n1, n2⟩
  have k2 : okP (ofX ss d) (ofY ss d) = true := okP_iff.2 ⟨n3, n4⟩
  have hu := under_any (ofX ss c) (ofY ss c) (ofX ss d) (ofY ss d) w
  rw [k1, k2, decide_eq_true u1, decide_eq_true u2] at hu
  exact hu
set_option maxHeartbeats 8000000 in
theorem subsumePoints_walk (A : Option Addr) (n cp : Nat) (ss : List Sym) (v u : Cv) (c d : Cl) (w : World) (h : SymsAt w w.heap.size A n ss) (hn : n ≤ maxLen) (hnc : n ≤ cp) (hc : ClAt w w.heap.size v c) (hd : ClAt w w.heap.size u d) (hT : TabW w) (hTB : 0 < w.heap.size) :
    Calls Tryd.prog 7 #[.slice A n cp, v.val, u.val] w fun e w' => e = .returned (.bool true) ∧ Below w.heap.size w w' := by
  obtain ⟨hx, hy, hb0⟩ := CBox.two hc hd
  have hs0 := h.on hb0
  rw [Cv.val_eq, Cv.val_eq]
  have HVE := Lib.hid v.val_eq
  have HUE := Lib.hid u.val_eq
  unfold Cv.obj at hx hy hb0 hs0
  have HC := Lib.hid hx
  have HD := Lib.hid hy
  have HS := Lib.hid hs0
  have HB0 := Lib.hid hb0
  have HT := Lib.hid hT
  have HTB := Lib.hid hTB
  clear h hc hd hx hy hb0 hs0 hT hTB
  go_enter Tryd.func7, Tryd.ntmps7
  go_wp2_with fail
  refine (awakeS_any _ (HT.out.below HTB.out HB0.out) (Nat.lt_of_lt_of_le HTB.out HB0.out.size)).mono ?_
  rintro e' w1 ⟨rfl, hb1⟩
  have HB1 := Lib.hid (HB0.out.trans (hb1.mono HB0.out.size))
  replace HC := Lib.hid (HC.out.on hb1)
  replace HD := Lib.hid (HD.out.on hb1)
  replace HS := Lib.hid (HS.out.on hb1)
  clear hb1 HB0
  have p0 := HC.out.c0
  have p1 := HC.out.c1
  have p2 := HC.out.c2
  have q0 := HD.out.c0
  have q1 := HD.out.c1
  have q2 := HD.out.c2
  go_wp2_with (go_at_call 14; refine (num_any _ _).mono ?_; rintro e w' ⟨rfl, rfl⟩)
  try rw [← HVE.out]
  try rw [← HUE.out]
  refine (does_any A n cp ss _ _ c d _ HS.out hn hnc HC.out.cl HD.out.cl (HT.out.below HTB.out HB1.out) (Nat.lt_of_lt_of_le HTB.out HB1.out.size)).mono ?_
  rintro e' w2 ⟨rfl, hb2⟩
  have HB2 := Lib.hid (HB1.out.trans (hb2.mono HB1.out.size))
  replace HC := Lib.hid (HC.out.on hb2)
  replace HD := Lib.hid (HD.out.on hb2)
  replace HS := Lib.hid (HS.out.on hb2)
  clear hb2 p0 p1 p2 q0 q1 q2
  cases h1 : okC ss c d
  · rw [subE_no h1, subIs_no h1]
    clear h1
    go_wp2_with (go_at_call 14; refine (num_any _ _).mono ?_; rintro e w' ⟨rfl, rfl⟩)
    go_ret
    exact ⟨rfl, HB2.out⟩
  rw [subE_ok h1]
  cases h2 : subIs ss c d
  · clear h1 h2
    go_wp2_with (go_at_call 14; refine (num_any _ _).mono ?_; rintro e w' ⟨rfl, rfl⟩)
    go_ret
    exact ⟨rfl, HB2.out⟩
  obtain ⟨hm, hm2⟩ := okC_iff.1 h1
  have HSA := Lib.hid ((subIs_iff h1).1 h2)
  have HM := Lib.hid hm
  have HM2 := Lib.hid hm2
  have HEC : Hid (ofE ss c = 0) := by show ofE ss c = 0; unfold ofE; rw [mayC_iff.2 hm]; rfl
  have HED : Hid (ofE ss d = 0) := by show ofE ss d = 0; unfold ofE; rw [mayC_iff.2 hm2]; rfl
  clear h1 h2 hm hm2
  have p0 := HC.out.c0
  have p1 := HC.out.c1
  have p2 := HC.out.c2
  go_wp2_with (go_at_call 14; refine (num_any _ _).mono ?_; rintro e w' ⟨rfl, rfl⟩)
  rw [← HVE.out]
  refine (of_any A n cp ss v c _ HS.out hn hnc HC.out.cl).mono ?_
  rintro e' w3 ⟨rfl, hb3⟩
  rw [HEC.out]
  have HB3 := Lib.hid (HB2.out.trans (hb3.mono HB2.out.size))
  replace HC := Lib.hid (HC.out.on hb3)
  replace HD := Lib.hid (HD.out.on hb3)
  replace HS := Lib.hid (HS.out.on hb3)
  clear hb3 p0 p1 p2
  obtain ⟨x1, hx1⟩ : ∃ x, x = ofX ss c := ⟨_, rfl⟩
  obtain ⟨y1, hy1⟩ : ∃ x, x = ofY ss c := ⟨_, rfl⟩
  rw [← hx1, ← hy1]
  have hb4 := below_new w3 (.cells #[.int .i64 x1, .int .i64 y1] 56)
  have HP1 : Hid (PBox (w3.alloc (.cells #[.int .i64 x1, .int .i64 y1] 56)) w3.heap.size x1 y1) := PBox.new w3 _ _
  have HB4 := Lib.hid (HB3.out.trans (hb4.mono HB3.out.size))
  replace HC := Lib.hid (HC.out.on hb4)
  replace HD := Lib.hid (HD.out.on hb4)
  replace HS := Lib.hid (HS.out.on hb4)
  have q0 := HD.out.c0
  have q1 := HD.out.c1
  have q2 := HD.out.c2
  have HX1 := Lib.hid hx1
  have HY1 := Lib.hid hy1
  clear hb4 hx1 hy1 HB3
  go_wp2_with fail
  rw [← HUE.out]
  refine (of_any A n cp ss u d _ HS.out hn hnc HD.out.cl).mono ?_
  rintro e' w5 ⟨rfl, hb5⟩
  rw [HED.out]
  have HB5 := Lib.hid (HB4.out.trans (hb5.mono HB4.out.size))
  replace HP1 := Lib.hid (HP1.out.on hb5)
  clear hb5 q0 q1 q2 HC HD HS
  obtain ⟨x2, hx2⟩ : ∃ x, x = ofX ss d := ⟨_, rfl⟩
  obtain ⟨y2, hy2⟩ : ∃ x, x = ofY ss d := ⟨_, rfl⟩
  rw [← hx2, ← hy2]
  have hb6 := below_new w5 (.cells #[.int .i64 x2, .int .i64 y2] 56)
  have HP2 : Hid (PBox (w5.alloc (.cells #[.int .i64 x2, .int .i64 y2] 56)) w5.heap.size x2 y2) := PBox.new w5 _ _
  have HB6 := Lib.hid (HB5.out.trans (hb6.mono HB5.out.size))
  replace HP1 := Lib.hid (HP1.out.on hb6)
  have a0 := HP1.out.c0
  have a1 := HP1.out.c1
  have a2 := HP2.out.c0
  have a3 := HP2.out.c1
  have hu := two_pts_under HM.out HM2.out HSA.out (w5.alloc (.cells #[.int .i64 x2, .int .i64 y2] 56))
  rw [← HX1.out, ← HY1.out, ← hx2, ← hy2] at hu
  clear hb6 hx2 hy2 HB5
  go_wp2_with fail
  refine hu.mono ?_
  rintro e' w7 ⟨rfl, hb7⟩
  have HB7 := Lib.hid (HB6.out.trans (hb7.mono HB6.out.size))
  clear hb7 hu a0 a1 a2 a3
  go_wp2_with (go_at_call 14; refine (num_any _ _).mono ?_; rintro e w' ⟨rfl, rfl⟩)
  go_ret
  exact ⟨rfl, HB7.out⟩
end Go.Proofs.YtcjpopjcpgipjaaDoor
