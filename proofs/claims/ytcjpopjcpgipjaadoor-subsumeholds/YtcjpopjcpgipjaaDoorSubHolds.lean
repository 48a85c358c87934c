/-
  The walk of the law SubsumeHolds.
-/
import Derived.Test.YtcjpopjcpgipjaaDoorSubRow
import Derived.Test.YtcjpopjcpgipjaaDoorClauseHolds
import Derived.Test.YtcjpopjcpgipjaaDoorClauseVars
import Derived.Test.YtcjpopjcpgipjaaDoorPlainSub4
namespace Go.Proofs.YtcjpopjcpgipjaaDoor
open Go.RowKit Go.Deep
set_option linter.unusedSimpArgs false
set_option linter.unusedVariables false
set_option maxRecDepth 100000

set_option maxHeartbeats 16000000 in
theorem subsumeHolds_walk (A An : Option Addr) (n cp nn cn : Nat) (ss : List Sym) (v u : Cv) (c d : Cl) (k : Int) (nums : List Int) (w : World) (h : SymsAt w w.heap.size A n ss) (hn : n ≤ maxLen) (hnc : n ≤ cp) (hc : ClAt w w.heap.size v c) (hd : ClAt w w.heap.size u d) (hN : IntsAt w w.heap.size An nn nums) (hnn : nn ≤ 17592186044416) (hT : TabW w) (hTB : 0 < w.heap.size) :
    Calls Tryd.prog 6 #[.slice A n cp, v.val, u.val, .int .i64 k, .slice An nn cn] w fun e w' => e = .returned (.bool true) ∧ Below w.heap.size w w' := by
  obtain ⟨hx, hy, hb0⟩ := CBox.two hc hd
  have hs0 := h.on hb0
  have hn0 := hN.on hb0
  rw [Cv.val_eq, Cv.val_eq]
  have HVE := Lib.hid v.val_eq
  have HUE := Lib.hid u.val_eq
  unfold Cv.obj at hx hy hb0 hs0 hn0
  have HC := Lib.hid hx
  have HD := Lib.hid hy
  have HS := Lib.hid hs0
  have HNU := Lib.hid hn0
  have HB0 := Lib.hid hb0
  have HT := Lib.hid hT
  have HTB := Lib.hid hTB
  clear h hc hd hx hy hb0 hs0 hT hTB hN hn0
  go_enter Tryd.func6, Tryd.ntmps6
  go_wp2_with fail
  refine (awakeS_any _ (HT.out.below HTB.out HB0.out) (Nat.lt_of_lt_of_le HTB.out HB0.out.size)).mono ?_
  rintro e' w1 ⟨rfl, hb1⟩
  have HB1 := Lib.hid (HB0.out.trans (hb1.mono HB0.out.size))
  replace HC := Lib.hid (HC.out.on hb1)
  replace HD := Lib.hid (HD.out.on hb1)
  replace HS := Lib.hid (HS.out.on hb1)
  replace HNU := Lib.hid (HNU.out.on hb1)
  clear hb1 HB0
  have p0 := HC.out.c0
  have p1 := HC.out.c1
  have p2 := HC.out.c2
  have q0 := HD.out.c0
  have q1 := HD.out.c1
  have q2 := HD.out.c2
  go_wp2_with (go_at_call 14; refine (num_any _ _).mono ?_; rintro e w' ⟨rfl, rfl⟩)
  try rw [← HVE.out]
  try rw [← HUE.out]
  refine (does_any A n cp ss _ _ c d _ HS.out hn hnc HC.out.cl HD.out.cl (HT.out.below HTB.out HB1.out) (Nat.lt_of_lt_of_le HTB.out HB1.out.size)).mono ?_
  rintro e' w2 ⟨rfl, hb2⟩
  have HB2 := Lib.hid (HB1.out.trans (hb2.mono HB1.out.size))
  replace HC := Lib.hid (HC.out.on hb2)
  replace HD := Lib.hid (HD.out.on hb2)
  replace HNU := Lib.hid (HNU.out.on hb2)
  replace HS := Lib.hid (HS.out.on hb2)
  clear hb2 p0 p1 p2 q0 q1 q2
  cases h1 : okC ss c d
  · rw [subE_no h1, subIs_no h1]
    clear h1
    go_wp2_with (go_at_call 14; refine (num_any _ _).mono ?_; rintro e w' ⟨rfl, rfl⟩)
    go_ret
    exact ⟨rfl, HB2.out⟩
  rw [subE_ok h1]
  cases h2 : subIs ss c d
  · clear h1 h2
    go_wp2_with (go_at_call 14; refine (num_any _ _).mono ?_; rintro e w' ⟨rfl, rfl⟩)
    go_ret
    exact ⟨rfl, HB2.out⟩
  by_cases h0 : nn = 0
  · subst h0
    clear h1 h2
    go_wp2_with (go_at_call 14; refine (num_any _ _).mono ?_; rintro e w' ⟨rfl, rfl⟩)
    go_ret
    exact ⟨rfl, HB2.out⟩
  have h0' : ((nn : Int) == 0) = false := by simp; omega
  obtain ⟨hm, hm2⟩ := okC_iff.1 h1
  have HSA := Lib.hid ((subIs_iff h1).1 h2)
  have HM := Lib.hid hm
  have HM2 := Lib.hid hm2
  have HEC : Hid (clE ss c = 0) := by show clE ss c = 0; unfold clE; rw [mayC_iff.2 hm]; rfl
  have HED : Hid (clE ss d = 0) := by show clE ss d = 0; unfold clE; rw [mayC_iff.2 hm2]; rfl
  clear h1 h2 hm hm2 h0
  have p0 := HC.out.c0
  have p1 := HC.out.c1
  have p2 := HC.out.c2
  go_wp2_with (go_at_call 14; refine (num_any _ _).mono ?_; rintro e w' ⟨rfl, rfl⟩)
  rw [← HVE.out]
  refine (varsC_any A n cp ss _ c _ HS.out hn hnc HC.out.cl).mono ?_
  rintro e' w3 ⟨vv, rfl, hv, hb3⟩
  have HB3 := Lib.hid (HB2.out.trans (hb3.mono HB2.out.size))
  replace HC := Lib.hid (HC.out.on hb3)
  replace HD := Lib.hid (HD.out.on hb3)
  replace HS := Lib.hid (HS.out.on hb3)
  replace HNU := Lib.hid (HNU.out.on hb3)
  obtain ⟨AV3, cv3, hv', _, _⟩ := hv.intsAt
  obtain ⟨nv3, hnv⟩ : ∃ nv, nv = (varsO ss c).length := ⟨_, rfl⟩
  rw [← hnv] at hv'
  subst hv'
  clear hb3 p0 p1 p2 hv hnv
  rw [HEC.out]
  have p0 := HD.out.c0
  have p1 := HD.out.c1
  have p2 := HD.out.c2
  go_wp2_with (go_at_call 14; refine (num_any _ _).mono ?_; rintro e w' ⟨rfl, rfl⟩)
  rw [← HUE.out]
  refine (varsC_any A n cp ss _ d _ HS.out hn hnc HD.out.cl).mono ?_
  rintro e' w4 ⟨vv, rfl, hv, hb4⟩
  have HB4 := Lib.hid (HB3.out.trans (hb4.mono HB3.out.size))
  replace HC := Lib.hid (HC.out.on hb4)
  replace HD := Lib.hid (HD.out.on hb4)
  replace HS := Lib.hid (HS.out.on hb4)
  replace HNU := Lib.hid (HNU.out.on hb4)
  obtain ⟨AV4, cv4, hv', _, _⟩ := hv.intsAt
  obtain ⟨nv4, hnv⟩ : ∃ nv, nv = (varsO ss d).length := ⟨_, rfl⟩
  rw [← hnv] at hv'
  subst hv'
  clear hb4 p0 p1 p2 hv hnv
  rw [HED.out]
  go_wp2_with (go_at_call 14; refine (num_any _ _).mono ?_; rintro e w' ⟨rfl, rfl⟩)
  by_cases hf : (nv3 : Int) ≤ 6
  case neg =>
    refine (refFew_any AV3 nv3 cv3 false _ (decide_eq_false hf)).mono ?_
    rintro e' w' ⟨rfl, rfl⟩
    clear hf
    go_wp2
    go_ret
    exact ⟨rfl, HB4.out⟩
  refine (refFew_any AV3 nv3 cv3 true _ (decide_eq_true hf)).mono ?_
  rintro e' w' ⟨rfl, rfl⟩
  clear hf
  go_wp2_with fail
  by_cases hf : (nv4 : Int) ≤ 6
  case neg =>
    refine (refFew_any AV4 nv4 cv4 false _ (decide_eq_false hf)).mono ?_
    rintro e' w' ⟨rfl, rfl⟩
    clear hf
    go_wp2
    go_ret
    exact ⟨rfl, HB4.out⟩
  refine (refFew_any AV4 nv4 cv4 true _ (decide_eq_true hf)).mono ?_
  rintro e' w' ⟨rfl, rfl⟩
  clear hf
  go_wp2_with fail
  refine (refNew_any An nn cn k _).mono ?_
  rintro e' w7 ⟨sz, hsz, rfl, hb7⟩
  have HSZ := Lib.hid hsz
  have HB7 := Lib.hid (HB4.out.trans (hb7.mono HB4.out.size))
  replace HC := Lib.hid (HC.out.on hb7)
  replace HD := Lib.hid (HD.out.on hb7)
  replace HS := Lib.hid (HS.out.on hb7)
  replace HNU := Lib.hid (HNU.out.on hb7)
  have hbn := below_new w7 (.cells #[.int .i64 sz, .slice An nn cn] 52)
  have HMB : Hid (MBx (w7.alloc (.cells #[.int .i64 sz, .slice An nn cn] 52)) w7.heap.size sz An nn cn) := ⟨by rw [World.cell?_alloc_new]; rfl, by rw [World.cell?_alloc_new]; rfl⟩
  have HMS : Hid (w7.heap.size < (w7.alloc (.cells #[.int .i64 sz, .slice An nn cn] 52)).heap.size) := by show _ < _; simp
  have HB8 := Lib.hid (HB7.out.trans (hbn.mono HB7.out.size))
  replace HC := Lib.hid (HC.out.on hbn)
  replace HD := Lib.hid (HD.out.on hbn)
  replace HS := Lib.hid (HS.out.on hbn)
  replace HNU := Lib.hid (HNU.out.on hbn)
  clear hb7 hbn hsz h0'
  have m0 := HMB.out.1
  have m1 := HMB.out.2
  have p0 := HC.out.c0
  have p1 := HC.out.c1
  have p2 := HC.out.c2
  go_wp2_with fail
  obtain ⟨w8, hw8⟩ : ∃ w8, w8 = w7.alloc (.cells #[.int .i64 sz, .slice An nn cn] 52) := ⟨_, rfl⟩
  rw [← hw8] at HC HD HS HNU HMB HMS HB8 ⊢
  clear hw8 m0 m1 p0 p1 p2
  rw [← HVE.out]
  refine (refHolds_any An A nn cn n cp sz nums ss v c _ HSZ.out hnn hn HNU.out HS.out HC.out.cl HM.out).mono ?_
  rintro e' w9 ⟨rfl, hb9⟩
  have HB9 := Lib.hid (HB8.out.trans (hb9.mono HB8.out.size))
  have HMB9 := Lib.hid (HMB.out.below hb9 HMS.out)
  replace HS := Lib.hid (HS.out.on hb9)
  replace HNU := Lib.hid (HNU.out.on hb9)
  replace HD := Lib.hid (HD.out.on hb9)
  clear hb9 HMB
  cases hR : holdsB ss (mdOf sz nums) c
  · clear hR
    go_wp2
    go_ret
    exact ⟨rfl, HB9.out⟩
  have HRE : Hid (holdsB ss (mdOf sz nums) d = true) := by
    refine holdsB_yes (HSA.out.holds HM.out HSZ.out.1 ?_)
    apply Classical.byContradiction
    intro q
    rw [holdsB_no q] at hR
    cases hR
  clear hR
  have m0 := HMB9.out.1
  have m1 := HMB9.out.2
  have q0 := HD.out.c0
  have q1 := HD.out.c1
  have q2 := HD.out.c2
  go_wp2_with fail
  rw [← HUE.out]
  refine (refHolds_any An A nn cn n cp sz nums ss u d _ HSZ.out hnn hn HNU.out HS.out HD.out.cl HM2.out).mono ?_
  rintro e' w10 ⟨rfl, hb10⟩
  have HB10 := Lib.hid (HB9.out.trans (hb10.mono HB9.out.size))
  rw [HRE.out]
  clear hb10 m0 m1 q0 q1 q2
  go_wp2
  go_ret
  exact ⟨rfl, HB10.out⟩
end Go.Proofs.YtcjpopjcpgipjaaDoor
