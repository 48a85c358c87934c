/-
  The walk of the law SubsumeNormal.
-/
import Derived.Test.YtcjpopjcpgipjaaDoorSubRow
import Derived.Test.YtcjpopjcpgipjaaDoorClauseSame
namespace Go.Proofs.YtcjpopjcpgipjaaDoor
open Go.RowKit Go.Deep
set_option linter.unusedSimpArgs false
set_option linter.unusedVariables false
set_option maxRecDepth 100000

theorem fit_normO (ss : List Sym) (c : Cl) : Fit (normO ss c) := by
  unfold normO
  cases hm : mayC ss c
  · show Fit ⟨[], [], []⟩
    exact ⟨by decide, by decide, by decide, fun r hr => by cases hr⟩
  · exact (mayC_iff.1 hm).normal.fit
set_option maxHeartbeats 8000000 in
theorem subsumeNormal_walk (A : Option Addr) (n cp : Nat) (ss : List Sym) (v : Cv) (c : Cl) (w : World) (h : SymsAt w w.heap.size A n ss) (hn : n ≤ maxLen) (hnc : n ≤ cp) (hc : ClAt w w.heap.size v c) (hT : TabW w) (hTB : 0 < w.heap.size) :
    Calls Tryd.prog 8 #[.slice A n cp, v.val] w fun e w' => e = .returned (.bool true) ∧ Below w.heap.size w w' := by
  have hb0 := below_new w v.obj
  have hx0 := CBox.new hc
  have hs0 := h.on hb0
  have HFN := Lib.hid (fit_normO ss c)
  rw [Cv.val_eq]
  have HVE := Lib.hid v.val_eq
  unfold Cv.obj at hb0 hx0 hs0
  have HC := Lib.hid hx0
  have HS := Lib.hid hs0
  have HB0 := Lib.hid hb0
  have HT := Lib.hid hT
  have HTB := Lib.hid hTB
  clear h hc hb0 hx0 hs0 hT hTB
  go_enter Tryd.func8, Tryd.ntmps8
  go_wp2_with fail
  refine (awakeS_any _ (HT.out.below HTB.out HB0.out) (Nat.lt_of_lt_of_le HTB.out HB0.out.size)).mono ?_
  rintro e' w1 ⟨rfl, hb1⟩
  have HB1 := Lib.hid (HB0.out.trans (hb1.mono HB0.out.size))
  replace HC := Lib.hid (HC.out.on hb1)
  replace HS := Lib.hid (HS.out.on hb1)
  clear hb1 HB0
  obtain ⟨B, hB⟩ : ∃ B, B = w.heap.size := ⟨_, rfl⟩
  rw [← hB] at HC ⊢
  have HBH := Lib.hid hB
  clear hB
  have p0 := HC.out.c0
  have p1 := HC.out.c1
  have p2 := HC.out.c2
  go_wp2_with fail
  rw [← HVE.out]
  refine (normalC_any A n cp ss v c _ HS.out hn hnc HC.out.cl).mono ?_
  rintro e' w2 ⟨z0, rfl, hx, hb2⟩
  have HB2 := Lib.hid (HB1.out.trans (hb2.mono HB1.out.size))
  replace HC := Lib.hid (HC.out.on hb2)
  replace HS := Lib.hid (HS.out.on hb2)
  clear hb2 p0 p1 p2
  obtain ⟨x, rfl, hxc⟩ := hx.clAt HFN.out
  rw [Cv.val_eq x]
  have HXE := Lib.hid x.val_eq
  have hbn := below_new w2 (.cells #[.slice x.A1 x.n1 x.c1, .slice x.A2 x.n2 x.c2, .slice x.A3 x.n3 x.c3] 26)
  have HD : Hid (CBox (w2.alloc (.cells #[.slice x.A1 x.n1 x.c1, .slice x.A2 x.n2 x.c2, .slice x.A3 x.n3 x.c3] 26)) w2.heap.size x (normO ss c)) := CBox.new hxc
  have HB3 := Lib.hid (HB2.out.trans (hbn.mono HB2.out.size))
  replace HC := Lib.hid (HC.out.on hbn)
  replace HS := Lib.hid (HS.out.on hbn)
  clear hx hxc hbn
  cases hm : mayC ss c
  · have he : clE ss c = 800 := by unfold clE; rw [hm]; rfl
    rw [he]
    clear he hm
    go_wp2_with (go_at_call 14; refine (num_any _ _).mono ?_; rintro e w' ⟨rfl, rfl⟩)
    go_ret
    exact ⟨rfl, HB3.out⟩
  have he : clE ss c = 0 := by unfold clE; rw [hm]; rfl
  have hno : normO ss c = norm c := by unfold normO; rw [hm]; rfl
  have hmc := mayC_iff.1 hm
  have hmn : MayC ss (norm c) := hmc.normal
  have k1 : okC ss c (norm c) = true := okC_iff.2 ⟨hmc, hmn⟩
  have k2 : okC ss (norm c) c = true := okC_iff.2 ⟨hmn, hmc⟩
  have K1 := Lib.hid k1
  have K2 := Lib.hid k2
  have K3 := Lib.hid ((subIs_iff k1).2 hmc.says_norm)
  have K4 := Lib.hid ((subIs_iff k2).2 hmc.norm_says)
  rw [he]
  rw [hno] at HD
  clear he hno hmc hmn k1 k2 hm
  obtain ⟨w3, hw3⟩ : ∃ w3, w3 = w2.alloc (.cells #[.slice x.A1 x.n1 x.c1, .slice x.A2 x.n2 x.c2, .slice x.A3 x.n3 x.c3] 26) := ⟨_, rfl⟩
  have HW3 := Lib.hid hw3
  rw [← hw3] at HC HS HD HB3
  obtain ⟨g, hg⟩ : ∃ g, g = w2.heap.size := ⟨_, rfl⟩
  rw [← hg] at HD
  have HGG := Lib.hid hg
  clear hw3 hg
  go_upto_region 6 with (go_at_call 14; refine (num_any _ _).mono ?_; rintro e w' ⟨rfl, rfl⟩)
  rw [← HW3.out, ← HGG.out]
  have p0 := HC.out.c0
  have p1 := HC.out.c1
  have p2 := HC.out.c2
  have q0 := HD.out.c0
  have q1 := HD.out.c1
  have q2 := HD.out.c2
  go_wp2_with (go_at_call 14; refine (num_any _ _).mono ?_; rintro e w' ⟨rfl, rfl⟩)
  try rw [← HVE.out]
  try rw [← HXE.out]
  refine (does_any A n cp ss _ _ c (norm c) _ HS.out hn hnc HC.out.cl HD.out.cl (HT.out.below HTB.out HB3.out) (Nat.lt_of_lt_of_le HTB.out HB3.out.size)).mono ?_
  rintro e' w4 ⟨rfl, hb4⟩
  have HB4 := Lib.hid (HB3.out.trans (hb4.mono HB3.out.size))
  replace HC := Lib.hid (HC.out.on hb4)
  replace HD := Lib.hid (HD.out.on hb4)
  replace HS := Lib.hid (HS.out.on hb4)
  clear hb4 p0 p1 p2 q0 q1 q2
  rw [K3.out, subE_ok K1.out]
  have p0 := HD.out.c0
  have p1 := HD.out.c1
  have p2 := HD.out.c2
  have q0 := HC.out.c0
  have q1 := HC.out.c1
  have q2 := HC.out.c2
  go_wp2_with (go_at_call 14; refine (num_any _ _).mono ?_; rintro e w' ⟨rfl, rfl⟩)
  try rw [← HXE.out]
  try rw [← HVE.out]
  refine (does_any A n cp ss _ _ (norm c) c _ HS.out hn hnc HD.out.cl HC.out.cl (HT.out.below HTB.out HB4.out) (Nat.lt_of_lt_of_le HTB.out HB4.out.size)).mono ?_
  rintro e' w5 ⟨rfl, hb5⟩
  have HB5 := Lib.hid (HB4.out.trans (hb5.mono HB4.out.size))
  replace HC := Lib.hid (HC.out.on hb5)
  replace HD := Lib.hid (HD.out.on hb5)
  replace HS := Lib.hid (HS.out.on hb5)
  clear hb5 p0 p1 p2 q0 q1 q2
  rw [K4.out, subE_ok K2.out]
  go_wp2_with (go_at_call 14; refine (num_any _ _).mono ?_; rintro e w' ⟨rfl, rfl⟩)
  go_ret
  exact ⟨rfl, HB5.out⟩
end Go.Proofs.YtcjpopjcpgipjaaDoor
