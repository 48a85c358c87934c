/-
  The walk of the law ClauseNormals.
-/
import Derived.Test.YtpblpndlajoebaaClauseAgain
import Derived.Test.YtpblpndlajoebaaRefNormal
namespace Go.Proofs.Ytpblpndlajoebaa
open Go.RowKit Go.Deep
set_option linter.unusedSimpArgs false
set_option linter.unusedVariables false
set_option maxRecDepth 100000

theorem fit_normO (ss : List Sym) (c : Cl) : Fit (normO ss c) := by
  unfold normO
  cases hm : mayC ss c
  · show Fit ⟨[], [], []⟩
    exact ⟨by decide, by decide, by decide, fun r hr => by cases hr⟩
  · exact (mayC_iff.1 hm).normal.fit
set_option maxHeartbeats 4000000 in
theorem clauseNormals_walk (haw : AwakeC) (A : Option Addr) (n cp : Nat) (ss : List Sym) (v : Cv) (c : Cl) (w : World) (h : SymsAt w w.heap.size A n ss) (hn : n ≤ maxLen) (hnc : n ≤ cp) (hc : ClAt w w.heap.size v c) :
    Calls Try.prog 4 #[.slice A n cp, v.val] w fun e w' => e = .returned (.bool true) ∧ Below w.heap.size w w' := by
  have HAW := Lib.hid haw
  have hb0 := below_new w v.obj
  have hx0 := CBox.new hc
  have hs0 := h.on hb0
  have HFC := Lib.hid hc.fit
  have HFN := Lib.hid (fit_normO ss c)
  rw [Cv.val_eq]
  have HVE := Lib.hid v.val_eq
  unfold Cv.obj at hb0 hx0 hs0
  have HC := Lib.hid hx0
  have HS := Lib.hid hs0
  have HB0 := Lib.hid hb0
  clear h hc hb0 hx0 hs0 haw
  go_enter Try.func4, Try.ntmps4
  go_wp2_with fail
  rw [← HVE.out]
  refine (copyClause_any v c _ HC.out.cl).mono ?_
  rintro e w1 ⟨x0, rfl, hx, hb1⟩
  have HB1 := Lib.hid (HB0.out.trans (hb1.mono HB0.out.size))
  replace HC := Lib.hid (HC.out.on hb1)
  replace HS := Lib.hid (HS.out.on hb1)
  obtain ⟨B, hB⟩ : ∃ B, B = w.heap.size := ⟨_, rfl⟩
  rw [← hB] at HC ⊢
  have HBH := Lib.hid hB
  clear hB hb1
  obtain ⟨x, rfl, hxc⟩ := hx.clAt HFC.out
  have HOx := Lib.hid hx
  rw [Cv.val_eq]
  have HXx := Lib.hid x.val_eq
  have hbn := below_new w1 (.cells #[.slice x.A1 x.n1 x.c1, .slice x.A2 x.n2 x.c2, .slice x.A3 x.n3 x.c3] 26)
  have HD : Hid (CBox (w1.alloc (.cells #[.slice x.A1 x.n1 x.c1, .slice x.A2 x.n2 x.c2, .slice x.A3 x.n3 x.c3] 26)) w1.heap.size x c) := CBox.new hxc
  have HB2 := Lib.hid (HB1.out.trans (hbn.mono HB1.out.size))
  replace HC := Lib.hid (HC.out.on hbn)
  replace HS := Lib.hid (HS.out.on hbn)
  clear hx hxc hbn HOx
  have p0 := HC.out.c0
  have p1 := HC.out.c1
  have p2 := HC.out.c2
  go_wp2_with fail
  clear p0 p1 p2
  obtain ⟨w2, hw2⟩ : ∃ w2, w2 = w1.alloc (.cells #[.slice x.A1 x.n1 x.c1, .slice x.A2 x.n2 x.c2, .slice x.A3 x.n3 x.c3] 26) := ⟨_, rfl⟩
  rw [← hw2] at HC HS HB2 HD ⊢
  obtain ⟨g1, hg⟩ : ∃ g1, g1 = w1.heap.size := ⟨_, rfl⟩
  rw [← hg] at HD ⊢
  clear hw2 hg
  rw [← HVE.out]
  refine (normalC_any A n cp ss v c _ HS.out hn hnc HC.out.cl).mono ?_
  rintro e w3 ⟨y0, rfl, hx, hb3⟩
  have HB3 := Lib.hid (HB2.out.trans (hb3.mono HB2.out.size))
  have HC2 := Lib.hid HC.out
  have HD2 := Lib.hid HD.out
  replace HC := Lib.hid (HC.out.on hb3)
  replace HS := Lib.hid (HS.out.on hb3)
  replace HD := Lib.hid (HD.out.on hb3)
  obtain ⟨y, rfl, hxc⟩ := hx.clAt HFN.out
  have HOy := Lib.hid hx
  rw [Cv.val_eq]
  have HXy := Lib.hid y.val_eq
  have hbn := below_new w3 (.cells #[.slice y.A1 y.n1 y.c1, .slice y.A2 y.n2 y.c2, .slice y.A3 y.n3 y.c3] 26)
  have HE : Hid (CBox (w3.alloc (.cells #[.slice y.A1 y.n1 y.c1, .slice y.A2 y.n2 y.c2, .slice y.A3 y.n3 y.c3] 26)) w3.heap.size y (normO ss c)) := CBox.new hxc
  have HB4 := Lib.hid (HB3.out.trans (hbn.mono HB3.out.size))
  replace HC := Lib.hid (HC.out.on hbn)
  replace HS := Lib.hid (HS.out.on hbn)
  replace HD := Lib.hid (HD.out.on hbn)
  have hk4 := hb3.trans (hbn.mono hb3.size)
  have HO := Lib.hid (HOy.out.on hbn)
  clear hx hxc hbn hb3 HOy
  obtain ⟨E, hE⟩ : ∃ E, E = clE ss c := ⟨_, rfl⟩
  rw [← hE]
  have HEE := Lib.hid hE
  clear hE
  have p0 := HC.out.c0
  have p1 := HC.out.c1
  have p2 := HC.out.c2
  go_wp2_with fail
  clear p0 p1 p2
  have hk4' := Lib.hid hk4
  clear hk4
  obtain ⟨w4, hw4⟩ : ∃ w4, w4 = w3.alloc (.cells #[.slice y.A1 y.n1 y.c1, .slice y.A2 y.n2 y.c2, .slice y.A3 y.n3 y.c3] 26) := ⟨_, rfl⟩
  rw [← hw4] at HC HS HB4 HD HE HO hk4' ⊢
  obtain ⟨g2, hg⟩ : ∃ g2, g2 = w3.heap.size := ⟨_, rfl⟩
  rw [← hg] at HE ⊢
  clear hw4 hg
  rw [← HVE.out]
  refine (refNormalC_any A n cp ss v c _ HS.out hn hnc HC.out.cl).mono ?_
  rintro e w5 ⟨z0, rfl, hx, hb5⟩
  have HB5 := Lib.hid (HB4.out.trans (hb5.mono HB4.out.size))
  replace HC := Lib.hid (HC.out.on hb5)
  replace HS := Lib.hid (HS.out.on hb5)
  replace HD := Lib.hid (HD.out.on hb5)
  replace HE := Lib.hid (HE.out.on hb5)
  replace HO := Lib.hid (HO.out.on hb5)
  rw [← HEE.out]
  obtain ⟨z, rfl, hxc⟩ := hx.clAt HFN.out
  have HOz := Lib.hid hx
  rw [Cv.val_eq]
  have HXz := Lib.hid z.val_eq
  have hbn := below_new w5 (.cells #[.slice z.A1 z.n1 z.c1, .slice z.A2 z.n2 z.c2, .slice z.A3 z.n3 z.c3] 26)
  have HF : Hid (CBox (w5.alloc (.cells #[.slice z.A1 z.n1 z.c1, .slice z.A2 z.n2 z.c2, .slice z.A3 z.n3 z.c3] 26)) w5.heap.size z (normO ss c)) := CBox.new hxc
  have HB6 := Lib.hid (HB5.out.trans (hbn.mono HB5.out.size))
  replace HC := Lib.hid (HC.out.on hbn)
  replace HS := Lib.hid (HS.out.on hbn)
  replace HD := Lib.hid (HD.out.on hbn)
  replace HE := Lib.hid (HE.out.on hbn)
  replace HO := Lib.hid (HO.out.on hbn)
  have HK6 := Lib.hid (hk4'.out.trans ((hb5.trans (hbn.mono hb5.size)).mono hk4'.out.size))
  clear hx hxc hbn hb5 HOz hk4'
  have r0 := HE.out.c0
  have r1 := HE.out.c1
  have r2 := HE.out.c2
  have s0 := HF.out.c0
  have s1 := HF.out.c1
  have s2 := HF.out.c2
  go_wp2_with fail
  obtain ⟨w6, hw6⟩ : ∃ w6, w6 = w5.alloc (.cells #[.slice z.A1 z.n1 z.c1, .slice z.A2 z.n2 z.c2, .slice z.A3 z.n3 z.c3] 26) := ⟨_, rfl⟩
  rw [← hw6] at HC HS HB6 HD HE HF HO HK6 r0 r1 r2 s0 s1 s2 ⊢
  obtain ⟨g3, hg⟩ : ∃ g3, g3 = w5.heap.size := ⟨_, rfl⟩
  rw [← hg] at HF s0 s1 s2 ⊢
  clear hw6 hg
  rw [← HXy.out, ← HXz.out]
  refine (sameClause_true y z (normO ss c) _ HE.out.cl HF.out.cl).mono ?_
  rintro e w7 ⟨rfl, hb7⟩
  have HB7 := Lib.hid (HB6.out.trans (hb7.mono HB6.out.size))
  have HK7 := Lib.hid (HK6.out.trans (hb7.mono HK6.out.size))
  replace HE := Lib.hid (HE.out.on hb7)
  replace HO := Lib.hid (HO.out.on hb7)
  clear hb7 r0 r1 r2 s0 s1 s2 HF
  have g4 : (E != E) = false := by simp
  have r0 := HE.out.c0
  have r1 := HE.out.c1
  have r2 := HE.out.c2
  go_wp2_with (go_at_call 20; refine (num_any _ _).mono ?_; rintro e w' ⟨rfl, rfl⟩)
  rw [← HXy.out]
  refine (spoilClause_any y.val w2.heap.size (normO ss c) _ HO.out HFN.out HK7.out.size).mono ?_
  rintro e w8 ⟨rfl, hb8⟩
  have HK8 := Lib.hid (HK7.out.trans hb8)
  have HB8 := Lib.hid (HB2.out.trans (HK8.out.mono HB2.out.size))
  replace HC := Lib.hid (HC2.out.on HK8.out)
  replace HD := Lib.hid (HD2.out.on HK8.out)
  clear hb8 r0 r1 r2
  have p0 := HC.out.c0
  have p1 := HC.out.c1
  have p2 := HC.out.c2
  have q0 := HD.out.c0
  have q1 := HD.out.c1
  have q2 := HD.out.c2
  go_wp2_with fail
  rw [← HVE.out, ← HXx.out]
  refine (sameClause_true v x c _ HC.out.cl HD.out.cl).mono ?_
  rintro e w9 ⟨rfl, hb9⟩
  have HB9 := Lib.hid (HB8.out.trans (hb9.mono HB8.out.size))
  clear hb9 p0 p1 p2 q0 q1 q2
  go_wp2_with fail
  refine (HAW.out _).mono ?_
  rintro e w10 ⟨rfl, hb10⟩
  have HB10 := Lib.hid (HB9.out.trans (hb10.mono HB9.out.size))
  clear hb10
  go_wp2
  go_ret
  exact ⟨rfl, HB10.out⟩
end Go.Proofs.Ytpblpndlajoebaa
