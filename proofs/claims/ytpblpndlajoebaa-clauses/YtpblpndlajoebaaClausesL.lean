/-
  The walk of the law Clauses.
-/
import Derived.Test.YtpblpndlajoebaaClauseNormals
namespace Go.Proofs.Ytpblpndlajoebaa
open Go.RowKit Go.Deep
set_option linter.unusedSimpArgs false
set_option linter.unusedVariables false
set_option maxRecDepth 100000

set_option maxHeartbeats 8000000 in
theorem clauses_walk (haw : AwakeC) (A : Option Addr) (n cp : Nat) (ss : List Sym) (v u : Cv) (c d : Cl) (w : World) (h : SymsAt w w.heap.size A n ss) (hn : n ≤ maxLen) (hnc : n ≤ cp) (hc : ClAt w w.heap.size v c) (hd : ClAt w w.heap.size u d) :
    Calls Try.prog 3 #[.slice A n cp, v.val, u.val] w fun e w' => e = .returned (.bool true) ∧ Below w.heap.size w w' := by
  have HAW := Lib.hid haw
  obtain ⟨hx, hy, hb0⟩ := CBox.two hc hd
  have hs0 := h.on hb0
  have HFC := Lib.hid hc.fit
  rw [Cv.val_eq, Cv.val_eq]
  have HVE := Lib.hid v.val_eq
  have HUE := Lib.hid u.val_eq
  unfold Cv.obj at hx hy hb0 hs0
  have HC := Lib.hid hx
  have HD := Lib.hid hy
  have HS := Lib.hid hs0
  have HB0 := Lib.hid hb0
  clear h hc hd hx hy hb0 hs0 haw
  go_enter Try.func3, Try.ntmps3
  go_wp2_with fail
  obtain ⟨w0, hw0⟩ : ∃ w0, w0 = ((w.alloc (.cells #[.slice v.A1 v.n1 v.c1, .slice v.A2 v.n2 v.c2, .slice v.A3 v.n3 v.c3] 26)).alloc (.cells #[.slice u.A1 u.n1 u.c1, .slice u.A2 u.n2 u.c2, .slice u.A3 u.n3 u.c3] 26)) := ⟨_, rfl⟩
  rw [← hw0] at HC HD HS HB0 ⊢
  clear hw0
  obtain ⟨B, hB⟩ : ∃ B, B = w.heap.size := ⟨_, rfl⟩
  rw [← hB] at HC HD ⊢
  have HBH := Lib.hid hB
  clear hB
  rw [← HVE.out]
  refine (copyClause_any v c _ HC.out.cl).mono ?_
  rintro e w1 ⟨x0, rfl, hx, hb1⟩
  have HB1 := Lib.hid (HB0.out.trans (hb1.mono HB0.out.size))
  replace HC := Lib.hid (HC.out.on hb1)
  replace HS := Lib.hid (HS.out.on hb1)
  replace HD := Lib.hid (HD.out.on hb1)
  obtain ⟨x, rfl, hxc⟩ := hx.clAt HFC.out
  rw [Cv.val_eq x]
  have HXE := Lib.hid x.val_eq
  have hbn := below_new w1 (.cells #[.slice x.A1 x.n1 x.c1, .slice x.A2 x.n2 x.c2, .slice x.A3 x.n3 x.c3] 26)
  have HW : Hid (CBox (w1.alloc (.cells #[.slice x.A1 x.n1 x.c1, .slice x.A2 x.n2 x.c2, .slice x.A3 x.n3 x.c3] 26)) w1.heap.size x c) := CBox.new hxc
  have HB2 := Lib.hid (HB1.out.trans (hbn.mono HB1.out.size))
  replace HC := Lib.hid (HC.out.on hbn)
  replace HS := Lib.hid (HS.out.on hbn)
  replace HD := Lib.hid (HD.out.on hbn)
  clear hb1 hx hxc hbn
  have p0 := HC.out.c0
  have p1 := HC.out.c1
  have p2 := HC.out.c2
  go_wp2_with fail
  clear p0 p1 p2
  obtain ⟨w2, hw2⟩ : ∃ w2, w2 = w1.alloc (.cells #[.slice x.A1 x.n1 x.c1, .slice x.A2 x.n2 x.c2, .slice x.A3 x.n3 x.c3] 26) := ⟨_, rfl⟩
  rw [← hw2] at HC HS HD HW HB2 ⊢
  obtain ⟨G, hG⟩ : ∃ G, G = w1.heap.size := ⟨_, rfl⟩
  rw [← hG] at HW ⊢
  clear hw2 hG
  rw [← HVE.out]
  refine (weightC_any A n cp ss v c _ HS.out hn hnc HC.out.cl).mono ?_
  rintro e w3 ⟨rfl, hb3⟩
  have HB3 := Lib.hid (HB2.out.trans (hb3.mono HB2.out.size))
  replace HC := Lib.hid (HC.out.on hb3)
  replace HS := Lib.hid (HS.out.on hb3)
  replace HD := Lib.hid (HD.out.on hb3)
  replace HW := Lib.hid (HW.out.on hb3)
  clear hb3
  have p0 := HC.out.c0
  have p1 := HC.out.c1
  have p2 := HC.out.c2
  go_wp2_with fail
  rw [← HVE.out]
  refine (refWeightC_any A n cp ss v c _ HS.out hn hnc HC.out.cl).mono ?_
  rintro e w4 ⟨rfl, hb4⟩
  have HB4 := Lib.hid (HB3.out.trans (hb4.mono HB3.out.size))
  replace HC := Lib.hid (HC.out.on hb4)
  replace HS := Lib.hid (HS.out.on hb4)
  replace HD := Lib.hid (HD.out.on hb4)
  replace HW := Lib.hid (HW.out.on hb4)
  clear hb4 p0 p1 p2
  have p0 := HC.out.c0
  have p1 := HC.out.c1
  have p2 := HC.out.c2
  go_wp2_with fail
  rw [← HVE.out]
  refine (varsC_any A n cp ss v c _ HS.out hn hnc HC.out.cl).mono ?_
  rintro e w5 ⟨v5, rfl, hv5, hb5⟩
  have HB5 := Lib.hid (HB4.out.trans (hb5.mono HB4.out.size))
  replace HC := Lib.hid (HC.out.on hb5)
  replace HS := Lib.hid (HS.out.on hb5)
  replace HD := Lib.hid (HD.out.on hb5)
  replace HW := Lib.hid (HW.out.on hb5)
  clear hb5 p0 p1 p2
  obtain ⟨VL, hVL⟩ : ∃ VL, VL = (varsO ss c).length := ⟨_, rfl⟩
  have HVL := Lib.hid hVL
  clear hVL
  obtain ⟨A5, c5, hv5', _, hi5⟩ := hv5.intsAt
  rw [← HVL.out] at hv5' hi5
  subst hv5'
  have HV5 := Lib.hid hi5
  clear hv5 hi5
  have p0 := HC.out.c0
  have p1 := HC.out.c1
  have p2 := HC.out.c2
  go_wp2_with fail
  rw [← HVE.out]
  refine (refVarsC_any A n cp ss v c _ HS.out hn hnc HC.out.cl).mono ?_
  rintro e w6 ⟨v6, rfl, hv6, hb6⟩
  have HB6 := Lib.hid (HB5.out.trans (hb6.mono HB5.out.size))
  replace HC := Lib.hid (HC.out.on hb6)
  replace HS := Lib.hid (HS.out.on hb6)
  replace HD := Lib.hid (HD.out.on hb6)
  replace HW := Lib.hid (HW.out.on hb6)
  replace HV5 := Lib.hid (HV5.out.on hb6)
  clear hb6 p0 p1 p2
  obtain ⟨A6, c6, hv6', _, hi6⟩ := hv6.intsAt
  rw [← HVL.out] at hv6' hi6
  subst hv6'
  have HV6 := Lib.hid hi6
  clear hv6 hi6
  have p0 := HC.out.c0
  have p1 := HC.out.c1
  have p2 := HC.out.c2
  go_wp2_with fail
  rw [← HVE.out]
  refine (trivialC_any A n cp ss v c _ HS.out hn hnc HC.out.cl).mono ?_
  rintro e w7 ⟨rfl, hb7⟩
  have HB7 := Lib.hid (HB6.out.trans (hb7.mono HB6.out.size))
  replace HC := Lib.hid (HC.out.on hb7)
  replace HS := Lib.hid (HS.out.on hb7)
  replace HD := Lib.hid (HD.out.on hb7)
  replace HW := Lib.hid (HW.out.on hb7)
  replace HV5 := Lib.hid (HV5.out.on hb7)
  replace HV6 := Lib.hid (HV6.out.on hb7)
  clear hb7 p0 p1 p2
  have p0 := HC.out.c0
  have p1 := HC.out.c1
  have p2 := HC.out.c2
  go_wp2_with fail
  rw [← HVE.out]
  refine (refTrivialC_any A n cp ss v c _ HS.out hn hnc HC.out.cl).mono ?_
  rintro e w8 ⟨rfl, hb8⟩
  have HB8 := Lib.hid (HB7.out.trans (hb8.mono HB7.out.size))
  replace HC := Lib.hid (HC.out.on hb8)
  replace HS := Lib.hid (HS.out.on hb8)
  replace HD := Lib.hid (HD.out.on hb8)
  replace HW := Lib.hid (HW.out.on hb8)
  replace HV5 := Lib.hid (HV5.out.on hb8)
  replace HV6 := Lib.hid (HV6.out.on hb8)
  clear hb8 p0 p1 p2
  have p0 := HC.out.c0
  have p1 := HC.out.c1
  have p2 := HC.out.c2
  have q0 := HD.out.c0
  have q1 := HD.out.c1
  have q2 := HD.out.c2
  go_wp2_with fail
  rw [← HVE.out, ← HUE.out]
  refine (variantC_any A n cp ss v u c d _ HS.out hn hnc HC.out.cl HD.out.cl).mono ?_
  rintro e w9 ⟨rfl, hb9⟩
  have HB9 := Lib.hid (HB8.out.trans (hb9.mono HB8.out.size))
  replace HC := Lib.hid (HC.out.on hb9)
  replace HS := Lib.hid (HS.out.on hb9)
  replace HD := Lib.hid (HD.out.on hb9)
  replace HW := Lib.hid (HW.out.on hb9)
  replace HV5 := Lib.hid (HV5.out.on hb9)
  replace HV6 := Lib.hid (HV6.out.on hb9)
  clear hb9 p0 p1 p2 q0 q1 q2
  have p0 := HC.out.c0
  have p1 := HC.out.c1
  have p2 := HC.out.c2
  have q0 := HD.out.c0
  have q1 := HD.out.c1
  have q2 := HD.out.c2
  go_wp2_with fail
  rw [← HVE.out, ← HUE.out]
  refine (refVariantC_any A n cp ss v u c d _ HS.out hn hnc HC.out.cl HD.out.cl).mono ?_
  rintro e w10 ⟨rfl, hb10⟩
  have HB10 := Lib.hid (HB9.out.trans (hb10.mono HB9.out.size))
  replace HC := Lib.hid (HC.out.on hb10)
  replace HS := Lib.hid (HS.out.on hb10)
  replace HD := Lib.hid (HD.out.on hb10)
  replace HW := Lib.hid (HW.out.on hb10)
  replace HV5 := Lib.hid (HV5.out.on hb10)
  replace HV6 := Lib.hid (HV6.out.on hb10)
  clear hb10 p0 p1 p2 q0 q1 q2
  obtain ⟨W, hW⟩ : ∃ W, W = wtO ss c := ⟨_, rfl⟩
  obtain ⟨E, hE⟩ : ∃ E, E = clE ss c := ⟨_, rfl⟩
  obtain ⟨T, hT⟩ : ∃ T, T = dullO ss c := ⟨_, rfl⟩
  obtain ⟨Y, hY⟩ : ∃ Y, Y = varB ss c d := ⟨_, rfl⟩
  obtain ⟨E2, hE2⟩ : ∃ E2, E2 = clE2 ss c d := ⟨_, rfl⟩
  have hvl : VL ≤ maxLen := by
    have : (varsO ss c).length ≤ 24 := by
      unfold varsO
      cases hm : mayC ss c
      · simp
      · have := (mayC_iff.1 hm).varsC_length
        have := (mayC_iff.1 hm).few
        simp only [if_true]; omega
    rw [HVL.out]; unfold maxLen; omega
  rw [← hW, ← hE, ← hT, ← hY, ← hE2]
  clear hW hE hT hY hE2
  have g1 : (W == W) = true := by simp
  have g2 : (E == E) = true := by simp
  have g3 : (T == T) = true := by simp
  have g4 : (Y == Y) = true := by simp
  have g5 : (E2 == E2) = true := by simp
  have p0 := HC.out.c0
  have p1 := HC.out.c1
  have p2 := HC.out.c2
  have r0 := HW.out.c0
  have r1 := HW.out.c1
  have r2 := HW.out.c2
  go_wp2_with fail
  refine wp_region_held_drew (S := (fun w' => w'.cell? ⟨B, 0, none⟩ = some (.slice v.A1 v.n1 v.c1) ∧ w'.cell? ⟨B, 1, none⟩ = some (.slice v.A2 v.n2 v.c2) ∧ w'.cell? ⟨B, 2, none⟩ = some (.slice v.A3 v.n3 v.c3) ∧ w'.cell? ⟨G, 0, none⟩ = some (.slice x.A1 x.n1 x.c1) ∧ w'.cell? ⟨G, 1, none⟩ = some (.slice x.A2 x.n2 x.c2) ∧ w'.cell? ⟨G, 2, none⟩ = some (.slice x.A3 x.n3 x.c3))) (by kernel_rfl) ⟨p0, p1, p2, r0, r1, r2⟩ (fun hHeld => ?_)
  have hd0 : Below w10.heap.size w10 w10.drew := (Below.refl w10.heap.size w10).drew
  replace HC := Lib.hid (HC.out.on hd0)
  replace HS := Lib.hid (HS.out.on hd0)
  replace HW := Lib.hid (HW.out.on hd0)
  replace HV5 := Lib.hid (HV5.out.on hd0)
  replace HV6 := Lib.hid (HV6.out.on hd0)
  have HB11 := Lib.hid (HB10.out.trans (hd0.mono HB10.out.size))
  obtain ⟨w11, hw11⟩ : ∃ w11, w11 = w10.drew := ⟨_, rfl⟩
  rw [← hw11] at HC HS HW HV5 HV6 HB11 hHeld ⊢
  clear hd0 hw11
  clear p0 p1 p2 r0 r1 r2
  have p0 := HC.out.c0
  have p1 := HC.out.c1
  have p2 := HC.out.c2
  have r0 := HW.out.c0
  have r1 := HW.out.c1
  have r2 := HW.out.c2
  refine takeH (i := 0) (v := ?_) rfl rfl (by kernel_rfl) (by kernel_rfl) (by kernel_rfl) (fun _ _ _ h => h) (by rfl) ?_ hHeld ?_
  rotate_left
  · (intro w hSw; (try dsimp only at hSw); first | (go_simp; done) | (go_simp; with_reducible rfl))
  simp only [Act.put, List.setIfInBounds_toArray, List.set_cons_zero, List.set_cons_succ]
  refine takeH (i := 1) (v := ?_) rfl rfl (by kernel_rfl) (by kernel_rfl) (by kernel_rfl) (fun _ _ _ h => h) (by rfl) ?_ hHeld ?_
  rotate_left
  · (intro w hSw; (try dsimp only at hSw); first | (go_simp; done) | (go_simp; with_reducible rfl))
  simp only [Act.put, List.setIfInBounds_toArray, List.set_cons_zero, List.set_cons_succ]
  refine takeH (i := 3) (v := ?_) rfl rfl (by kernel_rfl) (by kernel_rfl) (by kernel_rfl) (fun _ _ _ h => h) (by rfl) ?_ hHeld ?_
  rotate_left
  · (intro w hSw; (try dsimp only at hSw); first | (go_simp; done) | (go_simp; with_reducible rfl))
  simp only [Act.put, List.setIfInBounds_toArray, List.set_cons_zero, List.set_cons_succ]
  refine takeH (i := 4) (v := ?_) rfl rfl (by kernel_rfl) (by kernel_rfl) (by kernel_rfl) (fun _ _ _ h => h) (by rfl) ?_ hHeld ?_
  rotate_left
  · (intro w hSw; (try dsimp only at hSw); first | (go_simp; done) | (go_simp; with_reducible rfl))
  simp only [Act.put, List.setIfInBounds_toArray, List.set_cons_zero, List.set_cons_succ]
  refine wpAnyH_ready (rs := [2]) (by kernel_rfl) (by simp) ?_
  refine AllReadyH.cons rfl (fun K hK => ?_) AllReadyH.nil
  go_simp
  rw [← HVE.out]
  refine (mayC_any A n cp ss v c _ HS.out hn hnc HC.out.cl).mono ?_
  rintro e w12 ⟨rfl, hb12⟩
  have HB12 := Lib.hid (HB11.out.trans (hb12.mono HB11.out.size))
  replace HC := Lib.hid (HC.out.on hb12)
  replace HS := Lib.hid (HS.out.on hb12)
  replace HW := Lib.hid (HW.out.on hb12)
  replace HV5 := Lib.hid (HV5.out.on hb12)
  replace HV6 := Lib.hid (HV6.out.on hb12)
  clear hb12
  clear p0 p1 p2 r0 r1 r2
  have p0 := HC.out.c0
  have p1 := HC.out.c1
  have p2 := HC.out.c2
  have r0 := HW.out.c0
  have r1 := HW.out.c1
  have r2 := HW.out.c2
  go_wp2_with fail
  refine hK.out _ _ ?_ (fun hHeld => ?_)
  · exact ⟨p0, p1, p2, r0, r1, r2⟩
  clear hK K
  refine wpAnyH_ready (rs := [5]) (by kernel_rfl) (by simp) ?_
  refine AllReadyH.cons rfl (fun K hK => ?_) AllReadyH.nil
  go_simp
  refine (refMayC_any A n cp ss v c _ HS.out hn hnc HC.out.cl).mono ?_
  rintro e w13 ⟨rfl, hb13⟩
  have HB13 := Lib.hid (HB12.out.trans (hb13.mono HB12.out.size))
  replace HC := Lib.hid (HC.out.on hb13)
  replace HW := Lib.hid (HW.out.on hb13)
  replace HV5 := Lib.hid (HV5.out.on hb13)
  replace HV6 := Lib.hid (HV6.out.on hb13)
  obtain ⟨M, hM⟩ : ∃ M, M = mayC ss c := ⟨_, rfl⟩
  rw [← hM]
  have g6 : (M == M) = true := by simp
  clear hb13 hM HS
  clear p0 p1 p2 r0 r1 r2
  have p0 := HC.out.c0
  have p1 := HC.out.c1
  have p2 := HC.out.c2
  have r0 := HW.out.c0
  have r1 := HW.out.c1
  have r2 := HW.out.c2
  go_wp2_with fail
  refine hK.out _ _ ?_ (fun hHeld => ?_)
  · exact ⟨p0, p1, p2, r0, r1, r2⟩
  clear hK K
  refine takeH (i := 6) (v := ?_) rfl rfl (by kernel_rfl) (by kernel_rfl) (by kernel_rfl) (fun _ _ _ h => h) (by rfl) ?_ hHeld ?_
  rotate_left
  · (intro w hSw; (try dsimp only at hSw); first | (go_simp; done) | (go_simp; with_reducible rfl))
  simp only [Act.put, List.setIfInBounds_toArray, List.set_cons_zero, List.set_cons_succ]
  refine takeH (i := 7) (v := ?_) rfl rfl (by kernel_rfl) (by kernel_rfl) (by kernel_rfl) (fun _ _ _ h => h) (by rfl) ?_ hHeld ?_
  rotate_left
  · (intro w hSw; (try dsimp only at hSw); first | (go_simp; done) | (go_simp; with_reducible rfl))
  simp only [Act.put, List.setIfInBounds_toArray, List.set_cons_zero, List.set_cons_succ]
  refine takeH (i := 8) (v := ?_) rfl rfl (by kernel_rfl) (by kernel_rfl) (by kernel_rfl) (fun _ _ _ h => h) (by rfl) ?_ hHeld ?_
  rotate_left
  · (intro w hSw; (try dsimp only at hSw); first | (go_simp; done) | (go_simp; with_reducible rfl))
  simp only [Act.put, List.setIfInBounds_toArray, List.set_cons_zero, List.set_cons_succ]
  refine takeH (i := 9) (v := ?_) rfl rfl (by kernel_rfl) (by kernel_rfl) (by kernel_rfl) (fun _ _ _ h => h) (by rfl) ?_ hHeld ?_
  rotate_left
  · (intro w hSw; (try dsimp only at hSw); first | (go_simp; done) | (go_simp; with_reducible rfl))
  simp only [Act.put, List.setIfInBounds_toArray, List.set_cons_zero, List.set_cons_succ]
  refine takeH (i := 10) (v := ?_) rfl rfl (by kernel_rfl) (by kernel_rfl) (by kernel_rfl) (fun _ _ _ h => h) (by rfl) ?_ hHeld ?_
  rotate_left
  · (intro w hSw; (try dsimp only at hSw); first | (go_simp; done) | (go_simp; with_reducible rfl))
  simp only [Act.put, List.setIfInBounds_toArray, List.set_cons_zero, List.set_cons_succ]
  refine takeH (i := 11) (v := ?_) rfl rfl (by kernel_rfl) (by kernel_rfl) (by kernel_rfl) (fun _ _ _ h => h) (by rfl) ?_ hHeld ?_
  rotate_left
  · (intro w hSw; (try dsimp only at hSw); first | (go_simp; done) | (go_simp; with_reducible rfl))
  simp only [Act.put, List.setIfInBounds_toArray, List.set_cons_zero, List.set_cons_succ]
  refine takeH (i := 12) (v := ?_) rfl rfl (by kernel_rfl) (by kernel_rfl) (by kernel_rfl) (fun _ _ _ h => h) (by rfl) ?_ hHeld ?_
  rotate_left
  · (intro w hSw; (try dsimp only at hSw); first | (go_simp; done) | (go_simp; with_reducible rfl))
  simp only [Act.put, List.setIfInBounds_toArray, List.set_cons_zero, List.set_cons_succ]
  refine takeH (i := 13) (v := ?_) rfl rfl (by kernel_rfl) (by kernel_rfl) (by kernel_rfl) (fun _ _ _ h => h) (by rfl) ?_ hHeld ?_
  rotate_left
  · (intro w hSw; (try dsimp only at hSw); first | (go_simp; done) | (go_simp; with_reducible rfl))
  simp only [Act.put, List.setIfInBounds_toArray, List.set_cons_zero, List.set_cons_succ]
  refine takeH (i := 15) (v := ?_) rfl rfl (by kernel_rfl) (by kernel_rfl) (by kernel_rfl) (fun _ _ _ h => h) (by rfl) ?_ hHeld ?_
  rotate_left
  · (intro w hSw; (try dsimp only at hSw); first | (go_simp; done) | (go_simp; with_reducible rfl))
  simp only [Act.put, List.setIfInBounds_toArray, List.set_cons_zero, List.set_cons_succ]
  refine wpAnyH_ready (rs := [14]) (by kernel_rfl) (by simp) ?_
  refine AllReadyH.cons rfl (fun K hK => ?_) AllReadyH.nil
  go_simp
  refine (num_any _ _).mono ?_
  rintro e w' ⟨rfl, rfl⟩
  go_wp2_with fail
  refine hK.out _ _ ?_ (fun hHeld => ?_)
  · exact ⟨p0, p1, p2, r0, r1, r2⟩
  clear hK K
  refine takeH (i := 16) (v := ?_) rfl rfl (by kernel_rfl) (by kernel_rfl) (by kernel_rfl) (fun _ _ _ h => h) (by rfl) ?_ hHeld ?_
  rotate_left
  · (intro w hSw; (try dsimp only at hSw); first | (go_simp; done) | (go_simp; with_reducible rfl))
  simp only [Act.put, List.setIfInBounds_toArray, List.set_cons_zero, List.set_cons_succ]
  refine takeH (i := 17) (v := ?_) rfl rfl (by kernel_rfl) (by kernel_rfl) (by kernel_rfl) (fun _ _ _ h => h) (by rfl) ?_ hHeld ?_
  rotate_left
  · (intro w hSw; (try dsimp only at hSw); first | (go_simp; done) | (go_simp; with_reducible rfl))
  simp only [Act.put, List.setIfInBounds_toArray, List.set_cons_zero, List.set_cons_succ]
  refine takeH (i := 18) (v := ?_) rfl rfl (by kernel_rfl) (by kernel_rfl) (by kernel_rfl) (fun _ _ _ h => h) (by rfl) ?_ hHeld ?_
  rotate_left
  · (intro w hSw; (try dsimp only at hSw); first | (go_simp; done) | (go_simp; with_reducible rfl))
  simp only [Act.put, List.setIfInBounds_toArray, List.set_cons_zero, List.set_cons_succ]
  refine takeH (i := 19) (v := ?_) rfl rfl (by kernel_rfl) (by kernel_rfl) (by kernel_rfl) (fun _ _ _ h => h) (by rfl) ?_ hHeld ?_
  rotate_left
  · (intro w hSw; (try dsimp only at hSw); first | (go_simp; done) | (go_simp; with_reducible rfl))
  simp only [Act.put, List.setIfInBounds_toArray, List.set_cons_zero, List.set_cons_succ]
  refine takeH (i := 20) (v := ?_) rfl rfl (by kernel_rfl) (by kernel_rfl) (by kernel_rfl) (fun _ _ _ h => h) (by rfl) ?_ hHeld ?_
  rotate_left
  · (intro w hSw; (try dsimp only at hSw); first | (go_simp; done) | (go_simp; with_reducible rfl))
  simp only [Act.put, List.setIfInBounds_toArray, List.set_cons_zero, List.set_cons_succ]
  refine wpAnyH_ready (rs := [21]) (by kernel_rfl) (by simp) ?_
  refine AllReadyH.cons rfl (fun K hK => ?_) AllReadyH.nil
  go_simp
  refine (sameInts_any A5 A6 VL c5 VL c6 _ _ (varsO ss c) (varsO ss c) _ HV5.out HV6.out hvl hvl).mono ?_
  rintro e w14 ⟨rfl, hb14⟩
  have HB14 := Lib.hid (HB13.out.trans (hb14.mono HB13.out.size))
  replace HC := Lib.hid (HC.out.on hb14)
  replace HW := Lib.hid (HW.out.on hb14)
  rw [sameI_self]
  clear hb14 HV5 HV6
  clear p0 p1 p2 r0 r1 r2
  have p0 := HC.out.c0
  have p1 := HC.out.c1
  have p2 := HC.out.c2
  have r0 := HW.out.c0
  have r1 := HW.out.c1
  have r2 := HW.out.c2
  go_wp2_with fail
  refine hK.out _ _ ?_ (fun hHeld => ?_)
  · exact ⟨p0, p1, p2, r0, r1, r2⟩
  clear hK K
  refine takeH (i := 22) (v := ?_) rfl rfl (by kernel_rfl) (by kernel_rfl) (by kernel_rfl) (fun _ _ _ h => h) (by rfl) ?_ hHeld ?_
  rotate_left
  · (intro w hSw; (try dsimp only at hSw); first | (go_simp; done) | (go_simp; with_reducible rfl))
  simp only [Act.put, List.setIfInBounds_toArray, List.set_cons_zero, List.set_cons_succ]
  refine takeH (i := 23) (v := ?_) rfl rfl (by kernel_rfl) (by kernel_rfl) (by kernel_rfl) (fun _ _ _ h => h) (by rfl) ?_ hHeld ?_
  rotate_left
  · (intro w hSw; (try dsimp only at hSw); first | (go_simp; done) | (go_simp; with_reducible rfl))
  simp only [Act.put, List.setIfInBounds_toArray, List.set_cons_zero, List.set_cons_succ]
  refine takeH (i := 24) (v := ?_) rfl rfl (by kernel_rfl) (by kernel_rfl) (by kernel_rfl) (fun _ _ _ h => h) (by rfl) ?_ hHeld ?_
  rotate_left
  · (intro w hSw; (try dsimp only at hSw); first | (go_simp; done) | (go_simp; with_reducible rfl))
  simp only [Act.put, List.setIfInBounds_toArray, List.set_cons_zero, List.set_cons_succ]
  refine takeH (i := 26) (v := ?_) rfl rfl (by kernel_rfl) (by kernel_rfl) (by kernel_rfl) (fun _ _ _ h => h) (by rfl) ?_ hHeld ?_
  rotate_left
  · (intro w hSw; (try dsimp only at hSw); first | (go_simp; done) | (go_simp; with_reducible rfl))
  simp only [Act.put, List.setIfInBounds_toArray, List.set_cons_zero, List.set_cons_succ]
  refine wpAnyH_ready (rs := [25]) (by kernel_rfl) (by simp) ?_
  refine AllReadyH.cons rfl (fun K hK => ?_) AllReadyH.nil
  go_simp
  refine (num_any _ _).mono ?_
  rintro e w' ⟨rfl, rfl⟩
  go_wp2_with fail
  refine hK.out _ _ ?_ (fun hHeld => ?_)
  · exact ⟨p0, p1, p2, r0, r1, r2⟩
  clear hK K
  refine takeH (i := 27) (v := ?_) rfl rfl (by kernel_rfl) (by kernel_rfl) (by kernel_rfl) (fun _ _ _ h => h) (by rfl) ?_ hHeld ?_
  rotate_left
  · (intro w hSw; (try dsimp only at hSw); first | (go_simp; done) | (go_simp; with_reducible rfl))
  simp only [Act.put, List.setIfInBounds_toArray, List.set_cons_zero, List.set_cons_succ]
  refine takeH (i := 28) (v := ?_) rfl rfl (by kernel_rfl) (by kernel_rfl) (by kernel_rfl) (fun _ _ _ h => h) (by rfl) ?_ hHeld ?_
  rotate_left
  · (intro w hSw; (try dsimp only at hSw); first | (go_simp; done) | (go_simp; with_reducible rfl))
  simp only [Act.put, List.setIfInBounds_toArray, List.set_cons_zero, List.set_cons_succ]
  refine takeH (i := 29) (v := ?_) rfl rfl (by kernel_rfl) (by kernel_rfl) (by kernel_rfl) (fun _ _ _ h => h) (by rfl) ?_ hHeld ?_
  rotate_left
  · (intro w hSw; (try dsimp only at hSw); first | (go_simp; done) | (go_simp; with_reducible rfl))
  simp only [Act.put, List.setIfInBounds_toArray, List.set_cons_zero, List.set_cons_succ]
  refine takeH (i := 30) (v := ?_) rfl rfl (by kernel_rfl) (by kernel_rfl) (by kernel_rfl) (fun _ _ _ h => h) (by rfl) ?_ hHeld ?_
  rotate_left
  · (intro w hSw; (try dsimp only at hSw); first | (go_simp; done) | (go_simp; with_reducible rfl))
  simp only [Act.put, List.setIfInBounds_toArray, List.set_cons_zero, List.set_cons_succ]
  refine takeH (i := 31) (v := ?_) rfl rfl (by kernel_rfl) (by kernel_rfl) (by kernel_rfl) (fun _ _ _ h => h) (by rfl) ?_ hHeld ?_
  rotate_left
  · (intro w hSw; (try dsimp only at hSw); first | (go_simp; done) | (go_simp; with_reducible rfl))
  simp only [Act.put, List.setIfInBounds_toArray, List.set_cons_zero, List.set_cons_succ]
  refine takeH (i := 32) (v := ?_) rfl rfl (by kernel_rfl) (by kernel_rfl) (by kernel_rfl) (fun _ _ _ h => h) (by rfl) ?_ hHeld ?_
  rotate_left
  · (intro w hSw; (try dsimp only at hSw); first | (go_simp; done) | (go_simp; with_reducible rfl))
  simp only [Act.put, List.setIfInBounds_toArray, List.set_cons_zero, List.set_cons_succ]
  refine takeH (i := 33) (v := ?_) rfl rfl (by kernel_rfl) (by kernel_rfl) (by kernel_rfl) (fun _ _ _ h => h) (by rfl) ?_ hHeld ?_
  rotate_left
  · (intro w hSw; (try dsimp only at hSw); first | (go_simp; done) | (go_simp; with_reducible rfl))
  simp only [Act.put, List.setIfInBounds_toArray, List.set_cons_zero, List.set_cons_succ]
  refine takeH (i := 34) (v := ?_) rfl rfl (by kernel_rfl) (by kernel_rfl) (by kernel_rfl) (fun _ _ _ h => h) (by rfl) ?_ hHeld ?_
  rotate_left
  · (intro w hSw; (try dsimp only at hSw); first | (go_simp; done) | (go_simp; with_reducible rfl))
  simp only [Act.put, List.setIfInBounds_toArray, List.set_cons_zero, List.set_cons_succ]
  refine takeH (i := 35) (v := ?_) rfl rfl (by kernel_rfl) (by kernel_rfl) (by kernel_rfl) (fun _ _ _ h => h) (by rfl) ?_ hHeld ?_
  rotate_left
  · (intro w hSw; (try dsimp only at hSw); first | (go_simp; done) | (go_simp; with_reducible rfl))
  simp only [Act.put, List.setIfInBounds_toArray, List.set_cons_zero, List.set_cons_succ]
  refine takeH (i := 37) (v := ?_) rfl rfl (by kernel_rfl) (by kernel_rfl) (by kernel_rfl) (fun _ _ _ h => h) (by rfl) ?_ hHeld ?_
  rotate_left
  · (intro w hSw; (try dsimp only at hSw); first | (go_simp; done) | (go_simp; with_reducible rfl))
  simp only [Act.put, List.setIfInBounds_toArray, List.set_cons_zero, List.set_cons_succ]
  refine wpAnyH_ready (rs := [36]) (by kernel_rfl) (by simp) ?_
  refine AllReadyH.cons rfl (fun K hK => ?_) AllReadyH.nil
  go_simp
  refine (num_any _ _).mono ?_
  rintro e w' ⟨rfl, rfl⟩
  go_wp2_with fail
  refine hK.out _ _ ?_ (fun hHeld => ?_)
  · exact ⟨p0, p1, p2, r0, r1, r2⟩
  clear hK K
  refine takeH (i := 38) (v := ?_) rfl rfl (by kernel_rfl) (by kernel_rfl) (by kernel_rfl) (fun _ _ _ h => h) (by rfl) ?_ hHeld ?_
  rotate_left
  · (intro w hSw; (try dsimp only at hSw); first | (go_simp; done) | (go_simp; with_reducible rfl))
  simp only [Act.put, List.setIfInBounds_toArray, List.set_cons_zero, List.set_cons_succ]
  refine takeH (i := 39) (v := ?_) rfl rfl (by kernel_rfl) (by kernel_rfl) (by kernel_rfl) (fun _ _ _ h => h) (by rfl) ?_ hHeld ?_
  rotate_left
  · (intro w hSw; (try dsimp only at hSw); first | (go_simp; done) | (go_simp; with_reducible rfl))
  simp only [Act.put, List.setIfInBounds_toArray, List.set_cons_zero, List.set_cons_succ]
  refine takeH (i := 40) (v := ?_) rfl rfl (by kernel_rfl) (by kernel_rfl) (by kernel_rfl) (fun _ _ _ h => h) (by rfl) ?_ hHeld ?_
  rotate_left
  · (intro w hSw; (try dsimp only at hSw); first | (go_simp; done) | (go_simp; with_reducible rfl))
  simp only [Act.put, List.setIfInBounds_toArray, List.set_cons_zero, List.set_cons_succ]
  refine takeH (i := 41) (v := ?_) rfl rfl (by kernel_rfl) (by kernel_rfl) (by kernel_rfl) (fun _ _ _ h => h) (by rfl) ?_ hHeld ?_
  rotate_left
  · (intro w hSw; (try dsimp only at hSw); first | (go_simp; done) | (go_simp; with_reducible rfl))
  simp only [Act.put, List.setIfInBounds_toArray, List.set_cons_zero, List.set_cons_succ]
  refine takeH (i := 42) (v := ?_) rfl rfl (by kernel_rfl) (by kernel_rfl) (by kernel_rfl) (fun _ _ _ h => h) (by rfl) ?_ hHeld ?_
  rotate_left
  · (intro w hSw; (try dsimp only at hSw); first | (go_simp; done) | (go_simp; with_reducible rfl))
  simp only [Act.put, List.setIfInBounds_toArray, List.set_cons_zero, List.set_cons_succ]
  refine takeH (i := 43) (v := ?_) rfl rfl (by kernel_rfl) (by kernel_rfl) (by kernel_rfl) (fun _ _ _ h => h) (by rfl) ?_ hHeld ?_
  rotate_left
  · (intro w hSw; (try dsimp only at hSw); first | (go_simp; done) | (go_simp; with_reducible rfl))
  simp only [Act.put, List.setIfInBounds_toArray, List.set_cons_zero, List.set_cons_succ]
  refine takeH (i := 44) (v := ?_) rfl rfl (by kernel_rfl) (by kernel_rfl) (by kernel_rfl) (fun _ _ _ h => h) (by rfl) ?_ hHeld ?_
  rotate_left
  · (intro w hSw; (try dsimp only at hSw); first | (go_simp; done) | (go_simp; with_reducible rfl))
  simp only [Act.put, List.setIfInBounds_toArray, List.set_cons_zero, List.set_cons_succ]
  refine takeH (i := 45) (v := ?_) rfl rfl (by kernel_rfl) (by kernel_rfl) (by kernel_rfl) (fun _ _ _ h => h) (by rfl) ?_ hHeld ?_
  rotate_left
  · (intro w hSw; (try dsimp only at hSw); first | (go_simp; done) | (go_simp; with_reducible rfl))
  simp only [Act.put, List.setIfInBounds_toArray, List.set_cons_zero, List.set_cons_succ]
  refine takeH (i := 46) (v := ?_) rfl rfl (by kernel_rfl) (by kernel_rfl) (by kernel_rfl) (fun _ _ _ h => h) (by rfl) ?_ hHeld ?_
  rotate_left
  · (intro w hSw; (try dsimp only at hSw); first | (go_simp; done) | (go_simp; with_reducible rfl))
  simp only [Act.put, List.setIfInBounds_toArray, List.set_cons_zero, List.set_cons_succ]
  refine takeH (i := 48) (v := ?_) rfl rfl (by kernel_rfl) (by kernel_rfl) (by kernel_rfl) (fun _ _ _ h => h) (by rfl) ?_ hHeld ?_
  rotate_left
  · (intro w hSw; (try dsimp only at hSw); first | (go_simp; done) | (go_simp; with_reducible rfl))
  simp only [Act.put, List.setIfInBounds_toArray, List.set_cons_zero, List.set_cons_succ]
  refine wpAnyH_ready (rs := [47]) (by kernel_rfl) (by simp) ?_
  refine AllReadyH.cons rfl (fun K hK => ?_) AllReadyH.nil
  go_simp
  refine (num_any _ _).mono ?_
  rintro e w' ⟨rfl, rfl⟩
  go_wp2_with fail
  refine hK.out _ _ ?_ (fun hHeld => ?_)
  · exact ⟨p0, p1, p2, r0, r1, r2⟩
  clear hK K
  refine takeH (i := 49) (v := ?_) rfl rfl (by kernel_rfl) (by kernel_rfl) (by kernel_rfl) (fun _ _ _ h => h) (by rfl) ?_ hHeld ?_
  rotate_left
  · (intro w hSw; (try dsimp only at hSw); first | (go_simp; done) | (go_simp; with_reducible rfl))
  simp only [Act.put, List.setIfInBounds_toArray, List.set_cons_zero, List.set_cons_succ]
  refine takeH (i := 50) (v := ?_) rfl rfl (by kernel_rfl) (by kernel_rfl) (by kernel_rfl) (fun _ _ _ h => h) (by rfl) ?_ hHeld ?_
  rotate_left
  · (intro w hSw; (try dsimp only at hSw); first | (go_simp; done) | (go_simp; with_reducible rfl))
  simp only [Act.put, List.setIfInBounds_toArray, List.set_cons_zero, List.set_cons_succ]
  refine takeH (i := 51) (v := ?_) rfl rfl (by kernel_rfl) (by kernel_rfl) (by kernel_rfl) (fun _ _ _ h => h) (by rfl) ?_ hHeld ?_
  rotate_left
  · (intro w hSw; (try dsimp only at hSw); first | (go_simp; done) | (go_simp; with_reducible rfl))
  simp only [Act.put, List.setIfInBounds_toArray, List.set_cons_zero, List.set_cons_succ]
  refine takeH (i := 52) (v := ?_) rfl rfl (by kernel_rfl) (by kernel_rfl) (by kernel_rfl) (fun _ _ _ h => h) (by rfl) ?_ hHeld ?_
  rotate_left
  · (intro w hSw; (try dsimp only at hSw); first | (go_simp; done) | (go_simp; with_reducible rfl))
  simp only [Act.put, List.setIfInBounds_toArray, List.set_cons_zero, List.set_cons_succ]
  refine takeH (i := 53) (v := ?_) rfl rfl (by kernel_rfl) (by kernel_rfl) (by kernel_rfl) (fun _ _ _ h => h) (by rfl) ?_ hHeld ?_
  rotate_left
  · (intro w hSw; (try dsimp only at hSw); first | (go_simp; done) | (go_simp; with_reducible rfl))
  simp only [Act.put, List.setIfInBounds_toArray, List.set_cons_zero, List.set_cons_succ]
  refine wpAnyH_ready (rs := [54]) (by kernel_rfl) (by simp) ?_
  refine AllReadyH.cons rfl (fun K hK => ?_) AllReadyH.nil
  go_simp
  rw [← HVE.out, ← HXE.out]
  refine (sameClause_true v x c _ HC.out.cl HW.out.cl).mono ?_
  rintro e w15 ⟨rfl, hb15⟩
  have HB15 := Lib.hid (HB14.out.trans (hb15.mono HB14.out.size))
  replace HC := Lib.hid (HC.out.on hb15)
  replace HW := Lib.hid (HW.out.on hb15)
  clear hb15
  clear p0 p1 p2 r0 r1 r2
  have p0 := HC.out.c0
  have p1 := HC.out.c1
  have p2 := HC.out.c2
  have r0 := HW.out.c0
  have r1 := HW.out.c1
  have r2 := HW.out.c2
  go_wp2_with fail
  refine hK.out _ _ ?_ (fun hHeld => ?_)
  · exact ⟨p0, p1, p2, r0, r1, r2⟩
  clear hK K
  refine takeH (i := 55) (v := ?_) rfl rfl (by kernel_rfl) (by kernel_rfl) (by kernel_rfl) (fun _ _ _ h => h) (by rfl) ?_ hHeld ?_
  rotate_left
  · (intro w hSw; (try dsimp only at hSw); first | (go_simp; done) | (go_simp; with_reducible rfl))
  simp only [Act.put, List.setIfInBounds_toArray, List.set_cons_zero, List.set_cons_succ]
  refine takeH (i := 56) (v := ?_) rfl rfl (by kernel_rfl) (by kernel_rfl) (by kernel_rfl) (fun _ _ _ h => h) (by rfl) ?_ hHeld ?_
  rotate_left
  · (intro w hSw; (try dsimp only at hSw); first | (go_simp; done) | (go_simp; with_reducible rfl))
  simp only [Act.put, List.setIfInBounds_toArray, List.set_cons_zero, List.set_cons_succ]
  refine wpAnyH_ready (rs := [57]) (by kernel_rfl) (by simp) ?_
  refine AllReadyH.cons rfl (fun K hK => ?_) AllReadyH.nil
  go_simp
  refine (HAW.out _).mono ?_
  rintro e w16 ⟨rfl, hb16⟩
  have HB16 := Lib.hid (HB15.out.trans (hb16.mono HB15.out.size))
  replace HC := Lib.hid (HC.out.on hb16)
  replace HW := Lib.hid (HW.out.on hb16)
  clear hb16
  clear p0 p1 p2 r0 r1 r2
  have p0 := HC.out.c0
  have p1 := HC.out.c1
  have p2 := HC.out.c2
  have r0 := HW.out.c0
  have r1 := HW.out.c1
  have r2 := HW.out.c2
  go_wp2_with fail
  refine hK.out _ _ ?_ (fun hHeld => ?_)
  · exact ⟨p0, p1, p2, r0, r1, r2⟩
  clear hK K
  refine takeH (i := 58) (v := ?_) rfl rfl (by kernel_rfl) (by kernel_rfl) (by kernel_rfl) (fun _ _ _ h => h) (by rfl) ?_ hHeld ?_
  rotate_left
  · (intro w hSw; (try dsimp only at hSw); first | (go_simp; done) | (go_simp; with_reducible rfl))
  simp only [Act.put, List.setIfInBounds_toArray, List.set_cons_zero, List.set_cons_succ]
  refine takeH (i := 59) (v := ?_) rfl rfl (by kernel_rfl) (by kernel_rfl) (by kernel_rfl) (fun _ _ _ h => h) (by rfl) ?_ hHeld ?_
  rotate_left
  · (intro w hSw; (try dsimp only at hSw); first | (go_simp; done) | (go_simp; with_reducible rfl))
  simp only [Act.put, List.setIfInBounds_toArray, List.set_cons_zero, List.set_cons_succ]
  refine wpAnyH_done (by kernel_rfl) ?_ _
  go_wp2
  go_ret
  exact ⟨rfl, HB16.out⟩
end Go.Proofs.Ytpblpndlajoebaa
