/-
  Contracts of quaereref8: Normal, Variant.
-/
import Derived.Test.YtpblpndlajoebaaRefNorm
import Derived.Test.YtpblpndlajoebaaRefSame
namespace Go.Proofs.Ytpblpndlajoebaa
open Go.RowKit Go.Deep
set_option linter.unusedSimpArgs false
set_option linter.unusedVariables false
set_option maxRecDepth 100000

theorem refNormM_any (v : Cv) (c : Cl) (ss : List Sym) (w : World) (h : ClAt w w.heap.size v c) (hm : MayC ss c) : Calls Try.prog 43 #[v.val] w (ClRet (norm c) w) :=
  refNorm_any v c w h hm.small fun r hr => row24 hm hr
set_option maxHeartbeats 4000000 in
theorem refNormalC_any (A : Option Addr) (n cp : Nat) (ss : List Sym) (v : Cv) (c : Cl) (w : World) (h : SymsAt w w.heap.size A n ss) (hn : n ≤ maxLen) (hnc : n ≤ cp) (hc : ClAt w w.heap.size v c) :
    Calls Try.prog 25 #[.slice A n cp, v.val] w (ClPost (normO ss c) (clE ss c) w) := by
  have hb0 := below_new2 w v.obj (.cells #[.slice none 0 0, .slice none 0 0, .slice none 0 0] 26)
  have hx0 := (CBox.new hc).on (below_new _ (.cells #[.slice none 0 0, .slice none 0 0, .slice none 0 0] 26))
  have hz0 := ZBox.new (w.alloc v.obj)
  have e0 : (w.alloc v.obj).heap.size = w.heap.size + 1 := by simp
  rw [e0] at hz0
  have hs0 := h.on hb0
  have HNO : Hid (mayC ss c = true → normO ss c = norm c ∧ clE ss c = 0) := fun q => by unfold normO clE; rw [q]; exact ⟨rfl, rfl⟩
  have HNF : Hid (mayC ss c = false → normO ss c = ⟨[], [], []⟩ ∧ clE ss c = 800) := fun q => by unfold normO clE; rw [q]; exact ⟨rfl, rfl⟩
  have HMC : Hid (mayC ss c = true → MayC ss c) := fun q => mayC_iff.1 q
  rw [Cv.val_eq]
  have HVE := Lib.hid v.val_eq
  unfold Cv.obj at hb0 hx0 hz0 hs0
  have HX := Lib.hid hx0
  have HZ := Lib.hid hz0
  have HS := Lib.hid hs0
  have HB0 := Lib.hid hb0
  clear h hc hb0 hx0 hz0 hs0 e0
  go_enter Try.func25, Try.ntmps25
  go_wp2_with fail
  rw [← HVE.out]
  refine (refMayC_any A n cp ss v c _ HS.out hn hnc HX.out.cl).mono ?_
  rintro e w1 ⟨rfl, hb1⟩
  have HB1 := Lib.hid (HB0.out.trans (hb1.mono HB0.out.size))
  replace HX := Lib.hid (HX.out.on hb1)
  replace HZ := Lib.hid (HZ.out.on hb1)
  clear hb1 HS HB0
  have p0 := HX.out.c0
  have p1 := HX.out.c1
  have p2 := HX.out.c2
  cases hm : mayC ss c
  · have HE := Lib.hid (HNF.out hm)
    clear hm
    go_wp2_with (refine store_box rfl 26 (.tmp 4) (.tmp 10) rfl rfl (w.heap.size + 1) _ _ rfl rfl HZ.out.z rfl (by kernel_rfl) three_one ?_
                 intro w4 hg4 hc4 hs4
                 have HG4 := Lib.hid hg4
                 have HC4 := Lib.hid hc4
                 clear hg4 hc4 hs4)
    refine clause_ret rfl (g := w.heap.size + 1) rfl rfl rfl HG4.out rfl ?_
    rw [HE.out.1, HE.out.2]
    exact ⟨_, rfl, OwnC.nil_, HB1.out.trans (HC4.out.bel.mono (by omega))⟩
  · have HE := Lib.hid (HNO.out hm)
    have HM := Lib.hid (HMC.out hm)
    clear hm
    go_wp2_with fail
    rw [← HVE.out]
    refine (refNormM_any v c ss _ HX.out.cl HM.out).mono ?_
    rintro e w2 ⟨x, rfl, hx, hb2⟩
    obtain ⟨D1, d1, D2, d2, D3, d3, rfl⟩ := hx.slices
    obtain ⟨n1, hn1⟩ : ∃ n1, n1 = (norm c).lits.length := ⟨_, rfl⟩
    obtain ⟨n2, hn2⟩ : ∃ n2, n2 = (norm c).tups.length := ⟨_, rfl⟩
    obtain ⟨n3, hn3⟩ : ∃ n3, n3 = (norm c).conds.length := ⟨_, rfl⟩
    rw [← hn1, ← hn2, ← hn3] at hx ⊢
    have HO := Lib.hid (hx.lower HB1.out.size)
    have HB2 := Lib.hid (HB1.out.trans (hb2.mono HB1.out.size))
    replace HZ := Lib.hid (HZ.out.on hb2)
    clear hx hb2 hn1 hn2 hn3 p0 p1 p2
    go_wp2_with (refine store_box rfl 26 (.tmp 4) (.tmp 12) rfl rfl (w.heap.size + 1) _ _ rfl rfl HZ.out.z rfl (by kernel_rfl) three_one ?_
                 intro w4 hg4 hc4 hs4
                 have HG4 := Lib.hid hg4
                 have HC4 := Lib.hid hc4
                 clear hg4 hc4 hs4)
    refine clause_ret rfl (g := w.heap.size + 1) rfl rfl rfl HG4.out rfl ?_
    rw [HE.out.1, HE.out.2]
    exact ⟨_, rfl, HO.out.chg HC4.out (by decide) (by decide) (by decide), HB2.out.trans (HC4.out.bel.mono (by omega))⟩
set_option maxHeartbeats 4000000 in
theorem refVariantC_any (A : Option Addr) (n cp : Nat) (ss : List Sym) (v u : Cv) (c d : Cl) (w : World) (h : SymsAt w w.heap.size A n ss) (hn : n ≤ maxLen) (hnc : n ≤ cp) (hc : ClAt w w.heap.size v c) (hd : ClAt w w.heap.size u d) :
    Calls Try.prog 17 #[.slice A n cp, v.val, u.val] w (BoolPost (varB ss c d) (clE2 ss c d) w) := by
  obtain ⟨hx, hy, hb⟩ := CBox.two hc hd
  have hs := h.on hb
  have HVA : Hid (varB ss c d = (mayC ss c && (mayC ss d && sameC (norm c) (norm d)))) := rfl
  have HNE : Hid (clE2 ss c d = if mayC ss c && mayC ss d then 0 else 800) := rfl
  have HMC : Hid (mayC ss c = true → MayC ss c) := fun q => mayC_iff.1 q
  have HMD : Hid (mayC ss d = true → MayC ss d) := fun q => mayC_iff.1 q
  rw [Cv.val_eq, Cv.val_eq]
  have HVE := Lib.hid v.val_eq
  have HUE := Lib.hid u.val_eq
  unfold Cv.obj at hx hy hb hs
  have HX := Lib.hid hx
  have HY := Lib.hid hy
  have HS := Lib.hid hs
  have HB0 := Lib.hid hb
  clear h hc hd hx hy hb hs
  go_enter Try.func17, Try.ntmps17
  go_wp2_with fail
  rw [← HVE.out]
  refine (refMayC_any A n cp ss v c _ HS.out hn hnc HX.out.cl).mono ?_
  rintro e w1 ⟨rfl, hb1⟩
  have HB1 := Lib.hid (HB0.out.trans (hb1.mono HB0.out.size))
  replace HX := Lib.hid (HX.out.on hb1)
  replace HY := Lib.hid (HY.out.on hb1)
  replace HS := Lib.hid (HS.out.on hb1)
  clear hb1 HB0
  have p0 := HX.out.c0
  have p1 := HX.out.c1
  have p2 := HX.out.c2
  have q0 := HY.out.c0
  have q1 := HY.out.c1
  have q2 := HY.out.c2
  cases hm : mayC ss c
  case false =>
    rw [hm] at HVA HNE
    clear hm
    go_wp2
    go_ret2
    exact ⟨ret_bi (by rw [HVA.out]; rfl) (by rw [HNE.out]; rfl), HB1.out⟩
  rw [hm] at HVA HNE
  have HM := Lib.hid (HMC.out hm)
  clear hm
  go_wp2_with fail
  rw [← HUE.out]
  refine (refMayC_any A n cp ss u d _ HS.out hn hnc HY.out.cl).mono ?_
  rintro e w2 ⟨rfl, hb2⟩
  have HB2 := Lib.hid (HB1.out.trans (hb2.mono HB1.out.size))
  replace HX := Lib.hid (HX.out.on hb2)
  replace HY := Lib.hid (HY.out.on hb2)
  clear hb2 HS
  clear p0 p1 p2 q0 q1 q2
  have p0 := HX.out.c0
  have p1 := HX.out.c1
  have p2 := HX.out.c2
  have q0 := HY.out.c0
  have q1 := HY.out.c1
  have q2 := HY.out.c2
  cases hm : mayC ss d
  case false =>
    rw [hm] at HVA HNE
    clear hm
    go_wp2
    go_ret2
    exact ⟨ret_bi (by rw [HVA.out]; rfl) (by rw [HNE.out]; rfl), HB2.out⟩
  rw [hm] at HVA HNE
  have HN := Lib.hid (HMD.out hm)
  clear hm
  obtain ⟨B, hB⟩ : ∃ B, B = w.heap.size := ⟨_, rfl⟩
  rw [← hB] at HX HY p0 p1 p2 q0 q1 q2 ⊢
  have HBH := Lib.hid hB
  clear hB
  go_wp2_with fail
  refine wp_region_held_drew (S := (fun w' => w'.cell? ⟨B, 0, none⟩ = some (.slice v.A1 v.n1 v.c1) ∧ w'.cell? ⟨B, 1, none⟩ = some (.slice v.A2 v.n2 v.c2) ∧ w'.cell? ⟨B, 2, none⟩ = some (.slice v.A3 v.n3 v.c3) ∧ w'.cell? ⟨B + 1, 0, none⟩ = some (.slice u.A1 u.n1 u.c1) ∧ w'.cell? ⟨B + 1, 1, none⟩ = some (.slice u.A2 u.n2 u.c2) ∧ w'.cell? ⟨B + 1, 2, none⟩ = some (.slice u.A3 u.n3 u.c3))) (by kernel_rfl) ⟨p0, p1, p2, q0, q1, q2⟩ (fun hHeld => ?_)
  have hd0 : Below w2.heap.size w2 w2.drew := (Below.refl w2.heap.size w2).drew
  refine takeH (i := 0) (v := ?_) rfl rfl (by kernel_rfl) (by kernel_rfl) (by kernel_rfl) (fun _ _ _ h => h) (by rfl) ?_ hHeld ?_
  rotate_left
  · (intro w hSw; (try dsimp only at hSw); first | (go_simp; done) | (go_simp; with_reducible rfl))
  simp only [Act.put, List.setIfInBounds_toArray, List.set_cons_zero, List.set_cons_succ]
  refine takeH (i := 2) (v := ?_) rfl rfl (by kernel_rfl) (by kernel_rfl) (by kernel_rfl) (fun _ _ _ h => h) (by rfl) ?_ hHeld ?_
  rotate_left
  · (intro w hSw; (try dsimp only at hSw); first | (go_simp; done) | (go_simp; with_reducible rfl))
  simp only [Act.put, List.setIfInBounds_toArray, List.set_cons_zero, List.set_cons_succ]
  replace HX := Lib.hid (HX.out.on hd0)
  replace HY := Lib.hid (HY.out.on hd0)
  have HB3 := Lib.hid (HB2.out.trans (hd0.mono HB2.out.size))
  clear hd0
  obtain ⟨w3, hw3⟩ : ∃ w3, w3 = w2.drew := ⟨_, rfl⟩
  rw [← hw3] at HX HY HB3 ⊢
  clear hw3
  refine wpAnyH_ready (rs := [1]) (by kernel_rfl) (by simp) ?_
  refine AllReadyH.cons rfl (fun K hK => ?_) AllReadyH.nil
  go_simp
  rw [← HVE.out]
  refine (refNormM_any v c ss _ HX.out.cl HM.out).mono ?_
  rintro e w4 ⟨x, rfl, hx, hb4⟩
  have HB4 := Lib.hid (HB3.out.trans (hb4.mono HB3.out.size))
  replace HX := Lib.hid (HX.out.on hb4)
  replace HY := Lib.hid (HY.out.on hb4)
  obtain ⟨x1, rfl, hx1⟩ := hx.clAt HM.out.normal.fit
  have HX1 := Lib.hid hx1
  rw [Cv.val_eq]
  have HXE := Lib.hid x1.val_eq
  clear hx hx1 hb4
  clear p0 p1 p2 q0 q1 q2
  have p0 := HX.out.c0
  have p1 := HX.out.c1
  have p2 := HX.out.c2
  have q0 := HY.out.c0
  have q1 := HY.out.c1
  have q2 := HY.out.c2
  go_wp2_with fail
  refine hK.out _ _ ?_ (fun hHeld => ?_)
  · exact ⟨p0, p1, p2, q0, q1, q2⟩
  clear hK K
  refine wpAnyH_ready (rs := [3]) (by kernel_rfl) (by simp) ?_
  refine AllReadyH.cons rfl (fun K hK => ?_) AllReadyH.nil
  go_simp
  rw [← HUE.out]
  refine (refNormM_any u d ss _ HY.out.cl HN.out).mono ?_
  rintro e w5 ⟨x, rfl, hx, hb5⟩
  have HB5 := Lib.hid (HB4.out.trans (hb5.mono HB4.out.size))
  replace HX := Lib.hid (HX.out.on hb5)
  replace HY := Lib.hid (HY.out.on hb5)
  replace HX1 := Lib.hid (HX1.out.on hb5)
  obtain ⟨x2, rfl, hx2⟩ := hx.clAt HN.out.normal.fit
  have HX2 := Lib.hid hx2
  rw [Cv.val_eq]
  have HXF := Lib.hid x2.val_eq
  clear hx hx2 hb5
  clear p0 p1 p2 q0 q1 q2
  have p0 := HX.out.c0
  have p1 := HX.out.c1
  have p2 := HX.out.c2
  have q0 := HY.out.c0
  have q1 := HY.out.c1
  have q2 := HY.out.c2
  go_wp2_with fail
  refine hK.out _ _ ?_ (fun hHeld => ?_)
  · exact ⟨p0, p1, p2, q0, q1, q2⟩
  clear hK K
  refine wpAnyH_ready (rs := [4]) (by kernel_rfl) (by simp) ?_
  refine AllReadyH.cons rfl (fun K hK => ?_) AllReadyH.nil
  go_simp
  rw [← HXE.out, ← HXF.out]
  refine (refSameC_any x1 x2 (norm c) (norm d) _ HX1.out HX2.out HM.out.normal.small HN.out.normal.small).mono ?_
  rintro e w6 ⟨rfl, hb6⟩
  have HB6 := Lib.hid (HB5.out.trans (hb6.mono HB5.out.size))
  replace HX := Lib.hid (HX.out.on hb6)
  replace HY := Lib.hid (HY.out.on hb6)
  clear hb6
  clear p0 p1 p2 q0 q1 q2
  have p0 := HX.out.c0
  have p1 := HX.out.c1
  have p2 := HX.out.c2
  have q0 := HY.out.c0
  have q1 := HY.out.c1
  have q2 := HY.out.c2
  go_wp2_with fail
  refine hK.out _ _ ?_ (fun hHeld => ?_)
  · exact ⟨p0, p1, p2, q0, q1, q2⟩
  clear hK K
  refine takeH (i := 5) (v := ?_) rfl rfl (by kernel_rfl) (by kernel_rfl) (by kernel_rfl) (fun _ _ _ h => h) (by rfl) ?_ hHeld ?_
  rotate_left
  · (intro w hSw; (try dsimp only at hSw); first | (go_simp; done) | (go_simp; with_reducible rfl))
  simp only [Act.put, List.setIfInBounds_toArray, List.set_cons_zero, List.set_cons_succ]
  refine takeH (i := 6) (v := ?_) rfl rfl (by kernel_rfl) (by kernel_rfl) (by kernel_rfl) (fun _ _ _ h => h) (by rfl) ?_ hHeld ?_
  rotate_left
  · (intro w hSw; (try dsimp only at hSw); first | (go_simp; done) | (go_simp; with_reducible rfl))
  simp only [Act.put, List.setIfInBounds_toArray, List.set_cons_zero, List.set_cons_succ]
  refine wpAnyH_done (by kernel_rfl) ?_ _
  go_wp2
  go_ret2
  exact ⟨ret_bi (by rw [HVA.out]; simp) (by rw [HNE.out]; rfl), HB6.out⟩
end Go.Proofs.Ytpblpndlajoebaa
