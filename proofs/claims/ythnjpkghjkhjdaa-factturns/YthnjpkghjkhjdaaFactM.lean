/-
  Contract of the reference: May of a table.
-/
import Derived.Test.YthnjpkghjkhjdaaFactE
namespace Go.Proofs.Ythnjpkghjkhjdaa
open Go.RowKit Go.Deep
set_option linter.unusedSimpArgs false
set_option linter.unusedVariables false
set_option maxRecDepth 100000

theorem tabr_no1 {ss : List Sym} {t : Tb} (h : t.slots.length ≠ 32) : tabB ss t = false := tabB_no fun _ q => h q.len
theorem tabr_no2 {ss : List Sym} {t : Tb} (h : 24 < t.facts.length) : tabB ss t = false := tabB_no fun _ q => absurd q.few (by omega)
theorem tabr_no3 {ss : List Sym} {t : Tb} (h : mayB ss = false) : tabB ss t = false := tabB_no fun q _ => by rw [h] at q; cases q
theorem tabr_no4 {ss : List Sym} {t : Tb} {k : Nat} (hk : k < 32) (h : slAt t k < -2) : tabB ss t = false := tabB_no fun _ q => by have := (q.rng k hk).1; omega
theorem tabr_no5 {ss : List Sym} {t : Tb} {k : Nat} (hk : k < 32) (h : t.facts.length ≤ slAt t k) : tabB ss t = false := tabB_no fun _ q => by have := (q.rng k hk).2; omega
theorem tabr_no6 {ss : List Sym} {t : Tb} (h : takenN t 32 ≠ t.facts.length) : tabB ss t = false := tabB_no fun _ q => h (by rw [takenN_all]; exact q.taken)
theorem tabr_no7 {ss : List Sym} {t : Tb} {k : Nat} (hk : k < t.facts.length) (h : ¬ RefAt (factB ss) t k) : tabB ss t = false := tabB_no fun _ q => h (q.refAt hk)
set_option maxHeartbeats 4000000 in
theorem refMayT_any (A : Option Addr) (n cp : Nat) (ss : List Sym) (v : Tv) (t : Tb) (w : World) (h : SymsAt w w.heap.size A n ss) (hn : n ≤ maxLen) (hc : TabAt w w.heap.size v t) :
    Calls Try.prog 15 #[.slice A n cp, v.val] w fun e w' => e = .returned (.bool (tabB ss t)) ∧ Below w.heap.size w w' := by
  have hb0 := below_new w v.obj
  have hx := TBox.new hc
  have hs := h.on hb0
  have h1 := hc.sl.len
  have h2 := hc.fc.len
  rw [Tv.val_eq]
  unfold Tv.obj at hx hb0 hs
  obtain ⟨A1, n1, c1, A2, n2, c2⟩ := v
  dsimp only at h1 h2 hx hb0 hs ⊢
  have HX := Lib.hid hx
  have HB0 := Lib.hid hb0
  have HS := Lib.hid hs
  have H1 := Lib.hid h1
  have H2 := Lib.hid h2
  have p0 := hx.c0
  have p1 := hx.c1
  have f1 := hx.tb.f1
  have f2 := hx.tb.f2
  dsimp only at p0 p1 f1 f2
  clear hc hb0 hx hs h h1 h2
  go_enter Try.func15, Try.ntmps15
  go_wp2_with fail
  obtain ⟨w0, hw0⟩ : ∃ w0, w0 = w.alloc (.cells #[.slice A1 n1 c1, .slice A2 n2 c2] 26) := ⟨_, rfl⟩
  rw [← hw0] at HX HB0 HS p0 p1 ⊢
  clear hw0
  refine (signMay_any A n cp ss _ HS.out hn).mono ?_
  rintro e w1 ⟨rfl, hb1⟩
  have HB1 := Lib.hid (HB0.out.trans (hb1.mono HB0.out.size))
  replace HX := Lib.hid (HX.out.on hb1)
  replace HS := Lib.hid (HS.out.on hb1)
  clear p0 p1 hb1
  have p0 := HX.out.c0
  have p1 := HX.out.c1
  dsimp only at p0 p1
  cases hmay : mayB ss
  case false =>
    have HN := Lib.hid (tabr_no3 (t := t) hmay)
    clear hmay
    go_wp2
    go_ret
    exact ⟨ret_b HN.out.symm, HB1.out⟩
  have HM := Lib.hid hmay
  clear hmay
  by_cases g1 : n1 = 32
  case neg =>
    have HN := Lib.hid (tabr_no1 (ss := ss) (t := t) (by rw [H1.out]; exact g1))
    have g2 : ((n1 : Int) != 32) = true := by simp; omega
    go_wp2
    go_ret
    exact ⟨ret_b HN.out.symm, HB1.out⟩
  subst g1
  by_cases g2 : n2 ≤ 24
  case neg =>
    have HN := Lib.hid (tabr_no2 (ss := ss) (t := t) (by rw [H2.out]; omega))
    have g2' : (24 : Int) < (n2 : Int) := by omega
    go_wp2
    go_ret
    exact ⟨ret_b HN.out.symm, HB1.out⟩
  have g2' : ¬ (24 : Int) < (n2 : Int) := by omega
  go_wp2_with fail
  go_loopw [5, 6] (fun q i wr => ∃ k : Nat, q = .int .i64 (takenN t k : Nat) ∧ i = .int .i64 k ∧ k ≤ 32 ∧ takenN t k ≤ k ∧ Hid (∀ j, j < k → -2 ≤ slAt t j ∧ slAt t j < t.facts.length) ∧ Below w1.heap.size w1 wr) (fun _ i _ => 32 - (intOf i).toNat)
  case atStart => exact ⟨0, rfl, rfl, by omega, by rw [takenN_zero]; omega, fun j hj => absurd hj (Nat.not_lt_zero _), Below.refl _ _⟩
  case round =>
    obtain ⟨k, rfl, rfl, hk, htk, HR, hbw⟩ := hrel
    have HBW := Lib.hid hbw
    have HXR := Lib.hid (HX.out.on hbw)
    have HSR := Lib.hid (HS.out.on hbw)
    have HBB := Lib.hid (HB1.out.trans (hbw.mono HB1.out.size))
    clear hbw p0 p1
    have p0 := HXR.out.c0
    have p1 := HXR.out.c1
    dsimp only at p0 p1
    obtain ⟨y, hy⟩ : ∃ y, y = takenN t k := ⟨_, rfl⟩
    rw [← hy] at htk ⊢
    have HY := Lib.hid hy
    clear hy
    by_cases hlt : k < 32
    · obtain ⟨b, off, hA, hbb, hcl⟩ := HXR.out.tb.sl.at_ (show 0 < 32 by omega)
      dsimp only at hA
      subst hA
      have hcx := hcl k hlt
      obtain ⟨x, hx⟩ : ∃ x, x = slAt t k := ⟨_, rfl⟩
      replace hcx : wr.cell? ⟨b, off + k, none⟩ = some (.int .i64 x) := by rw [hx]; exact hcx
      have HXX := Lib.hid hx
      have HT := Lib.hid (takenN_next (t := t) (n := k))
      rw [← HXX.out, ← HY.out] at HT
      have k1 : (k : Int) < 32 := by omega
      have k0 : (0 : Int) ≤ (k : Int) := by omega
      clear hcl hx
      by_cases e1 : x < -2
      · have HN := Lib.hid (tabr_no4 (ss := ss) (t := t) hlt (by rw [← HXX.out]; exact e1))
        have e1' : decide (x < -2) = true := decide_eq_true e1
        clear e1
        go_wp2_with fail
        go_quiet (fail)
        go_wp2
        go_ret
        exact ⟨ret_b HN.out.symm, HBB.out.trans (below_drewN _ _)⟩
      have e1' : decide (x < -2) = false := decide_eq_false e1
      by_cases e2 : (n2 : Int) ≤ x
      · have HN := Lib.hid (tabr_no5 (ss := ss) (t := t) hlt (by rw [← HXX.out, H2.out]; exact e2))
        have e2' : decide ((n2 : Int) ≤ x) = true := decide_eq_true e2
        clear e1
        go_wp2_with fail
        go_quiet (fail)
        go_wp2
        go_ret
        exact ⟨ret_b HN.out.symm, HBB.out.trans (below_drewN _ _)⟩
      have e2' : decide ((n2 : Int) ≤ x) = false := decide_eq_false e2
      have HRN : Hid (-2 ≤ slAt t k ∧ slAt t k < t.facts.length) := by show _ ∧ _; rw [← HXX.out, H2.out]; omega
      by_cases e3 : 0 ≤ x
      · have HN : Hid (takenN t (k + 1) = y + 1) := by show _ = _; rw [HT.out, if_pos e3]
        clear e1 e2
        go_wp2_with fail
        go_quiet (fail)
        go_wp2
        go_roundw
        case rel => exact ⟨k + 1, by rw [HN.out]; go_num, by go_num, by omega, by rw [HN.out]; omega, fun j hj => if z : j = k then z ▸ HRN.out else HR.out j (by omega), HBW.out.trans (below_drewN _ _)⟩
        case measure => simp [intOf]; omega
      · have HN : Hid (takenN t (k + 1) = y) := by show _ = _; rw [HT.out, if_neg e3]; rfl
        clear e1 e2
        go_wp2_with fail
        go_quiet (fail)
        go_wp2
        go_roundw
        case rel => exact ⟨k + 1, by rw [HN.out], by go_num, by omega, by rw [HN.out]; omega, fun j hj => if z : j = k then z ▸ HRN.out else HR.out j (by omega), HBW.out.trans (below_drewN _ _)⟩
        case measure => simp [intOf]; omega
    obtain rfl : k = 32 := by omega
    by_cases e1 : y = n2
    case neg =>
      have HN := Lib.hid (tabr_no6 (ss := ss) (t := t) (by rw [← HY.out, H2.out]; exact e1))
      have e2 : ((y : Int) != (n2 : Int)) = true := by simp; omega
      go_wp2
      go_ret
      exact ⟨ret_b HN.out.symm, HBB.out⟩
    subst e1
    have HRG : Hid (Range t) := HR.out
    go_wp2_with fail
    obtain ⟨wA, hwA⟩ : ∃ wA, wA = wr := ⟨_, rfl⟩
    subst hwA
    go_loopw [7] (fun i wr => ∃ k : Nat, i = .int .i64 k ∧ k ≤ y ∧ Hid (∀ j, j < k → RefAt (factB ss) t j) ∧ Below wA.heap.size wA wr) (fun i _ => y - (intOf i).toNat)
    case atStart => exact ⟨0, rfl, by omega, fun j hj => absurd hj (Nat.not_lt_zero _), Below.refl _ _⟩
    case round =>
      clear HX HS HBW HR p0 p1
      obtain ⟨k, rfl, hk, HR, hbw⟩ := hrel
      have HBW := Lib.hid hbw
      have HX := Lib.hid (HXR.out.on hbw)
      have HS := Lib.hid (HSR.out.on hbw)
      have HBF := Lib.hid (HBB.out.trans (hbw.mono HBB.out.size))
      clear hbw
      have p0 := HX.out.c0
      have p1 := HX.out.c1
      dsimp only at p0 p1
      by_cases hlt : k < y
      case neg =>
        obtain rfl : k = y := by omega
        have HN := Lib.hid (tabB_yes HM.out (TabOk.ofRef (F := factB ss) H1.out (by rw [H2.out]; exact g2) HRG.out (by rw [← HY.out, H2.out]) (fun j hj => HR.out j (by rw [← H2.out]; exact hj))))
        go_wp2
        go_ret
        exact ⟨ret_b HN.out.symm, HBF.out⟩
      have hkl : k < t.facts.length := by rw [H2.out]; exact hlt
      have q1 : (k : Int) < (y : Int) := by omega
      have q0 : (0 : Int) ≤ (k : Int) := by omega
      go_wp2_with fail
      refine (refSlot_any ⟨A1, 32, c1, A2, y, c2⟩ t k _ HX.out.tb rfl).mono ?_
      rintro e w2 ⟨rfl, hb2⟩
      replace HX := Lib.hid (HX.out.on hb2)
      replace HS := Lib.hid (HS.out.on hb2)
      replace HBF := Lib.hid (HBF.out.trans (hb2.mono HBF.out.size))
      replace HBW := Lib.hid (HBW.out.trans (hb2.mono HBW.out.size))
      clear hb2 p0 p1
      have p0 := HX.out.c0
      have p1 := HX.out.c1
      dsimp only at p0 p1
      have hlb := lastN_is (t := t) (z := (k : Int)) 32
      obtain ⟨s, hs⟩ : ∃ s, s = lastN t k 32 := ⟨_, rfl⟩
      rw [← hs] at hlb ⊢
      have HSS := Lib.hid hs
      have HLB := Lib.hid hlb
      clear hs hlb
      obtain ⟨b2, o2, A3, c3, hA2, hb2B, d0, hri, _⟩ := HX.out.tb.fc.one (i := k) hlt
      dsimp only at hA2
      subst hA2
      obtain ⟨r, hrr⟩ : ∃ r, r = rowOf t.facts k := ⟨_, rfl⟩
      rw [← hrr] at d0 hri
      have HRI := Lib.hid hri
      have HRR : Hid (fcAt t k = r) := hrr.symm
      clear hri hrr
      have hwb := where_bd (t := t) (a := r)
      obtain ⟨x, hx⟩ : ∃ x, x = whereR t r := ⟨_, rfl⟩
      rw [← hx] at hwb
      have HXW := Lib.hid hx.symm
      clear hx
      go_wp2_with fail
      have hd : Below w2.heap.size w2 w2.drew := (Below.refl w2.heap.size w2).drew
      have HX4 := Lib.hid (HX.out.on hd)
      have HS4 := Lib.hid (HS.out.on hd)
      have HRI4 := Lib.hid (HRI.out.on hd)
      have HBF4 := Lib.hid (HBF.out.trans (hd.mono HBF.out.size))
      have HBW4 := Lib.hid (HBW.out.trans (hd.mono HBW.out.size))
      refine wp_region_held_drew (S := (fun w' => w'.cell? ⟨w.heap.size, 0, none⟩ = some (.slice A1 32 c1) ∧ w'.cell? ⟨w.heap.size, 1, none⟩ = some (.slice (some ⟨b2, o2, none⟩) y c2) ∧ w'.cell? ⟨b2, o2 + k, none⟩ = some (.slice A3 r.length c3))) (by kernel_rfl) ⟨p0, p1, d0⟩ (fun hHeld => ?_)
      clear HX HS HRI HBF HBW
      refine takeH (i := 0) (v := ?_) rfl rfl (by kernel_rfl) (by kernel_rfl) (by kernel_rfl) (fun _ _ _ h => h) (by rfl) ?_ hHeld ?_
      rotate_left
      · (intro w hSw; (try dsimp only at hSw); first | (go_simp; done) | (go_simp; with_reducible rfl))
      simp only [Act.put, List.setIfInBounds_toArray, List.set_cons_zero, List.set_cons_succ]
      refine takeH (i := 1) (v := ?_) rfl rfl (by kernel_rfl) (by kernel_rfl) (by kernel_rfl) (fun _ _ _ h => h) (by rfl) ?_ hHeld ?_
      rotate_left
      · (intro w hSw; (try dsimp only at hSw); first | (go_simp; done) | (go_simp; with_reducible rfl))
      simp only [Act.put, List.setIfInBounds_toArray, List.set_cons_zero, List.set_cons_succ]
      refine takeH (i := 2) (v := ?_) rfl rfl (by kernel_rfl) (by kernel_rfl) (by kernel_rfl) (fun _ _ _ h => h) (by rfl) ?_ hHeld ?_
      rotate_left
      · (intro w hSw; (try dsimp only at hSw); first | (go_simp; done) | (go_simp; with_reducible rfl))
      simp only [Act.put, List.setIfInBounds_toArray, List.set_cons_zero, List.set_cons_succ]
      refine takeH (i := 3) (v := ?_) rfl rfl (by kernel_rfl) (by kernel_rfl) (by kernel_rfl) (fun _ _ _ h => h) (by rfl) ?_ hHeld ?_
      rotate_left
      · (intro w hSw; (try dsimp only at hSw); first | (go_simp; done) | (go_simp; with_reducible rfl))
      simp only [Act.put, List.setIfInBounds_toArray, List.set_cons_zero, List.set_cons_succ]
      refine takeH (i := 4) (v := ?_) rfl rfl (by kernel_rfl) (by kernel_rfl) (by kernel_rfl) (fun _ _ _ h => h) (by rfl) ?_ hHeld ?_
      rotate_left
      · (intro w hSw; (try dsimp only at hSw); first | (go_simp; done) | (go_simp; with_reducible rfl))
      simp only [Act.put, List.setIfInBounds_toArray, List.set_cons_zero, List.set_cons_succ]
      refine takeH (i := 5) (v := ?_) rfl rfl (by kernel_rfl) (by kernel_rfl) (by kernel_rfl) (fun _ _ _ h => h) (by rfl) ?_ hHeld ?_
      rotate_left
      · (intro w hSw; (try dsimp only at hSw); first | (go_simp; done) | (go_simp; with_reducible rfl))
      simp only [Act.put, List.setIfInBounds_toArray, List.set_cons_zero, List.set_cons_succ]
      refine wpAnyH_ready (rs := [6]) (by kernel_rfl) (by simp) ?_
      refine AllReadyH.cons rfl (fun K hK => ?_) AllReadyH.nil
      go_simp
      refine (refIsFact_any A A3 n cp r.length c3 ss r _ HS4.out hn HRI4.out.at_ HRI4.out.big HRI4.out.cap).mono ?_
      rintro e w3 ⟨rfl, hb3⟩
      replace HX4 := Lib.hid (HX4.out.on hb3)
      replace HS4 := Lib.hid (HS4.out.on hb3)
      replace HRI4 := Lib.hid (HRI4.out.on hb3)
      replace HBF4 := Lib.hid (HBF4.out.trans (hb3.mono HBF4.out.size))
      replace HBW4 := Lib.hid (HBW4.out.trans (hb3.mono HBW4.out.size))
      have d3 : w3.cell? ⟨b2, o2 + k, none⟩ = some (.slice A3 r.length c3) := by rw [hb3.cell (p := ⟨b2, o2 + k, none⟩) hb2B]; exact d0
      have hb3B : b2 < w3.heap.size := Nat.lt_of_lt_of_le hb2B hb3.size
      clear hb3 p0 p1 d0
      have p0 := HX4.out.c0
      have p1 := HX4.out.c1
      dsimp only at p0 p1
      cases hfb : factB ss r
      case false =>
        have HN := Lib.hid (tabr_no7 hkl (fun q => by have := q.fact; rw [HRR.out, hfb] at this; cases this))
        clear hfb
        go_wp2_with fail
        refine hK.out _ _ ?_ (fun hHeld => ?_)
        · exact ⟨p0, p1, d3⟩
        clear hK K
        refine takeH (i := 7) (v := ?_) rfl rfl (by kernel_rfl) (by kernel_rfl) (by kernel_rfl) (fun _ _ _ h => h) (by rfl) ?_ hHeld ?_
        rotate_left
        · (intro w hSw; (try dsimp only at hSw); first | (go_simp; done) | (go_simp; with_reducible rfl))
        simp only [Act.put, List.setIfInBounds_toArray, List.set_cons_zero, List.set_cons_succ]
        refine takeH (i := 8) (v := ?_) rfl rfl (by kernel_rfl) (by kernel_rfl) (by kernel_rfl) (fun _ _ _ h => h) (by rfl) ?_ hHeld ?_
        rotate_left
        · (intro w hSw; (try dsimp only at hSw); first | (go_simp; done) | (go_simp; with_reducible rfl))
        simp only [Act.put, List.setIfInBounds_toArray, List.set_cons_zero, List.set_cons_succ]
        refine passH (i := 9) rfl rfl (by kernel_rfl) (by kernel_rfl) (by kernel_rfl) (fun _ _ _ h => h) (by rfl) hHeld ?_
        simp only [Act.put, List.setIfInBounds_toArray, List.set_cons_zero, List.set_cons_succ]
        refine passH (i := 10) rfl rfl (by kernel_rfl) (by kernel_rfl) (by kernel_rfl) (fun _ _ _ h => h) (by rfl) hHeld ?_
        simp only [Act.put, List.setIfInBounds_toArray, List.set_cons_zero, List.set_cons_succ]
        refine passH (i := 11) rfl rfl (by kernel_rfl) (by kernel_rfl) (by kernel_rfl) (fun _ _ _ h => h) (by rfl) hHeld ?_
        simp only [Act.put, List.setIfInBounds_toArray, List.set_cons_zero, List.set_cons_succ]
        refine passH (i := 12) rfl rfl (by kernel_rfl) (by kernel_rfl) (by kernel_rfl) (fun _ _ _ h => h) (by rfl) hHeld ?_
        simp only [Act.put, List.setIfInBounds_toArray, List.set_cons_zero, List.set_cons_succ]
        refine passH (i := 13) rfl rfl (by kernel_rfl) (by kernel_rfl) (by kernel_rfl) (fun _ _ _ h => h) (by rfl) hHeld ?_
        simp only [Act.put, List.setIfInBounds_toArray, List.set_cons_zero, List.set_cons_succ]
        refine passH (i := 14) rfl rfl (by kernel_rfl) (by kernel_rfl) (by kernel_rfl) (fun _ _ _ h => h) (by rfl) hHeld ?_
        simp only [Act.put, List.setIfInBounds_toArray, List.set_cons_zero, List.set_cons_succ]
        refine passH (i := 15) rfl rfl (by kernel_rfl) (by kernel_rfl) (by kernel_rfl) (fun _ _ _ h => h) (by rfl) hHeld ?_
        simp only [Act.put, List.setIfInBounds_toArray, List.set_cons_zero, List.set_cons_succ]
        refine passH (i := 16) rfl rfl (by kernel_rfl) (by kernel_rfl) (by kernel_rfl) (fun _ _ _ h => h) (by rfl) hHeld ?_
        simp only [Act.put, List.setIfInBounds_toArray, List.set_cons_zero, List.set_cons_succ]
        refine passH (i := 17) rfl rfl (by kernel_rfl) (by kernel_rfl) (by kernel_rfl) (fun _ _ _ h => h) (by rfl) hHeld ?_
        simp only [Act.put, List.setIfInBounds_toArray, List.set_cons_zero, List.set_cons_succ]
        refine takeH (i := 18) (v := ?_) rfl rfl (by kernel_rfl) (by kernel_rfl) (by kernel_rfl) (fun _ _ _ h => h) (by rfl) ?_ hHeld ?_
        rotate_left
        · (intro w hSw; (try dsimp only at hSw); first | (go_simp; done) | (go_simp; with_reducible rfl))
        simp only [Act.put, List.setIfInBounds_toArray, List.set_cons_zero, List.set_cons_succ]
        refine takeH (i := 19) (v := ?_) rfl rfl (by kernel_rfl) (by kernel_rfl) (by kernel_rfl) (fun _ _ _ h => h) (by rfl) ?_ hHeld ?_
        rotate_left
        · (intro w hSw; (try dsimp only at hSw); first | (go_simp; done) | (go_simp; with_reducible rfl))
        simp only [Act.put, List.setIfInBounds_toArray, List.set_cons_zero, List.set_cons_succ]
        refine passH (i := 20) rfl rfl (by kernel_rfl) (by kernel_rfl) (by kernel_rfl) (fun _ _ _ h => h) (by rfl) hHeld ?_
        simp only [Act.put, List.setIfInBounds_toArray, List.set_cons_zero, List.set_cons_succ]
        refine passH (i := 21) rfl rfl (by kernel_rfl) (by kernel_rfl) (by kernel_rfl) (fun _ _ _ h => h) (by rfl) hHeld ?_
        simp only [Act.put, List.setIfInBounds_toArray, List.set_cons_zero, List.set_cons_succ]
        refine takeH (i := 22) (v := ?_) rfl rfl (by kernel_rfl) (by kernel_rfl) (by kernel_rfl) (fun _ _ _ h => h) (by rfl) ?_ hHeld ?_
        rotate_left
        · (intro w hSw; (try dsimp only at hSw); first | (go_simp; done) | (go_simp; with_reducible rfl))
        simp only [Act.put, List.setIfInBounds_toArray, List.set_cons_zero, List.set_cons_succ]
        refine wpAnyH_done (by kernel_rfl) ?_ _
        go_wp2
        go_ret
        exact ⟨ret_b HN.out.symm, HBF4.out⟩
      have HFB := Lib.hid hfb
      clear hfb
      go_wp2_with fail
      refine hK.out _ _ ?_ (fun hHeld => ?_)
      · exact ⟨p0, p1, d3⟩
      clear hK K
      refine takeH (i := 7) (v := ?_) rfl rfl (by kernel_rfl) (by kernel_rfl) (by kernel_rfl) (fun _ _ _ h => h) (by rfl) ?_ hHeld ?_
      rotate_left
      · (intro w hSw; (try dsimp only at hSw); first | (go_simp; done) | (go_simp; with_reducible rfl))
      simp only [Act.put, List.setIfInBounds_toArray, List.set_cons_zero, List.set_cons_succ]
      refine takeH (i := 8) (v := ?_) rfl rfl (by kernel_rfl) (by kernel_rfl) (by kernel_rfl) (fun _ _ _ h => h) (by rfl) ?_ hHeld ?_
      rotate_left
      · (intro w hSw; (try dsimp only at hSw); first | (go_simp; done) | (go_simp; with_reducible rfl))
      simp only [Act.put, List.setIfInBounds_toArray, List.set_cons_zero, List.set_cons_succ]
      refine takeH (i := 9) (v := ?_) rfl rfl (by kernel_rfl) (by kernel_rfl) (by kernel_rfl) (fun _ _ _ h => h) (by rfl) ?_ hHeld ?_
      rotate_left
      · (intro w hSw; (try dsimp only at hSw); first | (go_simp; done) | (go_simp; with_reducible rfl))
      simp only [Act.put, List.setIfInBounds_toArray, List.set_cons_zero, List.set_cons_succ]
      refine takeH (i := 10) (v := ?_) rfl rfl (by kernel_rfl) (by kernel_rfl) (by kernel_rfl) (fun _ _ _ h => h) (by rfl) ?_ hHeld ?_
      rotate_left
      · (intro w hSw; (try dsimp only at hSw); first | (go_simp; done) | (go_simp; with_reducible rfl))
      simp only [Act.put, List.setIfInBounds_toArray, List.set_cons_zero, List.set_cons_succ]
      refine takeH (i := 11) (v := ?_) rfl rfl (by kernel_rfl) (by kernel_rfl) (by kernel_rfl) (fun _ _ _ h => h) (by rfl) ?_ hHeld ?_
      rotate_left
      · (intro w hSw; (try dsimp only at hSw); first | (go_simp; done) | (go_simp; with_reducible rfl))
      simp only [Act.put, List.setIfInBounds_toArray, List.set_cons_zero, List.set_cons_succ]
      refine takeH (i := 12) (v := ?_) rfl rfl (by kernel_rfl) (by kernel_rfl) (by kernel_rfl) (fun _ _ _ h => h) (by rfl) ?_ hHeld ?_
      rotate_left
      · (intro w hSw; (try dsimp only at hSw); first | (go_simp; done) | (go_simp; with_reducible rfl))
      simp only [Act.put, List.setIfInBounds_toArray, List.set_cons_zero, List.set_cons_succ]
      refine takeH (i := 13) (v := ?_) rfl rfl (by kernel_rfl) (by kernel_rfl) (by kernel_rfl) (fun _ _ _ h => h) (by rfl) ?_ hHeld ?_
      rotate_left
      · (intro w hSw; (try dsimp only at hSw); first | (go_simp; done) | (go_simp; with_reducible rfl))
      simp only [Act.put, List.setIfInBounds_toArray, List.set_cons_zero, List.set_cons_succ]
      refine takeH (i := 14) (v := ?_) rfl rfl (by kernel_rfl) (by kernel_rfl) (by kernel_rfl) (fun _ _ _ h => h) (by rfl) ?_ hHeld ?_
      rotate_left
      · (intro w hSw; (try dsimp only at hSw); first | (go_simp; done) | (go_simp; with_reducible rfl))
      simp only [Act.put, List.setIfInBounds_toArray, List.set_cons_zero, List.set_cons_succ]
      refine takeH (i := 16) (v := ?_) rfl rfl (by kernel_rfl) (by kernel_rfl) (by kernel_rfl) (fun _ _ _ h => h) (by rfl) ?_ hHeld ?_
      rotate_left
      · (intro w hSw; (try dsimp only at hSw); first | (go_simp; done) | (go_simp; with_reducible rfl))
      simp only [Act.put, List.setIfInBounds_toArray, List.set_cons_zero, List.set_cons_succ]
      refine wpAnyH_ready (rs := [15]) (by kernel_rfl) (by simp) ?_
      refine AllReadyH.cons rfl (fun K hK => ?_) AllReadyH.nil
      go_simp
      refine (refWhere_any A3 r.length c3 ⟨A1, 32, c1, some ⟨b2, o2, none⟩, y, c2⟩ t r _ HX4.out.tb HRI4.out.at_ HRI4.out.big).mono ?_
      rintro e w5 ⟨rfl, hb5⟩
      rw [HXW.out]
      replace HX4 := Lib.hid (HX4.out.on hb5)
      replace HS4 := Lib.hid (HS4.out.on hb5)
      replace HRI4 := Lib.hid (HRI4.out.on hb5)
      replace HBF4 := Lib.hid (HBF4.out.trans (hb5.mono HBF4.out.size))
      replace HBW4 := Lib.hid (HBW4.out.trans (hb5.mono HBW4.out.size))
      have d5 : w5.cell? ⟨b2, o2 + k, none⟩ = some (.slice A3 r.length c3) := by rw [hb5.cell (p := ⟨b2, o2 + k, none⟩) hb3B]; exact d3
      clear hb5 p0 p1 d3
      have p0 := HX4.out.c0
      have p1 := HX4.out.c1
      dsimp only at p0 p1
      go_wp2_with fail
      refine hK.out _ _ ?_ (fun hHeld => ?_)
      · exact ⟨p0, p1, d5⟩
      clear hK K
      by_cases e1 : x = (k : Int)
      case neg =>
        have HN := Lib.hid (tabr_no7 (ss := ss) hkl (fun q => by have := q.first; rw [HRR.out, HXW.out] at this; exact e1 this))
        have e2 : (x != (k : Int)) = true := by simp [e1]
        refine takeH (i := 17) (v := ?_) rfl rfl (by kernel_rfl) (by kernel_rfl) (by kernel_rfl) (fun _ _ _ h => h) (by rfl) ?_ hHeld ?_
        rotate_left
        · (intro w hSw; (try dsimp only at hSw); first | (go_simp; done) | (go_simp; with_reducible rfl))
        simp only [Act.put, List.setIfInBounds_toArray, List.set_cons_zero, List.set_cons_succ]
        refine takeH (i := 18) (v := ?_) rfl rfl (by kernel_rfl) (by kernel_rfl) (by kernel_rfl) (fun _ _ _ h => h) (by rfl) ?_ hHeld ?_
        rotate_left
        · (intro w hSw; (try dsimp only at hSw); first | (go_simp; done) | (go_simp; with_reducible rfl))
        simp only [Act.put, List.setIfInBounds_toArray, List.set_cons_zero, List.set_cons_succ]
        refine takeH (i := 19) (v := ?_) rfl rfl (by kernel_rfl) (by kernel_rfl) (by kernel_rfl) (fun _ _ _ h => h) (by rfl) ?_ hHeld ?_
        rotate_left
        · (intro w hSw; (try dsimp only at hSw); first | (go_simp; done) | (go_simp; with_reducible rfl))
        simp only [Act.put, List.setIfInBounds_toArray, List.set_cons_zero, List.set_cons_succ]
        refine passH (i := 20) rfl rfl (by kernel_rfl) (by kernel_rfl) (by kernel_rfl) (fun _ _ _ h => h) (by rfl) hHeld ?_
        simp only [Act.put, List.setIfInBounds_toArray, List.set_cons_zero, List.set_cons_succ]
        refine passH (i := 21) rfl rfl (by kernel_rfl) (by kernel_rfl) (by kernel_rfl) (fun _ _ _ h => h) (by rfl) hHeld ?_
        simp only [Act.put, List.setIfInBounds_toArray, List.set_cons_zero, List.set_cons_succ]
        refine takeH (i := 22) (v := ?_) rfl rfl (by kernel_rfl) (by kernel_rfl) (by kernel_rfl) (fun _ _ _ h => h) (by rfl) ?_ hHeld ?_
        rotate_left
        · (intro w hSw; (try dsimp only at hSw); first | (go_simp; done) | (go_simp; with_reducible rfl))
        simp only [Act.put, List.setIfInBounds_toArray, List.set_cons_zero, List.set_cons_succ]
        refine wpAnyH_done (by kernel_rfl) ?_ _
        go_wp2
        go_ret
        exact ⟨ret_b HN.out.symm, HBF4.out⟩
      have e2 : (x != (k : Int)) = false := by simp [e1]
      have HWK : Hid (whereR t (fcAt t k) = k) := by show _ = _; rw [HRR.out, HXW.out, e1]
      clear e1
      by_cases e3 : s < 0
      case pos =>
        have HN := Lib.hid (tabr_no7 (ss := ss) hkl (fun q => by have := q.there; rw [← HSS.out] at this; omega))
        have e4 : decide (s < 0) = true := decide_eq_true e3
        refine takeH (i := 17) (v := ?_) rfl rfl (by kernel_rfl) (by kernel_rfl) (by kernel_rfl) (fun _ _ _ h => h) (by rfl) ?_ hHeld ?_
        rotate_left
        · (intro w hSw; (try dsimp only at hSw); first | (go_simp; done) | (go_simp; with_reducible rfl))
        simp only [Act.put, List.setIfInBounds_toArray, List.set_cons_zero, List.set_cons_succ]
        refine takeH (i := 18) (v := ?_) rfl rfl (by kernel_rfl) (by kernel_rfl) (by kernel_rfl) (fun _ _ _ h => h) (by rfl) ?_ hHeld ?_
        rotate_left
        · (intro w hSw; (try dsimp only at hSw); first | (go_simp; done) | (go_simp; with_reducible rfl))
        simp only [Act.put, List.setIfInBounds_toArray, List.set_cons_zero, List.set_cons_succ]
        refine takeH (i := 19) (v := ?_) rfl rfl (by kernel_rfl) (by kernel_rfl) (by kernel_rfl) (fun _ _ _ h => h) (by rfl) ?_ hHeld ?_
        rotate_left
        · (intro w hSw; (try dsimp only at hSw); first | (go_simp; done) | (go_simp; with_reducible rfl))
        simp only [Act.put, List.setIfInBounds_toArray, List.set_cons_zero, List.set_cons_succ]
        refine takeH (i := 20) (v := ?_) rfl rfl (by kernel_rfl) (by kernel_rfl) (by kernel_rfl) (fun _ _ _ h => h) (by rfl) ?_ hHeld ?_
        rotate_left
        · (intro w hSw; (try dsimp only at hSw); first | (go_simp; done) | (go_simp; with_reducible rfl))
        simp only [Act.put, List.setIfInBounds_toArray, List.set_cons_zero, List.set_cons_succ]
        refine takeH (i := 21) (v := ?_) rfl rfl (by kernel_rfl) (by kernel_rfl) (by kernel_rfl) (fun _ _ _ h => h) (by rfl) ?_ hHeld ?_
        rotate_left
        · (intro w hSw; (try dsimp only at hSw); first | (go_simp; done) | (go_simp; with_reducible rfl))
        simp only [Act.put, List.setIfInBounds_toArray, List.set_cons_zero, List.set_cons_succ]
        refine takeH (i := 22) (v := ?_) rfl rfl (by kernel_rfl) (by kernel_rfl) (by kernel_rfl) (fun _ _ _ h => h) (by rfl) ?_ hHeld ?_
        rotate_left
        · (intro w hSw; (try dsimp only at hSw); first | (go_simp; done) | (go_simp; with_reducible rfl))
        simp only [Act.put, List.setIfInBounds_toArray, List.set_cons_zero, List.set_cons_succ]
        refine wpAnyH_done (by kernel_rfl) ?_ _
        go_wp2
        go_ret
        exact ⟨ret_b HN.out.symm, HBF4.out⟩
      have e4 : decide (s < 0) = false := decide_eq_false e3
      refine takeH (i := 17) (v := ?_) rfl rfl (by kernel_rfl) (by kernel_rfl) (by kernel_rfl) (fun _ _ _ h => h) (by rfl) ?_ hHeld ?_
      rotate_left
      · (intro w hSw; (try dsimp only at hSw); first | (go_simp; done) | (go_simp; with_reducible rfl))
      simp only [Act.put, List.setIfInBounds_toArray, List.set_cons_zero, List.set_cons_succ]
      refine takeH (i := 18) (v := ?_) rfl rfl (by kernel_rfl) (by kernel_rfl) (by kernel_rfl) (fun _ _ _ h => h) (by rfl) ?_ hHeld ?_
      rotate_left
      · (intro w hSw; (try dsimp only at hSw); first | (go_simp; done) | (go_simp; with_reducible rfl))
      simp only [Act.put, List.setIfInBounds_toArray, List.set_cons_zero, List.set_cons_succ]
      refine takeH (i := 19) (v := ?_) rfl rfl (by kernel_rfl) (by kernel_rfl) (by kernel_rfl) (fun _ _ _ h => h) (by rfl) ?_ hHeld ?_
      rotate_left
      · (intro w hSw; (try dsimp only at hSw); first | (go_simp; done) | (go_simp; with_reducible rfl))
      simp only [Act.put, List.setIfInBounds_toArray, List.set_cons_zero, List.set_cons_succ]
      refine takeH (i := 20) (v := ?_) rfl rfl (by kernel_rfl) (by kernel_rfl) (by kernel_rfl) (fun _ _ _ h => h) (by rfl) ?_ hHeld ?_
      rotate_left
      · (intro w hSw; (try dsimp only at hSw); first | (go_simp; done) | (go_simp; with_reducible rfl))
      simp only [Act.put, List.setIfInBounds_toArray, List.set_cons_zero, List.set_cons_succ]
      refine takeH (i := 21) (v := ?_) rfl rfl (by kernel_rfl) (by kernel_rfl) (by kernel_rfl) (fun _ _ _ h => h) (by rfl) ?_ hHeld ?_
      rotate_left
      · (intro w hSw; (try dsimp only at hSw); first | (go_simp; done) | (go_simp; with_reducible rfl))
      simp only [Act.put, List.setIfInBounds_toArray, List.set_cons_zero, List.set_cons_succ]
      refine takeH (i := 22) (v := ?_) rfl rfl (by kernel_rfl) (by kernel_rfl) (by kernel_rfl) (fun _ _ _ h => h) (by rfl) ?_ hHeld ?_
      rotate_left
      · (intro w hSw; (try dsimp only at hSw); first | (go_simp; done) | (go_simp; with_reducible rfl))
      simp only [Act.put, List.setIfInBounds_toArray, List.set_cons_zero, List.set_cons_succ]
      refine wpAnyH_done (by kernel_rfl) ?_ _
      obtain ⟨p, hp32, hsp, hslp⟩ : ∃ p : Nat, p < 32 ∧ s = (p : Int) ∧ slAt t p = k := by
        rcases HLB.out with ⟨z, _⟩ | ⟨p, z1, z2, z3⟩
        · omega
        · exact ⟨p, z1, z2, z3⟩
      subst hsp
      clear hwb
      have HFC := Lib.hid (factB_c HFB.out)
      obtain ⟨d9, hd9, hde, hdn⟩ := walk_meets r hp32
      have HDE := Lib.hid hde
      have HDN := Lib.hid hdn
      clear hslp hde hdn
      go_wp2_with fail
      refine (refSum_any A3 r.length c3 _ r _ HRI4.out.at_ HFC.out).mono ?_
      rintro e w6 ⟨rfl, rfl⟩
      obtain ⟨h, hh⟩ : ∃ h, h = hashF r := ⟨_, rfl⟩
      have hlt9 : h < 1009 := by rw [hh]; exact hashF_lt r
      have HH : Hid (∀ e, atF r e = (h + e) % 32) := fun e => by rw [hh]; rfl
      rw [← hh]
      clear hh
      have z0 : (0 : Int) ≤ (p : Int) := by omega
      go_wp2_with fail
      go_loop [9] (fun i => ∃ c q : Nat, i = .int .i64 q ∧ c ≤ d9 ∧ Hid (q = (h + c) % 32) ∧ Hid (∀ b, b < c → slAt t (atF r b) ≠ -1)) (fun i => (p + 32 - (intOf i).toNat) % 32)
      case atStart => exact ⟨0, h % 32, by go_num, by omega, Lib.hid (p := h % 32 = (h + 0) % 32) rfl, fun b hb => absurd hb (Nat.not_lt_zero _)⟩
      case round =>
        obtain ⟨c, q, rfl, hcd, HQ, HW⟩ := hrel
        have hq32 : q < 32 := by have := HQ.out; omega
        have hpd : p = (h + d9) % 32 := by rw [← HH.out]; exact HDE.out.symm
        by_cases hcd2 : c = d9
        · have e5 : q = p := by rw [HQ.out, hpd, hcd2]
          have HRF : Hid (RefAt (factB ss) t k) := ⟨by rw [HRR.out]; exact HFB.out, HWK.out, by rw [← HSS.out]; exact z0, fun d hd => by
            rw [HRR.out] at hd ⊢
            rw [← HSS.out, Int.toNat_natCast] at hd
            refine HW.out d ?_
            rcases Nat.lt_or_ge d d9 with z | z
            · omega
            · exact absurd HDE.out (hd d9 z)⟩
          subst e5
          clear hpd
          go_wp2
          go_roundw
          case rel => exact ⟨k + 1, by go_num, by omega, fun j hj => if z : j = k then z ▸ HRF.out else HR.out j (by omega), HBW4.out⟩
          case measure => simp [intOf]; omega
        · have e5 : q ≠ p := by have := HQ.out; omega
          have e6 : ((q : Int) != (p : Int)) = true := by simp; omega
          obtain ⟨b, off, hA, hbb, hcl⟩ := HX4.out.tb.sl.at_ (show 0 < 32 by omega)
          dsimp only at hA
          subst hA
          have hcx := hcl q hq32
          obtain ⟨u, hu⟩ : ∃ u, u = slAt t q := ⟨_, rfl⟩
          replace hcx : w5.cell? ⟨b, off + q, none⟩ = some (.int .i64 u) := by rw [hu]; exact hcx
          have HU : Hid (slAt t (atF r c) = u) := by show _ = _; rw [HH.out, ← HQ.out, hu]
          have k1 : (q : Int) < 32 := by omega
          clear hcl hu
          by_cases e7 : u = -1
          · have HN := Lib.hid (tabr_no7 (ss := ss) hkl (fun z => by
              refine z.way c (fun b hb => ?_) (by rw [HRR.out, HU.out, e7])
              rw [HRR.out, ← HSS.out, Int.toNat_natCast]
              exact HDN.out b (by omega)))
            subst e7
            go_wp2
            go_ret
            exact ⟨ret_b HN.out.symm, HBF4.out⟩
          · have HW2 : Hid (∀ b, b < c + 1 → slAt t (atF r b) ≠ -1) := fun b hb => if z : b = c then by rw [z, HU.out]; exact e7 else HW.out b (by omega)
            have e8 : (u == -1) = false := by simp [e7]
            go_wp2
            go_round
            case rel => exact ⟨c + 1, (q + 1) % 32, by go_num, by omega, by show _ = _; have := HQ.out; omega, HW2⟩
            case measure => simp [intOf]; have := HQ.out; omega
end Go.Proofs.Ythnjpkghjkhjdaa
