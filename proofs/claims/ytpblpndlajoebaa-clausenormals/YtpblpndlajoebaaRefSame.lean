/-
  Contract of quaereref8: Same.
-/
import Derived.Test.YtpblpndlajoebaaRefOnce
import Derived.Test.YtpblpndlajoebaaClauseSame
import Derived.Test.YtpblpndlajoebaaHelpClause
namespace Go.Proofs.Ytpblpndlajoebaa
open Go.RowKit Go.Deep
set_option linter.unusedSimpArgs false
set_option linter.unusedVariables false
set_option maxRecDepth 100000

theorem lits_of {ls ms : List Lt} (h : ls.map Lt.atom = ms.map Lt.atom) (hn : ∀ j, j < ls.length → (ltAt ls j).neg = (ltAt ms j).neg) : ls = ms := by
  have hl : ls.length = ms.length := by have := congrArg List.length h; simpa using this
  apply List.ext_getElem?
  intro i
  by_cases hi : i < ls.length
  · rw [ltAt_get hi, ltAt_get (by omega)]
    congr 1
    refine Lt.ext_ (hn i hi) ?_
    rw [← rowOf_atoms hi, ← rowOf_atoms (ls := ms) (by omega), h]
  · rw [List.getElem?_eq_none (by omega), List.getElem?_eq_none (by omega)]
theorem cl_of {c d : Cl} (h1 : c.lits.length = d.lits.length) (h2 : c.tups.length = d.tups.length) (h : rowsC c = rowsC d) (hn : ∀ j, j < c.lits.length → (ltAt c.lits j).neg = (ltAt d.lits j).neg) (hm : ∀ j, j < c.conds.length → (ltAt c.conds j).neg = (ltAt d.conds j).neg) : c = d := by
  unfold rowsC at h
  obtain ⟨e1, e2⟩ := List.append_inj h (by simpa using h1)
  obtain ⟨e3, e4⟩ := List.append_inj e2 h2
  cases c; cases d
  dsimp only at *
  rw [lits_of e1 hn, e3, lits_of e4 hm]
theorem cl_no {c d : Cl} (h : ¬ c = d) : sameC c d = false := decide_eq_false h
theorem cl_yes {c d : Cl} (h : c = d) : sameC c d = true := decide_eq_true h
theorem rows_yes {ls ms : List (List Int)} {n : Nat} (h1 : ls.length = n) (h2 : ms.length = n) (h : ∀ j, j < n → sameI (rowOf ls j) (rowOf ms j) = true) : ls = ms := rows_same h1 h2 h

set_option maxHeartbeats 4000000 in
theorem refSameC_any (v u : Cv) (c d : Cl) (w : World) (h : ClAt w w.heap.size v c) (k : ClAt w w.heap.size u d) (hsc : Small c) (hsd : Small d) :
    Calls Try.prog 42 #[v.val, u.val] w fun e w' => e = .returned (.bool (sameC c d)) ∧ Below w.heap.size w w' := by
  obtain ⟨hx, hy, hb⟩ := CBox.two h k
  have l1 := h.lits.len
  have l2 := h.tups.len
  have l3 := h.conds.len
  have m1 := k.lits.len
  have m2 := k.tups.len
  have m3 := k.conds.len
  have b1 := hsc.l
  have b3 := hsc.d
  have b2 := hsc.t
  have HL1 := Lib.hid l1
  have HL2 := Lib.hid l2
  have HL3 := Lib.hid l3
  have HM1 := Lib.hid m1
  have HM2 := Lib.hid m2
  have HM3 := Lib.hid m3
  rw [l1] at b1
  rw [l2] at b2
  rw [l3] at b3
  rw [Cv.val_eq, Cv.val_eq]
  have HVE := Lib.hid v.val_eq
  have HUE := Lib.hid u.val_eq
  unfold Cv.obj at hx hy hb
  have HX := Lib.hid hx
  have HY := Lib.hid hy
  have HB0 := Lib.hid hb
  have HPA := Lib.hid (refRowsR_any v c)
  have HPB := Lib.hid (refRowsR_any u d)
  have HSC := Lib.hid hsc
  have HSD := Lib.hid hsd
  obtain ⟨L, hL⟩ : ∃ L, L = rowsC c := ⟨_, rfl⟩
  obtain ⟨M, hM⟩ : ∃ M, M = rowsC d := ⟨_, rfl⟩
  rw [← hL] at HPA
  rw [← hM] at HPB
  have HL := Lib.hid hL
  have HM := Lib.hid hM
  have hl11 : L.length ≤ 11 := by rw [hL]; exact hsc.rows
  have hLL : L.length = v.n1 + (v.n2 + v.n3) := by rw [hL]; unfold rowsC; simp [l1, l2, l3]
  have hMM : M.length = u.n1 + (u.n2 + u.n3) := by rw [hM]; unfold rowsC; simp [m1, m2, m3]
  have HL49 : Hid (∀ j, j < L.length → (rowOf L j).length ≤ 49) := fun j hj => hsc.r _ (by rw [← hL]; exact rowOf_mem hj)
  have HM49 : Hid (∀ j, j < M.length → (rowOf M j).length ≤ 49) := fun j hj => hsd.r _ (by rw [← hM]; exact rowOf_mem hj)
  obtain ⟨nL, hnL⟩ : ∃ nL, nL = L.length := ⟨_, rfl⟩
  obtain ⟨nM, hnM⟩ : ∃ nM, nM = M.length := ⟨_, rfl⟩
  rw [← hnL] at hl11 hLL
  rw [← hnM] at hMM
  have HNL := Lib.hid hnL
  have HNM := Lib.hid hnM
  have HLL := Lib.hid hLL
  have HMM := Lib.hid hMM
  clear hLL hMM h k hx hy hb hsc hsd hL hM hnL hnM l1 l2 l3 m1 m2 m3
  go_enter Try.func42, Try.ntmps42
  go_upto_region 1 with (fail)
  obtain ⟨w0, hw0⟩ : ∃ w0, w0 = ((w.alloc (.cells #[.slice v.A1 v.n1 v.c1, .slice v.A2 v.n2 v.c2, .slice v.A3 v.n3 v.c3] 26)).alloc (.cells #[.slice u.A1 u.n1 u.c1, .slice u.A2 u.n2 u.c2, .slice u.A3 u.n3 u.c3] 26)) := ⟨_, rfl⟩
  rw [← hw0] at HX HY HB0 ⊢
  clear hw0
  obtain ⟨B, hB⟩ : ∃ B, B = w.heap.size := ⟨_, rfl⟩
  have HBH := Lib.hid hB
  rw [← hB] at HX HY ⊢
  clear hB
  have p0 := HX.out.c0
  have p1 := HX.out.c1
  have p2 := HX.out.c2
  have q0 := HY.out.c0
  have q1 := HY.out.c1
  have q2 := HY.out.c2
  go_wp2_with fail
  refine wp_region_held_drew (S := (fun w' => w'.cell? ⟨B, 0, none⟩ = some (.slice v.A1 v.n1 v.c1) ∧ w'.cell? ⟨B, 1, none⟩ = some (.slice v.A2 v.n2 v.c2) ∧ w'.cell? ⟨B, 2, none⟩ = some (.slice v.A3 v.n3 v.c3) ∧ w'.cell? ⟨B + 1, 0, none⟩ = some (.slice u.A1 u.n1 u.c1) ∧ w'.cell? ⟨B + 1, 1, none⟩ = some (.slice u.A2 u.n2 u.c2) ∧ w'.cell? ⟨B + 1, 2, none⟩ = some (.slice u.A3 u.n3 u.c3))) (by kernel_rfl) ⟨p0, p1, p2, q0, q1, q2⟩ (fun hHeld => ?_)
  have hd : Below w0.heap.size w0 w0.drew := (Below.refl w0.heap.size w0).drew
  replace HX := Lib.hid (HX.out.on hd)
  replace HY := Lib.hid (HY.out.on hd)
  have HB1 := Lib.hid (HB0.out.trans (hd.mono HB0.out.size))
  refine takeH (i := 0) (v := ?_) rfl rfl (by kernel_rfl) (by kernel_rfl) (by kernel_rfl) (fun _ _ _ h => h) (by rfl) ?_ hHeld ?_
  rotate_left
  · (intro w hSw; (try dsimp only at hSw); first | (go_simp; done) | (go_simp; with_reducible rfl))
  simp only [Act.put, List.setIfInBounds_toArray, List.set_cons_zero, List.set_cons_succ]
  refine takeH (i := 2) (v := ?_) rfl rfl (by kernel_rfl) (by kernel_rfl) (by kernel_rfl) (fun _ _ _ h => h) (by rfl) ?_ hHeld ?_
  rotate_left
  · (intro w hSw; (try dsimp only at hSw); first | (go_simp; done) | (go_simp; with_reducible rfl))
  simp only [Act.put, List.setIfInBounds_toArray, List.set_cons_zero, List.set_cons_succ]
  refine wpAnyH_ready (rs := [1]) (by kernel_rfl) (by simp) ?_
  refine AllReadyH.cons rfl (fun K hK => ?_) AllReadyH.nil
  go_simp
  rw [← HVE.out]
  refine (HPA.out _ HX.out.cl HSC.out).mono ?_
  rintro e w1 ⟨A5, cap5, rfl, hcap5, ht5, hb1⟩
  rw [← HNL.out] at ht5 hcap5 ⊢
  have HT5 := Lib.hid ht5
  replace HX := Lib.hid (HX.out.on hb1)
  replace HY := Lib.hid (HY.out.on hb1)
  have HB2 := Lib.hid (HB1.out.trans (hb1.mono HB1.out.size))
  clear hd p0 p1 p2 q0 q1 q2 ht5 hb1
  have p0 := HX.out.c0
  have p1 := HX.out.c1
  have p2 := HX.out.c2
  have q0 := HY.out.c0
  have q1 := HY.out.c1
  have q2 := HY.out.c2
  go_wp2_with fail
  refine hK.out _ _ ?_ (fun hHeld => ?_)
  · exact ⟨p0, p1, p2, q0, q1, q2⟩
  clear hK K
  refine wpAnyH_ready (rs := [3]) (by kernel_rfl) (by simp) ?_
  refine AllReadyH.cons rfl (fun K hK => ?_) AllReadyH.nil
  go_simp
  rw [← HUE.out]
  refine (HPB.out _ HY.out.cl HSD.out).mono ?_
  rintro e w2 ⟨A6, cap6, rfl, hcap6, ht6, hb2⟩
  rw [← HNM.out] at ht6 hcap6 ⊢
  have HT6 := Lib.hid ht6
  replace HX := Lib.hid (HX.out.on hb2)
  replace HY := Lib.hid (HY.out.on hb2)
  replace HT5 := Lib.hid (HT5.out.on hb2)
  have HBB := Lib.hid (HB2.out.trans (hb2.mono HB2.out.size))
  clear p0 p1 p2 q0 q1 q2 ht6 hb2
  have p0 := HX.out.c0
  have p1 := HX.out.c1
  have p2 := HX.out.c2
  have q0 := HY.out.c0
  have q1 := HY.out.c1
  have q2 := HY.out.c2
  go_wp2_with fail
  refine hK.out _ _ ?_ (fun hHeld => ?_)
  · exact ⟨p0, p1, p2, q0, q1, q2⟩
  clear hK K
  refine takeH (i := 4) (v := ?_) rfl rfl (by kernel_rfl) (by kernel_rfl) (by kernel_rfl) (fun _ _ _ h => h) (by rfl) ?_ hHeld ?_
  rotate_left
  · (intro w hSw; (try dsimp only at hSw); first | (go_simp; done) | (go_simp; with_reducible rfl))
  simp only [Act.put, List.setIfInBounds_toArray, List.set_cons_zero, List.set_cons_succ]
  refine takeH (i := 5) (v := ?_) rfl rfl (by kernel_rfl) (by kernel_rfl) (by kernel_rfl) (fun _ _ _ h => h) (by rfl) ?_ hHeld ?_
  rotate_left
  · (intro w hSw; (try dsimp only at hSw); first | (go_simp; done) | (go_simp; with_reducible rfl))
  simp only [Act.put, List.setIfInBounds_toArray, List.set_cons_zero, List.set_cons_succ]
  refine wpAnyH_done (by kernel_rfl) ?_ _
  by_cases e1 : v.n1 = u.n1
  case neg =>
    have HZ := Lib.hid (cl_no (c := c) (d := d) fun q => e1 (by rw [← HL1.out, ← HM1.out, q]))
    have g1 : ((v.n1 : Int) != (u.n1 : Int)) = true := by simp; omega
    clear e1
    go_wp2
    go_ret
    exact ⟨ret_b HZ.out.symm, HBB.out⟩
  have g1 : ((v.n1 : Int) != (u.n1 : Int)) = false := by rw [e1]; simp
  by_cases e2 : v.n2 = u.n2
  case neg =>
    have HZ := Lib.hid (cl_no (c := c) (d := d) fun q => e2 (by rw [← HL2.out, ← HM2.out, q]))
    have g2 : ((v.n2 : Int) != (u.n2 : Int)) = true := by simp; omega
    clear e2 e1
    go_wp2
    go_ret
    exact ⟨ret_b HZ.out.symm, HBB.out⟩
  have g2 : ((v.n2 : Int) != (u.n2 : Int)) = false := by rw [e2]; simp
  by_cases e3 : v.n3 = u.n3
  case neg =>
    have HZ := Lib.hid (cl_no (c := c) (d := d) fun q => e3 (by rw [← HL3.out, ← HM3.out, q]))
    have g3 : ((v.n3 : Int) != (u.n3 : Int)) = true := by simp; omega
    clear e3 e2 e1
    go_wp2
    go_ret
    exact ⟨ret_b HZ.out.symm, HBB.out⟩
  have g3 : ((v.n3 : Int) != (u.n3 : Int)) = false := by rw [e3]; simp
  have hLM : nL = nM := by rw [HLL.out, HMM.out]; omega
  subst hLM
  have HE1 := Lib.hid e1
  have HE2 := Lib.hid e2
  have HE3 := Lib.hid e3
  clear e1 e2 e3
  go_wp2_with fail
  go_loopw [7] (fun i wr => ∃ j : Nat, i = .int .i64 j ∧ j ≤ nL ∧ (∀ t, t < j → sameI (rowOf L t) (rowOf M t) = true) ∧ Below w2.heap.size w2 wr) (fun i _ => nL - (intOf i).toNat)
  case atStart => exact ⟨0, rfl, by omega, fun t ht => absurd ht (by omega), Below.refl _ _⟩
  case round =>
    obtain ⟨j, rfl, hj, hall, hbw⟩ := hrel
    have HALL := Lib.hid hall
    have HBW := Lib.hid hbw
    clear hall hbw
    by_cases hjn : j < nL
    · obtain ⟨b5, o5, A7, c7, rfl, hb5, d5, hr5, -⟩ := (HT5.out.on HBW.out).one hjn
      obtain ⟨b6, o6, A8, c8, rfl, hb6, d6, hr6, -⟩ := (HT6.out.on HBW.out).one hjn
      have HR5 := Lib.hid hr5
      have HR6 := Lib.hid hr6
      have f5 := HL49.out j (by rw [← HNL.out]; exact hjn)
      have f6 := HM49.out j (by rw [← HNM.out]; exact hjn)
      have HNO := Lib.hid (rows_not (ls := L) (ms := M) (k := j))
      have HNX : Hid (sameI (rowOf L j) (rowOf M j) = true → ∀ t, t < j + 1 → sameI (rowOf L t) (rowOf M t) = true) := by
        intro q t ht
        by_cases e : t = j
        · rw [e]; exact q
        · exact HALL.out t (by omega)
      obtain ⟨r, hr⟩ : ∃ r, r = rowOf L j := ⟨_, rfl⟩
      obtain ⟨s, hs⟩ : ∃ s, s = rowOf M j := ⟨_, rfl⟩
      rw [← hr] at d5 HR5 f5 HNO HNX
      rw [← hs] at d6 HR6 f6 HNO HNX
      have i0 : (0 : Int) ≤ (j : Int) := by omega
      have i1 : (j : Int) < (nL : Int) := by omega
      clear hr5 hr6 hr hs hb5 hb6
      cases hsm : sameI r s
      · have HSM := Lib.hid hsm
        have HZ := Lib.hid (cl_no (c := c) (d := d) fun q => HNO.out hsm (by rw [HL.out, HM.out, q]))
        clear hsm
        go_wp2_with fail
        go_quiet ((go_at_call 66; exact refSame_still A7 A8 _ c7 _ c8 wr.heap.size wr.heap.size _ r s wr HR5.out.at_ HR6.out.at_ (by unfold maxLen; omega) (by unfold maxLen; omega) HSM.out))
        go_wp2
        go_ret
        exact ⟨ret_b HZ.out.symm, HBB.out.trans ((HBW.out.trans ((below_drewN wr nq).mono HBW.out.size)).mono HBB.out.size)⟩
      · have HSM := Lib.hid hsm
        have HZ := Lib.hid (HNX.out hsm)
        clear hsm
        go_wp2_with fail
        go_quiet ((go_at_call 66; exact refSame_still A7 A8 _ c7 _ c8 wr.heap.size wr.heap.size _ r s wr HR5.out.at_ HR6.out.at_ (by unfold maxLen; omega) (by unfold maxLen; omega) HSM.out))
        go_wp2
        go_roundw
        case rel => exact ⟨j + 1, by go_num, by omega, HZ.out, HBW.out.trans ((below_drewN wr nq).mono HBW.out.size)⟩
        case measure => simp [intOf]; omega
    · obtain rfl : j = nL := by omega
      have HROWS : Hid (rowsC c = rowsC d) := by
        show _ = _
        rw [← HL.out, ← HM.out]
        exact rows_yes HNL.out.symm HNM.out.symm HALL.out
      have HBC := Lib.hid (HBB.out.trans (HBW.out.mono HBB.out.size))
      replace HX := Lib.hid (HX.out.on HBW.out)
      replace HY := Lib.hid (HY.out.on HBW.out)
      clear p0 p1 p2 q0 q1 q2
      obtain ⟨wA, hwA⟩ : ∃ wA, wA = wr := ⟨_, rfl⟩
      subst hwA
      clear HALL
      have p0 := HX.out.c0
      have q0 := HY.out.c0
      go_wp2_with fail
      go_loopw [8] (fun i wr => ∃ j : Nat, i = .int .i64 j ∧ j ≤ v.n1 ∧ (∀ t, t < j → (ltAt c.lits t).neg = (ltAt d.lits t).neg) ∧ Below wA.heap.size wA wr) (fun i _ => v.n1 - (intOf i).toNat)
      case atStart => exact ⟨0, rfl, by omega, fun t ht => absurd ht (by omega), Below.refl _ _⟩
      case round =>
        obtain ⟨j1, rfl, hj, hall, hbw⟩ := hrel
        have HALL := Lib.hid hall
        have HBV := Lib.hid hbw
        clear hall hbw
        have p0 := (HX.out.on HBV.out).c0
        have q0 := (HY.out.on HBV.out).c0
        by_cases hjn : j1 < v.n1
        · obtain ⟨b5, o5, A7, c7, hA5, hb5, d5, d5', hr5⟩ := (HX.out.cl.lits.on HBV.out).one hjn
          obtain ⟨b6, o6, A8, c8, hA6, hb6, d6, d6', hr6⟩ := (HY.out.cl.lits.on HBV.out).one (by rw [← HE1.out]; exact hjn)
          rw [hA5] at p0
          rw [hA6] at q0
          have HNO : Hid ((ltAt c.lits j1).neg ≠ (ltAt d.lits j1).neg → ¬ c = d) := fun q e => q (by rw [e])
          have HNX : Hid ((ltAt c.lits j1).neg = (ltAt d.lits j1).neg → ∀ t, t < j1 + 1 → (ltAt c.lits t).neg = (ltAt d.lits t).neg) := by
            intro q t ht
            by_cases e : t = j1
            · rw [e]; exact q
            · exact HALL.out t (by omega)
          obtain ⟨x, hx⟩ : ∃ x, x = (ltAt c.lits j1).neg := ⟨_, rfl⟩
          obtain ⟨y, hy⟩ : ∃ y, y = (ltAt d.lits j1).neg := ⟨_, rfl⟩
          rw [← hx] at d5 HNO HNX
          rw [← hy] at d6 HNO HNX
          have i0 : (0 : Int) ≤ (j1 : Int) := by omega
          have i1 : (j1 : Int) < (v.n1 : Int) := by omega
          have i2 : (j1 : Int) < (u.n1 : Int) := by have := HE1.out; omega
          clear hr5 hr6 hx hy hb5 hb6 d5' d6' hA5 hA6
          cases x
          case false =>
            cases y
            case false =>
              have HZ := Lib.hid (HNX.out rfl)
              go_wp2_with fail
              go_quiet (fail)
              go_wp2
              go_roundw
              case rel => exact ⟨j1 + 1, by go_num, by omega, HZ.out, HBV.out.trans ((below_drewN wr nq).mono HBV.out.size)⟩
              case measure => simp [intOf]; omega
            case true =>
              have HZ := Lib.hid (cl_no (HNO.out (by decide)))
              go_wp2_with fail
              go_quiet (fail)
              go_wp2
              go_ret
              exact ⟨ret_b HZ.out.symm, HBC.out.trans ((HBV.out.trans ((below_drewN wr nq).mono HBV.out.size)).mono HBC.out.size)⟩
          case true =>
            cases y
            case false =>
              have HZ := Lib.hid (cl_no (HNO.out (by decide)))
              go_wp2_with fail
              go_quiet (fail)
              go_wp2
              go_ret
              exact ⟨ret_b HZ.out.symm, HBC.out.trans ((HBV.out.trans ((below_drewN wr nq).mono HBV.out.size)).mono HBC.out.size)⟩
            case true =>
              have HZ := Lib.hid (HNX.out rfl)
              go_wp2_with fail
              go_quiet (fail)
              go_wp2
              go_roundw
              case rel => exact ⟨j1 + 1, by go_num, by omega, HZ.out, HBV.out.trans ((below_drewN wr nq).mono HBV.out.size)⟩
              case measure => simp [intOf]; omega
        · obtain rfl : v.n1 = j1 := by omega
          have HN1 : Hid (∀ t, t < c.lits.length → (ltAt c.lits t).neg = (ltAt d.lits t).neg) := by rw [HL1.out]; exact HALL.out
          have HBD := Lib.hid (HBC.out.trans (HBV.out.mono HBC.out.size))
          replace HX := Lib.hid (HX.out.on HBV.out)
          replace HY := Lib.hid (HY.out.on HBV.out)
          obtain ⟨wB, hwB⟩ : ∃ wB, wB = wr := ⟨_, rfl⟩
          subst hwB
          clear HALL
          have p2 := HX.out.c2
          have q2 := HY.out.c2
          go_wp2_with fail
          go_loopw [9] (fun i wr => ∃ j : Nat, i = .int .i64 j ∧ j ≤ v.n3 ∧ (∀ t, t < j → (ltAt c.conds t).neg = (ltAt d.conds t).neg) ∧ Below wB.heap.size wB wr) (fun i _ => v.n3 - (intOf i).toNat)
          case atStart => exact ⟨0, rfl, by omega, fun t ht => absurd ht (by omega), Below.refl _ _⟩
          case round =>
            obtain ⟨j3, rfl, hj, hall, hbw⟩ := hrel
            have HALL := Lib.hid hall
            have HBV := Lib.hid hbw
            clear hall hbw
            have p2 := (HX.out.on HBV.out).c2
            have q2 := (HY.out.on HBV.out).c2
            by_cases hjn : j3 < v.n3
            · obtain ⟨b5, o5, A7, c7, hA5, hb5, d5, d5', hr5⟩ := (HX.out.cl.conds.on HBV.out).one hjn
              obtain ⟨b6, o6, A8, c8, hA6, hb6, d6, d6', hr6⟩ := (HY.out.cl.conds.on HBV.out).one (by rw [← HE3.out]; exact hjn)
              rw [hA5] at p2
              rw [hA6] at q2
              have HNO : Hid ((ltAt c.conds j3).neg ≠ (ltAt d.conds j3).neg → ¬ c = d) := fun q e => q (by rw [e])
              have HNX : Hid ((ltAt c.conds j3).neg = (ltAt d.conds j3).neg → ∀ t, t < j3 + 1 → (ltAt c.conds t).neg = (ltAt d.conds t).neg) := by
                intro q t ht
                by_cases e : t = j3
                · rw [e]; exact q
                · exact HALL.out t (by omega)
              obtain ⟨x, hx⟩ : ∃ x, x = (ltAt c.conds j3).neg := ⟨_, rfl⟩
              obtain ⟨y, hy⟩ : ∃ y, y = (ltAt d.conds j3).neg := ⟨_, rfl⟩
              rw [← hx] at d5 HNO HNX
              rw [← hy] at d6 HNO HNX
              have i0 : (0 : Int) ≤ (j3 : Int) := by omega
              have i1 : (j3 : Int) < (v.n3 : Int) := by omega
              have i2 : (j3 : Int) < (u.n3 : Int) := by have := HE3.out; omega
              clear hr5 hr6 hx hy hb5 hb6 d5' d6' hA5 hA6
              cases x
              case false =>
                cases y
                case false =>
                  have HZ := Lib.hid (HNX.out rfl)
                  go_wp2_with fail
                  go_quiet (fail)
                  go_wp2
                  go_roundw
                  case rel => exact ⟨j3 + 1, by go_num, by omega, HZ.out, HBV.out.trans ((below_drewN wr nq).mono HBV.out.size)⟩
                  case measure => simp [intOf]; omega
                case true =>
                  have HZ := Lib.hid (cl_no (HNO.out (by decide)))
                  go_wp2_with fail
                  go_quiet (fail)
                  go_wp2
                  go_ret
                  exact ⟨ret_b HZ.out.symm, HBD.out.trans ((HBV.out.trans ((below_drewN wr nq).mono HBV.out.size)).mono HBD.out.size)⟩
              case true =>
                cases y
                case false =>
                  have HZ := Lib.hid (cl_no (HNO.out (by decide)))
                  go_wp2_with fail
                  go_quiet (fail)
                  go_wp2
                  go_ret
                  exact ⟨ret_b HZ.out.symm, HBD.out.trans ((HBV.out.trans ((below_drewN wr nq).mono HBV.out.size)).mono HBD.out.size)⟩
                case true =>
                  have HZ := Lib.hid (HNX.out rfl)
                  go_wp2_with fail
                  go_quiet (fail)
                  go_wp2
                  go_roundw
                  case rel => exact ⟨j3 + 1, by go_num, by omega, HZ.out, HBV.out.trans ((below_drewN wr nq).mono HBV.out.size)⟩
                  case measure => simp [intOf]; omega
            · obtain rfl : v.n3 = j3 := by omega
              have HZ : Hid (sameC c d = true) := cl_yes (cl_of (by rw [HL1.out, HM1.out, HE1.out]) (by rw [HL2.out, HM2.out, HE2.out]) HROWS.out HN1.out (by rw [HL3.out]; exact HALL.out))
              go_wp2
              go_ret
              exact ⟨ret_b HZ.out.symm, HBD.out.trans (HBV.out.mono HBD.out.size)⟩
end Go.Proofs.Ytpblpndlajoebaa
