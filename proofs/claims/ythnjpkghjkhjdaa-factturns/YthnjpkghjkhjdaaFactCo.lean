/-
  Contract of the reference: Copy of a table.
-/
import Derived.Test.YthnjpkghjkhjdaaFactCl
namespace Go.Proofs.Ythnjpkghjkhjdaa
open Go.RowKit Go.Deep
set_option linter.unusedSimpArgs false
set_option linter.unusedVariables false
set_option maxRecDepth 100000

set_option maxHeartbeats 4000000 in
theorem refCopyT_any (v : Tv) (t : Tb) (w : World) (hc : TabAt w w.heap.size v t) (hsm : TSmall t) :
    Calls Try.prog 47 #[v.val] w (TabRet t w) := by
  have HSM := Lib.hid hsm
  have HC := Lib.hid hc
  have L1 := Lib.hid hc.sl.len
  have L2 := Lib.hid hc.fc.len
  have hn1 : v.n1 ≤ 32 := by rw [← hc.sl.len]; exact hsm.s
  have hn2 : v.n2 ≤ 24 := by rw [← hc.fc.len]; exact hsm.f
  obtain ⟨w0, hw0, b1, b2, hbb, hsz⟩ := two_tabs w v.obj (.cells #[.slice none 0 0, .slice none 0 0] 26)
  rw [Tv.val_eq]
  unfold Tv.obj at hw0 b1
  obtain ⟨A1, n1, c1, A2, n2, c2⟩ := v
  dsimp only at hn1 hn2 b1 hw0 L1 L2 ⊢
  clear hc hsm
  go_enter Try.func47, Try.ntmps47
  go_upto_region 1 with (fail)
  rw [← hw0]
  have p0 : w0.cell? ⟨w.heap.size, 0, none⟩ = some (.slice A1 n1 c1) := by rw [cell_of_row _ _ 0 _ _ _ b1]; rfl
  have HB1 := Lib.hid b1
  have HB2 := Lib.hid b2
  have HBB := Lib.hid hbb
  have HSZ := Lib.hid hsz
  clear hw0 b1 b2 hbb hsz
  have p9 : (w0.alloc (.cells #[] 3)).cell? ⟨w.heap.size, 0, none⟩ = some (.slice A1 n1 c1) := by rw [(below_new w0 _).cell (p := ⟨w.heap.size, 0, none⟩) (by have := HSZ.out; show w.heap.size < w0.heap.size; omega)]; exact p0
  go_wp2_with (first
    | (at_builtin
       refine app_ints rfl (.tmp 5) (.tmp 7) rfl w0.heap.size _ [] rfl (OwnI.empty w0) A1 n1 c1 _ t.slots rfl HC.out.z1 ((HC.out.sl.on HBB.out).on (below_new w0 (.cells #[] 3))) (by simp; omega) (by simp) ?_
       intro v1 w1 hv1 hb1
       obtain ⟨D1, d1, e1⟩ := hv1.value
       rw [List.nil_append, L1.out] at e1
       subst e1
       have HV1 := Lib.hid (hv1.cast (List.nil_append _))
       have hb2 := (below_new w0 (.cells #[] 3)).trans hb1
       have HLO : Hid (∀ b, (Value.slice D1 n1 d1).ownBlock = some b → b < w1.heap.size) := fun b hb => (HV1.out.blk hb).2
       have HBX := Lib.hid (HBB.out.trans (hb2.mono HBB.out.size))
       have HP1 : Hid (w1.heap[w.heap.size]? = some (.cells #[.slice A1 n1 c1, .slice A2 n2 c2] 26 (0, 0))) := by show _ = _; rw [hb2.block w.heap.size (by rw [HSZ.out]; omega)]; exact HB1.out
       have HP2 : Hid (w1.heap[w.heap.size + 1]? = some (.cells #[.slice none 0 0, .slice none 0 0] 26 (0, 0))) := by show _ = _; rw [hb2.block (w.heap.size + 1) (by rw [HSZ.out]; omega)]; exact HB2.out
       have hs1 := hb2.size
       have HS1 : Hid (w.heap.size + 2 ≤ w1.heap.size) := by show _ ≤ _; rw [← HSZ.out]; exact hs1
       obtain ⟨g, hg⟩ : ∃ g, g = w1.heap.size := ⟨_, rfl⟩
       have HG := Lib.hid hg
       clear hv1 hb1 p0 p9 hs1 hg hb2)
    | (refine store_box rfl 26 (.tmp 3) (.tmp 9) rfl rfl w1.heap.size _ _ rfl rfl (heap_alloc_new w1 (.cells #[.slice none 0 0, .slice none 0 0] 26)) rfl (by kernel_rfl) two_one ?_
       intro w2 hg2 hc2 hs2
       have HG2 := Lib.hid hg2
       have HC2 := Lib.hid hc2
       have hsz2 : w1.heap.size + 1 = w2.heap.size := by rw [hs2]; simp
       clear hg2 hc2 hs2))
  have HN1 := Lib.hid (below_new w1 (.cells #[.slice none 0 0, .slice none 0 0] 26))
  have hF0 : TabV w g g ⟨t.slots, []⟩ ⟨D1, n1, d1, none, 0, 0⟩ w2 := by
    rw [HG.out]
    have hle := HS1.out
    exact ⟨by omega, by omega, by rw [← hsz2]; exact Nat.le_succ _, HLO.out, HG2.out, HC2.out.own (by decide) ((HV1.out.lower (by rw [HSZ.out]; omega)).on HN1.out), OwnT.nil_, (HBX.out.trans (HN1.out.mono (by omega))).trans (HC2.out.bel.mono (by omega))⟩
  have hK0 : KeepT g w1 w2 := by
    rw [HG.out]
    refine (KeepT.of_below HN1.out).trans fun k cs fr hk h => ?_
    have := (Array.getElem?_eq_some_iff.1 h).1
    rw [HC2.out.bel.block k (by simp at this; omega)]
    exact h
  have HKX := Lib.hid hK0
  clear hK0 HN1 HV1 HG2 HC2 HB1 HB2
  rw [← HG.out]
  go_loopw [4] (fun i wr => ∃ k : Nat, i = .int .i64 k ∧ k ≤ n2 ∧ ∃ u : Tv, TabV w g g ⟨t.slots, t.facts.take k⟩ u wr ∧ KeepT g w2 wr) (fun i _ => n2 - (intOf i).toNat)
  case atStart => exact ⟨0, rfl, by omega, _, hF0, KeepT.refl⟩
  case round =>
    clear hF0
    obtain ⟨k, rfl, hk, u, hF, hKK⟩ := hrel
    have HF := Lib.hid hF
    have HKR := Lib.hid (HKX.out.trans hKK)
    have HKW := Lib.hid hKK
    clear hF hKK
    have hgl : w.heap.size + 1 < g := by rw [HG.out]; have := HS1.out; omega
    have hP := HKR.out.box (k := w.heap.size) (v := ⟨A1, n1, c1, A2, n2, c2⟩) (by omega) HP1.out
    have x0 : wr.cell? ⟨w.heap.size, 1, none⟩ = some (.slice A2 n2 c2) := by rw [cell_of_row _ _ 1 _ _ _ hP]; rfl
    clear hP
    by_cases hlt : k < n2
    · have hkl : k < t.facts.length := by rw [L2.out]; exact hlt
      obtain ⟨b2, o2, A3, c3, hA2, hb2, d0, hri, hz⟩ := (HC.out.fc.below HF.out.bel).one (i := k) hlt
      dsimp only at hA2
      subst hA2
      obtain ⟨r, hrr⟩ : ∃ r, rowOf t.facts k = r := ⟨_, rfl⟩
      rw [hrr] at d0 hri
      have hr49 : r.length ≤ 49 := by rw [← hrr]; exact HSM.out.r _ (rowOf_mem hkl)
      have HNX := Lib.hid (factRow_next hkl hrr)
      have HLT : Hid ((t.facts.take k).length < 25) := by show _ < _; rw [List.length_take]; have := Nat.min_le_left k t.facts.length; omega
      have q1 : (k : Int) < (n2 : Int) := by omega
      have q0 : (0 : Int) ≤ (k : Int) := by omega
      have HRI0 := Lib.hid (hri.more HF.out.bel.size)
      have HZ := Lib.hid hz
      clear hri hz hrr hkl
      go_wp2_with fail
      have hd : Below wr.heap.size wr wr.drew := (Below.refl wr.heap.size wr).drew
      have hgw := HF.out.lt
      have HF4 := Lib.hid (HF.out.on hd)
      have HK4 := Lib.hid (HKW.out.trans (KeepT.of_below hd))
      have HRI := Lib.hid (HRI0.out.on hd)
      have hg4 : g ≤ wr.drew.heap.size := Nat.le_of_lt HF4.out.lt
      have y0 : wr.drew.cell? ⟨w.heap.size, 1, none⟩ = some (.slice (some ⟨b2, o2, none⟩) n2 c2) := x0
      have y1 : wr.drew.cell? ⟨b2, o2 + k, none⟩ = some (.slice A3 r.length c3) := d0
      obtain ⟨w4, hw4⟩ : ∃ w4, w4 = wr.drew := ⟨_, rfl⟩
      have HW4 := Lib.hid hw4
      rw [← hw4] at HF4 HK4 HRI hg4 y0 y1
      have HS : Hid (∀ wx, Below g w4 wx → wx.cell? ⟨w.heap.size, 1, none⟩ = some (.slice (some ⟨b2, o2, none⟩) n2 c2) ∧ wx.cell? ⟨b2, o2 + k, none⟩ = some (.slice A3 r.length c3)) := fun wx q =>
        ⟨by rw [q.cell (p := ⟨w.heap.size, 1, none⟩) (by show w.heap.size < g; omega)]; exact y0, by rw [q.cell (p := ⟨b2, o2 + k, none⟩) (by show b2 < g; omega)]; exact y1⟩
      have u4 := HF4.out.c1
      have h4 := Below.refl g w4
      clear hd HF HKW HRI0 HKR hw4 y0 y1
      refine wp_region_held_drew (S := (fun wx => wx.cell? ⟨w.heap.size, 1, none⟩ = some (.slice (some ⟨b2, o2, none⟩) n2 c2) ∧ wx.cell? ⟨b2, o2 + k, none⟩ = some (.slice A3 r.length c3))) (by kernel_rfl) (by rw [← HW4.out]; exact HS.out _ h4) (fun hHeld => ?_)
      rw [← HW4.out] at hHeld ⊢
      clear d0 HW4
      refine takeH (i := 0) (v := ?_) rfl rfl (by kernel_rfl) (by kernel_rfl) (by kernel_rfl) (fun _ _ _ h => h) (by rfl) ?_ hHeld ?_
      rotate_left
      · (intro w hSw; (try dsimp only at hSw); first | (go_simp; done) | (go_simp; with_reducible rfl))
      simp only [Act.put, List.setIfInBounds_toArray, List.set_cons_zero, List.set_cons_succ]
      refine takeH (i := 3) (v := ?_) rfl rfl (by kernel_rfl) (by kernel_rfl) (by kernel_rfl) (fun _ _ _ h => h) (by rfl) ?_ hHeld ?_
      rotate_left
      · (intro w hSw; (try dsimp only at hSw); first | (go_simp; done) | (go_simp; with_reducible rfl))
      simp only [Act.put, List.setIfInBounds_toArray, List.set_cons_zero, List.set_cons_succ]
      refine takeH (i := 4) (v := ?_) rfl rfl (by kernel_rfl) (by kernel_rfl) (by kernel_rfl) (fun _ _ _ h => h) (by rfl) ?_ hHeld ?_
      rotate_left
      · (intro w hSw; (try dsimp only at hSw); first | (go_simp; done) | (go_simp; with_reducible rfl))
      simp only [Act.put, List.setIfInBounds_toArray, List.set_cons_zero, List.set_cons_succ]
      refine takeH (i := 5) (v := ?_) rfl rfl (by kernel_rfl) (by kernel_rfl) (by kernel_rfl) (fun _ _ _ h => h) (by rfl) ?_ hHeld ?_
      rotate_left
      · (intro w hSw; (try dsimp only at hSw); first | (go_simp; done) | (go_simp; with_reducible rfl))
      simp only [Act.put, List.setIfInBounds_toArray, List.set_cons_zero, List.set_cons_succ]
      refine takeH (i := 6) (v := ?_) rfl rfl (by kernel_rfl) (by kernel_rfl) (by kernel_rfl) (fun _ _ _ h => h) (by rfl) ?_ hHeld ?_
      rotate_left
      · (intro w hSw; (try dsimp only at hSw); first | (go_simp; done) | (go_simp; with_reducible rfl))
      simp only [Act.put, List.setIfInBounds_toArray, List.set_cons_zero, List.set_cons_succ]
      refine takeH (i := 7) (v := ?_) rfl rfl (by kernel_rfl) (by kernel_rfl) (by kernel_rfl) (fun _ _ _ h => h) (by rfl) ?_ hHeld ?_
      rotate_left
      · (intro w hSw; (try dsimp only at hSw); first | (go_simp; done) | (go_simp; with_reducible rfl))
      simp only [Act.put, List.setIfInBounds_toArray, List.set_cons_zero, List.set_cons_succ]
      refine wpAnyH_ready (rs := [1, 2]) (by kernel_rfl) (by simp) ?_
      refine AllReadyH.cons rfl (fun K hK => ?_) (AllReadyH.cons rfl (fun K hK => ?_) AllReadyH.nil)
      · go_simp
        refine hK.out _ _ ?_ (fun hHeld => ?_)
        · exact HS.out _ h4
        clear hK K
        refine wpAnyH_ready (rs := [2]) (by kernel_rfl) (by simp) ?_
        refine AllReadyH.cons rfl (fun K hK => ?_) AllReadyH.nil
        go_simp
        have H45 := below_new w4 (.cells #[] 3)
        refine hK.out _ _ ?_ (fun hHeld => ?_)
        · exact HS.out _ (H45.mono hg4)
        clear hK K
        refine wpAnyH_ready (rs := [8]) (by kernel_rfl) (by simp) ?_
        refine AllReadyH.cons rfl (fun K hK => ?_) AllReadyH.nil
        refine app_ints_step rfl (.tmp 19) (.tmp 24) rfl w4.heap.size _ [] rfl (OwnI.empty w4) A3 r.length c3 _ r rfl (HRI.out.nil_of HZ.out) (HRI.out.at_.on (below_new w4 (.cells #[] 3))) (by simp; omega) (by simp) ?_
        intro v6 w6 hown6 hb6
        obtain ⟨A6, c6, e6⟩ := hown6.value
        obtain ⟨L6, hL6⟩ : ∃ L6, L6 = (([] : List Int) ++ r).length := ⟨_, rfl⟩
        rw [← hL6] at e6
        subst e6
        have HV6 := Lib.hid (hown6.lower (show g ≤ w4.heap.size by omega))
        have H46 := (below_new w4 (.cells #[] 3)).trans hb6
        have HF6 := Lib.hid (HF4.out.on H46)
        have HK6 := Lib.hid (HK4.out.trans (KeepT.of_below H46))
        have hg6 : g ≤ w6.heap.size := Nat.le_trans hg4 H46.size
        have u6 := HF6.out.c1
        have H6 := H46.mono hg4
        clear hown6 hb6 hL6 H46
        refine hK.out _ _ ?_ (fun hHeld => ?_)
        · exact HS.out _ H6
        clear hK K
        refine wpAnyH_ready (rs := [9]) (by kernel_rfl) (by simp) ?_
        refine AllReadyH.cons rfl (fun K hK => ?_) AllReadyH.nil
        go_simp
        have H67 := H6.trans ((below_new w6 (.cells #[.slice A6 L6 c6] 23)).mono hg6)
        refine hK.out _ _ ?_ (fun hHeld => ?_)
        · exact HS.out _ H67
        clear hK K
        clear H67
        have HB6 := Lib.hid H6
        obtain ⟨vs, hv1, hvr⟩ := HF6.out.b.vals
        have hvl : vs.length + 1 ≤ 5864062014634 := by rw [hvr.1]; exact Nat.le_trans (Nat.succ_le_of_lt HLT.out) (by omega)
        have HRS := Lib.hid (hvr.snoc HV6.out)
        have HOW := Lib.hid hv1
        clear hv1 hvr H6
        refine wpAnyH_ready (rs := [10]) (by kernel_rfl) (by simp) ?_
        refine AllReadyH.cons rfl (fun K hK => ?_) AllReadyH.nil
        refine app_rowv_step rfl (.tmp 18) (.tmp 26) rfl g _ vs _ rfl HOW.out rfl rfl rfl hvl hg6 ?_
        intro v7 w7 hown7 hc7
        obtain ⟨D, L9, e9, rfl, b0, b1, q3, q4, q5⟩ := TabV.app HF6.out hown7 hc7 HRS.out
        have HF7 := Lib.hid q3
        have HK7 := Lib.hid (HK6.out.trans q4)
        have HB7 := Lib.hid (HB6.out.trans (q5 (Nat.le_refl _)))
        have h7 := HB6.out.trans hc7.bel
        clear q3 q4 q5 hown7 hc7
        refine hK.out _ _ ?_ (fun hHeld => ?_)
        · exact HS.out _ h7
        clear hK K
        clear h7
        refine takeH (i := 11) (v := ?_) rfl rfl (by kernel_rfl) (by kernel_rfl) (by kernel_rfl) (fun _ _ _ h => h) (by rfl) ?_ hHeld ?_
        rotate_left
        · (intro w hSw; (try dsimp only at hSw); first | (go_simp; done) | (go_simp; with_reducible rfl))
        simp only [Act.put, List.setIfInBounds_toArray, List.set_cons_zero, List.set_cons_succ]
        refine wpAnyH_ready (rs := [12]) (by kernel_rfl) (by simp) ?_
        refine AllReadyH.cons rfl (fun K hK => ?_) AllReadyH.nil
        refine put_cell_step rfl 24 (.tmp 28) (.tmp 27) rfl rfl g 1 (.slice D L9 e9) _ rfl rfl rfl rfl b0 b1 (by kernel_rfl) ?_
        refine hK.out _ _ ?_ (fun hHeld => ?_)
        · exact HS.out _ HB7.out
        clear hK K
        refine wpAnyH_done (by kernel_rfl) ?_ _
        clear b0 b1 u6 u4 x0
        go_wp2
        go_roundw
        case rel => exact ⟨k + 1, by go_num, by omega, ⟨u.A1, u.n1, u.c1, D, L9, e9⟩, by rw [HNX.out]; exact HF7.out, HK7.out⟩
        case measure => simp [intOf]; omega
      · go_simp
        have H45 := below_new w4 (.cells #[] 3)
        refine hK.out _ _ ?_ (fun hHeld => ?_)
        · exact HS.out _ (H45.mono hg4)
        clear hK K
        have u5 : (w4.alloc (.cells #[] 3)).cell? ⟨g, 1, none⟩ = some (.slice u.A2 u.n2 u.c2) := (HF4.out.on H45).c1
        refine wpAnyH_ready (rs := [1, 8]) (by kernel_rfl) (by simp) ?_
        refine AllReadyH.cons rfl (fun K hK => ?_) (AllReadyH.cons rfl (fun K hK => ?_) AllReadyH.nil)
        · go_simp
          refine hK.out _ _ ?_ (fun hHeld => ?_)
          · exact HS.out _ (H45.mono hg4)
          clear hK K
          clear u5
          refine wpAnyH_ready (rs := [8]) (by kernel_rfl) (by simp) ?_
          refine AllReadyH.cons rfl (fun K hK => ?_) AllReadyH.nil
          refine app_ints_step rfl (.tmp 19) (.tmp 24) rfl w4.heap.size _ [] rfl (OwnI.empty w4) A3 r.length c3 _ r rfl (HRI.out.nil_of HZ.out) (HRI.out.at_.on (below_new w4 (.cells #[] 3))) (by simp; omega) (by simp) ?_
          intro v6 w6 hown6 hb6
          obtain ⟨A6, c6, e6⟩ := hown6.value
          obtain ⟨L6, hL6⟩ : ∃ L6, L6 = (([] : List Int) ++ r).length := ⟨_, rfl⟩
          rw [← hL6] at e6
          subst e6
          have HV6 := Lib.hid (hown6.lower (show g ≤ w4.heap.size by omega))
          have H46 := (below_new w4 (.cells #[] 3)).trans hb6
          have HF6 := Lib.hid (HF4.out.on H46)
          have HK6 := Lib.hid (HK4.out.trans (KeepT.of_below H46))
          have hg6 : g ≤ w6.heap.size := Nat.le_trans hg4 H46.size
          have u6 := HF6.out.c1
          have H6 := H46.mono hg4
          clear hown6 hb6 hL6 H46
          refine hK.out _ _ ?_ (fun hHeld => ?_)
          · exact HS.out _ H6
          clear hK K
          refine wpAnyH_ready (rs := [9]) (by kernel_rfl) (by simp) ?_
          refine AllReadyH.cons rfl (fun K hK => ?_) AllReadyH.nil
          go_simp
          have H67 := H6.trans ((below_new w6 (.cells #[.slice A6 L6 c6] 23)).mono hg6)
          refine hK.out _ _ ?_ (fun hHeld => ?_)
          · exact HS.out _ H67
          clear hK K
          clear H67
          have HB6 := Lib.hid H6
          obtain ⟨vs, hv1, hvr⟩ := HF6.out.b.vals
          have hvl : vs.length + 1 ≤ 5864062014634 := by rw [hvr.1]; exact Nat.le_trans (Nat.succ_le_of_lt HLT.out) (by omega)
          have HRS := Lib.hid (hvr.snoc HV6.out)
          have HOW := Lib.hid hv1
          clear hv1 hvr H6
          refine wpAnyH_ready (rs := [10]) (by kernel_rfl) (by simp) ?_
          refine AllReadyH.cons rfl (fun K hK => ?_) AllReadyH.nil
          refine app_rowv_step rfl (.tmp 18) (.tmp 26) rfl g _ vs _ rfl HOW.out rfl rfl rfl hvl hg6 ?_
          intro v7 w7 hown7 hc7
          obtain ⟨D, L9, e9, rfl, b0, b1, q3, q4, q5⟩ := TabV.app HF6.out hown7 hc7 HRS.out
          have HF7 := Lib.hid q3
          have HK7 := Lib.hid (HK6.out.trans q4)
          have HB7 := Lib.hid (HB6.out.trans (q5 (Nat.le_refl _)))
          have h7 := HB6.out.trans hc7.bel
          clear q3 q4 q5 hown7 hc7
          refine hK.out _ _ ?_ (fun hHeld => ?_)
          · exact HS.out _ h7
          clear hK K
          clear h7
          refine takeH (i := 11) (v := ?_) rfl rfl (by kernel_rfl) (by kernel_rfl) (by kernel_rfl) (fun _ _ _ h => h) (by rfl) ?_ hHeld ?_
          rotate_left
          · (intro w hSw; (try dsimp only at hSw); first | (go_simp; done) | (go_simp; with_reducible rfl))
          simp only [Act.put, List.setIfInBounds_toArray, List.set_cons_zero, List.set_cons_succ]
          refine wpAnyH_ready (rs := [12]) (by kernel_rfl) (by simp) ?_
          refine AllReadyH.cons rfl (fun K hK => ?_) AllReadyH.nil
          refine put_cell_step rfl 24 (.tmp 28) (.tmp 27) rfl rfl g 1 (.slice D L9 e9) _ rfl rfl rfl rfl b0 b1 (by kernel_rfl) ?_
          refine hK.out _ _ ?_ (fun hHeld => ?_)
          · exact HS.out _ HB7.out
          clear hK K
          refine wpAnyH_done (by kernel_rfl) ?_ _
          clear b0 b1 u6 u4 x0
          go_wp2
          go_roundw
          case rel => exact ⟨k + 1, by go_num, by omega, ⟨u.A1, u.n1, u.c1, D, L9, e9⟩, by rw [HNX.out]; exact HF7.out, HK7.out⟩
          case measure => simp [intOf]; omega
        · clear u5
          refine app_ints_step rfl (.tmp 19) (.tmp 24) rfl w4.heap.size _ [] rfl (OwnI.empty w4) A3 r.length c3 _ r rfl (HRI.out.nil_of HZ.out) (HRI.out.at_.on (below_new w4 (.cells #[] 3))) (by simp; omega) (by simp) ?_
          intro v6 w6 hown6 hb6
          obtain ⟨A6, c6, e6⟩ := hown6.value
          obtain ⟨L6, hL6⟩ : ∃ L6, L6 = (([] : List Int) ++ r).length := ⟨_, rfl⟩
          rw [← hL6] at e6
          subst e6
          have HV6 := Lib.hid (hown6.lower (show g ≤ w4.heap.size by omega))
          have H46 := (below_new w4 (.cells #[] 3)).trans hb6
          have HF6 := Lib.hid (HF4.out.on H46)
          have HK6 := Lib.hid (HK4.out.trans (KeepT.of_below H46))
          have hg6 : g ≤ w6.heap.size := Nat.le_trans hg4 H46.size
          have u6 := HF6.out.c1
          have H6 := H46.mono hg4
          clear hown6 hb6 hL6 H46
          refine hK.out _ _ ?_ (fun hHeld => ?_)
          · exact HS.out _ H6
          clear hK K
          refine wpAnyH_ready (rs := [1, 9]) (by kernel_rfl) (by simp) ?_
          refine AllReadyH.cons rfl (fun K hK => ?_) (AllReadyH.cons rfl (fun K hK => ?_) AllReadyH.nil)
          · go_simp
            refine hK.out _ _ ?_ (fun hHeld => ?_)
            · exact HS.out _ H6
            clear hK K
            refine wpAnyH_ready (rs := [9]) (by kernel_rfl) (by simp) ?_
            refine AllReadyH.cons rfl (fun K hK => ?_) AllReadyH.nil
            go_simp
            have H67 := H6.trans ((below_new w6 (.cells #[.slice A6 L6 c6] 23)).mono hg6)
            refine hK.out _ _ ?_ (fun hHeld => ?_)
            · exact HS.out _ H67
            clear hK K
            clear H67
            have HB6 := Lib.hid H6
            obtain ⟨vs, hv1, hvr⟩ := HF6.out.b.vals
            have hvl : vs.length + 1 ≤ 5864062014634 := by rw [hvr.1]; exact Nat.le_trans (Nat.succ_le_of_lt HLT.out) (by omega)
            have HRS := Lib.hid (hvr.snoc HV6.out)
            have HOW := Lib.hid hv1
            clear hv1 hvr H6
            refine wpAnyH_ready (rs := [10]) (by kernel_rfl) (by simp) ?_
            refine AllReadyH.cons rfl (fun K hK => ?_) AllReadyH.nil
            refine app_rowv_step rfl (.tmp 18) (.tmp 26) rfl g _ vs _ rfl HOW.out rfl rfl rfl hvl hg6 ?_
            intro v7 w7 hown7 hc7
            obtain ⟨D, L9, e9, rfl, b0, b1, q3, q4, q5⟩ := TabV.app HF6.out hown7 hc7 HRS.out
            have HF7 := Lib.hid q3
            have HK7 := Lib.hid (HK6.out.trans q4)
            have HB7 := Lib.hid (HB6.out.trans (q5 (Nat.le_refl _)))
            have h7 := HB6.out.trans hc7.bel
            clear q3 q4 q5 hown7 hc7
            refine hK.out _ _ ?_ (fun hHeld => ?_)
            · exact HS.out _ h7
            clear hK K
            clear h7
            refine takeH (i := 11) (v := ?_) rfl rfl (by kernel_rfl) (by kernel_rfl) (by kernel_rfl) (fun _ _ _ h => h) (by rfl) ?_ hHeld ?_
            rotate_left
            · (intro w hSw; (try dsimp only at hSw); first | (go_simp; done) | (go_simp; with_reducible rfl))
            simp only [Act.put, List.setIfInBounds_toArray, List.set_cons_zero, List.set_cons_succ]
            refine wpAnyH_ready (rs := [12]) (by kernel_rfl) (by simp) ?_
            refine AllReadyH.cons rfl (fun K hK => ?_) AllReadyH.nil
            refine put_cell_step rfl 24 (.tmp 28) (.tmp 27) rfl rfl g 1 (.slice D L9 e9) _ rfl rfl rfl rfl b0 b1 (by kernel_rfl) ?_
            refine hK.out _ _ ?_ (fun hHeld => ?_)
            · exact HS.out _ HB7.out
            clear hK K
            refine wpAnyH_done (by kernel_rfl) ?_ _
            clear b0 b1 u6 u4 x0
            go_wp2
            go_roundw
            case rel => exact ⟨k + 1, by go_num, by omega, ⟨u.A1, u.n1, u.c1, D, L9, e9⟩, by rw [HNX.out]; exact HF7.out, HK7.out⟩
            case measure => simp [intOf]; omega
          · go_simp
            have u7 : (w6.alloc (.cells #[.slice A6 L6 c6] 23)).cell? ⟨g, 1, none⟩ = some (.slice u.A2 u.n2 u.c2) := (HF6.out.on (below_new w6 _)).c1
            have H67 := H6.trans ((below_new w6 (.cells #[.slice A6 L6 c6] 23)).mono hg6)
            refine hK.out _ _ ?_ (fun hHeld => ?_)
            · exact HS.out _ H67
            clear hK K
            clear H67
            refine wpAnyH_ready (rs := [1]) (by kernel_rfl) (by simp) ?_
            refine AllReadyH.cons rfl (fun K hK => ?_) AllReadyH.nil
            go_simp
            have H67 := H6.trans ((below_new w6 (.cells #[.slice A6 L6 c6] 23)).mono hg6)
            refine hK.out _ _ ?_ (fun hHeld => ?_)
            · exact HS.out _ H67
            clear hK K
            clear u7 H67
            have HB6 := Lib.hid H6
            obtain ⟨vs, hv1, hvr⟩ := HF6.out.b.vals
            have hvl : vs.length + 1 ≤ 5864062014634 := by rw [hvr.1]; exact Nat.le_trans (Nat.succ_le_of_lt HLT.out) (by omega)
            have HRS := Lib.hid (hvr.snoc HV6.out)
            have HOW := Lib.hid hv1
            clear hv1 hvr H6
            refine wpAnyH_ready (rs := [10]) (by kernel_rfl) (by simp) ?_
            refine AllReadyH.cons rfl (fun K hK => ?_) AllReadyH.nil
            refine app_rowv_step rfl (.tmp 18) (.tmp 26) rfl g _ vs _ rfl HOW.out rfl rfl rfl hvl hg6 ?_
            intro v7 w7 hown7 hc7
            obtain ⟨D, L9, e9, rfl, b0, b1, q3, q4, q5⟩ := TabV.app HF6.out hown7 hc7 HRS.out
            have HF7 := Lib.hid q3
            have HK7 := Lib.hid (HK6.out.trans q4)
            have HB7 := Lib.hid (HB6.out.trans (q5 (Nat.le_refl _)))
            have h7 := HB6.out.trans hc7.bel
            clear q3 q4 q5 hown7 hc7
            refine hK.out _ _ ?_ (fun hHeld => ?_)
            · exact HS.out _ h7
            clear hK K
            clear h7
            refine takeH (i := 11) (v := ?_) rfl rfl (by kernel_rfl) (by kernel_rfl) (by kernel_rfl) (fun _ _ _ h => h) (by rfl) ?_ hHeld ?_
            rotate_left
            · (intro w hSw; (try dsimp only at hSw); first | (go_simp; done) | (go_simp; with_reducible rfl))
            simp only [Act.put, List.setIfInBounds_toArray, List.set_cons_zero, List.set_cons_succ]
            refine wpAnyH_ready (rs := [12]) (by kernel_rfl) (by simp) ?_
            refine AllReadyH.cons rfl (fun K hK => ?_) AllReadyH.nil
            refine put_cell_step rfl 24 (.tmp 28) (.tmp 27) rfl rfl g 1 (.slice D L9 e9) _ rfl rfl rfl rfl b0 b1 (by kernel_rfl) ?_
            refine hK.out _ _ ?_ (fun hHeld => ?_)
            · exact HS.out _ HB7.out
            clear hK K
            refine wpAnyH_done (by kernel_rfl) ?_ _
            clear b0 b1 u6 u4 x0
            go_wp2
            go_roundw
            case rel => exact ⟨k + 1, by go_num, by omega, ⟨u.A1, u.n1, u.c1, D, L9, e9⟩, by rw [HNX.out]; exact HF7.out, HK7.out⟩
            case measure => simp [intOf]; omega
    · obtain rfl : k = n2 := by omega
      have HT : Hid (t.facts.take k = t.facts) := List.take_of_length_le (by rw [L2.out]; exact Nat.le_refl _)
      rw [HT.out] at HF
      have HR2 := Lib.hid (HKR.out.box (k := w.heap.size + 1) (v := ⟨none, 0, 0, none, 0, 0⟩) (by omega) HP2.out)
      have u0 := HF.out.c0
      have u1 := HF.out.c1
      go_wp2_with (refine store_box rfl 26 (.tmp 2) (.tmp 29) rfl rfl (w.heap.size + 1) _ _ rfl rfl HR2.out rfl (by kernel_rfl) two_one ?_
                   intro w9 hg9 hc9 hs9
                   have HG9 := Lib.hid hg9
                   have HC9 := Lib.hid hc9
                   clear hg9 hc9 hs9)
      refine bodyPost_ret (results_cell_row rfl _ _ (w.heap.size + 1) _ _ _ _ rfl HG9.out Try.underlying26 rfl (by kernel_rfl)) rfl ?_
      exact ⟨_, rfl, HF.out.own.chg HC9.out, HF.out.bel.trans (HC9.out.bel.mono (by omega))⟩
end Go.Proofs.Ythnjpkghjkhjdaa
