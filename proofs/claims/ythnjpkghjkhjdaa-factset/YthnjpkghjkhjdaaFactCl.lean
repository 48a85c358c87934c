/-
  Contract of package fact: clone.
-/
import Derived.Test.YthnjpkghjkhjdaaMemTab2
import Derived.Test.YthnjpkghjkhjdaaFactA
import Derived.Deep.DeepCutAuto
namespace Go.Proofs.Ythnjpkghjkhjdaa
open Go.RowKit Go.Deep
set_option linter.unusedSimpArgs false
set_option linter.unusedVariables false
set_option maxRecDepth 100000

theorem OwnTs.chg {w w' : World} {base base' : Nat} {u : Value} {t : Tb} (h : OwnTs w base u t) (hc : Chg [26] base' w w') : OwnTs w' base u t := by
  obtain ⟨m, v1, v2, e, hm, hx, h1, h3, h2⟩ := h
  obtain ⟨vs, b1, b2⟩ := h2.vals
  exact ⟨m, v1, v2, e, hm, Nat.le_trans hx hc.bel.size, hc.own (by decide) h1, h3, OwnT.mk (b1.chg hc (by decide)) (b2.chg hc (by decide))⟩
theorem factRow_next {ts : List (List Int)} {k : Nat} {r : List Int} (h : k < ts.length) (e : rowOf ts k = r) : ts.take (k + 1) = ts.take k ++ [r] := by
  rw [List.take_add_one, rowOf_get h, e]; rfl
theorem two_tabs (w : World) (o1 o2 : Obj) : ∃ w2, w2 = (w.alloc o1).alloc o2 ∧ w2.heap[w.heap.size]? = some o1 ∧ w2.heap[w.heap.size + 1]? = some o2 ∧ Below w.heap.size w w2 ∧ w2.heap.size = w.heap.size + 2 := by
  refine ⟨_, rfl, ?_, ?_, below_new2 w o1 o2, by simp⟩
  · rw [(below_new _ _).block w.heap.size (by simp)]
    exact heap_alloc_new _ _
  · have := heap_alloc_new (w.alloc o1) o2
    simpa using this
theorem RowIn.nil_of {w : World} {B c : Nat} {A : Option Addr} {r : List Int} {m : Nat} (h : RowIn w B A m c r) (z : A = none → c = 0) : A = none → m = 0 ∧ c = 0 := fun e => ⟨by have := h.cap; have := z e; omega, z e⟩
set_option maxHeartbeats 4000000 in
theorem cloneT_any (v : Tv) (t : Tb) (w : World) (hc : TabAt w w.heap.size v t) (hsm : TSmall t) :
    Calls Try.prog 44 #[v.val] w (TabRet t w) := by
  have HSM := Lib.hid hsm
  have HC := Lib.hid hc
  have L1 := Lib.hid hc.sl.len
  have L2 := Lib.hid hc.fc.len
  have hn1 : v.n1 ≤ 32 := by rw [← hc.sl.len]; exact hsm.s
  have hn2 : v.n2 ≤ 24 := by rw [← hc.fc.len]; exact hsm.f
  obtain ⟨w0, hw0, b1, b2, hbb, hsz⟩ := two_tabs w v.obj (.cells #[.slice none 0 0, .slice none 0 0] 26)
  rw [Tv.val_eq]
  unfold Tv.obj at hw0 b1
  obtain ⟨A1, n1, c1, A2, n2, c2⟩ := v
  dsimp only at hn1 hn2 b1 hw0 L1 L2 ⊢
  clear hc hsm
  go_enter Try.func44, Try.ntmps44
  go_upto_region 1 with (fail)
  rw [← hw0]
  have p0 : w0.cell? ⟨w.heap.size, 0, none⟩ = some (.slice A1 n1 c1) := by rw [cell_of_row _ _ 0 _ _ _ b1]; rfl
  have HB1 := Lib.hid b1
  have HB2 := Lib.hid b2
  have HBB := Lib.hid hbb
  have HSZ := Lib.hid hsz
  clear hw0 b1 b2 hbb hsz
  go_wp2_with fail
  refine (clone_any A1 n1 c1 t.slots _ (HC.out.sl.on HBB.out) HC.out.z1 (by omega)).mono ?_
  rintro e w1 ⟨v1, rfl, hv1, hb1⟩
  obtain ⟨D1, d1, e1⟩ := hv1.value
  rw [L1.out] at e1
  subst e1
  have HV1 := Lib.hid hv1
  have HLO : Hid (∀ b, (Value.slice D1 n1 d1).ownBlock = some b → b < w1.heap.size) := fun b hb => (HV1.out.blk hb).2
  have HBX := Lib.hid (HBB.out.trans (hb1.mono HBB.out.size))
  have HP1 : Hid (w1.heap[w.heap.size]? = some (.cells #[.slice A1 n1 c1, .slice A2 n2 c2] 26 (0, 0))) := by show _ = _; rw [hb1.block w.heap.size (by rw [HSZ.out]; omega)]; exact HB1.out
  have HP2 : Hid (w1.heap[w.heap.size + 1]? = some (.cells #[.slice none 0 0, .slice none 0 0] 26 (0, 0))) := by show _ = _; rw [hb1.block (w.heap.size + 1) (by rw [HSZ.out]; omega)]; exact HB2.out
  have hs1 := hb1.size
  have HS1 : Hid (w.heap.size + 2 ≤ w1.heap.size) := by show _ ≤ _; rw [← HSZ.out]; exact hs1
  obtain ⟨g, hg⟩ : ∃ g, g = w1.heap.size := ⟨_, rfl⟩
  have HG := Lib.hid hg
  clear hv1 hb1 p0 hs1 hg
  go_wp2_with (refine store_box rfl 26 (.tmp 3) (.tmp 9) rfl rfl w1.heap.size _ _ rfl rfl (heap_alloc_new w1 (.cells #[.slice none 0 0, .slice none 0 0] 26)) rfl (by kernel_rfl) two_one ?_
               intro w2 hg2 hc2 hs2
               have HG2 := Lib.hid hg2
               have HC2 := Lib.hid hc2
               have hsz2 : w1.heap.size + 1 = w2.heap.size := by rw [hs2]; simp
               have hp2 : w2.cell? ⟨w.heap.size, 1, none⟩ = some (.slice A2 n2 c2) := by
                 rw [hc2.bel.cell (p := ⟨w.heap.size, 1, none⟩) (by have := HS1.out; show w.heap.size < w1.heap.size; omega), (below_new w1 _).cell (p := ⟨w.heap.size, 1, none⟩) (by have := HS1.out; show w.heap.size < w1.heap.size; omega), cell_of_row _ _ 1 _ _ _ HP1.out]; rfl
               clear hg2 hc2 hs2)
  have HN1 := Lib.hid (below_new w1 (.cells #[.slice none 0 0, .slice none 0 0] 26))
  have hF0 : TabV w g g ⟨t.slots, []⟩ ⟨D1, n1, d1, none, 0, 0⟩ w2 := by
    rw [HG.out]
    have hle := HS1.out
    exact ⟨by omega, by omega, by rw [← hsz2]; exact Nat.le_succ _, HLO.out, HG2.out, HC2.out.own (by decide) ((HV1.out.lower (by rw [HSZ.out]; omega)).on HN1.out), OwnT.nil_, (HBX.out.trans (HN1.out.mono (by omega))).trans (HC2.out.bel.mono (by omega))⟩
  have hK0 : KeepT g w1 w2 := by
    rw [HG.out]
    refine (KeepT.of_below HN1.out).trans fun k cs fr hk h => ?_
    have := (Array.getElem?_eq_some_iff.1 h).1
    rw [HC2.out.bel.block k (by simp at this; omega)]
    exact h
  have HKX := Lib.hid hK0
  clear hK0 HN1 HV1 HG2 HC2 HB1 HB2
  rw [← HG.out]
  go_loopw [13] (fun i wr => ∃ k : Nat, i = .int .i64 k ∧ k ≤ n2 ∧ ∃ u : Tv, TabV w g g ⟨t.slots, t.facts.take k⟩ u wr ∧ KeepT g w2 wr) (fun i _ => n2 - (intOf i).toNat)
  case atStart => exact ⟨0, rfl, by omega, _, hF0, KeepT.refl⟩
  case round =>
    clear hF0 hp2
    obtain ⟨k, rfl, hk, u, hF, hKK⟩ := hrel
    have HF := Lib.hid hF
    have HKR := Lib.hid (HKX.out.trans hKK)
    have HKW := Lib.hid hKK
    clear hF hKK
    have hgl : w.heap.size + 1 < g := by rw [HG.out]; have := HS1.out; omega
    by_cases hlt : k < n2
    · have hkl : k < t.facts.length := by rw [L2.out]; exact hlt
      obtain ⟨b2, o2, A3, c3, hA2, hb2, d0, hri, hz⟩ := (HC.out.fc.below HF.out.bel).one (i := k) hlt
      dsimp only at hA2
      subst hA2
      obtain ⟨r, hrr⟩ : ∃ r, rowOf t.facts k = r := ⟨_, rfl⟩
      rw [hrr] at d0 hri
      have hr49 : r.length ≤ 49 := by rw [← hrr]; exact HSM.out.r _ (rowOf_mem hkl)
      have HNX := Lib.hid (factRow_next hkl hrr)
      have HLT : Hid ((t.facts.take k).length < 25) := by show _ < _; rw [List.length_take]; have := Nat.min_le_left k t.facts.length; omega
      have q1 : (k : Int) < (n2 : Int) := by omega
      have q0 : (0 : Int) ≤ (k : Int) := by omega
      have HRI0 := Lib.hid (hri.more HF.out.bel.size)
      have HZ := Lib.hid hz
      clear hri hz hrr hkl
      go_wp2_with fail
      refine wp_region_held_drew (S := (fun _ => True)) (by kernel_rfl) trivial (fun hHeld => ?_)
      have hd : Below wr.heap.size wr wr.drew := (Below.refl wr.heap.size wr).drew
      have HF4 := Lib.hid (HF.out.on hd)
      have HK4 := Lib.hid (HKW.out.trans (KeepT.of_below hd))
      have HRI := Lib.hid (HRI0.out.on hd)
      have hg4 : g ≤ wr.drew.heap.size := Nat.le_of_lt HF4.out.lt
      obtain ⟨w4, hw4⟩ : ∃ w4, w4 = wr.drew := ⟨_, rfl⟩
      rw [← hw4] at HF4 HK4 HRI hg4 ⊢
      have u4 := HF4.out.c1
      clear hw4 hd HF HKW HRI0 HKR d0
      refine takeH (i := 0) (v := ?_) rfl rfl (by kernel_rfl) (by kernel_rfl) (by kernel_rfl) (fun _ _ _ h => h) (by rfl) ?_ hHeld ?_
      rotate_left
      · (intro w hSw; (try dsimp only at hSw); first | (go_simp; done) | (go_simp; with_reducible rfl))
      simp only [Act.put, List.setIfInBounds_toArray, List.set_cons_zero, List.set_cons_succ]
      refine takeH (i := 2) (v := ?_) rfl rfl (by kernel_rfl) (by kernel_rfl) (by kernel_rfl) (fun _ _ _ h => h) (by rfl) ?_ hHeld ?_
      rotate_left
      · (intro w hSw; (try dsimp only at hSw); first | (go_simp; done) | (go_simp; with_reducible rfl))
      simp only [Act.put, List.setIfInBounds_toArray, List.set_cons_zero, List.set_cons_succ]
      refine wpAnyH_ready (rs := [1, 3]) (by kernel_rfl) (by simp) ?_
      refine AllReadyH.cons rfl (fun K hK => ?_) (AllReadyH.cons rfl (fun K hK => ?_) AllReadyH.nil)
      · go_simp
        refine hK.out _ _ ?_ (fun hHeld => ?_)
        · trivial
        clear hK K
        refine wpAnyH_ready (rs := [3]) (by kernel_rfl) (by simp) ?_
        refine AllReadyH.cons rfl (fun K hK => ?_) AllReadyH.nil
        go_simp
        refine (clone_any A3 r.length c3 r _ (HRI.out.at_) (HRI.out.nil_of HZ.out) (by omega)).mono ?_
        rintro e w5 ⟨v5, rfl, hv5, hb5⟩
        obtain ⟨A5, c5, e5⟩ := hv5.value
        obtain ⟨L5, hL5⟩ : ∃ L5, L5 = r.length := ⟨_, rfl⟩
        rw [← hL5] at e5
        subst e5
        have HV5 := Lib.hid (hv5.lower (show g ≤ w4.heap.size by omega))
        have HF5 := Lib.hid (HF4.out.on hb5)
        have HK5 := Lib.hid (HK4.out.trans (KeepT.of_below hb5))
        have hg5 : g ≤ w5.heap.size := Nat.le_trans hg4 hb5.size
        have u5 := HF5.out.c1
        clear hv5 hb5 u4 hL5
        go_wp2_with fail
        refine hK.out _ _ ?_ (fun hHeld => ?_)
        · trivial
        clear hK K
        refine wpAnyH_ready (rs := [4]) (by kernel_rfl) (by simp) ?_
        refine AllReadyH.cons rfl (fun K hK => ?_) AllReadyH.nil
        go_simp
        refine hK.out _ _ ?_ (fun hHeld => ?_)
        · trivial
        clear hK K
        obtain ⟨vs, hv1, hvr⟩ := HF5.out.b.vals
        have hvl : vs.length + 1 ≤ 5864062014634 := by rw [hvr.1]; exact Nat.le_trans (Nat.succ_le_of_lt HLT.out) (by omega)
        have HRS := Lib.hid (hvr.snoc HV5.out)
        have HOW := Lib.hid hv1
        clear hv1 hvr
        refine wpAnyH_ready (rs := [5]) (by kernel_rfl) (by simp) ?_
        refine AllReadyH.cons rfl (fun K hK => ?_) AllReadyH.nil
        refine app_rowv_step rfl (.tmp 18) (.tmp 21) rfl g _ vs _ rfl HOW.out rfl rfl rfl hvl hg5 ?_
        intro v6 w6 hown6 hc6
        obtain ⟨D, L9, e9, rfl, b0, b1, q3, q4, -⟩ := TabV.app HF5.out hown6 hc6 HRS.out
        have HF6 := Lib.hid q3
        have HK6 := Lib.hid (HK5.out.trans q4)
        clear q3 q4 hown6 hc6
        refine hK.out _ _ ?_ (fun hHeld => ?_)
        · trivial
        clear hK K
        refine takeH (i := 6) (v := ?_) rfl rfl (by kernel_rfl) (by kernel_rfl) (by kernel_rfl) (fun _ _ _ h => h) (by rfl) ?_ hHeld ?_
        rotate_left
        · (intro w hSw; (try dsimp only at hSw); first | (go_simp; done) | (go_simp; with_reducible rfl))
        simp only [Act.put, List.setIfInBounds_toArray, List.set_cons_zero, List.set_cons_succ]
        refine wpAnyH_ready (rs := [7]) (by kernel_rfl) (by simp) ?_
        refine AllReadyH.cons rfl (fun K hK => ?_) AllReadyH.nil
        refine put_cell_step rfl 24 (.tmp 23) (.tmp 22) rfl rfl g 1 (.slice D L9 e9) _ rfl rfl rfl rfl b0 b1 (by kernel_rfl) ?_
        refine hK.out _ _ ?_ (fun hHeld => ?_)
        · trivial
        clear hK K
        refine wpAnyH_done (by kernel_rfl) ?_ _
        clear b0 b1 u5
        go_wp2
        go_roundw
        case rel => exact ⟨k + 1, by go_num, by omega, ⟨u.A1, u.n1, u.c1, D, L9, e9⟩, by rw [HNX.out]; exact HF6.out, HK6.out⟩
        case measure => simp [intOf]; omega
      · go_simp
        refine (clone_any A3 r.length c3 r _ (HRI.out.at_) (HRI.out.nil_of HZ.out) (by omega)).mono ?_
        rintro e w5 ⟨v5, rfl, hv5, hb5⟩
        obtain ⟨A5, c5, e5⟩ := hv5.value
        obtain ⟨L5, hL5⟩ : ∃ L5, L5 = r.length := ⟨_, rfl⟩
        rw [← hL5] at e5
        subst e5
        have HV5 := Lib.hid (hv5.lower (show g ≤ w4.heap.size by omega))
        have HF5 := Lib.hid (HF4.out.on hb5)
        have HK5 := Lib.hid (HK4.out.trans (KeepT.of_below hb5))
        have hg5 : g ≤ w5.heap.size := Nat.le_trans hg4 hb5.size
        have u5 := HF5.out.c1
        clear hv5 hb5 u4 hL5
        go_wp2_with fail
        refine hK.out _ _ ?_ (fun hHeld => ?_)
        · trivial
        clear hK K
        refine wpAnyH_ready (rs := [1, 4]) (by kernel_rfl) (by simp) ?_
        refine AllReadyH.cons rfl (fun K hK => ?_) (AllReadyH.cons rfl (fun K hK => ?_) AllReadyH.nil)
        · go_simp
          refine hK.out _ _ ?_ (fun hHeld => ?_)
          · trivial
          clear hK K
          refine wpAnyH_ready (rs := [4]) (by kernel_rfl) (by simp) ?_
          refine AllReadyH.cons rfl (fun K hK => ?_) AllReadyH.nil
          go_simp
          refine hK.out _ _ ?_ (fun hHeld => ?_)
          · trivial
          clear hK K
          obtain ⟨vs, hv1, hvr⟩ := HF5.out.b.vals
          have hvl : vs.length + 1 ≤ 5864062014634 := by rw [hvr.1]; exact Nat.le_trans (Nat.succ_le_of_lt HLT.out) (by omega)
          have HRS := Lib.hid (hvr.snoc HV5.out)
          have HOW := Lib.hid hv1
          clear hv1 hvr
          refine wpAnyH_ready (rs := [5]) (by kernel_rfl) (by simp) ?_
          refine AllReadyH.cons rfl (fun K hK => ?_) AllReadyH.nil
          refine app_rowv_step rfl (.tmp 18) (.tmp 21) rfl g _ vs _ rfl HOW.out rfl rfl rfl hvl hg5 ?_
          intro v6 w6 hown6 hc6
          obtain ⟨D, L9, e9, rfl, b0, b1, q3, q4, -⟩ := TabV.app HF5.out hown6 hc6 HRS.out
          have HF6 := Lib.hid q3
          have HK6 := Lib.hid (HK5.out.trans q4)
          clear q3 q4 hown6 hc6
          refine hK.out _ _ ?_ (fun hHeld => ?_)
          · trivial
          clear hK K
          refine takeH (i := 6) (v := ?_) rfl rfl (by kernel_rfl) (by kernel_rfl) (by kernel_rfl) (fun _ _ _ h => h) (by rfl) ?_ hHeld ?_
          rotate_left
          · (intro w hSw; (try dsimp only at hSw); first | (go_simp; done) | (go_simp; with_reducible rfl))
          simp only [Act.put, List.setIfInBounds_toArray, List.set_cons_zero, List.set_cons_succ]
          refine wpAnyH_ready (rs := [7]) (by kernel_rfl) (by simp) ?_
          refine AllReadyH.cons rfl (fun K hK => ?_) AllReadyH.nil
          refine put_cell_step rfl 24 (.tmp 23) (.tmp 22) rfl rfl g 1 (.slice D L9 e9) _ rfl rfl rfl rfl b0 b1 (by kernel_rfl) ?_
          refine hK.out _ _ ?_ (fun hHeld => ?_)
          · trivial
          clear hK K
          refine wpAnyH_done (by kernel_rfl) ?_ _
          clear b0 b1 u5
          go_wp2
          go_roundw
          case rel => exact ⟨k + 1, by go_num, by omega, ⟨u.A1, u.n1, u.c1, D, L9, e9⟩, by rw [HNX.out]; exact HF6.out, HK6.out⟩
          case measure => simp [intOf]; omega
        · go_simp
          refine hK.out _ _ ?_ (fun hHeld => ?_)
          · trivial
          clear hK K
          have u6 : (w5.alloc (.cells #[.slice A5 L5 c5] 23)).cell? ⟨g, 1, none⟩ = some (.slice u.A2 u.n2 u.c2) := (HF5.out.on (below_new w5 _)).c1
          refine wpAnyH_ready (rs := [1]) (by kernel_rfl) (by simp) ?_
          refine AllReadyH.cons rfl (fun K hK => ?_) AllReadyH.nil
          go_simp
          refine hK.out _ _ ?_ (fun hHeld => ?_)
          · trivial
          clear hK K u6
          obtain ⟨vs, hv1, hvr⟩ := HF5.out.b.vals
          have hvl : vs.length + 1 ≤ 5864062014634 := by rw [hvr.1]; exact Nat.le_trans (Nat.succ_le_of_lt HLT.out) (by omega)
          have HRS := Lib.hid (hvr.snoc HV5.out)
          have HOW := Lib.hid hv1
          clear hv1 hvr
          refine wpAnyH_ready (rs := [5]) (by kernel_rfl) (by simp) ?_
          refine AllReadyH.cons rfl (fun K hK => ?_) AllReadyH.nil
          refine app_rowv_step rfl (.tmp 18) (.tmp 21) rfl g _ vs _ rfl HOW.out rfl rfl rfl hvl hg5 ?_
          intro v6 w6 hown6 hc6
          obtain ⟨D, L9, e9, rfl, b0, b1, q3, q4, -⟩ := TabV.app HF5.out hown6 hc6 HRS.out
          have HF6 := Lib.hid q3
          have HK6 := Lib.hid (HK5.out.trans q4)
          clear q3 q4 hown6 hc6
          refine hK.out _ _ ?_ (fun hHeld => ?_)
          · trivial
          clear hK K
          refine takeH (i := 6) (v := ?_) rfl rfl (by kernel_rfl) (by kernel_rfl) (by kernel_rfl) (fun _ _ _ h => h) (by rfl) ?_ hHeld ?_
          rotate_left
          · (intro w hSw; (try dsimp only at hSw); first | (go_simp; done) | (go_simp; with_reducible rfl))
          simp only [Act.put, List.setIfInBounds_toArray, List.set_cons_zero, List.set_cons_succ]
          refine wpAnyH_ready (rs := [7]) (by kernel_rfl) (by simp) ?_
          refine AllReadyH.cons rfl (fun K hK => ?_) AllReadyH.nil
          refine put_cell_step rfl 24 (.tmp 23) (.tmp 22) rfl rfl g 1 (.slice D L9 e9) _ rfl rfl rfl rfl b0 b1 (by kernel_rfl) ?_
          refine hK.out _ _ ?_ (fun hHeld => ?_)
          · trivial
          clear hK K
          refine wpAnyH_done (by kernel_rfl) ?_ _
          clear b0 b1 u5
          go_wp2
          go_roundw
          case rel => exact ⟨k + 1, by go_num, by omega, ⟨u.A1, u.n1, u.c1, D, L9, e9⟩, by rw [HNX.out]; exact HF6.out, HK6.out⟩
          case measure => simp [intOf]; omega
    · obtain rfl : k = n2 := by omega
      have HT : Hid (t.facts.take k = t.facts) := List.take_of_length_le (by rw [L2.out]; exact Nat.le_refl _)
      rw [HT.out] at HF
      have HR2 := Lib.hid (HKR.out.box (k := w.heap.size + 1) (v := ⟨none, 0, 0, none, 0, 0⟩) (by omega) HP2.out)
      have u0 := HF.out.c0
      have u1 := HF.out.c1
      go_wp2_with (refine store_box rfl 26 (.tmp 2) (.tmp 25) rfl rfl (w.heap.size + 1) _ _ rfl rfl HR2.out rfl (by kernel_rfl) two_one ?_
                   intro w9 hg9 hc9 hs9
                   have HG9 := Lib.hid hg9
                   have HC9 := Lib.hid hc9
                   clear hg9 hc9 hs9)
      refine bodyPost_ret (results_cell_row rfl _ _ (w.heap.size + 1) _ _ _ _ rfl HG9.out Try.underlying26 rfl (by kernel_rfl)) rfl ?_
      exact ⟨_, rfl, HF.out.own.chg HC9.out, HF.out.bel.trans (HC9.out.bel.mono (by omega))⟩
end Go.Proofs.Ythnjpkghjkhjdaa
