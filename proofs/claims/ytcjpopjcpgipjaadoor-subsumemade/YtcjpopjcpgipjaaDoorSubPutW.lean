/-
  What binds make of a clause: the walk of quaerelaw10: put.
-/
import Derived.Test.YtcjpopjcpgipjaaDoorSubPut
namespace Go.Proofs.YtcjpopjcpgipjaaDoor
open Go.RowKit Go.Deep
set_option linter.unusedSimpArgs false
set_option linter.unusedVariables false
set_option maxRecDepth 100000

set_option maxHeartbeats 8000000 in
theorem put10_any (A A1 : Option Addr) (n cp n1 c1 : Nat) (ss : List Sym) (us : List Bd) (v : Cv) (c : Cl) (w : World) (h : SymsAt w w.heap.size A n ss) (hn : n ≤ maxLen) (hnc : n ≤ cp) (hb : BindsAt w w.heap.size A1 n1 us) (hn1 : n1 ≤ 4398046511104) (hc : ClAt w w.heap.size v c) :
    Calls Tryd.prog 17 #[.slice A n cp, .slice A1 n1 c1, v.val] w (PutCPost ss us c w) := by
  have L1 := Lib.hid hc.lits.len
  have L2 := Lib.hid hc.tups.len
  have f1 := hc.f1
  have f2 := hc.f2
  have HS := Lib.hid h
  have HB := Lib.hid hb
  have HC := Lib.hid hc
  obtain ⟨w0, hw0, b1, b2, b3, hbb, hsz⟩ := three_boxes w v.obj (.cells #[.slice none 0 0, .slice none 0 0, .slice none 0 0] 26) (.cells #[.slice none 0 0, .slice none 0 0, .slice none 0 0] 26)
  rw [Cv.val_eq]
  unfold Cv.obj at hw0 b1
  clear h hb hc
  go_enter Tryd.func17, Tryd.ntmps17
  go_upto_region 2 with (fail)
  rw [← hw0]
  have HB0 := Lib.hid hbb
  have HB1 := Lib.hid b1
  have HB2 := Lib.hid b2
  have HSZ := Lib.hid hsz
  have hF0 : PutV w0 (w.heap.size + 1 + 1) [] [] ⟨none, 0, 0, none, 0, 0, none, 0, 0⟩ w0 := ⟨b3, OwnL.nil_, OwnT.nil_, Chg.refl⟩
  have HCX : Hid (∀ wr, Below (w.heap.size + 1 + 1) w0 wr → wr.heap[w.heap.size]? = some (.cells #[.slice v.A1 v.n1 v.c1, .slice v.A2 v.n2 v.c2, .slice v.A3 v.n3 v.c3] 26 (0, 0)) ∧ wr.heap[w.heap.size + 1]? = some (.cells #[.slice none 0 0, .slice none 0 0, .slice none 0 0] 26 (0, 0)) ∧ Below w.heap.size w wr) := fun wr q =>
    ⟨by rw [q.block w.heap.size (by omega)]; exact HB1.out, by rw [q.block (w.heap.size + 1) (by omega)]; exact HB2.out, HB0.out.trans (q.mono (by omega))⟩
  clear hw0 b1 b2 b3 hbb hsz
  go_wp2_with fail
  go_loopw [9] (fun i wr => ∃ k : Nat, i = .int .i64 k ∧ k ≤ v.n1 ∧ Hid (DoneL ss us c.lits k) ∧ ∃ u : Cv, PutV w0 (w.heap.size + 1 + 1) ((c.lits.take k).map (putL us)) [] u wr) (fun i _ => v.n1 - (intOf i).toNat)
  case atStart => exact ⟨0, rfl, by omega, Lib.hid (p := DoneL ss us c.lits 0) DoneL.zero, _, hF0⟩
  case round =>
    clear hF0
    obtain ⟨k, rfl, hk, HD, u, hF⟩ := hrel
    have HF := Lib.hid hF
    obtain ⟨j1, j2, hbw⟩ := HCX.out wr hF.ch.bel
    have HRZ := Lib.hid j2
    have HBE := Lib.hid hbw
    have x0 : wr.cell? ⟨w.heap.size, 0, none⟩ = some (.slice v.A1 v.n1 v.c1) := by rw [cell_of_row _ _ 0 _ _ _ j1]; rfl
    clear hF j1 j2
    by_cases hlt : k < v.n1
    · have hkl : k < c.lits.length := by rw [L1.out]; exact hlt
      obtain ⟨b, off, A3, c3, hA, hbB, d0, d1, hcap, hat⟩ := lits_one (HC.out.lits.below hbw) hlt
      have hft := HC.out.lits.fit k hlt
      have HNX := Lib.hid (putLt_next (us := us) hkl)
      rw [hA] at x0
      obtain ⟨y, hy⟩ : ∃ y, y = (ltAt c.lits k).neg := ⟨_, rfl⟩
      have HLK : Hid (∀ q, (ltAt c.lits k).atom = q → ltAt c.lits k = ⟨y, q⟩) := fun q e => by rw [hy, ← e]
      rw [← hy] at d0
      cases ha : (ltAt c.lits k).atom with
      | nil =>
        rw [ha] at d1
        have d1' : wr.cell? ⟨b, off + k * 2 + 1, none⟩ = some (.slice A3 0 c3) := d1
        have u0 := HF.out.c0
        have u1 := HF.out.c1
        have u2 := HF.out.c2
        clear d1 hat hcap hft hA ha hbw hy
        go_wp2_with (first
          | (go_at_call 14; refine (num_any _ _).mono ?_; rintro e w' ⟨rfl, rfl⟩)
          | (refine store_box rfl 26 (.tmp 6) (.tmp 31) rfl rfl (w.heap.size + 1) _ _ rfl rfl HRZ.out rfl (by kernel_rfl) three_one ?_
             intro w4 hg4 hc4 hs4
             have HG4 := Lib.hid hg4
             have HC4 := Lib.hid hc4
             clear hg4 hc4 hs4))
        refine clause_ret (g := w.heap.size + 1) (x := .bool false) rfl rfl rfl rfl HG4.out rfl ?_
        have hfin : Below w.heap.size w w4 := HBE.out.trans (HC4.out.bel.mono (Nat.le_succ _))
        exact ⟨hfin, Or.inl ⟨⟨u.A1, u.n1, u.c1, u.A2, u.n2, u.c2, none, 0, 0⟩, rfl⟩⟩
      | cons z s =>
        rw [ha] at d1 hcap hat hft
        have d1' : wr.cell? ⟨b, off + k * 2 + 1, none⟩ = some (.slice A3 (s.length + 1) c3) := d1
        have hcap' : s.length + 1 ≤ c3 := hcap
        obtain ⟨ba, oa, rfl, hba, hz0, his⟩ := atom_tail hat hcap'
        have HLE := Lib.hid (HLK.out _ ha)
        have hfs : (s.length + 1) * 8 ≤ 140737488351232 := hft
        have HI := Lib.hid his
        have zs0 : (0 : Int) ≤ (s.length : Int) := by omega
        have zs1 : (1 : Int) ≤ (s.length : Int) + 1 := by omega
        have zs2 : 1 ≤ s.length + 1 := by omega
        clear d1 hat hcap hft hA ha hy his hkl
        go_wp2_with fail
        · have HQ : Hid (IntsAt wr w.heap.size (some ⟨ba, oa, none⟩) s.length s) := by show IntsAt _ _ _ _ _; have := HI.out; rwa [if_pos h] at this
          refine (apply_any A A1 _ n cp n1 c1 s.length 0 ss us s _ (HS.out.on HBE.out) hn hnc (HB.out.on HBE.out) hn1 (HQ.out.more HBE.out.size) (by unfold maxLen; omega)).mono ?_
          rintro e w2 ⟨v2, rfl, hv2, hb2⟩
          have hsz1 := (Array.getElem?_eq_some_iff.1 HRZ.out).1
          have HF2 := Lib.hid (HF.out.on hb2)
          obtain ⟨j1, j2, hbw2⟩ := HCX.out w2 HF2.out.ch.bel
          replace HRZ := Lib.hid j2
          replace HBE := Lib.hid hbw2
          have x2 : w2.cell? ⟨w.heap.size, 0, none⟩ = some (.slice (some ⟨b, off, none⟩) v.n1 v.c1) := by rw [hb2.cell (p := ⟨w.heap.size, 0, none⟩) (by show w.heap.size < wr.heap.size; omega)]; exact x0
          have d2 : w2.cell? ⟨b, off + k * 2, none⟩ = some (.bool y) := by rw [hb2.cell (p := ⟨b, off + k * 2, none⟩) (by show b < wr.heap.size; omega)]; exact d0
          have e2 : w2.cell? ⟨b, off + k * 2 + 1, none⟩ = some (.slice (some ⟨ba, oa, none⟩) (s.length + 1) c3) := by rw [hb2.cell (p := ⟨b, off + k * 2 + 1, none⟩) (by show b < wr.heap.size; omega)]; exact d1'
          have z2 : w2.cell? ⟨ba, oa, none⟩ = some (.int .i64 z) := by rw [hb2.cell (p := ⟨ba, oa, none⟩) (by show ba < wr.heap.size; omega)]; exact hz0
          obtain ⟨A4, c4, rfl, hc4, hn4, hi4⟩ := own_slice hv2
          have h48 := applyR_len ss us s
          obtain ⟨L4, hL4⟩ : ∃ L4, L4 = (applyR ss us s).length := ⟨_, rfl⟩
          rw [← hL4] at hn4 hi4 h48 ⊢
          have HN4 := Lib.hid hn4
          have HI4 := Lib.hid hi4
          have HL4 := Lib.hid hL4
          have hsz2 := hb2.size
          clear hv2 hb2 hc4 hn4 hi4 hL4 j1 j2 hbw2 x0 d0 d1' hz0
          rcases applyE_vals ss us s with hE | hE | hE
          · rw [hE]
            have hap := (applyE_zero hE).2.2
            have HD1 : Hid (DoneL ss us c.lits (k + 1)) := HD.out.next (p := ⟨y, []⟩) HLE.out hE
            have HNX2 : Hid ((c.lits.take (k + 1)).map (putL us) = (c.lits.take k).map (putL us) ++ [⟨y, [z] ++ applyR ss us s⟩]) := by show _ = _; rw [HNX.out, HLE.out, hap]; rfl
            clear hE hap
            go_wp2_with (at_builtin
                         refine app_ints rfl (.tmp 53) (.tmp 54) rfl w2.heap.size _ [z] rfl (OwnI.lit w2 [z] (by unfold maxLen; simp)) A4 L4 c4 _ (applyR ss us s) rfl HN4.out (HI4.out.below (below_new w2 _)) (by simp; omega) (by simp) ?_
                         intro v3 w3 hown3 hb3
                         have HV3 := Lib.hid hown3
                         have H23 := Lib.hid ((below_new w2 (.cells #[.int .i64 z] 3)).trans hb3)
                         clear hown3 hb3)
            obtain ⟨A5, c5, e5, -, -, -⟩ := own_slice HV3.out
            obtain ⟨L5, hL5⟩ : ∃ L5, L5 = ([z] ++ applyR ss us s).length := ⟨_, rfl⟩
            rw [← hL5] at e5
            subst e5
            have hb3 := H23.out
            have HF3 := Lib.hid (HF2.out.on hb3)
            have x3 : w3.cell? ⟨w.heap.size, 0, none⟩ = some (.slice (some ⟨b, off, none⟩) v.n1 v.c1) := by rw [hb3.cell (p := ⟨w.heap.size, 0, none⟩) (by show w.heap.size < w2.heap.size; omega)]; exact x2
            have d3 : w3.cell? ⟨b, off + k * 2, none⟩ = some (.bool y) := by rw [hb3.cell (p := ⟨b, off + k * 2, none⟩) (by show b < w2.heap.size; omega)]; exact d2
            have hsz3 := hb3.size
            clear x2 d2 e2 z2 hL5 hb3
            go_wp2_with (go_at_call 14; refine (num_any _ _).mono ?_; rintro e w' ⟨rfl, rfl⟩)
            have hd : Below w3.heap.size w3 w3.drew := (Below.refl w3.heap.size w3).drew
            have HV4 := Lib.hid (HV3.out.on hd)
            have HF4 := Lib.hid (HF3.out.on hd)
            have hsz4 := hd.size
            have x4 : w3.drew.cell? ⟨w.heap.size, 0, none⟩ = some (.slice (some ⟨b, off, none⟩) v.n1 v.c1) := by rw [hd.cell (p := ⟨w.heap.size, 0, none⟩) (by show w.heap.size < w3.heap.size; omega)]; exact x3
            have d4 : w3.drew.cell? ⟨b, off + k * 2, none⟩ = some (.bool y) := by rw [hd.cell (p := ⟨b, off + k * 2, none⟩) (by show b < w3.heap.size; omega)]; exact d3
            refine wp_region_held_drew (S := (fun w' => w'.cell? ⟨w.heap.size, 0, none⟩ = some (.slice (some ⟨b, off, none⟩) v.n1 v.c1) ∧ w'.cell? ⟨b, off + k * 2, none⟩ = some (.bool y))) (by kernel_rfl) ⟨x3, d3⟩ (fun hHeld => ?_)
            obtain ⟨w4, hw4⟩ : ∃ w4, w4 = w3.drew := ⟨_, rfl⟩
            rw [← hw4] at HV4 HF4 hsz4 x4 d4 hHeld ⊢
            clear hw4 hd x3 d3
            have u4 := HF4.out.c0
            obtain ⟨vs, hv1, hvr⟩ := HF4.out.a.vals
            have HOW := Lib.hid hv1
            have HRS := Lib.hid (hvr.snoc (HV4.out.lower (show w.heap.size + 1 + 1 ≤ w2.heap.size by omega)))
            have hvl : ((c.lits.take k).map (putL us)).length + 1 ≤ 4398046511104 := by rw [List.length_map, List.length_take]; have := Nat.min_le_left k c.lits.length; omega
            clear hv1 hvr
            refine takeH (i := 0) (v := ?_) rfl rfl (by kernel_rfl) (by kernel_rfl) (by kernel_rfl) (fun _ _ _ h => h) (by rfl) ?_ hHeld ?_
            rotate_left
            · (intro w hSw; (try dsimp only at hSw); first | (go_simp; done) | (go_simp; with_reducible rfl))
            simp only [Act.put, List.setIfInBounds_toArray, List.set_cons_zero, List.set_cons_succ]
            refine takeH (i := 2) (v := ?_) rfl rfl (by kernel_rfl) (by kernel_rfl) (by kernel_rfl) (fun _ _ _ h => h) (by rfl) ?_ hHeld ?_
            rotate_left
            · (intro w hSw; (try dsimp only at hSw); first | (go_simp; done) | (go_simp; with_reducible rfl))
            simp only [Act.put, List.setIfInBounds_toArray, List.set_cons_zero, List.set_cons_succ]
            refine takeH (i := 3) (v := ?_) rfl rfl (by kernel_rfl) (by kernel_rfl) (by kernel_rfl) (fun _ _ _ h => h) (by rfl) ?_ hHeld ?_
            rotate_left
            · (intro w hSw; (try dsimp only at hSw); first | (go_simp; done) | (go_simp; with_reducible rfl))
            simp only [Act.put, List.setIfInBounds_toArray, List.set_cons_zero, List.set_cons_succ]
            refine takeH (i := 4) (v := ?_) rfl rfl (by kernel_rfl) (by kernel_rfl) (by kernel_rfl) (fun _ _ _ h => h) (by rfl) ?_ hHeld ?_
            rotate_left
            · (intro w hSw; (try dsimp only at hSw); first | (go_simp; done) | (go_simp; with_reducible rfl))
            simp only [Act.put, List.setIfInBounds_toArray, List.set_cons_zero, List.set_cons_succ]
            refine takeH (i := 5) (v := ?_) rfl rfl (by kernel_rfl) (by kernel_rfl) (by kernel_rfl) (fun _ _ _ h => h) (by rfl) ?_ hHeld ?_
            rotate_left
            · (intro w hSw; (try dsimp only at hSw); first | (go_simp; done) | (go_simp; with_reducible rfl))
            simp only [Act.put, List.setIfInBounds_toArray, List.set_cons_zero, List.set_cons_succ]
            refine takeH (i := 6) (v := ?_) rfl rfl (by kernel_rfl) (by kernel_rfl) (by kernel_rfl) (fun _ _ _ h => h) (by rfl) ?_ hHeld ?_
            rotate_left
            · (intro w hSw; (try dsimp only at hSw); first | (go_simp; done) | (go_simp; with_reducible rfl))
            simp only [Act.put, List.setIfInBounds_toArray, List.set_cons_zero, List.set_cons_succ]
            refine takeH (i := 7) (v := ?_) rfl rfl (by kernel_rfl) (by kernel_rfl) (by kernel_rfl) (fun _ _ _ h => h) (by rfl) ?_ hHeld ?_
            rotate_left
            · (intro w hSw; (try dsimp only at hSw); first | (go_simp; done) | (go_simp; with_reducible rfl))
            simp only [Act.put, List.setIfInBounds_toArray, List.set_cons_zero, List.set_cons_succ]
            refine takeH (i := 8) (v := ?_) rfl rfl (by kernel_rfl) (by kernel_rfl) (by kernel_rfl) (fun _ _ _ h => h) (by rfl) ?_ hHeld ?_
            rotate_left
            · (intro w hSw; (try dsimp only at hSw); first | (go_simp; done) | (go_simp; with_reducible rfl))
            simp only [Act.put, List.setIfInBounds_toArray, List.set_cons_zero, List.set_cons_succ]
            refine takeH (i := 9) (v := ?_) rfl rfl (by kernel_rfl) (by kernel_rfl) (by kernel_rfl) (fun _ _ _ h => h) (by rfl) ?_ hHeld ?_
            rotate_left
            · (intro w hSw; (try dsimp only at hSw); first | (go_simp; done) | (go_simp; with_reducible rfl))
            simp only [Act.put, List.setIfInBounds_toArray, List.set_cons_zero, List.set_cons_succ]
            refine wpAnyH_ready (rs := [1, 10]) (by kernel_rfl) (by simp) ?_
            refine AllReadyH.cons rfl (fun K hK => ?_) (AllReadyH.cons rfl (fun K hK => ?_) AllReadyH.nil)
            · go_simp
              refine hK.out _ _ ?_ (fun hHeld => ?_)
              · exact ⟨x4, d4⟩
              clear hK K
              refine wpAnyH_ready (rs := [10]) (by kernel_rfl) (by simp) ?_
              refine AllReadyH.cons rfl (fun K hK => ?_) AllReadyH.nil
              go_simp
              refine hK.out _ _ ?_ (fun hHeld => ?_)
              · exact ⟨by rw [(below_new w4 _).cell (p := ⟨w.heap.size, 0, none⟩) (show w.heap.size < w4.heap.size by omega)]; exact x4, by rw [(below_new w4 _).cell (p := ⟨b, off + k * 2, none⟩) (show b < w4.heap.size by omega)]; exact d4⟩
              clear hK K
              refine wpAnyH_ready (rs := [11]) (by kernel_rfl) (by simp) ?_
              refine AllReadyH.cons rfl (fun K hK => ?_) AllReadyH.nil
              refine app_litv_step rfl (.tmp 61) (.tmp 70) rfl (w.heap.size + 1 + 1) _ _ vs y ([z] ++ applyR ss us s) _ rfl HOW.out rfl rfl rfl hvl (by omega) ?_
              intro v5 w5 hown5 hc5
              obtain ⟨D, L9, e9, rfl, b0, b1, q3⟩ := PutV.app1 HF4.out hown5 hc5 HRS.out
              have HQ9 := Lib.hid q3
              have x5 : w5.cell? ⟨w.heap.size, 0, none⟩ = some (.slice (some ⟨b, off, none⟩) v.n1 v.c1) := by rw [hc5.bel.cell (p := ⟨w.heap.size, 0, none⟩) (by show w.heap.size < _; omega)]; exact x4
              have d5 : w5.cell? ⟨b, off + k * 2, none⟩ = some (.bool y) := by rw [hc5.bel.cell (p := ⟨b, off + k * 2, none⟩) (by show b < _; omega)]; exact d4
              clear q3 hown5 hc5
              refine hK.out _ _ ?_ (fun hHeld => ?_)
              · exact ⟨x5, d5⟩
              clear hK K
              refine takeH (i := 12) (v := ?_) rfl rfl (by kernel_rfl) (by kernel_rfl) (by kernel_rfl) (fun _ _ _ h => h) (by rfl) ?_ hHeld ?_
              rotate_left
              · (intro w hSw; (try dsimp only at hSw); first | (go_simp; done) | (go_simp; with_reducible rfl))
              simp only [Act.put, List.setIfInBounds_toArray, List.set_cons_zero, List.set_cons_succ]
              refine wpAnyH_ready (rs := [13]) (by kernel_rfl) (by simp) ?_
              refine AllReadyH.cons rfl (fun K hK => ?_) AllReadyH.nil
              refine store_slice_step rfl 23 (.tmp 72) (.tmp 71) rfl rfl (w.heap.size + 1 + 1) 0 D L9 e9 _ rfl rfl b0 b1 (by kernel_rfl) ?_
              refine hK.out _ _ ?_ (fun hHeld => ?_)
              · exact ⟨by rw [HQ9.out.ch.bel.cell (p := ⟨w.heap.size, 0, none⟩) (by show w.heap.size < _; omega), ← HF4.out.ch.bel.cell (p := ⟨w.heap.size, 0, none⟩) (by show w.heap.size < _; omega)]; exact x4, by rw [HQ9.out.ch.bel.cell (p := ⟨b, off + k * 2, none⟩) (by show b < _; omega), ← HF4.out.ch.bel.cell (p := ⟨b, off + k * 2, none⟩) (by show b < _; omega)]; exact d4⟩
              clear hK K
              refine wpAnyH_done (by kernel_rfl) ?_ _
              clear b0 b1 x5 d5 x4 d4 u4
              go_wp2
              go_roundw
              case rel => exact ⟨k + 1, by go_num, by omega, HD1, _, by rw [HNX2.out]; exact HQ9.out⟩
              case measure => simp [intOf]; omega
            · go_simp
              refine hK.out _ _ ?_ (fun hHeld => ?_)
              · exact ⟨by rw [(below_new w4 _).cell (p := ⟨w.heap.size, 0, none⟩) (show w.heap.size < w4.heap.size by omega)]; exact x4, by rw [(below_new w4 _).cell (p := ⟨b, off + k * 2, none⟩) (show b < w4.heap.size by omega)]; exact d4⟩
              clear hK K
              have u5 : (w4.alloc (.cells #[.bool y, .slice A5 L5 c5] 75)).cell? ⟨w.heap.size + 1 + 1, 0, none⟩ = some (.slice u.A1 u.n1 u.c1) := (HF4.out.on (below_new w4 _)).c0
              refine wpAnyH_ready (rs := [1]) (by kernel_rfl) (by simp) ?_
              refine AllReadyH.cons rfl (fun K hK => ?_) AllReadyH.nil
              go_simp
              clear u5
              refine hK.out _ _ ?_ (fun hHeld => ?_)
              · exact ⟨by rw [(below_new w4 _).cell (p := ⟨w.heap.size, 0, none⟩) (show w.heap.size < w4.heap.size by omega)]; exact x4, by rw [(below_new w4 _).cell (p := ⟨b, off + k * 2, none⟩) (show b < w4.heap.size by omega)]; exact d4⟩
              clear hK K
              refine wpAnyH_ready (rs := [11]) (by kernel_rfl) (by simp) ?_
              refine AllReadyH.cons rfl (fun K hK => ?_) AllReadyH.nil
              refine app_litv_step rfl (.tmp 61) (.tmp 70) rfl (w.heap.size + 1 + 1) _ _ vs y ([z] ++ applyR ss us s) _ rfl HOW.out rfl rfl rfl hvl (by omega) ?_
              intro v5 w5 hown5 hc5
              obtain ⟨D, L9, e9, rfl, b0, b1, q3⟩ := PutV.app1 HF4.out hown5 hc5 HRS.out
              have HQ9 := Lib.hid q3
              have x5 : w5.cell? ⟨w.heap.size, 0, none⟩ = some (.slice (some ⟨b, off, none⟩) v.n1 v.c1) := by rw [hc5.bel.cell (p := ⟨w.heap.size, 0, none⟩) (by show w.heap.size < _; omega)]; exact x4
              have d5 : w5.cell? ⟨b, off + k * 2, none⟩ = some (.bool y) := by rw [hc5.bel.cell (p := ⟨b, off + k * 2, none⟩) (by show b < _; omega)]; exact d4
              clear q3 hown5 hc5
              refine hK.out _ _ ?_ (fun hHeld => ?_)
              · exact ⟨x5, d5⟩
              clear hK K
              refine takeH (i := 12) (v := ?_) rfl rfl (by kernel_rfl) (by kernel_rfl) (by kernel_rfl) (fun _ _ _ h => h) (by rfl) ?_ hHeld ?_
              rotate_left
              · (intro w hSw; (try dsimp only at hSw); first | (go_simp; done) | (go_simp; with_reducible rfl))
              simp only [Act.put, List.setIfInBounds_toArray, List.set_cons_zero, List.set_cons_succ]
              refine wpAnyH_ready (rs := [13]) (by kernel_rfl) (by simp) ?_
              refine AllReadyH.cons rfl (fun K hK => ?_) AllReadyH.nil
              refine store_slice_step rfl 23 (.tmp 72) (.tmp 71) rfl rfl (w.heap.size + 1 + 1) 0 D L9 e9 _ rfl rfl b0 b1 (by kernel_rfl) ?_
              refine hK.out _ _ ?_ (fun hHeld => ?_)
              · exact ⟨by rw [HQ9.out.ch.bel.cell (p := ⟨w.heap.size, 0, none⟩) (by show w.heap.size < _; omega), ← HF4.out.ch.bel.cell (p := ⟨w.heap.size, 0, none⟩) (by show w.heap.size < _; omega)]; exact x4, by rw [HQ9.out.ch.bel.cell (p := ⟨b, off + k * 2, none⟩) (by show b < _; omega), ← HF4.out.ch.bel.cell (p := ⟨b, off + k * 2, none⟩) (by show b < _; omega)]; exact d4⟩
              clear hK K
              refine wpAnyH_done (by kernel_rfl) ?_ _
              clear b0 b1 x5 d5 x4 d4 u4
              go_wp2
              go_roundw
              case rel => exact ⟨k + 1, by go_num, by omega, HD1, _, by rw [HNX2.out]; exact HQ9.out⟩
              case measure => simp [intOf]; omega
          · rw [hE]
            have u0 := HF2.out.c0
            have u1 := HF2.out.c1
            have u2 := HF2.out.c2
            go_wp2_with (at_builtin
                         refine app_ints rfl (.tmp 53) (.tmp 54) rfl w2.heap.size _ [z] rfl (OwnI.lit w2 [z] (by unfold maxLen; simp)) A4 L4 c4 _ (applyR ss us s) rfl HN4.out (HI4.out.below (below_new w2 _)) (by simp; omega) (by simp) ?_
                         intro v3 w3 hown3 hb3
                         have HV3 := Lib.hid hown3
                         have H23 := Lib.hid ((below_new w2 (.cells #[.int .i64 z] 3)).trans hb3)
                         clear hown3 hb3)
            replace HF2 := Lib.hid (HF2.out.on (H23.out.mono (Nat.le_refl _)))
            replace HBE := Lib.hid (HBE.out.trans (H23.out.mono HBE.out.size))
            replace HRZ : Hid (w3.heap[w.heap.size + 1]? = some (.cells #[.slice none 0 0, .slice none 0 0, .slice none 0 0] 26 (0, 0))) := (HCX.out w3 HF2.out.ch.bel).2.1
            clear u0 u1 u2
            have u0 := HF2.out.c0
            have u1 := HF2.out.c1
            have u2 := HF2.out.c2
            go_wp2_with (first
              | (go_at_call 14; refine (num_any _ _).mono ?_; rintro e w' ⟨rfl, rfl⟩)
              | (refine store_box rfl 26 (.tmp 6) (.tmp 59) rfl rfl (w.heap.size + 1) _ _ rfl rfl HRZ.out rfl (by kernel_rfl) three_one ?_
                 intro w4 hg4 hc4 hs4
                 have HG4 := Lib.hid hg4
                 have HC4 := Lib.hid hc4
                 clear hg4 hc4 hs4))
            refine clause_ret (g := w.heap.size + 1) (x := .bool false) rfl rfl rfl rfl HG4.out rfl ?_
            have hfin : Below w.heap.size w w4 := HBE.out.trans (HC4.out.bel.mono (Nat.le_succ _))
            exact ⟨hfin, Or.inl ⟨⟨u.A1, u.n1, u.c1, u.A2, u.n2, u.c2, none, 0, 0⟩, rfl⟩⟩
          · rw [hE]
            have u0 := HF2.out.c0
            have u1 := HF2.out.c1
            have u2 := HF2.out.c2
            go_wp2_with (at_builtin
                         refine app_ints rfl (.tmp 53) (.tmp 54) rfl w2.heap.size _ [z] rfl (OwnI.lit w2 [z] (by unfold maxLen; simp)) A4 L4 c4 _ (applyR ss us s) rfl HN4.out (HI4.out.below (below_new w2 _)) (by simp; omega) (by simp) ?_
                         intro v3 w3 hown3 hb3
                         have HV3 := Lib.hid hown3
                         have H23 := Lib.hid ((below_new w2 (.cells #[.int .i64 z] 3)).trans hb3)
                         clear hown3 hb3)
            replace HF2 := Lib.hid (HF2.out.on (H23.out.mono (Nat.le_refl _)))
            replace HBE := Lib.hid (HBE.out.trans (H23.out.mono HBE.out.size))
            replace HRZ : Hid (w3.heap[w.heap.size + 1]? = some (.cells #[.slice none 0 0, .slice none 0 0, .slice none 0 0] 26 (0, 0))) := (HCX.out w3 HF2.out.ch.bel).2.1
            clear u0 u1 u2
            have u0 := HF2.out.c0
            have u1 := HF2.out.c1
            have u2 := HF2.out.c2
            go_wp2_with (first
              | (go_at_call 14; refine (num_any _ _).mono ?_; rintro e w' ⟨rfl, rfl⟩)
              | (refine store_box rfl 26 (.tmp 6) (.tmp 59) rfl rfl (w.heap.size + 1) _ _ rfl rfl HRZ.out rfl (by kernel_rfl) three_one ?_
                 intro w4 hg4 hc4 hs4
                 have HG4 := Lib.hid hg4
                 have HC4 := Lib.hid hc4
                 clear hg4 hc4 hs4))
            refine clause_ret (g := w.heap.size + 1) (x := .bool false) rfl rfl rfl rfl HG4.out rfl ?_
            have hfin : Below w.heap.size w w4 := HBE.out.trans (HC4.out.bel.mono (Nat.le_succ _))
            exact ⟨hfin, Or.inl ⟨⟨u.A1, u.n1, u.c1, u.A2, u.n2, u.c2, none, 0, 0⟩, rfl⟩⟩
        · have HQ : Hid (IntsAt wr w.heap.size (some ⟨ba, oa + 1, none⟩) s.length s) := by show IntsAt _ _ _ _ _; have := HI.out; rwa [if_neg h] at this
          refine (apply_any A A1 _ n cp n1 c1 s.length (c3 - 1) ss us s _ (HS.out.on HBE.out) hn hnc (HB.out.on HBE.out) hn1 (HQ.out.more HBE.out.size) (by unfold maxLen; omega)).mono ?_
          rintro e w2 ⟨v2, rfl, hv2, hb2⟩
          have hsz1 := (Array.getElem?_eq_some_iff.1 HRZ.out).1
          have HF2 := Lib.hid (HF.out.on hb2)
          obtain ⟨j1, j2, hbw2⟩ := HCX.out w2 HF2.out.ch.bel
          replace HRZ := Lib.hid j2
          replace HBE := Lib.hid hbw2
          have x2 : w2.cell? ⟨w.heap.size, 0, none⟩ = some (.slice (some ⟨b, off, none⟩) v.n1 v.c1) := by rw [hb2.cell (p := ⟨w.heap.size, 0, none⟩) (by show w.heap.size < wr.heap.size; omega)]; exact x0
          have d2 : w2.cell? ⟨b, off + k * 2, none⟩ = some (.bool y) := by rw [hb2.cell (p := ⟨b, off + k * 2, none⟩) (by show b < wr.heap.size; omega)]; exact d0
          have e2 : w2.cell? ⟨b, off + k * 2 + 1, none⟩ = some (.slice (some ⟨ba, oa, none⟩) (s.length + 1) c3) := by rw [hb2.cell (p := ⟨b, off + k * 2 + 1, none⟩) (by show b < wr.heap.size; omega)]; exact d1'
          have z2 : w2.cell? ⟨ba, oa, none⟩ = some (.int .i64 z) := by rw [hb2.cell (p := ⟨ba, oa, none⟩) (by show ba < wr.heap.size; omega)]; exact hz0
          obtain ⟨A4, c4, rfl, hc4, hn4, hi4⟩ := own_slice hv2
          have h48 := applyR_len ss us s
          obtain ⟨L4, hL4⟩ : ∃ L4, L4 = (applyR ss us s).length := ⟨_, rfl⟩
          rw [← hL4] at hn4 hi4 h48 ⊢
          have HN4 := Lib.hid hn4
          have HI4 := Lib.hid hi4
          have HL4 := Lib.hid hL4
          have hsz2 := hb2.size
          clear hv2 hb2 hc4 hn4 hi4 hL4 j1 j2 hbw2 x0 d0 d1' hz0
          rcases applyE_vals ss us s with hE | hE | hE
          · rw [hE]
            have hap := (applyE_zero hE).2.2
            have HD1 : Hid (DoneL ss us c.lits (k + 1)) := HD.out.next (p := ⟨y, []⟩) HLE.out hE
            have HNX2 : Hid ((c.lits.take (k + 1)).map (putL us) = (c.lits.take k).map (putL us) ++ [⟨y, [z] ++ applyR ss us s⟩]) := by show _ = _; rw [HNX.out, HLE.out, hap]; rfl
            clear hE hap
            go_wp2_with (at_builtin
                         refine app_ints rfl (.tmp 53) (.tmp 54) rfl w2.heap.size _ [z] rfl (OwnI.lit w2 [z] (by unfold maxLen; simp)) A4 L4 c4 _ (applyR ss us s) rfl HN4.out (HI4.out.below (below_new w2 _)) (by simp; omega) (by simp) ?_
                         intro v3 w3 hown3 hb3
                         have HV3 := Lib.hid hown3
                         have H23 := Lib.hid ((below_new w2 (.cells #[.int .i64 z] 3)).trans hb3)
                         clear hown3 hb3)
            obtain ⟨A5, c5, e5, -, -, -⟩ := own_slice HV3.out
            obtain ⟨L5, hL5⟩ : ∃ L5, L5 = ([z] ++ applyR ss us s).length := ⟨_, rfl⟩
            rw [← hL5] at e5
            subst e5
            have hb3 := H23.out
            have HF3 := Lib.hid (HF2.out.on hb3)
            have x3 : w3.cell? ⟨w.heap.size, 0, none⟩ = some (.slice (some ⟨b, off, none⟩) v.n1 v.c1) := by rw [hb3.cell (p := ⟨w.heap.size, 0, none⟩) (by show w.heap.size < w2.heap.size; omega)]; exact x2
            have d3 : w3.cell? ⟨b, off + k * 2, none⟩ = some (.bool y) := by rw [hb3.cell (p := ⟨b, off + k * 2, none⟩) (by show b < w2.heap.size; omega)]; exact d2
            have hsz3 := hb3.size
            clear x2 d2 e2 z2 hL5 hb3
            go_wp2_with (go_at_call 14; refine (num_any _ _).mono ?_; rintro e w' ⟨rfl, rfl⟩)
            have hd : Below w3.heap.size w3 w3.drew := (Below.refl w3.heap.size w3).drew
            have HV4 := Lib.hid (HV3.out.on hd)
            have HF4 := Lib.hid (HF3.out.on hd)
            have hsz4 := hd.size
            have x4 : w3.drew.cell? ⟨w.heap.size, 0, none⟩ = some (.slice (some ⟨b, off, none⟩) v.n1 v.c1) := by rw [hd.cell (p := ⟨w.heap.size, 0, none⟩) (by show w.heap.size < w3.heap.size; omega)]; exact x3
            have d4 : w3.drew.cell? ⟨b, off + k * 2, none⟩ = some (.bool y) := by rw [hd.cell (p := ⟨b, off + k * 2, none⟩) (by show b < w3.heap.size; omega)]; exact d3
            refine wp_region_held_drew (S := (fun w' => w'.cell? ⟨w.heap.size, 0, none⟩ = some (.slice (some ⟨b, off, none⟩) v.n1 v.c1) ∧ w'.cell? ⟨b, off + k * 2, none⟩ = some (.bool y))) (by kernel_rfl) ⟨x3, d3⟩ (fun hHeld => ?_)
            obtain ⟨w4, hw4⟩ : ∃ w4, w4 = w3.drew := ⟨_, rfl⟩
            rw [← hw4] at HV4 HF4 hsz4 x4 d4 hHeld ⊢
            clear hw4 hd x3 d3
            have u4 := HF4.out.c0
            obtain ⟨vs, hv1, hvr⟩ := HF4.out.a.vals
            have HOW := Lib.hid hv1
            have HRS := Lib.hid (hvr.snoc (HV4.out.lower (show w.heap.size + 1 + 1 ≤ w2.heap.size by omega)))
            have hvl : ((c.lits.take k).map (putL us)).length + 1 ≤ 4398046511104 := by rw [List.length_map, List.length_take]; have := Nat.min_le_left k c.lits.length; omega
            clear hv1 hvr
            refine takeH (i := 0) (v := ?_) rfl rfl (by kernel_rfl) (by kernel_rfl) (by kernel_rfl) (fun _ _ _ h => h) (by rfl) ?_ hHeld ?_
            rotate_left
            · (intro w hSw; (try dsimp only at hSw); first | (go_simp; done) | (go_simp; with_reducible rfl))
            simp only [Act.put, List.setIfInBounds_toArray, List.set_cons_zero, List.set_cons_succ]
            refine takeH (i := 2) (v := ?_) rfl rfl (by kernel_rfl) (by kernel_rfl) (by kernel_rfl) (fun _ _ _ h => h) (by rfl) ?_ hHeld ?_
            rotate_left
            · (intro w hSw; (try dsimp only at hSw); first | (go_simp; done) | (go_simp; with_reducible rfl))
            simp only [Act.put, List.setIfInBounds_toArray, List.set_cons_zero, List.set_cons_succ]
            refine takeH (i := 3) (v := ?_) rfl rfl (by kernel_rfl) (by kernel_rfl) (by kernel_rfl) (fun _ _ _ h => h) (by rfl) ?_ hHeld ?_
            rotate_left
            · (intro w hSw; (try dsimp only at hSw); first | (go_simp; done) | (go_simp; with_reducible rfl))
            simp only [Act.put, List.setIfInBounds_toArray, List.set_cons_zero, List.set_cons_succ]
            refine takeH (i := 4) (v := ?_) rfl rfl (by kernel_rfl) (by kernel_rfl) (by kernel_rfl) (fun _ _ _ h => h) (by rfl) ?_ hHeld ?_
            rotate_left
            · (intro w hSw; (try dsimp only at hSw); first | (go_simp; done) | (go_simp; with_reducible rfl))
            simp only [Act.put, List.setIfInBounds_toArray, List.set_cons_zero, List.set_cons_succ]
            refine takeH (i := 5) (v := ?_) rfl rfl (by kernel_rfl) (by kernel_rfl) (by kernel_rfl) (fun _ _ _ h => h) (by rfl) ?_ hHeld ?_
            rotate_left
            · (intro w hSw; (try dsimp only at hSw); first | (go_simp; done) | (go_simp; with_reducible rfl))
            simp only [Act.put, List.setIfInBounds_toArray, List.set_cons_zero, List.set_cons_succ]
            refine takeH (i := 6) (v := ?_) rfl rfl (by kernel_rfl) (by kernel_rfl) (by kernel_rfl) (fun _ _ _ h => h) (by rfl) ?_ hHeld ?_
            rotate_left
            · (intro w hSw; (try dsimp only at hSw); first | (go_simp; done) | (go_simp; with_reducible rfl))
            simp only [Act.put, List.setIfInBounds_toArray, List.set_cons_zero, List.set_cons_succ]
            refine takeH (i := 7) (v := ?_) rfl rfl (by kernel_rfl) (by kernel_rfl) (by kernel_rfl) (fun _ _ _ h => h) (by rfl) ?_ hHeld ?_
            rotate_left
            · (intro w hSw; (try dsimp only at hSw); first | (go_simp; done) | (go_simp; with_reducible rfl))
            simp only [Act.put, List.setIfInBounds_toArray, List.set_cons_zero, List.set_cons_succ]
            refine takeH (i := 8) (v := ?_) rfl rfl (by kernel_rfl) (by kernel_rfl) (by kernel_rfl) (fun _ _ _ h => h) (by rfl) ?_ hHeld ?_
            rotate_left
            · (intro w hSw; (try dsimp only at hSw); first | (go_simp; done) | (go_simp; with_reducible rfl))
            simp only [Act.put, List.setIfInBounds_toArray, List.set_cons_zero, List.set_cons_succ]
            refine takeH (i := 9) (v := ?_) rfl rfl (by kernel_rfl) (by kernel_rfl) (by kernel_rfl) (fun _ _ _ h => h) (by rfl) ?_ hHeld ?_
            rotate_left
            · (intro w hSw; (try dsimp only at hSw); first | (go_simp; done) | (go_simp; with_reducible rfl))
            simp only [Act.put, List.setIfInBounds_toArray, List.set_cons_zero, List.set_cons_succ]
            refine wpAnyH_ready (rs := [1, 10]) (by kernel_rfl) (by simp) ?_
            refine AllReadyH.cons rfl (fun K hK => ?_) (AllReadyH.cons rfl (fun K hK => ?_) AllReadyH.nil)
            · go_simp
              refine hK.out _ _ ?_ (fun hHeld => ?_)
              · exact ⟨x4, d4⟩
              clear hK K
              refine wpAnyH_ready (rs := [10]) (by kernel_rfl) (by simp) ?_
              refine AllReadyH.cons rfl (fun K hK => ?_) AllReadyH.nil
              go_simp
              refine hK.out _ _ ?_ (fun hHeld => ?_)
              · exact ⟨by rw [(below_new w4 _).cell (p := ⟨w.heap.size, 0, none⟩) (show w.heap.size < w4.heap.size by omega)]; exact x4, by rw [(below_new w4 _).cell (p := ⟨b, off + k * 2, none⟩) (show b < w4.heap.size by omega)]; exact d4⟩
              clear hK K
              refine wpAnyH_ready (rs := [11]) (by kernel_rfl) (by simp) ?_
              refine AllReadyH.cons rfl (fun K hK => ?_) AllReadyH.nil
              refine app_litv_step rfl (.tmp 61) (.tmp 70) rfl (w.heap.size + 1 + 1) _ _ vs y ([z] ++ applyR ss us s) _ rfl HOW.out rfl rfl rfl hvl (by omega) ?_
              intro v5 w5 hown5 hc5
              obtain ⟨D, L9, e9, rfl, b0, b1, q3⟩ := PutV.app1 HF4.out hown5 hc5 HRS.out
              have HQ9 := Lib.hid q3
              have x5 : w5.cell? ⟨w.heap.size, 0, none⟩ = some (.slice (some ⟨b, off, none⟩) v.n1 v.c1) := by rw [hc5.bel.cell (p := ⟨w.heap.size, 0, none⟩) (by show w.heap.size < _; omega)]; exact x4
              have d5 : w5.cell? ⟨b, off + k * 2, none⟩ = some (.bool y) := by rw [hc5.bel.cell (p := ⟨b, off + k * 2, none⟩) (by show b < _; omega)]; exact d4
              clear q3 hown5 hc5
              refine hK.out _ _ ?_ (fun hHeld => ?_)
              · exact ⟨x5, d5⟩
              clear hK K
              refine takeH (i := 12) (v := ?_) rfl rfl (by kernel_rfl) (by kernel_rfl) (by kernel_rfl) (fun _ _ _ h => h) (by rfl) ?_ hHeld ?_
              rotate_left
              · (intro w hSw; (try dsimp only at hSw); first | (go_simp; done) | (go_simp; with_reducible rfl))
              simp only [Act.put, List.setIfInBounds_toArray, List.set_cons_zero, List.set_cons_succ]
              refine wpAnyH_ready (rs := [13]) (by kernel_rfl) (by simp) ?_
              refine AllReadyH.cons rfl (fun K hK => ?_) AllReadyH.nil
              refine store_slice_step rfl 23 (.tmp 72) (.tmp 71) rfl rfl (w.heap.size + 1 + 1) 0 D L9 e9 _ rfl rfl b0 b1 (by kernel_rfl) ?_
              refine hK.out _ _ ?_ (fun hHeld => ?_)
              · exact ⟨by rw [HQ9.out.ch.bel.cell (p := ⟨w.heap.size, 0, none⟩) (by show w.heap.size < _; omega), ← HF4.out.ch.bel.cell (p := ⟨w.heap.size, 0, none⟩) (by show w.heap.size < _; omega)]; exact x4, by rw [HQ9.out.ch.bel.cell (p := ⟨b, off + k * 2, none⟩) (by show b < _; omega), ← HF4.out.ch.bel.cell (p := ⟨b, off + k * 2, none⟩) (by show b < _; omega)]; exact d4⟩
              clear hK K
              refine wpAnyH_done (by kernel_rfl) ?_ _
              clear b0 b1 x5 d5 x4 d4 u4
              go_wp2
              go_roundw
              case rel => exact ⟨k + 1, by go_num, by omega, HD1, _, by rw [HNX2.out]; exact HQ9.out⟩
              case measure => simp [intOf]; omega
            · go_simp
              refine hK.out _ _ ?_ (fun hHeld => ?_)
              · exact ⟨by rw [(below_new w4 _).cell (p := ⟨w.heap.size, 0, none⟩) (show w.heap.size < w4.heap.size by omega)]; exact x4, by rw [(below_new w4 _).cell (p := ⟨b, off + k * 2, none⟩) (show b < w4.heap.size by omega)]; exact d4⟩
              clear hK K
              have u5 : (w4.alloc (.cells #[.bool y, .slice A5 L5 c5] 75)).cell? ⟨w.heap.size + 1 + 1, 0, none⟩ = some (.slice u.A1 u.n1 u.c1) := (HF4.out.on (below_new w4 _)).c0
              refine wpAnyH_ready (rs := [1]) (by kernel_rfl) (by simp) ?_
              refine AllReadyH.cons rfl (fun K hK => ?_) AllReadyH.nil
              go_simp
              clear u5
              refine hK.out _ _ ?_ (fun hHeld => ?_)
              · exact ⟨by rw [(below_new w4 _).cell (p := ⟨w.heap.size, 0, none⟩) (show w.heap.size < w4.heap.size by omega)]; exact x4, by rw [(below_new w4 _).cell (p := ⟨b, off + k * 2, none⟩) (show b < w4.heap.size by omega)]; exact d4⟩
              clear hK K
              refine wpAnyH_ready (rs := [11]) (by kernel_rfl) (by simp) ?_
              refine AllReadyH.cons rfl (fun K hK => ?_) AllReadyH.nil
              refine app_litv_step rfl (.tmp 61) (.tmp 70) rfl (w.heap.size + 1 + 1) _ _ vs y ([z] ++ applyR ss us s) _ rfl HOW.out rfl rfl rfl hvl (by omega) ?_
              intro v5 w5 hown5 hc5
              obtain ⟨D, L9, e9, rfl, b0, b1, q3⟩ := PutV.app1 HF4.out hown5 hc5 HRS.out
              have HQ9 := Lib.hid q3
              have x5 : w5.cell? ⟨w.heap.size, 0, none⟩ = some (.slice (some ⟨b, off, none⟩) v.n1 v.c1) := by rw [hc5.bel.cell (p := ⟨w.heap.size, 0, none⟩) (by show w.heap.size < _; omega)]; exact x4
              have d5 : w5.cell? ⟨b, off + k * 2, none⟩ = some (.bool y) := by rw [hc5.bel.cell (p := ⟨b, off + k * 2, none⟩) (by show b < _; omega)]; exact d4
              clear q3 hown5 hc5
              refine hK.out _ _ ?_ (fun hHeld => ?_)
              · exact ⟨x5, d5⟩
              clear hK K
              refine takeH (i := 12) (v := ?_) rfl rfl (by kernel_rfl) (by kernel_rfl) (by kernel_rfl) (fun _ _ _ h => h) (by rfl) ?_ hHeld ?_
              rotate_left
              · (intro w hSw; (try dsimp only at hSw); first | (go_simp; done) | (go_simp; with_reducible rfl))
              simp only [Act.put, List.setIfInBounds_toArray, List.set_cons_zero, List.set_cons_succ]
              refine wpAnyH_ready (rs := [13]) (by kernel_rfl) (by simp) ?_
              refine AllReadyH.cons rfl (fun K hK => ?_) AllReadyH.nil
              refine store_slice_step rfl 23 (.tmp 72) (.tmp 71) rfl rfl (w.heap.size + 1 + 1) 0 D L9 e9 _ rfl rfl b0 b1 (by kernel_rfl) ?_
              refine hK.out _ _ ?_ (fun hHeld => ?_)
              · exact ⟨by rw [HQ9.out.ch.bel.cell (p := ⟨w.heap.size, 0, none⟩) (by show w.heap.size < _; omega), ← HF4.out.ch.bel.cell (p := ⟨w.heap.size, 0, none⟩) (by show w.heap.size < _; omega)]; exact x4, by rw [HQ9.out.ch.bel.cell (p := ⟨b, off + k * 2, none⟩) (by show b < _; omega), ← HF4.out.ch.bel.cell (p := ⟨b, off + k * 2, none⟩) (by show b < _; omega)]; exact d4⟩
              clear hK K
              refine wpAnyH_done (by kernel_rfl) ?_ _
              clear b0 b1 x5 d5 x4 d4 u4
              go_wp2
              go_roundw
              case rel => exact ⟨k + 1, by go_num, by omega, HD1, _, by rw [HNX2.out]; exact HQ9.out⟩
              case measure => simp [intOf]; omega
          · rw [hE]
            have u0 := HF2.out.c0
            have u1 := HF2.out.c1
            have u2 := HF2.out.c2
            go_wp2_with (at_builtin
                         refine app_ints rfl (.tmp 53) (.tmp 54) rfl w2.heap.size _ [z] rfl (OwnI.lit w2 [z] (by unfold maxLen; simp)) A4 L4 c4 _ (applyR ss us s) rfl HN4.out (HI4.out.below (below_new w2 _)) (by simp; omega) (by simp) ?_
                         intro v3 w3 hown3 hb3
                         have HV3 := Lib.hid hown3
                         have H23 := Lib.hid ((below_new w2 (.cells #[.int .i64 z] 3)).trans hb3)
                         clear hown3 hb3)
            replace HF2 := Lib.hid (HF2.out.on (H23.out.mono (Nat.le_refl _)))
            replace HBE := Lib.hid (HBE.out.trans (H23.out.mono HBE.out.size))
            replace HRZ : Hid (w3.heap[w.heap.size + 1]? = some (.cells #[.slice none 0 0, .slice none 0 0, .slice none 0 0] 26 (0, 0))) := (HCX.out w3 HF2.out.ch.bel).2.1
            clear u0 u1 u2
            have u0 := HF2.out.c0
            have u1 := HF2.out.c1
            have u2 := HF2.out.c2
            go_wp2_with (first
              | (go_at_call 14; refine (num_any _ _).mono ?_; rintro e w' ⟨rfl, rfl⟩)
              | (refine store_box rfl 26 (.tmp 6) (.tmp 59) rfl rfl (w.heap.size + 1) _ _ rfl rfl HRZ.out rfl (by kernel_rfl) three_one ?_
                 intro w4 hg4 hc4 hs4
                 have HG4 := Lib.hid hg4
                 have HC4 := Lib.hid hc4
                 clear hg4 hc4 hs4))
            refine clause_ret (g := w.heap.size + 1) (x := .bool false) rfl rfl rfl rfl HG4.out rfl ?_
            have hfin : Below w.heap.size w w4 := HBE.out.trans (HC4.out.bel.mono (Nat.le_succ _))
            exact ⟨hfin, Or.inl ⟨⟨u.A1, u.n1, u.c1, u.A2, u.n2, u.c2, none, 0, 0⟩, rfl⟩⟩
          · rw [hE]
            have u0 := HF2.out.c0
            have u1 := HF2.out.c1
            have u2 := HF2.out.c2
            go_wp2_with (at_builtin
                         refine app_ints rfl (.tmp 53) (.tmp 54) rfl w2.heap.size _ [z] rfl (OwnI.lit w2 [z] (by unfold maxLen; simp)) A4 L4 c4 _ (applyR ss us s) rfl HN4.out (HI4.out.below (below_new w2 _)) (by simp; omega) (by simp) ?_
                         intro v3 w3 hown3 hb3
                         have HV3 := Lib.hid hown3
                         have H23 := Lib.hid ((below_new w2 (.cells #[.int .i64 z] 3)).trans hb3)
                         clear hown3 hb3)
            replace HF2 := Lib.hid (HF2.out.on (H23.out.mono (Nat.le_refl _)))
            replace HBE := Lib.hid (HBE.out.trans (H23.out.mono HBE.out.size))
            replace HRZ : Hid (w3.heap[w.heap.size + 1]? = some (.cells #[.slice none 0 0, .slice none 0 0, .slice none 0 0] 26 (0, 0))) := (HCX.out w3 HF2.out.ch.bel).2.1
            clear u0 u1 u2
            have u0 := HF2.out.c0
            have u1 := HF2.out.c1
            have u2 := HF2.out.c2
            go_wp2_with (first
              | (go_at_call 14; refine (num_any _ _).mono ?_; rintro e w' ⟨rfl, rfl⟩)
              | (refine store_box rfl 26 (.tmp 6) (.tmp 59) rfl rfl (w.heap.size + 1) _ _ rfl rfl HRZ.out rfl (by kernel_rfl) three_one ?_
                 intro w4 hg4 hc4 hs4
                 have HG4 := Lib.hid hg4
                 have HC4 := Lib.hid hc4
                 clear hg4 hc4 hs4))
            refine clause_ret (g := w.heap.size + 1) (x := .bool false) rfl rfl rfl rfl HG4.out rfl ?_
            have hfin : Below w.heap.size w w4 := HBE.out.trans (HC4.out.bel.mono (Nat.le_succ _))
            exact ⟨hfin, Or.inl ⟨⟨u.A1, u.n1, u.c1, u.A2, u.n2, u.c2, none, 0, 0⟩, rfl⟩⟩
    · obtain rfl : k = v.n1 := by omega
      have HT1 : Hid (c.lits.take v.n1 = c.lits) := List.take_of_length_le (by rw [L1.out]; exact Nat.le_refl _)
      rw [HT1.out] at HF
      obtain ⟨j1, j2, -⟩ := HCX.out wr HF.out.ch.bel
      have x1 : wr.cell? ⟨w.heap.size, 1, none⟩ = some (.slice v.A2 v.n2 v.c2) := by rw [cell_of_row _ _ 1 _ _ _ j1]; rfl
      clear hbw j1 j2
      go_wp2_with fail
      go_loopw [13] (fun i wr => ∃ k : Nat, i = .int .i64 k ∧ k ≤ v.n2 ∧ Hid (DoneT ss us c.tups k) ∧ ∃ u : Cv, PutV w0 (w.heap.size + 1 + 1) (c.lits.map (putL us)) ((c.tups.take k).map (put us)) u wr) (fun i _ => v.n2 - (intOf i).toNat)
      case atStart => exact ⟨0, rfl, by omega, Lib.hid (p := DoneT ss us c.tups 0) DoneT.zero, _, HF.out⟩
      case round =>
        clear HF x0 x1 hk HT1 HBE HRZ
        obtain ⟨k, rfl, hk, HDT, u, hF⟩ := hrel
        have HF := Lib.hid hF
        obtain ⟨j1, j2, hbw⟩ := HCX.out wr hF.ch.bel
        have HRZ := Lib.hid j2
        have HBE := Lib.hid hbw
        have x0 : wr.cell? ⟨w.heap.size, 1, none⟩ = some (.slice v.A2 v.n2 v.c2) := by rw [cell_of_row _ _ 1 _ _ _ j1]; rfl
        clear hF j1 j2
        by_cases hlt : k < v.n2
        · have hkl : k < c.tups.length := by rw [L2.out]; exact hlt
          obtain ⟨b, off, A3, c3, hA, hbB, d0, hr, -⟩ := (HC.out.tups.below hbw).one hlt
          have HNX := Lib.hid (putRow_next (us := us) hkl)
          rw [hA] at x0
          obtain ⟨r, hrr⟩ : ∃ r, r = rowOf c.tups k := ⟨_, rfl⟩
          have HRK := Lib.hid hrr
          rw [← hrr] at d0 hr HNX
          have HQ := Lib.hid hr.at_
          have hfit := hr.fit
          clear hA hr hrr hbw hkl
          go_wp2_with fail
          refine (apply_any A A1 _ n cp n1 c1 r.length c3 ss us r _ (HS.out.on HBE.out) hn hnc (HB.out.on HBE.out) hn1 (HQ.out.more HBE.out.size) (by unfold maxLen; omega)).mono ?_
          rintro e w2 ⟨v2, rfl, hv2, hb2⟩
          have hsz1 := (Array.getElem?_eq_some_iff.1 HRZ.out).1
          have HF2 := Lib.hid (HF.out.on hb2)
          obtain ⟨j1, j2, hbw2⟩ := HCX.out w2 HF2.out.ch.bel
          replace HRZ := Lib.hid j2
          replace HBE := Lib.hid hbw2
          have hsz2 := hb2.size
          have hgl := HF.out.lt
          have HV2 := Lib.hid (hv2.lower (show w.heap.size + 1 + 1 ≤ wr.heap.size by omega))
          obtain ⟨A4, c4, rfl, -, -, -⟩ := own_slice hv2
          obtain ⟨L4, hL4⟩ : ∃ L4, L4 = (applyR ss us r).length := ⟨_, rfl⟩
          rw [← hL4] at HV2 ⊢
          clear hv2 hb2 hL4 j1 j2 hbw2 x0 d0
          have u0 := HF2.out.c0
          have u1 := HF2.out.c1
          have u2 := HF2.out.c2
          rcases applyE_vals ss us r with hE | hE | hE
          · rw [hE]
            have hap := (applyE_zero hE).2.2
            have HD1 : Hid (DoneT ss us c.tups (k + 1)) := HDT.out.next (by rw [← HRK.out]; exact hE)
            have HNX2 : Hid ((c.tups.take (k + 1)).map (put us) = (c.tups.take k).map (put us) ++ [applyR ss us r]) := by show _ = _; rw [HNX.out, hap]
            obtain ⟨vs, hv1, hvr⟩ := HF2.out.b.vals
            have HOW := Lib.hid hv1
            have hvl : vs.length + 1 ≤ 5864062014634 := by have h1 := hvr.1; rw [List.length_map, List.length_take] at h1; have := Nat.min_le_left k c.tups.length; omega
            have HRS := Lib.hid (hvr.snoc HV2.out)
            clear hE hap hv1 hvr
            go_wp2_with (first
              | (go_at_call 14; refine (num_any _ _).mono ?_; rintro e w' ⟨rfl, rfl⟩)
              | (at_builtin
                 refine app_rowv rfl (.tmp 96) (.tmp 98) rfl (w.heap.size + 1 + 1) _ vs _ rfl HOW.out rfl rfl rfl hvl (by omega) ?_
                 intro v5 w5 hown5 hc5
                 obtain ⟨D, L9, e9, rfl, b0, b1, q3⟩ := PutV.app2 HF2.out hown5 hc5 HRS.out
                 have HQ9 := Lib.hid q3
                 clear q3 hown5 hc5 u0 u1 u2))
            go_roundw
            case rel => exact ⟨k + 1, by go_num, by omega, HD1, _, by rw [HNX2.out]; exact HQ9.out⟩
            case measure => simp [intOf]; omega
          · rw [hE]
            go_wp2_with (first
              | (go_at_call 14; refine (num_any _ _).mono ?_; rintro e w' ⟨rfl, rfl⟩)
              | (refine store_box rfl 26 (.tmp 6) (.tmp 94) rfl rfl (w.heap.size + 1) _ _ rfl rfl HRZ.out rfl (by kernel_rfl) three_one ?_
                 intro w4 hg4 hc4 hs4
                 have HG4 := Lib.hid hg4
                 have HC4 := Lib.hid hc4
                 clear hg4 hc4 hs4))
            refine clause_ret (g := w.heap.size + 1) (x := .bool false) rfl rfl rfl rfl HG4.out rfl ?_
            have hfin : Below w.heap.size w w4 := HBE.out.trans (HC4.out.bel.mono (Nat.le_succ _))
            exact ⟨hfin, Or.inl ⟨⟨u.A1, u.n1, u.c1, u.A2, u.n2, u.c2, none, 0, 0⟩, rfl⟩⟩
          · rw [hE]
            go_wp2_with (first
              | (go_at_call 14; refine (num_any _ _).mono ?_; rintro e w' ⟨rfl, rfl⟩)
              | (refine store_box rfl 26 (.tmp 6) (.tmp 94) rfl rfl (w.heap.size + 1) _ _ rfl rfl HRZ.out rfl (by kernel_rfl) three_one ?_
                 intro w4 hg4 hc4 hs4
                 have HG4 := Lib.hid hg4
                 have HC4 := Lib.hid hc4
                 clear hg4 hc4 hs4))
            refine clause_ret (g := w.heap.size + 1) (x := .bool false) rfl rfl rfl rfl HG4.out rfl ?_
            have hfin : Below w.heap.size w w4 := HBE.out.trans (HC4.out.bel.mono (Nat.le_succ _))
            exact ⟨hfin, Or.inl ⟨⟨u.A1, u.n1, u.c1, u.A2, u.n2, u.c2, none, 0, 0⟩, rfl⟩⟩
        · obtain rfl : k = v.n2 := by omega
          have HT2 : Hid (c.tups.take v.n2 = c.tups) := List.take_of_length_le (by rw [L2.out]; exact Nat.le_refl _)
          rw [HT2.out] at HF
          rw [← L1.out] at HD
          rw [← L2.out] at HDT
          obtain ⟨hfit, hbd⟩ := put_end HD.out HDT.out (by rw [L1.out]; exact f1) (by rw [L2.out]; exact f2)
          have HFI := Lib.hid hfit
          have HBD := Lib.hid hbd
          clear hfit hbd hbw
          go_wp2_with fail
          have hd : Below wr.heap.size wr wr.drew := (Below.refl wr.heap.size wr).drew
          have HF4 := Lib.hid (HF.out.on hd)
          have HBE4 := Lib.hid (HBE.out.trans (hd.mono HBE.out.size))
          refine wp_region_held_drew (S := (fun w' => w'.cell? ⟨w.heap.size + 1 + 1, 0, none⟩ = some (.slice u.A1 u.n1 u.c1) ∧ w'.cell? ⟨w.heap.size + 1 + 1, 1, none⟩ = some (.slice u.A2 u.n2 u.c2) ∧ w'.cell? ⟨w.heap.size + 1 + 1, 2, none⟩ = some (.slice none 0 0))) (by kernel_rfl) ⟨HF.out.c0, HF.out.c1, HF.out.c2⟩ (fun hHeld => ?_)
          obtain ⟨w4, hw4⟩ : ∃ w4, w4 = wr.drew := ⟨_, rfl⟩
          rw [← hw4] at HF4 HBE4 hHeld ⊢
          clear hw4 hd x0
          have u0 := HF4.out.c0
          have u1 := HF4.out.c1
          have u2 := HF4.out.c2
          refine takeH (i := 0) (v := ?_) rfl rfl (by kernel_rfl) (by kernel_rfl) (by kernel_rfl) (fun _ _ _ h => h) (by rfl) ?_ hHeld ?_
          rotate_left
          · (intro w hSw; (try dsimp only at hSw); first | (go_simp; done) | (go_simp; with_reducible rfl))
          simp only [Act.put, List.setIfInBounds_toArray, List.set_cons_zero, List.set_cons_succ]
          refine takeH (i := 1) (v := ?_) rfl rfl (by kernel_rfl) (by kernel_rfl) (by kernel_rfl) (fun _ _ _ h => h) (by rfl) ?_ hHeld ?_
          rotate_left
          · (intro w hSw; (try dsimp only at hSw); first | (go_simp; done) | (go_simp; with_reducible rfl))
          simp only [Act.put, List.setIfInBounds_toArray, List.set_cons_zero, List.set_cons_succ]
          refine takeH (i := 2) (v := ?_) rfl rfl (by kernel_rfl) (by kernel_rfl) (by kernel_rfl) (fun _ _ _ h => h) (by rfl) ?_ hHeld ?_
          rotate_left
          · (intro w hSw; (try dsimp only at hSw); first | (go_simp; done) | (go_simp; with_reducible rfl))
          simp only [Act.put, List.setIfInBounds_toArray, List.set_cons_zero, List.set_cons_succ]
          refine wpAnyH_ready (rs := [3]) (by kernel_rfl) (by simp) ?_
          refine AllReadyH.cons rfl (fun K hK => ?_) AllReadyH.nil
          go_simp
          refine (mayC_any A n cp ss ⟨u.A1, u.n1, u.c1, u.A2, u.n2, u.c2, none, 0, 0⟩ (putD us c) w4 (HS.out.on HBE4.out) hn hnc (HF4.out.clAt HFI.out)).mono ?_
          rintro e w5 ⟨rfl, hb5⟩
          have HF5 := Lib.hid (HF4.out.on hb5)
          have HR5 := Lib.hid (HCX.out w5 HF5.out.ch.bel).2.1
          have HBE5 := Lib.hid (HBE4.out.trans (hb5.mono HBE4.out.size))
          clear hb5
          go_wp2_with fail
          refine hK.out _ _ ?_ (fun hHeld => ?_)
          · exact ⟨HF5.out.c0, HF5.out.c1, HF5.out.c2⟩
          clear hK K
          refine wpAnyH_ready (rs := [4]) (by kernel_rfl) (by simp) ?_
          refine AllReadyH.cons rfl (fun K hK => ?_) AllReadyH.nil
          refine store_box_far_step rfl 26 (.tmp 6) (.tmp 101) rfl rfl (w.heap.size + 1) _ _ rfl rfl HR5.out rfl (by kernel_rfl) three_one ?_
          intro w6 hg6 hc6 hs6
          have HG6 := Lib.hid hg6
          have HC6 := Lib.hid hc6
          have HBL6 := Lib.hid ((hs6 (w.heap.size + 1 + 1) (by omega)).trans HF5.out.blk)
          clear hg6 hc6 hs6
          refine hK.out _ _ ?_ (fun hHeld => ?_)
          · exact ⟨by rw [cell_of_row _ _ 0 _ _ _ HBL6.out]; rfl, by rw [cell_of_row _ _ 1 _ _ _ HBL6.out]; rfl, by rw [cell_of_row _ _ 2 _ _ _ HBL6.out]; rfl⟩
          clear hK K
          refine takeH (i := 5) (v := ?_) rfl rfl (by kernel_rfl) (by kernel_rfl) (by kernel_rfl) (fun _ _ _ h => h) (by rfl) ?_ hHeld ?_
          rotate_left
          · (intro w hSw; (try dsimp only at hSw); first | (go_simp; done) | (go_simp; with_reducible rfl))
          simp only [Act.put, List.setIfInBounds_toArray, List.set_cons_zero, List.set_cons_succ]
          refine wpAnyH_done (by kernel_rfl) ?_ _
          go_wp2
          refine clause_ret (g := w.heap.size + 1) (x := .bool (mayC ss (putD us c))) rfl rfl rfl rfl HG6.out rfl ?_
          have hfin : Below w.heap.size w w6 := HBE5.out.trans (HC6.out.bel.mono (Nat.le_succ _))
          have hown : OwnC w5 w.heap.size (.agg #[.slice u.A1 u.n1 u.c1, .slice u.A2 u.n2 u.c2, .slice none 0 0]) (putD us c) := HF5.out.ownC.lower (by omega)
          exact ⟨hfin, Or.inr ⟨⟨u.A1, u.n1, u.c1, u.A2, u.n2, u.c2, none, 0, 0⟩, rfl, hown.chg HC6.out (by decide) (by decide) (by decide), HFI.out, HBD.out⟩⟩
end Go.Proofs.YtcjpopjcpgipjaaDoor
