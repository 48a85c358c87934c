/-
  Contract of quaereref8: Copy (binds put into a clause).
-/
import Derived.Test.YtpblpndlajoebaaMemMake
import Derived.Test.YtpblpndlajoebaaRefOnce
import Derived.Test.YtpblpndlajoebaaBaseBind
import Derived.Test.YtpblpndlajoebaaPlainBds
namespace Go.Proofs.Ytpblpndlajoebaa
open Go.RowKit Go.Deep
set_option linter.unusedSimpArgs false
set_option linter.unusedVariables false
set_option maxRecDepth 100000

theorem putL_next {bs : List Bd} {ls : List Lt} {k : Nat} (h : k < ls.length) : (ls.take (k + 1)).map (putL bs) = (ls.take k).map (putL bs) ++ [⟨(ltAt ls k).neg, put bs (ltAt ls k).atom⟩] := by
  rw [List.take_add_one, ltAt_get h, List.map_append]; rfl
theorem putR_next {bs : List Bd} {ls : List (List Int)} {k : Nat} (h : k < ls.length) : (ls.take (k + 1)).map (put bs) = (ls.take k).map (put bs) ++ [put bs (rowOf ls k)] := by
  rw [rowOf_next h, List.map_append]; rfl

set_option maxHeartbeats 8000000 in
theorem refCopy_any (A : Option Addr) (n cp : Nat) (bs : List Bd) (v : Cv) (c : Cl) (w : World) (hb : BindsAt w w.heap.size A n bs) (hn : n ≤ 4398046511104) (hv : ∀ i, i < bs.length → 0 < (bdAt bs i).t.length ∧ (bdAt bs i).t.length ≤ 48)
    (hc : ClAt w w.heap.size v c) (hs : Small c) (h24 : ∀ r ∈ rowsC c, ∀ x ∈ r, -24 ≤ x) : Calls Try.prog 76 #[.slice A n cp, v.val] w (ClRet (putC bs c) w) := by
  have l1 := hc.lits.len
  have l2 := hc.tups.len
  have l3 := hc.conds.len
  have q1 : v.n1 ≤ 5 := by rw [← l1]; exact hs.l
  have q2 : v.n2 ≤ 3 := by rw [← l2]; exact hs.t
  have q3 : v.n3 ≤ 3 := by rw [← l3]; exact hs.d
  have HL1 := Lib.hid l1
  have HL2 := Lib.hid l2
  have HL3 := Lib.hid l3
  have HV := Lib.hid hv
  have HSM := Lib.hid hs
  have H24R := Lib.hid h24
  have hb0 := below_new2 w v.obj (.cells #[.slice none 0 0, .slice none 0 0, .slice none 0 0] 26)
  have hx0 := (CBox.new hc).on (below_new _ (.cells #[.slice none 0 0, .slice none 0 0, .slice none 0 0] 26))
  have hz0 := ZBox.new (w.alloc v.obj)
  have hbd0 := hb.on hb0
  have e0 : (w.alloc v.obj).heap.size = w.heap.size + 1 := by simp
  rw [e0] at hz0
  rw [Cv.val_eq]
  unfold Cv.obj at hb0 hx0 hz0 hbd0
  clear hb hc hs hv h24 l1 l2 l3 e0
  go_enter Try.func76, Try.ntmps76
  go_upto_region 1 with (fail)
  obtain ⟨w0, hw0⟩ : ∃ w0, w0 = (w.alloc (.cells #[.slice v.A1 v.n1 v.c1, .slice v.A2 v.n2 v.c2, .slice v.A3 v.n3 v.c3] 26)).alloc (.cells #[.slice none 0 0, .slice none 0 0, .slice none 0 0] 26) := ⟨_, rfl⟩
  have hsz0 : w0.heap.size = w.heap.size + 2 := by rw [hw0]; simp
  rw [← hw0] at hb0 hx0 hz0 hbd0 ⊢
  have HX := Lib.hid hx0
  have HB0 := Lib.hid hb0
  have HZ := Lib.hid hz0
  obtain ⟨B, hB⟩ : ∃ B, B = w.heap.size := ⟨_, rfl⟩
  rw [← hB] at HX HZ hsz0 ⊢
  have HBH := Lib.hid hB
  have hF0 := MkV.start w0
  obtain ⟨g, hg⟩ : ∃ g, g = w0.heap.size := ⟨_, rfl⟩
  have hBg : B < g := by omega
  have hBg1 : B + 1 < g := by omega
  have HG := Lib.hid hg
  have HBO : Hid (∀ wr, Below g w0 wr → BindsAt wr wr.heap.size A n bs) := fun wr q => hbd0.on (hg ▸ q)
  rw [← hg] at hF0
  clear hw0 hb0 hx0 hz0 hbd0 hB hsz0 hg
  go_wp2_with fail
  rw [← HG.out]
  go_loopw [6] (fun i wr => ∃ k : Nat, i = .int .i64 k ∧ k ≤ v.n1 ∧ ∃ u : Cv, MkV w0 g wr.heap.size ⟨(c.lits.take k).map (putL bs), [], []⟩ ⟨u.A1, u.n1, u.c1, none, 0, 0, none, 0, 0⟩ wr) (fun i _ => v.n1 - (intOf i).toNat)
  case atStart => exact ⟨0, rfl, by omega, ⟨none, 0, 0, none, 0, 0, none, 0, 0⟩, hF0⟩
  case round =>
    clear hF0
    obtain ⟨k, rfl, hk, u, hF⟩ := hrel
    have HF := Lib.hid hF
    have HBW := Lib.hid hF.bel
    have HGS := Lib.hid (show g ≤ wr.heap.size from Nat.le_trans hF.gh hF.hs)
    clear hF
    by_cases hlt : k < v.n1
    · have hkl : k < c.lits.length := by rw [HL1.out]; exact hlt
      obtain ⟨b, off, A3, c3, hA, hb, d0, d1, hr⟩ := HX.out.cl.lits.one hlt
      have x0 := HX.out.c0
      rw [hA] at x0
      have X0 := Lib.hid x0
      have HNX := Lib.hid (putL_next (bs := bs) hkl)
      have hm49 : (ltAt c.lits k).atom.length ≤ 1000000 := Nat.le_trans (HSM.out.r _ (lit_row (ltAt_mem hkl))) (by omega)
      have H24 := Lib.hid (fun i (hi : i < (ltAt c.lits k).atom.length) => H24R.out _ (lit_row (ltAt_mem hkl)) _ (intAt_mem hi))
      obtain ⟨p, hp⟩ : ∃ p, p = ltAt c.lits k := ⟨_, rfl⟩
      rw [← hp] at d0 d1 hr HNX hm49 H24
      have D0 := Lib.hid d0
      have D1 := Lib.hid d1
      have HLT : Hid (b < g) := by show b < g; rw [HG.out]; exact hb
      have HRW := Lib.hid (show LitAt w0 w0.heap.size A3 p.atom.length c3 p from hr)
      clear hr hp hkl d0 d1 x0 hA hb

      have hbw := HBW.out
      have x0 : wr.cell? ⟨B, 0, none⟩ = some (.slice (some ⟨b, off, none⟩) v.n1 v.c1) := by rw [hbw.cell (p := ⟨B, 0, none⟩) hBg]; exact X0.out
      have d0 : wr.cell? ⟨b, off + k * 2, none⟩ = some (.bool p.neg) := by rw [hbw.cell (p := ⟨b, off + k * 2, none⟩) HLT.out]; exact D0.out
      have d1 : wr.cell? ⟨b, off + k * 2 + 1, none⟩ = some (.slice A3 p.atom.length c3) := by rw [hbw.cell (p := ⟨b, off + k * 2 + 1, none⟩) HLT.out]; exact D1.out
      have u0 := HF.out.c0
      have hi0 : (0 : Int) ≤ (k : Int) := by omega
      have hi3 : (k : Int) < (v.n1 : Int) := by omega
      clear hbw
      go_wp2_with fail
      refine wp_region_held_drew (S := (fun w' => w'.cell? ⟨B, 0, none⟩ = some (.slice (some ⟨b, off, none⟩) v.n1 v.c1) ∧ w'.cell? ⟨b, off + k * 2, none⟩ = some (.bool p.neg) ∧ w'.cell? ⟨b, off + k * 2 + 1, none⟩ = some (.slice A3 p.atom.length c3))) (by kernel_rfl) ⟨x0, d0, d1⟩ (fun hHeld => ?_)
      have hd : Below wr.heap.size wr wr.drew := (Below.refl wr.heap.size wr).drew
      have HLR := Lib.hid (HRW.out.on (HG.out ▸ (HBW.out.trans (hd.mono HGS.out))))
      have HBD := Lib.hid (HBO.out _ (HBW.out.trans (hd.mono HGS.out)))
      refine takeH (i := 0) (v := ?_) rfl rfl (by kernel_rfl) (by kernel_rfl) (by kernel_rfl) (fun _ _ _ h => h) (by rfl) ?_ hHeld ?_
      rotate_left
      · (intro w hSw; (try dsimp only at hSw); first | (go_simp; done) | (go_simp; with_reducible rfl))
      simp only [Act.put, List.setIfInBounds_toArray, List.set_cons_zero, List.set_cons_succ]
      refine takeH (i := 2) (v := ?_) rfl rfl (by kernel_rfl) (by kernel_rfl) (by kernel_rfl) (fun _ _ _ h => h) (by rfl) ?_ hHeld ?_
      rotate_left
      · (intro w hSw; (try dsimp only at hSw); first | (go_simp; done) | (go_simp; with_reducible rfl))
      simp only [Act.put, List.setIfInBounds_toArray, List.set_cons_zero, List.set_cons_succ]
      refine takeH (i := 3) (v := ?_) rfl rfl (by kernel_rfl) (by kernel_rfl) (by kernel_rfl) (fun _ _ _ h => h) (by rfl) ?_ hHeld ?_
      rotate_left
      · (intro w hSw; (try dsimp only at hSw); first | (go_simp; done) | (go_simp; with_reducible rfl))
      simp only [Act.put, List.setIfInBounds_toArray, List.set_cons_zero, List.set_cons_succ]
      refine takeH (i := 4) (v := ?_) rfl rfl (by kernel_rfl) (by kernel_rfl) (by kernel_rfl) (fun _ _ _ h => h) (by rfl) ?_ hHeld ?_
      rotate_left
      · (intro w hSw; (try dsimp only at hSw); first | (go_simp; done) | (go_simp; with_reducible rfl))
      simp only [Act.put, List.setIfInBounds_toArray, List.set_cons_zero, List.set_cons_succ]
      refine takeH (i := 5) (v := ?_) rfl rfl (by kernel_rfl) (by kernel_rfl) (by kernel_rfl) (fun _ _ _ h => h) (by rfl) ?_ hHeld ?_
      rotate_left
      · (intro w hSw; (try dsimp only at hSw); first | (go_simp; done) | (go_simp; with_reducible rfl))
      simp only [Act.put, List.setIfInBounds_toArray, List.set_cons_zero, List.set_cons_succ]
      refine takeH (i := 6) (v := ?_) rfl rfl (by kernel_rfl) (by kernel_rfl) (by kernel_rfl) (fun _ _ _ h => h) (by rfl) ?_ hHeld ?_
      rotate_left
      · (intro w hSw; (try dsimp only at hSw); first | (go_simp; done) | (go_simp; with_reducible rfl))
      simp only [Act.put, List.setIfInBounds_toArray, List.set_cons_zero, List.set_cons_succ]
      refine takeH (i := 7) (v := ?_) rfl rfl (by kernel_rfl) (by kernel_rfl) (by kernel_rfl) (fun _ _ _ h => h) (by rfl) ?_ hHeld ?_
      rotate_left
      · (intro w hSw; (try dsimp only at hSw); first | (go_simp; done) | (go_simp; with_reducible rfl))
      simp only [Act.put, List.setIfInBounds_toArray, List.set_cons_zero, List.set_cons_succ]
      refine takeH (i := 8) (v := ?_) rfl rfl (by kernel_rfl) (by kernel_rfl) (by kernel_rfl) (fun _ _ _ h => h) (by rfl) ?_ hHeld ?_
      rotate_left
      · (intro w hSw; (try dsimp only at hSw); first | (go_simp; done) | (go_simp; with_reducible rfl))
      simp only [Act.put, List.setIfInBounds_toArray, List.set_cons_zero, List.set_cons_succ]
      refine takeH (i := 9) (v := ?_) rfl rfl (by kernel_rfl) (by kernel_rfl) (by kernel_rfl) (fun _ _ _ h => h) (by rfl) ?_ hHeld ?_
      rotate_left
      · (intro w hSw; (try dsimp only at hSw); first | (go_simp; done) | (go_simp; with_reducible rfl))
      simp only [Act.put, List.setIfInBounds_toArray, List.set_cons_zero, List.set_cons_succ]
      refine takeH (i := 10) (v := ?_) rfl rfl (by kernel_rfl) (by kernel_rfl) (by kernel_rfl) (fun _ _ _ h => h) (by rfl) ?_ hHeld ?_
      rotate_left
      · (intro w hSw; (try dsimp only at hSw); first | (go_simp; done) | (go_simp; with_reducible rfl))
      simp only [Act.put, List.setIfInBounds_toArray, List.set_cons_zero, List.set_cons_succ]
      refine takeH (i := 11) (v := ?_) rfl rfl (by kernel_rfl) (by kernel_rfl) (by kernel_rfl) (fun _ _ _ h => h) (by rfl) ?_ hHeld ?_
      rotate_left
      · (intro w hSw; (try dsimp only at hSw); first | (go_simp; done) | (go_simp; with_reducible rfl))
      simp only [Act.put, List.setIfInBounds_toArray, List.set_cons_zero, List.set_cons_succ]
      refine takeH (i := 12) (v := ?_) rfl rfl (by kernel_rfl) (by kernel_rfl) (by kernel_rfl) (fun _ _ _ h => h) (by rfl) ?_ hHeld ?_
      rotate_left
      · (intro w hSw; (try dsimp only at hSw); first | (go_simp; done) | (go_simp; with_reducible rfl))
      simp only [Act.put, List.setIfInBounds_toArray, List.set_cons_zero, List.set_cons_succ]
      refine takeH (i := 13) (v := ?_) rfl rfl (by kernel_rfl) (by kernel_rfl) (by kernel_rfl) (fun _ _ _ h => h) (by rfl) ?_ hHeld ?_
      rotate_left
      · (intro w hSw; (try dsimp only at hSw); first | (go_simp; done) | (go_simp; with_reducible rfl))
      simp only [Act.put, List.setIfInBounds_toArray, List.set_cons_zero, List.set_cons_succ]
      refine takeH (i := 14) (v := ?_) rfl rfl (by kernel_rfl) (by kernel_rfl) (by kernel_rfl) (fun _ _ _ h => h) (by rfl) ?_ hHeld ?_
      rotate_left
      · (intro w hSw; (try dsimp only at hSw); first | (go_simp; done) | (go_simp; with_reducible rfl))
      simp only [Act.put, List.setIfInBounds_toArray, List.set_cons_zero, List.set_cons_succ]
      refine wpAnyH_ready (rs := [1, 15]) (by kernel_rfl) (by simp) ?_
      refine AllReadyH.cons rfl (fun K hK => ?_) (AllReadyH.cons rfl (fun K hK => ?_) AllReadyH.nil)
      · go_simp
        refine hK.out _ _ ?_ (fun hHeld => ?_)
        · exact ⟨x0, d0, d1⟩
        clear hK K
        refine wpAnyH_ready (rs := [15]) (by kernel_rfl) (by simp) ?_
        refine AllReadyH.cons rfl (fun K hK => ?_) AllReadyH.nil
        go_simp
        refine (refPutW_any A A3 n cp _ c3 bs p.atom _ HBD.out hn HV.out HLR.out.at_ hm49 H24.out).mono ?_
        rintro e w2 ⟨v2, rfl, hv2, hb2⟩
        have hb2' := hd.trans (hb2.mono hd.size)
        have HF2 := Lib.hid (HF.out.on hb2')
        have HBB2 := Lib.hid HF2.out.bel
        have hs2 := hb2'.size
        have hgh := HF2.out.gh
        have hhs := HF.out.hs
        obtain ⟨vs, hv1, hvr⟩ := HF2.out.a.vals
        have HOW := Lib.hid hv1
        have HRS := Lib.hid (hvr.snoc (hv2.lower (show g ≤ wr.drew.heap.size from HGS.out)))
        have hvl : ((c.lits.take k).map (putL bs)).length + 1 ≤ 4398046511104 := by have := HL1.out; simp; omega
        obtain ⟨A4, c4, hv4⟩ := hv2.value
        obtain ⟨L4, hL4⟩ : ∃ L4, L4 = (put bs p.atom).length := ⟨_, rfl⟩
        rw [← hL4] at hv4
        subst hv4
        have HBL := Lib.hid (HBB2.out)
        clear x0 d0 d1 u0
        have x0 : w2.cell? ⟨B, 0, none⟩ = some (.slice (some ⟨b, off, none⟩) v.n1 v.c1) := by rw [HBB2.out.cell (p := ⟨B, 0, none⟩) hBg]; exact X0.out
        have d0 : w2.cell? ⟨b, off + k * 2, none⟩ = some (.bool p.neg) := by rw [HBB2.out.cell (p := ⟨b, off + k * 2, none⟩) HLT.out]; exact D0.out
        have d1 : w2.cell? ⟨b, off + k * 2 + 1, none⟩ = some (.slice A3 p.atom.length c3) := by rw [HBB2.out.cell (p := ⟨b, off + k * 2 + 1, none⟩) HLT.out]; exact D1.out
        have u0 := HF2.out.c0
        clear hv2 hb2 hb2' hv1 hvr hL4
        go_wp2_with fail
        refine hK.out _ _ ?_ (fun hHeld => ?_)
        · exact ⟨x0, d0, d1⟩
        clear hK K
        refine takeH (i := 16) (v := ?_) rfl rfl (by kernel_rfl) (by kernel_rfl) (by kernel_rfl) (fun _ _ _ h => h) (by rfl) ?_ hHeld ?_
        rotate_left
        · (intro w hSw; (try dsimp only at hSw); first | (go_simp; done) | (go_simp; with_reducible rfl))
        simp only [Act.put, List.setIfInBounds_toArray, List.set_cons_zero, List.set_cons_succ]
        refine wpAnyH_ready (rs := [17]) (by kernel_rfl) (by simp) ?_
        refine AllReadyH.cons rfl (fun K hK => ?_) AllReadyH.nil
        go_simp
        have hgw : g ≤ w2.heap.size := by omega
        have HB3 := Lib.hid (HBB2.out.trans ((below_new w2 (.cells #[.bool p.neg, .slice A4 L4 c4] 57)).mono hgw))
        refine hK.out _ _ ?_ (fun hHeld => ?_)
        · exact ⟨by rw [HB3.out.cell (p := ⟨B, 0, none⟩) hBg]; exact X0.out, by rw [HB3.out.cell (p := ⟨b, off + k * 2, none⟩) HLT.out]; exact D0.out, by rw [HB3.out.cell (p := ⟨b, off + k * 2 + 1, none⟩) HLT.out]; exact D1.out⟩
        clear hK K HB3

        refine wpAnyH_ready (rs := [18]) (by kernel_rfl) (by simp) ?_
        refine AllReadyH.cons rfl (fun K hK => ?_) AllReadyH.nil
        refine app_litv_step rfl (.tmp 17) (.tmp 33) rfl g _ _ vs p.neg (put bs p.atom) _ rfl HOW.out rfl rfl rfl hvl (by omega) ?_
        intro v3 w3 hown3 hc3
        have HB3 := Lib.hid (HBB2.out.trans (hc3.bel.mono (show g ≤ g by omega)))
        obtain ⟨D, L9, e9, rfl, b0, b1, hgl2, q3⟩ := MkV.app1 (v := u) HF2.out hown3 hc3 HRS.out
        have HQ := Lib.hid q3
        clear q3 hown3 hc3 hgl2
        refine hK.out _ _ ?_ (fun hHeld => ?_)
        · exact ⟨by rw [HB3.out.cell (p := ⟨B, 0, none⟩) hBg]; exact X0.out, by rw [HB3.out.cell (p := ⟨b, off + k * 2, none⟩) HLT.out]; exact D0.out, by rw [HB3.out.cell (p := ⟨b, off + k * 2 + 1, none⟩) HLT.out]; exact D1.out⟩
        clear hK K
        refine takeH (i := 19) (v := ?_) rfl rfl (by kernel_rfl) (by kernel_rfl) (by kernel_rfl) (fun _ _ _ h => h) (by rfl) ?_ hHeld ?_
        rotate_left
        · (intro w hSw; (try dsimp only at hSw); first | (go_simp; done) | (go_simp; with_reducible rfl))
        simp only [Act.put, List.setIfInBounds_toArray, List.set_cons_zero, List.set_cons_succ]
        refine wpAnyH_ready (rs := [20]) (by kernel_rfl) (by simp) ?_
        refine AllReadyH.cons rfl (fun K hK => ?_) AllReadyH.nil
        refine store_slice_step rfl 23 (.tmp 35) (.tmp 34) rfl rfl g 0 D L9 e9 _ rfl rfl b0 b1 (by kernel_rfl) ?_
        refine hK.out _ _ ?_ (fun hHeld => ?_)
        · exact ⟨by rw [HQ.out.bel.cell (p := ⟨B, 0, none⟩) hBg]; exact X0.out, by rw [HQ.out.bel.cell (p := ⟨b, off + k * 2, none⟩) HLT.out]; exact D0.out, by rw [HQ.out.bel.cell (p := ⟨b, off + k * 2 + 1, none⟩) HLT.out]; exact D1.out⟩
        clear hK K
        refine wpAnyH_done (by kernel_rfl) ?_ _
        clear b0 b1 x0 d0 d1 u0
        go_wp2
        go_roundw
        case rel => exact ⟨k + 1, by go_num, by omega, ⟨D, L9, e9, none, 0, 0, none, 0, 0⟩, by rw [HNX.out]; exact HQ.out⟩
        case measure => simp [intOf]; omega
      · go_simp
        refine (refPutW_any A A3 n cp _ c3 bs p.atom _ HBD.out hn HV.out HLR.out.at_ hm49 H24.out).mono ?_
        rintro e w2 ⟨v2, rfl, hv2, hb2⟩
        have hb2' := hd.trans (hb2.mono hd.size)
        have HF2 := Lib.hid (HF.out.on hb2')
        have HBB2 := Lib.hid HF2.out.bel
        have hs2 := hb2'.size
        have hgh := HF2.out.gh
        have hhs := HF.out.hs
        obtain ⟨vs, hv1, hvr⟩ := HF2.out.a.vals
        have HOW := Lib.hid hv1
        have HRS := Lib.hid (hvr.snoc (hv2.lower (show g ≤ wr.drew.heap.size from HGS.out)))
        have hvl : ((c.lits.take k).map (putL bs)).length + 1 ≤ 4398046511104 := by have := HL1.out; simp; omega
        obtain ⟨A4, c4, hv4⟩ := hv2.value
        obtain ⟨L4, hL4⟩ : ∃ L4, L4 = (put bs p.atom).length := ⟨_, rfl⟩
        rw [← hL4] at hv4
        subst hv4
        have HBL := Lib.hid (HBB2.out)
        clear x0 d0 d1 u0
        have x0 : w2.cell? ⟨B, 0, none⟩ = some (.slice (some ⟨b, off, none⟩) v.n1 v.c1) := by rw [HBB2.out.cell (p := ⟨B, 0, none⟩) hBg]; exact X0.out
        have d0 : w2.cell? ⟨b, off + k * 2, none⟩ = some (.bool p.neg) := by rw [HBB2.out.cell (p := ⟨b, off + k * 2, none⟩) HLT.out]; exact D0.out
        have d1 : w2.cell? ⟨b, off + k * 2 + 1, none⟩ = some (.slice A3 p.atom.length c3) := by rw [HBB2.out.cell (p := ⟨b, off + k * 2 + 1, none⟩) HLT.out]; exact D1.out
        have u0 := HF2.out.c0
        clear hv2 hb2 hb2' hv1 hvr hL4
        go_wp2_with fail
        refine hK.out _ _ ?_ (fun hHeld => ?_)
        · exact ⟨x0, d0, d1⟩
        clear hK K
        refine takeH (i := 16) (v := ?_) rfl rfl (by kernel_rfl) (by kernel_rfl) (by kernel_rfl) (fun _ _ _ h => h) (by rfl) ?_ hHeld ?_
        rotate_left
        · (intro w hSw; (try dsimp only at hSw); first | (go_simp; done) | (go_simp; with_reducible rfl))
        simp only [Act.put, List.setIfInBounds_toArray, List.set_cons_zero, List.set_cons_succ]

        refine wpAnyH_ready (rs := [1, 17]) (by kernel_rfl) (by simp) ?_
        refine AllReadyH.cons rfl (fun K hK => ?_) (AllReadyH.cons rfl (fun K hK => ?_) AllReadyH.nil)
        · go_simp
          refine hK.out _ _ ?_ (fun hHeld => ?_)
          · exact ⟨x0, d0, d1⟩
          clear hK K
          refine wpAnyH_ready (rs := [17]) (by kernel_rfl) (by simp) ?_
          refine AllReadyH.cons rfl (fun K hK => ?_) AllReadyH.nil
          go_simp
          have hgw : g ≤ w2.heap.size := by omega
          have HB3 := Lib.hid (HBB2.out.trans ((below_new w2 (.cells #[.bool p.neg, .slice A4 L4 c4] 57)).mono hgw))
          refine hK.out _ _ ?_ (fun hHeld => ?_)
          · exact ⟨by rw [HB3.out.cell (p := ⟨B, 0, none⟩) hBg]; exact X0.out, by rw [HB3.out.cell (p := ⟨b, off + k * 2, none⟩) HLT.out]; exact D0.out, by rw [HB3.out.cell (p := ⟨b, off + k * 2 + 1, none⟩) HLT.out]; exact D1.out⟩
          clear hK K HB3

          refine wpAnyH_ready (rs := [18]) (by kernel_rfl) (by simp) ?_
          refine AllReadyH.cons rfl (fun K hK => ?_) AllReadyH.nil
          refine app_litv_step rfl (.tmp 17) (.tmp 33) rfl g _ _ vs p.neg (put bs p.atom) _ rfl HOW.out rfl rfl rfl hvl (by omega) ?_
          intro v3 w3 hown3 hc3
          have HB3 := Lib.hid (HBB2.out.trans (hc3.bel.mono (show g ≤ g by omega)))
          obtain ⟨D, L9, e9, rfl, b0, b1, hgl2, q3⟩ := MkV.app1 (v := u) HF2.out hown3 hc3 HRS.out
          have HQ := Lib.hid q3
          clear q3 hown3 hc3 hgl2
          refine hK.out _ _ ?_ (fun hHeld => ?_)
          · exact ⟨by rw [HB3.out.cell (p := ⟨B, 0, none⟩) hBg]; exact X0.out, by rw [HB3.out.cell (p := ⟨b, off + k * 2, none⟩) HLT.out]; exact D0.out, by rw [HB3.out.cell (p := ⟨b, off + k * 2 + 1, none⟩) HLT.out]; exact D1.out⟩
          clear hK K
          refine takeH (i := 19) (v := ?_) rfl rfl (by kernel_rfl) (by kernel_rfl) (by kernel_rfl) (fun _ _ _ h => h) (by rfl) ?_ hHeld ?_
          rotate_left
          · (intro w hSw; (try dsimp only at hSw); first | (go_simp; done) | (go_simp; with_reducible rfl))
          simp only [Act.put, List.setIfInBounds_toArray, List.set_cons_zero, List.set_cons_succ]
          refine wpAnyH_ready (rs := [20]) (by kernel_rfl) (by simp) ?_
          refine AllReadyH.cons rfl (fun K hK => ?_) AllReadyH.nil
          refine store_slice_step rfl 23 (.tmp 35) (.tmp 34) rfl rfl g 0 D L9 e9 _ rfl rfl b0 b1 (by kernel_rfl) ?_
          refine hK.out _ _ ?_ (fun hHeld => ?_)
          · exact ⟨by rw [HQ.out.bel.cell (p := ⟨B, 0, none⟩) hBg]; exact X0.out, by rw [HQ.out.bel.cell (p := ⟨b, off + k * 2, none⟩) HLT.out]; exact D0.out, by rw [HQ.out.bel.cell (p := ⟨b, off + k * 2 + 1, none⟩) HLT.out]; exact D1.out⟩
          clear hK K
          refine wpAnyH_done (by kernel_rfl) ?_ _
          clear b0 b1 x0 d0 d1 u0
          go_wp2
          go_roundw
          case rel => exact ⟨k + 1, by go_num, by omega, ⟨D, L9, e9, none, 0, 0, none, 0, 0⟩, by rw [HNX.out]; exact HQ.out⟩
          case measure => simp [intOf]; omega
        · go_simp
          have hgw : g ≤ w2.heap.size := by omega
          have HB3 := Lib.hid (HBB2.out.trans ((below_new w2 (.cells #[.bool p.neg, .slice A4 L4 c4] 57)).mono hgw))
          refine hK.out _ _ ?_ (fun hHeld => ?_)
          · exact ⟨by rw [HB3.out.cell (p := ⟨B, 0, none⟩) hBg]; exact X0.out, by rw [HB3.out.cell (p := ⟨b, off + k * 2, none⟩) HLT.out]; exact D0.out, by rw [HB3.out.cell (p := ⟨b, off + k * 2 + 1, none⟩) HLT.out]; exact D1.out⟩
          clear hK K HB3

          have HB3 := Lib.hid (HBB2.out.trans ((below_new w2 (.cells #[.bool p.neg, .slice A4 L4 c4] 57)).mono hgw))
          have u3 := (HF2.out.on (below_new w2 (.cells #[.bool p.neg, .slice A4 L4 c4] 57))).c0

          refine wpAnyH_ready (rs := [1]) (by kernel_rfl) (by simp) ?_
          refine AllReadyH.cons rfl (fun K hK => ?_) AllReadyH.nil
          go_simp
          refine hK.out _ _ ?_ (fun hHeld => ?_)
          · exact ⟨by rw [HB3.out.cell (p := ⟨B, 0, none⟩) hBg]; exact X0.out, by rw [HB3.out.cell (p := ⟨b, off + k * 2, none⟩) HLT.out]; exact D0.out, by rw [HB3.out.cell (p := ⟨b, off + k * 2 + 1, none⟩) HLT.out]; exact D1.out⟩
          clear hK K HB3 u3

          refine wpAnyH_ready (rs := [18]) (by kernel_rfl) (by simp) ?_
          refine AllReadyH.cons rfl (fun K hK => ?_) AllReadyH.nil
          refine app_litv_step rfl (.tmp 17) (.tmp 33) rfl g _ _ vs p.neg (put bs p.atom) _ rfl HOW.out rfl rfl rfl hvl (by omega) ?_
          intro v3 w3 hown3 hc3
          have HB3 := Lib.hid (HBB2.out.trans (hc3.bel.mono (show g ≤ g by omega)))
          obtain ⟨D, L9, e9, rfl, b0, b1, hgl2, q3⟩ := MkV.app1 (v := u) HF2.out hown3 hc3 HRS.out
          have HQ := Lib.hid q3
          clear q3 hown3 hc3 hgl2
          refine hK.out _ _ ?_ (fun hHeld => ?_)
          · exact ⟨by rw [HB3.out.cell (p := ⟨B, 0, none⟩) hBg]; exact X0.out, by rw [HB3.out.cell (p := ⟨b, off + k * 2, none⟩) HLT.out]; exact D0.out, by rw [HB3.out.cell (p := ⟨b, off + k * 2 + 1, none⟩) HLT.out]; exact D1.out⟩
          clear hK K
          refine takeH (i := 19) (v := ?_) rfl rfl (by kernel_rfl) (by kernel_rfl) (by kernel_rfl) (fun _ _ _ h => h) (by rfl) ?_ hHeld ?_
          rotate_left
          · (intro w hSw; (try dsimp only at hSw); first | (go_simp; done) | (go_simp; with_reducible rfl))
          simp only [Act.put, List.setIfInBounds_toArray, List.set_cons_zero, List.set_cons_succ]
          refine wpAnyH_ready (rs := [20]) (by kernel_rfl) (by simp) ?_
          refine AllReadyH.cons rfl (fun K hK => ?_) AllReadyH.nil
          refine store_slice_step rfl 23 (.tmp 35) (.tmp 34) rfl rfl g 0 D L9 e9 _ rfl rfl b0 b1 (by kernel_rfl) ?_
          refine hK.out _ _ ?_ (fun hHeld => ?_)
          · exact ⟨by rw [HQ.out.bel.cell (p := ⟨B, 0, none⟩) hBg]; exact X0.out, by rw [HQ.out.bel.cell (p := ⟨b, off + k * 2, none⟩) HLT.out]; exact D0.out, by rw [HQ.out.bel.cell (p := ⟨b, off + k * 2 + 1, none⟩) HLT.out]; exact D1.out⟩
          clear hK K
          refine wpAnyH_done (by kernel_rfl) ?_ _
          clear b0 b1 x0 d0 d1 u0
          go_wp2
          go_roundw
          case rel => exact ⟨k + 1, by go_num, by omega, ⟨D, L9, e9, none, 0, 0, none, 0, 0⟩, by rw [HNX.out]; exact HQ.out⟩
          case measure => simp [intOf]; omega
    · obtain rfl : k = v.n1 := by omega
      have HT1 : Hid (c.lits.take v.n1 = c.lits) := List.take_of_length_le (by rw [HL1.out]; exact Nat.le_refl _)
      rw [HT1.out] at HF
      have x0 : wr.cell? ⟨B, 0, none⟩ = some (.slice v.A1 v.n1 v.c1) := by rw [HBW.out.cell (p := ⟨B, 0, none⟩) hBg]; exact HX.out.c0
      obtain ⟨wz0, hwz⟩ : ∃ wz0, wz0 = wr := ⟨_, rfl⟩
      subst hwz
      obtain ⟨h, hh⟩ : ∃ h, h = wz0.heap.size := ⟨_, rfl⟩
      rw [← hh] at HF
      clear hh
      go_wp2_with fail
      go_loopw [7] (fun i wr => ∃ k : Nat, i = .int .i64 k ∧ k ≤ v.n2 ∧ ∃ u : Cv, MkV w0 g h ⟨c.lits.map (putL bs), (c.tups.take k).map (put bs), []⟩ u wr) (fun i _ => v.n2 - (intOf i).toNat)
      case atStart => exact ⟨0, rfl, by omega, _, HF.out⟩
      case round =>
        clear HF HBW HGS x0 hk
        obtain ⟨k, rfl, hk, u, hF⟩ := hrel
        have HF := Lib.hid hF
        have HBW := Lib.hid hF.bel
        have HGS := Lib.hid (show g ≤ wr.heap.size from Nat.le_trans hF.gh hF.hs)
        clear hF
        by_cases hlt : k < v.n2
        · have hkl : k < c.tups.length := by rw [HL2.out]; exact hlt
          obtain ⟨b, off, A3, c3, hA, hb, d0, hr, -⟩ := HX.out.cl.tups.one hlt
          have x0 := HX.out.c1
          rw [hA] at x0
          have X0 := Lib.hid x0
          have HNX := Lib.hid (putR_next (bs := bs) hkl)
          have hm49 : (rowOf c.tups k).length ≤ 1000000 := Nat.le_trans (HSM.out.r _ (tup_row (rowOf_mem hkl))) (by omega)
          have H24 := Lib.hid (fun i (hi : i < (rowOf c.tups k).length) => H24R.out _ (tup_row (rowOf_mem hkl)) _ (intAt_mem hi))
          obtain ⟨p, hp⟩ : ∃ p, p = rowOf c.tups k := ⟨_, rfl⟩
          rw [← hp] at d0 hr HNX hm49 H24
          have D0 := Lib.hid d0
          have HLT : Hid (b < g) := by show b < g; rw [HG.out]; exact hb
          have HRW := Lib.hid (show RowIn w0 w0.heap.size A3 p.length c3 p from hr)
          clear hr hp hkl d0 x0 hA hb

          have hbw := HBW.out
          have x0 : wr.cell? ⟨B, 1, none⟩ = some (.slice (some ⟨b, off, none⟩) v.n2 v.c2) := by rw [hbw.cell (p := ⟨B, 1, none⟩) hBg]; exact X0.out
          have d0 : wr.cell? ⟨b, off + k, none⟩ = some (.slice A3 p.length c3) := by rw [hbw.cell (p := ⟨b, off + k, none⟩) HLT.out]; exact D0.out
          have u0 := HF.out.c1
          have hi0 : (0 : Int) ≤ (k : Int) := by omega
          have hi3 : (k : Int) < (v.n2 : Int) := by omega
          clear hbw
          go_wp2_with fail
          refine wp_region_held_drew (S := (fun w' => w'.cell? ⟨B, 1, none⟩ = some (.slice (some ⟨b, off, none⟩) v.n2 v.c2) ∧ w'.cell? ⟨b, off + k, none⟩ = some (.slice A3 p.length c3))) (by kernel_rfl) ⟨x0, d0⟩ (fun hHeld => ?_)
          have hd : Below wr.heap.size wr wr.drew := (Below.refl wr.heap.size wr).drew
          have HLR := Lib.hid (HRW.out.on (HG.out ▸ (HBW.out.trans (hd.mono HGS.out))))
          have HBD := Lib.hid (HBO.out _ (HBW.out.trans (hd.mono HGS.out)))
          refine takeH (i := 0) (v := ?_) rfl rfl (by kernel_rfl) (by kernel_rfl) (by kernel_rfl) (fun _ _ _ h => h) (by rfl) ?_ hHeld ?_
          rotate_left
          · (intro w hSw; (try dsimp only at hSw); first | (go_simp; done) | (go_simp; with_reducible rfl))
          simp only [Act.put, List.setIfInBounds_toArray, List.set_cons_zero, List.set_cons_succ]
          refine takeH (i := 2) (v := ?_) rfl rfl (by kernel_rfl) (by kernel_rfl) (by kernel_rfl) (fun _ _ _ h => h) (by rfl) ?_ hHeld ?_
          rotate_left
          · (intro w hSw; (try dsimp only at hSw); first | (go_simp; done) | (go_simp; with_reducible rfl))
          simp only [Act.put, List.setIfInBounds_toArray, List.set_cons_zero, List.set_cons_succ]
          refine takeH (i := 3) (v := ?_) rfl rfl (by kernel_rfl) (by kernel_rfl) (by kernel_rfl) (fun _ _ _ h => h) (by rfl) ?_ hHeld ?_
          rotate_left
          · (intro w hSw; (try dsimp only at hSw); first | (go_simp; done) | (go_simp; with_reducible rfl))
          simp only [Act.put, List.setIfInBounds_toArray, List.set_cons_zero, List.set_cons_succ]
          refine takeH (i := 4) (v := ?_) rfl rfl (by kernel_rfl) (by kernel_rfl) (by kernel_rfl) (fun _ _ _ h => h) (by rfl) ?_ hHeld ?_
          rotate_left
          · (intro w hSw; (try dsimp only at hSw); first | (go_simp; done) | (go_simp; with_reducible rfl))
          simp only [Act.put, List.setIfInBounds_toArray, List.set_cons_zero, List.set_cons_succ]
          refine takeH (i := 5) (v := ?_) rfl rfl (by kernel_rfl) (by kernel_rfl) (by kernel_rfl) (fun _ _ _ h => h) (by rfl) ?_ hHeld ?_
          rotate_left
          · (intro w hSw; (try dsimp only at hSw); first | (go_simp; done) | (go_simp; with_reducible rfl))
          simp only [Act.put, List.setIfInBounds_toArray, List.set_cons_zero, List.set_cons_succ]
          refine takeH (i := 6) (v := ?_) rfl rfl (by kernel_rfl) (by kernel_rfl) (by kernel_rfl) (fun _ _ _ h => h) (by rfl) ?_ hHeld ?_
          rotate_left
          · (intro w hSw; (try dsimp only at hSw); first | (go_simp; done) | (go_simp; with_reducible rfl))
          simp only [Act.put, List.setIfInBounds_toArray, List.set_cons_zero, List.set_cons_succ]
          refine takeH (i := 7) (v := ?_) rfl rfl (by kernel_rfl) (by kernel_rfl) (by kernel_rfl) (fun _ _ _ h => h) (by rfl) ?_ hHeld ?_
          rotate_left
          · (intro w hSw; (try dsimp only at hSw); first | (go_simp; done) | (go_simp; with_reducible rfl))
          simp only [Act.put, List.setIfInBounds_toArray, List.set_cons_zero, List.set_cons_succ]
          refine wpAnyH_ready (rs := [1, 8]) (by kernel_rfl) (by simp) ?_
          refine AllReadyH.cons rfl (fun K hK => ?_) (AllReadyH.cons rfl (fun K hK => ?_) AllReadyH.nil)
          · go_simp
            refine hK.out _ _ ?_ (fun hHeld => ?_)
            · exact ⟨x0, d0⟩
            clear hK K
            refine wpAnyH_ready (rs := [8]) (by kernel_rfl) (by simp) ?_
            refine AllReadyH.cons rfl (fun K hK => ?_) AllReadyH.nil
            go_simp
            refine (refPutW_any A A3 n cp _ c3 bs p _ HBD.out hn HV.out HLR.out.at_ hm49 H24.out).mono ?_
            rintro e w2 ⟨v2, rfl, hv2, hb2⟩
            have hb2' := hd.trans (hb2.mono hd.size)
            have HF2 := Lib.hid (HF.out.on hb2')
            have HBB2 := Lib.hid HF2.out.bel
            have hs2 := hb2'.size
            have hgh := HF2.out.gh
            have hhs := HF.out.hs
            obtain ⟨vs, hv1, hvr⟩ := HF2.out.b.vals
            have HOW := Lib.hid hv1
            have HRS := Lib.hid (hvr.snoc (hv2.lower (show g ≤ wr.drew.heap.size from HGS.out)))
            have hvl : vs.length + 1 ≤ 5864062014634 := by have h1 := hvr.1; simp at h1; omega
            obtain ⟨A4, c4, hv4⟩ := hv2.value
            obtain ⟨L4, hL4⟩ : ∃ L4, L4 = (put bs p).length := ⟨_, rfl⟩
            rw [← hL4] at hv4
            subst hv4
            have HBL := Lib.hid (HBB2.out)
            clear x0 d0 u0
            have x0 : w2.cell? ⟨B, 1, none⟩ = some (.slice (some ⟨b, off, none⟩) v.n2 v.c2) := by rw [HBB2.out.cell (p := ⟨B, 1, none⟩) hBg]; exact X0.out
            have d0 : w2.cell? ⟨b, off + k, none⟩ = some (.slice A3 p.length c3) := by rw [HBB2.out.cell (p := ⟨b, off + k, none⟩) HLT.out]; exact D0.out
            have u0 := HF2.out.c1
            clear hv2 hb2 hb2' hv1 hvr hL4
            go_wp2_with fail
            refine hK.out _ _ ?_ (fun hHeld => ?_)
            · exact ⟨x0, d0⟩
            clear hK K
            refine wpAnyH_ready (rs := [9]) (by kernel_rfl) (by simp) ?_
            refine AllReadyH.cons rfl (fun K hK => ?_) AllReadyH.nil
            go_simp
            have hgw : g ≤ w2.heap.size := by omega
            have HB3 := Lib.hid (HBB2.out.trans ((below_new w2 (.cells #[.slice A4 L4 c4] 33)).mono hgw))
            refine hK.out _ _ ?_ (fun hHeld => ?_)
            · exact ⟨by rw [HB3.out.cell (p := ⟨B, 1, none⟩) hBg]; exact X0.out, by rw [HB3.out.cell (p := ⟨b, off + k, none⟩) HLT.out]; exact D0.out⟩
            clear hK K HB3

            refine wpAnyH_ready (rs := [10]) (by kernel_rfl) (by simp) ?_
            refine AllReadyH.cons rfl (fun K hK => ?_) AllReadyH.nil
            refine app_rowv_step rfl (.tmp 44) (.tmp 52) rfl g _ vs _ rfl HOW.out rfl rfl rfl hvl (by omega) ?_
            intro v3 w3 hown3 hc3
            have HB3 := Lib.hid (HBB2.out.trans (hc3.bel.mono (show g ≤ g by omega)))
            obtain ⟨D, L9, e9, rfl, b0, b1, hgl2, q3⟩ := MkV.app2 HF2.out hown3 hc3 HRS.out
            have HQ := Lib.hid q3
            clear q3 hown3 hc3 hgl2
            refine hK.out _ _ ?_ (fun hHeld => ?_)
            · exact ⟨by rw [HB3.out.cell (p := ⟨B, 1, none⟩) hBg]; exact X0.out, by rw [HB3.out.cell (p := ⟨b, off + k, none⟩) HLT.out]; exact D0.out⟩
            clear hK K
            refine takeH (i := 11) (v := ?_) rfl rfl (by kernel_rfl) (by kernel_rfl) (by kernel_rfl) (fun _ _ _ h => h) (by rfl) ?_ hHeld ?_
            rotate_left
            · (intro w hSw; (try dsimp only at hSw); first | (go_simp; done) | (go_simp; with_reducible rfl))
            simp only [Act.put, List.setIfInBounds_toArray, List.set_cons_zero, List.set_cons_succ]
            refine wpAnyH_ready (rs := [12]) (by kernel_rfl) (by simp) ?_
            refine AllReadyH.cons rfl (fun K hK => ?_) AllReadyH.nil
            refine store_slice_step rfl 24 (.tmp 54) (.tmp 53) rfl rfl g 1 D L9 e9 _ rfl rfl b0 b1 (by kernel_rfl) ?_
            refine hK.out _ _ ?_ (fun hHeld => ?_)
            · exact ⟨by rw [HQ.out.bel.cell (p := ⟨B, 1, none⟩) hBg]; exact X0.out, by rw [HQ.out.bel.cell (p := ⟨b, off + k, none⟩) HLT.out]; exact D0.out⟩
            clear hK K
            refine wpAnyH_done (by kernel_rfl) ?_ _
            clear b0 b1 x0 d0 u0
            go_wp2
            go_roundw
            case rel => exact ⟨k + 1, by go_num, by omega, _, by rw [HNX.out]; exact HQ.out⟩
            case measure => simp [intOf]; omega
          · go_simp
            refine (refPutW_any A A3 n cp _ c3 bs p _ HBD.out hn HV.out HLR.out.at_ hm49 H24.out).mono ?_
            rintro e w2 ⟨v2, rfl, hv2, hb2⟩
            have hb2' := hd.trans (hb2.mono hd.size)
            have HF2 := Lib.hid (HF.out.on hb2')
            have HBB2 := Lib.hid HF2.out.bel
            have hs2 := hb2'.size
            have hgh := HF2.out.gh
            have hhs := HF.out.hs
            obtain ⟨vs, hv1, hvr⟩ := HF2.out.b.vals
            have HOW := Lib.hid hv1
            have HRS := Lib.hid (hvr.snoc (hv2.lower (show g ≤ wr.drew.heap.size from HGS.out)))
            have hvl : vs.length + 1 ≤ 5864062014634 := by have h1 := hvr.1; simp at h1; omega
            obtain ⟨A4, c4, hv4⟩ := hv2.value
            obtain ⟨L4, hL4⟩ : ∃ L4, L4 = (put bs p).length := ⟨_, rfl⟩
            rw [← hL4] at hv4
            subst hv4
            have HBL := Lib.hid (HBB2.out)
            clear x0 d0 u0
            have x0 : w2.cell? ⟨B, 1, none⟩ = some (.slice (some ⟨b, off, none⟩) v.n2 v.c2) := by rw [HBB2.out.cell (p := ⟨B, 1, none⟩) hBg]; exact X0.out
            have d0 : w2.cell? ⟨b, off + k, none⟩ = some (.slice A3 p.length c3) := by rw [HBB2.out.cell (p := ⟨b, off + k, none⟩) HLT.out]; exact D0.out
            have u0 := HF2.out.c1
            clear hv2 hb2 hb2' hv1 hvr hL4
            go_wp2_with fail
            refine hK.out _ _ ?_ (fun hHeld => ?_)
            · exact ⟨x0, d0⟩
            clear hK K

            refine wpAnyH_ready (rs := [1, 9]) (by kernel_rfl) (by simp) ?_
            refine AllReadyH.cons rfl (fun K hK => ?_) (AllReadyH.cons rfl (fun K hK => ?_) AllReadyH.nil)
            · go_simp
              refine hK.out _ _ ?_ (fun hHeld => ?_)
              · exact ⟨x0, d0⟩
              clear hK K
              refine wpAnyH_ready (rs := [9]) (by kernel_rfl) (by simp) ?_
              refine AllReadyH.cons rfl (fun K hK => ?_) AllReadyH.nil
              go_simp
              have hgw : g ≤ w2.heap.size := by omega
              have HB3 := Lib.hid (HBB2.out.trans ((below_new w2 (.cells #[.slice A4 L4 c4] 33)).mono hgw))
              refine hK.out _ _ ?_ (fun hHeld => ?_)
              · exact ⟨by rw [HB3.out.cell (p := ⟨B, 1, none⟩) hBg]; exact X0.out, by rw [HB3.out.cell (p := ⟨b, off + k, none⟩) HLT.out]; exact D0.out⟩
              clear hK K HB3

              refine wpAnyH_ready (rs := [10]) (by kernel_rfl) (by simp) ?_
              refine AllReadyH.cons rfl (fun K hK => ?_) AllReadyH.nil
              refine app_rowv_step rfl (.tmp 44) (.tmp 52) rfl g _ vs _ rfl HOW.out rfl rfl rfl hvl (by omega) ?_
              intro v3 w3 hown3 hc3
              have HB3 := Lib.hid (HBB2.out.trans (hc3.bel.mono (show g ≤ g by omega)))
              obtain ⟨D, L9, e9, rfl, b0, b1, hgl2, q3⟩ := MkV.app2 HF2.out hown3 hc3 HRS.out
              have HQ := Lib.hid q3
              clear q3 hown3 hc3 hgl2
              refine hK.out _ _ ?_ (fun hHeld => ?_)
              · exact ⟨by rw [HB3.out.cell (p := ⟨B, 1, none⟩) hBg]; exact X0.out, by rw [HB3.out.cell (p := ⟨b, off + k, none⟩) HLT.out]; exact D0.out⟩
              clear hK K
              refine takeH (i := 11) (v := ?_) rfl rfl (by kernel_rfl) (by kernel_rfl) (by kernel_rfl) (fun _ _ _ h => h) (by rfl) ?_ hHeld ?_
              rotate_left
              · (intro w hSw; (try dsimp only at hSw); first | (go_simp; done) | (go_simp; with_reducible rfl))
              simp only [Act.put, List.setIfInBounds_toArray, List.set_cons_zero, List.set_cons_succ]
              refine wpAnyH_ready (rs := [12]) (by kernel_rfl) (by simp) ?_
              refine AllReadyH.cons rfl (fun K hK => ?_) AllReadyH.nil
              refine store_slice_step rfl 24 (.tmp 54) (.tmp 53) rfl rfl g 1 D L9 e9 _ rfl rfl b0 b1 (by kernel_rfl) ?_
              refine hK.out _ _ ?_ (fun hHeld => ?_)
              · exact ⟨by rw [HQ.out.bel.cell (p := ⟨B, 1, none⟩) hBg]; exact X0.out, by rw [HQ.out.bel.cell (p := ⟨b, off + k, none⟩) HLT.out]; exact D0.out⟩
              clear hK K
              refine wpAnyH_done (by kernel_rfl) ?_ _
              clear b0 b1 x0 d0 u0
              go_wp2
              go_roundw
              case rel => exact ⟨k + 1, by go_num, by omega, _, by rw [HNX.out]; exact HQ.out⟩
              case measure => simp [intOf]; omega
            · go_simp
              have hgw : g ≤ w2.heap.size := by omega
              have HB3 := Lib.hid (HBB2.out.trans ((below_new w2 (.cells #[.slice A4 L4 c4] 33)).mono hgw))
              refine hK.out _ _ ?_ (fun hHeld => ?_)
              · exact ⟨by rw [HB3.out.cell (p := ⟨B, 1, none⟩) hBg]; exact X0.out, by rw [HB3.out.cell (p := ⟨b, off + k, none⟩) HLT.out]; exact D0.out⟩
              clear hK K HB3

              have HB3 := Lib.hid (HBB2.out.trans ((below_new w2 (.cells #[.slice A4 L4 c4] 33)).mono hgw))
              have u3 := (HF2.out.on (below_new w2 (.cells #[.slice A4 L4 c4] 33))).c1

              refine wpAnyH_ready (rs := [1]) (by kernel_rfl) (by simp) ?_
              refine AllReadyH.cons rfl (fun K hK => ?_) AllReadyH.nil
              go_simp
              refine hK.out _ _ ?_ (fun hHeld => ?_)
              · exact ⟨by rw [HB3.out.cell (p := ⟨B, 1, none⟩) hBg]; exact X0.out, by rw [HB3.out.cell (p := ⟨b, off + k, none⟩) HLT.out]; exact D0.out⟩
              clear hK K HB3 u3

              refine wpAnyH_ready (rs := [10]) (by kernel_rfl) (by simp) ?_
              refine AllReadyH.cons rfl (fun K hK => ?_) AllReadyH.nil
              refine app_rowv_step rfl (.tmp 44) (.tmp 52) rfl g _ vs _ rfl HOW.out rfl rfl rfl hvl (by omega) ?_
              intro v3 w3 hown3 hc3
              have HB3 := Lib.hid (HBB2.out.trans (hc3.bel.mono (show g ≤ g by omega)))
              obtain ⟨D, L9, e9, rfl, b0, b1, hgl2, q3⟩ := MkV.app2 HF2.out hown3 hc3 HRS.out
              have HQ := Lib.hid q3
              clear q3 hown3 hc3 hgl2
              refine hK.out _ _ ?_ (fun hHeld => ?_)
              · exact ⟨by rw [HB3.out.cell (p := ⟨B, 1, none⟩) hBg]; exact X0.out, by rw [HB3.out.cell (p := ⟨b, off + k, none⟩) HLT.out]; exact D0.out⟩
              clear hK K
              refine takeH (i := 11) (v := ?_) rfl rfl (by kernel_rfl) (by kernel_rfl) (by kernel_rfl) (fun _ _ _ h => h) (by rfl) ?_ hHeld ?_
              rotate_left
              · (intro w hSw; (try dsimp only at hSw); first | (go_simp; done) | (go_simp; with_reducible rfl))
              simp only [Act.put, List.setIfInBounds_toArray, List.set_cons_zero, List.set_cons_succ]
              refine wpAnyH_ready (rs := [12]) (by kernel_rfl) (by simp) ?_
              refine AllReadyH.cons rfl (fun K hK => ?_) AllReadyH.nil
              refine store_slice_step rfl 24 (.tmp 54) (.tmp 53) rfl rfl g 1 D L9 e9 _ rfl rfl b0 b1 (by kernel_rfl) ?_
              refine hK.out _ _ ?_ (fun hHeld => ?_)
              · exact ⟨by rw [HQ.out.bel.cell (p := ⟨B, 1, none⟩) hBg]; exact X0.out, by rw [HQ.out.bel.cell (p := ⟨b, off + k, none⟩) HLT.out]; exact D0.out⟩
              clear hK K
              refine wpAnyH_done (by kernel_rfl) ?_ _
              clear b0 b1 x0 d0 u0
              go_wp2
              go_roundw
              case rel => exact ⟨k + 1, by go_num, by omega, _, by rw [HNX.out]; exact HQ.out⟩
              case measure => simp [intOf]; omega
        · obtain rfl : k = v.n2 := by omega
          have HT2 : Hid (c.tups.take v.n2 = c.tups) := List.take_of_length_le (by rw [HL2.out]; exact Nat.le_refl _)
          rw [HT2.out] at HF
          have x1 : wr.cell? ⟨B, 1, none⟩ = some (.slice v.A2 v.n2 v.c2) := by rw [HBW.out.cell (p := ⟨B, 1, none⟩) hBg]; exact HX.out.c1
          obtain ⟨wz1, hwz⟩ : ∃ wz1, wz1 = wr := ⟨_, rfl⟩
          subst hwz
          go_wp2_with fail
          go_loopw [8] (fun i wr => ∃ k : Nat, i = .int .i64 k ∧ k ≤ v.n3 ∧ ∃ u : Cv, MkV w0 g h ⟨c.lits.map (putL bs), c.tups.map (put bs), (c.conds.take k).map (putL bs)⟩ u wr) (fun i _ => v.n3 - (intOf i).toNat)
          case atStart => exact ⟨0, rfl, by omega, _, HF.out⟩
          case round =>
            clear HF HBW HGS x1 hk
            obtain ⟨k, rfl, hk, u, hF⟩ := hrel
            have HF := Lib.hid hF
            have HBW := Lib.hid hF.bel
            have HGS := Lib.hid (show g ≤ wr.heap.size from Nat.le_trans hF.gh hF.hs)
            clear hF
            by_cases hlt : k < v.n3
            · have hkl : k < c.conds.length := by rw [HL3.out]; exact hlt
              obtain ⟨b, off, A3, c3, hA, hb, d0, d1, hr⟩ := HX.out.cl.conds.one hlt
              have x0 := HX.out.c2
              rw [hA] at x0
              have X0 := Lib.hid x0
              have HNX := Lib.hid (putL_next (bs := bs) hkl)
              have hm49 : (ltAt c.conds k).atom.length ≤ 1000000 := Nat.le_trans (HSM.out.r _ (cond_row (ltAt_mem hkl))) (by omega)
              have H24 := Lib.hid (fun i (hi : i < (ltAt c.conds k).atom.length) => H24R.out _ (cond_row (ltAt_mem hkl)) _ (intAt_mem hi))
              obtain ⟨p, hp⟩ : ∃ p, p = ltAt c.conds k := ⟨_, rfl⟩
              rw [← hp] at d0 d1 hr HNX hm49 H24
              have D0 := Lib.hid d0
              have D1 := Lib.hid d1
              have HLT : Hid (b < g) := by show b < g; rw [HG.out]; exact hb
              have HRW := Lib.hid (show LitAt w0 w0.heap.size A3 p.atom.length c3 p from hr)
              clear hr hp hkl d0 d1 x0 hA hb

              have hbw := HBW.out
              have x0 : wr.cell? ⟨B, 2, none⟩ = some (.slice (some ⟨b, off, none⟩) v.n3 v.c3) := by rw [hbw.cell (p := ⟨B, 2, none⟩) hBg]; exact X0.out
              have d0 : wr.cell? ⟨b, off + k * 2, none⟩ = some (.bool p.neg) := by rw [hbw.cell (p := ⟨b, off + k * 2, none⟩) HLT.out]; exact D0.out
              have d1 : wr.cell? ⟨b, off + k * 2 + 1, none⟩ = some (.slice A3 p.atom.length c3) := by rw [hbw.cell (p := ⟨b, off + k * 2 + 1, none⟩) HLT.out]; exact D1.out
              have u0 := HF.out.c2
              have hi0 : (0 : Int) ≤ (k : Int) := by omega
              have hi3 : (k : Int) < (v.n3 : Int) := by omega
              clear hbw
              go_wp2_with fail
              refine wp_region_held_drew (S := (fun w' => w'.cell? ⟨B, 2, none⟩ = some (.slice (some ⟨b, off, none⟩) v.n3 v.c3) ∧ w'.cell? ⟨b, off + k * 2, none⟩ = some (.bool p.neg) ∧ w'.cell? ⟨b, off + k * 2 + 1, none⟩ = some (.slice A3 p.atom.length c3))) (by kernel_rfl) ⟨x0, d0, d1⟩ (fun hHeld => ?_)
              have hd : Below wr.heap.size wr wr.drew := (Below.refl wr.heap.size wr).drew
              have HLR := Lib.hid (HRW.out.on (HG.out ▸ (HBW.out.trans (hd.mono HGS.out))))
              have HBD := Lib.hid (HBO.out _ (HBW.out.trans (hd.mono HGS.out)))
              refine takeH (i := 0) (v := ?_) rfl rfl (by kernel_rfl) (by kernel_rfl) (by kernel_rfl) (fun _ _ _ h => h) (by rfl) ?_ hHeld ?_
              rotate_left
              · (intro w hSw; (try dsimp only at hSw); first | (go_simp; done) | (go_simp; with_reducible rfl))
              simp only [Act.put, List.setIfInBounds_toArray, List.set_cons_zero, List.set_cons_succ]
              refine takeH (i := 2) (v := ?_) rfl rfl (by kernel_rfl) (by kernel_rfl) (by kernel_rfl) (fun _ _ _ h => h) (by rfl) ?_ hHeld ?_
              rotate_left
              · (intro w hSw; (try dsimp only at hSw); first | (go_simp; done) | (go_simp; with_reducible rfl))
              simp only [Act.put, List.setIfInBounds_toArray, List.set_cons_zero, List.set_cons_succ]
              refine takeH (i := 3) (v := ?_) rfl rfl (by kernel_rfl) (by kernel_rfl) (by kernel_rfl) (fun _ _ _ h => h) (by rfl) ?_ hHeld ?_
              rotate_left
              · (intro w hSw; (try dsimp only at hSw); first | (go_simp; done) | (go_simp; with_reducible rfl))
              simp only [Act.put, List.setIfInBounds_toArray, List.set_cons_zero, List.set_cons_succ]
              refine takeH (i := 4) (v := ?_) rfl rfl (by kernel_rfl) (by kernel_rfl) (by kernel_rfl) (fun _ _ _ h => h) (by rfl) ?_ hHeld ?_
              rotate_left
              · (intro w hSw; (try dsimp only at hSw); first | (go_simp; done) | (go_simp; with_reducible rfl))
              simp only [Act.put, List.setIfInBounds_toArray, List.set_cons_zero, List.set_cons_succ]
              refine takeH (i := 5) (v := ?_) rfl rfl (by kernel_rfl) (by kernel_rfl) (by kernel_rfl) (fun _ _ _ h => h) (by rfl) ?_ hHeld ?_
              rotate_left
              · (intro w hSw; (try dsimp only at hSw); first | (go_simp; done) | (go_simp; with_reducible rfl))
              simp only [Act.put, List.setIfInBounds_toArray, List.set_cons_zero, List.set_cons_succ]
              refine takeH (i := 6) (v := ?_) rfl rfl (by kernel_rfl) (by kernel_rfl) (by kernel_rfl) (fun _ _ _ h => h) (by rfl) ?_ hHeld ?_
              rotate_left
              · (intro w hSw; (try dsimp only at hSw); first | (go_simp; done) | (go_simp; with_reducible rfl))
              simp only [Act.put, List.setIfInBounds_toArray, List.set_cons_zero, List.set_cons_succ]
              refine takeH (i := 7) (v := ?_) rfl rfl (by kernel_rfl) (by kernel_rfl) (by kernel_rfl) (fun _ _ _ h => h) (by rfl) ?_ hHeld ?_
              rotate_left
              · (intro w hSw; (try dsimp only at hSw); first | (go_simp; done) | (go_simp; with_reducible rfl))
              simp only [Act.put, List.setIfInBounds_toArray, List.set_cons_zero, List.set_cons_succ]
              refine takeH (i := 8) (v := ?_) rfl rfl (by kernel_rfl) (by kernel_rfl) (by kernel_rfl) (fun _ _ _ h => h) (by rfl) ?_ hHeld ?_
              rotate_left
              · (intro w hSw; (try dsimp only at hSw); first | (go_simp; done) | (go_simp; with_reducible rfl))
              simp only [Act.put, List.setIfInBounds_toArray, List.set_cons_zero, List.set_cons_succ]
              refine takeH (i := 9) (v := ?_) rfl rfl (by kernel_rfl) (by kernel_rfl) (by kernel_rfl) (fun _ _ _ h => h) (by rfl) ?_ hHeld ?_
              rotate_left
              · (intro w hSw; (try dsimp only at hSw); first | (go_simp; done) | (go_simp; with_reducible rfl))
              simp only [Act.put, List.setIfInBounds_toArray, List.set_cons_zero, List.set_cons_succ]
              refine takeH (i := 10) (v := ?_) rfl rfl (by kernel_rfl) (by kernel_rfl) (by kernel_rfl) (fun _ _ _ h => h) (by rfl) ?_ hHeld ?_
              rotate_left
              · (intro w hSw; (try dsimp only at hSw); first | (go_simp; done) | (go_simp; with_reducible rfl))
              simp only [Act.put, List.setIfInBounds_toArray, List.set_cons_zero, List.set_cons_succ]
              refine takeH (i := 11) (v := ?_) rfl rfl (by kernel_rfl) (by kernel_rfl) (by kernel_rfl) (fun _ _ _ h => h) (by rfl) ?_ hHeld ?_
              rotate_left
              · (intro w hSw; (try dsimp only at hSw); first | (go_simp; done) | (go_simp; with_reducible rfl))
              simp only [Act.put, List.setIfInBounds_toArray, List.set_cons_zero, List.set_cons_succ]
              refine takeH (i := 12) (v := ?_) rfl rfl (by kernel_rfl) (by kernel_rfl) (by kernel_rfl) (fun _ _ _ h => h) (by rfl) ?_ hHeld ?_
              rotate_left
              · (intro w hSw; (try dsimp only at hSw); first | (go_simp; done) | (go_simp; with_reducible rfl))
              simp only [Act.put, List.setIfInBounds_toArray, List.set_cons_zero, List.set_cons_succ]
              refine takeH (i := 13) (v := ?_) rfl rfl (by kernel_rfl) (by kernel_rfl) (by kernel_rfl) (fun _ _ _ h => h) (by rfl) ?_ hHeld ?_
              rotate_left
              · (intro w hSw; (try dsimp only at hSw); first | (go_simp; done) | (go_simp; with_reducible rfl))
              simp only [Act.put, List.setIfInBounds_toArray, List.set_cons_zero, List.set_cons_succ]
              refine takeH (i := 14) (v := ?_) rfl rfl (by kernel_rfl) (by kernel_rfl) (by kernel_rfl) (fun _ _ _ h => h) (by rfl) ?_ hHeld ?_
              rotate_left
              · (intro w hSw; (try dsimp only at hSw); first | (go_simp; done) | (go_simp; with_reducible rfl))
              simp only [Act.put, List.setIfInBounds_toArray, List.set_cons_zero, List.set_cons_succ]
              refine wpAnyH_ready (rs := [1, 15]) (by kernel_rfl) (by simp) ?_
              refine AllReadyH.cons rfl (fun K hK => ?_) (AllReadyH.cons rfl (fun K hK => ?_) AllReadyH.nil)
              · go_simp
                refine hK.out _ _ ?_ (fun hHeld => ?_)
                · exact ⟨x0, d0, d1⟩
                clear hK K
                refine wpAnyH_ready (rs := [15]) (by kernel_rfl) (by simp) ?_
                refine AllReadyH.cons rfl (fun K hK => ?_) AllReadyH.nil
                go_simp
                refine (refPutW_any A A3 n cp _ c3 bs p.atom _ HBD.out hn HV.out HLR.out.at_ hm49 H24.out).mono ?_
                rintro e w2 ⟨v2, rfl, hv2, hb2⟩
                have hb2' := hd.trans (hb2.mono hd.size)
                have HF2 := Lib.hid (HF.out.on hb2')
                have HBB2 := Lib.hid HF2.out.bel
                have hs2 := hb2'.size
                have hgh := HF2.out.gh
                have hhs := HF.out.hs
                obtain ⟨vs, hv1, hvr⟩ := HF2.out.d.vals
                have HOW := Lib.hid hv1
                have HRS := Lib.hid (hvr.snoc (hv2.lower (show h ≤ wr.drew.heap.size from by show h ≤ wr.heap.size; omega)))
                have hvl : ((c.conds.take k).map (putL bs)).length + 1 ≤ 4398046511104 := by have := HL3.out; simp; omega
                obtain ⟨A4, c4, hv4⟩ := hv2.value
                obtain ⟨L4, hL4⟩ : ∃ L4, L4 = (put bs p.atom).length := ⟨_, rfl⟩
                rw [← hL4] at hv4
                subst hv4
                have HBL := Lib.hid (HBB2.out)
                clear x0 d0 d1 u0
                have x0 : w2.cell? ⟨B, 2, none⟩ = some (.slice (some ⟨b, off, none⟩) v.n3 v.c3) := by rw [HBB2.out.cell (p := ⟨B, 2, none⟩) hBg]; exact X0.out
                have d0 : w2.cell? ⟨b, off + k * 2, none⟩ = some (.bool p.neg) := by rw [HBB2.out.cell (p := ⟨b, off + k * 2, none⟩) HLT.out]; exact D0.out
                have d1 : w2.cell? ⟨b, off + k * 2 + 1, none⟩ = some (.slice A3 p.atom.length c3) := by rw [HBB2.out.cell (p := ⟨b, off + k * 2 + 1, none⟩) HLT.out]; exact D1.out
                have u0 := HF2.out.c2
                clear hv2 hb2 hb2' hv1 hvr hL4
                go_wp2_with fail
                refine hK.out _ _ ?_ (fun hHeld => ?_)
                · exact ⟨x0, d0, d1⟩
                clear hK K
                refine takeH (i := 16) (v := ?_) rfl rfl (by kernel_rfl) (by kernel_rfl) (by kernel_rfl) (fun _ _ _ h => h) (by rfl) ?_ hHeld ?_
                rotate_left
                · (intro w hSw; (try dsimp only at hSw); first | (go_simp; done) | (go_simp; with_reducible rfl))
                simp only [Act.put, List.setIfInBounds_toArray, List.set_cons_zero, List.set_cons_succ]
                refine wpAnyH_ready (rs := [17]) (by kernel_rfl) (by simp) ?_
                refine AllReadyH.cons rfl (fun K hK => ?_) AllReadyH.nil
                go_simp
                have hgw : g ≤ w2.heap.size := by omega
                have HB3 := Lib.hid (HBB2.out.trans ((below_new w2 (.cells #[.bool p.neg, .slice A4 L4 c4] 57)).mono hgw))
                refine hK.out _ _ ?_ (fun hHeld => ?_)
                · exact ⟨by rw [HB3.out.cell (p := ⟨B, 2, none⟩) hBg]; exact X0.out, by rw [HB3.out.cell (p := ⟨b, off + k * 2, none⟩) HLT.out]; exact D0.out, by rw [HB3.out.cell (p := ⟨b, off + k * 2 + 1, none⟩) HLT.out]; exact D1.out⟩
                clear hK K HB3

                refine wpAnyH_ready (rs := [18]) (by kernel_rfl) (by simp) ?_
                refine AllReadyH.cons rfl (fun K hK => ?_) AllReadyH.nil
                refine app_litv_step rfl (.tmp 63) (.tmp 79) rfl h _ _ vs p.neg (put bs p.atom) _ rfl HOW.out rfl rfl rfl hvl (by omega) ?_
                intro v3 w3 hown3 hc3
                have HB3 := Lib.hid (HBB2.out.trans (hc3.bel.mono (show g ≤ h by omega)))
                obtain ⟨D, L9, e9, rfl, b0, b1, hgl2, q3⟩ := MkV.app3 HF2.out hown3 hc3 HRS.out
                have HQ := Lib.hid q3
                clear q3 hown3 hc3 hgl2
                refine hK.out _ _ ?_ (fun hHeld => ?_)
                · exact ⟨by rw [HB3.out.cell (p := ⟨B, 2, none⟩) hBg]; exact X0.out, by rw [HB3.out.cell (p := ⟨b, off + k * 2, none⟩) HLT.out]; exact D0.out, by rw [HB3.out.cell (p := ⟨b, off + k * 2 + 1, none⟩) HLT.out]; exact D1.out⟩
                clear hK K
                refine takeH (i := 19) (v := ?_) rfl rfl (by kernel_rfl) (by kernel_rfl) (by kernel_rfl) (fun _ _ _ h => h) (by rfl) ?_ hHeld ?_
                rotate_left
                · (intro w hSw; (try dsimp only at hSw); first | (go_simp; done) | (go_simp; with_reducible rfl))
                simp only [Act.put, List.setIfInBounds_toArray, List.set_cons_zero, List.set_cons_succ]
                refine wpAnyH_ready (rs := [20]) (by kernel_rfl) (by simp) ?_
                refine AllReadyH.cons rfl (fun K hK => ?_) AllReadyH.nil
                refine store_slice_step rfl 23 (.tmp 81) (.tmp 80) rfl rfl g 2 D L9 e9 _ rfl rfl b0 b1 (by kernel_rfl) ?_
                refine hK.out _ _ ?_ (fun hHeld => ?_)
                · exact ⟨by rw [HQ.out.bel.cell (p := ⟨B, 2, none⟩) hBg]; exact X0.out, by rw [HQ.out.bel.cell (p := ⟨b, off + k * 2, none⟩) HLT.out]; exact D0.out, by rw [HQ.out.bel.cell (p := ⟨b, off + k * 2 + 1, none⟩) HLT.out]; exact D1.out⟩
                clear hK K
                refine wpAnyH_done (by kernel_rfl) ?_ _
                clear b0 b1 x0 d0 d1 u0
                go_wp2
                go_roundw
                case rel => exact ⟨k + 1, by go_num, by omega, _, by rw [HNX.out]; exact HQ.out⟩
                case measure => simp [intOf]; omega
              · go_simp
                refine (refPutW_any A A3 n cp _ c3 bs p.atom _ HBD.out hn HV.out HLR.out.at_ hm49 H24.out).mono ?_
                rintro e w2 ⟨v2, rfl, hv2, hb2⟩
                have hb2' := hd.trans (hb2.mono hd.size)
                have HF2 := Lib.hid (HF.out.on hb2')
                have HBB2 := Lib.hid HF2.out.bel
                have hs2 := hb2'.size
                have hgh := HF2.out.gh
                have hhs := HF.out.hs
                obtain ⟨vs, hv1, hvr⟩ := HF2.out.d.vals
                have HOW := Lib.hid hv1
                have HRS := Lib.hid (hvr.snoc (hv2.lower (show h ≤ wr.drew.heap.size from by show h ≤ wr.heap.size; omega)))
                have hvl : ((c.conds.take k).map (putL bs)).length + 1 ≤ 4398046511104 := by have := HL3.out; simp; omega
                obtain ⟨A4, c4, hv4⟩ := hv2.value
                obtain ⟨L4, hL4⟩ : ∃ L4, L4 = (put bs p.atom).length := ⟨_, rfl⟩
                rw [← hL4] at hv4
                subst hv4
                have HBL := Lib.hid (HBB2.out)
                clear x0 d0 d1 u0
                have x0 : w2.cell? ⟨B, 2, none⟩ = some (.slice (some ⟨b, off, none⟩) v.n3 v.c3) := by rw [HBB2.out.cell (p := ⟨B, 2, none⟩) hBg]; exact X0.out
                have d0 : w2.cell? ⟨b, off + k * 2, none⟩ = some (.bool p.neg) := by rw [HBB2.out.cell (p := ⟨b, off + k * 2, none⟩) HLT.out]; exact D0.out
                have d1 : w2.cell? ⟨b, off + k * 2 + 1, none⟩ = some (.slice A3 p.atom.length c3) := by rw [HBB2.out.cell (p := ⟨b, off + k * 2 + 1, none⟩) HLT.out]; exact D1.out
                have u0 := HF2.out.c2
                clear hv2 hb2 hb2' hv1 hvr hL4
                go_wp2_with fail
                refine hK.out _ _ ?_ (fun hHeld => ?_)
                · exact ⟨x0, d0, d1⟩
                clear hK K
                refine takeH (i := 16) (v := ?_) rfl rfl (by kernel_rfl) (by kernel_rfl) (by kernel_rfl) (fun _ _ _ h => h) (by rfl) ?_ hHeld ?_
                rotate_left
                · (intro w hSw; (try dsimp only at hSw); first | (go_simp; done) | (go_simp; with_reducible rfl))
                simp only [Act.put, List.setIfInBounds_toArray, List.set_cons_zero, List.set_cons_succ]

                refine wpAnyH_ready (rs := [1, 17]) (by kernel_rfl) (by simp) ?_
                refine AllReadyH.cons rfl (fun K hK => ?_) (AllReadyH.cons rfl (fun K hK => ?_) AllReadyH.nil)
                · go_simp
                  refine hK.out _ _ ?_ (fun hHeld => ?_)
                  · exact ⟨x0, d0, d1⟩
                  clear hK K
                  refine wpAnyH_ready (rs := [17]) (by kernel_rfl) (by simp) ?_
                  refine AllReadyH.cons rfl (fun K hK => ?_) AllReadyH.nil
                  go_simp
                  have hgw : g ≤ w2.heap.size := by omega
                  have HB3 := Lib.hid (HBB2.out.trans ((below_new w2 (.cells #[.bool p.neg, .slice A4 L4 c4] 57)).mono hgw))
                  refine hK.out _ _ ?_ (fun hHeld => ?_)
                  · exact ⟨by rw [HB3.out.cell (p := ⟨B, 2, none⟩) hBg]; exact X0.out, by rw [HB3.out.cell (p := ⟨b, off + k * 2, none⟩) HLT.out]; exact D0.out, by rw [HB3.out.cell (p := ⟨b, off + k * 2 + 1, none⟩) HLT.out]; exact D1.out⟩
                  clear hK K HB3

                  refine wpAnyH_ready (rs := [18]) (by kernel_rfl) (by simp) ?_
                  refine AllReadyH.cons rfl (fun K hK => ?_) AllReadyH.nil
                  refine app_litv_step rfl (.tmp 63) (.tmp 79) rfl h _ _ vs p.neg (put bs p.atom) _ rfl HOW.out rfl rfl rfl hvl (by omega) ?_
                  intro v3 w3 hown3 hc3
                  have HB3 := Lib.hid (HBB2.out.trans (hc3.bel.mono (show g ≤ h by omega)))
                  obtain ⟨D, L9, e9, rfl, b0, b1, hgl2, q3⟩ := MkV.app3 HF2.out hown3 hc3 HRS.out
                  have HQ := Lib.hid q3
                  clear q3 hown3 hc3 hgl2
                  refine hK.out _ _ ?_ (fun hHeld => ?_)
                  · exact ⟨by rw [HB3.out.cell (p := ⟨B, 2, none⟩) hBg]; exact X0.out, by rw [HB3.out.cell (p := ⟨b, off + k * 2, none⟩) HLT.out]; exact D0.out, by rw [HB3.out.cell (p := ⟨b, off + k * 2 + 1, none⟩) HLT.out]; exact D1.out⟩
                  clear hK K
                  refine takeH (i := 19) (v := ?_) rfl rfl (by kernel_rfl) (by kernel_rfl) (by kernel_rfl) (fun _ _ _ h => h) (by rfl) ?_ hHeld ?_
                  rotate_left
                  · (intro w hSw; (try dsimp only at hSw); first | (go_simp; done) | (go_simp; with_reducible rfl))
                  simp only [Act.put, List.setIfInBounds_toArray, List.set_cons_zero, List.set_cons_succ]
                  refine wpAnyH_ready (rs := [20]) (by kernel_rfl) (by simp) ?_
                  refine AllReadyH.cons rfl (fun K hK => ?_) AllReadyH.nil
                  refine store_slice_step rfl 23 (.tmp 81) (.tmp 80) rfl rfl g 2 D L9 e9 _ rfl rfl b0 b1 (by kernel_rfl) ?_
                  refine hK.out _ _ ?_ (fun hHeld => ?_)
                  · exact ⟨by rw [HQ.out.bel.cell (p := ⟨B, 2, none⟩) hBg]; exact X0.out, by rw [HQ.out.bel.cell (p := ⟨b, off + k * 2, none⟩) HLT.out]; exact D0.out, by rw [HQ.out.bel.cell (p := ⟨b, off + k * 2 + 1, none⟩) HLT.out]; exact D1.out⟩
                  clear hK K
                  refine wpAnyH_done (by kernel_rfl) ?_ _
                  clear b0 b1 x0 d0 d1 u0
                  go_wp2
                  go_roundw
                  case rel => exact ⟨k + 1, by go_num, by omega, _, by rw [HNX.out]; exact HQ.out⟩
                  case measure => simp [intOf]; omega
                · go_simp
                  have hgw : g ≤ w2.heap.size := by omega
                  have HB3 := Lib.hid (HBB2.out.trans ((below_new w2 (.cells #[.bool p.neg, .slice A4 L4 c4] 57)).mono hgw))
                  refine hK.out _ _ ?_ (fun hHeld => ?_)
                  · exact ⟨by rw [HB3.out.cell (p := ⟨B, 2, none⟩) hBg]; exact X0.out, by rw [HB3.out.cell (p := ⟨b, off + k * 2, none⟩) HLT.out]; exact D0.out, by rw [HB3.out.cell (p := ⟨b, off + k * 2 + 1, none⟩) HLT.out]; exact D1.out⟩
                  clear hK K HB3

                  have HB3 := Lib.hid (HBB2.out.trans ((below_new w2 (.cells #[.bool p.neg, .slice A4 L4 c4] 57)).mono hgw))
                  have u3 := (HF2.out.on (below_new w2 (.cells #[.bool p.neg, .slice A4 L4 c4] 57))).c2

                  refine wpAnyH_ready (rs := [1]) (by kernel_rfl) (by simp) ?_
                  refine AllReadyH.cons rfl (fun K hK => ?_) AllReadyH.nil
                  go_simp
                  refine hK.out _ _ ?_ (fun hHeld => ?_)
                  · exact ⟨by rw [HB3.out.cell (p := ⟨B, 2, none⟩) hBg]; exact X0.out, by rw [HB3.out.cell (p := ⟨b, off + k * 2, none⟩) HLT.out]; exact D0.out, by rw [HB3.out.cell (p := ⟨b, off + k * 2 + 1, none⟩) HLT.out]; exact D1.out⟩
                  clear hK K HB3 u3

                  refine wpAnyH_ready (rs := [18]) (by kernel_rfl) (by simp) ?_
                  refine AllReadyH.cons rfl (fun K hK => ?_) AllReadyH.nil
                  refine app_litv_step rfl (.tmp 63) (.tmp 79) rfl h _ _ vs p.neg (put bs p.atom) _ rfl HOW.out rfl rfl rfl hvl (by omega) ?_
                  intro v3 w3 hown3 hc3
                  have HB3 := Lib.hid (HBB2.out.trans (hc3.bel.mono (show g ≤ h by omega)))
                  obtain ⟨D, L9, e9, rfl, b0, b1, hgl2, q3⟩ := MkV.app3 HF2.out hown3 hc3 HRS.out
                  have HQ := Lib.hid q3
                  clear q3 hown3 hc3 hgl2
                  refine hK.out _ _ ?_ (fun hHeld => ?_)
                  · exact ⟨by rw [HB3.out.cell (p := ⟨B, 2, none⟩) hBg]; exact X0.out, by rw [HB3.out.cell (p := ⟨b, off + k * 2, none⟩) HLT.out]; exact D0.out, by rw [HB3.out.cell (p := ⟨b, off + k * 2 + 1, none⟩) HLT.out]; exact D1.out⟩
                  clear hK K
                  refine takeH (i := 19) (v := ?_) rfl rfl (by kernel_rfl) (by kernel_rfl) (by kernel_rfl) (fun _ _ _ h => h) (by rfl) ?_ hHeld ?_
                  rotate_left
                  · (intro w hSw; (try dsimp only at hSw); first | (go_simp; done) | (go_simp; with_reducible rfl))
                  simp only [Act.put, List.setIfInBounds_toArray, List.set_cons_zero, List.set_cons_succ]
                  refine wpAnyH_ready (rs := [20]) (by kernel_rfl) (by simp) ?_
                  refine AllReadyH.cons rfl (fun K hK => ?_) AllReadyH.nil
                  refine store_slice_step rfl 23 (.tmp 81) (.tmp 80) rfl rfl g 2 D L9 e9 _ rfl rfl b0 b1 (by kernel_rfl) ?_
                  refine hK.out _ _ ?_ (fun hHeld => ?_)
                  · exact ⟨by rw [HQ.out.bel.cell (p := ⟨B, 2, none⟩) hBg]; exact X0.out, by rw [HQ.out.bel.cell (p := ⟨b, off + k * 2, none⟩) HLT.out]; exact D0.out, by rw [HQ.out.bel.cell (p := ⟨b, off + k * 2 + 1, none⟩) HLT.out]; exact D1.out⟩
                  clear hK K
                  refine wpAnyH_done (by kernel_rfl) ?_ _
                  clear b0 b1 x0 d0 d1 u0
                  go_wp2
                  go_roundw
                  case rel => exact ⟨k + 1, by go_num, by omega, _, by rw [HNX.out]; exact HQ.out⟩
                  case measure => simp [intOf]; omega
            · obtain rfl : k = v.n3 := by omega
              have HT3 : Hid (c.conds.take v.n3 = c.conds) := List.take_of_length_le (by rw [HL3.out]; exact Nat.le_refl _)
              rw [HT3.out] at HF
              have x2 : wr.cell? ⟨B, 2, none⟩ = some (.slice v.A3 v.n3 v.c3) := by rw [HBW.out.cell (p := ⟨B, 2, none⟩) hBg]; exact HX.out.c2
              have u0 := HF.out.c0
              have u1 := HF.out.c1
              have u2 := HF.out.c2
              have HZ2 : Hid (wr.heap[B + 1]? = some (.cells #[.slice none 0 0, .slice none 0 0, .slice none 0 0] 26 (0, 0))) := by show _ = _; rw [HBW.out.block (B + 1) hBg1]; exact HZ.out.z
              go_wp2_with (refine store_box rfl 26 (.tmp 4) (.tmp 82) rfl rfl (B + 1) _ _ rfl rfl HZ2.out rfl (by kernel_rfl) three_one ?_
                           intro w4 hg4 hc4 hs4
                           have HG4 := Lib.hid hg4
                           have HC4 := Lib.hid hc4
                           clear hg4 hc4 hs4)
              refine bodyPost_ret (results_cell_row rfl _ _ (B + 1) _ _ _ _ rfl HG4.out Try.underlying26 rfl (by kernel_rfl)) rfl ?_
              exact ⟨_, rfl, (Cv.val_eq u ▸ HF.out.own).lower (by have := HBH.out; omega) |>.chg HC4.out (by decide) (by decide) (by decide), (HB0.out.trans (HBW.out.mono (by have := HBH.out; omega))).trans (HC4.out.bel.mono (by have := HBH.out; omega))⟩
end Go.Proofs.Ytpblpndlajoebaa
