/-
  Contracts of quaerelaw0: CopyLits, CopyRows, CopyClause, told with the values of the rows, each of which lies in a block of its own.
-/
import Derived.Test.YtpblpndlajoebaaClauseNorm
import Derived.Test.YtpblpndlajoebaaHelpClause
namespace Go.Proofs.Ytpblpndlajoebaa
open Go.RowKit Go.Deep
set_option linter.unusedSimpArgs false
set_option linter.unusedVariables false
set_option maxRecDepth 100000

def CopyLA (ls : List Lt) (w : World) (e : Ending) (w' : World) : Prop := ∃ v vs, e = .returned v ∧ OwnLv w' w.heap.size v ls vs ∧ Rws w' w.heap.size vs (ls.map Lt.atom) ∧ Apart vs ∧ Below w.heap.size w w'
def CopyRA (ts : List (List Int)) (w : World) (e : Ending) (w' : World) : Prop := ∃ v vs, e = .returned v ∧ OwnR w' w.heap.size v vs ∧ Rws w' w.heap.size vs ts ∧ Apart vs ∧ Below w.heap.size w w'
def CopyCA (c : Cl) (w : World) (e : Ending) (w' : World) : Prop := ∃ v1 v2 v3 vs1 vs2 vs3, e = .returned (.agg #[v1, v2, v3]) ∧ OwnLv w' w.heap.size v1 c.lits vs1 ∧ OwnR w' w.heap.size v2 vs2 ∧ OwnLv w' w.heap.size v3 c.conds vs3 ∧ Rws w' w.heap.size (vs1 ++ vs2 ++ vs3) (rowsC c) ∧ Apart (vs1 ++ vs2 ++ vs3) ∧ (∀ g, v1.ownBlock = some g → v3.ownBlock ≠ some g) ∧ Below w.heap.size w w'
set_option maxHeartbeats 2000000 in
theorem copyLitsA_any (A : Option Addr) (n c : Nat) (bs : List Lt) (w : World) (h : LitsAt w w.heap.size A n bs) (hn : n ≤ 4398046511104) :
    Calls Try.prog 31 #[.slice A n c] w (CopyLA bs w) := by
  have HS := Lib.hid h
  have HL := Lib.hid h.len
  clear h
  go_enter Try.func31, Try.ntmps31
  go_wp2
  go_loopw [3, 4] (fun q i wr => ∃ (k : Nat) (vs : List Value), i = .int .i64 k ∧ k ≤ n ∧ OwnLv wr w.heap.size q (bs.take k) vs ∧ Rws wr w.heap.size vs ((bs.take k).map Lt.atom) ∧ Apart vs ∧ Below w.heap.size w wr) (fun _ i _ => n - (intOf i).toNat)
  case atStart => exact ⟨0, [], rfl, by omega, OwnLv.nil_, Rws.nil_, Apart.nil_, Below.refl _ _⟩
  case round =>
    obtain ⟨k, vs, rfl, hk, hown, hrw, hap, hbw⟩ := hrel
    have HRW := Lib.hid hrw
    have HAP := Lib.hid hap
    have HBW := Lib.hid hbw
    have HOWN := Lib.hid hown
    have hsz := hbw.size
    clear hbw hown hrw hap
    by_cases hlt : k < n
    · have hkl : k < bs.length := by rw [HL.out]; exact hlt
      obtain ⟨b, off, rfl, hb, hc⟩ := HS.out.at_ (by omega)
      obtain ⟨c0, A3, c3, d0, _, i3'⟩ := hc k hlt
      rw [← HBW.out.cell (p := ⟨b, _, none⟩) hb] at c0 d0
      have i3 := i3'.on HBW.out
      have hfit := HS.out.fit k hlt
      have HTK : Hid (bs.take (k + 1) = bs.take k ++ [⟨(ltAt bs k).neg, (ltAt bs k).atom⟩]) := by
        show bs.take (k + 1) = _
        rw [List.take_add_one, ltAt_get hkl]; rfl
      obtain ⟨bd, hbd⟩ : ∃ bd, bd = ltAt bs k := ⟨_, rfl⟩
      rw [← hbd] at c0 d0 i3 hfit HTK
      have HI3 := Lib.hid i3
      have hi0 : (0 : Int) ≤ (k : Int) := by omega
      have hi3 : (k : Int) < (n : Int) := by omega
      have htl : (bs.take k).length + 1 ≤ 4398046511104 := by simp; omega
      clear hc i3 i3' hbd hkl
      go_wp2_with fail
      refine wp_region_held_drew (S := (fun w' => w'.cell? ⟨b, off + k * 2, none⟩ = some (.bool bd.neg) ∧ w'.cell? ⟨b, off + k * 2 + 1, none⟩ = some (.slice A3 bd.atom.length c3))) (by kernel_rfl) ⟨c0, d0⟩ (fun hHeld => ?_)
      refine takeH (i := 0) (v := ?_) rfl rfl (by kernel_rfl) (by kernel_rfl) (by kernel_rfl) (fun _ _ _ h => h) (by rfl) ?_ hHeld ?_
      rotate_left
      · (intro w hSw; (try dsimp only at hSw); first | (go_simp; done) | (go_simp; with_reducible rfl))
      simp only [Act.put, List.setIfInBounds_toArray, List.set_cons_zero, List.set_cons_succ]
      refine takeH (i := 1) (v := ?_) rfl rfl (by kernel_rfl) (by kernel_rfl) (by kernel_rfl) (fun _ _ _ h => h) (by rfl) ?_ hHeld ?_
      rotate_left
      · (intro w hSw; (try dsimp only at hSw); first | (go_simp; done) | (go_simp; with_reducible rfl))
      simp only [Act.put, List.setIfInBounds_toArray, List.set_cons_zero, List.set_cons_succ]
      refine takeH (i := 2) (v := ?_) rfl rfl (by kernel_rfl) (by kernel_rfl) (by kernel_rfl) (fun _ _ _ h => h) (by rfl) ?_ hHeld ?_
      rotate_left
      · (intro w hSw; (try dsimp only at hSw); first | (go_simp; done) | (go_simp; with_reducible rfl))
      simp only [Act.put, List.setIfInBounds_toArray, List.set_cons_zero, List.set_cons_succ]
      refine takeH (i := 3) (v := ?_) rfl rfl (by kernel_rfl) (by kernel_rfl) (by kernel_rfl) (fun _ _ _ h => h) (by rfl) ?_ hHeld ?_
      rotate_left
      · (intro w hSw; (try dsimp only at hSw); first | (go_simp; done) | (go_simp; with_reducible rfl))
      simp only [Act.put, List.setIfInBounds_toArray, List.set_cons_zero, List.set_cons_succ]
      refine takeH (i := 4) (v := ?_) rfl rfl (by kernel_rfl) (by kernel_rfl) (by kernel_rfl) (fun _ _ _ h => h) (by rfl) ?_ hHeld ?_
      rotate_left
      · (intro w hSw; (try dsimp only at hSw); first | (go_simp; done) | (go_simp; with_reducible rfl))
      simp only [Act.put, List.setIfInBounds_toArray, List.set_cons_zero, List.set_cons_succ]
      refine takeH (i := 5) (v := ?_) rfl rfl (by kernel_rfl) (by kernel_rfl) (by kernel_rfl) (fun _ _ _ h => h) (by rfl) ?_ hHeld ?_
      rotate_left
      · (intro w hSw; (try dsimp only at hSw); first | (go_simp; done) | (go_simp; with_reducible rfl))
      simp only [Act.put, List.setIfInBounds_toArray, List.set_cons_zero, List.set_cons_succ]
      refine takeH (i := 6) (v := ?_) rfl rfl (by kernel_rfl) (by kernel_rfl) (by kernel_rfl) (fun _ _ _ h => h) (by rfl) ?_ hHeld ?_
      rotate_left
      · (intro w hSw; (try dsimp only at hSw); first | (go_simp; done) | (go_simp; with_reducible rfl))
      simp only [Act.put, List.setIfInBounds_toArray, List.set_cons_zero, List.set_cons_succ]
      refine takeH (i := 7) (v := ?_) rfl rfl (by kernel_rfl) (by kernel_rfl) (by kernel_rfl) (fun _ _ _ h => h) (by rfl) ?_ hHeld ?_
      rotate_left
      · (intro w hSw; (try dsimp only at hSw); first | (go_simp; done) | (go_simp; with_reducible rfl))
      simp only [Act.put, List.setIfInBounds_toArray, List.set_cons_zero, List.set_cons_succ]
      refine takeH (i := 8) (v := ?_) rfl rfl (by kernel_rfl) (by kernel_rfl) (by kernel_rfl) (fun _ _ _ h => h) (by rfl) ?_ hHeld ?_
      rotate_left
      · (intro w hSw; (try dsimp only at hSw); first | (go_simp; done) | (go_simp; with_reducible rfl))
      simp only [Act.put, List.setIfInBounds_toArray, List.set_cons_zero, List.set_cons_succ]
      refine takeH (i := 9) (v := ?_) rfl rfl (by kernel_rfl) (by kernel_rfl) (by kernel_rfl) (fun _ _ _ h => h) (by rfl) ?_ hHeld ?_
      rotate_left
      · (intro w hSw; (try dsimp only at hSw); first | (go_simp; done) | (go_simp; with_reducible rfl))
      simp only [Act.put, List.setIfInBounds_toArray, List.set_cons_zero, List.set_cons_succ]
      refine takeH (i := 10) (v := ?_) rfl rfl (by kernel_rfl) (by kernel_rfl) (by kernel_rfl) (fun _ _ _ h => h) (by rfl) ?_ hHeld ?_
      rotate_left
      · (intro w hSw; (try dsimp only at hSw); first | (go_simp; done) | (go_simp; with_reducible rfl))
      simp only [Act.put, List.setIfInBounds_toArray, List.set_cons_zero, List.set_cons_succ]
      refine wpAnyH_ready (rs := [11]) (by kernel_rfl) (by simp) ?_
      refine AllReadyH.cons rfl (fun K hK => ?_) AllReadyH.nil
      go_simp
      refine (copyInts_any A3 _ c3 bd.atom _ (HI3.out.drew) hfit).mono ?_
      rintro e w1 ⟨v1, rfl, hv1, hb1⟩
      have HAP1 := Lib.hid (HAP.out.snoc (u := v1) (m := wr.heap.size) (fun i hi g hg => (HRW.out.lt i hi g hg).2) (fun g hg => (World.ownsRow.lt hv1 g hg).1))
      obtain ⟨A4, c4, rfl⟩ := hv1.value
      have hb1' : Below wr.heap.size wr w1 := (Below.refl wr.heap.size wr).drew.trans hb1
      have hsz1 := hb1'.size
      have HO1 := Lib.hid (HOWN.out.on hb1')
      have HR1 := Lib.hid (HRW.out.on hb1')
      have HV1 := Lib.hid (hv1.lower (base' := w.heap.size) hsz)
      have HB1 := Lib.hid (HBW.out.trans (hb1'.mono hsz))
      have c1 : w1.cell? ⟨b, off + k * 2, none⟩ = some (.bool bd.neg) := by rw [hb1'.cell (p := ⟨b, _, none⟩) (by show b < _; omega)]; exact c0
      have d1 : w1.cell? ⟨b, off + k * 2 + 1, none⟩ = some (.slice A3 bd.atom.length c3) := by rw [hb1'.cell (p := ⟨b, _, none⟩) (by show b < _; omega)]; exact d0
      clear hv1 hb1 hb1'
      go_wp2_with fail
      refine hK.out _ _ ?_ (fun hHeld => ?_)
      · exact ⟨c1, d1⟩
      clear hK K
      refine takeH (i := 12) (v := ?_) rfl rfl (by kernel_rfl) (by kernel_rfl) (by kernel_rfl) (fun _ _ _ h => h) (by rfl) ?_ hHeld ?_
      rotate_left
      · (intro w hSw; (try dsimp only at hSw); first | (go_simp; done) | (go_simp; with_reducible rfl))
      simp only [Act.put, List.setIfInBounds_toArray, List.set_cons_zero, List.set_cons_succ]
      refine wpAnyH_ready (rs := [13]) (by kernel_rfl) (by simp) ?_
      refine AllReadyH.cons rfl (fun K hK => ?_) AllReadyH.nil
      go_simp
      refine hK.out _ _ ?_ (fun hHeld => ?_)
      · have hb2 := below_new w1 (.cells #[.bool bd.neg, .slice A4 bd.atom.length c4] 57)
        exact ⟨by rw [hb2.cell (p := ⟨b, _, none⟩) (by show b < _; omega)]; exact c1, by rw [hb2.cell (p := ⟨b, _, none⟩) (by show b < _; omega)]; exact d1⟩
      clear hK K
      refine wpAnyH_ready (rs := [14]) (by kernel_rfl) (by simp) ?_
      refine AllReadyH.cons rfl (fun K hK => ?_) AllReadyH.nil
      refine app_litv_step rfl (.tmp 11) (.tmp 24) rfl w.heap.size _ (bs.take k) vs bd.neg bd.atom _ rfl HO1.out rfl rfl rfl htl (by omega) ?_
      intro v2 w2 hown2 hc2
      have hb2 := hc2.bel
      have HO2 : Hid (OwnLv w2 w.heap.size v2 (bs.take (k + 1)) (vs ++ [.slice A4 bd.atom.length c4])) := by show OwnLv _ _ _ _ _; rw [HTK.out]; exact hown2
      have HR2 : Hid (Rws w2 w.heap.size (vs ++ [.slice A4 bd.atom.length c4]) ((bs.take (k + 1)).map Lt.atom)) := by show Rws _ _ _ _; rw [HTK.out, List.map_append]; exact (HR1.out.snoc HV1.out).chg hc2 (by decide)
      have c2 : w2.cell? ⟨b, off + k * 2, none⟩ = some (.bool bd.neg) := by rw [hb2.cell (p := ⟨b, _, none⟩) hb]; exact c1
      have d2 : w2.cell? ⟨b, off + k * 2 + 1, none⟩ = some (.slice A3 bd.atom.length c3) := by rw [hb2.cell (p := ⟨b, _, none⟩) hb]; exact d1
      have HB2 := Lib.hid (HB1.out.trans hb2)
      clear hown2 hb2 hc2
      refine hK.out _ _ ?_ (fun hHeld => ?_)
      · exact ⟨c2, d2⟩
      clear hK K
      refine takeH (i := 15) (v := ?_) rfl rfl (by kernel_rfl) (by kernel_rfl) (by kernel_rfl) (fun _ _ _ h => h) (by rfl) ?_ hHeld ?_
      rotate_left
      · (intro w hSw; (try dsimp only at hSw); first | (go_simp; done) | (go_simp; with_reducible rfl))
      simp only [Act.put, List.setIfInBounds_toArray, List.set_cons_zero, List.set_cons_succ]
      refine wpAnyH_done (by kernel_rfl) ?_ _
      go_wp2
      go_roundw
      case rel => exact ⟨k + 1, _, by go_num, by omega, HO2.out, HR2.out, HAP1.out, HB2.out⟩
      case measure => simp [intOf]; omega
    · obtain rfl : k = n := by omega
      go_wp2
      go_ret
      have e0 : bs.take k = bs := List.take_of_length_le (by rw [HL.out]; omega)
      have how := HOWN.out
      have hrw := HRW.out
      rw [e0] at how hrw
      exact ⟨_, vs, rfl, how, hrw, HAP.out, HBW.out⟩

set_option maxHeartbeats 1000000 in
theorem copyRowsA_any (A : Option Addr) (n c : Nat) (ts : List (List Int)) (w : World) (h : TupsAt w w.heap.size A n ts) (hn : n * 24 ≤ 140737488351232) :
    Calls Try.prog 32 #[.slice A n c] w (CopyRA ts w) := by
  have HS := Lib.hid h
  have HL := Lib.hid h.len
  clear h
  go_enter Try.func32, Try.ntmps32
  go_wp2
  go_loopw [3, 4] (fun q i wr => ∃ (k : Nat) (vs : List Value), i = .int .i64 k ∧ k ≤ n ∧ OwnR wr w.heap.size q vs ∧ Rws wr w.heap.size vs (ts.take k) ∧ Apart vs ∧ Below w.heap.size w wr) (fun _ i _ => n - (intOf i).toNat)
  case atStart => exact ⟨0, [], rfl, by omega, OwnR.nil_, Rws.nil_, Apart.nil_, Below.refl _ _⟩
  case round =>
    obtain ⟨k, vs, rfl, hk, hown, hrw, hap, hbw⟩ := hrel
    have HAP := Lib.hid hap
    have HBW := Lib.hid hbw
    have HOWN := Lib.hid hown
    have HRW := Lib.hid hrw
    have hsz := hbw.size
    have hvl' : vs.length ≤ k := by have := hrw.1; rw [List.length_take] at this; omega
    clear hbw hown hrw hap
    by_cases hlt : k < n
    · have hkl : k < ts.length := by rw [HL.out]; exact hlt
      obtain ⟨b, off, A3, c3, rfl, hb, c0, hr, -⟩ := (HS.out.on HBW.out).one hlt
      have HTK := Lib.hid (rowOf_next hkl)
      obtain ⟨r, hrr⟩ : ∃ r, r = rowOf ts k := ⟨_, rfl⟩
      rw [← hrr] at c0 hr HTK
      have HI3 := Lib.hid hr
      have hfit := hr.fit
      have hvl : vs.length + 1 ≤ 5864062014634 := by omega
      have hi0 : (0 : Int) ≤ (k : Int) := by omega
      have hi3 : (k : Int) < (n : Int) := by omega
      clear hr hrr hkl
      go_wp2_with fail
      refine (copyInts_any A3 _ c3 r _ HI3.out.at_ hfit).mono ?_
      rintro e w1 ⟨v1, rfl, hv1, hb1⟩
      have HAP1 := Lib.hid (HAP.out.snoc (u := v1) (m := wr.heap.size) (fun i hi g hg => (HRW.out.lt i hi g hg).2) (fun g hg => (World.ownsRow.lt hv1 g hg).1))
      have HO1 := Lib.hid (HOWN.out.on hb1)
      have HR1 := Lib.hid (HRW.out.on hb1)
      have HV1 := Lib.hid (hv1.lower (base' := w.heap.size) hsz)
      have HB1 := Lib.hid (HBW.out.trans (hb1.mono hsz))
      have hsz1 := HB1.out.size
      obtain ⟨A4, c4, hv4⟩ := hv1.value
      obtain ⟨L4, hL4⟩ : ∃ L4, r.length = L4 := ⟨_, rfl⟩
      rw [hL4] at hv4
      subst hv4
      clear hv1 hb1
      go_wp2_with (at_builtin
                   refine app_rowv rfl (.tmp 11) (.tmp 17) rfl w.heap.size _ vs _ rfl HO1.out rfl rfl rfl hvl hsz1 ?_
                   intro v2 w2 hown2 hc2
                   have HO2 := Lib.hid hown2
                   have HR2 := Lib.hid ((HR1.out.snoc HV1.out).chg hc2 (by decide))
                   have HB2 := Lib.hid (HB1.out.trans hc2.bel)
                   clear hown2 hc2)
      go_roundw
      case rel => exact ⟨k + 1, _, by go_num, by omega, HO2.out, by rw [HTK.out]; exact HR2.out, HAP1.out, HB2.out⟩
      case measure => simp [intOf]; omega
    · obtain rfl : k = n := by omega
      go_wp2
      go_ret
      have e0 : ts.take k = ts := List.take_of_length_le (by rw [HL.out]; omega)
      have hrw := HRW.out
      rw [e0] at hrw
      exact ⟨_, vs, rfl, HOWN.out, hrw, HAP.out, HBW.out⟩

set_option maxHeartbeats 1000000 in
theorem copyClauseA_any (v : Cv) (c : Cl) (w : World) (h : ClAt w w.heap.size v c) :
    Calls Try.prog 9 #[v.val] w (CopyCA c w) := by
  have hf1 := h.f1
  have hf2 := h.f2
  have hf3 := h.f3
  have h0 := CBox.new h
  have hb0 := below_new2 w v.obj (.cells #[.slice none 0 0, .slice none 0 0, .slice none 0 0] 26)
  have hx0 := h0.on (below_new _ (.cells #[.slice none 0 0, .slice none 0 0, .slice none 0 0] 26))
  have hg0 := heap_alloc_new (w.alloc v.obj) (.cells #[.slice none 0 0, .slice none 0 0, .slice none 0 0] 26)
  have e0 : (w.alloc v.obj).heap.size = w.heap.size + 1 := by simp
  rw [e0] at hg0
  simp only [Cv.val]
  unfold Cv.obj at h0 hb0 hx0 hg0
  clear h h0 e0
  go_enter Try.func9, Try.ntmps9
  go_wp2_with fail
  obtain ⟨w0, hw0⟩ : ∃ w0, w0 = (w.alloc (.cells #[.slice v.A1 v.n1 v.c1, .slice v.A2 v.n2 v.c2, .slice v.A3 v.n3 v.c3] 26)).alloc (.cells #[.slice none 0 0, .slice none 0 0, .slice none 0 0] 26) := ⟨_, rfl⟩
  rw [← hw0] at hb0 hx0 hg0 ⊢
  obtain ⟨B, hB⟩ : ∃ B, B = w.heap.size := ⟨_, rfl⟩
  rw [← hB] at hx0 hg0 ⊢
  have p0 := hx0.c0
  have p1 := hx0.c1
  have p2 := hx0.c2
  have HX := Lib.hid hx0
  have HB0 := Lib.hid hb0
  have HG := Lib.hid hg0
  have HW := Lib.hid hw0
  have HBB := Lib.hid hB
  clear hb0 hx0 hg0 hw0 hB
  refine wp_region_held_drew (S := (fun w' => w'.cell? ⟨B, 0, none⟩ = some (.slice v.A1 v.n1 v.c1) ∧ w'.cell? ⟨B, 1, none⟩ = some (.slice v.A2 v.n2 v.c2) ∧ w'.cell? ⟨B, 2, none⟩ = some (.slice v.A3 v.n3 v.c3))) (by kernel_rfl) ⟨p0, p1, p2⟩ (fun hHeld => ?_)
  have hd0 : Below w0.heap.size w0 w0.drew := (Below.refl w0.heap.size w0).drew
  refine takeH (i := 0) (v := ?_) rfl rfl (by kernel_rfl) (by kernel_rfl) (by kernel_rfl) (fun _ _ _ h => h) (by rfl) ?_ hHeld ?_
  rotate_left
  · (intro w hSw; (try dsimp only at hSw); first | (go_simp; done) | (go_simp; with_reducible rfl))
  simp only [Act.put, List.setIfInBounds_toArray, List.set_cons_zero, List.set_cons_succ]
  refine takeH (i := 1) (v := ?_) rfl rfl (by kernel_rfl) (by kernel_rfl) (by kernel_rfl) (fun _ _ _ h => h) (by rfl) ?_ hHeld ?_
  rotate_left
  · (intro w hSw; (try dsimp only at hSw); first | (go_simp; done) | (go_simp; with_reducible rfl))
  simp only [Act.put, List.setIfInBounds_toArray, List.set_cons_zero, List.set_cons_succ]
  refine takeH (i := 3) (v := ?_) rfl rfl (by kernel_rfl) (by kernel_rfl) (by kernel_rfl) (fun _ _ _ h => h) (by rfl) ?_ hHeld ?_
  rotate_left
  · (intro w hSw; (try dsimp only at hSw); first | (go_simp; done) | (go_simp; with_reducible rfl))
  simp only [Act.put, List.setIfInBounds_toArray, List.set_cons_zero, List.set_cons_succ]
  refine takeH (i := 4) (v := ?_) rfl rfl (by kernel_rfl) (by kernel_rfl) (by kernel_rfl) (fun _ _ _ h => h) (by rfl) ?_ hHeld ?_
  rotate_left
  · (intro w hSw; (try dsimp only at hSw); first | (go_simp; done) | (go_simp; with_reducible rfl))
  simp only [Act.put, List.setIfInBounds_toArray, List.set_cons_zero, List.set_cons_succ]
  refine takeH (i := 6) (v := ?_) rfl rfl (by kernel_rfl) (by kernel_rfl) (by kernel_rfl) (fun _ _ _ h => h) (by rfl) ?_ hHeld ?_
  rotate_left
  · (intro w hSw; (try dsimp only at hSw); first | (go_simp; done) | (go_simp; with_reducible rfl))
  simp only [Act.put, List.setIfInBounds_toArray, List.set_cons_zero, List.set_cons_succ]
  refine takeH (i := 7) (v := ?_) rfl rfl (by kernel_rfl) (by kernel_rfl) (by kernel_rfl) (fun _ _ _ h => h) (by rfl) ?_ hHeld ?_
  rotate_left
  · (intro w hSw; (try dsimp only at hSw); first | (go_simp; done) | (go_simp; with_reducible rfl))
  simp only [Act.put, List.setIfInBounds_toArray, List.set_cons_zero, List.set_cons_succ]
  refine wpAnyH_ready (rs := [2]) (by kernel_rfl) (by simp) ?_
  refine AllReadyH.cons rfl (fun K hK => ?_) AllReadyH.nil
  go_simp
  refine (copyLitsA_any v.A1 v.n1 v.c1 c.lits _ (HX.out.on hd0).cl.lits (by omega)).mono ?_
  rintro e w1 ⟨v1, vs1, rfl, ho1, hr1, ha1, hb1⟩
  obtain ⟨D1, d1, hdv1⟩ := ho1.valued
  subst hdv1
  have hv1 := NL.mk (hi := w1.heap.size) ho1 hr1 ha1 (fun i hi g hg => (hr1.lt i hi g hg).2)
  clear ho1 hr1 ha1
  have hb1' := hd0.trans (hb1.mono hd0.size)
  have HX1 := Lib.hid (HX.out.on hb1')
  have HB1 := Lib.hid hb1'
  have HV1 := Lib.hid hv1
  clear hv1 hb1 hb1' p0 p1 p2
  have p0 := HX1.out.c0
  have p1 := HX1.out.c1
  have p2 := HX1.out.c2
  go_wp2_with fail
  refine hK.out _ _ ?_ (fun hHeld => ?_)
  · exact ⟨p0, p1, p2⟩
  clear hK K
  refine wpAnyH_ready (rs := [5]) (by kernel_rfl) (by simp) ?_
  refine AllReadyH.cons rfl (fun K hK => ?_) AllReadyH.nil
  go_simp
  refine (copyRowsA_any v.A2 v.n2 v.c2 c.tups _ HX1.out.cl.tups (by omega)).mono ?_
  rintro e w2 ⟨v2, vs2, rfl, ho2, hr2, ha2, hb2⟩
  obtain ⟨D2, d2, hdv2⟩ := ho2.valued
  rw [hr2.1] at hdv2
  subst hdv2
  have hv2 := NT.mk (hi := w2.heap.size) ho2 hr2 ha2 (fun i hi g hg => (hr2.lt i hi g hg).2)
  clear ho2 hr2 ha2
  have HX2 := Lib.hid (HX1.out.on hb2)
  have HB2 := Lib.hid (HB1.out.trans (hb2.mono HB1.out.size))
  have S12 := Lib.hid hb2.size
  have H1LT : Hid (∀ g, (Value.slice D1 c.lits.length d1).ownBlock = some g → g < w2.heap.size) := fun g hg => Nat.lt_of_lt_of_le (World.ownsRow.lt HV1.out.own.2 g hg).2 hb2.size
  have HV2 := Lib.hid hv2
  replace HV1 := Lib.hid (HV1.out.on hb2)
  clear hv2 hb2 p0 p1 p2
  have p0 := HX2.out.c0
  have p1 := HX2.out.c1
  have p2 := HX2.out.c2
  go_wp2_with fail
  refine hK.out _ _ ?_ (fun hHeld => ?_)
  · exact ⟨p0, p1, p2⟩
  clear hK K
  refine wpAnyH_ready (rs := [8]) (by kernel_rfl) (by simp) ?_
  refine AllReadyH.cons rfl (fun K hK => ?_) AllReadyH.nil
  go_simp
  refine (copyLitsA_any v.A3 v.n3 v.c3 c.conds _ HX2.out.cl.conds (by omega)).mono ?_
  rintro e w3 ⟨v3, vs3, rfl, ho3, hr3, ha3, hb3⟩
  obtain ⟨D3, d3, hdv3⟩ := ho3.valued
  subst hdv3
  have hv3 := NL.mk (hi := w3.heap.size) ho3 hr3 ha3 (fun i hi g hg => (hr3.lt i hi g hg).2)
  clear ho3 hr3 ha3
  have HX3 := Lib.hid (HX2.out.on hb3)
  have HB3 := Lib.hid (HB2.out.trans (hb3.mono HB2.out.size))
  have HV3 := Lib.hid hv3
  replace HV1 := Lib.hid (HV1.out.on hb3)
  replace HV2 := Lib.hid (HV2.out.on hb3)
  clear hv3 hb3 p0 p1 p2
  have p0 := HX3.out.c0
  have p1 := HX3.out.c1
  have p2 := HX3.out.c2
  go_wp2_with fail
  refine hK.out _ _ ?_ (fun hHeld => ?_)
  · exact ⟨p0, p1, p2⟩
  clear hK K
  refine takeH (i := 9) (v := ?_) rfl rfl (by kernel_rfl) (by kernel_rfl) (by kernel_rfl) (fun _ _ _ h => h) (by rfl) ?_ hHeld ?_
  rotate_left
  · (intro w hSw; (try dsimp only at hSw); first | (go_simp; done) | (go_simp; with_reducible rfl))
  simp only [Act.put, List.setIfInBounds_toArray, List.set_cons_zero, List.set_cons_succ]
  have hg3 : w3.heap[B + 1]? = some (.cells #[.slice none 0 0, .slice none 0 0, .slice none 0 0] 26 (0, 0)) := by
    rw [HB3.out.block (B + 1) (Array.getElem?_eq_some_iff.1 HG.out).1]; exact HG.out
  refine wpAnyH_ready (rs := [10]) (by kernel_rfl) (by simp) ?_
  refine AllReadyH.cons rfl (fun K hK => ?_) AllReadyH.nil
  refine store_box_step rfl 26 (.tmp 2) (.tmp 12) rfl rfl (B + 1) _ _ rfl rfl hg3 rfl (by kernel_rfl) three_one ?_
  intro w4 hg4 hc4 hs4
  have q0 : w4.cell? ⟨B, 0, none⟩ = some (.slice v.A1 v.n1 v.c1) := by rw [hc4.bel.cell (p := ⟨B, 0, none⟩) (Nat.lt_succ_self B)]; exact p0
  have q1 : w4.cell? ⟨B, 1, none⟩ = some (.slice v.A2 v.n2 v.c2) := by rw [hc4.bel.cell (p := ⟨B, 1, none⟩) (Nat.lt_succ_self B)]; exact p1
  have q2 : w4.cell? ⟨B, 2, none⟩ = some (.slice v.A3 v.n3 v.c3) := by rw [hc4.bel.cell (p := ⟨B, 2, none⟩) (Nat.lt_succ_self B)]; exact p2
  have HC4 := Lib.hid hc4
  have HG4 := Lib.hid hg4
  clear hc4 hg4 hg3 p0 p1 p2
  refine hK.out _ _ ?_ (fun hHeld => ?_)
  · exact ⟨q0, q1, q2⟩
  clear hK K
  refine wpAnyH_done (by kernel_rfl) ?_ _
  go_wp2
  refine bodyPost_ret (results_cell_row rfl _ _ (B + 1) _ _ _ _ rfl HG4.out Try.underlying26 rfl (by kernel_rfl)) rfl ?_
  have hle : w.heap.size ≤ w0.heap.size := HB0.out.size
  have hB3 := HB0.out.trans (HB3.out.mono hle)
  have hle1 : w.heap.size ≤ w1.heap.size := Nat.le_trans hle HB1.out.size
  have hle2 : w.heap.size ≤ w2.heap.size := Nat.le_trans hle HB2.out.size
  have hd1 : w.heap.size ≤ w0.drew.heap.size := hle
  have hBB := HBB.out
  have q1 := HV1.out
  have q2 := HV2.out
  have q3 := HV3.out
  refine ⟨_, _, _, vs1, vs2, vs3, rfl, (q1.own.chg HC4.out (by decide)).lower hd1, (q2.own.chg HC4.out (by decide)).lower hle1, (q3.own.chg HC4.out (by decide)).lower hle2, ?_, ?_, fun g hg hg3 => ?_, hB3.trans (HC4.out.bel.mono (by omega))⟩
  · have h1 := (((q1.rws.lower hd1).append (q2.rws.lower hle1)).append (q3.rws.lower hle2)).chg HC4.out (by decide)
    have e : rowsC c = c.lits.map Lt.atom ++ c.tups ++ c.conds.map Lt.atom := by unfold rowsC; rw [List.append_assoc]
    rw [e]; exact h1
  · refine Apart.append (m := w2.heap.size) (Apart.append (m := w1.heap.size) q1.ap q2.ap q1.lt (fun i hi g hg => (q2.rws.lt i hi g hg).1)) q3.ap (fun i hi g hg => ?_) (fun i hi g hg => (q3.rws.lt i hi g hg).1)
    rw [List.length_append] at hi
    by_cases q : i < vs1.length
    · rw [valAt_lefts q] at hg
      exact Nat.lt_of_lt_of_le (q1.lt i q g hg) S12.out
    · rw [valAt_rights (by omega)] at hg
      exact q2.lt _ (by omega) g hg
  · have k3 := (World.ownsRow.lt q3.own.2 g hg3).1
    have k1 := H1LT.out g hg
    omega

end Go.Proofs.Ytpblpndlajoebaa
