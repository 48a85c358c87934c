/-
  The law FactFinds: the walk.
-/
import Derived.Test.YthnjpkghjkhjdaaAwakeF
namespace Go.Proofs.Ythnjpkghjkhjdaa
open Go.RowKit Go.Deep
set_option linter.unusedSimpArgs false
set_option linter.unusedVariables false
set_option maxRecDepth 100000

theorem u_mod11 (k : Int) (n : Nat) (hn : 0 < n) : ∃ z : Nat, z < n ∧ (IntKind.u64.wrap k).tmod n = (z : Int) := by
  have h1 : 0 ≤ IntKind.u64.wrap k := by
    have : IntKind.u64.wrap k = k % 18446744073709551616 := by rfl
    omega
  have h2 : 0 ≤ (IntKind.u64.wrap k).tmod n := Int.tmod_nonneg _ h1
  have h3 : (IntKind.u64.wrap k).tmod n < n := Int.tmod_lt_of_pos _ (by omega)
  exact ⟨((IntKind.u64.wrap k).tmod n).toNat, by omega, by omega⟩
/-- One fact is taken out: what is left, and what Has says of it. -/
theorem find_cut {ss : List Sym} {t : Tb} {z : Nat} (hm : mayB ss = true) (ht : TabOk (factB ss) t) (hz : z < t.facts.length) :
    ∃ TC, CutX ss t (fcAt t z) TC true 0 ∧ TabOk (factB ss) TC ∧ TC.facts.length = t.facts.length - 1 ∧ ∀ i, i < t.facts.length →
      (hasV' ss t (fcAt t i) = true ∧ hasE ss t (fcAt t i) = 0) ∧ hasV' ss TC (fcAt t i) = decide (i ≠ z) ∧ hasE ss TC (fcAt t i) = 0 := by
  have hok : okT ss t (fcAt t z) = true := okT_yes (tabB_yes hm ht) (ht.fact _ (fcAt_mem hz))
  obtain ⟨TC, b, E, hc⟩ := cut_ex ss t (fcAt t z)
  obtain ⟨k, p, r, hk, hka, hp, hr, ep, er, rfl, rfl, rfl⟩ := hc.is_done hok (fcAt_mem hz)
  have hkz : k = z := nodup_fc.1 ht.one k z hk hz hka
  subst hkz
  refine ⟨_, hc, ht.cut hk hp hr ep er, cut_len, fun i hi => ?_⟩
  have hf := ht.fact _ (fcAt_mem hi)
  obtain ⟨q1, q2⟩ := has_yes (okT_yes (tabB_yes hm ht) hf)
  obtain ⟨q3, q4⟩ := has_yes (okT_yes (tabB_yes hm (ht.cut hk hp hr ep er)) hf)
  refine ⟨⟨by rw [q1]; exact decide_eq_true (fcAt_mem hi), q2⟩, ?_, q4⟩
  rw [q3]
  apply decide_eq_decide.2
  rw [ht.mem_cut hk]
  constructor
  · rintro ⟨-, h⟩ e
    exact h (by rw [e])
  · intro h
    exact ⟨fcAt_mem hi, fun e => h (nodup_fc.1 ht.one i k hi hk e)⟩
set_option maxHeartbeats 8000000 in
theorem factFindsL_any (A : Option Addr) (n cp : Nat) (k : Int) (ss : List Sym) (v : Tv) (t : Tb) (w : World) (h : SymsAt w w.heap.size A n ss) (hn : n ≤ maxLen) (hnc : n ≤ cp) (hc : TabAt w w.heap.size v t) :
    Calls Try.prog 7 #[.slice A n cp, v.val, .int .i64 k] w fun e w' => e = .returned (.bool true) ∧ Below w.heap.size w w' := by
  have hb0 := below_new w v.obj
  have hx := TBox.new hc
  have hs := h.on hb0
  rw [Tv.val_eq]
  unfold Tv.obj at hx hb0 hs
  obtain ⟨v1, s1, d1, v2, s2, d2⟩ := v
  dsimp only at hx hb0 hs ⊢
  have HX := Lib.hid hx
  have HB0 := Lib.hid hb0
  have HS := Lib.hid hs
  clear hc hb0 hx hs h
  go_enter Try.func7, Try.ntmps7
  go_wp2_with fail
  obtain ⟨w0, hw0⟩ : ∃ w0, w0 = w.alloc (.cells #[.slice v1 s1 d1, .slice v2 s2 d2] 26) := ⟨_, rfl⟩
  rw [← hw0] at HX HB0 HS ⊢
  clear hw0
  refine (awakeF_any _).mono ?_
  rintro e w1 ⟨rfl, hb1⟩
  have HB1 := Lib.hid (HB0.out.trans (hb1.mono HB0.out.size))
  replace HX := Lib.hid (HX.out.on hb1)
  replace HS := Lib.hid (HS.out.on hb1)
  clear hb1
  have p0 := HX.out.c0
  have p1 := HX.out.c1
  dsimp only at p0 p1
  go_wp2_with fail
  refine (mayF_any A n cp ss ⟨v1, s1, d1, v2, s2, d2⟩ t _ HS.out hn hnc HX.out.tb).mono ?_
  rintro e w2 ⟨rfl, hb2⟩
  have HB2 := Lib.hid (HB1.out.trans (hb2.mono HB1.out.size))
  replace HX := Lib.hid (HX.out.on hb2)
  replace HS := Lib.hid (HS.out.on hb2)
  clear hb2 p0 p1
  have p0 := HX.out.c0
  have p1 := HX.out.c1
  dsimp only at p0 p1
  cases htb : tabB ss t
  case false =>
    clear htb
    go_wp2
    go_ret
    exact ⟨rfl, HB2.out⟩
  have HTB := Lib.hid (tabB_true htb)
  clear htb
  have hs24 : s2 ≤ 24 := by have := HTB.out.2.few; rw [HX.out.tb.fc.len] at this; exact this
  by_cases hs0 : s2 = 0
  · subst hs0
    go_wp2
    go_ret
    exact ⟨rfl, HB2.out⟩
  obtain ⟨q, hq⟩ : ∃ q, s2 = q + 1 := ⟨s2 - 1, by omega⟩
  subst hq
  have hlen : t.facts.length = q + 1 := HX.out.tb.fc.len
  have HLEN := Lib.hid hlen
  obtain ⟨z, hz, hze⟩ := u_mod11 k (q + 1) (by omega)
  obtain ⟨TC, hcx, hct, hcl, hall⟩ := find_cut HTB.out.1 HTB.out.2 (z := z) (by rw [hlen]; exact hz)
  have HCX0 := Lib.hid hcx
  have HFC := Lib.hid hct.small.fit
  have HCT := Lib.hid hct
  have HCL : Hid (TC.facts.length = q) := by show _ = _; rw [hcl, hlen]; rfl
  have HALL := Lib.hid hall
  have hze' : (IntKind.u64.wrap k).tmod ((q : Int) + 1) = (z : Int) := by rw [← hze]; rfl
  have hq1 : (0 : Int) < (q : Int) + 1 := by omega
  have hq2 : ¬ (q : Int) + 1 = 0 := by omega
  have hz0 : (0 : Int) ≤ (z : Int) := by omega
  have hz1 : (z : Int) < (q : Int) + 1 := by omega
  have hq23 : q ≤ 23 := by omega
  have hq23' : (q : Int) ≤ 23 := by omega
  clear hs24 hs0 hlen hcx hct hcl hall hze
  go_upto_region 6 with (fail)
  obtain ⟨b2, o2, A3, c3, hA2, hb2B, d0, hri, _⟩ := HX.out.tb.fc.one (i := z) hz
  dsimp only at hA2
  subst hA2
  obtain ⟨r, hrr⟩ : ∃ r, r = rowOf t.facts z := ⟨_, rfl⟩
  rw [← hrr] at d0 hri
  have HRI := Lib.hid hri
  have HCX : Hid (CutX ss t r TC true 0) := by rw [hrr]; exact HCX0.out
  clear hri hrr HCX0
  obtain ⟨y0, hy0⟩ : ∃ y, y = w2 := ⟨_, rfl⟩
  rw [← hy0] at HX HS HRI HB2 d0 p0 p1 hb2B ⊢
  clear hy0
  go_cut [8, 9, 10] (fun sa sb sc wx => ∃ g x, sa = .pointer (some ⟨g, 0, none⟩) ∧ sb = .bool true ∧ sc = .int .i64 0 ∧ TBox wx g x TC ∧ Below y0.heap.size y0 wx)
  case first =>
    have HELD : Hid (∀ y, Below y0.heap.size y0 y → y.cell? ⟨w.heap.size, 0, none⟩ = some (.slice v1 s1 d1) ∧ y.cell? ⟨w.heap.size, 1, none⟩ = some (.slice (some ⟨b2, o2, none⟩) (q + 1) d2) ∧ y.cell? ⟨b2, o2 + z, none⟩ = some (.slice A3 r.length c3)) := fun y e => ⟨(HX.out.on e).c0, (HX.out.on e).c1, by rw [e.cell (p := ⟨b2, o2 + z, none⟩) hb2B]; exact d0⟩
    go_wp2_with fail
    have hd : Below y0.heap.size y0 y0.drew := (Below.refl y0.heap.size y0).drew
    have hS := HELD.out _ hd
    refine wp_region_held_drew (S := (fun y => y.cell? ⟨w.heap.size, 0, none⟩ = some (.slice v1 s1 d1) ∧ y.cell? ⟨w.heap.size, 1, none⟩ = some (.slice (some ⟨b2, o2, none⟩) (q + 1) d2) ∧ y.cell? ⟨b2, o2 + z, none⟩ = some (.slice A3 r.length c3))) (by kernel_rfl) hS (fun hHeld => ?_)
    clear hS p0 p1 d0
    obtain ⟨y1, hy1⟩ : ∃ y1, y1 = y0.drew := ⟨_, rfl⟩
    rw [← hy1] at hd hHeld ⊢
    have HB1' := Lib.hid hd
    clear hy1 hd
    refine takeH (i := 0) (v := ?_) rfl rfl (by kernel_rfl) (by kernel_rfl) (by kernel_rfl) (fun _ _ _ h => h) (by rfl) ?_ hHeld ?_
    rotate_left
    · (intro w hSw; (try dsimp only at hSw); first | (go_simp; done) | (go_simp; with_reducible rfl))
    simp only [Act.put, List.setIfInBounds_toArray, List.set_cons_zero, List.set_cons_succ]
    refine takeH (i := 1) (v := ?_) rfl rfl (by kernel_rfl) (by kernel_rfl) (by kernel_rfl) (fun _ _ _ h => h) (by rfl) ?_ hHeld ?_
    rotate_left
    · (intro w hSw; (try dsimp only at hSw); first | (go_simp; done) | (go_simp; with_reducible rfl))
    simp only [Act.put, List.setIfInBounds_toArray, List.set_cons_zero, List.set_cons_succ]
    refine takeH (i := 2) (v := ?_) rfl rfl (by kernel_rfl) (by kernel_rfl) (by kernel_rfl) (fun _ _ _ h => h) (by rfl) ?_ hHeld ?_
    rotate_left
    · (intro w hSw; (try dsimp only at hSw); first | (go_simp; done) | (go_simp; with_reducible rfl))
    simp only [Act.put, List.setIfInBounds_toArray, List.set_cons_zero, List.set_cons_succ]
    refine takeH (i := 3) (v := ?_) rfl rfl (by kernel_rfl) (by kernel_rfl) (by kernel_rfl) (fun _ _ _ h => h) (by rfl) ?_ hHeld ?_
    rotate_left
    · (intro w hSw; (try dsimp only at hSw); first | (go_simp; done) | (go_simp; with_reducible rfl))
    simp only [Act.put, List.setIfInBounds_toArray, List.set_cons_zero, List.set_cons_succ]
    refine takeH (i := 4) (v := ?_) rfl rfl (by kernel_rfl) (by kernel_rfl) (by kernel_rfl) (fun _ _ _ h => h) (by rfl) ?_ hHeld ?_
    rotate_left
    · (intro w hSw; (try dsimp only at hSw); first | (go_simp; done) | (go_simp; with_reducible rfl))
    simp only [Act.put, List.setIfInBounds_toArray, List.set_cons_zero, List.set_cons_succ]
    refine takeH (i := 5) (v := ?_) rfl rfl (by kernel_rfl) (by kernel_rfl) (by kernel_rfl) (fun _ _ _ h => h) (by rfl) ?_ hHeld ?_
    rotate_left
    · (intro w hSw; (try dsimp only at hSw); first | (go_simp; done) | (go_simp; with_reducible rfl))
    simp only [Act.put, List.setIfInBounds_toArray, List.set_cons_zero, List.set_cons_succ]
    refine takeH (i := 6) (v := ?_) rfl rfl (by kernel_rfl) (by kernel_rfl) (by kernel_rfl) (fun _ _ _ h => h) (by rfl) ?_ hHeld ?_
    rotate_left
    · (intro w hSw; (try dsimp only at hSw); first | (go_simp; done) | (go_simp; with_reducible rfl))
    simp only [Act.put, List.setIfInBounds_toArray, List.set_cons_zero, List.set_cons_succ]
    refine wpAnyH_ready (rs := [7, 12]) (by kernel_rfl) (by simp) ?_
    refine AllReadyH.cons rfl (fun K hK => ?_) (AllReadyH.cons rfl (fun K hK => ?_) AllReadyH.nil)
    · go_simp
      refine (cut_fact A A3 n cp r.length c3 ss ⟨v1, s1, d1, some ⟨b2, o2, none⟩, q + 1, d2⟩ t r TC true 0 HCX.out _ (HS.out.on HB1'.out) hn hnc (HX.out.on HB1'.out).tb (HRI.out.on HB1'.out).at_ HRI.out.big HRI.out.cap).mono ?_
      rintro e y3 ⟨v3, rfl, hv3, hb3⟩
      obtain ⟨D, d, F, f, rfl⟩ := hv3.parts
      have HO := Lib.hid hv3
      go_wp2_with fail
      have HB3 := Lib.hid (HB1'.out.trans (hb3.mono HB1'.out.size))
      clear hv3 hb3
      refine hK.out _ _ ?_ (fun hHeld => ?_)
      · exact HELD.out _ HB3.out
      clear hK K
      refine takeH (i := 8) (v := ?_) rfl rfl (by kernel_rfl) (by kernel_rfl) (by kernel_rfl) (fun _ _ _ h => h) (by rfl) ?_ hHeld ?_
      rotate_left
      · (intro w hSw; (try dsimp only at hSw); first | (go_simp; done) | (go_simp; with_reducible rfl))
      simp only [Act.put, List.setIfInBounds_toArray, List.set_cons_zero, List.set_cons_succ]
      refine takeH (i := 9) (v := ?_) rfl rfl (by kernel_rfl) (by kernel_rfl) (by kernel_rfl) (fun _ _ _ h => h) (by rfl) ?_ hHeld ?_
      rotate_left
      · (intro w hSw; (try dsimp only at hSw); first | (go_simp; done) | (go_simp; with_reducible rfl))
      simp only [Act.put, List.setIfInBounds_toArray, List.set_cons_zero, List.set_cons_succ]
      refine takeH (i := 10) (v := ?_) rfl rfl (by kernel_rfl) (by kernel_rfl) (by kernel_rfl) (fun _ _ _ h => h) (by rfl) ?_ hHeld ?_
      rotate_left
      · (intro w hSw; (try dsimp only at hSw); first | (go_simp; done) | (go_simp; with_reducible rfl))
      simp only [Act.put, List.setIfInBounds_toArray, List.set_cons_zero, List.set_cons_succ]
      refine takeH (i := 11) (v := ?_) rfl rfl (by kernel_rfl) (by kernel_rfl) (by kernel_rfl) (fun _ _ _ h => h) (by rfl) ?_ hHeld ?_
      rotate_left
      · (intro w hSw; (try dsimp only at hSw); first | (go_simp; done) | (go_simp; with_reducible rfl))
      simp only [Act.put, List.setIfInBounds_toArray, List.set_cons_zero, List.set_cons_succ]
      refine wpAnyH_ready (rs := [12]) (by kernel_rfl) (by simp) ?_
      refine AllReadyH.cons rfl (fun K hK => ?_) AllReadyH.nil
      go_simp
      have hb4 := below_new y3 (.cells #[.slice none 0 0, .slice none 0 0] 26)
      have HZ := Lib.hid (ZBx.new y3)
      have hgw : y0.heap.size ≤ y3.heap.size := HB3.out.size
      have HB4 := Lib.hid (HB3.out.trans (hb4.mono HB3.out.size))
      replace HO := Lib.hid (HO.out.on hb4)
      clear hb4
      refine hK.out _ _ ?_ (fun hHeld => ?_)
      · exact HELD.out _ HB4.out
      clear hK K
      refine wpAnyH_ready (rs := [13]) (by kernel_rfl) (by simp) ?_
      refine AllReadyH.cons rfl (fun K hK => ?_) AllReadyH.nil
      refine store_box_step rfl 26 (.tmp 8) (.tmp 45) rfl rfl y3.heap.size _ _ rfl rfl HZ.out.z rfl (by kernel_rfl) two_one ?_
      intro z9 hg9 hc9 hs9
      have HBX := Lib.hid (TBox.of_store HO.out HFC.out hg9 hc9)
      have HB99 := Lib.hid (HB4.out.trans (hc9.bel.mono hgw))
      clear hg9 hc9 hs9
      refine hK.out _ _ ?_ (fun hHeld => ?_)
      · exact HELD.out _ HB99.out
      clear hK K
      refine takeH (i := 14) (v := ?_) rfl rfl (by kernel_rfl) (by kernel_rfl) (by kernel_rfl) (fun _ _ _ h => h) (by rfl) ?_ hHeld ?_
      rotate_left
      · (intro w hSw; (try dsimp only at hSw); first | (go_simp; done) | (go_simp; with_reducible rfl))
      simp only [Act.put, List.setIfInBounds_toArray, List.set_cons_zero, List.set_cons_succ]
      refine takeH (i := 15) (v := ?_) rfl rfl (by kernel_rfl) (by kernel_rfl) (by kernel_rfl) (fun _ _ _ h => h) (by rfl) ?_ hHeld ?_
      rotate_left
      · (intro w hSw; (try dsimp only at hSw); first | (go_simp; done) | (go_simp; with_reducible rfl))
      simp only [Act.put, List.setIfInBounds_toArray, List.set_cons_zero, List.set_cons_succ]
      refine wpAnyH_done (by kernel_rfl) ?_ _
      go_wp2
      go_meet
      case rel =>
        obtain ⟨x, hx⟩ := HBX.out
        exact ⟨y3.heap.size, x, rfl, rfl, rfl, hx, HB99.out⟩
    · go_simp
      have hb2' := below_new y1 (.cells #[.slice none 0 0, .slice none 0 0] 26)
      have HZ := Lib.hid (ZBx.new y1)
      have hgw : y0.heap.size ≤ y1.heap.size := HB1'.out.size
      have HB3 := Lib.hid (HB1'.out.trans (hb2'.mono HB1'.out.size))
      clear hb2'
      refine hK.out _ _ ?_ (fun hHeld => ?_)
      · exact HELD.out _ HB3.out
      clear hK K
      refine wpAnyH_ready (rs := [7]) (by kernel_rfl) (by simp) ?_
      refine AllReadyH.cons rfl (fun K hK => ?_) AllReadyH.nil
      go_simp
      refine (cut_fact A A3 n cp r.length c3 ss ⟨v1, s1, d1, some ⟨b2, o2, none⟩, q + 1, d2⟩ t r TC true 0 HCX.out _ (HS.out.on HB3.out) hn hnc (HX.out.on HB3.out).tb (HRI.out.on HB3.out).at_ HRI.out.big HRI.out.cap).mono ?_
      rintro e y3 ⟨v3, rfl, hv3, hb3⟩
      obtain ⟨D, d, F, f, rfl⟩ := hv3.parts
      have HO := Lib.hid hv3
      go_wp2_with fail
      have HB4 := Lib.hid (HB3.out.trans (hb3.mono HB3.out.size))
      replace HZ := Lib.hid (HZ.out.on hb3)
      clear hv3 hb3
      refine hK.out _ _ ?_ (fun hHeld => ?_)
      · exact HELD.out _ HB4.out
      clear hK K
      refine takeH (i := 8) (v := ?_) rfl rfl (by kernel_rfl) (by kernel_rfl) (by kernel_rfl) (fun _ _ _ h => h) (by rfl) ?_ hHeld ?_
      rotate_left
      · (intro w hSw; (try dsimp only at hSw); first | (go_simp; done) | (go_simp; with_reducible rfl))
      simp only [Act.put, List.setIfInBounds_toArray, List.set_cons_zero, List.set_cons_succ]
      refine takeH (i := 9) (v := ?_) rfl rfl (by kernel_rfl) (by kernel_rfl) (by kernel_rfl) (fun _ _ _ h => h) (by rfl) ?_ hHeld ?_
      rotate_left
      · (intro w hSw; (try dsimp only at hSw); first | (go_simp; done) | (go_simp; with_reducible rfl))
      simp only [Act.put, List.setIfInBounds_toArray, List.set_cons_zero, List.set_cons_succ]
      refine takeH (i := 10) (v := ?_) rfl rfl (by kernel_rfl) (by kernel_rfl) (by kernel_rfl) (fun _ _ _ h => h) (by rfl) ?_ hHeld ?_
      rotate_left
      · (intro w hSw; (try dsimp only at hSw); first | (go_simp; done) | (go_simp; with_reducible rfl))
      simp only [Act.put, List.setIfInBounds_toArray, List.set_cons_zero, List.set_cons_succ]
      refine takeH (i := 11) (v := ?_) rfl rfl (by kernel_rfl) (by kernel_rfl) (by kernel_rfl) (fun _ _ _ h => h) (by rfl) ?_ hHeld ?_
      rotate_left
      · (intro w hSw; (try dsimp only at hSw); first | (go_simp; done) | (go_simp; with_reducible rfl))
      simp only [Act.put, List.setIfInBounds_toArray, List.set_cons_zero, List.set_cons_succ]
      refine wpAnyH_ready (rs := [13]) (by kernel_rfl) (by simp) ?_
      refine AllReadyH.cons rfl (fun K hK => ?_) AllReadyH.nil
      refine store_box_step rfl 26 (.tmp 8) (.tmp 45) rfl rfl y1.heap.size _ _ rfl rfl HZ.out.z rfl (by kernel_rfl) two_one ?_
      intro z9 hg9 hc9 hs9
      have HBX := Lib.hid (TBox.of_store HO.out HFC.out hg9 hc9)
      have HB99 := Lib.hid (HB4.out.trans (hc9.bel.mono hgw))
      clear hg9 hc9 hs9
      refine hK.out _ _ ?_ (fun hHeld => ?_)
      · exact HELD.out _ HB99.out
      clear hK K
      refine takeH (i := 14) (v := ?_) rfl rfl (by kernel_rfl) (by kernel_rfl) (by kernel_rfl) (fun _ _ _ h => h) (by rfl) ?_ hHeld ?_
      rotate_left
      · (intro w hSw; (try dsimp only at hSw); first | (go_simp; done) | (go_simp; with_reducible rfl))
      simp only [Act.put, List.setIfInBounds_toArray, List.set_cons_zero, List.set_cons_succ]
      refine takeH (i := 15) (v := ?_) rfl rfl (by kernel_rfl) (by kernel_rfl) (by kernel_rfl) (fun _ _ _ h => h) (by rfl) ?_ hHeld ?_
      rotate_left
      · (intro w hSw; (try dsimp only at hSw); first | (go_simp; done) | (go_simp; with_reducible rfl))
      simp only [Act.put, List.setIfInBounds_toArray, List.set_cons_zero, List.set_cons_succ]
      refine wpAnyH_done (by kernel_rfl) ?_ _
      go_wp2
      go_meet
      case rel =>
        obtain ⟨x, hx⟩ := HBX.out
        exact ⟨y1.heap.size, x, rfl, rfl, rfl, hx, HB99.out⟩
  case rest =>
    obtain ⟨g, x, rfl, rfl, rfl, hu, hbx⟩ := hcut
    have HU := Lib.hid hu
    have HB3 := Lib.hid (HB2.out.trans (hbx.mono HB2.out.size))
    replace HX := Lib.hid (HX.out.on hbx)
    replace HS := Lib.hid (HS.out.on hbx)
    clear hu hbx p0 p1 d0 hb2B HRI HCX
    obtain ⟨w4, hw4⟩ : ∃ w4, w4 = wc := ⟨_, rfl⟩
    subst hw4
    have hql : Hid (x.n2 = q) := by show _ = _; rw [← HU.out.tb.fc.len]; exact HCL.out
    go_wp2_with (go_at_call 16; refine (num_any _ _).mono ?_; rintro e w' ⟨rfl, rfl⟩)
    go_loopw [11] (fun i wr => ∃ j : Nat, i = .int .i64 j ∧ j ≤ q + 1 ∧ Below w4.heap.size w4 wr) (fun i _ => q + 1 - (intOf i).toNat)
    case atStart => exact ⟨0, rfl, by omega, Below.refl _ _⟩
    case round =>
      obtain ⟨j, rfl, hj, hbw⟩ := hrel
      have HBW := Lib.hid hbw
      have HXR := Lib.hid (HX.out.on hbw)
      have HUR := Lib.hid (HU.out.on hbw)
      have HSR := Lib.hid (HS.out.on hbw)
      clear hbw
      have p0 := HXR.out.c0
      have p1 := HXR.out.c1
      dsimp only at p0 p1
      by_cases hlt : j < q + 1
      · obtain ⟨b3, o3, A3, c3, hA3, hb3B, d0, hri, _⟩ := HXR.out.tb.fc.one (i := j) hlt
        dsimp only at hA3
        injection hA3 with hA3
        injection hA3 with e1 e2
        subst e1 e2
        obtain ⟨r, hrr⟩ : ∃ r, r = rowOf t.facts j := ⟨_, rfl⟩
        rw [← hrr] at d0 hri
        have HRI := Lib.hid hri
        obtain ⟨⟨h1, h2⟩, h3, h4⟩ := HALL.out j (by rw [HLEN.out]; exact hlt)
        have er : fcAt t j = r := hrr.symm
        rw [er] at h1 h2 h3 h4
        have H1 := Lib.hid h1
        have H2 := Lib.hid h2
        have H3 := Lib.hid h3
        have H4 := Lib.hid h4
        have j1 : (j : Int) < (q : Int) + 1 := by omega
        have j0 : (0 : Int) ≤ (j : Int) := by omega
        have HELD : Hid (∀ y, Below wr.heap.size wr y → y.cell? ⟨w.heap.size, 0, none⟩ = some (.slice v1 s1 d1) ∧ y.cell? ⟨w.heap.size, 1, none⟩ = some (.slice (some ⟨b2, o2, none⟩) (q + 1) d2) ∧ y.cell? ⟨g, 0, none⟩ = some (.slice x.A1 x.n1 x.c1) ∧ y.cell? ⟨g, 1, none⟩ = some (.slice x.A2 x.n2 x.c2) ∧ y.cell? ⟨b2, o2 + j, none⟩ = some (.slice A3 r.length c3)) := fun y e => ⟨(HXR.out.on e).c0, (HXR.out.on e).c1, (HUR.out.on e).c0, (HUR.out.on e).c1, by rw [e.cell (p := ⟨b2, o2 + j, none⟩) hb3B]; exact d0⟩
        clear h1 h2 h3 h4 er hri hrr
        go_wp2_with fail
        have hd : Below wr.heap.size wr wr.drew := (Below.refl wr.heap.size wr).drew
        have hS := HELD.out _ hd
        refine wp_region_held_drew (S := (fun y => y.cell? ⟨w.heap.size, 0, none⟩ = some (.slice v1 s1 d1) ∧ y.cell? ⟨w.heap.size, 1, none⟩ = some (.slice (some ⟨b2, o2, none⟩) (q + 1) d2) ∧ y.cell? ⟨g, 0, none⟩ = some (.slice x.A1 x.n1 x.c1) ∧ y.cell? ⟨g, 1, none⟩ = some (.slice x.A2 x.n2 x.c2) ∧ y.cell? ⟨b2, o2 + j, none⟩ = some (.slice A3 r.length c3))) (by kernel_rfl) hS (fun hHeld => ?_)
        clear hS
        obtain ⟨y1, hy1⟩ : ∃ y1, y1 = wr.drew := ⟨_, rfl⟩
        rw [← hy1] at hd hHeld ⊢
        have HD := Lib.hid hd
        clear hy1 hd
        refine takeH (i := 0) (v := ?_) rfl rfl (by kernel_rfl) (by kernel_rfl) (by kernel_rfl) (fun _ _ _ h => h) (by rfl) ?_ hHeld ?_
        rotate_left
        · (intro w hSw; (try dsimp only at hSw); first | (go_simp; done) | (go_simp; with_reducible rfl))
        simp only [Act.put, List.setIfInBounds_toArray, List.set_cons_zero, List.set_cons_succ]
        refine takeH (i := 1) (v := ?_) rfl rfl (by kernel_rfl) (by kernel_rfl) (by kernel_rfl) (fun _ _ _ h => h) (by rfl) ?_ hHeld ?_
        rotate_left
        · (intro w hSw; (try dsimp only at hSw); first | (go_simp; done) | (go_simp; with_reducible rfl))
        simp only [Act.put, List.setIfInBounds_toArray, List.set_cons_zero, List.set_cons_succ]
        refine takeH (i := 2) (v := ?_) rfl rfl (by kernel_rfl) (by kernel_rfl) (by kernel_rfl) (fun _ _ _ h => h) (by rfl) ?_ hHeld ?_
        rotate_left
        · (intro w hSw; (try dsimp only at hSw); first | (go_simp; done) | (go_simp; with_reducible rfl))
        simp only [Act.put, List.setIfInBounds_toArray, List.set_cons_zero, List.set_cons_succ]
        refine takeH (i := 3) (v := ?_) rfl rfl (by kernel_rfl) (by kernel_rfl) (by kernel_rfl) (fun _ _ _ h => h) (by rfl) ?_ hHeld ?_
        rotate_left
        · (intro w hSw; (try dsimp only at hSw); first | (go_simp; done) | (go_simp; with_reducible rfl))
        simp only [Act.put, List.setIfInBounds_toArray, List.set_cons_zero, List.set_cons_succ]
        refine takeH (i := 4) (v := ?_) rfl rfl (by kernel_rfl) (by kernel_rfl) (by kernel_rfl) (fun _ _ _ h => h) (by rfl) ?_ hHeld ?_
        rotate_left
        · (intro w hSw; (try dsimp only at hSw); first | (go_simp; done) | (go_simp; with_reducible rfl))
        simp only [Act.put, List.setIfInBounds_toArray, List.set_cons_zero, List.set_cons_succ]
        refine takeH (i := 5) (v := ?_) rfl rfl (by kernel_rfl) (by kernel_rfl) (by kernel_rfl) (fun _ _ _ h => h) (by rfl) ?_ hHeld ?_
        rotate_left
        · (intro w hSw; (try dsimp only at hSw); first | (go_simp; done) | (go_simp; with_reducible rfl))
        simp only [Act.put, List.setIfInBounds_toArray, List.set_cons_zero, List.set_cons_succ]
        refine takeH (i := 6) (v := ?_) rfl rfl (by kernel_rfl) (by kernel_rfl) (by kernel_rfl) (fun _ _ _ h => h) (by rfl) ?_ hHeld ?_
        rotate_left
        · (intro w hSw; (try dsimp only at hSw); first | (go_simp; done) | (go_simp; with_reducible rfl))
        simp only [Act.put, List.setIfInBounds_toArray, List.set_cons_zero, List.set_cons_succ]
        refine wpAnyH_ready (rs := [7]) (by kernel_rfl) (by simp) ?_
        refine AllReadyH.cons rfl (fun K hK => ?_) AllReadyH.nil
        go_simp
        refine (has_fact A A3 n cp r.length c3 ss ⟨v1, s1, d1, some ⟨b2, o2, none⟩, q + 1, d2⟩ t r _ (HSR.out.on HD.out) hn hnc (HXR.out.on HD.out).tb (HRI.out.on HD.out).at_ HRI.out.big HRI.out.cap).mono ?_
        rintro e w5 ⟨rfl, hb⟩
        rw [H1.out, H2.out]
        have HD2 := Lib.hid (HD.out.trans (hb.mono HD.out.size))
        go_wp2_with fail
        refine hK.out _ _ ?_ (fun hHeld => ?_)
        · exact HELD.out _ HD2.out
        clear hK K
        refine takeH (i := 8) (v := ?_) rfl rfl (by kernel_rfl) (by kernel_rfl) (by kernel_rfl) (fun _ _ _ h => h) (by rfl) ?_ hHeld ?_
        rotate_left
        · (intro w hSw; (try dsimp only at hSw); first | (go_simp; done) | (go_simp; with_reducible rfl))
        simp only [Act.put, List.setIfInBounds_toArray, List.set_cons_zero, List.set_cons_succ]
        refine takeH (i := 9) (v := ?_) rfl rfl (by kernel_rfl) (by kernel_rfl) (by kernel_rfl) (fun _ _ _ h => h) (by rfl) ?_ hHeld ?_
        rotate_left
        · (intro w hSw; (try dsimp only at hSw); first | (go_simp; done) | (go_simp; with_reducible rfl))
        simp only [Act.put, List.setIfInBounds_toArray, List.set_cons_zero, List.set_cons_succ]
        refine takeH (i := 10) (v := ?_) rfl rfl (by kernel_rfl) (by kernel_rfl) (by kernel_rfl) (fun _ _ _ h => h) (by rfl) ?_ hHeld ?_
        rotate_left
        · (intro w hSw; (try dsimp only at hSw); first | (go_simp; done) | (go_simp; with_reducible rfl))
        simp only [Act.put, List.setIfInBounds_toArray, List.set_cons_zero, List.set_cons_succ]
        refine takeH (i := 11) (v := ?_) rfl rfl (by kernel_rfl) (by kernel_rfl) (by kernel_rfl) (fun _ _ _ h => h) (by rfl) ?_ hHeld ?_
        rotate_left
        · (intro w hSw; (try dsimp only at hSw); first | (go_simp; done) | (go_simp; with_reducible rfl))
        simp only [Act.put, List.setIfInBounds_toArray, List.set_cons_zero, List.set_cons_succ]
        refine takeH (i := 12) (v := ?_) rfl rfl (by kernel_rfl) (by kernel_rfl) (by kernel_rfl) (fun _ _ _ h => h) (by rfl) ?_ hHeld ?_
        rotate_left
        · (intro w hSw; (try dsimp only at hSw); first | (go_simp; done) | (go_simp; with_reducible rfl))
        simp only [Act.put, List.setIfInBounds_toArray, List.set_cons_zero, List.set_cons_succ]
        refine wpAnyH_done (by kernel_rfl) ?_ _
        clear hHeld
        replace HELD : Hid (∀ y, Below w5.heap.size w5 y → y.cell? ⟨w.heap.size, 0, none⟩ = some (.slice v1 s1 d1) ∧ y.cell? ⟨w.heap.size, 1, none⟩ = some (.slice (some ⟨b2, o2, none⟩) (q + 1) d2) ∧ y.cell? ⟨g, 0, none⟩ = some (.slice x.A1 x.n1 x.c1) ∧ y.cell? ⟨g, 1, none⟩ = some (.slice x.A2 x.n2 x.c2) ∧ y.cell? ⟨b2, o2 + j, none⟩ = some (.slice A3 r.length c3)) := fun y e => HELD.out y (HD2.out.trans (e.mono HD2.out.size))
        replace HUR := Lib.hid (HUR.out.on HD2.out)
        replace HSR := Lib.hid (HSR.out.on HD2.out)
        replace HRI := Lib.hid (HRI.out.on HD2.out)
        replace HBW := Lib.hid (HBW.out.trans (HD2.out.mono HBW.out.size))
        clear hb HD HD2 HXR p0 p1 d0 hb3B
        by_cases hjz : j = z
        · have H3' : Hid (hasV' ss TC r = false) := by show _ = _; rw [H3.out]; exact decide_eq_false (fun q => q hjz)
          have hne : ((j : Int) != (z : Int)) = false := by simp [hjz]
          clear hjz
          go_wp2_with fail
          have hd : Below w5.heap.size w5 w5.drew := (Below.refl w5.heap.size w5).drew
          have hS := HELD.out _ hd
          refine wp_region_held_drew (S := (fun y => y.cell? ⟨w.heap.size, 0, none⟩ = some (.slice v1 s1 d1) ∧ y.cell? ⟨w.heap.size, 1, none⟩ = some (.slice (some ⟨b2, o2, none⟩) (q + 1) d2) ∧ y.cell? ⟨g, 0, none⟩ = some (.slice x.A1 x.n1 x.c1) ∧ y.cell? ⟨g, 1, none⟩ = some (.slice x.A2 x.n2 x.c2) ∧ y.cell? ⟨b2, o2 + j, none⟩ = some (.slice A3 r.length c3))) (by kernel_rfl) hS (fun hHeld => ?_)
          clear hS
          obtain ⟨y1, hy1⟩ : ∃ y1, y1 = w5.drew := ⟨_, rfl⟩
          rw [← hy1] at hd hHeld ⊢
          have HD := Lib.hid hd
          clear hy1 hd
          refine takeH (i := 0) (v := ?_) rfl rfl (by kernel_rfl) (by kernel_rfl) (by kernel_rfl) (fun _ _ _ h => h) (by rfl) ?_ hHeld ?_
          rotate_left
          · (intro w hSw; (try dsimp only at hSw); first | (go_simp; done) | (go_simp; with_reducible rfl))
          simp only [Act.put, List.setIfInBounds_toArray, List.set_cons_zero, List.set_cons_succ]
          refine takeH (i := 1) (v := ?_) rfl rfl (by kernel_rfl) (by kernel_rfl) (by kernel_rfl) (fun _ _ _ h => h) (by rfl) ?_ hHeld ?_
          rotate_left
          · (intro w hSw; (try dsimp only at hSw); first | (go_simp; done) | (go_simp; with_reducible rfl))
          simp only [Act.put, List.setIfInBounds_toArray, List.set_cons_zero, List.set_cons_succ]
          refine takeH (i := 2) (v := ?_) rfl rfl (by kernel_rfl) (by kernel_rfl) (by kernel_rfl) (fun _ _ _ h => h) (by rfl) ?_ hHeld ?_
          rotate_left
          · (intro w hSw; (try dsimp only at hSw); first | (go_simp; done) | (go_simp; with_reducible rfl))
          simp only [Act.put, List.setIfInBounds_toArray, List.set_cons_zero, List.set_cons_succ]
          refine takeH (i := 3) (v := ?_) rfl rfl (by kernel_rfl) (by kernel_rfl) (by kernel_rfl) (fun _ _ _ h => h) (by rfl) ?_ hHeld ?_
          rotate_left
          · (intro w hSw; (try dsimp only at hSw); first | (go_simp; done) | (go_simp; with_reducible rfl))
          simp only [Act.put, List.setIfInBounds_toArray, List.set_cons_zero, List.set_cons_succ]
          refine takeH (i := 4) (v := ?_) rfl rfl (by kernel_rfl) (by kernel_rfl) (by kernel_rfl) (fun _ _ _ h => h) (by rfl) ?_ hHeld ?_
          rotate_left
          · (intro w hSw; (try dsimp only at hSw); first | (go_simp; done) | (go_simp; with_reducible rfl))
          simp only [Act.put, List.setIfInBounds_toArray, List.set_cons_zero, List.set_cons_succ]
          refine takeH (i := 5) (v := ?_) rfl rfl (by kernel_rfl) (by kernel_rfl) (by kernel_rfl) (fun _ _ _ h => h) (by rfl) ?_ hHeld ?_
          rotate_left
          · (intro w hSw; (try dsimp only at hSw); first | (go_simp; done) | (go_simp; with_reducible rfl))
          simp only [Act.put, List.setIfInBounds_toArray, List.set_cons_zero, List.set_cons_succ]
          refine takeH (i := 6) (v := ?_) rfl rfl (by kernel_rfl) (by kernel_rfl) (by kernel_rfl) (fun _ _ _ h => h) (by rfl) ?_ hHeld ?_
          rotate_left
          · (intro w hSw; (try dsimp only at hSw); first | (go_simp; done) | (go_simp; with_reducible rfl))
          simp only [Act.put, List.setIfInBounds_toArray, List.set_cons_zero, List.set_cons_succ]
          refine wpAnyH_ready (rs := [7]) (by kernel_rfl) (by simp) ?_
          refine AllReadyH.cons rfl (fun K hK => ?_) AllReadyH.nil
          go_simp
          refine (has_fact A A3 n cp r.length c3 ss x TC r _ (HSR.out.on HD.out) hn hnc (HUR.out.on HD.out).tb (HRI.out.on HD.out).at_ HRI.out.big HRI.out.cap).mono ?_
          rintro e w6 ⟨rfl, hb⟩
          rw [H3'.out, H4.out]
          have HD2 := Lib.hid (HD.out.trans (hb.mono HD.out.size))
          go_wp2_with fail
          refine hK.out _ _ ?_ (fun hHeld => ?_)
          · exact HELD.out _ HD2.out
          clear hK K
          refine takeH (i := 8) (v := ?_) rfl rfl (by kernel_rfl) (by kernel_rfl) (by kernel_rfl) (fun _ _ _ h => h) (by rfl) ?_ hHeld ?_
          rotate_left
          · (intro w hSw; (try dsimp only at hSw); first | (go_simp; done) | (go_simp; with_reducible rfl))
          simp only [Act.put, List.setIfInBounds_toArray, List.set_cons_zero, List.set_cons_succ]
          refine takeH (i := 9) (v := ?_) rfl rfl (by kernel_rfl) (by kernel_rfl) (by kernel_rfl) (fun _ _ _ h => h) (by rfl) ?_ hHeld ?_
          rotate_left
          · (intro w hSw; (try dsimp only at hSw); first | (go_simp; done) | (go_simp; with_reducible rfl))
          simp only [Act.put, List.setIfInBounds_toArray, List.set_cons_zero, List.set_cons_succ]
          refine takeH (i := 10) (v := ?_) rfl rfl (by kernel_rfl) (by kernel_rfl) (by kernel_rfl) (fun _ _ _ h => h) (by rfl) ?_ hHeld ?_
          rotate_left
          · (intro w hSw; (try dsimp only at hSw); first | (go_simp; done) | (go_simp; with_reducible rfl))
          simp only [Act.put, List.setIfInBounds_toArray, List.set_cons_zero, List.set_cons_succ]
          refine takeH (i := 11) (v := ?_) rfl rfl (by kernel_rfl) (by kernel_rfl) (by kernel_rfl) (fun _ _ _ h => h) (by rfl) ?_ hHeld ?_
          rotate_left
          · (intro w hSw; (try dsimp only at hSw); first | (go_simp; done) | (go_simp; with_reducible rfl))
          simp only [Act.put, List.setIfInBounds_toArray, List.set_cons_zero, List.set_cons_succ]
          refine takeH (i := 12) (v := ?_) rfl rfl (by kernel_rfl) (by kernel_rfl) (by kernel_rfl) (fun _ _ _ h => h) (by rfl) ?_ hHeld ?_
          rotate_left
          · (intro w hSw; (try dsimp only at hSw); first | (go_simp; done) | (go_simp; with_reducible rfl))
          simp only [Act.put, List.setIfInBounds_toArray, List.set_cons_zero, List.set_cons_succ]
          refine wpAnyH_done (by kernel_rfl) ?_ _
          clear hHeld
          replace HBW := Lib.hid (HBW.out.trans (HD2.out.mono HBW.out.size))
          clear hb HD HD2
          go_wp2_with (go_at_call 16; refine (num_any _ _).mono ?_; rintro e w' ⟨rfl, rfl⟩)
          go_roundw
          case rel => exact ⟨j + 1, by go_num, by omega, HBW.out⟩
          case measure => simp [intOf]; omega
        · have H3' : Hid (hasV' ss TC r = true) := by show _ = _; rw [H3.out]; exact decide_eq_true hjz
          have hne : ((j : Int) != (z : Int)) = true := by simp; omega
          clear hjz
          go_wp2_with fail
          have hd : Below w5.heap.size w5 w5.drew := (Below.refl w5.heap.size w5).drew
          have hS := HELD.out _ hd
          refine wp_region_held_drew (S := (fun y => y.cell? ⟨w.heap.size, 0, none⟩ = some (.slice v1 s1 d1) ∧ y.cell? ⟨w.heap.size, 1, none⟩ = some (.slice (some ⟨b2, o2, none⟩) (q + 1) d2) ∧ y.cell? ⟨g, 0, none⟩ = some (.slice x.A1 x.n1 x.c1) ∧ y.cell? ⟨g, 1, none⟩ = some (.slice x.A2 x.n2 x.c2) ∧ y.cell? ⟨b2, o2 + j, none⟩ = some (.slice A3 r.length c3))) (by kernel_rfl) hS (fun hHeld => ?_)
          clear hS
          obtain ⟨y1, hy1⟩ : ∃ y1, y1 = w5.drew := ⟨_, rfl⟩
          rw [← hy1] at hd hHeld ⊢
          have HD := Lib.hid hd
          clear hy1 hd
          refine takeH (i := 0) (v := ?_) rfl rfl (by kernel_rfl) (by kernel_rfl) (by kernel_rfl) (fun _ _ _ h => h) (by rfl) ?_ hHeld ?_
          rotate_left
          · (intro w hSw; (try dsimp only at hSw); first | (go_simp; done) | (go_simp; with_reducible rfl))
          simp only [Act.put, List.setIfInBounds_toArray, List.set_cons_zero, List.set_cons_succ]
          refine takeH (i := 1) (v := ?_) rfl rfl (by kernel_rfl) (by kernel_rfl) (by kernel_rfl) (fun _ _ _ h => h) (by rfl) ?_ hHeld ?_
          rotate_left
          · (intro w hSw; (try dsimp only at hSw); first | (go_simp; done) | (go_simp; with_reducible rfl))
          simp only [Act.put, List.setIfInBounds_toArray, List.set_cons_zero, List.set_cons_succ]
          refine takeH (i := 2) (v := ?_) rfl rfl (by kernel_rfl) (by kernel_rfl) (by kernel_rfl) (fun _ _ _ h => h) (by rfl) ?_ hHeld ?_
          rotate_left
          · (intro w hSw; (try dsimp only at hSw); first | (go_simp; done) | (go_simp; with_reducible rfl))
          simp only [Act.put, List.setIfInBounds_toArray, List.set_cons_zero, List.set_cons_succ]
          refine takeH (i := 3) (v := ?_) rfl rfl (by kernel_rfl) (by kernel_rfl) (by kernel_rfl) (fun _ _ _ h => h) (by rfl) ?_ hHeld ?_
          rotate_left
          · (intro w hSw; (try dsimp only at hSw); first | (go_simp; done) | (go_simp; with_reducible rfl))
          simp only [Act.put, List.setIfInBounds_toArray, List.set_cons_zero, List.set_cons_succ]
          refine takeH (i := 4) (v := ?_) rfl rfl (by kernel_rfl) (by kernel_rfl) (by kernel_rfl) (fun _ _ _ h => h) (by rfl) ?_ hHeld ?_
          rotate_left
          · (intro w hSw; (try dsimp only at hSw); first | (go_simp; done) | (go_simp; with_reducible rfl))
          simp only [Act.put, List.setIfInBounds_toArray, List.set_cons_zero, List.set_cons_succ]
          refine takeH (i := 5) (v := ?_) rfl rfl (by kernel_rfl) (by kernel_rfl) (by kernel_rfl) (fun _ _ _ h => h) (by rfl) ?_ hHeld ?_
          rotate_left
          · (intro w hSw; (try dsimp only at hSw); first | (go_simp; done) | (go_simp; with_reducible rfl))
          simp only [Act.put, List.setIfInBounds_toArray, List.set_cons_zero, List.set_cons_succ]
          refine takeH (i := 6) (v := ?_) rfl rfl (by kernel_rfl) (by kernel_rfl) (by kernel_rfl) (fun _ _ _ h => h) (by rfl) ?_ hHeld ?_
          rotate_left
          · (intro w hSw; (try dsimp only at hSw); first | (go_simp; done) | (go_simp; with_reducible rfl))
          simp only [Act.put, List.setIfInBounds_toArray, List.set_cons_zero, List.set_cons_succ]
          refine wpAnyH_ready (rs := [7]) (by kernel_rfl) (by simp) ?_
          refine AllReadyH.cons rfl (fun K hK => ?_) AllReadyH.nil
          go_simp
          refine (has_fact A A3 n cp r.length c3 ss x TC r _ (HSR.out.on HD.out) hn hnc (HUR.out.on HD.out).tb (HRI.out.on HD.out).at_ HRI.out.big HRI.out.cap).mono ?_
          rintro e w6 ⟨rfl, hb⟩
          rw [H3'.out, H4.out]
          have HD2 := Lib.hid (HD.out.trans (hb.mono HD.out.size))
          go_wp2_with fail
          refine hK.out _ _ ?_ (fun hHeld => ?_)
          · exact HELD.out _ HD2.out
          clear hK K
          refine takeH (i := 8) (v := ?_) rfl rfl (by kernel_rfl) (by kernel_rfl) (by kernel_rfl) (fun _ _ _ h => h) (by rfl) ?_ hHeld ?_
          rotate_left
          · (intro w hSw; (try dsimp only at hSw); first | (go_simp; done) | (go_simp; with_reducible rfl))
          simp only [Act.put, List.setIfInBounds_toArray, List.set_cons_zero, List.set_cons_succ]
          refine takeH (i := 9) (v := ?_) rfl rfl (by kernel_rfl) (by kernel_rfl) (by kernel_rfl) (fun _ _ _ h => h) (by rfl) ?_ hHeld ?_
          rotate_left
          · (intro w hSw; (try dsimp only at hSw); first | (go_simp; done) | (go_simp; with_reducible rfl))
          simp only [Act.put, List.setIfInBounds_toArray, List.set_cons_zero, List.set_cons_succ]
          refine takeH (i := 10) (v := ?_) rfl rfl (by kernel_rfl) (by kernel_rfl) (by kernel_rfl) (fun _ _ _ h => h) (by rfl) ?_ hHeld ?_
          rotate_left
          · (intro w hSw; (try dsimp only at hSw); first | (go_simp; done) | (go_simp; with_reducible rfl))
          simp only [Act.put, List.setIfInBounds_toArray, List.set_cons_zero, List.set_cons_succ]
          refine takeH (i := 11) (v := ?_) rfl rfl (by kernel_rfl) (by kernel_rfl) (by kernel_rfl) (fun _ _ _ h => h) (by rfl) ?_ hHeld ?_
          rotate_left
          · (intro w hSw; (try dsimp only at hSw); first | (go_simp; done) | (go_simp; with_reducible rfl))
          simp only [Act.put, List.setIfInBounds_toArray, List.set_cons_zero, List.set_cons_succ]
          refine takeH (i := 12) (v := ?_) rfl rfl (by kernel_rfl) (by kernel_rfl) (by kernel_rfl) (fun _ _ _ h => h) (by rfl) ?_ hHeld ?_
          rotate_left
          · (intro w hSw; (try dsimp only at hSw); first | (go_simp; done) | (go_simp; with_reducible rfl))
          simp only [Act.put, List.setIfInBounds_toArray, List.set_cons_zero, List.set_cons_succ]
          refine wpAnyH_done (by kernel_rfl) ?_ _
          clear hHeld
          replace HBW := Lib.hid (HBW.out.trans (HD2.out.mono HBW.out.size))
          clear hb HD HD2
          go_wp2_with (go_at_call 16; refine (num_any _ _).mono ?_; rintro e w' ⟨rfl, rfl⟩)
          go_roundw
          case rel => exact ⟨j + 1, by go_num, by omega, HBW.out⟩
          case measure => simp [intOf]; omega
      · obtain rfl : j = q + 1 := by omega
        have u1 := (HUR.out.c1)
        rw [hql.out] at u1
        go_wp2
        go_ret
        exact ⟨rfl, HB3.out.trans (HBW.out.mono HB3.out.size)⟩
end Go.Proofs.Ythnjpkghjkhjdaa
