/-
  Contract of package fact: Put.
-/
import Derived.Test.YthnjpkghjkhjdaaFactP0
import Derived.Test.YthnjpkghjkhjdaaFactHas
namespace Go.Proofs.Ythnjpkghjkhjdaa
open Go.RowKit Go.Deep
set_option linter.unusedSimpArgs false
set_option linter.unusedVariables false
set_option maxRecDepth 100000

set_option maxHeartbeats 8000000 in
theorem put_fact (A A' : Option Addr) (n cp m c' : Nat) (ss : List Sym) (v : Tv) (t : Tb) (a : List Int) (T : Tb) (b : Bool) (E : Int) (hpx : PutX ss t a T b E) (w : World) (h : SymsAt w w.heap.size A n ss) (hn : n ≤ maxLen) (hnc : n ≤ cp) (hc : TabAt w w.heap.size v t) (hr : IntsAt w w.heap.size A' m a) (hm : m ≤ maxLen) (hmc : m ≤ c') :
    Calls Try.prog 21 #[.slice A n cp, v.val, .slice A' m c'] w (Tab3 T b E w) := by
  have HPX := Lib.hid hpx
  have HS := Lib.hid h
  have HR := Lib.hid hr
  have HC := Lib.hid hc
  have hx := TwoB.new w v
  obtain ⟨w0, hw0⟩ : ∃ w0, w0 = (w.alloc v.obj).alloc (.cells #[.slice none 0 0, .slice none 0 0] 26) := ⟨_, rfl⟩
  rw [← hw0] at hx
  have HX := Lib.hid hx
  rw [Tv.val_eq]
  unfold Tv.obj at hw0
  obtain ⟨A1, n1, c1, A2, n2, c2⟩ := v
  dsimp only at hw0 ⊢
  clear hpx h hr hc hx
  go_enter Try.func21, Try.ntmps21
  go_upto_region 1 with (fail)
  rw [← hw0]
  clear hw0
  have p0 := HX.out.c0
  have p1 := HX.out.c1
  dsimp only at p0 p1
  go_wp2_with fail
  refine (mayF_any A n cp ss ⟨A1, n1, c1, A2, n2, c2⟩ t _ (HS.out.on HX.out.bel) hn hnc (HC.out.on HX.out.bel)).mono ?_
  rintro e w1 ⟨rfl, hb1⟩
  replace HX := Lib.hid (HX.out.on hb1)
  clear p0 p1 hb1
  have p0 := HX.out.c0
  have p1 := HX.out.c1
  dsimp only at p0 p1
  cases htb : tabB ss t
  · have HN := Lib.hid (okT_no1 (a := a) htb)
    clear htb p0 p1
    obtain ⟨rfl, rfl, rfl⟩ := HPX.out.is_bad HN.out
    go_wp2_with (refine store_box rfl 26 (.tmp 6) (.tmp 20) rfl rfl (w.heap.size + 1) _ _ rfl rfl HX.out.b1 rfl (by kernel_rfl) two_one ?_
                 intro w9 hg9 hc9 hs9
                 have HG9 := Lib.hid hg9
                 have HC9 := Lib.hid hc9
                 clear hg9 hc9 hs9)
    refine tab_ret (g := w.heap.size + 1) (x := .bool false) (y := .int .i64 1100) rfl rfl rfl rfl rfl HG9.out rfl ?_
    have hfin : Below w.heap.size w w9 := HX.out.bel.trans (HC9.out.bel.mono (Nat.le_succ _))
    exact ⟨_, rfl, OwnTs.zero hfin.size, hfin⟩
  have HT := Lib.hid htb
  clear htb
  go_wp2_with fail
  refine (isFact_any A A' n cp m c' ss a _ (HS.out.on HX.out.bel) hn hnc (HR.out.on HX.out.bel) hm hmc).mono ?_
  rintro e w2 ⟨rfl, hb2⟩
  replace HX := Lib.hid (HX.out.on hb2)
  clear p0 p1 hb2
  have p0 := HX.out.c0
  have p1 := HX.out.c1
  dsimp only at p0 p1
  cases hfb : factB ss a
  · have HN := Lib.hid (okT_no2 (t := t) hfb)
    clear hfb p0 p1
    obtain ⟨rfl, rfl, rfl⟩ := HPX.out.is_bad HN.out
    go_wp2_with (refine store_box rfl 26 (.tmp 6) (.tmp 20) rfl rfl (w.heap.size + 1) _ _ rfl rfl HX.out.b1 rfl (by kernel_rfl) two_one ?_
                 intro w9 hg9 hc9 hs9
                 have HG9 := Lib.hid hg9
                 have HC9 := Lib.hid hc9
                 clear hg9 hc9 hs9)
    refine tab_ret (g := w.heap.size + 1) (x := .bool false) (y := .int .i64 1100) rfl rfl rfl rfl rfl HG9.out rfl ?_
    have hfin : Below w.heap.size w w9 := HX.out.bel.trans (HC9.out.bel.mono (Nat.le_succ _))
    exact ⟨_, rfl, OwnTs.zero hfin.size, hfin⟩
  have HFC := Lib.hid (factB_c hfb)
  have HOK := Lib.hid (tabB_true HT.out).2
  have HOT := Lib.hid (okT_yes HT.out hfb)
  have h32 : n1 = 32 := by have := HOK.out.len; rw [HC.out.sl.len] at this; exact this
  have hn24 : n2 ≤ 24 := by have := HOK.out.few; rw [HC.out.fc.len] at this; exact this
  have HSM := Lib.hid HOK.out.small
  subst h32
  clear hfb
  go_wp2_with fail
  refine (slotOf_any A' m c' ⟨A1, 32, c1, A2, n2, c2⟩ t a _ (HC.out.on HX.out.bel) rfl HOK.out.rng (HR.out.on HX.out.bel) HFC.out).mono ?_
  rintro e w3 ⟨rfl, hb3⟩
  replace HX := Lib.hid (HX.out.on hb3)
  clear p0 p1 hb3
  have p0 := HX.out.c0
  have p1 := HX.out.c1
  dsimp only at p0 p1
  have hsm := HOK.out.slot_mem (a := a)
  obtain ⟨s, hs⟩ : ∃ s, s = slotR t a := ⟨_, rfl⟩
  rw [← hs] at hsm ⊢
  by_cases g1 : a ∈ t.facts
  · have g2 : 0 ≤ s := hsm.2 g1
    have HIS := Lib.hid (HPX.out.is_there HOT.out g1)
    clear hsm g1 hs
    go_wp2_with fail
    refine (cloneT_any ⟨A1, 32, c1, A2, n2, c2⟩ t _ (HC.out.on HX.out.bel) HSM.out).mono ?_
    rintro e w4 ⟨v4, rfl, hv4, hb4⟩
    obtain ⟨D, d, F, f, e4⟩ := hv4.parts
    obtain ⟨l1, hl1⟩ : ∃ l1, l1 = t.slots.length := ⟨_, rfl⟩
    obtain ⟨l2, hl2⟩ : ∃ l2, l2 = t.facts.length := ⟨_, rfl⟩
    rw [← hl1, ← hl2] at e4
    subst e4
    have HV4 := Lib.hid (hv4.lower HX.out.bel.size)
    replace HX := Lib.hid (HX.out.on hb4)
    clear p0 p1 hb4 hv4 hl1 hl2
    obtain ⟨rfl, rfl, rfl⟩ := HIS.out
    go_wp2_with (refine store_box rfl 26 (.tmp 6) (.tmp 26) rfl rfl (w.heap.size + 1) _ _ rfl rfl HX.out.b1 rfl (by kernel_rfl) two_one ?_
                 intro w9 hg9 hc9 hs9
                 have HG9 := Lib.hid hg9
                 have HC9 := Lib.hid hc9
                 clear hg9 hc9 hs9)
    refine tab_ret (g := w.heap.size + 1) (x := .bool false) (y := .int .i64 0) rfl rfl rfl rfl rfl HG9.out rfl ?_
    have hfin : Below w.heap.size w w9 := HX.out.bel.trans (HC9.out.bel.mono (Nat.le_succ _))
    exact ⟨_, rfl, HV4.out.chg HC9.out, hfin⟩
  have g2 : ¬ 0 ≤ s := fun q => g1 (hsm.1 q)
  have HNM := Lib.hid g1
  clear hsm hs g1
  by_cases g3 : n2 = 24
  · have HIS := Lib.hid (HPX.out.is_full HOT.out HNM.out (by rw [HC.out.fc.len]; exact g3))
    obtain ⟨rfl, rfl, rfl⟩ := HIS.out
    subst g3
    go_wp2_with (refine store_box rfl 26 (.tmp 6) (.tmp 31) rfl rfl (w.heap.size + 1) _ _ rfl rfl HX.out.b1 rfl (by kernel_rfl) two_one ?_
                 intro w9 hg9 hc9 hs9
                 have HG9 := Lib.hid hg9
                 have HC9 := Lib.hid hc9
                 clear hg9 hc9 hs9)
    refine tab_ret (g := w.heap.size + 1) (x := .bool false) (y := .int .i64 1101) rfl rfl rfl rfl rfl HG9.out rfl ?_
    have hfin : Below w.heap.size w w9 := HX.out.bel.trans (HC9.out.bel.mono (Nat.le_succ _))
    exact ⟨_, rfl, OwnTs.zero hfin.size, hfin⟩
  have HIS := Lib.hid (HPX.out.is_done HOT.out HNM.out (by rw [HC.out.fc.len]; exact g3))
  have g4 : ((n2 : Int) == 24) = false := by rw [beq_eq_false_iff_ne]; omega
  have g5 : ¬ (n2 : Int) = 24 := by omega
  go_wp2_with fail
  refine (cloneT_any ⟨A1, 32, c1, A2, n2, c2⟩ t _ (HC.out.on HX.out.bel) HSM.out).mono ?_
  rintro e w4 ⟨v4, rfl, hv4, hb4⟩
  obtain ⟨D, d9, F, f9, e4⟩ := hv4.parts
  rw [HOK.out.len, HC.out.fc.len] at e4
  dsimp only at e4
  subst e4
  have HV4 := Lib.hid (hv4.lower HX.out.bel.size)
  replace HX := Lib.hid (HX.out.on hb4)
  obtain ⟨g, hg⟩ : ∃ g, g = w4.heap.size := ⟨_, rfl⟩
  have HG := Lib.hid hg
  clear p0 p1 hb4 hv4 hg
  go_wp2_with (refine store_box rfl 26 (.tmp 9) (.tmp 33) rfl rfl w4.heap.size _ _ rfl rfl (heap_alloc_new w4 (.cells #[.slice none 0 0, .slice none 0 0] 26)) rfl (by kernel_rfl) two_one ?_
               intro w5 hg5 hc5 hs5
               have HG5 := Lib.hid hg5
               have HC5 := Lib.hid hc5
               clear hg5 hc5 hs5)
  obtain ⟨M, hF⟩ := TabV.of_store HV4.out HX.out.bel HG.out (by rw [HG.out]; exact HG5.out) (by rw [HG.out]; exact HC5.out)
  obtain ⟨bS, hD, -⟩ := hF.slot (i := 0) (by rw [HOK.out.len]; omega) 0
  dsimp only at hD
  subst hD
  have HF := Lib.hid hF
  have HGL : Hid (w.heap.size + 1 < g) := by show _ < _; rw [HG.out]; exact HX.out.sz
  replace HX := Lib.hid (HX.out.keep (keep_new HG.out (by rw [HG.out]; exact HC5.out)) HGL.out hF.bel)
  clear hF HG5 HC5 HV4
  rw [← HG.out]
  clear HG
  obtain ⟨d, hd32, hsl, hbf, rfl, rfl, rfl⟩ := HIS.out
  have HSL := Lib.hid hsl
  have HBF := Lib.hid hbf
  clear hsl hbf HIS
  have hd : Below w5.heap.size w5 w5.drew := (Below.refl w5.heap.size w5).drew
  have HF7 := Lib.hid (HF.out.on hd)
  have HX7 := Lib.hid (HX.out.on hd)
  have p0 := HX.out.c0
  have p1 := HX.out.c1
  have u0 := HF.out.c0
  dsimp only at p0 p1 u0
  refine wp_region_held_drew (S := (fun w' => w'.cell? ⟨w.heap.size, 0, none⟩ = some (.slice A1 32 c1) ∧ w'.cell? ⟨w.heap.size, 1, none⟩ = some (.slice A2 n2 c2) ∧ w'.cell? ⟨g, 0, none⟩ = some (.slice (some ⟨bS, 0, none⟩) 32 d9))) (by kernel_rfl) ⟨p0, p1, u0⟩ (fun hHeld => ?_)
  obtain ⟨w7, hw7⟩ : ∃ w7, w7 = w5.drew := ⟨_, rfl⟩
  rw [← hw7] at HF7 HX7 hHeld ⊢
  clear hw7 hd HF HX p0 p1 u0
  refine takeH (i := 0) (v := ?_) rfl rfl (by kernel_rfl) (by kernel_rfl) (by kernel_rfl) (fun _ _ _ h => h) (by rfl) ?_ hHeld ?_
  rotate_left
  · (intro w hSw; (try dsimp only at hSw); first | (go_simp; done) | (go_simp; with_reducible rfl))
  simp only [Act.put, List.setIfInBounds_toArray, List.set_cons_zero, List.set_cons_succ]
  refine takeH (i := 1) (v := ?_) rfl rfl (by kernel_rfl) (by kernel_rfl) (by kernel_rfl) (fun _ _ _ h => h) (by rfl) ?_ hHeld ?_
  rotate_left
  · (intro w hSw; (try dsimp only at hSw); first | (go_simp; done) | (go_simp; with_reducible rfl))
  simp only [Act.put, List.setIfInBounds_toArray, List.set_cons_zero, List.set_cons_succ]
  refine takeH (i := 2) (v := ?_) rfl rfl (by kernel_rfl) (by kernel_rfl) (by kernel_rfl) (fun _ _ _ h => h) (by rfl) ?_ hHeld ?_
  rotate_left
  · (intro w hSw; (try dsimp only at hSw); first | (go_simp; done) | (go_simp; with_reducible rfl))
  simp only [Act.put, List.setIfInBounds_toArray, List.set_cons_zero, List.set_cons_succ]
  refine takeH (i := 3) (v := ?_) rfl rfl (by kernel_rfl) (by kernel_rfl) (by kernel_rfl) (fun _ _ _ h => h) (by rfl) ?_ hHeld ?_
  rotate_left
  · (intro w hSw; (try dsimp only at hSw); first | (go_simp; done) | (go_simp; with_reducible rfl))
  simp only [Act.put, List.setIfInBounds_toArray, List.set_cons_zero, List.set_cons_succ]
  refine takeH (i := 5) (v := ?_) rfl rfl (by kernel_rfl) (by kernel_rfl) (by kernel_rfl) (fun _ _ _ h => h) (by rfl) ?_ hHeld ?_
  rotate_left
  · (intro w hSw; (try dsimp only at hSw); first | (go_simp; done) | (go_simp; with_reducible rfl))
  simp only [Act.put, List.setIfInBounds_toArray, List.set_cons_zero, List.set_cons_succ]
  refine takeH (i := 6) (v := ?_) rfl rfl (by kernel_rfl) (by kernel_rfl) (by kernel_rfl) (fun _ _ _ h => h) (by rfl) ?_ hHeld ?_
  rotate_left
  · (intro w hSw; (try dsimp only at hSw); first | (go_simp; done) | (go_simp; with_reducible rfl))
  simp only [Act.put, List.setIfInBounds_toArray, List.set_cons_zero, List.set_cons_succ]
  refine takeH (i := 7) (v := ?_) rfl rfl (by kernel_rfl) (by kernel_rfl) (by kernel_rfl) (fun _ _ _ h => h) (by rfl) ?_ hHeld ?_
  rotate_left
  · (intro w hSw; (try dsimp only at hSw); first | (go_simp; done) | (go_simp; with_reducible rfl))
  simp only [Act.put, List.setIfInBounds_toArray, List.set_cons_zero, List.set_cons_succ]
  refine wpAnyH_ready (rs := [4]) (by kernel_rfl) (by simp) ?_
  refine AllReadyH.cons rfl (fun K hK => ?_) AllReadyH.nil
  go_simp
  refine (openSlot_any A' m c' ⟨A1, 32, c1, A2, n2, c2⟩ t a d _ (HC.out.on HX7.out.bel) rfl (HR.out.on HX7.out.bel) HFC.out hd32 HSL.out HBF.out).mono ?_
  rintro e w8 ⟨rfl, hb8⟩
  replace HF7 := Lib.hid (HF7.out.on hb8)
  replace HX7 := Lib.hid (HX7.out.on hb8)
  clear hb8
  have p0 := HX7.out.c0
  have p1 := HX7.out.c1
  have u0 := HF7.out.c0
  dsimp only at p0 p1 u0
  obtain ⟨p, hp⟩ : ∃ p, p = atF a d := ⟨_, rfl⟩
  have hp32 : p < 32 := by rw [hp]; exact atF_lt
  have hpi : (p : Int) < 32 := by omega
  have hpj : (0 : Int) ≤ (p : Int) := by omega
  rw [← hp]
  have HP := Lib.hid hp
  clear hp
  go_wp2_with fail
  refine hK.out _ _ ?_ (fun hHeld => ?_)
  · exact ⟨p0, p1, u0⟩
  clear hK K p0 p1 u0
  refine takeH (i := 8) (v := ?_) rfl rfl (by kernel_rfl) (by kernel_rfl) (by kernel_rfl) (fun _ _ _ h => h) (by rfl) ?_ hHeld ?_
  rotate_left
  · (intro w hSw; (try dsimp only at hSw); first | (go_simp; done) | (go_simp; with_reducible rfl))
  simp only [Act.put, List.setIfInBounds_toArray, List.set_cons_zero, List.set_cons_succ]
  obtain ⟨bS2, eb, cc, ff, hF9, hk9⟩ := HF7.out.slot (i := p) (by rw [HOK.out.len]; exact hp32) (n2 : Int)
  dsimp only at eb
  injection eb with eb
  injection eb with eb
  subst eb
  have hx9 := HX7.out.keep hk9 HGL.out hF9.bel
  refine wpAnyH_ready (rs := [9]) (by kernel_rfl) (by simp) ?_
  refine AllReadyH.cons rfl (fun K hK => ?_) AllReadyH.nil
  refine put_cell_step rfl 3 (.tmp 42) (.tmp 41) rfl rfl bS p (.int .i64 (n2 : Int)) _ rfl rfl rfl rfl cc ff (by kernel_rfl) ?_
  obtain ⟨w9, hw9⟩ : ∃ w9, w9 = w8.setCell ⟨bS, p, none⟩ (.int .i64 (n2 : Int)) := ⟨_, rfl⟩
  rw [← hw9] at hF9 hx9 ⊢
  have HF9 := Lib.hid hF9
  have HX9 := Lib.hid hx9
  have p0 := hx9.c0
  have p1 := hx9.c1
  have u0 := hF9.c0
  dsimp only at p0 p1 u0
  clear hw9 hF9 hx9 hk9 cc ff HF7 HX7
  refine hK.out _ _ ?_ (fun hHeld => ?_)
  · exact ⟨p0, p1, u0⟩
  clear hK K p0 p1 u0
  refine wpAnyH_done (by kernel_rfl) ?_ _
  go_wp2_with fail
  have hm49 : m ≤ 49 := by rw [← HR.out.len]; exact HFC.out.len
  have HNA : Hid (A' = none → m = 0 ∧ c' = 0) := fun q => by
    exfalso
    obtain ⟨b', off', e', _⟩ := HR.out.at_ (by rw [← HR.out.len]; exact HFC.out.pos)
    rw [q] at e'; cases e'
  have HML := Lib.hid HR.out.len
  have HLT : Hid (t.facts.length < 25) := by show _ < _; rw [HC.out.fc.len]; show n2 < 25; omega
  have hd : Below w9.heap.size w9 w9.drew := (Below.refl w9.heap.size w9).drew
  have HF4 := Lib.hid (HF9.out.on hd)
  have HX4 := Lib.hid (HX9.out.on hd)
  refine wp_region_held_drew (S := (fun _ => True)) (by kernel_rfl) trivial (fun hHeld => ?_)
  obtain ⟨w4, hw4⟩ : ∃ w4, w4 = w9.drew := ⟨_, rfl⟩
  rw [← hw4] at HF4 HX4 ⊢
  have HR4 := Lib.hid (HR.out.on HX4.out.bel)
  have u4 := HF4.out.c1
  dsimp only at u4
  clear hw4 hd HF9 HX9
  refine takeH (i := 0) (v := ?_) rfl rfl (by kernel_rfl) (by kernel_rfl) (by kernel_rfl) (fun _ _ _ h => h) (by rfl) ?_ hHeld ?_
  rotate_left
  · (intro w hSw; (try dsimp only at hSw); first | (go_simp; done) | (go_simp; with_reducible rfl))
  simp only [Act.put, List.setIfInBounds_toArray, List.set_cons_zero, List.set_cons_succ]
  refine takeH (i := 2) (v := ?_) rfl rfl (by kernel_rfl) (by kernel_rfl) (by kernel_rfl) (fun _ _ _ h => h) (by rfl) ?_ hHeld ?_
  rotate_left
  · (intro w hSw; (try dsimp only at hSw); first | (go_simp; done) | (go_simp; with_reducible rfl))
  simp only [Act.put, List.setIfInBounds_toArray, List.set_cons_zero, List.set_cons_succ]
  refine wpAnyH_ready (rs := [1, 3]) (by kernel_rfl) (by simp) ?_
  refine AllReadyH.cons rfl (fun K hK => ?_) (AllReadyH.cons rfl (fun K hK => ?_) AllReadyH.nil)
  · go_simp
    refine hK.out _ _ ?_ (fun hHeld => ?_)
    · trivial
    clear hK K
    refine wpAnyH_ready (rs := [3]) (by kernel_rfl) (by simp) ?_
    refine AllReadyH.cons rfl (fun K hK => ?_) AllReadyH.nil
    go_simp
    refine (clone_any A' m c' a _ (HR4.out) HNA.out (by omega)).mono ?_
    rintro e w5 ⟨v5, rfl, hv5, hb5⟩
    obtain ⟨A5, c5, e5⟩ := hv5.value
    obtain ⟨L5, hL5⟩ : ∃ L5, L5 = a.length := ⟨_, rfl⟩
    rw [← hL5] at e5
    subst e5
    have HV5 := Lib.hid (hv5.lower HF4.out.mx)
    have HF5 := Lib.hid (HF4.out.on hb5)
    have HX5 := Lib.hid (HX4.out.on hb5)
    have u5 := HF5.out.c1
    clear hv5 hb5 u4 hL5
    go_wp2_with fail
    refine hK.out _ _ ?_ (fun hHeld => ?_)
    · trivial
    clear hK K
    refine wpAnyH_ready (rs := [4]) (by kernel_rfl) (by simp) ?_
    refine AllReadyH.cons rfl (fun K hK => ?_) AllReadyH.nil
    go_simp
    refine hK.out _ _ ?_ (fun hHeld => ?_)
    · trivial
    clear hK K
    obtain ⟨vs, hv1, hvr⟩ := HF5.out.b.vals
    have hvl : vs.length + 1 ≤ 5864062014634 := by rw [hvr.1]; exact Nat.le_trans (Nat.succ_le_of_lt HLT.out) (by omega)
    have HRS := Lib.hid (hvr.snoc HV5.out)
    have HOW := Lib.hid hv1
    clear hv1 hvr
    refine wpAnyH_ready (rs := [5]) (by kernel_rfl) (by simp) ?_
    refine AllReadyH.cons rfl (fun K hK => ?_) AllReadyH.nil
    refine app_rowv_step rfl (.tmp 44) (.tmp 47) rfl M _ vs _ rfl HOW.out rfl rfl rfl hvl HF5.out.mx ?_
    intro v6 w6 hown6 hc6
    obtain ⟨D, L9, e9, rfl, b0, b1, q3, q4, -⟩ := TabV.app HF5.out hown6 hc6 HRS.out
    have HF6 := Lib.hid q3
    have HX6 := Lib.hid (HX5.out.keep q4 HGL.out q3.bel)
    clear q3 q4 hown6 hc6
    refine hK.out _ _ ?_ (fun hHeld => ?_)
    · trivial
    clear hK K
    refine takeH (i := 6) (v := ?_) rfl rfl (by kernel_rfl) (by kernel_rfl) (by kernel_rfl) (fun _ _ _ h => h) (by rfl) ?_ hHeld ?_
    rotate_left
    · (intro w hSw; (try dsimp only at hSw); first | (go_simp; done) | (go_simp; with_reducible rfl))
    simp only [Act.put, List.setIfInBounds_toArray, List.set_cons_zero, List.set_cons_succ]
    refine wpAnyH_ready (rs := [7]) (by kernel_rfl) (by simp) ?_
    refine AllReadyH.cons rfl (fun K hK => ?_) AllReadyH.nil
    refine put_cell_step rfl 24 (.tmp 49) (.tmp 48) rfl rfl g 1 (.slice D L9 e9) _ rfl rfl rfl rfl b0 b1 (by kernel_rfl) ?_
    refine hK.out _ _ ?_ (fun hHeld => ?_)
    · trivial
    clear hK K
    refine wpAnyH_done (by kernel_rfl) ?_ _
    clear b0 b1 u5
    have u0 := HF6.out.c0
    have u1 := HF6.out.c1
    have HX := Lib.hid HX6.out
    go_wp2_with (refine store_box rfl 26 (.tmp 6) (.tmp 50) rfl rfl (w.heap.size + 1) _ _ rfl rfl HX.out.b1 rfl (by kernel_rfl) two_one ?_
                 intro w9 hg9 hc9 hs9
                 have HG9 := Lib.hid hg9
                 have HC9 := Lib.hid hc9
                 clear hg9 hc9 hs9)
    refine tab_ret (g := w.heap.size + 1) (x := .bool true) (y := .int .i64 0) rfl rfl rfl rfl rfl HG9.out rfl ?_
    have hfin : Below w.heap.size w w9 := HX.out.bel.trans (HC9.out.bel.mono (Nat.le_succ _))
    have HE : Hid (putT t a d = ⟨t.slots.set p (n2 : Int), t.facts ++ [a]⟩) := by show _ = _; unfold putT; rw [← HP.out, HC.out.fc.len]
    rw [HE.out]
    exact ⟨_, rfl, HF6.out.own.chg HC9.out, hfin⟩
  · go_simp
    refine (clone_any A' m c' a _ (HR4.out) HNA.out (by omega)).mono ?_
    rintro e w5 ⟨v5, rfl, hv5, hb5⟩
    obtain ⟨A5, c5, e5⟩ := hv5.value
    obtain ⟨L5, hL5⟩ : ∃ L5, L5 = a.length := ⟨_, rfl⟩
    rw [← hL5] at e5
    subst e5
    have HV5 := Lib.hid (hv5.lower HF4.out.mx)
    have HF5 := Lib.hid (HF4.out.on hb5)
    have HX5 := Lib.hid (HX4.out.on hb5)
    have u5 := HF5.out.c1
    clear hv5 hb5 u4 hL5
    go_wp2_with fail
    refine hK.out _ _ ?_ (fun hHeld => ?_)
    · trivial
    clear hK K
    refine wpAnyH_ready (rs := [1, 4]) (by kernel_rfl) (by simp) ?_
    refine AllReadyH.cons rfl (fun K hK => ?_) (AllReadyH.cons rfl (fun K hK => ?_) AllReadyH.nil)
    · go_simp
      refine hK.out _ _ ?_ (fun hHeld => ?_)
      · trivial
      clear hK K
      refine wpAnyH_ready (rs := [4]) (by kernel_rfl) (by simp) ?_
      refine AllReadyH.cons rfl (fun K hK => ?_) AllReadyH.nil
      go_simp
      refine hK.out _ _ ?_ (fun hHeld => ?_)
      · trivial
      clear hK K
      obtain ⟨vs, hv1, hvr⟩ := HF5.out.b.vals
      have hvl : vs.length + 1 ≤ 5864062014634 := by rw [hvr.1]; exact Nat.le_trans (Nat.succ_le_of_lt HLT.out) (by omega)
      have HRS := Lib.hid (hvr.snoc HV5.out)
      have HOW := Lib.hid hv1
      clear hv1 hvr
      refine wpAnyH_ready (rs := [5]) (by kernel_rfl) (by simp) ?_
      refine AllReadyH.cons rfl (fun K hK => ?_) AllReadyH.nil
      refine app_rowv_step rfl (.tmp 44) (.tmp 47) rfl M _ vs _ rfl HOW.out rfl rfl rfl hvl HF5.out.mx ?_
      intro v6 w6 hown6 hc6
      obtain ⟨D, L9, e9, rfl, b0, b1, q3, q4, -⟩ := TabV.app HF5.out hown6 hc6 HRS.out
      have HF6 := Lib.hid q3
      have HX6 := Lib.hid (HX5.out.keep q4 HGL.out q3.bel)
      clear q3 q4 hown6 hc6
      refine hK.out _ _ ?_ (fun hHeld => ?_)
      · trivial
      clear hK K
      refine takeH (i := 6) (v := ?_) rfl rfl (by kernel_rfl) (by kernel_rfl) (by kernel_rfl) (fun _ _ _ h => h) (by rfl) ?_ hHeld ?_
      rotate_left
      · (intro w hSw; (try dsimp only at hSw); first | (go_simp; done) | (go_simp; with_reducible rfl))
      simp only [Act.put, List.setIfInBounds_toArray, List.set_cons_zero, List.set_cons_succ]
      refine wpAnyH_ready (rs := [7]) (by kernel_rfl) (by simp) ?_
      refine AllReadyH.cons rfl (fun K hK => ?_) AllReadyH.nil
      refine put_cell_step rfl 24 (.tmp 49) (.tmp 48) rfl rfl g 1 (.slice D L9 e9) _ rfl rfl rfl rfl b0 b1 (by kernel_rfl) ?_
      refine hK.out _ _ ?_ (fun hHeld => ?_)
      · trivial
      clear hK K
      refine wpAnyH_done (by kernel_rfl) ?_ _
      clear b0 b1 u5
      have u0 := HF6.out.c0
      have u1 := HF6.out.c1
      have HX := Lib.hid HX6.out
      go_wp2_with (refine store_box rfl 26 (.tmp 6) (.tmp 50) rfl rfl (w.heap.size + 1) _ _ rfl rfl HX.out.b1 rfl (by kernel_rfl) two_one ?_
                   intro w9 hg9 hc9 hs9
                   have HG9 := Lib.hid hg9
                   have HC9 := Lib.hid hc9
                   clear hg9 hc9 hs9)
      refine tab_ret (g := w.heap.size + 1) (x := .bool true) (y := .int .i64 0) rfl rfl rfl rfl rfl HG9.out rfl ?_
      have hfin : Below w.heap.size w w9 := HX.out.bel.trans (HC9.out.bel.mono (Nat.le_succ _))
      have HE : Hid (putT t a d = ⟨t.slots.set p (n2 : Int), t.facts ++ [a]⟩) := by show _ = _; unfold putT; rw [← HP.out, HC.out.fc.len]
      rw [HE.out]
      exact ⟨_, rfl, HF6.out.own.chg HC9.out, hfin⟩
    · go_simp
      refine hK.out _ _ ?_ (fun hHeld => ?_)
      · trivial
      clear hK K
      have u6 : (w5.alloc (.cells #[.slice A5 L5 c5] 23)).cell? ⟨g, 1, none⟩ = some (.slice F n2 f9) := (HF5.out.on (below_new w5 _)).c1
      refine wpAnyH_ready (rs := [1]) (by kernel_rfl) (by simp) ?_
      refine AllReadyH.cons rfl (fun K hK => ?_) AllReadyH.nil
      go_simp
      refine hK.out _ _ ?_ (fun hHeld => ?_)
      · trivial
      clear hK K u6
      obtain ⟨vs, hv1, hvr⟩ := HF5.out.b.vals
      have hvl : vs.length + 1 ≤ 5864062014634 := by rw [hvr.1]; exact Nat.le_trans (Nat.succ_le_of_lt HLT.out) (by omega)
      have HRS := Lib.hid (hvr.snoc HV5.out)
      have HOW := Lib.hid hv1
      clear hv1 hvr
      refine wpAnyH_ready (rs := [5]) (by kernel_rfl) (by simp) ?_
      refine AllReadyH.cons rfl (fun K hK => ?_) AllReadyH.nil
      refine app_rowv_step rfl (.tmp 44) (.tmp 47) rfl M _ vs _ rfl HOW.out rfl rfl rfl hvl HF5.out.mx ?_
      intro v6 w6 hown6 hc6
      obtain ⟨D, L9, e9, rfl, b0, b1, q3, q4, -⟩ := TabV.app HF5.out hown6 hc6 HRS.out
      have HF6 := Lib.hid q3
      have HX6 := Lib.hid (HX5.out.keep q4 HGL.out q3.bel)
      clear q3 q4 hown6 hc6
      refine hK.out _ _ ?_ (fun hHeld => ?_)
      · trivial
      clear hK K
      refine takeH (i := 6) (v := ?_) rfl rfl (by kernel_rfl) (by kernel_rfl) (by kernel_rfl) (fun _ _ _ h => h) (by rfl) ?_ hHeld ?_
      rotate_left
      · (intro w hSw; (try dsimp only at hSw); first | (go_simp; done) | (go_simp; with_reducible rfl))
      simp only [Act.put, List.setIfInBounds_toArray, List.set_cons_zero, List.set_cons_succ]
      refine wpAnyH_ready (rs := [7]) (by kernel_rfl) (by simp) ?_
      refine AllReadyH.cons rfl (fun K hK => ?_) AllReadyH.nil
      refine put_cell_step rfl 24 (.tmp 49) (.tmp 48) rfl rfl g 1 (.slice D L9 e9) _ rfl rfl rfl rfl b0 b1 (by kernel_rfl) ?_
      refine hK.out _ _ ?_ (fun hHeld => ?_)
      · trivial
      clear hK K
      refine wpAnyH_done (by kernel_rfl) ?_ _
      clear b0 b1 u5
      have u0 := HF6.out.c0
      have u1 := HF6.out.c1
      have HX := Lib.hid HX6.out
      go_wp2_with (refine store_box rfl 26 (.tmp 6) (.tmp 50) rfl rfl (w.heap.size + 1) _ _ rfl rfl HX.out.b1 rfl (by kernel_rfl) two_one ?_
                   intro w9 hg9 hc9 hs9
                   have HG9 := Lib.hid hg9
                   have HC9 := Lib.hid hc9
                   clear hg9 hc9 hs9)
      refine tab_ret (g := w.heap.size + 1) (x := .bool true) (y := .int .i64 0) rfl rfl rfl rfl rfl HG9.out rfl ?_
      have hfin : Below w.heap.size w w9 := HX.out.bel.trans (HC9.out.bel.mono (Nat.le_succ _))
      have HE : Hid (putT t a d = ⟨t.slots.set p (n2 : Int), t.facts ++ [a]⟩) := by show _ = _; unfold putT; rw [← HP.out, HC.out.fc.len]
      rw [HE.out]
      exact ⟨_, rfl, HF6.out.own.chg HC9.out, hfin⟩
end Go.Proofs.Ythnjpkghjkhjdaa
