/-
  Contract of the reference: Put.
-/
import Derived.Test.YthnjpkghjkhjdaaFactP0
import Derived.Test.YthnjpkghjkhjdaaFactM
import Derived.Test.YthnjpkghjkhjdaaFactCo
import Derived.Test.YthnjpkghjkhjdaaFactHas
namespace Go.Proofs.Ythnjpkghjkhjdaa
open Go.RowKit Go.Deep
set_option linter.unusedSimpArgs false
set_option linter.unusedVariables false
set_option maxRecDepth 100000

set_option maxHeartbeats 8000000 in
theorem put_ref (A A' : Option Addr) (n cp m c' : Nat) (ss : List Sym) (v : Tv) (t : Tb) (a : List Int) (T : Tb) (b : Bool) (E : Int) (hpx : PutX ss t a T b E) (w : World) (h : SymsAt w w.heap.size A n ss) (hn : n ≤ maxLen) (hc : TabAt w w.heap.size v t) (hr : IntsAt w w.heap.size A' m a) (hm : m ≤ maxLen) (hmc : m ≤ c') :
    Calls Try.prog 22 #[.slice A n cp, v.val, .slice A' m c'] w (Tab3 T b E w) := by
  have HPX := Lib.hid hpx
  have HS := Lib.hid h
  have HR := Lib.hid hr
  have HC := Lib.hid hc
  have hx := TwoB.new w v
  obtain ⟨w0, hw0⟩ : ∃ w0, w0 = (w.alloc v.obj).alloc (.cells #[.slice none 0 0, .slice none 0 0] 26) := ⟨_, rfl⟩
  rw [← hw0] at hx
  have HX := Lib.hid hx
  rw [Tv.val_eq]
  unfold Tv.obj at hw0
  obtain ⟨A1, n1, c1, A2, n2, c2⟩ := v
  dsimp only at hw0 ⊢
  clear hpx h hr hc hx
  go_enter Try.func22, Try.ntmps22
  go_upto_region 1 with (fail)
  rw [← hw0]
  clear hw0
  have p0 := HX.out.c0
  have p1 := HX.out.c1
  dsimp only at p0 p1
  go_wp2_with fail
  refine (refMayT_any A n cp ss ⟨A1, n1, c1, A2, n2, c2⟩ t _ (HS.out.on HX.out.bel) hn (HC.out.on HX.out.bel)).mono ?_
  rintro e w1 ⟨rfl, hb1⟩
  replace HX := Lib.hid (HX.out.on hb1)
  clear p0 p1 hb1
  have p0 := HX.out.c0
  have p1 := HX.out.c1
  dsimp only at p0 p1
  cases htb : tabB ss t
  · have HN := Lib.hid (okT_no1 (a := a) htb)
    clear htb p0 p1
    obtain ⟨rfl, rfl, rfl⟩ := HPX.out.is_bad HN.out
    go_wp2_with (refine store_box rfl 26 (.tmp 6) (.tmp 21) rfl rfl (w.heap.size + 1) _ _ rfl rfl HX.out.b1 rfl (by kernel_rfl) two_one ?_
                 intro w9 hg9 hc9 hs9
                 have HG9 := Lib.hid hg9
                 have HC9 := Lib.hid hc9
                 clear hg9 hc9 hs9)
    refine tab_ret (g := w.heap.size + 1) (x := .bool false) (y := .int .i64 1100) rfl rfl rfl rfl rfl HG9.out rfl ?_
    have hfin : Below w.heap.size w w9 := HX.out.bel.trans (HC9.out.bel.mono (Nat.le_succ _))
    exact ⟨_, rfl, OwnTs.zero hfin.size, hfin⟩
  have HT := Lib.hid htb
  clear htb
  go_wp2_with fail
  refine (refIsFact_any A A' n cp m c' ss a _ (HS.out.on HX.out.bel) hn (HR.out.on HX.out.bel) hm hmc).mono ?_
  rintro e w2 ⟨rfl, hb2⟩
  replace HX := Lib.hid (HX.out.on hb2)
  clear p0 p1 hb2
  have p0 := HX.out.c0
  have p1 := HX.out.c1
  dsimp only at p0 p1
  cases hfb : factB ss a
  · have HN := Lib.hid (okT_no2 (t := t) hfb)
    clear hfb p0 p1
    obtain ⟨rfl, rfl, rfl⟩ := HPX.out.is_bad HN.out
    go_wp2_with (refine store_box rfl 26 (.tmp 6) (.tmp 21) rfl rfl (w.heap.size + 1) _ _ rfl rfl HX.out.b1 rfl (by kernel_rfl) two_one ?_
                 intro w9 hg9 hc9 hs9
                 have HG9 := Lib.hid hg9
                 have HC9 := Lib.hid hc9
                 clear hg9 hc9 hs9)
    refine tab_ret (g := w.heap.size + 1) (x := .bool false) (y := .int .i64 1100) rfl rfl rfl rfl rfl HG9.out rfl ?_
    have hfin : Below w.heap.size w w9 := HX.out.bel.trans (HC9.out.bel.mono (Nat.le_succ _))
    exact ⟨_, rfl, OwnTs.zero hfin.size, hfin⟩
  have HFC := Lib.hid (factB_c hfb)
  have HOK := Lib.hid (tabB_true HT.out).2
  have HOT := Lib.hid (okT_yes HT.out hfb)
  have h32 : n1 = 32 := by have := HOK.out.len; rw [HC.out.sl.len] at this; exact this
  have hn24 : n2 ≤ 24 := by have := HOK.out.few; rw [HC.out.fc.len] at this; exact this
  have HSM := Lib.hid HOK.out.small
  subst h32
  clear hfb
  go_wp2_with fail
  refine (refCopyT_any ⟨A1, 32, c1, A2, n2, c2⟩ t _ (HC.out.on HX.out.bel) HSM.out).mono ?_
  rintro e w4 ⟨v4, rfl, hv4, hb4⟩
  obtain ⟨D, d9, F, f9, e4⟩ := hv4.parts
  rw [HOK.out.len, HC.out.fc.len] at e4
  dsimp only at e4
  subst e4
  have HV4 := Lib.hid (hv4.lower HX.out.bel.size)
  replace HX := Lib.hid (HX.out.on hb4)
  obtain ⟨g, hg⟩ : ∃ g, g = w4.heap.size := ⟨_, rfl⟩
  have HG := Lib.hid hg
  clear p0 p1 hb4 hv4 hg
  have HGL : Hid (w.heap.size + 1 < g) := by show _ < _; rw [HG.out]; exact HX.out.sz
  have HM : Hid (∃ M, ∀ w5, w5.heap[g]? = some (.cells #[.slice D 32 d9, .slice F n2 f9] 26 (0, 0)) → Chg [26] g (w4.alloc (.cells #[.slice none 0 0, .slice none 0 0] 26)) w5 → TabV w M g t ⟨D, 32, d9, F, n2, f9⟩ w5 ∧ TwoB w ⟨A1, 32, c1, A2, n2, c2⟩ w5) := copy_box HV4.out HX.out HG.out
  obtain ⟨M, hM⟩ := HM.out
  have HMM := Lib.hid hM
  clear hM HM
  go_wp2_with (refine store_box rfl 26 (.tmp 9) (.tmp 23) rfl rfl w4.heap.size _ _ rfl rfl (heap_alloc_new w4 (.cells #[.slice none 0 0, .slice none 0 0] 26)) rfl (by kernel_rfl) two_one ?_
               intro w5 hg5 hc5 hs5
               obtain ⟨hF, hX⟩ := HMM.out w5 (by rw [HG.out]; exact hg5) (by rw [HG.out]; exact hc5)
               have HF := Lib.hid hF
               replace HX := Lib.hid hX
               have p0 := hX.c0
               have p1 := hX.c1
               dsimp only at p0 p1
               clear hg5 hc5 hs5 hF hX)
  rw [← HG.out]
  clear HG HMM HV4
  refine (refWhere_any A' m c' ⟨A1, 32, c1, A2, n2, c2⟩ t a _ (HC.out.on HX.out.bel) (HR.out.on HX.out.bel) hm).mono ?_
  rintro e w3 ⟨rfl, hb3⟩
  replace HX := Lib.hid (HX.out.on hb3)
  replace HF := Lib.hid (HF.out.on hb3)
  clear p0 p1 hb3
  have p0 := HX.out.c0
  have p1 := HX.out.c1
  dsimp only at p0 p1
  have u0 := HF.out.c0
  have u1 := HF.out.c1
  dsimp only at u0 u1
  have hsm := HOK.out.where_mem (a := a)
  obtain ⟨s, hs⟩ : ∃ s, s = whereR t a := ⟨_, rfl⟩
  rw [← hs] at hsm ⊢
  by_cases g1 : a ∈ t.facts
  · have g2 : 0 ≤ s := hsm.2 g1
    have HIS := Lib.hid (HPX.out.is_there HOT.out g1)
    clear hsm g1 hs
    obtain ⟨rfl, rfl, rfl⟩ := HIS.out
    go_wp2_with (refine store_box rfl 26 (.tmp 6) (.tmp 28) rfl rfl (w.heap.size + 1) _ _ rfl rfl HX.out.b1 rfl (by kernel_rfl) two_one ?_
                 intro w9 hg9 hc9 hs9
                 have HG9 := Lib.hid hg9
                 have HC9 := Lib.hid hc9
                 clear hg9 hc9 hs9)
    refine tab_ret (g := w.heap.size + 1) (x := .bool false) (y := .int .i64 0) rfl rfl rfl rfl rfl HG9.out rfl ?_
    have hfin : Below w.heap.size w w9 := HX.out.bel.trans (HC9.out.bel.mono (Nat.le_succ _))
    exact ⟨_, rfl, HF.out.own.chg HC9.out, hfin⟩
  have g2 : ¬ 0 ≤ s := fun q => g1 (hsm.1 q)
  have HNM := Lib.hid g1
  clear hsm hs g1
  by_cases g3 : n2 = 24
  · have HIS := Lib.hid (HPX.out.is_full HOT.out HNM.out (by rw [HC.out.fc.len]; exact g3))
    obtain ⟨rfl, rfl, rfl⟩ := HIS.out
    subst g3
    go_wp2_with (refine store_box rfl 26 (.tmp 6) (.tmp 33) rfl rfl (w.heap.size + 1) _ _ rfl rfl HX.out.b1 rfl (by kernel_rfl) two_one ?_
                 intro w9 hg9 hc9 hs9
                 have HG9 := Lib.hid hg9
                 have HC9 := Lib.hid hc9
                 clear hg9 hc9 hs9)
    refine tab_ret (g := w.heap.size + 1) (x := .bool false) (y := .int .i64 1101) rfl rfl rfl rfl rfl HG9.out rfl ?_
    have hfin : Below w.heap.size w w9 := HX.out.bel.trans (HC9.out.bel.mono (Nat.le_succ _))
    exact ⟨_, rfl, OwnTs.zero hfin.size, hfin⟩
  have HIS := Lib.hid (HPX.out.is_done HOT.out HNM.out (by rw [HC.out.fc.len]; exact g3))
  have g4 : ¬ (24 : Int) ≤ (n2 : Int) := by omega
  obtain ⟨d, hd32, hsl, hbf, rfl, rfl, rfl⟩ := HIS.out
  have HSL := Lib.hid hsl
  have HBF := Lib.hid hbf
  clear hsl hbf HIS
  obtain ⟨bS, hD, -⟩ := HF.out.slot (i := 0) (by rw [HOK.out.len]; omega) 0
  dsimp only at hD
  subst hD
  have hm49 : m ≤ 49 := by rw [← HR.out.len]; exact HFC.out.len
  go_wp2_with fail
  refine (refSum_any A' m c' _ a _ (HR.out.on HX.out.bel) HFC.out).mono ?_
  rintro e w6 ⟨rfl, rfl⟩
  obtain ⟨h, hh⟩ : ∃ h, h = hashF a := ⟨_, rfl⟩
  have hlt9 : h < 1009 := by rw [hh]; exact hashF_lt a
  have HH : Hid (∀ e, atF a e = (h + e) % 32) := fun e => by rw [hh]; rfl
  rw [← hh]
  clear hh
  go_wp2_with fail
  go_loop [10] (fun i => ∃ k p : Nat, i = .int .i64 p ∧ k ≤ d ∧ Hid (p = (h + k) % 32)) (fun i => ((h + d) % 32 + 32 - (intOf i).toNat) % 32)
  case atStart => exact ⟨0, h % 32, by go_num, by omega, Lib.hid (p := h % 32 = (h + 0) % 32) rfl⟩
  case round =>
    obtain ⟨k, p, rfl, hk, HP⟩ := hrel
    have hp32 : p < 32 := by have := HP.out; omega
    obtain ⟨bS2, eb, hcx, ff, -⟩ := HF.out.slot (i := p) (by rw [HOK.out.len]; exact hp32) 0
    dsimp only at eb
    injection eb with eb
    injection eb with eb
    subst eb
    obtain ⟨x, hx⟩ : ∃ x, x = slAt t p := ⟨_, rfl⟩
    replace hcx : w3.cell? ⟨bS, p, none⟩ = some (.int .i64 x) := by rw [hx]; exact hcx
    have HXX : Hid (x = slAt t (atF a k)) := by show _ = _; rw [HH.out, ← HP.out, hx]
    have k1 : (p : Int) < 32 := by omega
    have k0 : (0 : Int) ≤ (p : Int) := by omega
    clear hx
    by_cases hkd : k = d
    case neg =>
      have g1 : 0 ≤ x := by rw [HXX.out]; exact HBF.out k (by omega)
      clear ff
      go_wp2
      go_round
      case rel => exact ⟨k + 1, (p + 1) % 32, by go_num, by omega, by show _ = _; have := HP.out; omega⟩
      case measure => simp [intOf]; have := HP.out; omega
    subst hkd
    have g1 : ¬ 0 ≤ x := by have := HSL.out; rw [← HXX.out] at this; omega
    have HPP : Hid (p = atF a k) := by show _ = _; rw [HH.out, ← HP.out]
    clear HP
    clear hcx ff
    obtain ⟨bS2, eb, cc, ff, hF9, hk9⟩ := HF.out.slot (i := p) (by rw [HOK.out.len]; exact hp32) (n2 : Int)
    dsimp only at eb
    injection eb with eb
    injection eb with eb
    subst eb
    have hcx : w3.cell? ⟨bS, p, none⟩ = some (.int .i64 x) := by
      rw [cc, HXX.out, ← HPP.out]; rfl
    have hx9 := HX.out.keep hk9 HGL.out hF9.bel
    have HF6 := Lib.hid hF9
    have HX6 := Lib.hid hx9
    clear hF9 hx9 hk9 cc
    go_wp2_with (refine put_cell rfl 3 (.tmp 52) (.tmp 51) rfl rfl bS p (.int .i64 (n2 : Int)) _ rfl rfl rfl rfl hcx ff (by kernel_rfl) ?_
                 obtain ⟨w6, hw6⟩ : ∃ w6, w6 = w3.setCell ⟨bS, p, none⟩ (.int .i64 (n2 : Int)) := ⟨_, rfl⟩
                 rw [← hw6] at HF6 HX6 ⊢
                 clear hw6 hcx ff u0 u1 p0 p1 HF HX)
    have HP := HPP
    have HNA : Hid (A' = none → m = 0 ∧ c' = 0) := fun q => by
      exfalso
      obtain ⟨b', off', e', _⟩ := HR.out.at_ (by rw [← HR.out.len]; exact HFC.out.pos)
      rw [q] at e'; cases e'
    have HML := Lib.hid HR.out.len
    have HLT : Hid (t.facts.length < 25) := by show _ < _; rw [HC.out.fc.len]; show n2 < 25; omega
    have hd : Below w6.heap.size w6 w6.drew := (Below.refl w6.heap.size w6).drew
    have HF4 := Lib.hid (HF6.out.on hd)
    have HX4 := Lib.hid (HX6.out.on hd)
    refine wp_region_held_drew (S := (fun _ => True)) (by kernel_rfl) trivial (fun hHeld => ?_)
    obtain ⟨w4, hw4⟩ : ∃ w4, w4 = w6.drew := ⟨_, rfl⟩
    rw [← hw4] at HF4 HX4 ⊢
    have HR4 := Lib.hid (HR.out.on HX4.out.bel)
    have u4 := HF4.out.c1
    dsimp only at u4
    clear hw4 hd HF6 HX6
    refine takeH (i := 0) (v := ?_) rfl rfl (by kernel_rfl) (by kernel_rfl) (by kernel_rfl) (fun _ _ _ h => h) (by rfl) ?_ hHeld ?_
    rotate_left
    · (intro w hSw; (try dsimp only at hSw); first | (go_simp; done) | (go_simp; with_reducible rfl))
    simp only [Act.put, List.setIfInBounds_toArray, List.set_cons_zero, List.set_cons_succ]
    refine takeH (i := 3) (v := ?_) rfl rfl (by kernel_rfl) (by kernel_rfl) (by kernel_rfl) (fun _ _ _ h => h) (by rfl) ?_ hHeld ?_
    rotate_left
    · (intro w hSw; (try dsimp only at hSw); first | (go_simp; done) | (go_simp; with_reducible rfl))
    simp only [Act.put, List.setIfInBounds_toArray, List.set_cons_zero, List.set_cons_succ]
    refine wpAnyH_ready (rs := [1, 2]) (by kernel_rfl) (by simp) ?_
    refine AllReadyH.cons rfl (fun K hK => ?_) (AllReadyH.cons rfl (fun K hK => ?_) AllReadyH.nil)
    · go_simp
      refine hK.out _ _ ?_ (fun hHeld => ?_)
      · trivial
      clear hK K
      refine wpAnyH_ready (rs := [2]) (by kernel_rfl) (by simp) ?_
      refine AllReadyH.cons rfl (fun K hK => ?_) AllReadyH.nil
      go_simp
      refine hK.out _ _ ?_ (fun hHeld => ?_)
      · trivial
      clear hK K
      refine wpAnyH_ready (rs := [4]) (by kernel_rfl) (by simp) ?_
      refine AllReadyH.cons rfl (fun K hK => ?_) AllReadyH.nil
      refine app_ints_step rfl (.tmp 55) (.tmp 56) rfl w4.heap.size _ [] rfl (OwnI.empty w4) A' m c' _ a rfl HNA.out (HR4.out.on (below_new w4 (.cells #[] 3))) (by simp; omega) (by simp) ?_
      intro v6 w6 hown6 hb6
      obtain ⟨A6, c6, e6⟩ := hown6.value
      obtain ⟨L6, hL6⟩ : ∃ L6, L6 = (([] : List Int) ++ a).length := ⟨_, rfl⟩
      rw [← hL6] at e6
      subst e6
      have HV6 := Lib.hid (hown6.lower HF4.out.mx)
      have H46 := (below_new w4 (.cells #[] 3)).trans hb6
      have HF6 := Lib.hid (HF4.out.on H46)
      have HX6 := Lib.hid (HX4.out.on H46)
      have u6 := HF6.out.c1
      dsimp only at u6
      clear hown6 hb6 hL6 H46
      refine hK.out _ _ ?_ (fun hHeld => ?_)
      · trivial
      clear hK K
      refine wpAnyH_ready (rs := [5]) (by kernel_rfl) (by simp) ?_
      refine AllReadyH.cons rfl (fun K hK => ?_) AllReadyH.nil
      go_simp
      refine hK.out _ _ ?_ (fun hHeld => ?_)
      · trivial
      clear hK K
      obtain ⟨vs, hv1, hvr⟩ := HF6.out.b.vals
      have hvl : vs.length + 1 ≤ 5864062014634 := by rw [hvr.1]; exact Nat.le_trans (Nat.succ_le_of_lt HLT.out) (by omega)
      have HRS := Lib.hid (hvr.snoc HV6.out)
      have HOW := Lib.hid hv1
      clear hv1 hvr
      refine wpAnyH_ready (rs := [6]) (by kernel_rfl) (by simp) ?_
      refine AllReadyH.cons rfl (fun K hK => ?_) AllReadyH.nil
      refine app_rowv_step rfl (.tmp 54) (.tmp 58) rfl M _ vs _ rfl HOW.out rfl rfl rfl hvl HF6.out.mx ?_
      intro v7 w7 hown7 hc7
      obtain ⟨D7, L9, e9, rfl, b0, b1, q3, q4, -⟩ := TabV.app HF6.out hown7 hc7 HRS.out
      have HF7 := Lib.hid q3
      have HX7 := Lib.hid (HX6.out.keep q4 HGL.out q3.bel)
      clear q3 q4 hown7 hc7
      refine hK.out _ _ ?_ (fun hHeld => ?_)
      · trivial
      clear hK K
      refine takeH (i := 7) (v := ?_) rfl rfl (by kernel_rfl) (by kernel_rfl) (by kernel_rfl) (fun _ _ _ h => h) (by rfl) ?_ hHeld ?_
      rotate_left
      · (intro w hSw; (try dsimp only at hSw); first | (go_simp; done) | (go_simp; with_reducible rfl))
      simp only [Act.put, List.setIfInBounds_toArray, List.set_cons_zero, List.set_cons_succ]
      refine wpAnyH_ready (rs := [8]) (by kernel_rfl) (by simp) ?_
      refine AllReadyH.cons rfl (fun K hK => ?_) AllReadyH.nil
      refine put_cell_step rfl 24 (.tmp 60) (.tmp 59) rfl rfl g 1 (.slice D7 L9 e9) _ rfl rfl rfl rfl b0 b1 (by kernel_rfl) ?_
      refine hK.out _ _ ?_ (fun hHeld => ?_)
      · trivial
      clear hK K
      refine wpAnyH_done (by kernel_rfl) ?_ _
      clear b0 b1 u6
      have u0 := HF7.out.c0
      have u1 := HF7.out.c1
      have HX := HX7
      go_wp2_with (refine store_box rfl 26 (.tmp 6) (.tmp 61) rfl rfl (w.heap.size + 1) _ _ rfl rfl HX.out.b1 rfl (by kernel_rfl) two_one ?_
                   intro w9 hg9 hc9 hs9
                   have HG9 := Lib.hid hg9
                   have HC9 := Lib.hid hc9
                   clear hg9 hc9 hs9)
      refine tab_ret (g := w.heap.size + 1) (x := .bool true) (y := .int .i64 0) rfl rfl rfl rfl rfl HG9.out rfl ?_
      have hfin : Below w.heap.size w w9 := HX.out.bel.trans (HC9.out.bel.mono (Nat.le_succ _))
      have HE : Hid (putT t a k = ⟨t.slots.set p (n2 : Int), t.facts ++ [a]⟩) := by show _ = _; unfold putT; rw [← HP.out, HC.out.fc.len]
      rw [HE.out]
      exact ⟨_, rfl, HF7.out.own.chg HC9.out, hfin⟩
    · go_simp
      refine hK.out _ _ ?_ (fun hHeld => ?_)
      · trivial
      clear hK K
      have u5 : (w4.alloc (.cells #[] 3)).cell? ⟨g, 1, none⟩ = some (.slice F n2 f9) := (HF4.out.on (below_new w4 _)).c1
      refine wpAnyH_ready (rs := [1, 4]) (by kernel_rfl) (by simp) ?_
      refine AllReadyH.cons rfl (fun K hK => ?_) (AllReadyH.cons rfl (fun K hK => ?_) AllReadyH.nil)
      · go_simp
        refine hK.out _ _ ?_ (fun hHeld => ?_)
        · trivial
        clear hK K
        clear u5
        refine wpAnyH_ready (rs := [4]) (by kernel_rfl) (by simp) ?_
        refine AllReadyH.cons rfl (fun K hK => ?_) AllReadyH.nil
        refine app_ints_step rfl (.tmp 55) (.tmp 56) rfl w4.heap.size _ [] rfl (OwnI.empty w4) A' m c' _ a rfl HNA.out (HR4.out.on (below_new w4 (.cells #[] 3))) (by simp; omega) (by simp) ?_
        intro v6 w6 hown6 hb6
        obtain ⟨A6, c6, e6⟩ := hown6.value
        obtain ⟨L6, hL6⟩ : ∃ L6, L6 = (([] : List Int) ++ a).length := ⟨_, rfl⟩
        rw [← hL6] at e6
        subst e6
        have HV6 := Lib.hid (hown6.lower HF4.out.mx)
        have H46 := (below_new w4 (.cells #[] 3)).trans hb6
        have HF6 := Lib.hid (HF4.out.on H46)
        have HX6 := Lib.hid (HX4.out.on H46)
        have u6 := HF6.out.c1
        dsimp only at u6
        clear hown6 hb6 hL6 H46
        refine hK.out _ _ ?_ (fun hHeld => ?_)
        · trivial
        clear hK K
        refine wpAnyH_ready (rs := [5]) (by kernel_rfl) (by simp) ?_
        refine AllReadyH.cons rfl (fun K hK => ?_) AllReadyH.nil
        go_simp
        refine hK.out _ _ ?_ (fun hHeld => ?_)
        · trivial
        clear hK K
        obtain ⟨vs, hv1, hvr⟩ := HF6.out.b.vals
        have hvl : vs.length + 1 ≤ 5864062014634 := by rw [hvr.1]; exact Nat.le_trans (Nat.succ_le_of_lt HLT.out) (by omega)
        have HRS := Lib.hid (hvr.snoc HV6.out)
        have HOW := Lib.hid hv1
        clear hv1 hvr
        refine wpAnyH_ready (rs := [6]) (by kernel_rfl) (by simp) ?_
        refine AllReadyH.cons rfl (fun K hK => ?_) AllReadyH.nil
        refine app_rowv_step rfl (.tmp 54) (.tmp 58) rfl M _ vs _ rfl HOW.out rfl rfl rfl hvl HF6.out.mx ?_
        intro v7 w7 hown7 hc7
        obtain ⟨D7, L9, e9, rfl, b0, b1, q3, q4, -⟩ := TabV.app HF6.out hown7 hc7 HRS.out
        have HF7 := Lib.hid q3
        have HX7 := Lib.hid (HX6.out.keep q4 HGL.out q3.bel)
        clear q3 q4 hown7 hc7
        refine hK.out _ _ ?_ (fun hHeld => ?_)
        · trivial
        clear hK K
        refine takeH (i := 7) (v := ?_) rfl rfl (by kernel_rfl) (by kernel_rfl) (by kernel_rfl) (fun _ _ _ h => h) (by rfl) ?_ hHeld ?_
        rotate_left
        · (intro w hSw; (try dsimp only at hSw); first | (go_simp; done) | (go_simp; with_reducible rfl))
        simp only [Act.put, List.setIfInBounds_toArray, List.set_cons_zero, List.set_cons_succ]
        refine wpAnyH_ready (rs := [8]) (by kernel_rfl) (by simp) ?_
        refine AllReadyH.cons rfl (fun K hK => ?_) AllReadyH.nil
        refine put_cell_step rfl 24 (.tmp 60) (.tmp 59) rfl rfl g 1 (.slice D7 L9 e9) _ rfl rfl rfl rfl b0 b1 (by kernel_rfl) ?_
        refine hK.out _ _ ?_ (fun hHeld => ?_)
        · trivial
        clear hK K
        refine wpAnyH_done (by kernel_rfl) ?_ _
        clear b0 b1 u6
        have u0 := HF7.out.c0
        have u1 := HF7.out.c1
        have HX := HX7
        go_wp2_with (refine store_box rfl 26 (.tmp 6) (.tmp 61) rfl rfl (w.heap.size + 1) _ _ rfl rfl HX.out.b1 rfl (by kernel_rfl) two_one ?_
                     intro w9 hg9 hc9 hs9
                     have HG9 := Lib.hid hg9
                     have HC9 := Lib.hid hc9
                     clear hg9 hc9 hs9)
        refine tab_ret (g := w.heap.size + 1) (x := .bool true) (y := .int .i64 0) rfl rfl rfl rfl rfl HG9.out rfl ?_
        have hfin : Below w.heap.size w w9 := HX.out.bel.trans (HC9.out.bel.mono (Nat.le_succ _))
        have HE : Hid (putT t a k = ⟨t.slots.set p (n2 : Int), t.facts ++ [a]⟩) := by show _ = _; unfold putT; rw [← HP.out, HC.out.fc.len]
        rw [HE.out]
        exact ⟨_, rfl, HF7.out.own.chg HC9.out, hfin⟩
      · clear u5
        refine app_ints_step rfl (.tmp 55) (.tmp 56) rfl w4.heap.size _ [] rfl (OwnI.empty w4) A' m c' _ a rfl HNA.out (HR4.out.on (below_new w4 (.cells #[] 3))) (by simp; omega) (by simp) ?_
        intro v6 w6 hown6 hb6
        obtain ⟨A6, c6, e6⟩ := hown6.value
        obtain ⟨L6, hL6⟩ : ∃ L6, L6 = (([] : List Int) ++ a).length := ⟨_, rfl⟩
        rw [← hL6] at e6
        subst e6
        have HV6 := Lib.hid (hown6.lower HF4.out.mx)
        have H46 := (below_new w4 (.cells #[] 3)).trans hb6
        have HF6 := Lib.hid (HF4.out.on H46)
        have HX6 := Lib.hid (HX4.out.on H46)
        have u6 := HF6.out.c1
        dsimp only at u6
        clear hown6 hb6 hL6 H46
        refine hK.out _ _ ?_ (fun hHeld => ?_)
        · trivial
        clear hK K
        refine wpAnyH_ready (rs := [1, 5]) (by kernel_rfl) (by simp) ?_
        refine AllReadyH.cons rfl (fun K hK => ?_) (AllReadyH.cons rfl (fun K hK => ?_) AllReadyH.nil)
        · go_simp
          refine hK.out _ _ ?_ (fun hHeld => ?_)
          · trivial
          clear hK K
          refine wpAnyH_ready (rs := [5]) (by kernel_rfl) (by simp) ?_
          refine AllReadyH.cons rfl (fun K hK => ?_) AllReadyH.nil
          go_simp
          refine hK.out _ _ ?_ (fun hHeld => ?_)
          · trivial
          clear hK K
          obtain ⟨vs, hv1, hvr⟩ := HF6.out.b.vals
          have hvl : vs.length + 1 ≤ 5864062014634 := by rw [hvr.1]; exact Nat.le_trans (Nat.succ_le_of_lt HLT.out) (by omega)
          have HRS := Lib.hid (hvr.snoc HV6.out)
          have HOW := Lib.hid hv1
          clear hv1 hvr
          refine wpAnyH_ready (rs := [6]) (by kernel_rfl) (by simp) ?_
          refine AllReadyH.cons rfl (fun K hK => ?_) AllReadyH.nil
          refine app_rowv_step rfl (.tmp 54) (.tmp 58) rfl M _ vs _ rfl HOW.out rfl rfl rfl hvl HF6.out.mx ?_
          intro v7 w7 hown7 hc7
          obtain ⟨D7, L9, e9, rfl, b0, b1, q3, q4, -⟩ := TabV.app HF6.out hown7 hc7 HRS.out
          have HF7 := Lib.hid q3
          have HX7 := Lib.hid (HX6.out.keep q4 HGL.out q3.bel)
          clear q3 q4 hown7 hc7
          refine hK.out _ _ ?_ (fun hHeld => ?_)
          · trivial
          clear hK K
          refine takeH (i := 7) (v := ?_) rfl rfl (by kernel_rfl) (by kernel_rfl) (by kernel_rfl) (fun _ _ _ h => h) (by rfl) ?_ hHeld ?_
          rotate_left
          · (intro w hSw; (try dsimp only at hSw); first | (go_simp; done) | (go_simp; with_reducible rfl))
          simp only [Act.put, List.setIfInBounds_toArray, List.set_cons_zero, List.set_cons_succ]
          refine wpAnyH_ready (rs := [8]) (by kernel_rfl) (by simp) ?_
          refine AllReadyH.cons rfl (fun K hK => ?_) AllReadyH.nil
          refine put_cell_step rfl 24 (.tmp 60) (.tmp 59) rfl rfl g 1 (.slice D7 L9 e9) _ rfl rfl rfl rfl b0 b1 (by kernel_rfl) ?_
          refine hK.out _ _ ?_ (fun hHeld => ?_)
          · trivial
          clear hK K
          refine wpAnyH_done (by kernel_rfl) ?_ _
          clear b0 b1 u6
          have u0 := HF7.out.c0
          have u1 := HF7.out.c1
          have HX := HX7
          go_wp2_with (refine store_box rfl 26 (.tmp 6) (.tmp 61) rfl rfl (w.heap.size + 1) _ _ rfl rfl HX.out.b1 rfl (by kernel_rfl) two_one ?_
                       intro w9 hg9 hc9 hs9
                       have HG9 := Lib.hid hg9
                       have HC9 := Lib.hid hc9
                       clear hg9 hc9 hs9)
          refine tab_ret (g := w.heap.size + 1) (x := .bool true) (y := .int .i64 0) rfl rfl rfl rfl rfl HG9.out rfl ?_
          have hfin : Below w.heap.size w w9 := HX.out.bel.trans (HC9.out.bel.mono (Nat.le_succ _))
          have HE : Hid (putT t a k = ⟨t.slots.set p (n2 : Int), t.facts ++ [a]⟩) := by show _ = _; unfold putT; rw [← HP.out, HC.out.fc.len]
          rw [HE.out]
          exact ⟨_, rfl, HF7.out.own.chg HC9.out, hfin⟩
        · go_simp
          refine hK.out _ _ ?_ (fun hHeld => ?_)
          · trivial
          clear hK K
          have u7 : (w6.alloc (.cells #[.slice A6 L6 c6] 23)).cell? ⟨g, 1, none⟩ = some (.slice F n2 f9) := (HF6.out.on (below_new w6 _)).c1
          refine wpAnyH_ready (rs := [1]) (by kernel_rfl) (by simp) ?_
          refine AllReadyH.cons rfl (fun K hK => ?_) AllReadyH.nil
          go_simp
          refine hK.out _ _ ?_ (fun hHeld => ?_)
          · trivial
          clear hK K
          clear u7
          obtain ⟨vs, hv1, hvr⟩ := HF6.out.b.vals
          have hvl : vs.length + 1 ≤ 5864062014634 := by rw [hvr.1]; exact Nat.le_trans (Nat.succ_le_of_lt HLT.out) (by omega)
          have HRS := Lib.hid (hvr.snoc HV6.out)
          have HOW := Lib.hid hv1
          clear hv1 hvr
          refine wpAnyH_ready (rs := [6]) (by kernel_rfl) (by simp) ?_
          refine AllReadyH.cons rfl (fun K hK => ?_) AllReadyH.nil
          refine app_rowv_step rfl (.tmp 54) (.tmp 58) rfl M _ vs _ rfl HOW.out rfl rfl rfl hvl HF6.out.mx ?_
          intro v7 w7 hown7 hc7
          obtain ⟨D7, L9, e9, rfl, b0, b1, q3, q4, -⟩ := TabV.app HF6.out hown7 hc7 HRS.out
          have HF7 := Lib.hid q3
          have HX7 := Lib.hid (HX6.out.keep q4 HGL.out q3.bel)
          clear q3 q4 hown7 hc7
          refine hK.out _ _ ?_ (fun hHeld => ?_)
          · trivial
          clear hK K
          refine takeH (i := 7) (v := ?_) rfl rfl (by kernel_rfl) (by kernel_rfl) (by kernel_rfl) (fun _ _ _ h => h) (by rfl) ?_ hHeld ?_
          rotate_left
          · (intro w hSw; (try dsimp only at hSw); first | (go_simp; done) | (go_simp; with_reducible rfl))
          simp only [Act.put, List.setIfInBounds_toArray, List.set_cons_zero, List.set_cons_succ]
          refine wpAnyH_ready (rs := [8]) (by kernel_rfl) (by simp) ?_
          refine AllReadyH.cons rfl (fun K hK => ?_) AllReadyH.nil
          refine put_cell_step rfl 24 (.tmp 60) (.tmp 59) rfl rfl g 1 (.slice D7 L9 e9) _ rfl rfl rfl rfl b0 b1 (by kernel_rfl) ?_
          refine hK.out _ _ ?_ (fun hHeld => ?_)
          · trivial
          clear hK K
          refine wpAnyH_done (by kernel_rfl) ?_ _
          clear b0 b1 u6
          have u0 := HF7.out.c0
          have u1 := HF7.out.c1
          have HX := HX7
          go_wp2_with (refine store_box rfl 26 (.tmp 6) (.tmp 61) rfl rfl (w.heap.size + 1) _ _ rfl rfl HX.out.b1 rfl (by kernel_rfl) two_one ?_
                       intro w9 hg9 hc9 hs9
                       have HG9 := Lib.hid hg9
                       have HC9 := Lib.hid hc9
                       clear hg9 hc9 hs9)
          refine tab_ret (g := w.heap.size + 1) (x := .bool true) (y := .int .i64 0) rfl rfl rfl rfl rfl HG9.out rfl ?_
          have hfin : Below w.heap.size w w9 := HX.out.bel.trans (HC9.out.bel.mono (Nat.le_succ _))
          have HE : Hid (putT t a k = ⟨t.slots.set p (n2 : Int), t.facts ++ [a]⟩) := by show _ = _; unfold putT; rw [← HP.out, HC.out.fc.len]
          rw [HE.out]
          exact ⟨_, rfl, HF7.out.own.chg HC9.out, hfin⟩
end Go.Proofs.Ythnjpkghjkhjdaa
