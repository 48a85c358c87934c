/-
  Contracts of the reference: depth, Deep.
-/
import Derived.Test.YtmjopiobahaggaaRefParts
namespace Go.Proofs.Ytmjopiobahaggaa
open Go.RowKit
set_option linter.unusedSimpArgs false
set_option linter.unusedVariables false

theorem refParts_none (A A' : Option Addr) (n c c' : Nat) (w : World) :
    Calls Try.prog 40 #[.slice A n c, .slice A' 0 c'] w fun e w' => e = .returned (.slice none 0 0) ∧ w = w' := by
  go_enter Try.func40, Try.ntmps40
  go_wp2
  go_loop [5, 6] (fun q i => q = .slice none 0 0 ∧ i = .int .i64 0) (fun _ _ => 0)
  case atStart => exact ⟨rfl, rfl⟩
  case round =>
    obtain ⟨rfl, rfl⟩ := hrel
    go_wp2
    go_ret
    exact ⟨rfl, rfl⟩

set_option maxHeartbeats 2000000 in
theorem refDepth_any (A : Option Addr) (n c : Nat) (ss : List Sym) (hn : n ≤ maxLen) (hmay : mayB ss = true) (N : Nat) : ∀ (A' : Option Addr) (m c' : Nat) (r : List Int) (ms : List (Nat × Nat)) (w : World), m ≤ N → SymsAt w w.heap.size A n ss → IntsAt w w.heap.size A' m r → m ≤ 1000000 → m ≤ c' →
    tl ss (nrm r) = some ms → Calls Try.prog 34 #[.slice A n c, .slice A' m c'] w fun e w' => e = .returned (.int .i64 (maxD ms : Int)) ∧ Below w.heap.size w w' := by
  induction N with
  | zero =>
    intro A' m c' r ms w hmN h hr hm hmc ht
    obtain rfl : m = 0 := by omega
    have hr0 : r = [] := List.length_eq_zero_iff.1 hr.len
    subst hr0
    have hms : ms = [] := (tl_nil_iff ht).2 rfl
    subst hms
    go_enter Try.func34, Try.ntmps34
    go_wp2_with fail
    refine (refParts_none _ _ _ _ _ _).mono ?_
    rintro e w1 ⟨rfl, rfl⟩
    go_wp2
    go_loop [5, 7] (fun q i => q = .int .i64 0 ∧ i = .int .i64 0) (fun _ _ => 0)
    case atStart => exact ⟨rfl, rfl⟩
    case round =>
      obtain ⟨rfl, rfl⟩ := hrel
      go_wp2
      go_ret
      exact ⟨rfl, Below.refl _ _⟩
  | succ N ih =>
    intro A' m c' r ms w hmN h hr hm hmc ht
    have HIH := Lib.hid ih
    clear ih
    by_cases hm0 : m = 0
    · subst hm0
      have hr0 : r = [] := List.length_eq_zero_iff.1 hr.len
      subst hr0
      have hms : ms = [] := (tl_nil_iff ht).2 rfl
      subst hms
      go_enter Try.func34, Try.ntmps34
      go_wp2_with fail
      refine (refParts_none _ _ _ _ _ _).mono ?_
      rintro e w1 ⟨rfl, rfl⟩
      go_wp2
      go_loop [5, 7] (fun q i => q = .int .i64 0 ∧ i = .int .i64 0) (fun _ _ => 0)
      case atStart => exact ⟨rfl, rfl⟩
      case round =>
        obtain ⟨rfl, rfl⟩ := hrel
        go_wp2
        go_ret
        exact ⟨rfl, Below.refl _ _⟩
    · obtain ⟨b', off', rfl, _, _⟩ := hr.at_ (by omega)
      have HS := Lib.hid h
      have HR := Lib.hid hr
      have HL := Lib.hid hr.len
      have HM := Lib.hid hmay
      have HT := Lib.hid ht
      have hml : ms.length ≤ m := by have := tl_len _ ht; rw [nrm_length, HL.out] at this; exact this
      have hdm : maxD ms ≤ m := by have := tl_deep _ ht; rw [nrm_length, HL.out] at this; exact this
      have hpos : 0 < ms.length := by
        rcases Nat.eq_zero_or_pos ms.length with h' | h'
        · have := (tl_nil_iff ht).1 (List.length_eq_zero_iff.1 h')
          have e := congrArg List.length this
          rw [nrm_length, HL.out] at e; exact absurd e hm0
        · exact h'
      clear h hr hmay ht
      go_enter Try.func34, Try.ntmps34
      go_wp2_with fail
      refine (refParts_any A b' off' n c m c' ss r ms _ HS.out hn HR.out hm hmc HM.out HT.out).mono ?_
      rintro e w1 ⟨v1, rfl, hv1, hb1⟩
      obtain ⟨g, cap, rfl, hg1, hg2, hg3⟩ : ∃ g cap, v1 = .slice (some ⟨g, 0, none⟩) ms.length cap ∧ w.heap.size ≤ g ∧ g < w1.heap.size ∧ ms.length ≤ cap := by
        rcases hv1.shape with ⟨_, e⟩ | ⟨g, cap, e, e1, e2, e3⟩
        · have := congrArg List.length e; rw [partsV_length, List.length_nil] at this; omega
        · rw [partsV_length] at e e3; exact ⟨g, cap, e, e1, e2, e3⟩
      have hv1' : w1.ownsRow w.heap.size 23 1 (.slice (some ⟨g, 0, none⟩) ms.length cap) ms.length (partsV b' off' c' ms ms.length) := by
        have := hv1; unfold OwnR at this; rw [partsV_length] at this; exact this
      have HV := Lib.hid hv1'
      have HB1 := Lib.hid hb1
      replace HS := Lib.hid (HS.out.on hb1)
      replace HR := Lib.hid (HR.out.on hb1)
      clear hv1 hv1' hb1
      go_wp2
      go_loopw [5, 7] (fun q i wr => ∃ k d : Nat, q = .int .i64 d ∧ i = .int .i64 k ∧ k ≤ ms.length ∧ d = maxD (ms.take k) ∧ Below w1.heap.size w1 wr) (fun _ i _ => ms.length - (intOf i).toNat)
      case atStart => exact ⟨0, 0, rfl, rfl, by omega, by simp [maxD], Below.refl _ _⟩
      case round =>
        obtain ⟨k, d, rfl, rfl, hk, hd, hbw⟩ := hrel
        have HD := Lib.hid hd
        have HBW := Lib.hid hbw
        have hdb : d ≤ m := by have := maxD_take_le ms k; omega
        clear hd
        by_cases hlt : k < ms.length
        · obtain ⟨mm, qs, a, _, s1, s2, s3, s4, s5, s6⟩ := part_of HT.out hlt
          obtain ⟨t, hte⟩ : ∃ t, t = sumL (ms.take k) := ⟨_, rfl⟩
          rw [← hte] at s1 s3 s4
          rw [nrm_length, HL.out] at s3
          rw [nrm_drop, nrm_take] at s4
          rw [← HD.out] at s6
          have hc : wr.cell? ⟨g, k, none⟩ = some (.slice (some ⟨b', off' + t, none⟩) mm.1 (c' - t)) := by
            rw [hbw.cell hg2, own_get HV.out k hlt, partsV_get _ _ _ _ _ _ hlt, ← hte]
            congr 2; omega
          obtain ⟨dd, hdd⟩ : ∃ dd, dd = maxD (qs.take a) := ⟨_, rfl⟩
          have hddm : dd ≤ m := by
            have := tl_deep _ s4
            rw [nrm_length, List.length_take, List.length_drop, HL.out] at this
            rw [hdd]; omega
          have S4 := Lib.hid s4
          have S6 : Hid (maxD (ms.take (k + 1)) = max d (1 + dd)) := by show maxD _ = _; rw [s6, s5, ← hdd]
          have HDD := Lib.hid hdd
          obtain ⟨l, hl⟩ : ∃ l, mm.1 = l + 1 := ⟨mm.1 - 1, by omega⟩
          rw [hl] at hc s3 S4
          rw [Nat.add_sub_cancel] at S4
          have htm : t + (l + 1) ≤ m := by omega
          clear s1 s2 s3 s4 s5 s6 hte hdd hl hbw
          by_cases hcap : c' - t = 1
          · have hl0 : l = 0 := by omega
            subst hl0
            rw [hcap] at hc
            have hnil : (r.drop (t + 1)).take 0 = [] := rfl
            rw [hnil] at S4
            go_wp2_with fail
            refine (HIH.out (some ⟨b', off' + t, none⟩) 0 0 [] (qs.take a) _ (by omega) (HS.out.on HBW.out) IntsAt.nil_ (by omega) (by omega) S4.out).mono ?_
            rintro e w2 ⟨rfl, hb2⟩
            rw [← HDD.out]
            have HB2 := Lib.hid (HBW.out.trans (hb2.mono HBW.out.size))
            clear hb2
            by_cases hmx : d < 1 + dd
            · have hmx' : (d : Int) < 1 + (dd : Int) := by omega
              go_wp2
              go_roundw
              case rel => exact ⟨k + 1, 1 + dd, by go_num, by go_num, by omega, by rw [S6.out]; omega, HB2.out⟩
              case measure => simp [intOf]; omega
            · have hmx' : ¬ (d : Int) < 1 + (dd : Int) := by omega
              go_wp2
              go_roundw
              case rel => exact ⟨k + 1, d, rfl, by go_num, by omega, by rw [S6.out]; omega, HB2.out⟩
              case measure => simp [intOf]; omega
          · have hcap1 : 1 ≤ c' - t := by omega
            have hsub : Hid (IntsAt wr wr.heap.size (some ⟨b', off' + (t + 1), none⟩) l ((r.drop (t + 1)).take l)) := by
              have := ((HR.out.on HBW.out).drop (k := t + 1) (by omega)).take (i := l) (by omega)
              exact this
            obtain ⟨cc, hcc⟩ : ∃ cc, c' - t = cc := ⟨_, rfl⟩
            rw [hcc] at hc hcap hcap1
            have hlc : l + 1 ≤ cc := by omega
            clear hcc
            have z1 : (1 : Int) ≤ (cc : Int) := by omega
            have z2 : ((l : Int) + 1) ≤ (cc : Int) := by omega
            go_wp2_with fail
            refine (HIH.out _ l (cc - 1) _ (qs.take a) _ (by omega) (HS.out.on HBW.out) hsub.out (by omega) (by omega) S4.out).mono ?_
            rintro e w2 ⟨rfl, hb2⟩
            rw [← HDD.out]
            have HB2 := Lib.hid (HBW.out.trans (hb2.mono HBW.out.size))
            clear hb2
            by_cases hmx : d < 1 + dd
            · have hmx' : (d : Int) < 1 + (dd : Int) := by omega
              go_wp2
              go_roundw
              case rel => exact ⟨k + 1, 1 + dd, by go_num, by go_num, by omega, by rw [S6.out]; omega, HB2.out⟩
              case measure => simp [intOf]; omega
            · have hmx' : ¬ (d : Int) < 1 + (dd : Int) := by omega
              go_wp2
              go_roundw
              case rel => exact ⟨k + 1, d, rfl, by go_num, by omega, by rw [S6.out]; omega, HB2.out⟩
              case measure => simp [intOf]; omega
        · have hkl : k = ms.length := by omega
          have HK := Lib.hid hkl
          clear hkl hbw
          go_wp2
          go_ret
          exact ⟨ret_int (by rw [HD.out, HK.out, List.take_length]), HB1.out.trans (HBW.out.mono HB1.out.size)⟩

set_option maxHeartbeats 1000000 in
theorem refDeep_any (A A' : Option Addr) (n c m c' : Nat) (ss : List Sym) (r : List Int) (w : World) (h : SymsAt w w.heap.size A n ss) (hn : n ≤ maxLen) (hr : IntsAt w w.heap.size A' m r) (hm : m ≤ maxLen) (hmc : m ≤ c') :
    Calls Try.prog 25 #[.slice A n c, .slice A' m c'] w fun e w' => e = .returned (.tuple #[.int .i64 (deepK ss r), .int .i64 (rowE ss r)]) ∧ Below w.heap.size w w' := by
  have HS := Lib.hid h
  have HR := Lib.hid hr
  have HL := Lib.hid hr.len
  cases hmay : mayB ss
  · have hb := rowB_may (r := r) hmay
    have H1 : Hid (deepK ss r = 0) := by show deepK ss r = 0; unfold deepK; rw [hb]; rfl
    have H2 : Hid (rowE ss r = 200) := by show rowE ss r = 200; unfold rowE; rw [hb]; rfl
    clear hb
    go_enter Try.func25, Try.ntmps25
    go_wp2_with fail
    refine (signMay_any A n c ss _ HS.out hn).mono ?_
    rintro e w1 ⟨rfl, hb1⟩
    rw [hmay]
    go_wp2
    go_ret2
    exact ⟨ret_two H1.out.symm H2.out.symm, hb1⟩
  · have HM := Lib.hid hmay
    cases hb : rowB ss r
    · have H1 : Hid (deepK ss r = 0) := by show deepK ss r = 0; unfold deepK; rw [hb]; rfl
      have H2 : Hid (rowE ss r = 200) := by show rowE ss r = 200; unfold rowE; rw [hb]; rfl
      have ht := termsK_no hmay hb
      go_enter Try.func25, Try.ntmps25
      go_wp2_with fail
      refine (signMay_any A n c ss _ HS.out hn).mono ?_
      rintro e w1 ⟨rfl, hb1⟩
      rw [hmay]
      clear hmay
      go_wp2_with fail
      refine (refTerms_any A A' n c m c' _ _ ss r _ (HS.out.on hb1) hn (HR.out.on hb1) hm HM.out).mono ?_
      rintro e w2 ⟨rfl, rfl⟩
      rw [ht]
      clear ht
      go_wp2
      go_ret2
      exact ⟨ret_two H1.out.symm H2.out.symm, hb1⟩
    · have H1 : Hid (deepK ss r = (maxD (tlD ss r) : Int)) := by show deepK ss r = _; unfold deepK; rw [hb]; rfl
      have H2 : Hid (rowE ss r = 0) := by show rowE ss r = 0; unfold rowE; rw [hb]; rfl
      have ht := termsK_yes hb
      have HT := Lib.hid (tl_nrm r (row_parts hb).2.2)
      have h48 : m ≤ 48 := by have := (row_parts hb).2.1; rw [HL.out] at this; exact this
      have hn0 : ¬ (((tlD ss r).length : Int) < 0) := by omega
      clear hb
      go_enter Try.func25, Try.ntmps25
      go_wp2_with fail
      refine (signMay_any A n c ss _ HS.out hn).mono ?_
      rintro e w1 ⟨rfl, hb1⟩
      rw [hmay]
      clear hmay
      go_wp2_with fail
      refine (refTerms_any A A' n c m c' _ _ ss r _ (HS.out.on hb1) hn (HR.out.on hb1) hm HM.out).mono ?_
      rintro e w2 ⟨rfl, rfl⟩
      rw [ht]
      clear ht
      go_wp2_with fail
      refine (refDepth_any A n c ss hn HM.out m A' m c' r _ _ (Nat.le_refl _) (HS.out.on hb1) (HR.out.on hb1) (by omega) hmc HT.out).mono ?_
      rintro e w2 ⟨rfl, hb2⟩
      go_wp2
      go_ret2
      exact ⟨ret_two H1.out.symm H2.out.symm, hb1.trans (hb2.mono hb1.size)⟩

end Go.Proofs.Ytmjopiobahaggaa
