/-
  Contracts of the reference: In, VarsOf, Vars, Heavy, Weight.
-/
import Derived.Test.YtmjopiobahaggaaRefRow
import Derived.Test.YtmjopiobahaggaaTermVars
namespace Go.Proofs.Ytmjopiobahaggaa
open Go.RowKit
set_option linter.unusedSimpArgs false
set_option linter.unusedVariables false

theorem hasV_hit {r : List Int} {v k : Nat} (h : k < r.length) (e : intAt r k = -1 - (v : Int)) : hasV r v = true := by
  unfold hasV; rw [List.any_eq_true]
  exact ⟨intAt r k, List.mem_iff_getElem?.2 ⟨k, intAt_get h⟩, by simp [e]⟩
theorem hasV_miss {r : List Int} {v : Nat} (h : hasV (r.take r.length) v = false) : hasV r v = false := by rw [List.take_length] at h; exact h

set_option maxHeartbeats 1000000 in
theorem refIn_any (A' : Option Addr) (m c' B' v : Nat) (r : List Int) (w : World) (hr : IntsAt w B' A' m r) (hm : m ≤ maxLen) (hv : v ≤ 1000000) :
    Calls Try.prog 39 #[.slice A' m c', .int .i64 v] w fun e w' => e = .returned (.bool (hasV r v)) ∧ w = w' := by
  unfold maxLen at hm
  have HL := Lib.hid hr.len
  go_enter Try.func39, Try.ntmps39
  go_wp2
  go_loop [5] (fun i => ∃ k : Nat, i = .int .i64 k ∧ k ≤ m ∧ hasV (r.take k) v = false) (fun i => m - (intOf i).toNat)
  case atStart => exact ⟨0, rfl, by omega, rfl⟩
  case round =>
    obtain ⟨k, rfl, hk, hno⟩ := hrel
    have HNO := Lib.hid hno
    clear hno
    by_cases hlt : k < m
    · obtain ⟨b', off', rfl, _, hc'⟩ := hr.at_ (by omega)
      have hcx : w.cell? ⟨b', off' + k, none⟩ = some (.int .i64 (intAt r k)) := hc' k hlt
      have hlr : k < r.length := by rw [HL.out]; exact hlt
      have HLR := Lib.hid hlr
      clear hlr hc'
      by_cases he : intAt r k = -1 - (v : Int)
      · have he' : (intAt r k == -1 - (v : Int)) = true := by simp [he]
        have H := Lib.hid (hasV_hit HLR.out he)
        clear he
        go_wp2
        go_ret
        exact ⟨ret_bool H.out.symm, rfl⟩
      · have he' : (intAt r k == -1 - (v : Int)) = false := by simp [he]
        have H : Hid (hasV (r.take (k + 1)) v = false) := by show hasV _ v = false; rw [hasV_take r k v HLR.out, HNO.out, he']; rfl
        clear he
        go_wp2
        go_round
        case rel => exact ⟨k + 1, by go_num, by omega, H.out⟩
        case measure => simp [intOf]; omega
    · obtain rfl : k = m := by omega
      have H : Hid (hasV r v = false) := by show hasV r v = false; have := HNO.out; rw [List.take_of_length_le (by rw [HL.out]; omega)] at this; exact this
      go_wp2
      go_ret
      exact ⟨ret_bool H.out.symm, rfl⟩
theorem refIn_is (b : Bool) (A' : Option Addr) (m c' B' v : Nat) (r : List Int) (w : World) (hr : IntsAt w B' A' m r) (hm : m ≤ maxLen) (hv : v ≤ 1000000) (hb : hasV r v = b) :
    Calls Try.prog 39 #[.slice A' m c', .int .i64 v] w fun e w' => e = .returned (.bool b) ∧ w = w' :=
  (refIn_any A' m c' B' v r w hr hm hv).mono fun _ _ ⟨he, hw⟩ => ⟨by rw [he, hb], hw⟩

set_option maxHeartbeats 1000000 in
theorem refVarsOf_any (A' : Option Addr) (m c' : Nat) (r : List Int) (w : World) (hr : IntsAt w w.heap.size A' m r) (hm : m ≤ maxLen) :
    Calls Try.prog 32 #[.slice A' m c'] w (IntsRet (varsN r 24) w) := by
  have HR := Lib.hid hr
  go_enter Try.func32, Try.ntmps32
  go_wp2
  go_loopw [3, 4] (fun q i wx => ∃ j : Nat, i = .int .i64 j ∧ j ≤ 24 ∧ OwnI wx w.heap.size q (varsN r j) ∧ Below w.heap.size w wx) (fun _ i _ => 24 - (intOf i).toNat)
  case atStart => exact ⟨0, rfl, by omega, OwnI.nil_, Below.refl _ _⟩
  case round =>
    obtain ⟨j, rfl, hj, hown, hbx⟩ := hrel
    have HOWN := Lib.hid hown
    have HBX := Lib.hid hbx
    have hsx := hbx.size
    have hvl := varsN_length r j
    clear hown hbx
    by_cases hjt : j < 24
    · have HS := Lib.hid (varsN_succ r j)
      have h23 : (j : Int) ≤ 23 := by omega
      cases hv : hasV r j
      · have HV := Lib.hid hv
        go_wp2_with fail
        refine (refIn_is false A' m c' _ j r _ (HR.out.on HBX.out) hm (by omega) hv).mono ?_
        rintro e w2 ⟨rfl, rfl⟩
        clear hv
        go_wp2
        go_roundw
        case rel => exact ⟨j + 1, by go_num, by omega, HOWN.out.cast (by rw [HS.out, HV.out]; rfl), HBX.out⟩
        case measure => simp [intOf]; omega
      · have HV := Lib.hid hv
        go_wp2_with fail
        refine (refIn_is true A' m c' _ j r _ (HR.out.on HBX.out) hm (by omega) hv).mono ?_
        rintro e w2 ⟨rfl, rfl⟩
        clear hv
        go_wp2_with (at_builtin
                     refine app_int1 rfl (.tmp 12) (.tmp 14) rfl w.heap.size _ (varsN r j) (j : Int) rfl HOWN.out rfl (by omega) hsx ?_
                     intro v2 w2 hown2 hb2
                     have HOWN2 := Lib.hid hown2
                     have HB2 := Lib.hid hb2
                     clear hown2 hb2)
        go_roundw
        case rel => exact ⟨j + 1, by go_num, by omega, HOWN2.out.cast (by rw [HS.out, HV.out]; rfl), HBX.out.trans HB2.out⟩
        case measure => simp [intOf]; omega
    · obtain rfl : j = 24 := by omega
      go_wp2
      go_ret
      exact ⟨_, rfl, HOWN.out, HBX.out⟩

set_option maxHeartbeats 1000000 in
theorem refHeavy_any (A A' : Option Addr) (n c m c' B B' : Nat) (ss : List Sym) (r : List Int) (w : World) (h : SymsAt w B A n ss) (hr : IntsAt w B' A' m r) (hb : rowB ss r = true) :
    Calls Try.prog 33 #[.slice A n c, .slice A' m c'] w fun e w' => e = .returned (.int .i64 (wtSum ss r)) ∧ w = w' := by
  have HL := Lib.hid hr.len
  have HB := Lib.hid hb
  have HSL := Lib.hid h.len
  have h48 : m ≤ 48 := by have := (row_parts hb).2.1; rw [HL.out] at this; exact this
  have hn : n ≤ 20 := by have := (may_len (row_parts hb).1).2; rw [HSL.out] at this; exact this
  clear hb
  go_enter Try.func33, Try.ntmps33
  go_wp2
  go_loop [5, 6] (fun q i => ∃ (k : Nat) (s : Int), q = .int .i64 s ∧ i = .int .i64 k ∧ k ≤ m ∧ s = wtSum ss (r.take k)) (fun _ i => m - (intOf i).toNat)
  case atStart => exact ⟨0, 0, rfl, rfl, by omega, rfl⟩
  case round =>
    obtain ⟨k, s, rfl, rfl, hk, hs⟩ := hrel
    have HS := Lib.hid hs
    obtain ⟨b1, b2⟩ := wtSum_bd HB.out k (by rw [HL.out]; exact hk)
    rw [← hs] at b1 b2
    clear hs
    by_cases hlt : k < m
    · obtain ⟨b', off', rfl, hb', hc'⟩ := hr.at_ (by omega)
      have hcx : w.cell? ⟨b', off' + k, none⟩ = some (.int .i64 (intAt r k)) := hc' k hlt
      clear hc'
      have hlr : k < r.length := by rw [HL.out]; exact hlt
      obtain ⟨x1, x2, _⟩ := row_code HB.out hlr
      obtain ⟨y1, y2⟩ := wtOf_bd HB.out hlr
      have HT := Lib.hid (wtSum_take ss r k hlr)
      rw [HSL.out] at x2
      clear hlr
      by_cases hx : intAt r k < 0
      · go_wp2
        go_round
        case rel => exact ⟨k + 1, s + 1, by go_num, by go_num, by omega, by rw [HT.out, ← HS.out]; unfold wtOf; rw [if_pos hx]⟩
        case measure => simp [intOf]; omega
      · obtain ⟨q, hq⟩ : ∃ q : Nat, intAt r k = (q : Int) := ⟨(intAt r k).toNat, by omega⟩
        rw [hq] at hcx x2 hx
        have hw : wtOf ss (intAt r k) = (symAt ss q).weight := by unfold wtOf; rw [hq, if_neg (by omega), Int.toNat_natCast]
        rw [hw] at y1 y2
        have HW := Lib.hid hw
        clear hq hw x1
        obtain ⟨b, off, rfl, hb0, hc⟩ := h.at_ (by omega)
        obtain ⟨_, _, _, c3⟩ := hc q (by omega)
        clear hc
        go_wp2
        go_round
        case rel => exact ⟨k + 1, s + (symAt ss q).weight, rfl, by go_num, by omega, by rw [HT.out, ← HS.out, HW.out]⟩
        case measure => simp [intOf]; omega
    · go_wp2
      go_ret
      have e : r.take k = r := List.take_of_length_le (by rw [HL.out]; omega)
      exact ⟨ret_int (by rw [HS.out, e]), rfl⟩

set_option maxHeartbeats 1000000 in
theorem refWeight_any (A A' : Option Addr) (n c m c' : Nat) (ss : List Sym) (r : List Int) (w : World) (h : SymsAt w w.heap.size A n ss) (hn : n ≤ maxLen) (hr : IntsAt w w.heap.size A' m r) (hm : m ≤ maxLen) :
    Calls Try.prog 23 #[.slice A n c, .slice A' m c'] w fun e w' => e = .returned (.tuple #[.int .i64 (weightK ss r), .int .i64 (rowE ss r)]) ∧ Below w.heap.size w w' := by
  have HS := Lib.hid h
  have HR := Lib.hid hr
  cases hmay : mayB ss
  · have hb := rowB_may (r := r) hmay
    have H1 : Hid (weightK ss r = 0) := by show weightK ss r = 0; unfold weightK; rw [hb]; rfl
    have H2 : Hid (rowE ss r = 200) := by show rowE ss r = 200; unfold rowE; rw [hb]; rfl
    clear hb
    go_enter Try.func23, Try.ntmps23
    go_wp2_with fail
    refine (signMay_any A n c ss _ HS.out hn).mono ?_
    rintro e w1 ⟨rfl, hb1⟩
    rw [hmay]
    go_wp2
    go_ret2
    exact ⟨ret_two H1.out.symm H2.out.symm, hb1⟩
  · have HM := Lib.hid hmay
    cases hb : rowB ss r
    · have H1 : Hid (weightK ss r = 0) := by show weightK ss r = 0; unfold weightK; rw [hb]; rfl
      have H2 : Hid (rowE ss r = 200) := by show rowE ss r = 200; unfold rowE; rw [hb]; rfl
      have ht := termsK_no hmay hb
      go_enter Try.func23, Try.ntmps23
      go_wp2_with fail
      refine (signMay_any A n c ss _ HS.out hn).mono ?_
      rintro e w1 ⟨rfl, hb1⟩
      rw [hmay]
      clear hmay
      go_wp2_with fail
      refine (refTerms_any A A' n c m c' _ _ ss r _ (HS.out.on hb1) hn (HR.out.on hb1) hm HM.out).mono ?_
      rintro e w2 ⟨rfl, rfl⟩
      rw [ht]
      clear ht
      go_wp2
      go_ret2
      exact ⟨ret_two H1.out.symm H2.out.symm, hb1⟩
    · have H1 : Hid (weightK ss r = wtSum ss r) := by show weightK ss r = _; unfold weightK; rw [hb]; rfl
      have H2 : Hid (rowE ss r = 0) := by show rowE ss r = 0; unfold rowE; rw [hb]; rfl
      have ht := termsK_yes hb
      have HB := Lib.hid hb
      have hn0 : ¬ (((tlD ss r).length : Int) < 0) := by omega
      clear hb
      go_enter Try.func23, Try.ntmps23
      go_wp2_with fail
      refine (signMay_any A n c ss _ HS.out hn).mono ?_
      rintro e w1 ⟨rfl, hb1⟩
      rw [hmay]
      clear hmay
      go_wp2_with fail
      refine (refTerms_any A A' n c m c' _ _ ss r _ (HS.out.on hb1) hn (HR.out.on hb1) hm HM.out).mono ?_
      rintro e w2 ⟨rfl, rfl⟩
      rw [ht]
      clear ht
      go_wp2_with fail
      refine (refHeavy_any A A' n c m c' _ _ ss r _ (HS.out.on hb1) (HR.out.on hb1) HB.out).mono ?_
      rintro e w2 ⟨rfl, rfl⟩
      go_wp2
      go_ret2
      exact ⟨ret_two H1.out.symm H2.out.symm, hb1⟩

set_option maxHeartbeats 1000000 in
theorem refVars_any (A A' : Option Addr) (n c m c' : Nat) (ss : List Sym) (r : List Int) (w : World) (h : SymsAt w w.heap.size A n ss) (hn : n ≤ maxLen) (hr : IntsAt w w.heap.size A' m r) (hm : m ≤ maxLen) :
    Calls Try.prog 21 #[.slice A n c, .slice A' m c'] w (IntsPost (varsOf ss r) (rowE ss r) w) := by
  have HS := Lib.hid h
  have HR := Lib.hid hr
  cases hmay : mayB ss
  · have hb := rowB_may (r := r) hmay
    have H1 : Hid (varsOf ss r = []) := by show varsOf ss r = []; unfold varsOf; rw [hb]; rfl
    have H2 : Hid (rowE ss r = 200) := by show rowE ss r = 200; unfold rowE; rw [hb]; rfl
    clear hb
    go_enter Try.func21, Try.ntmps21
    go_wp2_with fail
    refine (signMay_any A n c ss _ HS.out hn).mono ?_
    rintro e w1 ⟨rfl, hb1⟩
    rw [hmay]
    go_wp2
    go_ret2
    exact ⟨_, ret_vi H2.out.symm, OwnI.nil_.cast H1.out.symm, hb1⟩
  · have HM := Lib.hid hmay
    cases hb : rowB ss r
    · have H1 : Hid (varsOf ss r = []) := by show varsOf ss r = []; unfold varsOf; rw [hb]; rfl
      have H2 : Hid (rowE ss r = 200) := by show rowE ss r = 200; unfold rowE; rw [hb]; rfl
      have ht := termsK_no hmay hb
      go_enter Try.func21, Try.ntmps21
      go_wp2_with fail
      refine (signMay_any A n c ss _ HS.out hn).mono ?_
      rintro e w1 ⟨rfl, hb1⟩
      rw [hmay]
      clear hmay
      go_wp2_with fail
      refine (refTerms_any A A' n c m c' _ _ ss r _ (HS.out.on hb1) hn (HR.out.on hb1) hm HM.out).mono ?_
      rintro e w2 ⟨rfl, rfl⟩
      rw [ht]
      clear ht
      go_wp2
      go_ret2
      exact ⟨_, ret_vi H2.out.symm, OwnI.nil_.cast H1.out.symm, hb1⟩
    · have ht := termsK_yes hb
      have hn0 : ¬ (((tlD ss r).length : Int) < 0) := by omega
      have H1 : Hid (varsOf ss r = varsN r 24) := by show varsOf ss r = _; unfold varsOf; rw [hb]; rfl
      have H2 : Hid (rowE ss r = 0) := by show rowE ss r = 0; unfold rowE; rw [hb]; rfl
      clear hb
      go_enter Try.func21, Try.ntmps21
      go_wp2_with fail
      refine (signMay_any A n c ss _ HS.out hn).mono ?_
      rintro e w1 ⟨rfl, hb1⟩
      rw [hmay]
      clear hmay
      go_wp2_with fail
      refine (refTerms_any A A' n c m c' _ _ ss r _ (HS.out.on hb1) hn (HR.out.on hb1) hm HM.out).mono ?_
      rintro e w2 ⟨rfl, rfl⟩
      rw [ht]
      clear ht
      go_wp2_with fail
      refine (refVarsOf_any A' m c' r _ (HR.out.on hb1) hm).mono ?_
      rintro e w2 ⟨v2, rfl, hv2, hb2⟩
      have HV2 := Lib.hid hv2
      have HB2 := Lib.hid hb2
      clear hv2 hb2
      go_wp2
      go_ret2
      exact ⟨_, ret_vi H2.out.symm, (HV2.out.cast H1.out.symm).lower hb1.size, hb1.trans (HB2.out.mono hb1.size)⟩

end Go.Proofs.Ytmjopiobahaggaa
