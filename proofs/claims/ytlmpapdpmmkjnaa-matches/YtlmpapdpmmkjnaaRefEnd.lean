/-
  Contracts of the reference: End, Terms.
-/
import Derived.Test.YtlmpapdpmmkjnaaPlainScan
import Derived.Test.YtlmpapdpmmkjnaaTermRow
namespace Go.Proofs.Ytlmpapdpmmkjnaa
open Go.RowKit
set_option linter.unusedSimpArgs false
set_option linter.unusedVariables false

set_option maxHeartbeats 1000000 in
theorem refEnd_any (A A' : Option Addr) (n c m c' B B' at_ : Nat) (ss : List Sym) (r : List Int) (w : World) (h : SymsAt w B A n ss) (hn : n ≤ maxLen) (hr : IntsAt w B' A' m r) (hm : m ≤ 17592186044416) (hmay : mayB ss = true) (hat : at_ ≤ m) :
    Calls Try.prog 47 #[.slice A n c, .slice A' m c', .int .i64 at_] w fun e w' => e = .returned (.int .i64 (scanAt ss r 1 at_)) ∧ w = w' := by
  unfold maxLen at hn
  have HM := Lib.hid hmay
  have HL := Lib.hid hr.len
  have HSL := Lib.hid h.len
  clear hmay
  go_enter Try.func47, Try.ntmps47
  go_wp2
  go_loop [7, 8] (fun q i => ∃ k j : Nat, q = .int .i64 k ∧ i = .int .i64 j ∧ j ≤ m ∧ k ≤ 3 * j + 1 ∧ scanAt ss r k j = scanAt ss r 1 at_) (fun _ i => m + 1 - (intOf i).toNat)
  case atStart => exact ⟨1, at_, rfl, rfl, hat, by omega, rfl⟩
  case round =>
    obtain ⟨k, j, rfl, rfl, hj, hk, hsc⟩ := hrel
    have HSC := Lib.hid hsc
    clear hsc
    by_cases hk0 : k = 0
    · subst hk0
      go_wp2
      go_ret
      exact ⟨ret_int (by rw [← HSC.out, scanAt_zero]), rfl⟩
    · obtain ⟨k, rfl⟩ : ∃ q, k = q + 1 := ⟨k - 1, by omega⟩
      clear hk0
      by_cases hlt : j < m
      · obtain ⟨b', off', rfl, _, hc'⟩ := hr.at_ (by omega)
        have hcx : w.cell? ⟨b', off' + j, none⟩ = some (.int .i64 (intAt r j)) := hc' j hlt
        have hlr : j < r.length := by rw [HL.out]; exact hlt
        have HX := Lib.hid (intAt_get hlr)
        have HLR := Lib.hid hlr
        clear hlr hc'
        cases ha : arOf ss (intAt r j)
        · have H := Lib.hid (scanAt_bad (k := k) HLR.out HX.out ha)
          rcases ar_none ha with ⟨h1, h2⟩ | ⟨h1, h2⟩ | ⟨h1, h2, h3⟩
          · clear ha
            go_wp2
            go_ret
            exact ⟨ret_int (by rw [← HSC.out, H.out]), rfl⟩
          · rw [HSL.out] at h2
            have h3 : ¬ intAt r j < -24 := by omega
            clear ha
            go_wp2
            go_ret
            exact ⟨ret_int (by rw [← HSC.out, H.out]), rfl⟩
          · obtain ⟨q, hq⟩ : ∃ q : Nat, intAt r j = (q : Int) := ⟨(intAt r j).toNat, by omega⟩
            rw [hq] at hcx h2 h3
            rw [Int.toNat_natCast] at h2 h3
            rw [HSL.out] at h2
            obtain ⟨b, off, rfl, _, hc⟩ := h.at_ (by omega)
            obtain ⟨_, c1, _, _⟩ := hc q h2
            rw [h3] at c1
            clear ha hc h3 hq h1
            go_wp2
            go_ret
            exact ⟨ret_int (by rw [← HSC.out, H.out]), rfl⟩
        · rename_i a
          have H := Lib.hid (scanAt_step (k := k) HLR.out HX.out ha)
          by_cases hx : intAt r j < 0
          · obtain ⟨h1, rfl⟩ := ar_var hx ha
            have h2 : ¬ intAt r j < -24 := by omega
            have h3 : ¬ (n : Int) ≤ intAt r j := by omega
            have h4 : ¬ 0 ≤ intAt r j := by omega
            clear ha h1
            go_wp2
            go_round
            case rel => exact ⟨k, j + 1, by go_num, by go_num, by omega, by omega, by rw [← HSC.out, H.out]; rfl⟩
            case measure => simp [intOf]; omega
          · obtain ⟨h1, h2, h3, h4⟩ := ar_sym HM.out (by omega) ha
            obtain ⟨q, hq⟩ : ∃ q : Nat, intAt r j = (q : Int) := ⟨(intAt r j).toNat, by omega⟩
            rw [hq] at hcx h1 h2 h3 hx
            rw [Int.toNat_natCast] at h1 h2 h3
            rw [HSL.out] at h1
            obtain ⟨b, off, rfl, _, hc⟩ := h.at_ (by omega)
            obtain ⟨_, c1, c2, _⟩ := hc q h1
            rw [h3] at c2
            have h2' : ((symAt ss q).kind == 0) = false := by simpa using h2
            clear ha hc h2 h3 hq hx
            go_wp2
            go_round
            case rel => exact ⟨k + a, j + 1, by go_num, by go_num, by omega, by omega, by rw [← HSC.out, H.out]⟩
            case measure => simp [intOf]; omega
      · have H : Hid (scanAt ss r (k + 1) j = -1) := scanAt_end (by rw [HL.out]; omega)
        go_wp2
        go_ret
        exact ⟨ret_int (by rw [← HSC.out, H.out]), rfl⟩

/-- How many terms a row has; -1. -/
def termsK (ss : List Sym) (r : List Int) : Int := if decide (r.length ≤ 48) && rowP ss r then ((tlD ss r).length : Int) else -1
theorem scan_start {ss : List Sym} {r : List Int} (hr : rowB ss r = true) {t : Nat} (ht : t < r.length) : scanAt ss r 1 t = (endAt ss r t : Int) := by
  obtain ⟨_, _, h3⟩ := row_parts hr
  obtain ⟨ns, hns⟩ := tl_drop_some h3 t
  unfold scanAt endAt hd
  rw [scan_tl _ hns 1, hns]
  cases ns with
  | nil => have := (tl_nil_iff hns).1 rfl; simp at this; omega
  | cons m ns => simp [sumL]

set_option maxHeartbeats 1000000 in
theorem refTerms_any (A A' : Option Addr) (n c m c' B B' : Nat) (ss : List Sym) (r : List Int) (w : World) (h : SymsAt w B A n ss) (hn : n ≤ maxLen) (hr : IntsAt w B' A' m r) (hm : m ≤ maxLen) (hmay : mayB ss = true) :
    Calls Try.prog 26 #[.slice A n c, .slice A' m c'] w fun e w' => e = .returned (.int .i64 (termsK ss r)) ∧ w = w' := by
  unfold maxLen at hm
  have HL := Lib.hid hr.len
  have HM := Lib.hid hmay
  clear hmay
  by_cases h48 : m ≤ 48
  · cases ht : tl ss r
    · have HT := Lib.hid ht
      have H : Hid (termsK ss r = -1) := by show termsK ss r = -1; unfold termsK rowP; rw [ht]; simp
      clear ht
      go_enter Try.func26, Try.ntmps26
      go_wp2
      go_loop [5, 6] (fun q i => ∃ p t : Nat, q = .int .i64 p ∧ i = .int .i64 t ∧ p ≤ t ∧ t ≤ m ∧ tl ss (r.drop t) = none) (fun _ i => m - (intOf i).toNat)
      case atStart => exact ⟨0, 0, rfl, rfl, by omega, by omega, HT.out⟩
      case round =>
        obtain ⟨p, t, rfl, rfl, hpt, htm, hno⟩ := hrel
        have HNO := Lib.hid hno
        clear hno
        have hlt : t < m := by
          rcases Nat.lt_or_ge t m with h | h
          · exact h
          · have := HNO.out; rw [List.drop_of_length_le (by rw [HL.out]; exact h)] at this; cases this
        cases hs : scan ss (r.drop t) 1
        · have hsc : scanAt ss r 1 t = -1 := by unfold scanAt; rw [hs]
          clear hs
          go_wp2_with fail
          refine (refEnd_any A A' n c m c' B B' t ss r _ h hn hr (by omega) HM.out (by omega)).mono ?_
          rintro e w1 ⟨rfl, rfl⟩
          rw [hsc]
          clear hsc
          go_wp2
          go_ret
          exact ⟨ret_int H.out.symm, rfl⟩
        · rename_i l
          have hsc : scanAt ss r 1 t = ((t + l : Nat) : Int) := by unfold scanAt; rw [hs]
          obtain ⟨l1, l2⟩ := scan_le _ _ _ hs
          simp at l1
          rw [HL.out] at l1
          have l3 := l2 (Nat.le_refl _)
          have HN2 : Hid (tl ss (r.drop (t + l)) = none) := by
            show tl ss (r.drop (t + l)) = none
            cases hx : tl ss (r.drop (t + l)) with
            | none => rfl
            | some ns =>
              rw [← List.drop_drop] at hx
              obtain ⟨qs, hqs⟩ := scan_back _ _ _ hs hx
              rw [HNO.out] at hqs; cases hqs
          clear hs l2
          go_wp2_with fail
          refine (refEnd_any A A' n c m c' B B' t ss r _ h hn hr (by omega) HM.out (by omega)).mono ?_
          rintro e w1 ⟨rfl, rfl⟩
          rw [hsc]
          clear hsc
          have hn0 : ¬ (((t + l : Nat) : Int) < 0) := by omega
          go_wp2
          go_round
          case rel => exact ⟨p + 1, t + l, by go_num, by go_num, by omega, by omega, HN2.out⟩
          case measure => simp [intOf]; omega
    · rename_i ms
      have hb : rowB ss r = true := row_true HM.out (by rw [HL.out]; exact h48) ht
      have H : Hid (termsK ss r = ((tlD ss r).length : Int)) := by show termsK ss r = _; unfold termsK rowP; rw [ht, HL.out]; simp [h48]
      have HB := Lib.hid hb
      clear hb ht
      go_enter Try.func26, Try.ntmps26
      go_wp2
      go_loop [5, 6] (fun q i => ∃ p t : Nat, q = .int .i64 p ∧ i = .int .i64 t ∧ At ss r p t) (fun _ i => m - (intOf i).toNat)
      case atStart => exact ⟨0, 0, rfl, rfl, At.zero ss r⟩
      case round =>
        obtain ⟨p, t, rfl, rfl, hat⟩ := hrel
        have HAT := Lib.hid hat
        obtain ⟨b1, b2, b3⟩ := hat.bd HB.out
        have B3 := Lib.hid b3
        rw [HL.out] at b1 b2
        clear hat b3
        by_cases hlt : t < m
        · obtain ⟨s1, s2, _⟩ := HAT.out.step HB.out (by rw [HL.out]; exact hlt)
          have S1 := Lib.hid s1
          have hsc := scan_start HB.out (t := t) (by rw [HL.out]; exact hlt)
          clear s1
          go_wp2_with fail
          refine (refEnd_any A A' n c m c' B B' t ss r _ h hn hr (by omega) HM.out (by omega)).mono ?_
          rintro e w1 ⟨rfl, rfl⟩
          rw [hsc]
          clear hsc
          have hn0 : ¬ (((endAt ss r t : Nat) : Int) < 0) := by omega
          go_wp2
          go_round
          case rel => exact ⟨p + 1, endAt ss r t, by go_num, rfl, S1.out⟩
          case measure => simp [intOf]; omega
        · have hp : p = (tlD ss r).length := B3.out.1 (by rw [HL.out]; omega)
          have HP := Lib.hid hp
          clear hp
          go_wp2
          go_ret
          exact ⟨ret_int (by rw [H.out, HP.out]), rfl⟩
  · have H : Hid (termsK ss r = -1) := by show termsK ss r = -1; unfold termsK; rw [HL.out]; simp [h48]
    go_enter Try.func26, Try.ntmps26
    go_wp2
    go_ret
    exact ⟨ret_int H.out.symm, rfl⟩

end Go.Proofs.Ytlmpapdpmmkjnaa
