/-
  Contracts of the reference: Row, Starts, EndOf.
-/
import Derived.Test.YtmjopiobahaggaaRefEnd
import Derived.Test.YtmjopiobahaggaaTermMore
namespace Go.Proofs.Ytmjopiobahaggaa
open Go.RowKit
set_option linter.unusedSimpArgs false
set_option linter.unusedVariables false

theorem termsK_no {ss : List Sym} {r : List Int} (hm : mayB ss = true) (h : rowB ss r = false) : termsK ss r = -1 := by
  unfold rowB at h; rw [hm] at h; simp only [Bool.true_and] at h; unfold termsK; rw [h]; rfl
theorem termsK_yes {ss : List Sym} {r : List Int} (h : rowB ss r = true) : termsK ss r = ((tlD ss r).length : Int) := by
  unfold rowB at h; unfold termsK; simp at h; simp [h.1.2, h.2]
theorem rowB_may {ss : List Sym} {r : List Int} (h : mayB ss = false) : rowB ss r = false := by unfold rowB; rw [h]; rfl

set_option maxHeartbeats 1000000 in
theorem refRow_any (A A' : Option Addr) (n c m c' : Nat) (ss : List Sym) (r : List Int) (w : World) (h : SymsAt w w.heap.size A n ss) (hn : n ≤ maxLen) (hr : IntsAt w w.heap.size A' m r) (hm : m ≤ maxLen) :
    Calls Try.prog 11 #[.slice A n c, .slice A' m c'] w fun e w' => e = .returned (.tuple #[.int .i64 (rowK ss r), .int .i64 (rowE ss r)]) ∧ Below w.heap.size w w' := by
  have HS := Lib.hid h
  have HR := Lib.hid hr
  cases hmay : mayB ss
  · have hb := rowB_may (r := r) hmay
    have H1 : Hid (rowK ss r = 0) := by show rowK ss r = 0; unfold rowK; rw [hb]; rfl
    have H2 : Hid (rowE ss r = 200) := by show rowE ss r = 200; unfold rowE; rw [hb]; rfl
    clear hb
    go_enter Try.func11, Try.ntmps11
    go_wp2_with fail
    refine (signMay_any A n c ss _ HS.out hn).mono ?_
    rintro e w1 ⟨rfl, hb1⟩
    rw [hmay]
    go_wp2
    go_ret2
    exact ⟨ret_two H1.out.symm H2.out.symm, hb1⟩
  · have HM := Lib.hid hmay
    cases hb : rowB ss r
    · have H1 : Hid (rowK ss r = 0) := by show rowK ss r = 0; unfold rowK; rw [hb]; rfl
      have H2 : Hid (rowE ss r = 200) := by show rowE ss r = 200; unfold rowE; rw [hb]; rfl
      have ht := termsK_no hmay hb
      go_enter Try.func11, Try.ntmps11
      go_wp2_with fail
      refine (signMay_any A n c ss _ HS.out hn).mono ?_
      rintro e w1 ⟨rfl, hb1⟩
      rw [hmay]
      clear hmay
      go_wp2_with fail
      refine (refTerms_any A A' n c m c' _ _ ss r _ (HS.out.on hb1) hn (HR.out.on hb1) hm HM.out).mono ?_
      rintro e w2 ⟨rfl, rfl⟩
      rw [ht]
      clear ht
      go_wp2
      go_ret2
      exact ⟨ret_two H1.out.symm H2.out.symm, hb1⟩
    · have H1 : Hid (rowK ss r = ((tlD ss r).length : Int)) := by show rowK ss r = _; unfold rowK; rw [hb]; rfl
      have H2 : Hid (rowE ss r = 0) := by show rowE ss r = 0; unfold rowE; rw [hb]; rfl
      have ht := termsK_yes hb
      have hn0 : ¬ (((tlD ss r).length : Int) < 0) := by omega
      go_enter Try.func11, Try.ntmps11
      go_wp2_with fail
      refine (signMay_any A n c ss _ HS.out hn).mono ?_
      rintro e w1 ⟨rfl, hb1⟩
      rw [hmay]
      clear hmay
      go_wp2_with fail
      refine (refTerms_any A A' n c m c' _ _ ss r _ (HS.out.on hb1) hn (HR.out.on hb1) hm HM.out).mono ?_
      rintro e w2 ⟨rfl, rfl⟩
      rw [ht]
      go_wp2_with fail
      refine (refTerms_any A A' n c m c' _ _ ss r _ (HS.out.on hb1) hn (HR.out.on hb1) hm HM.out).mono ?_
      rintro e w2 ⟨rfl, rfl⟩
      rw [ht]
      clear ht
      go_wp2
      go_ret2
      exact ⟨ret_two H1.out.symm H2.out.symm, hb1⟩

set_option maxHeartbeats 1000000 in
theorem refEndOf_any (A A' : Option Addr) (n c m c' : Nat) (ss : List Sym) (r : List Int) (at_ : Int) (w : World) (h : SymsAt w w.heap.size A n ss) (hn : n ≤ maxLen) (hr : IntsAt w w.heap.size A' m r) (hm : m ≤ maxLen) :
    Calls Try.prog 15 #[.slice A n c, .slice A' m c', .int .i64 at_] w fun e w' => e = .returned (.tuple #[.int .i64 (endK ss r at_), .int .i64 (endE ss r at_)]) ∧ Below w.heap.size w w' := by
  have HS := Lib.hid h
  have HR := Lib.hid hr
  have HL := Lib.hid hr.len
  have hm' := hm
  unfold maxLen at hm
  cases hmay : mayB ss
  · have hb := rowB_may (r := r) hmay
    have H1 : Hid (endK ss r at_ = 0) := by show endK ss r at_ = 0; unfold endK endB; rw [hb]; rfl
    have H2 : Hid (endE ss r at_ = 200) := by show endE ss r at_ = 200; unfold endE endB; rw [hb]; rfl
    clear hb
    go_enter Try.func15, Try.ntmps15
    go_wp2_with fail
    refine (signMay_any A n c ss _ HS.out hn).mono ?_
    rintro e w1 ⟨rfl, hb1⟩
    rw [hmay]
    go_wp2
    go_ret2
    exact ⟨ret_two H1.out.symm H2.out.symm, hb1⟩
  · have HM := Lib.hid hmay
    cases hb : rowB ss r
    · have H1 : Hid (endK ss r at_ = 0) := by show endK ss r at_ = 0; unfold endK endB; rw [hb]; rfl
      have H2 : Hid (endE ss r at_ = 200) := by show endE ss r at_ = 200; unfold endE endB; rw [hb]; rfl
      have ht := termsK_no hmay hb
      go_enter Try.func15, Try.ntmps15
      go_wp2_with fail
      refine (signMay_any A n c ss _ HS.out hn).mono ?_
      rintro e w1 ⟨rfl, hb1⟩
      rw [hmay]
      clear hmay
      go_wp2_with fail
      refine (refTerms_any A A' n c m c' _ _ ss r _ (HS.out.on hb1) hn (HR.out.on hb1) hm' HM.out).mono ?_
      rintro e w2 ⟨rfl, rfl⟩
      rw [ht]
      clear ht
      go_wp2
      go_ret2
      exact ⟨ret_two H1.out.symm H2.out.symm, hb1⟩
    · have ht := termsK_yes hb
      have HB := Lib.hid hb
      have hn0 : ¬ (((tlD ss r).length : Int) < 0) := by omega
      have h48 : m ≤ 48 := by have := (row_parts hb).2.1; rw [HL.out] at this; exact this
      by_cases hat : 0 ≤ at_ ∧ at_ < (m : Int)
      · obtain ⟨t, rfl⟩ : ∃ t : Nat, at_ = (t : Int) := ⟨at_.toNat, by omega⟩
        have hlt : t < m := by omega
        have hE : endB ss r (t : Int) = true := by unfold endB; rw [hb, HL.out]; simp [hlt]
        have H1 : Hid (endK ss r (t : Int) = (endAt ss r t : Int)) := by show endK ss r _ = _; unfold endK; rw [hE]; rfl
        have H2 : Hid (endE ss r (t : Int) = 0) := by show endE ss r _ = 0; unfold endE; rw [hE]; rfl
        have hsc := scan_start hb (t := t) (by rw [HL.out]; exact hlt)
        clear hat hE hb
        go_enter Try.func15, Try.ntmps15
        go_wp2_with fail
        refine (signMay_any A n c ss _ HS.out hn).mono ?_
        rintro e w1 ⟨rfl, hb1⟩
        rw [hmay]
        clear hmay
        go_wp2_with fail
        refine (refTerms_any A A' n c m c' _ _ ss r _ (HS.out.on hb1) hn (HR.out.on hb1) hm' HM.out).mono ?_
        rintro e w2 ⟨rfl, rfl⟩
        rw [ht]
        clear ht
        have k1 : ¬ ((t : Int) < 0) := by omega
        have k2 : ¬ ((m : Int) ≤ (t : Int)) := by omega
        go_wp2_with fail
        refine (refEnd_any A A' n c m c' _ _ t ss r _ (HS.out.on hb1) hn (HR.out.on hb1) (by omega) HM.out (by omega)).mono ?_
        rintro e w2 ⟨rfl, rfl⟩
        rw [hsc]
        clear hsc
        go_wp2
        go_ret2
        exact ⟨ret_two H1.out.symm H2.out.symm, hb1⟩
      · have hE : endB ss r at_ = false := by unfold endB; rw [hb, HL.out]; simp; intro h1; omega
        have H1 : Hid (endK ss r at_ = 0) := by show endK ss r at_ = 0; unfold endK; rw [hE]; rfl
        have H2 : Hid (endE ss r at_ = 200) := by show endE ss r at_ = 200; unfold endE; rw [hE]; rfl
        clear hE hb
        by_cases h0 : at_ < 0
        all_goals
          (try have h1 : (m : Int) ≤ at_ := by omega)
          clear hat
          go_enter Try.func15, Try.ntmps15
          go_wp2_with fail
          refine (signMay_any A n c ss _ HS.out hn).mono ?_
          rintro e w1 ⟨rfl, hb1⟩
          rw [hmay]
          clear hmay
          go_wp2_with fail
          refine (refTerms_any A A' n c m c' _ _ ss r _ (HS.out.on hb1) hn (HR.out.on hb1) hm' HM.out).mono ?_
          rintro e w2 ⟨rfl, rfl⟩
          rw [ht]
          clear ht
          go_wp2
          go_ret2
          exact ⟨ret_two H1.out.symm H2.out.symm, hb1⟩

set_option maxHeartbeats 1000000 in
theorem refStarts_any (A A' : Option Addr) (n c m c' : Nat) (ss : List Sym) (r : List Int) (w : World) (h : SymsAt w w.heap.size A n ss) (hn : n ≤ maxLen) (hr : IntsAt w w.heap.size A' m r) (hm : m ≤ maxLen) :
    Calls Try.prog 13 #[.slice A n c, .slice A' m c'] w (IntsPost (startsOf ss r) (rowE ss r) w) := by
  have HS := Lib.hid h
  have HR := Lib.hid hr
  have HL := Lib.hid hr.len
  have hm' := hm
  unfold maxLen at hm
  cases hmay : mayB ss
  · have hb := rowB_may (r := r) hmay
    have H1 : Hid (startsOf ss r = []) := by show startsOf ss r = []; unfold startsOf; rw [hb]; rfl
    have H2 : Hid (rowE ss r = 200) := by show rowE ss r = 200; unfold rowE; rw [hb]; rfl
    clear hb
    go_enter Try.func13, Try.ntmps13
    go_wp2_with fail
    refine (signMay_any A n c ss _ HS.out hn).mono ?_
    rintro e w1 ⟨rfl, hb1⟩
    rw [hmay]
    go_wp2
    go_ret2
    exact ⟨_, ret_vi H2.out.symm, OwnI.nil_.cast H1.out.symm, hb1⟩
  · have HM := Lib.hid hmay
    cases hb : rowB ss r
    · have H1 : Hid (startsOf ss r = []) := by show startsOf ss r = []; unfold startsOf; rw [hb]; rfl
      have H2 : Hid (rowE ss r = 200) := by show rowE ss r = 200; unfold rowE; rw [hb]; rfl
      have ht := termsK_no hmay hb
      go_enter Try.func13, Try.ntmps13
      go_wp2_with fail
      refine (signMay_any A n c ss _ HS.out hn).mono ?_
      rintro e w1 ⟨rfl, hb1⟩
      rw [hmay]
      clear hmay
      go_wp2_with fail
      refine (refTerms_any A A' n c m c' _ _ ss r _ (HS.out.on hb1) hn (HR.out.on hb1) hm' HM.out).mono ?_
      rintro e w2 ⟨rfl, rfl⟩
      rw [ht]
      clear ht
      go_wp2
      go_ret2
      exact ⟨_, ret_vi H2.out.symm, OwnI.nil_.cast H1.out.symm, hb1⟩
    · have ht := termsK_yes hb
      have HB := Lib.hid hb
      have hn0 : ¬ (((tlD ss r).length : Int) < 0) := by omega
      have h48 : m ≤ 48 := by have := (row_parts hb).2.1; rw [HL.out] at this; exact this
      have H1 : Hid (startsOf ss r = stN ss r (tlD ss r).length) := by show startsOf ss r = _; unfold startsOf; rw [hb]; rfl
      have H2 : Hid (rowE ss r = 0) := by show rowE ss r = 0; unfold rowE; rw [hb]; rfl
      clear hb
      go_enter Try.func13, Try.ntmps13
      go_wp2_with fail
      refine (signMay_any A n c ss _ HS.out hn).mono ?_
      rintro e w1 ⟨rfl, hb1⟩
      rw [hmay]
      clear hmay
      go_wp2_with fail
      refine (refTerms_any A A' n c m c' _ _ ss r _ (HS.out.on hb1) hn (HR.out.on hb1) hm' HM.out).mono ?_
      rintro e w2 ⟨rfl, rfl⟩
      rw [ht]
      clear ht
      go_wp2_with fail
      go_loopw [6, 7] (fun q i wr => ∃ p t : Nat, i = .int .i64 t ∧ At ss r p t ∧ OwnI wr w1.heap.size q (stN ss r p) ∧ Below w1.heap.size w1 wr) (fun _ i _ => m - (intOf i).toNat)
      case atStart => exact ⟨0, 0, rfl, At.zero ss r, OwnI.nil_, Below.refl _ _⟩
      case round =>
        obtain ⟨p, t, rfl, hat, hown, hbw⟩ := hrel
        have HAT := Lib.hid hat
        have HOWN := Lib.hid hown
        have HBW := Lib.hid hbw
        obtain ⟨b1, b2, b3⟩ := hat.bd HB.out
        have B3 := Lib.hid b3
        rw [HL.out] at b1 b2
        have hsz := hbw.size
        clear hat b3 hown hbw
        by_cases hlt : t < m
        · obtain ⟨s1, s2, _⟩ := HAT.out.step HB.out (by rw [HL.out]; exact hlt)
          have S1 := Lib.hid s1
          have hsc := scan_start HB.out (t := t) (by rw [HL.out]; exact hlt)
          clear s1
          go_wp2_with (at_builtin
                       refine app_int1 rfl (.tmp 21) (.tmp 23) rfl w1.heap.size _ (stN ss r p) (t : Int) rfl HOWN.out rfl (by rw [stN_length]; omega) hsz ?_
                       intro v2 w2 hown2 hb2
                       have HOWN2 := Lib.hid hown2
                       have HB2 := Lib.hid (HBW.out.trans hb2)
                       clear hown2 hb2)
          refine (refEnd_any A A' n c m c' _ _ t ss r _ ((HS.out.on hb1).on HB2.out) hn ((HR.out.on hb1).on HB2.out) (by omega) HM.out (by omega)).mono ?_
          rintro e w3 ⟨rfl, rfl⟩
          rw [hsc]
          clear hsc
          go_wp2
          go_roundw
          case rel => exact ⟨p + 1, endAt ss r t, rfl, S1.out, HOWN2.out.cast (by rw [stN_succ, ← HAT.out.eq]), HB2.out⟩
          case measure => simp [intOf]; omega
        · have hp : p = (tlD ss r).length := B3.out.1 (by rw [HL.out]; omega)
          have HP := Lib.hid hp
          clear hp
          go_wp2
          go_ret2
          exact ⟨_, ret_vi H2.out.symm, (HOWN.out.cast (by rw [H1.out, HP.out])).lower hb1.size, hb1.trans (HBW.out.mono hb1.size)⟩

end Go.Proofs.Ytmjopiobahaggaa
