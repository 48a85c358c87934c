/-
  Contracts of the leaves of package sign and of the reference: letters, digits, bounds, kinds, names.
-/
import Derived.Test.YtlmpapdpmmkjnaaRows
import Derived.WalkKit
import Derived.WalkSpells
import Derived.WalkLawsBesides
import Derived.Lib.Hide
import Derived.Test.YtlmpapdpmmkjnaaPlain
namespace Go.Proofs.Ytlmpapdpmmkjnaa
open Go.RowKit
set_option linter.unusedSimpArgs false
set_option linter.unusedVariables false

theorem ret_bool {a b : Bool} (h : a = b) : Ending.returned (.bool a) = .returned (.bool b) := by rw [h]
theorem ret_int {k : IntKind} {a b : Int} (h : a = b) : Ending.returned (.int k a) = .returned (.int k b) := by rw [h]

set_option maxHeartbeats 400000 in
theorem isLetter_any (n : Int) (w : World) :
    Calls Try.prog 66 #[.int .u8 n] w fun e w' => e = .returned (.bool (letterB n)) ∧ w = w' := by
  unfold letterB
  by_cases h1 : 97 ≤ n
  all_goals by_cases h2 : n ≤ 122
  all_goals
    go_enter Try.func66, Try.ntmps66
    go_wp2
    go_ret
    exact ⟨by simp [h1, h2], rfl⟩

set_option maxHeartbeats 400000 in
theorem small_any (n : Int) (w : World) :
    Calls Try.prog 61 #[.int .u8 n] w fun e w' => e = .returned (.bool (letterB n)) ∧ w = w' := by
  unfold letterB
  by_cases h1 : 97 ≤ n
  all_goals by_cases h2 : n ≤ 122
  all_goals
    go_enter Try.func61, Try.ntmps61
    go_wp2
    go_ret
    exact ⟨by simp [h1, h2], rfl⟩

set_option maxHeartbeats 400000 in
theorem isDigit_any (n : Int) (w : World) :
    Calls Try.prog 67 #[.int .u8 n] w fun e w' => e = .returned (.bool (digitB n)) ∧ w = w' := by
  unfold digitB
  by_cases h1 : 48 ≤ n
  all_goals by_cases h2 : n ≤ 57
  all_goals
    go_enter Try.func67, Try.ntmps67
    go_wp2
    go_ret
    exact ⟨by simp [h1, h2], rfl⟩

set_option maxHeartbeats 400000 in
theorem within_any (n a b : Int) (w : World) :
    Calls Try.prog 64 #[.int .i64 n, .int .i64 a, .int .i64 b] w fun e w' => e = .returned (.bool (withinB n a b)) ∧ w = w' := by
  unfold withinB
  by_cases h1 : a ≤ n
  all_goals by_cases h2 : n ≤ b
  all_goals
    go_enter Try.func64, Try.ntmps64
    go_wp2
    go_ret
    exact ⟨by simp [h1, h2], rfl⟩

set_option maxHeartbeats 400000 in
theorem validKind_any (n : Int) (w : World) :
    Calls Try.prog 63 #[.int .i64 n] w fun e w' => e = .returned (.bool (kindB n)) ∧ w = w' := by
  unfold kindB
  go_enter Try.func63, Try.ntmps63
  go_wp2
  all_goals
    go_ret
    refine ⟨ret_bool ?_, rfl⟩
    simp_all
    try omega

set_option maxHeartbeats 400000 in
theorem validName_any (s : ByteArray) (w : World) (hs : s.size ≤ maxLen) :
    Calls Try.prog 62 #[.string s] w fun e w' => e = .returned (.bool (nameB s)) ∧ w = w' := by
  unfold maxLen at hs
  by_cases h18 : 1 ≤ s.size ∧ s.size ≤ 8
  · obtain ⟨h1, h8⟩ := h18
    have hw : withinB (s.size : Int) 1 8 = true := by unfold withinB; simp; omega
    have h0 := byteAt_eq s 0 (by omega)
    cases hl : letterB ((s[0]).toNat : Int)
    · have H : Hid (nameB s = false) := nameB_false fun hh => by rw [h0] at hl; rw [hl] at hh; simp at hh
      clear h0
      go_enter Try.func62, Try.ntmps62
      go_wp2_with (first
        | (go_at_call 64; refine (within_any _ _ _ _).mono ?_; rintro e w' ⟨rfl, rfl⟩)
        | (go_at_call 66; refine (isLetter_any _ _).mono ?_; rintro e w' ⟨rfl, rfl⟩))
      go_ret
      exact ⟨ret_bool H.out.symm, rfl⟩
    · have H0 : Hid (letterB (byteAt s 0) = true) := by rw [← h0]; exact hl
      clear h0
      go_enter Try.func62, Try.ntmps62
      go_wp2_with (first
        | (go_at_call 64; refine (within_any _ _ _ _).mono ?_; rintro e w' ⟨rfl, rfl⟩)
        | (go_at_call 66; refine (isLetter_any _ _).mono ?_; rintro e w' ⟨rfl, rfl⟩))
      go_loop [3] (fun i => ∃ k : Nat, 1 ≤ k ∧ k ≤ s.size ∧ i = .int .i64 k ∧ okTo s 1 k) (fun i => s.size - (intOf i).toNat)
      case atStart => exact ⟨1, by omega, by omega, rfl, okTo_nil s 1⟩
      case round =>
        obtain ⟨k, hk1, hk, rfl, hok⟩ := hrel
        have HOK := Lib.hid hok
        clear hok
        by_cases hlt : k < s.size
        · have hbk := byteAt_eq s k hlt
          cases hlk : letterB ((s[k]).toNat : Int)
          · cases hdk : digitB ((s[k]).toNat : Int)
            · have H : Hid (nameB s = false) := nameB_bad hlt (by unfold okB; rw [← hbk, hlk, hdk]; rfl)
              clear hbk
              go_wp2_with (first
                | (go_at_call 67; refine (isDigit_any _ _).mono ?_; rintro e w' ⟨rfl, rfl⟩)
                | (go_at_call 66; refine (isLetter_any _ _).mono ?_; rintro e w' ⟨rfl, rfl⟩))
              go_ret
              exact ⟨ret_bool H.out.symm, rfl⟩
            · have H : Hid (okB (byteAt s k) = true) := by show okB _ = true; unfold okB; rw [← hbk, hdk]; simp
              clear hbk
              go_wp2_with (first
                | (go_at_call 67; refine (isDigit_any _ _).mono ?_; rintro e w' ⟨rfl, rfl⟩)
                | (go_at_call 66; refine (isLetter_any _ _).mono ?_; rintro e w' ⟨rfl, rfl⟩))
              go_round
              case rel => exact ⟨k + 1, by omega, by omega, by go_num, okTo_step HOK.out H.out⟩
              case measure => simp [intOf]; omega
          · have H : Hid (okB (byteAt s k) = true) := by show okB _ = true; unfold okB; rw [← hbk, hlk]; simp
            clear hbk
            go_wp2_with (first
              | (go_at_call 67; refine (isDigit_any _ _).mono ?_; rintro e w' ⟨rfl, rfl⟩)
              | (go_at_call 66; refine (isLetter_any _ _).mono ?_; rintro e w' ⟨rfl, rfl⟩))
            go_round
            case rel => exact ⟨k + 1, by omega, by omega, by go_num, okTo_step HOK.out H.out⟩
            case measure => simp [intOf]; omega
        · obtain rfl : k = s.size := by omega
          have H : Hid (nameB s = true) := nameB_true h1 h8 H0.out HOK.out
          go_wp2
          go_ret
          exact ⟨ret_bool H.out.symm, rfl⟩
  · have hw : withinB (s.size : Int) 1 8 = false := by unfold withinB; simp; omega
    have H : Hid (nameB s = false) := nameB_false fun hh => h18 ⟨hh.1, hh.2.1⟩
    clear h18
    go_enter Try.func62, Try.ntmps62
    go_wp2_with (first
      | (go_at_call 64; refine (within_any _ _ _ _).mono ?_; rintro e w' ⟨rfl, rfl⟩)
      | (go_at_call 66; refine (isLetter_any _ _).mono ?_; rintro e w' ⟨rfl, rfl⟩))
    go_ret
    exact ⟨ret_bool H.out.symm, rfl⟩

end Go.Proofs.Ytlmpapdpmmkjnaa
