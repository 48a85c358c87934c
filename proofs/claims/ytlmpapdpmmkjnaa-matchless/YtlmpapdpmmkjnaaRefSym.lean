/-
  Contract of the reference's SymMay.
-/
import Derived.Test.YtlmpapdpmmkjnaaLeafSym
namespace Go.Proofs.Ytlmpapdpmmkjnaa
open Go.RowKit
set_option linter.unusedSimpArgs false
set_option linter.unusedVariables false

theorem symB_name {n : ByteArray} {k a g : Int} (h : nameB n = false) : symB ⟨n, k, a, g⟩ = false := by unfold symB; simp [h]

theorem symB_split {n : ByteArray} {k a g : Int} (h : nameB n = true) : symB ⟨n, k, a, g⟩ = (decide (0 ≤ k) && decide (k ≤ 2) && decide (0 ≤ a) && decide (a ≤ 3) && decide (1 ≤ g) && decide (g ≤ 20)) := by
  unfold symB kindB withinB; simp [h, Bool.and_assoc]

set_option maxHeartbeats 1000000 in
theorem symMay_any (n : ByteArray) (k a g : Int) (w : World) (hs : n.size ≤ maxLen) :
    Calls Try.prog 45 #[.agg #[.string n, .int .i64 k, .int .i64 a, .int .i64 g]] w fun e w' => e = .returned (.bool (symB ⟨n, k, a, g⟩)) ∧ Below w.heap.size w w' := by
  unfold maxLen at hs
  by_cases h1 : 1 ≤ n.size
  · by_cases h8 : n.size ≤ 8
    · have h0 := byteAt_eq n 0 (by omega)
      cases hl : letterB ((n[0]).toNat : Int)
      · have H : Hid (symB ⟨n, k, a, g⟩ = false) := symB_name (nameB_false fun hh => by rw [h0] at hl; rw [hl] at hh; simp at hh)
        clear h0
        go_enter Try.func45, Try.ntmps45
        go_wp2_with (first
          | (go_at_call 61; refine (small_any _ _).mono ?_; rintro e w' ⟨rfl, rfl⟩))
        go_ret
        exact ⟨ret_bool H.out.symm, (Below.refl _ _).alloc (Nat.le_refl _) _⟩
      · have H0 : Hid (letterB (byteAt n 0) = true) := by rw [← h0]; exact hl
        clear h0
        go_enter Try.func45, Try.ntmps45
        go_wp2_with (first
          | (go_at_call 61; refine (small_any _ _).mono ?_; rintro e w' ⟨rfl, rfl⟩))
        go_loop [3] (fun i => ∃ j : Nat, j ≤ n.size ∧ i = .int .i64 j ∧ okTo n 0 j) (fun i => n.size - (intOf i).toNat)
        case atStart => exact ⟨0, by omega, rfl, okTo_nil n 0⟩
        case round =>
          obtain ⟨j, hj, rfl, hok⟩ := hrel
          have HOK := Lib.hid hok
          clear hok
          by_cases hlt : j < n.size
          · have hbk := byteAt_eq n j hlt
            cases hlk : letterB ((n[j]).toNat : Int)
            · by_cases hd1 : 48 ≤ ((n[j]).toNat : Int)
              · by_cases hd2 : ((n[j]).toNat : Int) ≤ 57
                · have H : Hid (okB (byteAt n j) = true) := by
                    show okB _ = true
                    unfold okB digitB; rw [← hbk]; simp; omega
                  clear hbk
                  go_wp2_with (first
                    | (go_at_call 61; refine (small_any _ _).mono ?_; rintro e w' ⟨rfl, rfl⟩))
                  go_round
                  case rel => exact ⟨j + 1, by omega, by go_num, okTo_step HOK.out H.out⟩
                  case measure => simp [intOf]; omega
                · have H : Hid (symB ⟨n, k, a, g⟩ = false) := symB_name (nameB_bad hlt (by unfold okB digitB; rw [← hbk, hlk]; simp; omega))
                  clear hbk
                  go_wp2_with (first
                    | (go_at_call 61; refine (small_any _ _).mono ?_; rintro e w' ⟨rfl, rfl⟩))
                  go_ret
                  exact ⟨ret_bool H.out.symm, (Below.refl _ _).alloc (Nat.le_refl _) _⟩
              · have H : Hid (symB ⟨n, k, a, g⟩ = false) := symB_name (nameB_bad hlt (by unfold okB digitB; rw [← hbk, hlk]; simp; omega))
                clear hbk
                go_wp2_with (first
                  | (go_at_call 61; refine (small_any _ _).mono ?_; rintro e w' ⟨rfl, rfl⟩))
                go_ret
                exact ⟨ret_bool H.out.symm, (Below.refl _ _).alloc (Nat.le_refl _) _⟩
            · have H : Hid (okB (byteAt n j) = true) := by show okB _ = true; unfold okB; rw [← hbk, hlk]; simp
              clear hbk
              go_wp2_with (first
                | (go_at_call 61; refine (small_any _ _).mono ?_; rintro e w' ⟨rfl, rfl⟩))
              go_round
              case rel => exact ⟨j + 1, by omega, by go_num, okTo_step HOK.out H.out⟩
              case measure => simp [intOf]; omega
          · obtain rfl : j = n.size := by omega
            have HN := Lib.hid (nameB_true0 h1 h8 H0.out HOK.out)
            clear HOK H0
            go_wp2
            all_goals
              go_ret
              refine ⟨ret_bool ?_, (Below.refl _ _).alloc (Nat.le_refl _) _⟩
              rw [symB_split HN.out, Bool.eq_iff_iff]
              simp only [Bool.and_eq_true, decide_eq_true_eq, Bool.false_eq_true, false_iff]
              omega
    · have H : Hid (symB ⟨n, k, a, g⟩ = false) := symB_name (nameB_false fun hh => by omega)
      go_enter Try.func45, Try.ntmps45
      go_wp2
      go_ret
      exact ⟨ret_bool H.out.symm, (Below.refl _ _).alloc (Nat.le_refl _) _⟩
  · have H : Hid (symB ⟨n, k, a, g⟩ = false) := symB_name (nameB_false fun hh => by omega)
    go_enter Try.func45, Try.ntmps45
    go_wp2
    go_ret
    exact ⟨ret_bool H.out.symm, (Below.refl _ _).alloc (Nat.le_refl _) _⟩

end Go.Proofs.Ytlmpapdpmmkjnaa
