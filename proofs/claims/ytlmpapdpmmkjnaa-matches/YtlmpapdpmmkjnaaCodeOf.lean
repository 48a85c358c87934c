/-
  Contracts: a name's code, by the program and by the reference.
-/
import Derived.Test.YtlmpapdpmmkjnaaRefSym
import Derived.Test.YtlmpapdpmmkjnaaMem
namespace Go.Proofs.Ytlmpapdpmmkjnaa
open Go.RowKit
set_option linter.unusedSimpArgs false
set_option linter.unusedVariables false

set_option maxHeartbeats 1000000 in
theorem codeOf_any (A : Option Addr) (n c B : Nat) (ss : List Sym) (nm : ByteArray) (w : World) (h : SymsAt w B A n ss) (hn : n ≤ maxLen) :
    Calls Try.prog 52 #[.slice A n c, .string nm] w fun e w' => e = .returned (.int .i64 (code ss nm)) ∧ w = w' := by
  have HL := Lib.hid h.len
  unfold maxLen at hn
  go_enter Try.func52, Try.ntmps52
  go_wp2
  go_loop [8] (fun i => ∃ k : Nat, k ≤ n ∧ i = .int .i64 k ∧ none_ ss nm k) (fun i => n - (intOf i).toNat)
  case atStart => exact ⟨0, by omega, rfl, fun j hj => absurd hj (by omega)⟩
  case round =>
    obtain ⟨k, hk, rfl, hok⟩ := hrel
    have HOK := Lib.hid hok
    clear hok
    by_cases hlt : k < n
    · obtain ⟨b, off, rfl, hb, hc⟩ := h.at_ (by omega)
      obtain ⟨c0, _, _, _⟩ := hc k hlt
      clear hc
      cases hs : ((symAt ss k).name.toList == nm.toList)
      · go_wp2
        go_round
        case rel => exact ⟨k + 1, by omega, by go_num, none_step HOK.out hs⟩
        case measure => simp [intOf]; omega
      · have H := Lib.hid (code_hit (by rw [HL.out]; exact hlt) HOK.out hs)
        go_wp2
        go_ret
        exact ⟨ret_int H.out.symm, rfl⟩
    · obtain rfl : k = n := by omega
      have H := Lib.hid (code_miss (by rw [HL.out]; exact HOK.out))
      go_wp2
      go_ret
      exact ⟨ret_int H.out.symm, rfl⟩

set_option maxHeartbeats 1000000 in
theorem refCode_any (A : Option Addr) (n c B : Nat) (ss : List Sym) (nm : ByteArray) (w : World) (h : SymsAt w B A n ss) (hn : n ≤ maxLen) :
    Calls Try.prog 46 #[.slice A n c, .string nm] w fun e w' => e = .returned (.int .i64 (code ss nm)) ∧ w = w' := by
  have HL := Lib.hid h.len
  unfold maxLen at hn
  go_enter Try.func46, Try.ntmps46
  go_wp2
  go_loop [5] (fun i => ∃ k : Nat, k ≤ n ∧ i = .int .i64 k ∧ none_ ss nm k) (fun i => n - (intOf i).toNat)
  case atStart => exact ⟨0, by omega, rfl, fun j hj => absurd hj (by omega)⟩
  case round =>
    obtain ⟨k, hk, rfl, hok⟩ := hrel
    have HOK := Lib.hid hok
    clear hok
    by_cases hlt : k < n
    · obtain ⟨b, off, rfl, hb, hc⟩ := h.at_ (by omega)
      obtain ⟨c0, _, _, _⟩ := hc k hlt
      clear hc
      cases hs : ((symAt ss k).name.toList == nm.toList)
      · go_wp2
        go_round
        case rel => exact ⟨k + 1, by omega, by go_num, none_step HOK.out hs⟩
        case measure => simp [intOf]; omega
      · have H := Lib.hid (code_hit (by rw [HL.out]; exact hlt) HOK.out hs)
        go_wp2
        go_ret
        exact ⟨ret_int H.out.symm, rfl⟩
    · obtain rfl : k = n := by omega
      have H := Lib.hid (code_miss (by rw [HL.out]; exact HOK.out))
      go_wp2
      go_ret
      exact ⟨ret_int H.out.symm, rfl⟩

end Go.Proofs.Ytlmpapdpmmkjnaa
