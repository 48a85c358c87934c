/-
  Contracts: CopySyms, SameSyms (of two lists that are the same).
-/
import Derived.Test.YtdphekgnbmoklaaFindAdd
import Derived.Deep.QuietTactic
import Derived.BigQuiet
namespace Go.Proofs.Ytdphekgnbmoklaa
open Go.RowKit
set_option linter.unusedSimpArgs false
set_option linter.unusedVariables false

/-- A new row of these symbols is handed back. -/
def Copied (n : Nat) (ss : List Sym) (w : World) (e : Ending) (w' : World) : Prop :=
  ∃ gb cap : Nat, e = .returned (.slice (some ⟨gb, 0, none⟩) n cap) ∧
    w'.ownsRow w.heap.size 33 4 (.slice (some ⟨gb, 0, none⟩) n cap) n (cellsOf ss) ∧ Below w.heap.size w w'

set_option maxHeartbeats 1000000 in
theorem copySyms_any (A : Option Addr) (n c : Nat) (ss : List Sym) (w : World) (h : SymsAt w w.heap.size A n ss) (hn : n * 40 ≤ 140737488351232) :
    Calls Try.prog 14 #[.slice A n c] w (Copied n ss w) := by
  obtain ⟨i0, hi0, hz0, hz1, hz2⟩ := info_parts sym_info
  have hbe : Below w.heap.size w (w.alloc (.cells #[] 33)) := below_new w _
  have hown3 : (w.alloc (.cells #[] 33)).ownsRow w.heap.size 33 4 (.slice (some ⟨w.heap.size, 0, none⟩) 0 0) 0 [] :=
    World.ownsRow_lit w #[] 0 (Nat.le_refl _) (by unfold maxLen; omega) rfl
  by_cases h0 : n = 0
  · subst h0
    have hss : ss = [] := List.eq_nil_of_length_eq_zero h.len
    subst hss
    cases A with
    | none =>
      go_enter Try.func14, Try.ntmps14
      go_wp2
      go_ret
      exact ⟨_, _, rfl, hown3, hbe⟩
    | some ad =>
      go_enter Try.func14, Try.ntmps14
      go_wp2
      go_ret
      exact ⟨_, _, rfl, hown3, hbe⟩
  · obtain ⟨b, off, rfl, hb, _⟩ := h.at_ (by omega)
    go_enter Try.func14, Try.ntmps14
    go_wp2_with (first
      | (at_builtin
         refine wpList_append_lies _ rfl (.tmp 3) (.tmp 4) 22 rfl w.heap.size 33 i0 _ 4 40 Try.underlying22 hi0 hz0 hz1 hz2 rfl (by omega) (.slice (some ⟨w.heap.size, 0, none⟩) 0 0) 0 [] rfl hown3 ⟨b, off, none⟩ n c (cellsOf ss) rfl (by rw [cellsOf_length, h.len]) (SymsAt.news (h.below hbe)) (cellsOf_oneCell ss) (by omega) (by unfold maxLen; omega) (by omega) hbe.size (w.heap.size + 1) (by simp) ?_
         intro g4 cap4 w4 hown4 hg4 hat4 hlt4
         have hb24 : Below w.heap.size w w4 := hbe.grown hg4 hbe.size (fun k hk => by simp [Value.ownBlock] at hk; omega)
         have hown4' : w4.ownsRow w.heap.size 33 4 (.slice (some ⟨g4, 0, none⟩) n cap4) n (cellsOf ss) := by simpa using hown4
         clear hown4))
    go_ret
    refine ⟨g4, cap4, by simp, hown4', hb24⟩

set_option maxHeartbeats 1000000 in
theorem sameSyms_eq (A B : Option Addr) (n c d B1 B2 : Nat) (ss : List Sym) (w : World) (hA : SymsAt w B1 A n ss) (hB : SymsAt w B2 B n ss) (hn : n ≤ maxLen) :
    Calls Try.prog 17 #[.slice A n c, .slice B n d] w fun e w' => e = .returned (.bool true) ∧ ∃ k, w' = w.drewN k := by
  unfold maxLen at hn
  go_enter Try.func17, Try.ntmps17
  go_wp2
  go_loopw [5] (fun i wr => ∃ k m : Nat, k ≤ n ∧ i = .int .i64 k ∧ wr = w.drewN m) (fun i _ => n - (intOf i).toNat)
  case atStart => exact ⟨0, 0, by omega, rfl, rfl⟩
  case round =>
    obtain ⟨k, m, hk, rfl, rfl⟩ := hrel
    by_cases hlt : k < n
    · obtain ⟨b1, o1, rfl, _, h1⟩ := hA.at_ (by omega)
      obtain ⟨b2, o2, rfl, _, h2⟩ := hB.at_ (by omega)
      obtain ⟨c0, c1, c2, c3⟩ := h1 k hlt
      obtain ⟨d0, d1, d2, d3⟩ := h2 k hlt
      clear h1 h2
      have hi0 : (0 : Int) ≤ (k : Int) := by omega
      have hi2 : (k : Int) < (n : Int) := by omega
      go_wp2_with fail
      go_quiet (fail)
      go_wp2
      go_roundw
      case rel => exact ⟨k + 1, _, by omega, by go_num, rfl⟩
      case measure => simp [intOf]; omega
    · obtain rfl : k = n := by omega
      go_wp2
      go_ret
      exact ⟨rfl, _, rfl⟩

end Go.Proofs.Ytdphekgnbmoklaa
