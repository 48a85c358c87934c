/-
  Contracts of package subsume: isOpen, fit.
-/
import Derived.Test.YtcjpopjcpgipjaaDoorSubOpen
namespace Go.Proofs.YtcjpopjcpgipjaaDoor
open Go.RowKit Go.Deep
set_option linter.unusedSimpArgs false
set_option linter.unusedVariables false
set_option maxRecDepth 100000

/-- Each part from the k-th on has a pair of the set. -/
def openB (os : List Nat) (k S : Nat) : Bool := (List.range (os.length - k)).all fun i => decide (S &&& wAt os (k + i) ≠ 0)
theorem openB_iff {os : List Nat} {k S : Nat} : openB os k S = true ↔ ∀ m, k ≤ m → m < os.length → S &&& wAt os m ≠ 0 := by
  unfold openB
  rw [List.all_eq_true]
  constructor
  · intro h m h1 h2
    have := of_decide_eq_true (h (m - k) (List.mem_range.2 (by omega)))
    rwa [Nat.add_sub_cancel' h1] at this
  · intro h i hi
    have := List.mem_range.1 hi
    exact decide_eq_true (h (k + i) (by omega) (by omega))
theorem openB_no {os : List Nat} {k S m : Nat} (h1 : k ≤ m) (h2 : m < os.length) (h : S &&& wAt os m = 0) : openB os k S = false := by
  cases q : openB os k S with
  | false => rfl
  | true => exact absurd h (openB_iff.1 q m h1 h2)
set_option maxHeartbeats 1000000 in
theorem isOpen_any (sb k S B : Nat) (v0 v1 v2 v3 v4 : Value) (os : List Nat) (w : World) (hs : SB w sb v0 v1 v2 v3 v4) (ho : OwnW w B v1 os) (hk : k ≤ os.length) (hf : ∀ m, m < os.length → wAt os m < 2 ^ 64) (hS : S < 2 ^ 64) (hl : os.length ≤ 1000) :
    Calls Tryd.prog 54 #[.pointer (some ⟨sb, 0, none⟩), .int .i64 (k : Int), .int .u64 (S : Int)] w fun e w' => e = .returned (.bool (openB os k S)) ∧ w = w' := by
  have HSB := Lib.hid hs
  have HO := Lib.hid ho
  have HF := Lib.hid hf
  have HS := Lib.hid hS
  obtain ⟨A1, c1, rfl⟩ := ho.len_
  have hc1 := hs.c1
  obtain ⟨L, hL⟩ : ∃ L, os.length = k + L := ⟨os.length - k, by omega⟩
  have HL := Lib.hid hL
  have hcap : k + L ≤ c1 := by
    rcases ho.shape with ⟨e, e2⟩ | ⟨g, cap, e, _, _, h3⟩
    · rw [e2] at hL; simp at hL; omega
    · injection e with _ _ e; omega
  rw [hL] at hc1 hl
  by_cases h0 : L = 0
  · subst h0
    have H : Hid (openB os k S = true) := openB_iff.2 fun m h1 h2 => by have := HL.out; omega
    clear hs ho hk hf hS hL
    by_cases hne : c1 = k
    all_goals
      go_enter Tryd.func54, Tryd.ntmps54
      go_wp2
      go_loopw [16] (fun i wr => ∃ j : Nat, i = .int .i64 j ∧ j ≤ 0 ∧ wr = w) (fun i _ => 1 - (intOf i).toNat)
      case atStart => exact ⟨0, rfl, by omega, rfl⟩
      case round =>
        obtain ⟨j, rfl, hj, rfl⟩ := hrel
        obtain rfl : j = 0 := by omega
        go_wp2
        go_ret
        exact ⟨ret_b H.out.symm, rfl⟩
  · obtain ⟨g, cap, e, q1, q2, q3, q4, q5⟩ := ho.cells (by omega)
    injection e with e1 e2 e3
    subst e1
    subst e3
    have hne : ¬ c1 = k := by omega
    have HQ := Lib.hid q4
    clear hs ho hk hf hS hL q4 q5 e2
    go_enter Tryd.func54, Tryd.ntmps54
    go_wp2
    go_loopw [16] (fun i wr => ∃ j : Nat, i = .int .i64 j ∧ j ≤ L ∧ Hid (∀ m, k ≤ m → m < k + j → S &&& wAt os m ≠ 0) ∧ wr = w) (fun i _ => L - (intOf i).toNat)
    case atStart => exact ⟨0, rfl, by omega, Lib.hid (p := ∀ m, k ≤ m → m < k + 0 → S &&& wAt os m ≠ 0) (fun m h1 h2 => by omega), rfl⟩
    case round =>
      obtain ⟨j, rfl, hj, HJ, rfl⟩ := hrel
      by_cases hlt : j < L
      · have hcell := HQ.out (k + j) (by have := HL.out; omega)
        obtain ⟨x, hx⟩ : ∃ x, x = wAt os (k + j) := ⟨_, rfl⟩
        have hx64 : x < 2 ^ 64 := by rw [hx]; exact HF.out _ (by have := HL.out; omega)
        rw [← hx] at hcell
        have hand := bits_and_w HS.out hx64
        have HX := Lib.hid hx
        clear hx hx64
        by_cases hz : S &&& x = 0
        · have H : Hid (openB os k S = false) := openB_no (m := k + j) (by omega) (by have := HL.out; omega) (by rw [← HX.out]; exact hz)
          rw [hz] at hand
          clear hz
          go_wp2
          go_ret
          exact ⟨ret_b H.out.symm, rfl⟩
        · obtain ⟨y, hy⟩ : ∃ y, y = S &&& x := ⟨_, rfl⟩
          have HY := Lib.hid hy
          rw [← hy] at hand hz
          have hz2 : ((y : Int) == 0) = false := by simp; omega
          have HZ := Lib.hid hz
          clear hy hz
          go_wp2
          go_roundw
          case rel => exact ⟨j + 1, by go_num, by omega, Lib.hid (p := ∀ m, k ≤ m → m < k + (j + 1) → S &&& wAt os m ≠ 0) (fun m h1 h2 => by
            rcases Nat.lt_or_ge m (k + j) with q | q
            · exact HJ.out m h1 q
            · obtain rfl : m = k + j := by omega
              rw [← HX.out, ← HY.out]; exact HZ.out), by first | rfl | trivial⟩
          case measure => simp [intOf]; omega
      · obtain rfl : j = L := by omega
        have H : Hid (openB os k S = true) := openB_iff.2 fun m h1 h2 => HJ.out m h1 (by have := HL.out; omega)
        go_wp2
        go_ret
        exact ⟨ret_b H.out.symm, rfl⟩
end Go.Proofs.YtcjpopjcpgipjaaDoor
