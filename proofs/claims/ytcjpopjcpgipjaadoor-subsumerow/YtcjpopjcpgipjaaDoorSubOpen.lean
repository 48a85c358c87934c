/-
  Plain words for sets as words of 64 bits; contracts: math/bits.TrailingZeros64, isOpen.
-/
import Derived.Test.YtcjpopjcpgipjaaDoorSubAdd2
import Derived.Lib.TrailingZeros
import Derived.Laws.Bits64b
namespace Go.Proofs.YtcjpopjcpgipjaaDoor
open Go.RowKit Go.Deep
set_option linter.unusedSimpArgs false
set_option linter.unusedVariables false
set_option maxRecDepth 100000

theorem bits_and_w {x q : Nat} (hx : x < 2 ^ 64) (hq : q < 2 ^ 64) : bits .and .u64 (x : Int) (q : Int) = ((x &&& q : Nat) : Int) := bits_and_u64_nat x q (by simpa using hx) (by simpa using hq)
theorem bits_andNot_w {x q : Nat} (hx : x < 2 ^ 64) (hq : q < 2 ^ 64) : bits .andNot .u64 (x : Int) (q : Int) = ((dif x q : Nat) : Int) := by
  have h1 : (BitVec.ofInt 64 (x : Int)).toNat = x := by rw [BitVec.ofInt_natCast, BitVec.toNat_ofNat]; exact Nat.mod_eq_of_lt hx
  have h2 : (BitVec.ofInt 64 (q : Int)).toNat = q := by rw [BitVec.ofInt_natCast, BitVec.toNat_ofNat]; exact Nat.mod_eq_of_lt hq
  have h3 : (BitVec.ofInt 64 (x : Int) &&& ~~~ BitVec.ofInt 64 (q : Int)).toNat = dif x q := by
    rw [BitVec.toNat_and, BitVec.toNat_not, h1, h2]
    apply Nat.eq_of_testBit_eq
    intro i
    rw [Nat.testBit_and, dif_bit, Nat.sub_sub, Nat.add_comm 1 q, Nat.testBit_two_pow_sub_succ hq]
    by_cases hi : i < 64
    · simp [hi]
    · have : x.testBit i = false := Nat.testBit_lt_two_pow (Nat.lt_of_lt_of_le hx (Nat.pow_le_pow_right (by omega) (by omega)))
      simp [this]
  show IntKind.u64.wrap ((BitVec.ofInt 64 (x : Int) &&& ~~~ BitVec.ofInt 64 (q : Int)).toNat : Int) = _
  rw [h3]
  refine wrap_u64_nat (Nat.lt_of_le_of_lt ?_ hx)
  apply Nat.le_of_testBit
  intro i hi
  rw [dif_bit] at hi
  simp only [Bool.and_eq_true] at hi
  exact hi.1
theorem dif_lt {x q n : Nat} (hx : x < 2 ^ n) : dif x q < 2 ^ n := by
  apply Nat.lt_pow_two_of_testBit
  intro i hi
  rw [dif_bit, Nat.testBit_lt_two_pow (Nat.lt_of_lt_of_le hx (Nat.pow_le_pow_right (by omega) hi))]
  rfl
/-- The lowest bit, and the set without it. -/
theorem ctz_bits {x : Nat} (h0 : x ≠ 0) (hx : x < 2 ^ 64) : x.testBit (Lib.ctz 64 x) = true ∧ (∀ j, j < Lib.ctz 64 x → x.testBit j = false) ∧ (∀ j, (x &&& (x - 1)).testBit j = (x.testBit j && decide (j ≠ Lib.ctz 64 x))) ∧ x &&& (x - 1) < x := by
  obtain ⟨m, hm, hk⟩ := Lib.ctzFrom_spec 64 x (by omega) hx
  have e : Lib.ctz 64 x = Lib.ctzFrom 64 x := by unfold Lib.ctz; rw [if_neg h0]
  rw [e]
  obtain ⟨i, hi⟩ : ∃ i, i = Lib.ctzFrom 64 x := ⟨_, rfl⟩
  rw [← hi] at hm ⊢
  have hpos : 0 < 2 ^ i := Nat.pow_pos (by omega)
  have b1 : ∀ j, x.testBit j = (decide (i ≤ j) && (2 * m + 1).testBit (j - i)) := fun j => by
    rw [hm, Nat.mul_comm, Nat.testBit_mul_two_pow]
  have hx1 : x - 1 = 2 ^ i * (2 * m) + (2 ^ i - 1) := by
    rw [hm, Nat.mul_add, Nat.mul_one]
    omega
  have b2 : ∀ j, (x - 1).testBit j = if j < i then (2 ^ i - 1).testBit j else (2 * m).testBit (j - i) := fun j => by
    rw [hx1, Nat.testBit_two_pow_mul_add _ (by omega)]
  have b3 : ∀ j, (x &&& (x - 1)).testBit j = (x.testBit j && decide (j ≠ i)) := fun j => by
    rw [Nat.testBit_and, b1, b2]
    by_cases h1 : j < i
    · have : ¬ i ≤ j := by omega
      simp [this]
    · rw [if_neg h1]
      by_cases h2 : j = i
      · subst h2
        simp [Nat.testBit_zero]
      · obtain ⟨d, hd⟩ : ∃ d, j - i = d + 1 := ⟨j - i - 1, by omega⟩
        rw [hd, Nat.testBit_succ, Nat.testBit_succ, show (2 * m + 1) / 2 = m by omega, show 2 * m / 2 = m by omega]
        have h3 : i ≤ j := by omega
        simp [h2, h3]
  have b0 : x.testBit i = true := by rw [b1]; simp [Nat.testBit_zero]
  refine ⟨b0, fun j hj => ?_, b3, ?_⟩
  · rw [b1]
    have : ¬ i ≤ j := by omega
    simp [this]
  · have hle : x &&& (x - 1) ≤ x := Nat.and_le_left
    rcases Nat.eq_or_lt_of_le hle with q | q
    · have := congrArg (fun y => Nat.testBit y i) q
      simp only [b3, b0] at this
      simp at this
    · exact q
/-- The table of the library's, in its variable. -/
def TabW (w : World) : Prop := ∀ j, j < 64 → w.cell? ⟨0, j, none⟩ = some (.int .u8 (Lib.deBruijn64tab.getD j 0))
theorem TabW.below {w w' : World} {B : Nat} (h : TabW w) (hB : 0 < B) (hb : Below B w w') : TabW w' := fun j hj => by rw [hb.cell (p := ⟨0, j, none⟩) hB]; exact h j hj
theorem tz_key (x a : Nat) (hx : x < 18446744073709551616) (hx0 : x ≠ 0) (hlow : x &&& (18446744073709551616 - x) = a) :
    IntKind.u64.wrap (bits BinOp.and IntKind.u64 (x : Int) (IntKind.u64.wrap (-(x : Int))) * 285870213051353865) / 288230376151711744 = ((a * 285870213051353865 % 18446744073709551616 / 288230376151711744 : Nat) : Int) := by
  have e1 : IntKind.u64.wrap (-(x : Int)) = ((18446744073709551616 - x : Nat) : Int) := by rw [IntKind.wrap_u64]; omega
  rw [e1, bits_and_u64_nat x _ hx (by omega), hlow, IntKind.wrap_u64]
  omega
set_option maxHeartbeats 1000000 in
theorem tz_core (x k idx : Nat) (w : World) (hx0 : ((x : Int) == 0) = false)
    (key : IntKind.u64.wrap (bits BinOp.and IntKind.u64 (x : Int) (IntKind.u64.wrap (-(x : Int))) * 285870213051353865) / 288230376151711744 = (idx : Int))
    (hi : idx < 64) (hk : k < 64) (hcell : w.cell? ⟨0, idx, none⟩ = some (.int .u8 k)) :
    Calls Tryd.prog 81 #[.int .u64 x] w fun e w' => e = .returned (.int .i64 k) ∧ w' = w := by
  go_enter Tryd.func81, Tryd.ntmps81
  go_wp2_with (simp only [key])
  go_ret
  exact ⟨rfl, rfl⟩
theorem tz_any (x : Nat) (w : World) (hx : x < 2 ^ 64) (hx0 : x ≠ 0) (hT : TabW w) :
    Calls Tryd.prog 81 #[.int .u64 (x : Int)] w fun e w' => e = .returned (.int .i64 (Lib.ctz 64 x : Int)) ∧ w' = w := by
  obtain ⟨hlow, hk⟩ := Lib.lowest_bit 64 x hx0 hx
  obtain ⟨hi, htab⟩ := Lib.deBruijn64_at _ hk
  have hcell := hT _ hi
  rw [htab] at hcell
  exact tz_core x _ _ w (by simp; omega) (tz_key x _ (by simpa using hx) hx0 hlow) hi hk hcell
end Go.Proofs.YtcjpopjcpgipjaaDoor
