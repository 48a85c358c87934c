/-
  Contracts of quaereref9: look, Few, Env; what numbers tell of symbols.
-/
import Derived.Test.YtcjpopjcpgipjaaDoorPlainHolds
import Derived.Test.YtcjpopjcpgipjaaDoorClauseNorm
import Derived.Laws.Bits128
namespace Go.Proofs.YtcjpopjcpgipjaaDoor
open Go.RowKit Go.Deep
set_option linter.unusedSimpArgs false
set_option linter.unusedVariables false
set_option maxRecDepth 100000

theorem i64_and255 (n : Int) : bits .and .i64 n 255 = n % 256 := by
  have h255 : (BitVec.ofInt 64 255).toNat = 2 ^ 8 - 1 := by decide
  have key : (BitVec.ofInt 64 n &&& BitVec.ofInt 64 255).toNat = (n % ((2 ^ 64 : Nat) : Int)).toNat % 2 ^ 8 := by
    rw [BitVec.toNat_and, BitVec.toNat_ofInt, h255, Nat.and_two_pow_sub_one_eq_mod]
  show IntKind.i64.wrap ((BitVec.ofInt 64 n &&& BitVec.ofInt 64 255).toNat : Nat) = n % 256
  rw [key, IntKind.wrap_i64]
  omega
theorem and1_all : ∀ x : Nat, x < 256 → bits .and .i64 (x : Int) 1 = (x : Int) % 2 := by decide +kernel
theorem and2_all : ∀ x : Nat, x < 256 → bits .and .i64 (x : Int) 2 = 2 * ((x : Int) / 2 % 2) := by decide +kernel
/-- The hash of a symbol and its arguments. -/
def hsh0 (code : Int) : Int := IntKind.u64.wrap (wrap64 (wrap64 (code * 7) + 1))
def hsh1 (h a : Int) : Int := IntKind.u64.wrap (IntKind.u64.wrap (IntKind.u64.wrap (h * 5) + IntKind.u64.wrap a) + 3)
def hshV (code : Int) (args : List Int) : Int := args.foldl hsh1 (hsh0 code)
theorem u64_range (x : Int) : 0 ≤ IntKind.u64.wrap x ∧ IntKind.u64.wrap x < 18446744073709551616 := by
  have : IntKind.u64.wrap x = x % 18446744073709551616 := by rfl
  omega
theorem hshV_range (code : Int) (args : List Int) : 0 ≤ hshV code args ∧ hshV code args < 18446744073709551616 := by
  refine snoc_ind (P := fun args => 0 ≤ hshV code args ∧ hshV code args < 18446744073709551616) (u64_range _) (fun xs x _ => ?_) args
  unfold hshV
  rw [List.foldl_append]
  exact u64_range _
/-- What the numbers tell of a symbol and its arguments. -/
def lookN (nums : List Int) (code : Int) (args : List Int) : Int := if nums = [] then 0 else intAt nums ((hshV code args).tmod (nums.length : Int)).toNat % 256
theorem lookN_range (nums : List Int) (code : Int) (args : List Int) : 0 ≤ lookN nums code args ∧ lookN nums code args < 256 := by
  unfold lookN
  split
  · omega
  · omega
def mdOf (sz : Int) (nums : List Int) : Md := ⟨sz, lookN nums⟩
theorem hsh_next {code : Int} {args : List Int} {k : Nat} (h : k < args.length) : hshV code (args.take (k + 1)) = hsh1 (hshV code (args.take k)) (intAt args k) := by
  rw [List.take_add_one, intAt_get h]
  unfold hshV
  show List.foldl hsh1 (hsh0 code) (args.take k ++ [intAt args k]) = _
  rw [List.foldl_append]; rfl

set_option maxHeartbeats 2000000 in
theorem refLook_any (An A : Option Addr) (nn cn n c : Nat) (sz code : Int) (nums args : List Int) (w : World) (hN : IntsAt w w.heap.size An nn nums) (hA : IntsAt w w.heap.size A n args) (hnn : nn ≤ 17592186044416) (hn : n ≤ 17592186044416) :
    Calls Tryd.prog 96 #[.agg #[.int .i64 sz, .slice An nn cn], .int .i64 code, .slice A n c] w fun e w' => e = .returned (.int .i64 (lookN nums code args)) ∧ Below w.heap.size w w' := by
  have hb0 := below_new w (.cells #[.int .i64 sz, .slice An nn cn] 52)
  have HN := Lib.hid (hN.on hb0)
  have HA := Lib.hid (hA.on hb0)
  have HB0 := Lib.hid hb0
  have HNL := Lib.hid hN.len
  have HAL := Lib.hid hA.len
  clear hN hA hb0
  go_enter Tryd.func96, Tryd.ntmps96
  by_cases h0 : nn = 0
  · subst h0
    have HZ : Hid (lookN nums code args = 0) := by
      show _ = _
      have : nums = [] := List.eq_nil_of_length_eq_zero HNL.out
      unfold lookN; rw [if_pos this]
    go_wp2
    go_ret
    exact ⟨ret_int HZ.out.symm, HB0.out⟩
  have g0 : ((nn : Int) == 0) = false := by simp; omega
  go_wp2
  obtain ⟨w1, hw1⟩ : ∃ w1, w1 = w.alloc (.cells #[.int .i64 sz, .slice An nn cn] 52) := ⟨_, rfl⟩
  have p0 : w1.cell? ⟨w.heap.size, 0, none⟩ = some (.int .i64 sz) := by rw [hw1, World.cell?_alloc_new]; rfl
  have p1 : w1.cell? ⟨w.heap.size, 1, none⟩ = some (.slice An nn cn) := by rw [hw1, World.cell?_alloc_new]; rfl
  rw [← hw1] at HN HA HB0 ⊢
  obtain ⟨B, hB⟩ : ∃ B, B = w.heap.size := ⟨_, rfl⟩
  rw [← hB] at p0 p1 ⊢
  have HBH := Lib.hid hB
  clear hw1 hB
  go_loopw [7, 8] (fun q i wr => ∃ k : Nat, i = .int .i64 k ∧ k ≤ n ∧ q = .int .u64 (hshV code (args.take k)) ∧ wr = w1) (fun _ i _ => n - (intOf i).toNat)
  case atStart => exact ⟨0, rfl, by omega, by simp [hshV, hsh0], rfl⟩
  case round =>
    obtain ⟨k, rfl, hk, rfl, rfl⟩ := hrel
    by_cases hlt : k < n
    · have hkl : k < args.length := by rw [HAL.out]; exact hlt
      have HNX := Lib.hid (hsh_next (code := code) hkl)
      obtain ⟨b, off, rfl, hb, hc⟩ := HA.out.at_ (by omega)
      have cx : wr.cell? ⟨b, off + k, none⟩ = some (.int .i64 (intAt args k)) := hc k hlt
      obtain ⟨H, hH⟩ : ∃ H, H = hshV code (args.take k) := ⟨_, rfl⟩
      obtain ⟨x, hx⟩ : ∃ x, x = intAt args k := ⟨_, rfl⟩
      rw [← hH, ← hx] at HNX
      rw [← hx] at cx
      rw [← hH]
      have hi0 : (0 : Int) ≤ (k : Int) := by omega
      have hi3 : (k : Int) < (n : Int) := by omega
      clear hc hH hx hkl
      go_wp2
      go_roundw
      case rel => exact ⟨k + 1, by go_num, by omega, by rw [HNX.out]; rfl, trivial⟩
      case measure => simp [intOf]; omega
    · obtain rfl : k = n := by omega
      have hT : args.take k = args := List.take_of_length_le (by rw [HAL.out]; exact Nat.le_refl _)
      rw [hT]
      obtain ⟨hr0, hr1⟩ := hshV_range code args
      obtain ⟨H, hH⟩ : ∃ H, H = hshV code args := ⟨_, rfl⟩
      rw [← hH] at hr0 hr1 ⊢
      obtain ⟨q, hq, eq⟩ : ∃ q : Nat, q < nn ∧ H.tmod (nn : Int) = (q : Int) := by
        have h2 : 0 ≤ H.tmod (nn : Int) := Int.tmod_nonneg _ hr0
        have h3 : H.tmod (nn : Int) < nn := Int.tmod_lt_of_pos _ (by omega)
        exact ⟨(H.tmod (nn : Int)).toNat, by omega, by omega⟩
      have HZ : Hid (lookN nums code args = intAt nums q % 256) := by
        show _ = _
        have hne : nums ≠ [] := fun e => by have := HNL.out; rw [e] at this; simp at this; omega
        unfold lookN
        rw [if_neg hne, ← hH, HNL.out, eq]; rfl
      have hwn : IntKind.u64.wrap (nn : Int) = (nn : Int) := by
        have : IntKind.u64.wrap (nn : Int) = (nn : Int) % 18446744073709551616 := by rfl
        omega
      have hwz : ¬ IntKind.u64.wrap (nn : Int) = 0 := by rw [hwn]; omega
      have hqw : IntKind.i64.wrap (q : Int) = (q : Int) := IntWalk.i64_in _ (by omega)
      obtain ⟨b, off, rfl, hb, hc⟩ := HN.out.at_ (by omega)
      have cx : wr.cell? ⟨b, off + q, none⟩ = some (.int .i64 (intAt nums q)) := hc q hq
      obtain ⟨y, hy⟩ : ∃ y, y = intAt nums q := ⟨_, rfl⟩
      rw [← hy] at cx HZ
      have hi0 : (0 : Int) ≤ (q : Int) := by omega
      have hi3 : (q : Int) < (nn : Int) := by omega
      clear hT hH hc hy
      go_wp2_with fail
      go_quiet (fail)
      go_wp2
      go_ret
      refine ⟨ret_int ?_, HB0.out.trans (below_drewN wr nq |>.mono (by have := HB0.out.size; omega))⟩
      rw [HZ.out]
      exact i64_and255 y
end Go.Proofs.YtcjpopjcpgipjaaDoor
