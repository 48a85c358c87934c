/-
  Contracts over one symbol: validSym, isEquality, the reference's SymMay.
-/
import Derived.Test.YtlmpapdpmmkjnaaLeaf
import Derived.Test.YtlmpapdpmmkjnaaPlainSym
namespace Go.Proofs.Ytlmpapdpmmkjnaa
open Go.RowKit
set_option linter.unusedSimpArgs false
set_option linter.unusedVariables false

set_option maxHeartbeats 400000 in
theorem isEquality_any (n : ByteArray) (k a g : Int) (w : World) :
    Calls Try.prog 50 #[.agg #[.string n, .int .i64 k, .int .i64 a, .int .i64 g]] w fun e w' => e = .returned (.bool (eqB ⟨n, k, a, g⟩)) ∧ Below w.heap.size w w' := by
  go_enter Try.func50, Try.ntmps50
  go_wp2
  all_goals
    go_ret
    refine ⟨ret_bool ?_, (Below.refl _ _).alloc (Nat.le_refl _) _⟩
    unfold eqB
    simp_all

theorem symB_of {n : ByteArray} {k a g : Int} {x1 x2 x3 x4 : Bool} (h1 : nameB n = x1) (h2 : kindB k = x2) (h3 : withinB a 0 3 = x3) (h4 : withinB g 1 20 = x4) : symB ⟨n, k, a, g⟩ = (x1 && x2 && x3 && x4) := by
  unfold symB; rw [h1, h2, h3, h4]

set_option maxHeartbeats 1000000 in
theorem validSym_any (n : ByteArray) (k a g : Int) (w : World) (hs : n.size ≤ maxLen) :
    Calls Try.prog 51 #[.agg #[.string n, .int .i64 k, .int .i64 a, .int .i64 g]] w fun e w' => e = .returned (.bool (symB ⟨n, k, a, g⟩)) ∧ Below w.heap.size w w' := by
  cases h1 : nameB n
  all_goals cases h2 : kindB k
  all_goals cases h3 : withinB a 0 3
  all_goals cases h4 : withinB g 1 20
  all_goals
    have HS := Lib.hid (symB_of h1 h2 h3 h4)
    go_enter Try.func51, Try.ntmps51
    go_wp2_with (first
      | (go_at_call 62; refine (validName_any _ _ hs).mono ?_; rintro e w' ⟨rfl, rfl⟩)
      | (go_at_call 63; refine (validKind_any _ _).mono ?_; rintro e w' ⟨rfl, rfl⟩)
      | (go_at_call 64; refine (within_any _ _ _ _).mono ?_; rintro e w' ⟨rfl, rfl⟩))
    go_ret
    exact ⟨ret_bool HS.out.symm, (Below.refl _ _).alloc (Nat.le_refl _) _⟩

end Go.Proofs.Ytlmpapdpmmkjnaa
