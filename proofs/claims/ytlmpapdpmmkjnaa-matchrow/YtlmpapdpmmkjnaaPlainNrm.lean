/-
  Plain words for terms whatever the variables' numbers: a row with every variable as the first one.
-/
import Derived.Test.YtlmpapdpmmkjnaaPlainScan
import Derived.Test.YtlmpapdpmmkjnaaMemInts
namespace Go.Proofs.Ytlmpapdpmmkjnaa
open Go.RowKit
set_option linter.unusedSimpArgs false
set_option linter.unusedVariables false

def vn (c : Int) : Int := if c < 0 then -1 else c
/-- Every variable as the first one. -/
def nrm (r : List Int) : List Int := r.map vn
theorem nrm_length (r : List Int) : (nrm r).length = r.length := by simp [nrm]
theorem nrm_drop (r : List Int) (k : Nat) : (nrm r).drop k = nrm (r.drop k) := by simp [nrm]
theorem nrm_take (r : List Int) (k : Nat) : (nrm r).take k = nrm (r.take k) := by simp [nrm]
theorem nrm_append (a b : List Int) : nrm (a ++ b) = nrm a ++ nrm b := by simp [nrm]
theorem nrm_get {r : List Int} {j : Nat} (h : j < r.length) : (nrm r)[j]? = some (vn (intAt r j)) := by
  unfold nrm; rw [List.getElem?_map, intAt_get h]; rfl
theorem arOf_vn {ss : List Sym} {c : Int} {a : Nat} (h : arOf ss c = some a) : arOf ss (vn c) = some a := by
  unfold vn
  by_cases hc : c < 0
  · rw [if_pos hc]
    unfold arOf at h
    rw [if_pos hc] at h
    by_cases h2 : -24 ≤ c
    · rw [if_pos h2] at h; rw [← h]; unfold arOf; rw [if_pos (by omega), if_pos (by omega)]
    · rw [if_neg h2] at h; cases h
  · rw [if_neg hc]; exact h
theorem tl_nrm {ss : List Sym} (r : List Int) {ms : List (Nat × Nat)} (h : tl ss r = some ms) : tl ss (nrm r) = some ms := by
  induction r generalizing ms with
  | nil => exact h
  | cons c r ih =>
    obtain ⟨qs, a, h1, h2, h3, rfl⟩ := tl_cons_inv h
    exact tl_cons (ih h1) (arOf_vn h2) h3
/-- What stands in the place of part q of a row: its code, and the terms behind it. -/
theorem part_of {ss : List Sym} {r : List Int} {ms : List (Nat × Nat)} (h : tl ss r = some ms) {q : Nat} (hq : q < ms.length) :
    ∃ (m : Nat × Nat) (qs : List (Nat × Nat)) (a : Nat), ms.drop q = m :: ms.drop (q + 1) ∧ sumL (ms.take (q + 1)) = sumL (ms.take q) + m.1 ∧ 1 ≤ m.1 ∧ sumL (ms.take q) + m.1 ≤ r.length ∧
      tl ss ((r.drop (sumL (ms.take q) + 1)).take (m.1 - 1)) = some (qs.take a) ∧ m.2 = 1 + maxD (qs.take a) ∧ maxD (ms.take (q + 1)) = max (maxD (ms.take q)) m.2 := by
  obtain ⟨h1, h2⟩ := tl_skip r h q (by omega)
  obtain ⟨h3, h4⟩ := tl_skip r h (q + 1) hq
  cases hd : ms.drop q with
  | nil => simp at hd; omega
  | cons m ms' =>
    have e : ms' = ms.drop (q + 1) := by
      have := congrArg List.tail hd
      simp at this
      exact this.symm
    subst e
    rw [hd] at h1
    have hs := take_snoc' hd
    have hsum : sumL (ms.take (q + 1)) = sumL (ms.take q) + m.1 := by rw [hs, sumL_append]; simp [sumL]
    have hlt : sumL (ms.take q) < r.length := by
      rcases Nat.lt_or_ge (sumL (ms.take q)) r.length with h' | h'
      · exact h'
      · rw [List.drop_of_length_le h'] at h1; unfold tl at h1; cases h1
    rw [List.drop_eq_getElem_cons hlt] at h1
    obtain ⟨qs, a, k1, k2, k3, k4⟩ := tl_cons_inv h1
    injection k4 with k4 k5
    have m1 : m.1 = 1 + sumL (qs.take a) := by rw [k4]
    have m2 : m.2 = 1 + maxD (qs.take a) := by rw [k4]
    refine ⟨m, qs, a, rfl, hsum, by omega, by omega, ?_, m2, ?_⟩
    · have := tl_take _ k1 a k3
      have e2 : m.1 - 1 = sumL (qs.take a) := by omega
      rw [e2]; exact this
    · rw [hs, maxD_append]; simp [maxD]

end Go.Proofs.Ytlmpapdpmmkjnaa
