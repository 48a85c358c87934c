/-
  Plain words for terms, more: rows one behind the other, the first terms of a row.
-/
import Derived.Test.YtlmpapdpmmkjnaaPlainTerm
namespace Go.Proofs.Ytlmpapdpmmkjnaa
open Go.RowKit
set_option linter.unusedSimpArgs false
set_option linter.unusedVariables false

theorem tl_append {ss : List Sym} (x y : List Int) {a b : List (Nat × Nat)} (hx : tl ss x = some a) (hy : tl ss y = some b) : tl ss (x ++ y) = some (a ++ b) := by
  induction x generalizing a with
  | nil => unfold tl at hx; injection hx with hx; subst hx; simpa using hy
  | cons c x ih =>
    obtain ⟨qs, k, h1, h2, h3, rfl⟩ := tl_cons_inv hx
    have := tl_cons (c := c) (ih h1) h2 (by simp; omega)
    rw [List.take_append_of_le_length h3, List.drop_append_of_le_length h3] at this
    exact this
theorem tl_take {ss : List Sym} (r : List Int) {ms : List (Nat × Nat)} (h : tl ss r = some ms) (p : Nat) (hp : p ≤ ms.length) : tl ss (r.take (sumL (ms.take p))) = some (ms.take p) := by
  induction r generalizing ms p with
  | nil =>
    have := (tl_nil_iff h).2 rfl
    subst this
    simp [sumL]; rfl
  | cons c r ih =>
    obtain ⟨qs, a, h1, h2, h3, rfl⟩ := tl_cons_inv h
    cases p with
    | zero => simp [sumL]; rfl
    | succ p =>
      simp only [List.take_succ_cons, sumL]
      have hp' : a + p ≤ qs.length := by simp at hp; omega
      have e : 1 + sumL (qs.take a) + sumL ((qs.drop a).take p) = sumL (qs.take (a + p)) + 1 := by
        rw [take_add', sumL_append]; omega
      rw [e, List.take_succ_cons]
      have i1 := ih h1 (a + p) hp'
      rw [tl_cons i1 h2 (by simp; omega), List.take_take, Nat.min_eq_left (by omega), List.drop_take]
      congr 3; omega
/-- A row, and a code behind it that makes a row of both: the code is a term by itself. -/
theorem tl_snoc {ss : List Sym} {x : List Int} {c : Int} {a ms : List (Nat × Nat)} (hx : tl ss x = some a) (h : tl ss (x ++ [c]) = some ms) : ms = a ++ [(1, 1)] := by
  obtain ⟨b, hb⟩ := tl_drop_some h x.length
  rw [List.drop_left] at hb
  have := tl_append x [c] hx hb
  rw [h] at this
  injection this with this
  obtain ⟨qs, k, h1, h2, h3, rfl⟩ := tl_cons_inv hb
  unfold tl at h1; injection h1 with h1; subst h1
  simp at h3; subst h3
  simpa [sumL, maxD] using this

end Go.Proofs.Ytlmpapdpmmkjnaa
