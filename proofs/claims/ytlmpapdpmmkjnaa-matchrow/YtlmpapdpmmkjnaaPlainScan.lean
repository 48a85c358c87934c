/-
  Plain words for the reference's way through a row: forwards, with the number of terms that are wanted.
-/
import Derived.Test.YtlmpapdpmmkjnaaPlainTerm2
namespace Go.Proofs.Ytlmpapdpmmkjnaa
open Go.RowKit
set_option linter.unusedSimpArgs false
set_option linter.unusedVariables false

/-- How many codes the first k terms take; none: they are not there. -/
def scan (ss : List Sym) : List Int → Nat → Option Nat
  | [], k => if k = 0 then some 0 else none
  | c :: r, k => if k = 0 then some 0 else match arOf ss c with
    | none => none
    | some a => (scan ss r (k - 1 + a)).map (· + 1)
/-- Behind the k terms from place i on; -1. -/
def scanAt (ss : List Sym) (r : List Int) (k i : Nat) : Int :=
  match scan ss (r.drop i) k with
  | some l => ((i + l : Nat) : Int)
  | none => -1
theorem scan_zero (ss : List Sym) (r : List Int) : scan ss r 0 = some 0 := by cases r <;> rfl
theorem scan_succ (ss : List Sym) (c : Int) (r : List Int) (k : Nat) : scan ss (c :: r) (k + 1) = match arOf ss c with | none => none | some a => (scan ss r (k + a)).map (· + 1) := by
  show (if k + 1 = 0 then _ else _) = _
  rw [if_neg (by omega)]
  rfl
theorem scan_tl {ss : List Sym} (r : List Int) {ms : List (Nat × Nat)} (h : tl ss r = some ms) (k : Nat) : scan ss r k = if k ≤ ms.length then some (sumL (ms.take k)) else none := by
  induction r generalizing ms k with
  | nil =>
    have := (tl_nil_iff h).2 rfl
    subst this
    cases k with
    | zero => rfl
    | succ k => simp [scan]
  | cons c r ih =>
    obtain ⟨qs, a, h1, h2, h3, rfl⟩ := tl_cons_inv h
    cases k with
    | zero => rw [scan_zero]; simp [sumL]
    | succ k =>
      rw [scan_succ, h2]
      show (scan ss r (k + a)).map (· + 1) = _
      rw [ih h1 (k + a)]
      by_cases hk : k + a ≤ qs.length
      · rw [if_pos hk, if_pos (by simp; omega)]
        have e : k + a = a + k := by omega
        simp only [Option.map_some, List.take_succ_cons, sumL]
        rw [e, take_add', sumL_append]
        congr 1; omega
      · rw [if_neg hk, if_neg (by simp; omega)]; rfl
theorem scan_back {ss : List Sym} (r : List Int) (k l : Nat) (hs : scan ss r k = some l) {ms : List (Nat × Nat)} (h : tl ss (r.drop l) = some ms) : ∃ ns, tl ss r = some ns := by
  induction r generalizing k l with
  | nil => exact ⟨[], rfl⟩
  | cons c r ih =>
    cases k with
    | zero =>
      rw [scan_zero] at hs
      injection hs with hs
      subst hs
      exact ⟨ms, h⟩
    | succ k =>
      rw [scan_succ] at hs
      cases ha : arOf ss c with
      | none => rw [ha] at hs; cases hs
      | some a =>
        rw [ha] at hs
        cases hq : scan ss r (k + a) with
        | none => simp [hq] at hs
        | some l' =>
          simp [hq] at hs
          subst hs
          rw [List.drop_succ_cons] at h
          obtain ⟨qs, hqs⟩ := ih (k + a) l' hq h
          have := scan_tl r hqs (k + a)
          rw [hq] at this
          by_cases hk : k + a ≤ qs.length
          · exact ⟨_, tl_cons hqs ha (by omega)⟩
          · rw [if_neg hk] at this; cases this
theorem scan_le {ss : List Sym} (r : List Int) (k l : Nat) (hs : scan ss r k = some l) : l ≤ r.length ∧ (1 ≤ k → 1 ≤ l) := by
  induction r generalizing k l with
  | nil =>
    cases k with
    | zero => rw [scan_zero] at hs; injection hs with hs; subst hs; simp
    | succ k => simp [scan] at hs
  | cons c r ih =>
    cases k with
    | zero => rw [scan_zero] at hs; injection hs with hs; subst hs; simp
    | succ k =>
      rw [scan_succ] at hs
      cases ha : arOf ss c with
      | none => rw [ha] at hs; cases hs
      | some a =>
        rw [ha] at hs
        cases hq : scan ss r (k + a) with
        | none => simp [hq] at hs
        | some l' =>
          simp [hq] at hs
          subst hs
          have := ih (k + a) l' hq
          simp; omega
theorem scanAt_zero (ss : List Sym) (r : List Int) (i : Nat) : scanAt ss r 0 i = (i : Int) := by unfold scanAt; rw [scan_zero]; rfl
theorem scanAt_end {ss : List Sym} {r : List Int} {k i : Nat} (h : r.length ≤ i) : scanAt ss r (k + 1) i = -1 := by
  unfold scanAt; rw [List.drop_of_length_le h]; simp [scan]
theorem drop_get {r : List Int} {i : Nat} {x : Int} (h : i < r.length) (hx : r[i]? = some x) : r.drop i = x :: r.drop (i + 1) := by
  rw [List.drop_eq_getElem_cons h]
  have : r[i] = x := by rw [List.getElem?_eq_getElem h] at hx; injection hx
  rw [this]
theorem scanAt_bad {ss : List Sym} {r : List Int} {k i : Nat} {x : Int} (h : i < r.length) (hx : r[i]? = some x) (ha : arOf ss x = none) : scanAt ss r (k + 1) i = -1 := by
  unfold scanAt; rw [drop_get h hx, scan_succ, ha]
theorem scanAt_step {ss : List Sym} {r : List Int} {k i a : Nat} {x : Int} (h : i < r.length) (hx : r[i]? = some x) (ha : arOf ss x = some a) : scanAt ss r (k + 1) i = scanAt ss r (k + a) (i + 1) := by
  unfold scanAt; rw [drop_get h hx, scan_succ, ha]
  show (match (scan ss (r.drop (i + 1)) (k + a)).map (· + 1) with | some l => ((i + l : Nat) : Int) | none => -1) = _
  cases scan ss (r.drop (i + 1)) (k + a) with
  | none => rfl
  | some l => show ((i + (l + 1) : Nat) : Int) = ((i + 1 + l : Nat) : Int); congr 1; omega

end Go.Proofs.Ytlmpapdpmmkjnaa
