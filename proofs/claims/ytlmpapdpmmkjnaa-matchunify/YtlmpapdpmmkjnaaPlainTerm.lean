/-
  Plain words for terms: no program. How many terms follow a code, the terms of a row with their lengths and depths, where they begin and end.
-/
import Derived.Test.YtlmpapdpmmkjnaaPlainSym
namespace Go.Proofs.Ytlmpapdpmmkjnaa
open Go.RowKit
set_option linter.unusedSimpArgs false
set_option linter.unusedVariables false

/-- How many terms follow a code; none: no term begins with it. -/
def arOf (ss : List Sym) (c : Int) : Option Nat :=
  if c < 0 then (if -24 ≤ c then some 0 else none)
  else if c < (ss.length : Int) ∧ (symAt ss c.toNat).kind ≠ 0 then some (symAt ss c.toNat).arity.toNat else none
def sumL : List (Nat × Nat) → Nat
  | [] => 0
  | m :: r => m.1 + sumL r
def maxD : List (Nat × Nat) → Nat
  | [] => 0
  | m :: r => max m.2 (maxD r)
/-- The terms of a row: of each how many codes it has and how deep it is; none: it is no row. -/
def tl (ss : List Sym) : List Int → Option (List (Nat × Nat))
  | [] => some []
  | c :: r => match tl ss r, arOf ss c with
    | some ms, some a => if a ≤ ms.length then some ((1 + sumL (ms.take a), 1 + maxD (ms.take a)) :: ms.drop a) else none
    | _, _ => none
/-- The first term of what stands from place j on. -/
def hd (ss : List Sym) (r : List Int) (j : Nat) : Nat × Nat :=
  match tl ss (r.drop j) with
  | some (m :: _) => m
  | _ => (0, 0)
def endAt (ss : List Sym) (r : List Int) (j : Nat) : Nat := j + (hd ss r j).1
def depAt (ss : List Sym) (r : List Int) (j : Nat) : Nat := (hd ss r j).2
def tlD (ss : List Sym) (r : List Int) : List (Nat × Nat) := (tl ss r).getD []
def rowP (ss : List Sym) (r : List Int) : Bool := (tl ss r).isSome
def rowB (ss : List Sym) (r : List Int) : Bool := mayB ss && decide (r.length ≤ 48) && rowP ss r

theorem sumL_append (a b : List (Nat × Nat)) : sumL (a ++ b) = sumL a + sumL b := by
  induction a with
  | nil => simp [sumL]
  | cons m r ih => simp [sumL, ih]; omega
theorem maxD_append (a b : List (Nat × Nat)) : maxD (a ++ b) = max (maxD a) (maxD b) := by
  induction a with
  | nil => simp [maxD]
  | cons m r ih => simp only [maxD, List.cons_append, ih]; omega
theorem take_add' (ms : List (Nat × Nat)) (a p : Nat) : ms.take (a + p) = ms.take a ++ (ms.drop a).take p := by
  rw [List.take_add]
theorem tl_cons {ss : List Sym} {c : Int} {r : List Int} {ms : List (Nat × Nat)} {a : Nat} (h : tl ss r = some ms) (ha : arOf ss c = some a) (hl : a ≤ ms.length) :
    tl ss (c :: r) = some ((1 + sumL (ms.take a), 1 + maxD (ms.take a)) :: ms.drop a) := by
  unfold tl; rw [h, ha]; simp [hl]
theorem tl_cons_inv {ss : List Sym} {c : Int} {r : List Int} {ns : List (Nat × Nat)} (h : tl ss (c :: r) = some ns) :
    ∃ ms a, tl ss r = some ms ∧ arOf ss c = some a ∧ a ≤ ms.length ∧ ns = (1 + sumL (ms.take a), 1 + maxD (ms.take a)) :: ms.drop a := by
  unfold tl at h
  cases h1 : tl ss r with
  | none => rw [h1] at h; cases h
  | some ms =>
    cases h2 : arOf ss c with
    | none => rw [h1, h2] at h; cases h
    | some a =>
      rw [h1, h2] at h
      by_cases hl : a ≤ ms.length
      · simp [hl] at h; exact ⟨ms, a, rfl, rfl, hl, h.symm⟩
      · simp [hl] at h
theorem tl_cons_none {ss : List Sym} {c : Int} {r : List Int} (h : tl ss r = none) : tl ss (c :: r) = none := by
  unfold tl; rw [h]
theorem tl_cons_bad {ss : List Sym} {c : Int} {r : List Int} (h : arOf ss c = none) : tl ss (c :: r) = none := by
  unfold tl; rw [h]; cases tl ss r <;> rfl
theorem tl_cons_few {ss : List Sym} {c : Int} {r : List Int} {ms : List (Nat × Nat)} {a : Nat} (h : tl ss r = some ms) (ha : arOf ss c = some a) (hl : ms.length < a) : tl ss (c :: r) = none := by
  unfold tl; rw [h, ha]; simp; omega
theorem tl_drop_none {ss : List Sym} (r : List Int) (k : Nat) (h : tl ss (r.drop k) = none) : tl ss r = none := by
  induction r generalizing k with
  | nil => simp at h; exact h
  | cons c r ih =>
    cases k with
    | zero => exact h
    | succ k => exact tl_cons_none (ih k (by simpa using h))
theorem tl_drop_some {ss : List Sym} {r : List Int} {ms : List (Nat × Nat)} (h : tl ss r = some ms) (k : Nat) : ∃ ns, tl ss (r.drop k) = some ns := by
  cases h' : tl ss (r.drop k) with
  | none => rw [tl_drop_none r k h'] at h; cases h
  | some ns => exact ⟨ns, rfl⟩
theorem tl_nil_iff {ss : List Sym} {r : List Int} {ms : List (Nat × Nat)} (h : tl ss r = some ms) : ms = [] ↔ r = [] := by
  cases r with
  | nil => unfold tl at h; injection h with h; simp [h.symm]
  | cons c r =>
    obtain ⟨_, _, _, _, _, rfl⟩ := tl_cons_inv h
    simp
/-- Behind the first p terms of a row stand the others. -/
theorem tl_skip {ss : List Sym} (r : List Int) {ms : List (Nat × Nat)} (h : tl ss r = some ms) (p : Nat) (hp : p ≤ ms.length) :
    tl ss (r.drop (sumL (ms.take p))) = some (ms.drop p) ∧ sumL (ms.take p) ≤ r.length := by
  induction r generalizing ms p with
  | nil =>
    have := (tl_nil_iff h).2 rfl
    subst this
    simp at hp
    subst hp
    simp [sumL]; exact h
  | cons c r ih =>
    obtain ⟨qs, a, h1, h2, h3, rfl⟩ := tl_cons_inv h
    cases p with
    | zero => simp [sumL]; exact h
    | succ p =>
      simp only [List.take_succ_cons, List.drop_succ_cons, List.drop_drop, sumL]
      have hp' : a + p ≤ qs.length := by simp at hp; omega
      have e : 1 + sumL (qs.take a) + sumL ((qs.drop a).take p) = sumL (qs.take (a + p)) + 1 := by
        rw [take_add', sumL_append]; omega
      rw [e]
      obtain ⟨i1, i2⟩ := ih h1 (a + p) hp'
      simp only [List.drop_succ_cons, List.length_cons]
      exact ⟨i1, by omega⟩
theorem tl_pos {ss : List Sym} (r : List Int) {ms : List (Nat × Nat)} (h : tl ss r = some ms) : ∀ m ∈ ms, 1 ≤ m.1 ∧ 1 ≤ m.2 := by
  induction r generalizing ms with
  | nil => unfold tl at h; injection h with h; subst h; simp
  | cons c r ih =>
    obtain ⟨qs, a, h1, h2, h3, rfl⟩ := tl_cons_inv h
    intro m hm
    rcases List.mem_cons.1 hm with rfl | hm
    · exact ⟨by show 1 ≤ 1 + _; omega, by show 1 ≤ 1 + _; omega⟩
    · exact ih h1 m (List.mem_of_mem_drop hm)
theorem tl_all {ss : List Sym} (r : List Int) {ms : List (Nat × Nat)} (h : tl ss r = some ms) : sumL ms = r.length := by
  obtain ⟨h1, h2⟩ := tl_skip r h ms.length (Nat.le_refl _)
  simp at h1 h2
  have := (tl_nil_iff h1).1 rfl
  have : (r.drop (sumL ms)).length = 0 := by rw [this]; rfl
  simp at this
  omega
theorem tl_len {ss : List Sym} (r : List Int) {ms : List (Nat × Nat)} (h : tl ss r = some ms) : ms.length ≤ r.length := by
  induction r generalizing ms with
  | nil => unfold tl at h; injection h with h; subst h; simp
  | cons c r ih =>
    obtain ⟨qs, a, h1, h2, h3, rfl⟩ := tl_cons_inv h
    have := ih h1
    simp; omega
theorem maxD_take_le (ms : List (Nat × Nat)) (a : Nat) : maxD (ms.take a) ≤ maxD ms := by
  induction ms generalizing a with
  | nil => simp
  | cons m r ih =>
    cases a with
    | zero => simp [maxD]
    | succ a => simp only [List.take_succ_cons, maxD]; have := ih a; omega
theorem maxD_drop_le (ms : List (Nat × Nat)) (a : Nat) : maxD (ms.drop a) ≤ maxD ms := by
  induction ms generalizing a with
  | nil => simp
  | cons m r ih =>
    cases a with
    | zero => simp
    | succ a => simp only [List.drop_succ_cons, maxD]; have := ih a; omega
theorem tl_deep {ss : List Sym} (r : List Int) {ms : List (Nat × Nat)} (h : tl ss r = some ms) : maxD ms ≤ r.length := by
  induction r generalizing ms with
  | nil => unfold tl at h; injection h with h; subst h; simp [maxD]
  | cons c r ih =>
    obtain ⟨qs, a, h1, h2, h3, rfl⟩ := tl_cons_inv h
    have := ih h1
    have t1 := maxD_take_le qs a
    have t2 := maxD_drop_le qs a
    simp only [maxD, List.length_cons]; omega
theorem take_snoc' {ms : List (Nat × Nat)} {p : Nat} {m : Nat × Nat} {ms' : List (Nat × Nat)} (h : ms.drop p = m :: ms') : ms.take (p + 1) = ms.take p ++ [m] := by
  rw [take_add', h]; rfl
/-- Where p of a row's terms are behind: the place is the row's end just if these were all; else a term begins here, and is told by hd. -/
theorem tl_at {ss : List Sym} {r : List Int} {ms : List (Nat × Nat)} (j p : Nat) (h : tl ss (r.drop j) = some ms) (hj : j ≤ r.length) (hp : p ≤ ms.length) :
    j + sumL (ms.take p) ≤ r.length ∧ (j + sumL (ms.take p) = r.length ↔ p = ms.length) ∧
    (p < ms.length → 1 ≤ (hd ss r (j + sumL (ms.take p))).1 ∧
      endAt ss r (j + sumL (ms.take p)) = j + sumL (ms.take (p + 1)) ∧ maxD (ms.take (p + 1)) = max (maxD (ms.take p)) (depAt ss r (j + sumL (ms.take p)))) := by
  obtain ⟨h1, h2⟩ := tl_skip _ h p hp
  rw [List.drop_drop] at h1
  simp at h2
  have hle : j + sumL (ms.take p) ≤ r.length := by omega
  refine ⟨hle, ?_, ?_⟩
  · have := tl_nil_iff h1
    constructor
    · intro e
      have : ms.drop p = [] := this.2 (by rw [e]; simp)
      simp at this; omega
    · rintro rfl
      have : r.drop (j + sumL (ms.take ms.length)) = [] := this.1 (by simp)
      simp at this
      simp at hle
      simp; omega
  · intro hlt
    cases hq : ms.drop p with
    | nil => simp at hq; omega
    | cons m ms' =>
      rw [hq] at h1
      have hh : hd ss r (j + sumL (ms.take p)) = m := by unfold hd; rw [h1]
      have hm := tl_pos _ h1 m (by simp)
      unfold endAt depAt
      rw [hh, take_snoc' hq, sumL_append, maxD_append]
      refine ⟨hm.1, ?_, ?_⟩
      · simp [sumL]; omega
      · simp [maxD]
theorem hd_cons {ss : List Sym} {r : List Int} {at_ : Nat} {ms : List (Nat × Nat)} {a : Nat} {c : Int} (h : tl ss (r.drop (at_ + 1)) = some ms) (hlt : at_ < r.length) (hc : r[at_]? = some c) (ha : arOf ss c = some a) (hl : a ≤ ms.length) :
    (tl ss (r.drop at_) = some ((1 + sumL (ms.take a), 1 + maxD (ms.take a)) :: ms.drop a)) ∧ endAt ss r at_ = at_ + 1 + sumL (ms.take a) ∧ depAt ss r at_ = maxD (ms.take a) + 1 := by
  have e : r.drop at_ = c :: r.drop (at_ + 1) := by
    rw [List.drop_eq_getElem_cons hlt]
    have : r[at_] = c := by rw [List.getElem?_eq_getElem hlt] at hc; injection hc
    rw [this]
  have := tl_cons h ha hl
  rw [← e] at this
  refine ⟨this, ?_, ?_⟩
  · unfold endAt hd; rw [this]; show at_ + (1 + _) = _; omega
  · unfold depAt hd; rw [this]; show 1 + _ = _; omega
theorem tl_at_bad {ss : List Sym} {r : List Int} {at_ : Nat} {c : Int} (hlt : at_ < r.length) (hc : r[at_]? = some c) (h : arOf ss c = none) : tl ss r = none := by
  apply tl_drop_none r at_
  have e : r.drop at_ = c :: r.drop (at_ + 1) := by
    rw [List.drop_eq_getElem_cons hlt]
    have : r[at_] = c := by rw [List.getElem?_eq_getElem hlt] at hc; injection hc
    rw [this]
  rw [e]; exact tl_cons_bad h
theorem tl_at_few {ss : List Sym} {r : List Int} {at_ : Nat} {c : Int} {ms : List (Nat × Nat)} {a : Nat} (h : tl ss (r.drop (at_ + 1)) = some ms) (hlt : at_ < r.length) (hc : r[at_]? = some c) (ha : arOf ss c = some a) (hl : ms.length < a) : tl ss r = none := by
  apply tl_drop_none r at_
  have e : r.drop at_ = c :: r.drop (at_ + 1) := by
    rw [List.drop_eq_getElem_cons hlt]
    have : r[at_] = c := by rw [List.getElem?_eq_getElem hlt] at hc; injection hc
    rw [this]
  rw [e]; exact tl_cons_few h ha hl

end Go.Proofs.Ytlmpapdpmmkjnaa
