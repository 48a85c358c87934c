/-
  Plain words for terms: no program. How many terms follow a code, the terms of a row with their lengths and depths, where they begin and end.
  Plain words for terms, more: rows one behind the other, the first terms of a row.
  Plain words for the reference's way through a row: forwards, with the number of terms that are wanted.
  A law for a scope with three labels that the run jumps to: what holds at each label, with a number that every pass lowers.
  Plain words for the cells of package term's shape: two arrays of 48 numbers each.
  Words for memory: a slice of integers that reads as a list, nil let in.
  Plain words for terms whatever the variables' numbers: a row with every variable as the first one.
  Contract: term.arity, over a valid signature.
  Contract: term.measure: what it tells of a row, and whether it is one.
  Contract: term.measure.
  Contracts: term.Row, term.End.
  Rows of integers that a call has made: an append in plain words.
  Contracts of quaerelaw0: Num, SameInts, CopyInts, LendInts, KeptInts.
  Contracts of the reference: End, Terms.
-/
import Derived.Test.YtmdajmdjmdbonaaBaseSym
import Derived.ScopeJumps
import Derived.WalkMore
import Derived.Deep.AppendLies
import Derived.Deep.WholeRow
import Derived.Laws.ResultCell
import Derived.Test.YtmdajmdjmdbonaaRows
import Derived.Laws.AppendOwnNone
import Derived.Lib.Hide
import Derived.Laws.OwnMore
import Derived.Lib.SliceRun
import Derived.WalkKit
import Derived.WalkSpells
import Derived.WalkLawsBesides
import Derived.Deep.QuietTactic
import Derived.BigQuiet
import Derived.Deep.DrawnRows
namespace Go.Proofs.Ytmdajmdjmdbonaa
open Go.RowKit
set_option linter.unusedSimpArgs false
set_option linter.unusedVariables false

/-- How many terms follow a code; none: no term begins with it. -/
def arOf (ss : List Sym) (c : Int) : Option Nat :=
  if c < 0 then (if -24 ≤ c then some 0 else none)
  else if c < (ss.length : Int) ∧ (symAt ss c.toNat).kind ≠ 0 then some (symAt ss c.toNat).arity.toNat else none
def sumL : List (Nat × Nat) → Nat
  | [] => 0
  | m :: r => m.1 + sumL r
def maxD : List (Nat × Nat) → Nat
  | [] => 0
  | m :: r => max m.2 (maxD r)
/-- The terms of a row: of each how many codes it has and how deep it is; none: it is no row. -/
def tl (ss : List Sym) : List Int → Option (List (Nat × Nat))
  | [] => some []
  | c :: r => match tl ss r, arOf ss c with
    | some ms, some a => if a ≤ ms.length then some ((1 + sumL (ms.take a), 1 + maxD (ms.take a)) :: ms.drop a) else none
    | _, _ => none
/-- The first term of what stands from place j on. -/
def hd (ss : List Sym) (r : List Int) (j : Nat) : Nat × Nat :=
  match tl ss (r.drop j) with
  | some (m :: _) => m
  | _ => (0, 0)
def endAt (ss : List Sym) (r : List Int) (j : Nat) : Nat := j + (hd ss r j).1
def depAt (ss : List Sym) (r : List Int) (j : Nat) : Nat := (hd ss r j).2
def tlD (ss : List Sym) (r : List Int) : List (Nat × Nat) := (tl ss r).getD []
def rowP (ss : List Sym) (r : List Int) : Bool := (tl ss r).isSome
def rowB (ss : List Sym) (r : List Int) : Bool := mayB ss && decide (r.length ≤ 48) && rowP ss r

theorem sumL_append (a b : List (Nat × Nat)) : sumL (a ++ b) = sumL a + sumL b := by
  induction a with
  | nil => simp [sumL]
  | cons m r ih => simp [sumL, ih]; omega
theorem maxD_append (a b : List (Nat × Nat)) : maxD (a ++ b) = max (maxD a) (maxD b) := by
  induction a with
  | nil => simp [maxD]
  | cons m r ih => simp only [maxD, List.cons_append, ih]; omega
theorem take_add' (ms : List (Nat × Nat)) (a p : Nat) : ms.take (a + p) = ms.take a ++ (ms.drop a).take p := by
  rw [List.take_add]
theorem tl_cons {ss : List Sym} {c : Int} {r : List Int} {ms : List (Nat × Nat)} {a : Nat} (h : tl ss r = some ms) (ha : arOf ss c = some a) (hl : a ≤ ms.length) :
    tl ss (c :: r) = some ((1 + sumL (ms.take a), 1 + maxD (ms.take a)) :: ms.drop a) := by
  unfold tl; rw [h, ha]; simp [hl]
theorem tl_cons_inv {ss : List Sym} {c : Int} {r : List Int} {ns : List (Nat × Nat)} (h : tl ss (c :: r) = some ns) :
    ∃ ms a, tl ss r = some ms ∧ arOf ss c = some a ∧ a ≤ ms.length ∧ ns = (1 + sumL (ms.take a), 1 + maxD (ms.take a)) :: ms.drop a := by
  unfold tl at h
  cases h1 : tl ss r with
  | none => rw [h1] at h; cases h
  | some ms =>
    cases h2 : arOf ss c with
    | none => rw [h1, h2] at h; cases h
    | some a =>
      rw [h1, h2] at h
      by_cases hl : a ≤ ms.length
      · simp [hl] at h; exact ⟨ms, a, rfl, rfl, hl, h.symm⟩
      · simp [hl] at h
theorem tl_cons_none {ss : List Sym} {c : Int} {r : List Int} (h : tl ss r = none) : tl ss (c :: r) = none := by
  unfold tl; rw [h]
theorem tl_cons_bad {ss : List Sym} {c : Int} {r : List Int} (h : arOf ss c = none) : tl ss (c :: r) = none := by
  unfold tl; rw [h]; cases tl ss r <;> rfl
theorem tl_cons_few {ss : List Sym} {c : Int} {r : List Int} {ms : List (Nat × Nat)} {a : Nat} (h : tl ss r = some ms) (ha : arOf ss c = some a) (hl : ms.length < a) : tl ss (c :: r) = none := by
  unfold tl; rw [h, ha]; simp; omega
theorem tl_drop_none {ss : List Sym} (r : List Int) (k : Nat) (h : tl ss (r.drop k) = none) : tl ss r = none := by
  induction r generalizing k with
  | nil => simp at h; exact h
  | cons c r ih =>
    cases k with
    | zero => exact h
    | succ k => exact tl_cons_none (ih k (by simpa using h))
theorem tl_drop_some {ss : List Sym} {r : List Int} {ms : List (Nat × Nat)} (h : tl ss r = some ms) (k : Nat) : ∃ ns, tl ss (r.drop k) = some ns := by
  cases h' : tl ss (r.drop k) with
  | none => rw [tl_drop_none r k h'] at h; cases h
  | some ns => exact ⟨ns, rfl⟩
theorem tl_nil_iff {ss : List Sym} {r : List Int} {ms : List (Nat × Nat)} (h : tl ss r = some ms) : ms = [] ↔ r = [] := by
  cases r with
  | nil => unfold tl at h; injection h with h; simp [h.symm]
  | cons c r =>
    obtain ⟨_, _, _, _, _, rfl⟩ := tl_cons_inv h
    simp
/-- Behind the first p terms of a row stand the others. -/
theorem tl_skip {ss : List Sym} (r : List Int) {ms : List (Nat × Nat)} (h : tl ss r = some ms) (p : Nat) (hp : p ≤ ms.length) :
    tl ss (r.drop (sumL (ms.take p))) = some (ms.drop p) ∧ sumL (ms.take p) ≤ r.length := by
  induction r generalizing ms p with
  | nil =>
    have := (tl_nil_iff h).2 rfl
    subst this
    simp at hp
    subst hp
    simp [sumL]; exact h
  | cons c r ih =>
    obtain ⟨qs, a, h1, h2, h3, rfl⟩ := tl_cons_inv h
    cases p with
    | zero => simp [sumL]; exact h
    | succ p =>
      simp only [List.take_succ_cons, List.drop_succ_cons, List.drop_drop, sumL]
      have hp' : a + p ≤ qs.length := by simp at hp; omega
      have e : 1 + sumL (qs.take a) + sumL ((qs.drop a).take p) = sumL (qs.take (a + p)) + 1 := by
        rw [take_add', sumL_append]; omega
      rw [e]
      obtain ⟨i1, i2⟩ := ih h1 (a + p) hp'
      simp only [List.drop_succ_cons, List.length_cons]
      exact ⟨i1, by omega⟩
theorem tl_pos {ss : List Sym} (r : List Int) {ms : List (Nat × Nat)} (h : tl ss r = some ms) : ∀ m ∈ ms, 1 ≤ m.1 ∧ 1 ≤ m.2 := by
  induction r generalizing ms with
  | nil => unfold tl at h; injection h with h; subst h; simp
  | cons c r ih =>
    obtain ⟨qs, a, h1, h2, h3, rfl⟩ := tl_cons_inv h
    intro m hm
    rcases List.mem_cons.1 hm with rfl | hm
    · exact ⟨by show 1 ≤ 1 + _; omega, by show 1 ≤ 1 + _; omega⟩
    · exact ih h1 m (List.mem_of_mem_drop hm)
theorem tl_all {ss : List Sym} (r : List Int) {ms : List (Nat × Nat)} (h : tl ss r = some ms) : sumL ms = r.length := by
  obtain ⟨h1, h2⟩ := tl_skip r h ms.length (Nat.le_refl _)
  simp at h1 h2
  have := (tl_nil_iff h1).1 rfl
  have : (r.drop (sumL ms)).length = 0 := by rw [this]; rfl
  simp at this
  omega
theorem tl_len {ss : List Sym} (r : List Int) {ms : List (Nat × Nat)} (h : tl ss r = some ms) : ms.length ≤ r.length := by
  induction r generalizing ms with
  | nil => unfold tl at h; injection h with h; subst h; simp
  | cons c r ih =>
    obtain ⟨qs, a, h1, h2, h3, rfl⟩ := tl_cons_inv h
    have := ih h1
    simp; omega
theorem maxD_take_le (ms : List (Nat × Nat)) (a : Nat) : maxD (ms.take a) ≤ maxD ms := by
  induction ms generalizing a with
  | nil => simp
  | cons m r ih =>
    cases a with
    | zero => simp [maxD]
    | succ a => simp only [List.take_succ_cons, maxD]; have := ih a; omega
theorem maxD_drop_le (ms : List (Nat × Nat)) (a : Nat) : maxD (ms.drop a) ≤ maxD ms := by
  induction ms generalizing a with
  | nil => simp
  | cons m r ih =>
    cases a with
    | zero => simp
    | succ a => simp only [List.drop_succ_cons, maxD]; have := ih a; omega
theorem tl_deep {ss : List Sym} (r : List Int) {ms : List (Nat × Nat)} (h : tl ss r = some ms) : maxD ms ≤ r.length := by
  induction r generalizing ms with
  | nil => unfold tl at h; injection h with h; subst h; simp [maxD]
  | cons c r ih =>
    obtain ⟨qs, a, h1, h2, h3, rfl⟩ := tl_cons_inv h
    have := ih h1
    have t1 := maxD_take_le qs a
    have t2 := maxD_drop_le qs a
    simp only [maxD, List.length_cons]; omega
theorem take_snoc' {ms : List (Nat × Nat)} {p : Nat} {m : Nat × Nat} {ms' : List (Nat × Nat)} (h : ms.drop p = m :: ms') : ms.take (p + 1) = ms.take p ++ [m] := by
  rw [take_add', h]; rfl
/-- Where p of a row's terms are behind: the place is the row's end just if these were all; else a term begins here, and is told by hd. -/
theorem tl_at {ss : List Sym} {r : List Int} {ms : List (Nat × Nat)} (j p : Nat) (h : tl ss (r.drop j) = some ms) (hj : j ≤ r.length) (hp : p ≤ ms.length) :
    j + sumL (ms.take p) ≤ r.length ∧ (j + sumL (ms.take p) = r.length ↔ p = ms.length) ∧
    (p < ms.length → 1 ≤ (hd ss r (j + sumL (ms.take p))).1 ∧
      endAt ss r (j + sumL (ms.take p)) = j + sumL (ms.take (p + 1)) ∧ maxD (ms.take (p + 1)) = max (maxD (ms.take p)) (depAt ss r (j + sumL (ms.take p)))) := by
  obtain ⟨h1, h2⟩ := tl_skip _ h p hp
  rw [List.drop_drop] at h1
  simp at h2
  have hle : j + sumL (ms.take p) ≤ r.length := by omega
  refine ⟨hle, ?_, ?_⟩
  · have := tl_nil_iff h1
    constructor
    · intro e
      have : ms.drop p = [] := this.2 (by rw [e]; simp)
      simp at this; omega
    · rintro rfl
      have : r.drop (j + sumL (ms.take ms.length)) = [] := this.1 (by simp)
      simp at this
      simp at hle
      simp; omega
  · intro hlt
    cases hq : ms.drop p with
    | nil => simp at hq; omega
    | cons m ms' =>
      rw [hq] at h1
      have hh : hd ss r (j + sumL (ms.take p)) = m := by unfold hd; rw [h1]
      have hm := tl_pos _ h1 m (by simp)
      unfold endAt depAt
      rw [hh, take_snoc' hq, sumL_append, maxD_append]
      refine ⟨hm.1, ?_, ?_⟩
      · simp [sumL]; omega
      · simp [maxD]
theorem hd_cons {ss : List Sym} {r : List Int} {at_ : Nat} {ms : List (Nat × Nat)} {a : Nat} {c : Int} (h : tl ss (r.drop (at_ + 1)) = some ms) (hlt : at_ < r.length) (hc : r[at_]? = some c) (ha : arOf ss c = some a) (hl : a ≤ ms.length) :
    (tl ss (r.drop at_) = some ((1 + sumL (ms.take a), 1 + maxD (ms.take a)) :: ms.drop a)) ∧ endAt ss r at_ = at_ + 1 + sumL (ms.take a) ∧ depAt ss r at_ = maxD (ms.take a) + 1 := by
  have e : r.drop at_ = c :: r.drop (at_ + 1) := by
    rw [List.drop_eq_getElem_cons hlt]
    have : r[at_] = c := by rw [List.getElem?_eq_getElem hlt] at hc; injection hc
    rw [this]
  have := tl_cons h ha hl
  rw [← e] at this
  refine ⟨this, ?_, ?_⟩
  · unfold endAt hd; rw [this]; show at_ + (1 + _) = _; omega
  · unfold depAt hd; rw [this]; show 1 + _ = _; omega
theorem tl_at_bad {ss : List Sym} {r : List Int} {at_ : Nat} {c : Int} (hlt : at_ < r.length) (hc : r[at_]? = some c) (h : arOf ss c = none) : tl ss r = none := by
  apply tl_drop_none r at_
  have e : r.drop at_ = c :: r.drop (at_ + 1) := by
    rw [List.drop_eq_getElem_cons hlt]
    have : r[at_] = c := by rw [List.getElem?_eq_getElem hlt] at hc; injection hc
    rw [this]
  rw [e]; exact tl_cons_bad h
theorem tl_at_few {ss : List Sym} {r : List Int} {at_ : Nat} {c : Int} {ms : List (Nat × Nat)} {a : Nat} (h : tl ss (r.drop (at_ + 1)) = some ms) (hlt : at_ < r.length) (hc : r[at_]? = some c) (ha : arOf ss c = some a) (hl : ms.length < a) : tl ss r = none := by
  apply tl_drop_none r at_
  have e : r.drop at_ = c :: r.drop (at_ + 1) := by
    rw [List.drop_eq_getElem_cons hlt]
    have : r[at_] = c := by rw [List.getElem?_eq_getElem hlt] at hc; injection hc
    rw [this]
  rw [e]; exact tl_cons_few h ha hl

end Go.Proofs.Ytmdajmdjmdbonaa

namespace Go.Proofs.Ytmdajmdjmdbonaa
open Go.RowKit
set_option linter.unusedSimpArgs false
set_option linter.unusedVariables false

theorem tl_append {ss : List Sym} (x y : List Int) {a b : List (Nat × Nat)} (hx : tl ss x = some a) (hy : tl ss y = some b) : tl ss (x ++ y) = some (a ++ b) := by
  induction x generalizing a with
  | nil => unfold tl at hx; injection hx with hx; subst hx; simpa using hy
  | cons c x ih =>
    obtain ⟨qs, k, h1, h2, h3, rfl⟩ := tl_cons_inv hx
    have := tl_cons (c := c) (ih h1) h2 (by simp; omega)
    rw [List.take_append_of_le_length h3, List.drop_append_of_le_length h3] at this
    exact this
theorem tl_take {ss : List Sym} (r : List Int) {ms : List (Nat × Nat)} (h : tl ss r = some ms) (p : Nat) (hp : p ≤ ms.length) : tl ss (r.take (sumL (ms.take p))) = some (ms.take p) := by
  induction r generalizing ms p with
  | nil =>
    have := (tl_nil_iff h).2 rfl
    subst this
    simp [sumL]; rfl
  | cons c r ih =>
    obtain ⟨qs, a, h1, h2, h3, rfl⟩ := tl_cons_inv h
    cases p with
    | zero => simp [sumL]; rfl
    | succ p =>
      simp only [List.take_succ_cons, sumL]
      have hp' : a + p ≤ qs.length := by simp at hp; omega
      have e : 1 + sumL (qs.take a) + sumL ((qs.drop a).take p) = sumL (qs.take (a + p)) + 1 := by
        rw [take_add', sumL_append]; omega
      rw [e, List.take_succ_cons]
      have i1 := ih h1 (a + p) hp'
      rw [tl_cons i1 h2 (by simp; omega), List.take_take, Nat.min_eq_left (by omega), List.drop_take]
      congr 3; omega
/-- A row, and a code behind it that makes a row of both: the code is a term by itself. -/
theorem tl_snoc {ss : List Sym} {x : List Int} {c : Int} {a ms : List (Nat × Nat)} (hx : tl ss x = some a) (h : tl ss (x ++ [c]) = some ms) : ms = a ++ [(1, 1)] := by
  obtain ⟨b, hb⟩ := tl_drop_some h x.length
  rw [List.drop_left] at hb
  have := tl_append x [c] hx hb
  rw [h] at this
  injection this with this
  obtain ⟨qs, k, h1, h2, h3, rfl⟩ := tl_cons_inv hb
  unfold tl at h1; injection h1 with h1; subst h1
  simp at h3; subst h3
  simpa [sumL, maxD] using this

end Go.Proofs.Ytmdajmdjmdbonaa

namespace Go.Proofs.Ytmdajmdjmdbonaa
open Go.RowKit
set_option linter.unusedSimpArgs false
set_option linter.unusedVariables false

/-- How many codes the first k terms take; none: they are not there. -/
def scan (ss : List Sym) : List Int → Nat → Option Nat
  | [], k => if k = 0 then some 0 else none
  | c :: r, k => if k = 0 then some 0 else match arOf ss c with
    | none => none
    | some a => (scan ss r (k - 1 + a)).map (· + 1)
/-- Behind the k terms from place i on; -1. -/
def scanAt (ss : List Sym) (r : List Int) (k i : Nat) : Int :=
  match scan ss (r.drop i) k with
  | some l => ((i + l : Nat) : Int)
  | none => -1
theorem scan_zero (ss : List Sym) (r : List Int) : scan ss r 0 = some 0 := by cases r <;> rfl
theorem scan_succ (ss : List Sym) (c : Int) (r : List Int) (k : Nat) : scan ss (c :: r) (k + 1) = match arOf ss c with | none => none | some a => (scan ss r (k + a)).map (· + 1) := by
  show (if k + 1 = 0 then _ else _) = _
  rw [if_neg (by omega)]
  rfl
theorem scan_tl {ss : List Sym} (r : List Int) {ms : List (Nat × Nat)} (h : tl ss r = some ms) (k : Nat) : scan ss r k = if k ≤ ms.length then some (sumL (ms.take k)) else none := by
  induction r generalizing ms k with
  | nil =>
    have := (tl_nil_iff h).2 rfl
    subst this
    cases k with
    | zero => rfl
    | succ k => simp [scan]
  | cons c r ih =>
    obtain ⟨qs, a, h1, h2, h3, rfl⟩ := tl_cons_inv h
    cases k with
    | zero => rw [scan_zero]; simp [sumL]
    | succ k =>
      rw [scan_succ, h2]
      show (scan ss r (k + a)).map (· + 1) = _
      rw [ih h1 (k + a)]
      by_cases hk : k + a ≤ qs.length
      · rw [if_pos hk, if_pos (by simp; omega)]
        have e : k + a = a + k := by omega
        simp only [Option.map_some, List.take_succ_cons, sumL]
        rw [e, take_add', sumL_append]
        congr 1; omega
      · rw [if_neg hk, if_neg (by simp; omega)]; rfl
theorem scan_back {ss : List Sym} (r : List Int) (k l : Nat) (hs : scan ss r k = some l) {ms : List (Nat × Nat)} (h : tl ss (r.drop l) = some ms) : ∃ ns, tl ss r = some ns := by
  induction r generalizing k l with
  | nil => exact ⟨[], rfl⟩
  | cons c r ih =>
    cases k with
    | zero =>
      rw [scan_zero] at hs
      injection hs with hs
      subst hs
      exact ⟨ms, h⟩
    | succ k =>
      rw [scan_succ] at hs
      cases ha : arOf ss c with
      | none => rw [ha] at hs; cases hs
      | some a =>
        rw [ha] at hs
        cases hq : scan ss r (k + a) with
        | none => simp [hq] at hs
        | some l' =>
          simp [hq] at hs
          subst hs
          rw [List.drop_succ_cons] at h
          obtain ⟨qs, hqs⟩ := ih (k + a) l' hq h
          have := scan_tl r hqs (k + a)
          rw [hq] at this
          by_cases hk : k + a ≤ qs.length
          · exact ⟨_, tl_cons hqs ha (by omega)⟩
          · rw [if_neg hk] at this; cases this
theorem scan_le {ss : List Sym} (r : List Int) (k l : Nat) (hs : scan ss r k = some l) : l ≤ r.length ∧ (1 ≤ k → 1 ≤ l) := by
  induction r generalizing k l with
  | nil =>
    cases k with
    | zero => rw [scan_zero] at hs; injection hs with hs; subst hs; simp
    | succ k => simp [scan] at hs
  | cons c r ih =>
    cases k with
    | zero => rw [scan_zero] at hs; injection hs with hs; subst hs; simp
    | succ k =>
      rw [scan_succ] at hs
      cases ha : arOf ss c with
      | none => rw [ha] at hs; cases hs
      | some a =>
        rw [ha] at hs
        cases hq : scan ss r (k + a) with
        | none => simp [hq] at hs
        | some l' =>
          simp [hq] at hs
          subst hs
          have := ih (k + a) l' hq
          simp; omega
theorem scanAt_zero (ss : List Sym) (r : List Int) (i : Nat) : scanAt ss r 0 i = (i : Int) := by unfold scanAt; rw [scan_zero]; rfl
theorem scanAt_end {ss : List Sym} {r : List Int} {k i : Nat} (h : r.length ≤ i) : scanAt ss r (k + 1) i = -1 := by
  unfold scanAt; rw [List.drop_of_length_le h]; simp [scan]
theorem drop_get {r : List Int} {i : Nat} {x : Int} (h : i < r.length) (hx : r[i]? = some x) : r.drop i = x :: r.drop (i + 1) := by
  rw [List.drop_eq_getElem_cons h]
  have : r[i] = x := by rw [List.getElem?_eq_getElem h] at hx; injection hx
  rw [this]
theorem scanAt_bad {ss : List Sym} {r : List Int} {k i : Nat} {x : Int} (h : i < r.length) (hx : r[i]? = some x) (ha : arOf ss x = none) : scanAt ss r (k + 1) i = -1 := by
  unfold scanAt; rw [drop_get h hx, scan_succ, ha]
theorem scanAt_step {ss : List Sym} {r : List Int} {k i a : Nat} {x : Int} (h : i < r.length) (hx : r[i]? = some x) (ha : arOf ss x = some a) : scanAt ss r (k + 1) i = scanAt ss r (k + a) (i + 1) := by
  unfold scanAt; rw [drop_get h hx, scan_succ, ha]
  show (match (scan ss (r.drop (i + 1)) (k + a)).map (· + 1) with | some l => ((i + l : Nat) : Int) | none => -1) = _
  cases scan ss (r.drop (i + 1)) (k + a) with
  | none => rfl
  | some l => show ((i + (l + 1) : Nat) : Int) = ((i + 1 + l : Nat) : Int); congr 1; omega

end Go.Proofs.Ytmdajmdjmdbonaa

namespace Go.Proofs.Ytmdajmdjmdbonaa
/-- As Q; by a goto to one of three labels: what holds there, with a number below N. -/
def jump3 (J0 J1 J2 : Nat → Act → World → Prop) (N : Nat) (Q : Exit → Act → World → Prop) : Exit → Act → World → Prop
  | .goto 0, a, w => ∃ n, n < N ∧ J0 n a w
  | .goto 1, a, w => ∃ n, n < N ∧ J1 n a w
  | .goto 2, a, w => ∃ n, n < N ∧ J2 n a w
  | .goto _, _, _ => False
  | e, a, w => Q e a w
section
variable {P : Program} {a : Act} {w : World} {Q : Exit → Act → World → Prop} {J0 J1 J2 : Nat → Act → World → Prop} {N : Nat}
theorem jump3_more {N' : Nat} (h : N ≤ N') : ∀ e a w, jump3 J0 J1 J2 N Q e a w → jump3 J0 J1 J2 N' Q e a w := by
  intro e a w hq
  unfold jump3 at *
  split <;> simp_all
  all_goals (obtain ⟨n, h1, h2⟩ := hq; exact ⟨n, by omega, h2⟩)
theorem wp_scope3 {c X0 X1 X2 : Code} (J0 J1 J2 : Nat → Act → World → Prop) (N : Nat) (h0 : findLabel c 0 = some (.seq .skip X0)) (h1 : findLabel c 1 = some (.seq .skip X1)) (h2 : findLabel c 2 = some (.seq .skip X2))
    (pass1 : ∀ n a w, J1 n a w → X1.wp P (jump3 J0 J1 J2 n Q) a w)
    (pass2 : ∀ n a w, J2 n a w → X2.wp P (jump3 J0 J1 J2 n Q) a w)
    (pass0 : (∀ N n a w, n ≤ N → J2 n a w → X2.wp P (jump3 J0 J1 J2 N Q) a w) → ∀ n a w, J0 n a w → X0.wp P (jump3 J0 J1 J2 n Q) a w)
    (first : (∀ n a w, n ≤ N → J0 n a w → X0.wp P (jump3 J0 J1 J2 N Q) a w) → c.wp P (jump3 J0 J1 J2 N Q) a w) : (Code.scope c).wp P Q a w := by
  have p2 : ∀ N n a w, n ≤ N → J2 n a w → X2.wp P (jump3 J0 J1 J2 N Q) a w := fun N n a w h hj => wp_mono (pass2 n a w hj) (jump3_more h)
  have p0 := pass0 p2
  have fst := first fun n a w h hj => wp_mono (p0 n a w hj) (jump3_more h)
  intro b k cs
  have key : ∀ n, (∀ a w, (∃ m, m < n ∧ J0 m a w) → ∃ e a' w', Q e a' w' ∧ Arrives P (lone (b.at a (.code (.seq .skip X0) :: .inScope c :: k)) cs w) b k cs e a' w') ∧
      (∀ a w, (∃ m, m < n ∧ J1 m a w) → ∃ e a' w', Q e a' w' ∧ Arrives P (lone (b.at a (.code (.seq .skip X1) :: .inScope c :: k)) cs w) b k cs e a' w') ∧
      (∀ a w, (∃ m, m < n ∧ J2 m a w) → ∃ e a' w', Q e a' w' ∧ Arrives P (lone (b.at a (.code (.seq .skip X2) :: .inScope c :: k)) cs w) b k cs e a' w') := by
    intro n
    induction n with
    | zero => exact ⟨fun a w ⟨m, h, _⟩ => absurd h (by omega), fun a w ⟨m, h, _⟩ => absurd h (by omega), fun a w ⟨m, h, _⟩ => absurd h (by omega)⟩
    | succ n ih =>
      obtain ⟨i0, i1, i2⟩ := ih
      have go : ∀ X : Code, (∀ a w m, m ≤ n → X.wp P (jump3 J0 J1 J2 m Q) a w → ∃ e a' w', Q e a' w' ∧ Arrives P (lone (b.at a (.code (.seq .skip X) :: .inScope c :: k)) cs w) b k cs e a' w') := by
        intro X a w m hm hX
        obtain ⟨e, a₁, w₁, hq, harr⟩ := (wp_seq (wp_skip (Q := Exit.then (X.wp P (jump3 J0 J1 J2 m Q)) (jump3 J0 J1 J2 m Q)) hX)) b (.inScope c :: k) cs
        cases e with
        | normal => exact ⟨.normal, a₁, w₁, hq, Steps.trans harr (.one step_inScope)⟩
        | exit id => exact ⟨.exit id, a₁, w₁, hq, fun k' hk => harr k' (by simp [exitTo, hk])⟩
        | goto l' =>
          match l', hq, harr with
          | 0, hq, harr =>
            obtain ⟨j, hj, hJ⟩ := hq
            obtain ⟨e₂, a₂, w₂, hq₂, harr₂⟩ := i0 a₁ w₁ ⟨j, by omega, hJ⟩
            exact ⟨e₂, a₂, w₂, hq₂, .of_steps (harr _ (by simp [gotoIn, h0])) harr₂⟩
          | 1, hq, harr =>
            obtain ⟨j, hj, hJ⟩ := hq
            obtain ⟨e₂, a₂, w₂, hq₂, harr₂⟩ := i1 a₁ w₁ ⟨j, by omega, hJ⟩
            exact ⟨e₂, a₂, w₂, hq₂, .of_steps (harr _ (by simp [gotoIn, h1])) harr₂⟩
          | 2, hq, harr =>
            obtain ⟨j, hj, hJ⟩ := hq
            obtain ⟨e₂, a₂, w₂, hq₂, harr₂⟩ := i2 a₁ w₁ ⟨j, by omega, hJ⟩
            exact ⟨e₂, a₂, w₂, hq₂, .of_steps (harr _ (by simp [gotoIn, h2])) harr₂⟩
        | ret => exact ⟨_, a₁, w₁, hq, harr⟩
        | panic ch => exact ⟨_, a₁, w₁, hq, harr⟩
        | outgrown => exact ⟨_, a₁, w₁, hq, harr⟩
      exact ⟨fun a w ⟨m, h, hJ⟩ => go X0 a w m (by omega) (p0 m a w hJ), fun a w ⟨m, h, hJ⟩ => go X1 a w m (by omega) (pass1 m a w hJ), fun a w ⟨m, h, hJ⟩ => go X2 a w m (by omega) (pass2 m a w hJ)⟩
  obtain ⟨e, a₁, w₁, hq, harr⟩ := fst b (.inScope c :: k) cs
  obtain ⟨i0, i1, i2⟩ := key N
  cases e with
  | normal => exact ⟨.normal, a₁, w₁, hq, .head step_scope (Steps.trans harr (.one step_inScope))⟩
  | exit id => exact ⟨.exit id, a₁, w₁, hq, fun k' hk => .head step_scope (harr k' (by simp [exitTo, hk]))⟩
  | goto l' =>
    match l', hq, harr with
    | 0, hq, harr =>
      obtain ⟨e₂, a₂, w₂, hq₂, harr₂⟩ := i0 a₁ w₁ hq
      exact ⟨e₂, a₂, w₂, hq₂, .of_steps (.head step_scope (harr _ (by simp [gotoIn, h0]))) harr₂⟩
    | 1, hq, harr =>
      obtain ⟨e₂, a₂, w₂, hq₂, harr₂⟩ := i1 a₁ w₁ hq
      exact ⟨e₂, a₂, w₂, hq₂, .of_steps (.head step_scope (harr _ (by simp [gotoIn, h1]))) harr₂⟩
    | 2, hq, harr =>
      obtain ⟨e₂, a₂, w₂, hq₂, harr₂⟩ := i2 a₁ w₁ hq
      exact ⟨e₂, a₂, w₂, hq₂, .of_steps (.head step_scope (harr _ (by simp [gotoIn, h2]))) harr₂⟩
  | ret => exact ⟨_, a₁, w₁, hq, .of_steps (.one step_scope) harr⟩
  | panic ch => exact ⟨_, a₁, w₁, hq, .of_steps (.one step_scope) harr⟩
  | outgrown => exact ⟨_, a₁, w₁, hq, .of_steps (.one step_scope) harr⟩
end
end Go.Proofs.Ytmdajmdjmdbonaa

namespace Go.Proofs.Ytmdajmdjmdbonaa
open Go.RowKit
set_option linter.unusedSimpArgs false
set_option linter.unusedVariables false

def shapeF (f g : Nat → Int) : Array Value := (((List.range 48).map fun i => Value.int .i64 (f i)) ++ ((List.range 48).map fun i => Value.int .i64 (g i))).toArray
def zeroC : Array Value := shapeF (fun _ => 0) (fun _ => 0)
theorem shapeF_size (f g : Nat → Int) : (shapeF f g).size = 96 := by simp [shapeF]
theorem shapeF_end (f g : Nat → Int) (i : Nat) (h : i < 48) : (shapeF f g)[i]? = some (.int .i64 (f i)) := by
  simp [shapeF, List.getElem?_append, h]
theorem shapeF_deep (f g : Nat → Int) (i : Nat) (h : i < 48) : (shapeF f g)[48 + i]? = some (.int .i64 (g i)) := by
  simp [shapeF, List.getElem?_append, h]
theorem shapeF_one (f g : Nat → Int) : (shapeF f g).all (·.oneCell') = true := by
  apply Array.all_eq_true_iff_forall_mem.2
  intro v hv
  simp [shapeF] at hv
  rcases hv with ⟨_, _, rfl⟩ | ⟨_, _, rfl⟩ <;> rfl
theorem shapeF_ext {f g : Nat → Int} {C : Array Value} (hs : C.size = 96) (h1 : ∀ i, i < 48 → C[i]? = some (.int .i64 (f i))) (h2 : ∀ i, i < 48 → C[48 + i]? = some (.int .i64 (g i))) : C = shapeF f g := by
  apply Array.ext_getElem?
  intro i
  by_cases h : i < 48
  · rw [h1 i h, shapeF_end f g i h]
  · by_cases h' : i < 96
    · obtain ⟨j, rfl⟩ : ∃ j, i = 48 + j := ⟨i - 48, by omega⟩
      rw [h2 j (by omega), shapeF_deep f g j (by omega)]
    · rw [Array.getElem?_eq_none (by omega), Array.getElem?_eq_none (by rw [shapeF_size]; omega)]
theorem shapeF_congr {f g f' g' : Nat → Int} (h1 : ∀ i, i < 48 → f i = f' i) (h2 : ∀ i, i < 48 → g i = g' i) : shapeF f g = shapeF f' g' :=
  shapeF_ext (shapeF_size f g) (fun i hi => by rw [shapeF_end f g i hi, h1 i hi]) (fun i hi => by rw [shapeF_deep f g i hi, h2 i hi])
theorem shapeF_set_end (f g : Nat → Int) (k : Nat) (v : Int) (h : k < 48) : (shapeF f g).setIfInBounds k (.int .i64 v) = shapeF (fun j => if j = k then v else f j) g := by
  apply shapeF_ext
  · simp [shapeF_size]
  · intro i hi
    rw [Array.getElem?_setIfInBounds]
    by_cases e : k = i
    · subst e; simp [shapeF_size]; omega
    · have e' : ¬ i = k := fun x => e x.symm
      simp [e, e', shapeF_end f g i hi]
  · intro i hi
    rw [Array.getElem?_setIfInBounds, if_neg (by omega), shapeF_deep f g i hi]
theorem shapeF_set_deep (f g : Nat → Int) (k : Nat) (v : Int) (h : k < 48) : (shapeF f g).setIfInBounds (48 + k) (.int .i64 v) = shapeF f (fun j => if j = k then v else g j) := by
  apply shapeF_ext
  · simp [shapeF_size]
  · intro i hi
    rw [Array.getElem?_setIfInBounds, if_neg (by omega), shapeF_end f g i hi]
  · intro i hi
    rw [Array.getElem?_setIfInBounds]
    by_cases e : k = i
    · subst e; simp [shapeF_size]; omega
    · have e' : ¬ i = k := fun x => e x.symm
      rw [if_neg (by omega), shapeF_deep f g i hi]; simp [e']

def endV (ss : List Sym) (r : List Int) (k i : Nat) : Int := if k ≤ i ∧ i < r.length then (endAt ss r i : Int) else 0
def depV (ss : List Sym) (r : List Int) (k i : Nat) : Int := if k ≤ i ∧ i < r.length then (depAt ss r i : Int) else 0
/-- The cells of the shape where the places from k on are measured. -/
def shapeC (ss : List Sym) (r : List Int) (k : Nat) : Array Value := shapeF (endV ss r k) (depV ss r k)
theorem shapeC_size (ss : List Sym) (r : List Int) (k : Nat) : (shapeC ss r k).size = 96 := shapeF_size _ _
theorem shapeC_one (ss : List Sym) (r : List Int) (k : Nat) : (shapeC ss r k).all (·.oneCell') = true := shapeF_one _ _
theorem shapeC_zero (ss : List Sym) (r : List Int) : shapeC ss r r.length = zeroC :=
  shapeF_congr (fun i _ => by unfold endV; rw [if_neg (by omega)]) (fun i _ => by unfold depV; rw [if_neg (by omega)])
theorem shapeC_end {ss : List Sym} {r : List Int} {k j : Nat} (h1 : k ≤ j) (h2 : j < r.length) (h3 : r.length ≤ 48) : (shapeC ss r k)[j]? = some (.int .i64 (endAt ss r j)) := by
  unfold shapeC; rw [shapeF_end _ _ j (by omega)]; unfold endV; rw [if_pos ⟨h1, h2⟩]
theorem shapeC_deep {ss : List Sym} {r : List Int} {k j : Nat} (h1 : k ≤ j) (h2 : j < r.length) (h3 : r.length ≤ 48) : (shapeC ss r k)[48 + j]? = some (.int .i64 (depAt ss r j)) := by
  unfold shapeC; rw [shapeF_deep _ _ j (by omega)]; unfold depV; rw [if_pos ⟨h1, h2⟩]
theorem shapeC_end0 {ss : List Sym} {r : List Int} {k : Nat} (h : k < 48) : (shapeC ss r (k + 1))[k]? = some (.int .i64 0) := by
  unfold shapeC; rw [shapeF_end _ _ k h]; unfold endV; rw [if_neg (by omega)]
theorem shapeC_deep0 {ss : List Sym} {r : List Int} {k : Nat} (h : k < 48) : (shapeC ss r (k + 1))[48 + k]? = some (.int .i64 0) := by
  unfold shapeC; rw [shapeF_deep _ _ k h]; unfold depV; rw [if_neg (by omega)]
theorem shapeC_step {ss : List Sym} {r : List Int} {k : Nat} {x y : Int} (h2 : k < r.length) (h3 : r.length ≤ 48) (hx : x = endAt ss r k) (hy : y = depAt ss r k) :
    ((shapeC ss r (k + 1)).setIfInBounds k (.int .i64 x)).setIfInBounds (48 + k) (.int .i64 y) = shapeC ss r k := by
  unfold shapeC
  rw [shapeF_set_end _ _ k _ (by omega), shapeF_set_deep _ _ k _ (by omega)]
  apply shapeF_congr
  · intro i hi
    unfold endV
    by_cases e : i = k
    · subst e; rw [if_pos rfl, if_pos ⟨Nat.le_refl _, h2⟩, hx]
    · rw [if_neg e]
      by_cases e2 : k ≤ i ∧ i < r.length
      · rw [if_pos e2, if_pos ⟨by omega, e2.2⟩]
      · rw [if_neg e2, if_neg (by omega)]
  · intro i hi
    unfold depV
    by_cases e : i = k
    · subst e; rw [if_pos rfl, if_pos ⟨Nat.le_refl _, h2⟩, hy]
    · rw [if_neg e]
      by_cases e2 : k ≤ i ∧ i < r.length
      · rw [if_pos e2, if_pos ⟨by omega, e2.2⟩]
      · rw [if_neg e2, if_neg (by omega)]

end Go.Proofs.Ytmdajmdjmdbonaa

namespace Go.Proofs.Ytmdajmdjmdbonaa
open Go.RowKit
set_option linter.unusedSimpArgs false
set_option linter.unusedVariables false

/-- The slice value '.slice A n _' holds the integers xs; its cells lie below block B. -/
structure IntsAt (w : World) (B : Nat) (A : Option Addr) (n : Nat) (xs : List Int) : Prop where
  len : xs.length = n
  at_ : ValsAt w B A n (fun i => .int .i64 (intAt xs i))
section
variable {w w' : World} {B B' n : Nat} {A : Option Addr} {xs : List Int}
theorem IntsAt.below (h : IntsAt w B A n xs) (hb : Below B w w') : IntsAt w' B A n xs := ⟨h.len, h.at_.below hb⟩
theorem IntsAt.keep (h : IntsAt w B A n xs) (hk : ∀ p : Addr, p.block < B → w'.cell? p = w.cell? p) : IntsAt w' B A n xs := ⟨h.len, h.at_.keep hk⟩
theorem IntsAt.more (h : IntsAt w B A n xs) (hB : B ≤ B') : IntsAt w B' A n xs := ⟨h.len, h.at_.more hB⟩
theorem IntsAt.on (h : IntsAt w w.heap.size A n xs) (hb : Below w.heap.size w w') : IntsAt w' w'.heap.size A n xs := ⟨h.len, h.at_.on hb⟩
theorem IntsAt.drew (h : IntsAt w B A n xs) : IntsAt w.drew B A n xs := ⟨h.len, h.at_⟩
theorem IntsAt.nil_ : IntsAt w B A 0 [] := ⟨rfl, ValsAt.nil_⟩
theorem intAt_get {xs : List Int} {i : Nat} (h : i < xs.length) : xs[i]? = some (intAt xs i) := by
  unfold intAt; rw [List.getD_eq_getElem?_getD, List.getElem?_eq_getElem h]; rfl
theorem intAt_take {xs : List Int} {i k : Nat} (h : i < k) : intAt (xs.take k) i = intAt xs i := by
  unfold intAt; rw [List.getD_eq_getElem?_getD, List.getD_eq_getElem?_getD, List.getElem?_take, if_pos h]
theorem intAt_drop {xs : List Int} {i k : Nat} : intAt (xs.drop k) i = intAt xs (k + i) := by
  unfold intAt; rw [List.getD_eq_getElem?_getD, List.getD_eq_getElem?_getD, List.getElem?_drop]
theorem IntsAt.take {i : Nat} (h : IntsAt w B A n xs) (hi : i ≤ n) : IntsAt w B A i (xs.take i) :=
  ⟨by have := h.len; simp; omega, fun hp => by
    obtain ⟨b, off, e, hb, hc⟩ := h.at_ (by omega)
    exact ⟨b, off, e, hb, fun j hj => by show w.cell? _ = some (.int .i64 (intAt (xs.take i) j)); rw [intAt_take hj]; exact hc j (by omega)⟩⟩
theorem IntsAt.drop {b off k : Nat} (h : IntsAt w B (some ⟨b, off, none⟩) n xs) (hk : k ≤ n) : IntsAt w B (some ⟨b, off + k, none⟩) (n - k) (xs.drop k) :=
  ⟨by have := h.len; simp; omega, fun hp => by
    obtain ⟨b', off', e, hb, hc⟩ := h.at_ (by omega)
    injection e with e
    injection e with e1 e2
    subst e1; subst e2
    refine ⟨b, off + k, rfl, hb, fun j hj => ?_⟩
    show w.cell? _ = some (.int .i64 (intAt (xs.drop k) j))
    rw [intAt_drop]
    have := hc (k + j) (by omega)
    rw [Nat.add_assoc]; exact this⟩
def intCells (xs : List Int) : List Value := xs.map fun x => .int .i64 x
theorem intCells_length (xs : List Int) : (intCells xs).length = xs.length := by simp [intCells]
theorem intCells_append (a b : List Int) : intCells (a ++ b) = intCells a ++ intCells b := by simp [intCells]
theorem intCells_get (xs : List Int) (i : Nat) (h : i < xs.length) : (intCells xs)[i]? = some (.int .i64 (intAt xs i)) := by
  unfold intCells; rw [List.getElem?_map, intAt_get h]; rfl
theorem intCells_oneCell (xs : List Int) : ∀ u ∈ intCells xs, u.oneCell' = true := by
  intro u hu; simp [intCells] at hu; obtain ⟨_, _, rfl⟩ := hu; rfl
theorem IntsAt.of_own {base cap : Nat} {e : TypeId} {v : Value} {xs : List Int} (h : w.ownsRow base e 1 v xs.length (intCells xs)) :
    ∃ A cap, v = .slice A xs.length cap ∧ xs.length ≤ cap ∧ IntsAt w w.heap.size A xs.length xs := by
  rcases h.2 with ⟨hv, hx⟩ | ⟨g, c, cur, hv, hg, hc, r⟩
  · have : xs = [] := by
      cases xs with
      | nil => rfl
      | cons a b => simp [intCells] at hx
    subst this
    exact ⟨_, _, hv, Nat.le_refl _, IntsAt.nil_⟩
  · refine ⟨_, _, hv, by omega, rfl, fun hn => ?_⟩
    subst hv
    obtain ⟨g', cap', hv', _, hlt⟩ := h.form (by simpa using hn)
    injection hv' with h1; injection h1 with h1; injection h1 with h1; subst h1
    refine ⟨g, 0, rfl, hlt, fun i hi => ?_⟩
    have := own_get h i hi
    rw [intCells_get xs i hi] at this
    rw [Nat.zero_add]; exact this
end
end Go.Proofs.Ytmdajmdjmdbonaa

namespace Go.Proofs.Ytmdajmdjmdbonaa
open Go.RowKit
set_option linter.unusedSimpArgs false
set_option linter.unusedVariables false

def vn (c : Int) : Int := if c < 0 then -1 else c
/-- Every variable as the first one. -/
def nrm (r : List Int) : List Int := r.map vn
theorem nrm_length (r : List Int) : (nrm r).length = r.length := by simp [nrm]
theorem nrm_drop (r : List Int) (k : Nat) : (nrm r).drop k = nrm (r.drop k) := by simp [nrm]
theorem nrm_take (r : List Int) (k : Nat) : (nrm r).take k = nrm (r.take k) := by simp [nrm]
theorem nrm_append (a b : List Int) : nrm (a ++ b) = nrm a ++ nrm b := by simp [nrm]
theorem nrm_get {r : List Int} {j : Nat} (h : j < r.length) : (nrm r)[j]? = some (vn (intAt r j)) := by
  unfold nrm; rw [List.getElem?_map, intAt_get h]; rfl
theorem arOf_vn {ss : List Sym} {c : Int} {a : Nat} (h : arOf ss c = some a) : arOf ss (vn c) = some a := by
  unfold vn
  by_cases hc : c < 0
  · rw [if_pos hc]
    unfold arOf at h
    rw [if_pos hc] at h
    by_cases h2 : -24 ≤ c
    · rw [if_pos h2] at h; rw [← h]; unfold arOf; rw [if_pos (by omega), if_pos (by omega)]
    · rw [if_neg h2] at h; cases h
  · rw [if_neg hc]; exact h
theorem tl_nrm {ss : List Sym} (r : List Int) {ms : List (Nat × Nat)} (h : tl ss r = some ms) : tl ss (nrm r) = some ms := by
  induction r generalizing ms with
  | nil => exact h
  | cons c r ih =>
    obtain ⟨qs, a, h1, h2, h3, rfl⟩ := tl_cons_inv h
    exact tl_cons (ih h1) (arOf_vn h2) h3
/-- What stands in the place of part q of a row: its code, and the terms behind it. -/
theorem part_of {ss : List Sym} {r : List Int} {ms : List (Nat × Nat)} (h : tl ss r = some ms) {q : Nat} (hq : q < ms.length) :
    ∃ (m : Nat × Nat) (qs : List (Nat × Nat)) (a : Nat), ms.drop q = m :: ms.drop (q + 1) ∧ sumL (ms.take (q + 1)) = sumL (ms.take q) + m.1 ∧ 1 ≤ m.1 ∧ sumL (ms.take q) + m.1 ≤ r.length ∧
      tl ss ((r.drop (sumL (ms.take q) + 1)).take (m.1 - 1)) = some (qs.take a) ∧ m.2 = 1 + maxD (qs.take a) ∧ maxD (ms.take (q + 1)) = max (maxD (ms.take q)) m.2 := by
  obtain ⟨h1, h2⟩ := tl_skip r h q (by omega)
  obtain ⟨h3, h4⟩ := tl_skip r h (q + 1) hq
  cases hd : ms.drop q with
  | nil => simp at hd; omega
  | cons m ms' =>
    have e : ms' = ms.drop (q + 1) := by
      have := congrArg List.tail hd
      simp at this
      exact this.symm
    subst e
    rw [hd] at h1
    have hs := take_snoc' hd
    have hsum : sumL (ms.take (q + 1)) = sumL (ms.take q) + m.1 := by rw [hs, sumL_append]; simp [sumL]
    have hlt : sumL (ms.take q) < r.length := by
      rcases Nat.lt_or_ge (sumL (ms.take q)) r.length with h' | h'
      · exact h'
      · rw [List.drop_of_length_le h'] at h1; unfold tl at h1; cases h1
    rw [List.drop_eq_getElem_cons hlt] at h1
    obtain ⟨qs, a, k1, k2, k3, k4⟩ := tl_cons_inv h1
    injection k4 with k4 k5
    have m1 : m.1 = 1 + sumL (qs.take a) := by rw [k4]
    have m2 : m.2 = 1 + maxD (qs.take a) := by rw [k4]
    refine ⟨m, qs, a, rfl, hsum, by omega, by omega, ?_, m2, ?_⟩
    · have := tl_take _ k1 a k3
      have e2 : m.1 - 1 = sumL (qs.take a) := by omega
      rw [e2]; exact this
    · rw [hs, maxD_append]; simp [maxD]

end Go.Proofs.Ytmdajmdjmdbonaa

namespace Go.Proofs.Ytmdajmdjmdbonaa
open Go.RowKit
set_option linter.unusedSimpArgs false
set_option linter.unusedVariables false

theorem may_len {ss : List Sym} (h : mayB ss = true) : 1 ≤ ss.length ∧ ss.length ≤ 20 := by
  have := of_decide_eq_true h; exact ⟨this.1, this.2.1⟩
theorem may_first {ss : List Sym} (h : mayB ss = true) : (symAt ss 0).kind = 0 ∧ (symAt ss 0).arity = 2 ∧ (symAt ss 0).weight = 1 := by
  have := (of_decide_eq_true h : mayP ss).2.2.1
  unfold eqB at this; simp at this; exact ⟨this.1.1.2, this.1.2, this.2⟩
theorem may_sym {ss : List Sym} (h : mayB ss = true) {i : Nat} (hi : i < ss.length) (h1 : 1 ≤ i) : 0 ≤ (symAt ss i).kind ∧ (symAt ss i).kind ≤ 2 ∧ 0 ≤ (symAt ss i).arity ∧ (symAt ss i).arity ≤ 3 ∧ 1 ≤ (symAt ss i).weight ∧ (symAt ss i).weight ≤ 20 := by
  have := ((of_decide_eq_true h : mayP ss).2.2.2 i hi h1).1
  unfold symB kindB withinB at this
  simp at this
  omega
theorem may_bd {ss : List Sym} (h : mayB ss = true) {i : Nat} (hi : i < ss.length) : 0 ≤ (symAt ss i).kind ∧ (symAt ss i).kind ≤ 2 ∧ 0 ≤ (symAt ss i).arity ∧ (symAt ss i).arity ≤ 3 ∧ 1 ≤ (symAt ss i).weight ∧ (symAt ss i).weight ≤ 20 := by
  by_cases e : i = 0
  · subst e
    obtain ⟨h1, h2, h3⟩ := may_first h
    omega
  · exact may_sym h hi (by omega)
theorem ar_sym {ss : List Sym} (h : mayB ss = true) {c : Int} {a : Nat} (hc : 0 ≤ c) (ha : arOf ss c = some a) : c.toNat < ss.length ∧ (symAt ss c.toNat).kind ≠ 0 ∧ (symAt ss c.toNat).arity = (a : Int) ∧ a ≤ 3 := by
  unfold arOf at ha
  rw [if_neg (by omega)] at ha
  by_cases e : c < (ss.length : Int) ∧ (symAt ss c.toNat).kind ≠ 0
  · rw [if_pos e] at ha
    injection ha with ha
    have := may_bd h (i := c.toNat) (by omega)
    exact ⟨by omega, e.2, by omega, by omega⟩
  · rw [if_neg e] at ha; cases ha
theorem ar_le {ss : List Sym} (h : mayB ss = true) {c : Int} {a : Nat} (ha : arOf ss c = some a) : a ≤ 3 := by
  by_cases hc : 0 ≤ c
  · exact (ar_sym h hc ha).2.2.2
  · unfold arOf at ha
    rw [if_pos (by omega)] at ha
    by_cases e : -24 ≤ c
    · rw [if_pos e] at ha; injection ha with ha; omega
    · rw [if_neg e] at ha; cases ha
theorem ar_var {ss : List Sym} {c : Int} {a : Nat} (hc : c < 0) (ha : arOf ss c = some a) : -24 ≤ c ∧ a = 0 := by
  unfold arOf at ha
  rw [if_pos hc] at ha
  by_cases e : -24 ≤ c
  · rw [if_pos e] at ha; injection ha with ha; exact ⟨e, ha.symm⟩
  · rw [if_neg e] at ha; cases ha
theorem ar_none {ss : List Sym} {c : Int} (ha : arOf ss c = none) : (c < 0 ∧ c < -24) ∨ (0 ≤ c ∧ (ss.length : Int) ≤ c) ∨ (0 ≤ c ∧ c.toNat < ss.length ∧ (symAt ss c.toNat).kind = 0) := by
  unfold arOf at ha
  by_cases hc : c < 0
  · rw [if_pos hc] at ha
    by_cases e : -24 ≤ c
    · rw [if_pos e] at ha; cases ha
    · exact .inl ⟨hc, by omega⟩
  · rw [if_neg hc] at ha
    by_cases e : c < (ss.length : Int) ∧ (symAt ss c.toNat).kind ≠ 0
    · rw [if_pos e] at ha; cases ha
    · by_cases e2 : c < (ss.length : Int)
      · refine .inr (.inr ⟨by omega, by omega, ?_⟩)
        by_cases e3 : (symAt ss c.toNat).kind = 0
        · exact e3
        · exact absurd ⟨e2, e3⟩ e
      · exact .inr (.inl ⟨by omega, by omega⟩)

set_option maxHeartbeats 1000000 in
theorem arity_yes (A : Option Addr) (n c B : Nat) (ss : List Sym) (x : Int) (a : Nat) (w : World) (h : SymsAt w B A n ss) (hn : n ≤ maxLen) (hm : mayB ss = true) (ha : arOf ss x = some a) :
    Calls Try.prog 31 #[.slice A n c, .int .i64 x] w fun e w' => e = .returned (.tuple #[.int .i64 a, .bool true]) ∧ w = w' := by
  unfold maxLen at hn
  have HM := Lib.hid hm
  have HA := Lib.hid ha
  clear hm ha
  by_cases hx : x < 0
  · obtain ⟨h24, h0⟩ := ar_var hx HA.out
    subst h0
    go_enter Try.func31, Try.ntmps31
    go_wp2
    go_ret2
    exact ⟨rfl, rfl⟩
  · obtain ⟨k, rfl⟩ : ∃ k : Nat, x = (k : Int) := ⟨x.toNat, by omega⟩
    obtain ⟨h1, h2, h3, h4⟩ := ar_sym HM.out (by omega) HA.out
    simp only [Int.toNat_natCast] at h1 h2 h3
    have hl := h.len
    have hk : k < n := by omega
    obtain ⟨b, off, rfl, hb, hc⟩ := h.at_ (by omega)
    obtain ⟨_, c1, c2, _⟩ := hc k hk
    rw [h3] at c2
    have h2' : ((symAt ss k).kind == 0) = false := by simpa using h2
    clear hc h1 h2 h3 hl hx
    go_enter Try.func31, Try.ntmps31
    go_wp2
    go_ret2
    exact ⟨rfl, rfl⟩

set_option maxHeartbeats 1000000 in
theorem arity_no (A : Option Addr) (n c B : Nat) (ss : List Sym) (x : Int) (w : World) (h : SymsAt w B A n ss) (hn : n ≤ maxLen) (ha : arOf ss x = none) :
    Calls Try.prog 31 #[.slice A n c, .int .i64 x] w fun e w' => e = .returned (.tuple #[.int .i64 0, .bool false]) ∧ w = w' := by
  unfold maxLen at hn
  have hl := h.len
  rcases ar_none ha with ⟨h1, h2⟩ | ⟨h1, h2⟩ | ⟨h1, h2, h3⟩
  · have h2' : ¬ -24 ≤ x := by omega
    clear ha hl
    go_enter Try.func31, Try.ntmps31
    go_wp2
    go_ret2
    exact ⟨by simp, rfl⟩
  · have h3 : (n : Int) ≤ x := by omega
    clear ha hl h2
    go_enter Try.func31, Try.ntmps31
    go_wp2
    go_ret2
    exact ⟨rfl, rfl⟩
  · obtain ⟨k, rfl⟩ : ∃ k : Nat, x = (k : Int) := ⟨x.toNat, by omega⟩
    simp only [Int.toNat_natCast] at h2 h3
    have hk : k < n := by omega
    obtain ⟨b, off, rfl, hb, hc⟩ := h.at_ (by omega)
    obtain ⟨_, c1, _, _⟩ := hc k hk
    rw [h3] at c1
    clear hc h1 h2 h3 hl ha
    go_enter Try.func31, Try.ntmps31
    go_wp2
    go_ret2
    exact ⟨rfl, rfl⟩

end Go.Proofs.Ytmdajmdjmdbonaa

namespace Go.Proofs.Ytmdajmdjmdbonaa
open Go.RowKit
set_option linter.unusedSimpArgs false
set_option linter.unusedVariables false

theorem shape_info : (Try.prog.info? 60).map (fun i => (i.zero, i.size)) = some (some (.agg zeroC), 96) := by kernel_rfl
theorem shape_built : Try.prog.built 60 [] = some zeroC := by kernel_rfl
theorem below_alloc2 (w : World) (o o' : Obj) : Below w.heap.size w ((w.alloc o).alloc o') := ((Below.refl _ _).alloc (Nat.le_refl _) o).alloc (by simp) o'

theorem below_setRow {B g : Nat} {a w : World} (h : Below B a w) (hg : B ≤ g) (cs : Array Value) : Below B a (w.setRow g cs) :=
  ⟨h.os, h.tape, h.output, by simp; exact h.size, fun k hk => (setRow_other w g k cs (by omega)).trans (h.block k hk)⟩
theorem SymsAt.new2 {w : World} {A : Option Addr} {n : Nat} {ss : List Sym} (h : SymsAt w w.heap.size A n ss) (o o' : Obj) : SymsAt ((w.alloc o).alloc o') ((w.alloc o).alloc o').heap.size A n ss :=
  (h.below (below_alloc2 w o o')).more (by simp; omega)
theorem run_storeC {P : Program} (w : World) (g : Nat) (t : TypeId) (old cells : Array Value) (hg : w.heap[g]? = some (.cells old t (0, 0))) (hs : old.size = cells.size) (h1 : cells.all (·.oneCell') = true) :
    (storeCells ⟨g, 0, none⟩ cells.toList).run P w = .ok () (w.setRow g cells) := by
  have := run_storeCells_from (P := P) g t cells.toList 0 old w hg (by simp; omega) (fun v hv => (Array.all_eq_true_iff_forall_mem.1 h1) v (by simpa using hv))
  simpa using this
theorem run_loadC {P : Program} (w : World) (g n : Nat) (t : TypeId) (cs : Array Value) (hg : w.heap[g]? = some (.cells cs t (0, 0))) (hn : cs.size = n) :
    (loadCellsFrom ⟨g, 0, none⟩ 0 n #[]).run P w = .ok cs w := by
  subst hn
  have := run_loadCells_list (P := P) w ⟨g, 0, none⟩ cs.toList (fun j v hv => by
    have hadd : (⟨g, 0, none⟩ : Addr).add j = ⟨g, j, none⟩ := by unfold Addr.add; split <;> simp_all
    rw [hadd, cell_of_row _ _ j cs t (0, 0) hg]
    simpa using hv)
  simpa [loadCells] using this
theorem meas_ret {R : Ending → World → Prop} {a : Act} {w : World} {g : Nat} {b : Bool} {cs : Array Value} (h4 : a.tmps.getD 4 undef = .pointer (some ⟨g, 0, none⟩)) (h5 : a.tmps.getD 5 undef = .bool b) (hd : a.defers = [])
    (hg : w.heap[g]? = some (.cells cs 60 (0, 0))) (hs : cs.size = 96) (hR : R (.returned (.tuple #[.agg cs, .bool b])) w) : bodyPost Try.prog Try.f22 R .ret a w := by
  refine bodyPost_ret (v := .tuple #[.agg cs, .bool b]) ?_ hd hR
  rw [results_cell_tmp rfl, h4, h5]
  have := run_loadVar_row (P := Try.prog) w g 60 60 cs (0, 0) _ hg Try.underlying60 rfl (by rw [hs]; exact (zero_of_info shape_info).2)
  simp [asAddr, Result.andThen, this]
/-- What measure hands back: the cells, whether it is a row. -/
def measC (ss : List Sym) (r : List Int) : Array Value := if rowB ss r then shapeC ss r 0 else zeroC
def MeasPost (ss : List Sym) (r : List Int) (w : World) (e : Ending) (w' : World) : Prop :=
  e = .returned (.tuple #[.agg (measC ss r), .bool (rowB ss r)]) ∧ Below w.heap.size w w'
/-- The world where the places from k on are measured: the result's cell and the shape's in two new blocks. -/
structure StW (ss : List Sym) (r : List Int) (w : World) (k : Nat) (w' : World) : Prop where
  bel : Below w.heap.size w w'
  out : w'.heap[w.heap.size]? = some (.cells zeroC 60 (0, 0))
  sh : w'.heap[w.heap.size + 1]? = some (.cells (shapeC ss r k) 60 (0, 0))
section
variable (A A' : Option Addr) (n c m c' : Nat) (ss : List Sym) (r : List Int) (w : World)
def J0 (g : Nat) (a : Act) (w' : World) : Prop := ∃ (k : Nat) (u : Nat → Value),
  a = ({ tmps := #[.slice A n c, .slice A' m c', u 2, u 3, .pointer (some ⟨w.heap.size, 0, none⟩), u 5, .pointer (some ⟨w.heap.size + 1, 0, none⟩), u 7, u 8, u 9, u 10, .int .i64 (k : Int), u 12, u 13, u 14, u 15, u 16, u 17, u 18, u 19, u 20, u 21, u 22, u 23, u 24, u 25, u 26, u 27, u 28, u 29, u 30, u 31, u 32, u 33, u 34, u 35, u 36, u 37, u 38, u 39, u 40, u 41, u 42, u 43, u 44, u 45, u 46, u 47, u 48, u 49, u 50, u 51, u 52, u 53, u 54, u 55, u 56, u 57, u 58, u 59, u 60, u 61, u 62, u 63, u 64, u 65, u 66, u 67, u 68, u 69], defers := [] } : Act) ∧
  g = 10 * k ∧ k ≤ m ∧ (∃ ms, tl ss (r.drop k) = some ms) ∧ StW ss r w k w'
def J1 (g : Nat) (a : Act) (w' : World) : Prop := ∃ (k en dn : Nat) (u : Nat → Value),
  a = ({ tmps := #[.slice A n c, .slice A' m c', u 2, u 3, .pointer (some ⟨w.heap.size, 0, none⟩), u 5, .pointer (some ⟨w.heap.size + 1, 0, none⟩), .int .i64 (en : Int), .int .i64 (dn : Int), u 9, u 10, .int .i64 (k : Int), u 12, u 13, u 14, u 15, u 16, u 17, u 18, u 19, u 20, u 21, u 22, u 23, u 24, u 25, u 26, u 27, u 28, u 29, u 30, u 31, u 32, u 33, u 34, u 35, u 36, u 37, u 38, u 39, u 40, u 41, u 42, u 43, u 44, u 45, u 46, u 47, u 48, u 49, u 50, u 51, u 52, u 53, u 54, u 55, u 56, u 57, u 58, u 59, u 60, u 61, u 62, u 63, u 64, u 65, u 66, u 67, u 68, u 69], defers := [] } : Act) ∧
  g = 10 * k + 1 ∧ k < m ∧ dn ≤ m ∧ (∃ ms, tl ss (r.drop k) = some ms) ∧ en = endAt ss r k ∧ dn + 1 = depAt ss r k ∧ StW ss r w (k + 1) w'
/-- Of the terms behind the code at k, p are behind; so many are left. -/
def Left (k en dn left : Nat) : Prop := ∃ ms x p, tl ss (r.drop (k + 1)) = some ms ∧ r[k]? = some x ∧ arOf ss x = some (p + left) ∧ p ≤ ms.length ∧ en = k + 1 + sumL (ms.take p) ∧ dn = maxD (ms.take p)
def J2 (g : Nat) (a : Act) (w' : World) : Prop := ∃ (k en dn left : Nat) (u : Nat → Value),
  a = ({ tmps := #[.slice A n c, .slice A' m c', u 2, u 3, .pointer (some ⟨w.heap.size, 0, none⟩), u 5, .pointer (some ⟨w.heap.size + 1, 0, none⟩), .int .i64 (en : Int), .int .i64 (dn : Int), .int .i64 (left : Int), u 10, .int .i64 (k : Int), u 12, u 13, u 14, u 15, u 16, u 17, u 18, u 19, u 20, u 21, u 22, u 23, u 24, u 25, u 26, u 27, u 28, u 29, u 30, u 31, u 32, u 33, u 34, u 35, u 36, u 37, u 38, u 39, u 40, u 41, u 42, u 43, u 44, u 45, u 46, u 47, u 48, u 49, u 50, u 51, u 52, u 53, u 54, u 55, u 56, u 57, u 58, u 59, u 60, u 61, u 62, u 63, u 64, u 65, u 66, u 67, u 68, u 69], defers := [] } : Act) ∧
  g = 10 * k + left + 2 ∧ k < m ∧ left ≤ 3 ∧ Left ss r k en dn left ∧ StW ss r w (k + 1) w'
variable {A A' n c m c' ss r w}
variable {g : Nat} {a : Act} {w' : World} (k : Nat)
theorem J0.mk (ha : a = ({ tmps := #[.slice A n c, .slice A' m c', a.tmps.getD 2 undef, a.tmps.getD 3 undef, .pointer (some ⟨w.heap.size, 0, none⟩), a.tmps.getD 5 undef, .pointer (some ⟨w.heap.size + 1, 0, none⟩), a.tmps.getD 7 undef, a.tmps.getD 8 undef, a.tmps.getD 9 undef, a.tmps.getD 10 undef, .int .i64 (k : Int), a.tmps.getD 12 undef, a.tmps.getD 13 undef, a.tmps.getD 14 undef, a.tmps.getD 15 undef, a.tmps.getD 16 undef, a.tmps.getD 17 undef, a.tmps.getD 18 undef, a.tmps.getD 19 undef, a.tmps.getD 20 undef, a.tmps.getD 21 undef, a.tmps.getD 22 undef, a.tmps.getD 23 undef, a.tmps.getD 24 undef, a.tmps.getD 25 undef, a.tmps.getD 26 undef, a.tmps.getD 27 undef, a.tmps.getD 28 undef, a.tmps.getD 29 undef, a.tmps.getD 30 undef, a.tmps.getD 31 undef, a.tmps.getD 32 undef, a.tmps.getD 33 undef, a.tmps.getD 34 undef, a.tmps.getD 35 undef, a.tmps.getD 36 undef, a.tmps.getD 37 undef, a.tmps.getD 38 undef, a.tmps.getD 39 undef, a.tmps.getD 40 undef, a.tmps.getD 41 undef, a.tmps.getD 42 undef, a.tmps.getD 43 undef, a.tmps.getD 44 undef, a.tmps.getD 45 undef, a.tmps.getD 46 undef, a.tmps.getD 47 undef, a.tmps.getD 48 undef, a.tmps.getD 49 undef, a.tmps.getD 50 undef, a.tmps.getD 51 undef, a.tmps.getD 52 undef, a.tmps.getD 53 undef, a.tmps.getD 54 undef, a.tmps.getD 55 undef, a.tmps.getD 56 undef, a.tmps.getD 57 undef, a.tmps.getD 58 undef, a.tmps.getD 59 undef, a.tmps.getD 60 undef, a.tmps.getD 61 undef, a.tmps.getD 62 undef, a.tmps.getD 63 undef, a.tmps.getD 64 undef, a.tmps.getD 65 undef, a.tmps.getD 66 undef, a.tmps.getD 67 undef, a.tmps.getD 68 undef, a.tmps.getD 69 undef], defers := [] } : Act)) (hg : g = 10 * k) (hk : k ≤ m) (ht : ∃ ms, tl ss (r.drop k) = some ms) (hs : StW ss r w k w') : J0 A A' n c m c' ss r w g a w' :=
  ⟨k, fun i => a.tmps.getD i undef, ha, hg, hk, ht, hs⟩
theorem J1.mk (en dn : Nat) (ha : a = ({ tmps := #[.slice A n c, .slice A' m c', a.tmps.getD 2 undef, a.tmps.getD 3 undef, .pointer (some ⟨w.heap.size, 0, none⟩), a.tmps.getD 5 undef, .pointer (some ⟨w.heap.size + 1, 0, none⟩), .int .i64 (en : Int), .int .i64 (dn : Int), a.tmps.getD 9 undef, a.tmps.getD 10 undef, .int .i64 (k : Int), a.tmps.getD 12 undef, a.tmps.getD 13 undef, a.tmps.getD 14 undef, a.tmps.getD 15 undef, a.tmps.getD 16 undef, a.tmps.getD 17 undef, a.tmps.getD 18 undef, a.tmps.getD 19 undef, a.tmps.getD 20 undef, a.tmps.getD 21 undef, a.tmps.getD 22 undef, a.tmps.getD 23 undef, a.tmps.getD 24 undef, a.tmps.getD 25 undef, a.tmps.getD 26 undef, a.tmps.getD 27 undef, a.tmps.getD 28 undef, a.tmps.getD 29 undef, a.tmps.getD 30 undef, a.tmps.getD 31 undef, a.tmps.getD 32 undef, a.tmps.getD 33 undef, a.tmps.getD 34 undef, a.tmps.getD 35 undef, a.tmps.getD 36 undef, a.tmps.getD 37 undef, a.tmps.getD 38 undef, a.tmps.getD 39 undef, a.tmps.getD 40 undef, a.tmps.getD 41 undef, a.tmps.getD 42 undef, a.tmps.getD 43 undef, a.tmps.getD 44 undef, a.tmps.getD 45 undef, a.tmps.getD 46 undef, a.tmps.getD 47 undef, a.tmps.getD 48 undef, a.tmps.getD 49 undef, a.tmps.getD 50 undef, a.tmps.getD 51 undef, a.tmps.getD 52 undef, a.tmps.getD 53 undef, a.tmps.getD 54 undef, a.tmps.getD 55 undef, a.tmps.getD 56 undef, a.tmps.getD 57 undef, a.tmps.getD 58 undef, a.tmps.getD 59 undef, a.tmps.getD 60 undef, a.tmps.getD 61 undef, a.tmps.getD 62 undef, a.tmps.getD 63 undef, a.tmps.getD 64 undef, a.tmps.getD 65 undef, a.tmps.getD 66 undef, a.tmps.getD 67 undef, a.tmps.getD 68 undef, a.tmps.getD 69 undef], defers := [] } : Act)) (hg : g = 10 * k + 1) (hk : k < m) (hd : dn ≤ m) (ht : ∃ ms, tl ss (r.drop k) = some ms) (he : en = endAt ss r k) (hdn : dn + 1 = depAt ss r k) (hs : StW ss r w (k + 1) w') : J1 A A' n c m c' ss r w g a w' :=
  ⟨k, en, dn, fun i => a.tmps.getD i undef, ha, hg, hk, hd, ht, he, hdn, hs⟩
theorem J2.mk (en dn left : Nat) (ha : a = ({ tmps := #[.slice A n c, .slice A' m c', a.tmps.getD 2 undef, a.tmps.getD 3 undef, .pointer (some ⟨w.heap.size, 0, none⟩), a.tmps.getD 5 undef, .pointer (some ⟨w.heap.size + 1, 0, none⟩), .int .i64 (en : Int), .int .i64 (dn : Int), .int .i64 (left : Int), a.tmps.getD 10 undef, .int .i64 (k : Int), a.tmps.getD 12 undef, a.tmps.getD 13 undef, a.tmps.getD 14 undef, a.tmps.getD 15 undef, a.tmps.getD 16 undef, a.tmps.getD 17 undef, a.tmps.getD 18 undef, a.tmps.getD 19 undef, a.tmps.getD 20 undef, a.tmps.getD 21 undef, a.tmps.getD 22 undef, a.tmps.getD 23 undef, a.tmps.getD 24 undef, a.tmps.getD 25 undef, a.tmps.getD 26 undef, a.tmps.getD 27 undef, a.tmps.getD 28 undef, a.tmps.getD 29 undef, a.tmps.getD 30 undef, a.tmps.getD 31 undef, a.tmps.getD 32 undef, a.tmps.getD 33 undef, a.tmps.getD 34 undef, a.tmps.getD 35 undef, a.tmps.getD 36 undef, a.tmps.getD 37 undef, a.tmps.getD 38 undef, a.tmps.getD 39 undef, a.tmps.getD 40 undef, a.tmps.getD 41 undef, a.tmps.getD 42 undef, a.tmps.getD 43 undef, a.tmps.getD 44 undef, a.tmps.getD 45 undef, a.tmps.getD 46 undef, a.tmps.getD 47 undef, a.tmps.getD 48 undef, a.tmps.getD 49 undef, a.tmps.getD 50 undef, a.tmps.getD 51 undef, a.tmps.getD 52 undef, a.tmps.getD 53 undef, a.tmps.getD 54 undef, a.tmps.getD 55 undef, a.tmps.getD 56 undef, a.tmps.getD 57 undef, a.tmps.getD 58 undef, a.tmps.getD 59 undef, a.tmps.getD 60 undef, a.tmps.getD 61 undef, a.tmps.getD 62 undef, a.tmps.getD 63 undef, a.tmps.getD 64 undef, a.tmps.getD 65 undef, a.tmps.getD 66 undef, a.tmps.getD 67 undef, a.tmps.getD 68 undef, a.tmps.getD 69 undef], defers := [] } : Act)) (hg : g = 10 * k + left + 2) (hk : k < m) (hl : left ≤ 3) (ht : Left ss r k en dn left) (hs : StW ss r w (k + 1) w') : J2 A A' n c m c' ss r w g a w' :=
  ⟨k, en, dn, left, fun i => a.tmps.getD i undef, ha, hg, hk, hl, ht, hs⟩
end
section
variable {ss : List Sym} {r : List Int} {w w' : World} {k : Nat}
theorem StW.cell (h : StW ss r w k w') (j : Nat) : w'.cell? ⟨w.heap.size + 1, j, none⟩ = (shapeC ss r k)[j]? := cell_of_row _ _ _ _ _ _ h.sh
theorem StW.frozen (h : StW ss r w k w') (j : Nat) : w'.frozen? ⟨w.heap.size + 1, j, none⟩ = false := frozen_of_row _ _ _ _ _ h.sh
theorem StW.step (h : StW ss r w (k + 1) w') {x y : Int} (hk : k < r.length) (h48 : r.length ≤ 48) (hx : x = endAt ss r k) (hy : y = depAt ss r k) :
    StW ss r w k ((w'.setCell ⟨w.heap.size + 1, k, none⟩ (.int .i64 x)).setCell ⟨w.heap.size + 1, 48 + k, none⟩ (.int .i64 y)) := by
  refine ⟨(h.bel.setCell (by simp) _).setCell (by simp) _, ?_, ?_⟩
  · rw [heap_setCell_other _ _ _ _ (by simp), heap_setCell_other _ _ _ _ (by simp)]; exact h.out
  · have := heap_setCell_same _ _ (48 + k) _ _ (.int .i64 y) (heap_setCell_same _ _ k _ _ (.int .i64 x) h.sh)
    rw [shapeC_step hk h48 hx hy] at this
    exact this
theorem Left.done {en dn : Nat} (h : Left ss r k en dn 0) (hk : k < r.length) : (∃ ms, tl ss (r.drop k) = some ms) ∧ en = endAt ss r k ∧ dn + 1 = depAt ss r k ∧ dn ≤ r.length := by
  obtain ⟨ms, x, p, h1, h2, h3, h4, h5, h6⟩ := h
  rw [Nat.add_zero] at h3
  obtain ⟨e1, e2, e3⟩ := hd_cons h1 hk h2 h3 h4
  refine ⟨⟨_, e1⟩, by rw [h5, e2], by rw [h6, e3], ?_⟩
  have := tl_deep _ h1
  have t := maxD_take_le ms p
  simp at this
  omega
theorem Left.le {en dn left : Nat} (h : Left ss r k en dn left) (hk : k < r.length) : k + 1 ≤ en ∧ en ≤ r.length ∧ dn ≤ r.length := by
  obtain ⟨ms, x, p, h1, h2, h3, h4, h5, h6⟩ := h
  have := (tl_at (k + 1) p h1 (by omega) h4).1
  have d := tl_deep _ h1
  have t := maxD_take_le ms p
  simp at d
  omega
theorem Left.cut {dn left : Nat} (h : Left ss r k r.length dn left) (hk : k < r.length) (hl : 0 < left) : tl ss r = none := by
  obtain ⟨ms, x, p, h1, h2, h3, h4, h5, h6⟩ := h
  have := (tl_at (k + 1) p h1 (by omega) h4).2.1.1 (by omega)
  exact tl_at_few h1 hk h2 h3 (by omega)
theorem Left.next {en dn left : Nat} (h : Left ss r k en dn (left + 1)) (hk : k < r.length) (he : en < r.length) : Left ss r k (endAt ss r en) (max dn (depAt ss r en)) left := by
  obtain ⟨ms, x, p, h1, h2, h3, h4, h5, h6⟩ := h
  obtain ⟨t1, t2, t3⟩ := tl_at (k + 1) p h1 (by omega) h4
  have hp : p < ms.length := by
    rcases Nat.lt_or_ge p ms.length with h | h
    · exact h
    · have := t2.2 (by omega); omega
  obtain ⟨_, e1, e2⟩ := t3 hp
  refine ⟨ms, x, p + 1, h1, h2, ?_, hp, ?_, ?_⟩
  · rw [h3]; congr 1; omega
  · rw [h5, e1]
  · rw [h5, h6, e2]
theorem Left.start {ms : List (Nat × Nat)} {x : Int} {a : Nat} (h1 : tl ss (r.drop (k + 1)) = some ms) (h2 : r[k]? = some x) (h3 : arOf ss x = some a) : Left ss r k (k + 1) 0 a :=
  ⟨ms, x, 0, h1, h2, by rw [h3, Nat.zero_add], Nat.zero_le _, by simp [sumL], by simp [maxD]⟩
theorem row_false (h : tl ss r = none) : rowB ss r = false := by unfold rowB rowP; rw [h]; simp
theorem row_true {ms : List (Nat × Nat)} (hm : mayB ss = true) (h48 : r.length ≤ 48) (h : tl ss r = some ms) : rowB ss r = true := by unfold rowB rowP; rw [h, hm]; simp [h48]
theorem MeasPost.no {e : Ending} (h : rowB ss r = false) (he : e = .returned (.tuple #[.agg zeroC, .bool false])) (hb : Below w.heap.size w w') : MeasPost ss r w e w' := by
  unfold MeasPost measC; rw [h]; exact ⟨he, hb⟩
theorem MeasPost.yes {e : Ending} (h : rowB ss r = true) (he : e = .returned (.tuple #[.agg (shapeC ss r 0), .bool true])) (hb : Below w.heap.size w w') : MeasPost ss r w e w' := by
  unfold MeasPost measC; rw [h]; exact ⟨he, hb⟩
end
end Go.Proofs.Ytmdajmdjmdbonaa

namespace Go.Proofs.Ytmdajmdjmdbonaa
open Go.RowKit
set_option linter.unusedSimpArgs false
set_option linter.unusedVariables false

set_option maxHeartbeats 2000000 in
set_option maxRecDepth 100000 in
theorem measure_any (A A' : Option Addr) (n c m c' : Nat) (ss : List Sym) (r : List Int) (w : World) (h : SymsAt w w.heap.size A n ss) (hn : n ≤ maxLen) (hnc : n ≤ c) (hr : IntsAt w w.heap.size A' m r) (hm0 : m ≤ maxLen) :
    Calls Try.prog 22 #[.slice A n c, .slice A' m c'] w (MeasPost ss r w) := by
  obtain ⟨hz, hzs⟩ := zero_of_info shape_info
  have HL := Lib.hid hr.len
  have hn' := hn
  unfold maxLen at hn hm0
  cases hm : mayB ss
  · have H : Hid (rowB ss r = false) := by show rowB ss r = false; unfold rowB; rw [hm]; simp
    by_cases h48 : m ≤ 48
    · go_enter Try.func22, Try.ntmps22
      go_wp2
      go_step3
      go_wp2_with fail
      refine (may_any A n c ss _ (h.new2 _ _) hn' hnc).mono ?_
      rintro e w1 ⟨rfl, hb1⟩
      rw [hm]
      have ho : w1.heap[w.heap.size]? = some (.cells zeroC 60 (0, 0)) := by rw [hb1.block _ (by simp; omega)]; exact heap_alloc2_old _ _ _
      have hsc := run_storeC (P := Try.prog) w1 w.heap.size _ zeroC zeroC ho rfl (shapeF_one _ _)
      have HO := Lib.hid ho
      clear ho
      go_wp2
      clear hsc
      refine meas_ret (cs := zeroC) rfl rfl rfl ?_ (shapeF_size _ _) ?_
      · exact setRow_heap _ _ _ _ _ _ HO.out
      · exact .no H.out rfl (below_setRow ((below_alloc2 w _ _).trans (hb1.mono (by simp; omega))) (Nat.le_refl _) _)
    · have hsc := run_storeC (P := Try.prog) ((w.alloc (.cells zeroC 60)).alloc (.cells zeroC 60)) w.heap.size _ zeroC zeroC (heap_alloc2_old _ _ _) rfl (shapeF_one _ _)
      go_enter Try.func22, Try.ntmps22
      go_wp2
      go_step3
      go_wp2
      clear hsc
      refine meas_ret (cs := zeroC) rfl rfl rfl ?_ (shapeF_size _ _) ?_
      · exact setRow_heap _ _ _ _ _ _ (heap_alloc2_old _ _ _)
      · exact .no H.out rfl (below_setRow (below_alloc2 w _ _) (Nat.le_refl _) _)
  have HM := Lib.hid hm
  by_cases h48 : m ≤ 48
  · go_enter Try.func22, Try.ntmps22
    go_wp2
    refine wp_scope3 (X0 := ?X0) (X1 := ?X1) (X2 := ?X2) (J0 A A' n c m c' ss r w) (J1 A A' n c m c' ss r w) (J2 A A' n c m c' ss r w) 1000 ?h0 ?h1 ?h2 ?_ ?_ ?_ ?_
    case h0 => exact rfl
    case h1 => exact rfl
    case h2 => exact rfl
    · rintro g a w1 ⟨k, en, dn, u, rfl, rfl, hk, hd, hms, hen, hdn, hst⟩
      have HEN := Lib.hid hen
      have HDN := Lib.hid hdn
      have HMS := Lib.hid hms
      have HST := Lib.hid hst
      have hc1 := hst.cell k
      have hc2 := hst.cell (48 + k)
      rw [shapeC_end0 (by omega)] at hc1
      rw [shapeC_deep0 (by omega)] at hc2
      have hf1 := hst.frozen k
      have hf2 := hst.frozen (48 + k)
      clear hen hdn hms hst
      go_wp2
      go_step3
      refine ⟨10 * k, by omega, J0.mk k rfl rfl (by omega) HMS.out ?_⟩
      exact HST.out.step (by rw [HL.out]; exact hk) (by rw [HL.out]; exact h48) (by rw [HEN.out]) (by have := HDN.out; omega)
    · rintro g a w1 ⟨k, en, dn, left, u, rfl, rfl, hk, hleft, hms, hst⟩
      have HMS := Lib.hid hms
      have HST := Lib.hid hst
      clear hms
      by_cases hl0 : left = 0
      · subst hl0
        clear hst
        go_wp2
        go_step3
        refine ⟨10 * k + 1, by omega, J1.mk k en dn rfl rfl hk ?_ ?_ ?_ ?_ HST.out⟩
        · have := (HMS.out.done (by rw [HL.out]; exact hk)).2.2.2; rw [HL.out] at this; exact this
        · exact (HMS.out.done (by rw [HL.out]; exact hk)).1
        · exact (HMS.out.done (by rw [HL.out]; exact hk)).2.1
        · exact (HMS.out.done (by rw [HL.out]; exact hk)).2.2.1
      · obtain ⟨l, rfl⟩ : ∃ l, left = l + 1 := ⟨left - 1, by omega⟩
        obtain ⟨b1, b2, b3⟩ := HMS.out.le (by rw [HL.out]; exact hk)
        rw [HL.out] at b2 b3
        clear hl0
        by_cases he : en = m
        · subst he
          have H := Lib.hid (row_false (Left.cut (by have := HMS.out; rw [← HL.out] at this; exact this) (by rw [HL.out]; exact hk) (by omega)))
          have hsc := run_storeC (P := Try.prog) w1 w.heap.size _ zeroC zeroC hst.out rfl (shapeF_one _ _)
          clear hst
          go_wp2
          clear hsc
          refine meas_ret (cs := zeroC) rfl rfl rfl ?_ (shapeF_size _ _) ?_
          · exact setRow_heap _ _ _ _ _ _ HST.out.out
          · exact .no H.out rfl (below_setRow HST.out.bel (Nat.le_refl _) _)
        · have HN := Lib.hid (HMS.out.next (by rw [HL.out]; exact hk) (by rw [HL.out]; omega))
          have hc1 := hst.cell en
          have hc2 := hst.cell (48 + en)
          rw [shapeC_end (by omega) (by rw [HL.out]; omega) (by rw [HL.out]; exact h48)] at hc1
          rw [shapeC_deep (by omega) (by rw [HL.out]; omega) (by rw [HL.out]; exact h48)] at hc2
          have he' : ¬ (en : Int) = (m : Int) := by omega
          clear hst he
          by_cases hmx : dn < depAt ss r en
          · go_wp2
            go_step3
            exact ⟨_, by omega, J2.mk k (endAt ss r en) (depAt ss r en) l rfl rfl hk (by omega) (by have := HN.out; rw [Nat.max_eq_right (by omega)] at this; exact this) HST.out⟩
          · go_wp2
            go_step3
            exact ⟨_, by omega, J2.mk k (endAt ss r en) dn l rfl rfl hk (by omega) (by have := HN.out; rw [Nat.max_eq_left (by omega)] at this; exact this) HST.out⟩
    · intro P2
      have HP := Lib.hid P2
      clear P2
      rintro g a w1 ⟨k, u, rfl, rfl, hk, hms, hst⟩
      have HST := Lib.hid hst
      obtain ⟨ms, hms⟩ := hms
      have HMS := Lib.hid hms
      clear hms
      by_cases hk0 : k = 0
      · subst hk0
        have H : Hid (rowB ss r = true) := row_true HM.out (by rw [HL.out]; exact h48) HMS.out
        have hsc := run_storeC (P := Try.prog) w1 w.heap.size _ zeroC (shapeC ss r 0) hst.out (by rw [shapeC_size]; exact shapeF_size _ _) (shapeC_one _ _ _)
        clear hst
        go_wp2_with (with_reducible refine wpList_load_row rfl 60 (.tmp 6) rfl (w.heap.size + 1) rfl 60 (shapeC ss r 0) (0, 0) _ HST.out.sh Try.underlying60 rfl (by rw [shapeC_size]; exact hzs) ?_)
        clear hsc
        refine meas_ret (cs := shapeC ss r 0) rfl rfl rfl ?_ (shapeC_size _ _ _) ?_
        · exact setRow_heap _ _ _ _ _ _ HST.out.out
        · exact .yes H.out rfl (below_setRow HST.out.bel (Nat.le_refl _) _)
      · obtain ⟨j, rfl⟩ : ∃ j, k = j + 1 := ⟨k - 1, by omega⟩
        clear hk0
        have hlr : j < r.length := by rw [HL.out]; omega
        have hx := intAt_get hlr
        have HX := Lib.hid hx
        have hsy := h.below hst.bel
        obtain ⟨b', off', rfl, hb', hc'⟩ := (hr.below hst.bel).at_ (by omega)
        have hcx : w1.cell? ⟨b', off' + j, none⟩ = some (.int .i64 (intAt r j)) := hc' j (by omega)
        clear hx hc' hlr
        cases ha : arOf ss (intAt r j)
        · have H := Lib.hid (row_false (tl_at_bad (by rw [HL.out]; omega) HX.out ha))
          have hsc := run_storeC (P := Try.prog) w1 w.heap.size _ zeroC zeroC hst.out rfl (shapeF_one _ _)
          clear hst
          go_wp2_with fail
          refine (arity_no A n c w.heap.size ss _ _ hsy hn' ha).mono ?_
          rintro e w2 ⟨rfl, rfl⟩
          clear ha
          go_wp2
          clear hsc
          refine meas_ret (cs := zeroC) rfl rfl rfl ?_ (shapeF_size _ _) ?_
          · exact setRow_heap _ _ _ _ _ _ HST.out.out
          · exact .no H.out rfl (below_setRow HST.out.bel (Nat.le_refl _) _)
        · rename_i a
          have HA := Lib.hid ha
          have ha3 := ar_le HM.out ha
          clear hst
          go_wp2_with fail
          refine (arity_yes A n c w.heap.size ss _ a _ hsy hn' HM.out ha).mono ?_
          rintro e w2 ⟨rfl, rfl⟩
          clear ha
          go_wp2_with fail
          go_step3
          rename_i hK
          refine hK _ _ (HP.out _ _ _ _ ?_ (J2.mk j (j + 1) 0 a rfl rfl (by omega) ha3 ?_ HST.out))
          · omega
          · exact Left.start HMS.out HX.out HA.out
    · intro P0
      have HP := Lib.hid P0
      clear P0
      go_wp2_with fail
      refine (may_any A n c ss _ (h.new2 _ _) hn' hnc).mono ?_
      rintro e w1 ⟨rfl, hb1⟩
      rw [hm]
      go_wp2_with fail
      go_step3
      rename_i hK
      refine hK _ _ (HP.out _ _ _ ?_ (J0.mk m rfl rfl (by omega) ?_ ?_))
      · omega
      · exact ⟨[], by rw [← HL.out]; simp [tl]⟩
      · refine ⟨(below_alloc2 w _ _).trans (hb1.mono (by simp; omega)), ?_, ?_⟩
        · rw [hb1.block _ (by simp; omega)]; exact heap_alloc2_old _ _ _
        · rw [hb1.block _ (by simp), ← HL.out, shapeC_zero]; exact heap_alloc2_new _ _ _
  · have H : Hid (rowB ss r = false) := by show rowB ss r = false; unfold rowB; have := HL.out; simp; intro _ hh; omega
    have hsc := run_storeC (P := Try.prog) ((w.alloc (.cells zeroC 60)).alloc (.cells zeroC 60)) w.heap.size _ zeroC zeroC (heap_alloc2_old _ _ _) rfl (shapeF_one _ _)
    go_enter Try.func22, Try.ntmps22
    go_wp2
    go_step3
    go_wp2
    clear hsc
    refine meas_ret (cs := zeroC) rfl rfl rfl ?_ (shapeF_size _ _) ?_
    · exact setRow_heap _ _ _ _ _ _ (heap_alloc2_old _ _ _)
    · exact .no H.out rfl (below_setRow (below_alloc2 w _ _) (Nat.le_refl _) _)

end Go.Proofs.Ytmdajmdjmdbonaa

namespace Go.Proofs.Ytmdajmdjmdbonaa
open Go.RowKit
set_option linter.unusedSimpArgs false
set_option linter.unusedVariables false

def rowE (ss : List Sym) (r : List Int) : Int := if rowB ss r then 0 else 200
def rowK (ss : List Sym) (r : List Int) : Int := if rowB ss r then ((tlD ss r).length : Int) else 0
/-- An index of a row: where the term that begins there ends. -/
def endB (ss : List Sym) (r : List Int) (at_ : Int) : Bool := rowB ss r && decide (0 ≤ at_) && decide (at_ < r.length)
def endK (ss : List Sym) (r : List Int) (at_ : Int) : Int := if endB ss r at_ then (endAt ss r at_.toNat : Int) else 0
def endE (ss : List Sym) (r : List Int) (at_ : Int) : Int := if endB ss r at_ then 0 else 200

theorem ret_two {a b c d : Int} (h1 : a = c) (h2 : b = d) : Ending.returned (.tuple #[.int .i64 a, .int .i64 b]) = .returned (.tuple #[.int .i64 c, .int .i64 d]) := by rw [h1, h2]
theorem row_parts {ss : List Sym} {r : List Int} (h : rowB ss r = true) : mayB ss = true ∧ r.length ≤ 48 ∧ tl ss r = some (tlD ss r) := by
  unfold rowB rowP at h
  simp at h
  obtain ⟨⟨h1, h2⟩, h3⟩ := h
  refine ⟨h1, h2, ?_⟩
  unfold tlD
  cases ht : tl ss r with
  | none => rw [ht] at h3; cases h3
  | some ms => rfl
theorem measC_yes {ss : List Sym} {r : List Int} (h : rowB ss r = true) : measC ss r = shapeC ss r 0 := by unfold measC; rw [if_pos h]
theorem measC_no {ss : List Sym} {r : List Int} (h : rowB ss r = false) : measC ss r = zeroC := by unfold measC; rw [h]; rfl
theorem measC_size (ss : List Sym) (r : List Int) : (measC ss r).size = 96 := by unfold measC; split <;> exact shapeF_size _ _
theorem measC_one (ss : List Sym) (r : List Int) : (measC ss r).all (·.oneCell') = true := by unfold measC; split <;> exact shapeF_one _ _
theorem measC_at {ss : List Sym} {r : List Int} (h : rowB ss r = true) {j : Nat} (hj : j < r.length) : (measC ss r)[j]? = some (.int .i64 (endAt ss r j)) ∧ (measC ss r)[48 + j]? = some (.int .i64 (depAt ss r j)) := by
  rw [measC_yes h]
  exact ⟨shapeC_end (by omega) hj (row_parts h).2.1, shapeC_deep (by omega) hj (row_parts h).2.1⟩
/-- The shape is put into a variable of its own. -/
theorem run_storeM (ss : List Sym) (r : List Int) (w : World) :
    (storeCells ⟨w.heap.size, 0, none⟩ (measC ss r).toList).run Try.prog (w.alloc (.cells zeroC 60)) = .ok () (w.alloc (.cells (measC ss r) 60)) := by
  rw [run_storeC (P := Try.prog) _ w.heap.size 60 zeroC (measC ss r) (heap_alloc_new _ _) (by rw [measC_size]; exact shapeF_size _ _) (measC_one _ _), World.setRow_alloc_new]
/-- The places at which a row's terms begin, one behind the other. -/
structure At (ss : List Sym) (r : List Int) (p t : Nat) : Prop where
  le : p ≤ (tlD ss r).length
  eq : t = sumL ((tlD ss r).take p)
theorem At.zero (ss : List Sym) (r : List Int) : At ss r 0 0 := ⟨Nat.zero_le _, by simp [sumL]⟩
theorem At.bd {ss : List Sym} {r : List Int} {p t : Nat} (h : At ss r p t) (hr : rowB ss r = true) : t ≤ r.length ∧ p ≤ r.length ∧ (t = r.length ↔ p = (tlD ss r).length) := by
  obtain ⟨_, _, h3⟩ := row_parts hr
  have := tl_at (r := r) 0 p (by simpa using h3) (Nat.zero_le _) h.le
  simp only [Nat.zero_add] at this
  rw [← h.eq] at this
  have l := tl_len _ h3
  have hle := h.le
  exact ⟨this.1, by omega, this.2.1⟩
theorem At.step {ss : List Sym} {r : List Int} {p t : Nat} (h : At ss r p t) (hr : rowB ss r = true) (ht : t < r.length) : At ss r (p + 1) (endAt ss r t) ∧ t < endAt ss r t ∧ maxD ((tlD ss r).take (p + 1)) = max (maxD ((tlD ss r).take p)) (depAt ss r t) := by
  obtain ⟨_, _, h3⟩ := row_parts hr
  obtain ⟨b1, b2, b3⟩ := h.bd hr
  have hp : p < (tlD ss r).length := by
    rcases Nat.lt_or_ge p (tlD ss r).length with h' | h'
    · exact h'
    · have := b3.2 (by have := h.le; omega); omega
  have := (tl_at (r := r) 0 p (by simpa using h3) (Nat.zero_le _) h.le).2.2 hp
  simp only [Nat.zero_add] at this
  rw [← h.eq] at this
  refine ⟨⟨hp, this.2.1⟩, ?_, this.2.2⟩
  unfold endAt; omega

set_option maxHeartbeats 1000000 in
theorem row_any (A A' : Option Addr) (n c m c' : Nat) (ss : List Sym) (r : List Int) (w : World) (h : SymsAt w w.heap.size A n ss) (hn : n ≤ maxLen) (hnc : n ≤ c) (hr : IntsAt w w.heap.size A' m r) (hm : m ≤ maxLen) :
    Calls Try.prog 16 #[.slice A n c, .slice A' m c'] w fun e w' => e = .returned (.tuple #[.int .i64 (rowK ss r), .int .i64 (rowE ss r)]) ∧ Below w.heap.size w w' := by
  obtain ⟨hz, hzs⟩ := zero_of_info shape_info
  have HL := Lib.hid hr.len
  have hm' := hm
  unfold maxLen at hm
  cases hb : rowB ss r
  · have H1 : Hid (rowK ss r = 0) := by show rowK ss r = 0; unfold rowK; rw [hb]; rfl
    have H2 : Hid (rowE ss r = 200) := by show rowE ss r = 200; unfold rowE; rw [hb]; rfl
    go_enter Try.func16, Try.ntmps16
    go_wp2_with fail
    refine (measure_any A A' n c m c' ss r _ h hn hnc hr hm').mono ?_
    rintro e w1 ⟨rfl, hb1⟩
    rw [hb]
    have hsc := run_storeM ss r w1
    have hsz := measC_size ss r
    go_wp2
    go_ret2
    exact ⟨ret_two H1.out.symm H2.out.symm, hb1.trans ((below_new w1 _).mono hb1.size)⟩
  · have H1 : Hid (rowK ss r = ((tlD ss r).length : Int)) := by show rowK ss r = _; unfold rowK; rw [hb]; rfl
    have H2 : Hid (rowE ss r = 0) := by show rowE ss r = 0; unfold rowE; rw [hb]; rfl
    have HB := Lib.hid hb
    have h48 : m ≤ 48 := by have := (row_parts hb).2.1; rw [HL.out] at this; exact this
    go_enter Try.func16, Try.ntmps16
    go_wp2_with fail
    refine (measure_any A A' n c m c' ss r _ h hn hnc hr hm').mono ?_
    rintro e w1 ⟨rfl, hb1⟩
    rw [hb]
    clear hb
    have hsc := run_storeM ss r w1
    have hsz := measC_size ss r
    go_wp2_with fail
    clear hsc hsz
    go_loop [8, 9] (fun q i => ∃ p t : Nat, q = .int .i64 p ∧ i = .int .i64 t ∧ At ss r p t) (fun _ i => m - (intOf i).toNat)
    case atStart => exact ⟨0, 0, rfl, rfl, At.zero ss r⟩
    case round =>
      obtain ⟨p, t, rfl, rfl, hat⟩ := hrel
      have HAT := Lib.hid hat
      obtain ⟨b1, b2, b3⟩ := hat.bd HB.out
      have B3 := Lib.hid b3
      rw [HL.out] at b1 b2
      clear hat b3
      by_cases hlt : t < m
      · obtain ⟨hc, _⟩ := measC_at HB.out (j := t) (by rw [HL.out]; exact hlt)
        obtain ⟨s1, s2, _⟩ := HAT.out.step HB.out (by rw [HL.out]; exact hlt)
        have S1 := Lib.hid s1
        clear s1
        go_wp2
        go_round
        case rel => exact ⟨p + 1, endAt ss r t, by go_num, rfl, S1.out⟩
        case measure => simp [intOf]; omega
      · have hp : p = (tlD ss r).length := B3.out.1 (by rw [HL.out]; omega)
        have HP := Lib.hid hp
        clear hp
        go_wp2
        go_ret2
        exact ⟨ret_two (by rw [H1.out, HP.out]) H2.out.symm, hb1.trans ((below_new w1 _).mono hb1.size)⟩

end Go.Proofs.Ytmdajmdjmdbonaa

namespace Go.Proofs.Ytmdajmdjmdbonaa
open Go.RowKit
set_option linter.unusedSimpArgs false
set_option linter.unusedVariables false

theorem int_info : (Try.prog.info? 3).map (fun i => (i.zero, i.size, i.bytes)) = some (some (.int .i64 0), 1, 8) := by kernel_rfl
/-- The value is a row of these integers, in a block from base on (or nil). -/
def OwnI (w : World) (base : Nat) (v : Value) (xs : List Int) : Prop := w.ownsRow base 3 1 v xs.length (intCells xs)
/-- A call that hands back such a row, and a number. -/
def IntsPost (xs : List Int) (E : Int) (w : World) (e : Ending) (w' : World) : Prop :=
  ∃ v, e = .returned (.tuple #[v, .int .i64 E]) ∧ OwnI w' w.heap.size v xs ∧ Below w.heap.size w w'
/-- A call that hands back such a row. -/
def IntsRet (xs : List Int) (w : World) (e : Ending) (w' : World) : Prop :=
  ∃ v, e = .returned v ∧ OwnI w' w.heap.size v xs ∧ Below w.heap.size w w'
theorem ret_vi {v : Value} {a b : Int} (h : a = b) : Ending.returned (.tuple #[v, .int .i64 a]) = .returned (.tuple #[v, .int .i64 b]) := by rw [h]
section
variable {w w' : World} {base base' : Nat} {v : Value} {xs ys : List Int}
theorem OwnI.nil_ : OwnI w base (.slice none 0 0) [] := ⟨rfl, .inl ⟨rfl, rfl⟩⟩
theorem OwnI.lower (h : OwnI w base v xs) (hb : base' ≤ base) : OwnI w base' v xs := own_base h hb
theorem OwnI.cast (h : OwnI w base v xs) (e : xs = ys) : OwnI w base v ys := e ▸ h
theorem OwnI.alloc (h : OwnI w base v xs) (o : Obj) : OwnI (w.alloc o) base v xs := World.ownsRow.alloc h o
theorem OwnI.below (h : OwnI w base v xs) (hb : Below w.heap.size w w') : OwnI w' base v xs := by
  obtain ⟨h1, h2⟩ := h
  refine ⟨h1, ?_⟩
  rcases h2 with h2 | ⟨g, cap, cur, hv, hg, hc, r⟩
  · exact .inl h2
  · have hlt : g < w.heap.size := (Array.getElem?_eq_some_iff.1 hc).1
    exact .inr ⟨g, cap, cur, hv, hg, by rw [hb.block g hlt]; exact hc, r⟩
theorem OwnI.on (h : OwnI w base v xs) (hb : Below w.heap.size w w') : OwnI w' base v xs := h.below hb
theorem OwnI.intsAt (h : OwnI w base v xs) : ∃ A cap, v = .slice A xs.length cap ∧ xs.length ≤ cap ∧ IntsAt w w.heap.size A xs.length xs := IntsAt.of_own (cap := 0) h
theorem OwnI.shape (h : OwnI w base v xs) : (v = .slice none 0 0 ∧ xs = []) ∨ ∃ g cap, v = .slice (some ⟨g, 0, none⟩) xs.length cap ∧ base ≤ g ∧ g < w.heap.size ∧ xs.length ≤ cap := by
  rcases h.2 with ⟨h1, h2⟩ | ⟨g, cap, cur, hv, hg, hc, hn, _⟩
  · exact .inl ⟨h1, List.length_eq_zero_iff.1 h2⟩
  · exact .inr ⟨g, cap, hv, hg, (Array.getElem?_eq_some_iff.1 hc).1, hn⟩
theorem grown_below (h : w.grownBy w' v.ownBlock) (ho : OwnI w base v xs) (hb : base ≤ w.heap.size) : Below base w w' :=
  (Below.refl base w).grown h hb (fun k hk => by
    rcases ho.shape with ⟨rfl, _⟩ | ⟨g, cap, rfl, hg, _⟩
    · simp [Value.ownBlock] at hk
    · simp [Value.ownBlock] at hk; omega)
theorem below_un_new {B : Nat} {o : Obj} (h : Below B (w.alloc o) w') (hB : B ≤ w.heap.size) : Below B w w' := ((below_new w o).mono hB).trans h

/-- 'x = append(x, y)' of integers, x made by the call. -/
theorem app_int1 {ops : Array Oper} {rest : List Oper} {o : Oper} {a : Act} {Q : Exit → Act → World → Prop} (hgd : o.guard = none) (s x : Operand)
    (ho : o.op = .call { callee := .builtin .append, args := #[s, x], argTypes := #[23, 23] })
    (base : Nat) (v : Value) (xs : List Int) (y : Int) (hs : a.eval s = v) (hown : OwnI w base v xs) (hx : a.eval x = .slice (some ⟨w.heap.size, 0, none⟩) 1 1)
    (hlen : xs.length + 1 ≤ 17592186044416) (hbase : base ≤ w.heap.size)
    (h : ∀ v' w', OwnI w' base v' (xs ++ [y]) → Below base w w' → wpList Try.prog ops Q rest (a.put o.dst v') w') : wpList Try.prog ops Q (o :: rest) a (w.alloc (.cells #[.int .i64 y] 3)) := by
  obtain ⟨i0, hi0, hz0, hz1, hz2⟩ := info_parts int_info
  have hown' := hown.alloc (.cells #[.int .i64 y] 3)
  refine wpList_append_own _ hgd s x 23 ho base 3 i0 _ 1 8 Try.underlying23 hi0 hz0 hz1 hz2 rfl (by omega) v xs.length (intCells xs) hs hown' ⟨w.heap.size, 0, none⟩ 1 1 (intCells [y]) hx rfl
    (World.news_of_block (cs := #[.int .i64 y]) (t := 3) (fr := (0, 0)) (heap_alloc_new w _)) (intCells_oneCell _) (by unfold maxLen; omega) (by omega) (by simp; omega) ?_
  intro v' w' h1 h2 _
  refine h v' w' ?_ (below_un_new (grown_below h2 hown' (by simp; omega)) hbase)
  unfold OwnI
  rw [intCells_append]
  simpa using h1
end
theorem intCells_news {w : World} {B n b off : Nat} {xs : List Int} (h : IntsAt w B (some ⟨b, off, none⟩) n xs) : ∀ j u, (intCells xs)[j]? = some u → w.cell? ((⟨b, off, none⟩ : Addr).add j) = some u := by
  intro j u hu
  have hj : j < xs.length := by
    rcases Nat.lt_or_ge j xs.length with h1 | h1
    · exact h1
    · rw [List.getElem?_eq_none (by rw [intCells_length]; omega)] at hu; cases hu
  have hl := h.len
  obtain ⟨b', off', e, _, hc⟩ := h.at_ (by omega)
  injection e with e
  injection e with e1 e2
  subst e1; subst e2
  rw [addr_plus, ← hu, intCells_get xs j hj]
  exact hc j (by omega)
set_option maxRecDepth 100000 in
/-- A row of integers behind another, x made by the call. -/
theorem app_ints_op {w : World} {o : Oper} {a : Act} {K : Act → World → Prop} {Q : Exit → Act → World → Prop} (s x : Operand)
    (ho : o.op = .call { callee := .builtin .append, args := #[s, x], argTypes := #[23, 23] })
    (base : Nat) (v : Value) (xs : List Int) (hs : a.eval s = v) (hown : OwnI w base v xs) (A : Option Addr) (n c B : Nat) (ys : List Int) (hx : a.eval x = .slice A n c) (hnil : A = none → n = 0 ∧ c = 0) (hat : IntsAt w B A n ys)
    (hlen : xs.length + n ≤ 17592186044416) (hbase : base ≤ w.heap.size)
    (h : ∀ v' w', OwnI w' base v' (xs ++ ys) → Below base w w' → K (a.put o.dst v') w') : o.wp Try.prog a w K Q := by
  obtain ⟨i0, hi0, hz0, hz1, hz2⟩ := info_parts int_info
  cases A with
  | none =>
    obtain ⟨rfl, rfl⟩ := hnil rfl
    have hy : ys = [] := List.length_eq_zero_iff.1 hat.len
    subst hy
    have hrun := run_append_owned_none (P := Try.prog) (w := w) base 23 o.type 3 i0 1 Try.underlying23 hi0 v xs.length (intCells xs) hown
    have hK := h v w (hown.cast (by simp)) (Below.refl _ _)
    unfold Oper.wp
    simp [execOp, ho, resolve, invoke, builtin, hs, hx, hrun, Result.andThen]
    exact hK
  | some ad =>
    have key : (∀ j u, (intCells ys)[j]? = some u → w.cell? (ad.add j) = some u) := by
      intro j u hu
      have hl := hat.len
      have hj : j < ys.length := by
        rcases Nat.lt_or_ge j ys.length with h1 | h1
        · exact h1
        · rw [List.getElem?_eq_none (by rw [intCells_length]; omega)] at hu; cases hu
      obtain ⟨b', off', e, _, hc⟩ := hat.at_ (by omega)
      injection e with e
      subst e
      exact intCells_news hat j u hu
    refine wp_append_own _ s x 23 ho base 3 i0 _ 1 8 Try.underlying23 hi0 hz0 hz1 hz2 rfl (by omega) v xs.length (intCells xs) hs hown ad n c (intCells ys) hx (by rw [intCells_length, hat.len, Nat.mul_one])
      key (intCells_oneCell _) (by unfold maxLen; omega) (by omega) hbase ?_
    intro v' w' h1 h2 _
    refine h v' w' ?_ (grown_below h2 hown hbase)
    unfold OwnI
    rw [intCells_append, List.length_append, hat.len]
    exact h1
theorem app_ints {w : World} {ops : Array Oper} {rest : List Oper} {o : Oper} {a : Act} {Q : Exit → Act → World → Prop} (hgd : o.guard = none) (s x : Operand)
    (ho : o.op = .call { callee := .builtin .append, args := #[s, x], argTypes := #[23, 23] })
    (base : Nat) (v : Value) (xs : List Int) (hs : a.eval s = v) (hown : OwnI w base v xs) (A : Option Addr) (n c B : Nat) (ys : List Int) (hx : a.eval x = .slice A n c) (hnil : A = none → n = 0 ∧ c = 0) (hat : IntsAt w B A n ys)
    (hlen : xs.length + n ≤ 17592186044416) (hbase : base ≤ w.heap.size)
    (h : ∀ v' w', OwnI w' base v' (xs ++ ys) → Below base w w' → wpList Try.prog ops Q rest (a.put o.dst v') w') : wpList Try.prog ops Q (o :: rest) a w :=
  wpList_plain hgd fun _ hK => app_ints_op s x ho base v xs hs hown A n c B ys hx hnil hat hlen hbase fun v' w' h1 h2 => hK _ _ (h v' w' h1 h2)
/-- The same where the operation is guarded, and the guard says yes. -/
theorem app_ints_want {w : World} {ops : Array Oper} {rest : List Oper} {o : Oper} {a : Act} {Q : Exit → Act → World → Prop} (hw : Region.wanted o (yielded ops a.tmps) = true) (s x : Operand)
    (ho : o.op = .call { callee := .builtin .append, args := #[s, x], argTypes := #[23, 23] })
    (base : Nat) (v : Value) (xs : List Int) (hs : a.eval s = v) (hown : OwnI w base v xs) (A : Option Addr) (n c B : Nat) (ys : List Int) (hx : a.eval x = .slice A n c) (hnil : A = none → n = 0 ∧ c = 0) (hat : IntsAt w B A n ys)
    (hlen : xs.length + n ≤ 17592186044416) (hbase : base ≤ w.heap.size)
    (h : ∀ v' w', OwnI w' base v' (xs ++ ys) → Below base w w' → wpList Try.prog ops Q rest (a.put o.dst v') w') : wpList Try.prog ops Q (o :: rest) a w :=
  wpList_step fun K hK => by
    rw [if_pos hw]
    exact app_ints_op s x ho base v xs hs hown A n c B ys hx hnil hat hlen hbase fun v' w' h1 h2 => hK _ _ (h v' w' h1 h2)

end Go.Proofs.Ytmdajmdjmdbonaa

namespace Go.Proofs.Ytmdajmdjmdbonaa
open Go.RowKit
set_option linter.unusedSimpArgs false
set_option linter.unusedVariables false

theorem num_any (n : Int) (w : World) : Calls Try.prog 7 #[.int .i64 n] w fun e w' => e = .returned (.int .i64 n) ∧ w = w' := by
  go_enter Try.func7, Try.ntmps7
  go_wp2
  go_ret
  exact ⟨rfl, rfl⟩

def sameI (xs ys : List Int) : Bool := decide (xs = ys)
theorem sameI_self (xs : List Int) : sameI xs xs = true := by simp [sameI]
theorem list_int_ext {xs ys : List Int} (hl : xs.length = ys.length) (h : ∀ i, i < xs.length → intAt xs i = intAt ys i) : xs = ys := by
  apply List.ext_getElem?
  intro i
  by_cases hi : i < xs.length
  · rw [intAt_get hi, intAt_get (by omega), h i hi]
  · rw [List.getElem?_eq_none (by omega), List.getElem?_eq_none (by omega)]
theorem sameI_len {xs ys : List Int} (h : xs.length ≠ ys.length) : sameI xs ys = false := by unfold sameI; exact decide_eq_false (fun e => h (by rw [e]))
theorem sameI_not {xs ys : List Int} {i : Nat} (h : intAt xs i ≠ intAt ys i) : sameI xs ys = false := by unfold sameI; exact decide_eq_false (fun e => h (by rw [e]))
theorem below_drewN {B : Nat} (w : World) (k : Nat) : Below B w (w.drewN k) := ⟨rfl, rfl, rfl, Nat.le_refl _, fun _ _ => rfl⟩
theorem ret_b {a b : Bool} (h : a = b) : Ending.returned (.bool a) = .returned (.bool b) := by rw [h]

set_option maxHeartbeats 1000000 in
theorem sameInts_any (A B : Option Addr) (n c m d B1 B2 : Nat) (xs ys : List Int) (w : World) (hA : IntsAt w B1 A n xs) (hB : IntsAt w B2 B m ys) (hn : n ≤ maxLen) (hm : m ≤ maxLen) :
    Calls Try.prog 15 #[.slice A n c, .slice B m d] w fun e w' => e = .returned (.bool (sameI xs ys)) ∧ Below w.heap.size w w' := by
  unfold maxLen at hn hm
  have HX := Lib.hid hA.len
  have HY := Lib.hid hB.len
  by_cases hnm : n = m
  · subst hnm
    go_enter Try.func15, Try.ntmps15
    go_wp2
    go_loopw [5] (fun i wr => ∃ k q : Nat, k ≤ n ∧ i = .int .i64 k ∧ wr = w.drewN q ∧ ∀ i, i < k → intAt xs i = intAt ys i) (fun i _ => n - (intOf i).toNat)
    case atStart => exact ⟨0, 0, by omega, rfl, rfl, fun i hi => absurd hi (by omega)⟩
    case round =>
      obtain ⟨k, q, hk, rfl, rfl, hall⟩ := hrel
      have HALL := Lib.hid hall
      clear hall
      by_cases hlt : k < n
      · obtain ⟨b1, o1, rfl, _, h1⟩ := hA.at_ (by omega)
        obtain ⟨b2, o2, rfl, _, h2⟩ := hB.at_ (by omega)
        have c0 : w.cell? ⟨b1, o1 + k, none⟩ = some (.int .i64 (intAt xs k)) := h1 k hlt
        have d0 : w.cell? ⟨b2, o2 + k, none⟩ = some (.int .i64 (intAt ys k)) := h2 k hlt
        clear h1 h2
        have hi0 : (0 : Int) ≤ (k : Int) := by omega
        have hi2 : (k : Int) < (n : Int) := by omega
        by_cases he : intAt xs k = intAt ys k
        · have he' : (intAt xs k != intAt ys k) = false := by simp [he]
          have HE := Lib.hid he
          clear he
          go_wp2_with fail
          go_quiet (fail)
          go_wp2
          go_roundw
          case rel => exact ⟨k + 1, _, by omega, by go_num, rfl, fun i hi => if e : i = k then e ▸ HE.out else HALL.out i (by omega)⟩
          case measure => simp [intOf]; omega
        · have he' : (intAt xs k != intAt ys k) = true := by simp [he]
          have H := Lib.hid (sameI_not he)
          clear he
          go_wp2_with fail
          go_quiet (fail)
          go_wp2
          go_ret
          exact ⟨ret_b H.out.symm, (below_drewN w _).trans (below_drewN _ _)⟩
      · obtain rfl : k = n := by omega
        have H : Hid (sameI xs ys = true) := by
          show sameI xs ys = true
          unfold sameI
          exact decide_eq_true (list_int_ext (by rw [HX.out, HY.out]) (by rw [HX.out]; exact HALL.out))
        go_wp2
        go_ret
        exact ⟨ret_b H.out.symm, below_drewN w _⟩
  · have H := Lib.hid (sameI_len (xs := xs) (ys := ys) (by rw [HX.out, HY.out]; exact hnm))
    go_enter Try.func15, Try.ntmps15
    go_wp2
    go_ret
    exact ⟨ret_b H.out.symm, Below.refl _ _⟩

theorem OwnI.empty (w : World) : OwnI (w.alloc (.cells #[] 3)) w.heap.size (.slice (some ⟨w.heap.size, 0, none⟩) 0 0) [] :=
  World.ownsRow_lit w #[] 0 (Nat.le_refl _) (by unfold maxLen; omega) rfl
theorem OwnI.lit (w : World) (xs : List Int) (h : xs.length ≤ maxLen) : OwnI (w.alloc (.cells (intCells xs).toArray 3)) w.heap.size (.slice (some ⟨w.heap.size, 0, none⟩) xs.length xs.length) xs := by
  have := World.ownsRow_lit (base := w.heap.size) (e := 3) (size := 1) w (intCells xs).toArray xs.length (Nat.le_refl _) h (by simp [intCells_length])
  simpa [OwnI] using this
theorem IntsAt.lit (w : World) (xs : List Int) : IntsAt (w.alloc (.cells (intCells xs).toArray 3)) (w.heap.size + 1) (some ⟨w.heap.size, 0, none⟩) xs.length xs :=
  ⟨rfl, fun hn => ⟨w.heap.size, 0, rfl, by omega, fun i hi => by
    rw [World.cell?_alloc_new, Nat.zero_add, List.getElem?_toArray, intCells_get xs i hi]⟩⟩

theorem IntsAt.news (w : World) (xs : List Int) : IntsAt (w.alloc (.cells (intCells xs).toArray 3)) (w.alloc (.cells (intCells xs).toArray 3)).heap.size (some ⟨w.heap.size, 0, none⟩) xs.length xs :=
  (IntsAt.lit w xs).more (by simp)

/-- A row in a place with marked room behind it. -/
def Lent (w : World) (base : Nat) (v : Value) (xs : List Int) : Prop :=
  ∃ g cap : Nat, v = .slice (some ⟨g, 0, none⟩) xs.length cap ∧ xs.length + 2 ≤ cap ∧ OwnI w base (.slice (some ⟨g, 0, none⟩) (xs.length + 2) cap) (xs ++ [-7777, -8888])
theorem Lent.below {w w' : World} {base : Nat} {v : Value} {xs : List Int} (h : Lent w base v xs) (hb : Below w.heap.size w w') : Lent w' base v xs := by
  obtain ⟨g, cap, h1, h2, h3⟩ := h
  exact ⟨g, cap, h1, h2, h3.below hb⟩
theorem Lent.on {w w' : World} {base : Nat} {v : Value} {xs : List Int} (h : Lent w base v xs) (hb : Below w.heap.size w w') : Lent w' base v xs := h.below hb
theorem Lent.ints {w : World} {base : Nat} {v : Value} {xs : List Int} (h : Lent w base v xs) : ∃ A cap, v = .slice A xs.length cap ∧ xs.length ≤ cap ∧ IntsAt w w.heap.size A xs.length xs := by
  obtain ⟨g, cap, rfl, h2, h3⟩ := h
  obtain ⟨A, cap', e, _, hi⟩ := h3.intsAt
  injection e with e1 e2 e3
  subst e1
  have := hi.take (i := xs.length) (by simp)
  rw [List.take_append_of_le_length (Nat.le_refl _), List.take_length] at this
  exact ⟨_, _, rfl, by omega, this⟩
def LentRet (xs : List Int) (w : World) (e : Ending) (w' : World) : Prop :=
  ∃ v, e = .returned v ∧ Lent w' w.heap.size v xs ∧ Below w.heap.size w w'

set_option maxHeartbeats 1000000 in
theorem clone_any (A : Option Addr) (n c : Nat) (xs : List Int) (w : World) (h : IntsAt w w.heap.size A n xs) (hnil : A = none → n = 0 ∧ c = 0) (hn : n ≤ 1000000) :
    Calls Try.prog 19 #[.slice A n c] w (IntsRet xs w) := by
  cases A with
  | none =>
    obtain ⟨rfl, rfl⟩ := hnil rfl
    have hss : xs = [] := List.eq_nil_of_length_eq_zero h.len
    subst hss
    have hq := Lib.run_eql_slice_nil (P := Try.prog) w 23 3 none 0 0 0 0 Try.underlying23
    go_enter Try.func19, Try.ntmps19
    go_wp2
    go_ret
    exact ⟨_, rfl, OwnI.nil_, Below.refl _ _⟩
  | some ad =>
    have HI := Lib.hid h
    have hq := Lib.run_eql_slice_nil (P := Try.prog) w 23 3 (some ad) n c 0 0 Try.underlying23
    clear h hnil
    go_enter Try.func19, Try.ntmps19
    go_wp2_with (at_builtin
                 refine app_ints rfl (.tmp 5) (.tmp 6) rfl w.heap.size _ [] rfl (OwnI.empty w) (some ad) n c w.heap.size xs rfl (fun h => by cases h) (HI.out.below (below_new w _)) (by simp; omega) (by simp) ?_
                 intro v2 w2 hown2 hb2
                 have HOWN2 := Lib.hid hown2
                 have HB2 := Lib.hid hb2
                 clear hown2 hb2)
    go_ret
    exact ⟨_, rfl, HOWN2.out, (below_new w _).trans HB2.out⟩
end Go.Proofs.Ytmdajmdjmdbonaa

namespace Go.Proofs.Ytmdajmdjmdbonaa
open Go.RowKit
set_option linter.unusedSimpArgs false
set_option linter.unusedVariables false

/-- How many terms a row has; -1. -/
def termsK (ss : List Sym) (r : List Int) : Int := if decide (r.length ≤ 48) && rowP ss r then ((tlD ss r).length : Int) else -1
theorem scan_start {ss : List Sym} {r : List Int} (hr : rowB ss r = true) {t : Nat} (ht : t < r.length) : scanAt ss r 1 t = (endAt ss r t : Int) := by
  obtain ⟨_, _, h3⟩ := row_parts hr
  obtain ⟨ns, hns⟩ := tl_drop_some h3 t
  unfold scanAt endAt hd
  rw [scan_tl _ hns 1, hns]
  cases ns with
  | nil => have := (tl_nil_iff hns).1 rfl; simp at this; omega
  | cons m ns => simp [sumL]

end Go.Proofs.Ytmdajmdjmdbonaa
