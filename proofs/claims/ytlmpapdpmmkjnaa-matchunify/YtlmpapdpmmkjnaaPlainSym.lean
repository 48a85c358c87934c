/-
  Plain words, more: symbols, a name's code, valid signatures.
-/
import Derived.Test.YtlmpapdpmmkjnaaPlain
namespace Go.Proofs.Ytlmpapdpmmkjnaa
open Go.RowKit
set_option linter.unusedSimpArgs false
set_option linter.unusedVariables false

structure Sym where
  name : ByteArray
  kind : Int
  arity : Int
  weight : Int

def symB (s : Sym) : Bool := nameB s.name && kindB s.kind && withinB s.arity 0 3 && withinB s.weight 1 20
def eqB (s : Sym) : Bool := decide (s.name.toList = [61]) && decide (s.kind = 0) && decide (s.arity = 2) && decide (s.weight = 1)
/-- Two names are the same, as the program asks it. -/
def sameB (a b : ByteArray) : Bool := a.toList == b.toList
/-- The symbol with a code; an empty one behind the end. -/
def symAt (ss : List Sym) (i : Nat) : Sym := ss.getD i ⟨ByteArray.empty, 0, 0, 0⟩
/-- No symbol ahead of place k has this name. -/
def none_ (ss : List Sym) (n : ByteArray) (k : Nat) : Prop := ∀ j, j < k → sameB (symAt ss j).name n = false
instance (ss : List Sym) (n : ByteArray) (k : Nat) : Decidable (none_ ss n k) := inferInstanceAs (Decidable (∀ j, j < k → sameB (symAt ss j).name n = false))
/-- The code of a name; -1: none. -/
def codeFrom : List Sym → ByteArray → Nat → Int
  | [], _, _ => -1
  | s :: r, n, k => if sameB s.name n then (k : Int) else codeFrom r n (k + 1)
def code (ss : List Sym) (n : ByteArray) : Int := codeFrom ss n 0
def mayP (ss : List Sym) : Prop :=
  1 ≤ ss.length ∧ ss.length ≤ 20 ∧ eqB (symAt ss 0) = true ∧ ∀ i, i < ss.length → 1 ≤ i → symB (symAt ss i) = true ∧ none_ ss (symAt ss i).name i
instance (ss : List Sym) : Decidable (mayP ss) := by unfold mayP; infer_instance
def mayB (ss : List Sym) : Bool := decide (mayP ss)

theorem codeFrom_miss (ss : List Sym) (n : ByteArray) (k : Nat) (h : none_ ss n ss.length) : codeFrom ss n k = -1 := by
  induction ss generalizing k with
  | nil => rfl
  | cons s r ih =>
    have h0 : sameB s.name n = false := h 0 (by simp)
    unfold codeFrom
    rw [h0]
    exact ih (k + 1) (fun j hj => h (j + 1) (by simp; omega))
theorem codeFrom_hit (ss : List Sym) (n : ByteArray) (k i : Nat) (hi : i < ss.length) (h : none_ ss n i) (hs : sameB (symAt ss i).name n = true) : codeFrom ss n k = ((k + i : Nat) : Int) := by
  induction ss generalizing k i with
  | nil => simp at hi
  | cons s r ih =>
    unfold codeFrom
    cases i with
    | zero =>
      have hs' : sameB s.name n = true := hs
      rw [if_pos hs', Nat.add_zero]
    | succ i =>
      have h0 : sameB s.name n = false := h 0 (by omega)
      rw [h0]
      have := ih (k + 1) i (by simpa using hi) (fun j hj => h (j + 1) (by omega)) hs
      rw [if_neg (by simp), this]
      omega
theorem code_miss {ss : List Sym} {n : ByteArray} (h : none_ ss n ss.length) : code ss n = -1 := codeFrom_miss ss n 0 h
theorem code_hit {ss : List Sym} {n : ByteArray} {i : Nat} (hi : i < ss.length) (h : none_ ss n i) (hs : sameB (symAt ss i).name n = true) : code ss n = (i : Int) := by
  have := codeFrom_hit ss n 0 i hi h hs
  rw [Nat.zero_add] at this
  exact this
theorem none_step {ss : List Sym} {n : ByteArray} {k : Nat} (h : none_ ss n k) (hk : sameB (symAt ss k).name n = false) : none_ ss n (k + 1) := by
  intro j hj
  by_cases e : j = k
  · subst e; exact hk
  · exact h j (by omega)
/-- A name's code: there is none, or a first place. -/
theorem code_cases (ss : List Sym) (n : ByteArray) : (none_ ss n ss.length ∧ code ss n = -1) ∨ ∃ i, i < ss.length ∧ none_ ss n i ∧ sameB (symAt ss i).name n = true ∧ code ss n = (i : Int) := by
  have aux : ∀ k, k ≤ ss.length → none_ ss n k ∨ ∃ i, i < k ∧ none_ ss n i ∧ sameB (symAt ss i).name n = true := by
    intro k
    induction k with
    | zero => intro _; exact .inl fun j hj => absurd hj (by omega)
    | succ k ih =>
      intro hk
      rcases ih (by omega) with h | ⟨i, hi, h⟩
      · cases hs : sameB (symAt ss k).name n
        · exact .inl (none_step h hs)
        · exact .inr ⟨k, by omega, h, hs⟩
      · exact .inr ⟨i, by omega, h⟩
  rcases aux ss.length (Nat.le_refl _) with h | ⟨i, hi, h1, h2⟩
  · exact .inl ⟨h, code_miss h⟩
  · exact .inr ⟨i, hi, h1, h2, code_hit hi h1 h2⟩
theorem symAt_take {ss : List Sym} {i j : Nat} (h : j < i) : symAt (ss.take i) j = symAt ss j := by
  unfold symAt
  rw [List.getD_eq_getElem?_getD, List.getD_eq_getElem?_getD, List.getElem?_take, if_pos h]
theorem none_take {ss : List Sym} {n : ByteArray} {i : Nat} : none_ (ss.take i) n i ↔ none_ ss n i := by
  constructor
  · intro h j hj; rw [← symAt_take hj]; exact h j hj
  · intro h j hj; rw [symAt_take hj]; exact h j hj
theorem code_take {ss : List Sym} {n : ByteArray} {i : Nat} (hi : i ≤ ss.length) : decide (0 ≤ code (ss.take i) n) = !decide (none_ ss n i) := by
  have hl : (ss.take i).length = i := by simp; omega
  rcases code_cases (ss.take i) n with ⟨h, hc⟩ | ⟨j, hj, h, hs, hc⟩
  · rw [hl] at h
    rw [hc, decide_eq_true (none_take.1 h)]; rfl
  · rw [hc, decide_eq_false (p := none_ ss n i)]
    · simp
    · intro hn
      rw [hl] at hj
      have := hn j hj
      rw [symAt_take hj] at hs
      rw [hs] at this; cases this
theorem sameB_self (n : ByteArray) : sameB n n = true := by unfold sameB; simp
theorem code_self {ss : List Sym} {i : Nat} (hi : i < ss.length) : (code ss (symAt ss i).name == (i : Int)) = decide (none_ ss (symAt ss i).name i) := by
  by_cases h : none_ ss (symAt ss i).name i
  · rw [code_hit hi h (sameB_self _), decide_eq_true h]; simp
  · rw [decide_eq_false h]
    rcases code_cases ss (symAt ss i).name with ⟨h', hc⟩ | ⟨j, hj, h1, h2, hc⟩
    · exact absurd (fun k hk => h' k (by omega)) h
    · rw [hc]
      have : j ≠ i := by rintro rfl; exact h h1
      simp; omega

theorem mayB_false {ss : List Sym} (h : ¬ mayP ss) : mayB ss = false := decide_eq_false h
theorem mayB_true {ss : List Sym} (h : mayP ss) : mayB ss = true := decide_eq_true h
/-- The symbols from place 1 to k - 1 are valid and new. -/
def goodTo (ss : List Sym) (k : Nat) : Prop := ∀ i, i < k → 1 ≤ i → symB (symAt ss i) = true ∧ none_ ss (symAt ss i).name i
theorem goodTo_one (ss : List Sym) : goodTo ss 1 := fun i h1 h2 => absurd h1 (by omega)
theorem goodTo_step {ss : List Sym} {k : Nat} (h : goodTo ss k) (h1 : symB (symAt ss k) = true) (h2 : none_ ss (symAt ss k).name k) : goodTo ss (k + 1) := by
  intro j hj h0
  by_cases e : j = k
  · subst e; exact ⟨h1, h2⟩
  · exact h j (by omega) h0

end Go.Proofs.Ytlmpapdpmmkjnaa
