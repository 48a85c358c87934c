/-
  Plain words: literals, which of two is more, tops: no program.
-/
import Derived.Test.YtcjpopjcpgipjaaDoorPlainOrder
namespace Go.Proofs.YtcjpopjcpgipjaaDoor
open Go.RowKit
set_option linter.unusedSimpArgs false
set_option linter.unusedVariables false
set_option maxRecDepth 100000

/-- A literal. -/
structure Lt where
  neg : Bool
  atom : List Int
def ltAt (ls : List Lt) (i : Nat) : Lt := ls.getD i ⟨false, []⟩
theorem ltAt_get {ls : List Lt} {i : Nat} (h : i < ls.length) : ls[i]? = some (ltAt ls i) := by
  unfold ltAt; rw [List.getD_eq_getElem?_getD, List.getElem?_eq_getElem h]; rfl
theorem ltAt_mem {ls : List Lt} {i : Nat} (h : i < ls.length) : ltAt ls i ∈ ls := List.mem_of_getElem? (ltAt_get h)
/-- p is more than q. -/
def LMor (ss : List Sym) (p q : Lt) : Prop := Mor ss p.atom q.atom ∨ (p.atom = q.atom ∧ p.neg = true ∧ q.neg = false)
/-- A valid literal, of a valid signature. -/
def litB (ss : List Sym) (p : Lt) : Bool := atomB ss p.atom
section
variable {ss : List Sym} {p q r : Lt}
theorem LMor.trans (h : LMor ss p q) (k : LMor ss q r) : LMor ss p r := by
  rcases h with h | ⟨h1, h2, h3⟩
  · rcases k with k | ⟨k1, _, _⟩
    · exact .inl (h.trans k)
    · exact .inl (by rw [← k1]; exact h)
  · rcases k with k | ⟨k1, k2, k3⟩
    · exact .inl (by rw [h1]; exact k)
    · rw [h3] at k2; cases k2
theorem LMor.irrefl : ¬ LMor ss p p := by
  rintro (h | ⟨_, h1, h2⟩)
  · exact Mor.irrefl h
  · rw [h1] at h2; cases h2
theorem LMor.asymm (h : LMor ss p q) (k : LMor ss q p) : False := LMor.irrefl (h.trans k)
theorem Lt.ext_ (h1 : p.neg = q.neg) (h2 : p.atom = q.atom) : p = q := by
  cases p; cases q; simp only at h1 h2; rw [h1, h2]
theorem LMor.ne (h : LMor ss p q) : p ≠ q := fun e => by rw [e] at h; exact LMor.irrefl h
/-- What Compare of literals answers: 0 less, 1 the same, 2 more, 3 none of these. -/
def LitR (ss : List Sym) (p q : Lt) (E k : Int) : Prop :=
  ((litB ss p && litB ss q) = false ∧ E = 700 ∧ k = 0) ∨
  ((litB ss p && litB ss q) = true ∧ E = 0 ∧ ((p = q ∧ k = 1) ∨ (LMor ss p q ∧ k = 2) ∨ (LMor ss q p ∧ k = 0) ∨ (p.atom ≠ q.atom ∧ ¬ LMor ss p q ∧ ¬ LMor ss q p ∧ k = 3)))
variable {E E' k m : Int}
theorem LitR.unique (h : LitR ss p q E k) (h' : LitR ss p q E' m) : E = E' ∧ k = m := by
  rcases h with ⟨h0, rfl, rfl⟩ | ⟨h0, rfl, h⟩
  · rcases h' with ⟨_, rfl, rfl⟩ | ⟨k0, _⟩
    · exact ⟨rfl, rfl⟩
    · rw [h0] at k0; cases k0
  · rcases h' with ⟨k0, _⟩ | ⟨_, rfl, h'⟩
    · rw [h0] at k0; cases k0
    · refine ⟨rfl, ?_⟩
      rcases h with ⟨h, rfl⟩ | ⟨h, rfl⟩ | ⟨h, rfl⟩ | ⟨h1, h2, h3, rfl⟩
      · rcases h' with ⟨_, rfl⟩ | ⟨q, rfl⟩ | ⟨q, rfl⟩ | ⟨q1, _⟩
        · rfl
        · exact absurd h q.ne
        · exact absurd h.symm q.ne
        · exact absurd (congrArg Lt.atom h) q1
      · rcases h' with ⟨q, rfl⟩ | ⟨_, rfl⟩ | ⟨q, rfl⟩ | ⟨_, q2, _⟩
        · exact absurd q h.ne
        · rfl
        · exact (h.asymm q).elim
        · exact absurd h q2
      · rcases h' with ⟨q, rfl⟩ | ⟨q, rfl⟩ | ⟨_, rfl⟩ | ⟨_, _, q3, _⟩
        · exact absurd q.symm h.ne
        · exact (h.asymm q).elim
        · rfl
        · exact absurd h q3
      · rcases h' with ⟨q, rfl⟩ | ⟨q, rfl⟩ | ⟨q, rfl⟩ | ⟨_, _, _, rfl⟩
        · exact absurd (congrArg Lt.atom q) h1
        · exact absurd q h2
        · exact absurd q h3
        · rfl
/-- The atoms' answer, and what it makes of the literals'. -/
def litK (p q : Lt) (k : Int) : Int := if k = 1 ∧ p.neg ≠ q.neg then (if p.neg = true then 2 else 0) else k
theorem exB_atoms (hp : litB ss p = true) (hq : litB ss q = true) : exB ss p.atom q.atom = true := by
  unfold exB; unfold litB at hp hq; rw [hp, hq]; simp
theorem LitR.of_cmp (hp : litB ss p = true) (hq : litB ss q = true) (h : CmpR ss p.atom q.atom 0 k) : LitR ss p q 0 (litK p q k) := by
  have hb : (litB ss p && litB ss q) = true := by rw [hp, hq]; rfl
  refine .inr ⟨hb, rfl, ?_⟩
  rcases h with ⟨_, h, _⟩ | ⟨_, _, ⟨h, rfl⟩ | ⟨h, rfl⟩ | ⟨h, rfl⟩ | ⟨h1, h2, h3, rfl⟩⟩
  · cases h
  · by_cases e : p.neg = q.neg
    · exact .inl ⟨Lt.ext_ e h, by unfold litK; rw [if_neg (fun x => x.2 e)]⟩
    · have hk : litK p q 1 = if p.neg = true then 2 else 0 := by unfold litK; rw [if_pos ⟨rfl, e⟩]
      cases hp : p.neg
      · have hq : q.neg = true := by cases hq : q.neg; exact absurd (hp.trans hq.symm) e; rfl
        refine .inr (.inr (.inl ⟨.inr ⟨h.symm, hq, hp⟩, ?_⟩))
        rw [hk, hp]; rfl
      · have hq : q.neg = false := by cases hq : q.neg; rfl; exact absurd (hp.trans hq.symm) e
        refine .inr (.inl ⟨.inr ⟨h, hp, hq⟩, ?_⟩)
        rw [hk, hp]; rfl
  · exact .inr (.inl ⟨.inl h, by unfold litK; rw [if_neg (fun x => by omega)]⟩)
  · exact .inr (.inr (.inl ⟨.inl h, by unfold litK; rw [if_neg (fun x => by omega)]⟩))
  · refine .inr (.inr (.inr ⟨h1, ?_, ?_, by unfold litK; rw [if_neg (fun x => by omega)]⟩))
    · rintro (q | ⟨q, _⟩)
      · exact h2 q
      · exact h1 q
    · rintro (q | ⟨q, _⟩)
      · exact h3 q
      · exact h1 q.symm
theorem LitR.zero (h : LitR ss p q 0 k) : litB ss p = true ∧ litB ss q = true ∧ (k = 0 ∨ k = 1 ∨ k = 2 ∨ k = 3) ∧ (k = 1 ↔ p = q) ∧ (k = 2 ↔ LMor ss p q) ∧ (k = 0 ↔ LMor ss q p) := by
  rcases h with ⟨_, h, _⟩ | ⟨h0, _, h⟩
  · cases h
  · simp only [Bool.and_eq_true] at h0
    refine ⟨h0.1, h0.2, ?_⟩
    rcases h with ⟨h, rfl⟩ | ⟨h, rfl⟩ | ⟨h, rfl⟩ | ⟨h1, h2, h3, rfl⟩
    · subst h
      exact ⟨by omega, by simp, ⟨fun h => by omega, fun h => (LMor.irrefl h).elim⟩, ⟨fun h => by omega, fun h => (LMor.irrefl h).elim⟩⟩
    · exact ⟨by omega, ⟨fun h => by omega, fun q => absurd q h.ne⟩, ⟨fun _ => h, fun _ => rfl⟩, ⟨fun h => by omega, fun q => (h.asymm q).elim⟩⟩
    · exact ⟨by omega, ⟨fun h => by omega, fun q => absurd q.symm h.ne⟩, ⟨fun h => by omega, fun q => (h.asymm q).elim⟩, ⟨fun _ => h, fun _ => rfl⟩⟩
    · exact ⟨by omega, ⟨fun h => by omega, fun q => absurd (congrArg Lt.atom q) h1⟩, ⟨fun h => by omega, fun q => absurd q h2⟩, ⟨fun h => by omega, fun q => absurd q h3⟩⟩
theorem LitR.cases (h : LitR ss p q E k) : (E = 700 ∧ k = 0 ∧ (litB ss p && litB ss q) = false) ∨ E = 0 := by
  rcases h with ⟨h0, h1, h2⟩ | ⟨_, h1, _⟩
  · exact .inl ⟨h1, h2, h0⟩
  · exact .inr h1
end
/-- Than which no other one is more. -/
noncomputable def topB (ss : List Sym) (ls : List Lt) (i : Nat) : Bool := @decide (∀ k, k < ls.length → ¬ LMor ss (ltAt ls k) (ltAt ls i)) (Classical.propDecidable _)
section
variable {ss : List Sym} {ls : List Lt} {i : Nat}
theorem topB_iff : topB ss ls i = true ↔ ∀ k, k < ls.length → ¬ LMor ss (ltAt ls k) (ltAt ls i) := by unfold topB; exact @decide_eq_true_iff _ (Classical.propDecidable _)
theorem topB_no {k : Nat} (hk : k < ls.length) (h : LMor ss (ltAt ls k) (ltAt ls i)) : topB ss ls i = false := by
  unfold topB; exact @decide_eq_false _ (Classical.propDecidable _) fun q => q k hk h
theorem topB_not (h : topB ss ls i = false) : ∃ k, k < ls.length ∧ LMor ss (ltAt ls k) (ltAt ls i) := by
  unfold topB at h
  have := @of_decide_eq_false _ (Classical.propDecidable _) h
  exact Classical.byContradiction fun q => this fun k hk hm => q ⟨k, hk, hm⟩
/-- The tops below k. -/
noncomputable def topsN (ss : List Sym) (ls : List Lt) (k : Nat) : List Int := ((List.range k).filter (topB ss ls)).map Int.ofNat
theorem topsN_succ (k : Nat) : topsN ss ls (k + 1) = if topB ss ls k then topsN ss ls k ++ [(k : Int)] else topsN ss ls k := by
  unfold topsN
  rw [List.range_succ, List.filter_append]
  cases h : topB ss ls k <;> simp [List.filter_cons, h]
theorem topsN_length (k : Nat) : (topsN ss ls k).length ≤ k := by
  unfold topsN; rw [List.length_map]; exact Nat.le_trans (List.length_filter_le _ _) (by simp)
/-- What Tops answers. -/
def topsOk (ss : List Sym) (ls : List Lt) : Bool := mayB ss && ls.all (litB ss)
noncomputable def topsR (ss : List Sym) (ls : List Lt) : List Int := if topsOk ss ls then topsN ss ls ls.length else []
def topsE (ss : List Sym) (ls : List Lt) : Int := if topsOk ss ls then 0 else 700
/-- Some literals: at least one is a top. -/
theorem top_there : ∀ (n : Nat) {R : Nat → Nat → Prop}, (∀ a b c, R a b → R b c → R a c) → (∀ a, ¬ R a a) → 0 < n → ∃ i, i < n ∧ ∀ k, k < n → ¬ R k i
  | 0, _, _, _, h => absurd h (by omega)
  | 1, R, _, hi, _ => by
    refine ⟨0, by omega, fun k hk => ?_⟩
    have e : k = 0 := by omega
    rw [e]
    exact hi 0
  | n + 2, R, ht, hi, _ => by
    obtain ⟨i, h1, h2⟩ := top_there (n + 1) ht hi (by omega)
    by_cases h : R (n + 1) i
    · refine ⟨n + 1, by omega, fun k hk hr => ?_⟩
      by_cases e : k = n + 1
      · rw [e] at hr; exact hi _ hr
      · exact h2 k (by omega) (ht _ _ _ hr h)
    · refine ⟨i, by omega, fun k hk hr => ?_⟩
      by_cases e : k = n + 1
      · rw [e] at hr; exact h hr
      · exact h2 k (by omega) hr
theorem tops_there (h : 0 < ls.length) : ∃ i, i < ls.length ∧ topB ss ls i = true := by
  obtain ⟨i, h1, h2⟩ := top_there ls.length (R := fun a b => LMor ss (ltAt ls a) (ltAt ls b)) (fun a b c h k => h.trans k) (fun a => LMor.irrefl) h
  exact ⟨i, h1, topB_iff.2 h2⟩
theorem topsN_none {k : Nat} (h : topsN ss ls k = []) : ∀ i, i < k → topB ss ls i = false := by
  intro i hi
  cases hc : topB ss ls i
  · rfl
  · unfold topsN at h
    have : i ∈ (List.range k).filter (topB ss ls) := List.mem_filter.2 ⟨List.mem_range.2 hi, hc⟩
    rw [List.map_eq_nil_iff] at h
    rw [h] at this
    cases this
end
end Go.Proofs.YtcjpopjcpgipjaaDoor
