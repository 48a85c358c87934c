/-
  Plain words: literals, which of two is more, tops: no program.
  Plain words: the greatest of some literals, kept one by one: no program.
  Plain words: clauses, each Lit once, variables in the order in which they come first: no program.
  Plain words: the variables of a row.
  Plain words: valid clauses, their weights and variables; what becomes of them in the normal clause: no program.
-/
import Derived.Test.YtlpafnaokpjoiaaPlainOrder
import Derived.Test.YtlpafnaokpjoiaaTermMore
namespace Go.Proofs.Ytlpafnaokpjoiaa
open Go.RowKit
set_option linter.unusedSimpArgs false
set_option linter.unusedVariables false
set_option maxRecDepth 100000

/-- A literal. -/
structure Lt where
  neg : Bool
  atom : List Int
def ltAt (ls : List Lt) (i : Nat) : Lt := ls.getD i ⟨false, []⟩
theorem ltAt_get {ls : List Lt} {i : Nat} (h : i < ls.length) : ls[i]? = some (ltAt ls i) := by
  unfold ltAt; rw [List.getD_eq_getElem?_getD, List.getElem?_eq_getElem h]; rfl
theorem ltAt_mem {ls : List Lt} {i : Nat} (h : i < ls.length) : ltAt ls i ∈ ls := List.mem_of_getElem? (ltAt_get h)
/-- p is more than q. -/
def LMor (ss : List Sym) (p q : Lt) : Prop := Mor ss p.atom q.atom ∨ (p.atom = q.atom ∧ p.neg = true ∧ q.neg = false)
/-- A valid literal, of a valid signature. -/
def litB (ss : List Sym) (p : Lt) : Bool := atomB ss p.atom
section
variable {ss : List Sym} {p q r : Lt}
theorem LMor.trans (h : LMor ss p q) (k : LMor ss q r) : LMor ss p r := by
  rcases h with h | ⟨h1, h2, h3⟩
  · rcases k with k | ⟨k1, _, _⟩
    · exact .inl (h.trans k)
    · exact .inl (by rw [← k1]; exact h)
  · rcases k with k | ⟨k1, k2, k3⟩
    · exact .inl (by rw [h1]; exact k)
    · rw [h3] at k2; cases k2
theorem LMor.irrefl : ¬ LMor ss p p := by
  rintro (h | ⟨_, h1, h2⟩)
  · exact Mor.irrefl h
  · rw [h1] at h2; cases h2
theorem LMor.asymm (h : LMor ss p q) (k : LMor ss q p) : False := LMor.irrefl (h.trans k)
theorem Lt.ext_ (h1 : p.neg = q.neg) (h2 : p.atom = q.atom) : p = q := by
  cases p; cases q; simp only at h1 h2; rw [h1, h2]
theorem LMor.ne (h : LMor ss p q) : p ≠ q := fun e => by rw [e] at h; exact LMor.irrefl h
/-- What Compare of literals answers: 0 less, 1 the same, 2 more, 3 none of these. -/
def LitR (ss : List Sym) (p q : Lt) (E k : Int) : Prop :=
  ((litB ss p && litB ss q) = false ∧ E = 700 ∧ k = 0) ∨
  ((litB ss p && litB ss q) = true ∧ E = 0 ∧ ((p = q ∧ k = 1) ∨ (LMor ss p q ∧ k = 2) ∨ (LMor ss q p ∧ k = 0) ∨ (p.atom ≠ q.atom ∧ ¬ LMor ss p q ∧ ¬ LMor ss q p ∧ k = 3)))
variable {E E' k m : Int}
theorem LitR.unique (h : LitR ss p q E k) (h' : LitR ss p q E' m) : E = E' ∧ k = m := by
  rcases h with ⟨h0, rfl, rfl⟩ | ⟨h0, rfl, h⟩
  · rcases h' with ⟨_, rfl, rfl⟩ | ⟨k0, _⟩
    · exact ⟨rfl, rfl⟩
    · rw [h0] at k0; cases k0
  · rcases h' with ⟨k0, _⟩ | ⟨_, rfl, h'⟩
    · rw [h0] at k0; cases k0
    · refine ⟨rfl, ?_⟩
      rcases h with ⟨h, rfl⟩ | ⟨h, rfl⟩ | ⟨h, rfl⟩ | ⟨h1, h2, h3, rfl⟩
      · rcases h' with ⟨_, rfl⟩ | ⟨q, rfl⟩ | ⟨q, rfl⟩ | ⟨q1, _⟩
        · rfl
        · exact absurd h q.ne
        · exact absurd h.symm q.ne
        · exact absurd (congrArg Lt.atom h) q1
      · rcases h' with ⟨q, rfl⟩ | ⟨_, rfl⟩ | ⟨q, rfl⟩ | ⟨_, q2, _⟩
        · exact absurd q h.ne
        · rfl
        · exact (h.asymm q).elim
        · exact absurd h q2
      · rcases h' with ⟨q, rfl⟩ | ⟨q, rfl⟩ | ⟨_, rfl⟩ | ⟨_, _, q3, _⟩
        · exact absurd q.symm h.ne
        · exact (h.asymm q).elim
        · rfl
        · exact absurd h q3
      · rcases h' with ⟨q, rfl⟩ | ⟨q, rfl⟩ | ⟨q, rfl⟩ | ⟨_, _, _, rfl⟩
        · exact absurd (congrArg Lt.atom q) h1
        · exact absurd q h2
        · exact absurd q h3
        · rfl
/-- The atoms' answer, and what it makes of the literals'. -/
def litK (p q : Lt) (k : Int) : Int := if k = 1 ∧ p.neg ≠ q.neg then (if p.neg = true then 2 else 0) else k
theorem exB_atoms (hp : litB ss p = true) (hq : litB ss q = true) : exB ss p.atom q.atom = true := by
  unfold exB; unfold litB at hp hq; rw [hp, hq]; simp
theorem LitR.of_cmp (hp : litB ss p = true) (hq : litB ss q = true) (h : CmpR ss p.atom q.atom 0 k) : LitR ss p q 0 (litK p q k) := by
  have hb : (litB ss p && litB ss q) = true := by rw [hp, hq]; rfl
  refine .inr ⟨hb, rfl, ?_⟩
  rcases h with ⟨_, h, _⟩ | ⟨_, _, ⟨h, rfl⟩ | ⟨h, rfl⟩ | ⟨h, rfl⟩ | ⟨h1, h2, h3, rfl⟩⟩
  · cases h
  · by_cases e : p.neg = q.neg
    · exact .inl ⟨Lt.ext_ e h, by unfold litK; rw [if_neg (fun x => x.2 e)]⟩
    · have hk : litK p q 1 = if p.neg = true then 2 else 0 := by unfold litK; rw [if_pos ⟨rfl, e⟩]
      cases hp : p.neg
      · have hq : q.neg = true := by cases hq : q.neg; exact absurd (hp.trans hq.symm) e; rfl
        refine .inr (.inr (.inl ⟨.inr ⟨h.symm, hq, hp⟩, ?_⟩))
        rw [hk, hp]; rfl
      · have hq : q.neg = false := by cases hq : q.neg; rfl; exact absurd (hp.trans hq.symm) e
        refine .inr (.inl ⟨.inr ⟨h, hp, hq⟩, ?_⟩)
        rw [hk, hp]; rfl
  · exact .inr (.inl ⟨.inl h, by unfold litK; rw [if_neg (fun x => by omega)]⟩)
  · exact .inr (.inr (.inl ⟨.inl h, by unfold litK; rw [if_neg (fun x => by omega)]⟩))
  · refine .inr (.inr (.inr ⟨h1, ?_, ?_, by unfold litK; rw [if_neg (fun x => by omega)]⟩))
    · rintro (q | ⟨q, _⟩)
      · exact h2 q
      · exact h1 q
    · rintro (q | ⟨q, _⟩)
      · exact h3 q
      · exact h1 q.symm
theorem LitR.zero (h : LitR ss p q 0 k) : litB ss p = true ∧ litB ss q = true ∧ (k = 0 ∨ k = 1 ∨ k = 2 ∨ k = 3) ∧ (k = 1 ↔ p = q) ∧ (k = 2 ↔ LMor ss p q) ∧ (k = 0 ↔ LMor ss q p) := by
  rcases h with ⟨_, h, _⟩ | ⟨h0, _, h⟩
  · cases h
  · simp only [Bool.and_eq_true] at h0
    refine ⟨h0.1, h0.2, ?_⟩
    rcases h with ⟨h, rfl⟩ | ⟨h, rfl⟩ | ⟨h, rfl⟩ | ⟨h1, h2, h3, rfl⟩
    · subst h
      exact ⟨by omega, by simp, ⟨fun h => by omega, fun h => (LMor.irrefl h).elim⟩, ⟨fun h => by omega, fun h => (LMor.irrefl h).elim⟩⟩
    · exact ⟨by omega, ⟨fun h => by omega, fun q => absurd q h.ne⟩, ⟨fun _ => h, fun _ => rfl⟩, ⟨fun h => by omega, fun q => (h.asymm q).elim⟩⟩
    · exact ⟨by omega, ⟨fun h => by omega, fun q => absurd q.symm h.ne⟩, ⟨fun h => by omega, fun q => (h.asymm q).elim⟩, ⟨fun _ => h, fun _ => rfl⟩⟩
    · exact ⟨by omega, ⟨fun h => by omega, fun q => absurd (congrArg Lt.atom q) h1⟩, ⟨fun h => by omega, fun q => absurd q h2⟩, ⟨fun h => by omega, fun q => absurd q h3⟩⟩
theorem LitR.cases (h : LitR ss p q E k) : (E = 700 ∧ k = 0 ∧ (litB ss p && litB ss q) = false) ∨ E = 0 := by
  rcases h with ⟨h0, h1, h2⟩ | ⟨_, h1, _⟩
  · exact .inl ⟨h1, h2, h0⟩
  · exact .inr h1
end
/-- Than which no other one is more. -/
noncomputable def topB (ss : List Sym) (ls : List Lt) (i : Nat) : Bool := @decide (∀ k, k < ls.length → ¬ LMor ss (ltAt ls k) (ltAt ls i)) (Classical.propDecidable _)
section
variable {ss : List Sym} {ls : List Lt} {i : Nat}
theorem topB_iff : topB ss ls i = true ↔ ∀ k, k < ls.length → ¬ LMor ss (ltAt ls k) (ltAt ls i) := by unfold topB; exact @decide_eq_true_iff _ (Classical.propDecidable _)
theorem topB_no {k : Nat} (hk : k < ls.length) (h : LMor ss (ltAt ls k) (ltAt ls i)) : topB ss ls i = false := by
  unfold topB; exact @decide_eq_false _ (Classical.propDecidable _) fun q => q k hk h
theorem topB_not (h : topB ss ls i = false) : ∃ k, k < ls.length ∧ LMor ss (ltAt ls k) (ltAt ls i) := by
  unfold topB at h
  have := @of_decide_eq_false _ (Classical.propDecidable _) h
  exact Classical.byContradiction fun q => this fun k hk hm => q ⟨k, hk, hm⟩
/-- The tops below k. -/
noncomputable def topsN (ss : List Sym) (ls : List Lt) (k : Nat) : List Int := ((List.range k).filter (topB ss ls)).map Int.ofNat
theorem topsN_succ (k : Nat) : topsN ss ls (k + 1) = if topB ss ls k then topsN ss ls k ++ [(k : Int)] else topsN ss ls k := by
  unfold topsN
  rw [List.range_succ, List.filter_append]
  cases h : topB ss ls k <;> simp [List.filter_cons, h]
theorem topsN_length (k : Nat) : (topsN ss ls k).length ≤ k := by
  unfold topsN; rw [List.length_map]; exact Nat.le_trans (List.length_filter_le _ _) (by simp)
/-- What Tops answers. -/
def topsOk (ss : List Sym) (ls : List Lt) : Bool := mayB ss && ls.all (litB ss)
noncomputable def topsR (ss : List Sym) (ls : List Lt) : List Int := if topsOk ss ls then topsN ss ls ls.length else []
def topsE (ss : List Sym) (ls : List Lt) : Int := if topsOk ss ls then 0 else 700
/-- Some literals: at least one is a top. -/
theorem top_there : ∀ (n : Nat) {R : Nat → Nat → Prop}, (∀ a b c, R a b → R b c → R a c) → (∀ a, ¬ R a a) → 0 < n → ∃ i, i < n ∧ ∀ k, k < n → ¬ R k i
  | 0, _, _, _, h => absurd h (by omega)
  | 1, R, _, hi, _ => by
    refine ⟨0, by omega, fun k hk => ?_⟩
    have e : k = 0 := by omega
    rw [e]
    exact hi 0
  | n + 2, R, ht, hi, _ => by
    obtain ⟨i, h1, h2⟩ := top_there (n + 1) ht hi (by omega)
    by_cases h : R (n + 1) i
    · refine ⟨n + 1, by omega, fun k hk hr => ?_⟩
      by_cases e : k = n + 1
      · rw [e] at hr; exact hi _ hr
      · exact h2 k (by omega) (ht _ _ _ hr h)
    · refine ⟨i, by omega, fun k hk hr => ?_⟩
      by_cases e : k = n + 1
      · rw [e] at hr; exact h hr
      · exact h2 k (by omega) hr
theorem tops_there (h : 0 < ls.length) : ∃ i, i < ls.length ∧ topB ss ls i = true := by
  obtain ⟨i, h1, h2⟩ := top_there ls.length (R := fun a b => LMor ss (ltAt ls a) (ltAt ls b)) (fun a b c h k => h.trans k) (fun a => LMor.irrefl) h
  exact ⟨i, h1, topB_iff.2 h2⟩
theorem topsN_none {k : Nat} (h : topsN ss ls k = []) : ∀ i, i < k → topB ss ls i = false := by
  intro i hi
  cases hc : topB ss ls i
  · rfl
  · unfold topsN at h
    have : i ∈ (List.range k).filter (topB ss ls) := List.mem_filter.2 ⟨List.mem_range.2 hi, hc⟩
    rw [List.map_eq_nil_iff] at h
    rw [h] at this
    cases this
end
end Go.Proofs.Ytlpafnaokpjoiaa

namespace Go.Proofs.Ytlpafnaokpjoiaa
open Go.RowKit
set_option linter.unusedSimpArgs false
set_option linter.unusedVariables false
set_option maxRecDepth 100000

theorem mem_ltAt {ls : List Lt} {p : Lt} (h : p ∈ ls) : ∃ j, j < ls.length ∧ ltAt ls j = p := by
  obtain ⟨j, hj, e⟩ := List.mem_iff_getElem.1 h
  refine ⟨j, hj, ?_⟩
  have := ltAt_get hj
  rw [List.getElem?_eq_getElem hj] at this
  simp only [Option.some.injEq] at this
  rw [← this, e]
noncomputable def lmB (ss : List Sym) (p q : Lt) : Bool := @decide (LMor ss p q) (Classical.propDecidable _)
theorem lmB_iff {ss : List Sym} {p q : Lt} : lmB ss p q = true ↔ LMor ss p q := by unfold lmB; exact @decide_eq_true_iff _ (Classical.propDecidable _)
/-- g is p, or more than p. -/
noncomputable def overB (ss : List Sym) (p g : Lt) : Bool := @decide (g = p ∨ LMor ss g p) (Classical.propDecidable _)
theorem overB_iff {ss : List Sym} {p g : Lt} : overB ss p g = true ↔ (g = p ∨ LMor ss g p) := by unfold overB; exact @decide_eq_true_iff _ (Classical.propDecidable _)
/-- Those than which p is not more. -/
noncomputable def keepL (ss : List Sym) (p : Lt) (gs : List Lt) : List Lt := gs.filter fun g => !lmB ss p g
noncomputable def entL (ss : List Sym) (gs : List Lt) (p : Lt) : List Lt := if gs.any (overB ss p) then gs else keepL ss p gs ++ [p]
section
variable {ss : List Sym} {gs ls : List Lt} {p g : Lt} {k : Nat}
theorem keepL_length : (keepL ss p gs).length ≤ gs.length := List.length_filter_le _ _
theorem mem_keepL : g ∈ keepL ss p gs ↔ g ∈ gs ∧ ¬ LMor ss p g := by
  unfold keepL
  rw [List.mem_filter]
  refine and_congr_right fun _ => ?_
  rw [← lmB_iff]
  simp
theorem take_succ (hk : k < gs.length) : gs.take (k + 1) = gs.take k ++ [ltAt gs k] := by rw [List.take_add_one, ltAt_get hk]; rfl
theorem keepL_in (hk : k < gs.length) (h : ¬ LMor ss p (ltAt gs k)) : keepL ss p (gs.take (k + 1)) = keepL ss p (gs.take k) ++ [ltAt gs k] := by
  have : lmB ss p (ltAt gs k) = false := by cases e : lmB ss p (ltAt gs k); rfl; exact absurd (lmB_iff.1 e) h
  rw [take_succ hk]; unfold keepL; rw [List.filter_append]; simp [this]
theorem keepL_out (hk : k < gs.length) (h : LMor ss p (ltAt gs k)) : keepL ss p (gs.take (k + 1)) = keepL ss p (gs.take k) := by
  have : lmB ss p (ltAt gs k) = true := lmB_iff.2 h
  rw [take_succ hk]; unfold keepL; rw [List.filter_append]; simp [this]
theorem keepL_take : (keepL ss p (gs.take k)).length ≤ k := Nat.le_trans keepL_length (by simp; omega)
/-- What lies in the block of the greatest ones, k of them looked at. -/
noncomputable def contL (ss : List Sym) (p : Lt) (gs : List Lt) (k : Nat) : List Lt := keepL ss p (gs.take k) ++ gs.drop (keepL ss p (gs.take k)).length
theorem contL_zero : contL ss p gs 0 = gs := by unfold contL keepL; simp
theorem contL_length (hk : k ≤ gs.length) : (contL ss p gs k).length = gs.length := by
  have := keepL_take (ss := ss) (p := p) (gs := gs) (k := k)
  unfold contL; rw [List.length_append, List.length_drop]; omega
theorem contL_at (hk : k < gs.length) : ltAt (contL ss p gs k) k = ltAt gs k := by
  have hle := keepL_take (ss := ss) (p := p) (gs := gs) (k := k)
  unfold contL ltAt
  rw [List.getD_eq_getElem?_getD, List.getD_eq_getElem?_getD, List.getElem?_append_right hle, List.getElem?_drop]
  congr 2
  omega
theorem contL_in (hk : k < gs.length) (h : ¬ LMor ss p (ltAt gs k)) : contL ss p gs (k + 1) = (contL ss p gs k).set (keepL ss p (gs.take k)).length (ltAt gs k) := by
  have hle := keepL_take (ss := ss) (p := p) (gs := gs) (k := k)
  unfold contL
  rw [keepL_in hk h, List.set_append_right _ _ (Nat.le_refl _), Nat.sub_self, List.length_append, List.append_assoc]
  congr 1
  rw [List.drop_eq_getElem_cons (i := (keepL ss p (gs.take k)).length) (by omega)]
  rfl
theorem contL_out (hk : k < gs.length) (h : LMor ss p (ltAt gs k)) : contL ss p gs (k + 1) = contL ss p gs k := by unfold contL; rw [keepL_out hk h]
theorem contL_take : (contL ss p gs k).take (keepL ss p (gs.take k)).length = keepL ss p (gs.take k) := by unfold contL; simp
/-- One of them is p or more than p, and none is more than another: then nothing has been left out. -/
theorem contL_same (hac : ∀ g ∈ gs, ∀ h ∈ gs, ¬ LMor ss g h) (hk : k < gs.length) (h : ltAt gs k = p ∨ LMor ss (ltAt gs k) p) : contL ss p gs k = gs := by
  have e : keepL ss p (gs.take k) = gs.take k := by
    unfold keepL
    rw [List.filter_eq_self]
    intro g hg
    have hg' := List.mem_of_mem_take hg
    cases e : lmB ss p g
    · rfl
    · exfalso
      have hm := lmB_iff.1 e
      rcases h with h | h
      · rw [← h] at hm; exact hac _ (ltAt_mem hk) _ hg' hm
      · exact hac _ (ltAt_mem hk) _ hg' (h.trans hm)
  unfold contL
  rw [e, List.length_take, Nat.min_eq_left (by omega), List.take_append_drop]
theorem entL_over (hk : k < gs.length) (h : ltAt gs k = p ∨ LMor ss (ltAt gs k) p) : entL ss gs p = gs := by
  unfold entL
  rw [if_pos (List.any_eq_true.2 ⟨_, ltAt_mem hk, overB_iff.2 h⟩)]
theorem entL_new (h : ∀ j, j < gs.length → ¬ (ltAt gs j = p ∨ LMor ss (ltAt gs j) p)) : entL ss gs p = keepL ss p gs ++ [p] := by
  unfold entL
  rw [if_neg]
  intro q
  obtain ⟨g, hg, ho⟩ := List.any_eq_true.1 q
  obtain ⟨j, hj, rfl⟩ := mem_ltAt hg
  exact h j hj (overB_iff.1 ho)
/-- G: the greatest of ls. -/
structure Grt (ss : List Sym) (ls gs : List Lt) : Prop where
  sub : ∀ g ∈ gs, g ∈ ls
  apart : ∀ g ∈ gs, ∀ h ∈ gs, ¬ LMor ss g h
  over : ∀ q ∈ ls, ∃ g ∈ gs, g = q ∨ LMor ss g q
  few : gs.length ≤ ls.length
theorem Grt.nil : Grt ss [] [] := ⟨fun _ h => absurd h List.not_mem_nil, fun _ h => absurd h List.not_mem_nil, fun _ h => absurd h List.not_mem_nil, Nat.le_refl _⟩
theorem Grt.step (h : Grt ss ls gs) (p : Lt) : Grt ss (ls ++ [p]) (entL ss gs p) := by
  by_cases ho : ∃ j, j < gs.length ∧ (ltAt gs j = p ∨ LMor ss (ltAt gs j) p)
  · obtain ⟨j, hj, ho⟩ := ho
    rw [entL_over hj ho]
    refine ⟨fun g hg => List.mem_append_left _ (h.sub g hg), h.apart, fun q hq => ?_, by have := h.few; simp; omega⟩
    rcases List.mem_append.1 hq with hq | hq
    · exact h.over q hq
    · rw [List.mem_singleton] at hq; subst hq; exact ⟨_, ltAt_mem hj, ho⟩
  · have hno : ∀ j, j < gs.length → ¬ (ltAt gs j = p ∨ LMor ss (ltAt gs j) p) := fun j hj q => ho ⟨j, hj, q⟩
    rw [entL_new hno]
    refine ⟨fun g hg => ?_, fun g hg q hq => ?_, fun q hq => ?_, ?_⟩
    · rcases List.mem_append.1 hg with hg | hg
      · exact List.mem_append_left _ (h.sub g (mem_keepL.1 hg).1)
      · exact List.mem_append_right _ hg
    · rcases List.mem_append.1 hg with hg | hg
      · rcases List.mem_append.1 hq with hq | hq
        · exact h.apart g (mem_keepL.1 hg).1 q (mem_keepL.1 hq).1
        · rw [List.mem_singleton] at hq; subst hq
          obtain ⟨j, hj, rfl⟩ := mem_ltAt (mem_keepL.1 hg).1
          exact fun x => hno j hj (.inr x)
      · rw [List.mem_singleton] at hg; subst hg
        rcases List.mem_append.1 hq with hq | hq
        · exact (mem_keepL.1 hq).2
        · rw [List.mem_singleton] at hq; subst hq; exact LMor.irrefl
    · rcases List.mem_append.1 hq with hq | hq
      · obtain ⟨g, hg, hgq⟩ := h.over q hq
        by_cases hm : LMor ss p g
        · refine ⟨p, List.mem_append_right _ (List.mem_singleton.2 rfl), .inr ?_⟩
          rcases hgq with e | e
          · rw [← e]; exact hm
          · exact hm.trans e
        · exact ⟨g, List.mem_append_left _ (mem_keepL.2 ⟨hg, hm⟩), hgq⟩
      · rw [List.mem_singleton] at hq; subst hq
        exact ⟨_, List.mem_append_right _ (List.mem_singleton.2 rfl), .inl rfl⟩
    · have h1 := keepL_length (ss := ss) (p := p) (gs := gs)
      have h2 := h.few
      simp only [List.length_append, List.length_cons, List.length_nil]
      omega
theorem Grt.top (h : Grt ss ls gs) {i : Nat} (hi : i < ls.length) : ltAt ls i ∈ gs ↔ topB ss ls i = true := by
  rw [topB_iff]
  constructor
  · intro hm k hk hl
    obtain ⟨g, hg, ho⟩ := h.over _ (ltAt_mem hk)
    rcases ho with e | e
    · rw [← e] at hl; exact h.apart _ hg _ hm hl
    · exact h.apart _ hg _ hm (e.trans hl)
  · intro ht
    obtain ⟨g, hg, ho⟩ := h.over _ (ltAt_mem hi)
    rcases ho with e | e
    · rw [← e]; exact hg
    · obtain ⟨j, hj, rfl⟩ := mem_ltAt (h.sub g hg)
      exact absurd e (ht j hj)
/-- The same literal. -/
def sameL (p q : Lt) : Bool := p.neg == q.neg && sameI p.atom q.atom
theorem sameL_iff {p q : Lt} : sameL p q = true ↔ q = p := by
  unfold sameL sameI
  rw [Bool.and_eq_true, beq_iff_eq, decide_eq_true_iff]
  exact ⟨fun h => Lt.ext_ h.1.symm h.2.symm, fun h => by subst h; exact ⟨rfl, rfl⟩⟩
def hasL (p : Lt) (gs : List Lt) : Bool := gs.any (sameL p)
theorem hasL_iff {p : Lt} : hasL p gs = true ↔ p ∈ gs := by
  unfold hasL
  rw [List.any_eq_true]
  constructor
  · rintro ⟨g, hg, h⟩; rw [sameL_iff] at h; rw [← h]; exact hg
  · intro h; exact ⟨p, h, sameL_iff.2 rfl⟩
theorem hasL_yes {p : Lt} {k : Nat} (hk : k < gs.length) (h : sameL p (ltAt gs k) = true) : hasL p gs = true := List.any_eq_true.2 ⟨_, ltAt_mem hk, h⟩
theorem hasL_no {p : Lt} (h : ∀ k, k < gs.length → sameL p (ltAt gs k) = false) : hasL p gs = false := by
  unfold hasL
  rw [List.any_eq_false]
  intro g hg
  obtain ⟨j, hj, rfl⟩ := mem_ltAt hg
  rw [h j hj]; simp
theorem Grt.has (h : Grt ss ls gs) {i : Nat} (hi : i < ls.length) : hasL (ltAt ls i) gs = topB ss ls i := by
  rw [Bool.eq_iff_iff, hasL_iff, h.top hi]
end
end Go.Proofs.Ytlpafnaokpjoiaa

namespace Go.Proofs.Ytlpafnaokpjoiaa
open Go.RowKit
set_option linter.unusedSimpArgs false
set_option linter.unusedVariables false
set_option maxRecDepth 100000

instance : DecidableEq Lt := fun p q => decidable_of_iff (p.neg = q.neg ∧ p.atom = q.atom) ⟨fun h => Lt.ext_ h.1 h.2, fun h => by rw [h]; exact ⟨rfl, rfl⟩⟩
/-- A clause. -/
structure Cl where
  lits : List Lt
  tups : List (List Int)
  conds : List Lt
def rowsC (c : Cl) : List (List Int) := c.lits.map Lt.atom ++ (c.tups ++ c.conds.map Lt.atom)
def codesC (c : Cl) : List Int := (rowsC c).flatten
theorem snoc_ind {α : Type} {P : List α → Prop} (h0 : P []) (h1 : ∀ xs x, P xs → P (xs ++ [x])) (xs : List α) : P xs := by
  have : ∀ ys : List α, P ys.reverse := by
    intro ys
    induction ys with
    | nil => exact h0
    | cons y ys ih => rw [List.reverse_cons]; exact h1 _ _ ih
  have h := this xs.reverse
  rwa [List.reverse_reverse] at h
section once
variable {α β : Type} [DecidableEq α] [DecidableEq β]
/-- x behind those that are there, if it is not among them. -/
def put1st (out : List α) (x : α) : List α := if x ∈ out then out else out ++ [x]
/-- Each once, where it stands first. -/
def once (xs : List α) : List α := xs.foldl put1st []
theorem once_snoc (xs : List α) (x : α) : once (xs ++ [x]) = put1st (once xs) x := by unfold once; rw [List.foldl_append]; rfl
theorem once_nil : once ([] : List α) = [] := rfl
theorem mem_once {xs : List α} {x : α} : x ∈ once xs ↔ x ∈ xs := by
  refine snoc_ind (P := fun xs => ∀ x, x ∈ once xs ↔ x ∈ xs) (fun x => by rw [once_nil]) (fun xs y ih x => ?_) xs x
  rw [once_snoc]
  unfold put1st
  by_cases h : y ∈ once xs
  · rw [if_pos h, ih]
    constructor
    · intro q; exact List.mem_append_left _ q
    · intro q
      rcases List.mem_append.1 q with q | q
      · exact q
      · rw [List.mem_singleton] at q; rw [q]; exact (ih y).1 h
  · rw [if_neg h, List.mem_append, List.mem_append, ih]
theorem once_nodup (xs : List α) : (once xs).Nodup := by
  refine snoc_ind (P := fun xs => (once xs).Nodup) List.nodup_nil (fun xs y ih => ?_) xs
  rw [once_snoc]
  unfold put1st
  by_cases h : y ∈ once xs
  · rw [if_pos h]; exact ih
  · rw [if_neg h, List.nodup_append]
    refine ⟨ih, by simp, fun a ha b hb => ?_⟩
    rw [List.mem_singleton] at hb
    subst hb
    intro e
    subst e
    exact h ha
theorem once_of_nodup {xs : List α} (h : xs.Nodup) : once xs = xs := by
  refine snoc_ind (P := fun xs => xs.Nodup → once xs = xs) (fun _ => rfl) (fun xs y ih h => ?_) xs h
  rw [List.nodup_append] at h
  rw [once_snoc, ih h.1]
  unfold put1st
  rw [if_neg (fun q => h.2.2 y q y (by simp) rfl)]
theorem once_once (xs : List α) : once (once xs) = once xs := once_of_nodup (once_nodup xs)
theorem once_again {xs : List α} {x : α} (h : x ∈ xs) : once (xs ++ [x]) = once xs := by
  rw [once_snoc]; unfold put1st; rw [if_pos (mem_once.2 h)]
theorem once_sub (xs : List α) : (once xs).Sublist xs := by
  refine snoc_ind (P := fun xs => (once xs).Sublist xs) (List.Sublist.refl _) (fun xs y ih => ?_) xs
  rw [once_snoc]
  unfold put1st
  by_cases h : y ∈ once xs
  · rw [if_pos h]; exact ih.trans (List.sublist_append_left _ _)
  · rw [if_neg h]; exact List.Sublist.append ih (List.Sublist.refl _)
theorem once_length (xs : List α) : (once xs).length ≤ xs.length := (once_sub xs).length_le
/-- A function under which no two of them fall together. -/
theorem once_map (f : α → β) (xs : List α) (hf : ∀ x ∈ xs, ∀ y ∈ xs, f x = f y → x = y) : once (xs.map f) = (once xs).map f := by
  refine snoc_ind (P := fun xs => (∀ x ∈ xs, ∀ y ∈ xs, f x = f y → x = y) → once (xs.map f) = (once xs).map f) (fun _ => rfl) (fun xs y ih hf => ?_) xs hf
  have ih' := ih fun a ha b hb => hf a (List.mem_append_left _ ha) b (List.mem_append_left _ hb)
  rw [List.map_append]
  show once (xs.map f ++ [f y]) = _
  rw [once_snoc, once_snoc, ih']
  unfold put1st
  by_cases h : y ∈ once xs
  · rw [if_pos h, if_pos (List.mem_map_of_mem h)]
  · rw [if_neg h, if_neg, List.map_append]; rfl
    intro q
    obtain ⟨z, hz, e⟩ := List.mem_map.1 q
    have hz' := mem_once.1 hz
    have := hf z (List.mem_append_left _ hz') y (List.mem_append_right _ (by simp)) e
    rw [this] at hz
    exact h hz
end once
/-- The variables of a list of codes, as they stand. -/
def vrs (cs : List Int) : List Nat := cs.filterMap fun x => if x < 0 then some (-1 - x).toNat else none
theorem mem_vrs {cs : List Int} {v : Nat} : v ∈ vrs cs ↔ (-1 - (v : Int)) ∈ cs := by
  unfold vrs
  rw [List.mem_filterMap]
  constructor
  · rintro ⟨x, hx, h⟩
    by_cases hx0 : x < 0
    · rw [if_pos hx0] at h
      simp only [Option.some.injEq] at h
      have : -1 - (v : Int) = x := by omega
      rw [this]; exact hx
    · rw [if_neg hx0] at h; cases h
  · intro h
    refine ⟨_, h, ?_⟩
    rw [if_pos (by omega)]
    simp only [Option.some.injEq]
    omega
/-- The variables in the order in which they come first. -/
def firsts (cs : List Int) : List Nat := once (vrs cs)
/-- Other names of variables. -/
def ren (f : Nat → Nat) (x : Int) : Int := if x < 0 then -1 - (f (-1 - x).toNat : Int) else x
def renR (f : Nat → Nat) (r : List Int) : List Int := r.map (ren f)
def renL (f : Nat → Nat) (l : Lt) : Lt := ⟨l.neg, renR f l.atom⟩
def renC (f : Nat → Nat) (c : Cl) : Cl := ⟨c.lits.map (renL f), c.tups.map (renR f), c.conds.map (renL f)⟩
def onceC (c : Cl) : Cl := ⟨once c.lits, once c.tups, once c.conds⟩
/-- The normal clause. -/
def norm (c : Cl) : Cl := renC (fun v => (firsts (codesC (onceC c))).idxOf v) (onceC c)
section
variable {f g : Nat → Nat} {c d : Cl} {cs : List Int}
theorem ren_ren (x : Int) : ren g (ren f x) = ren (fun v => g (f v)) x := by
  unfold ren
  by_cases h : x < 0
  · rw [if_pos h, if_pos h, if_pos (by omega)]
    congr 2
    congr 1
    omega
  · rw [if_neg h, if_neg h, if_neg h]
theorem renR_renR (r : List Int) : renR g (renR f r) = renR (fun v => g (f v)) r := by
  unfold renR; rw [List.map_map]; congr 1; funext x; exact ren_ren x
theorem renL_renL (l : Lt) : renL g (renL f l) = renL (fun v => g (f v)) l := by unfold renL; rw [renR_renR]
theorem renC_renC : renC g (renC f c) = renC (fun v => g (f v)) c := by
  unfold renC
  simp only [List.map_map]
  congr 1
  · congr 1; funext l; exact renL_renL l
  · congr 1; funext l; exact renR_renR l
  · congr 1; funext l; exact renL_renL l
theorem renR_on {r : List Int} (h : ∀ v ∈ vrs r, f v = g v) : renR f r = renR g r := by
  unfold renR
  refine List.map_congr_left fun x hx => ?_
  unfold ren
  by_cases h0 : x < 0
  · have e : -1 - (((-1 - x).toNat : Nat) : Int) = x := by omega
    rw [if_pos h0, if_pos h0, h _ (mem_vrs.2 (by rw [e]; exact hx))]
  · rw [if_neg h0, if_neg h0]
theorem rowsC_ren : rowsC (renC f c) = (rowsC c).map (renR f) := by
  unfold rowsC renC
  simp only [List.map_append, List.map_map]
  rfl
theorem codesC_ren : codesC (renC f c) = renR f (codesC c) := by
  unfold codesC renR; rw [rowsC_ren, List.map_flatten]; rfl
theorem vrs_ren (cs : List Int) : vrs (renR f cs) = (vrs cs).map f := by
  unfold vrs renR
  rw [List.filterMap_map, List.map_filterMap]
  congr 1
  funext x
  simp only [Function.comp]
  unfold ren
  by_cases h : x < 0
  · rw [if_pos h, if_pos (by omega), if_pos h]
    simp only [Option.map_some, Option.some.injEq]
    omega
  · rw [if_neg h, if_neg h]; rfl
/-- Rows of a clause: what holds of their codes. -/
theorem rowC_codes {r : List Int} (h : r ∈ rowsC c) : ∀ x ∈ r, x ∈ codesC c := fun x hx => List.mem_flatten.2 ⟨r, h, hx⟩
theorem lit_row {l : Lt} (h : l ∈ c.lits) : l.atom ∈ rowsC c := List.mem_append_left _ (List.mem_map_of_mem h)
theorem tup_row {t : List Int} (h : t ∈ c.tups) : t ∈ rowsC c := List.mem_append_right _ (List.mem_append_left _ h)
theorem cond_row {l : Lt} (h : l ∈ c.conds) : l.atom ∈ rowsC c := List.mem_append_right _ (List.mem_append_right _ (List.mem_map_of_mem h))
theorem row_vrs {r : List Int} (h : r ∈ rowsC c) {v : Nat} (hv : v ∈ vrs r) : v ∈ vrs (codesC c) := mem_vrs.2 (rowC_codes h _ (mem_vrs.1 hv))
theorem renC_on (h : ∀ v ∈ vrs (codesC c), f v = g v) : renC f c = renC g c := by
  unfold renC
  congr 1
  · refine List.map_congr_left fun l hl => ?_
    unfold renL; rw [renR_on fun v hv => h v (row_vrs (lit_row hl) hv)]
  · exact List.map_congr_left fun t ht => renR_on fun v hv => h v (row_vrs (tup_row ht) hv)
  · refine List.map_congr_left fun l hl => ?_
    unfold renL; rw [renR_on fun v hv => h v (row_vrs (cond_row hl) hv)]
theorem renR_id (r : List Int) : renR (fun v => v) r = r := by
  unfold renR
  rw [List.map_congr_left (g := id), List.map_id]
  intro x _
  unfold ren
  by_cases h : x < 0
  · rw [if_pos h]; show -1 - (((-1 - x).toNat : Nat) : Int) = x; omega
  · rw [if_neg h]; rfl
theorem renC_id : renC (fun v => v) c = c := by
  unfold renC
  have h1 : renL (fun v => v) = id := by funext l; unfold renL; rw [renR_id]; rfl
  have h2 : renR (fun v => v) = id := by funext r; rw [renR_id]; rfl
  rw [h1, h2, List.map_id, List.map_id, List.map_id]
/-- Names under which no two variables fall together keep rows apart. -/
theorem renR_inj {r s : List Int} (hi : ∀ v ∈ vrs r, ∀ u ∈ vrs s, f v = f u → v = u) (h : renR f r = renR f s) : r = s := by
  induction r generalizing s with
  | nil => cases s with
    | nil => rfl
    | cons y s => cases h
  | cons x r ih => cases s with
    | nil => cases h
    | cons y s =>
      unfold renR at h
      rw [List.map_cons, List.map_cons] at h
      injection h with h1 h2
      have hr : ∀ v ∈ vrs r, v ∈ vrs (x :: r) := fun v hv => mem_vrs.2 (List.mem_cons_of_mem _ (mem_vrs.1 hv))
      have hs : ∀ v ∈ vrs s, v ∈ vrs (y :: s) := fun v hv => mem_vrs.2 (List.mem_cons_of_mem _ (mem_vrs.1 hv))
      rw [ih (fun v hv u hu => hi v (hr v hv) u (hs u hu)) h2]
      congr 1
      unfold ren at h1
      by_cases hx : x < 0
      · rw [if_pos hx] at h1
        by_cases hy : y < 0
        · rw [if_pos hy] at h1
          have hxx : -1 - (((-1 - x).toNat : Nat) : Int) = x := by omega
          have hyy : -1 - (((-1 - y).toNat : Nat) : Int) = y := by omega
          have := hi (-1 - x).toNat (mem_vrs.2 (by rw [hxx]; exact List.mem_cons_self ..)) (-1 - y).toNat (mem_vrs.2 (by rw [hyy]; exact List.mem_cons_self ..)) (by omega)
          omega
        · rw [if_neg hy] at h1; omega
      · rw [if_neg hx] at h1
        by_cases hy : y < 0
        · rw [if_pos hy] at h1; omega
        · rw [if_neg hy] at h1; exact h1
theorem onceC_ren (hi : ∀ v ∈ vrs (codesC c), ∀ u ∈ vrs (codesC c), f v = f u → v = u) : onceC (renC f c) = renC f (onceC c) := by
  have hL : ∀ a b : Lt, a.atom ∈ rowsC c → b.atom ∈ rowsC c → renL f a = renL f b → a = b := by
    intro a b ha hb h
    unfold renL at h
    injection h with h1 h2
    exact Lt.ext_ h1 (renR_inj (fun v hv u hu => hi v (row_vrs ha hv) u (row_vrs hb hu)) h2)
  unfold onceC
  show Cl.mk (once (c.lits.map (renL f))) (once (c.tups.map (renR f))) (once (c.conds.map (renL f))) = _
  rw [once_map _ _ (fun a ha b hb h => hL a b (lit_row ha) (lit_row hb) h), once_map _ _ (fun a ha b hb h => hL a b (cond_row ha) (cond_row hb) h),
    once_map _ _ (fun a ha b hb h => renR_inj (fun v hv u hu => hi v (row_vrs (tup_row ha) hv) u (row_vrs (tup_row hb) hu)) h)]
  rfl
theorem onceC_once : onceC (onceC c) = onceC c := by unfold onceC; simp only [once_once]
theorem once_rows {r : List Int} (h : r ∈ rowsC (onceC c)) : r ∈ rowsC c := by
  unfold rowsC onceC at *
  rcases List.mem_append.1 h with h | h
  · obtain ⟨l, hl, e⟩ := List.mem_map.1 h
    exact List.mem_append_left _ (List.mem_map.2 ⟨l, mem_once.1 hl, e⟩)
  · rcases List.mem_append.1 h with h | h
    · exact List.mem_append_right _ (List.mem_append_left _ (mem_once.1 h))
    · obtain ⟨l, hl, e⟩ := List.mem_map.1 h
      exact List.mem_append_right _ (List.mem_append_right _ (List.mem_map.2 ⟨l, mem_once.1 hl, e⟩))
theorem rows_once {r : List Int} (h : r ∈ rowsC c) : r ∈ rowsC (onceC c) := by
  unfold rowsC onceC at *
  rcases List.mem_append.1 h with h | h
  · obtain ⟨l, hl, e⟩ := List.mem_map.1 h
    exact List.mem_append_left _ (List.mem_map.2 ⟨l, mem_once.2 hl, e⟩)
  · rcases List.mem_append.1 h with h | h
    · exact List.mem_append_right _ (List.mem_append_left _ (mem_once.2 h))
    · obtain ⟨l, hl, e⟩ := List.mem_map.1 h
      exact List.mem_append_right _ (List.mem_append_right _ (List.mem_map.2 ⟨l, mem_once.2 hl, e⟩))
theorem codes_once {x : Int} : x ∈ codesC (onceC c) ↔ x ∈ codesC c := by
  unfold codesC
  rw [List.mem_flatten, List.mem_flatten]
  exact ⟨fun ⟨r, h, hx⟩ => ⟨r, once_rows h, hx⟩, fun ⟨r, h, hx⟩ => ⟨r, rows_once h, hx⟩⟩
theorem vrs_once {v : Nat} : v ∈ vrs (codesC (onceC c)) ↔ v ∈ vrs (codesC c) := by rw [mem_vrs, mem_vrs, codes_once]
/-- The place of a variable in the order. -/
def plc (c : Cl) (v : Nat) : Nat := (firsts (codesC (onceC c))).idxOf v
theorem plc_inj {v u : Nat} (hv : v ∈ vrs (codesC c)) (hu : u ∈ vrs (codesC c)) (h : plc c v = plc c u) : v = u := by
  have hv' : v ∈ firsts (codesC (onceC c)) := mem_once.2 (vrs_once.2 hv)
  have hu' : u ∈ firsts (codesC (onceC c)) := mem_once.2 (vrs_once.2 hu)
  unfold plc at h
  have h1 := List.getElem_idxOf (List.idxOf_lt_length_of_mem hv')
  have h2 := List.getElem_idxOf (List.idxOf_lt_length_of_mem hu')
  rw [← h1, ← h2]
  congr 1
theorem plc_lt {v : Nat} (hv : v ∈ vrs (codesC c)) : plc c v < (firsts (codesC (onceC c))).length := List.idxOf_lt_length_of_mem (mem_once.2 (vrs_once.2 hv))
theorem norm_eq : norm c = renC (plc c) (onceC c) := rfl
theorem once_norm : onceC (norm c) = norm c := by
  rw [norm_eq, onceC_ren (fun v hv u hu h => plc_inj (vrs_once.1 hv) (vrs_once.1 hu) h), onceC_once]
theorem idx_range : ∀ (s : List Nat), s.Nodup → s.map (fun v => s.idxOf v) = List.range s.length := by
  intro s hs
  apply List.ext_getElem?
  intro i
  rw [List.getElem?_map]
  by_cases hi : i < s.length
  · rw [List.getElem?_eq_getElem hi, List.getElem?_range hi]
    simp only [Option.map_some, Option.some.injEq]
    exact List.Nodup.idxOf_getElem hs i hi
  · rw [List.getElem?_eq_none (by omega), List.getElem?_eq_none (by simp; omega)]; rfl
theorem firsts_norm : firsts (codesC (norm c)) = List.range (firsts (codesC (onceC c))).length := by
  rw [norm_eq, codesC_ren]
  unfold firsts
  rw [vrs_ren, once_map _ _ (fun v hv u hu h => plc_inj (vrs_once.1 hv) (vrs_once.1 hu) h)]
  exact idx_range _ (once_nodup _)
theorem idx_of_range {n v : Nat} (h : v < n) : (List.range n).idxOf v = v := by
  have := List.Nodup.idxOf_getElem (List.nodup_range (n := n)) v (by simpa using h)
  simpa using this
/-- A normal clause is its own normal one. -/
theorem norm_norm : norm (norm c) = norm c := by
  rw [norm_eq, once_norm]
  have : renC (plc (norm c)) (norm c) = renC (fun v => v) (norm c) := by
    refine renC_on fun v hv => ?_
    unfold plc
    rw [once_norm, firsts_norm]
    refine idx_of_range ?_
    have h1 : v ∈ firsts (codesC (norm c)) := mem_once.2 hv
    rw [firsts_norm] at h1
    simpa using h1
  rw [this, renC_id]
theorem idx_map (f : Nat → Nat) (s : List Nat) {v : Nat} (hv : v ∈ s) (hi : ∀ u ∈ s, f u = f v → u = v) : (s.map f).idxOf (f v) = s.idxOf v := by
  induction s with
  | nil => cases hv
  | cons u s ih =>
    rw [List.map_cons, List.idxOf_cons, List.idxOf_cons]
    by_cases e : u = v
    · subst e; simp
    · have e' : f u ≠ f v := fun q => e (hi u (List.mem_cons_self ..) q)
      have hv' : v ∈ s := by
        rcases List.mem_cons.1 hv with h | h
        · exact absurd h.symm e
        · exact h
      have b1 : (f u == f v) = false := by simpa using e'
      have b2 : (u == v) = false := by simpa using e
      rw [b1, b2, ih hv' (fun x hx => hi x (List.mem_cons_of_mem _ hx))]
/-- Other names of variables leave the normal clause as it is. -/
theorem norm_names (hi : ∀ v ∈ vrs (codesC c), ∀ u ∈ vrs (codesC c), f v = f u → v = u) : norm (renC f c) = norm c := by
  rw [norm_eq, norm_eq, onceC_ren hi, renC_renC]
  refine renC_on fun v hv => ?_
  have hv0 := vrs_once.1 hv
  unfold plc
  rw [onceC_ren hi, codesC_ren]
  unfold firsts
  rw [vrs_ren, once_map _ _ (fun a ha b hb h => hi a (vrs_once.1 ha) b (vrs_once.1 hb) h)]
  exact idx_map f _ (mem_once.2 hv) (fun u hu h => hi u (vrs_once.1 (mem_once.1 hu)) v hv0 h)
/-- A Lit that stands twice leaves it, too. -/
theorem norm_twice {l : Lt} (h : l ∈ c.lits) : norm ⟨c.lits ++ [l], c.tups, c.conds⟩ = norm c := by
  have e : onceC ⟨c.lits ++ [l], c.tups, c.conds⟩ = onceC c := by unfold onceC; rw [once_again h]
  unfold norm
  rw [e]
end
end Go.Proofs.Ytlpafnaokpjoiaa

namespace Go.Proofs.Ytlpafnaokpjoiaa
open Go.RowKit
set_option linter.unusedSimpArgs false
set_option linter.unusedVariables false

/-- Does a variable stand in a row? -/
def hasV (r : List Int) (v : Nat) : Bool := r.any fun c => c == -1 - (v : Int)
/-- The variables below k of a row. -/
def varsN (r : List Int) (k : Nat) : List Int := ((List.range k).filter (hasV r)).map Int.ofNat
def varsOf (ss : List Sym) (r : List Int) : List Int := if rowB ss r then varsN r 24 else []
def boolsC (f : Nat → Bool) : Array Value := ((List.range 24).map fun i => Value.bool (f i)).toArray
theorem boolsC_size (f : Nat → Bool) : (boolsC f).size = 24 := by simp [boolsC]
theorem boolsC_at (f : Nat → Bool) (i : Nat) (h : i < 24) : (boolsC f)[i]? = some (.bool (f i)) := by simp [boolsC, h]
theorem boolsC_set (f : Nat → Bool) (k : Nat) (v : Bool) (h : k < 24) : (boolsC f).setIfInBounds k (.bool v) = boolsC (fun j => if j = k then v else f j) := by
  apply Array.ext_getElem?
  intro i
  rw [Array.getElem?_setIfInBounds]
  by_cases hi : i < 24
  · rw [boolsC_at (fun j => if j = k then v else f j) i hi]
    by_cases e : k = i
    · subst e; rw [if_pos rfl, if_pos (by rw [boolsC_size]; exact hi), if_pos rfl]
    · have e' : ¬ i = k := fun x => e x.symm
      rw [if_neg e, boolsC_at f i hi, if_neg e']
  · rw [if_neg (by omega), Array.getElem?_eq_none (by rw [boolsC_size]; omega), Array.getElem?_eq_none (by rw [boolsC_size]; omega)]
theorem boolsC_congr {f g : Nat → Bool} (h : ∀ i, i < 24 → f i = g i) : boolsC f = boolsC g := by
  apply Array.ext_getElem?
  intro i
  by_cases hi : i < 24
  · rw [boolsC_at _ i hi, boolsC_at _ i hi, h i hi]
  · rw [Array.getElem?_eq_none (by rw [boolsC_size]; omega), Array.getElem?_eq_none (by rw [boolsC_size]; omega)]
theorem hasV_take (r : List Int) (k v : Nat) (h : k < r.length) : hasV (r.take (k + 1)) v = (hasV (r.take k) v || (intAt r k == -1 - (v : Int))) := by
  unfold hasV; rw [List.take_add_one, intAt_get h, List.any_append]; simp
theorem seen_var {r : List Int} {k q : Nat} (h : k < r.length) (hq : intAt r k = -1 - (q : Int)) (hq24 : q < 24) : (boolsC (hasV (r.take k))).setIfInBounds q (.bool true) = boolsC (hasV (r.take (k + 1))) := by
  rw [boolsC_set _ q true hq24]
  apply boolsC_congr
  intro i hi
  rw [hasV_take r k i h, hq]
  by_cases e : i = q
  · subst e; simp
  · rw [if_neg e]
    have : ((-1 - (q : Int)) == (-1 - (i : Int))) = false := by simp; omega
    rw [this, Bool.or_false]
theorem seen_sym {r : List Int} {k : Nat} (h : k < r.length) (hx : 0 ≤ intAt r k) : boolsC (hasV (r.take k)) = boolsC (hasV (r.take (k + 1))) := by
  apply boolsC_congr
  intro i hi
  rw [hasV_take r k i h]
  have : (intAt r k == (-1 - (i : Int))) = false := by simp; omega
  rw [this, Bool.or_false]
theorem varsN_succ (r : List Int) (k : Nat) : varsN r (k + 1) = if hasV r k then varsN r k ++ [(k : Int)] else varsN r k := by
  unfold varsN
  rw [List.range_succ, List.filter_append]
  cases h : hasV r k <;> simp [List.filter_cons, h]
theorem varsN_length (r : List Int) (k : Nat) : (varsN r k).length ≤ k := by
  unfold varsN; rw [List.length_map]; exact Nat.le_trans (List.length_filter_le _ _) (by simp)
end Go.Proofs.Ytlpafnaokpjoiaa

namespace Go.Proofs.Ytlpafnaokpjoiaa
open Go.RowKit
set_option linter.unusedSimpArgs false
set_option linter.unusedVariables false
set_option maxRecDepth 100000

theorem nodup_sub_length {s t : List Nat} (hs : s.Nodup) (h : ∀ v ∈ s, v ∈ t) : s.length ≤ t.length := by
  induction s generalizing t with
  | nil => simp
  | cons x s ih =>
    rw [List.nodup_cons] at hs
    have hx := h x (List.mem_cons_self ..)
    have := ih hs.2 (t := t.erase x) fun v hv => (List.mem_erase_of_ne (fun e => hs.1 (by rw [← e]; exact hv))).2 (h v (List.mem_cons_of_mem _ hv))
    rw [List.length_erase_of_mem hx] at this
    have hp : 0 < t.length := List.length_pos_of_mem hx
    rw [List.length_cons]; omega
theorem nodup_lt_length {s : List Nat} {n : Nat} (hs : s.Nodup) (h : ∀ v ∈ s, v < n) : s.length ≤ n := by
  have := nodup_sub_length hs (t := List.range n) fun v hv => List.mem_range.2 (h v hv)
  simpa using this
theorem nodup_same_length {s t : List Nat} (hs : s.Nodup) (ht : t.Nodup) (h : ∀ v, v ∈ s ↔ v ∈ t) : s.length = t.length :=
  Nat.le_antisymm (nodup_sub_length hs fun v hv => (h v).1 hv) (nodup_sub_length ht fun v hv => (h v).2 hv)
/-- Tuples: rows of as many terms as the first. -/
def tupsB (ss : List Sym) (ts : List (List Int)) : Bool := ts.all fun t => rowB ss t && decide ((tlD ss t).length = (tlD ss (ts.headD [])).length)
/-- A valid clause, of a valid signature. -/
def mayC (ss : List Sym) (c : Cl) : Bool :=
  mayB ss && decide (c.lits.length ≤ 5) && decide (c.tups.length ≤ 3) && decide (c.conds.length ≤ 3) && c.lits.all (litB ss) && c.conds.all (litB ss) && tupsB ss c.tups && decide ((codesC c).length ≤ 240)
structure MayC (ss : List Sym) (c : Cl) : Prop where
  may : mayB ss = true
  nl : c.lits.length ≤ 5
  nt : c.tups.length ≤ 3
  nc : c.conds.length ≤ 3
  lits : ∀ l ∈ c.lits, litB ss l = true
  conds : ∀ l ∈ c.conds, litB ss l = true
  tups : ∀ t ∈ c.tups, rowB ss t = true ∧ (tlD ss t).length = (tlD ss (c.tups.headD [])).length
  codes : (codesC c).length ≤ 240
section
variable {ss : List Sym} {c : Cl} {f : Nat → Nat}
theorem mayC_iff : mayC ss c = true ↔ MayC ss c := by
  unfold mayC tupsB
  simp only [Bool.and_eq_true, decide_eq_true_eq, List.all_eq_true]
  constructor
  · rintro ⟨⟨⟨⟨⟨⟨⟨h1, h2⟩, h3⟩, h4⟩, h5⟩, h6⟩, h7⟩, h8⟩
    exact ⟨h1, h2, h3, h4, h5, h6, h7, h8⟩
  · intro h
    exact ⟨⟨⟨⟨⟨⟨⟨h.may, h.nl⟩, h.nt⟩, h.nc⟩, h.lits⟩, h.conds⟩, h.tups⟩, h.codes⟩
theorem arOf_ren {x : Int} {a : Nat} (h : arOf ss x = some a) (hf : x < 0 → f (-1 - x).toNat < 24) : arOf ss (ren f x) = some a := by
  unfold ren
  by_cases hx : x < 0
  · rw [if_pos hx]
    have := hf hx
    unfold arOf at h ⊢
    rw [if_pos hx] at h
    rw [if_pos (by omega), if_pos (by omega)]
    by_cases hb : -24 ≤ x
    · rw [if_pos hb] at h; exact h
    · rw [if_neg hb] at h; cases h
  · rw [if_neg hx]; exact h
theorem neg_var {x : Int} (hx : x < 0) : -1 - (((-1 - x).toNat : Nat) : Int) = x := by omega
theorem tl_ren {r : List Int} {ms : List (Nat × Nat)} (h : tl ss r = some ms) (hf : ∀ v ∈ vrs r, f v < 24) : tl ss (renR f r) = some ms := by
  induction r generalizing ms with
  | nil => exact h
  | cons x r ih =>
    obtain ⟨qs, a, h1, h2, h3, rfl⟩ := tl_cons_inv h
    have hr : ∀ v ∈ vrs r, f v < 24 := fun v hv => hf v (mem_vrs.2 (List.mem_cons_of_mem _ (mem_vrs.1 hv)))
    exact tl_cons (ih h1 hr) (arOf_ren h2 (fun hx => hf _ (mem_vrs.2 (by rw [neg_var hx]; exact List.mem_cons_self ..)))) h3
theorem renR_length (r : List Int) : (renR f r).length = r.length := by unfold renR; simp
theorem rowB_ren {r : List Int} (h : rowB ss r = true) (hf : ∀ v ∈ vrs r, f v < 24) : rowB ss (renR f r) = true ∧ tlD ss (renR f r) = tlD ss r := by
  obtain ⟨h1, h2, h3⟩ := row_parts h
  have h4 := tl_ren h3 hf
  constructor
  · unfold rowB rowP
    rw [h1, renR_length, h4, decide_eq_true h2]; rfl
  · show (tl ss (renR f r)).getD [] = _
    rw [h4]; rfl
theorem litB_ren {l : Lt} (h : litB ss l = true) (hf : ∀ v ∈ vrs l.atom, f v < 24) : litB ss (renL f l) = true := by
  obtain ⟨x, a⟩ := l
  unfold litB renL at *
  cases a with
  | nil => cases h
  | cons c0 r =>
    have h' : atomB ss (c0 :: r) = true := h
    unfold atomB at h'
    simp only [Bool.and_eq_true, decide_eq_true_eq] at h'
    obtain ⟨⟨⟨⟨h1, h2⟩, h3⟩, h4⟩, h5⟩ := h'
    have e0 : ren f c0 = c0 := by unfold ren; rw [if_neg (by omega)]
    have hr := rowB_ren h4 (f := f) fun v hv => hf v (mem_vrs.2 (List.mem_cons_of_mem _ (mem_vrs.1 hv)))
    show atomB ss (renR f (c0 :: r)) = true
    have e1 : renR f (c0 :: r) = c0 :: renR f r := by unfold renR; rw [List.map_cons, e0]
    rw [e1]
    unfold atomB
    simp only [Bool.and_eq_true, decide_eq_true_eq]
    exact ⟨⟨⟨⟨h1, h2⟩, h3⟩, hr.1⟩, by rw [hr.2]; exact h5⟩
theorem row_var {r : List Int} (h : rowB ss r = true) : ∀ v ∈ vrs r, v < 24 := by
  intro v hv
  have := row_codes (row_parts h).2.2 _ (mem_vrs.1 hv)
  omega
theorem lit_var {l : Lt} (h : litB ss l = true) : ∀ v ∈ vrs l.atom, v < 24 := by
  intro v hv
  obtain ⟨x, a⟩ := l
  cases a with
  | nil => cases h
  | cons c0 r =>
    have h' : atomB ss (c0 :: r) = true := h
    unfold atomB at h'
    simp only [Bool.and_eq_true, decide_eq_true_eq] at h'
    obtain ⟨⟨⟨⟨h1, h2⟩, h3⟩, h4⟩, h5⟩ := h'
    rcases List.mem_cons.1 (mem_vrs.1 hv) with e | e
    · omega
    · exact row_var h4 v (mem_vrs.2 e)
theorem MayC.row (h : MayC ss c) {r : List Int} (hr : r ∈ rowsC c) : ∀ v ∈ vrs r, v < 24 := by
  unfold rowsC at hr
  rcases List.mem_append.1 hr with hr | hr
  · obtain ⟨l, hl, rfl⟩ := List.mem_map.1 hr
    exact lit_var (h.lits l hl)
  · rcases List.mem_append.1 hr with hr | hr
    · exact row_var (h.tups r hr).1
    · obtain ⟨l, hl, rfl⟩ := List.mem_map.1 hr
      exact lit_var (h.conds l hl)
theorem MayC.var (h : MayC ss c) {v : Nat} (hv : v ∈ vrs (codesC c)) : v < 24 := by
  obtain ⟨r, hr, hx⟩ := List.mem_flatten.1 (mem_vrs.1 hv)
  exact h.row hr v (mem_vrs.2 hx)
/-- How many variables there are. -/
def nV (c : Cl) : Nat := (firsts (codesC (onceC c))).length
theorem MayC.few (h : MayC ss c) : nV c ≤ 24 := nodup_lt_length (once_nodup _) fun v hv => h.var (vrs_once.1 (mem_once.1 hv))
theorem MayC.plc_ok (h : MayC ss c) {v : Nat} (hv : v ∈ vrs (codesC c)) : plc c v < 24 := by
  have := plc_lt hv
  have := h.few
  unfold nV at this
  omega
theorem flat_sub {s t : List (List Int)} (h : s.Sublist t) : s.flatten.length ≤ t.flatten.length := by
  induction h with
  | slnil => simp
  | cons a _ ih => simp only [List.flatten_cons, List.length_append]; omega
  | cons_cons a _ ih => simp only [List.flatten_cons, List.length_append]; omega
theorem onceC_sub : (rowsC (onceC c)).Sublist (rowsC c) := List.Sublist.append ((once_sub _).map _) (List.Sublist.append (once_sub _) ((once_sub _).map _))
theorem flat_ren (rs : List (List Int)) : (rs.map (renR f)).flatten.length = rs.flatten.length := by
  induction rs with
  | nil => rfl
  | cons r rs ih => simp only [List.map_cons, List.flatten_cons, List.length_append, ih, renR_length]
theorem once_head (ts : List (List Int)) : (once ts).headD [] = ts.headD [] := by
  refine snoc_ind (P := fun ts => (once ts).headD [] = ts.headD []) rfl (fun xs y ih => ?_) ts
  rw [once_snoc]
  unfold put1st
  cases xs with
  | nil => rfl
  | cons x xs =>
    by_cases h : y ∈ once (x :: xs)
    · rw [if_pos h, ih]; rfl
    · rw [if_neg h]
      have : once (x :: xs) ≠ [] := by
        intro e
        have : x ∈ once (x :: xs) := mem_once.2 (List.mem_cons_self ..)
        rw [e] at this; cases this
      cases e : once (x :: xs) with
      | nil => exact absurd e this
      | cons z zs => rw [e] at ih; exact ih
/-- A normal clause is valid. -/
theorem MayC.normal (h : MayC ss c) : MayC ss (norm c) := by
  have hp : ∀ r ∈ rowsC (onceC c), ∀ v ∈ vrs r, plc c v < 24 := fun r hr v hv => h.plc_ok (row_vrs (once_rows hr) hv)
  rw [norm_eq]
  refine ⟨h.may, ?_, ?_, ?_, ?_, ?_, ?_, ?_⟩
  · show ((once c.lits).map _).length ≤ 5
    rw [List.length_map]; exact Nat.le_trans (once_length _) h.nl
  · show ((once c.tups).map _).length ≤ 3
    rw [List.length_map]; exact Nat.le_trans (once_length _) h.nt
  · show ((once c.conds).map _).length ≤ 3
    rw [List.length_map]; exact Nat.le_trans (once_length _) h.nc
  · intro l hl
    obtain ⟨l0, hl0, rfl⟩ := List.mem_map.1 hl
    exact litB_ren (h.lits l0 (mem_once.1 hl0)) (hp _ (lit_row hl0))
  · intro l hl
    obtain ⟨l0, hl0, rfl⟩ := List.mem_map.1 hl
    exact litB_ren (h.conds l0 (mem_once.1 hl0)) (hp _ (cond_row hl0))
  · intro t ht
    obtain ⟨t0, ht0, rfl⟩ := List.mem_map.1 ht
    have h0 := h.tups t0 (mem_once.1 ht0)
    have h1 := rowB_ren h0.1 (hp _ (tup_row ht0))
    refine ⟨h1.1, ?_⟩
    rw [h1.2, h0.2]
    show _ = (tlD ss (((once c.tups).map (renR (plc c))).headD [])).length
    rw [← once_head]
    cases e : once c.tups with
    | nil => rfl
    | cons z zs =>
      have hz : z ∈ once c.tups := by rw [e]; exact List.mem_cons_self ..
      show (tlD ss z).length = (tlD ss (renR (plc c) z)).length
      rw [(rowB_ren (h.tups z (mem_once.1 hz)).1 (hp _ (tup_row (c := onceC c) hz))).2]
  · unfold codesC
    rw [rowsC_ren, flat_ren]
    exact Nat.le_trans (flat_sub onceC_sub) h.codes
/-- The Weights of the Lits. -/
def wtC (ss : List Sym) (c : Cl) : Int := (c.lits.map fun l => wtSum ss l.atom).sum
theorem wtSum_ren (r : List Int) : wtSum ss (renR f r) = wtSum ss r := by
  induction r with
  | nil => rfl
  | cons x r ih =>
    show wtOf ss (ren f x) + wtSum ss (renR f r) = wtOf ss x + wtSum ss r
    rw [ih]
    congr 1
    unfold wtOf ren
    by_cases hx : x < 0
    · rw [if_pos hx, if_pos hx, if_pos (by omega)]
    · rw [if_neg hx]
theorem sum_sub {α : Type} (g : α → Int) {s t : List α} (h : s.Sublist t) (h0 : ∀ x ∈ t, 0 ≤ g x) : (s.map g).sum ≤ (t.map g).sum := by
  induction h with
  | slnil => simp
  | cons a _ ih =>
    have := ih fun x hx => h0 x (List.mem_cons_of_mem _ hx)
    have := h0 a (List.mem_cons_self ..)
    simp only [List.map_cons, List.sum_cons]; omega
  | cons_cons a _ ih =>
    have := ih fun x hx => h0 x (List.mem_cons_of_mem _ hx)
    simp only [List.map_cons, List.sum_cons]; omega
/-- The variables of a clause, ascending. -/
def varsC (c : Cl) : List Int := varsN (codesC c) 24
theorem hasV_iff {r : List Int} {v : Nat} : hasV r v = true ↔ v ∈ vrs r := by
  unfold hasV
  rw [List.any_eq_true, mem_vrs]
  constructor
  · rintro ⟨x, hx, e⟩; rw [beq_iff_eq] at e; rw [← e]; exact hx
  · intro h; exact ⟨_, h, by simp⟩
theorem firsts_mem {v : Nat} : v ∈ firsts (codesC (onceC c)) ↔ v ∈ vrs (codesC c) := by unfold firsts; rw [mem_once, vrs_once]
theorem MayC.varsC_length (h : MayC ss c) : (varsC c).length = nV c := by
  unfold varsC varsN nV
  rw [List.length_map]
  refine nodup_same_length (List.nodup_range.sublist List.filter_sublist) (once_nodup _) fun v => ?_
  rw [List.mem_filter, List.mem_range, hasV_iff, firsts_mem]
  exact ⟨fun q => q.2, fun q => ⟨h.var q, q⟩⟩
theorem vrs_norm {v : Nat} : v ∈ vrs (codesC (norm c)) ↔ v < nV c := by
  have : v ∈ firsts (codesC (norm c)) ↔ v < nV c := by rw [firsts_norm, List.mem_range]; rfl
  rw [← this]
  unfold firsts; rw [mem_once]
theorem nV_norm : nV (norm c) = nV c := by
  unfold nV
  rw [once_norm, firsts_norm, List.length_range]
theorem filter_lt (n : Nat) : ∀ m, n ≤ m → (List.range m).filter (fun v => decide (v < n)) = List.range n
  | 0, h => by have : n = 0 := by omega
               subst this; rfl
  | m + 1, h => by
    rw [List.range_succ, List.filter_append]
    by_cases e : n = m + 1
    · subst e
      have h1 : (List.range m).filter (fun v => decide (v < m + 1)) = List.range m := List.filter_eq_self.2 fun v hv => by
        have := List.mem_range.1 hv
        exact decide_eq_true (by omega)
      rw [h1, List.range_succ]; simp
    · rw [filter_lt n m (by omega)]
      have : decide (m < n) = false := decide_eq_false (by omega)
      simp [this]
theorem MayC.vars_norm (h : MayC ss c) : varsC (norm c) = (List.range (nV c)).map Int.ofNat := by
  unfold varsC varsN
  congr 1
  rw [← filter_lt (nV c) 24 h.few]
  refine List.filter_congr fun v hv => ?_
  rw [Bool.eq_iff_iff, hasV_iff, vrs_norm, decide_eq_true_iff]
end
end Go.Proofs.Ytlpafnaokpjoiaa
