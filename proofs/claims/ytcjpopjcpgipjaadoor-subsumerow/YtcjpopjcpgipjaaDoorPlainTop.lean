/-
  Plain words: the greatest of some literals, kept one by one: no program.
-/
import Derived.Test.YtcjpopjcpgipjaaDoorPlainLit
namespace Go.Proofs.YtcjpopjcpgipjaaDoor
open Go.RowKit
set_option linter.unusedSimpArgs false
set_option linter.unusedVariables false
set_option maxRecDepth 100000

theorem mem_ltAt {ls : List Lt} {p : Lt} (h : p ∈ ls) : ∃ j, j < ls.length ∧ ltAt ls j = p := by
  obtain ⟨j, hj, e⟩ := List.mem_iff_getElem.1 h
  refine ⟨j, hj, ?_⟩
  have := ltAt_get hj
  rw [List.getElem?_eq_getElem hj] at this
  simp only [Option.some.injEq] at this
  rw [← this, e]
noncomputable def lmB (ss : List Sym) (p q : Lt) : Bool := @decide (LMor ss p q) (Classical.propDecidable _)
theorem lmB_iff {ss : List Sym} {p q : Lt} : lmB ss p q = true ↔ LMor ss p q := by unfold lmB; exact @decide_eq_true_iff _ (Classical.propDecidable _)
/-- g is p, or more than p. -/
noncomputable def overB (ss : List Sym) (p g : Lt) : Bool := @decide (g = p ∨ LMor ss g p) (Classical.propDecidable _)
theorem overB_iff {ss : List Sym} {p g : Lt} : overB ss p g = true ↔ (g = p ∨ LMor ss g p) := by unfold overB; exact @decide_eq_true_iff _ (Classical.propDecidable _)
/-- Those than which p is not more. -/
noncomputable def keepL (ss : List Sym) (p : Lt) (gs : List Lt) : List Lt := gs.filter fun g => !lmB ss p g
noncomputable def entL (ss : List Sym) (gs : List Lt) (p : Lt) : List Lt := if gs.any (overB ss p) then gs else keepL ss p gs ++ [p]
section
variable {ss : List Sym} {gs ls : List Lt} {p g : Lt} {k : Nat}
theorem keepL_length : (keepL ss p gs).length ≤ gs.length := List.length_filter_le _ _
theorem mem_keepL : g ∈ keepL ss p gs ↔ g ∈ gs ∧ ¬ LMor ss p g := by
  unfold keepL
  rw [List.mem_filter]
  refine and_congr_right fun _ => ?_
  rw [← lmB_iff]
  simp
theorem take_succ (hk : k < gs.length) : gs.take (k + 1) = gs.take k ++ [ltAt gs k] := by rw [List.take_add_one, ltAt_get hk]; rfl
theorem keepL_in (hk : k < gs.length) (h : ¬ LMor ss p (ltAt gs k)) : keepL ss p (gs.take (k + 1)) = keepL ss p (gs.take k) ++ [ltAt gs k] := by
  have : lmB ss p (ltAt gs k) = false := by cases e : lmB ss p (ltAt gs k); rfl; exact absurd (lmB_iff.1 e) h
  rw [take_succ hk]; unfold keepL; rw [List.filter_append]; simp [this]
theorem keepL_out (hk : k < gs.length) (h : LMor ss p (ltAt gs k)) : keepL ss p (gs.take (k + 1)) = keepL ss p (gs.take k) := by
  have : lmB ss p (ltAt gs k) = true := lmB_iff.2 h
  rw [take_succ hk]; unfold keepL; rw [List.filter_append]; simp [this]
theorem keepL_take : (keepL ss p (gs.take k)).length ≤ k := Nat.le_trans keepL_length (by simp; omega)
/-- What lies in the block of the greatest ones, k of them looked at. -/
noncomputable def contL (ss : List Sym) (p : Lt) (gs : List Lt) (k : Nat) : List Lt := keepL ss p (gs.take k) ++ gs.drop (keepL ss p (gs.take k)).length
theorem contL_zero : contL ss p gs 0 = gs := by unfold contL keepL; simp
theorem contL_length (hk : k ≤ gs.length) : (contL ss p gs k).length = gs.length := by
  have := keepL_take (ss := ss) (p := p) (gs := gs) (k := k)
  unfold contL; rw [List.length_append, List.length_drop]; omega
theorem contL_at (hk : k < gs.length) : ltAt (contL ss p gs k) k = ltAt gs k := by
  have hle := keepL_take (ss := ss) (p := p) (gs := gs) (k := k)
  unfold contL ltAt
  rw [List.getD_eq_getElem?_getD, List.getD_eq_getElem?_getD, List.getElem?_append_right hle, List.getElem?_drop]
  congr 2
  omega
theorem contL_in (hk : k < gs.length) (h : ¬ LMor ss p (ltAt gs k)) : contL ss p gs (k + 1) = (contL ss p gs k).set (keepL ss p (gs.take k)).length (ltAt gs k) := by
  have hle := keepL_take (ss := ss) (p := p) (gs := gs) (k := k)
  unfold contL
  rw [keepL_in hk h, List.set_append_right _ _ (Nat.le_refl _), Nat.sub_self, List.length_append, List.append_assoc]
  congr 1
  rw [List.drop_eq_getElem_cons (i := (keepL ss p (gs.take k)).length) (by omega)]
  rfl
theorem contL_out (hk : k < gs.length) (h : LMor ss p (ltAt gs k)) : contL ss p gs (k + 1) = contL ss p gs k := by unfold contL; rw [keepL_out hk h]
theorem contL_take : (contL ss p gs k).take (keepL ss p (gs.take k)).length = keepL ss p (gs.take k) := by unfold contL; simp
/-- One of them is p or more than p, and none is more than another: then nothing has been left out. -/
theorem contL_same (hac : ∀ g ∈ gs, ∀ h ∈ gs, ¬ LMor ss g h) (hk : k < gs.length) (h : ltAt gs k = p ∨ LMor ss (ltAt gs k) p) : contL ss p gs k = gs := by
  have e : keepL ss p (gs.take k) = gs.take k := by
    unfold keepL
    rw [List.filter_eq_self]
    intro g hg
    have hg' := List.mem_of_mem_take hg
    cases e : lmB ss p g
    · rfl
    · exfalso
      have hm := lmB_iff.1 e
      rcases h with h | h
      · rw [← h] at hm; exact hac _ (ltAt_mem hk) _ hg' hm
      · exact hac _ (ltAt_mem hk) _ hg' (h.trans hm)
  unfold contL
  rw [e, List.length_take, Nat.min_eq_left (by omega), List.take_append_drop]
theorem entL_over (hk : k < gs.length) (h : ltAt gs k = p ∨ LMor ss (ltAt gs k) p) : entL ss gs p = gs := by
  unfold entL
  rw [if_pos (List.any_eq_true.2 ⟨_, ltAt_mem hk, overB_iff.2 h⟩)]
theorem entL_new (h : ∀ j, j < gs.length → ¬ (ltAt gs j = p ∨ LMor ss (ltAt gs j) p)) : entL ss gs p = keepL ss p gs ++ [p] := by
  unfold entL
  rw [if_neg]
  intro q
  obtain ⟨g, hg, ho⟩ := List.any_eq_true.1 q
  obtain ⟨j, hj, rfl⟩ := mem_ltAt hg
  exact h j hj (overB_iff.1 ho)
/-- G: the greatest of ls. -/
structure Grt (ss : List Sym) (ls gs : List Lt) : Prop where
  sub : ∀ g ∈ gs, g ∈ ls
  apart : ∀ g ∈ gs, ∀ h ∈ gs, ¬ LMor ss g h
  over : ∀ q ∈ ls, ∃ g ∈ gs, g = q ∨ LMor ss g q
  few : gs.length ≤ ls.length
theorem Grt.nil : Grt ss [] [] := ⟨fun _ h => absurd h List.not_mem_nil, fun _ h => absurd h List.not_mem_nil, fun _ h => absurd h List.not_mem_nil, Nat.le_refl _⟩
theorem Grt.step (h : Grt ss ls gs) (p : Lt) : Grt ss (ls ++ [p]) (entL ss gs p) := by
  by_cases ho : ∃ j, j < gs.length ∧ (ltAt gs j = p ∨ LMor ss (ltAt gs j) p)
  · obtain ⟨j, hj, ho⟩ := ho
    rw [entL_over hj ho]
    refine ⟨fun g hg => List.mem_append_left _ (h.sub g hg), h.apart, fun q hq => ?_, by have := h.few; simp; omega⟩
    rcases List.mem_append.1 hq with hq | hq
    · exact h.over q hq
    · rw [List.mem_singleton] at hq; subst hq; exact ⟨_, ltAt_mem hj, ho⟩
  · have hno : ∀ j, j < gs.length → ¬ (ltAt gs j = p ∨ LMor ss (ltAt gs j) p) := fun j hj q => ho ⟨j, hj, q⟩
    rw [entL_new hno]
    refine ⟨fun g hg => ?_, fun g hg q hq => ?_, fun q hq => ?_, ?_⟩
    · rcases List.mem_append.1 hg with hg | hg
      · exact List.mem_append_left _ (h.sub g (mem_keepL.1 hg).1)
      · exact List.mem_append_right _ hg
    · rcases List.mem_append.1 hg with hg | hg
      · rcases List.mem_append.1 hq with hq | hq
        · exact h.apart g (mem_keepL.1 hg).1 q (mem_keepL.1 hq).1
        · rw [List.mem_singleton] at hq; subst hq
          obtain ⟨j, hj, rfl⟩ := mem_ltAt (mem_keepL.1 hg).1
          exact fun x => hno j hj (.inr x)
      · rw [List.mem_singleton] at hg; subst hg
        rcases List.mem_append.1 hq with hq | hq
        · exact (mem_keepL.1 hq).2
        · rw [List.mem_singleton] at hq; subst hq; exact LMor.irrefl
    · rcases List.mem_append.1 hq with hq | hq
      · obtain ⟨g, hg, hgq⟩ := h.over q hq
        by_cases hm : LMor ss p g
        · refine ⟨p, List.mem_append_right _ (List.mem_singleton.2 rfl), .inr ?_⟩
          rcases hgq with e | e
          · rw [← e]; exact hm
          · exact hm.trans e
        · exact ⟨g, List.mem_append_left _ (mem_keepL.2 ⟨hg, hm⟩), hgq⟩
      · rw [List.mem_singleton] at hq; subst hq
        exact ⟨_, List.mem_append_right _ (List.mem_singleton.2 rfl), .inl rfl⟩
    · have h1 := keepL_length (ss := ss) (p := p) (gs := gs)
      have h2 := h.few
      simp only [List.length_append, List.length_cons, List.length_nil]
      omega
theorem Grt.top (h : Grt ss ls gs) {i : Nat} (hi : i < ls.length) : ltAt ls i ∈ gs ↔ topB ss ls i = true := by
  rw [topB_iff]
  constructor
  · intro hm k hk hl
    obtain ⟨g, hg, ho⟩ := h.over _ (ltAt_mem hk)
    rcases ho with e | e
    · rw [← e] at hl; exact h.apart _ hg _ hm hl
    · exact h.apart _ hg _ hm (e.trans hl)
  · intro ht
    obtain ⟨g, hg, ho⟩ := h.over _ (ltAt_mem hi)
    rcases ho with e | e
    · rw [← e]; exact hg
    · obtain ⟨j, hj, rfl⟩ := mem_ltAt (h.sub g hg)
      exact absurd e (ht j hj)
/-- The same literal. -/
def sameL (p q : Lt) : Bool := p.neg == q.neg && sameI p.atom q.atom
theorem sameL_iff {p q : Lt} : sameL p q = true ↔ q = p := by
  unfold sameL sameI
  rw [Bool.and_eq_true, beq_iff_eq, decide_eq_true_iff]
  exact ⟨fun h => Lt.ext_ h.1.symm h.2.symm, fun h => by subst h; exact ⟨rfl, rfl⟩⟩
def hasL (p : Lt) (gs : List Lt) : Bool := gs.any (sameL p)
theorem hasL_iff {p : Lt} : hasL p gs = true ↔ p ∈ gs := by
  unfold hasL
  rw [List.any_eq_true]
  constructor
  · rintro ⟨g, hg, h⟩; rw [sameL_iff] at h; rw [← h]; exact hg
  · intro h; exact ⟨p, h, sameL_iff.2 rfl⟩
theorem hasL_yes {p : Lt} {k : Nat} (hk : k < gs.length) (h : sameL p (ltAt gs k) = true) : hasL p gs = true := List.any_eq_true.2 ⟨_, ltAt_mem hk, h⟩
theorem hasL_no {p : Lt} (h : ∀ k, k < gs.length → sameL p (ltAt gs k) = false) : hasL p gs = false := by
  unfold hasL
  rw [List.any_eq_false]
  intro g hg
  obtain ⟨j, hj, rfl⟩ := mem_ltAt hg
  rw [h j hj]; simp
theorem Grt.has (h : Grt ss ls gs) {i : Nat} (hi : i < ls.length) : hasL (ltAt ls i) gs = topB ss ls i := by
  rw [Bool.eq_iff_iff, hasL_iff, h.top hi]
end
end Go.Proofs.YtcjpopjcpgipjaaDoor
