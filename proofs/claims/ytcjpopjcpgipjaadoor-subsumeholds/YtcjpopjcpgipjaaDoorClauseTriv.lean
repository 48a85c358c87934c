/-
  Contracts: clause.isIdentity, hasOpposite, Trivial.
-/
import Derived.Test.YtcjpopjcpgipjaaDoorClauseSame
import Derived.Test.YtcjpopjcpgipjaaDoorPlainMd
import Derived.Test.YtcjpopjcpgipjaaDoorOrderAll2
namespace Go.Proofs.YtcjpopjcpgipjaaDoor
open Go.RowKit Go.Deep
set_option linter.unusedSimpArgs false
set_option linter.unusedVariables false
set_option maxRecDepth 100000

/-- An equation of two equal terms. -/
def IdP (ss : List Sym) (l : Lt) : Prop := l.neg = false ∧ ∃ t x, l.atom = 0 :: (t ++ t) ∧ tl ss t = some [x]
noncomputable def idB (ss : List Sym) (l : Lt) : Bool := @decide (IdP ss l) (Classical.propDecidable _)
theorem idB_iff {ss : List Sym} {l : Lt} : idB ss l = true ↔ IdP ss l := by unfold idB; exact @decide_eq_true_iff _ (Classical.propDecidable _)
theorem idB_not {ss : List Sym} {l : Lt} (h : ¬ IdP ss l) : idB ss l = false := by
  cases e : idB ss l
  · rfl
  · exact absurd (idB_iff.1 e) h
/-- The two sides of an equation. -/
theorem eq_sides {ss : List Sym} {p : Lt} (h : litB ss p = true) (h0 : intAt p.atom 0 = 0) : ∃ z y, p.atom = 0 :: (z ++ y) ∧ trm 24 ss z 1 ∧ trm 24 ss y 1 := by
  have hx := atom_ex (show atomB ss p.atom = true from h)
  rcases hx.2.shape hx.1 with ⟨v, _, e⟩ | ⟨c, r, e, h1, h2, h3⟩
  · rw [e] at h0
    unfold intAt at h0
    simp at h0
    omega
  · rw [e] at h0
    have hc : c = 0 := h0
    subst hc
    have ha := (may_first hx.1).2.1
    have e2 : (symAt ss (0 : Int).toNat).arity.toNat = 1 + 1 := by
      show (symAt ss 0).arity.toNat = 2
      rw [ha]; rfl
    rw [e2] at h3
    obtain ⟨z, y, q1, q2, q3⟩ := trm_split h3
    exact ⟨z, y, by rw [e, q1], q2, q3⟩
theorem idB_sides {ss : List Sym} {p : Lt} {z y : List Int} (hn : p.neg = false) (e : p.atom = 0 :: (z ++ y)) (hz : trm 24 ss z 1) (hy : trm 24 ss y 1) : idB ss p = sameI z y := by
  rw [Bool.eq_iff_iff, idB_iff]
  unfold sameI
  rw [decide_eq_true_iff]
  constructor
  · rintro ⟨_, t, x, h1, h2⟩
    rw [e] at h1
    injection h1 with _ h1
    obtain ⟨q1, q2⟩ := trm_uniq hz (trm_of_tl h2) h1
    rw [q1, q2]
  · rintro rfl
    obtain ⟨ms, h1, h2⟩ := tl_of_trm hz
    obtain ⟨x, rfl⟩ : ∃ x, ms = [x] := by
      match ms, h2 with
      | [x], _ => exact ⟨x, rfl⟩
    exact ⟨hn, z, x, e, h1⟩
theorem idB_code {ss : List Sym} {p : Lt} (h : ¬ intAt p.atom 0 = 0) : idB ss p = false := idB_not fun ⟨_, t, x, h1, _⟩ => h (by rw [h1]; rfl)
theorem idB_neg {ss : List Sym} {p : Lt} (h : p.neg = true) : idB ss p = false := idB_not fun ⟨h1, _⟩ => by rw [h] at h1; cases h1
/-- The opposite of a literal. -/
def opp (l : Lt) : Lt := ⟨!l.neg, l.atom⟩
section
variable {ss : List Sym} {c : Cl}
theorem dull_id {i : Nat} (hi : i < c.lits.length) (h : idB ss (ltAt c.lits i) = true) : dullB ss c = true := by
  obtain ⟨h1, t, x, h2, h3⟩ := idB_iff.1 h
  exact dullB_iff.2 (.inl ⟨_, ltAt_mem hi, h1, t, x, h2, h3⟩)
theorem dull_opp {i : Nat} (hi : i < c.lits.length) (h : hasL (opp (ltAt c.lits i)) (c.lits.take i) = true) : dullB ss c = true := by
  have := List.mem_of_mem_take (hasL_iff.1 h)
  refine dullB_iff.2 (.inr ⟨_, ltAt_mem hi, _, this, rfl, ?_⟩)
  show (ltAt c.lits i).neg ≠ !(ltAt c.lits i).neg
  cases (ltAt c.lits i).neg <;> decide
theorem dull_no (h : ∀ i, i < c.lits.length → idB ss (ltAt c.lits i) = false ∧ hasL (opp (ltAt c.lits i)) (c.lits.take i) = false) : dullB ss c = false := by
  cases e : dullB ss c
  · rfl
  · exfalso
    have key : ∀ i j, i < j → j < c.lits.length → (ltAt c.lits i).atom = (ltAt c.lits j).atom → (ltAt c.lits i).neg ≠ (ltAt c.lits j).neg → False := by
      intro i j hij hj ha hn
      have h1 := (h j hj).2
      have h2 : hasL (opp (ltAt c.lits j)) (c.lits.take j) = true := by
        rw [hasL_iff]
        have e1 : opp (ltAt c.lits j) = ltAt c.lits i := by
          refine Lt.ext_ ?_ ha.symm
          show (!(ltAt c.lits j).neg) = _
          revert hn
          cases (ltAt c.lits i).neg <;> cases (ltAt c.lits j).neg <;> simp
        rw [e1]
        refine List.mem_of_getElem? (i := i) ?_
        rw [List.getElem?_take, if_pos hij, ltAt_get (by omega)]
      rw [h1] at h2; cases h2
    rcases dullB_iff.1 e with ⟨l, hl, hn, t, x, ha, ht⟩ | ⟨l, hl, k, hk, ha, hn⟩
    · obtain ⟨i, hi, rfl⟩ := mem_ltAt hl
      have := (h i hi).1
      rw [idB_iff.2 ⟨hn, t, x, ha, ht⟩] at this
      cases this
    · obtain ⟨i, hi, rfl⟩ := mem_ltAt hl
      obtain ⟨j, hj, rfl⟩ := mem_ltAt hk
      rcases Nat.lt_trichotomy i j with q | q | q
      · exact key i j q hj ha hn
      · subst q; exact hn rfl
      · exact key j i q hi ha.symm hn.symm
end
theorem LitsAt.take {w : World} {B n k : Nat} {A : Option Addr} {ls : List Lt} (h : LitsAt w B A n ls) (hk : k ≤ n) : LitsAt w B A k (ls.take k) := by
  have hl := h.len
  have e : ∀ i, i < k → ltAt (ls.take k) i = ltAt ls i := by
    intro i hi
    unfold ltAt
    rw [List.getD_eq_getElem?_getD, List.getD_eq_getElem?_getD, List.getElem?_take, if_pos hi]
  refine ⟨by rw [List.length_take]; omega, fun h0 => ?_, fun i hi => by rw [e i hi]; exact h.fit i (by omega)⟩
  obtain ⟨b, off, e1, hb, hc⟩ := h.at_ (by omega)
  refine ⟨b, off, e1, hb, fun i hi => ?_⟩
  rw [e i hi]; exact hc i (by omega)

noncomputable def dullO (ss : List Sym) (c : Cl) : Bool := mayC ss c && dullB ss c
end Go.Proofs.YtcjpopjcpgipjaaDoor
