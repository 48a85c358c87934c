/-
  Words for memory: a table that is being made: a row is written over another, a row is taken off the end.
-/
import Derived.Test.YthnjpkghjkhjdaaFactP0
import Derived.Test.YthnjpkghjkhjdaaFactDel
namespace Go.Proofs.Ythnjpkghjkhjdaa
open Go.RowKit Go.Deep
set_option linter.unusedSimpArgs false
set_option linter.unusedVariables false
set_option maxRecDepth 100000

section
variable {w0 wn w2 : World} {m g base : Nat} {t : Tb} {v : Tv} {vs us : List Value} {v2 : Value} {L : List (List Int)}
theorem valAt_set {i j : Nat} {z : Value} (hi : i < vs.length) : valAt (vs.set i z) j = if i = j then z else valAt vs j := by
  unfold valAt
  rw [List.getD_eq_getElem?_getD, List.getElem?_set]
  by_cases e : i = j
  · rw [if_pos e, if_pos hi, if_pos e]; rfl
  · rw [if_neg e, if_neg e, List.getD_eq_getElem?_getD]
theorem rowOf_set {i j : Nat} {z : List Int} (hi : i < L.length) : rowOf (L.set i z) j = if i = j then z else rowOf L j := by
  unfold rowOf
  rw [List.getD_eq_getElem?_getD, List.getElem?_set]
  by_cases e : i = j
  · rw [if_pos e, if_pos hi, if_pos e]; rfl
  · rw [if_neg e, if_neg e, List.getD_eq_getElem?_getD]
theorem Rws.set {i j : Nat} (h : Rws wn base vs L) (hi : i < L.length) (hj : j < L.length) : Rws wn base (vs.set i (valAt vs j)) (L.set i (rowOf L j)) := by
  refine ⟨by rw [List.length_set, List.length_set]; exact h.1, fun a ha => ?_⟩
  rw [List.length_set] at ha
  rw [valAt_set (by rw [h.1]; exact hi), rowOf_set hi]
  split
  · exact h.2 j hj
  · exact h.2 a ha
theorem Rws.dropLast (h : Rws wn base vs L) : Rws wn base vs.dropLast L.dropLast := by
  refine ⟨by rw [List.length_dropLast, List.length_dropLast, h.1], fun a ha => ?_⟩
  rw [List.length_dropLast] at ha
  have e1 : valAt vs.dropLast a = valAt vs a := by
    unfold valAt
    rw [List.getD_eq_getElem?_getD, List.getElem?_dropLast, if_pos (by rw [h.1]; exact ha), List.getD_eq_getElem?_getD]
  have e2 : rowOf L.dropLast a = rowOf L a := by
    unfold rowOf
    rw [List.getD_eq_getElem?_getD, List.getElem?_dropLast, if_pos ha, List.getD_eq_getElem?_getD]
  rw [e1, e2]
  exact h.2 a (by omega)
/-- Behind a store of other rows. -/
theorem TabV.rows (q : TabV w0 m g t v wn) (hown2 : OwnR w2 m v2 us) (hc2 : Chg [23] m wn w2) (hrw : Rws wn m us L) :
    ∃ D n e, v2 = .slice D n e ∧ w2.cell? ⟨g, 1, none⟩ = some (.slice v.A2 v.n2 v.c2) ∧ w2.frozen? ⟨g, 1, none⟩ = false ∧ TabV w0 m g ⟨t.slots, L⟩ ⟨v.A1, v.n1, v.c1, D, n, e⟩ (w2.setCell ⟨g, 1, none⟩ (.slice D n e)) ∧ KeepT g wn (w2.setCell ⟨g, 1, none⟩ (.slice D n e)) := by
  obtain ⟨D, e, rfl⟩ := hown2.valued
  obtain ⟨n, hn⟩ : ∃ n, n = us.length := ⟨_, rfl⟩
  have hown3 : OwnR w2 m (.slice D n e) us := by rw [hn]; exact hown2
  have o := OwnT.mk hown3 (hrw.chg hc2 (by decide))
  have hb2 := hc2.blk _ _ _ _ q.blk (by decide)
  have cs : Chg [26] w0.heap.size w2 (w2.setCell ⟨g, 1, none⟩ (.slice D n e)) := Chg.set hb2 q.ge _
  obtain ⟨us, b1, b2⟩ := o.vals
  exact ⟨D, n, e, by rw [hn], by rw [cell_of_row _ _ 1 _ _ _ hb2]; rfl, frozen_of_row _ _ _ _ _ hb2,
    ⟨q.ge, q.gm, Nat.le_trans q.mx (Nat.le_trans hc2.bel.size cs.bel.size), q.lo, heap_setCell_same _ _ 1 _ _ _ hb2, cs.own (by decide) (hc2.own (by decide) q.a), OwnT.mk (b1.chg cs (by decide)) (b2.chg cs (by decide)), (q.bel.trans (hc2.bel.mono q.gm)).trans cs.bel⟩,
    (KeepT.of_chg hc2 (by decide)).trans (KeepT.of_set _)⟩
/-- Row j is written over row i. -/
theorem TabV.over (q : TabV w0 m g t v wn) {i j : Nat} (hi : i < t.facts.length) (hj : j < t.facts.length) :
    ∃ b A c z, v.A2 = some ⟨b, 0, none⟩ ∧ wn.cell? ⟨b, j, none⟩ = some (.slice A (rowOf t.facts j).length c) ∧ wn.cell? ⟨b, i, none⟩ = some z ∧ wn.frozen? ⟨b, i, none⟩ = false ∧
      TabV w0 m g ⟨t.slots, t.facts.set i (rowOf t.facts j)⟩ v (wn.setCell ⟨b, i, none⟩ (.slice A (rowOf t.facts j).length c)) ∧ KeepT g wn (wn.setCell ⟨b, i, none⟩ (.slice A (rowOf t.facts j).length c)) ∧
      (wn.setCell ⟨b, i, none⟩ (.slice A (rowOf t.facts j).length c)).cell? ⟨b, j, none⟩ = some (.slice A (rowOf t.facts j).length c) := by
  obtain ⟨vs, b1, b2⟩ := q.b.vals
  obtain ⟨hl, hh⟩ := b1
  have hvl := b2.1
  rcases hh with ⟨_, q0⟩ | ⟨b, cap, cur, hv, hg, hb, hc1, hc2, hc3, hc4⟩
  · omega
  have hv2 := hv
  simp only [Value.slice.injEq] at hv2
  obtain ⟨e1, e2, e3⟩ := hv2
  have b1' : OwnR wn m (.slice (some ⟨b, 0, none⟩) vs.length cap) vs := ⟨hl, .inr ⟨b, cap, cur, rfl, hg, hb, hc1, hc2, hc3, hc4⟩⟩
  obtain ⟨A, c, eA⟩ := (b2.2 j hj).value
  have hcell : ∀ a, a < vs.length → wn.cell? ⟨b, a, none⟩ = some (valAt vs a) := fun a ha => by
    rw [own_get b1' a ha]
    unfold valAt
    rw [List.getD_eq_getElem?_getD, List.getElem?_eq_getElem ha]; rfl
  have hgb : g ≠ b := fun z => by have := q.blk; rw [z, hb] at this; injection this with this; injection this with _ this; cases this
  have cs : Chg [23] w0.heap.size wn (wn.setCell ⟨b, i, none⟩ (.slice A (rowOf t.facts j).length c)) := Chg.set hb (Nat.le_trans q.gm hg) _
  have hst := (World.ownsRow.stored b1' i (.slice A (rowOf t.facts j).length c)).1
  have hr : OwnR (wn.setCell ⟨b, i, none⟩ (.slice A (rowOf t.facts j).length c)) m (.slice v.A2 v.n2 v.c2) (vs.set i (.slice A (rowOf t.facts j).length c)) := by
    unfold OwnR
    rw [List.length_set, e1, e2, e3]
    exact hst
  have hrs := b2.set hi hj
  rw [eA] at hrs
  have hfin : TabV w0 m g ⟨t.slots, t.facts.set i (rowOf t.facts j)⟩ v (wn.setCell ⟨b, i, none⟩ (.slice A (rowOf t.facts j).length c)) :=
    ⟨q.ge, q.gm, Nat.le_trans q.mx cs.bel.size, q.lo, by rw [heap_setCell_other _ _ _ _ hgb]; exact q.blk, cs.own (by decide) q.a, OwnT.mk hr (hrs.chg cs (by decide)), q.bel.trans cs.bel⟩
  refine ⟨b, A, c, _, e1, by rw [hcell j (by omega), eA], hcell i (by omega), frozen_of_row _ _ _ _ _ hb, hfin, KeepT.of_chg cs (by decide), ?_⟩
  have hst2 : OwnR (wn.setCell ⟨b, i, none⟩ (.slice A (rowOf t.facts j).length c)) m (.slice (some ⟨b, 0, none⟩) (vs.set i (.slice A (rowOf t.facts j).length c)).length cap) (vs.set i (.slice A (rowOf t.facts j).length c)) := by
    unfold OwnR
    rw [List.length_set]
    exact hst
  rw [own_get hst2 j (by rw [List.length_set]; omega), List.getElem?_set]
  by_cases z : i = j
  · rw [if_pos z, if_pos (by omega)]
  · rw [if_neg z]
    have := hcell j (by omega)
    rw [own_get b1' j (by omega), eA] at this
    exact this
end
theorem OwnR.cut {w : World} {base b q cap : Nat} {vs : List Value} (h : OwnR w base (.slice (some ⟨b, 0, none⟩) (q + 1) cap) vs) (hn : vs.length = q + 1) : OwnR w base (.slice (some ⟨b, 0, none⟩) q cap) vs.dropLast := by
  obtain ⟨hl, hh⟩ := h
  rcases hh with ⟨e, _⟩ | ⟨b', cap', cur, hv, hg, hb, hc1, hc2, hc3, hc4⟩
  · cases e
  · simp only [Value.slice.injEq] at hv
    obtain ⟨e1, e2, e3⟩ := hv
    injection e1 with e1
    injection e1 with e1
    subst e1 e3
    refine ⟨by rw [Nat.mul_one], .inr ⟨b, cap, cur, by rw [List.length_dropLast, hn]; rfl, hg, hb, by rw [List.length_dropLast]; omega, hc2, hc3, ?_⟩⟩
    rw [Nat.mul_one, hn] at hc4
    rw [Nat.mul_one, List.length_dropLast, hn, ← hc4, List.dropLast_eq_take, List.take_take, List.length_take]
    have h2 : (List.take (q + 1) cur.toList).length = q + 1 := by rw [hc4]; exact hn
    rw [List.length_take] at h2
    rw [h2]
    congr 1
    omega
theorem OwnR.room {w : World} {base b q cap : Nat} {vs : List Value} (h : OwnR w base (.slice (some ⟨b, 0, none⟩) (q + 1) cap) vs) (hn : vs.length = q + 1) : q + 1 ≤ cap := by
  obtain ⟨hl, hh⟩ := h
  rcases hh with ⟨e, _⟩ | ⟨b', cap', cur, hv, hg, hb, hc1, hc2, hc3, hc4⟩
  · cases e
  · simp only [Value.slice.injEq] at hv
    obtain ⟨e1, e2, e3⟩ := hv
    omega
end Go.Proofs.Ythnjpkghjkhjdaa
