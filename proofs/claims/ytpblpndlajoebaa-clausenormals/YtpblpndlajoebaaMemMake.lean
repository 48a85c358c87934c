/-
  Words for memory: a slice stored into a field; a clause that is made by appends, in its box.
-/
import Derived.Test.YtpblpndlajoebaaClauseNorm
namespace Go.Proofs.Ytpblpndlajoebaa
open Go.RowKit Go.Deep
set_option linter.unusedSimpArgs false
set_option linter.unusedVariables false
set_option maxRecDepth 100000

theorem store_slice_op {w : World} {o : Oper} {a : Act} {K : Act → World → Prop} {Q : Exit → Act → World → Prop} (t : TypeId) (p x : Operand) (ho : o.op = .store t p x) (hdst : o.dst = none)
    (g i : Nat) (A : Option Addr) (n c : Nat) (u : Value) (hp : a.eval p = .pointer (some ⟨g, i, none⟩)) (hx : a.eval x = .slice A n c) (hcell : w.cell? ⟨g, i, none⟩ = some u) (hfz : w.frozen? ⟨g, i, none⟩ = false) (hi : (Try.prog.info? t).map (·.size) = some 1)
    (h : K a (w.setCell ⟨g, i, none⟩ (.slice A n c))) : o.wp Try.prog a w K Q := by
  have hadd : (⟨g, i, none⟩ : Addr).add 0 = ⟨g, i, none⟩ := by unfold Addr.add; split <;> simp_all
  have hst : (Instr.storeAt t (.pointer (some ⟨g, i, none⟩)) (.slice A n c)).run Try.prog w = .ok () (w.setCell ⟨g, i, none⟩ (.slice A n c)) := by
    simp only [Instr.storeAt, Instr.sureAddr, Sem.run_bind, Sem.run_pure, Result.andThen_ok]
    cases hq : Try.prog.info? t with
    | none => simp [hq] at hi
    | some j =>
      have hs : j.size = 1 := by simpa [hq] using hi
      have h1 : (store ((⟨g, i, none⟩ : Addr).add 0) (.slice A n c)).run Try.prog w = .ok () (w.setCell ⟨g, i, none⟩ (.slice A n c)) := by
        rw [hadd, run_store Try.prog w _ _ _ rfl, hcell]
        simp [hfz]
      simp [storeVar, sizeOf, typeInfo, hq, Value.cells, hs, storeCells, h1]
  unfold Oper.wp
  simp only [execOp, ho, hp, hx, Sem.run_bind, hst, Result.andThen]
  simp [Oper.upon, hdst, Act.put, h]
theorem store_slice_step {w : World} {ops : Array Oper} {o : Oper} {a : Act} {K : Act → World → Prop} {Q : Exit → Act → World → Prop} {E : Prop} (hgd : o.guard = none) (t : TypeId) (p x : Operand) (ho : o.op = .store t p x) (hdst : o.dst = none)
    (g i : Nat) (A : Option Addr) (n c : Nat) (u : Value) (hp : a.eval p = .pointer (some ⟨g, i, none⟩)) (hx : a.eval x = .slice A n c) (hcell : w.cell? ⟨g, i, none⟩ = some u) (hfz : w.frozen? ⟨g, i, none⟩ = false) (hi : (Try.prog.info? t).map (·.size) = some 1)
    (h : K a (w.setCell ⟨g, i, none⟩ (.slice A n c))) : if Region.wanted o (yielded ops a.tmps) = true then Oper.wp Try.prog o a w K Q else E := by
  have hw : Region.wanted o (yielded ops a.tmps) = true := by simp [Region.wanted, hgd]
  rw [if_pos hw]
  exact store_slice_op t p x ho hdst g i A n c u hp hx hcell hfz hi h

theorem lits_below {wn w2 : World} {g h : Nat} {v2 : Value} {ls : List Lt} (q : OwnL wn g v2 ls) (hc : Chg [57] h wn w2) (hl : ∀ b, v2.ownBlock = some b → b < h) : OwnL w2 g v2 ls := by
  obtain ⟨vs, a, r⟩ := q.vals
  refine OwnLv.own ⟨a.1, a.2.1, ?_⟩ (r.chg hc (by decide))
  rcases a.2.2 with e | ⟨k, cap, cur, e, hg, hb, rest⟩
  · exact .inl e
  · exact .inr ⟨k, cap, cur, e, hg, by rw [hc.bel.block k (hl k (by rw [e]; rfl))]; exact hb, rest⟩
theorem lits_lt {wn : World} {g : Nat} {v2 : Value} {ls : List Lt} (q : OwnL wn g v2 ls) : ∀ b, v2.ownBlock = some b → b < wn.heap.size := by
  obtain ⟨vs, a, r⟩ := q.vals
  exact fun b hb => (World.ownsRow.lt a.2 b hb).2
/-- The clause that is made, in its box g; its Conds lie from h on, its Lits below. -/
structure MkV (w0 : World) (g h : Nat) (c : Cl) (v : Cv) (wr : World) : Prop where
  blk : wr.heap[g]? = some (.cells #[.slice v.A1 v.n1 v.c1, .slice v.A2 v.n2 v.c2, .slice v.A3 v.n3 v.c3] 26 (0, 0))
  a : OwnL wr g (.slice v.A1 v.n1 v.c1) c.lits
  lb : ∀ b, (Value.slice v.A1 v.n1 v.c1).ownBlock = some b → b < h
  b : OwnT wr g (.slice v.A2 v.n2 v.c2) c.tups
  d : OwnL wr h (.slice v.A3 v.n3 v.c3) c.conds
  ch : Chg [26, 57, 33] g w0 wr
  gh : g ≤ h
  hs : h ≤ wr.heap.size
section
variable {w0 wr wn w2 : World} {g h : Nat} {c : Cl} {v : Cv} {vs : List Value} {u v2 : Value} {x : Bool} {t : List Int}
theorem MkV.c0 (q : MkV w0 g h c v wr) : wr.cell? ⟨g, 0, none⟩ = some (.slice v.A1 v.n1 v.c1) := by rw [cell_of_row _ _ 0 _ _ _ q.blk]; rfl
theorem MkV.c1 (q : MkV w0 g h c v wr) : wr.cell? ⟨g, 1, none⟩ = some (.slice v.A2 v.n2 v.c2) := by rw [cell_of_row _ _ 1 _ _ _ q.blk]; rfl
theorem MkV.c2 (q : MkV w0 g h c v wr) : wr.cell? ⟨g, 2, none⟩ = some (.slice v.A3 v.n3 v.c3) := by rw [cell_of_row _ _ 2 _ _ _ q.blk]; rfl
theorem MkV.fz (q : MkV w0 g h c v wr) (i : Nat) : wr.frozen? ⟨g, i, none⟩ = false := frozen_of_row _ _ _ _ _ q.blk
theorem MkV.lt (q : MkV w0 g h c v wr) : g < wr.heap.size := (Array.getElem?_eq_some_iff.1 q.blk).1
theorem MkV.on (q : MkV w0 g h c v wr) (hb : Below wr.heap.size wr w2) : MkV w0 g h c v w2 :=
  ⟨by rw [hb.block g q.lt]; exact q.blk, q.a.on hb, q.lb, q.b.on hb, q.d.on hb, q.ch.trans (Chg.of_below hb (Nat.le_of_lt q.lt)), q.gh, by have := q.hs; have := hb.size; omega⟩
theorem MkV.bel (q : MkV w0 g h c v wr) : Below g w0 wr := q.ch.bel
/-- Behind an append to the Lits, the Tuples, the Conds. -/
theorem MkV.app1 {ls : List Lt} (q : MkV w0 g h ⟨ls, [], []⟩ ⟨v.A1, v.n1, v.c1, none, 0, 0, none, 0, 0⟩ wn) (hown2 : OwnLv w2 g v2 (ls ++ [⟨x, t⟩]) (vs ++ [u])) (hc2 : Chg [57] g wn w2) (hrw : Rws wn g (vs ++ [u]) (ls.map Lt.atom ++ [t])) :
    ∃ D L e, v2 = .slice D L e ∧ w2.cell? ⟨g, 0, none⟩ = some (.slice v.A1 v.n1 v.c1) ∧ w2.frozen? ⟨g, 0, none⟩ = false ∧ g < w2.heap.size ∧ MkV w0 g (w2.setCell ⟨g, 0, none⟩ (.slice D L e)).heap.size ⟨ls ++ [⟨x, t⟩], [], []⟩ ⟨D, L, e, none, 0, 0, none, 0, 0⟩ (w2.setCell ⟨g, 0, none⟩ (.slice D L e)) := by
  obtain ⟨D, e, hv⟩ := hown2.valued
  obtain ⟨L, hL⟩ : ∃ L, L = (ls ++ [(⟨x, t⟩ : Lt)]).length := ⟨_, rfl⟩
  rw [← hL] at hv
  subst hv
  have o : OwnL w2 g (.slice D L e) (ls ++ [⟨x, t⟩]) := hown2.own (by rw [List.map_append]; exact hrw.chg hc2 (by decide))
  have hb2 := hc2.blk _ _ _ _ q.blk (by decide)
  have cs : Chg [26] g w2 (w2.setCell ⟨g, 0, none⟩ (.slice D L e)) := Chg.set hb2 (Nat.le_refl _) _
  have o2 := o.chg cs (by decide) (by decide)
  have hgl := (Array.getElem?_eq_some_iff.1 hb2).1
  refine ⟨D, L, e, rfl, by rw [cell_of_row _ _ 0 _ _ _ hb2]; rfl, frozen_of_row _ _ _ _ _ hb2, hgl, heap_setCell_same _ _ 0 _ _ _ hb2, o2, lits_lt o2, OwnT.nil_, OwnL.nil_, (q.ch.trans (hc2.wide (by simp))).trans (cs.wide (by simp)), ?_, Nat.le_refl _⟩
  have := cs.bel.size
  omega
theorem MkV.app2 {ls ds : List Lt} {ts : List (List Int)} (q : MkV w0 g h ⟨ls, ts, ds⟩ v wn) (hown2 : OwnR w2 g v2 (vs ++ [u])) (hc2 : Chg [33] g wn w2) (hrw : Rws wn g (vs ++ [u]) (ts ++ [t])) :
    ∃ D L e, v2 = .slice D L e ∧ w2.cell? ⟨g, 1, none⟩ = some (.slice v.A2 v.n2 v.c2) ∧ w2.frozen? ⟨g, 1, none⟩ = false ∧ g < w2.heap.size ∧ MkV w0 g h ⟨ls, ts ++ [t], ds⟩ ⟨v.A1, v.n1, v.c1, D, L, e, v.A3, v.n3, v.c3⟩ (w2.setCell ⟨g, 1, none⟩ (.slice D L e)) := by
  obtain ⟨D, e, rfl⟩ := hown2.valued
  have o := OwnT.mk hown2 (hrw.chg hc2 (by decide))
  have hb2 := hc2.blk _ _ _ _ q.blk (by decide)
  have cs : Chg [26] g w2 (w2.setCell ⟨g, 1, none⟩ (.slice D (vs ++ [u]).length e)) := Chg.set hb2 (Nat.le_refl _) _
  have hgl := (Array.getElem?_eq_some_iff.1 hb2).1
  refine ⟨D, _, e, rfl, by rw [cell_of_row _ _ 1 _ _ _ hb2]; rfl, frozen_of_row _ _ _ _ _ hb2, hgl, heap_setCell_same _ _ 1 _ _ _ hb2, (q.a.chg hc2 (by decide) (by decide)).chg cs (by decide) (by decide), q.lb, o.chg cs (by decide) (by decide), (q.d.chg hc2 (by decide) (by decide)).chg cs (by decide) (by decide), (q.ch.trans (hc2.wide (by simp))).trans (cs.wide (by simp)), q.gh, ?_⟩
  have := cs.bel.size
  have := hc2.bel.size
  have := q.hs
  omega
theorem MkV.app3 {ls ds : List Lt} {ts : List (List Int)} (q : MkV w0 g h ⟨ls, ts, ds⟩ v wn) (hown2 : OwnLv w2 h v2 (ds ++ [⟨x, t⟩]) (vs ++ [u])) (hc2 : Chg [57] h wn w2) (hrw : Rws wn h (vs ++ [u]) (ds.map Lt.atom ++ [t])) :
    ∃ D L e, v2 = .slice D L e ∧ w2.cell? ⟨g, 2, none⟩ = some (.slice v.A3 v.n3 v.c3) ∧ w2.frozen? ⟨g, 2, none⟩ = false ∧ g < w2.heap.size ∧ MkV w0 g h ⟨ls, ts, ds ++ [⟨x, t⟩]⟩ ⟨v.A1, v.n1, v.c1, v.A2, v.n2, v.c2, D, L, e⟩ (w2.setCell ⟨g, 2, none⟩ (.slice D L e)) := by
  obtain ⟨D, e, hv⟩ := hown2.valued
  obtain ⟨L, hL⟩ : ∃ L, L = (ds ++ [(⟨x, t⟩ : Lt)]).length := ⟨_, rfl⟩
  rw [← hL] at hv
  subst hv
  have o : OwnL w2 h (.slice D L e) (ds ++ [⟨x, t⟩]) := hown2.own (by rw [List.map_append]; exact hrw.chg hc2 (by decide))
  have hb2 := hc2.blk _ _ _ _ q.blk (by decide)
  have cs : Chg [26] g w2 (w2.setCell ⟨g, 2, none⟩ (.slice D L e)) := Chg.set hb2 (Nat.le_refl _) _
  have hgl := (Array.getElem?_eq_some_iff.1 hb2).1
  refine ⟨D, L, e, rfl, by rw [cell_of_row _ _ 2 _ _ _ hb2]; rfl, frozen_of_row _ _ _ _ _ hb2, hgl, heap_setCell_same _ _ 2 _ _ _ hb2, (lits_below q.a hc2 q.lb).chg cs (by decide) (by decide), q.lb, (q.b.chg hc2 (by decide) (by decide)).chg cs (by decide) (by decide), o.chg cs (by decide) (by decide), (q.ch.trans ((hc2.lower q.gh).wide (by simp))).trans (cs.wide (by simp)), q.gh, ?_⟩
  have := cs.bel.size
  have := hc2.bel.size
  have := q.hs
  omega
theorem MkV.own (q : MkV w0 g h c v wr) : OwnC wr g v.val c := ⟨_, _, _, v.val_eq, q.a, q.b, q.d.lower q.gh⟩
theorem MkV.start (w : World) : MkV w w.heap.size (w.alloc (.cells #[.slice none 0 0, .slice none 0 0, .slice none 0 0] 26)).heap.size ⟨[], [], []⟩ ⟨none, 0, 0, none, 0, 0, none, 0, 0⟩ (w.alloc (.cells #[.slice none 0 0, .slice none 0 0, .slice none 0 0] 26)) :=
  ⟨(ZBox.new w).z, OwnL.nil_, fun b hb => (by cases hb), OwnT.nil_, OwnL.nil_, Chg.of_below (below_new w _) (Nat.le_refl _), by simp, Nat.le_refl _⟩
end
end Go.Proofs.Ytpblpndlajoebaa
