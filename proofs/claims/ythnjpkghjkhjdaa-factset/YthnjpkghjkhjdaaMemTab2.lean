/-
  Words for memory: a table that is being made in its box; a cell that is stored; package fact's clone.
-/
import Derived.Test.YthnjpkghjkhjdaaMemTab
namespace Go.Proofs.Ythnjpkghjkhjdaa
open Go.RowKit Go.Deep
set_option linter.unusedSimpArgs false
set_option linter.unusedVariables false
set_option maxRecDepth 100000

/-- A value of one cell is stored. -/
theorem put_cell_op {w : World} {o : Oper} {a : Act} {K : Act → World → Prop} {Q : Exit → Act → World → Prop} (t : TypeId) (p x : Operand) (ho : o.op = .store t p x) (hdst : o.dst = none)
    (g i : Nat) (z : Value) (u : Value) (hp : a.eval p = .pointer (some ⟨g, i, none⟩)) (hx : a.eval x = z) (h1 : z.oneCell' = true) (hz : z.cells = #[z]) (hcell : w.cell? ⟨g, i, none⟩ = some u) (hfz : w.frozen? ⟨g, i, none⟩ = false) (hi : (Try.prog.info? t).map (·.size) = some 1)
    (h : K a (w.setCell ⟨g, i, none⟩ z)) : o.wp Try.prog a w K Q := by
  have hadd : (⟨g, i, none⟩ : Addr).add 0 = ⟨g, i, none⟩ := by unfold Addr.add; split <;> simp_all
  have hst : (Instr.storeAt t (.pointer (some ⟨g, i, none⟩)) z).run Try.prog w = .ok () (w.setCell ⟨g, i, none⟩ z) := by
    simp only [Instr.storeAt, Instr.sureAddr, Sem.run_bind, Sem.run_pure, Result.andThen_ok]
    cases hq : Try.prog.info? t with
    | none => simp [hq] at hi
    | some j =>
      have hs : j.size = 1 := by simpa [hq] using hi
      have h2 : (store ((⟨g, i, none⟩ : Addr).add 0) z).run Try.prog w = .ok () (w.setCell ⟨g, i, none⟩ z) := by
        rw [hadd, run_store Try.prog w _ _ _ h1, hcell]
        simp [hfz]
      simp [storeVar, sizeOf, typeInfo, hq, hz, hs, storeCells, h2]
  unfold Oper.wp
  simp only [execOp, ho, hp, hx, Sem.run_bind, hst, Result.andThen]
  simp [Oper.upon, hdst, Act.put, h]
theorem put_cell_step {w : World} {ops : Array Oper} {o : Oper} {a : Act} {K : Act → World → Prop} {Q : Exit → Act → World → Prop} {E : Prop} (hgd : o.guard = none) (t : TypeId) (p x : Operand) (ho : o.op = .store t p x) (hdst : o.dst = none)
    (g i : Nat) (z : Value) (u : Value) (hp : a.eval p = .pointer (some ⟨g, i, none⟩)) (hx : a.eval x = z) (h1 : z.oneCell' = true) (hz : z.cells = #[z]) (hcell : w.cell? ⟨g, i, none⟩ = some u) (hfz : w.frozen? ⟨g, i, none⟩ = false) (hi : (Try.prog.info? t).map (·.size) = some 1)
    (h : K a (w.setCell ⟨g, i, none⟩ z)) : if Region.wanted o (yielded ops a.tmps) = true then Oper.wp Try.prog o a w K Q else E := by
  have hw : Region.wanted o (yielded ops a.tmps) = true := by simp [Region.wanted, hgd]
  rw [if_pos hw]
  exact put_cell_op t p x ho hdst g i z u hp hx h1 hz hcell hfz hi h
theorem put_cell {w : World} {ops : Array Oper} {rest : List Oper} {o : Oper} {a : Act} {Q : Exit → Act → World → Prop} (hgd : o.guard = none) (t : TypeId) (p x : Operand) (ho : o.op = .store t p x) (hdst : o.dst = none)
    (g i : Nat) (z : Value) (u : Value) (hp : a.eval p = .pointer (some ⟨g, i, none⟩)) (hx : a.eval x = z) (h1 : z.oneCell' = true) (hz : z.cells = #[z]) (hcell : w.cell? ⟨g, i, none⟩ = some u) (hfz : w.frozen? ⟨g, i, none⟩ = false) (hi : (Try.prog.info? t).map (·.size) = some 1)
    (h : wpList Try.prog ops Q rest a (w.setCell ⟨g, i, none⟩ z)) : wpList Try.prog ops Q (o :: rest) a w :=
  wpList_plain hgd fun _ hK => put_cell_op t p x ho hdst g i z u hp hx h1 hz hcell hfz hi (hK _ _ h)
theorem app_ints_step {w : World} {ops : Array Oper} {o : Oper} {a : Act} {K : Act → World → Prop} {Q : Exit → Act → World → Prop} {E : Prop} (hgd : o.guard = none) (s x : Operand)
    (ho : o.op = .call { callee := .builtin .append, args := #[s, x], argTypes := #[23, 23] })
    (base : Nat) (v : Value) (xs : List Int) (hs : a.eval s = v) (hown : OwnI w base v xs) (A : Option Addr) (n c B : Nat) (ys : List Int) (hx : a.eval x = .slice A n c) (hnil : A = none → n = 0 ∧ c = 0) (hat : IntsAt w B A n ys)
    (hlen : xs.length + n ≤ 17592186044416) (hbase : base ≤ w.heap.size)
    (h : ∀ v' w', OwnI w' base v' (xs ++ ys) → Below base w w' → K (a.put o.dst v') w') : if Region.wanted o (yielded ops a.tmps) = true then Oper.wp Try.prog o a w K Q else E := by
  have hw : Region.wanted o (yielded ops a.tmps) = true := by simp [Region.wanted, hgd]
  rw [if_pos hw]
  exact app_ints_op s x ho base v xs hs hown A n c B ys hx hnil hat hlen hbase h
/-- Boxes of tables but g stay. -/
def KeepT (g : Nat) (w w' : World) : Prop := ∀ k cs fr, k ≠ g → w.heap[k]? = some (.cells cs 26 fr) → w'.heap[k]? = some (.cells cs 26 fr)
/-- The table that is being made, in its box g; what it holds the call has made. -/
structure TabV (w0 : World) (m g : Nat) (t : Tb) (v : Tv) (wr : World) : Prop where
  ge : w0.heap.size ≤ g
  gm : w0.heap.size ≤ m
  mx : m ≤ wr.heap.size
  lo : ∀ b, (Value.slice v.A1 v.n1 v.c1).ownBlock = some b → b < m
  blk : wr.heap[g]? = some (.cells #[.slice v.A1 v.n1 v.c1, .slice v.A2 v.n2 v.c2] 26 (0, 0))
  a : OwnI wr w0.heap.size (.slice v.A1 v.n1 v.c1) t.slots
  b : OwnT wr m (.slice v.A2 v.n2 v.c2) t.facts
  bel : Below w0.heap.size w0 wr
section
variable {w0 wr wn w2 : World} {m g : Nat} {t : Tb} {v : Tv} {vs : List Value} {u v2 : Value} {r : List Int}
theorem KeepT.refl : KeepT g wr wr := fun _ _ _ _ h => h
theorem KeepT.trans (h : KeepT g wr wn) (k : KeepT g wn w2) : KeepT g wr w2 := fun i cs fr hi hc => k i cs fr hi (h i cs fr hi hc)
theorem KeepT.of_below (hb : Below wr.heap.size wr w2) : KeepT g wr w2 := fun k cs fr _ h => by rw [hb.block k (Array.getElem?_eq_some_iff.1 h).1]; exact h
theorem KeepT.of_chg {base : Nat} {es : List TypeId} (hc : Chg es base wr w2) (he : 26 ∉ es) : KeepT g wr w2 := fun k cs fr _ h => hc.blk k cs _ fr h he
theorem KeepT.of_set {i : Nat} (z : Value) : KeepT g wr (wr.setCell ⟨g, i, none⟩ z) := fun k cs fr hk h => by
  rw [heap_setCell_other _ _ _ _ hk]; exact h
theorem KeepT.box {k : Nat} {v : Tv} (h : KeepT g wr w2) (hk : k ≠ g) (hb : wr.heap[k]? = some (.cells #[.slice v.A1 v.n1 v.c1, .slice v.A2 v.n2 v.c2] 26 (0, 0))) : w2.heap[k]? = some (.cells #[.slice v.A1 v.n1 v.c1, .slice v.A2 v.n2 v.c2] 26 (0, 0)) := h k _ _ hk hb
theorem TabV.c0 (q : TabV w0 m g t v wr) : wr.cell? ⟨g, 0, none⟩ = some (.slice v.A1 v.n1 v.c1) := by rw [cell_of_row _ _ 0 _ _ _ q.blk]; rfl
theorem TabV.c1 (q : TabV w0 m g t v wr) : wr.cell? ⟨g, 1, none⟩ = some (.slice v.A2 v.n2 v.c2) := by rw [cell_of_row _ _ 1 _ _ _ q.blk]; rfl
theorem TabV.fz (q : TabV w0 m g t v wr) (i : Nat) : wr.frozen? ⟨g, i, none⟩ = false := frozen_of_row _ _ _ _ _ q.blk
theorem TabV.lt (q : TabV w0 m g t v wr) : g < wr.heap.size := (Array.getElem?_eq_some_iff.1 q.blk).1
theorem TabV.on (q : TabV w0 m g t v wr) (hb : Below wr.heap.size wr w2) : TabV w0 m g t v w2 :=
  ⟨q.ge, q.gm, Nat.le_trans q.mx hb.size, q.lo, by rw [hb.block g q.lt]; exact q.blk, q.a.on hb, q.b.on hb, q.bel.trans (hb.mono q.bel.size)⟩
theorem TabV.own (q : TabV w0 m g t v wr) : OwnTs wr w0.heap.size (.agg #[.slice v.A1 v.n1 v.c1, .slice v.A2 v.n2 v.c2]) t := ⟨m, _, _, rfl, q.gm, q.mx, q.a, q.lo, q.b⟩
theorem TabV.n1 (q : TabV w0 m g t v wr) : v.n1 = t.slots.length := by
  obtain ⟨A, c, e⟩ := q.a.value
  injection e
theorem TabV.n2 (q : TabV w0 m g t v wr) : v.n2 = t.facts.length := by
  obtain ⟨A, c, e⟩ := q.b.valued
  injection e
/-- Behind an append to the facts. -/
theorem TabV.app (q : TabV w0 m g t v wn) (hown2 : OwnR w2 m v2 (vs ++ [u])) (hc2 : Chg [23] m wn w2) (hrw : Rws wn m (vs ++ [u]) (t.facts ++ [r])) :
    ∃ D L e, v2 = .slice D L e ∧ w2.cell? ⟨g, 1, none⟩ = some (.slice v.A2 v.n2 v.c2) ∧ w2.frozen? ⟨g, 1, none⟩ = false ∧ TabV w0 m g ⟨t.slots, t.facts ++ [r]⟩ ⟨v.A1, v.n1, v.c1, D, L, e⟩ (w2.setCell ⟨g, 1, none⟩ (.slice D L e)) ∧ KeepT g wn (w2.setCell ⟨g, 1, none⟩ (.slice D L e)) ∧ (m ≤ g → Below m wn (w2.setCell ⟨g, 1, none⟩ (.slice D L e))) := by
  obtain ⟨D, e, rfl⟩ := hown2.valued
  obtain ⟨L, hL⟩ : ∃ L, L = (vs ++ [u]).length := ⟨_, rfl⟩
  have hown3 : OwnR w2 m (.slice D L e) (vs ++ [u]) := by rw [hL]; exact hown2
  have o := OwnT.mk hown3 (hrw.chg hc2 (by decide))
  have hb2 := hc2.blk _ _ _ _ q.blk (by decide)
  have cs : Chg [26] w0.heap.size w2 (w2.setCell ⟨g, 1, none⟩ (.slice D L e)) := Chg.set hb2 q.ge _
  obtain ⟨us, b1, b2⟩ := o.vals
  exact ⟨D, L, e, by rw [hL], by rw [cell_of_row _ _ 1 _ _ _ hb2]; rfl, frozen_of_row _ _ _ _ _ hb2,
    ⟨q.ge, q.gm, Nat.le_trans q.mx (Nat.le_trans hc2.bel.size cs.bel.size), q.lo, heap_setCell_same _ _ 1 _ _ _ hb2, cs.own (by decide) (hc2.own (by decide) q.a), OwnT.mk (b1.chg cs (by decide)) (b2.chg cs (by decide)), (q.bel.trans (hc2.bel.mono q.gm)).trans cs.bel⟩,
    (KeepT.of_chg hc2 (by decide)).trans (KeepT.of_set _), fun hmg => hc2.bel.trans (Chg.set hb2 hmg _ : Chg [26] m w2 _).bel⟩
/-- Behind a store into a slot. -/
theorem TabV.slot (q : TabV w0 m g t v wn) {i : Nat} (hi : i < t.slots.length) (z : Int) :
    ∃ b, v.A1 = some ⟨b, 0, none⟩ ∧ wn.cell? ⟨b, i, none⟩ = some (.int .i64 (intAt t.slots i)) ∧ wn.frozen? ⟨b, i, none⟩ = false ∧ TabV w0 m g ⟨t.slots.set i z, t.facts⟩ v (wn.setCell ⟨b, i, none⟩ (.int .i64 z)) ∧ KeepT g wn (wn.setCell ⟨b, i, none⟩ (.int .i64 z)) := by
  obtain ⟨b, cap, cur, e, hb, hg, hl⟩ := q.a.block (by omega)
  simp only [Value.slice.injEq] at e
  obtain ⟨e1, e2, e3⟩ := e
  have hbg : g ≠ b := fun z => by rw [z] at q; have := q.blk; rw [hg] at this; injection this with this; injection this with _ this; cases this
  have cs : Chg [3] w0.heap.size wn (wn.setCell ⟨b, i, none⟩ (.int .i64 z)) := Chg.set hg hb _
  have hA := q.a
  rw [e1, e2] at hA
  obtain ⟨us, b1, b2⟩ := q.b.vals
  refine ⟨b, e1, ?_, frozen_of_row _ _ _ _ _ hg, ⟨q.ge, q.gm, Nat.le_trans q.mx cs.bel.size, q.lo, ?_, ?_, ?_, q.bel.trans cs.bel⟩, KeepT.of_chg cs (by decide)⟩
  · obtain ⟨A, c, e', _, hat⟩ := q.a.intsAt
    simp only [Value.slice.injEq] at e'
    obtain ⟨f1, f2, f3⟩ := e'
    obtain ⟨b', off, e'', _, hc⟩ := hat.at_ (by omega)
    rw [← f1, e1] at e''
    simp only [Option.some.injEq, Addr.mk.injEq] at e''
    obtain ⟨rfl, rfl, -⟩ := e''
    have := hc i (by omega)
    rwa [Nat.zero_add] at this
  · rw [heap_setCell_other _ _ _ _ hbg]; exact q.blk
  · show OwnI _ _ (.slice v.A1 v.n1 v.c1) (t.slots.set i z)
    rw [e1, e2]
    exact hA.put z
  · show OwnT _ _ (.slice v.A2 v.n2 v.c2) t.facts
    have hr := b2.1
    refine OwnT.mk (b1.chg cs (by decide)) ⟨hr, fun j hj => ?_⟩
    have hx := b2.2 j hj
    have hbm : b < m := q.lo b (by rw [e1, e2]; rfl)
    exact hx.set_ne (fun e => by have := (hx.blk e).1; omega) _
end
end Go.Proofs.Ythnjpkghjkhjdaa
