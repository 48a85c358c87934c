/-
  Words for memory: a slice stored into a field; a clause that is made by appends, in its box; a clause whose parts lie in older memory, in its box.
-/
import Derived.Test.YtcjpopjcpgipjaaDoorClauseNorm
import Derived.Test.YtcjpopjcpgipjaaDoorClauseRen
import Derived.Test.YtcjpopjcpgipjaaDoorBaseMore
import Derived.Test.YtcjpopjcpgipjaaDoorClauseOnce
import Derived.Test.YtcjpopjcpgipjaaDoorClauseSame
import Derived.Test.YtcjpopjcpgipjaaDoorHelpCl
namespace Go.Proofs.YtcjpopjcpgipjaaDoor
open Go.RowKit Go.Deep
set_option linter.unusedSimpArgs false
set_option linter.unusedVariables false
set_option maxRecDepth 100000

theorem store_slice_op {w : World} {o : Oper} {a : Act} {K : Act → World → Prop} {Q : Exit → Act → World → Prop} (t : TypeId) (p x : Operand) (ho : o.op = .store t p x) (hdst : o.dst = none)
    (g i : Nat) (A : Option Addr) (n c : Nat) (u : Value) (hp : a.eval p = .pointer (some ⟨g, i, none⟩)) (hx : a.eval x = .slice A n c) (hcell : w.cell? ⟨g, i, none⟩ = some u) (hfz : w.frozen? ⟨g, i, none⟩ = false) (hi : (Tryd.prog.info? t).map (·.size) = some 1)
    (h : K a (w.setCell ⟨g, i, none⟩ (.slice A n c))) : o.wp Tryd.prog a w K Q := by
  have hadd : (⟨g, i, none⟩ : Addr).add 0 = ⟨g, i, none⟩ := by unfold Addr.add; split <;> simp_all
  have hst : (Instr.storeAt t (.pointer (some ⟨g, i, none⟩)) (.slice A n c)).run Tryd.prog w = .ok () (w.setCell ⟨g, i, none⟩ (.slice A n c)) := by
    simp only [Instr.storeAt, Instr.sureAddr, Sem.run_bind, Sem.run_pure, Result.andThen_ok]
    cases hq : Tryd.prog.info? t with
    | none => simp [hq] at hi
    | some j =>
      have hs : j.size = 1 := by simpa [hq] using hi
      have h1 : (store ((⟨g, i, none⟩ : Addr).add 0) (.slice A n c)).run Tryd.prog w = .ok () (w.setCell ⟨g, i, none⟩ (.slice A n c)) := by
        rw [hadd, run_store Tryd.prog w _ _ _ rfl, hcell]
        simp [hfz]
      simp [storeVar, sizeOf, typeInfo, hq, Value.cells, hs, storeCells, h1]
  unfold Oper.wp
  simp only [execOp, ho, hp, hx, Sem.run_bind, hst, Result.andThen]
  simp [Oper.upon, hdst, Act.put, h]
theorem store_slice_step {w : World} {ops : Array Oper} {o : Oper} {a : Act} {K : Act → World → Prop} {Q : Exit → Act → World → Prop} {E : Prop} (hgd : o.guard = none) (t : TypeId) (p x : Operand) (ho : o.op = .store t p x) (hdst : o.dst = none)
    (g i : Nat) (A : Option Addr) (n c : Nat) (u : Value) (hp : a.eval p = .pointer (some ⟨g, i, none⟩)) (hx : a.eval x = .slice A n c) (hcell : w.cell? ⟨g, i, none⟩ = some u) (hfz : w.frozen? ⟨g, i, none⟩ = false) (hi : (Tryd.prog.info? t).map (·.size) = some 1)
    (h : K a (w.setCell ⟨g, i, none⟩ (.slice A n c))) : if Region.wanted o (yielded ops a.tmps) = true then Oper.wp Tryd.prog o a w K Q else E := by
  have hw : Region.wanted o (yielded ops a.tmps) = true := by simp [Region.wanted, hgd]
  rw [if_pos hw]
  exact store_slice_op t p x ho hdst g i A n c u hp hx hcell hfz hi h

theorem lits_below {wn w2 : World} {g h : Nat} {v2 : Value} {ls : List Lt} (q : OwnL wn g v2 ls) (hc : Chg [75] h wn w2) (hl : ∀ b, v2.ownBlock = some b → b < h) : OwnL w2 g v2 ls := by
  obtain ⟨vs, a, r⟩ := q.vals
  refine OwnLv.own ⟨a.1, a.2.1, ?_⟩ (r.chg hc (by decide))
  rcases a.2.2 with e | ⟨k, cap, cur, e, hg, hb, rest⟩
  · exact .inl e
  · exact .inr ⟨k, cap, cur, e, hg, by rw [hc.bel.block k (hl k (by rw [e]; rfl))]; exact hb, rest⟩
theorem lits_lt {wn : World} {g : Nat} {v2 : Value} {ls : List Lt} (q : OwnL wn g v2 ls) : ∀ b, v2.ownBlock = some b → b < wn.heap.size := by
  obtain ⟨vs, a, r⟩ := q.vals
  exact fun b hb => (World.ownsRow.lt a.2 b hb).2
/-- The clause that is made, in its box g; its Conds lie from h on, its Lits below. -/
structure MkV (w0 : World) (g h : Nat) (c : Cl) (v : Cv) (wr : World) : Prop where
  blk : wr.heap[g]? = some (.cells #[.slice v.A1 v.n1 v.c1, .slice v.A2 v.n2 v.c2, .slice v.A3 v.n3 v.c3] 26 (0, 0))
  a : OwnL wr g (.slice v.A1 v.n1 v.c1) c.lits
  lb : ∀ b, (Value.slice v.A1 v.n1 v.c1).ownBlock = some b → b < h
  b : OwnT wr g (.slice v.A2 v.n2 v.c2) c.tups
  d : OwnL wr h (.slice v.A3 v.n3 v.c3) c.conds
  ch : Chg [26, 75, 28] g w0 wr
  gh : g ≤ h
  hs : h ≤ wr.heap.size
section
variable {w0 wr wn w2 : World} {g h : Nat} {c : Cl} {v : Cv} {vs : List Value} {u v2 : Value} {x : Bool} {t : List Int}
theorem MkV.c0 (q : MkV w0 g h c v wr) : wr.cell? ⟨g, 0, none⟩ = some (.slice v.A1 v.n1 v.c1) := by rw [cell_of_row _ _ 0 _ _ _ q.blk]; rfl
theorem MkV.c1 (q : MkV w0 g h c v wr) : wr.cell? ⟨g, 1, none⟩ = some (.slice v.A2 v.n2 v.c2) := by rw [cell_of_row _ _ 1 _ _ _ q.blk]; rfl
theorem MkV.c2 (q : MkV w0 g h c v wr) : wr.cell? ⟨g, 2, none⟩ = some (.slice v.A3 v.n3 v.c3) := by rw [cell_of_row _ _ 2 _ _ _ q.blk]; rfl
theorem MkV.fz (q : MkV w0 g h c v wr) (i : Nat) : wr.frozen? ⟨g, i, none⟩ = false := frozen_of_row _ _ _ _ _ q.blk
theorem MkV.lt (q : MkV w0 g h c v wr) : g < wr.heap.size := (Array.getElem?_eq_some_iff.1 q.blk).1
theorem MkV.on (q : MkV w0 g h c v wr) (hb : Below wr.heap.size wr w2) : MkV w0 g h c v w2 :=
  ⟨by rw [hb.block g q.lt]; exact q.blk, q.a.on hb, q.lb, q.b.on hb, q.d.on hb, q.ch.trans (Chg.of_below hb (Nat.le_of_lt q.lt)), q.gh, by have := q.hs; have := hb.size; omega⟩
theorem MkV.bel (q : MkV w0 g h c v wr) : Below g w0 wr := q.ch.bel
/-- Behind an append to the Lits, the Tuples, the Conds. -/
theorem MkV.app1 {ls : List Lt} (q : MkV w0 g h ⟨ls, [], []⟩ ⟨v.A1, v.n1, v.c1, none, 0, 0, none, 0, 0⟩ wn) (hown2 : OwnLv w2 g v2 (ls ++ [⟨x, t⟩]) (vs ++ [u])) (hc2 : Chg [75] g wn w2) (hrw : Rws wn g (vs ++ [u]) (ls.map Lt.atom ++ [t])) :
    ∃ D L e, v2 = .slice D L e ∧ w2.cell? ⟨g, 0, none⟩ = some (.slice v.A1 v.n1 v.c1) ∧ w2.frozen? ⟨g, 0, none⟩ = false ∧ g < w2.heap.size ∧ MkV w0 g (w2.setCell ⟨g, 0, none⟩ (.slice D L e)).heap.size ⟨ls ++ [⟨x, t⟩], [], []⟩ ⟨D, L, e, none, 0, 0, none, 0, 0⟩ (w2.setCell ⟨g, 0, none⟩ (.slice D L e)) := by
  obtain ⟨D, e, hv⟩ := hown2.valued
  obtain ⟨L, hL⟩ : ∃ L, L = (ls ++ [(⟨x, t⟩ : Lt)]).length := ⟨_, rfl⟩
  rw [← hL] at hv
  subst hv
  have o : OwnL w2 g (.slice D L e) (ls ++ [⟨x, t⟩]) := hown2.own (by rw [List.map_append]; exact hrw.chg hc2 (by decide))
  have hb2 := hc2.blk _ _ _ _ q.blk (by decide)
  have cs : Chg [26] g w2 (w2.setCell ⟨g, 0, none⟩ (.slice D L e)) := Chg.set hb2 (Nat.le_refl _) _
  have o2 := o.chg cs (by decide) (by decide)
  have hgl := (Array.getElem?_eq_some_iff.1 hb2).1
  refine ⟨D, L, e, rfl, by rw [cell_of_row _ _ 0 _ _ _ hb2]; rfl, frozen_of_row _ _ _ _ _ hb2, hgl, heap_setCell_same _ _ 0 _ _ _ hb2, o2, lits_lt o2, OwnT.nil_, OwnL.nil_, (q.ch.trans (hc2.wide (by simp))).trans (cs.wide (by simp)), ?_, Nat.le_refl _⟩
  have := cs.bel.size
  omega
theorem MkV.app2 {ls ds : List Lt} {ts : List (List Int)} (q : MkV w0 g h ⟨ls, ts, ds⟩ v wn) (hown2 : OwnR w2 g v2 (vs ++ [u])) (hc2 : Chg [28] g wn w2) (hrw : Rws wn g (vs ++ [u]) (ts ++ [t])) :
    ∃ D L e, v2 = .slice D L e ∧ w2.cell? ⟨g, 1, none⟩ = some (.slice v.A2 v.n2 v.c2) ∧ w2.frozen? ⟨g, 1, none⟩ = false ∧ g < w2.heap.size ∧ MkV w0 g h ⟨ls, ts ++ [t], ds⟩ ⟨v.A1, v.n1, v.c1, D, L, e, v.A3, v.n3, v.c3⟩ (w2.setCell ⟨g, 1, none⟩ (.slice D L e)) := by
  obtain ⟨D, e, rfl⟩ := hown2.valued
  have o := OwnT.mk hown2 (hrw.chg hc2 (by decide))
  have hb2 := hc2.blk _ _ _ _ q.blk (by decide)
  have cs : Chg [26] g w2 (w2.setCell ⟨g, 1, none⟩ (.slice D (vs ++ [u]).length e)) := Chg.set hb2 (Nat.le_refl _) _
  have hgl := (Array.getElem?_eq_some_iff.1 hb2).1
  refine ⟨D, _, e, rfl, by rw [cell_of_row _ _ 1 _ _ _ hb2]; rfl, frozen_of_row _ _ _ _ _ hb2, hgl, heap_setCell_same _ _ 1 _ _ _ hb2, (q.a.chg hc2 (by decide) (by decide)).chg cs (by decide) (by decide), q.lb, o.chg cs (by decide) (by decide), (q.d.chg hc2 (by decide) (by decide)).chg cs (by decide) (by decide), (q.ch.trans (hc2.wide (by simp))).trans (cs.wide (by simp)), q.gh, ?_⟩
  have := cs.bel.size
  have := hc2.bel.size
  have := q.hs
  omega
theorem MkV.app3 {ls ds : List Lt} {ts : List (List Int)} (q : MkV w0 g h ⟨ls, ts, ds⟩ v wn) (hown2 : OwnLv w2 h v2 (ds ++ [⟨x, t⟩]) (vs ++ [u])) (hc2 : Chg [75] h wn w2) (hrw : Rws wn h (vs ++ [u]) (ds.map Lt.atom ++ [t])) :
    ∃ D L e, v2 = .slice D L e ∧ w2.cell? ⟨g, 2, none⟩ = some (.slice v.A3 v.n3 v.c3) ∧ w2.frozen? ⟨g, 2, none⟩ = false ∧ g < w2.heap.size ∧ MkV w0 g h ⟨ls, ts, ds ++ [⟨x, t⟩]⟩ ⟨v.A1, v.n1, v.c1, v.A2, v.n2, v.c2, D, L, e⟩ (w2.setCell ⟨g, 2, none⟩ (.slice D L e)) := by
  obtain ⟨D, e, hv⟩ := hown2.valued
  obtain ⟨L, hL⟩ : ∃ L, L = (ds ++ [(⟨x, t⟩ : Lt)]).length := ⟨_, rfl⟩
  rw [← hL] at hv
  subst hv
  have o : OwnL w2 h (.slice D L e) (ds ++ [⟨x, t⟩]) := hown2.own (by rw [List.map_append]; exact hrw.chg hc2 (by decide))
  have hb2 := hc2.blk _ _ _ _ q.blk (by decide)
  have cs : Chg [26] g w2 (w2.setCell ⟨g, 2, none⟩ (.slice D L e)) := Chg.set hb2 (Nat.le_refl _) _
  have hgl := (Array.getElem?_eq_some_iff.1 hb2).1
  refine ⟨D, L, e, rfl, by rw [cell_of_row _ _ 2 _ _ _ hb2]; rfl, frozen_of_row _ _ _ _ _ hb2, hgl, heap_setCell_same _ _ 2 _ _ _ hb2, (lits_below q.a hc2 q.lb).chg cs (by decide) (by decide), q.lb, (q.b.chg hc2 (by decide) (by decide)).chg cs (by decide) (by decide), o.chg cs (by decide) (by decide), (q.ch.trans ((hc2.lower q.gh).wide (by simp))).trans (cs.wide (by simp)), q.gh, ?_⟩
  have := cs.bel.size
  have := hc2.bel.size
  have := q.hs
  omega
theorem MkV.own (q : MkV w0 g h c v wr) : OwnC wr g v.val c := ⟨_, _, _, v.val_eq, q.a, q.b, q.d.lower q.gh⟩
theorem MkV.start (w : World) : MkV w w.heap.size (w.alloc (.cells #[.slice none 0 0, .slice none 0 0, .slice none 0 0] 26)).heap.size ⟨[], [], []⟩ ⟨none, 0, 0, none, 0, 0, none, 0, 0⟩ (w.alloc (.cells #[.slice none 0 0, .slice none 0 0, .slice none 0 0] 26)) :=
  ⟨(ZBox.new w).z, OwnL.nil_, fun b hb => (by cases hb), OwnT.nil_, OwnL.nil_, Chg.of_below (below_new w _) (Nat.le_refl _), by simp, Nat.le_refl _⟩
end
end Go.Proofs.YtcjpopjcpgipjaaDoor
namespace Go.Proofs.YtcjpopjcpgipjaaDoor
open Go.RowKit Go.Deep
set_option linter.unusedSimpArgs false
set_option linter.unusedVariables false
set_option maxRecDepth 100000

section
variable {w w' w2 wn wr w0 : World} {base lo B g n m c : Nat} {A : Option Addr} {v v2 u' : Value} {ls ds : List Lt} {ts : List (List Int)} {xs : List Int} {p : Lt} {es : List TypeId} {u : Cv} {vs : List Value}
/-- A box of three slices turns: rows of integers stay. -/
theorem IntsAt.other {s1 s2 s3 : Value} {t : TypeId} {fr : Nat × Nat} (h : IntsAt w B A n xs) (hg : w.heap[g]? = some (.cells #[s1, s2, s3] t fr)) (h1 : ∀ k x, s1 ≠ .int k x) (h2 : ∀ k x, s2 ≠ .int k x) (h3 : ∀ k x, s3 ≠ .int k x)
    (hk : ∀ j, j ≠ g → w'.heap[j]? = w.heap[j]?) : IntsAt w' B A n xs := by
  refine ⟨h.len, fun hn => ?_⟩
  obtain ⟨b, off, e, hb, hc⟩ := h.at_ hn
  refine ⟨b, off, e, hb, fun i hi => ?_⟩
  have hci := hc i hi
  have hne : b ≠ g := by
    rintro rfl
    unfold World.cell? at hci
    simp only [hg] at hci
    generalize off + i = j at hci
    match j, hci with
    | 0, q => exact h1 _ _ (by simpa using q)
    | 1, q => exact h2 _ _ (by simpa using q)
    | 2, q => exact h3 _ _ (by simpa using q)
    | j + 3, q => simp at q
  unfold World.cell? at hci ⊢
  simp only [hk b hne]
  exact hci
theorem LitAt.other {s1 s2 s3 : Value} {t : TypeId} {fr : Nat × Nat} (h : LitAt w B A m c p) (hg : w.heap[g]? = some (.cells #[s1, s2, s3] t fr)) (h1 : ∀ k x, s1 ≠ .int k x) (h2 : ∀ k x, s2 ≠ .int k x) (h3 : ∀ k x, s3 ≠ .int k x)
    (hk : ∀ j, j ≠ g → w'.heap[j]? = w.heap[j]?) : LitAt w' B A m c p := ⟨h.at_.other hg h1 h2 h3 hk, h.cap, h.fit⟩
theorem RowIn.other {s1 s2 s3 : Value} {t : TypeId} {fr : Nat × Nat} (h : RowIn w B A m c xs) (hg : w.heap[g]? = some (.cells #[s1, s2, s3] t fr)) (h1 : ∀ k x, s1 ≠ .int k x) (h2 : ∀ k x, s2 ≠ .int k x) (h3 : ∀ k x, s3 ≠ .int k x)
    (hk : ∀ j, j ≠ g → w'.heap[j]? = w.heap[j]?) : RowIn w' B A m c xs := ⟨h.at_.other hg h1 h2 h3 hk, h.cap, h.fit⟩
theorem OwnG.other {s1 s2 s3 : Value} {fr : Nat × Nat} (h : OwnG w base v ls) (hg : w.heap[g]? = some (.cells #[s1, s2, s3] 26 fr)) (h1 : ∀ k x, s1 ≠ .int k x) (h2 : ∀ k x, s2 ≠ .int k x) (h3 : ∀ k x, s3 ≠ .int k x)
    (hk : ∀ j, j ≠ g → w'.heap[j]? = w.heap[j]?) : OwnG w' base v ls := by
  rcases h with h | ⟨k, cap, e, cur, q1, q2, q3, q4, q5, q6⟩
  · exact .inl h
  · have hne : k ≠ g := by
      rintro rfl
      rw [hg] at q1
      injection q1 with q1
      injection q1 with _ q1
      exact absurd q1 (by decide)
    refine .inr ⟨k, cap, e, cur, by rw [hk k hne]; exact q1, q2, q3, q4, q5, fun i hi => ?_⟩
    obtain ⟨r1, A', c', r2, r3⟩ := q6 i hi
    exact ⟨r1, A', c', r2, r3.other hg h1 h2 h3 hk⟩
theorem OwnG.chg (h : OwnG w base v ls) (hc : Chg es lo w w') (hb : base ≤ lo) (he : 75 ∉ es) : OwnG w' base v ls := by
  rcases h with h | ⟨k, cap, e, cur, q1, q2, q3, q4, q5, q6⟩
  · exact .inl h
  · exact .inr ⟨k, cap, e, cur, hc.blk _ _ _ _ q1 he, q2, q3, q4, q5, fun i hi => (q6 i hi).on (hc.bel.mono hb)⟩
theorem OwnG.valued (h : OwnG w base v ls) : ∃ A c, v = .slice A ls.length c := by
  rcases h with ⟨rfl, rfl⟩ | ⟨k, cap, e, _⟩
  · exact ⟨_, _, rfl⟩
  · exact ⟨_, _, e⟩
theorem store_row_step {w : World} {ops : Array Oper} {o : Oper} {a : Act} {K : Act → World → Prop} {Q : Exit → Act → World → Prop} {E : Prop} (hgd : o.guard = none) (t : TypeId) (p x : Operand) (ho : o.op = .store t p x) (hdst : o.dst = none)
    (g : Nat) (old cells : Array Value) (hp : a.eval p = .pointer (some ⟨g, 0, none⟩)) (hx : a.eval x = .agg cells) (hg : w.heap[g]? = some (.cells old t (0, 0))) (hs : old.size = cells.size) (hi : (Tryd.prog.info? t).map (·.size) = some cells.size) (h1 : cells.all (·.oneCell') = true)
    (h : K a (w.setRow g cells)) : if Region.wanted o (yielded ops a.tmps) = true then Oper.wp Tryd.prog o a w K Q else E := by
  have hw : Region.wanted o (yielded ops a.tmps) = true := by simp [Region.wanted, hgd]
  rw [if_pos hw]
  have hst : (Instr.storeAt t (.pointer (some ⟨g, 0, none⟩)) (.agg cells)).run Tryd.prog w = .ok () (w.setRow g cells) := by
    simp only [Instr.storeAt, Instr.sureAddr, Sem.run_bind, Sem.run_pure, Result.andThen]
    exact run_storeVar_row _ _ t t old cells hg hi hs h1
  unfold Oper.wp
  simp only [execOp, ho, hp, hx, Sem.run_bind, hst, Result.andThen]
  simp [Oper.upon, hdst, Act.put, h]
/-- A row of rows that the call has made; the rows themselves lie below base. -/
def OwnTg (w : World) (base lo : Nat) (v : Value) (ts : List (List Int)) : Prop :=
  ∃ vs : List Value, vs.length = ts.length ∧ OwnR w lo v vs ∧ ∀ i, i < ts.length → ∃ A c, valAt vs i = .slice A (rowOf ts i).length c ∧ RowIn w base A (rowOf ts i).length c (rowOf ts i) ∧ (A = none → c = 0)
theorem OwnTg.nil_ : OwnTg w base lo (.slice none 0 0) [] := ⟨[], rfl, OwnR.nil_, fun i h => absurd h (by simp)⟩
theorem OwnTg.tupsAt (h : OwnTg w base lo v ts) (hb : base ≤ w.heap.size) : ∃ A cap, v = .slice A ts.length cap ∧ ts.length ≤ cap ∧ TupsAt w w.heap.size A ts.length ts ∧ (A = none → cap = 0) := by
  obtain ⟨vs, e, ho, hr⟩ := h
  exact TupsAt.of_own ho e fun i hi => by
    obtain ⟨A, c, h1, h2, h3⟩ := hr i hi
    exact ⟨A, c, h1, h2.more hb, h3⟩
theorem OwnTg.on (h : OwnTg w base lo v ts) (hb : Below w.heap.size w w') (hbase : base ≤ w.heap.size) : OwnTg w' base lo v ts := by
  obtain ⟨vs, e, ho, hr⟩ := h
  refine ⟨vs, e, ho.on hb, fun i hi => ?_⟩
  obtain ⟨A, c, h1, h2, h3⟩ := hr i hi
  exact ⟨A, c, h1, h2.below (hb.mono hbase), h3⟩
theorem OwnTg.other {s1 s2 s3 : Value} {fr : Nat × Nat} (h : OwnTg w base lo v ts) (hg : w.heap[g]? = some (.cells #[s1, s2, s3] 26 fr)) (h1 : ∀ k x, s1 ≠ .int k x) (h2 : ∀ k x, s2 ≠ .int k x) (h3 : ∀ k x, s3 ≠ .int k x)
    (hk : ∀ j, j ≠ g → w'.heap[j]? = w.heap[j]?) (hc : Chg [26] B w w') : OwnTg w' base lo v ts := by
  obtain ⟨vs, e, ho, hr⟩ := h
  refine ⟨vs, e, ho.chg hc (by decide), fun i hi => ?_⟩
  obtain ⟨A, c, q1, q2, q3⟩ := hr i hi
  exact ⟨A, c, q1, q2.other hg h1 h2 h3 hk, q3⟩
/-- The clause that is made, in its box g: its parts lie in older memory; its rows of parts in blocks that the call has made. -/
structure NrmD (w0 : World) (lo g : Nat) (ls : List Lt) (ts : List (List Int)) (ds : List Lt) (u : Cv) (wr : World) : Prop where
  blk : wr.heap[g]? = some (.cells #[.slice u.A1 u.n1 u.c1, .slice u.A2 u.n2 u.c2, .slice u.A3 u.n3 u.c3] 26 (0, 0))
  a : ∃ b, b ≤ lo ∧ OwnG wr b (.slice u.A1 u.n1 u.c1) ls
  b : OwnTg wr w0.heap.size lo (.slice u.A2 u.n2 u.c2) ts
  d : ∃ b, b ≤ lo ∧ OwnG wr b (.slice u.A3 u.n3 u.c3) ds
  bel : Below w0.heap.size w0 wr
  gl : w0.heap.size ≤ g
  lo0 : w0.heap.size ≤ lo
  lo1 : lo ≤ wr.heap.size
theorem NrmD.c0 (q : NrmD w0 lo g ls ts ds u wr) : wr.cell? ⟨g, 0, none⟩ = some (.slice u.A1 u.n1 u.c1) := by rw [cell_of_row _ _ 0 _ _ _ q.blk]; rfl
theorem NrmD.c1 (q : NrmD w0 lo g ls ts ds u wr) : wr.cell? ⟨g, 1, none⟩ = some (.slice u.A2 u.n2 u.c2) := by rw [cell_of_row _ _ 1 _ _ _ q.blk]; rfl
theorem NrmD.c2 (q : NrmD w0 lo g ls ts ds u wr) : wr.cell? ⟨g, 2, none⟩ = some (.slice u.A3 u.n3 u.c3) := by rw [cell_of_row _ _ 2 _ _ _ q.blk]; rfl
theorem NrmD.lt (q : NrmD w0 lo g ls ts ds u wr) : g < wr.heap.size := (Array.getElem?_eq_some_iff.1 q.blk).1
theorem NrmD.on (q : NrmD w0 lo g ls ts ds u wr) (hb : Below wr.heap.size wr w2) : NrmD w0 lo g ls ts ds u w2 := by
  obtain ⟨b1, h1, a⟩ := q.a
  obtain ⟨b3, h3, d⟩ := q.d
  exact ⟨by rw [hb.block g q.lt]; exact q.blk, ⟨b1, h1, a.on hb⟩, q.b.on hb (Nat.le_trans q.lo0 q.lo1), ⟨b3, h3, d.on hb⟩, q.bel.trans (hb.mono (Nat.le_trans q.lo0 q.lo1)), q.gl, q.lo0, by have := q.lo1; have := hb.size; omega⟩
/-- Behind an append to the Tuples. -/
theorem NrmD.app {t : List Int} {A3 : Option Addr} {c3 : Nat} (q : NrmD w0 lo g ls ts ds u wn) (he : vs.length = ts.length) (hr : ∀ i, i < ts.length → ∃ A c, valAt vs i = .slice A (rowOf ts i).length c ∧ RowIn wn w0.heap.size A (rowOf ts i).length c (rowOf ts i) ∧ (A = none → c = 0))
    (hown2 : OwnR w2 lo v2 (vs ++ [.slice A3 t.length c3])) (hc2 : Chg [28] lo wn w2) (ht : RowIn wn w0.heap.size A3 t.length c3 t) (hn : A3 = none → c3 = 0) :
    ∃ D L e, v2 = .slice D L e ∧ w2.cell? ⟨g, 1, none⟩ = some (.slice u.A2 u.n2 u.c2) ∧ w2.frozen? ⟨g, 1, none⟩ = false ∧ g < w2.heap.size ∧ NrmD w0 lo g ls (ts ++ [t]) ds ⟨u.A1, u.n1, u.c1, D, L, e, u.A3, u.n3, u.c3⟩ (w2.setCell ⟨g, 1, none⟩ (.slice D L e)) := by
  obtain ⟨D, e, rfl⟩ := hown2.valued
  have hb2 := hc2.blk _ _ _ _ q.blk (by decide)
  have cs : Chg [26] g w2 (w2.setCell ⟨g, 1, none⟩ (.slice D (vs ++ [Value.slice A3 t.length c3]).length e)) := Chg.set hb2 (Nat.le_refl _) _
  have hgl := (Array.getElem?_eq_some_iff.1 hb2).1
  have hk : ∀ j, j ≠ g → (w2.setCell ⟨g, 1, none⟩ (.slice D (vs ++ [Value.slice A3 t.length c3]).length e)).heap[j]? = w2.heap[j]? := by
    intro j hj
    rw [setCell_eq_setRow w2 g 1 _ _ _ _ hb2]
    exact setRow_other _ _ _ _ hj
  have ne : ∀ {A : Option Addr} {n c : Nat} (k : IntKind) (x : Int), Value.slice A n c ≠ .int k x := fun k x h => by cases h
  obtain ⟨b1, h1, a⟩ := q.a
  obtain ⟨b3, h3, d⟩ := q.d
  have hs2 := hc2.bel.size
  have hlo := q.lo0
  have hlo1 := q.lo1
  refine ⟨D, _, e, rfl, by rw [cell_of_row _ _ 1 _ _ _ hb2]; rfl, frozen_of_row _ _ _ _ _ hb2, hgl, heap_setCell_same _ _ 1 _ _ _ hb2, ⟨b1, h1, (a.chg hc2 h1 (by decide)).other hb2 ne ne ne hk⟩, ?_, ⟨b3, h3, (d.chg hc2 h3 (by decide)).other hb2 ne ne ne hk⟩,
    (q.bel.trans (hc2.bel.mono hlo)).trans (cs.bel.mono q.gl), q.gl, hlo, by have := cs.bel.size; omega⟩
  refine ⟨vs ++ [.slice A3 t.length c3], by simp [he], hown2.chg cs (by decide), fun i hi => ?_⟩
  have hb : Below w0.heap.size wn w2 := hc2.bel.mono hlo
  by_cases e : i < ts.length
  · obtain ⟨A, c, q1, q2, q3⟩ := hr i e
    rw [rowOf_left e, valAt_lefts (by omega)]
    exact ⟨A, c, q1, (q2.below hb).other hb2 ne ne ne hk, q3⟩
  · have ei : i = ts.length := by simp at hi; omega
    subst ei
    rw [rowOf_right (Nat.le_refl _), valAt_rights (by omega), he]
    simp only [Nat.sub_self]
    exact ⟨A3, c3, rfl, (ht.below hb).other hb2 ne ne ne hk, hn⟩
theorem NrmD.clAt (q : NrmD w0 lo g ls ts ds u wr) (h1 : ls.length ≤ 6) (h2 : ts.length ≤ 6) (h3 : ds.length ≤ 6) : ClAt wr wr.heap.size u ⟨ls, ts, ds⟩ := by
  obtain ⟨b1, k1, a⟩ := q.a
  obtain ⟨b3, k3, d⟩ := q.d
  have hl := q.lo1
  obtain ⟨A, cap, e, hc, hA⟩ := a.litsAt (by omega)
  obtain ⟨A', cap', e', hc', hA', hz⟩ := q.b.tupsAt (Nat.le_trans q.lo0 q.lo1)
  obtain ⟨A'', cap'', e'', hc'', hA''⟩ := d.litsAt (by omega)
  injection e with x1 x2 x3
  injection e' with y1 y2 y3
  injection e'' with z1 z2 z3
  refine ⟨by rw [x1, x2]; exact hA, by rw [y1, y2]; exact hA', by rw [z1, z2]; exact hA'', by omega, by omega, by omega, by rw [y1, y3]; exact hz, by omega, by omega, by omega⟩
theorem NrmD.start {D1 D3 : Option Addr} {n1 d1 n3 d3 b1 b3 : Nat} (a : OwnG w b1 (.slice D1 n1 d1) ls) (d : OwnG w b3 (.slice D3 n3 d3) ds) (hz : ZBox w g) (hb : Below w0.heap.size w0 w) (hg : w0.heap.size ≤ g) (h1 : b1 ≤ w.heap.size) (h3 : b3 ≤ w.heap.size) :
    NrmD w0 (w.setRow g #[.slice D1 n1 d1, .slice none 0 0, .slice D3 n3 d3]).heap.size g ls [] ds ⟨D1, n1, d1, none, 0, 0, D3, n3, d3⟩ (w.setRow g #[.slice D1 n1 d1, .slice none 0 0, .slice D3 n3 d3]) := by
  obtain ⟨k1, k2, k3⟩ := setRow_chg (cells := #[.slice D1 n1 d1, .slice none 0 0, .slice D3 n3 d3]) hz.z
  have hk : ∀ j, j ≠ g → (w.setRow g #[.slice D1 n1 d1, .slice none 0 0, .slice D3 n3 d3]).heap[j]? = w.heap[j]? := fun j hj => setRow_other _ _ _ _ hj
  have ne : ∀ {A : Option Addr} {n c : Nat} (k : IntKind) (x : Int), Value.slice A n c ≠ .int k x := fun k x h => by cases h
  have hlt := hz.lt
  exact ⟨k1, ⟨b1, by omega, a.other hz.z ne ne ne hk⟩, OwnTg.nil_, ⟨b3, by omega, d.other hz.z ne ne ne hk⟩, hb.trans (k2.bel.mono hg), hg, by have := hb.size; omega, Nat.le_refl _⟩
end
end Go.Proofs.YtcjpopjcpgipjaaDoor
