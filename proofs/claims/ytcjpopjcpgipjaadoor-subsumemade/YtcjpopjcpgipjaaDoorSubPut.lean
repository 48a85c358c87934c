/-
  What binds make of a clause; contract of quaerelaw10: put.
-/
import Derived.Test.YtcjpopjcpgipjaaDoorSubRow
import Derived.Test.YtcjpopjcpgipjaaDoorClauseNorm
import Derived.Test.YtcjpopjcpgipjaaDoorRefMk
namespace Go.Proofs.YtcjpopjcpgipjaaDoor
open Go.RowKit Go.Deep
set_option linter.unusedSimpArgs false
set_option linter.unusedVariables false
set_option maxRecDepth 100000

def putL (us : List Bd) (l : Lt) : Lt := ⟨l.neg, intAt l.atom 0 :: put us (l.atom.drop 1)⟩
def putD (us : List Bd) (c : Cl) : Cl := ⟨c.lits.map (putL us), c.tups.map (put us), []⟩
/-- A clause without its Conds. -/
def cutD (c : Cl) : Cl := ⟨c.lits, c.tups, []⟩
section
variable {ss : List Sym} {us : List Bd} {c d : Cl}
theorem MayC.cut (h : MayC ss c) : MayC ss (cutD c) := by
  refine ⟨h.may, h.nl, h.nt, by show 0 ≤ 3; omega, h.lits, fun l hl => (by cases hl), h.tups, ?_⟩
  refine Nat.le_trans ?_ h.codes
  unfold codesC rowsC cutD
  simp
theorem put_says (hc : MayC ss c) (hb : c.lits ≠ [] ∨ c.tups ≠ [] → bindB ss us = true) : Says ss (cutD c) (putD us c) := by
  by_cases h : c.lits = [] ∧ c.tups = []
  · have e : putD us c = cutD c := by unfold putD cutD; rw [h.1, h.2]; rfl
    rw [e]; exact Says.refl
  · have hu : bindB ss us = true := hb (by
      by_cases q : c.lits = []
      · exact .inr fun r => h ⟨q, r⟩
      · exact .inl q)
    refine ⟨fnB us, fn_sub hu, fun l hl => ?_, fun t ht => ?_, fun l hl => (by cases hl)⟩
    · obtain ⟨p, s, e, hp, _, _, hs, _⟩ := atom_parts (hc.lits l hl)
      refine List.mem_map.2 ⟨l, hl, ?_⟩
      unfold putL apL
      rw [e, ap_sym hp, List.drop_succ_cons, List.drop_zero, put_fn s]
      rfl
    · exact List.mem_map.2 ⟨t, ht, put_fn t⟩
theorem Says.more (h : Says ss c d) (ls : List Lt) : Says ss c ⟨ls ++ d.lits, d.tups, d.conds⟩ := by
  obtain ⟨θ, h1, h2, h3, h4⟩ := h
  exact ⟨θ, h1, fun l hl => List.mem_append_right _ (h2 l hl), h3, h4⟩
end
/-- The clause that is being made, in its box g. -/
structure PutV (w0 : World) (g : Nat) (ls : List Lt) (ts : List (List Int)) (v : Cv) (wr : World) : Prop where
  blk : wr.heap[g]? = some (.cells #[.slice v.A1 v.n1 v.c1, .slice v.A2 v.n2 v.c2, .slice none 0 0] 26 (0, 0))
  a : OwnL wr g (.slice v.A1 v.n1 v.c1) ls
  b : OwnT wr g (.slice v.A2 v.n2 v.c2) ts
  ch : Chg [26, 75, 28] g w0 wr
section
variable {w0 wr wn w2 : World} {g : Nat} {ls : List Lt} {ts : List (List Int)} {v : Cv} {vs : List Value} {u v2 : Value} {x : Bool} {t : List Int}
theorem PutV.c0 (q : PutV w0 g ls ts v wr) : wr.cell? ⟨g, 0, none⟩ = some (.slice v.A1 v.n1 v.c1) := by rw [cell_of_row _ _ 0 _ _ _ q.blk]; rfl
theorem PutV.c1 (q : PutV w0 g ls ts v wr) : wr.cell? ⟨g, 1, none⟩ = some (.slice v.A2 v.n2 v.c2) := by rw [cell_of_row _ _ 1 _ _ _ q.blk]; rfl
theorem PutV.c2 (q : PutV w0 g ls ts v wr) : wr.cell? ⟨g, 2, none⟩ = some (.slice none 0 0) := by rw [cell_of_row _ _ 2 _ _ _ q.blk]; rfl
theorem PutV.fz (q : PutV w0 g ls ts v wr) (i : Nat) : wr.frozen? ⟨g, i, none⟩ = false := frozen_of_row _ _ _ _ _ q.blk
theorem PutV.lt (q : PutV w0 g ls ts v wr) : g < wr.heap.size := (Array.getElem?_eq_some_iff.1 q.blk).1
theorem PutV.on (q : PutV w0 g ls ts v wr) (hb : Below wr.heap.size wr w2) : PutV w0 g ls ts v w2 :=
  ⟨by rw [hb.block g q.lt]; exact q.blk, q.a.on hb, q.b.on hb, q.ch.trans (Chg.of_below hb (Nat.le_of_lt q.lt))⟩
theorem PutV.ownC (q : PutV w0 g ls ts v wr) : OwnC wr g (.agg #[.slice v.A1 v.n1 v.c1, .slice v.A2 v.n2 v.c2, .slice none 0 0]) ⟨ls, ts, []⟩ := ⟨_, _, _, rfl, q.a, q.b, OwnL.nil_⟩
/-- Behind an append to the Lits. -/
theorem PutV.app1 (q : PutV w0 g ls ts v wn) (hown2 : OwnLv w2 g v2 (ls ++ [⟨x, t⟩]) (vs ++ [u])) (hc2 : Chg [75] g wn w2) (hrw : Rws wn g (vs ++ [u]) (ls.map Lt.atom ++ [t])) :
    ∃ D L e, v2 = .slice D L e ∧ w2.cell? ⟨g, 0, none⟩ = some (.slice v.A1 v.n1 v.c1) ∧ w2.frozen? ⟨g, 0, none⟩ = false ∧ PutV w0 g (ls ++ [⟨x, t⟩]) ts ⟨D, L, e, v.A2, v.n2, v.c2, none, 0, 0⟩ (w2.setCell ⟨g, 0, none⟩ (.slice D L e)) := by
  obtain ⟨D, e, hv⟩ := hown2.valued
  obtain ⟨L, hL⟩ : ∃ L, L = (ls ++ [(⟨x, t⟩ : Lt)]).length := ⟨_, rfl⟩
  rw [← hL] at hv
  subst hv
  have o : OwnL w2 g (.slice D L e) (ls ++ [⟨x, t⟩]) := hown2.own (by rw [List.map_append]; exact hrw.chg hc2 (by decide))
  have hb2 := hc2.blk _ _ _ _ q.blk (by decide)
  have cs : Chg [26] g w2 (w2.setCell ⟨g, 0, none⟩ (.slice D L e)) := Chg.set hb2 (Nat.le_refl _) _
  obtain ⟨us, b1, b2⟩ := q.b.vals
  exact ⟨D, L, e, rfl, by rw [cell_of_row _ _ 0 _ _ _ hb2]; rfl, frozen_of_row _ _ _ _ _ hb2, heap_setCell_same _ _ 0 _ _ _ hb2, o.chg cs (by decide) (by decide), OwnT.mk ((b1.chg hc2 (by decide)).chg cs (by decide)) ((b2.chg hc2 (by decide)).chg cs (by decide)), (q.ch.trans (hc2.wide (by simp))).trans (cs.wide (by simp))⟩
/-- Behind an append to the Tuples. -/
theorem PutV.app2 (q : PutV w0 g ls ts v wn) (hown2 : OwnR w2 g v2 (vs ++ [u])) (hc2 : Chg [28] g wn w2) (hrw : Rws wn g (vs ++ [u]) (ts ++ [t])) :
    ∃ D L e, v2 = .slice D L e ∧ w2.cell? ⟨g, 1, none⟩ = some (.slice v.A2 v.n2 v.c2) ∧ w2.frozen? ⟨g, 1, none⟩ = false ∧ PutV w0 g ls (ts ++ [t]) ⟨v.A1, v.n1, v.c1, D, L, e, none, 0, 0⟩ (w2.setCell ⟨g, 1, none⟩ (.slice D L e)) := by
  obtain ⟨D, e, rfl⟩ := hown2.valued
  obtain ⟨L, hL⟩ : ∃ L, L = (vs ++ [u]).length := ⟨_, rfl⟩
  have hown3 : OwnR w2 g (.slice D L e) (vs ++ [u]) := by rw [hL]; exact hown2
  have o := OwnT.mk hown3 (hrw.chg hc2 (by decide))
  have hb2 := hc2.blk _ _ _ _ q.blk (by decide)
  have cs : Chg [26] g w2 (w2.setCell ⟨g, 1, none⟩ (.slice D L e)) := Chg.set hb2 (Nat.le_refl _) _
  obtain ⟨us, b1, b2⟩ := o.vals
  exact ⟨D, L, e, by rw [hL], by rw [cell_of_row _ _ 1 _ _ _ hb2]; rfl, frozen_of_row _ _ _ _ _ hb2, heap_setCell_same _ _ 1 _ _ _ hb2, (q.a.chg hc2 (by decide) (by decide)).chg cs (by decide) (by decide), OwnT.mk (b1.chg cs (by decide)) (b2.chg cs (by decide)), (q.ch.trans (hc2.wide (by simp))).trans (cs.wide (by simp))⟩
end
/-- What put hands back. -/
def PutCPost (ss : List Sym) (us : List Bd) (c : Cl) (w : World) (e : Ending) (w' : World) : Prop :=
  Below w.heap.size w w' ∧ ((∃ v : Cv, e = .returned (.tuple #[v.val, .bool false])) ∨
    ∃ v : Cv, e = .returned (.tuple #[v.val, .bool (mayC ss (putD us c))]) ∧ OwnC w' w.heap.size v.val (putD us c) ∧ Fit (putD us c) ∧ (c.lits ≠ [] ∨ c.tups ≠ [] → bindB ss us = true))
theorem three_boxes (w : World) (o1 o2 o3 : Obj) : ∃ w3, w3 = ((w.alloc o1).alloc o2).alloc o3 ∧ w3.heap[w.heap.size]? = some o1 ∧ w3.heap[w.heap.size + 1]? = some o2 ∧ w3.heap[w.heap.size + 1 + 1]? = some o3 ∧ Below w.heap.size w w3 ∧ w3.heap.size = w.heap.size + 3 := by
  refine ⟨_, rfl, ?_, ?_, ?_, below_new3 w o1 o2 o3, by simp⟩
  · rw [(below_new _ _).block w.heap.size (by simp; omega), (below_new _ _).block w.heap.size (by simp)]
    exact heap_alloc_new _ _
  · rw [(below_new _ _).block (w.heap.size + 1) (by simp)]
    have := heap_alloc_new (w.alloc o1) o2
    simpa using this
  · have := heap_alloc_new ((w.alloc o1).alloc o2) o3
    simpa using this
theorem putLt_next {us : List Bd} {ls : List Lt} {k : Nat} (h : k < ls.length) : (ls.take (k + 1)).map (putL us) = (ls.take k).map (putL us) ++ [putL us (ltAt ls k)] := by
  rw [List.take_add_one, ltAt_get h, List.map_append]; rfl
theorem putRow_next {us : List Bd} {ls : List (List Int)} {k : Nat} (h : k < ls.length) : (ls.take (k + 1)).map (put us) = (ls.take k).map (put us) ++ [put us (rowOf ls k)] := by
  rw [rowOf_next h, List.map_append]; rfl
theorem applyE_zero {ss : List Sym} {us : List Bd} {r : List Int} (h : applyE ss us r = 0) : bindB ss us = true ∧ (put us r).length ≤ 48 ∧ applyR ss us r = put us r := by
  unfold applyE at h
  unfold applyR
  split at h
  · rename_i q
    split at h
    · rename_i z
      rw [Bool.and_eq_true] at q
      exact ⟨q.1, z, by rw [q.1, q.2]; simp [z]⟩
    · exact absurd h (by decide)
  · exact absurd h (by decide)
theorem atom_tail {w : World} {B c : Nat} {A : Option Addr} {p : Int} {s : List Int} (h : IntsAt w B A (s.length + 1) (p :: s)) (hc : s.length + 1 ≤ c) :
    ∃ b off, A = some ⟨b, off, none⟩ ∧ b < B ∧ w.cell? ⟨b, off, none⟩ = some (.int .i64 p) ∧ IntsAt w B (if c = 1 then some ⟨b, off, none⟩ else some ⟨b, off + 1, none⟩) s.length s := by
  obtain ⟨b, off, rfl, hb, hcl⟩ := h.at_ (by simp)
  have h0 := hcl 0 (by simp)
  refine ⟨b, off, rfl, hb, h0, ?_⟩
  have hd := h.drop (k := 1) (by simp)
  rw [Nat.add_sub_cancel] at hd
  rw [List.drop_succ_cons, List.drop_zero] at hd
  by_cases q : c = 1
  · have hl : s.length = 0 := by omega
    have e : s = [] := List.length_eq_zero_iff.1 hl
    subst e
    exact IntsAt.nil_
  · rw [if_neg q]; exact hd
/-- The rounds done so far: each atom has a head, and each call says that it is done. -/
def DoneL (ss : List Sym) (us : List Bd) (ls : List Lt) (k : Nat) : Prop := ∀ j, j < k → (ltAt ls j).atom ≠ [] ∧ applyE ss us ((ltAt ls j).atom.drop 1) = 0
def DoneT (ss : List Sym) (us : List Bd) (ts : List (List Int)) (k : Nat) : Prop := ∀ j, j < k → applyE ss us (rowOf ts j) = 0
section
variable {ss : List Sym} {us : List Bd} {ls : List Lt} {ts : List (List Int)} {k : Nat}
theorem DoneL.zero : DoneL ss us ls 0 := fun j h => absurd h (Nat.not_lt_zero _)
theorem DoneT.zero : DoneT ss us ts 0 := fun j h => absurd h (Nat.not_lt_zero _)
theorem DoneL.next {p : Lt} {x : Int} {s : List Int} (h : DoneL ss us ls k) (e : ltAt ls k = ⟨p.neg, x :: s⟩) (he : applyE ss us s = 0) : DoneL ss us ls (k + 1) := fun j hj => by
  by_cases q : j = k
  · subst q; rw [e]; exact ⟨by simp, he⟩
  · exact h j (by omega)
theorem DoneT.next (h : DoneT ss us ts k) (he : applyE ss us (rowOf ts k) = 0) : DoneT ss us ts (k + 1) := fun j hj => by
  by_cases q : j = k
  · subst q; exact he
  · exact h j (by omega)
theorem put_end {c : Cl} (h1 : DoneL ss us c.lits c.lits.length) (h2 : DoneT ss us c.tups c.tups.length) (f1 : c.lits.length * 32 ≤ 140737488351232) (f2 : c.tups.length * 24 ≤ 140737488351232) : Fit (putD us c) ∧ (c.lits ≠ [] ∨ c.tups ≠ [] → bindB ss us = true) := by
  refine ⟨⟨by show (c.lits.map (putL us)).length * 32 ≤ _; rw [List.length_map]; exact f1, by show (c.tups.map (put us)).length * 24 ≤ _; rw [List.length_map]; exact f2, by show 0 * 32 ≤ _; omega, fun r hr => ?_⟩, fun q => ?_⟩
  · have h48 : r.length ≤ 49 := by
      unfold rowsC putD at hr
      simp only [List.map_nil, List.append_nil, List.mem_append, List.mem_map] at hr
      rcases hr with ⟨l, ⟨x, hx, rfl⟩, rfl⟩ | ⟨t, ht, rfl⟩
      · obtain ⟨i, hi, e⟩ := List.mem_iff_getElem.1 hx
        have e2 : ltAt c.lits i = x := by
          have := ltAt_get hi
          rw [List.getElem?_eq_getElem hi] at this
          injection this with this
          rw [← this, e]
        have z := applyE_zero (h1 i hi).2
        rw [e2] at z
        have := z.2.1
        show (intAt x.atom 0 :: put us (x.atom.drop 1)).length ≤ 49
        rw [List.length_cons]; omega
      · obtain ⟨i, hi, e⟩ := List.mem_iff_getElem.1 ht
        have e2 : rowOf c.tups i = t := by
          have := rowOf_get (L := c.tups) hi
          rw [List.getElem?_eq_getElem hi] at this
          injection this with this
          rw [← this, e]
        have z := applyE_zero (h2 i hi)
        rw [e2] at z
        have := z.2.1
        omega
    omega
  · rcases q with q | q
    · exact (applyE_zero (h1 0 (List.length_pos_iff.2 q)).2).1
    · exact (applyE_zero (h2 0 (List.length_pos_iff.2 q))).1
end
theorem PutV.clAt {w0 wr : World} {g : Nat} {ls : List Lt} {ts : List (List Int)} {v : Cv} (q : PutV w0 g ls ts v wr) (hf : Fit ⟨ls, ts, []⟩) : ClAt wr wr.heap.size ⟨v.A1, v.n1, v.c1, v.A2, v.n2, v.c2, none, 0, 0⟩ ⟨ls, ts, []⟩ := by
  obtain ⟨x, hx, hc⟩ := q.ownC.clAt hf
  obtain ⟨a1, a2, a3, a4, a5, a6, a7, a8, a9⟩ := x
  simp [Cv.val] at hx
  obtain ⟨⟨rfl, rfl, rfl⟩, ⟨rfl, rfl, rfl⟩, rfl, rfl, rfl⟩ := hx
  exact hc
theorem own_slice {w : World} {base : Nat} {v : Value} {xs : List Int} (h : OwnI w base v xs) : ∃ A c, v = .slice A xs.length c ∧ xs.length ≤ c ∧ (A = none → xs.length = 0 ∧ c = 0) ∧ IntsAt w w.heap.size A xs.length xs := by
  have h0 := h
  obtain ⟨A, c, e, hc, hi⟩ := h.intsAt
  refine ⟨A, c, e, hc, fun q => ?_, hi⟩
  subst q
  rcases h0.shape with ⟨e2, e3⟩ | ⟨g, cap, e2, _⟩
  · rw [e] at e2
    injection e2 with _ i1 i2
    exact ⟨i1, i2⟩
  · rw [e] at e2
    injection e2 with i0
    cases i0
theorem applyE_vals (ss : List Sym) (us : List Bd) (r : List Int) : applyE ss us r = 0 ∨ applyE ss us r = 300 ∨ applyE ss us r = 301 := by
  unfold applyE
  split
  · split
    · exact .inl rfl
    · exact .inr (.inr rfl)
  · exact .inr (.inl rfl)
theorem store_box_far_step {w : World} {ops : Array Oper} {o : Oper} {a : Act} {K : Act → World → Prop} {Q : Exit → Act → World → Prop} {E : Prop} (hgd : o.guard = none) (t : TypeId) (p x : Operand) (ho : o.op = .store t p x) (hdst : o.dst = none)
    (g : Nat) (old cells : Array Value) (hp : a.eval p = .pointer (some ⟨g, 0, none⟩)) (hx : a.eval x = .agg cells) (hg : w.heap[g]? = some (.cells old t (0, 0))) (hs : old.size = cells.size) (hi : (Tryd.prog.info? t).map (·.size) = some cells.size) (h1 : cells.all (·.oneCell') = true)
    (h : ∀ w', w'.heap[g]? = some (.cells cells t (0, 0)) → Chg [t] g w w' → (∀ k, k ≠ g → w'.heap[k]? = w.heap[k]?) → K a w') : if Region.wanted o (yielded ops a.tmps) = true then Oper.wp Tryd.prog o a w K Q else E := by
  have hw : Region.wanted o (yielded ops a.tmps) = true := by simp [Region.wanted, hgd]
  rw [if_pos hw]
  obtain ⟨k1, k2, k3⟩ := setRow_chg (cells := cells) hg
  have hK := h _ k1 k2 (fun k hk => setRow_other w g k cells hk)
  have hst : (Instr.storeAt t (.pointer (some ⟨g, 0, none⟩)) (.agg cells)).run Tryd.prog w = .ok () (w.setRow g cells) := by
    simp only [Instr.storeAt, Instr.sureAddr, Sem.run_bind, Sem.run_pure, Result.andThen]
    exact run_storeVar_row _ _ t t old cells hg hi hs h1
  unfold Oper.wp
  simp only [execOp, ho, hp, hx, Sem.run_bind, hst, Result.andThen]
  simp [Oper.upon, hdst, Act.put, hK]
end Go.Proofs.YtcjpopjcpgipjaaDoor
