/-
  Words for memory: a slice stored into a field; a clause that is made by appends, in its box.
  Plain words: the binds that name variables anew, in the order in which they come first: no program.
  Contract of quaereref8: lits.
  Contract of quaereref8: Copy (binds put into a clause).
  Words for memory: a clause whose parts lie in older memory, in its box (the reference's Norm).
  Contract of quaereref8: Norm.
  Contract of quaereref8: Same.
  Contracts of quaereref8: Normal, Variant.
-/
import Derived.Test.YtpblpndlajoebaaClauseNorm
import Derived.Test.YtpblpndlajoebaaClauseRen
import Derived.Test.YtpblpndlajoebaaBaseMore
import Derived.Test.YtpblpndlajoebaaRefTell
import Derived.Test.YtpblpndlajoebaaClauseOnce
import Derived.Test.YtpblpndlajoebaaBaseBind
import Derived.Test.YtpblpndlajoebaaClauseSame
import Derived.Test.YtpblpndlajoebaaHelpClause
namespace Go.Proofs.Ytpblpndlajoebaa
open Go.RowKit Go.Deep
set_option linter.unusedSimpArgs false
set_option linter.unusedVariables false
set_option maxRecDepth 100000

theorem store_slice_op {w : World} {o : Oper} {a : Act} {K : Act → World → Prop} {Q : Exit → Act → World → Prop} (t : TypeId) (p x : Operand) (ho : o.op = .store t p x) (hdst : o.dst = none)
    (g i : Nat) (A : Option Addr) (n c : Nat) (u : Value) (hp : a.eval p = .pointer (some ⟨g, i, none⟩)) (hx : a.eval x = .slice A n c) (hcell : w.cell? ⟨g, i, none⟩ = some u) (hfz : w.frozen? ⟨g, i, none⟩ = false) (hi : (Try.prog.info? t).map (·.size) = some 1)
    (h : K a (w.setCell ⟨g, i, none⟩ (.slice A n c))) : o.wp Try.prog a w K Q := by
  have hadd : (⟨g, i, none⟩ : Addr).add 0 = ⟨g, i, none⟩ := by unfold Addr.add; split <;> simp_all
  have hst : (Instr.storeAt t (.pointer (some ⟨g, i, none⟩)) (.slice A n c)).run Try.prog w = .ok () (w.setCell ⟨g, i, none⟩ (.slice A n c)) := by
    simp only [Instr.storeAt, Instr.sureAddr, Sem.run_bind, Sem.run_pure, Result.andThen_ok]
    cases hq : Try.prog.info? t with
    | none => simp [hq] at hi
    | some j =>
      have hs : j.size = 1 := by simpa [hq] using hi
      have h1 : (store ((⟨g, i, none⟩ : Addr).add 0) (.slice A n c)).run Try.prog w = .ok () (w.setCell ⟨g, i, none⟩ (.slice A n c)) := by
        rw [hadd, run_store Try.prog w _ _ _ rfl, hcell]
        simp [hfz]
      simp [storeVar, sizeOf, typeInfo, hq, Value.cells, hs, storeCells, h1]
  unfold Oper.wp
  simp only [execOp, ho, hp, hx, Sem.run_bind, hst, Result.andThen]
  simp [Oper.upon, hdst, Act.put, h]
theorem store_slice_step {w : World} {ops : Array Oper} {o : Oper} {a : Act} {K : Act → World → Prop} {Q : Exit → Act → World → Prop} {E : Prop} (hgd : o.guard = none) (t : TypeId) (p x : Operand) (ho : o.op = .store t p x) (hdst : o.dst = none)
    (g i : Nat) (A : Option Addr) (n c : Nat) (u : Value) (hp : a.eval p = .pointer (some ⟨g, i, none⟩)) (hx : a.eval x = .slice A n c) (hcell : w.cell? ⟨g, i, none⟩ = some u) (hfz : w.frozen? ⟨g, i, none⟩ = false) (hi : (Try.prog.info? t).map (·.size) = some 1)
    (h : K a (w.setCell ⟨g, i, none⟩ (.slice A n c))) : if Region.wanted o (yielded ops a.tmps) = true then Oper.wp Try.prog o a w K Q else E := by
  have hw : Region.wanted o (yielded ops a.tmps) = true := by simp [Region.wanted, hgd]
  rw [if_pos hw]
  exact store_slice_op t p x ho hdst g i A n c u hp hx hcell hfz hi h

theorem lits_below {wn w2 : World} {g h : Nat} {v2 : Value} {ls : List Lt} (q : OwnL wn g v2 ls) (hc : Chg [57] h wn w2) (hl : ∀ b, v2.ownBlock = some b → b < h) : OwnL w2 g v2 ls := by
  obtain ⟨vs, a, r⟩ := q.vals
  refine OwnLv.own ⟨a.1, a.2.1, ?_⟩ (r.chg hc (by decide))
  rcases a.2.2 with e | ⟨k, cap, cur, e, hg, hb, rest⟩
  · exact .inl e
  · exact .inr ⟨k, cap, cur, e, hg, by rw [hc.bel.block k (hl k (by rw [e]; rfl))]; exact hb, rest⟩
theorem lits_lt {wn : World} {g : Nat} {v2 : Value} {ls : List Lt} (q : OwnL wn g v2 ls) : ∀ b, v2.ownBlock = some b → b < wn.heap.size := by
  obtain ⟨vs, a, r⟩ := q.vals
  exact fun b hb => (World.ownsRow.lt a.2 b hb).2
/-- The clause that is made, in its box g; its Conds lie from h on, its Lits below. -/
structure MkV (w0 : World) (g h : Nat) (c : Cl) (v : Cv) (wr : World) : Prop where
  blk : wr.heap[g]? = some (.cells #[.slice v.A1 v.n1 v.c1, .slice v.A2 v.n2 v.c2, .slice v.A3 v.n3 v.c3] 26 (0, 0))
  a : OwnL wr g (.slice v.A1 v.n1 v.c1) c.lits
  lb : ∀ b, (Value.slice v.A1 v.n1 v.c1).ownBlock = some b → b < h
  b : OwnT wr g (.slice v.A2 v.n2 v.c2) c.tups
  d : OwnL wr h (.slice v.A3 v.n3 v.c3) c.conds
  ch : Chg [26, 57, 33] g w0 wr
  gh : g ≤ h
  hs : h ≤ wr.heap.size
section
variable {w0 wr wn w2 : World} {g h : Nat} {c : Cl} {v : Cv} {vs : List Value} {u v2 : Value} {x : Bool} {t : List Int}
theorem MkV.c0 (q : MkV w0 g h c v wr) : wr.cell? ⟨g, 0, none⟩ = some (.slice v.A1 v.n1 v.c1) := by rw [cell_of_row _ _ 0 _ _ _ q.blk]; rfl
theorem MkV.c1 (q : MkV w0 g h c v wr) : wr.cell? ⟨g, 1, none⟩ = some (.slice v.A2 v.n2 v.c2) := by rw [cell_of_row _ _ 1 _ _ _ q.blk]; rfl
theorem MkV.c2 (q : MkV w0 g h c v wr) : wr.cell? ⟨g, 2, none⟩ = some (.slice v.A3 v.n3 v.c3) := by rw [cell_of_row _ _ 2 _ _ _ q.blk]; rfl
theorem MkV.fz (q : MkV w0 g h c v wr) (i : Nat) : wr.frozen? ⟨g, i, none⟩ = false := frozen_of_row _ _ _ _ _ q.blk
theorem MkV.lt (q : MkV w0 g h c v wr) : g < wr.heap.size := (Array.getElem?_eq_some_iff.1 q.blk).1
theorem MkV.on (q : MkV w0 g h c v wr) (hb : Below wr.heap.size wr w2) : MkV w0 g h c v w2 :=
  ⟨by rw [hb.block g q.lt]; exact q.blk, q.a.on hb, q.lb, q.b.on hb, q.d.on hb, q.ch.trans (Chg.of_below hb (Nat.le_of_lt q.lt)), q.gh, by have := q.hs; have := hb.size; omega⟩
theorem MkV.bel (q : MkV w0 g h c v wr) : Below g w0 wr := q.ch.bel
/-- Behind an append to the Lits, the Tuples, the Conds. -/
theorem MkV.app1 {ls : List Lt} (q : MkV w0 g h ⟨ls, [], []⟩ ⟨v.A1, v.n1, v.c1, none, 0, 0, none, 0, 0⟩ wn) (hown2 : OwnLv w2 g v2 (ls ++ [⟨x, t⟩]) (vs ++ [u])) (hc2 : Chg [57] g wn w2) (hrw : Rws wn g (vs ++ [u]) (ls.map Lt.atom ++ [t])) :
    ∃ D L e, v2 = .slice D L e ∧ w2.cell? ⟨g, 0, none⟩ = some (.slice v.A1 v.n1 v.c1) ∧ w2.frozen? ⟨g, 0, none⟩ = false ∧ g < w2.heap.size ∧ MkV w0 g (w2.setCell ⟨g, 0, none⟩ (.slice D L e)).heap.size ⟨ls ++ [⟨x, t⟩], [], []⟩ ⟨D, L, e, none, 0, 0, none, 0, 0⟩ (w2.setCell ⟨g, 0, none⟩ (.slice D L e)) := by
  obtain ⟨D, e, hv⟩ := hown2.valued
  obtain ⟨L, hL⟩ : ∃ L, L = (ls ++ [(⟨x, t⟩ : Lt)]).length := ⟨_, rfl⟩
  rw [← hL] at hv
  subst hv
  have o : OwnL w2 g (.slice D L e) (ls ++ [⟨x, t⟩]) := hown2.own (by rw [List.map_append]; exact hrw.chg hc2 (by decide))
  have hb2 := hc2.blk _ _ _ _ q.blk (by decide)
  have cs : Chg [26] g w2 (w2.setCell ⟨g, 0, none⟩ (.slice D L e)) := Chg.set hb2 (Nat.le_refl _) _
  have o2 := o.chg cs (by decide) (by decide)
  have hgl := (Array.getElem?_eq_some_iff.1 hb2).1
  refine ⟨D, L, e, rfl, by rw [cell_of_row _ _ 0 _ _ _ hb2]; rfl, frozen_of_row _ _ _ _ _ hb2, hgl, heap_setCell_same _ _ 0 _ _ _ hb2, o2, lits_lt o2, OwnT.nil_, OwnL.nil_, (q.ch.trans (hc2.wide (by simp))).trans (cs.wide (by simp)), ?_, Nat.le_refl _⟩
  have := cs.bel.size
  omega
theorem MkV.app2 {ls ds : List Lt} {ts : List (List Int)} (q : MkV w0 g h ⟨ls, ts, ds⟩ v wn) (hown2 : OwnR w2 g v2 (vs ++ [u])) (hc2 : Chg [33] g wn w2) (hrw : Rws wn g (vs ++ [u]) (ts ++ [t])) :
    ∃ D L e, v2 = .slice D L e ∧ w2.cell? ⟨g, 1, none⟩ = some (.slice v.A2 v.n2 v.c2) ∧ w2.frozen? ⟨g, 1, none⟩ = false ∧ g < w2.heap.size ∧ MkV w0 g h ⟨ls, ts ++ [t], ds⟩ ⟨v.A1, v.n1, v.c1, D, L, e, v.A3, v.n3, v.c3⟩ (w2.setCell ⟨g, 1, none⟩ (.slice D L e)) := by
  obtain ⟨D, e, rfl⟩ := hown2.valued
  have o := OwnT.mk hown2 (hrw.chg hc2 (by decide))
  have hb2 := hc2.blk _ _ _ _ q.blk (by decide)
  have cs : Chg [26] g w2 (w2.setCell ⟨g, 1, none⟩ (.slice D (vs ++ [u]).length e)) := Chg.set hb2 (Nat.le_refl _) _
  have hgl := (Array.getElem?_eq_some_iff.1 hb2).1
  refine ⟨D, _, e, rfl, by rw [cell_of_row _ _ 1 _ _ _ hb2]; rfl, frozen_of_row _ _ _ _ _ hb2, hgl, heap_setCell_same _ _ 1 _ _ _ hb2, (q.a.chg hc2 (by decide) (by decide)).chg cs (by decide) (by decide), q.lb, o.chg cs (by decide) (by decide), (q.d.chg hc2 (by decide) (by decide)).chg cs (by decide) (by decide), (q.ch.trans (hc2.wide (by simp))).trans (cs.wide (by simp)), q.gh, ?_⟩
  have := cs.bel.size
  have := hc2.bel.size
  have := q.hs
  omega
theorem MkV.app3 {ls ds : List Lt} {ts : List (List Int)} (q : MkV w0 g h ⟨ls, ts, ds⟩ v wn) (hown2 : OwnLv w2 h v2 (ds ++ [⟨x, t⟩]) (vs ++ [u])) (hc2 : Chg [57] h wn w2) (hrw : Rws wn h (vs ++ [u]) (ds.map Lt.atom ++ [t])) :
    ∃ D L e, v2 = .slice D L e ∧ w2.cell? ⟨g, 2, none⟩ = some (.slice v.A3 v.n3 v.c3) ∧ w2.frozen? ⟨g, 2, none⟩ = false ∧ g < w2.heap.size ∧ MkV w0 g h ⟨ls, ts, ds ++ [⟨x, t⟩]⟩ ⟨v.A1, v.n1, v.c1, v.A2, v.n2, v.c2, D, L, e⟩ (w2.setCell ⟨g, 2, none⟩ (.slice D L e)) := by
  obtain ⟨D, e, hv⟩ := hown2.valued
  obtain ⟨L, hL⟩ : ∃ L, L = (ds ++ [(⟨x, t⟩ : Lt)]).length := ⟨_, rfl⟩
  rw [← hL] at hv
  subst hv
  have o : OwnL w2 h (.slice D L e) (ds ++ [⟨x, t⟩]) := hown2.own (by rw [List.map_append]; exact hrw.chg hc2 (by decide))
  have hb2 := hc2.blk _ _ _ _ q.blk (by decide)
  have cs : Chg [26] g w2 (w2.setCell ⟨g, 2, none⟩ (.slice D L e)) := Chg.set hb2 (Nat.le_refl _) _
  have hgl := (Array.getElem?_eq_some_iff.1 hb2).1
  refine ⟨D, L, e, rfl, by rw [cell_of_row _ _ 2 _ _ _ hb2]; rfl, frozen_of_row _ _ _ _ _ hb2, hgl, heap_setCell_same _ _ 2 _ _ _ hb2, (lits_below q.a hc2 q.lb).chg cs (by decide) (by decide), q.lb, (q.b.chg hc2 (by decide) (by decide)).chg cs (by decide) (by decide), o.chg cs (by decide) (by decide), (q.ch.trans ((hc2.lower q.gh).wide (by simp))).trans (cs.wide (by simp)), q.gh, ?_⟩
  have := cs.bel.size
  have := hc2.bel.size
  have := q.hs
  omega
theorem MkV.own (q : MkV w0 g h c v wr) : OwnC wr g v.val c := ⟨_, _, _, v.val_eq, q.a, q.b, q.d.lower q.gh⟩
theorem MkV.start (w : World) : MkV w w.heap.size (w.alloc (.cells #[.slice none 0 0, .slice none 0 0, .slice none 0 0] 26)).heap.size ⟨[], [], []⟩ ⟨none, 0, 0, none, 0, 0, none, 0, 0⟩ (w.alloc (.cells #[.slice none 0 0, .slice none 0 0, .slice none 0 0] 26)) :=
  ⟨(ZBox.new w).z, OwnL.nil_, fun b hb => (by cases hb), OwnT.nil_, OwnL.nil_, Chg.of_below (below_new w _) (Nat.le_refl _), by simp, Nat.le_refl _⟩
end
end Go.Proofs.Ytpblpndlajoebaa

namespace Go.Proofs.Ytpblpndlajoebaa
open Go.RowKit
set_option linter.unusedSimpArgs false
set_option linter.unusedVariables false
set_option maxRecDepth 100000

/-- Binds put into a literal, into a clause. -/
def putL (bs : List Bd) (l : Lt) : Lt := ⟨l.neg, put bs l.atom⟩
def putC (bs : List Bd) (c : Cl) : Cl := ⟨c.lits.map (putL bs), c.tups.map (put bs), c.conds.map (putL bs)⟩
theorem intAt_mem {xs : List Int} {i : Nat} (h : i < xs.length) : intAt xs i ∈ xs := List.mem_of_getElem? (intAt_get h)
/-- The variables of a list, named by their places. -/
def bdsF (s : List Nat) : List Bd := s.mapIdx fun i (v : Nat) => (⟨(v : Int), [-1 - (i : Int)]⟩ : Bd)
section
variable {s : List Nat} {v : Nat} {x : Int} {r : List Int}
theorem bdsF_nil : bdsF [] = [] := rfl
theorem bdsF_snoc (s : List Nat) (q : Nat) : bdsF (s ++ [q]) = bdsF s ++ [⟨(q : Int), [-1 - (s.length : Int)]⟩] := by unfold bdsF; rw [List.mapIdx_concat]
theorem bdsF_len (s : List Nat) : (bdsF s).length = s.length := by unfold bdsF; rw [List.length_mapIdx]
theorem bdsF_at {i : Nat} (h : i < s.length) : bdAt (bdsF s) i = ⟨(s[i] : Int), [-1 - (i : Int)]⟩ := by
  unfold bdAt bdsF
  rw [List.getD_eq_getElem?_getD, List.getElem?_mapIdx, List.getElem?_eq_getElem h]; rfl
theorem bdsF_one {i : Nat} (h : i < (bdsF s).length) : 0 < (bdAt (bdsF s) i).t.length ∧ (bdAt (bdsF s) i).t.length ≤ 48 := by
  rw [bdsF_len] at h
  rw [bdsF_at h]
  exact ⟨by show 0 < 1; omega, by show 1 ≤ 48; omega⟩
theorem ofB_in (hs : s.Nodup) (h : v ∈ s) : ofB (bdsF s) (v : Int) = some [-1 - (s.idxOf v : Int)] := by
  have hk := List.idxOf_lt_length_of_mem h
  have e := List.getElem_idxOf hk
  have := ofB_first (bs := bdsF s) (v := (v : Int)) (k := s.idxOf v) (by rw [bdsF_len]; exact hk) (by rw [bdsF_at hk, e]) (fun j hj => by
    have hj' : j < s.length := by omega
    rw [bdsF_at hj']
    intro q
    have q' : s[j] = v := by have : (s[j] : Int) = (v : Int) := q; omega
    have := List.Nodup.idxOf_getElem hs j hj'
    rw [q'] at this
    omega)
  rw [this, bdsF_at hk]
theorem ofB_out (h : v ∉ s) : ofB (bdsF s) (v : Int) = none := ofB_never fun j hj => by
  rw [bdsF_len] at hj
  rw [bdsF_at hj]
  intro q
  have q' : s[j] = v := by have : (s[j] : Int) = (v : Int) := q; omega
  exact h (q' ▸ List.getElem_mem hj)
theorem put1_F (hs : s.Nodup) (h : x < 0 → (-1 - x).toNat ∈ s) : put1 (bdsF s) x = [ren (fun v => s.idxOf v) x] := by
  unfold put1 ren
  by_cases hx : x < 0
  · rw [if_pos hx, if_pos hx]
    have e : -1 - x = (((-1 - x).toNat : Nat) : Int) := by omega
    have := ofB_in hs (h hx)
    rw [← e] at this
    rw [this]; rfl
  · rw [if_neg hx, if_neg hx]
theorem put_F (hs : s.Nodup) (h : ∀ v ∈ vrs r, v ∈ s) : put (bdsF s) r = renR (fun v => s.idxOf v) r := by
  induction r with
  | nil => rfl
  | cons x r ih =>
    have h1 : ∀ v ∈ vrs r, v ∈ s := fun v hv => h v (mem_vrs.2 (List.mem_cons_of_mem _ (mem_vrs.1 hv)))
    rw [put_cons, ih h1, put1_F hs (fun hx => h _ (mem_vrs.2 (by rw [neg_var hx]; exact List.mem_cons_self ..)))]
    rfl
theorem putC_F (c : Cl) : putC (bdsF (firsts (codesC c))) c = renC (fun v => (firsts (codesC c)).idxOf v) c := by
  have key : ∀ r ∈ rowsC c, put (bdsF (firsts (codesC c))) r = renR (fun v => (firsts (codesC c)).idxOf v) r := fun r hr =>
    put_F (once_nodup _) fun v hv => mem_once.2 (row_vrs hr hv)
  unfold putC renC
  congr 1
  · refine List.map_congr_left fun l hl => ?_
    unfold putL renL; rw [key _ (lit_row hl)]
  · exact List.map_congr_left fun t ht => key _ (tup_row ht)
  · refine List.map_congr_left fun l hl => ?_
    unfold putL renL; rw [key _ (cond_row hl)]
theorem norm_put (c : Cl) : norm c = putC (bdsF (firsts (codesC (onceC c)))) (onceC c) := (putC_F (onceC c)).symm
end
end Go.Proofs.Ytpblpndlajoebaa

namespace Go.Proofs.Ytpblpndlajoebaa
open Go.RowKit Go.Deep
set_option linter.unusedSimpArgs false
set_option linter.unusedVariables false
set_option maxRecDepth 100000

theorem sameL_comm (p q : Lt) : sameL p q = sameL q p := by
  rw [Bool.eq_iff_iff, sameL_iff', sameL_iff']
  exact ⟨fun h => h.symm, fun h => h.symm⟩
theorem hasL_next {p : Lt} {ls : List Lt} {m : Nat} (h : m < ls.length) : hasL p (ls.take (m + 1)) = (hasL p (ls.take m) || sameL (ltAt ls m) p) := by
  rw [List.take_add_one, ltAt_get h, sameL_comm]
  unfold hasL
  rw [List.any_append]
  simp
theorem hasL_zero {p : Lt} {ls : List Lt} : hasL p (ls.take 0) = false := by simp [hasL]

set_option maxHeartbeats 4000000 in
theorem refLits_any (A : Option Addr) (n c : Nat) (ls : List Lt) (w : World) (h : LitsAt w w.heap.size A n ls) (hn : n ≤ 6) :
    Calls Try.prog 74 #[.slice A n c] w fun e w' => ∃ v, e = .returned v ∧ OwnG w' w.heap.size v (once ls) ∧ Below w.heap.size w w' := by
  have HS := Lib.hid h
  have HL := Lib.hid h.len
  clear h
  go_enter Try.func74, Try.ntmps74
  go_wp2
  go_loopw [3, 4] (fun q i wr => ∃ k : Nat, i = .int .i64 k ∧ k ≤ n ∧ OwnG wr w.heap.size q (once (ls.take k)) ∧ Below w.heap.size w wr) (fun _ i _ => n - (intOf i).toNat)
  case atStart => exact ⟨0, rfl, by omega, OwnG.nil_, Below.refl _ _⟩
  case round =>
    obtain ⟨k, rfl, hk, hown, hbw⟩ := hrel
    have HBW := Lib.hid hbw
    have HOWN := Lib.hid hown
    have hsz := hbw.size
    have hol : (once (ls.take k)).length ≤ 6 := by have := once_few (xs := ls) (k := k); have := HL.out; omega
    clear hbw hown
    by_cases hlt : k < n
    · have hkl : k < ls.length := by rw [HL.out]; exact hlt
      have HYES := Lib.hid (fun q => once_has hkl q)
      have HNO := Lib.hid (fun q => once_new hkl q)
      obtain ⟨b, off, A3, c3, rfl, hb, d0, d1, hr⟩ := HS.out.one hlt
      obtain ⟨p, hp⟩ : ∃ p, p = ltAt ls k := ⟨_, rfl⟩
      rw [← hp] at d0 d1 hr HYES HNO
      have HR := Lib.hid (show LitAt w w.heap.size A3 p.atom.length c3 p from hr)
      have D0 := Lib.hid d0
      have D1 := Lib.hid d1
      have HLT := Lib.hid hb
      obtain ⟨Am, cm, hvm, _, htm⟩ := HOWN.out.litsAt hsz
      obtain ⟨O, hO⟩ : ∃ O, O = once (ls.take k) := ⟨_, rfl⟩
      rw [← hO] at hvm htm hol HOWN HYES HNO
      obtain ⟨M, hM⟩ : ∃ M, O.length = M := ⟨_, rfl⟩
      rw [hM] at hvm htm hol
      have HM := Lib.hid hM
      have HOL := Lib.hid htm
      subst hvm
      have hi0 : (0 : Int) ≤ (k : Int) := by omega
      have hi3 : (k : Int) < (n : Int) := by omega
      obtain ⟨wA, hwA⟩ : ∃ wA, wA = wr := ⟨_, rfl⟩
      subst hwA
      clear hr hp hkl htm hM hO d0 d1
      go_wp2_with fail
      go_loopw [5, 6] (fun s j wr => ∃ m : Nat, j = .int .i64 m ∧ m ≤ M ∧ s = .bool (hasL p (O.take m)) ∧ Below wA.heap.size wA wr) (fun _ j _ => M - (intOf j).toNat)
      case atStart => exact ⟨0, rfl, by omega, by rw [hasL_zero], Below.refl _ _⟩
      case round =>
        obtain ⟨m, rfl, hm, rfl, hbm⟩ := hrel
        have HBM := Lib.hid hbm
        have HBA := Lib.hid (HBW.out.trans (hbm.mono hsz))
        clear hbm
        have d0 : wr.cell? ⟨b, off + k * 2, none⟩ = some (.bool p.neg) := by rw [HBA.out.cell (p := ⟨b, off + k * 2, none⟩) HLT.out]; exact D0.out
        have d1 : wr.cell? ⟨b, off + k * 2 + 1, none⟩ = some (.slice A3 p.atom.length c3) := by rw [HBA.out.cell (p := ⟨b, off + k * 2 + 1, none⟩) HLT.out]; exact D1.out
        by_cases hmt : m < M
        · have hml : m < O.length := by rw [HM.out]; exact hmt
          obtain ⟨b', off', A4, c4, hA', hb', e0, e1, hr4⟩ := (HOL.out.on HBM.out).one hmt
          subst hA'
          have HNX := Lib.hid (hasL_next (p := p) hml)
          obtain ⟨q, hq⟩ : ∃ q, q = ltAt O m := ⟨_, rfl⟩
          rw [← hq] at e0 e1 hr4 HNX
          have HR4 := Lib.hid hr4
          have E0 := Lib.hid e0
          have E1 := Lib.hid e1
          have HLT4 := Lib.hid hb'
          have HR3 := Lib.hid (HR.out.on HBA.out)
          have hj0 : (0 : Int) ≤ (m : Int) := by omega
          have hj3 : (m : Int) < (M : Int) := by omega
          clear hr4 hq hb' hml
          cases hpb : hasL p (O.take m)
          case true =>
            rw [hpb] at HNX
            have HZ : Hid (hasL p (O.take (m + 1)) = true) := HNX.out
            clear hpb
            go_wp2_with fail
            refine wp_region_held_drew (S := (fun w' => True)) (by kernel_rfl) trivial (fun hHeld => ?_)
            refine takeH (i := 0) (v := ?_) rfl rfl (by kernel_rfl) (by kernel_rfl) (by kernel_rfl) (fun _ _ _ h => h) (by rfl) ?_ hHeld ?_
            rotate_left
            · (intro w hSw; (try dsimp only at hSw); first | (go_simp; done) | (go_simp; with_reducible rfl))
            simp only [Act.put, List.setIfInBounds_toArray, List.set_cons_zero, List.set_cons_succ]
            refine takeH (i := 1) (v := ?_) rfl rfl (by kernel_rfl) (by kernel_rfl) (by kernel_rfl) (fun _ _ _ h => h) (by rfl) ?_ hHeld ?_
            rotate_left
            · (intro w hSw; (try dsimp only at hSw); first | (go_simp; done) | (go_simp; with_reducible rfl))
            simp only [Act.put, List.setIfInBounds_toArray, List.set_cons_zero, List.set_cons_succ]
            refine passH (i := 2) rfl rfl (by kernel_rfl) (by kernel_rfl) (by kernel_rfl) (fun _ _ _ h => h) (by rfl) hHeld ?_
            simp only [Act.put, List.setIfInBounds_toArray, List.set_cons_zero, List.set_cons_succ]
            refine passH (i := 3) rfl rfl (by kernel_rfl) (by kernel_rfl) (by kernel_rfl) (fun _ _ _ h => h) (by rfl) hHeld ?_
            simp only [Act.put, List.setIfInBounds_toArray, List.set_cons_zero, List.set_cons_succ]
            refine passH (i := 4) rfl rfl (by kernel_rfl) (by kernel_rfl) (by kernel_rfl) (fun _ _ _ h => h) (by rfl) hHeld ?_
            simp only [Act.put, List.setIfInBounds_toArray, List.set_cons_zero, List.set_cons_succ]
            refine passH (i := 5) rfl rfl (by kernel_rfl) (by kernel_rfl) (by kernel_rfl) (fun _ _ _ h => h) (by rfl) hHeld ?_
            simp only [Act.put, List.setIfInBounds_toArray, List.set_cons_zero, List.set_cons_succ]
            refine passH (i := 6) rfl rfl (by kernel_rfl) (by kernel_rfl) (by kernel_rfl) (fun _ _ _ h => h) (by rfl) hHeld ?_
            simp only [Act.put, List.setIfInBounds_toArray, List.set_cons_zero, List.set_cons_succ]
            refine passH (i := 7) rfl rfl (by kernel_rfl) (by kernel_rfl) (by kernel_rfl) (fun _ _ _ h => h) (by rfl) hHeld ?_
            simp only [Act.put, List.setIfInBounds_toArray, List.set_cons_zero, List.set_cons_succ]
            refine passH (i := 8) rfl rfl (by kernel_rfl) (by kernel_rfl) (by kernel_rfl) (fun _ _ _ h => h) (by rfl) hHeld ?_
            simp only [Act.put, List.setIfInBounds_toArray, List.set_cons_zero, List.set_cons_succ]
            refine passH (i := 9) rfl rfl (by kernel_rfl) (by kernel_rfl) (by kernel_rfl) (fun _ _ _ h => h) (by rfl) hHeld ?_
            simp only [Act.put, List.setIfInBounds_toArray, List.set_cons_zero, List.set_cons_succ]
            refine passH (i := 10) rfl rfl (by kernel_rfl) (by kernel_rfl) (by kernel_rfl) (fun _ _ _ h => h) (by rfl) hHeld ?_
            simp only [Act.put, List.setIfInBounds_toArray, List.set_cons_zero, List.set_cons_succ]
            refine takeH (i := 11) (v := ?_) rfl rfl (by kernel_rfl) (by kernel_rfl) (by kernel_rfl) (fun _ _ _ h => h) (by rfl) ?_ hHeld ?_
            rotate_left
            · (intro w hSw; (try dsimp only at hSw); first | (go_simp; done) | (go_simp; with_reducible rfl))
            simp only [Act.put, List.setIfInBounds_toArray, List.set_cons_zero, List.set_cons_succ]
            refine takeH (i := 12) (v := ?_) rfl rfl (by kernel_rfl) (by kernel_rfl) (by kernel_rfl) (fun _ _ _ h => h) (by rfl) ?_ hHeld ?_
            rotate_left
            · (intro w hSw; (try dsimp only at hSw); first | (go_simp; done) | (go_simp; with_reducible rfl))
            simp only [Act.put, List.setIfInBounds_toArray, List.set_cons_zero, List.set_cons_succ]
            refine wpAnyH_done (by kernel_rfl) ?_ _
            go_wp2
            go_roundw
            case rel => exact ⟨m + 1, by go_num, by omega, by rw [HZ.out], HBM.out.drew⟩
            case measure => simp [intOf]; omega
          rw [hpb] at HNX
          clear hpb
          go_wp2_with fail
          refine wp_region_held_drew (S := (fun w' => w'.cell? ⟨b, off + k * 2, none⟩ = some (.bool p.neg) ∧ w'.cell? ⟨b, off + k * 2 + 1, none⟩ = some (.slice A3 p.atom.length c3) ∧ w'.cell? ⟨b', off' + m * 2, none⟩ = some (.bool q.neg) ∧ w'.cell? ⟨b', off' + m * 2 + 1, none⟩ = some (.slice A4 q.atom.length c4))) (by kernel_rfl) ⟨d0, d1, e0, e1⟩ (fun hHeld => ?_)
          have hd : Below wr.heap.size wr wr.drew := (Below.refl wr.heap.size wr).drew
          refine takeH (i := 0) (v := ?_) rfl rfl (by kernel_rfl) (by kernel_rfl) (by kernel_rfl) (fun _ _ _ h => h) (by rfl) ?_ hHeld ?_
          rotate_left
          · (intro w hSw; (try dsimp only at hSw); first | (go_simp; done) | (go_simp; with_reducible rfl))
          simp only [Act.put, List.setIfInBounds_toArray, List.set_cons_zero, List.set_cons_succ]
          refine takeH (i := 1) (v := ?_) rfl rfl (by kernel_rfl) (by kernel_rfl) (by kernel_rfl) (fun _ _ _ h => h) (by rfl) ?_ hHeld ?_
          rotate_left
          · (intro w hSw; (try dsimp only at hSw); first | (go_simp; done) | (go_simp; with_reducible rfl))
          simp only [Act.put, List.setIfInBounds_toArray, List.set_cons_zero, List.set_cons_succ]
          refine takeH (i := 2) (v := ?_) rfl rfl (by kernel_rfl) (by kernel_rfl) (by kernel_rfl) (fun _ _ _ h => h) (by rfl) ?_ hHeld ?_
          rotate_left
          · (intro w hSw; (try dsimp only at hSw); first | (go_simp; done) | (go_simp; with_reducible rfl))
          simp only [Act.put, List.setIfInBounds_toArray, List.set_cons_zero, List.set_cons_succ]
          refine takeH (i := 3) (v := ?_) rfl rfl (by kernel_rfl) (by kernel_rfl) (by kernel_rfl) (fun _ _ _ h => h) (by rfl) ?_ hHeld ?_
          rotate_left
          · (intro w hSw; (try dsimp only at hSw); first | (go_simp; done) | (go_simp; with_reducible rfl))
          simp only [Act.put, List.setIfInBounds_toArray, List.set_cons_zero, List.set_cons_succ]
          refine takeH (i := 4) (v := ?_) rfl rfl (by kernel_rfl) (by kernel_rfl) (by kernel_rfl) (fun _ _ _ h => h) (by rfl) ?_ hHeld ?_
          rotate_left
          · (intro w hSw; (try dsimp only at hSw); first | (go_simp; done) | (go_simp; with_reducible rfl))
          simp only [Act.put, List.setIfInBounds_toArray, List.set_cons_zero, List.set_cons_succ]
          refine takeH (i := 5) (v := ?_) rfl rfl (by kernel_rfl) (by kernel_rfl) (by kernel_rfl) (fun _ _ _ h => h) (by rfl) ?_ hHeld ?_
          rotate_left
          · (intro w hSw; (try dsimp only at hSw); first | (go_simp; done) | (go_simp; with_reducible rfl))
          simp only [Act.put, List.setIfInBounds_toArray, List.set_cons_zero, List.set_cons_succ]
          refine takeH (i := 6) (v := ?_) rfl rfl (by kernel_rfl) (by kernel_rfl) (by kernel_rfl) (fun _ _ _ h => h) (by rfl) ?_ hHeld ?_
          rotate_left
          · (intro w hSw; (try dsimp only at hSw); first | (go_simp; done) | (go_simp; with_reducible rfl))
          simp only [Act.put, List.setIfInBounds_toArray, List.set_cons_zero, List.set_cons_succ]
          refine takeH (i := 7) (v := ?_) rfl rfl (by kernel_rfl) (by kernel_rfl) (by kernel_rfl) (fun _ _ _ h => h) (by rfl) ?_ hHeld ?_
          rotate_left
          · (intro w hSw; (try dsimp only at hSw); first | (go_simp; done) | (go_simp; with_reducible rfl))
          simp only [Act.put, List.setIfInBounds_toArray, List.set_cons_zero, List.set_cons_succ]
          refine takeH (i := 8) (v := ?_) rfl rfl (by kernel_rfl) (by kernel_rfl) (by kernel_rfl) (fun _ _ _ h => h) (by rfl) ?_ hHeld ?_
          rotate_left
          · (intro w hSw; (try dsimp only at hSw); first | (go_simp; done) | (go_simp; with_reducible rfl))
          simp only [Act.put, List.setIfInBounds_toArray, List.set_cons_zero, List.set_cons_succ]
          refine takeH (i := 9) (v := ?_) rfl rfl (by kernel_rfl) (by kernel_rfl) (by kernel_rfl) (fun _ _ _ h => h) (by rfl) ?_ hHeld ?_
          rotate_left
          · (intro w hSw; (try dsimp only at hSw); first | (go_simp; done) | (go_simp; with_reducible rfl))
          simp only [Act.put, List.setIfInBounds_toArray, List.set_cons_zero, List.set_cons_succ]
          refine wpAnyH_ready (rs := [10]) (by kernel_rfl) (by simp) ?_
          refine AllReadyH.cons rfl (fun K hK => ?_) AllReadyH.nil
          go_simp
          refine (refSameLit_any A4 A3 _ c4 _ c3 q p _ (HR4.out.on hd) (HR3.out.on hd)).mono ?_
          rintro e w5 ⟨rfl, hb5⟩
          have hb5' := hd.trans (hb5.mono hd.size)
          have HB5 := Lib.hid (HBM.out.trans (hb5'.mono HBM.out.size))
          have d0' : w5.cell? ⟨b, off + k * 2, none⟩ = some (.bool p.neg) := by rw [hb5'.cell (p := ⟨b, off + k * 2, none⟩) (Nat.lt_of_lt_of_le HLT.out HBA.out.size)]; exact d0
          have d1' : w5.cell? ⟨b, off + k * 2 + 1, none⟩ = some (.slice A3 p.atom.length c3) := by rw [hb5'.cell (p := ⟨b, off + k * 2 + 1, none⟩) (Nat.lt_of_lt_of_le HLT.out HBA.out.size)]; exact d1
          have e0' : w5.cell? ⟨b', off' + m * 2, none⟩ = some (.bool q.neg) := by rw [hb5'.cell (p := ⟨b', off' + m * 2, none⟩) HLT4.out]; exact E0.out
          have e1' : w5.cell? ⟨b', off' + m * 2 + 1, none⟩ = some (.slice A4 q.atom.length c4) := by rw [hb5'.cell (p := ⟨b', off' + m * 2 + 1, none⟩) HLT4.out]; exact E1.out
          clear hb5 hb5' hd d0 d1 e0 e1
          obtain ⟨sb, hsb⟩ : ∃ sb, sb = sameL q p := ⟨_, rfl⟩
          rw [← hsb] at HNX ⊢
          have HZ : Hid (hasL p (O.take (m + 1)) = sb) := by show _ = _; rw [HNX.out]; rfl
          clear hsb
          go_wp2_with fail
          refine hK.out _ _ ?_ (fun hHeld => ?_)
          · exact ⟨d0', d1', e0', e1'⟩
          clear hK K
          refine takeH (i := 11) (v := ?_) rfl rfl (by kernel_rfl) (by kernel_rfl) (by kernel_rfl) (fun _ _ _ h => h) (by rfl) ?_ hHeld ?_
          rotate_left
          · (intro w hSw; (try dsimp only at hSw); first | (go_simp; done) | (go_simp; with_reducible rfl))
          simp only [Act.put, List.setIfInBounds_toArray, List.set_cons_zero, List.set_cons_succ]
          refine takeH (i := 12) (v := ?_) rfl rfl (by kernel_rfl) (by kernel_rfl) (by kernel_rfl) (fun _ _ _ h => h) (by rfl) ?_ hHeld ?_
          rotate_left
          · (intro w hSw; (try dsimp only at hSw); first | (go_simp; done) | (go_simp; with_reducible rfl))
          simp only [Act.put, List.setIfInBounds_toArray, List.set_cons_zero, List.set_cons_succ]
          refine wpAnyH_done (by kernel_rfl) ?_ _
          go_wp2
          go_roundw
          case rel => exact ⟨m + 1, by go_num, by omega, by rw [HZ.out], HB5.out⟩
          case measure => simp [intOf]; omega
        · obtain rfl : m = M := by omega
          have HT : Hid (O.take m = O) := List.take_of_length_le (by rw [HM.out]; exact Nat.le_refl _)
          rw [HT.out]
          have hsz2 := HBA.out.size
          cases hpb : hasL p O
          · have HX := Lib.hid (HNO.out hpb)
            have HOW := Lib.hid (HOWN.out.on HBM.out)
            have HLR : Hid (LitAt wr w.heap.size A3 p.atom.length c3 p) := HR.out.below HBA.out
            have hlen : O.length + 1 ≤ 4398046511104 := by rw [HM.out]; omega
            clear hpb
            go_wp2_with (at_builtin
                         refine app_grt rfl (.tmp 33) (.tmp 38) rfl w.heap.size _ O p A3 c3 rfl HOW.out HLR.out rfl hlen hsz2 ?_
                         intro v2 w2 hg2 hb2
                         have HG2 := Lib.hid hg2
                         have HB2 := Lib.hid (HBA.out.trans hb2)
                         clear hg2 hb2)
            go_roundw
            case rel => exact ⟨k + 1, by go_num, by omega, by rw [HX.out]; exact HG2.out, HB2.out⟩
            case measure => simp [intOf]; omega
          · have HX := Lib.hid (HYES.out hpb)
            have HOW := Lib.hid (HOWN.out.on HBM.out)
            clear hpb
            go_wp2
            go_roundw
            case rel => exact ⟨k + 1, by go_num, by omega, by rw [HX.out]; exact HOW.out, HBA.out⟩
            case measure => simp [intOf]; omega
    · obtain rfl : k = n := by omega
      go_wp2
      go_ret
      have e0 : ls.take k = ls := List.take_of_length_le (by rw [HL.out]; omega)
      have how := HOWN.out
      rw [e0] at how
      exact ⟨_, rfl, how, HBW.out⟩
end Go.Proofs.Ytpblpndlajoebaa

namespace Go.Proofs.Ytpblpndlajoebaa
open Go.RowKit Go.Deep
set_option linter.unusedSimpArgs false
set_option linter.unusedVariables false
set_option maxRecDepth 100000

theorem putL_next {bs : List Bd} {ls : List Lt} {k : Nat} (h : k < ls.length) : (ls.take (k + 1)).map (putL bs) = (ls.take k).map (putL bs) ++ [⟨(ltAt ls k).neg, put bs (ltAt ls k).atom⟩] := by
  rw [List.take_add_one, ltAt_get h, List.map_append]; rfl
theorem putR_next {bs : List Bd} {ls : List (List Int)} {k : Nat} (h : k < ls.length) : (ls.take (k + 1)).map (put bs) = (ls.take k).map (put bs) ++ [put bs (rowOf ls k)] := by
  rw [rowOf_next h, List.map_append]; rfl

set_option maxHeartbeats 8000000 in
theorem refCopy_any (A : Option Addr) (n cp : Nat) (bs : List Bd) (v : Cv) (c : Cl) (w : World) (hb : BindsAt w w.heap.size A n bs) (hn : n ≤ 4398046511104) (hv : ∀ i, i < bs.length → 0 < (bdAt bs i).t.length ∧ (bdAt bs i).t.length ≤ 48)
    (hc : ClAt w w.heap.size v c) (hs : Small c) (h24 : ∀ r ∈ rowsC c, ∀ x ∈ r, -24 ≤ x) : Calls Try.prog 76 #[.slice A n cp, v.val] w (ClRet (putC bs c) w) := by
  have l1 := hc.lits.len
  have l2 := hc.tups.len
  have l3 := hc.conds.len
  have q1 : v.n1 ≤ 5 := by rw [← l1]; exact hs.l
  have q2 : v.n2 ≤ 3 := by rw [← l2]; exact hs.t
  have q3 : v.n3 ≤ 3 := by rw [← l3]; exact hs.d
  have HL1 := Lib.hid l1
  have HL2 := Lib.hid l2
  have HL3 := Lib.hid l3
  have HV := Lib.hid hv
  have HSM := Lib.hid hs
  have H24R := Lib.hid h24
  have hb0 := below_new2 w v.obj (.cells #[.slice none 0 0, .slice none 0 0, .slice none 0 0] 26)
  have hx0 := (CBox.new hc).on (below_new _ (.cells #[.slice none 0 0, .slice none 0 0, .slice none 0 0] 26))
  have hz0 := ZBox.new (w.alloc v.obj)
  have hbd0 := hb.on hb0
  have e0 : (w.alloc v.obj).heap.size = w.heap.size + 1 := by simp
  rw [e0] at hz0
  rw [Cv.val_eq]
  unfold Cv.obj at hb0 hx0 hz0 hbd0
  clear hb hc hs hv h24 l1 l2 l3 e0
  go_enter Try.func76, Try.ntmps76
  go_upto_region 1 with (fail)
  obtain ⟨w0, hw0⟩ : ∃ w0, w0 = (w.alloc (.cells #[.slice v.A1 v.n1 v.c1, .slice v.A2 v.n2 v.c2, .slice v.A3 v.n3 v.c3] 26)).alloc (.cells #[.slice none 0 0, .slice none 0 0, .slice none 0 0] 26) := ⟨_, rfl⟩
  have hsz0 : w0.heap.size = w.heap.size + 2 := by rw [hw0]; simp
  rw [← hw0] at hb0 hx0 hz0 hbd0 ⊢
  have HX := Lib.hid hx0
  have HB0 := Lib.hid hb0
  have HZ := Lib.hid hz0
  obtain ⟨B, hB⟩ : ∃ B, B = w.heap.size := ⟨_, rfl⟩
  rw [← hB] at HX HZ hsz0 ⊢
  have HBH := Lib.hid hB
  have hF0 := MkV.start w0
  obtain ⟨g, hg⟩ : ∃ g, g = w0.heap.size := ⟨_, rfl⟩
  have hBg : B < g := by omega
  have hBg1 : B + 1 < g := by omega
  have HG := Lib.hid hg
  have HBO : Hid (∀ wr, Below g w0 wr → BindsAt wr wr.heap.size A n bs) := fun wr q => hbd0.on (hg ▸ q)
  rw [← hg] at hF0
  clear hw0 hb0 hx0 hz0 hbd0 hB hsz0 hg
  go_wp2_with fail
  rw [← HG.out]
  go_loopw [6] (fun i wr => ∃ k : Nat, i = .int .i64 k ∧ k ≤ v.n1 ∧ ∃ u : Cv, MkV w0 g wr.heap.size ⟨(c.lits.take k).map (putL bs), [], []⟩ ⟨u.A1, u.n1, u.c1, none, 0, 0, none, 0, 0⟩ wr) (fun i _ => v.n1 - (intOf i).toNat)
  case atStart => exact ⟨0, rfl, by omega, ⟨none, 0, 0, none, 0, 0, none, 0, 0⟩, hF0⟩
  case round =>
    clear hF0
    obtain ⟨k, rfl, hk, u, hF⟩ := hrel
    have HF := Lib.hid hF
    have HBW := Lib.hid hF.bel
    have HGS := Lib.hid (show g ≤ wr.heap.size from Nat.le_trans hF.gh hF.hs)
    clear hF
    by_cases hlt : k < v.n1
    · have hkl : k < c.lits.length := by rw [HL1.out]; exact hlt
      obtain ⟨b, off, A3, c3, hA, hb, d0, d1, hr⟩ := HX.out.cl.lits.one hlt
      have x0 := HX.out.c0
      rw [hA] at x0
      have X0 := Lib.hid x0
      have HNX := Lib.hid (putL_next (bs := bs) hkl)
      have hm49 : (ltAt c.lits k).atom.length ≤ 1000000 := Nat.le_trans (HSM.out.r _ (lit_row (ltAt_mem hkl))) (by omega)
      have H24 := Lib.hid (fun i (hi : i < (ltAt c.lits k).atom.length) => H24R.out _ (lit_row (ltAt_mem hkl)) _ (intAt_mem hi))
      obtain ⟨p, hp⟩ : ∃ p, p = ltAt c.lits k := ⟨_, rfl⟩
      rw [← hp] at d0 d1 hr HNX hm49 H24
      have D0 := Lib.hid d0
      have D1 := Lib.hid d1
      have HLT : Hid (b < g) := by show b < g; rw [HG.out]; exact hb
      have HRW := Lib.hid (show LitAt w0 w0.heap.size A3 p.atom.length c3 p from hr)
      clear hr hp hkl d0 d1 x0 hA hb

      have hbw := HBW.out
      have x0 : wr.cell? ⟨B, 0, none⟩ = some (.slice (some ⟨b, off, none⟩) v.n1 v.c1) := by rw [hbw.cell (p := ⟨B, 0, none⟩) hBg]; exact X0.out
      have d0 : wr.cell? ⟨b, off + k * 2, none⟩ = some (.bool p.neg) := by rw [hbw.cell (p := ⟨b, off + k * 2, none⟩) HLT.out]; exact D0.out
      have d1 : wr.cell? ⟨b, off + k * 2 + 1, none⟩ = some (.slice A3 p.atom.length c3) := by rw [hbw.cell (p := ⟨b, off + k * 2 + 1, none⟩) HLT.out]; exact D1.out
      have u0 := HF.out.c0
      have hi0 : (0 : Int) ≤ (k : Int) := by omega
      have hi3 : (k : Int) < (v.n1 : Int) := by omega
      clear hbw
      go_wp2_with fail
      refine wp_region_held_drew (S := (fun w' => w'.cell? ⟨B, 0, none⟩ = some (.slice (some ⟨b, off, none⟩) v.n1 v.c1) ∧ w'.cell? ⟨b, off + k * 2, none⟩ = some (.bool p.neg) ∧ w'.cell? ⟨b, off + k * 2 + 1, none⟩ = some (.slice A3 p.atom.length c3))) (by kernel_rfl) ⟨x0, d0, d1⟩ (fun hHeld => ?_)
      have hd : Below wr.heap.size wr wr.drew := (Below.refl wr.heap.size wr).drew
      have HLR := Lib.hid (HRW.out.on (HG.out ▸ (HBW.out.trans (hd.mono HGS.out))))
      have HBD := Lib.hid (HBO.out _ (HBW.out.trans (hd.mono HGS.out)))
      refine takeH (i := 0) (v := ?_) rfl rfl (by kernel_rfl) (by kernel_rfl) (by kernel_rfl) (fun _ _ _ h => h) (by rfl) ?_ hHeld ?_
      rotate_left
      · (intro w hSw; (try dsimp only at hSw); first | (go_simp; done) | (go_simp; with_reducible rfl))
      simp only [Act.put, List.setIfInBounds_toArray, List.set_cons_zero, List.set_cons_succ]
      refine takeH (i := 2) (v := ?_) rfl rfl (by kernel_rfl) (by kernel_rfl) (by kernel_rfl) (fun _ _ _ h => h) (by rfl) ?_ hHeld ?_
      rotate_left
      · (intro w hSw; (try dsimp only at hSw); first | (go_simp; done) | (go_simp; with_reducible rfl))
      simp only [Act.put, List.setIfInBounds_toArray, List.set_cons_zero, List.set_cons_succ]
      refine takeH (i := 3) (v := ?_) rfl rfl (by kernel_rfl) (by kernel_rfl) (by kernel_rfl) (fun _ _ _ h => h) (by rfl) ?_ hHeld ?_
      rotate_left
      · (intro w hSw; (try dsimp only at hSw); first | (go_simp; done) | (go_simp; with_reducible rfl))
      simp only [Act.put, List.setIfInBounds_toArray, List.set_cons_zero, List.set_cons_succ]
      refine takeH (i := 4) (v := ?_) rfl rfl (by kernel_rfl) (by kernel_rfl) (by kernel_rfl) (fun _ _ _ h => h) (by rfl) ?_ hHeld ?_
      rotate_left
      · (intro w hSw; (try dsimp only at hSw); first | (go_simp; done) | (go_simp; with_reducible rfl))
      simp only [Act.put, List.setIfInBounds_toArray, List.set_cons_zero, List.set_cons_succ]
      refine takeH (i := 5) (v := ?_) rfl rfl (by kernel_rfl) (by kernel_rfl) (by kernel_rfl) (fun _ _ _ h => h) (by rfl) ?_ hHeld ?_
      rotate_left
      · (intro w hSw; (try dsimp only at hSw); first | (go_simp; done) | (go_simp; with_reducible rfl))
      simp only [Act.put, List.setIfInBounds_toArray, List.set_cons_zero, List.set_cons_succ]
      refine takeH (i := 6) (v := ?_) rfl rfl (by kernel_rfl) (by kernel_rfl) (by kernel_rfl) (fun _ _ _ h => h) (by rfl) ?_ hHeld ?_
      rotate_left
      · (intro w hSw; (try dsimp only at hSw); first | (go_simp; done) | (go_simp; with_reducible rfl))
      simp only [Act.put, List.setIfInBounds_toArray, List.set_cons_zero, List.set_cons_succ]
      refine takeH (i := 7) (v := ?_) rfl rfl (by kernel_rfl) (by kernel_rfl) (by kernel_rfl) (fun _ _ _ h => h) (by rfl) ?_ hHeld ?_
      rotate_left
      · (intro w hSw; (try dsimp only at hSw); first | (go_simp; done) | (go_simp; with_reducible rfl))
      simp only [Act.put, List.setIfInBounds_toArray, List.set_cons_zero, List.set_cons_succ]
      refine takeH (i := 8) (v := ?_) rfl rfl (by kernel_rfl) (by kernel_rfl) (by kernel_rfl) (fun _ _ _ h => h) (by rfl) ?_ hHeld ?_
      rotate_left
      · (intro w hSw; (try dsimp only at hSw); first | (go_simp; done) | (go_simp; with_reducible rfl))
      simp only [Act.put, List.setIfInBounds_toArray, List.set_cons_zero, List.set_cons_succ]
      refine takeH (i := 9) (v := ?_) rfl rfl (by kernel_rfl) (by kernel_rfl) (by kernel_rfl) (fun _ _ _ h => h) (by rfl) ?_ hHeld ?_
      rotate_left
      · (intro w hSw; (try dsimp only at hSw); first | (go_simp; done) | (go_simp; with_reducible rfl))
      simp only [Act.put, List.setIfInBounds_toArray, List.set_cons_zero, List.set_cons_succ]
      refine takeH (i := 10) (v := ?_) rfl rfl (by kernel_rfl) (by kernel_rfl) (by kernel_rfl) (fun _ _ _ h => h) (by rfl) ?_ hHeld ?_
      rotate_left
      · (intro w hSw; (try dsimp only at hSw); first | (go_simp; done) | (go_simp; with_reducible rfl))
      simp only [Act.put, List.setIfInBounds_toArray, List.set_cons_zero, List.set_cons_succ]
      refine takeH (i := 11) (v := ?_) rfl rfl (by kernel_rfl) (by kernel_rfl) (by kernel_rfl) (fun _ _ _ h => h) (by rfl) ?_ hHeld ?_
      rotate_left
      · (intro w hSw; (try dsimp only at hSw); first | (go_simp; done) | (go_simp; with_reducible rfl))
      simp only [Act.put, List.setIfInBounds_toArray, List.set_cons_zero, List.set_cons_succ]
      refine takeH (i := 12) (v := ?_) rfl rfl (by kernel_rfl) (by kernel_rfl) (by kernel_rfl) (fun _ _ _ h => h) (by rfl) ?_ hHeld ?_
      rotate_left
      · (intro w hSw; (try dsimp only at hSw); first | (go_simp; done) | (go_simp; with_reducible rfl))
      simp only [Act.put, List.setIfInBounds_toArray, List.set_cons_zero, List.set_cons_succ]
      refine takeH (i := 13) (v := ?_) rfl rfl (by kernel_rfl) (by kernel_rfl) (by kernel_rfl) (fun _ _ _ h => h) (by rfl) ?_ hHeld ?_
      rotate_left
      · (intro w hSw; (try dsimp only at hSw); first | (go_simp; done) | (go_simp; with_reducible rfl))
      simp only [Act.put, List.setIfInBounds_toArray, List.set_cons_zero, List.set_cons_succ]
      refine takeH (i := 14) (v := ?_) rfl rfl (by kernel_rfl) (by kernel_rfl) (by kernel_rfl) (fun _ _ _ h => h) (by rfl) ?_ hHeld ?_
      rotate_left
      · (intro w hSw; (try dsimp only at hSw); first | (go_simp; done) | (go_simp; with_reducible rfl))
      simp only [Act.put, List.setIfInBounds_toArray, List.set_cons_zero, List.set_cons_succ]
      refine wpAnyH_ready (rs := [1, 15]) (by kernel_rfl) (by simp) ?_
      refine AllReadyH.cons rfl (fun K hK => ?_) (AllReadyH.cons rfl (fun K hK => ?_) AllReadyH.nil)
      · go_simp
        refine hK.out _ _ ?_ (fun hHeld => ?_)
        · exact ⟨x0, d0, d1⟩
        clear hK K
        refine wpAnyH_ready (rs := [15]) (by kernel_rfl) (by simp) ?_
        refine AllReadyH.cons rfl (fun K hK => ?_) AllReadyH.nil
        go_simp
        refine (refPutW_any A A3 n cp _ c3 bs p.atom _ HBD.out hn HV.out HLR.out.at_ hm49 H24.out).mono ?_
        rintro e w2 ⟨v2, rfl, hv2, hb2⟩
        have hb2' := hd.trans (hb2.mono hd.size)
        have HF2 := Lib.hid (HF.out.on hb2')
        have HBB2 := Lib.hid HF2.out.bel
        have hs2 := hb2'.size
        have hgh := HF2.out.gh
        have hhs := HF.out.hs
        obtain ⟨vs, hv1, hvr⟩ := HF2.out.a.vals
        have HOW := Lib.hid hv1
        have HRS := Lib.hid (hvr.snoc (hv2.lower (show g ≤ wr.drew.heap.size from HGS.out)))
        have hvl : ((c.lits.take k).map (putL bs)).length + 1 ≤ 4398046511104 := by have := HL1.out; simp; omega
        obtain ⟨A4, c4, hv4⟩ := hv2.value
        obtain ⟨L4, hL4⟩ : ∃ L4, L4 = (put bs p.atom).length := ⟨_, rfl⟩
        rw [← hL4] at hv4
        subst hv4
        have HBL := Lib.hid (HBB2.out)
        clear x0 d0 d1 u0
        have x0 : w2.cell? ⟨B, 0, none⟩ = some (.slice (some ⟨b, off, none⟩) v.n1 v.c1) := by rw [HBB2.out.cell (p := ⟨B, 0, none⟩) hBg]; exact X0.out
        have d0 : w2.cell? ⟨b, off + k * 2, none⟩ = some (.bool p.neg) := by rw [HBB2.out.cell (p := ⟨b, off + k * 2, none⟩) HLT.out]; exact D0.out
        have d1 : w2.cell? ⟨b, off + k * 2 + 1, none⟩ = some (.slice A3 p.atom.length c3) := by rw [HBB2.out.cell (p := ⟨b, off + k * 2 + 1, none⟩) HLT.out]; exact D1.out
        have u0 := HF2.out.c0
        clear hv2 hb2 hb2' hv1 hvr hL4
        go_wp2_with fail
        refine hK.out _ _ ?_ (fun hHeld => ?_)
        · exact ⟨x0, d0, d1⟩
        clear hK K
        refine takeH (i := 16) (v := ?_) rfl rfl (by kernel_rfl) (by kernel_rfl) (by kernel_rfl) (fun _ _ _ h => h) (by rfl) ?_ hHeld ?_
        rotate_left
        · (intro w hSw; (try dsimp only at hSw); first | (go_simp; done) | (go_simp; with_reducible rfl))
        simp only [Act.put, List.setIfInBounds_toArray, List.set_cons_zero, List.set_cons_succ]
        refine wpAnyH_ready (rs := [17]) (by kernel_rfl) (by simp) ?_
        refine AllReadyH.cons rfl (fun K hK => ?_) AllReadyH.nil
        go_simp
        have hgw : g ≤ w2.heap.size := by omega
        have HB3 := Lib.hid (HBB2.out.trans ((below_new w2 (.cells #[.bool p.neg, .slice A4 L4 c4] 57)).mono hgw))
        refine hK.out _ _ ?_ (fun hHeld => ?_)
        · exact ⟨by rw [HB3.out.cell (p := ⟨B, 0, none⟩) hBg]; exact X0.out, by rw [HB3.out.cell (p := ⟨b, off + k * 2, none⟩) HLT.out]; exact D0.out, by rw [HB3.out.cell (p := ⟨b, off + k * 2 + 1, none⟩) HLT.out]; exact D1.out⟩
        clear hK K HB3

        refine wpAnyH_ready (rs := [18]) (by kernel_rfl) (by simp) ?_
        refine AllReadyH.cons rfl (fun K hK => ?_) AllReadyH.nil
        refine app_litv_step rfl (.tmp 17) (.tmp 33) rfl g _ _ vs p.neg (put bs p.atom) _ rfl HOW.out rfl rfl rfl hvl (by omega) ?_
        intro v3 w3 hown3 hc3
        have HB3 := Lib.hid (HBB2.out.trans (hc3.bel.mono (show g ≤ g by omega)))
        obtain ⟨D, L9, e9, rfl, b0, b1, hgl2, q3⟩ := MkV.app1 (v := u) HF2.out hown3 hc3 HRS.out
        have HQ := Lib.hid q3
        clear q3 hown3 hc3 hgl2
        refine hK.out _ _ ?_ (fun hHeld => ?_)
        · exact ⟨by rw [HB3.out.cell (p := ⟨B, 0, none⟩) hBg]; exact X0.out, by rw [HB3.out.cell (p := ⟨b, off + k * 2, none⟩) HLT.out]; exact D0.out, by rw [HB3.out.cell (p := ⟨b, off + k * 2 + 1, none⟩) HLT.out]; exact D1.out⟩
        clear hK K
        refine takeH (i := 19) (v := ?_) rfl rfl (by kernel_rfl) (by kernel_rfl) (by kernel_rfl) (fun _ _ _ h => h) (by rfl) ?_ hHeld ?_
        rotate_left
        · (intro w hSw; (try dsimp only at hSw); first | (go_simp; done) | (go_simp; with_reducible rfl))
        simp only [Act.put, List.setIfInBounds_toArray, List.set_cons_zero, List.set_cons_succ]
        refine wpAnyH_ready (rs := [20]) (by kernel_rfl) (by simp) ?_
        refine AllReadyH.cons rfl (fun K hK => ?_) AllReadyH.nil
        refine store_slice_step rfl 23 (.tmp 35) (.tmp 34) rfl rfl g 0 D L9 e9 _ rfl rfl b0 b1 (by kernel_rfl) ?_
        refine hK.out _ _ ?_ (fun hHeld => ?_)
        · exact ⟨by rw [HQ.out.bel.cell (p := ⟨B, 0, none⟩) hBg]; exact X0.out, by rw [HQ.out.bel.cell (p := ⟨b, off + k * 2, none⟩) HLT.out]; exact D0.out, by rw [HQ.out.bel.cell (p := ⟨b, off + k * 2 + 1, none⟩) HLT.out]; exact D1.out⟩
        clear hK K
        refine wpAnyH_done (by kernel_rfl) ?_ _
        clear b0 b1 x0 d0 d1 u0
        go_wp2
        go_roundw
        case rel => exact ⟨k + 1, by go_num, by omega, ⟨D, L9, e9, none, 0, 0, none, 0, 0⟩, by rw [HNX.out]; exact HQ.out⟩
        case measure => simp [intOf]; omega
      · go_simp
        refine (refPutW_any A A3 n cp _ c3 bs p.atom _ HBD.out hn HV.out HLR.out.at_ hm49 H24.out).mono ?_
        rintro e w2 ⟨v2, rfl, hv2, hb2⟩
        have hb2' := hd.trans (hb2.mono hd.size)
        have HF2 := Lib.hid (HF.out.on hb2')
        have HBB2 := Lib.hid HF2.out.bel
        have hs2 := hb2'.size
        have hgh := HF2.out.gh
        have hhs := HF.out.hs
        obtain ⟨vs, hv1, hvr⟩ := HF2.out.a.vals
        have HOW := Lib.hid hv1
        have HRS := Lib.hid (hvr.snoc (hv2.lower (show g ≤ wr.drew.heap.size from HGS.out)))
        have hvl : ((c.lits.take k).map (putL bs)).length + 1 ≤ 4398046511104 := by have := HL1.out; simp; omega
        obtain ⟨A4, c4, hv4⟩ := hv2.value
        obtain ⟨L4, hL4⟩ : ∃ L4, L4 = (put bs p.atom).length := ⟨_, rfl⟩
        rw [← hL4] at hv4
        subst hv4
        have HBL := Lib.hid (HBB2.out)
        clear x0 d0 d1 u0
        have x0 : w2.cell? ⟨B, 0, none⟩ = some (.slice (some ⟨b, off, none⟩) v.n1 v.c1) := by rw [HBB2.out.cell (p := ⟨B, 0, none⟩) hBg]; exact X0.out
        have d0 : w2.cell? ⟨b, off + k * 2, none⟩ = some (.bool p.neg) := by rw [HBB2.out.cell (p := ⟨b, off + k * 2, none⟩) HLT.out]; exact D0.out
        have d1 : w2.cell? ⟨b, off + k * 2 + 1, none⟩ = some (.slice A3 p.atom.length c3) := by rw [HBB2.out.cell (p := ⟨b, off + k * 2 + 1, none⟩) HLT.out]; exact D1.out
        have u0 := HF2.out.c0
        clear hv2 hb2 hb2' hv1 hvr hL4
        go_wp2_with fail
        refine hK.out _ _ ?_ (fun hHeld => ?_)
        · exact ⟨x0, d0, d1⟩
        clear hK K
        refine takeH (i := 16) (v := ?_) rfl rfl (by kernel_rfl) (by kernel_rfl) (by kernel_rfl) (fun _ _ _ h => h) (by rfl) ?_ hHeld ?_
        rotate_left
        · (intro w hSw; (try dsimp only at hSw); first | (go_simp; done) | (go_simp; with_reducible rfl))
        simp only [Act.put, List.setIfInBounds_toArray, List.set_cons_zero, List.set_cons_succ]

        refine wpAnyH_ready (rs := [1, 17]) (by kernel_rfl) (by simp) ?_
        refine AllReadyH.cons rfl (fun K hK => ?_) (AllReadyH.cons rfl (fun K hK => ?_) AllReadyH.nil)
        · go_simp
          refine hK.out _ _ ?_ (fun hHeld => ?_)
          · exact ⟨x0, d0, d1⟩
          clear hK K
          refine wpAnyH_ready (rs := [17]) (by kernel_rfl) (by simp) ?_
          refine AllReadyH.cons rfl (fun K hK => ?_) AllReadyH.nil
          go_simp
          have hgw : g ≤ w2.heap.size := by omega
          have HB3 := Lib.hid (HBB2.out.trans ((below_new w2 (.cells #[.bool p.neg, .slice A4 L4 c4] 57)).mono hgw))
          refine hK.out _ _ ?_ (fun hHeld => ?_)
          · exact ⟨by rw [HB3.out.cell (p := ⟨B, 0, none⟩) hBg]; exact X0.out, by rw [HB3.out.cell (p := ⟨b, off + k * 2, none⟩) HLT.out]; exact D0.out, by rw [HB3.out.cell (p := ⟨b, off + k * 2 + 1, none⟩) HLT.out]; exact D1.out⟩
          clear hK K HB3

          refine wpAnyH_ready (rs := [18]) (by kernel_rfl) (by simp) ?_
          refine AllReadyH.cons rfl (fun K hK => ?_) AllReadyH.nil
          refine app_litv_step rfl (.tmp 17) (.tmp 33) rfl g _ _ vs p.neg (put bs p.atom) _ rfl HOW.out rfl rfl rfl hvl (by omega) ?_
          intro v3 w3 hown3 hc3
          have HB3 := Lib.hid (HBB2.out.trans (hc3.bel.mono (show g ≤ g by omega)))
          obtain ⟨D, L9, e9, rfl, b0, b1, hgl2, q3⟩ := MkV.app1 (v := u) HF2.out hown3 hc3 HRS.out
          have HQ := Lib.hid q3
          clear q3 hown3 hc3 hgl2
          refine hK.out _ _ ?_ (fun hHeld => ?_)
          · exact ⟨by rw [HB3.out.cell (p := ⟨B, 0, none⟩) hBg]; exact X0.out, by rw [HB3.out.cell (p := ⟨b, off + k * 2, none⟩) HLT.out]; exact D0.out, by rw [HB3.out.cell (p := ⟨b, off + k * 2 + 1, none⟩) HLT.out]; exact D1.out⟩
          clear hK K
          refine takeH (i := 19) (v := ?_) rfl rfl (by kernel_rfl) (by kernel_rfl) (by kernel_rfl) (fun _ _ _ h => h) (by rfl) ?_ hHeld ?_
          rotate_left
          · (intro w hSw; (try dsimp only at hSw); first | (go_simp; done) | (go_simp; with_reducible rfl))
          simp only [Act.put, List.setIfInBounds_toArray, List.set_cons_zero, List.set_cons_succ]
          refine wpAnyH_ready (rs := [20]) (by kernel_rfl) (by simp) ?_
          refine AllReadyH.cons rfl (fun K hK => ?_) AllReadyH.nil
          refine store_slice_step rfl 23 (.tmp 35) (.tmp 34) rfl rfl g 0 D L9 e9 _ rfl rfl b0 b1 (by kernel_rfl) ?_
          refine hK.out _ _ ?_ (fun hHeld => ?_)
          · exact ⟨by rw [HQ.out.bel.cell (p := ⟨B, 0, none⟩) hBg]; exact X0.out, by rw [HQ.out.bel.cell (p := ⟨b, off + k * 2, none⟩) HLT.out]; exact D0.out, by rw [HQ.out.bel.cell (p := ⟨b, off + k * 2 + 1, none⟩) HLT.out]; exact D1.out⟩
          clear hK K
          refine wpAnyH_done (by kernel_rfl) ?_ _
          clear b0 b1 x0 d0 d1 u0
          go_wp2
          go_roundw
          case rel => exact ⟨k + 1, by go_num, by omega, ⟨D, L9, e9, none, 0, 0, none, 0, 0⟩, by rw [HNX.out]; exact HQ.out⟩
          case measure => simp [intOf]; omega
        · go_simp
          have hgw : g ≤ w2.heap.size := by omega
          have HB3 := Lib.hid (HBB2.out.trans ((below_new w2 (.cells #[.bool p.neg, .slice A4 L4 c4] 57)).mono hgw))
          refine hK.out _ _ ?_ (fun hHeld => ?_)
          · exact ⟨by rw [HB3.out.cell (p := ⟨B, 0, none⟩) hBg]; exact X0.out, by rw [HB3.out.cell (p := ⟨b, off + k * 2, none⟩) HLT.out]; exact D0.out, by rw [HB3.out.cell (p := ⟨b, off + k * 2 + 1, none⟩) HLT.out]; exact D1.out⟩
          clear hK K HB3

          have HB3 := Lib.hid (HBB2.out.trans ((below_new w2 (.cells #[.bool p.neg, .slice A4 L4 c4] 57)).mono hgw))
          have u3 := (HF2.out.on (below_new w2 (.cells #[.bool p.neg, .slice A4 L4 c4] 57))).c0

          refine wpAnyH_ready (rs := [1]) (by kernel_rfl) (by simp) ?_
          refine AllReadyH.cons rfl (fun K hK => ?_) AllReadyH.nil
          go_simp
          refine hK.out _ _ ?_ (fun hHeld => ?_)
          · exact ⟨by rw [HB3.out.cell (p := ⟨B, 0, none⟩) hBg]; exact X0.out, by rw [HB3.out.cell (p := ⟨b, off + k * 2, none⟩) HLT.out]; exact D0.out, by rw [HB3.out.cell (p := ⟨b, off + k * 2 + 1, none⟩) HLT.out]; exact D1.out⟩
          clear hK K HB3 u3

          refine wpAnyH_ready (rs := [18]) (by kernel_rfl) (by simp) ?_
          refine AllReadyH.cons rfl (fun K hK => ?_) AllReadyH.nil
          refine app_litv_step rfl (.tmp 17) (.tmp 33) rfl g _ _ vs p.neg (put bs p.atom) _ rfl HOW.out rfl rfl rfl hvl (by omega) ?_
          intro v3 w3 hown3 hc3
          have HB3 := Lib.hid (HBB2.out.trans (hc3.bel.mono (show g ≤ g by omega)))
          obtain ⟨D, L9, e9, rfl, b0, b1, hgl2, q3⟩ := MkV.app1 (v := u) HF2.out hown3 hc3 HRS.out
          have HQ := Lib.hid q3
          clear q3 hown3 hc3 hgl2
          refine hK.out _ _ ?_ (fun hHeld => ?_)
          · exact ⟨by rw [HB3.out.cell (p := ⟨B, 0, none⟩) hBg]; exact X0.out, by rw [HB3.out.cell (p := ⟨b, off + k * 2, none⟩) HLT.out]; exact D0.out, by rw [HB3.out.cell (p := ⟨b, off + k * 2 + 1, none⟩) HLT.out]; exact D1.out⟩
          clear hK K
          refine takeH (i := 19) (v := ?_) rfl rfl (by kernel_rfl) (by kernel_rfl) (by kernel_rfl) (fun _ _ _ h => h) (by rfl) ?_ hHeld ?_
          rotate_left
          · (intro w hSw; (try dsimp only at hSw); first | (go_simp; done) | (go_simp; with_reducible rfl))
          simp only [Act.put, List.setIfInBounds_toArray, List.set_cons_zero, List.set_cons_succ]
          refine wpAnyH_ready (rs := [20]) (by kernel_rfl) (by simp) ?_
          refine AllReadyH.cons rfl (fun K hK => ?_) AllReadyH.nil
          refine store_slice_step rfl 23 (.tmp 35) (.tmp 34) rfl rfl g 0 D L9 e9 _ rfl rfl b0 b1 (by kernel_rfl) ?_
          refine hK.out _ _ ?_ (fun hHeld => ?_)
          · exact ⟨by rw [HQ.out.bel.cell (p := ⟨B, 0, none⟩) hBg]; exact X0.out, by rw [HQ.out.bel.cell (p := ⟨b, off + k * 2, none⟩) HLT.out]; exact D0.out, by rw [HQ.out.bel.cell (p := ⟨b, off + k * 2 + 1, none⟩) HLT.out]; exact D1.out⟩
          clear hK K
          refine wpAnyH_done (by kernel_rfl) ?_ _
          clear b0 b1 x0 d0 d1 u0
          go_wp2
          go_roundw
          case rel => exact ⟨k + 1, by go_num, by omega, ⟨D, L9, e9, none, 0, 0, none, 0, 0⟩, by rw [HNX.out]; exact HQ.out⟩
          case measure => simp [intOf]; omega
    · obtain rfl : k = v.n1 := by omega
      have HT1 : Hid (c.lits.take v.n1 = c.lits) := List.take_of_length_le (by rw [HL1.out]; exact Nat.le_refl _)
      rw [HT1.out] at HF
      have x0 : wr.cell? ⟨B, 0, none⟩ = some (.slice v.A1 v.n1 v.c1) := by rw [HBW.out.cell (p := ⟨B, 0, none⟩) hBg]; exact HX.out.c0
      obtain ⟨wz0, hwz⟩ : ∃ wz0, wz0 = wr := ⟨_, rfl⟩
      subst hwz
      obtain ⟨h, hh⟩ : ∃ h, h = wz0.heap.size := ⟨_, rfl⟩
      rw [← hh] at HF
      clear hh
      go_wp2_with fail
      go_loopw [7] (fun i wr => ∃ k : Nat, i = .int .i64 k ∧ k ≤ v.n2 ∧ ∃ u : Cv, MkV w0 g h ⟨c.lits.map (putL bs), (c.tups.take k).map (put bs), []⟩ u wr) (fun i _ => v.n2 - (intOf i).toNat)
      case atStart => exact ⟨0, rfl, by omega, _, HF.out⟩
      case round =>
        clear HF HBW HGS x0 hk
        obtain ⟨k, rfl, hk, u, hF⟩ := hrel
        have HF := Lib.hid hF
        have HBW := Lib.hid hF.bel
        have HGS := Lib.hid (show g ≤ wr.heap.size from Nat.le_trans hF.gh hF.hs)
        clear hF
        by_cases hlt : k < v.n2
        · have hkl : k < c.tups.length := by rw [HL2.out]; exact hlt
          obtain ⟨b, off, A3, c3, hA, hb, d0, hr, -⟩ := HX.out.cl.tups.one hlt
          have x0 := HX.out.c1
          rw [hA] at x0
          have X0 := Lib.hid x0
          have HNX := Lib.hid (putR_next (bs := bs) hkl)
          have hm49 : (rowOf c.tups k).length ≤ 1000000 := Nat.le_trans (HSM.out.r _ (tup_row (rowOf_mem hkl))) (by omega)
          have H24 := Lib.hid (fun i (hi : i < (rowOf c.tups k).length) => H24R.out _ (tup_row (rowOf_mem hkl)) _ (intAt_mem hi))
          obtain ⟨p, hp⟩ : ∃ p, p = rowOf c.tups k := ⟨_, rfl⟩
          rw [← hp] at d0 hr HNX hm49 H24
          have D0 := Lib.hid d0
          have HLT : Hid (b < g) := by show b < g; rw [HG.out]; exact hb
          have HRW := Lib.hid (show RowIn w0 w0.heap.size A3 p.length c3 p from hr)
          clear hr hp hkl d0 x0 hA hb

          have hbw := HBW.out
          have x0 : wr.cell? ⟨B, 1, none⟩ = some (.slice (some ⟨b, off, none⟩) v.n2 v.c2) := by rw [hbw.cell (p := ⟨B, 1, none⟩) hBg]; exact X0.out
          have d0 : wr.cell? ⟨b, off + k, none⟩ = some (.slice A3 p.length c3) := by rw [hbw.cell (p := ⟨b, off + k, none⟩) HLT.out]; exact D0.out
          have u0 := HF.out.c1
          have hi0 : (0 : Int) ≤ (k : Int) := by omega
          have hi3 : (k : Int) < (v.n2 : Int) := by omega
          clear hbw
          go_wp2_with fail
          refine wp_region_held_drew (S := (fun w' => w'.cell? ⟨B, 1, none⟩ = some (.slice (some ⟨b, off, none⟩) v.n2 v.c2) ∧ w'.cell? ⟨b, off + k, none⟩ = some (.slice A3 p.length c3))) (by kernel_rfl) ⟨x0, d0⟩ (fun hHeld => ?_)
          have hd : Below wr.heap.size wr wr.drew := (Below.refl wr.heap.size wr).drew
          have HLR := Lib.hid (HRW.out.on (HG.out ▸ (HBW.out.trans (hd.mono HGS.out))))
          have HBD := Lib.hid (HBO.out _ (HBW.out.trans (hd.mono HGS.out)))
          refine takeH (i := 0) (v := ?_) rfl rfl (by kernel_rfl) (by kernel_rfl) (by kernel_rfl) (fun _ _ _ h => h) (by rfl) ?_ hHeld ?_
          rotate_left
          · (intro w hSw; (try dsimp only at hSw); first | (go_simp; done) | (go_simp; with_reducible rfl))
          simp only [Act.put, List.setIfInBounds_toArray, List.set_cons_zero, List.set_cons_succ]
          refine takeH (i := 2) (v := ?_) rfl rfl (by kernel_rfl) (by kernel_rfl) (by kernel_rfl) (fun _ _ _ h => h) (by rfl) ?_ hHeld ?_
          rotate_left
          · (intro w hSw; (try dsimp only at hSw); first | (go_simp; done) | (go_simp; with_reducible rfl))
          simp only [Act.put, List.setIfInBounds_toArray, List.set_cons_zero, List.set_cons_succ]
          refine takeH (i := 3) (v := ?_) rfl rfl (by kernel_rfl) (by kernel_rfl) (by kernel_rfl) (fun _ _ _ h => h) (by rfl) ?_ hHeld ?_
          rotate_left
          · (intro w hSw; (try dsimp only at hSw); first | (go_simp; done) | (go_simp; with_reducible rfl))
          simp only [Act.put, List.setIfInBounds_toArray, List.set_cons_zero, List.set_cons_succ]
          refine takeH (i := 4) (v := ?_) rfl rfl (by kernel_rfl) (by kernel_rfl) (by kernel_rfl) (fun _ _ _ h => h) (by rfl) ?_ hHeld ?_
          rotate_left
          · (intro w hSw; (try dsimp only at hSw); first | (go_simp; done) | (go_simp; with_reducible rfl))
          simp only [Act.put, List.setIfInBounds_toArray, List.set_cons_zero, List.set_cons_succ]
          refine takeH (i := 5) (v := ?_) rfl rfl (by kernel_rfl) (by kernel_rfl) (by kernel_rfl) (fun _ _ _ h => h) (by rfl) ?_ hHeld ?_
          rotate_left
          · (intro w hSw; (try dsimp only at hSw); first | (go_simp; done) | (go_simp; with_reducible rfl))
          simp only [Act.put, List.setIfInBounds_toArray, List.set_cons_zero, List.set_cons_succ]
          refine takeH (i := 6) (v := ?_) rfl rfl (by kernel_rfl) (by kernel_rfl) (by kernel_rfl) (fun _ _ _ h => h) (by rfl) ?_ hHeld ?_
          rotate_left
          · (intro w hSw; (try dsimp only at hSw); first | (go_simp; done) | (go_simp; with_reducible rfl))
          simp only [Act.put, List.setIfInBounds_toArray, List.set_cons_zero, List.set_cons_succ]
          refine takeH (i := 7) (v := ?_) rfl rfl (by kernel_rfl) (by kernel_rfl) (by kernel_rfl) (fun _ _ _ h => h) (by rfl) ?_ hHeld ?_
          rotate_left
          · (intro w hSw; (try dsimp only at hSw); first | (go_simp; done) | (go_simp; with_reducible rfl))
          simp only [Act.put, List.setIfInBounds_toArray, List.set_cons_zero, List.set_cons_succ]
          refine wpAnyH_ready (rs := [1, 8]) (by kernel_rfl) (by simp) ?_
          refine AllReadyH.cons rfl (fun K hK => ?_) (AllReadyH.cons rfl (fun K hK => ?_) AllReadyH.nil)
          · go_simp
            refine hK.out _ _ ?_ (fun hHeld => ?_)
            · exact ⟨x0, d0⟩
            clear hK K
            refine wpAnyH_ready (rs := [8]) (by kernel_rfl) (by simp) ?_
            refine AllReadyH.cons rfl (fun K hK => ?_) AllReadyH.nil
            go_simp
            refine (refPutW_any A A3 n cp _ c3 bs p _ HBD.out hn HV.out HLR.out.at_ hm49 H24.out).mono ?_
            rintro e w2 ⟨v2, rfl, hv2, hb2⟩
            have hb2' := hd.trans (hb2.mono hd.size)
            have HF2 := Lib.hid (HF.out.on hb2')
            have HBB2 := Lib.hid HF2.out.bel
            have hs2 := hb2'.size
            have hgh := HF2.out.gh
            have hhs := HF.out.hs
            obtain ⟨vs, hv1, hvr⟩ := HF2.out.b.vals
            have HOW := Lib.hid hv1
            have HRS := Lib.hid (hvr.snoc (hv2.lower (show g ≤ wr.drew.heap.size from HGS.out)))
            have hvl : vs.length + 1 ≤ 5864062014634 := by have h1 := hvr.1; simp at h1; omega
            obtain ⟨A4, c4, hv4⟩ := hv2.value
            obtain ⟨L4, hL4⟩ : ∃ L4, L4 = (put bs p).length := ⟨_, rfl⟩
            rw [← hL4] at hv4
            subst hv4
            have HBL := Lib.hid (HBB2.out)
            clear x0 d0 u0
            have x0 : w2.cell? ⟨B, 1, none⟩ = some (.slice (some ⟨b, off, none⟩) v.n2 v.c2) := by rw [HBB2.out.cell (p := ⟨B, 1, none⟩) hBg]; exact X0.out
            have d0 : w2.cell? ⟨b, off + k, none⟩ = some (.slice A3 p.length c3) := by rw [HBB2.out.cell (p := ⟨b, off + k, none⟩) HLT.out]; exact D0.out
            have u0 := HF2.out.c1
            clear hv2 hb2 hb2' hv1 hvr hL4
            go_wp2_with fail
            refine hK.out _ _ ?_ (fun hHeld => ?_)
            · exact ⟨x0, d0⟩
            clear hK K
            refine wpAnyH_ready (rs := [9]) (by kernel_rfl) (by simp) ?_
            refine AllReadyH.cons rfl (fun K hK => ?_) AllReadyH.nil
            go_simp
            have hgw : g ≤ w2.heap.size := by omega
            have HB3 := Lib.hid (HBB2.out.trans ((below_new w2 (.cells #[.slice A4 L4 c4] 33)).mono hgw))
            refine hK.out _ _ ?_ (fun hHeld => ?_)
            · exact ⟨by rw [HB3.out.cell (p := ⟨B, 1, none⟩) hBg]; exact X0.out, by rw [HB3.out.cell (p := ⟨b, off + k, none⟩) HLT.out]; exact D0.out⟩
            clear hK K HB3

            refine wpAnyH_ready (rs := [10]) (by kernel_rfl) (by simp) ?_
            refine AllReadyH.cons rfl (fun K hK => ?_) AllReadyH.nil
            refine app_rowv_step rfl (.tmp 44) (.tmp 52) rfl g _ vs _ rfl HOW.out rfl rfl rfl hvl (by omega) ?_
            intro v3 w3 hown3 hc3
            have HB3 := Lib.hid (HBB2.out.trans (hc3.bel.mono (show g ≤ g by omega)))
            obtain ⟨D, L9, e9, rfl, b0, b1, hgl2, q3⟩ := MkV.app2 HF2.out hown3 hc3 HRS.out
            have HQ := Lib.hid q3
            clear q3 hown3 hc3 hgl2
            refine hK.out _ _ ?_ (fun hHeld => ?_)
            · exact ⟨by rw [HB3.out.cell (p := ⟨B, 1, none⟩) hBg]; exact X0.out, by rw [HB3.out.cell (p := ⟨b, off + k, none⟩) HLT.out]; exact D0.out⟩
            clear hK K
            refine takeH (i := 11) (v := ?_) rfl rfl (by kernel_rfl) (by kernel_rfl) (by kernel_rfl) (fun _ _ _ h => h) (by rfl) ?_ hHeld ?_
            rotate_left
            · (intro w hSw; (try dsimp only at hSw); first | (go_simp; done) | (go_simp; with_reducible rfl))
            simp only [Act.put, List.setIfInBounds_toArray, List.set_cons_zero, List.set_cons_succ]
            refine wpAnyH_ready (rs := [12]) (by kernel_rfl) (by simp) ?_
            refine AllReadyH.cons rfl (fun K hK => ?_) AllReadyH.nil
            refine store_slice_step rfl 24 (.tmp 54) (.tmp 53) rfl rfl g 1 D L9 e9 _ rfl rfl b0 b1 (by kernel_rfl) ?_
            refine hK.out _ _ ?_ (fun hHeld => ?_)
            · exact ⟨by rw [HQ.out.bel.cell (p := ⟨B, 1, none⟩) hBg]; exact X0.out, by rw [HQ.out.bel.cell (p := ⟨b, off + k, none⟩) HLT.out]; exact D0.out⟩
            clear hK K
            refine wpAnyH_done (by kernel_rfl) ?_ _
            clear b0 b1 x0 d0 u0
            go_wp2
            go_roundw
            case rel => exact ⟨k + 1, by go_num, by omega, _, by rw [HNX.out]; exact HQ.out⟩
            case measure => simp [intOf]; omega
          · go_simp
            refine (refPutW_any A A3 n cp _ c3 bs p _ HBD.out hn HV.out HLR.out.at_ hm49 H24.out).mono ?_
            rintro e w2 ⟨v2, rfl, hv2, hb2⟩
            have hb2' := hd.trans (hb2.mono hd.size)
            have HF2 := Lib.hid (HF.out.on hb2')
            have HBB2 := Lib.hid HF2.out.bel
            have hs2 := hb2'.size
            have hgh := HF2.out.gh
            have hhs := HF.out.hs
            obtain ⟨vs, hv1, hvr⟩ := HF2.out.b.vals
            have HOW := Lib.hid hv1
            have HRS := Lib.hid (hvr.snoc (hv2.lower (show g ≤ wr.drew.heap.size from HGS.out)))
            have hvl : vs.length + 1 ≤ 5864062014634 := by have h1 := hvr.1; simp at h1; omega
            obtain ⟨A4, c4, hv4⟩ := hv2.value
            obtain ⟨L4, hL4⟩ : ∃ L4, L4 = (put bs p).length := ⟨_, rfl⟩
            rw [← hL4] at hv4
            subst hv4
            have HBL := Lib.hid (HBB2.out)
            clear x0 d0 u0
            have x0 : w2.cell? ⟨B, 1, none⟩ = some (.slice (some ⟨b, off, none⟩) v.n2 v.c2) := by rw [HBB2.out.cell (p := ⟨B, 1, none⟩) hBg]; exact X0.out
            have d0 : w2.cell? ⟨b, off + k, none⟩ = some (.slice A3 p.length c3) := by rw [HBB2.out.cell (p := ⟨b, off + k, none⟩) HLT.out]; exact D0.out
            have u0 := HF2.out.c1
            clear hv2 hb2 hb2' hv1 hvr hL4
            go_wp2_with fail
            refine hK.out _ _ ?_ (fun hHeld => ?_)
            · exact ⟨x0, d0⟩
            clear hK K

            refine wpAnyH_ready (rs := [1, 9]) (by kernel_rfl) (by simp) ?_
            refine AllReadyH.cons rfl (fun K hK => ?_) (AllReadyH.cons rfl (fun K hK => ?_) AllReadyH.nil)
            · go_simp
              refine hK.out _ _ ?_ (fun hHeld => ?_)
              · exact ⟨x0, d0⟩
              clear hK K
              refine wpAnyH_ready (rs := [9]) (by kernel_rfl) (by simp) ?_
              refine AllReadyH.cons rfl (fun K hK => ?_) AllReadyH.nil
              go_simp
              have hgw : g ≤ w2.heap.size := by omega
              have HB3 := Lib.hid (HBB2.out.trans ((below_new w2 (.cells #[.slice A4 L4 c4] 33)).mono hgw))
              refine hK.out _ _ ?_ (fun hHeld => ?_)
              · exact ⟨by rw [HB3.out.cell (p := ⟨B, 1, none⟩) hBg]; exact X0.out, by rw [HB3.out.cell (p := ⟨b, off + k, none⟩) HLT.out]; exact D0.out⟩
              clear hK K HB3

              refine wpAnyH_ready (rs := [10]) (by kernel_rfl) (by simp) ?_
              refine AllReadyH.cons rfl (fun K hK => ?_) AllReadyH.nil
              refine app_rowv_step rfl (.tmp 44) (.tmp 52) rfl g _ vs _ rfl HOW.out rfl rfl rfl hvl (by omega) ?_
              intro v3 w3 hown3 hc3
              have HB3 := Lib.hid (HBB2.out.trans (hc3.bel.mono (show g ≤ g by omega)))
              obtain ⟨D, L9, e9, rfl, b0, b1, hgl2, q3⟩ := MkV.app2 HF2.out hown3 hc3 HRS.out
              have HQ := Lib.hid q3
              clear q3 hown3 hc3 hgl2
              refine hK.out _ _ ?_ (fun hHeld => ?_)
              · exact ⟨by rw [HB3.out.cell (p := ⟨B, 1, none⟩) hBg]; exact X0.out, by rw [HB3.out.cell (p := ⟨b, off + k, none⟩) HLT.out]; exact D0.out⟩
              clear hK K
              refine takeH (i := 11) (v := ?_) rfl rfl (by kernel_rfl) (by kernel_rfl) (by kernel_rfl) (fun _ _ _ h => h) (by rfl) ?_ hHeld ?_
              rotate_left
              · (intro w hSw; (try dsimp only at hSw); first | (go_simp; done) | (go_simp; with_reducible rfl))
              simp only [Act.put, List.setIfInBounds_toArray, List.set_cons_zero, List.set_cons_succ]
              refine wpAnyH_ready (rs := [12]) (by kernel_rfl) (by simp) ?_
              refine AllReadyH.cons rfl (fun K hK => ?_) AllReadyH.nil
              refine store_slice_step rfl 24 (.tmp 54) (.tmp 53) rfl rfl g 1 D L9 e9 _ rfl rfl b0 b1 (by kernel_rfl) ?_
              refine hK.out _ _ ?_ (fun hHeld => ?_)
              · exact ⟨by rw [HQ.out.bel.cell (p := ⟨B, 1, none⟩) hBg]; exact X0.out, by rw [HQ.out.bel.cell (p := ⟨b, off + k, none⟩) HLT.out]; exact D0.out⟩
              clear hK K
              refine wpAnyH_done (by kernel_rfl) ?_ _
              clear b0 b1 x0 d0 u0
              go_wp2
              go_roundw
              case rel => exact ⟨k + 1, by go_num, by omega, _, by rw [HNX.out]; exact HQ.out⟩
              case measure => simp [intOf]; omega
            · go_simp
              have hgw : g ≤ w2.heap.size := by omega
              have HB3 := Lib.hid (HBB2.out.trans ((below_new w2 (.cells #[.slice A4 L4 c4] 33)).mono hgw))
              refine hK.out _ _ ?_ (fun hHeld => ?_)
              · exact ⟨by rw [HB3.out.cell (p := ⟨B, 1, none⟩) hBg]; exact X0.out, by rw [HB3.out.cell (p := ⟨b, off + k, none⟩) HLT.out]; exact D0.out⟩
              clear hK K HB3

              have HB3 := Lib.hid (HBB2.out.trans ((below_new w2 (.cells #[.slice A4 L4 c4] 33)).mono hgw))
              have u3 := (HF2.out.on (below_new w2 (.cells #[.slice A4 L4 c4] 33))).c1

              refine wpAnyH_ready (rs := [1]) (by kernel_rfl) (by simp) ?_
              refine AllReadyH.cons rfl (fun K hK => ?_) AllReadyH.nil
              go_simp
              refine hK.out _ _ ?_ (fun hHeld => ?_)
              · exact ⟨by rw [HB3.out.cell (p := ⟨B, 1, none⟩) hBg]; exact X0.out, by rw [HB3.out.cell (p := ⟨b, off + k, none⟩) HLT.out]; exact D0.out⟩
              clear hK K HB3 u3

              refine wpAnyH_ready (rs := [10]) (by kernel_rfl) (by simp) ?_
              refine AllReadyH.cons rfl (fun K hK => ?_) AllReadyH.nil
              refine app_rowv_step rfl (.tmp 44) (.tmp 52) rfl g _ vs _ rfl HOW.out rfl rfl rfl hvl (by omega) ?_
              intro v3 w3 hown3 hc3
              have HB3 := Lib.hid (HBB2.out.trans (hc3.bel.mono (show g ≤ g by omega)))
              obtain ⟨D, L9, e9, rfl, b0, b1, hgl2, q3⟩ := MkV.app2 HF2.out hown3 hc3 HRS.out
              have HQ := Lib.hid q3
              clear q3 hown3 hc3 hgl2
              refine hK.out _ _ ?_ (fun hHeld => ?_)
              · exact ⟨by rw [HB3.out.cell (p := ⟨B, 1, none⟩) hBg]; exact X0.out, by rw [HB3.out.cell (p := ⟨b, off + k, none⟩) HLT.out]; exact D0.out⟩
              clear hK K
              refine takeH (i := 11) (v := ?_) rfl rfl (by kernel_rfl) (by kernel_rfl) (by kernel_rfl) (fun _ _ _ h => h) (by rfl) ?_ hHeld ?_
              rotate_left
              · (intro w hSw; (try dsimp only at hSw); first | (go_simp; done) | (go_simp; with_reducible rfl))
              simp only [Act.put, List.setIfInBounds_toArray, List.set_cons_zero, List.set_cons_succ]
              refine wpAnyH_ready (rs := [12]) (by kernel_rfl) (by simp) ?_
              refine AllReadyH.cons rfl (fun K hK => ?_) AllReadyH.nil
              refine store_slice_step rfl 24 (.tmp 54) (.tmp 53) rfl rfl g 1 D L9 e9 _ rfl rfl b0 b1 (by kernel_rfl) ?_
              refine hK.out _ _ ?_ (fun hHeld => ?_)
              · exact ⟨by rw [HQ.out.bel.cell (p := ⟨B, 1, none⟩) hBg]; exact X0.out, by rw [HQ.out.bel.cell (p := ⟨b, off + k, none⟩) HLT.out]; exact D0.out⟩
              clear hK K
              refine wpAnyH_done (by kernel_rfl) ?_ _
              clear b0 b1 x0 d0 u0
              go_wp2
              go_roundw
              case rel => exact ⟨k + 1, by go_num, by omega, _, by rw [HNX.out]; exact HQ.out⟩
              case measure => simp [intOf]; omega
        · obtain rfl : k = v.n2 := by omega
          have HT2 : Hid (c.tups.take v.n2 = c.tups) := List.take_of_length_le (by rw [HL2.out]; exact Nat.le_refl _)
          rw [HT2.out] at HF
          have x1 : wr.cell? ⟨B, 1, none⟩ = some (.slice v.A2 v.n2 v.c2) := by rw [HBW.out.cell (p := ⟨B, 1, none⟩) hBg]; exact HX.out.c1
          obtain ⟨wz1, hwz⟩ : ∃ wz1, wz1 = wr := ⟨_, rfl⟩
          subst hwz
          go_wp2_with fail
          go_loopw [8] (fun i wr => ∃ k : Nat, i = .int .i64 k ∧ k ≤ v.n3 ∧ ∃ u : Cv, MkV w0 g h ⟨c.lits.map (putL bs), c.tups.map (put bs), (c.conds.take k).map (putL bs)⟩ u wr) (fun i _ => v.n3 - (intOf i).toNat)
          case atStart => exact ⟨0, rfl, by omega, _, HF.out⟩
          case round =>
            clear HF HBW HGS x1 hk
            obtain ⟨k, rfl, hk, u, hF⟩ := hrel
            have HF := Lib.hid hF
            have HBW := Lib.hid hF.bel
            have HGS := Lib.hid (show g ≤ wr.heap.size from Nat.le_trans hF.gh hF.hs)
            clear hF
            by_cases hlt : k < v.n3
            · have hkl : k < c.conds.length := by rw [HL3.out]; exact hlt
              obtain ⟨b, off, A3, c3, hA, hb, d0, d1, hr⟩ := HX.out.cl.conds.one hlt
              have x0 := HX.out.c2
              rw [hA] at x0
              have X0 := Lib.hid x0
              have HNX := Lib.hid (putL_next (bs := bs) hkl)
              have hm49 : (ltAt c.conds k).atom.length ≤ 1000000 := Nat.le_trans (HSM.out.r _ (cond_row (ltAt_mem hkl))) (by omega)
              have H24 := Lib.hid (fun i (hi : i < (ltAt c.conds k).atom.length) => H24R.out _ (cond_row (ltAt_mem hkl)) _ (intAt_mem hi))
              obtain ⟨p, hp⟩ : ∃ p, p = ltAt c.conds k := ⟨_, rfl⟩
              rw [← hp] at d0 d1 hr HNX hm49 H24
              have D0 := Lib.hid d0
              have D1 := Lib.hid d1
              have HLT : Hid (b < g) := by show b < g; rw [HG.out]; exact hb
              have HRW := Lib.hid (show LitAt w0 w0.heap.size A3 p.atom.length c3 p from hr)
              clear hr hp hkl d0 d1 x0 hA hb

              have hbw := HBW.out
              have x0 : wr.cell? ⟨B, 2, none⟩ = some (.slice (some ⟨b, off, none⟩) v.n3 v.c3) := by rw [hbw.cell (p := ⟨B, 2, none⟩) hBg]; exact X0.out
              have d0 : wr.cell? ⟨b, off + k * 2, none⟩ = some (.bool p.neg) := by rw [hbw.cell (p := ⟨b, off + k * 2, none⟩) HLT.out]; exact D0.out
              have d1 : wr.cell? ⟨b, off + k * 2 + 1, none⟩ = some (.slice A3 p.atom.length c3) := by rw [hbw.cell (p := ⟨b, off + k * 2 + 1, none⟩) HLT.out]; exact D1.out
              have u0 := HF.out.c2
              have hi0 : (0 : Int) ≤ (k : Int) := by omega
              have hi3 : (k : Int) < (v.n3 : Int) := by omega
              clear hbw
              go_wp2_with fail
              refine wp_region_held_drew (S := (fun w' => w'.cell? ⟨B, 2, none⟩ = some (.slice (some ⟨b, off, none⟩) v.n3 v.c3) ∧ w'.cell? ⟨b, off + k * 2, none⟩ = some (.bool p.neg) ∧ w'.cell? ⟨b, off + k * 2 + 1, none⟩ = some (.slice A3 p.atom.length c3))) (by kernel_rfl) ⟨x0, d0, d1⟩ (fun hHeld => ?_)
              have hd : Below wr.heap.size wr wr.drew := (Below.refl wr.heap.size wr).drew
              have HLR := Lib.hid (HRW.out.on (HG.out ▸ (HBW.out.trans (hd.mono HGS.out))))
              have HBD := Lib.hid (HBO.out _ (HBW.out.trans (hd.mono HGS.out)))
              refine takeH (i := 0) (v := ?_) rfl rfl (by kernel_rfl) (by kernel_rfl) (by kernel_rfl) (fun _ _ _ h => h) (by rfl) ?_ hHeld ?_
              rotate_left
              · (intro w hSw; (try dsimp only at hSw); first | (go_simp; done) | (go_simp; with_reducible rfl))
              simp only [Act.put, List.setIfInBounds_toArray, List.set_cons_zero, List.set_cons_succ]
              refine takeH (i := 2) (v := ?_) rfl rfl (by kernel_rfl) (by kernel_rfl) (by kernel_rfl) (fun _ _ _ h => h) (by rfl) ?_ hHeld ?_
              rotate_left
              · (intro w hSw; (try dsimp only at hSw); first | (go_simp; done) | (go_simp; with_reducible rfl))
              simp only [Act.put, List.setIfInBounds_toArray, List.set_cons_zero, List.set_cons_succ]
              refine takeH (i := 3) (v := ?_) rfl rfl (by kernel_rfl) (by kernel_rfl) (by kernel_rfl) (fun _ _ _ h => h) (by rfl) ?_ hHeld ?_
              rotate_left
              · (intro w hSw; (try dsimp only at hSw); first | (go_simp; done) | (go_simp; with_reducible rfl))
              simp only [Act.put, List.setIfInBounds_toArray, List.set_cons_zero, List.set_cons_succ]
              refine takeH (i := 4) (v := ?_) rfl rfl (by kernel_rfl) (by kernel_rfl) (by kernel_rfl) (fun _ _ _ h => h) (by rfl) ?_ hHeld ?_
              rotate_left
              · (intro w hSw; (try dsimp only at hSw); first | (go_simp; done) | (go_simp; with_reducible rfl))
              simp only [Act.put, List.setIfInBounds_toArray, List.set_cons_zero, List.set_cons_succ]
              refine takeH (i := 5) (v := ?_) rfl rfl (by kernel_rfl) (by kernel_rfl) (by kernel_rfl) (fun _ _ _ h => h) (by rfl) ?_ hHeld ?_
              rotate_left
              · (intro w hSw; (try dsimp only at hSw); first | (go_simp; done) | (go_simp; with_reducible rfl))
              simp only [Act.put, List.setIfInBounds_toArray, List.set_cons_zero, List.set_cons_succ]
              refine takeH (i := 6) (v := ?_) rfl rfl (by kernel_rfl) (by kernel_rfl) (by kernel_rfl) (fun _ _ _ h => h) (by rfl) ?_ hHeld ?_
              rotate_left
              · (intro w hSw; (try dsimp only at hSw); first | (go_simp; done) | (go_simp; with_reducible rfl))
              simp only [Act.put, List.setIfInBounds_toArray, List.set_cons_zero, List.set_cons_succ]
              refine takeH (i := 7) (v := ?_) rfl rfl (by kernel_rfl) (by kernel_rfl) (by kernel_rfl) (fun _ _ _ h => h) (by rfl) ?_ hHeld ?_
              rotate_left
              · (intro w hSw; (try dsimp only at hSw); first | (go_simp; done) | (go_simp; with_reducible rfl))
              simp only [Act.put, List.setIfInBounds_toArray, List.set_cons_zero, List.set_cons_succ]
              refine takeH (i := 8) (v := ?_) rfl rfl (by kernel_rfl) (by kernel_rfl) (by kernel_rfl) (fun _ _ _ h => h) (by rfl) ?_ hHeld ?_
              rotate_left
              · (intro w hSw; (try dsimp only at hSw); first | (go_simp; done) | (go_simp; with_reducible rfl))
              simp only [Act.put, List.setIfInBounds_toArray, List.set_cons_zero, List.set_cons_succ]
              refine takeH (i := 9) (v := ?_) rfl rfl (by kernel_rfl) (by kernel_rfl) (by kernel_rfl) (fun _ _ _ h => h) (by rfl) ?_ hHeld ?_
              rotate_left
              · (intro w hSw; (try dsimp only at hSw); first | (go_simp; done) | (go_simp; with_reducible rfl))
              simp only [Act.put, List.setIfInBounds_toArray, List.set_cons_zero, List.set_cons_succ]
              refine takeH (i := 10) (v := ?_) rfl rfl (by kernel_rfl) (by kernel_rfl) (by kernel_rfl) (fun _ _ _ h => h) (by rfl) ?_ hHeld ?_
              rotate_left
              · (intro w hSw; (try dsimp only at hSw); first | (go_simp; done) | (go_simp; with_reducible rfl))
              simp only [Act.put, List.setIfInBounds_toArray, List.set_cons_zero, List.set_cons_succ]
              refine takeH (i := 11) (v := ?_) rfl rfl (by kernel_rfl) (by kernel_rfl) (by kernel_rfl) (fun _ _ _ h => h) (by rfl) ?_ hHeld ?_
              rotate_left
              · (intro w hSw; (try dsimp only at hSw); first | (go_simp; done) | (go_simp; with_reducible rfl))
              simp only [Act.put, List.setIfInBounds_toArray, List.set_cons_zero, List.set_cons_succ]
              refine takeH (i := 12) (v := ?_) rfl rfl (by kernel_rfl) (by kernel_rfl) (by kernel_rfl) (fun _ _ _ h => h) (by rfl) ?_ hHeld ?_
              rotate_left
              · (intro w hSw; (try dsimp only at hSw); first | (go_simp; done) | (go_simp; with_reducible rfl))
              simp only [Act.put, List.setIfInBounds_toArray, List.set_cons_zero, List.set_cons_succ]
              refine takeH (i := 13) (v := ?_) rfl rfl (by kernel_rfl) (by kernel_rfl) (by kernel_rfl) (fun _ _ _ h => h) (by rfl) ?_ hHeld ?_
              rotate_left
              · (intro w hSw; (try dsimp only at hSw); first | (go_simp; done) | (go_simp; with_reducible rfl))
              simp only [Act.put, List.setIfInBounds_toArray, List.set_cons_zero, List.set_cons_succ]
              refine takeH (i := 14) (v := ?_) rfl rfl (by kernel_rfl) (by kernel_rfl) (by kernel_rfl) (fun _ _ _ h => h) (by rfl) ?_ hHeld ?_
              rotate_left
              · (intro w hSw; (try dsimp only at hSw); first | (go_simp; done) | (go_simp; with_reducible rfl))
              simp only [Act.put, List.setIfInBounds_toArray, List.set_cons_zero, List.set_cons_succ]
              refine wpAnyH_ready (rs := [1, 15]) (by kernel_rfl) (by simp) ?_
              refine AllReadyH.cons rfl (fun K hK => ?_) (AllReadyH.cons rfl (fun K hK => ?_) AllReadyH.nil)
              · go_simp
                refine hK.out _ _ ?_ (fun hHeld => ?_)
                · exact ⟨x0, d0, d1⟩
                clear hK K
                refine wpAnyH_ready (rs := [15]) (by kernel_rfl) (by simp) ?_
                refine AllReadyH.cons rfl (fun K hK => ?_) AllReadyH.nil
                go_simp
                refine (refPutW_any A A3 n cp _ c3 bs p.atom _ HBD.out hn HV.out HLR.out.at_ hm49 H24.out).mono ?_
                rintro e w2 ⟨v2, rfl, hv2, hb2⟩
                have hb2' := hd.trans (hb2.mono hd.size)
                have HF2 := Lib.hid (HF.out.on hb2')
                have HBB2 := Lib.hid HF2.out.bel
                have hs2 := hb2'.size
                have hgh := HF2.out.gh
                have hhs := HF.out.hs
                obtain ⟨vs, hv1, hvr⟩ := HF2.out.d.vals
                have HOW := Lib.hid hv1
                have HRS := Lib.hid (hvr.snoc (hv2.lower (show h ≤ wr.drew.heap.size from by show h ≤ wr.heap.size; omega)))
                have hvl : ((c.conds.take k).map (putL bs)).length + 1 ≤ 4398046511104 := by have := HL3.out; simp; omega
                obtain ⟨A4, c4, hv4⟩ := hv2.value
                obtain ⟨L4, hL4⟩ : ∃ L4, L4 = (put bs p.atom).length := ⟨_, rfl⟩
                rw [← hL4] at hv4
                subst hv4
                have HBL := Lib.hid (HBB2.out)
                clear x0 d0 d1 u0
                have x0 : w2.cell? ⟨B, 2, none⟩ = some (.slice (some ⟨b, off, none⟩) v.n3 v.c3) := by rw [HBB2.out.cell (p := ⟨B, 2, none⟩) hBg]; exact X0.out
                have d0 : w2.cell? ⟨b, off + k * 2, none⟩ = some (.bool p.neg) := by rw [HBB2.out.cell (p := ⟨b, off + k * 2, none⟩) HLT.out]; exact D0.out
                have d1 : w2.cell? ⟨b, off + k * 2 + 1, none⟩ = some (.slice A3 p.atom.length c3) := by rw [HBB2.out.cell (p := ⟨b, off + k * 2 + 1, none⟩) HLT.out]; exact D1.out
                have u0 := HF2.out.c2
                clear hv2 hb2 hb2' hv1 hvr hL4
                go_wp2_with fail
                refine hK.out _ _ ?_ (fun hHeld => ?_)
                · exact ⟨x0, d0, d1⟩
                clear hK K
                refine takeH (i := 16) (v := ?_) rfl rfl (by kernel_rfl) (by kernel_rfl) (by kernel_rfl) (fun _ _ _ h => h) (by rfl) ?_ hHeld ?_
                rotate_left
                · (intro w hSw; (try dsimp only at hSw); first | (go_simp; done) | (go_simp; with_reducible rfl))
                simp only [Act.put, List.setIfInBounds_toArray, List.set_cons_zero, List.set_cons_succ]
                refine wpAnyH_ready (rs := [17]) (by kernel_rfl) (by simp) ?_
                refine AllReadyH.cons rfl (fun K hK => ?_) AllReadyH.nil
                go_simp
                have hgw : g ≤ w2.heap.size := by omega
                have HB3 := Lib.hid (HBB2.out.trans ((below_new w2 (.cells #[.bool p.neg, .slice A4 L4 c4] 57)).mono hgw))
                refine hK.out _ _ ?_ (fun hHeld => ?_)
                · exact ⟨by rw [HB3.out.cell (p := ⟨B, 2, none⟩) hBg]; exact X0.out, by rw [HB3.out.cell (p := ⟨b, off + k * 2, none⟩) HLT.out]; exact D0.out, by rw [HB3.out.cell (p := ⟨b, off + k * 2 + 1, none⟩) HLT.out]; exact D1.out⟩
                clear hK K HB3

                refine wpAnyH_ready (rs := [18]) (by kernel_rfl) (by simp) ?_
                refine AllReadyH.cons rfl (fun K hK => ?_) AllReadyH.nil
                refine app_litv_step rfl (.tmp 63) (.tmp 79) rfl h _ _ vs p.neg (put bs p.atom) _ rfl HOW.out rfl rfl rfl hvl (by omega) ?_
                intro v3 w3 hown3 hc3
                have HB3 := Lib.hid (HBB2.out.trans (hc3.bel.mono (show g ≤ h by omega)))
                obtain ⟨D, L9, e9, rfl, b0, b1, hgl2, q3⟩ := MkV.app3 HF2.out hown3 hc3 HRS.out
                have HQ := Lib.hid q3
                clear q3 hown3 hc3 hgl2
                refine hK.out _ _ ?_ (fun hHeld => ?_)
                · exact ⟨by rw [HB3.out.cell (p := ⟨B, 2, none⟩) hBg]; exact X0.out, by rw [HB3.out.cell (p := ⟨b, off + k * 2, none⟩) HLT.out]; exact D0.out, by rw [HB3.out.cell (p := ⟨b, off + k * 2 + 1, none⟩) HLT.out]; exact D1.out⟩
                clear hK K
                refine takeH (i := 19) (v := ?_) rfl rfl (by kernel_rfl) (by kernel_rfl) (by kernel_rfl) (fun _ _ _ h => h) (by rfl) ?_ hHeld ?_
                rotate_left
                · (intro w hSw; (try dsimp only at hSw); first | (go_simp; done) | (go_simp; with_reducible rfl))
                simp only [Act.put, List.setIfInBounds_toArray, List.set_cons_zero, List.set_cons_succ]
                refine wpAnyH_ready (rs := [20]) (by kernel_rfl) (by simp) ?_
                refine AllReadyH.cons rfl (fun K hK => ?_) AllReadyH.nil
                refine store_slice_step rfl 23 (.tmp 81) (.tmp 80) rfl rfl g 2 D L9 e9 _ rfl rfl b0 b1 (by kernel_rfl) ?_
                refine hK.out _ _ ?_ (fun hHeld => ?_)
                · exact ⟨by rw [HQ.out.bel.cell (p := ⟨B, 2, none⟩) hBg]; exact X0.out, by rw [HQ.out.bel.cell (p := ⟨b, off + k * 2, none⟩) HLT.out]; exact D0.out, by rw [HQ.out.bel.cell (p := ⟨b, off + k * 2 + 1, none⟩) HLT.out]; exact D1.out⟩
                clear hK K
                refine wpAnyH_done (by kernel_rfl) ?_ _
                clear b0 b1 x0 d0 d1 u0
                go_wp2
                go_roundw
                case rel => exact ⟨k + 1, by go_num, by omega, _, by rw [HNX.out]; exact HQ.out⟩
                case measure => simp [intOf]; omega
              · go_simp
                refine (refPutW_any A A3 n cp _ c3 bs p.atom _ HBD.out hn HV.out HLR.out.at_ hm49 H24.out).mono ?_
                rintro e w2 ⟨v2, rfl, hv2, hb2⟩
                have hb2' := hd.trans (hb2.mono hd.size)
                have HF2 := Lib.hid (HF.out.on hb2')
                have HBB2 := Lib.hid HF2.out.bel
                have hs2 := hb2'.size
                have hgh := HF2.out.gh
                have hhs := HF.out.hs
                obtain ⟨vs, hv1, hvr⟩ := HF2.out.d.vals
                have HOW := Lib.hid hv1
                have HRS := Lib.hid (hvr.snoc (hv2.lower (show h ≤ wr.drew.heap.size from by show h ≤ wr.heap.size; omega)))
                have hvl : ((c.conds.take k).map (putL bs)).length + 1 ≤ 4398046511104 := by have := HL3.out; simp; omega
                obtain ⟨A4, c4, hv4⟩ := hv2.value
                obtain ⟨L4, hL4⟩ : ∃ L4, L4 = (put bs p.atom).length := ⟨_, rfl⟩
                rw [← hL4] at hv4
                subst hv4
                have HBL := Lib.hid (HBB2.out)
                clear x0 d0 d1 u0
                have x0 : w2.cell? ⟨B, 2, none⟩ = some (.slice (some ⟨b, off, none⟩) v.n3 v.c3) := by rw [HBB2.out.cell (p := ⟨B, 2, none⟩) hBg]; exact X0.out
                have d0 : w2.cell? ⟨b, off + k * 2, none⟩ = some (.bool p.neg) := by rw [HBB2.out.cell (p := ⟨b, off + k * 2, none⟩) HLT.out]; exact D0.out
                have d1 : w2.cell? ⟨b, off + k * 2 + 1, none⟩ = some (.slice A3 p.atom.length c3) := by rw [HBB2.out.cell (p := ⟨b, off + k * 2 + 1, none⟩) HLT.out]; exact D1.out
                have u0 := HF2.out.c2
                clear hv2 hb2 hb2' hv1 hvr hL4
                go_wp2_with fail
                refine hK.out _ _ ?_ (fun hHeld => ?_)
                · exact ⟨x0, d0, d1⟩
                clear hK K
                refine takeH (i := 16) (v := ?_) rfl rfl (by kernel_rfl) (by kernel_rfl) (by kernel_rfl) (fun _ _ _ h => h) (by rfl) ?_ hHeld ?_
                rotate_left
                · (intro w hSw; (try dsimp only at hSw); first | (go_simp; done) | (go_simp; with_reducible rfl))
                simp only [Act.put, List.setIfInBounds_toArray, List.set_cons_zero, List.set_cons_succ]

                refine wpAnyH_ready (rs := [1, 17]) (by kernel_rfl) (by simp) ?_
                refine AllReadyH.cons rfl (fun K hK => ?_) (AllReadyH.cons rfl (fun K hK => ?_) AllReadyH.nil)
                · go_simp
                  refine hK.out _ _ ?_ (fun hHeld => ?_)
                  · exact ⟨x0, d0, d1⟩
                  clear hK K
                  refine wpAnyH_ready (rs := [17]) (by kernel_rfl) (by simp) ?_
                  refine AllReadyH.cons rfl (fun K hK => ?_) AllReadyH.nil
                  go_simp
                  have hgw : g ≤ w2.heap.size := by omega
                  have HB3 := Lib.hid (HBB2.out.trans ((below_new w2 (.cells #[.bool p.neg, .slice A4 L4 c4] 57)).mono hgw))
                  refine hK.out _ _ ?_ (fun hHeld => ?_)
                  · exact ⟨by rw [HB3.out.cell (p := ⟨B, 2, none⟩) hBg]; exact X0.out, by rw [HB3.out.cell (p := ⟨b, off + k * 2, none⟩) HLT.out]; exact D0.out, by rw [HB3.out.cell (p := ⟨b, off + k * 2 + 1, none⟩) HLT.out]; exact D1.out⟩
                  clear hK K HB3

                  refine wpAnyH_ready (rs := [18]) (by kernel_rfl) (by simp) ?_
                  refine AllReadyH.cons rfl (fun K hK => ?_) AllReadyH.nil
                  refine app_litv_step rfl (.tmp 63) (.tmp 79) rfl h _ _ vs p.neg (put bs p.atom) _ rfl HOW.out rfl rfl rfl hvl (by omega) ?_
                  intro v3 w3 hown3 hc3
                  have HB3 := Lib.hid (HBB2.out.trans (hc3.bel.mono (show g ≤ h by omega)))
                  obtain ⟨D, L9, e9, rfl, b0, b1, hgl2, q3⟩ := MkV.app3 HF2.out hown3 hc3 HRS.out
                  have HQ := Lib.hid q3
                  clear q3 hown3 hc3 hgl2
                  refine hK.out _ _ ?_ (fun hHeld => ?_)
                  · exact ⟨by rw [HB3.out.cell (p := ⟨B, 2, none⟩) hBg]; exact X0.out, by rw [HB3.out.cell (p := ⟨b, off + k * 2, none⟩) HLT.out]; exact D0.out, by rw [HB3.out.cell (p := ⟨b, off + k * 2 + 1, none⟩) HLT.out]; exact D1.out⟩
                  clear hK K
                  refine takeH (i := 19) (v := ?_) rfl rfl (by kernel_rfl) (by kernel_rfl) (by kernel_rfl) (fun _ _ _ h => h) (by rfl) ?_ hHeld ?_
                  rotate_left
                  · (intro w hSw; (try dsimp only at hSw); first | (go_simp; done) | (go_simp; with_reducible rfl))
                  simp only [Act.put, List.setIfInBounds_toArray, List.set_cons_zero, List.set_cons_succ]
                  refine wpAnyH_ready (rs := [20]) (by kernel_rfl) (by simp) ?_
                  refine AllReadyH.cons rfl (fun K hK => ?_) AllReadyH.nil
                  refine store_slice_step rfl 23 (.tmp 81) (.tmp 80) rfl rfl g 2 D L9 e9 _ rfl rfl b0 b1 (by kernel_rfl) ?_
                  refine hK.out _ _ ?_ (fun hHeld => ?_)
                  · exact ⟨by rw [HQ.out.bel.cell (p := ⟨B, 2, none⟩) hBg]; exact X0.out, by rw [HQ.out.bel.cell (p := ⟨b, off + k * 2, none⟩) HLT.out]; exact D0.out, by rw [HQ.out.bel.cell (p := ⟨b, off + k * 2 + 1, none⟩) HLT.out]; exact D1.out⟩
                  clear hK K
                  refine wpAnyH_done (by kernel_rfl) ?_ _
                  clear b0 b1 x0 d0 d1 u0
                  go_wp2
                  go_roundw
                  case rel => exact ⟨k + 1, by go_num, by omega, _, by rw [HNX.out]; exact HQ.out⟩
                  case measure => simp [intOf]; omega
                · go_simp
                  have hgw : g ≤ w2.heap.size := by omega
                  have HB3 := Lib.hid (HBB2.out.trans ((below_new w2 (.cells #[.bool p.neg, .slice A4 L4 c4] 57)).mono hgw))
                  refine hK.out _ _ ?_ (fun hHeld => ?_)
                  · exact ⟨by rw [HB3.out.cell (p := ⟨B, 2, none⟩) hBg]; exact X0.out, by rw [HB3.out.cell (p := ⟨b, off + k * 2, none⟩) HLT.out]; exact D0.out, by rw [HB3.out.cell (p := ⟨b, off + k * 2 + 1, none⟩) HLT.out]; exact D1.out⟩
                  clear hK K HB3

                  have HB3 := Lib.hid (HBB2.out.trans ((below_new w2 (.cells #[.bool p.neg, .slice A4 L4 c4] 57)).mono hgw))
                  have u3 := (HF2.out.on (below_new w2 (.cells #[.bool p.neg, .slice A4 L4 c4] 57))).c2

                  refine wpAnyH_ready (rs := [1]) (by kernel_rfl) (by simp) ?_
                  refine AllReadyH.cons rfl (fun K hK => ?_) AllReadyH.nil
                  go_simp
                  refine hK.out _ _ ?_ (fun hHeld => ?_)
                  · exact ⟨by rw [HB3.out.cell (p := ⟨B, 2, none⟩) hBg]; exact X0.out, by rw [HB3.out.cell (p := ⟨b, off + k * 2, none⟩) HLT.out]; exact D0.out, by rw [HB3.out.cell (p := ⟨b, off + k * 2 + 1, none⟩) HLT.out]; exact D1.out⟩
                  clear hK K HB3 u3

                  refine wpAnyH_ready (rs := [18]) (by kernel_rfl) (by simp) ?_
                  refine AllReadyH.cons rfl (fun K hK => ?_) AllReadyH.nil
                  refine app_litv_step rfl (.tmp 63) (.tmp 79) rfl h _ _ vs p.neg (put bs p.atom) _ rfl HOW.out rfl rfl rfl hvl (by omega) ?_
                  intro v3 w3 hown3 hc3
                  have HB3 := Lib.hid (HBB2.out.trans (hc3.bel.mono (show g ≤ h by omega)))
                  obtain ⟨D, L9, e9, rfl, b0, b1, hgl2, q3⟩ := MkV.app3 HF2.out hown3 hc3 HRS.out
                  have HQ := Lib.hid q3
                  clear q3 hown3 hc3 hgl2
                  refine hK.out _ _ ?_ (fun hHeld => ?_)
                  · exact ⟨by rw [HB3.out.cell (p := ⟨B, 2, none⟩) hBg]; exact X0.out, by rw [HB3.out.cell (p := ⟨b, off + k * 2, none⟩) HLT.out]; exact D0.out, by rw [HB3.out.cell (p := ⟨b, off + k * 2 + 1, none⟩) HLT.out]; exact D1.out⟩
                  clear hK K
                  refine takeH (i := 19) (v := ?_) rfl rfl (by kernel_rfl) (by kernel_rfl) (by kernel_rfl) (fun _ _ _ h => h) (by rfl) ?_ hHeld ?_
                  rotate_left
                  · (intro w hSw; (try dsimp only at hSw); first | (go_simp; done) | (go_simp; with_reducible rfl))
                  simp only [Act.put, List.setIfInBounds_toArray, List.set_cons_zero, List.set_cons_succ]
                  refine wpAnyH_ready (rs := [20]) (by kernel_rfl) (by simp) ?_
                  refine AllReadyH.cons rfl (fun K hK => ?_) AllReadyH.nil
                  refine store_slice_step rfl 23 (.tmp 81) (.tmp 80) rfl rfl g 2 D L9 e9 _ rfl rfl b0 b1 (by kernel_rfl) ?_
                  refine hK.out _ _ ?_ (fun hHeld => ?_)
                  · exact ⟨by rw [HQ.out.bel.cell (p := ⟨B, 2, none⟩) hBg]; exact X0.out, by rw [HQ.out.bel.cell (p := ⟨b, off + k * 2, none⟩) HLT.out]; exact D0.out, by rw [HQ.out.bel.cell (p := ⟨b, off + k * 2 + 1, none⟩) HLT.out]; exact D1.out⟩
                  clear hK K
                  refine wpAnyH_done (by kernel_rfl) ?_ _
                  clear b0 b1 x0 d0 d1 u0
                  go_wp2
                  go_roundw
                  case rel => exact ⟨k + 1, by go_num, by omega, _, by rw [HNX.out]; exact HQ.out⟩
                  case measure => simp [intOf]; omega
            · obtain rfl : k = v.n3 := by omega
              have HT3 : Hid (c.conds.take v.n3 = c.conds) := List.take_of_length_le (by rw [HL3.out]; exact Nat.le_refl _)
              rw [HT3.out] at HF
              have x2 : wr.cell? ⟨B, 2, none⟩ = some (.slice v.A3 v.n3 v.c3) := by rw [HBW.out.cell (p := ⟨B, 2, none⟩) hBg]; exact HX.out.c2
              have u0 := HF.out.c0
              have u1 := HF.out.c1
              have u2 := HF.out.c2
              have HZ2 : Hid (wr.heap[B + 1]? = some (.cells #[.slice none 0 0, .slice none 0 0, .slice none 0 0] 26 (0, 0))) := by show _ = _; rw [HBW.out.block (B + 1) hBg1]; exact HZ.out.z
              go_wp2_with (refine store_box rfl 26 (.tmp 4) (.tmp 82) rfl rfl (B + 1) _ _ rfl rfl HZ2.out rfl (by kernel_rfl) three_one ?_
                           intro w4 hg4 hc4 hs4
                           have HG4 := Lib.hid hg4
                           have HC4 := Lib.hid hc4
                           clear hg4 hc4 hs4)
              refine bodyPost_ret (results_cell_row rfl _ _ (B + 1) _ _ _ _ rfl HG4.out Try.underlying26 rfl (by kernel_rfl)) rfl ?_
              exact ⟨_, rfl, (Cv.val_eq u ▸ HF.out.own).lower (by have := HBH.out; omega) |>.chg HC4.out (by decide) (by decide) (by decide), (HB0.out.trans (HBW.out.mono (by have := HBH.out; omega))).trans (HC4.out.bel.mono (by have := HBH.out; omega))⟩
end Go.Proofs.Ytpblpndlajoebaa

namespace Go.Proofs.Ytpblpndlajoebaa
open Go.RowKit Go.Deep
set_option linter.unusedSimpArgs false
set_option linter.unusedVariables false
set_option maxRecDepth 100000

section
variable {w w' w2 wn wr w0 : World} {base lo B g n m c : Nat} {A : Option Addr} {v v2 u' : Value} {ls ds : List Lt} {ts : List (List Int)} {xs : List Int} {p : Lt} {es : List TypeId} {u : Cv} {vs : List Value}
/-- A box of three slices turns: rows of integers stay. -/
theorem IntsAt.other {s1 s2 s3 : Value} {t : TypeId} {fr : Nat × Nat} (h : IntsAt w B A n xs) (hg : w.heap[g]? = some (.cells #[s1, s2, s3] t fr)) (h1 : ∀ k x, s1 ≠ .int k x) (h2 : ∀ k x, s2 ≠ .int k x) (h3 : ∀ k x, s3 ≠ .int k x)
    (hk : ∀ j, j ≠ g → w'.heap[j]? = w.heap[j]?) : IntsAt w' B A n xs := by
  refine ⟨h.len, fun hn => ?_⟩
  obtain ⟨b, off, e, hb, hc⟩ := h.at_ hn
  refine ⟨b, off, e, hb, fun i hi => ?_⟩
  have hci := hc i hi
  have hne : b ≠ g := by
    rintro rfl
    unfold World.cell? at hci
    simp only [hg] at hci
    generalize off + i = j at hci
    match j, hci with
    | 0, q => exact h1 _ _ (by simpa using q)
    | 1, q => exact h2 _ _ (by simpa using q)
    | 2, q => exact h3 _ _ (by simpa using q)
    | j + 3, q => simp at q
  unfold World.cell? at hci ⊢
  simp only [hk b hne]
  exact hci
theorem LitAt.other {s1 s2 s3 : Value} {t : TypeId} {fr : Nat × Nat} (h : LitAt w B A m c p) (hg : w.heap[g]? = some (.cells #[s1, s2, s3] t fr)) (h1 : ∀ k x, s1 ≠ .int k x) (h2 : ∀ k x, s2 ≠ .int k x) (h3 : ∀ k x, s3 ≠ .int k x)
    (hk : ∀ j, j ≠ g → w'.heap[j]? = w.heap[j]?) : LitAt w' B A m c p := ⟨h.at_.other hg h1 h2 h3 hk, h.cap, h.fit⟩
theorem RowIn.other {s1 s2 s3 : Value} {t : TypeId} {fr : Nat × Nat} (h : RowIn w B A m c xs) (hg : w.heap[g]? = some (.cells #[s1, s2, s3] t fr)) (h1 : ∀ k x, s1 ≠ .int k x) (h2 : ∀ k x, s2 ≠ .int k x) (h3 : ∀ k x, s3 ≠ .int k x)
    (hk : ∀ j, j ≠ g → w'.heap[j]? = w.heap[j]?) : RowIn w' B A m c xs := ⟨h.at_.other hg h1 h2 h3 hk, h.cap, h.fit⟩
theorem OwnG.other {s1 s2 s3 : Value} {fr : Nat × Nat} (h : OwnG w base v ls) (hg : w.heap[g]? = some (.cells #[s1, s2, s3] 26 fr)) (h1 : ∀ k x, s1 ≠ .int k x) (h2 : ∀ k x, s2 ≠ .int k x) (h3 : ∀ k x, s3 ≠ .int k x)
    (hk : ∀ j, j ≠ g → w'.heap[j]? = w.heap[j]?) : OwnG w' base v ls := by
  rcases h with h | ⟨k, cap, e, cur, q1, q2, q3, q4, q5, q6⟩
  · exact .inl h
  · have hne : k ≠ g := by
      rintro rfl
      rw [hg] at q1
      injection q1 with q1
      injection q1 with _ q1
      exact absurd q1 (by decide)
    refine .inr ⟨k, cap, e, cur, by rw [hk k hne]; exact q1, q2, q3, q4, q5, fun i hi => ?_⟩
    obtain ⟨r1, A', c', r2, r3⟩ := q6 i hi
    exact ⟨r1, A', c', r2, r3.other hg h1 h2 h3 hk⟩
theorem OwnG.chg (h : OwnG w base v ls) (hc : Chg es lo w w') (hb : base ≤ lo) (he : 57 ∉ es) : OwnG w' base v ls := by
  rcases h with h | ⟨k, cap, e, cur, q1, q2, q3, q4, q5, q6⟩
  · exact .inl h
  · exact .inr ⟨k, cap, e, cur, hc.blk _ _ _ _ q1 he, q2, q3, q4, q5, fun i hi => (q6 i hi).on (hc.bel.mono hb)⟩
theorem OwnG.valued (h : OwnG w base v ls) : ∃ A c, v = .slice A ls.length c := by
  rcases h with ⟨rfl, rfl⟩ | ⟨k, cap, e, _⟩
  · exact ⟨_, _, rfl⟩
  · exact ⟨_, _, e⟩
theorem store_row_step {w : World} {ops : Array Oper} {o : Oper} {a : Act} {K : Act → World → Prop} {Q : Exit → Act → World → Prop} {E : Prop} (hgd : o.guard = none) (t : TypeId) (p x : Operand) (ho : o.op = .store t p x) (hdst : o.dst = none)
    (g : Nat) (old cells : Array Value) (hp : a.eval p = .pointer (some ⟨g, 0, none⟩)) (hx : a.eval x = .agg cells) (hg : w.heap[g]? = some (.cells old t (0, 0))) (hs : old.size = cells.size) (hi : (Try.prog.info? t).map (·.size) = some cells.size) (h1 : cells.all (·.oneCell') = true)
    (h : K a (w.setRow g cells)) : if Region.wanted o (yielded ops a.tmps) = true then Oper.wp Try.prog o a w K Q else E := by
  have hw : Region.wanted o (yielded ops a.tmps) = true := by simp [Region.wanted, hgd]
  rw [if_pos hw]
  have hst : (Instr.storeAt t (.pointer (some ⟨g, 0, none⟩)) (.agg cells)).run Try.prog w = .ok () (w.setRow g cells) := by
    simp only [Instr.storeAt, Instr.sureAddr, Sem.run_bind, Sem.run_pure, Result.andThen]
    exact run_storeVar_row _ _ t t old cells hg hi hs h1
  unfold Oper.wp
  simp only [execOp, ho, hp, hx, Sem.run_bind, hst, Result.andThen]
  simp [Oper.upon, hdst, Act.put, h]
/-- A row of rows that the call has made; the rows themselves lie below base. -/
def OwnTg (w : World) (base lo : Nat) (v : Value) (ts : List (List Int)) : Prop :=
  ∃ vs : List Value, vs.length = ts.length ∧ OwnR w lo v vs ∧ ∀ i, i < ts.length → ∃ A c, valAt vs i = .slice A (rowOf ts i).length c ∧ RowIn w base A (rowOf ts i).length c (rowOf ts i) ∧ (A = none → c = 0)
theorem OwnTg.nil_ : OwnTg w base lo (.slice none 0 0) [] := ⟨[], rfl, OwnR.nil_, fun i h => absurd h (by simp)⟩
theorem OwnTg.tupsAt (h : OwnTg w base lo v ts) (hb : base ≤ w.heap.size) : ∃ A cap, v = .slice A ts.length cap ∧ ts.length ≤ cap ∧ TupsAt w w.heap.size A ts.length ts ∧ (A = none → cap = 0) := by
  obtain ⟨vs, e, ho, hr⟩ := h
  exact TupsAt.of_own ho e fun i hi => by
    obtain ⟨A, c, h1, h2, h3⟩ := hr i hi
    exact ⟨A, c, h1, h2.more hb, h3⟩
theorem OwnTg.on (h : OwnTg w base lo v ts) (hb : Below w.heap.size w w') (hbase : base ≤ w.heap.size) : OwnTg w' base lo v ts := by
  obtain ⟨vs, e, ho, hr⟩ := h
  refine ⟨vs, e, ho.on hb, fun i hi => ?_⟩
  obtain ⟨A, c, h1, h2, h3⟩ := hr i hi
  exact ⟨A, c, h1, h2.below (hb.mono hbase), h3⟩
theorem OwnTg.other {s1 s2 s3 : Value} {fr : Nat × Nat} (h : OwnTg w base lo v ts) (hg : w.heap[g]? = some (.cells #[s1, s2, s3] 26 fr)) (h1 : ∀ k x, s1 ≠ .int k x) (h2 : ∀ k x, s2 ≠ .int k x) (h3 : ∀ k x, s3 ≠ .int k x)
    (hk : ∀ j, j ≠ g → w'.heap[j]? = w.heap[j]?) (hc : Chg [26] B w w') : OwnTg w' base lo v ts := by
  obtain ⟨vs, e, ho, hr⟩ := h
  refine ⟨vs, e, ho.chg hc (by decide), fun i hi => ?_⟩
  obtain ⟨A, c, q1, q2, q3⟩ := hr i hi
  exact ⟨A, c, q1, q2.other hg h1 h2 h3 hk, q3⟩
/-- The clause that is made, in its box g: its parts lie in older memory; its rows of parts in blocks that the call has made. -/
structure NrmD (w0 : World) (lo g : Nat) (ls : List Lt) (ts : List (List Int)) (ds : List Lt) (u : Cv) (wr : World) : Prop where
  blk : wr.heap[g]? = some (.cells #[.slice u.A1 u.n1 u.c1, .slice u.A2 u.n2 u.c2, .slice u.A3 u.n3 u.c3] 26 (0, 0))
  a : ∃ b, b ≤ lo ∧ OwnG wr b (.slice u.A1 u.n1 u.c1) ls
  b : OwnTg wr w0.heap.size lo (.slice u.A2 u.n2 u.c2) ts
  d : ∃ b, b ≤ lo ∧ OwnG wr b (.slice u.A3 u.n3 u.c3) ds
  bel : Below w0.heap.size w0 wr
  gl : w0.heap.size ≤ g
  lo0 : w0.heap.size ≤ lo
  lo1 : lo ≤ wr.heap.size
theorem NrmD.c0 (q : NrmD w0 lo g ls ts ds u wr) : wr.cell? ⟨g, 0, none⟩ = some (.slice u.A1 u.n1 u.c1) := by rw [cell_of_row _ _ 0 _ _ _ q.blk]; rfl
theorem NrmD.c1 (q : NrmD w0 lo g ls ts ds u wr) : wr.cell? ⟨g, 1, none⟩ = some (.slice u.A2 u.n2 u.c2) := by rw [cell_of_row _ _ 1 _ _ _ q.blk]; rfl
theorem NrmD.c2 (q : NrmD w0 lo g ls ts ds u wr) : wr.cell? ⟨g, 2, none⟩ = some (.slice u.A3 u.n3 u.c3) := by rw [cell_of_row _ _ 2 _ _ _ q.blk]; rfl
theorem NrmD.lt (q : NrmD w0 lo g ls ts ds u wr) : g < wr.heap.size := (Array.getElem?_eq_some_iff.1 q.blk).1
theorem NrmD.on (q : NrmD w0 lo g ls ts ds u wr) (hb : Below wr.heap.size wr w2) : NrmD w0 lo g ls ts ds u w2 := by
  obtain ⟨b1, h1, a⟩ := q.a
  obtain ⟨b3, h3, d⟩ := q.d
  exact ⟨by rw [hb.block g q.lt]; exact q.blk, ⟨b1, h1, a.on hb⟩, q.b.on hb (Nat.le_trans q.lo0 q.lo1), ⟨b3, h3, d.on hb⟩, q.bel.trans (hb.mono (Nat.le_trans q.lo0 q.lo1)), q.gl, q.lo0, by have := q.lo1; have := hb.size; omega⟩
/-- Behind an append to the Tuples. -/
theorem NrmD.app {t : List Int} {A3 : Option Addr} {c3 : Nat} (q : NrmD w0 lo g ls ts ds u wn) (he : vs.length = ts.length) (hr : ∀ i, i < ts.length → ∃ A c, valAt vs i = .slice A (rowOf ts i).length c ∧ RowIn wn w0.heap.size A (rowOf ts i).length c (rowOf ts i) ∧ (A = none → c = 0))
    (hown2 : OwnR w2 lo v2 (vs ++ [.slice A3 t.length c3])) (hc2 : Chg [33] lo wn w2) (ht : RowIn wn w0.heap.size A3 t.length c3 t) (hn : A3 = none → c3 = 0) :
    ∃ D L e, v2 = .slice D L e ∧ w2.cell? ⟨g, 1, none⟩ = some (.slice u.A2 u.n2 u.c2) ∧ w2.frozen? ⟨g, 1, none⟩ = false ∧ g < w2.heap.size ∧ NrmD w0 lo g ls (ts ++ [t]) ds ⟨u.A1, u.n1, u.c1, D, L, e, u.A3, u.n3, u.c3⟩ (w2.setCell ⟨g, 1, none⟩ (.slice D L e)) := by
  obtain ⟨D, e, rfl⟩ := hown2.valued
  have hb2 := hc2.blk _ _ _ _ q.blk (by decide)
  have cs : Chg [26] g w2 (w2.setCell ⟨g, 1, none⟩ (.slice D (vs ++ [Value.slice A3 t.length c3]).length e)) := Chg.set hb2 (Nat.le_refl _) _
  have hgl := (Array.getElem?_eq_some_iff.1 hb2).1
  have hk : ∀ j, j ≠ g → (w2.setCell ⟨g, 1, none⟩ (.slice D (vs ++ [Value.slice A3 t.length c3]).length e)).heap[j]? = w2.heap[j]? := by
    intro j hj
    rw [setCell_eq_setRow w2 g 1 _ _ _ _ hb2]
    exact setRow_other _ _ _ _ hj
  have ne : ∀ {A : Option Addr} {n c : Nat} (k : IntKind) (x : Int), Value.slice A n c ≠ .int k x := fun k x h => by cases h
  obtain ⟨b1, h1, a⟩ := q.a
  obtain ⟨b3, h3, d⟩ := q.d
  have hs2 := hc2.bel.size
  have hlo := q.lo0
  have hlo1 := q.lo1
  refine ⟨D, _, e, rfl, by rw [cell_of_row _ _ 1 _ _ _ hb2]; rfl, frozen_of_row _ _ _ _ _ hb2, hgl, heap_setCell_same _ _ 1 _ _ _ hb2, ⟨b1, h1, (a.chg hc2 h1 (by decide)).other hb2 ne ne ne hk⟩, ?_, ⟨b3, h3, (d.chg hc2 h3 (by decide)).other hb2 ne ne ne hk⟩,
    (q.bel.trans (hc2.bel.mono hlo)).trans (cs.bel.mono q.gl), q.gl, hlo, by have := cs.bel.size; omega⟩
  refine ⟨vs ++ [.slice A3 t.length c3], by simp [he], hown2.chg cs (by decide), fun i hi => ?_⟩
  have hb : Below w0.heap.size wn w2 := hc2.bel.mono hlo
  by_cases e : i < ts.length
  · obtain ⟨A, c, q1, q2, q3⟩ := hr i e
    rw [rowOf_left e, valAt_lefts (by omega)]
    exact ⟨A, c, q1, (q2.below hb).other hb2 ne ne ne hk, q3⟩
  · have ei : i = ts.length := by simp at hi; omega
    subst ei
    rw [rowOf_right (Nat.le_refl _), valAt_rights (by omega), he]
    simp only [Nat.sub_self]
    exact ⟨A3, c3, rfl, (ht.below hb).other hb2 ne ne ne hk, hn⟩
theorem NrmD.clAt (q : NrmD w0 lo g ls ts ds u wr) (h1 : ls.length ≤ 6) (h2 : ts.length ≤ 6) (h3 : ds.length ≤ 6) : ClAt wr wr.heap.size u ⟨ls, ts, ds⟩ := by
  obtain ⟨b1, k1, a⟩ := q.a
  obtain ⟨b3, k3, d⟩ := q.d
  have hl := q.lo1
  obtain ⟨A, cap, e, hc, hA⟩ := a.litsAt (by omega)
  obtain ⟨A', cap', e', hc', hA', hz⟩ := q.b.tupsAt (Nat.le_trans q.lo0 q.lo1)
  obtain ⟨A'', cap'', e'', hc'', hA''⟩ := d.litsAt (by omega)
  injection e with x1 x2 x3
  injection e' with y1 y2 y3
  injection e'' with z1 z2 z3
  refine ⟨by rw [x1, x2]; exact hA, by rw [y1, y2]; exact hA', by rw [z1, z2]; exact hA'', by omega, by omega, by omega, by rw [y1, y3]; exact hz, by omega, by omega, by omega⟩
theorem NrmD.start {D1 D3 : Option Addr} {n1 d1 n3 d3 b1 b3 : Nat} (a : OwnG w b1 (.slice D1 n1 d1) ls) (d : OwnG w b3 (.slice D3 n3 d3) ds) (hz : ZBox w g) (hb : Below w0.heap.size w0 w) (hg : w0.heap.size ≤ g) (h1 : b1 ≤ w.heap.size) (h3 : b3 ≤ w.heap.size) :
    NrmD w0 (w.setRow g #[.slice D1 n1 d1, .slice none 0 0, .slice D3 n3 d3]).heap.size g ls [] ds ⟨D1, n1, d1, none, 0, 0, D3, n3, d3⟩ (w.setRow g #[.slice D1 n1 d1, .slice none 0 0, .slice D3 n3 d3]) := by
  obtain ⟨k1, k2, k3⟩ := setRow_chg (cells := #[.slice D1 n1 d1, .slice none 0 0, .slice D3 n3 d3]) hz.z
  have hk : ∀ j, j ≠ g → (w.setRow g #[.slice D1 n1 d1, .slice none 0 0, .slice D3 n3 d3]).heap[j]? = w.heap[j]? := fun j hj => setRow_other _ _ _ _ hj
  have ne : ∀ {A : Option Addr} {n c : Nat} (k : IntKind) (x : Int), Value.slice A n c ≠ .int k x := fun k x h => by cases h
  have hlt := hz.lt
  exact ⟨k1, ⟨b1, by omega, a.other hz.z ne ne ne hk⟩, OwnTg.nil_, ⟨b3, by omega, d.other hz.z ne ne ne hk⟩, hb.trans (k2.bel.mono hg), hg, by have := hb.size; omega, Nat.le_refl _⟩
end
end Go.Proofs.Ytpblpndlajoebaa

namespace Go.Proofs.Ytpblpndlajoebaa
open Go.RowKit Go.Deep
set_option linter.unusedSimpArgs false
set_option linter.unusedVariables false
set_option maxRecDepth 100000

theorem own_lit9 (w : World) (t : List Int) (hf : t.length ≤ 9) : OwnI (w.alloc (.cells (intCells t).toArray 3)) w.heap.size (.slice (some ⟨w.heap.size, 0, none⟩) t.length t.length) t := by
  have := World.ownsRow_lit (base := w.heap.size) (e := 3) (size := 1) w (intCells t).toArray t.length (Nat.le_refl _) (by unfold maxLen; omega) (by simp [intCells])
  simpa [OwnI] using this
theorem hasR_next {r : List Int} {ts : List (List Int)} {m : Nat} (h : m < ts.length) : hasR r (ts.take (m + 1)) = (hasR r (ts.take m) || sameI (rowOf ts m) r) := by
  rw [rowOf_next h]
  unfold hasR
  rw [List.any_append]
  have : sameI r (rowOf ts m) = sameI (rowOf ts m) r := by unfold sameI; exact decide_eq_decide.2 ⟨fun h => h.symm, fun h => h.symm⟩
  simp [this]
theorem hasR_zero {r : List Int} {ts : List (List Int)} : hasR r (ts.take 0) = false := by simp [hasR]
theorem Small.once {c : Cl} (h : Small c) : Small (onceC c) where
  l := Nat.le_trans (once_length _) h.l
  t := Nat.le_trans (once_length _) h.t
  d := Nat.le_trans (once_length _) h.d
  al := fun l hl => h.al l (mem_once.1 hl)
  ad := fun l hl => h.ad l (mem_once.1 hl)
  r := fun r hr => h.r r (once_rows hr)
theorem take_snoc {xs : List Int} {i : Nat} (h : i < xs.length) : xs.take (i + 1) = xs.take i ++ [intAt xs i] := by
  rw [List.take_add_one, intAt_get h]; rfl
theorem of_none {F : List Nat} {x : Int} (hx : x < 0) (hs : F.Nodup) (h : ofB (bdsF F) (-1 - x) = none) : (-1 - x).toNat ∉ F := by
  intro q
  have := ofB_in hs q
  have e : (((-1 - x).toNat : Nat) : Int) = -1 - x := by omega
  rw [e, h] at this; cases this
theorem of_some {F : List Nat} {x : Int} {t : List Int} (hx : x < 0) (h : ofB (bdsF F) (-1 - x) = some t) : (-1 - x).toNat ∈ F := by
  by_cases q : (-1 - x).toNat ∈ F
  · exact q
  · have := ofB_out q
    have e : (((-1 - x).toNat : Nat) : Int) = -1 - x := by omega
    rw [e, h] at this; cases this
theorem bdsF_new {F : List Nat} {x : Int} (hx : x < 0) : bdsF (F ++ [(-1 - x).toNat]) = bdsF F ++ [⟨-1 - x, [-1 - (F.length : Int)]⟩] := by
  rw [bdsF_snoc]
  have e : (((-1 - x).toNat : Nat) : Int) = -1 - x := by omega
  rw [e]

theorem app_bindN {w : World} {ops : Array Oper} {rest : List Oper} {o : Oper} {a : Act} {Q : Exit → Act → World → Prop} (hgd : o.guard = none) (s x : Operand)
    (ho : o.op = .call { callee := .builtin .append, args := #[s, x], argTypes := #[92, 92] })
    (base : Nat) (v : Value) (bs : List Bd) (y : Int) (t : List Int) (u : Value) (hs : a.eval s = v) (hown : OwnB w base v bs) (hu : OwnI w base u t) {N : Nat} (hx : a.eval x = .slice (some ⟨N, 0, none⟩) 1 1) (hN : w.heap.size = N)
    (hlen : bs.length + 1 ≤ 4398046511104) (hbase : base ≤ w.heap.size)
    (h : ∀ v' w', OwnB w' base v' (bs ++ [⟨y, t⟩]) → Below base w w' → wpList Try.prog ops Q rest (a.put o.dst v') w') : wpList Try.prog ops Q (o :: rest) a (w.alloc (.cells #[.int .i64 y, u] 95)) := by
  subst hN
  exact app_bind1 hgd s x ho base v bs y t u hs hown hu hx hlen hbase h

set_option maxHeartbeats 8000000 in
theorem refNorm_any (v : Cv) (c : Cl) (w : World) (hc : ClAt w w.heap.size v c) (hs : Small c) (h24 : ∀ r ∈ rowsC c, ∀ x ∈ r, -24 ≤ x) : Calls Try.prog 43 #[v.val] w (ClRet (norm c) w) := by
  have l2 := hc.tups.len
  have q1 : v.n1 ≤ 5 := by rw [← hc.lits.len]; exact hs.l
  have q2 : v.n2 ≤ 3 := by rw [← l2]; exact hs.t
  have q3 : v.n3 ≤ 3 := by rw [← hc.conds.len]; exact hs.d
  have HL2 := Lib.hid l2
  have HSM := Lib.hid hs
  have H24R := Lib.hid h24
  have hb0 := below_new2 w v.obj (.cells #[.slice none 0 0, .slice none 0 0, .slice none 0 0] 26)
  have hx0 := (CBox.new hc).on (below_new _ (.cells #[.slice none 0 0, .slice none 0 0, .slice none 0 0] 26))
  have hz0 := ZBox.new (w.alloc v.obj)
  have e0 : (w.alloc v.obj).heap.size = w.heap.size + 1 := by simp
  rw [e0] at hz0
  rw [Cv.val_eq]
  unfold Cv.obj at hb0 hx0 hz0
  clear hc hs h24 l2 e0
  go_enter Try.func43, Try.ntmps43
  go_upto_region 1 with (fail)
  obtain ⟨w0, hw0⟩ : ∃ w0, w0 = (w.alloc (.cells #[.slice v.A1 v.n1 v.c1, .slice v.A2 v.n2 v.c2, .slice v.A3 v.n3 v.c3] 26)).alloc (.cells #[.slice none 0 0, .slice none 0 0, .slice none 0 0] 26) := ⟨_, rfl⟩
  have hsz0 : w0.heap.size = w.heap.size + 2 := by rw [hw0]; simp
  rw [← hw0] at hb0 hx0 hz0 ⊢
  have HX0 := Lib.hid hx0
  have HX := Lib.hid hx0
  have HB := Lib.hid hb0
  have HZ0 := Lib.hid hz0
  obtain ⟨B, hB⟩ : ∃ B, B = w.heap.size := ⟨_, rfl⟩
  rw [← hB] at HX HX0 HZ0 hsz0 ⊢
  have HBH := Lib.hid hB
  have hB0 : B < w0.heap.size := by omega
  have hB1 : B + 1 < w0.heap.size := by omega
  clear hw0 hb0 hx0 hz0 hB hsz0
  go_cut [3] (fun s wx => ∃ (g : Nat) (u : Cv), s = .pointer (some ⟨g, 0, none⟩) ∧ NrmD w0 wx.heap.size g (once c.lits) [] (once c.conds) u wx)
  case first =>
    have p0 := HX.out.c0
    have p2 := HX.out.c2
    go_wp2_with fail
    refine wp_region_held_drew (S := (fun w' => w'.cell? ⟨B, 0, none⟩ = some (.slice v.A1 v.n1 v.c1) ∧ w'.cell? ⟨B, 2, none⟩ = some (.slice v.A3 v.n3 v.c3))) (by kernel_rfl) ⟨p0, p2⟩ (fun hHeld => ?_)
    have hd0 : Below w0.heap.size w0 w0.drew := (Below.refl w0.heap.size w0).drew
    have hs1 : w0.heap.size ≤ w0.drew.heap.size := hd0.size
    refine takeH (i := 0) (v := ?_) rfl rfl (by kernel_rfl) (by kernel_rfl) (by kernel_rfl) (fun _ _ _ h => h) (by rfl) ?_ hHeld ?_
    rotate_left
    · (intro w hSw; (try dsimp only at hSw); first | (go_simp; done) | (go_simp; with_reducible rfl))
    simp only [Act.put, List.setIfInBounds_toArray, List.set_cons_zero, List.set_cons_succ]
    refine takeH (i := 1) (v := ?_) rfl rfl (by kernel_rfl) (by kernel_rfl) (by kernel_rfl) (fun _ _ _ h => h) (by rfl) ?_ hHeld ?_
    rotate_left
    · (intro w hSw; (try dsimp only at hSw); first | (go_simp; done) | (go_simp; with_reducible rfl))
    simp only [Act.put, List.setIfInBounds_toArray, List.set_cons_zero, List.set_cons_succ]
    refine takeH (i := 3) (v := ?_) rfl rfl (by kernel_rfl) (by kernel_rfl) (by kernel_rfl) (fun _ _ _ h => h) (by rfl) ?_ hHeld ?_
    rotate_left
    · (intro w hSw; (try dsimp only at hSw); first | (go_simp; done) | (go_simp; with_reducible rfl))
    simp only [Act.put, List.setIfInBounds_toArray, List.set_cons_zero, List.set_cons_succ]
    refine takeH (i := 4) (v := ?_) rfl rfl (by kernel_rfl) (by kernel_rfl) (by kernel_rfl) (fun _ _ _ h => h) (by rfl) ?_ hHeld ?_
    rotate_left
    · (intro w hSw; (try dsimp only at hSw); first | (go_simp; done) | (go_simp; with_reducible rfl))
    simp only [Act.put, List.setIfInBounds_toArray, List.set_cons_zero, List.set_cons_succ]
    replace HX := Lib.hid (HX.out.on hd0)
    have HB1 := Lib.hid hd0
    clear hd0
    obtain ⟨w1, hw1⟩ : ∃ w1, w1 = w0.drew := ⟨_, rfl⟩
    rw [← hw1] at HX HB1 hs1 ⊢
    clear hw1
    clear p0 p2
    have p0 := HX.out.c0
    have p2 := HX.out.c2
    refine wpAnyH_ready (rs := [2, 7]) (by kernel_rfl) (by simp) ?_
    refine AllReadyH.cons rfl (fun K hK => ?_) (AllReadyH.cons rfl (fun K hK => ?_) AllReadyH.nil)
    · go_simp
      refine (refLits_any v.A1 v.n1 v.c1 c.lits _ HX.out.cl.lits (by omega)).mono ?_
      rintro e w2 ⟨x1, rfl, ho1, hb2⟩
      obtain ⟨D1, d1, hd1⟩ := ho1.valued
      obtain ⟨n1, hn1⟩ : ∃ n1, n1 = (once c.lits).length := ⟨_, rfl⟩
      rw [← hn1] at hd1
      subst hd1
      have hs2 := hb2.size
      have HB2 := Lib.hid (HB1.out.trans (hb2.mono HB1.out.size))
      replace HX := Lib.hid (HX.out.on hb2)
      have H1 := Lib.hid ho1
      clear ho1 hb2 hn1
      clear p0 p2
      have p0 := HX.out.c0
      have p2 := HX.out.c2
      go_wp2_with fail
      refine hK.out _ _ ?_ (fun hHeld => ?_)
      · exact ⟨p0, p2⟩
      clear hK K
      refine wpAnyH_ready (rs := [5, 7]) (by kernel_rfl) (by simp) ?_
      refine AllReadyH.cons rfl (fun K hK => ?_) (AllReadyH.cons rfl (fun K hK => ?_) AllReadyH.nil)
      · go_simp
        refine (refLits_any v.A3 v.n3 v.c3 c.conds _ HX.out.cl.conds (by omega)).mono ?_
        rintro e w3 ⟨x3, rfl, ho3, hb3⟩
        obtain ⟨D3, d3, hd3⟩ := ho3.valued
        obtain ⟨n3, hn3⟩ : ∃ n3, n3 = (once c.conds).length := ⟨_, rfl⟩
        rw [← hn3] at hd3
        subst hd3
        have hs3 := hb3.size
        have HB3 := Lib.hid (HB2.out.trans (hb3.mono HB2.out.size))
        replace HX := Lib.hid (HX.out.on hb3)
        replace H1 := Lib.hid (H1.out.on hb3)
        have H3 := Lib.hid ho3
        clear ho3 hb3 hn3
        clear p0 p2
        have p0 := HX.out.c0
        have p2 := HX.out.c2
        go_wp2_with fail
        refine hK.out _ _ ?_ (fun hHeld => ?_)
        · exact ⟨p0, p2⟩
        clear hK K
        refine takeH (i := 6) (v := ?_) rfl rfl (by kernel_rfl) (by kernel_rfl) (by kernel_rfl) (fun _ _ _ h => h) (by rfl) ?_ hHeld ?_
        rotate_left
        · (intro w hSw; (try dsimp only at hSw); first | (go_simp; done) | (go_simp; with_reducible rfl))
        simp only [Act.put, List.setIfInBounds_toArray, List.set_cons_zero, List.set_cons_succ]
        refine wpAnyH_ready (rs := [7]) (by kernel_rfl) (by simp) ?_
        refine AllReadyH.cons rfl (fun K hK => ?_) AllReadyH.nil
        go_simp
        have hb4 := below_new w3 (.cells #[.slice none 0 0, .slice none 0 0, .slice none 0 0] 26)
        have HZ := Lib.hid (ZBox.new w3)
        have HB4 := Lib.hid (HB3.out.trans (hb4.mono HB3.out.size))
        replace HX := Lib.hid (HX.out.on hb4)
        replace H1 := Lib.hid (H1.out.on hb4)
        replace H3 := Lib.hid (H3.out.on hb4)
        obtain ⟨w4, hw4⟩ : ∃ w4, w4 = w3.alloc (.cells #[.slice none 0 0, .slice none 0 0, .slice none 0 0] 26) := ⟨_, rfl⟩
        obtain ⟨g, hg⟩ : ∃ g, g = w3.heap.size := ⟨_, rfl⟩
        have hs4 : w3.heap.size ≤ w4.heap.size := by rw [hw4]; simp
        have hgw : w0.heap.size ≤ g := by rw [hg]; exact HB3.out.size
        rw [← hw4] at HX HZ HB4 H1 H3 ⊢
        rw [← hg] at HZ ⊢
        clear hb4 hw4 hg
        clear p0 p2
        have p0 := HX.out.c0
        have p2 := HX.out.c2
        refine hK.out _ _ ?_ (fun hHeld => ?_)
        · exact ⟨p0, p2⟩
        clear hK K
        refine wpAnyH_ready (rs := [8]) (by kernel_rfl) (by simp) ?_
        refine AllReadyH.cons rfl (fun K hK => ?_) AllReadyH.nil
        refine store_row_step rfl 26 (.tmp 3) (.tmp 18) rfl rfl g _ #[.slice D1 n1 d1, .slice none 0 0, .slice D3 n3 d3] rfl rfl HZ.out.z rfl (by kernel_rfl) three_one ?_
        have hN := NrmD.start H1.out H3.out HZ.out HB4.out hgw (by omega) (by omega)
        have HN := Lib.hid hN
        have HC9 := Lib.hid (HX0.out.on hN.bel)
        have p0' := HC9.out.c0
        have p2' := HC9.out.c2
        clear hN p0 p2
        refine hK.out _ _ ?_ (fun hHeld => ?_)
        · exact ⟨p0', p2'⟩
        clear hK K
        refine wpAnyH_done (by kernel_rfl) ?_ _
        go_wp2
        go_meet
        case rel => exact ⟨g, _, rfl, HN.out⟩
      · go_simp
        have hb3 := below_new w2 (.cells #[.slice none 0 0, .slice none 0 0, .slice none 0 0] 26)
        have HZ := Lib.hid (ZBox.new w2)
        have HB3 := Lib.hid (HB2.out.trans (hb3.mono HB2.out.size))
        replace HX := Lib.hid (HX.out.on hb3)
        replace H1 := Lib.hid (H1.out.on hb3)
        obtain ⟨w3, hw3⟩ : ∃ w3, w3 = w2.alloc (.cells #[.slice none 0 0, .slice none 0 0, .slice none 0 0] 26) := ⟨_, rfl⟩
        obtain ⟨g, hg⟩ : ∃ g, g = w2.heap.size := ⟨_, rfl⟩
        have hs3 : w2.heap.size ≤ w3.heap.size := by rw [hw3]; simp
        have hgw : w0.heap.size ≤ g := by rw [hg]; exact HB2.out.size
        rw [← hw3] at HX HZ HB3 H1 ⊢
        rw [← hg] at HZ ⊢
        clear hb3 hw3 hg
        clear p0 p2
        have p0 := HX.out.c0
        have p2 := HX.out.c2
        refine hK.out _ _ ?_ (fun hHeld => ?_)
        · exact ⟨p0, p2⟩
        clear hK K
        refine wpAnyH_ready (rs := [5]) (by kernel_rfl) (by simp) ?_
        refine AllReadyH.cons rfl (fun K hK => ?_) AllReadyH.nil
        go_simp
        refine (refLits_any v.A3 v.n3 v.c3 c.conds _ HX.out.cl.conds (by omega)).mono ?_
        rintro e w4 ⟨x3, rfl, ho3, hb4⟩
        obtain ⟨D3, d3, hd3⟩ := ho3.valued
        obtain ⟨n3, hn3⟩ : ∃ n3, n3 = (once c.conds).length := ⟨_, rfl⟩
        rw [← hn3] at hd3
        subst hd3
        have hs4 := hb4.size
        have HB4 := Lib.hid (HB3.out.trans (hb4.mono HB3.out.size))
        replace HX := Lib.hid (HX.out.on hb4)
        replace HZ := Lib.hid (HZ.out.on hb4)
        replace H1 := Lib.hid (H1.out.on hb4)
        have H3 := Lib.hid ho3
        clear ho3 hb4 hn3
        clear p0 p2
        have p0 := HX.out.c0
        have p2 := HX.out.c2
        go_wp2_with fail
        refine hK.out _ _ ?_ (fun hHeld => ?_)
        · exact ⟨p0, p2⟩
        clear hK K
        refine takeH (i := 6) (v := ?_) rfl rfl (by kernel_rfl) (by kernel_rfl) (by kernel_rfl) (fun _ _ _ h => h) (by rfl) ?_ hHeld ?_
        rotate_left
        · (intro w hSw; (try dsimp only at hSw); first | (go_simp; done) | (go_simp; with_reducible rfl))
        simp only [Act.put, List.setIfInBounds_toArray, List.set_cons_zero, List.set_cons_succ]
        refine wpAnyH_ready (rs := [8]) (by kernel_rfl) (by simp) ?_
        refine AllReadyH.cons rfl (fun K hK => ?_) AllReadyH.nil
        refine store_row_step rfl 26 (.tmp 3) (.tmp 18) rfl rfl g _ #[.slice D1 n1 d1, .slice none 0 0, .slice D3 n3 d3] rfl rfl HZ.out.z rfl (by kernel_rfl) three_one ?_
        have hN := NrmD.start H1.out H3.out HZ.out HB4.out hgw (by omega) (by omega)
        have HN := Lib.hid hN
        have HC9 := Lib.hid (HX0.out.on hN.bel)
        have p0' := HC9.out.c0
        have p2' := HC9.out.c2
        clear hN p0 p2
        refine hK.out _ _ ?_ (fun hHeld => ?_)
        · exact ⟨p0', p2'⟩
        clear hK K
        refine wpAnyH_done (by kernel_rfl) ?_ _
        go_wp2
        go_meet
        case rel => exact ⟨g, _, rfl, HN.out⟩
    · go_simp
      have hb2 := below_new w1 (.cells #[.slice none 0 0, .slice none 0 0, .slice none 0 0] 26)
      have HZ := Lib.hid (ZBox.new w1)
      have HB2 := Lib.hid (HB1.out.trans (hb2.mono HB1.out.size))
      replace HX := Lib.hid (HX.out.on hb2)
      obtain ⟨w2, hw2⟩ : ∃ w2, w2 = w1.alloc (.cells #[.slice none 0 0, .slice none 0 0, .slice none 0 0] 26) := ⟨_, rfl⟩
      obtain ⟨g, hg⟩ : ∃ g, g = w1.heap.size := ⟨_, rfl⟩
      have hs2 : w1.heap.size ≤ w2.heap.size := by rw [hw2]; simp
      have hgw : w0.heap.size ≤ g := by rw [hg]; exact HB1.out.size
      rw [← hw2] at HX HZ HB2  ⊢
      rw [← hg] at HZ ⊢
      clear hb2 hw2 hg
      clear p0 p2
      have p0 := HX.out.c0
      have p2 := HX.out.c2
      refine hK.out _ _ ?_ (fun hHeld => ?_)
      · exact ⟨p0, p2⟩
      clear hK K
      refine wpAnyH_ready (rs := [2]) (by kernel_rfl) (by simp) ?_
      refine AllReadyH.cons rfl (fun K hK => ?_) AllReadyH.nil
      go_simp
      refine (refLits_any v.A1 v.n1 v.c1 c.lits _ HX.out.cl.lits (by omega)).mono ?_
      rintro e w3 ⟨x1, rfl, ho1, hb3⟩
      obtain ⟨D1, d1, hd1⟩ := ho1.valued
      obtain ⟨n1, hn1⟩ : ∃ n1, n1 = (once c.lits).length := ⟨_, rfl⟩
      rw [← hn1] at hd1
      subst hd1
      have hs3 := hb3.size
      have HB3 := Lib.hid (HB2.out.trans (hb3.mono HB2.out.size))
      replace HX := Lib.hid (HX.out.on hb3)
      replace HZ := Lib.hid (HZ.out.on hb3)
      have H1 := Lib.hid ho1
      clear ho1 hb3 hn1
      clear p0 p2
      have p0 := HX.out.c0
      have p2 := HX.out.c2
      go_wp2_with fail
      refine hK.out _ _ ?_ (fun hHeld => ?_)
      · exact ⟨p0, p2⟩
      clear hK K
      refine wpAnyH_ready (rs := [5]) (by kernel_rfl) (by simp) ?_
      refine AllReadyH.cons rfl (fun K hK => ?_) AllReadyH.nil
      go_simp
      refine (refLits_any v.A3 v.n3 v.c3 c.conds _ HX.out.cl.conds (by omega)).mono ?_
      rintro e w4 ⟨x3, rfl, ho3, hb4⟩
      obtain ⟨D3, d3, hd3⟩ := ho3.valued
      obtain ⟨n3, hn3⟩ : ∃ n3, n3 = (once c.conds).length := ⟨_, rfl⟩
      rw [← hn3] at hd3
      subst hd3
      have hs4 := hb4.size
      have HB4 := Lib.hid (HB3.out.trans (hb4.mono HB3.out.size))
      replace HX := Lib.hid (HX.out.on hb4)
      replace HZ := Lib.hid (HZ.out.on hb4)
      replace H1 := Lib.hid (H1.out.on hb4)
      have H3 := Lib.hid ho3
      clear ho3 hb4 hn3
      clear p0 p2
      have p0 := HX.out.c0
      have p2 := HX.out.c2
      go_wp2_with fail
      refine hK.out _ _ ?_ (fun hHeld => ?_)
      · exact ⟨p0, p2⟩
      clear hK K
      refine takeH (i := 6) (v := ?_) rfl rfl (by kernel_rfl) (by kernel_rfl) (by kernel_rfl) (fun _ _ _ h => h) (by rfl) ?_ hHeld ?_
      rotate_left
      · (intro w hSw; (try dsimp only at hSw); first | (go_simp; done) | (go_simp; with_reducible rfl))
      simp only [Act.put, List.setIfInBounds_toArray, List.set_cons_zero, List.set_cons_succ]
      refine wpAnyH_ready (rs := [8]) (by kernel_rfl) (by simp) ?_
      refine AllReadyH.cons rfl (fun K hK => ?_) AllReadyH.nil
      refine store_row_step rfl 26 (.tmp 3) (.tmp 18) rfl rfl g _ #[.slice D1 n1 d1, .slice none 0 0, .slice D3 n3 d3] rfl rfl HZ.out.z rfl (by kernel_rfl) three_one ?_
      have hN := NrmD.start H1.out H3.out HZ.out HB4.out hgw (by omega) (by omega)
      have HN := Lib.hid hN
      have HC9 := Lib.hid (HX0.out.on hN.bel)
      have p0' := HC9.out.c0
      have p2' := HC9.out.c2
      clear hN p0 p2
      refine hK.out _ _ ?_ (fun hHeld => ?_)
      · exact ⟨p0', p2'⟩
      clear hK K
      refine wpAnyH_done (by kernel_rfl) ?_ _
      go_wp2
      go_meet
      case rel => exact ⟨g, _, rfl, HN.out⟩
  case rest =>
    obtain ⟨g, u0, rfl, hN0⟩ := hcut
    obtain ⟨lo, hlo⟩ : ∃ lo, lo = wc.heap.size := ⟨_, rfl⟩
    rw [← hlo] at hN0
    have HN0 := Lib.hid hN0
    obtain ⟨LS, hLS⟩ : ∃ LS, LS = once c.lits := ⟨_, rfl⟩
    obtain ⟨DS, hDS⟩ : ∃ DS, DS = once c.conds := ⟨_, rfl⟩
    rw [← hLS, ← hDS] at HN0
    have HLS := Lib.hid hLS
    have HDS := Lib.hid hDS
    clear hN0 hlo hLS hDS HX
    go_wp2_with fail
    go_loopw [4] (fun i wr => ∃ k : Nat, i = .int .i64 k ∧ k ≤ v.n2 ∧ ∃ u : Cv, NrmD w0 lo g LS (once (c.tups.take k)) DS u wr) (fun i _ => v.n2 - (intOf i).toNat)
    case atStart => exact ⟨0, rfl, by omega, u0, HN0.out⟩
    case round =>
      clear HN0
      obtain ⟨k, rfl, hk, u, hF⟩ := hrel
      have HF := Lib.hid hF
      have HBW := Lib.hid hF.bel
      have hsz := hF.bel.size
      have x1 := (HX0.out.on hF.bel).c1
      clear hF
      by_cases hlt : k < v.n2
      · have hkl : k < c.tups.length := by rw [HL2.out]; exact hlt
        have HYES := Lib.hid (fun q => onceR_has hkl q)
        have HNO := Lib.hid (fun q => onceR_new hkl q)
        obtain ⟨b, off, A3, c3, hA, hb, d0, hr, hnil⟩ := HX0.out.cl.tups.one hlt
        rw [hA] at x1
        have HA := Lib.hid hA
        have hol : (once (c.tups.take k)).length ≤ 6 := by have := once_few (xs := c.tups) (k := k); have := HL2.out; omega
        obtain ⟨r, hrr⟩ : ∃ r, r = rowOf c.tups k := ⟨_, rfl⟩
        rw [← hrr] at d0 hr HYES HNO
        have HR := Lib.hid hr
        have D0 := Lib.hid d0
        have HLT := Lib.hid hb
        have HNIL := Lib.hid hnil
        obtain ⟨Am, cm, hvm, _, htm, _⟩ := HF.out.b.tupsAt hsz
        obtain ⟨O, hO⟩ : ∃ O, O = once (c.tups.take k) := ⟨_, rfl⟩
        rw [← hO] at hvm htm hol HF HYES HNO
        obtain ⟨M, hM⟩ : ∃ M, O.length = M := ⟨_, rfl⟩
        rw [hM] at hvm htm hol
        have HM := Lib.hid hM
        have HOL := Lib.hid htm
        have HVM := Lib.hid hvm
        have hi0 : (0 : Int) ≤ (k : Int) := by omega
        have hi3 : (k : Int) < (v.n2 : Int) := by omega
        obtain ⟨wA, hwA⟩ : ∃ wA, wA = wr := ⟨_, rfl⟩
        subst hwA
        clear hr hrr hkl htm hM hO d0 hvm hnil hA
        go_wp2_with fail
        go_loopw [5, 6] (fun s j wr => ∃ m : Nat, j = .int .i64 m ∧ m ≤ M ∧ s = .bool (hasR r (O.take m)) ∧ Below wA.heap.size wA wr) (fun _ j _ => M - (intOf j).toNat)
        case atStart => exact ⟨0, rfl, by omega, by rw [hasR_zero], Below.refl _ _⟩
        case round =>
          clear x1
          obtain ⟨m, rfl, hm, rfl, hbm⟩ := hrel
          have HBM := Lib.hid hbm
          have HBA := Lib.hid (HBW.out.trans (hbm.mono hsz))
          have HF2 := Lib.hid (HF.out.on hbm)
          clear hbm
          have x1 := (HX0.out.on HBA.out).c1
          rw [HA.out] at x1
          have d0 : wr.cell? ⟨b, off + k, none⟩ = some (.slice A3 r.length c3) := by rw [HBA.out.cell (p := ⟨b, off + k, none⟩) HLT.out]; exact D0.out
          have y1 := HF2.out.c1
          rw [HVM.out] at y1
          by_cases hmt : m < M
          · have hml : m < O.length := by rw [HM.out]; exact hmt
            obtain ⟨b', off', A4, c4, hA', hb', e0, hr4, -⟩ := (HOL.out.on HBM.out).one hmt
            subst hA'
            have HNX := Lib.hid (hasR_next (r := r) hml)
            obtain ⟨q, hq⟩ : ∃ q, q = rowOf O m := ⟨_, rfl⟩
            rw [← hq] at e0 hr4 HNX
            have HR4 := Lib.hid hr4
            have E0 := Lib.hid e0
            have HLT4 := Lib.hid hb'
            have HR3 := Lib.hid (HR.out.on HBA.out)
            have hj0 : (0 : Int) ≤ (m : Int) := by omega
            have hj3 : (m : Int) < (M : Int) := by omega
            clear hr4 hq hb' hml
            cases hpb : hasR r (O.take m)
            case true =>
              rw [hpb] at HNX
              have HZ : Hid (hasR r (O.take (m + 1)) = true) := HNX.out
              clear hpb
              go_wp2_with fail
              refine wp_region_held_drew (S := (fun w' => True)) (by kernel_rfl) trivial (fun hHeld => ?_)
              refine takeH (i := 0) (v := ?_) rfl rfl (by kernel_rfl) (by kernel_rfl) (by kernel_rfl) (fun _ _ _ h => h) (by rfl) ?_ hHeld ?_
              rotate_left
              · (intro w hSw; (try dsimp only at hSw); first | (go_simp; done) | (go_simp; with_reducible rfl))
              simp only [Act.put, List.setIfInBounds_toArray, List.set_cons_zero, List.set_cons_succ]
              refine takeH (i := 1) (v := ?_) rfl rfl (by kernel_rfl) (by kernel_rfl) (by kernel_rfl) (fun _ _ _ h => h) (by rfl) ?_ hHeld ?_
              rotate_left
              · (intro w hSw; (try dsimp only at hSw); first | (go_simp; done) | (go_simp; with_reducible rfl))
              simp only [Act.put, List.setIfInBounds_toArray, List.set_cons_zero, List.set_cons_succ]
              refine passH (i := 2) rfl rfl (by kernel_rfl) (by kernel_rfl) (by kernel_rfl) (fun _ _ _ h => h) (by rfl) hHeld ?_
              simp only [Act.put, List.setIfInBounds_toArray, List.set_cons_zero, List.set_cons_succ]
              refine passH (i := 3) rfl rfl (by kernel_rfl) (by kernel_rfl) (by kernel_rfl) (fun _ _ _ h => h) (by rfl) hHeld ?_
              simp only [Act.put, List.setIfInBounds_toArray, List.set_cons_zero, List.set_cons_succ]
              refine passH (i := 4) rfl rfl (by kernel_rfl) (by kernel_rfl) (by kernel_rfl) (fun _ _ _ h => h) (by rfl) hHeld ?_
              simp only [Act.put, List.setIfInBounds_toArray, List.set_cons_zero, List.set_cons_succ]
              refine passH (i := 5) rfl rfl (by kernel_rfl) (by kernel_rfl) (by kernel_rfl) (fun _ _ _ h => h) (by rfl) hHeld ?_
              simp only [Act.put, List.setIfInBounds_toArray, List.set_cons_zero, List.set_cons_succ]
              refine passH (i := 6) rfl rfl (by kernel_rfl) (by kernel_rfl) (by kernel_rfl) (fun _ _ _ h => h) (by rfl) hHeld ?_
              simp only [Act.put, List.setIfInBounds_toArray, List.set_cons_zero, List.set_cons_succ]
              refine passH (i := 7) rfl rfl (by kernel_rfl) (by kernel_rfl) (by kernel_rfl) (fun _ _ _ h => h) (by rfl) hHeld ?_
              simp only [Act.put, List.setIfInBounds_toArray, List.set_cons_zero, List.set_cons_succ]
              refine passH (i := 8) rfl rfl (by kernel_rfl) (by kernel_rfl) (by kernel_rfl) (fun _ _ _ h => h) (by rfl) hHeld ?_
              simp only [Act.put, List.setIfInBounds_toArray, List.set_cons_zero, List.set_cons_succ]
              refine passH (i := 9) rfl rfl (by kernel_rfl) (by kernel_rfl) (by kernel_rfl) (fun _ _ _ h => h) (by rfl) hHeld ?_
              simp only [Act.put, List.setIfInBounds_toArray, List.set_cons_zero, List.set_cons_succ]
              refine passH (i := 10) rfl rfl (by kernel_rfl) (by kernel_rfl) (by kernel_rfl) (fun _ _ _ h => h) (by rfl) hHeld ?_
              simp only [Act.put, List.setIfInBounds_toArray, List.set_cons_zero, List.set_cons_succ]
              refine passH (i := 11) rfl rfl (by kernel_rfl) (by kernel_rfl) (by kernel_rfl) (fun _ _ _ h => h) (by rfl) hHeld ?_
              simp only [Act.put, List.setIfInBounds_toArray, List.set_cons_zero, List.set_cons_succ]
              refine passH (i := 12) rfl rfl (by kernel_rfl) (by kernel_rfl) (by kernel_rfl) (fun _ _ _ h => h) (by rfl) hHeld ?_
              simp only [Act.put, List.setIfInBounds_toArray, List.set_cons_zero, List.set_cons_succ]
              refine takeH (i := 13) (v := ?_) rfl rfl (by kernel_rfl) (by kernel_rfl) (by kernel_rfl) (fun _ _ _ h => h) (by rfl) ?_ hHeld ?_
              rotate_left
              · (intro w hSw; (try dsimp only at hSw); first | (go_simp; done) | (go_simp; with_reducible rfl))
              simp only [Act.put, List.setIfInBounds_toArray, List.set_cons_zero, List.set_cons_succ]
              refine takeH (i := 14) (v := ?_) rfl rfl (by kernel_rfl) (by kernel_rfl) (by kernel_rfl) (fun _ _ _ h => h) (by rfl) ?_ hHeld ?_
              rotate_left
              · (intro w hSw; (try dsimp only at hSw); first | (go_simp; done) | (go_simp; with_reducible rfl))
              simp only [Act.put, List.setIfInBounds_toArray, List.set_cons_zero, List.set_cons_succ]
              refine wpAnyH_done (by kernel_rfl) ?_ _
              go_wp2
              go_roundw
              case rel => exact ⟨m + 1, by go_num, by omega, by rw [HZ.out], HBM.out.drew⟩
              case measure => simp [intOf]; omega
            rw [hpb] at HNX
            clear hpb
            go_wp2_with fail
            refine wp_region_held_drew (S := (fun w' => w'.cell? ⟨g, 1, none⟩ = some (.slice (some ⟨b', off', none⟩) M cm) ∧ w'.cell? ⟨b', off' + m, none⟩ = some (.slice A4 q.length c4) ∧ w'.cell? ⟨B, 1, none⟩ = some (.slice (some ⟨b, off, none⟩) v.n2 v.c2) ∧ w'.cell? ⟨b, off + k, none⟩ = some (.slice A3 r.length c3))) (by kernel_rfl) ⟨y1, e0, x1, d0⟩ (fun hHeld => ?_)
            have hd : Below wr.heap.size wr wr.drew := (Below.refl wr.heap.size wr).drew
            have HR4d := Lib.hid (HR4.out.on hd)
            have HR3d := Lib.hid (HR3.out.on hd)
            refine takeH (i := 0) (v := ?_) rfl rfl (by kernel_rfl) (by kernel_rfl) (by kernel_rfl) (fun _ _ _ h => h) (by rfl) ?_ hHeld ?_
            rotate_left
            · (intro w hSw; (try dsimp only at hSw); first | (go_simp; done) | (go_simp; with_reducible rfl))
            simp only [Act.put, List.setIfInBounds_toArray, List.set_cons_zero, List.set_cons_succ]
            refine takeH (i := 1) (v := ?_) rfl rfl (by kernel_rfl) (by kernel_rfl) (by kernel_rfl) (fun _ _ _ h => h) (by rfl) ?_ hHeld ?_
            rotate_left
            · (intro w hSw; (try dsimp only at hSw); first | (go_simp; done) | (go_simp; with_reducible rfl))
            simp only [Act.put, List.setIfInBounds_toArray, List.set_cons_zero, List.set_cons_succ]
            refine takeH (i := 2) (v := ?_) rfl rfl (by kernel_rfl) (by kernel_rfl) (by kernel_rfl) (fun _ _ _ h => h) (by rfl) ?_ hHeld ?_
            rotate_left
            · (intro w hSw; (try dsimp only at hSw); first | (go_simp; done) | (go_simp; with_reducible rfl))
            simp only [Act.put, List.setIfInBounds_toArray, List.set_cons_zero, List.set_cons_succ]
            refine takeH (i := 3) (v := ?_) rfl rfl (by kernel_rfl) (by kernel_rfl) (by kernel_rfl) (fun _ _ _ h => h) (by rfl) ?_ hHeld ?_
            rotate_left
            · (intro w hSw; (try dsimp only at hSw); first | (go_simp; done) | (go_simp; with_reducible rfl))
            simp only [Act.put, List.setIfInBounds_toArray, List.set_cons_zero, List.set_cons_succ]
            refine takeH (i := 4) (v := ?_) rfl rfl (by kernel_rfl) (by kernel_rfl) (by kernel_rfl) (fun _ _ _ h => h) (by rfl) ?_ hHeld ?_
            rotate_left
            · (intro w hSw; (try dsimp only at hSw); first | (go_simp; done) | (go_simp; with_reducible rfl))
            simp only [Act.put, List.setIfInBounds_toArray, List.set_cons_zero, List.set_cons_succ]
            refine takeH (i := 5) (v := ?_) rfl rfl (by kernel_rfl) (by kernel_rfl) (by kernel_rfl) (fun _ _ _ h => h) (by rfl) ?_ hHeld ?_
            rotate_left
            · (intro w hSw; (try dsimp only at hSw); first | (go_simp; done) | (go_simp; with_reducible rfl))
            simp only [Act.put, List.setIfInBounds_toArray, List.set_cons_zero, List.set_cons_succ]
            refine takeH (i := 6) (v := ?_) rfl rfl (by kernel_rfl) (by kernel_rfl) (by kernel_rfl) (fun _ _ _ h => h) (by rfl) ?_ hHeld ?_
            rotate_left
            · (intro w hSw; (try dsimp only at hSw); first | (go_simp; done) | (go_simp; with_reducible rfl))
            simp only [Act.put, List.setIfInBounds_toArray, List.set_cons_zero, List.set_cons_succ]
            refine takeH (i := 7) (v := ?_) rfl rfl (by kernel_rfl) (by kernel_rfl) (by kernel_rfl) (fun _ _ _ h => h) (by rfl) ?_ hHeld ?_
            rotate_left
            · (intro w hSw; (try dsimp only at hSw); first | (go_simp; done) | (go_simp; with_reducible rfl))
            simp only [Act.put, List.setIfInBounds_toArray, List.set_cons_zero, List.set_cons_succ]
            refine takeH (i := 8) (v := ?_) rfl rfl (by kernel_rfl) (by kernel_rfl) (by kernel_rfl) (fun _ _ _ h => h) (by rfl) ?_ hHeld ?_
            rotate_left
            · (intro w hSw; (try dsimp only at hSw); first | (go_simp; done) | (go_simp; with_reducible rfl))
            simp only [Act.put, List.setIfInBounds_toArray, List.set_cons_zero, List.set_cons_succ]
            refine takeH (i := 9) (v := ?_) rfl rfl (by kernel_rfl) (by kernel_rfl) (by kernel_rfl) (fun _ _ _ h => h) (by rfl) ?_ hHeld ?_
            rotate_left
            · (intro w hSw; (try dsimp only at hSw); first | (go_simp; done) | (go_simp; with_reducible rfl))
            simp only [Act.put, List.setIfInBounds_toArray, List.set_cons_zero, List.set_cons_succ]
            refine takeH (i := 10) (v := ?_) rfl rfl (by kernel_rfl) (by kernel_rfl) (by kernel_rfl) (fun _ _ _ h => h) (by rfl) ?_ hHeld ?_
            rotate_left
            · (intro w hSw; (try dsimp only at hSw); first | (go_simp; done) | (go_simp; with_reducible rfl))
            simp only [Act.put, List.setIfInBounds_toArray, List.set_cons_zero, List.set_cons_succ]
            refine takeH (i := 11) (v := ?_) rfl rfl (by kernel_rfl) (by kernel_rfl) (by kernel_rfl) (fun _ _ _ h => h) (by rfl) ?_ hHeld ?_
            rotate_left
            · (intro w hSw; (try dsimp only at hSw); first | (go_simp; done) | (go_simp; with_reducible rfl))
            simp only [Act.put, List.setIfInBounds_toArray, List.set_cons_zero, List.set_cons_succ]
            refine wpAnyH_ready (rs := [12]) (by kernel_rfl) (by simp) ?_
            refine AllReadyH.cons rfl (fun K hK => ?_) AllReadyH.nil
            go_simp
            refine (refSame_any A4 A3 _ c4 _ c3 _ _ q r _ HR4d.out.at_ HR3d.out.at_ HR4d.out.big HR3d.out.big).mono ?_
            rintro e w5 ⟨rfl, hb5⟩
            have hb5' := hd.trans (hb5.mono hd.size)
            have HB5 := Lib.hid (HBM.out.trans (hb5'.mono HBM.out.size))
            have hbw5 := HBA.out.trans (hb5'.mono HBA.out.size)
            have x1' := (HX0.out.on hbw5).c1
            rw [HA.out] at x1'
            have d0' : w5.cell? ⟨b, off + k, none⟩ = some (.slice A3 r.length c3) := by rw [hbw5.cell (p := ⟨b, off + k, none⟩) HLT.out]; exact D0.out
            have e0' : w5.cell? ⟨b', off' + m, none⟩ = some (.slice A4 q.length c4) := by rw [hb5'.cell (p := ⟨b', off' + m, none⟩) HLT4.out]; exact E0.out
            have y1' := (HF2.out.on hb5').c1
            rw [HVM.out] at y1'
            clear hb5 hb5' hd d0 e0 x1 y1 hbw5
            obtain ⟨sb, hsb⟩ : ∃ sb, sb = sameI q r := ⟨_, rfl⟩
            rw [← hsb] at HNX ⊢
            have HZ : Hid (hasR r (O.take (m + 1)) = sb) := by show _ = _; rw [HNX.out]; rfl
            clear hsb
            go_wp2_with fail
            refine hK.out _ _ ?_ (fun hHeld => ?_)
            · exact ⟨y1', e0', x1', d0'⟩
            clear hK K
            refine takeH (i := 13) (v := ?_) rfl rfl (by kernel_rfl) (by kernel_rfl) (by kernel_rfl) (fun _ _ _ h => h) (by rfl) ?_ hHeld ?_
            rotate_left
            · (intro w hSw; (try dsimp only at hSw); first | (go_simp; done) | (go_simp; with_reducible rfl))
            simp only [Act.put, List.setIfInBounds_toArray, List.set_cons_zero, List.set_cons_succ]
            refine takeH (i := 14) (v := ?_) rfl rfl (by kernel_rfl) (by kernel_rfl) (by kernel_rfl) (fun _ _ _ h => h) (by rfl) ?_ hHeld ?_
            rotate_left
            · (intro w hSw; (try dsimp only at hSw); first | (go_simp; done) | (go_simp; with_reducible rfl))
            simp only [Act.put, List.setIfInBounds_toArray, List.set_cons_zero, List.set_cons_succ]
            refine wpAnyH_done (by kernel_rfl) ?_ _
            go_wp2
            go_roundw
            case rel => exact ⟨m + 1, by go_num, by omega, by rw [HZ.out], HB5.out⟩
            case measure => simp [intOf]; omega
          · obtain rfl : m = M := by omega
            have HT : Hid (O.take m = O) := List.take_of_length_le (by rw [HM.out]; exact Nat.le_refl _)
            rw [HT.out]
            have hsz2 := HBA.out.size
            have hlo1 := HF2.out.lo1
            have hlo0 := HF2.out.lo0
            cases hpb : hasR r O
            · have HX9 := Lib.hid (HNO.out hpb)
              have HR0 : Hid (RowIn wr w0.heap.size A3 r.length c3 r) := HR.out.below HBA.out
              obtain ⟨vs, hvl0, hvo, hvr⟩ := HF2.out.b
              rw [HVM.out] at hvo
              have HVL := Lib.hid hvl0
              have HOW := Lib.hid hvo
              have HVR := Lib.hid hvr
              have hvl : vs.length + 1 ≤ 5864062014634 := by rw [hvl0, HM.out]; omega
              clear hpb hvl0 hvo hvr
              go_wp2_with fail
              refine wp_region_held_drew (S := (fun w' => w'.cell? ⟨B, 1, none⟩ = some (.slice (some ⟨b, off, none⟩) v.n2 v.c2) ∧ w'.cell? ⟨b, off + k, none⟩ = some (.slice A3 r.length c3))) (by kernel_rfl) ⟨x1, d0⟩ (fun hHeld => ?_)
              have hd : Below wr.heap.size wr wr.drew := (Below.refl wr.heap.size wr).drew
              refine takeH (i := 0) (v := ?_) rfl rfl (by kernel_rfl) (by kernel_rfl) (by kernel_rfl) (fun _ _ _ h => h) (by rfl) ?_ hHeld ?_
              rotate_left
              · (intro w hSw; (try dsimp only at hSw); first | (go_simp; done) | (go_simp; with_reducible rfl))
              simp only [Act.put, List.setIfInBounds_toArray, List.set_cons_zero, List.set_cons_succ]
              refine takeH (i := 2) (v := ?_) rfl rfl (by kernel_rfl) (by kernel_rfl) (by kernel_rfl) (fun _ _ _ h => h) (by rfl) ?_ hHeld ?_
              rotate_left
              · (intro w hSw; (try dsimp only at hSw); first | (go_simp; done) | (go_simp; with_reducible rfl))
              simp only [Act.put, List.setIfInBounds_toArray, List.set_cons_zero, List.set_cons_succ]
              refine takeH (i := 3) (v := ?_) rfl rfl (by kernel_rfl) (by kernel_rfl) (by kernel_rfl) (fun _ _ _ h => h) (by rfl) ?_ hHeld ?_
              rotate_left
              · (intro w hSw; (try dsimp only at hSw); first | (go_simp; done) | (go_simp; with_reducible rfl))
              simp only [Act.put, List.setIfInBounds_toArray, List.set_cons_zero, List.set_cons_succ]
              refine takeH (i := 4) (v := ?_) rfl rfl (by kernel_rfl) (by kernel_rfl) (by kernel_rfl) (fun _ _ _ h => h) (by rfl) ?_ hHeld ?_
              rotate_left
              · (intro w hSw; (try dsimp only at hSw); first | (go_simp; done) | (go_simp; with_reducible rfl))
              simp only [Act.put, List.setIfInBounds_toArray, List.set_cons_zero, List.set_cons_succ]
              refine takeH (i := 5) (v := ?_) rfl rfl (by kernel_rfl) (by kernel_rfl) (by kernel_rfl) (fun _ _ _ h => h) (by rfl) ?_ hHeld ?_
              rotate_left
              · (intro w hSw; (try dsimp only at hSw); first | (go_simp; done) | (go_simp; with_reducible rfl))
              simp only [Act.put, List.setIfInBounds_toArray, List.set_cons_zero, List.set_cons_succ]
              refine takeH (i := 6) (v := ?_) rfl rfl (by kernel_rfl) (by kernel_rfl) (by kernel_rfl) (fun _ _ _ h => h) (by rfl) ?_ hHeld ?_
              rotate_left
              · (intro w hSw; (try dsimp only at hSw); first | (go_simp; done) | (go_simp; with_reducible rfl))
              simp only [Act.put, List.setIfInBounds_toArray, List.set_cons_zero, List.set_cons_succ]
              have HFD := Lib.hid (HF2.out.on hd)
              have HOD := Lib.hid (HOW.out.on hd)
              have HRD : Hid (RowIn wr.drew w0.heap.size A3 r.length c3 r) := HR0.out.below (hd.mono hsz2)
              have HVD : Hid (∀ i, i < O.length → ∃ A c, valAt vs i = .slice A (rowOf O i).length c ∧ RowIn wr.drew w0.heap.size A (rowOf O i).length c (rowOf O i) ∧ (A = none → c = 0)) := fun i hi => by
                obtain ⟨A, c, h1, h2, h3⟩ := HVR.out i hi
                exact ⟨A, c, h1, h2.below (hd.mono hsz2), h3⟩
              have HBD := Lib.hid (HBA.out.trans (hd.mono hsz2))
              have hszd := hd.size
              obtain ⟨wB, hwB⟩ : ∃ wB, wB = wr.drew := ⟨_, rfl⟩
              rw [← hwB] at HFD HOD HRD HVD HBD hszd hHeld ⊢
              clear hwB hd x1 d0 y1
              have x1 := (HX0.out.on HBD.out).c1
              rw [HA.out] at x1
              have d0 : wB.cell? ⟨b, off + k, none⟩ = some (.slice A3 r.length c3) := by rw [HBD.out.cell (p := ⟨b, off + k, none⟩) HLT.out]; exact D0.out
              have y1 := HFD.out.c1
              rw [HVM.out] at y1
              have HB3 := Lib.hid (HBD.out.trans ((below_new wB (.cells #[.slice A3 r.length c3] 33)).mono (show w0.heap.size ≤ wB.heap.size by omega)))
              have y3 := (HFD.out.on (below_new wB (.cells #[.slice A3 r.length c3] 33))).c1
              rw [HVM.out] at y3
              refine wpAnyH_ready (rs := [1, 7]) (by kernel_rfl) (by simp) ?_
              refine AllReadyH.cons rfl (fun K hK => ?_) (AllReadyH.cons rfl (fun K hK => ?_) AllReadyH.nil)
              · go_simp
                refine hK.out _ _ ?_ (fun hHeld => ?_)
                · exact ⟨x1, d0⟩
                clear hK K
                refine wpAnyH_ready (rs := [7]) (by kernel_rfl) (by simp) ?_
                refine AllReadyH.cons rfl (fun K hK => ?_) AllReadyH.nil
                go_simp
                refine hK.out _ _ ?_ (fun hHeld => ?_)
                · exact ⟨by rw [HB3.out.cell (p := ⟨B, 1, none⟩) hB0]; exact (HX0.out.c1).trans (by rw [HA.out]), by rw [HB3.out.cell (p := ⟨b, off + k, none⟩) HLT.out]; exact D0.out⟩
                clear hK K
                refine wpAnyH_ready (rs := [8]) (by kernel_rfl) (by simp) ?_
                refine AllReadyH.cons rfl (fun K hK => ?_) AllReadyH.nil
                refine app_rowv_step rfl (.tmp 50) (.tmp 56) rfl lo _ vs _ rfl HOD.out rfl rfl rfl hvl (show lo ≤ wB.heap.size by omega) ?_
                intro v3 w3 hown3 hc3
                have HB4 := Lib.hid (HBD.out.trans (hc3.bel.mono hlo0))
                obtain ⟨D, L9, e9, rfl, b0, b1, hgl2, q3⟩ := NrmD.app HFD.out HVL.out HVD.out hown3 hc3 HRD.out HNIL.out
                rw [HVM.out] at b0
                have HQ := Lib.hid q3
                clear q3 hown3 hc3 hgl2
                refine hK.out _ _ ?_ (fun hHeld => ?_)
                · exact ⟨by rw [HB4.out.cell (p := ⟨B, 1, none⟩) hB0]; exact (HX0.out.c1).trans (by rw [HA.out]), by rw [HB4.out.cell (p := ⟨b, off + k, none⟩) HLT.out]; exact D0.out⟩
                clear hK K
                refine takeH (i := 9) (v := ?_) rfl rfl (by kernel_rfl) (by kernel_rfl) (by kernel_rfl) (fun _ _ _ h => h) (by rfl) ?_ hHeld ?_
                rotate_left
                · (intro w hSw; (try dsimp only at hSw); first | (go_simp; done) | (go_simp; with_reducible rfl))
                simp only [Act.put, List.setIfInBounds_toArray, List.set_cons_zero, List.set_cons_succ]
                refine wpAnyH_ready (rs := [10]) (by kernel_rfl) (by simp) ?_
                refine AllReadyH.cons rfl (fun K hK => ?_) AllReadyH.nil
                refine store_slice_step rfl 24 (.tmp 58) (.tmp 57) rfl rfl g 1 D L9 e9 _ rfl rfl b0 b1 (by kernel_rfl) ?_
                refine hK.out _ _ ?_ (fun hHeld => ?_)
                · exact ⟨by rw [HQ.out.bel.cell (p := ⟨B, 1, none⟩) hB0]; exact (HX0.out.c1).trans (by rw [HA.out]), by rw [HQ.out.bel.cell (p := ⟨b, off + k, none⟩) HLT.out]; exact D0.out⟩
                clear hK K
                refine wpAnyH_done (by kernel_rfl) ?_ _
                clear b0 b1 x1 d0 y1 y3
                go_wp2
                go_roundw
                case rel => exact ⟨k + 1, by go_num, by omega, _, by rw [HX9.out]; exact HQ.out⟩
                case measure => simp [intOf]; omega
              · go_simp
                refine hK.out _ _ ?_ (fun hHeld => ?_)
                · exact ⟨by rw [HB3.out.cell (p := ⟨B, 1, none⟩) hB0]; exact (HX0.out.c1).trans (by rw [HA.out]), by rw [HB3.out.cell (p := ⟨b, off + k, none⟩) HLT.out]; exact D0.out⟩
                clear hK K
                refine wpAnyH_ready (rs := [1]) (by kernel_rfl) (by simp) ?_
                refine AllReadyH.cons rfl (fun K hK => ?_) AllReadyH.nil
                go_simp
                refine hK.out _ _ ?_ (fun hHeld => ?_)
                · exact ⟨by rw [HB3.out.cell (p := ⟨B, 1, none⟩) hB0]; exact (HX0.out.c1).trans (by rw [HA.out]), by rw [HB3.out.cell (p := ⟨b, off + k, none⟩) HLT.out]; exact D0.out⟩
                clear hK K
                refine wpAnyH_ready (rs := [8]) (by kernel_rfl) (by simp) ?_
                refine AllReadyH.cons rfl (fun K hK => ?_) AllReadyH.nil
                refine app_rowv_step rfl (.tmp 50) (.tmp 56) rfl lo _ vs _ rfl HOD.out rfl rfl rfl hvl (show lo ≤ wB.heap.size by omega) ?_
                intro v3 w3 hown3 hc3
                have HB4 := Lib.hid (HBD.out.trans (hc3.bel.mono hlo0))
                obtain ⟨D, L9, e9, rfl, b0, b1, hgl2, q3⟩ := NrmD.app HFD.out HVL.out HVD.out hown3 hc3 HRD.out HNIL.out
                rw [HVM.out] at b0
                have HQ := Lib.hid q3
                clear q3 hown3 hc3 hgl2
                refine hK.out _ _ ?_ (fun hHeld => ?_)
                · exact ⟨by rw [HB4.out.cell (p := ⟨B, 1, none⟩) hB0]; exact (HX0.out.c1).trans (by rw [HA.out]), by rw [HB4.out.cell (p := ⟨b, off + k, none⟩) HLT.out]; exact D0.out⟩
                clear hK K
                refine takeH (i := 9) (v := ?_) rfl rfl (by kernel_rfl) (by kernel_rfl) (by kernel_rfl) (fun _ _ _ h => h) (by rfl) ?_ hHeld ?_
                rotate_left
                · (intro w hSw; (try dsimp only at hSw); first | (go_simp; done) | (go_simp; with_reducible rfl))
                simp only [Act.put, List.setIfInBounds_toArray, List.set_cons_zero, List.set_cons_succ]
                refine wpAnyH_ready (rs := [10]) (by kernel_rfl) (by simp) ?_
                refine AllReadyH.cons rfl (fun K hK => ?_) AllReadyH.nil
                refine store_slice_step rfl 24 (.tmp 58) (.tmp 57) rfl rfl g 1 D L9 e9 _ rfl rfl b0 b1 (by kernel_rfl) ?_
                refine hK.out _ _ ?_ (fun hHeld => ?_)
                · exact ⟨by rw [HQ.out.bel.cell (p := ⟨B, 1, none⟩) hB0]; exact (HX0.out.c1).trans (by rw [HA.out]), by rw [HQ.out.bel.cell (p := ⟨b, off + k, none⟩) HLT.out]; exact D0.out⟩
                clear hK K
                refine wpAnyH_done (by kernel_rfl) ?_ _
                clear b0 b1 x1 d0 y1 y3
                go_wp2
                go_roundw
                case rel => exact ⟨k + 1, by go_num, by omega, _, by rw [HX9.out]; exact HQ.out⟩
                case measure => simp [intOf]; omega
            · have HX9 := Lib.hid (HYES.out hpb)
              clear hpb
              go_wp2
              go_roundw
              case rel => exact ⟨k + 1, by go_num, by omega, u, by rw [HX9.out]; exact HF2.out⟩
              case measure => simp [intOf]; omega
      · obtain rfl : k = v.n2 := by omega
        have HT2 : Hid (c.tups.take v.n2 = c.tups) := List.take_of_length_le (by rw [HL2.out]; exact Nat.le_refl _)
        rw [HT2.out] at HF
        have HSO := Lib.hid HSM.out.once
        have hcl : ClAt wr wr.heap.size u (onceC c) := by
          have := HF.out.clAt (by rw [HLS.out]; have := HSO.out.l; show (once c.lits).length ≤ 6; have h2 : (once c.lits).length ≤ 5 := this; omega) (by have h2 : (once c.tups).length ≤ 3 := HSO.out.t; omega) (by rw [HDS.out]; have h2 : (once c.conds).length ≤ 3 := HSO.out.d; omega)
          rw [HLS.out, HDS.out] at this
          exact this
        have HCL := Lib.hid hcl
        have HUE := Lib.hid u.val_eq
        have HPA := Lib.hid (refRowsR_any u (onceC c))
        have H24O : Hid (∀ r ∈ rowsC (onceC c), ∀ x ∈ r, -24 ≤ x) := fun r hr => H24R.out r (once_rows hr)
        obtain ⟨L, hL⟩ : ∃ L, L = rowsC (onceC c) := ⟨_, rfl⟩
        have HLE := Lib.hid hL
        have H49 : Hid (∀ r ∈ L, r.length ≤ 49) := by rw [hL]; exact HSO.out.r
        have hL11 : L.length ≤ 11 := by rw [hL]; exact HSO.out.rows
        have H24L : Hid (∀ r ∈ L, ∀ x ∈ r, -24 ≤ x) := by rw [hL]; exact H24O.out
        rw [← hL] at HPA
        have u0 := HF.out.c0
        have u1 := HF.out.c1
        have u2 := HF.out.c2
        clear hL hcl
        go_wp2_with fail
        rw [← HUE.out]
        refine (HPA.out _ HCL.out HSO.out).mono ?_
        rintro e w5 ⟨A5, cap, rfl, hcap, ht, hb5⟩
        have HT := Lib.hid ht
        have HFW := Lib.hid (HF.out.on hb5)
        obtain ⟨m, hm⟩ : ∃ m, m = L.length := ⟨_, rfl⟩
        rw [← hm] at HT hcap hL11 ⊢
        have HMM := Lib.hid hm
        have HFL : Hid (∀ k, (L.take k).flatten.length ≤ 539) := fun k => Nat.le_trans (flat_few fun r hr => H49.out r (List.mem_of_mem_take hr)) (by have := HMM.out; rw [List.length_take]; omega)
        clear ht hb5 hm x1 u0 u1 u2 HF HBW hsz
        go_wp2
        go_loopw [7, 9] (fun s i wr => ∃ k : Nat, i = .int .i64 k ∧ k ≤ m ∧ OwnB wr w5.heap.size s (bdsF (firsts (L.take k).flatten)) ∧ Below w5.heap.size w5 wr) (fun _ i _ => m - (intOf i).toNat)
        case atStart => exact ⟨0, rfl, by omega, OwnB.nil_, Below.refl _ _⟩
        case round =>
          obtain ⟨k, rfl, hk, hown, hbw⟩ := hrel
          have HOWN := Lib.hid hown
          have HBW := Lib.hid hbw
          have hsz := hbw.size
          clear hown hbw
          have hone : ∀ F : List Nat, ∀ i, i < (bdsF F).length → (bdAt (bdsF F) i).t.length * 8 ≤ 140737488351232 := fun F i hi => by have := (bdsF_one hi).2; omega
          have HONE := Lib.hid hone
          clear hone
          by_cases hlt : k < m
          · have hkL : k < L.length := by rw [← HMM.out]; exact hlt
            obtain ⟨b, off, A2, c2, rfl, hb, d0, hr, -⟩ := HT.out.one hlt
            have HNX := Lib.hid (rowOf_take hkL)
            have hf1 := HFL.out k
            have h49 := H49.out _ (rowOf_mem hkL)
            have HX24 := Lib.hid (H24L.out _ (rowOf_mem hkL))
            obtain ⟨r, hrr⟩ : ∃ r, r = rowOf L k := ⟨_, rfl⟩
            rw [← hrr] at d0 hr HNX h49 HX24
            obtain ⟨Lr, hLr⟩ : ∃ Lr, r.length = Lr := ⟨_, rfl⟩
            rw [hLr] at d0 hr h49
            have HLr := Lib.hid hLr
            have HR := Lib.hid hr
            have D0 := Lib.hid d0
            have HLT := Lib.hid hb
            have hi0 : (0 : Int) ≤ (k : Int) := by omega
            have hi3 : (k : Int) < (m : Int) := by omega
            obtain ⟨wA, hwA⟩ : ∃ wA, wA = wr := ⟨_, rfl⟩
            subst hwA
            obtain ⟨P, hP⟩ : ∃ P, P = (L.take k).flatten := ⟨_, rfl⟩
            rw [← hP] at hf1 HOWN HNX
            clear hr hrr hkL hLr hb d0 hP
            go_wp2_with fail
            go_loopw [7, 10] (fun s j wr => ∃ q : Nat, j = .int .i64 q ∧ q ≤ Lr ∧ OwnB wr w5.heap.size s (bdsF (firsts (P ++ r.take q))) ∧ Below w5.heap.size w5 wr) (fun _ j _ => Lr - (intOf j).toNat)
            case atStart => exact ⟨0, rfl, by omega, by simpa using HOWN.out, HBW.out⟩
            case round =>
              obtain ⟨q, rfl, hq, hown, hbv⟩ := hrel
              have HBV := Lib.hid hbv
              have hs5 := hbv.size
              have d0 : wr.cell? ⟨b, off + k, none⟩ = some (.slice A2 Lr c2) := by rw [hbv.cell (p := ⟨b, off + k, none⟩) HLT.out]; exact D0.out
              have hfl := firsts_len (P ++ r.take q)
              rw [List.length_append, List.length_take] at hfl
              obtain ⟨F, hF⟩ : ∃ F, F = firsts (P ++ r.take q) := ⟨_, rfl⟩
              rw [← hF] at hown hfl
              have HND : Hid F.Nodup := by show F.Nodup; rw [hF]; exact once_nodup _
              have HFE := Lib.hid hF
              have HOB := Lib.hid hown
              have hF600 : F.length ≤ 600 := by omega
              clear hbv hown hF hfl
              by_cases hqt : q < Lr
              · have hql : q < r.length := by rw [HLr.out]; exact hqt
                have HTS := Lib.hid (take_snoc hql)
                obtain ⟨b2, o2, hA2, hb2, hc2⟩ := (HR.out.on HBV.out).at_.at_ (by omega)
                subst hA2
                have cx : wr.cell? ⟨b2, o2 + q, none⟩ = some (.int .i64 (intAt r q)) := hc2 q hqt
                have h24 := HX24.out _ (intAt_mem hql)
                obtain ⟨x, hx⟩ : ∃ x, x = intAt r q := ⟨_, rfl⟩
                rw [← hx] at cx h24 HTS
                have hj0 : (0 : Int) ≤ (q : Int) := by omega
                have hj3 : (q : Int) < (Lr : Int) := by omega
                clear hc2 hql hx
                by_cases hx0 : x < 0
                · obtain ⟨A6, c6, hv6, hc6, hb6⟩ := HOB.out.bindsAt (HONE.out F)
                  have HFO := Lib.hid (of_none (F := F) hx0 HND.out)
                  have HFS := Lib.hid (fun t => of_some (F := F) (t := t) hx0)
                  have HBN := Lib.hid (bdsF_new (F := F) hx0)
                  have HF1 := Lib.hid (firsts_old (cs := P ++ r.take q) hx0)
                  have HF2 := Lib.hid (firsts_new (cs := P ++ r.take q) hx0)
                  rw [bdsF_len] at hv6 hc6 hb6
                  obtain ⟨N, hN⟩ : ∃ N, N = F.length := ⟨_, rfl⟩
                  rw [← hN] at hv6 hc6 hb6 hF600 HBN
                  have HNN := Lib.hid hN
                  have HB6 := Lib.hid hb6
                  subst hv6
                  have hn6 : N ≤ 4398046511104 := by omega
                  clear hb6 hN
                  go_wp2_with fail
                  refine (refOf_any A6 N c6 _ (bdsF F) (-1 - x) _ HB6.out hn6).mono ?_
                  rintro e w6 ⟨rfl, ⟨rfl, ho⟩ | ⟨j, hj, rfl, ho⟩⟩
                  · have HX9 : Hid (firsts (P ++ r.take (q + 1)) = F ++ [(-1 - x).toNat]) := by
                      show _ = _
                      rw [HTS.out, ← List.append_assoc, HF2.out (by rw [← HFE.out]; exact HFO.out ho), ← HFE.out]
                    have HNW := Lib.hid ((own_lit9 wr [-1 - (N : Int)] (by simp)).lower hs5)
                    have HOA := Lib.hid (HOB.out.on (below_new wr (.cells #[.int .i64 (-1 - (N : Int))] 3)))
                    have hss : w5.heap.size ≤ (wr.alloc (.cells #[.int .i64 (-1 - (N : Int))] 3)).heap.size := by simp; omega
                    have hbl : (bdsF F).length + 1 ≤ 4398046511104 := by rw [bdsF_len, ← HNN.out]; omega
                    clear ho
                    go_wp2_with (at_builtin
                                 refine app_bindN (w := wr.alloc (.cells #[.int .i64 (-1 - (N : Int))] 3)) rfl (.tmp 92) (.tmp 100) rfl w5.heap.size (.slice A6 N c6) (bdsF F) (-1 - x) [-1 - (N : Int)] (.slice (some ⟨wr.heap.size, 0, none⟩) 1 1) rfl HOA.out HNW.out rfl (by simp) hbl hss ?_
                                 intro v7 w7 hown7 hb7
                                 have HO7 := Lib.hid hown7
                                 have HB7 := Lib.hid hb7
                                 clear hown7 hb7)
                    go_roundw
                    case rel => exact ⟨q + 1, by go_num, by omega, HO7.out.cast (by rw [HX9.out, HBN.out]), HBV.out.trans (((below_new wr _).mono hs5).trans HB7.out)⟩
                    case measure => simp [intOf]; omega
                  · have HX9 : Hid (firsts (P ++ r.take (q + 1)) = F) := by
                      show _ = _
                      rw [HTS.out, ← List.append_assoc, HF1.out (by rw [← HFE.out]; exact HFS.out _ ho), ← HFE.out]
                    have hj0 : (0 : Int) ≤ (j : Int) := by omega
                    clear ho
                    go_wp2
                    go_roundw
                    case rel => exact ⟨q + 1, by go_num, by omega, HOB.out.cast (by rw [HX9.out]), HBV.out⟩
                    case measure => simp [intOf]; omega
                · have HX9 : Hid (firsts (P ++ r.take (q + 1)) = F) := by
                    show _ = _
                    rw [HTS.out, ← List.append_assoc, firsts_pos hx0, ← HFE.out]
                  go_wp2
                  go_roundw
                  case rel => exact ⟨q + 1, by go_num, by omega, HOB.out.cast (by rw [HX9.out]), HBV.out⟩
                  case measure => simp [intOf]; omega
              · obtain rfl : q = Lr := by omega
                have HTQ : Hid (r.take q = r) := List.take_of_length_le (by rw [HLr.out]; exact Nat.le_refl _)
                go_wp2
                go_roundw
                case rel => exact ⟨k + 1, by go_num, by omega, HOB.out.cast (by rw [HNX.out, HFE.out, HTQ.out]), HBV.out⟩
                case measure => simp [intOf]; omega
          · obtain rfl : k = m := by omega
            have HLT : Hid (L.take k = L) := List.take_of_length_le (by rw [HMM.out]; exact Nat.le_refl _)
            rw [HLT.out] at HOWN
            have HFV := Lib.hid (HFW.out.on HBW.out)
            have HCV : Hid (ClAt wr wr.heap.size u (onceC c)) := by
              have := HFV.out.clAt (by rw [HLS.out]; have h2 : (once c.lits).length ≤ 5 := HSO.out.l; omega) (by have h2 : (once c.tups).length ≤ 3 := HSO.out.t; omega) (by rw [HDS.out]; have h2 : (once c.conds).length ≤ 3 := HSO.out.d; omega)
              rw [HLS.out, HDS.out] at this
              exact this
            obtain ⟨A6, c6, hv6, hc6, hb6⟩ := HOWN.out.bindsAt (HONE.out _)
            have hfl := firsts_len L.flatten
            have hf1 := HFL.out k
            rw [HLT.out] at hf1
            rw [bdsF_len] at hv6 hc6 hb6
            obtain ⟨N, hN⟩ : ∃ N, N = (firsts L.flatten).length := ⟨_, rfl⟩
            rw [← hN] at hv6 hc6 hb6 hfl
            have HB6 := Lib.hid hb6
            subst hv6
            have hn6 : N ≤ 4398046511104 := by omega
            have u0 := HFV.out.c0
            have u1 := HFV.out.c1
            have u2 := HFV.out.c2
            have HZ2 : Hid (ZBox wr (B + 1)) := HZ0.out.on HFV.out.bel
            have HPUT : Hid (putC (bdsF (firsts L.flatten)) (onceC c) = norm c) := by show _ = _; rw [norm_put, HLE.out]; rfl
            have HBF := Lib.hid HFV.out.bel
            clear hb6 hN HOWN
            go_wp2_with fail
            rw [← HUE.out]
            refine (refCopy_any A6 N c6 (bdsF (firsts L.flatten)) u (onceC c) _ HB6.out hn6 (fun i hi => bdsF_one hi) HCV.out HSO.out H24O.out).mono ?_
            rintro e w7 ⟨v7, rfl, hv7, hb7⟩
            rw [HPUT.out] at hv7
            obtain ⟨E1, e1, E2, e2, E3, e3, rfl⟩ := hv7.slices
            have HV7 := Lib.hid hv7
            replace HZ2 := Lib.hid (HZ2.out.on hb7)
            have HB7 := Lib.hid (HBF.out.trans (hb7.mono HBF.out.size))
            have hs7 := HBF.out.size
            obtain ⟨m1, hm1⟩ : ∃ m1, m1 = (norm c).lits.length := ⟨_, rfl⟩
            obtain ⟨m2, hm2⟩ : ∃ m2, m2 = (norm c).tups.length := ⟨_, rfl⟩
            obtain ⟨m3, hm3⟩ : ∃ m3, m3 = (norm c).conds.length := ⟨_, rfl⟩
            rw [← hm1, ← hm2, ← hm3] at HV7 ⊢
            clear hv7 hb7 u0 u1 u2 hm1 hm2 hm3
            go_wp2_with (refine store_box rfl 26 (.tmp 2) (.tmp 104) rfl rfl (B + 1) _ _ rfl rfl HZ2.out.z rfl (by kernel_rfl) three_one ?_
                         intro w8 hg8 hc8 hs8
                         have HG8 := Lib.hid hg8
                         have HC8 := Lib.hid hc8
                         clear hg8 hc8 hs8)
            refine bodyPost_ret (results_cell_row rfl _ _ (B + 1) _ _ _ _ rfl HG8.out Try.underlying26 rfl (by kernel_rfl)) rfl ?_
            exact ⟨_, rfl, (HV7.out.chg HC8.out (by decide) (by decide) (by decide)).lower (by have := HBH.out; omega), (HB.out.trans (HB7.out.mono HB.out.size)).trans (HC8.out.bel.mono (by have := HBH.out; omega))⟩
end Go.Proofs.Ytpblpndlajoebaa

namespace Go.Proofs.Ytpblpndlajoebaa
open Go.RowKit Go.Deep
set_option linter.unusedSimpArgs false
set_option linter.unusedVariables false
set_option maxRecDepth 100000

theorem lits_of {ls ms : List Lt} (h : ls.map Lt.atom = ms.map Lt.atom) (hn : ∀ j, j < ls.length → (ltAt ls j).neg = (ltAt ms j).neg) : ls = ms := by
  have hl : ls.length = ms.length := by have := congrArg List.length h; simpa using this
  apply List.ext_getElem?
  intro i
  by_cases hi : i < ls.length
  · rw [ltAt_get hi, ltAt_get (by omega)]
    congr 1
    refine Lt.ext_ (hn i hi) ?_
    rw [← rowOf_atoms hi, ← rowOf_atoms (ls := ms) (by omega), h]
  · rw [List.getElem?_eq_none (by omega), List.getElem?_eq_none (by omega)]
theorem cl_of {c d : Cl} (h1 : c.lits.length = d.lits.length) (h2 : c.tups.length = d.tups.length) (h : rowsC c = rowsC d) (hn : ∀ j, j < c.lits.length → (ltAt c.lits j).neg = (ltAt d.lits j).neg) (hm : ∀ j, j < c.conds.length → (ltAt c.conds j).neg = (ltAt d.conds j).neg) : c = d := by
  unfold rowsC at h
  obtain ⟨e1, e2⟩ := List.append_inj h (by simpa using h1)
  obtain ⟨e3, e4⟩ := List.append_inj e2 h2
  cases c; cases d
  dsimp only at *
  rw [lits_of e1 hn, e3, lits_of e4 hm]
theorem cl_no {c d : Cl} (h : ¬ c = d) : sameC c d = false := decide_eq_false h
theorem cl_yes {c d : Cl} (h : c = d) : sameC c d = true := decide_eq_true h
theorem rows_yes {ls ms : List (List Int)} {n : Nat} (h1 : ls.length = n) (h2 : ms.length = n) (h : ∀ j, j < n → sameI (rowOf ls j) (rowOf ms j) = true) : ls = ms := rows_same h1 h2 h

set_option maxHeartbeats 4000000 in
theorem refSameC_any (v u : Cv) (c d : Cl) (w : World) (h : ClAt w w.heap.size v c) (k : ClAt w w.heap.size u d) (hsc : Small c) (hsd : Small d) :
    Calls Try.prog 42 #[v.val, u.val] w fun e w' => e = .returned (.bool (sameC c d)) ∧ Below w.heap.size w w' := by
  obtain ⟨hx, hy, hb⟩ := CBox.two h k
  have l1 := h.lits.len
  have l2 := h.tups.len
  have l3 := h.conds.len
  have m1 := k.lits.len
  have m2 := k.tups.len
  have m3 := k.conds.len
  have b1 := hsc.l
  have b3 := hsc.d
  have b2 := hsc.t
  have HL1 := Lib.hid l1
  have HL2 := Lib.hid l2
  have HL3 := Lib.hid l3
  have HM1 := Lib.hid m1
  have HM2 := Lib.hid m2
  have HM3 := Lib.hid m3
  rw [l1] at b1
  rw [l2] at b2
  rw [l3] at b3
  rw [Cv.val_eq, Cv.val_eq]
  have HVE := Lib.hid v.val_eq
  have HUE := Lib.hid u.val_eq
  unfold Cv.obj at hx hy hb
  have HX := Lib.hid hx
  have HY := Lib.hid hy
  have HB0 := Lib.hid hb
  have HPA := Lib.hid (refRowsR_any v c)
  have HPB := Lib.hid (refRowsR_any u d)
  have HSC := Lib.hid hsc
  have HSD := Lib.hid hsd
  obtain ⟨L, hL⟩ : ∃ L, L = rowsC c := ⟨_, rfl⟩
  obtain ⟨M, hM⟩ : ∃ M, M = rowsC d := ⟨_, rfl⟩
  rw [← hL] at HPA
  rw [← hM] at HPB
  have HL := Lib.hid hL
  have HM := Lib.hid hM
  have hl11 : L.length ≤ 11 := by rw [hL]; exact hsc.rows
  have hLL : L.length = v.n1 + (v.n2 + v.n3) := by rw [hL]; unfold rowsC; simp [l1, l2, l3]
  have hMM : M.length = u.n1 + (u.n2 + u.n3) := by rw [hM]; unfold rowsC; simp [m1, m2, m3]
  have HL49 : Hid (∀ j, j < L.length → (rowOf L j).length ≤ 49) := fun j hj => hsc.r _ (by rw [← hL]; exact rowOf_mem hj)
  have HM49 : Hid (∀ j, j < M.length → (rowOf M j).length ≤ 49) := fun j hj => hsd.r _ (by rw [← hM]; exact rowOf_mem hj)
  obtain ⟨nL, hnL⟩ : ∃ nL, nL = L.length := ⟨_, rfl⟩
  obtain ⟨nM, hnM⟩ : ∃ nM, nM = M.length := ⟨_, rfl⟩
  rw [← hnL] at hl11 hLL
  rw [← hnM] at hMM
  have HNL := Lib.hid hnL
  have HNM := Lib.hid hnM
  have HLL := Lib.hid hLL
  have HMM := Lib.hid hMM
  clear hLL hMM h k hx hy hb hsc hsd hL hM hnL hnM l1 l2 l3 m1 m2 m3
  go_enter Try.func42, Try.ntmps42
  go_upto_region 1 with (fail)
  obtain ⟨w0, hw0⟩ : ∃ w0, w0 = ((w.alloc (.cells #[.slice v.A1 v.n1 v.c1, .slice v.A2 v.n2 v.c2, .slice v.A3 v.n3 v.c3] 26)).alloc (.cells #[.slice u.A1 u.n1 u.c1, .slice u.A2 u.n2 u.c2, .slice u.A3 u.n3 u.c3] 26)) := ⟨_, rfl⟩
  rw [← hw0] at HX HY HB0 ⊢
  clear hw0
  obtain ⟨B, hB⟩ : ∃ B, B = w.heap.size := ⟨_, rfl⟩
  have HBH := Lib.hid hB
  rw [← hB] at HX HY ⊢
  clear hB
  have p0 := HX.out.c0
  have p1 := HX.out.c1
  have p2 := HX.out.c2
  have q0 := HY.out.c0
  have q1 := HY.out.c1
  have q2 := HY.out.c2
  go_wp2_with fail
  refine wp_region_held_drew (S := (fun w' => w'.cell? ⟨B, 0, none⟩ = some (.slice v.A1 v.n1 v.c1) ∧ w'.cell? ⟨B, 1, none⟩ = some (.slice v.A2 v.n2 v.c2) ∧ w'.cell? ⟨B, 2, none⟩ = some (.slice v.A3 v.n3 v.c3) ∧ w'.cell? ⟨B + 1, 0, none⟩ = some (.slice u.A1 u.n1 u.c1) ∧ w'.cell? ⟨B + 1, 1, none⟩ = some (.slice u.A2 u.n2 u.c2) ∧ w'.cell? ⟨B + 1, 2, none⟩ = some (.slice u.A3 u.n3 u.c3))) (by kernel_rfl) ⟨p0, p1, p2, q0, q1, q2⟩ (fun hHeld => ?_)
  have hd : Below w0.heap.size w0 w0.drew := (Below.refl w0.heap.size w0).drew
  replace HX := Lib.hid (HX.out.on hd)
  replace HY := Lib.hid (HY.out.on hd)
  have HB1 := Lib.hid (HB0.out.trans (hd.mono HB0.out.size))
  refine takeH (i := 0) (v := ?_) rfl rfl (by kernel_rfl) (by kernel_rfl) (by kernel_rfl) (fun _ _ _ h => h) (by rfl) ?_ hHeld ?_
  rotate_left
  · (intro w hSw; (try dsimp only at hSw); first | (go_simp; done) | (go_simp; with_reducible rfl))
  simp only [Act.put, List.setIfInBounds_toArray, List.set_cons_zero, List.set_cons_succ]
  refine takeH (i := 2) (v := ?_) rfl rfl (by kernel_rfl) (by kernel_rfl) (by kernel_rfl) (fun _ _ _ h => h) (by rfl) ?_ hHeld ?_
  rotate_left
  · (intro w hSw; (try dsimp only at hSw); first | (go_simp; done) | (go_simp; with_reducible rfl))
  simp only [Act.put, List.setIfInBounds_toArray, List.set_cons_zero, List.set_cons_succ]
  refine wpAnyH_ready (rs := [1]) (by kernel_rfl) (by simp) ?_
  refine AllReadyH.cons rfl (fun K hK => ?_) AllReadyH.nil
  go_simp
  rw [← HVE.out]
  refine (HPA.out _ HX.out.cl HSC.out).mono ?_
  rintro e w1 ⟨A5, cap5, rfl, hcap5, ht5, hb1⟩
  rw [← HNL.out] at ht5 hcap5 ⊢
  have HT5 := Lib.hid ht5
  replace HX := Lib.hid (HX.out.on hb1)
  replace HY := Lib.hid (HY.out.on hb1)
  have HB2 := Lib.hid (HB1.out.trans (hb1.mono HB1.out.size))
  clear hd p0 p1 p2 q0 q1 q2 ht5 hb1
  have p0 := HX.out.c0
  have p1 := HX.out.c1
  have p2 := HX.out.c2
  have q0 := HY.out.c0
  have q1 := HY.out.c1
  have q2 := HY.out.c2
  go_wp2_with fail
  refine hK.out _ _ ?_ (fun hHeld => ?_)
  · exact ⟨p0, p1, p2, q0, q1, q2⟩
  clear hK K
  refine wpAnyH_ready (rs := [3]) (by kernel_rfl) (by simp) ?_
  refine AllReadyH.cons rfl (fun K hK => ?_) AllReadyH.nil
  go_simp
  rw [← HUE.out]
  refine (HPB.out _ HY.out.cl HSD.out).mono ?_
  rintro e w2 ⟨A6, cap6, rfl, hcap6, ht6, hb2⟩
  rw [← HNM.out] at ht6 hcap6 ⊢
  have HT6 := Lib.hid ht6
  replace HX := Lib.hid (HX.out.on hb2)
  replace HY := Lib.hid (HY.out.on hb2)
  replace HT5 := Lib.hid (HT5.out.on hb2)
  have HBB := Lib.hid (HB2.out.trans (hb2.mono HB2.out.size))
  clear p0 p1 p2 q0 q1 q2 ht6 hb2
  have p0 := HX.out.c0
  have p1 := HX.out.c1
  have p2 := HX.out.c2
  have q0 := HY.out.c0
  have q1 := HY.out.c1
  have q2 := HY.out.c2
  go_wp2_with fail
  refine hK.out _ _ ?_ (fun hHeld => ?_)
  · exact ⟨p0, p1, p2, q0, q1, q2⟩
  clear hK K
  refine takeH (i := 4) (v := ?_) rfl rfl (by kernel_rfl) (by kernel_rfl) (by kernel_rfl) (fun _ _ _ h => h) (by rfl) ?_ hHeld ?_
  rotate_left
  · (intro w hSw; (try dsimp only at hSw); first | (go_simp; done) | (go_simp; with_reducible rfl))
  simp only [Act.put, List.setIfInBounds_toArray, List.set_cons_zero, List.set_cons_succ]
  refine takeH (i := 5) (v := ?_) rfl rfl (by kernel_rfl) (by kernel_rfl) (by kernel_rfl) (fun _ _ _ h => h) (by rfl) ?_ hHeld ?_
  rotate_left
  · (intro w hSw; (try dsimp only at hSw); first | (go_simp; done) | (go_simp; with_reducible rfl))
  simp only [Act.put, List.setIfInBounds_toArray, List.set_cons_zero, List.set_cons_succ]
  refine wpAnyH_done (by kernel_rfl) ?_ _
  by_cases e1 : v.n1 = u.n1
  case neg =>
    have HZ := Lib.hid (cl_no (c := c) (d := d) fun q => e1 (by rw [← HL1.out, ← HM1.out, q]))
    have g1 : ((v.n1 : Int) != (u.n1 : Int)) = true := by simp; omega
    clear e1
    go_wp2
    go_ret
    exact ⟨ret_b HZ.out.symm, HBB.out⟩
  have g1 : ((v.n1 : Int) != (u.n1 : Int)) = false := by rw [e1]; simp
  by_cases e2 : v.n2 = u.n2
  case neg =>
    have HZ := Lib.hid (cl_no (c := c) (d := d) fun q => e2 (by rw [← HL2.out, ← HM2.out, q]))
    have g2 : ((v.n2 : Int) != (u.n2 : Int)) = true := by simp; omega
    clear e2 e1
    go_wp2
    go_ret
    exact ⟨ret_b HZ.out.symm, HBB.out⟩
  have g2 : ((v.n2 : Int) != (u.n2 : Int)) = false := by rw [e2]; simp
  by_cases e3 : v.n3 = u.n3
  case neg =>
    have HZ := Lib.hid (cl_no (c := c) (d := d) fun q => e3 (by rw [← HL3.out, ← HM3.out, q]))
    have g3 : ((v.n3 : Int) != (u.n3 : Int)) = true := by simp; omega
    clear e3 e2 e1
    go_wp2
    go_ret
    exact ⟨ret_b HZ.out.symm, HBB.out⟩
  have g3 : ((v.n3 : Int) != (u.n3 : Int)) = false := by rw [e3]; simp
  have hLM : nL = nM := by rw [HLL.out, HMM.out]; omega
  subst hLM
  have HE1 := Lib.hid e1
  have HE2 := Lib.hid e2
  have HE3 := Lib.hid e3
  clear e1 e2 e3
  go_wp2_with fail
  go_loopw [7] (fun i wr => ∃ j : Nat, i = .int .i64 j ∧ j ≤ nL ∧ (∀ t, t < j → sameI (rowOf L t) (rowOf M t) = true) ∧ Below w2.heap.size w2 wr) (fun i _ => nL - (intOf i).toNat)
  case atStart => exact ⟨0, rfl, by omega, fun t ht => absurd ht (by omega), Below.refl _ _⟩
  case round =>
    obtain ⟨j, rfl, hj, hall, hbw⟩ := hrel
    have HALL := Lib.hid hall
    have HBW := Lib.hid hbw
    clear hall hbw
    by_cases hjn : j < nL
    · obtain ⟨b5, o5, A7, c7, rfl, hb5, d5, hr5, -⟩ := (HT5.out.on HBW.out).one hjn
      obtain ⟨b6, o6, A8, c8, rfl, hb6, d6, hr6, -⟩ := (HT6.out.on HBW.out).one hjn
      have HR5 := Lib.hid hr5
      have HR6 := Lib.hid hr6
      have f5 := HL49.out j (by rw [← HNL.out]; exact hjn)
      have f6 := HM49.out j (by rw [← HNM.out]; exact hjn)
      have HNO := Lib.hid (rows_not (ls := L) (ms := M) (k := j))
      have HNX : Hid (sameI (rowOf L j) (rowOf M j) = true → ∀ t, t < j + 1 → sameI (rowOf L t) (rowOf M t) = true) := by
        intro q t ht
        by_cases e : t = j
        · rw [e]; exact q
        · exact HALL.out t (by omega)
      obtain ⟨r, hr⟩ : ∃ r, r = rowOf L j := ⟨_, rfl⟩
      obtain ⟨s, hs⟩ : ∃ s, s = rowOf M j := ⟨_, rfl⟩
      rw [← hr] at d5 HR5 f5 HNO HNX
      rw [← hs] at d6 HR6 f6 HNO HNX
      have i0 : (0 : Int) ≤ (j : Int) := by omega
      have i1 : (j : Int) < (nL : Int) := by omega
      clear hr5 hr6 hr hs hb5 hb6
      cases hsm : sameI r s
      · have HSM := Lib.hid hsm
        have HZ := Lib.hid (cl_no (c := c) (d := d) fun q => HNO.out hsm (by rw [HL.out, HM.out, q]))
        clear hsm
        go_wp2_with fail
        go_quiet ((go_at_call 66; exact refSame_still A7 A8 _ c7 _ c8 wr.heap.size wr.heap.size _ r s wr HR5.out.at_ HR6.out.at_ (by unfold maxLen; omega) (by unfold maxLen; omega) HSM.out))
        go_wp2
        go_ret
        exact ⟨ret_b HZ.out.symm, HBB.out.trans ((HBW.out.trans ((below_drewN wr nq).mono HBW.out.size)).mono HBB.out.size)⟩
      · have HSM := Lib.hid hsm
        have HZ := Lib.hid (HNX.out hsm)
        clear hsm
        go_wp2_with fail
        go_quiet ((go_at_call 66; exact refSame_still A7 A8 _ c7 _ c8 wr.heap.size wr.heap.size _ r s wr HR5.out.at_ HR6.out.at_ (by unfold maxLen; omega) (by unfold maxLen; omega) HSM.out))
        go_wp2
        go_roundw
        case rel => exact ⟨j + 1, by go_num, by omega, HZ.out, HBW.out.trans ((below_drewN wr nq).mono HBW.out.size)⟩
        case measure => simp [intOf]; omega
    · obtain rfl : j = nL := by omega
      have HROWS : Hid (rowsC c = rowsC d) := by
        show _ = _
        rw [← HL.out, ← HM.out]
        exact rows_yes HNL.out.symm HNM.out.symm HALL.out
      have HBC := Lib.hid (HBB.out.trans (HBW.out.mono HBB.out.size))
      replace HX := Lib.hid (HX.out.on HBW.out)
      replace HY := Lib.hid (HY.out.on HBW.out)
      clear p0 p1 p2 q0 q1 q2
      obtain ⟨wA, hwA⟩ : ∃ wA, wA = wr := ⟨_, rfl⟩
      subst hwA
      clear HALL
      have p0 := HX.out.c0
      have q0 := HY.out.c0
      go_wp2_with fail
      go_loopw [8] (fun i wr => ∃ j : Nat, i = .int .i64 j ∧ j ≤ v.n1 ∧ (∀ t, t < j → (ltAt c.lits t).neg = (ltAt d.lits t).neg) ∧ Below wA.heap.size wA wr) (fun i _ => v.n1 - (intOf i).toNat)
      case atStart => exact ⟨0, rfl, by omega, fun t ht => absurd ht (by omega), Below.refl _ _⟩
      case round =>
        obtain ⟨j1, rfl, hj, hall, hbw⟩ := hrel
        have HALL := Lib.hid hall
        have HBV := Lib.hid hbw
        clear hall hbw
        have p0 := (HX.out.on HBV.out).c0
        have q0 := (HY.out.on HBV.out).c0
        by_cases hjn : j1 < v.n1
        · obtain ⟨b5, o5, A7, c7, hA5, hb5, d5, d5', hr5⟩ := (HX.out.cl.lits.on HBV.out).one hjn
          obtain ⟨b6, o6, A8, c8, hA6, hb6, d6, d6', hr6⟩ := (HY.out.cl.lits.on HBV.out).one (by rw [← HE1.out]; exact hjn)
          rw [hA5] at p0
          rw [hA6] at q0
          have HNO : Hid ((ltAt c.lits j1).neg ≠ (ltAt d.lits j1).neg → ¬ c = d) := fun q e => q (by rw [e])
          have HNX : Hid ((ltAt c.lits j1).neg = (ltAt d.lits j1).neg → ∀ t, t < j1 + 1 → (ltAt c.lits t).neg = (ltAt d.lits t).neg) := by
            intro q t ht
            by_cases e : t = j1
            · rw [e]; exact q
            · exact HALL.out t (by omega)
          obtain ⟨x, hx⟩ : ∃ x, x = (ltAt c.lits j1).neg := ⟨_, rfl⟩
          obtain ⟨y, hy⟩ : ∃ y, y = (ltAt d.lits j1).neg := ⟨_, rfl⟩
          rw [← hx] at d5 HNO HNX
          rw [← hy] at d6 HNO HNX
          have i0 : (0 : Int) ≤ (j1 : Int) := by omega
          have i1 : (j1 : Int) < (v.n1 : Int) := by omega
          have i2 : (j1 : Int) < (u.n1 : Int) := by have := HE1.out; omega
          clear hr5 hr6 hx hy hb5 hb6 d5' d6' hA5 hA6
          cases x
          case false =>
            cases y
            case false =>
              have HZ := Lib.hid (HNX.out rfl)
              go_wp2_with fail
              go_quiet (fail)
              go_wp2
              go_roundw
              case rel => exact ⟨j1 + 1, by go_num, by omega, HZ.out, HBV.out.trans ((below_drewN wr nq).mono HBV.out.size)⟩
              case measure => simp [intOf]; omega
            case true =>
              have HZ := Lib.hid (cl_no (HNO.out (by decide)))
              go_wp2_with fail
              go_quiet (fail)
              go_wp2
              go_ret
              exact ⟨ret_b HZ.out.symm, HBC.out.trans ((HBV.out.trans ((below_drewN wr nq).mono HBV.out.size)).mono HBC.out.size)⟩
          case true =>
            cases y
            case false =>
              have HZ := Lib.hid (cl_no (HNO.out (by decide)))
              go_wp2_with fail
              go_quiet (fail)
              go_wp2
              go_ret
              exact ⟨ret_b HZ.out.symm, HBC.out.trans ((HBV.out.trans ((below_drewN wr nq).mono HBV.out.size)).mono HBC.out.size)⟩
            case true =>
              have HZ := Lib.hid (HNX.out rfl)
              go_wp2_with fail
              go_quiet (fail)
              go_wp2
              go_roundw
              case rel => exact ⟨j1 + 1, by go_num, by omega, HZ.out, HBV.out.trans ((below_drewN wr nq).mono HBV.out.size)⟩
              case measure => simp [intOf]; omega
        · obtain rfl : v.n1 = j1 := by omega
          have HN1 : Hid (∀ t, t < c.lits.length → (ltAt c.lits t).neg = (ltAt d.lits t).neg) := by rw [HL1.out]; exact HALL.out
          have HBD := Lib.hid (HBC.out.trans (HBV.out.mono HBC.out.size))
          replace HX := Lib.hid (HX.out.on HBV.out)
          replace HY := Lib.hid (HY.out.on HBV.out)
          obtain ⟨wB, hwB⟩ : ∃ wB, wB = wr := ⟨_, rfl⟩
          subst hwB
          clear HALL
          have p2 := HX.out.c2
          have q2 := HY.out.c2
          go_wp2_with fail
          go_loopw [9] (fun i wr => ∃ j : Nat, i = .int .i64 j ∧ j ≤ v.n3 ∧ (∀ t, t < j → (ltAt c.conds t).neg = (ltAt d.conds t).neg) ∧ Below wB.heap.size wB wr) (fun i _ => v.n3 - (intOf i).toNat)
          case atStart => exact ⟨0, rfl, by omega, fun t ht => absurd ht (by omega), Below.refl _ _⟩
          case round =>
            obtain ⟨j3, rfl, hj, hall, hbw⟩ := hrel
            have HALL := Lib.hid hall
            have HBV := Lib.hid hbw
            clear hall hbw
            have p2 := (HX.out.on HBV.out).c2
            have q2 := (HY.out.on HBV.out).c2
            by_cases hjn : j3 < v.n3
            · obtain ⟨b5, o5, A7, c7, hA5, hb5, d5, d5', hr5⟩ := (HX.out.cl.conds.on HBV.out).one hjn
              obtain ⟨b6, o6, A8, c8, hA6, hb6, d6, d6', hr6⟩ := (HY.out.cl.conds.on HBV.out).one (by rw [← HE3.out]; exact hjn)
              rw [hA5] at p2
              rw [hA6] at q2
              have HNO : Hid ((ltAt c.conds j3).neg ≠ (ltAt d.conds j3).neg → ¬ c = d) := fun q e => q (by rw [e])
              have HNX : Hid ((ltAt c.conds j3).neg = (ltAt d.conds j3).neg → ∀ t, t < j3 + 1 → (ltAt c.conds t).neg = (ltAt d.conds t).neg) := by
                intro q t ht
                by_cases e : t = j3
                · rw [e]; exact q
                · exact HALL.out t (by omega)
              obtain ⟨x, hx⟩ : ∃ x, x = (ltAt c.conds j3).neg := ⟨_, rfl⟩
              obtain ⟨y, hy⟩ : ∃ y, y = (ltAt d.conds j3).neg := ⟨_, rfl⟩
              rw [← hx] at d5 HNO HNX
              rw [← hy] at d6 HNO HNX
              have i0 : (0 : Int) ≤ (j3 : Int) := by omega
              have i1 : (j3 : Int) < (v.n3 : Int) := by omega
              have i2 : (j3 : Int) < (u.n3 : Int) := by have := HE3.out; omega
              clear hr5 hr6 hx hy hb5 hb6 d5' d6' hA5 hA6
              cases x
              case false =>
                cases y
                case false =>
                  have HZ := Lib.hid (HNX.out rfl)
                  go_wp2_with fail
                  go_quiet (fail)
                  go_wp2
                  go_roundw
                  case rel => exact ⟨j3 + 1, by go_num, by omega, HZ.out, HBV.out.trans ((below_drewN wr nq).mono HBV.out.size)⟩
                  case measure => simp [intOf]; omega
                case true =>
                  have HZ := Lib.hid (cl_no (HNO.out (by decide)))
                  go_wp2_with fail
                  go_quiet (fail)
                  go_wp2
                  go_ret
                  exact ⟨ret_b HZ.out.symm, HBD.out.trans ((HBV.out.trans ((below_drewN wr nq).mono HBV.out.size)).mono HBD.out.size)⟩
              case true =>
                cases y
                case false =>
                  have HZ := Lib.hid (cl_no (HNO.out (by decide)))
                  go_wp2_with fail
                  go_quiet (fail)
                  go_wp2
                  go_ret
                  exact ⟨ret_b HZ.out.symm, HBD.out.trans ((HBV.out.trans ((below_drewN wr nq).mono HBV.out.size)).mono HBD.out.size)⟩
                case true =>
                  have HZ := Lib.hid (HNX.out rfl)
                  go_wp2_with fail
                  go_quiet (fail)
                  go_wp2
                  go_roundw
                  case rel => exact ⟨j3 + 1, by go_num, by omega, HZ.out, HBV.out.trans ((below_drewN wr nq).mono HBV.out.size)⟩
                  case measure => simp [intOf]; omega
            · obtain rfl : v.n3 = j3 := by omega
              have HZ : Hid (sameC c d = true) := cl_yes (cl_of (by rw [HL1.out, HM1.out, HE1.out]) (by rw [HL2.out, HM2.out, HE2.out]) HROWS.out HN1.out (by rw [HL3.out]; exact HALL.out))
              go_wp2
              go_ret
              exact ⟨ret_b HZ.out.symm, HBD.out.trans (HBV.out.mono HBD.out.size)⟩
end Go.Proofs.Ytpblpndlajoebaa

namespace Go.Proofs.Ytpblpndlajoebaa
open Go.RowKit Go.Deep
set_option linter.unusedSimpArgs false
set_option linter.unusedVariables false
set_option maxRecDepth 100000

theorem refNormM_any (v : Cv) (c : Cl) (ss : List Sym) (w : World) (h : ClAt w w.heap.size v c) (hm : MayC ss c) : Calls Try.prog 43 #[v.val] w (ClRet (norm c) w) :=
  refNorm_any v c w h hm.small fun r hr => row24 hm hr
set_option maxHeartbeats 4000000 in
theorem refNormalC_any (A : Option Addr) (n cp : Nat) (ss : List Sym) (v : Cv) (c : Cl) (w : World) (h : SymsAt w w.heap.size A n ss) (hn : n ≤ maxLen) (hnc : n ≤ cp) (hc : ClAt w w.heap.size v c) :
    Calls Try.prog 25 #[.slice A n cp, v.val] w (ClPost (normO ss c) (clE ss c) w) := by
  have hb0 := below_new2 w v.obj (.cells #[.slice none 0 0, .slice none 0 0, .slice none 0 0] 26)
  have hx0 := (CBox.new hc).on (below_new _ (.cells #[.slice none 0 0, .slice none 0 0, .slice none 0 0] 26))
  have hz0 := ZBox.new (w.alloc v.obj)
  have e0 : (w.alloc v.obj).heap.size = w.heap.size + 1 := by simp
  rw [e0] at hz0
  have hs0 := h.on hb0
  have HNO : Hid (mayC ss c = true → normO ss c = norm c ∧ clE ss c = 0) := fun q => by unfold normO clE; rw [q]; exact ⟨rfl, rfl⟩
  have HNF : Hid (mayC ss c = false → normO ss c = ⟨[], [], []⟩ ∧ clE ss c = 800) := fun q => by unfold normO clE; rw [q]; exact ⟨rfl, rfl⟩
  have HMC : Hid (mayC ss c = true → MayC ss c) := fun q => mayC_iff.1 q
  rw [Cv.val_eq]
  have HVE := Lib.hid v.val_eq
  unfold Cv.obj at hb0 hx0 hz0 hs0
  have HX := Lib.hid hx0
  have HZ := Lib.hid hz0
  have HS := Lib.hid hs0
  have HB0 := Lib.hid hb0
  clear h hc hb0 hx0 hz0 hs0 e0
  go_enter Try.func25, Try.ntmps25
  go_wp2_with fail
  rw [← HVE.out]
  refine (refMayC_any A n cp ss v c _ HS.out hn hnc HX.out.cl).mono ?_
  rintro e w1 ⟨rfl, hb1⟩
  have HB1 := Lib.hid (HB0.out.trans (hb1.mono HB0.out.size))
  replace HX := Lib.hid (HX.out.on hb1)
  replace HZ := Lib.hid (HZ.out.on hb1)
  clear hb1 HS HB0
  have p0 := HX.out.c0
  have p1 := HX.out.c1
  have p2 := HX.out.c2
  cases hm : mayC ss c
  · have HE := Lib.hid (HNF.out hm)
    clear hm
    go_wp2_with (refine store_box rfl 26 (.tmp 4) (.tmp 10) rfl rfl (w.heap.size + 1) _ _ rfl rfl HZ.out.z rfl (by kernel_rfl) three_one ?_
                 intro w4 hg4 hc4 hs4
                 have HG4 := Lib.hid hg4
                 have HC4 := Lib.hid hc4
                 clear hg4 hc4 hs4)
    refine clause_ret rfl (g := w.heap.size + 1) rfl rfl rfl HG4.out rfl ?_
    rw [HE.out.1, HE.out.2]
    exact ⟨_, rfl, OwnC.nil_, HB1.out.trans (HC4.out.bel.mono (by omega))⟩
  · have HE := Lib.hid (HNO.out hm)
    have HM := Lib.hid (HMC.out hm)
    clear hm
    go_wp2_with fail
    rw [← HVE.out]
    refine (refNormM_any v c ss _ HX.out.cl HM.out).mono ?_
    rintro e w2 ⟨x, rfl, hx, hb2⟩
    obtain ⟨D1, d1, D2, d2, D3, d3, rfl⟩ := hx.slices
    obtain ⟨n1, hn1⟩ : ∃ n1, n1 = (norm c).lits.length := ⟨_, rfl⟩
    obtain ⟨n2, hn2⟩ : ∃ n2, n2 = (norm c).tups.length := ⟨_, rfl⟩
    obtain ⟨n3, hn3⟩ : ∃ n3, n3 = (norm c).conds.length := ⟨_, rfl⟩
    rw [← hn1, ← hn2, ← hn3] at hx ⊢
    have HO := Lib.hid (hx.lower HB1.out.size)
    have HB2 := Lib.hid (HB1.out.trans (hb2.mono HB1.out.size))
    replace HZ := Lib.hid (HZ.out.on hb2)
    clear hx hb2 hn1 hn2 hn3 p0 p1 p2
    go_wp2_with (refine store_box rfl 26 (.tmp 4) (.tmp 12) rfl rfl (w.heap.size + 1) _ _ rfl rfl HZ.out.z rfl (by kernel_rfl) three_one ?_
                 intro w4 hg4 hc4 hs4
                 have HG4 := Lib.hid hg4
                 have HC4 := Lib.hid hc4
                 clear hg4 hc4 hs4)
    refine clause_ret rfl (g := w.heap.size + 1) rfl rfl rfl HG4.out rfl ?_
    rw [HE.out.1, HE.out.2]
    exact ⟨_, rfl, HO.out.chg HC4.out (by decide) (by decide) (by decide), HB2.out.trans (HC4.out.bel.mono (by omega))⟩
set_option maxHeartbeats 4000000 in
theorem refVariantC_any (A : Option Addr) (n cp : Nat) (ss : List Sym) (v u : Cv) (c d : Cl) (w : World) (h : SymsAt w w.heap.size A n ss) (hn : n ≤ maxLen) (hnc : n ≤ cp) (hc : ClAt w w.heap.size v c) (hd : ClAt w w.heap.size u d) :
    Calls Try.prog 17 #[.slice A n cp, v.val, u.val] w (BoolPost (varB ss c d) (clE2 ss c d) w) := by
  obtain ⟨hx, hy, hb⟩ := CBox.two hc hd
  have hs := h.on hb
  have HVA : Hid (varB ss c d = (mayC ss c && (mayC ss d && sameC (norm c) (norm d)))) := rfl
  have HNE : Hid (clE2 ss c d = if mayC ss c && mayC ss d then 0 else 800) := rfl
  have HMC : Hid (mayC ss c = true → MayC ss c) := fun q => mayC_iff.1 q
  have HMD : Hid (mayC ss d = true → MayC ss d) := fun q => mayC_iff.1 q
  rw [Cv.val_eq, Cv.val_eq]
  have HVE := Lib.hid v.val_eq
  have HUE := Lib.hid u.val_eq
  unfold Cv.obj at hx hy hb hs
  have HX := Lib.hid hx
  have HY := Lib.hid hy
  have HS := Lib.hid hs
  have HB0 := Lib.hid hb
  clear h hc hd hx hy hb hs
  go_enter Try.func17, Try.ntmps17
  go_wp2_with fail
  rw [← HVE.out]
  refine (refMayC_any A n cp ss v c _ HS.out hn hnc HX.out.cl).mono ?_
  rintro e w1 ⟨rfl, hb1⟩
  have HB1 := Lib.hid (HB0.out.trans (hb1.mono HB0.out.size))
  replace HX := Lib.hid (HX.out.on hb1)
  replace HY := Lib.hid (HY.out.on hb1)
  replace HS := Lib.hid (HS.out.on hb1)
  clear hb1 HB0
  have p0 := HX.out.c0
  have p1 := HX.out.c1
  have p2 := HX.out.c2
  have q0 := HY.out.c0
  have q1 := HY.out.c1
  have q2 := HY.out.c2
  cases hm : mayC ss c
  case false =>
    rw [hm] at HVA HNE
    clear hm
    go_wp2
    go_ret2
    exact ⟨ret_bi (by rw [HVA.out]; rfl) (by rw [HNE.out]; rfl), HB1.out⟩
  rw [hm] at HVA HNE
  have HM := Lib.hid (HMC.out hm)
  clear hm
  go_wp2_with fail
  rw [← HUE.out]
  refine (refMayC_any A n cp ss u d _ HS.out hn hnc HY.out.cl).mono ?_
  rintro e w2 ⟨rfl, hb2⟩
  have HB2 := Lib.hid (HB1.out.trans (hb2.mono HB1.out.size))
  replace HX := Lib.hid (HX.out.on hb2)
  replace HY := Lib.hid (HY.out.on hb2)
  clear hb2 HS
  clear p0 p1 p2 q0 q1 q2
  have p0 := HX.out.c0
  have p1 := HX.out.c1
  have p2 := HX.out.c2
  have q0 := HY.out.c0
  have q1 := HY.out.c1
  have q2 := HY.out.c2
  cases hm : mayC ss d
  case false =>
    rw [hm] at HVA HNE
    clear hm
    go_wp2
    go_ret2
    exact ⟨ret_bi (by rw [HVA.out]; rfl) (by rw [HNE.out]; rfl), HB2.out⟩
  rw [hm] at HVA HNE
  have HN := Lib.hid (HMD.out hm)
  clear hm
  obtain ⟨B, hB⟩ : ∃ B, B = w.heap.size := ⟨_, rfl⟩
  rw [← hB] at HX HY p0 p1 p2 q0 q1 q2 ⊢
  have HBH := Lib.hid hB
  clear hB
  go_wp2_with fail
  refine wp_region_held_drew (S := (fun w' => w'.cell? ⟨B, 0, none⟩ = some (.slice v.A1 v.n1 v.c1) ∧ w'.cell? ⟨B, 1, none⟩ = some (.slice v.A2 v.n2 v.c2) ∧ w'.cell? ⟨B, 2, none⟩ = some (.slice v.A3 v.n3 v.c3) ∧ w'.cell? ⟨B + 1, 0, none⟩ = some (.slice u.A1 u.n1 u.c1) ∧ w'.cell? ⟨B + 1, 1, none⟩ = some (.slice u.A2 u.n2 u.c2) ∧ w'.cell? ⟨B + 1, 2, none⟩ = some (.slice u.A3 u.n3 u.c3))) (by kernel_rfl) ⟨p0, p1, p2, q0, q1, q2⟩ (fun hHeld => ?_)
  have hd0 : Below w2.heap.size w2 w2.drew := (Below.refl w2.heap.size w2).drew
  refine takeH (i := 0) (v := ?_) rfl rfl (by kernel_rfl) (by kernel_rfl) (by kernel_rfl) (fun _ _ _ h => h) (by rfl) ?_ hHeld ?_
  rotate_left
  · (intro w hSw; (try dsimp only at hSw); first | (go_simp; done) | (go_simp; with_reducible rfl))
  simp only [Act.put, List.setIfInBounds_toArray, List.set_cons_zero, List.set_cons_succ]
  refine takeH (i := 2) (v := ?_) rfl rfl (by kernel_rfl) (by kernel_rfl) (by kernel_rfl) (fun _ _ _ h => h) (by rfl) ?_ hHeld ?_
  rotate_left
  · (intro w hSw; (try dsimp only at hSw); first | (go_simp; done) | (go_simp; with_reducible rfl))
  simp only [Act.put, List.setIfInBounds_toArray, List.set_cons_zero, List.set_cons_succ]
  replace HX := Lib.hid (HX.out.on hd0)
  replace HY := Lib.hid (HY.out.on hd0)
  have HB3 := Lib.hid (HB2.out.trans (hd0.mono HB2.out.size))
  clear hd0
  obtain ⟨w3, hw3⟩ : ∃ w3, w3 = w2.drew := ⟨_, rfl⟩
  rw [← hw3] at HX HY HB3 ⊢
  clear hw3
  refine wpAnyH_ready (rs := [1]) (by kernel_rfl) (by simp) ?_
  refine AllReadyH.cons rfl (fun K hK => ?_) AllReadyH.nil
  go_simp
  rw [← HVE.out]
  refine (refNormM_any v c ss _ HX.out.cl HM.out).mono ?_
  rintro e w4 ⟨x, rfl, hx, hb4⟩
  have HB4 := Lib.hid (HB3.out.trans (hb4.mono HB3.out.size))
  replace HX := Lib.hid (HX.out.on hb4)
  replace HY := Lib.hid (HY.out.on hb4)
  obtain ⟨x1, rfl, hx1⟩ := hx.clAt HM.out.normal.fit
  have HX1 := Lib.hid hx1
  rw [Cv.val_eq]
  have HXE := Lib.hid x1.val_eq
  clear hx hx1 hb4
  clear p0 p1 p2 q0 q1 q2
  have p0 := HX.out.c0
  have p1 := HX.out.c1
  have p2 := HX.out.c2
  have q0 := HY.out.c0
  have q1 := HY.out.c1
  have q2 := HY.out.c2
  go_wp2_with fail
  refine hK.out _ _ ?_ (fun hHeld => ?_)
  · exact ⟨p0, p1, p2, q0, q1, q2⟩
  clear hK K
  refine wpAnyH_ready (rs := [3]) (by kernel_rfl) (by simp) ?_
  refine AllReadyH.cons rfl (fun K hK => ?_) AllReadyH.nil
  go_simp
  rw [← HUE.out]
  refine (refNormM_any u d ss _ HY.out.cl HN.out).mono ?_
  rintro e w5 ⟨x, rfl, hx, hb5⟩
  have HB5 := Lib.hid (HB4.out.trans (hb5.mono HB4.out.size))
  replace HX := Lib.hid (HX.out.on hb5)
  replace HY := Lib.hid (HY.out.on hb5)
  replace HX1 := Lib.hid (HX1.out.on hb5)
  obtain ⟨x2, rfl, hx2⟩ := hx.clAt HN.out.normal.fit
  have HX2 := Lib.hid hx2
  rw [Cv.val_eq]
  have HXF := Lib.hid x2.val_eq
  clear hx hx2 hb5
  clear p0 p1 p2 q0 q1 q2
  have p0 := HX.out.c0
  have p1 := HX.out.c1
  have p2 := HX.out.c2
  have q0 := HY.out.c0
  have q1 := HY.out.c1
  have q2 := HY.out.c2
  go_wp2_with fail
  refine hK.out _ _ ?_ (fun hHeld => ?_)
  · exact ⟨p0, p1, p2, q0, q1, q2⟩
  clear hK K
  refine wpAnyH_ready (rs := [4]) (by kernel_rfl) (by simp) ?_
  refine AllReadyH.cons rfl (fun K hK => ?_) AllReadyH.nil
  go_simp
  rw [← HXE.out, ← HXF.out]
  refine (refSameC_any x1 x2 (norm c) (norm d) _ HX1.out HX2.out HM.out.normal.small HN.out.normal.small).mono ?_
  rintro e w6 ⟨rfl, hb6⟩
  have HB6 := Lib.hid (HB5.out.trans (hb6.mono HB5.out.size))
  replace HX := Lib.hid (HX.out.on hb6)
  replace HY := Lib.hid (HY.out.on hb6)
  clear hb6
  clear p0 p1 p2 q0 q1 q2
  have p0 := HX.out.c0
  have p1 := HX.out.c1
  have p2 := HX.out.c2
  have q0 := HY.out.c0
  have q1 := HY.out.c1
  have q2 := HY.out.c2
  go_wp2_with fail
  refine hK.out _ _ ?_ (fun hHeld => ?_)
  · exact ⟨p0, p1, p2, q0, q1, q2⟩
  clear hK K
  refine takeH (i := 5) (v := ?_) rfl rfl (by kernel_rfl) (by kernel_rfl) (by kernel_rfl) (fun _ _ _ h => h) (by rfl) ?_ hHeld ?_
  rotate_left
  · (intro w hSw; (try dsimp only at hSw); first | (go_simp; done) | (go_simp; with_reducible rfl))
  simp only [Act.put, List.setIfInBounds_toArray, List.set_cons_zero, List.set_cons_succ]
  refine takeH (i := 6) (v := ?_) rfl rfl (by kernel_rfl) (by kernel_rfl) (by kernel_rfl) (fun _ _ _ h => h) (by rfl) ?_ hHeld ?_
  rotate_left
  · (intro w hSw; (try dsimp only at hSw); first | (go_simp; done) | (go_simp; with_reducible rfl))
  simp only [Act.put, List.setIfInBounds_toArray, List.set_cons_zero, List.set_cons_succ]
  refine wpAnyH_done (by kernel_rfl) ?_ _
  go_wp2
  go_ret2
  exact ⟨ret_bi (by rw [HVA.out]; simp) (by rw [HNE.out]; rfl), HB6.out⟩
end Go.Proofs.Ytpblpndlajoebaa
