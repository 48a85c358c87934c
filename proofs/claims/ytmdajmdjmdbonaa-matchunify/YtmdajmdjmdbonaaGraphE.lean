/-
  Words for memory: the nodes of package unify, its pairs; what turns while one kind of row alone is written.
  Contracts: the program's root, rootFirst, both, lengthOf.
  Contracts: the program's lengthOf, measure.
  Contract: the program's measure.
  Contracts: the program's write, binds.
  Contracts: the program's add, and slices.Clone, slices.Reverse.
  Contract: the program's read.
  A law for a scope with one label that the run jumps back to: what holds at it, with a number that every pass lowers.
  Contract: the program's join.
  Contract: unify.Unify.
-/
import Derived.Test.YtmdajmdjmdbonaaPlainUni
import Derived.Test.YtmdajmdjmdbonaaMemChg
import Derived.Test.YtmdajmdjmdbonaaBaseBind
import Derived.WalkSmall
import Derived.Test.YtmdajmdjmdbonaaBaseTerm
import Derived.Test.YtmdajmdjmdbonaaBaseSym
import Derived.Lib.SliceRun
import Derived.ScopeJumps
import Derived.WalkMore
namespace Go.Proofs.Ytmdajmdjmdbonaa
open Go.RowKit
set_option linter.unusedSimpArgs false
set_option linter.unusedVariables false
set_option maxRecDepth 100000

def nats (xs : List Nat) : List Int := xs.map fun x : Nat => (x : Int)
theorem nats_length (xs : List Nat) : (nats xs).length = xs.length := by simp [nats]
theorem nats_append (xs ys : List Nat) : nats (xs ++ ys) = nats xs ++ nats ys := by simp [nats]
def natAt (xs : List Nat) (i : Nat) : Nat := xs.getD i 0
theorem natAt_get {xs : List Nat} {i : Nat} (h : i < xs.length) : xs[i]? = some (natAt xs i) := by
  unfold natAt; rw [List.getD_eq_getElem?_getD, List.getElem?_eq_getElem h]; rfl
theorem natAt_mem {xs : List Nat} {i : Nat} (h : i < xs.length) : natAt xs i ∈ xs := List.mem_of_getElem? (natAt_get h)
theorem nats_at {xs : List Nat} {i : Nat} (h : i < xs.length) : intAt (nats xs) i = (natAt xs i : Int) := by
  have := intAt_get (xs := nats xs) (i := i) (by rw [nats_length]; exact h)
  unfold nats at this
  rw [List.getElem?_map, natAt_get h] at this
  injection this with this
  exact this.symm
theorem nats_drop (xs : List Nat) (k : Nat) : (nats xs).drop k = nats (xs.drop k) := by simp [nats]
theorem nats_take (xs : List Nat) (k : Nat) : (nats xs).take k = nats (xs.take k) := by simp [nats]
theorem nats_reverse (xs : List Nat) : (nats xs).reverse = nats xs.reverse := by simp [nats]
theorem nat_drop {xs : List Nat} {i : Nat} (h : i < xs.length) : xs.drop i = natAt xs i :: xs.drop (i + 1) := by
  rw [List.drop_eq_getElem_cons h]
  have := natAt_get h
  rw [List.getElem?_eq_getElem h] at this
  injection this with this
  rw [this]
theorem nat_take {xs : List Nat} {i : Nat} (h : i < xs.length) : xs.take (i + 1) = xs.take i ++ [natAt xs i] := by
  rw [List.take_add_one, natAt_get h]; rfl

def ndCells (G : List Nd) (vs : List Value) : List Value := (G.zip vs).flatMap fun p => [.int .i64 p.1.code, p.2, .int .i64 (p.1.up : Int), .int .i64 (p.1.len : Int)]
theorem ndCells_cons (b : Nd) (G : List Nd) (u : Value) (vs : List Value) : ndCells (b :: G) (u :: vs) = .int .i64 b.code :: u :: .int .i64 (b.up : Int) :: .int .i64 (b.len : Int) :: ndCells G vs := by unfold ndCells; simp
theorem ndCells_length : ∀ (G : List Nd) (vs : List Value), vs.length = G.length → (ndCells G vs).length = G.length * 4
  | [], [], _ => rfl
  | b :: G, u :: vs, h => by
    rw [ndCells_cons, List.length_cons, List.length_cons, List.length_cons, List.length_cons, List.length_cons, ndCells_length G vs (by simpa using h)]; omega
theorem ndCells_snoc : ∀ (G : List Nd) (vs : List Value) (b : Nd) (u : Value), vs.length = G.length → ndCells (G ++ [b]) (vs ++ [u]) = ndCells G vs ++ [.int .i64 b.code, u, .int .i64 (b.up : Int), .int .i64 (b.len : Int)]
  | [], [], b, u, _ => rfl
  | a :: G, x :: vs, b, u, h => by
    rw [List.cons_append, List.cons_append, ndCells_cons, ndCells_cons, ndCells_snoc G vs b u (by simpa using h)]; rfl
theorem ndCells_get : ∀ (G : List Nd) (vs : List Value), vs.length = G.length → ∀ i, i < G.length → (ndCells G vs)[i * 4]? = some (.int .i64 (ndAt G i).code) ∧ (ndCells G vs)[i * 4 + 1]? = some (valAt vs i) ∧ (ndCells G vs)[i * 4 + 2]? = some (.int .i64 ((ndAt G i).up : Int)) ∧ (ndCells G vs)[i * 4 + 3]? = some (.int .i64 ((ndAt G i).len : Int))
  | b :: G, u :: vs, h, 0, _ => by rw [ndCells_cons]; exact ⟨rfl, rfl, rfl, rfl⟩
  | b :: G, u :: vs, h, i + 1, hi => by
    rw [ndCells_cons]
    have := ndCells_get G vs (by simpa using h) i (by simpa using hi)
    have e : (i + 1) * 4 = i * 4 + 1 + 1 + 1 + 1 := by omega
    rw [e]
    simp only [List.getElem?_cons_succ]
    exact this
theorem ndCells_set : ∀ (G : List Nd) (vs : List Value), vs.length = G.length → ∀ i, i < G.length → ∀ x : Nat, (ndCells G vs).set (i * 4 + 2) (.int .i64 (x : Int)) = ndCells (setUp G i x) vs ∧ (ndCells G vs).set (i * 4 + 3) (.int .i64 (x : Int)) = ndCells (setLen G i x) vs
  | b :: G, u :: vs, h, 0, _, x => by
    constructor
    · show _ = ndCells ({ b with up := x } :: G) (u :: vs); rw [ndCells_cons, ndCells_cons]; rfl
    · show _ = ndCells ({ b with len := x } :: G) (u :: vs); rw [ndCells_cons, ndCells_cons]; rfl
  | b :: G, u :: vs, h, i + 1, hi, x => by
    obtain ⟨h1, h2⟩ := ndCells_set G vs (by simpa using h) i (by simpa using hi) x
    have e2 : (i + 1) * 4 + 2 = i * 4 + 2 + 1 + 1 + 1 + 1 := by omega
    have e3 : (i + 1) * 4 + 3 = i * 4 + 3 + 1 + 1 + 1 + 1 := by omega
    constructor
    · show _ = ndCells (b :: setUp G i x) (u :: vs)
      rw [ndCells_cons, ndCells_cons, e2]
      simp only [List.set_cons_succ]
      rw [h1]
    · show _ = ndCells (b :: setLen G i x) (u :: vs)
      rw [ndCells_cons, ndCells_cons, e3]
      simp only [List.set_cons_succ]
      rw [h2]

theorem node_info : (Try.prog.info? 68).map (fun i => (i.zero, i.size, i.bytes)) = some (some (.agg #[.int .i64 0, .slice none 0 0, .int .i64 0, .int .i64 0]), 4, 48) := by kernel_rfl
theorem pair_info : (Try.prog.info? 78).map (fun i => (i.zero, i.size, i.bytes)) = some (some (.agg #[.int .i64 0, .int .i64 0]), 2, 16) := by kernel_rfl

/-- The value is a row of these nodes, all of it in blocks from base on (or nil). -/
def OwnN (w : World) (base : Nat) (v : Value) (G : List Nd) : Prop :=
  ∃ vs : List Value, vs.length = G.length ∧ w.ownsRow base 68 4 v G.length (ndCells G vs) ∧ ∀ i, i < G.length → OwnI w base (valAt vs i) (nats (ndAt G i).args)
/-- The graph at block gb. -/
def GraphAt (w : World) (base gb : Nat) (G : List Nd) : Prop := ∃ v, w.heap[gb]? = some (.cells #[v] 43 (0, 0)) ∧ base ≤ gb ∧ OwnN w base v G
section
variable {w w' : World} {base gb : Nat} {v u : Value} {G : List Nd} {xs : List Int}
theorem GraphAt.lt (h : GraphAt w base gb G) : gb < w.heap.size := by
  obtain ⟨v, h1, _⟩ := h
  exact (Array.getElem?_eq_some_iff.1 h1).1
theorem GraphAt.chg {es : List TypeId} {b : Nat} (h : GraphAt w base gb G) (hc : Chg es b w w') (h1 : 43 ∉ es) (h2 : 68 ∉ es) (h3 : 3 ∉ es) : GraphAt w' base gb G := by
  obtain ⟨v, q1, q2, vs, q3, q4, q5⟩ := h
  exact ⟨v, hc.blk _ _ _ _ q1 h1, q2, vs, q3, hc.rows h2 q4, fun i hi => hc.own h3 (q5 i hi)⟩
theorem GraphAt.on (h : GraphAt w base gb G) (hb : Below w.heap.size w w') : GraphAt w' base gb G :=
  h.chg (es := []) (b := 0) (Chg.of_below hb (by omega)) (by simp) (by simp) (by simp)
/-- What a walk reads of the graph. -/
theorem GraphAt.cells (h : GraphAt w base gb G) (hp : 0 < G.length) : ∃ nb cap, base ≤ nb ∧ nb < w.heap.size ∧ G.length ≤ cap ∧ w.cell? ⟨gb, 0, none⟩ = some (.slice (some ⟨nb, 0, none⟩) G.length cap) ∧
    ∀ i, i < G.length → w.cell? ⟨nb, i * 4, none⟩ = some (.int .i64 (ndAt G i).code) ∧ w.cell? ⟨nb, i * 4 + 2, none⟩ = some (.int .i64 ((ndAt G i).up : Int)) ∧ w.cell? ⟨nb, i * 4 + 3, none⟩ = some (.int .i64 ((ndAt G i).len : Int)) ∧
      ∃ A c, w.cell? ⟨nb, i * 4 + 1, none⟩ = some (.slice A (ndAt G i).args.length c) ∧ (ndAt G i).args.length ≤ c ∧ IntsAt w w.heap.size A (ndAt G i).args.length (nats (ndAt G i).args) := by
  obtain ⟨v, q1, q2, vs, q3, q4, q5⟩ := h
  rcases q4.2 with ⟨_, q⟩ | ⟨nb, cap, cur, rfl, hb, hc, hn, _⟩
  · omega
  · refine ⟨nb, cap, hb, (Array.getElem?_eq_some_iff.1 hc).1, hn, by rw [cell_of_row _ _ 0 _ _ _ q1]; rfl, fun i hi => ?_⟩
    obtain ⟨d0, d1, d2, d3⟩ := ndCells_get G vs q3 i hi
    have c0 := q4.cellAt (i * 4) (by omega)
    have c1 := q4.cellAt (i * 4 + 1) (by omega)
    have c2 := q4.cellAt (i * 4 + 2) (by omega)
    have c3 := q4.cellAt (i * 4 + 3) (by omega)
    rw [d0] at c0
    rw [d1] at c1
    rw [d2] at c2
    rw [d3] at c3
    obtain ⟨A', c', e, hc', hi'⟩ := (q5 i hi).intsAt
    rw [e] at c1
    rw [nats_length] at c1 hc' hi'
    exact ⟨c0, c2, c3, A', c', c1, hc', hi'⟩
/-- One cell of a node written. -/
theorem GraphAt.set (h : GraphAt w base gb G) {i nb cap : Nat} (hi : i < G.length) (hcell : w.cell? ⟨gb, 0, none⟩ = some (.slice (some ⟨nb, 0, none⟩) G.length cap)) (x : Nat) :
    (GraphAt (w.setCell ⟨nb, i * 4 + 2, none⟩ (.int .i64 (x : Int))) base gb (setUp G i x) ∧ Chg [68] base w (w.setCell ⟨nb, i * 4 + 2, none⟩ (.int .i64 (x : Int)))) ∧
    (GraphAt (w.setCell ⟨nb, i * 4 + 3, none⟩ (.int .i64 (x : Int))) base gb (setLen G i x) ∧ Chg [68] base w (w.setCell ⟨nb, i * 4 + 3, none⟩ (.int .i64 (x : Int)))) ∧
    ∀ j, w.frozen? ⟨nb, j, none⟩ = false := by
  obtain ⟨v, q1, q2, vs, q3, q4, q5⟩ := h
  rw [cell_of_row _ _ 0 _ _ _ q1] at hcell
  have hv : v = .slice (some ⟨nb, 0, none⟩) G.length cap := by simpa using hcell
  subst hv
  obtain ⟨cur, hb, hc⟩ : ∃ cur, base ≤ nb ∧ w.heap[nb]? = some (.cells cur 68 (0, 0)) := by
    rcases q4.2 with ⟨q, _⟩ | ⟨nb', cap', cur, q, hb, hc, hn, _⟩
    · cases q
    · injection q with q
      injection q with q
      injection q with q
      subst q
      exact ⟨cur, hb, hc⟩
  have hne : (43 : TypeId) ∉ [(68 : TypeId)] := by decide
  have hni : (3 : TypeId) ∉ [(68 : TypeId)] := by decide
  have key : ∀ j, Chg [68] base w (w.setCell ⟨nb, j, none⟩ (.int .i64 (x : Int))) := fun j => Chg.set hc hb _
  have k2 := key (i * 4 + 2)
  have k3 := key (i * 4 + 3)
  obtain ⟨e2, e3⟩ := ndCells_set G vs q3 i hi x
  refine ⟨⟨⟨_, k2.blk _ _ _ _ q1 hne, q2, vs, ?_, ?_, ?_⟩, k2⟩, ⟨⟨_, k3.blk _ _ _ _ q1 hne, q2, vs, ?_, ?_, ?_⟩, k3⟩, fun j => q4.frozenAt j⟩
  · rw [setUp_length]; exact q3
  · rw [setUp_length, ← e2]; exact (q4.stored (i * 4 + 2) (.int .i64 (x : Int))).1
  · intro k hk
    rw [setUp_length] at hk
    rw [setUp_args hi]
    exact k2.own hni (q5 k hk)
  · rw [setLen_length]; exact q3
  · rw [setLen_length, ← e3]; exact (q4.stored (i * 4 + 3) (.int .i64 (x : Int))).1
  · intro k hk
    rw [setLen_length] at hk
    rw [setLen_args hi]
    exact k3.own hni (q5 k hk)
end

def pCells (ps : List (Nat × Nat)) : List Value := ps.flatMap fun p => [.int .i64 (p.1 : Int), .int .i64 (p.2 : Int)]
theorem pCells_length (ps : List (Nat × Nat)) : (pCells ps).length = ps.length * 2 := by
  induction ps with
  | nil => rfl
  | cons p ps ih => unfold pCells at *; simp [List.flatMap_cons, ih]; omega
theorem pCells_append (ps qs : List (Nat × Nat)) : pCells (ps ++ qs) = pCells ps ++ pCells qs := by simp [pCells]
/-- The value is a row of these pairs, in a block from base on (or nil). -/
def OwnP (w : World) (base : Nat) (v : Value) (ps : List (Nat × Nat)) : Prop := w.ownsRow base 78 2 v ps.length (pCells ps)
section
variable {w w' : World} {base gb : Nat} {v u : Value} {ps : List (Nat × Nat)}
theorem OwnP.nil_ : OwnP w base (.slice none 0 0) [] := ⟨rfl, .inl ⟨rfl, rfl⟩⟩
theorem OwnP.on (h : OwnP w base v ps) (hb : Below w.heap.size w w') : OwnP w' base v ps := owns_on h hb
theorem OwnP.cast {qs : List (Nat × Nat)} (h : OwnP w base v ps) (e : ps = qs) : OwnP w base v qs := e ▸ h
theorem OwnP.shape (h : OwnP w base v ps) : (v = .slice none 0 0 ∧ ps = []) ∨ ∃ g cap, v = .slice (some ⟨g, 0, none⟩) ps.length cap ∧ base ≤ g ∧ g < w.heap.size ∧ ps.length ≤ cap := by
  rcases h.2 with ⟨h1, h2⟩ | ⟨g, cap, cur, hv, hg, hc, hn, _⟩
  · exact .inl ⟨h1, List.length_eq_zero_iff.1 h2⟩
  · exact .inr ⟨g, cap, hv, hg, (Array.getElem?_eq_some_iff.1 hc).1, hn⟩
/-- The last pair, and the others without it. -/
theorem OwnP.last {x y g cap : Nat} (h : OwnP w base (.slice (some ⟨g, 0, none⟩) (ps.length + 1) cap) (ps ++ [(x, y)])) :
    w.cell? ⟨g, ps.length * 2, none⟩ = some (.int .i64 (x : Int)) ∧ w.cell? ⟨g, ps.length * 2 + 1, none⟩ = some (.int .i64 (y : Int)) ∧ OwnP w base (.slice (some ⟨g, 0, none⟩) ps.length cap) ps := by
  have h' : w.ownsRow base 78 2 (.slice (some ⟨g, 0, none⟩) (ps.length + 1) cap) (ps.length + 1) (pCells ps ++ [.int .i64 (x : Int), .int .i64 (y : Int)]) := by
    have := h
    unfold OwnP at this
    rw [pCells_append, List.length_append] at this
    exact this
  have hl := pCells_length ps
  have c0 := h'.cellAt (ps.length * 2) (by omega)
  have c1 := h'.cellAt (ps.length * 2 + 1) (by omega)
  rw [List.getElem?_append_right (by omega)] at c0 c1
  have e0 : ps.length * 2 - (pCells ps).length = 0 := by omega
  have e1 : ps.length * 2 + 1 - (pCells ps).length = 1 := by omega
  rw [e0] at c0
  rw [e1] at c1
  exact ⟨c0, c1, ownsRow_pop (by omega) h'⟩
/-- 'x = append(x, pair{..})', x made by the call. -/
theorem app_pair_op {o : Oper} {a : Act} {K : Act → World → Prop} {Q : Exit → Act → World → Prop} (s x : Operand)
    (ho : o.op = .call { callee := .builtin .append, args := #[s, x], argTypes := #[75, 75] })
    (base : Nat) (v : Value) (ps : List (Nat × Nat)) (y z : Nat) (hs : a.eval s = v) (hown : OwnP w base v ps) (hx : a.eval x = .slice (some ⟨w.heap.size, 0, none⟩) 1 1)
    (hlen : ps.length + 1 ≤ 1000000) (hbase : base ≤ w.heap.size)
    (h : ∀ v' w', OwnP w' base v' (ps ++ [(y, z)]) → Chg [78] base w w' → K (a.put o.dst v') w') : o.wp Try.prog a (w.alloc (.cells #[.int .i64 (y : Int), .int .i64 (z : Int)] 78)) K Q := by
  obtain ⟨i0, hi0, hz0, hz1, hz2⟩ := info_parts pair_info
  have k2' := World.ownsRow.alloc hown (.cells #[.int .i64 (y : Int), .int .i64 (z : Int)] 78)
  refine wp_append_own _ s x 75 ho base 78 i0 _ 2 16 Try.underlying75 hi0 hz0 hz1 hz2 rfl (by omega) v ps.length (pCells ps) hs k2' ⟨w.heap.size, 0, none⟩ 1 1 [.int .i64 (y : Int), .int .i64 (z : Int)] hx rfl
    (World.news_of_block (cs := #[.int .i64 (y : Int), .int .i64 (z : Int)]) (t := 78) (fr := (0, 0)) (heap_alloc_new w _)) (by simp; exact ⟨rfl, rfl⟩) (by unfold maxLen; omega) (by omega) (by simp; omega) ?_
  intro v' w' h1 h2 _
  refine h v' w' ?_ ((Chg.of_below (below_new w _) hbase).trans (Chg.grown h2 k2' (by simp; omega)))
  unfold OwnP
  rw [pCells_append, List.length_append]
  exact h1
end
end Go.Proofs.Ytmdajmdjmdbonaa

namespace Go.Proofs.Ytmdajmdjmdbonaa
open Go.RowKit
set_option linter.unusedSimpArgs false
set_option linter.unusedVariables false
set_option maxRecDepth 100000

set_option maxHeartbeats 1000000 in
theorem root_any (gb base n : Nat) (G : List Nd) (rt d : Nat → Nat) (w : World) (h : GraphAt w base gb G) (hf : Forest G rt d) (hn : n < G.length) (hN : G.length ≤ 1000) :
    Calls Try.prog 28 #[.pointer (some ⟨gb, 0, none⟩), .int .i64 (n : Int)] w fun e w' => e = .returned (.int .i64 (rt n : Int)) ∧ w = w' := by
  obtain ⟨nb, cap, hb, hlt, hcap, hcell, hall⟩ := h.cells (by omega)
  have HALL := Lib.hid hall
  have HF := Lib.hid hf
  obtain ⟨N, hNe⟩ : ∃ N, N = G.length := ⟨_, rfl⟩
  rw [← hNe] at hcell hn hN hcap
  have HN := Lib.hid hNe
  clear hall hf hNe h
  go_enter Try.func28, Try.ntmps28
  go_wp2
  go_loop [1] (fun i => ∃ k : Nat, i = .int .i64 k ∧ k < N ∧ rt k = rt n) (fun i => d (intOf i).toNat)
  case atStart => exact ⟨n, rfl, hn, rfl⟩
  case round =>
    obtain ⟨k, rfl, hk, hrt⟩ := hrel
    obtain ⟨_, c2, _, _⟩ := HALL.out k (by rw [← HN.out]; exact hk)
    have HRT := Lib.hid hrt
    clear hrt
    have z0 : (0 : Int) ≤ (k : Int) := by omega
    have z1 : (k : Int) < (N : Int) := by omega
    obtain ⟨u, hu⟩ : ∃ u, u = (ndAt G k).up := ⟨_, rfl⟩
    rw [← hu] at c2
    have HU := Lib.hid hu
    clear hu
    by_cases e : u = k
    · have e' : ((u : Int) != (k : Int)) = false := by simp [e]
      have HE := Lib.hid e
      clear e
      go_wp2
      go_ret
      refine ⟨ret_int ?_, rfl⟩
      have := HF.out.top k (by rw [← HN.out]; exact hk) (by rw [← HU.out]; exact HE.out)
      rw [← HRT.out, this]
    · have e' : ((u : Int) != (k : Int)) = true := by simp; omega
      have HE := Lib.hid e
      clear e
      go_wp2
      go_round
      case rel =>
        have hkN : k < G.length := by rw [← HN.out]; exact hk
        obtain ⟨h1, h2⟩ := HF.out.low k hkN (by rw [← HU.out]; exact HE.out)
        exact ⟨u, rfl, by rw [HU.out, HN.out]; exact HF.out.bound k hkN, by rw [HU.out, ← h1]; exact HRT.out⟩
      case measure =>
        have hkN : k < G.length := by rw [← HN.out]; exact hk
        obtain ⟨h1, h2⟩ := HF.out.low k hkN (by rw [← HU.out]; exact HE.out)
        simp [intOf]
        rw [HU.out]; exact h2

theorem ret_ii {a b c d : Int} (h : a = c) (k : b = d) : Ending.returned (.tuple #[.int .i64 a, .int .i64 b]) = .returned (.tuple #[.int .i64 c, .int .i64 d]) := by rw [h, k]
set_option maxHeartbeats 1000000 in
theorem rootFirst_any (gb base x y : Nat) (G : List Nd) (w : World) (h : GraphAt w base gb G) (hx : x < G.length) (hy : y < G.length) (hN : G.length ≤ 1000) :
    Calls Try.prog 34 #[.pointer (some ⟨gb, 0, none⟩), .int .i64 (x : Int), .int .i64 (y : Int)] w fun e w' => (∃ r o : Nat, e = .returned (.tuple #[.int .i64 (r : Int), .int .i64 (o : Int)]) ∧ ((x = r ∧ y = o) ∨ (x = o ∧ y = r)) ∧ (ndAt G o).code ≤ (ndAt G r).code) ∧ Below w.heap.size w w' := by
  obtain ⟨nb, cap, hb, hlt, hcap, hcell, hall⟩ := h.cells (by omega)
  obtain ⟨c1, _⟩ := hall x hx
  obtain ⟨c2, _⟩ := hall y hy
  obtain ⟨N, hNe⟩ : ∃ N, N = G.length := ⟨_, rfl⟩
  rw [← hNe] at hcell hx hy hN hcap
  obtain ⟨cx, hcx⟩ : ∃ c, c = (ndAt G x).code := ⟨_, rfl⟩
  obtain ⟨cy, hcy⟩ : ∃ c, c = (ndAt G y).code := ⟨_, rfl⟩
  rw [← hcx] at c1
  rw [← hcy] at c2
  have HX := Lib.hid hcx
  have HY := Lib.hid hcy
  clear hall hNe h hcx hcy
  have z0 : (0 : Int) ≤ (x : Int) := by omega
  have z1 : (x : Int) < (N : Int) := by omega
  have z2 : (0 : Int) ≤ (y : Int) := by omega
  have z3 : (y : Int) < (N : Int) := by omega
  by_cases hlt' : cx < cy
  · go_enter Try.func34, Try.ntmps34
    go_wp2_with fail
    go_quiet (fail)
    go_wp2
    go_ret2
    exact ⟨⟨y, x, rfl, .inr ⟨rfl, rfl⟩, by rw [← HX.out, ← HY.out]; omega⟩, below_drewN w _⟩
  · go_enter Try.func34, Try.ntmps34
    go_wp2_with fail
    go_quiet (fail)
    go_wp2
    go_ret2
    exact ⟨⟨x, y, rfl, .inl ⟨rfl, rfl⟩, by rw [← HX.out, ← HY.out]; omega⟩, below_drewN w _⟩

theorem zip_take {xs ys : List Nat} {k : Nat} (h1 : k < xs.length) (h2 : k < ys.length) : (xs.zip ys).take (k + 1) = (xs.zip ys).take k ++ [(natAt xs k, natAt ys k)] := by
  rw [List.take_add_one]
  congr 1
  have e : (xs.zip ys)[k]? = some (natAt xs k, natAt ys k) := List.getElem?_zip_eq_some.2 ⟨natAt_get h1, natAt_get h2⟩
  rw [e]
  rfl
theorem OwnI.nat {w : World} {base : Nat} {v : Value} {xs : List Nat} (h : OwnI w base v (nats xs)) (hp : 0 < xs.length) : ∃ g cap, v = .slice (some ⟨g, 0, none⟩) xs.length cap ∧ base ≤ g ∧ g < w.heap.size ∧ xs.length ≤ cap := by
  rcases h.shape with ⟨_, e⟩ | ⟨g, cap, h1, h2, h3, h4⟩
  · have := congrArg List.length e
    rw [nats_length] at this
    have h0 : xs.length = 0 := this
    omega
  · rw [nats_length] at h1 h4
    exact ⟨g, cap, h1, h2, h3, h4⟩
theorem OwnI.nat_get {w : World} {base g n cap i : Nat} {xs : List Nat} (h : OwnI w base (.slice (some ⟨g, 0, none⟩) n cap) (nats xs)) (hi : i < xs.length) : w.cell? ⟨g, i, none⟩ = some (.int .i64 (natAt xs i : Int)) := by
  unfold OwnI at h
  have hn : n = (nats xs).length := by
    rcases h.2 with ⟨q, _⟩ | ⟨_, _, _, q, _⟩
    · cases q
    · injection q
  subst hn
  have := own_get h i (by rw [nats_length]; exact hi)
  rw [intCells_get _ _ (by rw [nats_length]; exact hi), nats_at hi] at this
  exact this
theorem OwnI.value_len {w : World} {base : Nat} {v : Value} {xs : List Nat} (h : OwnI w base v (nats xs)) : ∃ A c, v = .slice A xs.length c := by
  obtain ⟨A, c, h1, _⟩ := h.intsAt
  rw [nats_length] at h1
  exact ⟨A, c, h1⟩

set_option maxHeartbeats 2000000 in
theorem both_any' (base b1 b2 : Nat) (v vL vR : Value) (ps : List (Nat × Nat)) (xs ys : List Nat) (w : World) (hP : OwnP w base v ps) (hL : OwnI w b1 vL (nats xs)) (hR : OwnI w b2 vR (nats ys)) (hl : xs.length = ys.length) (hlen : ps.length + xs.length ≤ 100000) (hbase : base ≤ w.heap.size) :
    Calls Try.prog 33 #[v, vL, vR] w fun e w' => (∃ v', e = .returned v' ∧ OwnP w' base v' (ps ++ xs.zip ys)) ∧ Chg [78] base w w' := by
  have HP := Lib.hid hP
  have HL := Lib.hid hL
  have HR := Lib.hid hR
  obtain ⟨A1, c1, rfl⟩ := hL.value_len
  obtain ⟨A2, c2, rfl⟩ := hR.value_len
  obtain ⟨N, hNe⟩ : ∃ N, N = xs.length := ⟨_, rfl⟩
  rw [← hNe] at HL hlen hl ⊢
  rw [← hl] at HR ⊢
  have HN := Lib.hid hNe
  have HM := Lib.hid hl
  have hni : (3 : TypeId) ∉ [(78 : TypeId)] := by decide
  have HNI := Lib.hid hni
  obtain ⟨pl, hpl⟩ : ∃ pl, pl = ps.length := ⟨_, rfl⟩
  rw [← hpl] at hlen
  have HPL := Lib.hid hpl
  clear hP hL hR hNe hl hni hpl
  go_enter Try.func33, Try.ntmps33
  go_wp2
  go_loopw [0, 10] (fun q i wr => ∃ k : Nat, i = .int .i64 k ∧ k ≤ N ∧ OwnP wr base q (ps ++ (xs.zip ys).take k) ∧ Chg [78] base w wr) (fun _ i _ => N - (intOf i).toNat)
  case atStart => exact ⟨0, rfl, by omega, HP.out.cast (by simp), Chg.refl⟩
  case round =>
    obtain ⟨k, rfl, hk, hown, hch⟩ := hrel
    have HOWN := Lib.hid hown
    have HCH := Lib.hid hch
    have hsz := hch.bel.size
    clear hown hch
    by_cases hlt : k < N
    · have hkx : k < xs.length := by rw [← HN.out]; exact hlt
      have hky : k < ys.length := by rw [← HM.out]; exact hlt
      obtain ⟨g1, cap1, e1, hg1, hgl1, _⟩ := HL.out.nat (by omega)
      obtain ⟨g2, cap2, e2, hg2, hgl2, _⟩ := HR.out.nat (by omega)
      simp only [Value.slice.injEq] at e1 e2
      obtain ⟨rfl, -, rfl⟩ := e1
      obtain ⟨rfl, -, rfl⟩ := e2
      have q1 := (HCH.out.own HNI.out HL.out).nat_get hkx
      have q2 := (HCH.out.own HNI.out HR.out).nat_get hky
      have HZ := Lib.hid (zip_take hkx hky)
      obtain ⟨x, hx⟩ : ∃ x, x = natAt xs k := ⟨_, rfl⟩
      obtain ⟨y, hy⟩ : ∃ y, y = natAt ys k := ⟨_, rfl⟩
      rw [← hx] at q1 HZ
      rw [← hy] at q2 HZ
      have HX := Lib.hid hx
      have HY := Lib.hid hy
      have HKX := Lib.hid hkx
      have HKY := Lib.hid hky
      clear hkx hky hx hy
      have hi0 : (0 : Int) ≤ (k : Int) := by omega
      have hi3 : (k : Int) < (N : Int) := by omega
      have htl : (ps ++ (xs.zip ys).take k).length + 1 ≤ 1000000 := by simp; have := HPL.out; omega
      have hbw : base ≤ wr.heap.size := by omega
      have hgw1 : g1 < wr.heap.size := by omega
      have hgw2 : g2 < wr.heap.size := by omega
      go_wp2_with fail
      refine wp_region_held_drew (S := (fun w' => w'.cell? ⟨g1, k, none⟩ = some (.int .i64 (x : Int)) ∧ w'.cell? ⟨g2, k, none⟩ = some (.int .i64 (y : Int)))) (by kernel_rfl) ⟨q1, q2⟩ (fun hHeld => ?_)
      refine takeH (i := 0) (v := ?_) rfl rfl (by kernel_rfl) (by kernel_rfl) (by kernel_rfl) (fun _ _ _ h => h) (by rfl) ?_ hHeld ?_
      rotate_left
      · (intro w hSw; (try dsimp only at hSw); first | (go_simp; done) | (go_simp; with_reducible rfl))
      simp only [Act.put, List.setIfInBounds_toArray, List.set_cons_zero, List.set_cons_succ]
      refine takeH (i := 1) (v := ?_) rfl rfl (by kernel_rfl) (by kernel_rfl) (by kernel_rfl) (fun _ _ _ h => h) (by rfl) ?_ hHeld ?_
      rotate_left
      · (intro w hSw; (try dsimp only at hSw); first | (go_simp; done) | (go_simp; with_reducible rfl))
      simp only [Act.put, List.setIfInBounds_toArray, List.set_cons_zero, List.set_cons_succ]
      refine takeH (i := 2) (v := ?_) rfl rfl (by kernel_rfl) (by kernel_rfl) (by kernel_rfl) (fun _ _ _ h => h) (by rfl) ?_ hHeld ?_
      rotate_left
      · (intro w hSw; (try dsimp only at hSw); first | (go_simp; done) | (go_simp; with_reducible rfl))
      simp only [Act.put, List.setIfInBounds_toArray, List.set_cons_zero, List.set_cons_succ]
      refine takeH (i := 3) (v := ?_) rfl rfl (by kernel_rfl) (by kernel_rfl) (by kernel_rfl) (fun _ _ _ h => h) (by rfl) ?_ hHeld ?_
      rotate_left
      · (intro w hSw; (try dsimp only at hSw); first | (go_simp; done) | (go_simp; with_reducible rfl))
      simp only [Act.put, List.setIfInBounds_toArray, List.set_cons_zero, List.set_cons_succ]
      refine takeH (i := 4) (v := ?_) rfl rfl (by kernel_rfl) (by kernel_rfl) (by kernel_rfl) (fun _ _ _ h => h) (by rfl) ?_ hHeld ?_
      rotate_left
      · (intro w hSw; (try dsimp only at hSw); first | (go_simp; done) | (go_simp; with_reducible rfl))
      simp only [Act.put, List.setIfInBounds_toArray, List.set_cons_zero, List.set_cons_succ]
      refine takeH (i := 5) (v := ?_) rfl rfl (by kernel_rfl) (by kernel_rfl) (by kernel_rfl) (fun _ _ _ h => h) (by rfl) ?_ hHeld ?_
      rotate_left
      · (intro w hSw; (try dsimp only at hSw); first | (go_simp; done) | (go_simp; with_reducible rfl))
      simp only [Act.put, List.setIfInBounds_toArray, List.set_cons_zero, List.set_cons_succ]
      refine takeH (i := 6) (v := ?_) rfl rfl (by kernel_rfl) (by kernel_rfl) (by kernel_rfl) (fun _ _ _ h => h) (by rfl) ?_ hHeld ?_
      rotate_left
      · (intro w hSw; (try dsimp only at hSw); first | (go_simp; done) | (go_simp; with_reducible rfl))
      simp only [Act.put, List.setIfInBounds_toArray, List.set_cons_zero, List.set_cons_succ]
      refine takeH (i := 7) (v := ?_) rfl rfl (by kernel_rfl) (by kernel_rfl) (by kernel_rfl) (fun _ _ _ h => h) (by rfl) ?_ hHeld ?_
      rotate_left
      · (intro w hSw; (try dsimp only at hSw); first | (go_simp; done) | (go_simp; with_reducible rfl))
      simp only [Act.put, List.setIfInBounds_toArray, List.set_cons_zero, List.set_cons_succ]
      refine takeH (i := 8) (v := ?_) rfl rfl (by kernel_rfl) (by kernel_rfl) (by kernel_rfl) (fun _ _ _ h => h) (by rfl) ?_ hHeld ?_
      rotate_left
      · (intro w hSw; (try dsimp only at hSw); first | (go_simp; done) | (go_simp; with_reducible rfl))
      simp only [Act.put, List.setIfInBounds_toArray, List.set_cons_zero, List.set_cons_succ]
      refine takeH (i := 9) (v := ?_) rfl rfl (by kernel_rfl) (by kernel_rfl) (by kernel_rfl) (fun _ _ _ h => h) (by rfl) ?_ hHeld ?_
      rotate_left
      · (intro w hSw; (try dsimp only at hSw); first | (go_simp; done) | (go_simp; with_reducible rfl))
      simp only [Act.put, List.setIfInBounds_toArray, List.set_cons_zero, List.set_cons_succ]
      refine wpAnyH_ready (rs := [10]) (by kernel_rfl) (by simp) ?_
      refine AllReadyH.cons rfl (fun K hK => ?_) AllReadyH.nil
      go_simp
      refine hK.out _ _ ?_ (fun hHeld => ?_)
      · have hb2 := below_new wr (.cells #[.int .i64 (x : Int), .int .i64 (y : Int)] 78)
        exact ⟨(hb2.cell (p := ⟨g1, k, none⟩) hgw1).trans q1, (hb2.cell (p := ⟨g2, k, none⟩) hgw2).trans q2⟩
      clear hK K
      refine wpAnyH_ready (rs := [11]) (by kernel_rfl) (by simp) ?_
      refine AllReadyH.cons rfl (fun K hK => ?_) AllReadyH.nil
      rw [if_pos (by rfl)]
      refine app_pair_op (w := wr.drew) (.tmp 13) (.tmp 23) rfl base _ (ps ++ (xs.zip ys).take k) x y rfl HOWN.out rfl htl hbw ?_
      intro v2 w2 hown2 hb2
      have HO2 := Lib.hid (hown2.cast (by rw [List.append_assoc, ← HZ.out]))
      have HC2 := Lib.hid (HCH.out.trans ((Chg.of_below (Below.refl _ _).drew hbw).trans hb2))
      clear hown2 hb2
      refine hK.out _ _ ?_ (fun hHeld => ?_)
      · exact ⟨by rw [HX.out]; exact (HC2.out.own HNI.out HL.out).nat_get HKX.out, by rw [HY.out]; exact (HC2.out.own HNI.out HR.out).nat_get HKY.out⟩
      clear hK K
      refine takeH (i := 12) (v := ?_) rfl rfl (by kernel_rfl) (by kernel_rfl) (by kernel_rfl) (fun _ _ _ h => h) (by rfl) ?_ hHeld ?_
      rotate_left
      · (intro w hSw; (try dsimp only at hSw); first | (go_simp; done) | (go_simp; with_reducible rfl))
      simp only [Act.put, List.setIfInBounds_toArray, List.set_cons_zero, List.set_cons_succ]
      refine wpAnyH_done (by kernel_rfl) ?_ _
      go_wp2
      go_roundw
      case rel => exact ⟨k + 1, by go_num, by omega, HO2.out, HC2.out⟩
      case measure => simp [intOf]; omega
    · obtain rfl : k = N := by omega
      go_wp2
      go_ret
      refine ⟨⟨_, rfl, HOWN.out.cast ?_⟩, HCH.out⟩
      rw [List.take_of_length_le]
      rw [List.length_zip]; have := HN.out; have := HM.out; omega

end Go.Proofs.Ytmdajmdjmdbonaa

namespace Go.Proofs.Ytmdajmdjmdbonaa
open Go.RowKit
set_option linter.unusedSimpArgs false
set_option linter.unusedVariables false
set_option maxRecDepth 100000

theorem lenOf_low {G : List Nd} {rt : Nat → Nat} {n : Nat} (h : rt n ≠ n) : lenOf G rt n = lenAt G (rt n) := by unfold lenOf; rw [if_pos h]
theorem lenOf_wait {G : List Nd} {rt : Nat → Nat} {n x : Nat} (h : rt n = n) (hx : x ∈ (ndAt G n).args) (h0 : lenAt G x = 0) : lenOf G rt n = 0 := by
  unfold lenOf
  rw [if_neg (by simp [h]), if_pos]
  rw [List.any_eq_true]
  exact ⟨x, hx, by simp [h0]⟩
theorem lenOf_sum {G : List Nd} {rt : Nat → Nat} {n : Nat} (h : rt n = n) (hx : ∀ x ∈ (ndAt G n).args, 0 < lenAt G x) : lenOf G rt n = min (1 + sumN (lenAt G) (ndAt G n).args) 49 := by
  unfold lenOf
  rw [if_neg (by simp [h]), if_neg]
  simp
  intro x hx'
  have := hx x hx'
  omega
theorem ndAt_len (G : List Nd) (n : Nat) : (ndAt G n).len = lenAt G n := rfl

set_option maxHeartbeats 2000000 in
theorem lengthOf_any (gb base n : Nat) (G : List Nd) (rt d : Nat → Nat) (w : World) (h : GraphAt w base gb G) (hf : Forest G rt d) (hn : n < G.length) (hN : G.length ≤ 1000)
    (ha : ∀ x ∈ (ndAt G n).args, x < G.length) (hle : ∀ k, k < G.length → lenAt G k ≤ 49) (hal : (ndAt G n).args.length ≤ 100) :
    Calls Try.prog 35 #[.pointer (some ⟨gb, 0, none⟩), .int .i64 (n : Int)] w fun e w' => e = .returned (.int .i64 (lenOf G rt n : Int)) ∧ w = w' := by
  obtain ⟨nb, cap, hb, hlt, hcap, hcell, hall⟩ := h.cells (by omega)
  have HG := Lib.hid h
  have HALL := Lib.hid hall
  have HF := Lib.hid hf
  have HLE := Lib.hid hle
  have HA := Lib.hid ha
  obtain ⟨N, hNe⟩ : ∃ N, N = G.length := ⟨_, rfl⟩
  have hnG := hn
  have hNG := hN
  rw [← hNe] at hcell hn hN hcap
  have HN := Lib.hid hNe
  have HNG := Lib.hid hnG
  have HNN := Lib.hid hNG
  obtain ⟨r1, r2, r3⟩ := hf.root hnG
  obtain ⟨q, hq⟩ : ∃ q, q = rt n := ⟨_, rfl⟩
  rw [← hq, ← hNe] at r1
  have HQ := Lib.hid hq
  clear hall hf hNe h hle ha hnG hNG r2 r3 hq
  by_cases e : q = n
  · have e' : ((q : Int) != (n : Int)) = false := by simp [e]
    have HE := Lib.hid e
    clear e
    obtain ⟨_, _, _, A, c, hargs, hcc, hints⟩ := HALL.out n HNG.out
    have HI := Lib.hid hints
    obtain ⟨m, hm⟩ : ∃ m, m = (ndAt G n).args.length := ⟨_, rfl⟩
    rw [← hm] at hargs HI hal
    have HM := Lib.hid hm
    have z0 : (0 : Int) ≤ (n : Int) := by omega
    have z1 : (n : Int) < (N : Int) := by omega
    clear hints hm hcc
    go_enter Try.func35, Try.ntmps35
    go_wp2_with fail
    refine (root_any gb base n G rt d _ HG.out HF.out HNG.out HNN.out).mono ?_
    rintro e w1 ⟨rfl, rfl⟩
    rw [← HQ.out]
    go_wp2
    go_loop [6, 32] (fun s i => ∃ k t : Nat, i = .int .i64 k ∧ s = .int .i64 t ∧ k ≤ m ∧ t = 1 + sumN (lenAt G) ((ndAt G n).args.take k) ∧ t ≤ 1 + 49 * k ∧ ∀ x ∈ (ndAt G n).args.take k, 0 < lenAt G x) (fun _ i => m - (intOf i).toNat)
    case atStart => exact ⟨0, 1, rfl, rfl, by omega, by simp [sumN], by omega, by simp⟩
    case round =>
      obtain ⟨k, t, rfl, rfl, hk, ht, ht49, hpos⟩ := hrel
      have HT := Lib.hid ht
      have HP := Lib.hid hpos
      clear ht hpos
      by_cases hlk : k < m
      · have hkm : k < (ndAt G n).args.length := by rw [← HM.out]; exact hlk
        obtain ⟨b1, o1, rfl, _, hc1⟩ := HI.out.at_ (by omega)
        have c1 : w.cell? ⟨b1, o1 + k, none⟩ = some (.int .i64 (intAt (nats (ndAt G n).args) k)) := hc1 k hlk
        rw [nats_at hkm] at c1
        have HTK := Lib.hid (nat_take hkm)
        have hmem := natAt_mem hkm
        have hxN := HA.out _ hmem
        obtain ⟨_, _, c3, _⟩ := HALL.out _ hxN
        rw [ndAt_len] at c3
        have hl49 := HLE.out _ hxN
        have HW := fun (e : rt n = n) (h0 : lenAt G (natAt (ndAt G n).args k) = 0) => lenOf_wait e hmem h0
        have HWA := Lib.hid HW
        obtain ⟨x, hx⟩ : ∃ x, x = natAt (ndAt G n).args k := ⟨_, rfl⟩
        rw [← hx] at c1 c3 hxN HTK hl49 HWA
        rw [← HN.out] at hxN
        obtain ⟨l, hl⟩ : ∃ l, l = lenAt G x := ⟨_, rfl⟩
        rw [← hl] at c3 hl49 HWA
        have HLL := Lib.hid hl
        clear hc1 hkm hmem HW hx hl
        have i0 : (0 : Int) ≤ (k : Int) := by omega
        have i1 : (k : Int) < (m : Int) := by omega
        have i2 : (0 : Int) ≤ (x : Int) := by omega
        have i3 : (x : Int) < (N : Int) := by omega
        by_cases h0 : l = 0
        · subst h0
          go_wp2
          go_ret
          exact ⟨ret_int (by rw [HWA.out (by rw [← HQ.out]; exact HE.out) (by first | trivial | rfl)]; rfl), rfl⟩
        · have h0' : ¬ (l : Int) = 0 := by omega
          have H0 := Lib.hid h0
          clear h0
          go_wp2
          go_round
          case rel =>
            refine ⟨k + 1, t + l, by go_num, by go_num, by omega, ?_, by omega, ?_⟩
            · rw [HTK.out, sumN_append, HT.out, HLL.out]; simp [sumN]; omega
            · intro y hy
              rw [HTK.out] at hy
              rcases List.mem_append.1 hy with h' | h'
              · exact HP.out y h'
              · simp at h'; subst h'; rw [← HLL.out]; have := H0.out; omega
          case measure => simp [intOf]; omega
      · obtain rfl : k = m := by omega
        have HTT : Hid ((ndAt G n).args.take k = (ndAt G n).args) := by show (ndAt G n).args.take k = _; exact List.take_of_length_le (by rw [← HM.out]; omega)
        have HS := Lib.hid (lenOf_sum (G := G) (rt := rt) (n := n) (by rw [← HQ.out]; exact HE.out) (by have := HP.out; rw [HTT.out] at this; exact this))
        go_wp2
        all_goals
          go_ret
          refine ⟨ret_int ?_, rfl⟩
          rw [HS.out]
          have := HT.out
          rw [HTT.out] at this
          rw [← this]
          omega
  · have e' : ((q : Int) != (n : Int)) = true := by simp; omega
    have HE := Lib.hid e
    clear e
    obtain ⟨_, _, c3, _⟩ := HALL.out q (by rw [← HN.out]; exact r1)
    rw [ndAt_len] at c3
    have z0 : (0 : Int) ≤ (q : Int) := by omega
    have z1 : (q : Int) < (N : Int) := by omega
    go_enter Try.func35, Try.ntmps35
    go_wp2_with fail
    refine (root_any gb base n G rt d _ HG.out HF.out HNG.out HNN.out).mono ?_
    rintro e w1 ⟨rfl, rfl⟩
    rw [← HQ.out]
    go_wp2
    go_ret
    exact ⟨ret_int (by rw [lenOf_low (by rw [← HQ.out]; exact HE.out), HQ.out]), rfl⟩

end Go.Proofs.Ytmdajmdjmdbonaa

namespace Go.Proofs.Ytmdajmdjmdbonaa
open Go.RowKit
set_option linter.unusedSimpArgs false
set_option linter.unusedVariables false
set_option maxRecDepth 100000

/-- Where lengths are being worked out: the graph in memory, so many left. -/
structure LenW (V : Nat) (ss : List Sym) (D : Nat → List Int) (rt d : Nat → Nat) (L R : List Nat) (gb base N : Nat) (w wr : World) (G : List Nd) : Prop where
  at_ : GraphAt wr base gb G
  cls : Cls V ss G D rt d [] L R
  meas : ∃ M, Meas G rt M
  many : G.length = N
  chg : Chg [68] base w wr
section
variable {V : Nat} {ss : List Sym} {D : Nat → List Int} {rt d : Nat → Nat} {L R : List Nat} {gb base N n : Nat} {w wr : World} {G : List Nd}
theorem LenW.le (h : LenW V ss D rt d L R gb base N w wr G) : ∀ k, k < G.length → lenAt G k ≤ 49 := by
  intro k hk
  obtain ⟨M, hm⟩ := h.meas
  by_cases h0 : 0 < lenAt G k
  · have := (hm k hk h0).1; omega
  · omega
theorem LenW.args (h : LenW V ss D rt d L R gb base N w wr G) (hmay : mayB ss = true) (hn : n < G.length) : (ndAt G n).args.length ≤ 100 := by
  rcases Nat.lt_or_ge n V with h1 | h1
  · rw [(h.cls.st.var n h1).2.1]; simp
  · have := ar_le hmay (h.cls.st.sym n h1 hn).2; omega
theorem LenW.step (h : LenW V ss D rt d L R gb base N w wr G) (hn : n < G.length) (h0 : lenAt G n = 0) {nb cap : Nat} (hcell : wr.cell? ⟨gb, 0, none⟩ = some (.slice (some ⟨nb, 0, none⟩) G.length cap)) :
    LenW V ss D rt d L R gb base N w (wr.setCell ⟨nb, n * 4 + 3, none⟩ (.int .i64 (lenOf G rt n : Int))) (setLen G n (lenOf G rt n)) := by
  obtain ⟨_, ⟨k1, k2⟩, _⟩ := h.at_.set hn hcell (lenOf G rt n)
  refine ⟨k1, h.cls.of_eq (setLen_length ..) (fun k => setLen_code hn) (fun k => setLen_args hn) (fun k => setLen_up hn), ?_, by rw [setLen_length]; exact h.many, h.chg.trans k2⟩
  obtain ⟨M, hm⟩ := h.meas
  obtain ⟨r1, _, r3⟩ := h.cls.fo.root hn
  by_cases hp : 0 < lenOf G rt n
  · exact hm.step h.cls.st hn r1 r3 h0 hp
  · have e : lenOf G rt n = 0 := by omega
    rw [e, left_same hn h0]; exact ⟨M, hm⟩
theorem LenW.start (h : GraphAt w base gb G) (hc : Cls V ss G D rt d [] L R) (hz : ∀ k, k < G.length → lenAt G k = 0) : LenW V ss D rt d L R gb base G.length w w G :=
  ⟨h, hc, ⟨fun _ => [], fun k hk hp => by have := hz k hk; omega⟩, rfl, Chg.refl⟩
theorem LenW.drew (h : LenW V ss D rt d L R gb base N w wr G) : LenW V ss D rt d L R gb base N w wr.drew G :=
  ⟨h.at_.on (Below.refl _ _).drew, h.cls, h.meas, h.many, ⟨h.chg.bel.drew, h.chg.blk⟩⟩
end
theorem GraphAt.nodes {w : World} {base gb nb N cap : Nat} {G : List Nd} (h : GraphAt w base gb G) (hcell : w.cell? ⟨gb, 0, none⟩ = some (.slice (some ⟨nb, 0, none⟩) N cap)) :
    gb ≠ nb ∧ N = G.length ∧ (∀ j, w.frozen? ⟨nb, j, none⟩ = false) ∧ (∀ j u, (w.setCell ⟨nb, j, none⟩ u).cell? ⟨gb, 0, none⟩ = some (.slice (some ⟨nb, 0, none⟩) N cap)) ∧
    ∀ i, i < G.length → w.cell? ⟨nb, i * 4, none⟩ = some (.int .i64 (ndAt G i).code) ∧ w.cell? ⟨nb, i * 4 + 2, none⟩ = some (.int .i64 ((ndAt G i).up : Int)) ∧ w.cell? ⟨nb, i * 4 + 3, none⟩ = some (.int .i64 ((ndAt G i).len : Int)) := by
  obtain ⟨v, q1, q2, vs, q3, q4, q5⟩ := h
  have hcell' := hcell
  rw [cell_of_row _ _ 0 _ _ _ q1] at hcell
  have hv : v = .slice (some ⟨nb, 0, none⟩) N cap := by simpa using hcell
  subst hv
  obtain ⟨cur, hb, hc, hN⟩ : ∃ cur, base ≤ nb ∧ w.heap[nb]? = some (.cells cur 68 (0, 0)) ∧ N = G.length := by
    rcases q4.2 with ⟨q, _⟩ | ⟨nb', cap', cur, q, hb, hc, hn, _⟩
    · cases q
    · simp only [Value.slice.injEq, Option.some.injEq, Addr.mk.injEq] at q
      obtain ⟨⟨rfl, -, -⟩, rfl, -⟩ := q
      exact ⟨cur, hb, hc, rfl⟩
  subst hN
  have hne : gb ≠ nb := by
    rintro rfl
    rw [q1] at hc
    injection hc with hc
    injection hc with _ q
    revert q
    decide
  refine ⟨hne, rfl, fun j => q4.frozenAt j, fun j u => ?_, fun i hi => ?_⟩
  · rw [← hcell']
    exact World.cell?_of_block (Below.heap_setCell _ _ _ _ hne)
  · obtain ⟨d0, d1, d2, d3⟩ := ndCells_get G vs q3 i hi
    have c0 := q4.cellAt (i * 4) (by omega)
    have c2 := q4.cellAt (i * 4 + 2) (by omega)
    have c3 := q4.cellAt (i * 4 + 3) (by omega)
    rw [d0] at c0
    rw [d2] at c2
    rw [d3] at c3
    exact ⟨c0, c2, c3⟩
theorem left_le (G : List Nd) : left G ≤ G.length := cnt_le _ _

/-- What measure tells. -/
def MeasTold (V : Nat) (ss : List Sym) (D : Nat → List Int) (rt d : Nat → Nat) (L R : List Nat) (gb base N : Nat) (w : World) (e : Ending) (w' : World) : Prop :=
  ((e = .returned (.bool true) ∧ ∃ G M, GraphAt w' base gb G ∧ Full V ss G D rt d L R M ∧ G.length = N) ∨
   (e = .returned (.bool false) ∧ ∀ θ, Sub V ss θ → ¬ ∀ p ∈ L.zip R, ap θ (D p.1) = ap θ (D p.2))) ∧ Chg [68] base w w'

set_option maxHeartbeats 4000000 in
theorem measureG_any (V : Nat) (hV : 0 < V) (ss : List Sym) (D : Nat → List Int) (rt d : Nat → Nat) (L R : List Nat) (gb base : Nat) (G : List Nd) (w : World) (hmay : mayB ss = true) (h : GraphAt w base gb G) (hc : Cls V ss G D rt d [] L R)
    (hz : ∀ k, k < G.length → lenAt G k = 0) (hN : G.length ≤ 1000) :
    Calls Try.prog 27 #[.pointer (some ⟨gb, 0, none⟩)] w (MeasTold V ss D rt d L R gb base G.length w) := by
  have HM := Lib.hid hmay
  have hmany := hc.st.many
  obtain ⟨nb, cap, hb, hlt, hcap, hcell, hall⟩ := h.cells (by omega)
  have hL0 : left G = G.length := cnt_all fun k hk => by rw [hz k hk]; simp
  have HST := Lib.hid (LenW.start h hc hz)
  obtain ⟨N, hNe⟩ : ∃ N, N = G.length := ⟨_, rfl⟩
  rw [← hNe] at hcell hN hcap hL0 HST hmany ⊢
  have HL0 := Lib.hid hL0
  clear hall hNe h hc hmay hz hL0
  go_enter Try.func27, Try.ntmps27
  go_wp2
  go_loopw [3] (fun s wr => ∃ (G' : List Nd) (l : Nat), s = .int .i64 (l : Int) ∧ l = left G' ∧ LenW V ss D rt d L R gb base N w wr G') (fun s _ => (intOf s).toNat)
  case atStart => exact ⟨G, N, rfl, HL0.out.symm, HST.out⟩
  case round =>
    obtain ⟨G', l, rfl, hl, hw⟩ := hrel
    have HL := Lib.hid hl
    have HW := Lib.hid hw
    have hle : l ≤ N := by rw [hl, ← hw.many]; exact left_le _
    clear hl hw
    by_cases h0 : l = 0
    · subst h0
      go_wp2
      go_ret
      obtain ⟨M, hm⟩ := HW.out.meas
      exact ⟨.inl ⟨rfl, G', M, HW.out.at_, hm.full HW.out.cls HL.out.symm, HW.out.many⟩, HW.out.chg⟩
    · have h0' : 0 < l := by omega
      clear h0
      obtain ⟨nb1, cap1, _, _, hcap1, hcell1, _⟩ := HW.out.at_.cells (by rw [HW.out.many]; omega)
      rw [HW.out.many] at hcell1 hcap1
      obtain ⟨wA, hwA⟩ : ∃ wA, wA = wr := ⟨_, rfl⟩
      subst hwA
      go_wp2
      go_loopw [3, 19] (fun s i wr => ∃ (G2 : List Nd) (k t : Nat), i = .int .i64 (k : Int) ∧ s = .int .i64 (t : Int) ∧ t = left G2 ∧ t ≤ l ∧ k ≤ N ∧ LenW V ss D rt d L R gb base N w wr G2 ∧ (t = l → ∀ j, j < k → lenAt G2 j = 0 → lenOf G2 rt j = 0)) (fun _ i _ => N - (intOf i).toNat)
      case atStart => exact ⟨G', 0, l, rfl, rfl, HL.out, by omega, by omega, HW.out, fun _ j hj => absurd hj (by omega)⟩
      case round =>
        obtain ⟨G2, k, t, rfl, rfl, ht, htl, hk, hw2, hst⟩ := hrel
        have HT := Lib.hid ht
        have HW2 := Lib.hid hw2
        have HS := Lib.hid hst
        clear ht hw2 hst
        by_cases hkN : k < N
        · have hkG : k < G2.length := by rw [HW2.out.many]; exact hkN
          obtain ⟨nb2, cap2, _, hnb2, hcap2, hcell2, hall2⟩ := HW2.out.at_.cells (by omega)
          obtain ⟨_, _, c3, _⟩ := hall2 k hkG
          rw [ndAt_len] at c3
          have hfz := (HW2.out.at_.set hkG hcell2 0).2.2
          have HCL := Lib.hid hcell2
          rw [HW2.out.many] at hcell2 hcap2
          have HKG := Lib.hid hkG
          obtain ⟨q, hq⟩ : ∃ q, q = lenAt G2 k := ⟨_, rfl⟩
          rw [← hq] at c3
          have HQ := Lib.hid hq
          clear hall2 hkG hq
          have i0 : (0 : Int) ≤ (k : Int) := by omega
          have i1 : (k : Int) < (N : Int) := by omega
          by_cases hq0 : q = 0
          · subst hq0
            obtain ⟨lo, hlo⟩ : ∃ lo, lo = lenOf G2 rt k := ⟨_, rfl⟩
            have HLO := Lib.hid hlo
            have HSTEP := Lib.hid (HW2.out.step HKG.out HQ.out.symm HCL.out).drew
            rw [← hlo] at HSTEP
            have hfk := hfz (k * 4 + 3)
            have hcellN := (HW2.out.at_.nodes hcell2).2.2.2.1 (k * 4 + 3) (.int .i64 (lo : Int))
            clear hlo hfz
            go_wp2_with fail
            refine wp_region_held_drew (S := (fun w' => w'.cell? ⟨gb, 0, none⟩ = some (.slice (some ⟨nb2, 0, none⟩) N cap2) ∧ w'.frozen? ⟨nb2, k * 4 + 3, none⟩ = false)) (by kernel_rfl) ⟨hcell2, hfk⟩ (fun hHeld => ?_)
            refine takeH (i := 0) (v := ?_) rfl rfl (by kernel_rfl) (by kernel_rfl) (by kernel_rfl) (fun _ _ _ h => h) (by rfl) ?_ hHeld ?_
            rotate_left
            · (intro w hSw; (try dsimp only at hSw); first | (go_simp; done) | (go_simp; with_reducible rfl))
            simp only [Act.put, List.setIfInBounds_toArray, List.set_cons_zero, List.set_cons_succ]
            refine takeH (i := 1) (v := ?_) rfl rfl (by kernel_rfl) (by kernel_rfl) (by kernel_rfl) (fun _ _ _ h => h) (by rfl) ?_ hHeld ?_
            rotate_left
            · (intro w hSw; (try dsimp only at hSw); first | (go_simp; done) | (go_simp; with_reducible rfl))
            simp only [Act.put, List.setIfInBounds_toArray, List.set_cons_zero, List.set_cons_succ]
            refine takeH (i := 2) (v := ?_) rfl rfl (by kernel_rfl) (by kernel_rfl) (by kernel_rfl) (fun _ _ _ h => h) (by rfl) ?_ hHeld ?_
            rotate_left
            · (intro w hSw; (try dsimp only at hSw); first | (go_simp; done) | (go_simp; with_reducible rfl))
            simp only [Act.put, List.setIfInBounds_toArray, List.set_cons_zero, List.set_cons_succ]
            refine takeH (i := 3) (v := ?_) rfl rfl (by kernel_rfl) (by kernel_rfl) (by kernel_rfl) (fun _ _ _ h => h) (by rfl) ?_ hHeld ?_
            rotate_left
            · (intro w hSw; (try dsimp only at hSw); first | (go_simp; done) | (go_simp; with_reducible rfl))
            simp only [Act.put, List.setIfInBounds_toArray, List.set_cons_zero, List.set_cons_succ]
            refine takeH (i := 4) (v := ?_) rfl rfl (by kernel_rfl) (by kernel_rfl) (by kernel_rfl) (fun _ _ _ h => h) (by rfl) ?_ hHeld ?_
            rotate_left
            · (intro w hSw; (try dsimp only at hSw); first | (go_simp; done) | (go_simp; with_reducible rfl))
            simp only [Act.put, List.setIfInBounds_toArray, List.set_cons_zero, List.set_cons_succ]
            refine takeH (i := 5) (v := ?_) rfl rfl (by kernel_rfl) (by kernel_rfl) (by kernel_rfl) (fun _ _ _ h => h) (by rfl) ?_ hHeld ?_
            rotate_left
            · (intro w hSw; (try dsimp only at hSw); first | (go_simp; done) | (go_simp; with_reducible rfl))
            simp only [Act.put, List.setIfInBounds_toArray, List.set_cons_zero, List.set_cons_succ]
            refine takeH (i := 6) (v := ?_) rfl rfl (by kernel_rfl) (by kernel_rfl) (by kernel_rfl) (fun _ _ _ h => h) (by rfl) ?_ hHeld ?_
            rotate_left
            · (intro w hSw; (try dsimp only at hSw); first | (go_simp; done) | (go_simp; with_reducible rfl))
            simp only [Act.put, List.setIfInBounds_toArray, List.set_cons_zero, List.set_cons_succ]
            refine wpAnyH_ready (rs := [7]) (by kernel_rfl) (by simp) ?_
            refine AllReadyH.cons rfl (fun K hK => ?_) AllReadyH.nil
            go_simp
            refine (lengthOf_any gb base k G2 rt d _ HW2.out.drew.at_ HW2.out.cls.fo HKG.out (by rw [HW2.out.many]; exact hN) (HW2.out.cls.st.arg k HKG.out) HW2.out.le (HW2.out.args HM.out HKG.out)).mono ?_
            rintro e w1 ⟨rfl, rfl⟩
            rw [← HLO.out]
            go_wp2_with fail
            refine hK.out _ _ ?_ (fun hHeld => ?_)
            · exact ⟨hcell2, hfk⟩
            clear hK K
            refine takeH (i := 8) (v := ?_) rfl rfl (by kernel_rfl) (by kernel_rfl) (by kernel_rfl) (fun _ _ _ h => h) (by rfl) ?_ hHeld ?_
            rotate_left
            · (intro w hSw; (try dsimp only at hSw); first | (go_simp; done) | (go_simp; with_reducible rfl))
            simp only [Act.put, List.setIfInBounds_toArray, List.set_cons_zero, List.set_cons_succ]
            refine takeH (i := 9) (v := ?_) rfl rfl (by kernel_rfl) (by kernel_rfl) (by kernel_rfl) (fun _ _ _ h => h) (by rfl) ?_ hHeld ?_
            rotate_left
            · (intro w hSw; (try dsimp only at hSw); first | (go_simp; done) | (go_simp; with_reducible rfl))
            simp only [Act.put, List.setIfInBounds_toArray, List.set_cons_zero, List.set_cons_succ]
            refine wpAnyH_ready (rs := [10]) (by kernel_rfl) (by simp) ?_
            refine AllReadyH.cons rfl (fun K hK => ?_) AllReadyH.nil
            go_simp
            obtain ⟨w3, hw3⟩ : ∃ w3, w3 = (wr.setCell ⟨nb2, k * 4 + 3, none⟩ (.int .i64 (lo : Int))).drew := ⟨_, rfl⟩
            rw [← hw3]
            rw [← hw3] at HSTEP
            have hcell3 : w3.cell? ⟨gb, 0, none⟩ = some (.slice (some ⟨nb2, 0, none⟩) N cap2) := by rw [hw3]; exact hcellN
            obtain ⟨_, _, hfz3, _, hall3⟩ := HSTEP.out.at_.nodes hcell3
            have c33 := (hall3 k (by rw [setLen_length]; exact HKG.out)).2.2
            rw [ndAt_len, setLen_at HKG.out, if_pos rfl] at c33
            have hfk3 := hfz3 (k * 4 + 3)
            clear hw3 hall3 hfz3 hcellN
            refine hK.out _ _ ?_ (fun hHeld => ?_)
            · exact ⟨hcell3, hfk3⟩
            clear hK K hcell2 c3 hfk
            refine wpAnyH_done (by kernel_rfl) ?_ _
            by_cases hlo0 : lo = 0
            · subst hlo0
              have HSAME := Lib.hid (left_same HKG.out HQ.out.symm)
              go_wp2
              go_roundw
              case rel =>
                have hst := HSTEP.out
                rw [HSAME.out] at hst
                refine ⟨G2, k + 1, t, by go_num, rfl, HT.out, htl, by omega, hst, fun e j hj hz => ?_⟩
                by_cases ej : j = k
                · subst ej; exact HLO.out.symm
                · exact HS.out e j (by omega) hz
              case measure => simp [intOf]; omega
            · have hlo1 : 0 < lo := by omega
              have HLEFT := Lib.hid (left_set (l := lo) HKG.out HQ.out.symm hlo1)
              have ht1 : 1 ≤ t := by rw [HT.out, HLEFT.out]; omega
              have HLT : Hid (left (setLen G2 k lo) = t - 1) := by show left (setLen G2 k lo) = t - 1; rw [HT.out, HLEFT.out]; omega
              clear hlo0
              go_wp2
              go_roundw
              case rel => exact ⟨setLen G2 k lo, k + 1, t - 1, by go_num, by go_num, HLT.out.symm, by omega, by omega, HSTEP.out, fun e => by omega⟩
              case measure => simp [intOf]; omega
          · have hq1 : 0 < q := by omega
            clear hq0
            go_wp2
            go_roundw
            case rel =>
              refine ⟨G2, k + 1, t, by go_num, rfl, HT.out, htl, by omega, HW2.out, fun e j hj hz => ?_⟩
              by_cases ej : j = k
              · subst ej; rw [← HQ.out] at hz; omega
              · exact HS.out e j (by omega) hz
            case measure => simp [intOf]; omega
        · obtain rfl : k = N := by omega
          by_cases htl2 : t = l
          · subst htl2
            have HNO := Lib.hid (HW2.out.cls.stuck (by rw [HW2.out.many]; exact fun n hn => HS.out rfl n hn) (by rw [← HT.out]; exact h0'))
            go_wp2
            go_ret
            exact ⟨.inr ⟨rfl, HNO.out⟩, HW2.out.chg⟩
          · have htl3 : ¬ (t : Int) = (l : Int) := by omega
            clear htl2
            go_wp2
            go_roundw
            case rel => exact ⟨G2, t, rfl, HT.out, HW2.out⟩
            case measure => simp [intOf]; omega

end Go.Proofs.Ytmdajmdjmdbonaa

namespace Go.Proofs.Ytmdajmdjmdbonaa
open Go.RowKit
set_option linter.unusedSimpArgs false
set_option linter.unusedVariables false
set_option maxRecDepth 100000

section
variable {V : Nat} {ss : List Sym} {D : Nat → List Int} {rt d : Nat → Nat} {L R : List Nat} {G : List Nd} {M : Nat → List Int}
theorem Full.args_len (h : Full V ss G D rt d L R M) (hmay : mayB ss = true) {n : Nat} (hn : n < G.length) : (ndAt G (rt n)).args.length ≤ 100 := by
  obtain ⟨r1, _, _⟩ := h.cls.fo.root hn
  rcases Nat.lt_or_ge (rt n) V with h1 | h1
  · rw [(h.cls.st.var _ h1).2.1]; simp
  · have := ar_le hmay (h.cls.st.sym _ h1 r1).2; omega
end
theorem flatMap_take_le (xs : List Nat) (F : Nat → List Int) (k : Nat) : ((xs.take k).flatMap F).length ≤ (xs.flatMap F).length := by
  have : xs.flatMap F = (xs.take k).flatMap F ++ (xs.drop k).flatMap F := by rw [← List.flatMap_append, List.take_append_drop]
  rw [this, List.length_append]; omega

set_option maxHeartbeats 4000000 in
theorem write_any (V : Nat) (ss : List Sym) (D : Nat → List Int) (rt d : Nat → Nat) (L R : List Nat) (gb base : Nat) (G : List Nd) (M : Nat → List Int) (w0 : World) (hmay : mayB ss = true) (h : GraphAt w0 base gb G) (hfull : Full V ss G D rt d L R M) (hN : G.length ≤ 1000) :
    ∀ (K n : Nat) (v : Value) (xs : List Int) (w : World), n < G.length → (M n).length ≤ K → Below w0.heap.size w0 w → OwnI w w0.heap.size v xs → xs.length + (M n).length ≤ 1000 →
    Calls Try.prog 29 #[.pointer (some ⟨gb, 0, none⟩), v, .int .i64 (n : Int)] w fun e w' => ∃ v', e = .returned v' ∧ OwnI w' w0.heap.size v' (xs ++ M n) ∧ Below w0.heap.size w w' := by
  have HG := Lib.hid h
  have HF := Lib.hid hfull
  have HM := Lib.hid hmay
  have HNN := Lib.hid hN
  clear h hfull hmay hN
  intro K
  induction K with
  | zero =>
    intro n v xs w hn hK
    have := trm_pos (HF.out.trm hn)
    omega
  | succ K ih =>
    intro n v xs w hn hK hbel hown hlen
    have HIH := Lib.hid ih
    have HBEL := Lib.hid hbel
    have HOWN := Lib.hid hown
    have HNG := Lib.hid hn
    have HKL := Lib.hid hK
    have HLEN := Lib.hid hlen
    have hsz := hbel.size
    obtain ⟨r1, r2, r3⟩ := HF.out.cls.fo.root hn
    have HAT := Lib.hid (HF.out.at hn)
    have hal := HF.out.args_len HM.out hn
    obtain ⟨q, hq⟩ : ∃ q, q = rt n := ⟨_, rfl⟩
    have HQ := Lib.hid hq
    rw [← hq] at r1 HAT hal
    have HR1 := Lib.hid r1
    obtain ⟨nb, cap, hb, hlt, hcap, hcell0, hall⟩ := HG.out.cells (by omega)
    obtain ⟨c00, _, _, A, c, hargs0, hcc, hints⟩ := hall q r1
    have hgb := HG.out.lt
    have hcell := (hbel.cell (p := ⟨gb, 0, none⟩) hgb).trans hcell0
    have c0 := (hbel.cell (p := ⟨nb, q * 4, none⟩) hlt).trans c00
    have HC0 := Lib.hid hcell0
    have HA0 := Lib.hid hargs0
    have HLT := Lib.hid hlt
    have HI := Lib.hid hints
    obtain ⟨m, hm⟩ : ∃ m, m = (ndAt G q).args.length := ⟨_, rfl⟩
    obtain ⟨cd, hcd⟩ : ∃ cd, cd = (ndAt G q).code := ⟨_, rfl⟩
    obtain ⟨N, hNe⟩ : ∃ N, N = G.length := ⟨_, rfl⟩
    have HN := Lib.hid hNe
    have HMM := Lib.hid hm
    have HCD := Lib.hid hcd
    rw [← hm] at HA0 HI hal
    rw [← hcd] at c0 HAT
    rw [← hNe] at r1 hn hcell hcap HC0
    have hxl : xs.length + 1 ≤ 17592186044416 := by omega
    have z0 : (0 : Int) ≤ (q : Int) := by omega
    have z1 : (q : Int) < (N : Int) := by omega
    have HGB := Lib.hid hgb
    clear ih hbel hown hK hlen r2 r3 hq hints hall hm hcd hNe hcell0 c00 hargs0 hlt hgb
    go_enter Try.func29, Try.ntmps29
    go_wp2_with fail
    refine (root_any gb base n G rt d _ (HG.out.on HBEL.out) HF.out.cls.fo HNG.out HNN.out).mono ?_
    rintro e w1 ⟨rfl, rfl⟩
    rw [← HQ.out]
    go_wp2_with (at_builtin
                 refine app_int1 rfl (.tmp 13) (.tmp 22) rfl w0.heap.size _ _ cd rfl HOWN.out rfl hxl hsz ?_
                 intro v2 w2 hown2 hb2
                 have HO2 := Lib.hid hown2
                 have HB2 := Lib.hid (HBEL.out.trans hb2)
                 have HB2' := Lib.hid hb2
                 have hcell2 := (HB2.out.cell (p := ⟨gb, 0, none⟩) HGB.out).trans HC0.out
                 have hargs2 := (HB2.out.cell (p := ⟨nb, q * 4 + 1, none⟩) HLT.out).trans HA0.out
                 clear hown2 hb2)
    go_loopw [1, 33] (fun o i wr => ∃ k : Nat, i = .int .i64 k ∧ k ≤ m ∧ OwnI wr w0.heap.size o (xs ++ [cd] ++ ((ndAt G q).args.take k).flatMap M) ∧ Below w0.heap.size w wr) (fun _ i _ => m - (intOf i).toNat)
    case atStart => exact ⟨0, rfl, by omega, HO2.out.cast (by simp), HB2'.out⟩
    case round =>
      obtain ⟨k, rfl, hk, hown, hbw⟩ := hrel
      have HO := Lib.hid hown
      have HBW := Lib.hid hbw
      clear hown hbw
      by_cases hlk : k < m
      · have hkm : k < (ndAt G q).args.length := by rw [← HMM.out]; exact hlk
        have hmem := natAt_mem hkm
        have hxN := HF.out.argN HNG.out (x := natAt (ndAt G q).args k) (by rw [← HQ.out]; exact hmem)
        have hsh := HF.out.shorter HNG.out (x := natAt (ndAt G q).args k) (by rw [← HQ.out]; exact hmem)
        have HTK := Lib.hid (nat_take hkm)
        have htl := flatMap_take_le (ndAt G q).args M (k + 1)
        obtain ⟨b1, o1, rfl, hb1, hc1⟩ := HI.out.at_ (by omega)
        have HBWR := Lib.hid (HBEL.out.trans HBW.out)
        have c1 : wr.cell? ⟨b1, o1 + k, none⟩ = some (.int .i64 (intAt (nats (ndAt G q).args) k)) := (HBWR.out.cell (p := ⟨b1, o1 + k, none⟩) hb1).trans (hc1 k hlk)
        rw [nats_at hkm] at c1
        have hl1 := HLEN.out
        have hl2 := HKL.out
        rw [HAT.out, List.length_cons] at hl1 hl2
        have HFM : Hid (((ndAt G q).args.take (k + 1)).flatMap M = ((ndAt G q).args.take k).flatMap M ++ M (natAt (ndAt G q).args k)) := by
          show _ = _
          rw [HTK.out, List.flatMap_append]; simp
        have hl3 := congrArg List.length HFM.out
        rw [List.length_append] at hl3
        obtain ⟨x, hx⟩ : ∃ x, x = natAt (ndAt G q).args k := ⟨_, rfl⟩
        rw [← hx] at c1 hxN hsh HFM hl3
        rw [HAT.out, List.length_cons] at hsh
        have HXN := Lib.hid hxN
        have HK2 : Hid ((M x).length ≤ K) := by show (M x).length ≤ K; omega
        have HL2 : Hid ((xs ++ [cd] ++ ((ndAt G q).args.take k).flatMap M).length + (M x).length ≤ 1000) := by show _ ≤ _; simp only [List.length_append, List.length_cons, List.length_nil]; omega
        clear hc1 hkm hmem hxN hsh hl1 hl2 hl3 htl hx
        have i0 : (0 : Int) ≤ (k : Int) := by omega
        have i1 : (k : Int) < (m : Int) := by omega
        go_wp2_with fail
        refine (HIH.out x _ _ _ HXN.out HK2.out HBWR.out HO.out HL2.out).mono ?_
        rintro e w3 ⟨v3, rfl, hv3, hb3⟩
        have HO3 := Lib.hid hv3
        have HB3 := Lib.hid (HBW.out.trans hb3)
        clear hv3 hb3
        go_wp2
        go_roundw
        case rel => exact ⟨k + 1, by go_num, by omega, HO3.out.cast (by rw [HFM.out]; simp), HB3.out⟩
        case measure => simp [intOf]; omega
      · obtain rfl : k = m := by omega
        have HTT : Hid ((ndAt G q).args.take k = (ndAt G q).args) := by show (ndAt G q).args.take k = _; exact List.take_of_length_le (by rw [← HMM.out]; omega)
        go_wp2
        go_ret
        exact ⟨_, rfl, HO.out.cast (by rw [HTT.out, HAT.out]; simp), HBW.out⟩

end Go.Proofs.Ytmdajmdjmdbonaa

namespace Go.Proofs.Ytmdajmdjmdbonaa
open Go.RowKit
set_option linter.unusedSimpArgs false
set_option linter.unusedVariables false
set_option maxRecDepth 100000

/-- As OwnN, GraphAt; and no node's row lies in block x. -/
def OwnX (w : World) (base : Nat) (v : Value) (G : List Nd) (x : Option Nat) : Prop :=
  ∃ vs : List Value, vs.length = G.length ∧ w.ownsRow base 68 4 v G.length (ndCells G vs) ∧ ∀ i, i < G.length → OwnI w base (valAt vs i) (nats (ndAt G i).args) ∧ ((valAt vs i).ownBlock = none ∨ (valAt vs i).ownBlock ≠ x)
def GraphOff (w : World) (base gb : Nat) (G : List Nd) (x : Option Nat) : Prop := ∃ v, w.heap[gb]? = some (.cells #[v] 43 (0, 0)) ∧ base ≤ gb ∧ OwnX w base v G x
section
variable {w w' : World} {base gb : Nat} {v u : Value} {G : List Nd} {x : Option Nat}
theorem OwnX.value (h : OwnX w base v G x) : ∃ A c, v = .slice A G.length c := by
  obtain ⟨vs, h1, h2, h3⟩ := h
  rcases h2.2 with ⟨q, e⟩ | ⟨g, cap, cur, q, _⟩
  · rw [e]; exact ⟨_, _, q⟩
  · exact ⟨_, _, q⟩
theorem OwnX.chg {es : List TypeId} {b : Nat} (h : OwnX w base v G x) (hc : Chg es b w w') (h2 : 68 ∉ es) (h3 : 3 ∉ es) : OwnX w' base v G x := by
  obtain ⟨vs, q3, q4, q5⟩ := h
  exact ⟨vs, q3, hc.rows h2 q4, fun i hi => ⟨hc.own h3 (q5 i hi).1, (q5 i hi).2⟩⟩
/-- 'x = append(x, node{..})', x and the node's row made by the call. -/
theorem app_node_op {o : Oper} {a : Act} {K : Act → World → Prop} {Q : Exit → Act → World → Prop} (s x : Operand)
    (ho : o.op = .call { callee := .builtin .append, args := #[s, x], argTypes := #[41, 41] })
    (base : Nat) (v : Value) (G : List Nd) (nd : Nd) (u : Value) (y : Option Nat) (hs : a.eval s = v) (hown : OwnX w base v G y) (hu : OwnI w base u (nats nd.args)) (huy : u.ownBlock = none ∨ u.ownBlock ≠ y) (hx : a.eval x = .slice (some ⟨w.heap.size, 0, none⟩) 1 1)
    (hlen : G.length + 1 ≤ 1000000) (hbase : base ≤ w.heap.size)
    (h : ∀ v' w', OwnX w' base v' (G ++ [nd]) y → Chg [68] base w w' → K (a.put o.dst v') w') : o.wp Try.prog a (w.alloc (.cells #[.int .i64 nd.code, u, .int .i64 (nd.up : Int), .int .i64 (nd.len : Int)] 68)) K Q := by
  obtain ⟨i0, hi0, hz0, hz1, hz2⟩ := info_parts node_info
  obtain ⟨vs, k1, k2, k3⟩ := hown
  have k2' := World.ownsRow.alloc k2 (.cells #[.int .i64 nd.code, u, .int .i64 (nd.up : Int), .int .i64 (nd.len : Int)] 68)
  have hu1 : u.oneCell' = true := by rcases hu.shape with ⟨rfl, _⟩ | ⟨g, cap, rfl, _⟩ <;> rfl
  refine wp_append_own _ s x 41 ho base 68 i0 _ 4 48 Try.underlying41 hi0 hz0 hz1 hz2 rfl (by omega) v G.length (ndCells G vs) hs k2' ⟨w.heap.size, 0, none⟩ 1 1 [.int .i64 nd.code, u, .int .i64 (nd.up : Int), .int .i64 (nd.len : Int)] hx rfl
    (World.news_of_block (cs := #[.int .i64 nd.code, u, .int .i64 (nd.up : Int), .int .i64 (nd.len : Int)]) (t := 68) (fr := (0, 0)) (heap_alloc_new w _)) (by simp [hu1]; exact ⟨rfl, rfl, rfl⟩) (by unfold maxLen; omega) (by omega) (by simp; omega) ?_
  intro v' w' h1 h2 _
  have hc : Chg [68] base w w' := (Chg.of_below (below_new w _) hbase).trans (Chg.grown h2 k2' (by simp; omega))
  have hni : (3 : TypeId) ∉ [(68 : TypeId)] := by decide
  refine h v' w' ⟨vs ++ [u], by simp [k1], ?_, fun i hi => ?_⟩ hc
  · rw [ndCells_snoc G vs _ u k1, List.length_append]
    exact h1
  · by_cases e : i = G.length
    · subst e
      rw [ndAt_right, ← k1, valAt_right]
      exact ⟨hc.own hni hu, huy⟩
    · have hi' : i < G.length := by simp at hi; omega
      rw [ndAt_left hi', valAt_left (by omega)]
      exact ⟨hc.own hni (k3 i hi').1, (k3 i hi').2⟩
theorem app_node {ops : Array Oper} {rest : List Oper} {o : Oper} {a : Act} {Q : Exit → Act → World → Prop} (hgd : o.guard = none) (s x : Operand)
    (ho : o.op = .call { callee := .builtin .append, args := #[s, x], argTypes := #[41, 41] })
    (base : Nat) (v : Value) (G : List Nd) (nd : Nd) (u : Value) (y : Option Nat) (hs : a.eval s = v) (hown : OwnX w base v G y) (hu : OwnI w base u (nats nd.args)) (huy : u.ownBlock = none ∨ u.ownBlock ≠ y) (hx : a.eval x = .slice (some ⟨w.heap.size, 0, none⟩) 1 1)
    (hlen : G.length + 1 ≤ 1000000) (hbase : base ≤ w.heap.size)
    (h : ∀ v' w', OwnX w' base v' (G ++ [nd]) y → Chg [68] base w w' → wpList Try.prog ops Q rest (a.put o.dst v') w') : wpList Try.prog ops Q (o :: rest) a (w.alloc (.cells #[.int .i64 nd.code, u, .int .i64 (nd.up : Int), .int .i64 (nd.len : Int)] 68)) :=
  wpList_plain hgd fun _ hK => app_node_op s x ho base v G nd u y hs hown hu huy hx hlen hbase fun v' w' h1 h2 => hK _ _ (h v' w' h1 h2)
end

set_option maxHeartbeats 2000000 in
theorem add_any (gb base : Nat) (G : List Nd) (code : Int) (u : Value) (xs : List Nat) (w : World) (x : Option Nat) (h : GraphOff w base gb G x) (hu : OwnI w base u (nats xs)) (hux : u.ownBlock = none ∨ u.ownBlock ≠ x) (hN : G.length ≤ 1000) :
    Calls Try.prog 24 #[.pointer (some ⟨gb, 0, none⟩), .int .i64 code, u] w fun e w' => e = .returned (.int .i64 (G.length : Int)) ∧ GraphOff w' base gb (G ++ [⟨code, xs, G.length, 0⟩]) x ∧ Chg [68, 43] base w w' := by
  obtain ⟨v, hv, hle, hown⟩ := h
  have hgb := (Array.getElem?_eq_some_iff.1 hv).1
  have HUX := Lib.hid hux
  have HOWN := Lib.hid hown
  have HU := Lib.hid hu
  obtain ⟨A, c, rfl⟩ := hown.value
  obtain ⟨A1, c1, rfl⟩ := hu.value_len
  have hcell : w.cell? ⟨gb, 0, none⟩ = some (.slice A G.length c) := by rw [cell_of_row _ _ 0 _ _ _ hv]; rfl
  have HV := Lib.hid hv
  obtain ⟨N, hNe⟩ : ∃ N, N = G.length := ⟨_, rfl⟩
  rw [← hNe] at hcell hN HOWN HV ⊢
  have HN := Lib.hid hNe
  have hbase : base ≤ w.heap.size := by omega
  clear hv hown hu hNe hux
  go_enter Try.func24, Try.ntmps24
  go_wp2_with (at_builtin
               refine app_node rfl (.tmp 17) (.tmp 22) rfl base _ G ⟨code, xs, N, 0⟩ _ x rfl HOWN.out HU.out HUX.out rfl (by rw [← HN.out]; omega) hbase ?_
               intro v' w' hown' hch
               have HO2 := Lib.hid hown'
               have HC2 := Lib.hid hch
               have hblk := hch.blk _ _ _ _ HV.out (by decide)
               have hfz : w'.frozen? ⟨gb, 0, none⟩ = false := frozen_of_row _ _ _ _ _ hblk
               have hcell' : w'.cell? ⟨gb, 0, none⟩ = some (.slice A N c) := by rw [cell_of_row _ _ 0 _ _ _ hblk]; rfl
               obtain ⟨L2, A2, c2, rfl⟩ : ∃ L2 A2 c2, v' = .slice A2 L2 c2 := ⟨_, hown'.value⟩
               have HBK := Lib.hid hblk
               clear hown' hch hblk)
  go_ret
  have hset : Chg [43] base w' (w'.setCell ⟨gb, 0, none⟩ (.slice A2 L2 c2)) := Chg.set HBK.out hle _
  refine ⟨rfl, ⟨_, heap_setCell_same _ _ 0 _ _ _ HBK.out, hle, HO2.out.chg hset (by decide) (by decide)⟩, (HC2.out.wide (fs := [68, 43]) (by simp)).trans (hset.wide (by simp))⟩

theorem GraphOff.forget {w : World} {base gb : Nat} {G : List Nd} {x : Option Nat} (h : GraphOff w base gb G x) : GraphAt w base gb G := by
  obtain ⟨v, q1, q2, vs, q3, q4, q5⟩ := h
  exact ⟨v, q1, q2, vs, q3, q4, fun i hi => (q5 i hi).1⟩
theorem GraphAt.off {w : World} {base gb : Nat} {G : List Nd} (h : GraphAt w base gb G) {x : Option Nat} (hx : ∀ g, x = some g → w.heap.size ≤ g) : GraphOff w base gb G x := by
  obtain ⟨v, q1, q2, vs, q3, q4, q5⟩ := h
  refine ⟨v, q1, q2, vs, q3, q4, fun i hi => ⟨q5 i hi, ?_⟩⟩
  cases e : (valAt vs i).ownBlock with
  | none => exact .inl rfl
  | some k =>
    refine .inr fun e' => ?_
    have h1 := (World.ownsRow.lt (q5 i hi) k e).2
    have h2 := hx k e'.symm
    omega
theorem GraphOff.on {w w' : World} {base gb : Nat} {G : List Nd} {x : Option Nat} (h : GraphOff w base gb G x) (hb : Below w.heap.size w w') : GraphOff w' base gb G x := by
  have hc : Chg [] 0 w w' := Chg.of_below hb (by omega)
  obtain ⟨v, q1, q2, q3⟩ := h
  exact ⟨v, hc.blk _ _ _ _ q1 (by simp), q2, q3.chg hc (by simp) (by simp)⟩
/-- A row of integers grows: the graph stands. -/
theorem GraphOff.grown {w w' : World} {base gb b : Nat} {G : List Nd} {v v' : Value} {xs : List Int} (h : GraphOff w base gb G v.ownBlock) (hv : OwnI w b v xs) (hg : w.grownBy w' v.ownBlock) (hv' : v'.ownBlock = v.ownBlock ∨ ∃ k, w.heap.size ≤ k ∧ v'.ownBlock = some k) : GraphOff w' base gb G v'.ownBlock := by
  obtain ⟨u, q1, q2, vs, q3, q4, q5⟩ := h
  have tag : ∀ (k : Nat) (cs : Array Value) (e : TypeId) (fr : Nat × Nat), w.heap[k]? = some (.cells cs e fr) → e ≠ 3 → some k ≠ v.ownBlock := by
    intro k cs e fr hk he hb
    rcases hv.2 with ⟨rfl, _⟩ | ⟨g, cap, cur, rfl, _, hc, _⟩
    · simp [Value.ownBlock] at hb
    · simp only [Value.ownBlock, Option.some.injEq] at hb
      subst hb
      rw [hk] at hc
      injection hc with hc
      injection hc with _ q
      exact he q
  have stay : ∀ (k : Nat) (cs : Array Value) (e : TypeId) (fr : Nat × Nat), w.heap[k]? = some (.cells cs e fr) → e ≠ 3 → w'.heap[k]? = some (.cells cs e fr) := fun k cs e fr hk he => by
    rw [hg.block k (Array.getElem?_eq_some_iff.1 hk).1 (tag k cs e fr hk he)]; exact hk
  refine ⟨u, stay _ _ _ _ q1 (by decide), q2, vs, q3, ⟨q4.1, ?_⟩, fun i hi => ⟨World.ownsRow.kept (q5 i hi).1 hg (q5 i hi).2, ?_⟩⟩
  · rcases q4.2 with q | ⟨g, cap, cur, r1, r2, r3, r4⟩
    · exact .inl q
    · exact .inr ⟨g, cap, cur, r1, r2, stay _ _ _ _ r3 (by decide), r4⟩
  · rcases hv' with e | ⟨k, hk, e⟩
    · rw [e]; exact (q5 i hi).2
    · cases e2 : (valAt vs i).ownBlock with
      | none => exact .inl rfl
      | some j =>
        refine .inr fun e' => ?_
        rw [e] at e'
        injection e' with e'
        have := (World.ownsRow.lt (q5 i hi).1 j e2).2
        omega
/-- 'x = append(x, y)' of integers, x made by the call: and where it lies. -/
theorem app_int_op {w : World} {o : Oper} {a : Act} {K : Act → World → Prop} {Q : Exit → Act → World → Prop} (s x : Operand)
    (ho : o.op = .call { callee := .builtin .append, args := #[s, x], argTypes := #[23, 23] })
    (base : Nat) (v : Value) (xs : List Int) (y : Int) (hs : a.eval s = v) (hown : OwnI w base v xs) (hx : a.eval x = .slice (some ⟨w.heap.size, 0, none⟩) 1 1)
    (hlen : xs.length + 1 ≤ 1000000) (hbase : base ≤ w.heap.size)
    (h : ∀ v' w', OwnI w' base v' (xs ++ [y]) → (w.alloc (.cells #[.int .i64 y] 3)).grownBy w' v.ownBlock → (v'.ownBlock = v.ownBlock ∨ ∃ k, (w.alloc (.cells #[.int .i64 y] 3)).heap.size ≤ k ∧ v'.ownBlock = some k) → K (a.put o.dst v') w') : o.wp Try.prog a (w.alloc (.cells #[.int .i64 y] 3)) K Q := by
  obtain ⟨i0, hi0, hz0, hz1, hz2⟩ := info_parts int_info
  have hown' := hown.alloc (.cells #[.int .i64 y] 3)
  have hnews := World.news_of_block (cs := #[.int .i64 y]) (t := 3) (fr := (0, 0)) (heap_alloc_new w (.cells #[.int .i64 y] 3))
  obtain ⟨v', w', hr, h2, h3, _⟩ := run_append_own (P := Try.prog) (w.alloc (.cells #[.int .i64 y] 3)) base 23 o.type 3 i0 _ 1 8 Try.underlying23 hi0 hz0 hz1 hz2 rfl (by omega) v xs.length (intCells xs) hown' ⟨w.heap.size, 0, none⟩ 1 1 (intCells [y]) rfl hnews (intCells_oneCell _) (by unfold maxLen; omega) (by omega) (by simp; omega)
  have hblk : v'.ownBlock = v.ownBlock ∨ ∃ k, (w.alloc (.cells #[.int .i64 y] 3)).heap.size ≤ k ∧ v'.ownBlock = some k := by
    rcases hown'.2 with ⟨rfl, h0⟩ | ⟨g, cap, cur, rfl, hbg, hg, hnc, hcm, hcs, htake⟩
    · have hr' := run_append_nil (P := Try.prog) (w.alloc (.cells #[.int .i64 y] 3)) 23 o.type 3 i0 _ Try.underlying23 hi0 hz0 ⟨w.heap.size, 0, none⟩ 1 1 (intCells [y]) (by rw [hz1]; rfl) hnews (by omega) (by omega) (by rw [hz2]; omega)
      rw [hr] at hr'
      injection hr' with e1 e2
      right
      rw [e1]
      exact ⟨_, Nat.le_refl _, rfl⟩
    · by_cases hroom : xs.length + 1 ≤ cap
      · have hr' := run_append_room (P := Try.prog) (w.alloc (.cells #[.int .i64 y] 3)) 23 o.type 3 i0 Try.underlying23 hi0 g xs.length cap cur hg ⟨w.heap.size, 0, none⟩ 1 1 (intCells [y]) (by rw [hz1]; rfl) hnews (intCells_oneCell _) hroom (by rw [hz1, hcs]; simp [intCells]; omega)
        rw [hr] at hr'
        injection hr' with e1 e2
        left
        rw [e1]
        rfl
      · have hr' := run_append_grow (P := Try.prog) (w.alloc (.cells #[.int .i64 y] 3)) 23 o.type 3 i0 _ Try.underlying23 hi0 hz0 ⟨g, 0, none⟩ xs.length cap (intCells xs) (by rw [hz1]; exact hown'.1) (World.ownsRow.cells hown' (g := g) rfl) ⟨w.heap.size, 0, none⟩ 1 1 (intCells [y]) (by rw [hz1]; rfl) hnews (by omega) (by omega) (growslice_fits (by omega) (by rw [hz2]; omega))
        rw [hr] at hr'
        injection hr' with e1 e2
        right
        rw [e1]
        exact ⟨_, Nat.le_refl _, rfl⟩
  unfold Oper.wp execOp
  simp only [ho, resolve, invoke, builtin, Sem.run_bind, Sem.run_pure, Result.andThen_ok, List.map_toArray, List.map_cons, List.map_nil, hs, hx, hr]
  refine h v' w' ?_ h3 hblk
  unfold OwnI
  rw [intCells_append, List.length_append]
  exact h2

theorem intAt_set {xs : List Int} {i k : Nat} {z : Int} (h : i < xs.length) : intAt (xs.set i z) k = if k = i then z else intAt xs k := by
  unfold intAt
  rw [List.getD_eq_getElem?_getD, List.getD_eq_getElem?_getD, List.getElem?_set]
  by_cases e : k = i
  · subst e; simp [h]
  · rw [if_neg (fun h => e h.symm), if_neg e]
theorem intAt_rev {xs : List Int} {p : Nat} (h : p < xs.length) : intAt xs.reverse p = intAt xs (xs.length - 1 - p) := by
  unfold intAt
  rw [List.getD_eq_getElem?_getD, List.getD_eq_getElem?_getD, List.getElem?_reverse h]
set_option maxHeartbeats 2000000 in
theorem reverse_any (base : Nat) (v : Value) (xs : List Int) (w : World) (h : OwnI w base v xs) (hn : xs.length ≤ 1000000) :
    Calls Try.prog 32 #[v] w fun e w' => e = .returned (.tuple #[]) ∧ OwnI w' base v xs.reverse ∧ Below base w w' := by
  obtain ⟨A, c, rfl, hcap, _⟩ := h.intsAt
  have HOWN := Lib.hid h
  obtain ⟨n, hne⟩ : ∃ n, n = xs.length := ⟨_, rfl⟩
  rw [← hne] at hn HOWN ⊢
  have HN := Lib.hid hne
  clear h hne
  go_enter Try.func32, Try.ntmps32
  go_wp2
  go_loopw [2, 3] (fun i j wr => ∃ (k : Nat) (cur : List Int), i = .int .i64 (k : Int) ∧ j = .int .i64 ((n : Int) - 1 - k) ∧ 2 * k ≤ n + 1 ∧ OwnI wr base (.slice A n c) cur ∧ cur.length = n ∧ (∀ p, p < n → intAt cur p = if p < k ∨ n - 1 - p < k then intAt xs (n - 1 - p) else intAt xs p) ∧ Below base w wr) (fun i _ _ => n + 1 - (intOf i).toNat)
  case atStart => exact ⟨0, xs, rfl, by go_num, by omega, HOWN.out, HN.out.symm, fun p hp => by simp, Below.refl _ _⟩
  case round =>
    obtain ⟨k, cur, rfl, rfl, hk, hown, hlen, hat, hbw⟩ := hrel
    have HO := Lib.hid hown
    have HLEN := Lib.hid hlen
    have HAT := Lib.hid hat
    have HBW := Lib.hid hbw
    clear hown hlen hat hbw
    by_cases hlt : 2 * k + 1 < n
    · obtain ⟨g, cap, e1, hg, hgl, _⟩ : ∃ g cap, Value.slice A n c = .slice (some ⟨g, 0, none⟩) n cap ∧ base ≤ g ∧ g < wr.heap.size ∧ n ≤ cap := by
        rcases HO.out.shape with ⟨_, e⟩ | ⟨g, cap, h1, h2, h3, h4⟩
        · have := HLEN.out; rw [e] at this; simp at this; omega
        · rw [HLEN.out] at h1 h4; exact ⟨g, cap, h1, h2, h3, h4⟩
      simp only [Value.slice.injEq] at e1
      obtain ⟨rfl, -, rfl⟩ := e1
      obtain ⟨j, hj⟩ : ∃ j : Nat, j = n - 1 - k := ⟨_, rfl⟩
      have hj' : (n : Int) - 1 - k = (j : Int) := by omega
      rw [hj']
      have HJ := Lib.hid hj
      have hO' := HO.out
      unfold OwnI at hO'
      rw [HLEN.out] at hO'
      have q1 := own_get hO' k (by omega)
      have q2 := own_get hO' j (by omega)
      rw [intCells_get _ _ (by rw [HLEN.out]; omega)] at q1 q2
      have f1 := hO'.frozenAt k
      have f2 := hO'.frozenAt j
      have hk0 : (0 : Int) ≤ (k : Int) := by omega
      have hk1 : (k : Int) < (n : Int) := by omega
      have hj0 : (0 : Int) ≤ (j : Int) := by omega
      have hj1 : (j : Int) < (n : Int) := by omega
      have hkj : (k : Int) < (j : Int) := by omega
      clear hO' hj hj'
      go_wp2_with fail
      go_region
      have HP := Lib.hid ((HO.out.put (i := k) (intAt cur j)).put (i := j) (intAt cur k))
      have HB2 := Lib.hid (((HBW.out.setCell (p := ⟨g, k, none⟩) hg (.int .i64 (intAt cur j))).setCell (p := ⟨g, j, none⟩) hg (.int .i64 (intAt cur k))).drew)
      go_wp2
      go_roundw
      case rel =>
        have hj := HJ.out
        refine ⟨k + 1, (cur.set k (intAt cur j)).set j (intAt cur k), by go_num, ?_, by omega, HP.out, by simp [HLEN.out], fun p hp => ?_, HB2.out⟩
        · show Value.int .i64 _ = _
          congr 1
          omega
        · have hl := HLEN.out
          rw [intAt_set (by simp; omega), intAt_set (by omega)]
          have hA := HAT.out
          by_cases e1 : p = j
          · subst e1
            rw [if_pos rfl, hA k (by omega), if_neg (by omega), if_pos (by omega)]
            congr 1; omega
          · rw [if_neg e1]
            by_cases e2 : p = k
            · subst e2
              rw [if_pos rfl, hA j (by omega), if_neg (by omega), if_pos (by omega), hj]
            · rw [if_neg e2, hA p hp]
              by_cases e3 : p < k ∨ n - 1 - p < k
              · rw [if_pos e3, if_pos (by omega)]
              · rw [if_neg e3, if_neg (by omega)]
      case measure => simp [intOf]; omega
    · have hge : ¬ (k : Int) < (n : Int) - 1 - k := by omega
      have HREV : Hid (cur = xs.reverse) := by
        show cur = xs.reverse
        apply list_int_ext
        · rw [HLEN.out, HN.out]; simp
        · intro p hp
          have hl := HLEN.out
          have hnl := HN.out
          rw [HAT.out p (by omega), intAt_rev (by omega)]
          by_cases e3 : p < k ∨ n - 1 - p < k
          · rw [if_pos e3, hnl]
          · rw [if_neg e3]; congr 1; omega
      go_wp2
      go_end0
      exact ⟨rfl, HO.out.cast HREV.out, HBW.out⟩

end Go.Proofs.Ytmdajmdjmdbonaa

namespace Go.Proofs.Ytmdajmdjmdbonaa
open Go.RowKit
set_option linter.unusedSimpArgs false
set_option linter.unusedVariables false
set_option maxRecDepth 100000

/-- Each node is a class of its own, and has no length. -/
def Fresh (G : List Nd) : Prop := ∀ n, n < G.length → (ndAt G n).up = n ∧ lenAt G n = 0
def newD (D : Nat → List Int) (n : Nat) (r : List Int) : Nat → List Int := fun k => if k = n then r else D k
section
variable {V : Nat} {ss : List Sym} {G : List Nd} {D : Nat → List Int}
theorem Fresh.add (h : Fresh G) (c : Int) (xs : List Nat) : Fresh (G ++ [⟨c, xs, G.length, 0⟩]) := by
  intro n hn
  by_cases e : n = G.length
  · subst e; unfold lenAt; rw [ndAt_right]; exact ⟨rfl, rfl⟩
  · have hn' : n < G.length := by simp at hn; omega
    unfold lenAt; rw [ndAt_left hn']; exact h n hn'
theorem newD_old {n k : Nat} {r : List Int} (h : k ≠ n) : newD D n r k = D k := by unfold newD; rw [if_neg h]
theorem newD_new {n : Nat} {r : List Int} : newD D n r n = r := by unfold newD; rw [if_pos rfl]
theorem newD_flat {n : Nat} {r : List Int} {xs : List Nat} (h : ∀ x ∈ xs, x < n) : xs.flatMap (newD D n r) = xs.flatMap D := flatMap_congr' fun x hx => newD_old (by have := h x hx; omega)
theorem Stands.add (h : Stands V ss G D) {c : Int} {xs : List Nat} (h0 : 0 ≤ c) (ha : arOf ss c = some xs.length) (hx : ∀ x ∈ xs, x < G.length) : Stands V ss (G ++ [⟨c, xs, G.length, 0⟩]) (newD D G.length (c :: xs.flatMap D)) := by
  have hm := h.many
  have old : ∀ n, n < (G ++ [(⟨c, xs, G.length, 0⟩ : Nd)]).length → n ≠ G.length → n < G.length := fun n hn e => by simp at hn; omega
  have ht : trm V ss (c :: xs.flatMap D) 1 := by
    have := trm_sym h0 ha (trm_flatMap (V := V) (F := D) fun x hx' => h.one x (hx x hx')) (Nat.le_refl _)
    rw [Nat.sub_self, Nat.zero_add] at this
    exact this
  refine ⟨by simp; omega, fun v hv => ?_, fun n h1 h2 => ?_, fun n hn => ?_, fun n hn => ?_, fun n hn => ?_⟩
  · rw [ndAt_left (by omega), newD_old (by omega)]; exact h.var v hv
  · by_cases e : n = G.length
    · subst e; rw [ndAt_right]; exact ⟨h0, ha⟩
    · rw [ndAt_left (old n h2 e)]; exact h.sym n h1 (old n h2 e)
  · by_cases e : n = G.length
    · subst e; rw [ndAt_right]; intro x hx'; have := hx x hx'; simp; omega
    · rw [ndAt_left (old n hn e)]; intro x hx'; have := h.arg n (old n hn e) x hx'; simp; omega
  · by_cases e : n = G.length
    · subst e; rw [ndAt_right, newD_new, newD_flat hx]
    · rw [ndAt_left (old n hn e), newD_old e, newD_flat (h.arg n (old n hn e))]; exact h.eqn n (old n hn e)
  · by_cases e : n = G.length
    · subst e; rw [newD_new]; exact ht
    · rw [newD_old e]; exact h.one n (old n hn e)
end
/-- The graph with the nodes of a row's codes from a place on; ts: the nodes of the terms, the last one first. -/
structure Readd (V : Nat) (ss : List Sym) (G0 : List Nd) (D0 : Nat → List Int) (r : List Int) (k : Nat) (G : List Nd) (D : Nat → List Int) (ts : List Nat) : Prop where
  st : Stands V ss G D
  fresh : Fresh G
  grow : G0.length ≤ G.length
  few : G.length + k ≤ G0.length + r.length
  old : ∀ n, n < G0.length → D n = D0 n
  lt : ∀ t ∈ ts, t < G.length
  eq : ts.reverse.flatMap D = r.drop k
section
variable {V : Nat} {ss : List Sym} {G0 G : List Nd} {D0 D : Nat → List Int} {r : List Int} {k : Nat} {ts : List Nat}
theorem Readd.start (h : Stands V ss G0 D0) (hf : Fresh G0) : Readd V ss G0 D0 r r.length G0 D0 [] :=
  ⟨h, hf, Nat.le_refl _, Nat.le_refl _, fun _ _ => rfl, by simp, by simp⟩
theorem Readd.count (h : Readd V ss G0 D0 r k G D ts) : trm V ss (r.drop k) ts.length := by
  rw [← h.eq]
  have := trm_flatMap (V := V) (ss := ss) (xs := ts.reverse) (F := D) fun x hx => h.st.one x (h.lt x (by simpa using hx))
  simpa using this
theorem Readd.var (h : Readd V ss G0 D0 r (k + 1) G D ts) (hk : k < r.length) {v : Nat} (hv : v < V) (hc : intAt r k = -1 - (v : Int)) : Readd V ss G0 D0 r k G D (ts ++ [v]) := by
  refine ⟨h.st, h.fresh, h.grow, by have := h.few; omega, h.old, fun t ht => ?_, ?_⟩
  · rcases List.mem_append.1 ht with h' | h'
    · exact h.lt t h'
    · simp at h'; subst h'; exact Nat.lt_of_lt_of_le hv h.st.many
  · rw [List.reverse_append, List.flatMap_append, h.eq, drop_get hk (intAt_get hk), hc]
    simp [(h.st.var v hv).2.2]
theorem trm_wide {V V' : Nat} {ss : List Sym} {r : List Int} {k : Nat} (h : trm V ss r k) (hV : V ≤ V') : trm V' ss r k := ⟨h.1, fun c hc => by have := h.2 c hc; omega⟩
theorem Readd.arity {y : Nat} (hy : y + 24 ≤ V) (h : Readd V ss G0 D0 (farR y r) (k + 1) G D ts) {ms : List (Nat × Nat)} (hr : tl ss r = some ms) (hk : k < r.length) : ∃ a, arOf ss (intAt r k) = some a ∧ a ≤ ts.length := by
  obtain ⟨ns, hn⟩ := tl_drop_some hr k
  rw [drop_get hk (intAt_get hk)] at hn
  obtain ⟨qs, a, h1, h2, h3, _⟩ := tl_cons_inv hn
  have h4 := h.count
  rw [farR_drop] at h4
  have := trm_uniq' (trm_wide (trm_farR (y := y) (trm_of_tl h1)) hy) h4 rfl
  exact ⟨a, h2, by omega⟩
theorem Readd.sym (h : Readd V ss G0 D0 r (k + 1) G D ts) (hk : k < r.length) {a p : Nat} (h0 : 0 ≤ intAt r k) (ha : arOf ss (intAt r k) = some a) (hp : p + a = ts.length) :
    Readd V ss G0 D0 r k (G ++ [⟨intAt r k, (ts.drop p).reverse, G.length, 0⟩]) (newD D G.length (intAt r k :: (ts.drop p).reverse.flatMap D)) (ts.take p ++ [G.length]) := by
  have hx : ∀ x ∈ (ts.drop p).reverse, x < G.length := fun x hx => h.lt x (List.mem_of_mem_drop (by simpa using hx))
  have hx2 : ∀ x ∈ (ts.take p).reverse, x < G.length := fun x hx => h.lt x (List.mem_of_mem_take (by simpa using hx))
  refine ⟨h.st.add h0 (by rw [ha]; congr 1; simp; omega) hx, h.fresh.add _ _, by have := h.grow; simp; omega, by have := h.few; simp; omega, fun n hn => ?_, fun t ht => ?_, ?_⟩
  · rw [newD_old (by have := h.grow; omega)]; exact h.old n hn
  · rcases List.mem_append.1 ht with h' | h'
    · have := h.lt t (List.mem_of_mem_take h'); simp; omega
    · simp at h'; subst h'; simp
  · rw [List.reverse_append, List.flatMap_append]
    have e1 : ([G.length] : List Nat).reverse.flatMap (newD D G.length (intAt r k :: (ts.drop p).reverse.flatMap D)) = intAt r k :: (ts.drop p).reverse.flatMap D := by simp [newD_new]
    rw [e1, newD_flat hx2, drop_get hk (intAt_get hk), List.cons_append, ← List.flatMap_append, ← List.reverse_append, List.take_append_drop, h.eq]
end
section
variable {w w' w2 : World} {base b : Nat} {v : Value} {xs : List Int}
theorem OwnI.takes {g n cap k : Nat} (h : OwnI w base (.slice (some ⟨g, 0, none⟩) n cap) xs) (hk : k ≤ n) : OwnI w base (.slice (some ⟨g, 0, none⟩) k cap) (xs.take k) := by
  have hn : n = xs.length := by
    rcases h.2 with ⟨q, _⟩ | ⟨_, _, _, q, _⟩
    · cases q
    · injection q
  subst hn
  have hl : (xs.take k).length = k := by simp; omega
  rcases h.2 with ⟨q, _⟩ | ⟨g', cap', cur, q, h1, h2, h3, h4, h5, h6⟩
  · cases q
  · simp only [Value.slice.injEq, Option.some.injEq, Addr.mk.injEq] at q
    obtain ⟨⟨rfl, -, -⟩, -, rfl⟩ := q
    unfold OwnI
    rw [hl]
    refine ⟨by rw [intCells_length, hl, Nat.mul_one], .inr ⟨g, cap, cur, rfl, h1, h2, by omega, h4, h5, ?_⟩⟩
    rw [Nat.mul_one] at h6 ⊢
    have := congrArg (List.take k) h6
    rw [List.take_take, Nat.min_eq_left hk] at this
    rw [this]
    unfold intCells
    rw [List.map_take]
end

set_option maxHeartbeats 1000000 in
theorem read_any (A A' : Option Addr) (n c m c' gb base V y : Nat) (hy : y + 24 ≤ V) (hV : V ≤ 48) (ss : List Sym) (r : List Int) (ms : List (Nat × Nat)) (G0 : List Nd) (D0 : Nat → List Int) (w : World) (hs : SymsAt w base A n ss) (hn : n ≤ maxLen) (hr : IntsAt w base A' m r) (hm : m ≤ 48) (hmay : mayB ss = true) (ht : tl ss r = some ms)
    (h : GraphAt w base gb G0) (hst : Stands V ss G0 D0) (hf : Fresh G0) (hN : G0.length ≤ 100) :
    Calls Try.prog 25 #[.pointer (some ⟨gb, 0, none⟩), .slice A n c, .slice A' m c', .int .i64 (y : Int)] w fun e w' => ∃ v G D ts, e = .returned v ∧ OwnI w' base v (nats ts) ∧ GraphAt w' base gb G ∧ Readd V ss G0 D0 (farR y r) 0 G D ts ∧ Chg [68, 43] base w w' := by
  unfold maxLen at hn
  have HS := Lib.hid hs
  have HR := Lib.hid hr
  have HM := Lib.hid hmay
  have HT := Lib.hid ht
  have HL := Lib.hid hr.len
  have HSL := Lib.hid hs.len
  have hbase : base ≤ w.heap.size := by
    have h1 := h.lt
    obtain ⟨_, _, h2, _⟩ := h
    omega
  have HST : Hid (Readd V ss G0 D0 (farR y r) m G0 D0 []) := by
    show Readd V ss G0 D0 (farR y r) m G0 D0 []
    rw [← hr.len, ← farR_length (y := y) (r := r)]; exact Readd.start hst hf
  have HG0 := Lib.hid (h.off (x := none) (fun g e => by cases e))
  clear hs hr hmay ht h hst hf
  go_enter Try.func25, Try.ntmps25
  go_wp2
  go_loopw [9, 10] (fun q i wr => ∃ (k : Nat) (G : List Nd) (D : Nat → List Int) (ts : List Nat), i = .int .i64 ((k : Int) - 1) ∧ k ≤ m ∧ Readd V ss G0 D0 (farR y r) k G D ts ∧ OwnI wr w.heap.size q (nats ts) ∧ GraphOff wr base gb G q.ownBlock ∧ Chg [68, 43] base w wr) (fun _ i _ => (intOf i + 1).toNat)
  case atStart => exact ⟨m, G0, D0, [], by go_num, by omega, HST.out, OwnI.nil_, HG0.out, Chg.refl⟩
  case round =>
    obtain ⟨k, G, D, ts, rfl, hk, hrd, hown, hgr, hch⟩ := hrel
    have HRD := Lib.hid hrd
    have HOWN := Lib.hid hown
    have HGR := Lib.hid hgr
    have HCH := Lib.hid hch
    have hsz := hch.bel.size
    clear hrd hown hgr hch
    by_cases hk0 : k = 0
    · subst hk0
      go_wp2
      go_ret
      exact ⟨_, G, D, ts, rfl, HOWN.out.lower hbase, HGR.out.forget, HRD.out, HCH.out⟩
    · obtain ⟨j, rfl⟩ : ∃ j, k = j + 1 := ⟨k - 1, by omega⟩
      have hkj : ((j + 1 : Nat) : Int) - 1 = (j : Int) := by omega
      rw [hkj]
      have hjr : j < r.length := by rw [HL.out]; omega
      have HJR := Lib.hid hjr
      obtain ⟨a, har, hal⟩ := Readd.arity hy HRD.out HT.out hjr
      obtain ⟨b', off', rfl, hb', hc'⟩ := HR.out.at_ (by omega)
      have hcx : wr.cell? ⟨b', off' + j, none⟩ = some (.int .i64 (intAt r j)) := (HCH.out.bel.cell (p := ⟨b', off' + j, none⟩) hb').trans (hc' j (by omega))
      have htl : ts.length ≤ 48 := by
        have := trm_len HRD.out.count
        rw [List.length_drop, farR_length] at this
        have := HL.out
        omega
      have HTL := Lib.hid htl
      have hi0 : (0 : Int) ≤ (j : Int) := by omega
      have hi1 : (j : Int) < (m : Int) := by omega
      have HAR := Lib.hid har
      have HAL := Lib.hid hal
      obtain ⟨A2, c2, hval⟩ := HOWN.out.value_len
      clear hc' hkj hk0 hjr
      by_cases hx : intAt r j < 0
      · obtain ⟨hx24, rfl⟩ := ar_var hx har
        obtain ⟨v, hv⟩ : ∃ v : Nat, intAt r j = -1 - (v : Int) := ⟨(-1 - intAt r j).toNat, by omega⟩
        have hvy : intAt (farR y r) j = -1 - ((v + y : Nat) : Int) := by rw [farR_at HJR.out, if_pos hx, hv]; omega
        have HRD2 := Lib.hid (HRD.out.var (by rw [farR_length]; exact HJR.out) (v := v + y) (by omega) hvy)
        clear hvy
        obtain ⟨x, hxe⟩ : ∃ x, x = intAt r j := ⟨_, rfl⟩
        rw [← hxe] at hcx hx hx24 hv
        have HV : Hid (((v + y : Nat) : Int) = -1 - x + (y : Int)) := by show ((v + y : Nat) : Int) = -1 - x + (y : Int); omega
        clear har hal hv hxe
        subst hval
        go_wp2_with (at_builtin
                     refine wpList_plain rfl fun _ hK => ?_
                     refine app_int_op (.tmp 27) (.tmp 32) rfl w.heap.size _ (nats ts) (-1 - x + (y : Int)) rfl HOWN.out rfl (by rw [nats_length]; omega) (by omega) ?_
                     intro v2 w2 hown2 hg2 hb2
                     have HO2 := Lib.hid (hown2.cast (by rw [nats_append, ← HV.out]; rfl : _ = nats (ts ++ [v + y])))
                     have HG2 := Lib.hid ((HGR.out.on (below_new _ _)).grown (HOWN.out.alloc _) hg2 hb2)
                     have HB2 := Lib.hid (HCH.out.then_below (((below_new wr _).mono hsz).trans ((Below.refl _ _).grown hg2 (by simp; omega) (fun g hg => (World.ownsRow.lt HOWN.out g hg).1))) hbase)
                     clear hown2 hg2 hb2
                     refine hK _ _ ?_)
        go_roundw
        case rel => exact ⟨j, G, D, ts ++ [v + y], by go_num, by omega, HRD2.out, HO2.out, HG2.out, HB2.out⟩
        case measure => simp [intOf]
      · obtain ⟨h1, h2, h3, h4⟩ := ar_sym HM.out (by omega) har
        obtain ⟨q, hq⟩ : ∃ q : Nat, intAt r j = (q : Int) := ⟨(intAt r j).toNat, by omega⟩
        obtain ⟨p, hp⟩ : ∃ p, p + a = ts.length := ⟨ts.length - a, by omega⟩
        have hfs : intAt (farR y r) j = intAt r j := by rw [farR_at HJR.out, if_neg hx]
        have HRD2 := Lib.hid (HRD.out.sym (by rw [farR_length]; exact HJR.out) (p := p) (by rw [hfs]; omega) (by rw [hfs]; exact har) hp)
        rw [hfs] at HRD2
        clear hfs
        rw [hq] at hcx h1 h2 h3 hx HRD2
        rw [Int.toNat_natCast] at h1 h2 h3
        rw [HSL.out] at h1
        obtain ⟨b, off, rfl, hb, hc⟩ := HS.out.at_ (by omega)
        obtain ⟨_, _, cc2, _⟩ := hc q h1
        rw [h3] at cc2
        have c2' := (HCH.out.bel.cell (p := ⟨b, off + q * 4 + 2, none⟩) hb).trans cc2
        obtain ⟨L, hL⟩ : ∃ L, L = ts.length := ⟨_, rfl⟩
        have HLL := Lib.hid hL
        rw [← hL] at hp htl hal hval
        have HP := Lib.hid hp
        have hp1 : ((L : Int) - (a : Int)) = (p : Int) := by omega
        have z0 : (0 : Int) ≤ (p : Int) := by omega
        have z1 : (p : Int) ≤ (L : Int) := by omega
        clear har hc h2 h3 hq hx cc2 hL
        rcases HOWN.out.shape with ⟨hnil, hts⟩ | ⟨g, cap, hsome, hg, hgl, hgc⟩
        · rw [hnil] at hval
          simp only [Value.slice.injEq] at hval
          obtain ⟨rfl, rfl, rfl⟩ := hval
          have hts0 : ts = [] := by
            cases ts with
            | nil => rfl
            | cons _ _ => simp [nats] at hts
          subst hts0
          obtain rfl : p = 0 := by have := HP.out; omega
          obtain rfl : a = 0 := by have := HP.out; omega
          subst hnil
          clear hp1 z0 z1 hts
          go_wp2_with fail
          refine (clone_any _ _ _ (nats (([] : List Nat).drop 0)) wr IntsAt.nil_ (fun _ => ⟨rfl, rfl⟩) (by omega)).mono ?_
          rintro e w1 ⟨u, rfl, hu, hb1⟩
          have HU := Lib.hid hu
          have HB1 := Lib.hid hb1
          clear hu hb1
          go_wp2_with fail
          refine (reverse_any wr.heap.size u _ w1 HU.out (by simp [nats])).mono ?_
          rintro e w2 ⟨rfl, hu2, hb2⟩
          have HB2 := Lib.hid (HB1.out.trans hb2)
          rw [nats_reverse] at hu2
          have HU2 := Lib.hid hu2
          have hsz2 := HB2.out.size
          have HG2 := Lib.hid (HGR.out.on HB2.out)
          have HO2 := Lib.hid (HOWN.out.on HB2.out)
          have HCH2 := Lib.hid (HCH.out.then_below (HB2.out.mono hsz) hbase)
          have HUB : Hid (u.ownBlock = none ∨ u.ownBlock ≠ none) := by
            show u.ownBlock = none ∨ u.ownBlock ≠ none
            cases e : u.ownBlock with
            | none => exact .inl rfl
            | some z =>
              refine .inr fun e' => ?_
              have q1 := (World.ownsRow.lt hu2 z e).1
              cases e'
          obtain ⟨L5, A5, c5, hu5⟩ : ∃ L5 A5 c5, u = .slice A5 L5 c5 := ⟨_, hu2.value_len⟩
          have HGN : Hid (G.length ≤ 1000) := by show G.length ≤ 1000; have := HRD.out.few; rw [farR_length] at this; have := HL.out; omega
          clear hb2 hu2 HB1 HU
          subst hu5
          go_wp2_with fail
          refine wp_region_held_drew (S := (fun _ => True)) (by kernel_rfl) trivial (fun hHeld => ?_)
          refine takeH (i := 0) (v := ?_) rfl rfl (by kernel_rfl) (by kernel_rfl) (by kernel_rfl) (fun _ _ _ h => h) (by rfl) ?_ hHeld ?_
          rotate_left
          · (intro w hSw; (try dsimp only at hSw); first | (go_simp; done) | (go_simp; with_reducible rfl))
          simp only [Act.put, List.setIfInBounds_toArray, List.set_cons_zero, List.set_cons_succ]
          refine takeH (i := 1) (v := ?_) rfl rfl (by kernel_rfl) (by kernel_rfl) (by kernel_rfl) (fun _ _ _ h => h) (by rfl) ?_ hHeld ?_
          rotate_left
          · (intro w hSw; (try dsimp only at hSw); first | (go_simp; done) | (go_simp; with_reducible rfl))
          simp only [Act.put, List.setIfInBounds_toArray, List.set_cons_zero, List.set_cons_succ]
          refine takeH (i := 2) (v := ?_) rfl rfl (by kernel_rfl) (by kernel_rfl) (by kernel_rfl) (fun _ _ _ h => h) (by rfl) ?_ hHeld ?_
          rotate_left
          · (intro w hSw; (try dsimp only at hSw); first | (go_simp; done) | (go_simp; with_reducible rfl))
          simp only [Act.put, List.setIfInBounds_toArray, List.set_cons_zero, List.set_cons_succ]
          refine takeH (i := 3) (v := ?_) rfl rfl (by kernel_rfl) (by kernel_rfl) (by kernel_rfl) (fun _ _ _ h => h) (by rfl) ?_ hHeld ?_
          rotate_left
          · (intro w hSw; (try dsimp only at hSw); first | (go_simp; done) | (go_simp; with_reducible rfl))
          simp only [Act.put, List.setIfInBounds_toArray, List.set_cons_zero, List.set_cons_succ]
          refine takeH (i := 4) (v := ?_) rfl rfl (by kernel_rfl) (by kernel_rfl) (by kernel_rfl) (fun _ _ _ h => h) (by rfl) ?_ hHeld ?_
          rotate_left
          · (intro w hSw; (try dsimp only at hSw); first | (go_simp; done) | (go_simp; with_reducible rfl))
          simp only [Act.put, List.setIfInBounds_toArray, List.set_cons_zero, List.set_cons_succ]
          refine takeH (i := 5) (v := ?_) rfl rfl (by kernel_rfl) (by kernel_rfl) (by kernel_rfl) (fun _ _ _ h => h) (by rfl) ?_ hHeld ?_
          rotate_left
          · (intro w hSw; (try dsimp only at hSw); first | (go_simp; done) | (go_simp; with_reducible rfl))
          simp only [Act.put, List.setIfInBounds_toArray, List.set_cons_zero, List.set_cons_succ]
          refine wpAnyH_ready (rs := [6]) (by kernel_rfl) (by simp) ?_
          refine AllReadyH.cons rfl (fun K hK => ?_) AllReadyH.nil
          go_simp
          refine (add_any gb base G (q : Int) _ _ w2.drew none (HG2.out.on (Below.refl _ _).drew) ((HU2.out.lower (base' := base) (by omega)).on (Below.refl _ _).drew) HUB.out HGN.out).mono ?_
          rintro e w3 ⟨rfl, hg3, hc3⟩
          have HG3 := Lib.hid hg3
          have HCC3 := Lib.hid hc3
          have HO3 := Lib.hid (hc3.own (by decide) (HO2.out.on (w' := w2.drew) (Below.refl _ _).drew))
          have hsz3 := hc3.bel.size
          have hsz3' : w2.heap.size ≤ w3.heap.size := hsz3
          have HTK : Hid (OwnI w3 w.heap.size (.slice none 0 0) (nats (([] : List Nat).take 0))) := OwnI.nil_
          clear hg3 hc3
          go_wp2_with fail
          refine hK.out _ _ ?_ (fun hHeld => ?_)
          · trivial
          clear hK K
          refine wpAnyH_ready (rs := [7]) (by kernel_rfl) (by simp) ?_
          refine AllReadyH.cons rfl (fun K hK => ?_) AllReadyH.nil
          go_simp
          refine hK.out _ _ ?_ (fun hHeld => ?_)
          · trivial
          clear hK K
          refine wpAnyH_ready (rs := [8]) (by kernel_rfl) (by simp) ?_
          refine AllReadyH.cons rfl (fun K hK => ?_) AllReadyH.nil
          rw [if_pos (by rfl)]
          refine app_int_op (w := w3) (.tmp 50) (.tmp 55) rfl w.heap.size _ (nats (([] : List Nat).take 0)) (G.length : Int) rfl HTK.out rfl (by simp [nats]) (by omega) ?_
          intro v4 w4 hown4 hg4 hb4
          have HO4 := Lib.hid (hown4.cast (by rw [nats_append]; rfl : _ = nats (([] : List Nat).take 0 ++ [G.length])))
          have HG4 := Lib.hid ((HG3.out.on (below_new _ _)).grown (b := w.heap.size) (v := .slice none 0 0) (xs := nats (([] : List Nat).take 0)) (OwnI.alloc HTK.out _) hg4 hb4)
          have HC4 := Lib.hid ((HCH2.out.trans (Chg.trans (Chg.of_below (Below.refl _ _).drew (by omega)) HCC3.out)).then_below (((below_new w3 _).mono (by omega)).trans ((Below.refl _ _).grown hg4 (by simp; omega) (fun y hy => (World.ownsRow.lt HTK.out y hy).1))) hbase)
          clear hown4 hg4 hb4
          refine hK.out _ _ ?_ (fun hHeld => ?_)
          · trivial
          clear hK K
          refine takeH (i := 9) (v := ?_) rfl rfl (by kernel_rfl) (by kernel_rfl) (by kernel_rfl) (fun _ _ _ h => h) (by rfl) ?_ hHeld ?_
          rotate_left
          · (intro w hSw; (try dsimp only at hSw); first | (go_simp; done) | (go_simp; with_reducible rfl))
          simp only [Act.put, List.setIfInBounds_toArray, List.set_cons_zero, List.set_cons_succ]
          refine wpAnyH_done (by kernel_rfl) ?_ _
          go_wp2
          go_roundw
          case rel => exact ⟨j, _, _, ([] : List Nat).take 0 ++ [G.length], by go_num, by omega, HRD2.out, HO4.out, HG4.out, HC4.out⟩
          case measure => simp [intOf]
        · rw [hsome] at hval
          simp only [Value.slice.injEq] at hval
          obtain ⟨rfl, e2, rfl⟩ := hval
          rw [e2] at hsome hgc
          subst hsome
          have z2 : (p : Int) ≤ (cap : Int) := by omega
          have hO' := HOWN.out
          obtain ⟨A3, c3, e3, _, hI3⟩ := HOWN.out.intsAt
          rw [e2] at e3 hI3
          simp only [Value.slice.injEq] at e3
          obtain ⟨rfl, -, rfl⟩ := e3
          have HI3 := Lib.hid hI3
          clear hI3 hO' hp e2
          have HDROP : Hid (IntsAt wr wr.heap.size (some ⟨g, p, none⟩) (L - p) (nats (ts.drop p))) := by
            show IntsAt _ _ _ _ _
            have := HI3.out.drop (k := p) (by omega)
            rw [nats_drop, Nat.zero_add] at this
            exact this
          have HLP : Hid (cap = p → IntsAt wr wr.heap.size (some ⟨g, 0, none⟩) 0 (nats (ts.drop p))) := by
            intro e
            have hd : ts.drop p = [] := by rw [List.drop_eq_nil_iff]; have := HLL.out; omega
            rw [hd]
            exact IntsAt.nil_
          by_cases hpc : cap = p
          · have HPC := Lib.hid (HLP.out hpc)
            obtain rfl : p = cap := hpc.symm
            go_wp2_with fail
            refine (clone_any _ _ _ (nats (ts.drop p)) wr HPC.out (fun e => by cases e) (by omega)).mono ?_
            rintro e w1 ⟨u, rfl, hu, hb1⟩
            have HU := Lib.hid hu
            have HB1 := Lib.hid hb1
            clear hu hb1
            go_wp2_with fail
            refine (reverse_any wr.heap.size u _ w1 HU.out (by rw [nats_length]; simp; have := HTL.out; omega)).mono ?_
            rintro e w2 ⟨rfl, hu2, hb2⟩
            have HB2 := Lib.hid (HB1.out.trans hb2)
            rw [nats_reverse] at hu2
            have HU2 := Lib.hid hu2
            have hsz2 := HB2.out.size
            have HG2 := Lib.hid (HGR.out.on HB2.out)
            have HO2 := Lib.hid (HOWN.out.on HB2.out)
            have HCH2 := Lib.hid (HCH.out.then_below (HB2.out.mono hsz) hbase)
            have HUB : Hid (u.ownBlock = none ∨ u.ownBlock ≠ (some g)) := by
              show u.ownBlock = none ∨ u.ownBlock ≠ (some g)
              cases e : u.ownBlock with
              | none => exact .inl rfl
              | some z =>
                refine .inr fun e' => ?_
                have q1 := (World.ownsRow.lt hu2 z e).1
                injection e' with e'
                omega
            obtain ⟨L5, A5, c5, hu5⟩ : ∃ L5 A5 c5, u = .slice A5 L5 c5 := ⟨_, hu2.value_len⟩
            have HGN : Hid (G.length ≤ 1000) := by show G.length ≤ 1000; have := HRD.out.few; rw [farR_length] at this; have := HL.out; omega
            clear hb2 hu2 HB1 HU
            subst hu5
            go_wp2_with fail
            refine wp_region_held_drew (S := (fun _ => True)) (by kernel_rfl) trivial (fun hHeld => ?_)
            refine takeH (i := 0) (v := ?_) rfl rfl (by kernel_rfl) (by kernel_rfl) (by kernel_rfl) (fun _ _ _ h => h) (by rfl) ?_ hHeld ?_
            rotate_left
            · (intro w hSw; (try dsimp only at hSw); first | (go_simp; done) | (go_simp; with_reducible rfl))
            simp only [Act.put, List.setIfInBounds_toArray, List.set_cons_zero, List.set_cons_succ]
            refine takeH (i := 1) (v := ?_) rfl rfl (by kernel_rfl) (by kernel_rfl) (by kernel_rfl) (fun _ _ _ h => h) (by rfl) ?_ hHeld ?_
            rotate_left
            · (intro w hSw; (try dsimp only at hSw); first | (go_simp; done) | (go_simp; with_reducible rfl))
            simp only [Act.put, List.setIfInBounds_toArray, List.set_cons_zero, List.set_cons_succ]
            refine takeH (i := 2) (v := ?_) rfl rfl (by kernel_rfl) (by kernel_rfl) (by kernel_rfl) (fun _ _ _ h => h) (by rfl) ?_ hHeld ?_
            rotate_left
            · (intro w hSw; (try dsimp only at hSw); first | (go_simp; done) | (go_simp; with_reducible rfl))
            simp only [Act.put, List.setIfInBounds_toArray, List.set_cons_zero, List.set_cons_succ]
            refine takeH (i := 3) (v := ?_) rfl rfl (by kernel_rfl) (by kernel_rfl) (by kernel_rfl) (fun _ _ _ h => h) (by rfl) ?_ hHeld ?_
            rotate_left
            · (intro w hSw; (try dsimp only at hSw); first | (go_simp; done) | (go_simp; with_reducible rfl))
            simp only [Act.put, List.setIfInBounds_toArray, List.set_cons_zero, List.set_cons_succ]
            refine takeH (i := 4) (v := ?_) rfl rfl (by kernel_rfl) (by kernel_rfl) (by kernel_rfl) (fun _ _ _ h => h) (by rfl) ?_ hHeld ?_
            rotate_left
            · (intro w hSw; (try dsimp only at hSw); first | (go_simp; done) | (go_simp; with_reducible rfl))
            simp only [Act.put, List.setIfInBounds_toArray, List.set_cons_zero, List.set_cons_succ]
            refine takeH (i := 5) (v := ?_) rfl rfl (by kernel_rfl) (by kernel_rfl) (by kernel_rfl) (fun _ _ _ h => h) (by rfl) ?_ hHeld ?_
            rotate_left
            · (intro w hSw; (try dsimp only at hSw); first | (go_simp; done) | (go_simp; with_reducible rfl))
            simp only [Act.put, List.setIfInBounds_toArray, List.set_cons_zero, List.set_cons_succ]
            refine wpAnyH_ready (rs := [6]) (by kernel_rfl) (by simp) ?_
            refine AllReadyH.cons rfl (fun K hK => ?_) AllReadyH.nil
            go_simp
            refine (add_any gb base G (q : Int) _ _ w2.drew (some g) (HG2.out.on (Below.refl _ _).drew) ((HU2.out.lower (base' := base) (by omega)).on (Below.refl _ _).drew) HUB.out HGN.out).mono ?_
            rintro e w3 ⟨rfl, hg3, hc3⟩
            have HG3 := Lib.hid hg3
            have HCC3 := Lib.hid hc3
            have HO3 := Lib.hid (hc3.own (by decide) (HO2.out.on (w' := w2.drew) (Below.refl _ _).drew))
            have hsz3 := hc3.bel.size
            have hsz3' : w2.heap.size ≤ w3.heap.size := hsz3
            have HTK : Hid (OwnI w3 w.heap.size (.slice (some ⟨g, 0, none⟩) p p) (nats (ts.take p))) := by
              have := HO3.out.takes (k := p) (by omega)
              rw [nats_take] at this
              exact this
            clear hg3 hc3
            go_wp2_with fail
            refine hK.out _ _ ?_ (fun hHeld => ?_)
            · trivial
            clear hK K
            refine wpAnyH_ready (rs := [7]) (by kernel_rfl) (by simp) ?_
            refine AllReadyH.cons rfl (fun K hK => ?_) AllReadyH.nil
            go_simp
            refine hK.out _ _ ?_ (fun hHeld => ?_)
            · trivial
            clear hK K
            refine wpAnyH_ready (rs := [8]) (by kernel_rfl) (by simp) ?_
            refine AllReadyH.cons rfl (fun K hK => ?_) AllReadyH.nil
            rw [if_pos (by rfl)]
            refine app_int_op (w := w3) (.tmp 50) (.tmp 55) rfl w.heap.size _ (nats (ts.take p)) (G.length : Int) rfl HTK.out rfl (by rw [nats_length]; have := HTL.out; simp; omega) (by omega) ?_
            intro v4 w4 hown4 hg4 hb4
            have HO4 := Lib.hid (hown4.cast (by rw [nats_append]; rfl : _ = nats (ts.take p ++ [G.length])))
            have HG4 := Lib.hid ((HG3.out.on (below_new _ _)).grown (b := w.heap.size) (v := .slice (some ⟨g, 0, none⟩) p p) (xs := nats (ts.take p)) (OwnI.alloc HTK.out _) hg4 hb4)
            have HC4 := Lib.hid ((HCH2.out.trans (Chg.trans (Chg.of_below (Below.refl _ _).drew (by omega)) HCC3.out)).then_below (((below_new w3 _).mono (by omega)).trans ((Below.refl _ _).grown hg4 (by simp; omega) (fun y hy => (World.ownsRow.lt HTK.out y hy).1))) hbase)
            clear hown4 hg4 hb4
            refine hK.out _ _ ?_ (fun hHeld => ?_)
            · trivial
            clear hK K
            refine takeH (i := 9) (v := ?_) rfl rfl (by kernel_rfl) (by kernel_rfl) (by kernel_rfl) (fun _ _ _ h => h) (by rfl) ?_ hHeld ?_
            rotate_left
            · (intro w hSw; (try dsimp only at hSw); first | (go_simp; done) | (go_simp; with_reducible rfl))
            simp only [Act.put, List.setIfInBounds_toArray, List.set_cons_zero, List.set_cons_succ]
            refine wpAnyH_done (by kernel_rfl) ?_ _
            go_wp2
            go_roundw
            case rel => exact ⟨j, _, _, ts.take p ++ [G.length], by go_num, by omega, HRD2.out, HO4.out, HG4.out, HC4.out⟩
            case measure => simp [intOf]

          · go_wp2_with fail
            refine (clone_any _ _ _ (nats (ts.drop p)) wr HDROP.out (fun e => by cases e) (by omega)).mono ?_
            rintro e w1 ⟨u, rfl, hu, hb1⟩
            have HU := Lib.hid hu
            have HB1 := Lib.hid hb1
            clear hu hb1
            go_wp2_with fail
            refine (reverse_any wr.heap.size u _ w1 HU.out (by rw [nats_length]; simp; have := HTL.out; omega)).mono ?_
            rintro e w2 ⟨rfl, hu2, hb2⟩
            have HB2 := Lib.hid (HB1.out.trans hb2)
            rw [nats_reverse] at hu2
            have HU2 := Lib.hid hu2
            have hsz2 := HB2.out.size
            have HG2 := Lib.hid (HGR.out.on HB2.out)
            have HO2 := Lib.hid (HOWN.out.on HB2.out)
            have HCH2 := Lib.hid (HCH.out.then_below (HB2.out.mono hsz) hbase)
            have HUB : Hid (u.ownBlock = none ∨ u.ownBlock ≠ (some g)) := by
              show u.ownBlock = none ∨ u.ownBlock ≠ (some g)
              cases e : u.ownBlock with
              | none => exact .inl rfl
              | some z =>
                refine .inr fun e' => ?_
                have q1 := (World.ownsRow.lt hu2 z e).1
                injection e' with e'
                omega
            obtain ⟨L5, A5, c5, hu5⟩ : ∃ L5 A5 c5, u = .slice A5 L5 c5 := ⟨_, hu2.value_len⟩
            have HGN : Hid (G.length ≤ 1000) := by show G.length ≤ 1000; have := HRD.out.few; rw [farR_length] at this; have := HL.out; omega
            clear hb2 hu2 HB1 HU
            subst hu5
            go_wp2_with fail
            refine wp_region_held_drew (S := (fun _ => True)) (by kernel_rfl) trivial (fun hHeld => ?_)
            refine takeH (i := 0) (v := ?_) rfl rfl (by kernel_rfl) (by kernel_rfl) (by kernel_rfl) (fun _ _ _ h => h) (by rfl) ?_ hHeld ?_
            rotate_left
            · (intro w hSw; (try dsimp only at hSw); first | (go_simp; done) | (go_simp; with_reducible rfl))
            simp only [Act.put, List.setIfInBounds_toArray, List.set_cons_zero, List.set_cons_succ]
            refine takeH (i := 1) (v := ?_) rfl rfl (by kernel_rfl) (by kernel_rfl) (by kernel_rfl) (fun _ _ _ h => h) (by rfl) ?_ hHeld ?_
            rotate_left
            · (intro w hSw; (try dsimp only at hSw); first | (go_simp; done) | (go_simp; with_reducible rfl))
            simp only [Act.put, List.setIfInBounds_toArray, List.set_cons_zero, List.set_cons_succ]
            refine takeH (i := 2) (v := ?_) rfl rfl (by kernel_rfl) (by kernel_rfl) (by kernel_rfl) (fun _ _ _ h => h) (by rfl) ?_ hHeld ?_
            rotate_left
            · (intro w hSw; (try dsimp only at hSw); first | (go_simp; done) | (go_simp; with_reducible rfl))
            simp only [Act.put, List.setIfInBounds_toArray, List.set_cons_zero, List.set_cons_succ]
            refine takeH (i := 3) (v := ?_) rfl rfl (by kernel_rfl) (by kernel_rfl) (by kernel_rfl) (fun _ _ _ h => h) (by rfl) ?_ hHeld ?_
            rotate_left
            · (intro w hSw; (try dsimp only at hSw); first | (go_simp; done) | (go_simp; with_reducible rfl))
            simp only [Act.put, List.setIfInBounds_toArray, List.set_cons_zero, List.set_cons_succ]
            refine takeH (i := 4) (v := ?_) rfl rfl (by kernel_rfl) (by kernel_rfl) (by kernel_rfl) (fun _ _ _ h => h) (by rfl) ?_ hHeld ?_
            rotate_left
            · (intro w hSw; (try dsimp only at hSw); first | (go_simp; done) | (go_simp; with_reducible rfl))
            simp only [Act.put, List.setIfInBounds_toArray, List.set_cons_zero, List.set_cons_succ]
            refine takeH (i := 5) (v := ?_) rfl rfl (by kernel_rfl) (by kernel_rfl) (by kernel_rfl) (fun _ _ _ h => h) (by rfl) ?_ hHeld ?_
            rotate_left
            · (intro w hSw; (try dsimp only at hSw); first | (go_simp; done) | (go_simp; with_reducible rfl))
            simp only [Act.put, List.setIfInBounds_toArray, List.set_cons_zero, List.set_cons_succ]
            refine wpAnyH_ready (rs := [6]) (by kernel_rfl) (by simp) ?_
            refine AllReadyH.cons rfl (fun K hK => ?_) AllReadyH.nil
            go_simp
            refine (add_any gb base G (q : Int) _ _ w2.drew (some g) (HG2.out.on (Below.refl _ _).drew) ((HU2.out.lower (base' := base) (by omega)).on (Below.refl _ _).drew) HUB.out HGN.out).mono ?_
            rintro e w3 ⟨rfl, hg3, hc3⟩
            have HG3 := Lib.hid hg3
            have HCC3 := Lib.hid hc3
            have HO3 := Lib.hid (hc3.own (by decide) (HO2.out.on (w' := w2.drew) (Below.refl _ _).drew))
            have hsz3 := hc3.bel.size
            have hsz3' : w2.heap.size ≤ w3.heap.size := hsz3
            have HTK : Hid (OwnI w3 w.heap.size (.slice (some ⟨g, 0, none⟩) p cap) (nats (ts.take p))) := by
              have := HO3.out.takes (k := p) (by omega)
              rw [nats_take] at this
              exact this
            clear hg3 hc3
            go_wp2_with fail
            refine hK.out _ _ ?_ (fun hHeld => ?_)
            · trivial
            clear hK K
            refine wpAnyH_ready (rs := [7]) (by kernel_rfl) (by simp) ?_
            refine AllReadyH.cons rfl (fun K hK => ?_) AllReadyH.nil
            go_simp
            refine hK.out _ _ ?_ (fun hHeld => ?_)
            · trivial
            clear hK K
            refine wpAnyH_ready (rs := [8]) (by kernel_rfl) (by simp) ?_
            refine AllReadyH.cons rfl (fun K hK => ?_) AllReadyH.nil
            rw [if_pos (by rfl)]
            refine app_int_op (w := w3) (.tmp 50) (.tmp 55) rfl w.heap.size _ (nats (ts.take p)) (G.length : Int) rfl HTK.out rfl (by rw [nats_length]; have := HTL.out; simp; omega) (by omega) ?_
            intro v4 w4 hown4 hg4 hb4
            have HO4 := Lib.hid (hown4.cast (by rw [nats_append]; rfl : _ = nats (ts.take p ++ [G.length])))
            have HG4 := Lib.hid ((HG3.out.on (below_new _ _)).grown (b := w.heap.size) (v := .slice (some ⟨g, 0, none⟩) p cap) (xs := nats (ts.take p)) (OwnI.alloc HTK.out _) hg4 hb4)
            have HC4 := Lib.hid ((HCH2.out.trans (Chg.trans (Chg.of_below (Below.refl _ _).drew (by omega)) HCC3.out)).then_below (((below_new w3 _).mono (by omega)).trans ((Below.refl _ _).grown hg4 (by simp; omega) (fun y hy => (World.ownsRow.lt HTK.out y hy).1))) hbase)
            clear hown4 hg4 hb4
            refine hK.out _ _ ?_ (fun hHeld => ?_)
            · trivial
            clear hK K
            refine takeH (i := 9) (v := ?_) rfl rfl (by kernel_rfl) (by kernel_rfl) (by kernel_rfl) (fun _ _ _ h => h) (by rfl) ?_ hHeld ?_
            rotate_left
            · (intro w hSw; (try dsimp only at hSw); first | (go_simp; done) | (go_simp; with_reducible rfl))
            simp only [Act.put, List.setIfInBounds_toArray, List.set_cons_zero, List.set_cons_succ]
            refine wpAnyH_done (by kernel_rfl) ?_ _
            go_wp2
            go_roundw
            case rel => exact ⟨j, _, _, ts.take p ++ [G.length], by go_num, by omega, HRD2.out, HO4.out, HG4.out, HC4.out⟩
            case measure => simp [intOf]


end Go.Proofs.Ytmdajmdjmdbonaa

namespace Go.Proofs.Ytmdajmdjmdbonaa
/-- As Q; by a goto to the label: what holds there, with a number below N. -/
def jump1 (J : Nat → Act → World → Prop) (N : Nat) (Q : Exit → Act → World → Prop) : Exit → Act → World → Prop
  | .goto 0, a, w => ∃ n, n < N ∧ J n a w
  | .goto _, _, _ => False
  | e, a, w => Q e a w
section
variable {P : Program} {a : Act} {w : World} {Q : Exit → Act → World → Prop} {J : Nat → Act → World → Prop} {N : Nat}
theorem jump1_more {N' : Nat} (h : N ≤ N') : ∀ e a w, jump1 J N Q e a w → jump1 J N' Q e a w := by
  intro e a w hq
  unfold jump1 at *
  split <;> simp_all
  all_goals (obtain ⟨n, h1, h2⟩ := hq; exact ⟨n, by omega, h2⟩)
theorem wp_scope1 {c X : Code} (J : Nat → Act → World → Prop) (N : Nat) (h0 : findLabel c 0 = some (.seq .skip X))
    (pass : ∀ n a w, J n a w → X.wp P (jump1 J n Q) a w)
    (first : (∀ n a w, n ≤ N → J n a w → X.wp P (jump1 J N Q) a w) → c.wp P (jump1 J N Q) a w) : (Code.scope c).wp P Q a w := by
  have fst := first fun n a w h hj => wp_mono (pass n a w hj) (jump1_more h)
  intro b k cs
  have key : ∀ n, ∀ a w, (∃ m, m < n ∧ J m a w) → ∃ e a' w', Q e a' w' ∧ Arrives P (lone (b.at a (.code (.seq .skip X) :: .inScope c :: k)) cs w) b k cs e a' w' := by
    intro n
    induction n with
    | zero => exact fun a w ⟨m, h, _⟩ => absurd h (by omega)
    | succ n i0 =>
      rintro a w ⟨m, hm, hJ⟩
      obtain ⟨e, a₁, w₁, hq, harr⟩ := (wp_seq (wp_skip (Q := Exit.then (X.wp P (jump1 J m Q)) (jump1 J m Q)) (pass m a w hJ))) b (.inScope c :: k) cs
      cases e with
      | normal => exact ⟨.normal, a₁, w₁, hq, Steps.trans harr (.one step_inScope)⟩
      | exit id => exact ⟨.exit id, a₁, w₁, hq, fun k' hk => harr k' (by simp [exitTo, hk])⟩
      | goto l' =>
        match l', hq, harr with
        | 0, hq, harr =>
          obtain ⟨j, hj, hJ⟩ := hq
          obtain ⟨e₂, a₂, w₂, hq₂, harr₂⟩ := i0 a₁ w₁ ⟨j, by omega, hJ⟩
          exact ⟨e₂, a₂, w₂, hq₂, .of_steps (harr _ (by simp [gotoIn, h0])) harr₂⟩
      | ret => exact ⟨_, a₁, w₁, hq, harr⟩
      | panic ch => exact ⟨_, a₁, w₁, hq, harr⟩
      | outgrown => exact ⟨_, a₁, w₁, hq, harr⟩
  obtain ⟨e, a₁, w₁, hq, harr⟩ := fst b (.inScope c :: k) cs
  cases e with
  | normal => exact ⟨.normal, a₁, w₁, hq, .head step_scope (Steps.trans harr (.one step_inScope))⟩
  | exit id => exact ⟨.exit id, a₁, w₁, hq, fun k' hk => .head step_scope (harr k' (by simp [exitTo, hk]))⟩
  | goto l' =>
    match l', hq, harr with
    | 0, hq, harr =>
      obtain ⟨e₂, a₂, w₂, hq₂, harr₂⟩ := key N a₁ w₁ hq
      exact ⟨e₂, a₂, w₂, hq₂, .of_steps (.head step_scope (harr _ (by simp [gotoIn, h0]))) harr₂⟩
  | ret => exact ⟨_, a₁, w₁, hq, .of_steps (.one step_scope) harr⟩
  | panic ch => exact ⟨_, a₁, w₁, hq, .of_steps (.one step_scope) harr⟩
  | outgrown => exact ⟨_, a₁, w₁, hq, .of_steps (.one step_scope) harr⟩
end
end Go.Proofs.Ytmdajmdjmdbonaa

namespace Go.Proofs.Ytmdajmdjmdbonaa
open Go.RowKit
set_option linter.unusedSimpArgs false
set_option linter.unusedVariables false
set_option maxRecDepth 100000

/-- Where pairs are being joined. -/
structure JoinW (V : Nat) (ss : List Sym) (D : Nat → List Int) (L R : List Nat) (gb base N : Nat) (w wr : World) (v : Value) (G : List Nd) (rt d : Nat → Nat) (ps : List (Nat × Nat)) : Prop where
  at_ : GraphAt wr base gb G
  own : OwnP wr base v ps
  cls : Cls V ss G D rt d ps L R
  many : G.length = N
  zero : ∀ k, k < N → lenAt G k = 0
  chg : Chg [68, 78] base w wr
  few : ps.length + 3 * roots G ≤ 3 * N + 100
section
variable {V : Nat} {ss : List Sym} {D : Nat → List Int} {L R : List Nat} {gb base N : Nat} {w wr w' : World} {v : Value} {G : List Nd} {rt d : Nat → Nat} {ps : List (Nat × Nat)}
theorem OwnP.value (h : OwnP w base v ps) : ∃ A c, v = .slice A ps.length c := by
  rcases h.shape with ⟨rfl, rfl⟩ | ⟨g, cap, rfl, _⟩
  · exact ⟨_, _, rfl⟩
  · exact ⟨_, _, rfl⟩
theorem GraphAt.arg {nb cap i : Nat} (h : GraphAt w base gb G) (hcell : w.cell? ⟨gb, 0, none⟩ = some (.slice (some ⟨nb, 0, none⟩) N cap)) (hi : i < G.length) :
    ∃ A l c, w.cell? ⟨nb, i * 4 + 1, none⟩ = some (.slice A l c) ∧ OwnI w base (.slice A l c) (nats (ndAt G i).args) := by
  obtain ⟨v, q1, q2, vs, q3, q4, q5⟩ := h
  rw [cell_of_row _ _ 0 _ _ _ q1] at hcell
  have hv : v = .slice (some ⟨nb, 0, none⟩) N cap := by simpa using hcell
  subst hv
  have hN : N = G.length := by
    rcases q4.2 with ⟨q, _⟩ | ⟨nb', cap', cur, q, _⟩
    · cases q
    · injection q
  subst hN
  obtain ⟨d0, d1, d2, d3⟩ := ndCells_get G vs q3 i hi
  have c1 := q4.cellAt (i * 4 + 1) (by omega)
  rw [d1] at c1
  obtain ⟨A, c, e, _, _⟩ := (q5 i hi).intsAt
  rw [e] at c1
  have := q5 i hi
  rw [e] at this
  exact ⟨A, _, c, c1, this⟩
theorem GraphAt.same {es : List TypeId} {b nb cap : Nat} (h : GraphAt w base gb G) (hcell : w.cell? ⟨gb, 0, none⟩ = some (.slice (some ⟨nb, 0, none⟩) N cap)) (hc : Chg es b w w') (h1 : 43 ∉ es) (h2 : 68 ∉ es) (j : Nat) :
    w'.cell? ⟨gb, j, none⟩ = w.cell? ⟨gb, j, none⟩ ∧ w'.cell? ⟨nb, j, none⟩ = w.cell? ⟨nb, j, none⟩ := by
  obtain ⟨v, q1, q2, vs, q3, q4, q5⟩ := h
  rw [cell_of_row _ _ 0 _ _ _ q1] at hcell
  have hv : v = .slice (some ⟨nb, 0, none⟩) N cap := by simpa using hcell
  subst hv
  refine ⟨World.cell?_of_block (w := w) ?_, World.cell?_of_block (w := w) ?_⟩
  · show w'.heap[gb]? = w.heap[gb]?
    rw [q1]; exact hc.blk _ _ _ _ q1 h1
  · show w'.heap[nb]? = w.heap[nb]?
    rcases q4.2 with ⟨q, _⟩ | ⟨nb', cap', cur, q, _, hh, _⟩
    · cases q
    · simp only [Value.slice.injEq, Option.some.injEq, Addr.mk.injEq] at q
      obtain ⟨⟨rfl, -, -⟩, -, -⟩ := q
      rw [hh]; exact hc.blk _ _ _ _ hh h2
end
def JJ (V : Nat) (ss : List Sym) (D : Nat → List Int) (L R : List Nat) (gb base N : Nat) (w : World) (vL vR : Value) (g : Nat) (a : Act) (wr : World) : Prop := ∃ (v : Value) (G : List Nd) (rt d : Nat → Nat) (ps : List (Nat × Nat)) (u : Nat → Value),
  a = ({ tmps := #[.pointer (some ⟨gb, 0, none⟩), vL, vR, u 3, u 4, u 5, u 6, v, u 8, u 9, u 10, u 11, u 12, u 13, u 14, u 15, u 16, u 17, u 18, u 19, u 20, u 21, u 22, u 23, u 24, u 25, u 26, u 27, u 28, u 29, u 30, u 31, u 32, u 33, u 34, u 35, u 36, u 37, u 38, u 39, u 40, u 41, u 42, u 43, u 44, u 45, u 46, u 47, u 48, u 49, u 50, u 51, u 52, u 53, u 54, u 55, u 56, u 57, u 58, u 59, u 60, u 61, u 62, u 63, u 64, u 65, u 66, u 67, u 68, u 69, u 70, u 71, u 72, u 73, u 74, u 75, u 76, u 77, u 78, u 79, u 80, u 81, u 82, u 83, u 84, u 85, u 86, u 87, u 88, u 89, u 90, u 91, u 92, u 93, u 94, u 95], defers := [] } : Act) ∧ g = 4 * roots G + ps.length ∧ JoinW V ss D L R gb base N w wr v G rt d ps
theorem JJ.mk {V : Nat} {ss : List Sym} {D : Nat → List Int} {L R : List Nat} {gb base N g : Nat} {w wr : World} {vL vR v : Value} {G : List Nd} {rt d : Nat → Nat} {ps : List (Nat × Nat)} {a : Act} (ha : a = ({ tmps := #[.pointer (some ⟨gb, 0, none⟩), vL, vR, a.tmps.getD 3 undef, a.tmps.getD 4 undef, a.tmps.getD 5 undef, a.tmps.getD 6 undef, v, a.tmps.getD 8 undef, a.tmps.getD 9 undef, a.tmps.getD 10 undef, a.tmps.getD 11 undef, a.tmps.getD 12 undef, a.tmps.getD 13 undef, a.tmps.getD 14 undef, a.tmps.getD 15 undef, a.tmps.getD 16 undef, a.tmps.getD 17 undef, a.tmps.getD 18 undef, a.tmps.getD 19 undef, a.tmps.getD 20 undef, a.tmps.getD 21 undef, a.tmps.getD 22 undef, a.tmps.getD 23 undef, a.tmps.getD 24 undef, a.tmps.getD 25 undef, a.tmps.getD 26 undef, a.tmps.getD 27 undef, a.tmps.getD 28 undef, a.tmps.getD 29 undef, a.tmps.getD 30 undef, a.tmps.getD 31 undef, a.tmps.getD 32 undef, a.tmps.getD 33 undef, a.tmps.getD 34 undef, a.tmps.getD 35 undef, a.tmps.getD 36 undef, a.tmps.getD 37 undef, a.tmps.getD 38 undef, a.tmps.getD 39 undef, a.tmps.getD 40 undef, a.tmps.getD 41 undef, a.tmps.getD 42 undef, a.tmps.getD 43 undef, a.tmps.getD 44 undef, a.tmps.getD 45 undef, a.tmps.getD 46 undef, a.tmps.getD 47 undef, a.tmps.getD 48 undef, a.tmps.getD 49 undef, a.tmps.getD 50 undef, a.tmps.getD 51 undef, a.tmps.getD 52 undef, a.tmps.getD 53 undef, a.tmps.getD 54 undef, a.tmps.getD 55 undef, a.tmps.getD 56 undef, a.tmps.getD 57 undef, a.tmps.getD 58 undef, a.tmps.getD 59 undef, a.tmps.getD 60 undef, a.tmps.getD 61 undef, a.tmps.getD 62 undef, a.tmps.getD 63 undef, a.tmps.getD 64 undef, a.tmps.getD 65 undef, a.tmps.getD 66 undef, a.tmps.getD 67 undef, a.tmps.getD 68 undef, a.tmps.getD 69 undef, a.tmps.getD 70 undef, a.tmps.getD 71 undef, a.tmps.getD 72 undef, a.tmps.getD 73 undef, a.tmps.getD 74 undef, a.tmps.getD 75 undef, a.tmps.getD 76 undef, a.tmps.getD 77 undef, a.tmps.getD 78 undef, a.tmps.getD 79 undef, a.tmps.getD 80 undef, a.tmps.getD 81 undef, a.tmps.getD 82 undef, a.tmps.getD 83 undef, a.tmps.getD 84 undef, a.tmps.getD 85 undef, a.tmps.getD 86 undef, a.tmps.getD 87 undef, a.tmps.getD 88 undef, a.tmps.getD 89 undef, a.tmps.getD 90 undef, a.tmps.getD 91 undef, a.tmps.getD 92 undef, a.tmps.getD 93 undef, a.tmps.getD 94 undef, a.tmps.getD 95 undef], defers := [] } : Act)) (hg : g = 4 * roots G + ps.length) (h : JoinW V ss D L R gb base N w wr v G rt d ps) :
    JJ V ss D L R gb base N w vL vR g a wr := ⟨v, G, rt, d, ps, fun i => a.tmps.getD i undef, ha, hg, h⟩
def JoinTold (V : Nat) (ss : List Sym) (D : Nat → List Int) (L R : List Nat) (gb base N : Nat) (w : World) (e : Ending) (w' : World) : Prop :=
  ((e = .returned (.bool true) ∧ ∃ G rt d, GraphAt w' base gb G ∧ Cls V ss G D rt d [] L R ∧ G.length = N ∧ ∀ k, k < N → lenAt G k = 0) ∨
   (e = .returned (.bool false) ∧ ∀ θ, Sub V ss θ → ¬ ∀ p ∈ L.zip R, ap θ (D p.1) = ap θ (D p.2))) ∧ Chg [68, 78] base w w'

set_option maxHeartbeats 1000000 in
theorem join_any (V : Nat) (ss : List Sym) (D : Nat → List Int) (L R : List Nat) (gb base b1 b2 : Nat) (vL vR : Value) (G : List Nd) (w : World) (hmay : mayB ss = true) (h : GraphAt w base gb G) (hst : Stands V ss G D) (hf : ∀ n, n < G.length → (ndAt G n).up = n ∧ lenAt G n = 0)
    (hL : OwnI w b1 vL (nats L)) (hR : OwnI w b2 vR (nats R)) (hl : L.length = R.length) (hll : L.length ≤ 48) (hLN : ∀ x ∈ L, x < G.length) (hRN : ∀ x ∈ R, x < G.length) (hN : G.length ≤ 1000) :
    Calls Try.prog 26 #[.pointer (some ⟨gb, 0, none⟩), vL, vR] w (JoinTold V ss D L R gb base G.length w) := by
  have HM := Lib.hid hmay
  have hbase : base ≤ w.heap.size := by
    have h1 := h.lt
    obtain ⟨_, _, h2, _⟩ := h
    omega
  have hmany := hst.many
  have HG := Lib.hid h
  have HL := Lib.hid hL
  have HR := Lib.hid hR
  have HCL := Lib.hid (Cls.start (L := L) (R := R) hst (fun n hn => (hf n hn).1) hLN hRN)
  have HZ := Lib.hid (fun n hn => (hf n hn).2)
  have HLL := Lib.hid hll
  have HLR := Lib.hid hl
  obtain ⟨N, hNe⟩ : ∃ N, N = G.length := ⟨_, rfl⟩
  rw [← hNe] at hmany hN HZ ⊢
  have HN := Lib.hid hNe
  clear hmay h hst hf hL hR hl hll hLN hRN hNe
  go_enter Try.func26, Try.ntmps26
  go_wp2
  refine wp_scope1 (X := ?X) (JJ V ss D L R gb base N w vL vR) (3 * N + N + 200) ?h0 ?_ ?_
  case h0 => exact rfl
  · rintro g a wr ⟨v, G1, rt, d, ps, u, rfl, rfl, hj⟩
    have HJ := Lib.hid hj
    obtain ⟨A1, c1, hv⟩ := hj.own.value
    by_cases hps : ps = []
    · subst hps
      subst hv
      have HE : Hid (JoinTold V ss D L R gb base N w (.returned (.bool true)) wr) := ⟨.inl ⟨rfl, G1, rt, d, hj.at_, hj.cls, hj.many, hj.zero⟩, hj.chg⟩
      clear hj
      go_wp2
      go_ret
      exact HE.out
    · obtain ⟨P, x, y, rfl⟩ : ∃ P x y, ps = P ++ [(x, y)] := ⟨ps.dropLast, (ps.getLast hps).1, (ps.getLast hps).2, (List.dropLast_concat_getLast hps).symm⟩
      clear hps
      obtain ⟨g, cap, hg, hgb, hgl, hgc⟩ : ∃ g cap, v = .slice (some ⟨g, 0, none⟩) (P.length + 1) cap ∧ base ≤ g ∧ g < wr.heap.size ∧ P.length + 1 ≤ cap := by
        rcases hj.own.shape with ⟨_, e⟩ | ⟨g, cap, e, h1, h2, h3⟩
        · simp at e
        · simp at e h3; exact ⟨g, cap, e, h1, h2, h3⟩
      subst hg
      clear hv A1 c1
      obtain ⟨k1, k2, k3⟩ := hj.own.last
      have HK3 := Lib.hid k3
      obtain ⟨pl, hpl⟩ : ∃ pl, pl = P.length := ⟨_, rfl⟩
      rw [← hpl] at k1 k2 hgc HK3 ⊢
      have HPL := Lib.hid hpl
      have hpl9 : pl ≤ 4000 := by
        have := hj.few
        simp only [List.length_append, List.length_cons, List.length_nil] at this
        omega
      have z0 : (0 : Int) ≤ (pl : Int) := by omega
      have z1 : (pl : Int) ≤ (cap : Int) := by omega
      clear hj k3 hpl
      have HNG : Hid (G1.length ≤ 1000) := by show G1.length ≤ 1000; rw [HJ.out.many]; exact hN
      obtain ⟨hxN, hyN⟩ := HJ.out.cls.pin (x, y) (by simp)
      have HXN := Lib.hid hxN
      have HYN := Lib.hid hyN
      obtain ⟨x1, x2, x3⟩ := HJ.out.cls.fo.root hxN
      obtain ⟨y1, y2, y3⟩ := HJ.out.cls.fo.root hyN
      have HX1 := Lib.hid x1
      have HY1 := Lib.hid y1
      clear hxN hyN x1 x2 x3 y1 y2 y3
      have hq := below_new wr (.cells #[.int .i64 (x : Int), .int .i64 (y : Int)] 78)
      have HG2 := Lib.hid (HJ.out.at_.on hq)
      have HP2 := Lib.hid (HK3.out.on hq)
      have HC2 := Lib.hid (HJ.out.chg.trans (Chg.of_below hq (by omega)))
      have s1 : (wr.alloc (.cells #[.int .i64 (x : Int), .int .i64 (y : Int)] 78)).cell? ⟨wr.heap.size, 0, none⟩ = some (.int .i64 (x : Int)) := by rw [World.cell?_alloc_new]; rfl
      have s2 : (wr.alloc (.cells #[.int .i64 (x : Int), .int .i64 (y : Int)] 78)).cell? ⟨wr.heap.size, 1, none⟩ = some (.int .i64 (y : Int)) := by rw [World.cell?_alloc_new]; rfl
      have hlb : wr.heap.size < (wr.alloc (.cells #[.int .i64 (x : Int), .int .i64 (y : Int)] 78)).heap.size := by simp
      clear hq
      go_wp2_with fail
      obtain ⟨lb, hlbe⟩ : ∃ lb, lb = wr.heap.size := ⟨_, rfl⟩
      obtain ⟨w2, hw2⟩ : ∃ w2, w2 = wr.alloc (.cells #[.int .i64 (x : Int), .int .i64 (y : Int)] 78) := ⟨_, rfl⟩
      rw [← hw2, ← hlbe]
      rw [← hw2] at HG2 HP2 HC2 s1 s2 hlb
      rw [← hlbe] at s1 s2 hlb
      clear hw2 hlbe k1 k2 hgl
      refine wp_region_held_drew (S := (fun w' => w'.cell? ⟨lb, 0, none⟩ = some (.int .i64 (x : Int)) ∧ w'.cell? ⟨lb, 1, none⟩ = some (.int .i64 (y : Int)))) (by kernel_rfl) ⟨s1, s2⟩ (fun hHeld => ?_)
      refine takeH (i := 0) (v := ?_) rfl rfl (by kernel_rfl) (by kernel_rfl) (by kernel_rfl) (fun _ _ _ h => h) (by rfl) ?_ hHeld ?_
      rotate_left
      · (intro w hSw; (try dsimp only at hSw); first | (go_simp; done) | (go_simp; with_reducible rfl))
      simp only [Act.put, List.setIfInBounds_toArray, List.set_cons_zero, List.set_cons_succ]
      refine takeH (i := 1) (v := ?_) rfl rfl (by kernel_rfl) (by kernel_rfl) (by kernel_rfl) (fun _ _ _ h => h) (by rfl) ?_ hHeld ?_
      rotate_left
      · (intro w hSw; (try dsimp only at hSw); first | (go_simp; done) | (go_simp; with_reducible rfl))
      simp only [Act.put, List.setIfInBounds_toArray, List.set_cons_zero, List.set_cons_succ]
      refine takeH (i := 2) (v := ?_) rfl rfl (by kernel_rfl) (by kernel_rfl) (by kernel_rfl) (fun _ _ _ h => h) (by rfl) ?_ hHeld ?_
      rotate_left
      · (intro w hSw; (try dsimp only at hSw); first | (go_simp; done) | (go_simp; with_reducible rfl))
      simp only [Act.put, List.setIfInBounds_toArray, List.set_cons_zero, List.set_cons_succ]
      refine takeH (i := 3) (v := ?_) rfl rfl (by kernel_rfl) (by kernel_rfl) (by kernel_rfl) (fun _ _ _ h => h) (by rfl) ?_ hHeld ?_
      rotate_left
      · (intro w hSw; (try dsimp only at hSw); first | (go_simp; done) | (go_simp; with_reducible rfl))
      simp only [Act.put, List.setIfInBounds_toArray, List.set_cons_zero, List.set_cons_succ]
      refine takeH (i := 5) (v := ?_) rfl rfl (by kernel_rfl) (by kernel_rfl) (by kernel_rfl) (fun _ _ _ h => h) (by rfl) ?_ hHeld ?_
      rotate_left
      · (intro w hSw; (try dsimp only at hSw); first | (go_simp; done) | (go_simp; with_reducible rfl))
      simp only [Act.put, List.setIfInBounds_toArray, List.set_cons_zero, List.set_cons_succ]
      refine takeH (i := 6) (v := ?_) rfl rfl (by kernel_rfl) (by kernel_rfl) (by kernel_rfl) (fun _ _ _ h => h) (by rfl) ?_ hHeld ?_
      rotate_left
      · (intro w hSw; (try dsimp only at hSw); first | (go_simp; done) | (go_simp; with_reducible rfl))
      simp only [Act.put, List.setIfInBounds_toArray, List.set_cons_zero, List.set_cons_succ]
      refine takeH (i := 7) (v := ?_) rfl rfl (by kernel_rfl) (by kernel_rfl) (by kernel_rfl) (fun _ _ _ h => h) (by rfl) ?_ hHeld ?_
      rotate_left
      · (intro w hSw; (try dsimp only at hSw); first | (go_simp; done) | (go_simp; with_reducible rfl))
      simp only [Act.put, List.setIfInBounds_toArray, List.set_cons_zero, List.set_cons_succ]
      refine wpAnyH_ready (rs := [4]) (by kernel_rfl) (by simp) ?_
      refine AllReadyH.cons rfl (fun K hK => ?_) AllReadyH.nil
      go_simp
      refine (root_any gb base x G1 rt d _ (HG2.out.on (Below.refl _ _).drew) HJ.out.cls.fo HXN.out HNG.out).mono ?_
      rintro e w3 ⟨rfl, rfl⟩
      go_wp2_with fail
      refine hK.out _ _ ?_ (fun hHeld => ?_)
      · exact ⟨s1, s2⟩
      clear hK K
      refine wpAnyH_ready (rs := [8]) (by kernel_rfl) (by simp) ?_
      refine AllReadyH.cons rfl (fun K hK => ?_) AllReadyH.nil
      go_simp
      refine (root_any gb base y G1 rt d _ (HG2.out.on (Below.refl _ _).drew) HJ.out.cls.fo HYN.out HNG.out).mono ?_
      rintro e w3 ⟨rfl, rfl⟩
      go_wp2_with fail
      refine hK.out _ _ ?_ (fun hHeld => ?_)
      · exact ⟨s1, s2⟩
      clear hK K
      refine wpAnyH_ready (rs := [9]) (by kernel_rfl) (by simp) ?_
      refine AllReadyH.cons rfl (fun K hK => ?_) AllReadyH.nil
      go_simp
      refine (rootFirst_any gb base (rt x) (rt y) G1 _ (HG2.out.on (Below.refl _ _).drew) HX1.out HY1.out HNG.out).mono ?_
      rintro e w3 ⟨⟨r, o, rfl, hor, hcode⟩, hb3⟩
      have hb3' : Below w2.heap.size w2 w3 := (Below.refl _ _).drew.trans hb3
      have HOR := Lib.hid hor
      have HCODE := Lib.hid hcode
      have HG3 := Lib.hid (HG2.out.on hb3')
      have HP3 := Lib.hid (HP2.out.on hb3')
      have HC3 := Lib.hid (HC2.out.trans (Chg.of_below hb3' (by have := HC2.out.bel.size; omega)))
      have t1 : w3.cell? ⟨lb, 0, none⟩ = some (.int .i64 (x : Int)) := (hb3'.cell (p := ⟨lb, 0, none⟩) hlb).trans s1
      have t2 : w3.cell? ⟨lb, 1, none⟩ = some (.int .i64 (y : Int)) := (hb3'.cell (p := ⟨lb, 1, none⟩) hlb).trans s2
      clear hor hcode hb3 hb3'
      go_wp2_with fail
      refine hK.out _ _ ?_ (fun hHeld => ?_)
      · exact ⟨t1, t2⟩
      clear hK K
      refine takeH (i := 10) (v := ?_) rfl rfl (by kernel_rfl) (by kernel_rfl) (by kernel_rfl) (fun _ _ _ h => h) (by rfl) ?_ hHeld ?_
      rotate_left
      · (intro w hSw; (try dsimp only at hSw); first | (go_simp; done) | (go_simp; with_reducible rfl))
      simp only [Act.put, List.setIfInBounds_toArray, List.set_cons_zero, List.set_cons_succ]
      refine takeH (i := 11) (v := ?_) rfl rfl (by kernel_rfl) (by kernel_rfl) (by kernel_rfl) (fun _ _ _ h => h) (by rfl) ?_ hHeld ?_
      rotate_left
      · (intro w hSw; (try dsimp only at hSw); first | (go_simp; done) | (go_simp; with_reducible rfl))
      simp only [Act.put, List.setIfInBounds_toArray, List.set_cons_zero, List.set_cons_succ]
      refine takeH (i := 12) (v := ?_) rfl rfl (by kernel_rfl) (by kernel_rfl) (by kernel_rfl) (fun _ _ _ h => h) (by rfl) ?_ hHeld ?_
      rotate_left
      · (intro w hSw; (try dsimp only at hSw); first | (go_simp; done) | (go_simp; with_reducible rfl))
      simp only [Act.put, List.setIfInBounds_toArray, List.set_cons_zero, List.set_cons_succ]
      refine takeH (i := 13) (v := ?_) rfl rfl (by kernel_rfl) (by kernel_rfl) (by kernel_rfl) (fun _ _ _ h => h) (by rfl) ?_ hHeld ?_
      rotate_left
      · (intro w hSw; (try dsimp only at hSw); first | (go_simp; done) | (go_simp; with_reducible rfl))
      simp only [Act.put, List.setIfInBounds_toArray, List.set_cons_zero, List.set_cons_succ]
      refine takeH (i := 14) (v := ?_) rfl rfl (by kernel_rfl) (by kernel_rfl) (by kernel_rfl) (fun _ _ _ h => h) (by rfl) ?_ hHeld ?_
      rotate_left
      · (intro w hSw; (try dsimp only at hSw); first | (go_simp; done) | (go_simp; with_reducible rfl))
      simp only [Act.put, List.setIfInBounds_toArray, List.set_cons_zero, List.set_cons_succ]
      refine wpAnyH_done (by kernel_rfl) ?_ _
      have HPOP : Hid (rt x = rt y → JoinW V ss D L R gb base N w w3 (.slice (some ⟨g, 0, none⟩) pl cap) G1 rt d P) := fun e =>
        ⟨HG3.out, HP3.out, HJ.out.cls.pop e, HJ.out.many, HJ.out.zero, HC3.out, by have := HJ.out.few; simp only [List.length_append, List.length_cons, List.length_nil] at this; omega⟩
      by_cases hro : r = o
      · have hEQ : rt x = rt y := by rcases HOR.out with ⟨e1, e2⟩ | ⟨e1, e2⟩ <;> omega
        have HPP := Lib.hid (HPOP.out hEQ)
        have hro' : (r : Int) = (o : Int) := by omega
        clear hEQ hro
        go_wp2
        go_step3
        exact ⟨4 * roots G1 + P.length, by simp, JJ.mk rfl rfl HPP.out⟩
      · have hro' : ¬ (r : Int) = (o : Int) := by omega
        have HNE := Lib.hid hro
        have HOR2 : Hid ((rt x = r ∧ rt y = o) ∨ (rt x = o ∧ rt y = r)) := HOR.out
        obtain ⟨hrN, hoN, hru, hou⟩ := HJ.out.cls.ends HOR2.out
        have HRN := Lib.hid hrN
        have HON := Lib.hid hoN
        have HROOTS := Lib.hid (roots_link (r := r) hoN hou hro)
        obtain ⟨nb, cap2, _, hnb, hcap2, hcell, _⟩ := HG3.out.cells (by omega)
        obtain ⟨hgn, -, hfz, hkeep, hall⟩ := HG3.out.nodes hcell
        obtain ⟨⟨hGset, hCset⟩, _, _⟩ := HG3.out.set hoN hcell r
        have HGS := Lib.hid hGset
        have HCS := Lib.hid hCset
        have hf := hfz (o * 4 + 2)
        obtain ⟨_, c2, _⟩ := hall o hoN
        have hcell4 := hkeep (o * 4 + 2) (.int .i64 (r : Int))
        rw [HJ.out.many] at hcell hcap2 hcell4 hrN hoN
        obtain ⟨-, -, hfz4, -, hall4⟩ := HGS.out.nodes hcell4
        obtain ⟨e0, _, _⟩ := hall4 o (by rw [setUp_length]; exact HON.out)
        obtain ⟨f0, _, _⟩ := hall4 r (by rw [setUp_length]; exact HRN.out)
        rw [setUp_code HON.out] at e0 f0
        obtain ⟨w4, hw4⟩ : ∃ w4, w4 = w3.setCell ⟨nb, o * 4 + 2, none⟩ (.int .i64 (r : Int)) := ⟨_, rfl⟩
        have i0 : (0 : Int) ≤ (o : Int) := by omega
        have i1 : (o : Int) < (N : Int) := by omega
        have i2 : (0 : Int) ≤ (r : Int) := by omega
        have i3 : (r : Int) < (N : Int) := by omega
        obtain ⟨co, hco⟩ : ∃ co, co = (ndAt G1 o).code := ⟨_, rfl⟩
        obtain ⟨cr, hcr⟩ : ∃ cr, cr = (ndAt G1 r).code := ⟨_, rfl⟩
        rw [← hco] at e0
        rw [← hcr] at f0
        have HCO := Lib.hid hco
        have HCR := Lib.hid hcr
        have HPS : Hid (OwnP (w3.setCell ⟨nb, o * 4 + 2, none⟩ (.int .i64 (r : Int))) base (.slice (some ⟨g, 0, none⟩) pl cap) P) := hCset.rows (by decide) HP3.out
        have HCC := Lib.hid (HC3.out.trans (hCset.wide (fs := [68, 78]) (by simp)))
        have HMANY : Hid ((setUp G1 o r).length = N) := by show (setUp G1 o r).length = N; rw [setUp_length]; exact HJ.out.many
        have HZERO : Hid (∀ k, k < N → lenAt (setUp G1 o r) k = 0) := by
          intro k hk
          show (ndAt (setUp G1 o r) k).len = 0
          rw [setUp_len HON.out]
          exact HJ.out.zero k hk
        have HFEW : Hid (P.length + 3 + 3 * roots (setUp G1 o r) ≤ 3 * N + 100) := by
          show _ ≤ _
          have h1 := HJ.out.few
          have h2 := HROOTS.out
          simp only [List.length_append, List.length_cons, List.length_nil] at h1
          omega
        clear hGset hCset hall hfz hkeep hall4 hfz4 hw4 hco hcr hro hru hou
        by_cases hneg : co < 0
        · have HL1 := Lib.hid (HJ.out.cls.link_var HOR2.out HNE.out HCODE.out (by rw [← HCO.out]; exact hneg))
          go_wp2
          go_step3
          exact ⟨4 * roots (setUp G1 o r) + P.length, by have := HROOTS.out; simp; omega, JJ.mk rfl rfl ⟨HGS.out, HPS.out, HL1.out, HMANY.out, HZERO.out, HCC.out, by have := HFEW.out; omega⟩⟩
        · have hco0 : 0 ≤ co := by omega
          have HCO0 : Hid (0 ≤ (ndAt G1 o).code) := by show 0 ≤ (ndAt G1 o).code; rw [← HCO.out]; exact hco0
          have HCR0 : Hid (0 ≤ (ndAt G1 r).code) := by have := HCODE.out; have := HCO0.out; show 0 ≤ (ndAt G1 r).code; omega
          clear hneg
          go_wp2_with fail
          refine wp_region_held_drew (S := (fun w' => w'.cell? ⟨gb, 0, none⟩ = some (.slice (some ⟨nb, 0, none⟩) N cap2) ∧ w'.cell? ⟨nb, o * 4, none⟩ = some (.int .i64 co) ∧ w'.cell? ⟨nb, r * 4, none⟩ = some (.int .i64 cr))) (by kernel_rfl) ⟨hcell4, e0, f0⟩ (fun hHeld => ?_)
          refine takeH (i := 0) (v := ?_) rfl rfl (by kernel_rfl) (by kernel_rfl) (by kernel_rfl) (fun _ _ _ h => h) (by rfl) ?_ hHeld ?_
          rotate_left
          · (intro w hSw; (try dsimp only at hSw); first | (go_simp; done) | (go_simp; with_reducible rfl))
          simp only [Act.put, List.setIfInBounds_toArray, List.set_cons_zero, List.set_cons_succ]
          refine takeH (i := 1) (v := ?_) rfl rfl (by kernel_rfl) (by kernel_rfl) (by kernel_rfl) (fun _ _ _ h => h) (by rfl) ?_ hHeld ?_
          rotate_left
          · (intro w hSw; (try dsimp only at hSw); first | (go_simp; done) | (go_simp; with_reducible rfl))
          simp only [Act.put, List.setIfInBounds_toArray, List.set_cons_zero, List.set_cons_succ]
          refine takeH (i := 2) (v := ?_) rfl rfl (by kernel_rfl) (by kernel_rfl) (by kernel_rfl) (fun _ _ _ h => h) (by rfl) ?_ hHeld ?_
          rotate_left
          · (intro w hSw; (try dsimp only at hSw); first | (go_simp; done) | (go_simp; with_reducible rfl))
          simp only [Act.put, List.setIfInBounds_toArray, List.set_cons_zero, List.set_cons_succ]
          refine takeH (i := 3) (v := ?_) rfl rfl (by kernel_rfl) (by kernel_rfl) (by kernel_rfl) (fun _ _ _ h => h) (by rfl) ?_ hHeld ?_
          rotate_left
          · (intro w hSw; (try dsimp only at hSw); first | (go_simp; done) | (go_simp; with_reducible rfl))
          simp only [Act.put, List.setIfInBounds_toArray, List.set_cons_zero, List.set_cons_succ]
          refine takeH (i := 4) (v := ?_) rfl rfl (by kernel_rfl) (by kernel_rfl) (by kernel_rfl) (fun _ _ _ h => h) (by rfl) ?_ hHeld ?_
          rotate_left
          · (intro w hSw; (try dsimp only at hSw); first | (go_simp; done) | (go_simp; with_reducible rfl))
          simp only [Act.put, List.setIfInBounds_toArray, List.set_cons_zero, List.set_cons_succ]
          refine takeH (i := 5) (v := ?_) rfl rfl (by kernel_rfl) (by kernel_rfl) (by kernel_rfl) (fun _ _ _ h => h) (by rfl) ?_ hHeld ?_
          rotate_left
          · (intro w hSw; (try dsimp only at hSw); first | (go_simp; done) | (go_simp; with_reducible rfl))
          simp only [Act.put, List.setIfInBounds_toArray, List.set_cons_zero, List.set_cons_succ]
          refine takeH (i := 6) (v := ?_) rfl rfl (by kernel_rfl) (by kernel_rfl) (by kernel_rfl) (fun _ _ _ h => h) (by rfl) ?_ hHeld ?_
          rotate_left
          · (intro w hSw; (try dsimp only at hSw); first | (go_simp; done) | (go_simp; with_reducible rfl))
          simp only [Act.put, List.setIfInBounds_toArray, List.set_cons_zero, List.set_cons_succ]
          refine takeH (i := 7) (v := ?_) rfl rfl (by kernel_rfl) (by kernel_rfl) (by kernel_rfl) (fun _ _ _ h => h) (by rfl) ?_ hHeld ?_
          rotate_left
          · (intro w hSw; (try dsimp only at hSw); first | (go_simp; done) | (go_simp; with_reducible rfl))
          simp only [Act.put, List.setIfInBounds_toArray, List.set_cons_zero, List.set_cons_succ]
          refine takeH (i := 8) (v := ?_) rfl rfl (by kernel_rfl) (by kernel_rfl) (by kernel_rfl) (fun _ _ _ h => h) (by rfl) ?_ hHeld ?_
          rotate_left
          · (intro w hSw; (try dsimp only at hSw); first | (go_simp; done) | (go_simp; with_reducible rfl))
          simp only [Act.put, List.setIfInBounds_toArray, List.set_cons_zero, List.set_cons_succ]
          refine takeH (i := 9) (v := ?_) rfl rfl (by kernel_rfl) (by kernel_rfl) (by kernel_rfl) (fun _ _ _ h => h) (by rfl) ?_ hHeld ?_
          rotate_left
          · (intro w hSw; (try dsimp only at hSw); first | (go_simp; done) | (go_simp; with_reducible rfl))
          simp only [Act.put, List.setIfInBounds_toArray, List.set_cons_zero, List.set_cons_succ]
          refine takeH (i := 10) (v := ?_) rfl rfl (by kernel_rfl) (by kernel_rfl) (by kernel_rfl) (fun _ _ _ h => h) (by rfl) ?_ hHeld ?_
          rotate_left
          · (intro w hSw; (try dsimp only at hSw); first | (go_simp; done) | (go_simp; with_reducible rfl))
          simp only [Act.put, List.setIfInBounds_toArray, List.set_cons_zero, List.set_cons_succ]
          refine takeH (i := 11) (v := ?_) rfl rfl (by kernel_rfl) (by kernel_rfl) (by kernel_rfl) (fun _ _ _ h => h) (by rfl) ?_ hHeld ?_
          rotate_left
          · (intro w hSw; (try dsimp only at hSw); first | (go_simp; done) | (go_simp; with_reducible rfl))
          simp only [Act.put, List.setIfInBounds_toArray, List.set_cons_zero, List.set_cons_succ]
          refine takeH (i := 12) (v := ?_) rfl rfl (by kernel_rfl) (by kernel_rfl) (by kernel_rfl) (fun _ _ _ h => h) (by rfl) ?_ hHeld ?_
          rotate_left
          · (intro w hSw; (try dsimp only at hSw); first | (go_simp; done) | (go_simp; with_reducible rfl))
          simp only [Act.put, List.setIfInBounds_toArray, List.set_cons_zero, List.set_cons_succ]
          refine takeH (i := 13) (v := ?_) rfl rfl (by kernel_rfl) (by kernel_rfl) (by kernel_rfl) (fun _ _ _ h => h) (by rfl) ?_ hHeld ?_
          rotate_left
          · (intro w hSw; (try dsimp only at hSw); first | (go_simp; done) | (go_simp; with_reducible rfl))
          simp only [Act.put, List.setIfInBounds_toArray, List.set_cons_zero, List.set_cons_succ]
          refine takeH (i := 14) (v := ?_) rfl rfl (by kernel_rfl) (by kernel_rfl) (by kernel_rfl) (fun _ _ _ h => h) (by rfl) ?_ hHeld ?_
          rotate_left
          · (intro w hSw; (try dsimp only at hSw); first | (go_simp; done) | (go_simp; with_reducible rfl))
          simp only [Act.put, List.setIfInBounds_toArray, List.set_cons_zero, List.set_cons_succ]
          refine takeH (i := 15) (v := ?_) rfl rfl (by kernel_rfl) (by kernel_rfl) (by kernel_rfl) (fun _ _ _ h => h) (by rfl) ?_ hHeld ?_
          rotate_left
          · (intro w hSw; (try dsimp only at hSw); first | (go_simp; done) | (go_simp; with_reducible rfl))
          simp only [Act.put, List.setIfInBounds_toArray, List.set_cons_zero, List.set_cons_succ]
          refine takeH (i := 16) (v := ?_) rfl rfl (by kernel_rfl) (by kernel_rfl) (by kernel_rfl) (fun _ _ _ h => h) (by rfl) ?_ hHeld ?_
          rotate_left
          · (intro w hSw; (try dsimp only at hSw); first | (go_simp; done) | (go_simp; with_reducible rfl))
          simp only [Act.put, List.setIfInBounds_toArray, List.set_cons_zero, List.set_cons_succ]
          refine wpAnyH_done (by kernel_rfl) ?_ _
          obtain ⟨w5, hw5⟩ : ∃ w5, w5 = (w3.setCell ⟨nb, o * 4 + 2, none⟩ (.int .i64 (r : Int))).drew := ⟨_, rfl⟩
          rw [← hw5]
          have hb5 : Below (w3.setCell ⟨nb, o * 4 + 2, none⟩ (.int .i64 (r : Int))).heap.size (w3.setCell ⟨nb, o * 4 + 2, none⟩ (.int .i64 (r : Int))) w5 := by rw [hw5]; exact (Below.refl _ _).drew
          have hcell5 : w5.cell? ⟨gb, 0, none⟩ = some (.slice (some ⟨nb, 0, none⟩) N cap2) := by rw [hw5]; exact hcell4
          have hbb : base ≤ (w3.setCell ⟨nb, o * 4 + 2, none⟩ (.int .i64 (r : Int))).heap.size := by have := HCC.out.bel.size; omega
          have HG5 := Lib.hid (HGS.out.on hb5)
          have HP5 := Lib.hid (HPS.out.on hb5)
          have HC5 := Lib.hid (HCC.out.trans (Chg.of_below hb5 hbb))
          clear hb5 hw5 hbb HGS HPS HCC HCS e0 f0 hcell4 hcell c2 hf HG3 HP3 HC3 t1 t2 s1 s2 hHeld
          by_cases hne : cr = co
          · have hne' : (cr != co) = false := by simp [hne]
            obtain ⟨HLK', hlen'⟩ := HJ.out.cls.link_sym HOR2.out HNE.out HCO0.out (by rw [← HCO.out, ← HCR.out]; exact hne)
            have HLK := Lib.hid HLK'
            have HLEN := Lib.hid hlen'
            have hal := ar_le HM.out (HJ.out.cls.st.sym r (HJ.out.cls.sym_of HRN.out HCR0.out) HRN.out).2
            have HAL := Lib.hid hal
            obtain ⟨Ar, lr, cr2, q1, o1⟩ := HG5.out.arg hcell5 (i := r) (by rw [setUp_length]; exact HRN.out)
            obtain ⟨Ao, lo, co2, q2, o2⟩ := HG5.out.arg hcell5 (i := o) (by rw [setUp_length]; exact HON.out)
            rw [setUp_args HON.out] at o1 o2
            have HO1 := Lib.hid o1
            have HO2 := Lib.hid o2
            have hbw5 : base ≤ w5.heap.size := by have := HC5.out.bel.size; omega
            clear HLK' hlen' hal o1 o2 hne
            go_wp2_with fail
            refine wp_region_held_drew (S := (fun w' => w'.cell? ⟨gb, 0, none⟩ = some (.slice (some ⟨nb, 0, none⟩) N cap2) ∧ w'.cell? ⟨nb, r * 4 + 1, none⟩ = some (.slice Ar lr cr2) ∧ w'.cell? ⟨nb, o * 4 + 1, none⟩ = some (.slice Ao lo co2))) (by kernel_rfl) ⟨hcell5, q1, q2⟩ (fun hHeld => ?_)
            refine takeH (i := 0) (v := ?_) rfl rfl (by kernel_rfl) (by kernel_rfl) (by kernel_rfl) (fun _ _ _ h => h) (by rfl) ?_ hHeld ?_
            rotate_left
            · (intro w hSw; (try dsimp only at hSw); first | (go_simp; done) | (go_simp; with_reducible rfl))
            simp only [Act.put, List.setIfInBounds_toArray, List.set_cons_zero, List.set_cons_succ]
            refine takeH (i := 1) (v := ?_) rfl rfl (by kernel_rfl) (by kernel_rfl) (by kernel_rfl) (fun _ _ _ h => h) (by rfl) ?_ hHeld ?_
            rotate_left
            · (intro w hSw; (try dsimp only at hSw); first | (go_simp; done) | (go_simp; with_reducible rfl))
            simp only [Act.put, List.setIfInBounds_toArray, List.set_cons_zero, List.set_cons_succ]
            refine takeH (i := 2) (v := ?_) rfl rfl (by kernel_rfl) (by kernel_rfl) (by kernel_rfl) (fun _ _ _ h => h) (by rfl) ?_ hHeld ?_
            rotate_left
            · (intro w hSw; (try dsimp only at hSw); first | (go_simp; done) | (go_simp; with_reducible rfl))
            simp only [Act.put, List.setIfInBounds_toArray, List.set_cons_zero, List.set_cons_succ]
            refine takeH (i := 3) (v := ?_) rfl rfl (by kernel_rfl) (by kernel_rfl) (by kernel_rfl) (fun _ _ _ h => h) (by rfl) ?_ hHeld ?_
            rotate_left
            · (intro w hSw; (try dsimp only at hSw); first | (go_simp; done) | (go_simp; with_reducible rfl))
            simp only [Act.put, List.setIfInBounds_toArray, List.set_cons_zero, List.set_cons_succ]
            refine takeH (i := 4) (v := ?_) rfl rfl (by kernel_rfl) (by kernel_rfl) (by kernel_rfl) (fun _ _ _ h => h) (by rfl) ?_ hHeld ?_
            rotate_left
            · (intro w hSw; (try dsimp only at hSw); first | (go_simp; done) | (go_simp; with_reducible rfl))
            simp only [Act.put, List.setIfInBounds_toArray, List.set_cons_zero, List.set_cons_succ]
            refine takeH (i := 5) (v := ?_) rfl rfl (by kernel_rfl) (by kernel_rfl) (by kernel_rfl) (fun _ _ _ h => h) (by rfl) ?_ hHeld ?_
            rotate_left
            · (intro w hSw; (try dsimp only at hSw); first | (go_simp; done) | (go_simp; with_reducible rfl))
            simp only [Act.put, List.setIfInBounds_toArray, List.set_cons_zero, List.set_cons_succ]
            refine takeH (i := 6) (v := ?_) rfl rfl (by kernel_rfl) (by kernel_rfl) (by kernel_rfl) (fun _ _ _ h => h) (by rfl) ?_ hHeld ?_
            rotate_left
            · (intro w hSw; (try dsimp only at hSw); first | (go_simp; done) | (go_simp; with_reducible rfl))
            simp only [Act.put, List.setIfInBounds_toArray, List.set_cons_zero, List.set_cons_succ]
            refine takeH (i := 7) (v := ?_) rfl rfl (by kernel_rfl) (by kernel_rfl) (by kernel_rfl) (fun _ _ _ h => h) (by rfl) ?_ hHeld ?_
            rotate_left
            · (intro w hSw; (try dsimp only at hSw); first | (go_simp; done) | (go_simp; with_reducible rfl))
            simp only [Act.put, List.setIfInBounds_toArray, List.set_cons_zero, List.set_cons_succ]
            refine takeH (i := 8) (v := ?_) rfl rfl (by kernel_rfl) (by kernel_rfl) (by kernel_rfl) (fun _ _ _ h => h) (by rfl) ?_ hHeld ?_
            rotate_left
            · (intro w hSw; (try dsimp only at hSw); first | (go_simp; done) | (go_simp; with_reducible rfl))
            simp only [Act.put, List.setIfInBounds_toArray, List.set_cons_zero, List.set_cons_succ]
            refine takeH (i := 9) (v := ?_) rfl rfl (by kernel_rfl) (by kernel_rfl) (by kernel_rfl) (fun _ _ _ h => h) (by rfl) ?_ hHeld ?_
            rotate_left
            · (intro w hSw; (try dsimp only at hSw); first | (go_simp; done) | (go_simp; with_reducible rfl))
            simp only [Act.put, List.setIfInBounds_toArray, List.set_cons_zero, List.set_cons_succ]
            refine takeH (i := 10) (v := ?_) rfl rfl (by kernel_rfl) (by kernel_rfl) (by kernel_rfl) (fun _ _ _ h => h) (by rfl) ?_ hHeld ?_
            rotate_left
            · (intro w hSw; (try dsimp only at hSw); first | (go_simp; done) | (go_simp; with_reducible rfl))
            simp only [Act.put, List.setIfInBounds_toArray, List.set_cons_zero, List.set_cons_succ]
            refine takeH (i := 11) (v := ?_) rfl rfl (by kernel_rfl) (by kernel_rfl) (by kernel_rfl) (fun _ _ _ h => h) (by rfl) ?_ hHeld ?_
            rotate_left
            · (intro w hSw; (try dsimp only at hSw); first | (go_simp; done) | (go_simp; with_reducible rfl))
            simp only [Act.put, List.setIfInBounds_toArray, List.set_cons_zero, List.set_cons_succ]
            refine takeH (i := 12) (v := ?_) rfl rfl (by kernel_rfl) (by kernel_rfl) (by kernel_rfl) (fun _ _ _ h => h) (by rfl) ?_ hHeld ?_
            rotate_left
            · (intro w hSw; (try dsimp only at hSw); first | (go_simp; done) | (go_simp; with_reducible rfl))
            simp only [Act.put, List.setIfInBounds_toArray, List.set_cons_zero, List.set_cons_succ]
            refine takeH (i := 13) (v := ?_) rfl rfl (by kernel_rfl) (by kernel_rfl) (by kernel_rfl) (fun _ _ _ h => h) (by rfl) ?_ hHeld ?_
            rotate_left
            · (intro w hSw; (try dsimp only at hSw); first | (go_simp; done) | (go_simp; with_reducible rfl))
            simp only [Act.put, List.setIfInBounds_toArray, List.set_cons_zero, List.set_cons_succ]
            refine takeH (i := 14) (v := ?_) rfl rfl (by kernel_rfl) (by kernel_rfl) (by kernel_rfl) (fun _ _ _ h => h) (by rfl) ?_ hHeld ?_
            rotate_left
            · (intro w hSw; (try dsimp only at hSw); first | (go_simp; done) | (go_simp; with_reducible rfl))
            simp only [Act.put, List.setIfInBounds_toArray, List.set_cons_zero, List.set_cons_succ]
            refine takeH (i := 15) (v := ?_) rfl rfl (by kernel_rfl) (by kernel_rfl) (by kernel_rfl) (fun _ _ _ h => h) (by rfl) ?_ hHeld ?_
            rotate_left
            · (intro w hSw; (try dsimp only at hSw); first | (go_simp; done) | (go_simp; with_reducible rfl))
            simp only [Act.put, List.setIfInBounds_toArray, List.set_cons_zero, List.set_cons_succ]
            refine takeH (i := 16) (v := ?_) rfl rfl (by kernel_rfl) (by kernel_rfl) (by kernel_rfl) (fun _ _ _ h => h) (by rfl) ?_ hHeld ?_
            rotate_left
            · (intro w hSw; (try dsimp only at hSw); first | (go_simp; done) | (go_simp; with_reducible rfl))
            simp only [Act.put, List.setIfInBounds_toArray, List.set_cons_zero, List.set_cons_succ]
            refine wpAnyH_ready (rs := [17]) (by kernel_rfl) (by simp) ?_
            refine AllReadyH.cons rfl (fun K hK => ?_) AllReadyH.nil
            go_simp
            refine (both_any' base base base _ _ _ P (ndAt G1 r).args (ndAt G1 o).args w5.drew (HP5.out.on (Below.refl _ _).drew) (HO1.out.on (Below.refl _ _).drew) (HO2.out.on (Below.refl _ _).drew) HLEN.out (by have := HAL.out; have := HPL.out; omega) hbw5).mono ?_
            rintro e w6 ⟨⟨v6, rfl, hv6⟩, hc6⟩
            have HV6 := Lib.hid hv6
            have HC6 := Lib.hid (HC5.out.trans ((Chg.of_below (Below.refl _ _).drew hbw5).trans (hc6.wide (by simp))))
            have HG6 := Lib.hid ((HG5.out.on (w' := w5.drew) (Below.refl _ _).drew).chg hc6 (by decide) (by decide) (by decide))
            have hS6 : w6.cell? ⟨gb, 0, none⟩ = some (.slice (some ⟨nb, 0, none⟩) N cap2) ∧ w6.cell? ⟨nb, r * 4 + 1, none⟩ = some (.slice Ar lr cr2) ∧ w6.cell? ⟨nb, o * 4 + 1, none⟩ = some (.slice Ao lo co2) := by
              have hS := (HG5.out.on (w' := w5.drew) (Below.refl _ _).drew).same hcell5 hc6 (by decide) (by decide)
              exact ⟨(hS 0).1.trans hcell5, (hS _).2.trans q1, (hS _).2.trans q2⟩
            clear hv6 hc6
            go_wp2_with fail
            refine hK.out _ _ ?_ (fun hHeld => ?_)
            · exact hS6
            clear hK K
            refine takeH (i := 18) (v := ?_) rfl rfl (by kernel_rfl) (by kernel_rfl) (by kernel_rfl) (fun _ _ _ h => h) (by rfl) ?_ hHeld ?_
            rotate_left
            · (intro w hSw; (try dsimp only at hSw); first | (go_simp; done) | (go_simp; with_reducible rfl))
            simp only [Act.put, List.setIfInBounds_toArray, List.set_cons_zero, List.set_cons_succ]
            refine wpAnyH_done (by kernel_rfl) ?_ _
            go_wp2
            go_step3
            have hz : (P ++ (ndAt G1 r).args.zip (ndAt G1 o).args).length ≤ P.length + 3 := by have := HAL.out; simp; omega
            exact ⟨4 * roots (setUp G1 o r) + (P ++ (ndAt G1 r).args.zip (ndAt G1 o).args).length, by have := HROOTS.out; simp only [List.length_append, List.length_cons, List.length_nil] at hz ⊢; omega, JJ.mk rfl rfl ⟨HG6.out, HV6.out, HLK.out, HMANY.out, HZERO.out, HC6.out, by have := HFEW.out; omega⟩⟩
          · have hne' : (cr != co) = true := by simp [hne]
            have HNO := Lib.hid (HJ.out.cls.clash HOR2.out HCO0.out HCR0.out (by rw [← HCO.out, ← HCR.out]; exact hne))
            clear hne
            go_wp2
            go_ret
            exact ⟨.inr ⟨rfl, HNO.out⟩, HC5.out⟩
  · intro P0
    have HP0 := Lib.hid P0
    clear P0
    go_wp2_with fail
    refine (both_any' base b1 b2 _ vL vR [] L R _ OwnP.nil_ HL.out HR.out HLR.out (by have := HLL.out; simp; omega) hbase).mono ?_
    rintro e w1 ⟨⟨v1, rfl, hv1⟩, hc1⟩
    have HV1 := Lib.hid hv1
    have HC1 := Lib.hid hc1
    have HRT : Hid (roots G ≤ N) := by show roots G ≤ N; rw [HN.out]; exact cnt_le _ _
    have HZL : Hid ((L.zip R).length ≤ 48) := by have := HLL.out; show (L.zip R).length ≤ 48; simp; omega
    clear hv1 hc1
    go_wp2_with fail
    go_step3
    rename_i hK
    refine hK _ _ (HP0.out (4 * roots G + (L.zip R).length) _ _ ?_ (JJ.mk rfl rfl ⟨HG.out.chg HC1.out (by decide) (by decide) (by decide), HV1.out, HCL.out, HN.out.symm, HZ.out, HC1.out.wide (by simp), ?_⟩))
    · have := HRT.out; have := HZL.out; omega
    · have := HRT.out; have := HZL.out; omega

end Go.Proofs.Ytmdajmdjmdbonaa

namespace Go.Proofs.Ytmdajmdjmdbonaa
open Go.RowKit
set_option linter.unusedSimpArgs false
set_option linter.unusedVariables false
set_option maxRecDepth 100000

/-- The nodes of the variables. -/
def varsG (k : Nat) : List Nd := (List.range k).map fun v : Nat => ⟨-1 - (v : Int), [], v, 0⟩
theorem varsG_length (k : Nat) : (varsG k).length = k := by simp [varsG]
theorem varsG_succ (k : Nat) : varsG (k + 1) = varsG k ++ [⟨-1 - (k : Int), [], (varsG k).length, 0⟩] := by
  rw [varsG_length]; unfold varsG; rw [List.range_succ, List.map_append]; rfl
theorem varsG_at {k v : Nat} (h : v < k) : ndAt (varsG k) v = ⟨-1 - (v : Int), [], v, 0⟩ := by
  unfold ndAt varsG; rw [List.getD_eq_getElem?_getD]; simp [h]
theorem varsG_fresh (k : Nat) : Fresh (varsG k) := by
  intro n hn
  rw [varsG_length] at hn
  unfold lenAt
  rw [varsG_at hn]; exact ⟨rfl, rfl⟩
theorem varsG_stands (V : Nat) (ss : List Sym) : Stands V ss (varsG V) fun v => [-1 - (v : Int)] := by
  refine ⟨by rw [varsG_length]; omega, fun v hv => ?_, fun n h1 h2 => ?_, fun n hn => ?_, fun n hn => ?_, fun n hn => ?_⟩
  · rw [varsG_at hv]; exact ⟨rfl, rfl, rfl⟩
  · rw [varsG_length] at h2; omega
  · rw [varsG_length] at hn; rw [varsG_at hn]; simp
  · rw [varsG_length] at hn; rw [varsG_at hn]; simp
  · rw [varsG_length] at hn; exact trm_var hn
theorem rev_pairs {L R : List Nat} (hl : L.length = R.length) (Q : Nat × Nat → Prop) : (∀ p ∈ L.reverse.zip R.reverse, Q p) ↔ ∀ p ∈ L.zip R, Q p := by
  have : L.reverse.zip R.reverse = (L.zip R).reverse := by
    rw [List.zip_eq_zipWith, List.zip_eq_zipWith, List.reverse_zipWith hl]
  rw [this]
  constructor
  · intro h p hp; exact h p (List.mem_reverse.2 hp)
  · intro h p hp; exact h p (List.mem_reverse.1 hp)
theorem Cls.rev {V : Nat} {ss : List Sym} {G : List Nd} {D : Nat → List Int} {rt d : Nat → Nat} {P : List (Nat × Nat)} {L R : List Nat} (h : Cls V ss G D rt d P L R) (hl : L.length = R.length) : Cls V ss G D rt d P L.reverse R.reverse :=
  ⟨h.st, h.fo, h.high, h.same, h.cong, h.pin, fun θ hθ => by rw [rev_pairs hl]; exact h.mean θ hθ⟩
theorem Full.rev {V : Nat} {ss : List Sym} {G : List Nd} {D M : Nat → List Int} {rt d : Nat → Nat} {L R : List Nat} (h : Full V ss G D rt d L R M) (hl : L.length = R.length) : Full V ss G D rt d L.reverse R.reverse M := ⟨h.cls.rev hl, h.len, h.root, h.low⟩
