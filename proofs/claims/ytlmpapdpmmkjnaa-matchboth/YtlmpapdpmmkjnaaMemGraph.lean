/-
  Words for memory: the nodes of package unify, its pairs; what turns while one kind of row alone is written.
-/
import Derived.Test.YtlmpapdpmmkjnaaPlainUni
import Derived.Test.YtlmpapdpmmkjnaaMemBinds
import Derived.WalkSmall
namespace Go.Proofs.Ytlmpapdpmmkjnaa
open Go.RowKit
set_option linter.unusedSimpArgs false
set_option linter.unusedVariables false
set_option maxRecDepth 100000

/-- Of blocks of cells only those of the kinds es may have turned; below base nothing has. -/
structure Chg (es : List TypeId) (base : Nat) (w w' : World) : Prop where
  bel : Below base w w'
  blk : ∀ (k : Nat) (cs : Array Value) (e : TypeId) (fr : Nat × Nat), w.heap[k]? = some (.cells cs e fr) → e ∉ es → w'.heap[k]? = some (.cells cs e fr)
section
variable {es fs : List TypeId} {base base' : Nat} {w w' w2 : World}
theorem Chg.refl : Chg es base w w := ⟨Below.refl _ _, fun _ _ _ _ h _ => h⟩
theorem Chg.trans (h : Chg es base w w') (k : Chg es base w' w2) : Chg es base w w2 := ⟨h.bel.trans k.bel, fun i cs e fr hi he => k.blk i cs e fr (h.blk i cs e fr hi he) he⟩
theorem Chg.wide (h : Chg es base w w') (hs : ∀ e ∈ es, e ∈ fs) : Chg fs base w w' := ⟨h.bel, fun i cs e fr hi he => h.blk i cs e fr hi (fun q => he (hs e q))⟩
theorem Chg.of_below (h : Below w.heap.size w w') (hb : base ≤ w.heap.size) : Chg es base w w' :=
  ⟨h.mono hb, fun i cs e fr hi _ => by rw [h.block i (Array.getElem?_eq_some_iff.1 hi).1]; exact hi⟩
theorem Chg.lower (h : Chg es base w w') (hb : base' ≤ base) : Chg es base' w w' := ⟨h.bel.mono hb, h.blk⟩
theorem Chg.rows (h : Chg es base w w') {b size n : Nat} {e : TypeId} {v : Value} {ys : List Value} (he : e ∉ es) (hv : w.ownsRow b e size v n ys) : w'.ownsRow b e size v n ys := by
  obtain ⟨h1, h2⟩ := hv
  refine ⟨h1, ?_⟩
  rcases h2 with h2 | ⟨g, cap, cur, q, hg, hc, r⟩
  · exact .inl h2
  · exact .inr ⟨g, cap, cur, q, hg, h.blk _ _ _ _ hc he, r⟩
theorem Chg.own (h : Chg es base w w') (he : 3 ∉ es) {b : Nat} {v : Value} {xs : List Int} (hv : OwnI w b v xs) : OwnI w' b v xs := h.rows he hv
theorem Chg.grown {e : TypeId} {size n : Nat} {v : Value} {ys : List Value} (hg : w.grownBy w' v.ownBlock) (hv : w.ownsRow base e size v n ys) (hb : base ≤ w.heap.size) : Chg [e] base w w' := by
  refine ⟨(Below.refl base _).grown hg hb (fun k hk => (hv.lt k hk).1), fun i cs e' fr hi he => ?_⟩
  rw [hg.block i (Array.getElem?_eq_some_iff.1 hi).1 ?_]
  · exact hi
  · intro hk
    rcases hv.2 with ⟨rfl, _⟩ | ⟨g, cap, cur, rfl, _, hc, _⟩
    · simp [Value.ownBlock] at hk
    · simp only [Value.ownBlock, Option.some.injEq] at hk
      subst hk
      rw [hi] at hc
      injection hc with hc
      injection hc with _ q
      exact he (by rw [q]; simp)
theorem Chg.set {g j : Nat} {cur : Array Value} {e : TypeId} {fr : Nat × Nat} (hg : w.heap[g]? = some (.cells cur e fr)) (hb : base ≤ g) (u : Value) : Chg [e] base w (w.setCell ⟨g, j, none⟩ u) := by
  refine ⟨(Below.refl _ _).setCell hb _, fun i cs e' fr' hi he => ?_⟩
  rw [Below.heap_setCell _ _ _ _ (by
    rintro rfl
    rw [hg] at hi
    injection hi with hi
    injection hi with _ q
    exact he (by rw [q]; simp))]
  exact hi
end

def nats (xs : List Nat) : List Int := xs.map fun x : Nat => (x : Int)
theorem nats_length (xs : List Nat) : (nats xs).length = xs.length := by simp [nats]
theorem nats_append (xs ys : List Nat) : nats (xs ++ ys) = nats xs ++ nats ys := by simp [nats]
def natAt (xs : List Nat) (i : Nat) : Nat := xs.getD i 0
theorem natAt_get {xs : List Nat} {i : Nat} (h : i < xs.length) : xs[i]? = some (natAt xs i) := by
  unfold natAt; rw [List.getD_eq_getElem?_getD, List.getElem?_eq_getElem h]; rfl
theorem natAt_mem {xs : List Nat} {i : Nat} (h : i < xs.length) : natAt xs i ∈ xs := List.mem_of_getElem? (natAt_get h)
theorem nats_at {xs : List Nat} {i : Nat} (h : i < xs.length) : intAt (nats xs) i = (natAt xs i : Int) := by
  have := intAt_get (xs := nats xs) (i := i) (by rw [nats_length]; exact h)
  unfold nats at this
  rw [List.getElem?_map, natAt_get h] at this
  injection this with this
  exact this.symm
theorem nats_drop (xs : List Nat) (k : Nat) : (nats xs).drop k = nats (xs.drop k) := by simp [nats]
theorem nats_take (xs : List Nat) (k : Nat) : (nats xs).take k = nats (xs.take k) := by simp [nats]
theorem nats_reverse (xs : List Nat) : (nats xs).reverse = nats xs.reverse := by simp [nats]
theorem nat_drop {xs : List Nat} {i : Nat} (h : i < xs.length) : xs.drop i = natAt xs i :: xs.drop (i + 1) := by
  rw [List.drop_eq_getElem_cons h]
  have := natAt_get h
  rw [List.getElem?_eq_getElem h] at this
  injection this with this
  rw [this]
theorem nat_take {xs : List Nat} {i : Nat} (h : i < xs.length) : xs.take (i + 1) = xs.take i ++ [natAt xs i] := by
  rw [List.take_add_one, natAt_get h]; rfl

def ndCells (G : List Nd) (vs : List Value) : List Value := (G.zip vs).flatMap fun p => [.int .i64 p.1.code, p.2, .int .i64 (p.1.up : Int), .int .i64 (p.1.len : Int)]
theorem ndCells_cons (b : Nd) (G : List Nd) (u : Value) (vs : List Value) : ndCells (b :: G) (u :: vs) = .int .i64 b.code :: u :: .int .i64 (b.up : Int) :: .int .i64 (b.len : Int) :: ndCells G vs := by unfold ndCells; simp
theorem ndCells_length : ∀ (G : List Nd) (vs : List Value), vs.length = G.length → (ndCells G vs).length = G.length * 4
  | [], [], _ => rfl
  | b :: G, u :: vs, h => by
    rw [ndCells_cons, List.length_cons, List.length_cons, List.length_cons, List.length_cons, List.length_cons, ndCells_length G vs (by simpa using h)]; omega
theorem ndCells_snoc : ∀ (G : List Nd) (vs : List Value) (b : Nd) (u : Value), vs.length = G.length → ndCells (G ++ [b]) (vs ++ [u]) = ndCells G vs ++ [.int .i64 b.code, u, .int .i64 (b.up : Int), .int .i64 (b.len : Int)]
  | [], [], b, u, _ => rfl
  | a :: G, x :: vs, b, u, h => by
    rw [List.cons_append, List.cons_append, ndCells_cons, ndCells_cons, ndCells_snoc G vs b u (by simpa using h)]; rfl
theorem ndCells_get : ∀ (G : List Nd) (vs : List Value), vs.length = G.length → ∀ i, i < G.length → (ndCells G vs)[i * 4]? = some (.int .i64 (ndAt G i).code) ∧ (ndCells G vs)[i * 4 + 1]? = some (valAt vs i) ∧ (ndCells G vs)[i * 4 + 2]? = some (.int .i64 ((ndAt G i).up : Int)) ∧ (ndCells G vs)[i * 4 + 3]? = some (.int .i64 ((ndAt G i).len : Int))
  | b :: G, u :: vs, h, 0, _ => by rw [ndCells_cons]; exact ⟨rfl, rfl, rfl, rfl⟩
  | b :: G, u :: vs, h, i + 1, hi => by
    rw [ndCells_cons]
    have := ndCells_get G vs (by simpa using h) i (by simpa using hi)
    have e : (i + 1) * 4 = i * 4 + 1 + 1 + 1 + 1 := by omega
    rw [e]
    simp only [List.getElem?_cons_succ]
    exact this
theorem ndCells_set : ∀ (G : List Nd) (vs : List Value), vs.length = G.length → ∀ i, i < G.length → ∀ x : Nat, (ndCells G vs).set (i * 4 + 2) (.int .i64 (x : Int)) = ndCells (setUp G i x) vs ∧ (ndCells G vs).set (i * 4 + 3) (.int .i64 (x : Int)) = ndCells (setLen G i x) vs
  | b :: G, u :: vs, h, 0, _, x => by
    constructor
    · show _ = ndCells ({ b with up := x } :: G) (u :: vs); rw [ndCells_cons, ndCells_cons]; rfl
    · show _ = ndCells ({ b with len := x } :: G) (u :: vs); rw [ndCells_cons, ndCells_cons]; rfl
  | b :: G, u :: vs, h, i + 1, hi, x => by
    obtain ⟨h1, h2⟩ := ndCells_set G vs (by simpa using h) i (by simpa using hi) x
    have e2 : (i + 1) * 4 + 2 = i * 4 + 2 + 1 + 1 + 1 + 1 := by omega
    have e3 : (i + 1) * 4 + 3 = i * 4 + 3 + 1 + 1 + 1 + 1 := by omega
    constructor
    · show _ = ndCells (b :: setUp G i x) (u :: vs)
      rw [ndCells_cons, ndCells_cons, e2]
      simp only [List.set_cons_succ]
      rw [h1]
    · show _ = ndCells (b :: setLen G i x) (u :: vs)
      rw [ndCells_cons, ndCells_cons, e3]
      simp only [List.set_cons_succ]
      rw [h2]

theorem node_info : (Try.prog.info? 80).map (fun i => (i.zero, i.size, i.bytes)) = some (some (.agg #[.int .i64 0, .slice none 0 0, .int .i64 0, .int .i64 0]), 4, 48) := by kernel_rfl
theorem pair_info : (Try.prog.info? 84).map (fun i => (i.zero, i.size, i.bytes)) = some (some (.agg #[.int .i64 0, .int .i64 0]), 2, 16) := by kernel_rfl

/-- The value is a row of these nodes, all of it in blocks from base on (or nil). -/
def OwnN (w : World) (base : Nat) (v : Value) (G : List Nd) : Prop :=
  ∃ vs : List Value, vs.length = G.length ∧ w.ownsRow base 80 4 v G.length (ndCells G vs) ∧ ∀ i, i < G.length → OwnI w base (valAt vs i) (nats (ndAt G i).args)
/-- The graph at block gb. -/
def GraphAt (w : World) (base gb : Nat) (G : List Nd) : Prop := ∃ v, w.heap[gb]? = some (.cells #[v] 61 (0, 0)) ∧ base ≤ gb ∧ OwnN w base v G
section
variable {w w' : World} {base gb : Nat} {v u : Value} {G : List Nd} {xs : List Int}
theorem GraphAt.lt (h : GraphAt w base gb G) : gb < w.heap.size := by
  obtain ⟨v, h1, _⟩ := h
  exact (Array.getElem?_eq_some_iff.1 h1).1
theorem GraphAt.chg {es : List TypeId} {b : Nat} (h : GraphAt w base gb G) (hc : Chg es b w w') (h1 : 61 ∉ es) (h2 : 80 ∉ es) (h3 : 3 ∉ es) : GraphAt w' base gb G := by
  obtain ⟨v, q1, q2, vs, q3, q4, q5⟩ := h
  exact ⟨v, hc.blk _ _ _ _ q1 h1, q2, vs, q3, hc.rows h2 q4, fun i hi => hc.own h3 (q5 i hi)⟩
theorem GraphAt.on (h : GraphAt w base gb G) (hb : Below w.heap.size w w') : GraphAt w' base gb G :=
  h.chg (es := []) (b := 0) (Chg.of_below hb (by omega)) (by simp) (by simp) (by simp)
/-- What a walk reads of the graph. -/
theorem GraphAt.cells (h : GraphAt w base gb G) (hp : 0 < G.length) : ∃ nb cap, base ≤ nb ∧ nb < w.heap.size ∧ G.length ≤ cap ∧ w.cell? ⟨gb, 0, none⟩ = some (.slice (some ⟨nb, 0, none⟩) G.length cap) ∧
    ∀ i, i < G.length → w.cell? ⟨nb, i * 4, none⟩ = some (.int .i64 (ndAt G i).code) ∧ w.cell? ⟨nb, i * 4 + 2, none⟩ = some (.int .i64 ((ndAt G i).up : Int)) ∧ w.cell? ⟨nb, i * 4 + 3, none⟩ = some (.int .i64 ((ndAt G i).len : Int)) ∧
      ∃ A c, w.cell? ⟨nb, i * 4 + 1, none⟩ = some (.slice A (ndAt G i).args.length c) ∧ (ndAt G i).args.length ≤ c ∧ IntsAt w w.heap.size A (ndAt G i).args.length (nats (ndAt G i).args) := by
  obtain ⟨v, q1, q2, vs, q3, q4, q5⟩ := h
  rcases q4.2 with ⟨_, q⟩ | ⟨nb, cap, cur, rfl, hb, hc, hn, _⟩
  · omega
  · refine ⟨nb, cap, hb, (Array.getElem?_eq_some_iff.1 hc).1, hn, by rw [cell_of_row _ _ 0 _ _ _ q1]; rfl, fun i hi => ?_⟩
    obtain ⟨d0, d1, d2, d3⟩ := ndCells_get G vs q3 i hi
    have c0 := q4.cellAt (i * 4) (by omega)
    have c1 := q4.cellAt (i * 4 + 1) (by omega)
    have c2 := q4.cellAt (i * 4 + 2) (by omega)
    have c3 := q4.cellAt (i * 4 + 3) (by omega)
    rw [d0] at c0
    rw [d1] at c1
    rw [d2] at c2
    rw [d3] at c3
    obtain ⟨A', c', e, hc', hi'⟩ := (q5 i hi).intsAt
    rw [e] at c1
    rw [nats_length] at c1 hc' hi'
    exact ⟨c0, c2, c3, A', c', c1, hc', hi'⟩
/-- One cell of a node written. -/
theorem GraphAt.set (h : GraphAt w base gb G) {i nb cap : Nat} (hi : i < G.length) (hcell : w.cell? ⟨gb, 0, none⟩ = some (.slice (some ⟨nb, 0, none⟩) G.length cap)) (x : Nat) :
    (GraphAt (w.setCell ⟨nb, i * 4 + 2, none⟩ (.int .i64 (x : Int))) base gb (setUp G i x) ∧ Chg [80] base w (w.setCell ⟨nb, i * 4 + 2, none⟩ (.int .i64 (x : Int)))) ∧
    (GraphAt (w.setCell ⟨nb, i * 4 + 3, none⟩ (.int .i64 (x : Int))) base gb (setLen G i x) ∧ Chg [80] base w (w.setCell ⟨nb, i * 4 + 3, none⟩ (.int .i64 (x : Int)))) ∧
    ∀ j, w.frozen? ⟨nb, j, none⟩ = false := by
  obtain ⟨v, q1, q2, vs, q3, q4, q5⟩ := h
  rw [cell_of_row _ _ 0 _ _ _ q1] at hcell
  have hv : v = .slice (some ⟨nb, 0, none⟩) G.length cap := by simpa using hcell
  subst hv
  obtain ⟨cur, hb, hc⟩ : ∃ cur, base ≤ nb ∧ w.heap[nb]? = some (.cells cur 80 (0, 0)) := by
    rcases q4.2 with ⟨q, _⟩ | ⟨nb', cap', cur, q, hb, hc, hn, _⟩
    · cases q
    · injection q with q
      injection q with q
      injection q with q
      subst q
      exact ⟨cur, hb, hc⟩
  have hne : (61 : TypeId) ∉ [(80 : TypeId)] := by decide
  have hni : (3 : TypeId) ∉ [(80 : TypeId)] := by decide
  have key : ∀ j, Chg [80] base w (w.setCell ⟨nb, j, none⟩ (.int .i64 (x : Int))) := fun j => Chg.set hc hb _
  have k2 := key (i * 4 + 2)
  have k3 := key (i * 4 + 3)
  obtain ⟨e2, e3⟩ := ndCells_set G vs q3 i hi x
  refine ⟨⟨⟨_, k2.blk _ _ _ _ q1 hne, q2, vs, ?_, ?_, ?_⟩, k2⟩, ⟨⟨_, k3.blk _ _ _ _ q1 hne, q2, vs, ?_, ?_, ?_⟩, k3⟩, fun j => q4.frozenAt j⟩
  · rw [setUp_length]; exact q3
  · rw [setUp_length, ← e2]; exact (q4.stored (i * 4 + 2) (.int .i64 (x : Int))).1
  · intro k hk
    rw [setUp_length] at hk
    rw [setUp_args hi]
    exact k2.own hni (q5 k hk)
  · rw [setLen_length]; exact q3
  · rw [setLen_length, ← e3]; exact (q4.stored (i * 4 + 3) (.int .i64 (x : Int))).1
  · intro k hk
    rw [setLen_length] at hk
    rw [setLen_args hi]
    exact k3.own hni (q5 k hk)
end

def pCells (ps : List (Nat × Nat)) : List Value := ps.flatMap fun p => [.int .i64 (p.1 : Int), .int .i64 (p.2 : Int)]
theorem pCells_length (ps : List (Nat × Nat)) : (pCells ps).length = ps.length * 2 := by
  induction ps with
  | nil => rfl
  | cons p ps ih => unfold pCells at *; simp [List.flatMap_cons, ih]; omega
theorem pCells_append (ps qs : List (Nat × Nat)) : pCells (ps ++ qs) = pCells ps ++ pCells qs := by simp [pCells]
/-- The value is a row of these pairs, in a block from base on (or nil). -/
def OwnP (w : World) (base : Nat) (v : Value) (ps : List (Nat × Nat)) : Prop := w.ownsRow base 84 2 v ps.length (pCells ps)
section
variable {w w' : World} {base gb : Nat} {v u : Value} {ps : List (Nat × Nat)}
theorem OwnP.nil_ : OwnP w base (.slice none 0 0) [] := ⟨rfl, .inl ⟨rfl, rfl⟩⟩
theorem OwnP.on (h : OwnP w base v ps) (hb : Below w.heap.size w w') : OwnP w' base v ps := owns_on h hb
theorem OwnP.cast {qs : List (Nat × Nat)} (h : OwnP w base v ps) (e : ps = qs) : OwnP w base v qs := e ▸ h
theorem OwnP.shape (h : OwnP w base v ps) : (v = .slice none 0 0 ∧ ps = []) ∨ ∃ g cap, v = .slice (some ⟨g, 0, none⟩) ps.length cap ∧ base ≤ g ∧ g < w.heap.size ∧ ps.length ≤ cap := by
  rcases h.2 with ⟨h1, h2⟩ | ⟨g, cap, cur, hv, hg, hc, hn, _⟩
  · exact .inl ⟨h1, List.length_eq_zero_iff.1 h2⟩
  · exact .inr ⟨g, cap, hv, hg, (Array.getElem?_eq_some_iff.1 hc).1, hn⟩
/-- The last pair, and the others without it. -/
theorem OwnP.last {x y g cap : Nat} (h : OwnP w base (.slice (some ⟨g, 0, none⟩) (ps.length + 1) cap) (ps ++ [(x, y)])) :
    w.cell? ⟨g, ps.length * 2, none⟩ = some (.int .i64 (x : Int)) ∧ w.cell? ⟨g, ps.length * 2 + 1, none⟩ = some (.int .i64 (y : Int)) ∧ OwnP w base (.slice (some ⟨g, 0, none⟩) ps.length cap) ps := by
  have h' : w.ownsRow base 84 2 (.slice (some ⟨g, 0, none⟩) (ps.length + 1) cap) (ps.length + 1) (pCells ps ++ [.int .i64 (x : Int), .int .i64 (y : Int)]) := by
    have := h
    unfold OwnP at this
    rw [pCells_append, List.length_append] at this
    exact this
  have hl := pCells_length ps
  have c0 := h'.cellAt (ps.length * 2) (by omega)
  have c1 := h'.cellAt (ps.length * 2 + 1) (by omega)
  rw [List.getElem?_append_right (by omega)] at c0 c1
  have e0 : ps.length * 2 - (pCells ps).length = 0 := by omega
  have e1 : ps.length * 2 + 1 - (pCells ps).length = 1 := by omega
  rw [e0] at c0
  rw [e1] at c1
  exact ⟨c0, c1, ownsRow_pop (by omega) h'⟩
/-- 'x = append(x, pair{..})', x made by the call. -/
theorem app_pair_op {o : Oper} {a : Act} {K : Act → World → Prop} {Q : Exit → Act → World → Prop} (s x : Operand)
    (ho : o.op = .call { callee := .builtin .append, args := #[s, x], argTypes := #[81, 81] })
    (base : Nat) (v : Value) (ps : List (Nat × Nat)) (y z : Nat) (hs : a.eval s = v) (hown : OwnP w base v ps) (hx : a.eval x = .slice (some ⟨w.heap.size, 0, none⟩) 1 1)
    (hlen : ps.length + 1 ≤ 1000000) (hbase : base ≤ w.heap.size)
    (h : ∀ v' w', OwnP w' base v' (ps ++ [(y, z)]) → Chg [84] base w w' → K (a.put o.dst v') w') : o.wp Try.prog a (w.alloc (.cells #[.int .i64 (y : Int), .int .i64 (z : Int)] 84)) K Q := by
  obtain ⟨i0, hi0, hz0, hz1, hz2⟩ := info_parts pair_info
  have k2' := World.ownsRow.alloc hown (.cells #[.int .i64 (y : Int), .int .i64 (z : Int)] 84)
  refine wp_append_own _ s x 81 ho base 84 i0 _ 2 16 Try.underlying81 hi0 hz0 hz1 hz2 rfl (by omega) v ps.length (pCells ps) hs k2' ⟨w.heap.size, 0, none⟩ 1 1 [.int .i64 (y : Int), .int .i64 (z : Int)] hx rfl
    (World.news_of_block (cs := #[.int .i64 (y : Int), .int .i64 (z : Int)]) (t := 84) (fr := (0, 0)) (heap_alloc_new w _)) (by simp; exact ⟨rfl, rfl⟩) (by unfold maxLen; omega) (by omega) (by simp; omega) ?_
  intro v' w' h1 h2 _
  refine h v' w' ?_ ((Chg.of_below (below_new w _) hbase).trans (Chg.grown h2 k2' (by simp; omega)))
  unfold OwnP
  rw [pCells_append, List.length_append]
  exact h1
end
end Go.Proofs.Ytlmpapdpmmkjnaa
