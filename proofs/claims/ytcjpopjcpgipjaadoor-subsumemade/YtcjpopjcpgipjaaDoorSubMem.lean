/-
  Words for memory: rows of sets, rows of pairs, the object of a search.
  Contract: change.Pieces.Agrees.
  Contracts of package subsume: addPart, addPair.
  Contract of package subsume: addPair.
-/
import Derived.Test.YtcjpopjcpgipjaaDoorPlainSubs
import Derived.Test.YtcjpopjcpgipjaaDoorChange
import Derived.Test.YtcjpopjcpgipjaaDoorMemChg
import Derived.Test.YtcjpopjcpgipjaaDoorBaseBind
import Derived.Laws.OwnMore
import Derived.Laws.Bits64b
import Derived.Laws.Bits64
import Derived.Test.YtcjpopjcpgipjaaDoorShape
import Derived.Deep.DeepCutAuto
namespace Go.Proofs.YtcjpopjcpgipjaaDoor
open Go.RowKit
set_option linter.unusedSimpArgs false
set_option linter.unusedVariables false
set_option maxRecDepth 100000

def swCells (ws : List Nat) : List Value := ws.map fun (n : Nat) => Value.int .u64 (n : Int)
/-- A row of sets that the call made. -/
def OwnW (w : World) (base : Nat) (v : Value) (ws : List Nat) : Prop := w.ownsRow base 97 1 v ws.length (swCells ws)
theorem set_info : (Tryd.prog.info? 97).map (fun i => (i.zero, i.size, i.bytes)) = some (some (.int .u64 0), 1, 8) := by kernel_rfl
section
variable {w w' : World} {base base' : Nat} {v : Value} {ws : List Nat} {es : List TypeId}
theorem OwnW.nil_ : OwnW w base (.slice none 0 0) [] := ⟨rfl, .inl ⟨rfl, rfl⟩⟩
theorem OwnW.lower (h : OwnW w base v ws) (hb : base' ≤ base) : OwnW w base' v ws := own_base h hb
theorem OwnW.on (h : OwnW w base v ws) (hb : Below w.heap.size w w') : OwnW w' base v ws := owns_on h hb
theorem OwnW.chg (h : OwnW w base v ws) (hc : Chg es base' w w') (he : 97 ∉ es) : OwnW w' base v ws := hc.rows he h
theorem OwnW.shape (h : OwnW w base v ws) : (v = .slice none 0 0 ∧ ws = []) ∨ ∃ g cap, v = .slice (some ⟨g, 0, none⟩) ws.length cap ∧ base ≤ g ∧ g < w.heap.size ∧ ws.length ≤ cap := by
  rcases h.2 with ⟨h1, h2⟩ | ⟨g, cap, cur, hv, hg, hc, hn, _⟩
  · exact .inl ⟨h1, List.length_eq_zero_iff.1 h2⟩
  · exact .inr ⟨g, cap, hv, hg, (Array.getElem?_eq_some_iff.1 hc).1, hn⟩
theorem OwnW.slice_ (h : OwnW w base v ws) : ∃ A n c, v = .slice A n c := by
  rcases h.shape with ⟨rfl, _⟩ | ⟨g, cap, rfl, _⟩ <;> exact ⟨_, _, _, rfl⟩
theorem OwnW.len_ (h : OwnW w base v ws) : ∃ A c, v = .slice A ws.length c := by
  rcases h.shape with ⟨rfl, rfl⟩ | ⟨g, cap, rfl, _⟩ <;> exact ⟨_, _, rfl⟩
theorem wAt_get {ws : List Nat} {i : Nat} (h : i < ws.length) : ws[i]? = some (wAt ws i) := by
  unfold wAt; rw [List.getD_eq_getElem?_getD, List.getElem?_eq_getElem h]; rfl
/-- Its slice value, its cells. -/
theorem OwnW.cells (h : OwnW w base v ws) (hp : 0 < ws.length) : ∃ g cap, v = .slice (some ⟨g, 0, none⟩) ws.length cap ∧ base ≤ g ∧ g < w.heap.size ∧ ws.length ≤ cap ∧ (∀ i, i < ws.length → w.cell? ⟨g, i, none⟩ = some (.int .u64 (wAt ws i : Int))) ∧ ∀ i, w.frozen? ⟨g, i, none⟩ = false := by
  rcases h.shape with ⟨_, e⟩ | ⟨g, cap, rfl, h1, h2, h3⟩
  · rw [e] at hp; simp at hp
  · refine ⟨g, cap, rfl, h1, h2, h3, fun i hi => ?_, fun i => World.ownsRow.frozenAt h i⟩
    rw [World.ownsRow.cellAt h i (by omega)]
    unfold swCells
    rw [List.getElem?_map, wAt_get hi]; rfl
theorem OwnW.frozen {g n cap : Nat} (h : OwnW w base (.slice (some ⟨g, 0, none⟩) n cap) ws) (i : Nat) : w.frozen? ⟨g, i, none⟩ = false := by
  rcases h.2 with ⟨q, _⟩ | ⟨g', cap', cur, q, hg, hc, _⟩
  · cases q
  · injection q with q
    injection q with q
    injection q with q
    subst q
    exact frozen_of_row _ _ _ _ _ hc
theorem OwnW.put {g n cap i : Nat} (h : OwnW w base (.slice (some ⟨g, 0, none⟩) n cap) ws) (x : Nat) : OwnW (w.setCell ⟨g, i, none⟩ (.int .u64 (x : Int))) base (.slice (some ⟨g, 0, none⟩) n cap) (ws.set i x) := by
  have hn : n = ws.length := by
    rcases h.2 with ⟨q, _⟩ | ⟨_, _, _, q, _⟩
    · cases q
    · injection q
  subst hn
  have := (World.ownsRow.stored h i (.int .u64 (x : Int))).1
  unfold OwnW
  have e2 : swCells (ws.set i x) = (swCells ws).set i (.int .u64 (x : Int)) := by unfold swCells; rw [List.map_set]
  rw [e2, List.length_set]
  exact this
theorem OwnW.put_chg {g n cap i : Nat} (h : OwnW w base (.slice (some ⟨g, 0, none⟩) n cap) ws) (u : Value) : Chg [97] base w (w.setCell ⟨g, i, none⟩ u) := by
  rcases h.2 with ⟨q, _⟩ | ⟨g', cap', cur, q, hg, hc, _⟩
  · cases q
  · injection q with q
    injection q with q
    injection q with q
    subst q
    exact Chg.set hc hg u
end
/-- 'x = append(x, y)' of sets, x made by the call. -/
theorem app_w_op {w : World} {o : Oper} {a : Act} {K : Act → World → Prop} {Q : Exit → Act → World → Prop} (s x : Operand)
    (ho : o.op = .call { callee := .builtin .append, args := #[s, x], argTypes := #[67, 67] })
    (base : Nat) (v : Value) (ws : List Nat) (y : Nat) (hs : a.eval s = v) (hown : OwnW w base v ws) {N : Nat} (hx : a.eval x = .slice (some ⟨N, 0, none⟩) 1 1) (hN : w.heap.size = N)
    (hlen : ws.length + 1 ≤ 17592186044416) (hbase : base ≤ w.heap.size)
    (h : ∀ v' w', OwnW w' base v' (ws ++ [y]) → Chg [97] base w w' → K (a.put o.dst v') w') : o.wp Tryd.prog a (w.alloc (.cells #[.int .u64 (y : Int)] 97)) K Q := by
  subst hN
  obtain ⟨i0, hi0, hz0, hz1, hz2⟩ := info_parts set_info
  have k2' := World.ownsRow.alloc hown (.cells #[.int .u64 (y : Int)] 97)
  refine wp_append_own _ s x 67 ho base 97 i0 _ 1 8 Tryd.underlying67 hi0 hz0 hz1 hz2 rfl (by omega) v ws.length (swCells ws) hs k2' ⟨w.heap.size, 0, none⟩ 1 1 [.int .u64 (y : Int)] hx rfl
    (World.news_of_block (cs := #[.int .u64 (y : Int)]) (t := 97) (fr := (0, 0)) (heap_alloc_new w _)) (by simp; rfl) (by unfold maxLen; omega) (by omega) (by simp; omega) ?_
  intro v' w' h1 h2 _
  refine h v' w' ?_ ((Chg.of_below (below_new w _) hbase).trans (Chg.grown h2 k2' (by simp; omega)))
  unfold OwnW
  have e : swCells (ws ++ [y]) = swCells ws ++ [.int .u64 (y : Int)] := by unfold swCells; simp
  rw [e, List.length_append]
  exact h1
theorem app_w {w : World} {ops : Array Oper} {rest : List Oper} {o : Oper} {a : Act} {Q : Exit → Act → World → Prop} (hgd : o.guard = none) (s x : Operand)
    (ho : o.op = .call { callee := .builtin .append, args := #[s, x], argTypes := #[67, 67] })
    (base : Nat) (v : Value) (ws : List Nat) (y : Nat) (hs : a.eval s = v) (hown : OwnW w base v ws) {N : Nat} (hx : a.eval x = .slice (some ⟨N, 0, none⟩) 1 1) (hN : w.heap.size = N)
    (hlen : ws.length + 1 ≤ 17592186044416) (hbase : base ≤ w.heap.size)
    (h : ∀ v' w', OwnW w' base v' (ws ++ [y]) → Chg [97] base w w' → wpList Tryd.prog ops Q rest (a.put o.dst v') w') : wpList Tryd.prog ops Q (o :: rest) a (w.alloc (.cells #[.int .u64 (y : Int)] 97)) :=
  wpList_plain hgd fun _ hK => app_w_op s x ho base v ws y hs hown hx hN hlen hbase fun v' w' h1 h2 => hK _ _ (h v' w' h1 h2)

/-- A row of pairs that the call made; what stands for variables lies below B. -/
def prAt (PS : List Pr) (i : Nat) : Pr := PS.getD i ⟨0, 0, noT⟩
def PrC (w : World) (B : Nat) (cells : List Value) (PS : List Pr) : Prop := ∀ i, i < PS.length → cells[i * 25]? = some (.int .i64 ((prAt PS i).idx : Int)) ∧ ∀ x, x < 24 → ∃ u, cells[i * 25 + (x + 1)]? = some u ∧ PieceV w B u ((prAt PS i).pcs x)
def OwnP (w : World) (base B : Nat) (v : Value) (PS : List Pr) : Prop := ∃ cells, w.ownsRow base 123 25 v PS.length cells ∧ PrC w B cells PS
section
variable {w w' : World} {base base' B : Nat} {v : Value} {PS : List Pr} {es : List TypeId}
theorem prAt_get {i : Nat} (h : i < PS.length) : PS[i]? = some (prAt PS i) := by
  unfold prAt; rw [List.getD_eq_getElem?_getD, List.getElem?_eq_getElem h]; rfl
theorem PrC.below {cells : List Value} (h : PrC w B cells PS) (hb : Below B w w') : PrC w' B cells PS := fun i hi => by
  obtain ⟨h1, h2⟩ := h i hi
  refine ⟨h1, fun x hx => ?_⟩
  obtain ⟨u, e, hu⟩ := h2 x hx
  exact ⟨u, e, hu.keep fun p hp => hb.cell hp⟩
theorem OwnP.nil_ : OwnP w base B (.slice none 0 0) [] := ⟨[], ⟨rfl, .inl ⟨rfl, rfl⟩⟩, fun i hi => absurd hi (by simp)⟩
theorem OwnP.lower (h : OwnP w base B v PS) (hb : base' ≤ base) : OwnP w base' B v PS := by
  obtain ⟨cells, h1, h2⟩ := h; exact ⟨cells, own_base h1 hb, h2⟩
theorem OwnP.on (h : OwnP w base B v PS) (hb : Below w.heap.size w w') (hB : B ≤ w.heap.size) : OwnP w' base B v PS := by
  obtain ⟨cells, h1, h2⟩ := h; exact ⟨cells, owns_on h1 hb, h2.below (hb.mono hB)⟩
theorem OwnP.chg (h : OwnP w base B v PS) (hc : Chg es base' w w') (he : 123 ∉ es) (hB : B ≤ base') : OwnP w' base B v PS := by
  obtain ⟨cells, h1, h2⟩ := h; exact ⟨cells, hc.rows he h1, h2.below (hc.bel.mono hB)⟩
theorem OwnP.shape (h : OwnP w base B v PS) : (v = .slice none 0 0 ∧ PS = []) ∨ ∃ g cap, v = .slice (some ⟨g, 0, none⟩) PS.length cap ∧ base ≤ g ∧ g < w.heap.size ∧ PS.length ≤ cap := by
  obtain ⟨cells, h, _⟩ := h
  rcases h.2 with ⟨h1, h2⟩ | ⟨g, cap, cur, hv, hg, hc, hn, _⟩
  · exact .inl ⟨h1, List.length_eq_zero_iff.1 h2⟩
  · exact .inr ⟨g, cap, hv, hg, (Array.getElem?_eq_some_iff.1 hc).1, hn⟩
theorem OwnP.slice_ (h : OwnP w base B v PS) : ∃ A n c, v = .slice A n c := by
  rcases h.shape with ⟨rfl, _⟩ | ⟨g, cap, rfl, _⟩ <;> exact ⟨_, _, _, rfl⟩
theorem OwnP.len_ (h : OwnP w base B v PS) : ∃ A c, v = .slice A PS.length c := by
  rcases h.shape with ⟨rfl, rfl⟩ | ⟨g, cap, rfl, _⟩ <;> exact ⟨_, _, rfl⟩
/-- A pair in memory: its number, its pieces. -/
def PairAt (w : World) (B g o : Nat) (p : Pr) : Prop := w.cell? ⟨g, o, none⟩ = some (.int .i64 (p.idx : Int)) ∧ ∀ x, x < 24 → ∃ u, w.cell? ⟨g, o + (x + 1), none⟩ = some u ∧ PieceV w B u (p.pcs x)
theorem OwnP.cells (h : OwnP w base B v PS) (hp : 0 < PS.length) : ∃ g cap, v = .slice (some ⟨g, 0, none⟩) PS.length cap ∧ base ≤ g ∧ g < w.heap.size ∧ PS.length ≤ cap ∧ ∀ i, i < PS.length → PairAt w B g (i * 25) (prAt PS i) := by
  rcases h.shape with ⟨_, e⟩ | ⟨g, cap, rfl, h1, h2, h3⟩
  · rw [e] at hp; simp at hp
  · refine ⟨g, cap, rfl, h1, h2, h3, fun i hi => ?_⟩
    obtain ⟨cells, h, hr⟩ := h
    obtain ⟨r1, r2⟩ := hr i hi
    refine ⟨by rw [World.ownsRow.cellAt h (i * 25) (by omega)]; exact r1, fun x hx => ?_⟩
    obtain ⟨u, e, hu⟩ := r2 x hx
    exact ⟨u, by rw [World.ownsRow.cellAt h (i * 25 + (x + 1)) (by omega)]; exact e, hu⟩
end
theorem pair_info : (Tryd.prog.info? 123).map (fun i => (i.zero, i.size, i.bytes)) = some (some (.agg (#[.int .i64 0] ++ nilC)), 25, 584) := by kernel_rfl
theorem PrC.snoc {w : World} {B : Nat} {cells : List Value} {PS : List Pr} (h : PrC w B cells PS) (hl : cells.length = PS.length * 25) {p : Pr} {cs : Array Value} (hp : PartsC w B cs p.pcs) : PrC w B (cells ++ (.int .i64 (p.idx : Int) :: cs.toList)) (PS ++ [p]) := fun i hi => by
  rw [List.length_append] at hi
  simp only [List.length_cons, List.length_nil] at hi
  by_cases q : i < PS.length
  · have e : prAt (PS ++ [p]) i = prAt PS i := by unfold prAt; rw [List.getD_eq_getElem?_getD, List.getD_eq_getElem?_getD, List.getElem?_append_left q]
    obtain ⟨r1, r2⟩ := h i q
    rw [e]
    refine ⟨by rw [List.getElem?_append_left (by omega)]; exact r1, fun x hx => ?_⟩
    obtain ⟨u, e1, hu⟩ := r2 x hx
    exact ⟨u, by rw [List.getElem?_append_left (by omega)]; exact e1, hu⟩
  · have q : i = PS.length := by omega
    subst q
    have e : prAt (PS ++ [p]) PS.length = p := by unfold prAt; simp
    rw [e]
    refine ⟨by rw [List.getElem?_append_right (by omega), hl]; simp, fun x hx => ?_⟩
    obtain ⟨u, e1, hu⟩ := hp.2 x hx
    refine ⟨u, ?_, hu⟩
    rw [List.getElem?_append_right (by omega), hl, Nat.add_sub_cancel_left, List.getElem?_cons_succ, Array.getElem?_toList]
    exact e1
/-- 'x = append(x, y)' of pairs, x made by the call. -/
theorem app_p_op {w : World} {o : Oper} {a : Act} {K : Act → World → Prop} {Q : Exit → Act → World → Prop} (s x : Operand)
    (ho : o.op = .call { callee := .builtin .append, args := #[s, x], argTypes := #[66, 66] })
    (base B : Nat) (v : Value) (PS : List Pr) (p : Pr) (cs : Array Value) (hs : a.eval s = v) (hown : OwnP w base B v PS) (hp : PartsC w B cs p.pcs) {N : Nat} (hx : a.eval x = .slice (some ⟨N, 0, none⟩) 1 1) (hN : w.heap.size = N)
    (hlen : PS.length + 1 ≤ 1000000) (hbase : base ≤ w.heap.size) (hB : B ≤ base)
    (h : ∀ v' w', OwnP w' base B v' (PS ++ [p]) → Chg [123] base w w' → K (a.put o.dst v') w') : o.wp Tryd.prog a (w.alloc (.cells (#[.int .i64 (p.idx : Int)] ++ cs) 123)) K Q := by
  subst hN
  obtain ⟨i0, hi0, hz0, hz1, hz2⟩ := info_parts pair_info
  obtain ⟨cells, k1, k2⟩ := hown
  have k2' := World.ownsRow.alloc k1 (.cells (#[.int .i64 (p.idx : Int)] ++ cs) 123)
  refine wp_append_own _ s x 66 ho base 123 i0 _ 25 584 Tryd.underlying66 hi0 hz0 hz1 hz2 rfl (by omega) v PS.length cells hs k2' ⟨w.heap.size, 0, none⟩ 1 1 (.int .i64 (p.idx : Int) :: cs.toList) hx (by simp [hp.1])
    (by
      have := World.news_of_block (cs := #[.int .i64 (p.idx : Int)] ++ cs) (t := 123) (fr := (0, 0)) (heap_alloc_new w (.cells (#[.int .i64 (p.idx : Int)] ++ cs) 123))
      simpa using this) (by
      intro u hu
      rcases List.mem_cons.1 hu with rfl | hu
      · rfl
      · have := hp.one
        rw [Array.all_eq_true_iff_forall_mem] at this
        exact this u (by simpa using hu)) (by unfold maxLen; omega) (by omega) (by simp; omega) ?_
  intro v' w' h1 h2 _
  have hc := (Chg.of_below (below_new w (.cells (#[.int .i64 (p.idx : Int)] ++ cs) 123)) hbase).trans (Chg.grown h2 k2' (by simp; omega))
  refine h v' w' ⟨cells ++ (.int .i64 (p.idx : Int) :: cs.toList), ?_, (k2.snoc k1.1 hp).below (hc.bel.mono hB)⟩ hc
  rw [List.length_append]
  exact h1
theorem app_p_step {w : World} {ops : Array Oper} {o : Oper} {a : Act} {K : Act → World → Prop} {Q : Exit → Act → World → Prop} {E : Prop} (hgd : o.guard = none) (s x : Operand)
    (ho : o.op = .call { callee := .builtin .append, args := #[s, x], argTypes := #[66, 66] })
    (base B : Nat) (v : Value) (PS : List Pr) (p : Pr) (cs : Array Value) (hs : a.eval s = v) (hown : OwnP w base B v PS) (hp : PartsC w B cs p.pcs) {N : Nat} (hx : a.eval x = .slice (some ⟨N, 0, none⟩) 1 1) (hN : w.heap.size = N)
    (hlen : PS.length + 1 ≤ 1000000) (hbase : base ≤ w.heap.size) (hB : B ≤ base)
    (h : ∀ v' w', OwnP w' base B v' (PS ++ [p]) → Chg [123] base w w' → K (a.put o.dst v') w') : if Region.wanted o (yielded ops a.tmps) = true then Oper.wp Tryd.prog o a (w.alloc (.cells (#[.int .i64 (p.idx : Int)] ++ cs) 123)) K Q else E := by
  have hw : Region.wanted o (yielded ops a.tmps) = true := by simp [Region.wanted, hgd]
  rw [if_pos hw]
  exact app_p_op s x ho base B v PS p cs hs hown hp hx hN hlen hbase hB h

/-- The object of a search: its five slices. -/
def SB (w : World) (sb : Nat) (v0 v1 v2 v3 v4 : Value) : Prop := w.heap[sb]? = some (.cells #[v0, v1, v2, v3, v4] 69 (0, 0))
section
variable {w w' : World} {sb : Nat} {v0 v1 v2 v3 v4 u : Value} {es : List TypeId} {base : Nat}
theorem SB.c0 (h : SB w sb v0 v1 v2 v3 v4) : w.cell? ⟨sb, 0, none⟩ = some v0 := by rw [cell_of_row _ _ 0 _ _ _ h]; rfl
theorem SB.c1 (h : SB w sb v0 v1 v2 v3 v4) : w.cell? ⟨sb, 1, none⟩ = some v1 := by rw [cell_of_row _ _ 1 _ _ _ h]; rfl
theorem SB.c2 (h : SB w sb v0 v1 v2 v3 v4) : w.cell? ⟨sb, 2, none⟩ = some v2 := by rw [cell_of_row _ _ 2 _ _ _ h]; rfl
theorem SB.c3 (h : SB w sb v0 v1 v2 v3 v4) : w.cell? ⟨sb, 3, none⟩ = some v3 := by rw [cell_of_row _ _ 3 _ _ _ h]; rfl
theorem SB.c4 (h : SB w sb v0 v1 v2 v3 v4) : w.cell? ⟨sb, 4, none⟩ = some v4 := by rw [cell_of_row _ _ 4 _ _ _ h]; rfl
theorem SB.frozen (h : SB w sb v0 v1 v2 v3 v4) (i : Nat) : w.frozen? ⟨sb, i, none⟩ = false := frozen_of_row _ _ _ _ _ h
theorem SB.lt (h : SB w sb v0 v1 v2 v3 v4) : sb < w.heap.size := (Array.getElem?_eq_some_iff.1 h).1
theorem SB.on (h : SB w sb v0 v1 v2 v3 v4) (hb : Below w.heap.size w w') : SB w' sb v0 v1 v2 v3 v4 := by unfold SB; rw [hb.block sb h.lt]; exact h
theorem SB.chg (h : SB w sb v0 v1 v2 v3 v4) (hc : Chg es base w w') (he : 69 ∉ es) : SB w' sb v0 v1 v2 v3 v4 := hc.blk _ _ _ _ h he
theorem SB.set_chg (h : SB w sb v0 v1 v2 v3 v4) (i : Nat) (u : Value) : Chg [69] sb w (w.setCell ⟨sb, i, none⟩ u) := Chg.set h (Nat.le_refl _) u
theorem SB.set0 (h : SB w sb v0 v1 v2 v3 v4) (u : Value) : SB (w.setCell ⟨sb, 0, none⟩ u) sb u v1 v2 v3 v4 := heap_setCell_same w sb 0 _ _ u h
theorem SB.set1 (h : SB w sb v0 v1 v2 v3 v4) (u : Value) : SB (w.setCell ⟨sb, 1, none⟩ u) sb v0 u v2 v3 v4 := heap_setCell_same w sb 1 _ _ u h
theorem SB.set2 (h : SB w sb v0 v1 v2 v3 v4) (u : Value) : SB (w.setCell ⟨sb, 2, none⟩ u) sb v0 v1 u v3 v4 := heap_setCell_same w sb 2 _ _ u h
theorem SB.set3 (h : SB w sb v0 v1 v2 v3 v4) (u : Value) : SB (w.setCell ⟨sb, 3, none⟩ u) sb v0 v1 v2 u v4 := heap_setCell_same w sb 3 _ _ u h
theorem SB.set4 (h : SB w sb v0 v1 v2 v3 v4) (u : Value) : SB (w.setCell ⟨sb, 4, none⟩ u) sb v0 v1 v2 v3 u := heap_setCell_same w sb 4 _ _ u h
end
end Go.Proofs.YtcjpopjcpgipjaaDoor

namespace Go.Proofs.YtcjpopjcpgipjaaDoor
open Go.RowKit
set_option linter.unusedSimpArgs false
set_option linter.unusedVariables false
set_option maxRecDepth 100000

theorem run_neq_nilS {P : Program} (w : World) (t e : TypeId) (a : Option Addr) (n c n' c' : Nat) (h : P.underlying t = some (.slice e)) :
    (binOp .neq t (.slice a n c) (.slice none n' c')).run P w = .ok (.bool (!a.isNone)) w := by
  simp only [binOp]
  simp [Op.equal, Op.maxDepth, Lib.run_equalIn_slice_nil w 9999 t e a n c n' c' h]
/-- Twenty-four pieces, from a cell on. -/
def PcsAt (w : World) (B g o : Nat) (T : Nat → List Int) : Prop := ∀ x, x < 24 → ∃ u, w.cell? ⟨g, o + x, none⟩ = some u ∧ PieceV w B u (T x)
theorem PcsAt.on {w w' : World} {B g o : Nat} {T : Nat → List Int} (h : PcsAt w B g o T) (hg : g < w.heap.size) (hB : B ≤ w.heap.size) (hb : Below w.heap.size w w') : PcsAt w' B g o T := fun x hx => by
  obtain ⟨u, e, hu⟩ := h x hx
  exact ⟨u, by rw [hb.cell (p := ⟨g, o + x, none⟩) hg]; exact e, hu.keep fun p hp => hb.cell (Nat.lt_of_lt_of_le hp hB)⟩
theorem PairAt.pcs {w : World} {B g o : Nat} {p : Pr} (h : PairAt w B g o p) : PcsAt w B g (o + 1) p.pcs := fun x hx => by
  obtain ⟨u, e, hu⟩ := h.2 x hx
  exact ⟨u, by rw [show o + 1 + x = o + (x + 1) by omega]; exact e, hu⟩
def AgrK (P Q : Nat → List Int) (k : Nat) : Prop := ∀ v, v < k → P v = [] ∨ Q v = [] ∨ P v = Q v
theorem agr_no {P Q : Nat → List Int} {k : Nat} (hk : k < 24) (h1 : P k ≠ []) (h2 : Q k ≠ []) (h3 : P k ≠ Q k) : agrB P Q = false := by
  cases h : agrB P Q with
  | false => rfl
  | true =>
    rcases agr_iff.1 h k hk with q | q | q
    · exact absurd q h1
    · exact absurd q h2
    · exact absurd q h3
theorem AgrK.step {P Q : Nat → List Int} {k : Nat} (h : AgrK P Q k) (hk : P k = [] ∨ Q k = [] ∨ P k = Q k) : AgrK P Q (k + 1) := fun v hv => by
  rcases Nat.lt_or_ge v k with q | q
  · exact h v q
  · obtain rfl : v = k := by omega
    exact hk
set_option maxHeartbeats 1000000 in
theorem agrees_any (B g o g2 o2 : Nat) (P Q : Nat → List Int) (w : World) (hP : PcsAt w B g o P) (hQ : PcsAt w B g2 o2 Q) (hg : g < w.heap.size) (hg2 : g2 < w.heap.size) (hB : B ≤ w.heap.size) :
    Calls Tryd.prog 80 #[.pointer (some ⟨g, o, none⟩), .pointer (some ⟨g2, o2, none⟩)] w fun e w' => e = .returned (.bool (agrB P Q)) ∧ Below w.heap.size w w' := by
  have HP := Lib.hid hP
  have HQ := Lib.hid hQ
  have HB := Lib.hid hB
  have HG := Lib.hid hg
  have HG2 := Lib.hid hg2
  clear hP hQ hB hg hg2
  go_enter Tryd.func80, Tryd.ntmps80
  go_wp2
  go_loopw [9] (fun i wr => ∃ k : Nat, i = .int .i64 k ∧ k ≤ 24 ∧ Hid (AgrK P Q k) ∧ Below w.heap.size w wr) (fun i _ => 24 - (intOf i).toNat)
  case atStart => exact ⟨0, rfl, by omega, Lib.hid (p := AgrK P Q 0) (fun v hv => absurd hv (by omega)), Below.refl _ _⟩
  case round =>
    obtain ⟨k, rfl, hk, HA, hbw⟩ := hrel
    have HBW := Lib.hid hbw
    have HPW := Lib.hid (HP.out.on HG.out HB.out hbw)
    have HQW := Lib.hid (HQ.out.on HG2.out HB.out hbw)
    have HBz := Lib.hid (Nat.le_trans HB.out hbw.size)
    clear hbw
    by_cases hlt : k < 24
    · obtain ⟨u, hc, hu⟩ := HPW.out k hlt
      obtain ⟨u2, hc2, hu2⟩ := HQW.out k hlt
      have z0 : (0 : Int) ≤ (k : Int) := by omega
      have z1 : (k : Int) < 24 := by omega
      rcases hu with ⟨rfl, he⟩ | ⟨b, off, n', c', rfl, hr, hn'⟩
      · have HS := Lib.hid (HA.out.step (.inl he))
        clear he hu2
        go_wp2_with fail
        go_quiet (fail)
        have hq := run_neq_nilS (P := Tryd.prog) (wr.drewN nq) 28 3 none 0 0 0 0 Tryd.underlying28
        go_wp2
        go_roundw
        case rel => exact ⟨k + 1, by go_num, by omega, HS, HBW.out.trans (below_drewN _ _)⟩
        case measure => simp [intOf]; omega
      · have HNE : Hid (P k ≠ []) := by
          intro e
          have hl := hr.at_.len
          rw [e] at hl
          simp at hl
          omega
        have HR := Lib.hid hr
        clear hr
        rcases hu2 with ⟨rfl, he⟩ | ⟨b2, off2, n2, c2, rfl, hr2, hn2⟩
        · have HS := Lib.hid (HA.out.step (.inr (.inl he)))
          clear he
          go_wp2_with fail
          go_quiet (fail)
          have hq := run_neq_nilS (P := Tryd.prog) (wr.drewN nq) 28 3 (some ⟨b, off, none⟩) n' c' 0 0 Tryd.underlying28
          have hq2 := run_neq_nilS (P := Tryd.prog) (wr.drewN nq) 28 3 none 0 0 0 0 Tryd.underlying28
          go_wp2
          go_roundw
          case rel => exact ⟨k + 1, by go_num, by omega, HS, HBW.out.trans (below_drewN _ _)⟩
          case measure => simp [intOf]; omega
        · have HNE2 : Hid (Q k ≠ []) := by
            intro e
            have hl := hr2.at_.len
            rw [e] at hl
            simp at hl
            omega
          have HR2 := Lib.hid hr2
          clear hr2
          go_wp2_with fail
          go_quiet (fail)
          have hq := run_neq_nilS (P := Tryd.prog) (wr.drewN nq) 28 3 (some ⟨b, off, none⟩) n' c' 0 0 Tryd.underlying28
          have hq2 := run_neq_nilS (P := Tryd.prog) (wr.drewN nq) 28 3 (some ⟨b2, off2, none⟩) n2 c2 0 0 Tryd.underlying28
          have HBN := Lib.hid (below_drewN (B := wr.heap.size) wr nq)
          go_wp2_with fail
          refine (equal_any _ _ n' c' n2 c2 B B (P k) (Q k) _ (HR.out.at_.below (HBN.out.mono HBz.out)) (HR2.out.at_.below (HBN.out.mono HBz.out)) (by have := HR.out.few; unfold maxLen; omega) (by have := HR2.out.few; unfold maxLen; omega)).mono ?_
          rintro e w1 ⟨rfl, hb1⟩
          have HB1 := Lib.hid (HBW.out.trans ((HBN.out.mono HBW.out.size).trans (hb1.mono HBW.out.size)))
          clear hb1 hq hq2
          cases hs : sameI (P k) (Q k)
          · have H : Hid (agrB P Q = false) := agr_no hlt HNE.out HNE2.out (by intro e; unfold sameI at hs; simp [e] at hs)
            clear hs
            go_wp2
            go_ret
            exact ⟨ret_b H.out.symm, HB1.out⟩
          · have HS := Lib.hid (HA.out.step (.inr (.inr (by unfold sameI at hs; exact of_decide_eq_true hs))))
            clear hs
            go_wp2
            go_roundw
            case rel => exact ⟨k + 1, by go_num, by omega, HS, HB1.out⟩
            case measure => simp [intOf]; omega
    · obtain rfl : k = 24 := by omega
      have H : Hid (agrB P Q = true) := agr_iff.2 HA.out
      go_wp2
      go_ret
      exact ⟨ret_b H.out.symm, HBW.out⟩
end Go.Proofs.YtcjpopjcpgipjaaDoor

namespace Go.Proofs.YtcjpopjcpgipjaaDoor
open Go.RowKit Go.Deep
set_option linter.unusedSimpArgs false
set_option linter.unusedVariables false
set_option maxRecDepth 100000

/-- Which pairs belong to which part. -/
structure Good (PS : List Pr) (os : List Nat) : Prop where
  of_ : ∀ k, k < os.length → ∀ j, (wAt os k).testBit j = true ↔ ∃ p, PS[j]? = some p ∧ p.part = k
  lt : ∀ p ∈ PS, p.part < os.length
theorem Good.nil_ : Good [] [] := ⟨fun k hk => absurd hk (by simp), fun p hp => by cases hp⟩
theorem Good.bit {PS : List Pr} {os : List Nat} (h : Good PS os) {k j : Nat} (hk : k < os.length) (hj : (wAt os k).testBit j = true) : j < PS.length := by
  obtain ⟨p, e, _⟩ := (h.of_ k hk j).1 hj
  exact (List.getElem?_eq_some_iff.1 e).1
theorem lt_of_bits {x n : Nat} (h : ∀ j, x.testBit j = true → j < n) : x < 2 ^ n := by
  apply Nat.lt_pow_two_of_testBit
  intro i hi
  cases q : x.testBit i with
  | false => rfl
  | true => have := h i q; omega
theorem Good.few {PS : List Pr} {os : List Nat} (h : Good PS os) {k : Nat} (hk : k < os.length) : wAt os k < 2 ^ PS.length := lt_of_bits fun j hj => h.bit hk hj
theorem Good.part {PS : List Pr} {os : List Nat} (h : Good PS os) : Good PS (os ++ [0]) := by
  refine ⟨fun k hk j => ?_, fun p hp => by have := h.lt p hp; rw [List.length_append]; omega⟩
  rw [List.length_append] at hk
  simp only [List.length_cons, List.length_nil] at hk
  by_cases q : k < os.length
  · have e : wAt (os ++ [0]) k = wAt os k := by unfold wAt; rw [List.getD_eq_getElem?_getD, List.getD_eq_getElem?_getD, List.getElem?_append_left q]
    rw [e]; exact h.of_ k q j
  · have q : k = os.length := by omega
    subst q
    have e : wAt (os ++ [0]) os.length = 0 := by unfold wAt; simp
    rw [e, Nat.zero_testBit]
    refine ⟨fun h => (by cases h), fun ⟨p, hp, hq⟩ => ?_⟩
    have := h.lt p (List.mem_of_getElem? hp)
    omega
theorem Good.pair {PS : List Pr} {os : List Nat} {k i : Nat} {P : Nat → List Int} (h : Good PS os) (hk : os.length = k + 1) : Good (PS ++ [⟨k, i, P⟩]) (os.set k (wAt os k ||| 2 ^ PS.length)) := by
  refine ⟨fun m hm j => ?_, fun p hp => ?_⟩
  · rw [List.length_set] at hm
    have hj : (∃ p, (PS ++ [⟨k, i, P⟩])[j]? = some p ∧ p.part = m) ↔ (∃ p, PS[j]? = some p ∧ p.part = m) ∨ (j = PS.length ∧ m = k) := by
      constructor
      · rintro ⟨p, e, q⟩
        by_cases c : j < PS.length
        · rw [List.getElem?_append_left c] at e; exact .inl ⟨p, e, q⟩
        · rw [List.getElem?_append_right (by omega)] at e
          have c2 : j - PS.length = 0 := by
            have := (List.getElem?_eq_some_iff.1 e).1
            simp at this; omega
          rw [c2] at e
          simp at e
          subst e
          exact .inr ⟨by omega, q.symm⟩
      · rintro (⟨p, e, q⟩ | ⟨rfl, rfl⟩)
        · exact ⟨p, by rw [List.getElem?_append_left (List.getElem?_eq_some_iff.1 e).1]; exact e, q⟩
        · exact ⟨_, by rw [List.getElem?_append_right (Nat.le_refl _), Nat.sub_self]; rfl, rfl⟩
    rw [hj, ← h.of_ m hm j]
    by_cases e : m = k
    · subst e
      have e1 : wAt (os.set m (wAt os m ||| 2 ^ PS.length)) m = wAt os m ||| 2 ^ PS.length := by
        unfold wAt
        rw [List.getD_eq_getElem?_getD, List.getElem?_set_self hm]; rfl
      rw [e1, Nat.testBit_or, Nat.testBit_two_pow, Bool.or_eq_true, decide_eq_true_eq]
      exact ⟨fun h => h.elim .inl fun h => .inr ⟨h.symm, rfl⟩, fun h => h.elim .inl fun h => .inr h.1.symm⟩
    · have e1 : wAt (os.set k (wAt os k ||| 2 ^ PS.length)) m = wAt os m := by
        unfold wAt
        rw [List.getD_eq_getElem?_getD, List.getElem?_set_ne (fun h => e h.symm), List.getD_eq_getElem?_getD]
      rw [e1]
      exact ⟨.inl, fun h => h.elim id fun h => absurd h.2 e⟩
  · rw [List.length_set]
    rcases List.mem_append.1 hp with hp | hp
    · exact h.lt p hp
    · rw [List.mem_singleton] at hp
      subst hp
      show k < _
      omega
/-- A search while its pairs are gathered. -/
structure Bld (w : World) (sb B : Nat) (PS : List Pr) (os : List Nat) : Prop where
  ex : ∃ v0 v1, SB w sb v0 v1 (.slice none 0 0) (.slice none 0 0) (.slice none 0 0) ∧ OwnP w (sb + 1) B v0 PS ∧ OwnW w (sb + 1) v1 os
  le : B ≤ sb
  good : Good PS os
theorem Bld.lt {w : World} {sb B : Nat} {PS : List Pr} {os : List Nat} (h : Bld w sb B PS os) : sb < w.heap.size := by
  obtain ⟨_, _, h, _⟩ := h.ex; exact h.lt
theorem Bld.on {w w' : World} {sb B : Nat} {PS : List Pr} {os : List Nat} (h : Bld w sb B PS os) (hb : Below w.heap.size w w') : Bld w' sb B PS os := by
  have hlt := h.lt
  obtain ⟨v0, v1, h1, h2, h3⟩ := h.ex
  have := h.le
  exact ⟨⟨v0, v1, h1.on hb, h2.on hb (by omega), h3.on hb⟩, h.le, h.good⟩
def SK : List TypeId := [97, 123, 69]
set_option maxHeartbeats 1000000 in
theorem addPart_any (sb B : Nat) (PS : List Pr) (os : List Nat) (w : World) (h : Bld w sb B PS os) (hl : os.length ≤ 1000) :
    Calls Tryd.prog 52 #[.pointer (some ⟨sb, 0, none⟩)] w fun e w' => e = .returned (.tuple #[]) ∧ Bld w' sb B PS (os ++ [0]) ∧ Chg SK sb w w' := by
  have HLT := Lib.hid h.lt
  have HLE := Lib.hid h.le
  have HG := Lib.hid h.good
  obtain ⟨v0, v1, h1, h2, h3⟩ := h.ex
  have HSB := Lib.hid h1
  have HP := Lib.hid h2
  have HW := Lib.hid h3
  have hc1 := h1.c1
  have hbase : sb + 1 ≤ w.heap.size := h1.lt
  clear h h1 h2 h3
  go_enter Tryd.func52, Tryd.ntmps52
  go_wp2_with (at_builtin
               refine app_w rfl (.tmp 6) (.tmp 7) rfl (sb + 1) _ os 0 rfl HW.out rfl rfl (by omega) hbase ?_
               intro v5 w5 hown5 hc5
               obtain ⟨A5, n5, c5, rfl⟩ := hown5.slice_
               have HO5 := Lib.hid hown5
               have HC5 := Lib.hid hc5
               have hfz5 := (HSB.out.chg hc5 (by decide)).frozen 1
               have hcc5 := (HSB.out.chg hc5 (by decide)).c1
               clear hown5 hc5)
  (first | go_end0 | refine bodyPost_ret (results_none rfl _ _ _) rfl ?_)
  have hS5 := HSB.out.chg HC5.out (by decide)
  have hset := hS5.set_chg 1 (.slice A5 n5 c5)
  refine ⟨rfl, ⟨⟨v0, _, hS5.set1 _, ?_, HO5.out.chg hset (by decide)⟩, HLE.out, HG.out.part⟩, ?_⟩
  · exact (HP.out.chg HC5.out (by decide) (by have := HLE.out; omega)).chg hset (by decide) HLE.out
  · exact ((HC5.out.lower (by omega)).wide (by decide)).trans (hset.wide (by decide))
end Go.Proofs.YtcjpopjcpgipjaaDoor

namespace Go.Proofs.YtcjpopjcpgipjaaDoor
open Go.RowKit Go.Deep
set_option linter.unusedSimpArgs false
set_option linter.unusedVariables false
set_option maxRecDepth 100000

/-- What addPair adds. -/
def addP (ss : List Sym) (k i : Nat) (a b : List Int) : List Pr := match mt ss b noT 0 a with
  | some P => [⟨k, i, P⟩]
  | none => []
def AddPost (sb B k i : Nat) (ss : List Sym) (a b : List Int) (PS : List Pr) (os : List Nat) (w : World) (e : Ending) (w' : World) : Prop :=
  e = .returned (.tuple #[]) ∧ (∃ os', os'.length = os.length ∧ Bld w' sb B (PS ++ addP ss k i a b) os') ∧ Chg SK sb w w'
theorem bits_or_w {x q : Nat} (hx : x < 2 ^ 64) (hq : q < 2 ^ 64) : bits .or .u64 (x : Int) (q : Int) = ((x ||| q : Nat) : Int) := bits_or_u64_nat x q (by simpa using hx) (by simpa using hq)
theorem wrap_u64_nat {q : Nat} (hq : q < 2 ^ 64) : IntKind.u64.wrap (q : Int) = (q : Int) := by
  rw [IntKind.wrap_u64]
  have : q < 18446744073709551616 := by simpa using hq
  omega
theorem fold_set : ∀ (l : List Value) (k : Nat) (p q : List Value), p.length = 1 + k → q.length = l.length → List.foldl (fun (cs : Array Value) (x : Value × Nat) => cs.setIfInBounds (1 + x.snd) x.fst) (p ++ q).toArray (l.zipIdx k) = (p ++ l).toArray
  | [], k, p, q, hp, hq => by
    have : q = [] := List.length_eq_zero_iff.1 hq
    subst this; rfl
  | x :: l, k, p, [], hp, hq => by simp at hq
  | x :: l, k, p, y :: q, hp, hq => by
    rw [List.zipIdx_cons, List.foldl_cons]
    have e : ((p ++ y :: q).toArray.setIfInBounds (1 + k) x) = ((p ++ [x]) ++ q).toArray := by
      rw [List.setIfInBounds_toArray, List.set_append_right _ _ (by omega), ← hp, Nat.sub_self, List.set_cons_zero, List.append_assoc]; rfl
    show List.foldl _ ((p ++ y :: q).toArray.setIfInBounds (1 + k) x) _ = _
    rw [e, fold_set l (k + 1) (p ++ [x]) q (by rw [List.length_append]; simp; omega) (by simpa using hq), List.append_assoc]; rfl
theorem fold_pair (u : Value) (cs : Array Value) (h : cs.size = 24) : Array.foldl (fun (cs : Array Value) (x : Value × Nat) => cs.setIfInBounds (1 + x.snd) x.fst) #[u, .slice none 0 0, .slice none 0 0, .slice none 0 0, .slice none 0 0, .slice none 0 0, .slice none 0 0, .slice none 0 0, .slice none 0 0, .slice none 0 0, .slice none 0 0, .slice none 0 0, .slice none 0 0, .slice none 0 0, .slice none 0 0, .slice none 0 0, .slice none 0 0, .slice none 0 0, .slice none 0 0, .slice none 0 0, .slice none 0 0, .slice none 0 0, .slice none 0 0, .slice none 0 0, .slice none 0 0] cs.zipIdx 0 24 = #[u] ++ cs := by
  have e : (24 : Nat) = cs.zipIdx.size := by simp [h]
  have e2 : Array.foldl (fun (cs : Array Value) (x : Value × Nat) => cs.setIfInBounds (1 + x.snd) x.fst) #[u, .slice none 0 0, .slice none 0 0, .slice none 0 0, .slice none 0 0, .slice none 0 0, .slice none 0 0, .slice none 0 0, .slice none 0 0, .slice none 0 0, .slice none 0 0, .slice none 0 0, .slice none 0 0, .slice none 0 0, .slice none 0 0, .slice none 0 0, .slice none 0 0, .slice none 0 0, .slice none 0 0, .slice none 0 0, .slice none 0 0, .slice none 0 0, .slice none 0 0, .slice none 0 0, .slice none 0 0] cs.zipIdx 0 24 = List.foldl (fun (cs : Array Value) (x : Value × Nat) => cs.setIfInBounds (1 + x.snd) x.fst) #[u, .slice none 0 0, .slice none 0 0, .slice none 0 0, .slice none 0 0, .slice none 0 0, .slice none 0 0, .slice none 0 0, .slice none 0 0, .slice none 0 0, .slice none 0 0, .slice none 0 0, .slice none 0 0, .slice none 0 0, .slice none 0 0, .slice none 0 0, .slice none 0 0, .slice none 0 0, .slice none 0 0, .slice none 0 0, .slice none 0 0, .slice none 0 0, .slice none 0 0, .slice none 0 0, .slice none 0 0] (cs.toList.zipIdx 0) := by
    rw [e, ← Array.foldl_toList, Array.toList_zipIdx]
  rw [e2]
  have := fold_set cs.toList 0 [u] [.slice none 0 0, .slice none 0 0, .slice none 0 0, .slice none 0 0, .slice none 0 0, .slice none 0 0, .slice none 0 0, .slice none 0 0, .slice none 0 0, .slice none 0 0, .slice none 0 0, .slice none 0 0, .slice none 0 0, .slice none 0 0, .slice none 0 0, .slice none 0 0, .slice none 0 0, .slice none 0 0, .slice none 0 0, .slice none 0 0, .slice none 0 0, .slice none 0 0, .slice none 0 0, .slice none 0 0] rfl (by have e3 : cs.toList.length = 24 := h; rw [e3]; rfl)
  refine Eq.trans this ?_
  simp
theorem fold_set0 : ∀ (l : List Value) (k : Nat) (p q : List Value), p.length = k → q.length = l.length → List.foldl (fun (cs : Array Value) (x : Value × Nat) => cs.setIfInBounds x.snd x.fst) (p ++ q).toArray (l.zipIdx k) = (p ++ l).toArray
  | [], k, p, q, hp, hq => by
    have : q = [] := List.length_eq_zero_iff.1 hq
    subst this; rfl
  | x :: l, k, p, [], hp, hq => by simp at hq
  | x :: l, k, p, y :: q, hp, hq => by
    rw [List.zipIdx_cons, List.foldl_cons]
    have e : ((p ++ y :: q).toArray.setIfInBounds k x) = ((p ++ [x]) ++ q).toArray := by
      rw [List.setIfInBounds_toArray, List.set_append_right _ _ (by omega), ← hp, Nat.sub_self, List.set_cons_zero, List.append_assoc]; rfl
    show List.foldl _ ((p ++ y :: q).toArray.setIfInBounds k x) _ = _
    rw [e, fold_set0 l (k + 1) (p ++ [x]) q (by rw [List.length_append]; simp; omega) (by simpa using hq), List.append_assoc]; rfl
theorem fold_pair2 (u : Value) (cs : Array Value) (h : cs.size = 25) : Array.foldl (fun (cs : Array Value) (x : Value × Nat) => cs.setIfInBounds x.snd x.fst) #[u, .slice none 0 0, .slice none 0 0, .slice none 0 0, .slice none 0 0, .slice none 0 0, .slice none 0 0, .slice none 0 0, .slice none 0 0, .slice none 0 0, .slice none 0 0, .slice none 0 0, .slice none 0 0, .slice none 0 0, .slice none 0 0, .slice none 0 0, .slice none 0 0, .slice none 0 0, .slice none 0 0, .slice none 0 0, .slice none 0 0, .slice none 0 0, .slice none 0 0, .slice none 0 0, .slice none 0 0] cs.zipIdx 0 25 = cs := by
  have e : (25 : Nat) = cs.zipIdx.size := by simp [h]
  have e2 : Array.foldl (fun (cs : Array Value) (x : Value × Nat) => cs.setIfInBounds x.snd x.fst) #[u, .slice none 0 0, .slice none 0 0, .slice none 0 0, .slice none 0 0, .slice none 0 0, .slice none 0 0, .slice none 0 0, .slice none 0 0, .slice none 0 0, .slice none 0 0, .slice none 0 0, .slice none 0 0, .slice none 0 0, .slice none 0 0, .slice none 0 0, .slice none 0 0, .slice none 0 0, .slice none 0 0, .slice none 0 0, .slice none 0 0, .slice none 0 0, .slice none 0 0, .slice none 0 0, .slice none 0 0] cs.zipIdx 0 25 = List.foldl (fun (cs : Array Value) (x : Value × Nat) => cs.setIfInBounds x.snd x.fst) #[u, .slice none 0 0, .slice none 0 0, .slice none 0 0, .slice none 0 0, .slice none 0 0, .slice none 0 0, .slice none 0 0, .slice none 0 0, .slice none 0 0, .slice none 0 0, .slice none 0 0, .slice none 0 0, .slice none 0 0, .slice none 0 0, .slice none 0 0, .slice none 0 0, .slice none 0 0, .slice none 0 0, .slice none 0 0, .slice none 0 0, .slice none 0 0, .slice none 0 0, .slice none 0 0, .slice none 0 0] (cs.toList.zipIdx 0) := by
    rw [e, ← Array.foldl_toList, Array.toList_zipIdx]
  rw [e2]
  have := fold_set0 cs.toList 0 [] [u, .slice none 0 0, .slice none 0 0, .slice none 0 0, .slice none 0 0, .slice none 0 0, .slice none 0 0, .slice none 0 0, .slice none 0 0, .slice none 0 0, .slice none 0 0, .slice none 0 0, .slice none 0 0, .slice none 0 0, .slice none 0 0, .slice none 0 0, .slice none 0 0, .slice none 0 0, .slice none 0 0, .slice none 0 0, .slice none 0 0, .slice none 0 0, .slice none 0 0, .slice none 0 0, .slice none 0 0] rfl (by have e3 : cs.toList.length = 25 := h; rw [e3]; rfl)
  exact this
theorem load_box {w : World} {o : Oper} {f : Operand → Value} {x : Operand} {ty : TypeId} {cs : Array Value} (g : Nat) (hx : f x = .pointer (some ⟨g, 0, none⟩)) (ho : o.op = .load ty x)
    (hld : (loadVar ty ⟨g, 0, none⟩).run Tryd.prog w = .ok (.agg cs) w) : (execOp f o).run Tryd.prog w = .ok (.value (.agg cs)) w := by
  unfold execOp
  simp only [ho, hx, Instr.loadAt, Instr.sureAddr, Sem.run_bind, Sem.run_pure, Result.andThen_ok, hld]
set_option maxHeartbeats 4000000 in
theorem addPair_any (sb B k i : Nat) (A A1 A2 : Option Addr) (n cp n1 c1 n2 c2 : Nat) (ss : List Sym) (a b : List Int) (PS : List Pr) (os : List Nat) (w : World) (h : Bld w sb B PS os) (hk : os.length = k + 1) (hk3 : k ≤ 1000) (hN : PS.length < 60)
    (hs : SymsAt w w.heap.size A n ss) (hn : n ≤ maxLen) (ha : IntsAt w w.heap.size A1 n1 a) (hb : IntsAt w B A2 n2 b) (hc2 : n2 ≤ c2) (hra : rowB ss a = true) (hrb : rowB ss b = true) :
    Calls Tryd.prog 53 #[.pointer (some ⟨sb, 0, none⟩), .slice A n cp, .slice A1 n1 c1, .int .i64 (i : Int), .slice A2 n2 c2] w (AddPost sb B k i ss a b PS os w) := by
  obtain ⟨hz, hzs⟩ := zero_of_info parts_info
  have HLE := Lib.hid h.le
  have HLT := Lib.hid h.lt
  have hBw : B ≤ w.heap.size := by have := h.le; have := h.lt; omega
  have HBL := Lib.hid h
  have HG := Lib.hid h.good
  have HK := Lib.hid hk
  clear h hk
  go_enter Tryd.func53, Tryd.ntmps53
  go_wp2_with fail
  refine (compare_any A A1 A2 n cp n1 c1 n2 c2 B ss a b w hs hn ha hb hBw hc2 hra hrb).mono ?_
  rintro e w3 ⟨cs, T, rfl, hp, hT, hb3⟩
  have HPC := Lib.hid hp
  have HT := Lib.hid hT
  have HB3 := Lib.hid hb3
  have hcsz := hp.1
  have hsc := run_storeC (P := Tryd.prog) (w3.alloc (.cells nilC 119)) w3.heap.size _ nilC cs (heap_alloc_new _ _) (by rw [hcsz]; rfl) hp.one
  rw [World.setRow_alloc_new] at hsc
  clear hp hT hb3 hs hn ha hb hc2 hra hrb hBw
  cases hm : (mt ss b noT 0 a).isSome
  · have H : Hid (addP ss k i a b = []) := by show addP ss k i a b = []; unfold addP; rw [Option.isSome_eq_false_iff, Option.isNone_iff_eq_none] at hm; rw [hm]
    clear hm
    go_wp2
    clear hsc
    (first | go_end0 | refine bodyPost_ret (results_none rfl _ _ _) rfl ?_)
    have hb4 : Below w.heap.size w (w3.alloc (.cells cs 119)) := HB3.out.trans ((below_new w3 _).mono HB3.out.size)
    exact ⟨rfl, ⟨os, rfl, by rw [H.out, List.append_nil]; exact HBL.out.on hb4⟩, Chg.of_below hb4 (Nat.le_of_lt HLT.out)⟩
  · have HM := Lib.hid (HT.out hm)
    have H : Hid (addP ss k i a b = [⟨k, i, T⟩]) := by show addP ss k i a b = _; unfold addP; rw [HM.out]
    clear hm
    go_wp2_with fail
    clear hsc
    obtain ⟨w4, hw4⟩ : ∃ w4, w4 = w3.alloc (.cells cs 119) := ⟨_, rfl⟩
    rw [← hw4]
    have hb4 : Below w.heap.size w w4 := by rw [hw4]; exact HB3.out.trans ((below_new w3 _).mono HB3.out.size)
    have hx4 : w4.heap[w3.heap.size]? = some (.cells cs 119 (0, 0)) := by rw [hw4]; exact heap_alloc_new _ _
    have HX4 := Lib.hid hx4
    have HPC4 : Hid (PartsC w4 B cs T) := by rw [hw4]; exact HPC.out.below ((below_new w3 _).mono (by have := HLE.out; have := HLT.out; have := HB3.out.size; omega))
    have HB4 := Lib.hid hb4
    have hBL := HBL.out.on hb4
    obtain ⟨v0, v1, hS, hP, hW⟩ := hBL.ex
    obtain ⟨A0, c0, rfl⟩ := hP.len_
    obtain ⟨g1, cap1, rfl, q1, q2, q3, q4, q5⟩ := hW.cells (by have := HK.out; omega)
    rw [HK.out] at hS hW q3 q4
    have d0 := hS.c0
    have d1 := hS.c1
    have hcell := q4 k (by omega)
    have hfz := q5 k
    obtain ⟨x, hx⟩ : ∃ x, x = wAt os k := ⟨_, rfl⟩
    obtain ⟨N, hNN⟩ : ∃ N, N = PS.length := ⟨_, rfl⟩
    rw [← hx] at hcell
    rw [← hNN] at hS d0 hN hP
    have HQ : Hid (2 ^ N < 2 ^ 64) := Nat.pow_lt_pow_right (by omega) (by omega)
    have hxs : x < 2 ^ 64 := by
      have := HG.out.few (k := k) (by rw [HK.out]; omega)
      rw [← hx, ← hNN] at this
      exact Nat.lt_trans this HQ.out
    obtain ⟨q, hq⟩ : ∃ q, q = 2 ^ N := ⟨_, rfl⟩
    have hq64 : q < 2 ^ 64 := by rw [hq]; exact HQ.out
    have hsh : ∀ yk, Op.shift .shl .u64 1 yk (N : Int) = pure (.int .u64 (q : Int)) := fun yk => by
      rw [shift_shl .u64 yk 1 (N : Int) (by omega) (by show (N : Int) ≤ 64; omega)]
      have : IntKind.u64.wrap (1 * 2 ^ ((N : Int)).toNat) = (q : Int) := by
        rw [Int.one_mul, Int.toNat_natCast]
        have e : ((2 : Int) ^ N) = ((2 ^ N : Nat) : Int) := by norm_cast
        rw [e, ← hq]
        exact wrap_u64_nat hq64
      rw [this]
    obtain ⟨r, hr⟩ : ∃ r, r = x ||| q := ⟨_, rfl⟩
    have hor : bits .or .u64 (x : Int) (q : Int) = (r : Int) := by rw [hr]; exact bits_or_w hxs hq64
    have HR : Hid (r = wAt os k ||| 2 ^ PS.length) := by show _ = _; rw [hr, hx, hq, hNN]
    have HN2 := Lib.hid hNN
    have HN3 := Lib.hid hN
    clear hx hq hr hNN hxs hq64 hN
    have hix : IntKind.i64.wrap (k : Int) = (k : Int) := IntWalk.i64_in _ (by omega)
    refine wp_region_held_drew (S := (fun w' => w'.cell? ⟨sb, 1, none⟩ = some (.slice (some ⟨g1, 0, none⟩) (k + 1) cap1) ∧ w'.cell? ⟨sb, 0, none⟩ = some (.slice A0 N c0))) (by kernel_rfl) ⟨d1, d0⟩ (fun hHeld => ?_)
    have hd : Below w4.heap.size w4 w4.drew := (Below.refl w4.heap.size w4).drew
    obtain ⟨w5, hw5⟩ : ∃ w5, w5 = w4.drew := ⟨_, rfl⟩
    rw [← hw5] at hd hHeld ⊢
    clear hw5
    have HX5 : Hid (w5.heap[w3.heap.size]? = some (.cells cs 119 (0, 0))) := by show _ = _; rw [hd.block _ (Array.getElem?_eq_some_iff.1 HX4.out).1]; exact HX4.out
    have hcell5 : w5.cell? ⟨g1, k, none⟩ = some (.int .u64 (x : Int)) := by rw [hd.cell (p := ⟨g1, k, none⟩) q2]; exact hcell
    have hB4 : B ≤ w4.heap.size := by have := HLE.out; have := HLT.out; have := HB4.out.size; omega
    have HPC5 : Hid (PartsC w5 B cs T) := HPC4.out.below (hd.mono hB4)
    have HS5 := Lib.hid (hS.on hd)
    have HP5 := Lib.hid (hP.on hd hB4)
    have HW5 := Lib.hid (hW.on hd)
    have hfz5 : w5.frozen? ⟨g1, k, none⟩ = false := HW5.out.frozen k
    have d1' := HS5.out.c1
    have d0' := HS5.out.c0
    have hg1 : sb + 1 ≤ g1 := q1
    have HB5 := Lib.hid (HB4.out.trans (hd.mono HB4.out.size))
    have zk0 : (0 : Int) ≤ (k : Int) := by omega
    have zk1 : (k : Int) < (k : Int) + 1 := by omega
    clear hcell hfz hS hP hW d0 d1 hd q4 q5 hx4 hw4 hb4 hBL
    refine takeH (i := 0) (v := ?_) rfl rfl (by kernel_rfl) (by kernel_rfl) (by kernel_rfl) (fun _ _ _ h => h) (by rfl) ?_ hHeld ?_
    rotate_left
    · (intro w hSw; (try dsimp only at hSw); first | (go_simp; done) | (go_simp; with_reducible rfl))
    simp only [Act.put, List.setIfInBounds_toArray, List.set_cons_zero, List.set_cons_succ]
    refine takeH (i := 1) (v := ?_) rfl rfl (by kernel_rfl) (by kernel_rfl) (by kernel_rfl) (fun _ _ _ h => h) (by rfl) ?_ hHeld ?_
    rotate_left
    · (intro w hSw; (try dsimp only at hSw); first | (go_simp; done) | (go_simp; with_reducible rfl))
    simp only [Act.put, List.setIfInBounds_toArray, List.set_cons_zero, List.set_cons_succ]
    refine takeH (i := 2) (v := ?_) rfl rfl (by kernel_rfl) (by kernel_rfl) (by kernel_rfl) (fun _ _ _ h => h) (by rfl) ?_ hHeld ?_
    rotate_left
    · (intro w hSw; (try dsimp only at hSw); first | (go_simp; done) | (go_simp; with_reducible rfl))
    simp only [Act.put, List.setIfInBounds_toArray, List.set_cons_zero, List.set_cons_succ]
    refine takeH (i := 3) (v := ?_) rfl rfl (by kernel_rfl) (by kernel_rfl) (by kernel_rfl) (fun _ _ _ h => h) (by rfl) ?_ hHeld ?_
    rotate_left
    · (intro w hSw; (try dsimp only at hSw); first | (go_simp; done) | (go_simp; with_reducible rfl))
    simp only [Act.put, List.setIfInBounds_toArray, List.set_cons_zero, List.set_cons_succ]
    refine takeH (i := 4) (v := ?_) rfl rfl (by kernel_rfl) (by kernel_rfl) (by kernel_rfl) (fun _ _ _ h => h) (by rfl) ?_ hHeld ?_
    rotate_left
    · (intro w hSw; (try dsimp only at hSw); first | (go_simp; done) | (go_simp; with_reducible rfl))
    simp only [Act.put, List.setIfInBounds_toArray, List.set_cons_zero, List.set_cons_succ]
    refine takeH (i := 5) (v := ?_) rfl rfl (by kernel_rfl) (by kernel_rfl) (by kernel_rfl) (fun _ _ _ h => h) (by rfl) ?_ hHeld ?_
    rotate_left
    · (intro w hSw; (try dsimp only at hSw); first | (go_simp; done) | (go_simp; with_reducible rfl))
    simp only [Act.put, List.setIfInBounds_toArray, List.set_cons_zero, List.set_cons_succ]
    refine takeH (i := 6) (v := ?_) rfl rfl (by kernel_rfl) (by kernel_rfl) (by kernel_rfl) (fun _ _ _ h => h) (by rfl) ?_ hHeld ?_
    rotate_left
    · (intro w hSw; (try dsimp only at hSw); first | (go_simp; done) | (go_simp; with_reducible rfl))
    simp only [Act.put, List.setIfInBounds_toArray, List.set_cons_zero, List.set_cons_succ]
    refine takeH (i := 7) (v := ?_) rfl rfl (by kernel_rfl) (by kernel_rfl) (by kernel_rfl) (fun _ _ _ h => h) (by rfl) ?_ hHeld ?_
    rotate_left
    · (intro w hSw; (try dsimp only at hSw); first | (go_simp; done) | (go_simp; with_reducible rfl))
    simp only [Act.put, List.setIfInBounds_toArray, List.set_cons_zero, List.set_cons_succ]
    refine takeH (i := 8) (v := ?_) rfl rfl (by kernel_rfl) (by kernel_rfl) (by kernel_rfl) (fun _ _ _ h => h) (by rfl) ?_ hHeld ?_
    rotate_left
    · (intro w hSw; (try dsimp only at hSw); first | (go_simp; done) | (go_simp; with_reducible rfl))
    simp only [Act.put, List.setIfInBounds_toArray, List.set_cons_zero, List.set_cons_succ]
    refine takeH (i := 9) (v := ?_) rfl rfl (by kernel_rfl) (by kernel_rfl) (by kernel_rfl) (fun _ _ _ h => h) (by rfl) ?_ hHeld ?_
    rotate_left
    · (intro w hSw; (try dsimp only at hSw); first | (go_simp; done) | (go_simp; with_reducible rfl))
    simp only [Act.put, List.setIfInBounds_toArray, List.set_cons_zero, List.set_cons_succ]
    refine takeH (i := 10) (v := ?_) rfl rfl (by kernel_rfl) (by kernel_rfl) (by kernel_rfl) (fun _ _ _ h => h) (by rfl) ?_ hHeld ?_
    rotate_left
    · (intro w hSw; (try dsimp only at hSw); first | (go_simp; done) | (go_simp; with_reducible rfl))
    simp only [Act.put, List.setIfInBounds_toArray, List.set_cons_zero, List.set_cons_succ]
    refine takeH (i := 12) (v := ?_) rfl rfl (by kernel_rfl) (by kernel_rfl) (by kernel_rfl) (fun _ _ _ h => h) (by rfl) ?_ hHeld ?_
    rotate_left
    · (intro w hSw; (try dsimp only at hSw); first | (go_simp; done) | (go_simp; with_reducible rfl))
    simp only [Act.put, List.setIfInBounds_toArray, List.set_cons_zero, List.set_cons_succ]
    refine takeH (i := 13) (v := ?_) rfl rfl (by kernel_rfl) (by kernel_rfl) (by kernel_rfl) (fun _ _ _ h => h) (by rfl) ?_ hHeld ?_
    rotate_left
    · (intro w hSw; (try dsimp only at hSw); first | (go_simp; done) | (go_simp; with_reducible rfl))
    simp only [Act.put, List.setIfInBounds_toArray, List.set_cons_zero, List.set_cons_succ]
    refine takeH (i := 14) (v := ?_) rfl rfl (by kernel_rfl) (by kernel_rfl) (by kernel_rfl) (fun _ _ _ h => h) (by rfl) ?_ hHeld ?_
    rotate_left
    · (intro w hSw; (try dsimp only at hSw); first | (go_simp; done) | (go_simp; with_reducible rfl))
    simp only [Act.put, List.setIfInBounds_toArray, List.set_cons_zero, List.set_cons_succ]
    refine takeH (i := 15) (v := ?_) rfl rfl (by kernel_rfl) (by kernel_rfl) (by kernel_rfl) (fun _ _ _ h => h) (by rfl) ?_ hHeld ?_
    rotate_left
    · (intro w hSw; (try dsimp only at hSw); first | (go_simp; done) | (go_simp; with_reducible rfl))
    simp only [Act.put, List.setIfInBounds_toArray, List.set_cons_zero, List.set_cons_succ]
    refine takeH (i := 16) (v := ?_) rfl rfl (by kernel_rfl) (by kernel_rfl) (by kernel_rfl) (fun _ _ _ h => h) (by rfl) ?_ hHeld ?_
    rotate_left
    · (intro w hSw; (try dsimp only at hSw); first | (go_simp; done) | (go_simp; with_reducible rfl))
    simp only [Act.put, List.setIfInBounds_toArray, List.set_cons_zero, List.set_cons_succ]
    refine takeH (i := 17) (v := ?_) rfl rfl (by kernel_rfl) (by kernel_rfl) (by kernel_rfl) (fun _ _ _ h => h) (by rfl) ?_ hHeld ?_
    rotate_left
    · (intro w hSw; (try dsimp only at hSw); first | (go_simp; done) | (go_simp; with_reducible rfl))
    simp only [Act.put, List.setIfInBounds_toArray, List.set_cons_zero, List.set_cons_succ]
    refine wpAnyH_ready (rs := [11]) (by kernel_rfl) (by simp) ?_
    refine AllReadyH.cons rfl (fun K hK => ?_) AllReadyH.nil
    go_simp
    refine hK.out _ _ ?_ (fun hHeld => ?_)
    · exact ⟨d1', d0'⟩
    clear hK K
    refine takeH (i := 18) (v := ?_) rfl rfl (by kernel_rfl) (by kernel_rfl) (by kernel_rfl) (fun _ _ _ h => h) (by rfl) ?_ hHeld ?_
    rotate_left
    · (intro w hSw; (try dsimp only at hSw); first | (go_simp; done) | (go_simp; with_reducible rfl))
    simp only [Act.put, List.setIfInBounds_toArray, List.set_cons_zero, List.set_cons_succ]
    refine takeH (i := 19) (v := ?_) rfl rfl (by kernel_rfl) (by kernel_rfl) (by kernel_rfl) (fun _ _ _ h => h) (by rfl) ?_ hHeld ?_
    rotate_left
    · (intro w hSw; (try dsimp only at hSw); first | (go_simp; done) | (go_simp; with_reducible rfl))
    simp only [Act.put, List.setIfInBounds_toArray, List.set_cons_zero, List.set_cons_succ]
    refine wpAnyH_ready (rs := [20]) (by kernel_rfl) (by simp) ?_
    refine AllReadyH.cons rfl (fun K hK => ?_) AllReadyH.nil
    go_simp
    refine hK.out _ _ ?_ (fun hHeld => ?_)
    · have hc6 : Chg [97] (sb + 1) w5 (w5.setCell ⟨g1, k, none⟩ (.int .u64 (r : Int))) := HW5.out.put_chg _
      exact ⟨(HS5.out.chg hc6 (by decide)).c1, (HS5.out.chg hc6 (by decide)).c0⟩
    clear hK K
    refine wpAnyH_done (by kernel_rfl) ?_ _
    have hc6 : Chg [97] (sb + 1) w5 (w5.setCell ⟨g1, k, none⟩ (.int .u64 (r : Int))) := HW5.out.put_chg _
    have hW6 := HW5.out.put (i := k) r
    obtain ⟨w6, hw6⟩ : ∃ w6, w6 = w5.setCell ⟨g1, k, none⟩ (.int .u64 (r : Int)) := ⟨_, rfl⟩
    rw [← hw6] at hc6 hW6 ⊢
    clear hw6
    have hS6 := HS5.out.chg hc6 (by decide)
    have hP6 := HP5.out.chg hc6 (by decide) (by have := HLE.out; omega)
    have hX6 := hc6.blk _ _ _ _ HX5.out (by decide)
    have HPC6 : Hid (PartsC w6 B cs T) := HPC5.out.below (hc6.bel.mono (by have := HLE.out; omega))
    have HC6 : Hid (Chg SK sb w w6) := ((Chg.of_below HB5.out (Nat.le_of_lt HLT.out)).trans ((hc6.lower (by omega)).wide (by decide)))
    clear hcell5 hfz5 d1' d0' zk0 zk1 hix hor hsh hc6 q2 q3
    go_wp2_with fail
    refine wp_region_held_drew (S := (fun w' => w'.heap[w3.heap.size]? = some (.cells cs 119 (0, 0)))) (by kernel_rfl) hX6 (fun hHeld => ?_)
    have hd : Below w6.heap.size w6 w6.drew := (Below.refl w6.heap.size w6).drew
    obtain ⟨w7, hw7⟩ : ∃ w7, w7 = w6.drew := ⟨_, rfl⟩
    rw [← hw7] at hd hHeld ⊢
    clear hw7
    have hB6 : B ≤ w6.heap.size := by have := HLE.out; have := HLT.out; have := HC6.out.bel.size; omega
    have HS7 := Lib.hid (hS6.on hd)
    have HP7 := Lib.hid (hP6.on hd hB6)
    have HW7 := Lib.hid (hW6.on hd)
    have HX7 : Hid (w7.heap[w3.heap.size]? = some (.cells cs 119 (0, 0))) := by show _ = _; rw [hd.block _ (Array.getElem?_eq_some_iff.1 hX6).1]; exact hX6
    have HPC7 : Hid (PartsC w7 B cs T) := HPC6.out.below (hd.mono hB6)
    have HC7 : Hid (Chg SK sb w w7) := HC6.out.trans (Chg.of_below hd (by have := HLT.out; have := HC6.out.bel.size; omega))
    have d0 := HS7.out.c0
    clear hS6 hP6 hW6 hX6 hd hB6
    have FP := fold_pair (.int .i64 (i : Int)) cs hcsz
    have FP := Lib.hid FP
    refine takeH (i := 0) (v := ?_) rfl rfl (by kernel_rfl) (by kernel_rfl) (by kernel_rfl) (fun _ _ _ h => h) (by rfl) ?_ hHeld ?_
    rotate_left
    · (intro w hSw; (try dsimp only at hSw); first | (go_simp; done) | (go_simp; with_reducible rfl))
    simp only [Act.put, List.setIfInBounds_toArray, List.set_cons_zero, List.set_cons_succ]
    refine takeH (i := 1) (v := ?_) rfl rfl (by kernel_rfl) (by kernel_rfl) (by kernel_rfl) (fun _ _ _ h => h) (by rfl) ?_ hHeld ?_
    rotate_left
    · (intro w hSw; (try dsimp only at hSw); first | (go_simp; done) | (go_simp; with_reducible rfl))
    simp only [Act.put, List.setIfInBounds_toArray, List.set_cons_zero, List.set_cons_succ]
    refine takeH (i := 2) (v := ?_) rfl rfl (by kernel_rfl) (by kernel_rfl) (by kernel_rfl) (fun _ _ _ h => h) (by rfl) ?_ hHeld ?_
    rotate_left
    · (intro w hSw; (try dsimp only at hSw); first | (go_simp; done) | (go_simp; with_reducible rfl))
    simp only [Act.put, List.setIfInBounds_toArray, List.set_cons_zero, List.set_cons_succ]
    refine takeH (i := 3) (v := ?_) rfl rfl (by kernel_rfl) (by kernel_rfl) (by kernel_rfl) (fun _ _ _ h => h) (by rfl) ?_ hHeld ?_
    rotate_left
    · (intro w hSw; (try dsimp only at hSw); first | (go_simp; done) | (go_simp; with_reducible rfl))
    simp only [Act.put, List.setIfInBounds_toArray, List.set_cons_zero, List.set_cons_succ]
    refine takeH (i := 5) (v := ?_) rfl rfl (by kernel_rfl) (by kernel_rfl) (by kernel_rfl) (fun _ _ _ h => h) (by rfl) ?_ hHeld ?_
    rotate_left
    · (intro w hSw; (try dsimp only at hSw); first | (go_simp; done) | (go_simp; with_reducible rfl))
    simp only [Act.put, List.setIfInBounds_toArray, List.set_cons_zero, List.set_cons_succ]
    refine takeH (i := 6) (v := .agg cs) rfl rfl (by kernel_rfl) (by kernel_rfl) (by kernel_rfl) (fun _ _ _ h => h) (by rfl) ?_ hHeld ?_
    · intro w hSw
      exact load_box w3.heap.size rfl rfl (run_loadVar_row (P := Tryd.prog) w w3.heap.size 119 119 cs (0, 0) _ hSw Tryd.underlying119 rfl (by rw [hcsz]; exact hzs))
    simp only [Act.put, List.setIfInBounds_toArray, List.set_cons_zero, List.set_cons_succ]
    refine takeH (i := 7) (v := .agg (#[.int .i64 (i : Int)] ++ cs)) rfl rfl (by kernel_rfl) (by kernel_rfl) (by kernel_rfl) (fun _ _ _ h => h) (by rfl) ?_ hHeld ?_
    · intro w hSw
      go_simp
      all_goals exact FP.out
    simp only [Act.put, List.setIfInBounds_toArray, List.set_cons_zero, List.set_cons_succ]
    have hbase : sb + 1 ≤ w7.heap.size := by have := HLT.out; have := HC7.out.bel.size; omega
    have hna := below_new w7 (.cells (#[.int .i64 (i : Int)] ++ cs) 123)
    have d0n : (w7.alloc (.cells (#[.int .i64 (i : Int)] ++ cs) 123)).cell? ⟨sb, 0, none⟩ = some (.slice A0 N c0) := by rw [hna.cell (p := ⟨sb, 0, none⟩) hbase]; exact d0
    have HXN : Hid ((w7.alloc (.cells (#[.int .i64 (i : Int)] ++ cs) 123)).heap[w3.heap.size]? = some (.cells cs 119 (0, 0))) := by
      show _ = _; rw [hna.block _ (Array.getElem?_eq_some_iff.1 HX7.out).1]; exact HX7.out
    clear hna
    have FP2 := fold_pair2 (.int .i64 0) (#[.int .i64 (i : Int)] ++ cs) (by rw [Array.size_append, hcsz]; rfl)
    refine wpAnyH_ready (rs := [4, 8]) (by kernel_rfl) (by simp) ?_
    refine AllReadyH.cons rfl (fun K hK => ?_) (AllReadyH.cons rfl (fun K hK => ?_) AllReadyH.nil)
    · skip
      go_simp
      refine hK.out _ _ ?_ (fun hHeld => ?_)
      · exact HX7.out
      clear hK K
      refine wpAnyH_ready (rs := [8]) (by kernel_rfl) (by simp) ?_
      refine AllReadyH.cons rfl (fun K hK => ?_) AllReadyH.nil
      go_simp
      refine hK.out _ _ ?_ (fun hHeld => ?_)
      · exact HXN.out
      clear hK K
      refine wpAnyH_ready (rs := [9]) (by kernel_rfl) (by simp) ?_
      refine AllReadyH.cons rfl (fun K hK => ?_) AllReadyH.nil
      refine app_p_step rfl (.tmp 44) (.tmp 48) rfl (sb + 1) B _ PS ⟨k, i, T⟩ cs rfl HP7.out HPC7.out rfl rfl (by have := HN3.out; have := HN2.out; omega) hbase (by have := HLE.out; omega) ?_
      intro v8 w8 hown8 hc8
      obtain ⟨A8, n8, c8, rfl⟩ := hown8.slice_
      have HX8 : Hid (w8.heap[w3.heap.size]? = some (.cells cs 119 (0, 0))) := hc8.blk _ _ _ _ HX7.out (by decide)
      have HP8 := Lib.hid hown8
      have HS8 := Lib.hid (HS7.out.chg hc8 (by decide))
      have HW8 := Lib.hid (HW7.out.chg hc8 (by decide))
      have HC8 : Hid (Chg SK sb w w8) := HC7.out.trans ((hc8.lower (by omega)).wide (by decide))
      have e0 := HS8.out.c0
      have efz := HS8.out.frozen 0
      clear hown8 hc8
      refine hK.out _ _ ?_ (fun hHeld => ?_)
      · exact HX8.out
      clear hK K
      refine takeH (i := 10) (v := ?_) rfl rfl (by kernel_rfl) (by kernel_rfl) (by kernel_rfl) (fun _ _ _ h => h) (by rfl) ?_ hHeld ?_
      rotate_left
      · (intro w hSw; (try dsimp only at hSw); first | (go_simp; done) | (go_simp; with_reducible rfl))
      simp only [Act.put, List.setIfInBounds_toArray, List.set_cons_zero, List.set_cons_succ]
      refine takeH (i := 11) (v := ?_) rfl rfl (by kernel_rfl) (by kernel_rfl) (by kernel_rfl) (fun _ _ _ h => h) (by rfl) ?_ hHeld ?_
      rotate_left
      · (intro w hSw; (try dsimp only at hSw); first | (go_simp; done) | (go_simp; with_reducible rfl))
      simp only [Act.put, List.setIfInBounds_toArray, List.set_cons_zero, List.set_cons_succ]
      refine wpAnyH_ready (rs := [12]) (by kernel_rfl) (by simp) ?_
      refine AllReadyH.cons rfl (fun K hK => ?_) AllReadyH.nil
      go_simp
      refine hK.out _ _ ?_ (fun hHeld => ?_)
      · exact (HS8.out.set_chg 0 _).blk _ _ _ _ HX8.out (by decide)
      clear hK K
      refine wpAnyH_done (by kernel_rfl) ?_ _
      go_wp2
      (first | go_end0 | refine bodyPost_ret (results_none rfl _ _ _) rfl ?_)
      have hset := HS8.out.set_chg 0 (.slice A8 n8 c8)
      refine ⟨rfl, ⟨os.set k r, by rw [List.length_set], ⟨⟨_, _, HS8.out.set0 _, ?_, HW8.out.chg hset (by decide)⟩, HLE.out, ?_⟩⟩, HC8.out.trans (hset.wide (by decide))⟩
      · rw [H.out]; exact HP8.out.chg hset (by decide) HLE.out
      · rw [H.out, HR.out]; exact HG.out.pair HK.out
    · skip
      go_simp
      refine hK.out _ _ ?_ (fun hHeld => ?_)
      · exact HXN.out
      clear hK K
      refine wpAnyH_ready (rs := [4]) (by kernel_rfl) (by simp) ?_
      refine AllReadyH.cons rfl (fun K hK => ?_) AllReadyH.nil
      go_simp
      refine hK.out _ _ ?_ (fun hHeld => ?_)
      · exact HXN.out
      clear hK K
      refine wpAnyH_ready (rs := [9]) (by kernel_rfl) (by simp) ?_
      refine AllReadyH.cons rfl (fun K hK => ?_) AllReadyH.nil
      refine app_p_step rfl (.tmp 44) (.tmp 48) rfl (sb + 1) B _ PS ⟨k, i, T⟩ cs rfl HP7.out HPC7.out rfl rfl (by have := HN3.out; have := HN2.out; omega) hbase (by have := HLE.out; omega) ?_
      intro v8 w8 hown8 hc8
      obtain ⟨A8, n8, c8, rfl⟩ := hown8.slice_
      have HX8 : Hid (w8.heap[w3.heap.size]? = some (.cells cs 119 (0, 0))) := hc8.blk _ _ _ _ HX7.out (by decide)
      have HP8 := Lib.hid hown8
      have HS8 := Lib.hid (HS7.out.chg hc8 (by decide))
      have HW8 := Lib.hid (HW7.out.chg hc8 (by decide))
      have HC8 : Hid (Chg SK sb w w8) := HC7.out.trans ((hc8.lower (by omega)).wide (by decide))
      have e0 := HS8.out.c0
      have efz := HS8.out.frozen 0
      clear hown8 hc8
      refine hK.out _ _ ?_ (fun hHeld => ?_)
      · exact HX8.out
      clear hK K
      refine takeH (i := 10) (v := ?_) rfl rfl (by kernel_rfl) (by kernel_rfl) (by kernel_rfl) (fun _ _ _ h => h) (by rfl) ?_ hHeld ?_
      rotate_left
      · (intro w hSw; (try dsimp only at hSw); first | (go_simp; done) | (go_simp; with_reducible rfl))
      simp only [Act.put, List.setIfInBounds_toArray, List.set_cons_zero, List.set_cons_succ]
      refine takeH (i := 11) (v := ?_) rfl rfl (by kernel_rfl) (by kernel_rfl) (by kernel_rfl) (fun _ _ _ h => h) (by rfl) ?_ hHeld ?_
      rotate_left
      · (intro w hSw; (try dsimp only at hSw); first | (go_simp; done) | (go_simp; with_reducible rfl))
      simp only [Act.put, List.setIfInBounds_toArray, List.set_cons_zero, List.set_cons_succ]
      refine wpAnyH_ready (rs := [12]) (by kernel_rfl) (by simp) ?_
      refine AllReadyH.cons rfl (fun K hK => ?_) AllReadyH.nil
      go_simp
      refine hK.out _ _ ?_ (fun hHeld => ?_)
      · exact (HS8.out.set_chg 0 _).blk _ _ _ _ HX8.out (by decide)
      clear hK K
      refine wpAnyH_done (by kernel_rfl) ?_ _
      go_wp2
      (first | go_end0 | refine bodyPost_ret (results_none rfl _ _ _) rfl ?_)
      have hset := HS8.out.set_chg 0 (.slice A8 n8 c8)
      refine ⟨rfl, ⟨os.set k r, by rw [List.length_set], ⟨⟨_, _, HS8.out.set0 _, ?_, HW8.out.chg hset (by decide)⟩, HLE.out, ?_⟩⟩, HC8.out.trans (hset.wide (by decide))⟩
      · rw [H.out]; exact HP8.out.chg hset (by decide) HLE.out
      · rw [H.out, HR.out]; exact HG.out.pair HK.out
end Go.Proofs.YtcjpopjcpgipjaaDoor
