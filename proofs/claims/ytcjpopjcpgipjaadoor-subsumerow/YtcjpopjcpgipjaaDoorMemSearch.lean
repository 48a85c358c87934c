/-
  Words for memory: rows of sets, rows of pairs, the object of a search.
-/
import Derived.Test.YtcjpopjcpgipjaaDoorPlainSearch
import Derived.Test.YtcjpopjcpgipjaaDoorChange
import Derived.Test.YtcjpopjcpgipjaaDoorMemChg
import Derived.Test.YtcjpopjcpgipjaaDoorBaseBind
import Derived.Laws.OwnMore
import Derived.Laws.Bits64b
import Derived.Laws.Bits64
namespace Go.Proofs.YtcjpopjcpgipjaaDoor
open Go.RowKit
set_option linter.unusedSimpArgs false
set_option linter.unusedVariables false
set_option maxRecDepth 100000

def swCells (ws : List Nat) : List Value := ws.map fun (n : Nat) => Value.int .u64 (n : Int)
/-- A row of sets that the call made. -/
def OwnW (w : World) (base : Nat) (v : Value) (ws : List Nat) : Prop := w.ownsRow base 97 1 v ws.length (swCells ws)
theorem set_info : (Tryd.prog.info? 97).map (fun i => (i.zero, i.size, i.bytes)) = some (some (.int .u64 0), 1, 8) := by kernel_rfl
section
variable {w w' : World} {base base' : Nat} {v : Value} {ws : List Nat} {es : List TypeId}
theorem OwnW.nil_ : OwnW w base (.slice none 0 0) [] := ⟨rfl, .inl ⟨rfl, rfl⟩⟩
theorem OwnW.lower (h : OwnW w base v ws) (hb : base' ≤ base) : OwnW w base' v ws := own_base h hb
theorem OwnW.on (h : OwnW w base v ws) (hb : Below w.heap.size w w') : OwnW w' base v ws := owns_on h hb
theorem OwnW.chg (h : OwnW w base v ws) (hc : Chg es base' w w') (he : 97 ∉ es) : OwnW w' base v ws := hc.rows he h
theorem OwnW.shape (h : OwnW w base v ws) : (v = .slice none 0 0 ∧ ws = []) ∨ ∃ g cap, v = .slice (some ⟨g, 0, none⟩) ws.length cap ∧ base ≤ g ∧ g < w.heap.size ∧ ws.length ≤ cap := by
  rcases h.2 with ⟨h1, h2⟩ | ⟨g, cap, cur, hv, hg, hc, hn, _⟩
  · exact .inl ⟨h1, List.length_eq_zero_iff.1 h2⟩
  · exact .inr ⟨g, cap, hv, hg, (Array.getElem?_eq_some_iff.1 hc).1, hn⟩
theorem OwnW.slice_ (h : OwnW w base v ws) : ∃ A n c, v = .slice A n c := by
  rcases h.shape with ⟨rfl, _⟩ | ⟨g, cap, rfl, _⟩ <;> exact ⟨_, _, _, rfl⟩
theorem OwnW.len_ (h : OwnW w base v ws) : ∃ A c, v = .slice A ws.length c := by
  rcases h.shape with ⟨rfl, rfl⟩ | ⟨g, cap, rfl, _⟩ <;> exact ⟨_, _, rfl⟩
theorem wAt_get {ws : List Nat} {i : Nat} (h : i < ws.length) : ws[i]? = some (wAt ws i) := by
  unfold wAt; rw [List.getD_eq_getElem?_getD, List.getElem?_eq_getElem h]; rfl
/-- Its slice value, its cells. -/
theorem OwnW.cells (h : OwnW w base v ws) (hp : 0 < ws.length) : ∃ g cap, v = .slice (some ⟨g, 0, none⟩) ws.length cap ∧ base ≤ g ∧ g < w.heap.size ∧ ws.length ≤ cap ∧ (∀ i, i < ws.length → w.cell? ⟨g, i, none⟩ = some (.int .u64 (wAt ws i : Int))) ∧ ∀ i, w.frozen? ⟨g, i, none⟩ = false := by
  rcases h.shape with ⟨_, e⟩ | ⟨g, cap, rfl, h1, h2, h3⟩
  · rw [e] at hp; simp at hp
  · refine ⟨g, cap, rfl, h1, h2, h3, fun i hi => ?_, fun i => World.ownsRow.frozenAt h i⟩
    rw [World.ownsRow.cellAt h i (by omega)]
    unfold swCells
    rw [List.getElem?_map, wAt_get hi]; rfl
theorem OwnW.frozen {g n cap : Nat} (h : OwnW w base (.slice (some ⟨g, 0, none⟩) n cap) ws) (i : Nat) : w.frozen? ⟨g, i, none⟩ = false := by
  rcases h.2 with ⟨q, _⟩ | ⟨g', cap', cur, q, hg, hc, _⟩
  · cases q
  · injection q with q
    injection q with q
    injection q with q
    subst q
    exact frozen_of_row _ _ _ _ _ hc
theorem OwnW.put {g n cap i : Nat} (h : OwnW w base (.slice (some ⟨g, 0, none⟩) n cap) ws) (x : Nat) : OwnW (w.setCell ⟨g, i, none⟩ (.int .u64 (x : Int))) base (.slice (some ⟨g, 0, none⟩) n cap) (ws.set i x) := by
  have hn : n = ws.length := by
    rcases h.2 with ⟨q, _⟩ | ⟨_, _, _, q, _⟩
    · cases q
    · injection q
  subst hn
  have := (World.ownsRow.stored h i (.int .u64 (x : Int))).1
  unfold OwnW
  have e2 : swCells (ws.set i x) = (swCells ws).set i (.int .u64 (x : Int)) := by unfold swCells; rw [List.map_set]
  rw [e2, List.length_set]
  exact this
theorem OwnW.put_chg {g n cap i : Nat} (h : OwnW w base (.slice (some ⟨g, 0, none⟩) n cap) ws) (u : Value) : Chg [97] base w (w.setCell ⟨g, i, none⟩ u) := by
  rcases h.2 with ⟨q, _⟩ | ⟨g', cap', cur, q, hg, hc, _⟩
  · cases q
  · injection q with q
    injection q with q
    injection q with q
    subst q
    exact Chg.set hc hg u
end
/-- 'x = append(x, y)' of sets, x made by the call. -/
theorem app_w_op {w : World} {o : Oper} {a : Act} {K : Act → World → Prop} {Q : Exit → Act → World → Prop} (s x : Operand)
    (ho : o.op = .call { callee := .builtin .append, args := #[s, x], argTypes := #[67, 67] })
    (base : Nat) (v : Value) (ws : List Nat) (y : Nat) (hs : a.eval s = v) (hown : OwnW w base v ws) {N : Nat} (hx : a.eval x = .slice (some ⟨N, 0, none⟩) 1 1) (hN : w.heap.size = N)
    (hlen : ws.length + 1 ≤ 17592186044416) (hbase : base ≤ w.heap.size)
    (h : ∀ v' w', OwnW w' base v' (ws ++ [y]) → Chg [97] base w w' → K (a.put o.dst v') w') : o.wp Tryd.prog a (w.alloc (.cells #[.int .u64 (y : Int)] 97)) K Q := by
  subst hN
  obtain ⟨i0, hi0, hz0, hz1, hz2⟩ := info_parts set_info
  have k2' := World.ownsRow.alloc hown (.cells #[.int .u64 (y : Int)] 97)
  refine wp_append_own _ s x 67 ho base 97 i0 _ 1 8 Tryd.underlying67 hi0 hz0 hz1 hz2 rfl (by omega) v ws.length (swCells ws) hs k2' ⟨w.heap.size, 0, none⟩ 1 1 [.int .u64 (y : Int)] hx rfl
    (World.news_of_block (cs := #[.int .u64 (y : Int)]) (t := 97) (fr := (0, 0)) (heap_alloc_new w _)) (by simp; rfl) (by unfold maxLen; omega) (by omega) (by simp; omega) ?_
  intro v' w' h1 h2 _
  refine h v' w' ?_ ((Chg.of_below (below_new w _) hbase).trans (Chg.grown h2 k2' (by simp; omega)))
  unfold OwnW
  have e : swCells (ws ++ [y]) = swCells ws ++ [.int .u64 (y : Int)] := by unfold swCells; simp
  rw [e, List.length_append]
  exact h1
theorem app_w {w : World} {ops : Array Oper} {rest : List Oper} {o : Oper} {a : Act} {Q : Exit → Act → World → Prop} (hgd : o.guard = none) (s x : Operand)
    (ho : o.op = .call { callee := .builtin .append, args := #[s, x], argTypes := #[67, 67] })
    (base : Nat) (v : Value) (ws : List Nat) (y : Nat) (hs : a.eval s = v) (hown : OwnW w base v ws) {N : Nat} (hx : a.eval x = .slice (some ⟨N, 0, none⟩) 1 1) (hN : w.heap.size = N)
    (hlen : ws.length + 1 ≤ 17592186044416) (hbase : base ≤ w.heap.size)
    (h : ∀ v' w', OwnW w' base v' (ws ++ [y]) → Chg [97] base w w' → wpList Tryd.prog ops Q rest (a.put o.dst v') w') : wpList Tryd.prog ops Q (o :: rest) a (w.alloc (.cells #[.int .u64 (y : Int)] 97)) :=
  wpList_plain hgd fun _ hK => app_w_op s x ho base v ws y hs hown hx hN hlen hbase fun v' w' h1 h2 => hK _ _ (h v' w' h1 h2)

/-- A row of pairs that the call made; what stands for variables lies below B. -/
def prAt (PS : List Pr) (i : Nat) : Pr := PS.getD i ⟨0, 0, noT⟩
def PrC (w : World) (B : Nat) (cells : List Value) (PS : List Pr) : Prop := ∀ i, i < PS.length → cells[i * 25]? = some (.int .i64 ((prAt PS i).idx : Int)) ∧ ∀ x, x < 24 → ∃ u, cells[i * 25 + (x + 1)]? = some u ∧ PieceV w B u ((prAt PS i).pcs x)
def OwnP (w : World) (base B : Nat) (v : Value) (PS : List Pr) : Prop := ∃ cells, w.ownsRow base 123 25 v PS.length cells ∧ PrC w B cells PS
section
variable {w w' : World} {base base' B : Nat} {v : Value} {PS : List Pr} {es : List TypeId}
theorem prAt_get {i : Nat} (h : i < PS.length) : PS[i]? = some (prAt PS i) := by
  unfold prAt; rw [List.getD_eq_getElem?_getD, List.getElem?_eq_getElem h]; rfl
theorem PrC.below {cells : List Value} (h : PrC w B cells PS) (hb : Below B w w') : PrC w' B cells PS := fun i hi => by
  obtain ⟨h1, h2⟩ := h i hi
  refine ⟨h1, fun x hx => ?_⟩
  obtain ⟨u, e, hu⟩ := h2 x hx
  exact ⟨u, e, hu.keep fun p hp => hb.cell hp⟩
theorem OwnP.nil_ : OwnP w base B (.slice none 0 0) [] := ⟨[], ⟨rfl, .inl ⟨rfl, rfl⟩⟩, fun i hi => absurd hi (by simp)⟩
theorem OwnP.lower (h : OwnP w base B v PS) (hb : base' ≤ base) : OwnP w base' B v PS := by
  obtain ⟨cells, h1, h2⟩ := h; exact ⟨cells, own_base h1 hb, h2⟩
theorem OwnP.on (h : OwnP w base B v PS) (hb : Below w.heap.size w w') (hB : B ≤ w.heap.size) : OwnP w' base B v PS := by
  obtain ⟨cells, h1, h2⟩ := h; exact ⟨cells, owns_on h1 hb, h2.below (hb.mono hB)⟩
theorem OwnP.chg (h : OwnP w base B v PS) (hc : Chg es base' w w') (he : 123 ∉ es) (hB : B ≤ base') : OwnP w' base B v PS := by
  obtain ⟨cells, h1, h2⟩ := h; exact ⟨cells, hc.rows he h1, h2.below (hc.bel.mono hB)⟩
theorem OwnP.shape (h : OwnP w base B v PS) : (v = .slice none 0 0 ∧ PS = []) ∨ ∃ g cap, v = .slice (some ⟨g, 0, none⟩) PS.length cap ∧ base ≤ g ∧ g < w.heap.size ∧ PS.length ≤ cap := by
  obtain ⟨cells, h, _⟩ := h
  rcases h.2 with ⟨h1, h2⟩ | ⟨g, cap, cur, hv, hg, hc, hn, _⟩
  · exact .inl ⟨h1, List.length_eq_zero_iff.1 h2⟩
  · exact .inr ⟨g, cap, hv, hg, (Array.getElem?_eq_some_iff.1 hc).1, hn⟩
theorem OwnP.slice_ (h : OwnP w base B v PS) : ∃ A n c, v = .slice A n c := by
  rcases h.shape with ⟨rfl, _⟩ | ⟨g, cap, rfl, _⟩ <;> exact ⟨_, _, _, rfl⟩
theorem OwnP.len_ (h : OwnP w base B v PS) : ∃ A c, v = .slice A PS.length c := by
  rcases h.shape with ⟨rfl, rfl⟩ | ⟨g, cap, rfl, _⟩ <;> exact ⟨_, _, rfl⟩
/-- A pair in memory: its number, its pieces. -/
def PairAt (w : World) (B g o : Nat) (p : Pr) : Prop := w.cell? ⟨g, o, none⟩ = some (.int .i64 (p.idx : Int)) ∧ ∀ x, x < 24 → ∃ u, w.cell? ⟨g, o + (x + 1), none⟩ = some u ∧ PieceV w B u (p.pcs x)
theorem OwnP.cells (h : OwnP w base B v PS) (hp : 0 < PS.length) : ∃ g cap, v = .slice (some ⟨g, 0, none⟩) PS.length cap ∧ base ≤ g ∧ g < w.heap.size ∧ PS.length ≤ cap ∧ ∀ i, i < PS.length → PairAt w B g (i * 25) (prAt PS i) := by
  rcases h.shape with ⟨_, e⟩ | ⟨g, cap, rfl, h1, h2, h3⟩
  · rw [e] at hp; simp at hp
  · refine ⟨g, cap, rfl, h1, h2, h3, fun i hi => ?_⟩
    obtain ⟨cells, h, hr⟩ := h
    obtain ⟨r1, r2⟩ := hr i hi
    refine ⟨by rw [World.ownsRow.cellAt h (i * 25) (by omega)]; exact r1, fun x hx => ?_⟩
    obtain ⟨u, e, hu⟩ := r2 x hx
    exact ⟨u, by rw [World.ownsRow.cellAt h (i * 25 + (x + 1)) (by omega)]; exact e, hu⟩
end
theorem pair_info : (Tryd.prog.info? 123).map (fun i => (i.zero, i.size, i.bytes)) = some (some (.agg (#[.int .i64 0] ++ nilC)), 25, 584) := by kernel_rfl
theorem PrC.snoc {w : World} {B : Nat} {cells : List Value} {PS : List Pr} (h : PrC w B cells PS) (hl : cells.length = PS.length * 25) {p : Pr} {cs : Array Value} (hp : PartsC w B cs p.pcs) : PrC w B (cells ++ (.int .i64 (p.idx : Int) :: cs.toList)) (PS ++ [p]) := fun i hi => by
  rw [List.length_append] at hi
  simp only [List.length_cons, List.length_nil] at hi
  by_cases q : i < PS.length
  · have e : prAt (PS ++ [p]) i = prAt PS i := by unfold prAt; rw [List.getD_eq_getElem?_getD, List.getD_eq_getElem?_getD, List.getElem?_append_left q]
    obtain ⟨r1, r2⟩ := h i q
    rw [e]
    refine ⟨by rw [List.getElem?_append_left (by omega)]; exact r1, fun x hx => ?_⟩
    obtain ⟨u, e1, hu⟩ := r2 x hx
    exact ⟨u, by rw [List.getElem?_append_left (by omega)]; exact e1, hu⟩
  · have q : i = PS.length := by omega
    subst q
    have e : prAt (PS ++ [p]) PS.length = p := by unfold prAt; simp
    rw [e]
    refine ⟨by rw [List.getElem?_append_right (by omega), hl]; simp, fun x hx => ?_⟩
    obtain ⟨u, e1, hu⟩ := hp.2 x hx
    refine ⟨u, ?_, hu⟩
    rw [List.getElem?_append_right (by omega), hl, Nat.add_sub_cancel_left, List.getElem?_cons_succ, Array.getElem?_toList]
    exact e1
/-- 'x = append(x, y)' of pairs, x made by the call. -/
theorem app_p_op {w : World} {o : Oper} {a : Act} {K : Act → World → Prop} {Q : Exit → Act → World → Prop} (s x : Operand)
    (ho : o.op = .call { callee := .builtin .append, args := #[s, x], argTypes := #[66, 66] })
    (base B : Nat) (v : Value) (PS : List Pr) (p : Pr) (cs : Array Value) (hs : a.eval s = v) (hown : OwnP w base B v PS) (hp : PartsC w B cs p.pcs) {N : Nat} (hx : a.eval x = .slice (some ⟨N, 0, none⟩) 1 1) (hN : w.heap.size = N)
    (hlen : PS.length + 1 ≤ 1000000) (hbase : base ≤ w.heap.size) (hB : B ≤ base)
    (h : ∀ v' w', OwnP w' base B v' (PS ++ [p]) → Chg [123] base w w' → K (a.put o.dst v') w') : o.wp Tryd.prog a (w.alloc (.cells (#[.int .i64 (p.idx : Int)] ++ cs) 123)) K Q := by
  subst hN
  obtain ⟨i0, hi0, hz0, hz1, hz2⟩ := info_parts pair_info
  obtain ⟨cells, k1, k2⟩ := hown
  have k2' := World.ownsRow.alloc k1 (.cells (#[.int .i64 (p.idx : Int)] ++ cs) 123)
  refine wp_append_own _ s x 66 ho base 123 i0 _ 25 584 Tryd.underlying66 hi0 hz0 hz1 hz2 rfl (by omega) v PS.length cells hs k2' ⟨w.heap.size, 0, none⟩ 1 1 (.int .i64 (p.idx : Int) :: cs.toList) hx (by simp [hp.1])
    (by
      have := World.news_of_block (cs := #[.int .i64 (p.idx : Int)] ++ cs) (t := 123) (fr := (0, 0)) (heap_alloc_new w (.cells (#[.int .i64 (p.idx : Int)] ++ cs) 123))
      simpa using this) (by
      intro u hu
      rcases List.mem_cons.1 hu with rfl | hu
      · rfl
      · have := hp.one
        rw [Array.all_eq_true_iff_forall_mem] at this
        exact this u (by simpa using hu)) (by unfold maxLen; omega) (by omega) (by simp; omega) ?_
  intro v' w' h1 h2 _
  have hc := (Chg.of_below (below_new w (.cells (#[.int .i64 (p.idx : Int)] ++ cs) 123)) hbase).trans (Chg.grown h2 k2' (by simp; omega))
  refine h v' w' ⟨cells ++ (.int .i64 (p.idx : Int) :: cs.toList), ?_, (k2.snoc k1.1 hp).below (hc.bel.mono hB)⟩ hc
  rw [List.length_append]
  exact h1
theorem app_p_step {w : World} {ops : Array Oper} {o : Oper} {a : Act} {K : Act → World → Prop} {Q : Exit → Act → World → Prop} {E : Prop} (hgd : o.guard = none) (s x : Operand)
    (ho : o.op = .call { callee := .builtin .append, args := #[s, x], argTypes := #[66, 66] })
    (base B : Nat) (v : Value) (PS : List Pr) (p : Pr) (cs : Array Value) (hs : a.eval s = v) (hown : OwnP w base B v PS) (hp : PartsC w B cs p.pcs) {N : Nat} (hx : a.eval x = .slice (some ⟨N, 0, none⟩) 1 1) (hN : w.heap.size = N)
    (hlen : PS.length + 1 ≤ 1000000) (hbase : base ≤ w.heap.size) (hB : B ≤ base)
    (h : ∀ v' w', OwnP w' base B v' (PS ++ [p]) → Chg [123] base w w' → K (a.put o.dst v') w') : if Region.wanted o (yielded ops a.tmps) = true then Oper.wp Tryd.prog o a (w.alloc (.cells (#[.int .i64 (p.idx : Int)] ++ cs) 123)) K Q else E := by
  have hw : Region.wanted o (yielded ops a.tmps) = true := by simp [Region.wanted, hgd]
  rw [if_pos hw]
  exact app_p_op s x ho base B v PS p cs hs hown hp hx hN hlen hbase hB h

/-- The object of a search: its five slices. -/
def SB (w : World) (sb : Nat) (v0 v1 v2 v3 v4 : Value) : Prop := w.heap[sb]? = some (.cells #[v0, v1, v2, v3, v4] 69 (0, 0))
section
variable {w w' : World} {sb : Nat} {v0 v1 v2 v3 v4 u : Value} {es : List TypeId} {base : Nat}
theorem SB.c0 (h : SB w sb v0 v1 v2 v3 v4) : w.cell? ⟨sb, 0, none⟩ = some v0 := by rw [cell_of_row _ _ 0 _ _ _ h]; rfl
theorem SB.c1 (h : SB w sb v0 v1 v2 v3 v4) : w.cell? ⟨sb, 1, none⟩ = some v1 := by rw [cell_of_row _ _ 1 _ _ _ h]; rfl
theorem SB.c2 (h : SB w sb v0 v1 v2 v3 v4) : w.cell? ⟨sb, 2, none⟩ = some v2 := by rw [cell_of_row _ _ 2 _ _ _ h]; rfl
theorem SB.c3 (h : SB w sb v0 v1 v2 v3 v4) : w.cell? ⟨sb, 3, none⟩ = some v3 := by rw [cell_of_row _ _ 3 _ _ _ h]; rfl
theorem SB.c4 (h : SB w sb v0 v1 v2 v3 v4) : w.cell? ⟨sb, 4, none⟩ = some v4 := by rw [cell_of_row _ _ 4 _ _ _ h]; rfl
theorem SB.frozen (h : SB w sb v0 v1 v2 v3 v4) (i : Nat) : w.frozen? ⟨sb, i, none⟩ = false := frozen_of_row _ _ _ _ _ h
theorem SB.lt (h : SB w sb v0 v1 v2 v3 v4) : sb < w.heap.size := (Array.getElem?_eq_some_iff.1 h).1
theorem SB.on (h : SB w sb v0 v1 v2 v3 v4) (hb : Below w.heap.size w w') : SB w' sb v0 v1 v2 v3 v4 := by unfold SB; rw [hb.block sb h.lt]; exact h
theorem SB.chg (h : SB w sb v0 v1 v2 v3 v4) (hc : Chg es base w w') (he : 69 ∉ es) : SB w' sb v0 v1 v2 v3 v4 := hc.blk _ _ _ _ h he
theorem SB.set_chg (h : SB w sb v0 v1 v2 v3 v4) (i : Nat) (u : Value) : Chg [69] sb w (w.setCell ⟨sb, i, none⟩ u) := Chg.set h (Nat.le_refl _) u
theorem SB.set0 (h : SB w sb v0 v1 v2 v3 v4) (u : Value) : SB (w.setCell ⟨sb, 0, none⟩ u) sb u v1 v2 v3 v4 := heap_setCell_same w sb 0 _ _ u h
theorem SB.set1 (h : SB w sb v0 v1 v2 v3 v4) (u : Value) : SB (w.setCell ⟨sb, 1, none⟩ u) sb v0 u v2 v3 v4 := heap_setCell_same w sb 1 _ _ u h
theorem SB.set2 (h : SB w sb v0 v1 v2 v3 v4) (u : Value) : SB (w.setCell ⟨sb, 2, none⟩ u) sb v0 v1 u v3 v4 := heap_setCell_same w sb 2 _ _ u h
theorem SB.set3 (h : SB w sb v0 v1 v2 v3 v4) (u : Value) : SB (w.setCell ⟨sb, 3, none⟩ u) sb v0 v1 v2 u v4 := heap_setCell_same w sb 3 _ _ u h
theorem SB.set4 (h : SB w sb v0 v1 v2 v3 v4) (u : Value) : SB (w.setCell ⟨sb, 4, none⟩ u) sb v0 v1 v2 v3 u := heap_setCell_same w sb 4 _ _ u h
end
end Go.Proofs.YtcjpopjcpgipjaaDoor
