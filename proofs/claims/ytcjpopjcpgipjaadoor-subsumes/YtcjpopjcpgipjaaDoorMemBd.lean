/-
  Binds that share their terms' memory; places in rows and atoms: for the reference's further.
-/
import Derived.Test.YtcjpopjcpgipjaaDoorMemItem
import Derived.Test.YtcjpopjcpgipjaaDoorBaseBind
namespace Go.Proofs.YtcjpopjcpgipjaaDoor
open Go.RowKit Go.Deep
set_option linter.unusedSimpArgs false
set_option linter.unusedVariables false
set_option maxRecDepth 100000

/-- What a list of binds tells of variables. -/
def tOf (bs : List Bd) : Nat → List Int := fun v => (ofB bs (v : Int)).getD []
section
variable {ss : List Sym} {bs : List Bd} {b s r t : List Int} {T : Nat → List Int} {v j : Nat} {q : Int}
theorem tOf_nil : tOf [] = noT := rfl
theorem tOf_new (h : ofB bs (v : Int) = none) : tOf (bs ++ [⟨(v : Int), t⟩]) = bindV (tOf bs) v t := by
  funext x
  unfold tOf bindV
  rw [ofB_app]
  by_cases e : x = v
  · subst e
    rw [h, if_pos rfl]
    show ((ofB [⟨(x : Int), t⟩] (x : Int)).getD []) = t
    unfold ofB
    rw [if_pos rfl]; rfl
  · rw [if_neg e]
    have e3 : (fun v : Nat => (ofB bs (v : Int)).getD []) x = (ofB bs (x : Int)).getD [] := rfl
    rw [e3]
    cases ofB bs (x : Int) with
    | some u => rfl
    | none =>
      show ((ofB [⟨(v : Int), t⟩] (x : Int)).getD []) = []
      unfold ofB
      rw [if_neg (by show ¬ (v : Int) = (x : Int); omega)]; rfl
theorem tOf_some (h : ofB bs (v : Int) = some t) : tOf bs v = t := by unfold tOf; rw [h]; rfl
theorem tOf_none (h : ofB bs (v : Int) = none) : tOf bs v = [] := by unfold tOf; rw [h]; rfl
theorem bindV_same2 (h : T v = t) : bindV T v t = T := by
  funext x
  by_cases e : x = v
  · subst e; rw [bindV_at, h]
  · rw [bindV_ne _ _ e]
/-- What something is changed into: a row, an atom. -/
def Tgt (ss : List Sym) (b : List Int) : Prop := rowB ss b = true ∨ atomB ss b = true
theorem scanAt_cons : scanAt ss (q :: r) 1 (j + 1) = endAt ss (q :: r) (j + 1) ↔ scanAt ss r 1 j = endAt ss r j := by
  have e : scanAt ss (q :: r) 1 (j + 1) = (match scan ss (r.drop j) 1 with | some l => (((j + 1 + l : Nat)) : Int) | none => -1) := by
    unfold scanAt
    rw [List.drop_succ_cons]
    cases scan ss (r.drop j) 1 <;> rfl
  have e2 : scanAt ss r 1 j = (match scan ss (r.drop j) 1 with | some l => (((j + l : Nat)) : Int) | none => -1) := by
    unfold scanAt
    cases scan ss (r.drop j) 1 <;> rfl
  rw [e, e2, endAt_cons]
  cases scan ss (r.drop j) 1 with
  | none => simp only; omega
  | some l => simp only; omega
theorem Tgt.piece (h : Tgt ss b) (hj : j < b.length) (h1 : rowB ss b = true ∨ 1 ≤ j) : scanAt ss b 1 j = (endAt ss b j : Int) ∧ trm 24 ss (pieceAt ss b j) 1 ∧ j < endAt ss b j ∧ endAt ss b j ≤ b.length ∧ (pieceAt ss b j).length = endAt ss b j - j ∧ (pieceAt ss b j).length ≤ 48 := by
  by_cases hr : rowB ss b = true
  · obtain ⟨p1, p2, p3, p4, p5⟩ := piece_facts hr hj
    exact ⟨scan_start hr hj, p1, p3, p4, p5, piece_few hr hj⟩
  · rcases h with h | h
    · exact absurd h hr
    · obtain ⟨q, r, rfl, hq, _, _, hrr, _⟩ := atom_parts h
      rcases h1 with h1 | h1
      · exact absurd h1 hr
      · obtain ⟨i, rfl⟩ : ∃ i, j = i + 1 := ⟨j - 1, by omega⟩
        rw [List.length_cons] at hj
        obtain ⟨p1, p2, p3, p4, p5⟩ := piece_facts hrr (by omega : i < r.length)
        refine ⟨scanAt_cons.2 (scan_start hrr (by omega)), ?_, ?_, ?_, ?_, ?_⟩
        · rw [pieceAt_cons]; exact p1
        · rw [endAt_cons]; omega
        · rw [endAt_cons, List.length_cons]; omega
        · rw [endAt_cons, pieceAt_cons, p5]; omega
        · rw [pieceAt_cons]; exact piece_few hrr (by omega)
theorem Tgt.may (h : Tgt ss b) : mayB ss = true := by
  rcases h with h | h
  · exact (row_parts h).1
  · obtain ⟨q, r, rfl, hq, _, _, hrr, _⟩ := atom_parts h
    exact (row_parts hrr).1
theorem Tgt.len (h : Tgt ss b) : b.length ≤ 49 := by
  rcases h with h | h
  · have := (row_parts h).2.1; omega
  · obtain ⟨q, r, rfl, hq, _, _, hrr, _⟩ := atom_parts h
    have := (row_parts hrr).2.1
    rw [List.length_cons]; omega
end
/-- A row of binds that the call made; their terms lie anywhere. -/
def OwnBv (w : World) (base : Nat) (v : Value) (bs : List Bd) (vs : List Value) : Prop := vs.length = bs.length ∧ w.ownsRow base 133 2 v bs.length (bindCells bs vs)
/-- The binds' terms. -/
def BdRd (w : World) (bs : List Bd) (vs : List Value) : Prop := ∀ i, i < bs.length → ∃ A c, valAt vs i = .slice A (bdAt bs i).t.length c ∧ (bdAt bs i).t.length ≤ c ∧ IntsAt w w.heap.size A (bdAt bs i).t.length (bdAt bs i).t
section
variable {w w' : World} {base base' : Nat} {v : Value} {bs : List Bd} {vs : List Value}
theorem OwnBv.nil_ : OwnBv w base (.slice none 0 0) [] [] := ⟨rfl, rfl, .inl ⟨rfl, rfl⟩⟩
theorem OwnBv.lower (h : OwnBv w base v bs vs) (hb : base' ≤ base) : OwnBv w base' v bs vs := ⟨h.1, own_base h.2 hb⟩
theorem OwnBv.on (h : OwnBv w base v bs vs) (hb : Below w.heap.size w w') : OwnBv w' base v bs vs := ⟨h.1, owns_on h.2 hb⟩
theorem BdRd.on (h : BdRd w bs vs) (hb : Below w.heap.size w w') : BdRd w' bs vs := fun i hi => by
  obtain ⟨A, c, e, h1, h2⟩ := h i hi
  exact ⟨A, c, e, h1, h2.on hb⟩
theorem BdRd.nil_ : BdRd w [] [] := fun i hi => absurd hi (by simp)
theorem BdRd.snoc (h : BdRd w bs vs) (hl : vs.length = bs.length) {y : Int} {t : List Int} {A : Option Addr} {c : Nat} (hc : t.length ≤ c) (hi : IntsAt w w.heap.size A t.length t) : BdRd w (bs ++ [⟨y, t⟩]) (vs ++ [.slice A t.length c]) := fun i hi' => by
  rw [List.length_append] at hi'
  by_cases q : i < bs.length
  · obtain ⟨A', c', e, h1, h2⟩ := h i q
    rw [bdAt_left q, valAt_left (by omega)]
    exact ⟨A', c', e, h1, h2⟩
  · have hi2 : i = bs.length := by simp at hi'; omega
    subst hi2
    rw [bdAt_right, ← hl, valAt_right]
    exact ⟨A, c, rfl, hc, hi⟩
theorem OwnBv.shape (h : OwnBv w base v bs vs) : (v = .slice none 0 0 ∧ bs = []) ∨ ∃ g cap, v = .slice (some ⟨g, 0, none⟩) bs.length cap ∧ base ≤ g ∧ g < w.heap.size ∧ bs.length ≤ cap := by
  rcases h.2.2 with ⟨h1, h2⟩ | ⟨g, cap, cur, hv, hg, hc, hn, _⟩
  · exact .inl ⟨h1, List.length_eq_zero_iff.1 h2⟩
  · exact .inr ⟨g, cap, hv, hg, (Array.getElem?_eq_some_iff.1 hc).1, hn⟩
theorem OwnBv.bindsAt (h : OwnBv w base v bs vs) (hr : BdRd w bs vs) (hf : ∀ i, i < bs.length → (bdAt bs i).t.length * 8 ≤ 140737488351232) : ∃ A cap, v = .slice A bs.length cap ∧ bs.length ≤ cap ∧ BindsAt w w.heap.size A bs.length bs := by
  rcases h.shape with ⟨rfl, rfl⟩ | ⟨g, cap, rfl, hg, hlt, hn⟩
  · exact ⟨_, _, rfl, Nat.le_refl _, BindsAt.nil_⟩
  · refine ⟨_, _, rfl, hn, rfl, fun hp => ⟨g, 0, rfl, hlt, fun i hi => ?_⟩, hf⟩
    obtain ⟨h1, h2⟩ := h
    obtain ⟨d0, d1⟩ := bindCells_get bs vs h1 i hi
    have c0 := h2.cellAt (i * 2) (by omega)
    have c1 := h2.cellAt (i * 2 + 1) (by omega)
    rw [d0] at c0
    rw [d1] at c1
    obtain ⟨A', c', e, hc', hi'⟩ := hr i hi
    rw [e] at c1
    rw [Nat.zero_add]
    exact ⟨c0, A', c', c1, hc', hi'⟩
end
/-- 'x = append(x, b)' of binds, x made by the call, b's term anywhere. -/
theorem app_bdv_op {w : World} {o : Oper} {a : Act} {K : Act → World → Prop} {Q : Exit → Act → World → Prop} (s x : Operand)
    (ho : o.op = .call { callee := .builtin .append, args := #[s, x], argTypes := #[41, 41] })
    (base : Nat) (v : Value) (bs : List Bd) (vs : List Value) (y : Int) (t : List Int) (u : Value) (hs : a.eval s = v) (hown : OwnBv w base v bs vs) (hu : u.oneCell' = true) {N : Nat} (hx : a.eval x = .slice (some ⟨N, 0, none⟩) 1 1) (hN : w.heap.size = N)
    (hlen : bs.length + 1 ≤ 4398046511104) (hbase : base ≤ w.heap.size)
    (h : ∀ v' w', OwnBv w' base v' (bs ++ [⟨y, t⟩]) (vs ++ [u]) → Chg [133] base w w' → K (a.put o.dst v') w') : o.wp Tryd.prog a (w.alloc (.cells #[.int .i64 y, u] 133)) K Q := by
  subst hN
  obtain ⟨i0, hi0, hz0, hz1, hz2⟩ := info_parts bind_info
  obtain ⟨k1, k2⟩ := hown
  have k2' := World.ownsRow.alloc k2 (.cells #[.int .i64 y, u] 133)
  refine wp_append_own _ s x 41 ho base 133 i0 _ 2 32 Tryd.underlying41 hi0 hz0 hz1 hz2 rfl (by omega) v bs.length (bindCells bs vs) hs k2' ⟨w.heap.size, 0, none⟩ 1 1 [.int .i64 y, u] hx rfl
    (World.news_of_block (cs := #[.int .i64 y, u]) (t := 133) (fr := (0, 0)) (heap_alloc_new w _)) (by simp [hu]; rfl) (by unfold maxLen; omega) (by omega) (by simp; omega) ?_
  intro v' w' h1 h2 _
  refine h v' w' ⟨by simp [k1], ?_⟩ ((Chg.of_below (below_new w _) hbase).trans (Chg.grown h2 k2' (by simp; omega)))
  rw [bindCells_snoc bs vs _ u k1]
  simpa using h1
theorem app_bdv_step {w : World} {ops : Array Oper} {o : Oper} {a : Act} {K : Act → World → Prop} {Q : Exit → Act → World → Prop} {E : Prop} (hgd : o.guard = none) (s x : Operand)
    (ho : o.op = .call { callee := .builtin .append, args := #[s, x], argTypes := #[41, 41] })
    (base : Nat) (v : Value) (bs : List Bd) (vs : List Value) (y : Int) (t : List Int) (u : Value) (hs : a.eval s = v) (hown : OwnBv w base v bs vs) (hu : u.oneCell' = true) {N : Nat} (hx : a.eval x = .slice (some ⟨N, 0, none⟩) 1 1) (hN : w.heap.size = N)
    (hlen : bs.length + 1 ≤ 4398046511104) (hbase : base ≤ w.heap.size)
    (h : ∀ v' w', OwnBv w' base v' (bs ++ [⟨y, t⟩]) (vs ++ [u]) → Chg [133] base w w' → K (a.put o.dst v') w') : if Region.wanted o (yielded ops a.tmps) = true then Oper.wp Tryd.prog o a (w.alloc (.cells #[.int .i64 y, u] 133)) K Q else E := by
  have hw : Region.wanted o (yielded ops a.tmps) = true := by simp [Region.wanted, hgd]
  rw [if_pos hw]
  exact app_bdv_op s x ho base v bs vs y t u hs hown hu hx hN hlen hbase h
theorem bindCells_one : ∀ (bs : List Bd) (vs : List Value), (∀ u ∈ vs, u.oneCell' = true) → vs.length = bs.length → ∀ u ∈ bindCells bs vs, u.oneCell' = true
  | [], [], _, _, u, hu => by cases hu
  | b :: bs, x :: vs, h, hl, u, hu => by
    rw [bindCells_cons] at hu
    rcases List.mem_cons.1 hu with rfl | hu
    · rfl
    · rcases List.mem_cons.1 hu with rfl | hu
      · exact h _ (List.mem_cons_self ..)
      · exact bindCells_one bs vs (fun z hz => h z (List.mem_cons_of_mem _ hz)) (by simpa using hl) u hu
/-- 'append([]api.Bind{}, s...)': a row of its own, the same terms. -/
theorem app_bds {w : World} {ops : Array Oper} {rest : List Oper} {o : Oper} {a : Act} {Q : Exit → Act → World → Prop} (hgd : o.guard = none) (s x : Operand)
    (ho : o.op = .call { callee := .builtin .append, args := #[s, x], argTypes := #[41, 41] })
    (base base2 : Nat) (v vx : Value) (bs : List Bd) (vs : List Value) (hs : a.eval s = v) (hown : OwnBv w base v [] []) (hx : a.eval x = vx) (hxo : OwnBv w base2 vx bs vs) (h1 : ∀ u ∈ vs, u.oneCell' = true)
    (hlen : bs.length ≤ 4398046511104) (hbase : base ≤ w.heap.size)
    (h : ∀ v' w', OwnBv w' base v' bs vs → Chg [133] base w w' → wpList Tryd.prog ops Q rest (a.put o.dst v') w') : wpList Tryd.prog ops Q (o :: rest) a w := by
  refine wpList_plain hgd fun K hK => ?_
  obtain ⟨i0, hi0, hz0, hz1, hz2⟩ := info_parts bind_info
  rcases hxo.shape with ⟨rfl, rfl⟩ | ⟨g, cap, rfl, hg, hlt, hn⟩
  · have hv0 : vs = [] := List.eq_nil_of_length_eq_zero hxo.1
    subst hv0
    have hrun := run_append_owned_none (P := Tryd.prog) (w := w) base 41 o.type 133 i0 2 Tryd.underlying41 hi0 v 0 (bindCells [] []) hown.2
    have hk := hK _ _ (h v w hown Chg.refl)
    unfold Oper.wp
    simp [execOp, ho, resolve, invoke, builtin, hs, hx, hrun, Result.andThen]
    exact hk
  · obtain ⟨k1, k2⟩ := hxo
    refine wp_append_own _ s x 41 ho base 133 i0 _ 2 32 Tryd.underlying41 hi0 hz0 hz1 hz2 rfl (by omega) v 0 (bindCells [] []) hs hown.2 ⟨g, 0, none⟩ bs.length cap (bindCells bs vs) hx (by rw [k2.1]) ?_ (bindCells_one bs vs h1 k1) (by unfold maxLen; omega) (by omega) hbase ?_
    · intro j u hu
      have hj : j < bs.length * 2 := by
        rcases Nat.lt_or_ge j (bindCells bs vs).length with q | q
        · rw [k2.1] at q; exact q
        · rw [List.getElem?_eq_none q] at hu; cases hu
      have := k2.cellAt j (by omega)
      have ea : ((⟨g, 0, none⟩ : Addr).add j) = ⟨g, 0 + j, none⟩ := by unfold Addr.add; by_cases e0 : j = 0 <;> simp [e0]
      rw [ea, Nat.zero_add, this]; exact hu
    · intro v' w' q1 q2 _
      refine hK _ _ (h v' w' ⟨k1, ?_⟩ (Chg.grown q2 hown.2 hbase))
      have e : bindCells [] [] ++ bindCells bs vs = bindCells bs vs := rfl
      rw [e, Nat.zero_add] at q1
      exact q1
end Go.Proofs.YtcjpopjcpgipjaaDoor
