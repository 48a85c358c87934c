/-
  Words for memory: a slice of binds that reads as a list of binds, and one that a call has made; an append of one bind; rows written over.
-/
import Derived.Test.YtlmpapdpmmkjnaaPlainBind
import Derived.Test.YtlmpapdpmmkjnaaOwn
import Derived.Deep.OwnRows
namespace Go.Proofs.Ytlmpapdpmmkjnaa
open Go.RowKit
set_option linter.unusedSimpArgs false
set_option linter.unusedVariables false

/-- The slice value '.slice A n _' holds the binds bs; its cells, and those of the terms, lie below block B. -/
structure BindsAt (w : World) (B : Nat) (A : Option Addr) (n : Nat) (bs : List Bd) : Prop where
  len : bs.length = n
  at_ : 0 < n → ∃ b off, A = some ⟨b, off, none⟩ ∧ b < B ∧ ∀ i, i < n →
    w.cell? ⟨b, off + i * 2, none⟩ = some (.int .i64 (bdAt bs i).v) ∧
    ∃ A' c, w.cell? ⟨b, off + i * 2 + 1, none⟩ = some (.slice A' (bdAt bs i).t.length c) ∧ (bdAt bs i).t.length ≤ c ∧ IntsAt w B A' (bdAt bs i).t.length (bdAt bs i).t
  fit : ∀ i, i < n → (bdAt bs i).t.length * 8 ≤ 140737488351232
section
variable {w w' : World} {B B' n : Nat} {A : Option Addr} {bs : List Bd}
theorem BindsAt.keep (h : BindsAt w B A n bs) (hk : ∀ p : Addr, p.block < B → w'.cell? p = w.cell? p) : BindsAt w' B A n bs :=
  ⟨h.len, fun hn => by
    obtain ⟨b, off, e, hb, hc⟩ := h.at_ hn
    refine ⟨b, off, e, hb, fun i hi => ?_⟩
    obtain ⟨h1, A', c, h2, h3, h4⟩ := hc i hi
    exact ⟨by rw [hk ⟨b, _, none⟩ hb]; exact h1, A', c, by rw [hk ⟨b, _, none⟩ hb]; exact h2, h3, h4.keep hk⟩, h.fit⟩
theorem BindsAt.below (h : BindsAt w B A n bs) (hb : Below B w w') : BindsAt w' B A n bs := h.keep fun _ hp => hb.cell hp
theorem BindsAt.more (h : BindsAt w B A n bs) (hB : B ≤ B') : BindsAt w B' A n bs :=
  ⟨h.len, fun hn => by
    obtain ⟨b, off, e, hb, hc⟩ := h.at_ hn
    refine ⟨b, off, e, by omega, fun i hi => ?_⟩
    obtain ⟨h1, A', c, h2, h3, h4⟩ := hc i hi
    exact ⟨h1, A', c, h2, h3, h4.more hB⟩, h.fit⟩
theorem BindsAt.on (h : BindsAt w w.heap.size A n bs) (hb : Below w.heap.size w w') : BindsAt w' w'.heap.size A n bs := (h.below hb).more hb.size
theorem BindsAt.drew (h : BindsAt w B A n bs) : BindsAt w.drew B A n bs := h.keep fun _ _ => rfl
theorem BindsAt.nil_ : BindsAt w B A 0 [] := ⟨rfl, fun h => absurd h (by omega), fun _ h => absurd h (by omega)⟩
end

def valAt (vs : List Value) (i : Nat) : Value := vs.getD i (.slice none 0 0)
def bindCells (bs : List Bd) (vs : List Value) : List Value := (bs.zip vs).flatMap fun p => [.int .i64 p.1.v, p.2]
theorem bindCells_nil : bindCells [] [] = [] := rfl
theorem bindCells_cons (b : Bd) (bs : List Bd) (u : Value) (vs : List Value) : bindCells (b :: bs) (u :: vs) = .int .i64 b.v :: u :: bindCells bs vs := by unfold bindCells; simp
theorem bindCells_length : ∀ (bs : List Bd) (vs : List Value), vs.length = bs.length → (bindCells bs vs).length = bs.length * 2
  | [], [], _ => rfl
  | b :: bs, u :: vs, h => by
    rw [bindCells_cons, List.length_cons, List.length_cons, List.length_cons, bindCells_length bs vs (by simpa using h)]; omega
theorem bindCells_snoc : ∀ (bs : List Bd) (vs : List Value) (b : Bd) (u : Value), vs.length = bs.length → bindCells (bs ++ [b]) (vs ++ [u]) = bindCells bs vs ++ [.int .i64 b.v, u]
  | [], [], b, u, _ => rfl
  | a :: bs, x :: vs, b, u, h => by
    rw [List.cons_append, List.cons_append, bindCells_cons, bindCells_cons, bindCells_snoc bs vs b u (by simpa using h)]; rfl
theorem bindCells_get : ∀ (bs : List Bd) (vs : List Value), vs.length = bs.length → ∀ i, i < bs.length → (bindCells bs vs)[i * 2]? = some (.int .i64 (bdAt bs i).v) ∧ (bindCells bs vs)[i * 2 + 1]? = some (valAt vs i)
  | b :: bs, u :: vs, h, 0, _ => by rw [bindCells_cons]; exact ⟨rfl, rfl⟩
  | b :: bs, u :: vs, h, i + 1, hi => by
    rw [bindCells_cons]
    have := bindCells_get bs vs (by simpa using h) i (by simpa using hi)
    have e : (i + 1) * 2 = i * 2 + 1 + 1 := by omega
    rw [e, List.getElem?_cons_succ, List.getElem?_cons_succ, List.getElem?_cons_succ, List.getElem?_cons_succ]
    exact this
theorem bdAt_left {bs : List Bd} {b : Bd} {i : Nat} (h : i < bs.length) : bdAt (bs ++ [b]) i = bdAt bs i := by
  unfold bdAt; rw [List.getD_eq_getElem?_getD, List.getD_eq_getElem?_getD, List.getElem?_append_left h]
theorem bdAt_right {bs : List Bd} {b : Bd} : bdAt (bs ++ [b]) bs.length = b := by unfold bdAt; simp
theorem valAt_left {vs : List Value} {u : Value} {i : Nat} (h : i < vs.length) : valAt (vs ++ [u]) i = valAt vs i := by
  unfold valAt; rw [List.getD_eq_getElem?_getD, List.getD_eq_getElem?_getD, List.getElem?_append_left h]
theorem valAt_right {vs : List Value} {u : Value} : valAt (vs ++ [u]) vs.length = u := by unfold valAt; simp

/-- The value is a row of these binds, all of it in blocks from base on (or nil). -/
def OwnB (w : World) (base : Nat) (v : Value) (bs : List Bd) : Prop :=
  ∃ vs : List Value, vs.length = bs.length ∧ w.ownsRow base 41 2 v bs.length (bindCells bs vs) ∧ ∀ i, i < bs.length → OwnI w base (valAt vs i) (bdAt bs i).t
def BindsPost (bs : List Bd) (E : Int) (w : World) (e : Ending) (w' : World) : Prop :=
  ∃ v, e = .returned (.tuple #[v, .int .i64 E]) ∧ OwnB w' w.heap.size v bs ∧ Below w.heap.size w w'
def BindsRet (bs : List Bd) (w : World) (e : Ending) (w' : World) : Prop :=
  ∃ v, e = .returned v ∧ OwnB w' w.heap.size v bs ∧ Below w.heap.size w w'
theorem bind_info : (Try.prog.info? 41).map (fun i => (i.zero, i.size, i.bytes)) = some (some (.agg #[.int .i64 0, .slice none 0 0]), 2, 32) := by kernel_rfl
section
variable {w w' : World} {base base' : Nat} {v u : Value} {bs cs : List Bd} {xs : List Int}
theorem owns_on {e : TypeId} {size n : Nat} {ys : List Value} (h : w.ownsRow base e size v n ys) (hb : Below w.heap.size w w') : w'.ownsRow base e size v n ys := by
  obtain ⟨h1, h2⟩ := h
  refine ⟨h1, ?_⟩
  rcases h2 with h2 | ⟨g, cap, cur, hv, hg, hc, r⟩
  · exact .inl h2
  · have hlt : g < w.heap.size := (Array.getElem?_eq_some_iff.1 hc).1
    exact .inr ⟨g, cap, cur, hv, hg, by rw [hb.block g hlt]; exact hc, r⟩
theorem OwnB.nil_ : OwnB w base (.slice none 0 0) [] := ⟨[], rfl, ⟨rfl, .inl ⟨rfl, rfl⟩⟩, fun i hi => absurd hi (by simp)⟩
theorem OwnB.lower (h : OwnB w base v bs) (hb : base' ≤ base) : OwnB w base' v bs := by
  obtain ⟨vs, h1, h2, h3⟩ := h
  exact ⟨vs, h1, own_base h2 hb, fun i hi => (h3 i hi).lower hb⟩
theorem OwnB.cast (h : OwnB w base v bs) (e : bs = cs) : OwnB w base v cs := e ▸ h
theorem OwnB.on (h : OwnB w base v bs) (hb : Below w.heap.size w w') : OwnB w' base v bs := by
  obtain ⟨vs, h1, h2, h3⟩ := h
  exact ⟨vs, h1, owns_on h2 hb, fun i hi => (h3 i hi).on hb⟩
theorem OwnB.shape (h : OwnB w base v bs) : (v = .slice none 0 0 ∧ bs = []) ∨ ∃ g cap, v = .slice (some ⟨g, 0, none⟩) bs.length cap ∧ base ≤ g ∧ g < w.heap.size ∧ bs.length ≤ cap := by
  obtain ⟨vs, h1, h2, h3⟩ := h
  rcases h2.2 with ⟨h1, h2⟩ | ⟨g, cap, cur, hv, hg, hc, hn, _⟩
  · exact .inl ⟨h1, List.length_eq_zero_iff.1 h2⟩
  · exact .inr ⟨g, cap, hv, hg, (Array.getElem?_eq_some_iff.1 hc).1, hn⟩
theorem OwnB.bindsAt (h : OwnB w base v bs) (hf : ∀ i, i < bs.length → (bdAt bs i).t.length * 8 ≤ 140737488351232) : ∃ A cap, v = .slice A bs.length cap ∧ bs.length ≤ cap ∧ BindsAt w w.heap.size A bs.length bs := by
  have hs := h.shape
  obtain ⟨vs, h1, h2, h3⟩ := h
  rcases hs with ⟨rfl, rfl⟩ | ⟨g, cap, rfl, hg, hlt, hn⟩
  · exact ⟨_, _, rfl, Nat.le_refl _, BindsAt.nil_⟩
  · refine ⟨_, _, rfl, hn, rfl, fun hp => ⟨g, 0, rfl, hlt, fun i hi => ?_⟩, hf⟩
    obtain ⟨d0, d1⟩ := bindCells_get bs vs h1 i hi
    have c0 := h2.cellAt (i * 2) (by omega)
    have c1 := h2.cellAt (i * 2 + 1) (by omega)
    rw [d0] at c0
    rw [d1] at c1
    obtain ⟨A', c', e, hc', hi'⟩ := (h3 i hi).intsAt
    rw [e] at c1
    rw [Nat.zero_add]
    exact ⟨c0, A', c', c1, hc', hi'⟩
/-- A row of integers stands while another row, of another kind, grows. -/
theorem OwnI.grown (h : OwnI w base u xs) {e : TypeId} {size n : Nat} {ys : List Value} (hv : w.ownsRow base' e size v n ys) (he : e ≠ 3) (hg : w.grownBy w' v.ownBlock) : OwnI w' base u xs := by
  obtain ⟨h1, h2⟩ := h
  refine ⟨h1, ?_⟩
  rcases h2 with h2 | ⟨g, cap, cur, hu, hb, hc, r⟩
  · exact .inl h2
  · have hlt : g < w.heap.size := (Array.getElem?_eq_some_iff.1 hc).1
    refine .inr ⟨g, cap, cur, hu, hb, ?_, r⟩
    rw [hg.block g hlt ?_]
    · exact hc
    · intro hk
      rcases hv.2 with ⟨rfl, _⟩ | ⟨g', cap', cur', rfl, _, hc', _⟩
      · simp [Value.ownBlock] at hk
      · simp only [Value.ownBlock, Option.some.injEq] at hk
        subst hk
        rw [hc] at hc'
        injection hc' with hc'
        injection hc' with _ q
        exact he q.symm
/-- 'x = append(x, b)' of binds, x and b's term made by the call. -/
theorem app_bind_op {o : Oper} {a : Act} {K : Act → World → Prop} {Q : Exit → Act → World → Prop} (s x : Operand)
    (ho : o.op = .call { callee := .builtin .append, args := #[s, x], argTypes := #[25, 25] })
    (base : Nat) (v : Value) (bs : List Bd) (y : Int) (t : List Int) (u : Value) (hs : a.eval s = v) (hown : OwnB w base v bs) (hu : OwnI w base u t) (hx : a.eval x = .slice (some ⟨w.heap.size, 0, none⟩) 1 1)
    (hlen : bs.length + 1 ≤ 4398046511104) (hbase : base ≤ w.heap.size)
    (h : ∀ v' w', OwnB w' base v' (bs ++ [⟨y, t⟩]) → Below base w w' → K (a.put o.dst v') w') : o.wp Try.prog a (w.alloc (.cells #[.int .i64 y, u] 41)) K Q := by
  obtain ⟨i0, hi0, hz0, hz1, hz2⟩ := info_parts bind_info
  have hsh := hown.shape
  obtain ⟨vs, k1, k2, k3⟩ := hown
  have k2' := World.ownsRow.alloc k2 (.cells #[.int .i64 y, u] 41)
  have hu1 : u.oneCell' = true := by rcases hu.shape with ⟨rfl, _⟩ | ⟨g, cap, rfl, _⟩ <;> rfl
  refine wp_append_own _ s x 25 ho base 41 i0 _ 2 32 Try.underlying25 hi0 hz0 hz1 hz2 rfl (by omega) v bs.length (bindCells bs vs) hs k2' ⟨w.heap.size, 0, none⟩ 1 1 [.int .i64 y, u] hx rfl
    (World.news_of_block (cs := #[.int .i64 y, u]) (t := 41) (fr := (0, 0)) (heap_alloc_new w _)) (by simp [hu1]; rfl) (by unfold maxLen; omega) (by omega) (by simp; omega) ?_
  intro v' w' h1 h2 _
  have hb : Below base (w.alloc (.cells #[.int .i64 y, u] 41)) w' := (Below.refl base _).grown h2 (by simp; omega) (fun k hk => by
    rcases hsh with ⟨rfl, _⟩ | ⟨g, cap, rfl, hg, _⟩
    · simp [Value.ownBlock] at hk
    · simp [Value.ownBlock] at hk; omega)
  refine h v' w' ⟨vs ++ [u], by simp [k1], ?_, fun i hi => ?_⟩ (below_un_new hb hbase)
  · rw [bindCells_snoc bs vs _ u k1]
    simpa using h1
  · have hne : (41 : TypeId) ≠ 3 := by decide
    by_cases e : i = bs.length
    · subst e
      rw [bdAt_right, ← k1, valAt_right]
      exact (hu.alloc _).grown k2' hne h2
    · have hi' : i < bs.length := by simp at hi; omega
      rw [bdAt_left hi', valAt_left (by omega)]
      exact ((k3 i hi').alloc _).grown k2' hne h2
theorem app_bind1 {ops : Array Oper} {rest : List Oper} {o : Oper} {a : Act} {Q : Exit → Act → World → Prop} (hgd : o.guard = none) (s x : Operand)
    (ho : o.op = .call { callee := .builtin .append, args := #[s, x], argTypes := #[25, 25] })
    (base : Nat) (v : Value) (bs : List Bd) (y : Int) (t : List Int) (u : Value) (hs : a.eval s = v) (hown : OwnB w base v bs) (hu : OwnI w base u t) (hx : a.eval x = .slice (some ⟨w.heap.size, 0, none⟩) 1 1)
    (hlen : bs.length + 1 ≤ 4398046511104) (hbase : base ≤ w.heap.size)
    (h : ∀ v' w', OwnB w' base v' (bs ++ [⟨y, t⟩]) → Below base w w' → wpList Try.prog ops Q rest (a.put o.dst v') w') : wpList Try.prog ops Q (o :: rest) a (w.alloc (.cells #[.int .i64 y, u] 41)) :=
  wpList_plain hgd fun _ hK => app_bind_op s x ho base v bs y t u hs hown hu hx hlen hbase fun v' w' h1 h2 => hK _ _ (h v' w' h1 h2)
theorem app_bind_step {ops : Array Oper} {o : Oper} {a : Act} {K : Act → World → Prop} {Q : Exit → Act → World → Prop} {E : Prop} (hgd : o.guard = none) (s x : Operand)
    (ho : o.op = .call { callee := .builtin .append, args := #[s, x], argTypes := #[25, 25] })
    (base : Nat) (v : Value) (bs : List Bd) (y : Int) (t : List Int) (u : Value) (hs : a.eval s = v) (hown : OwnB w base v bs) (hu : OwnI w base u t) (hx : a.eval x = .slice (some ⟨w.heap.size, 0, none⟩) 1 1)
    (hlen : bs.length + 1 ≤ 4398046511104) (hbase : base ≤ w.heap.size)
    (h : ∀ v' w', OwnB w' base v' (bs ++ [⟨y, t⟩]) → Below base w w' → K (a.put o.dst v') w') : if Region.wanted o (yielded ops a.tmps) = true then Oper.wp Try.prog o a (w.alloc (.cells #[.int .i64 y, u] 41)) K Q else E := by
  have hw : Region.wanted o (yielded ops a.tmps) = true := by simp [Region.wanted, hgd]
  rw [if_pos hw]
  exact app_bind_op s x ho base v bs y t u hs hown hu hx hlen hbase h

/-- Rows of integers from base on may be written over: they are rows of as many integers still; nothing else has turned. -/
structure Spoilt (base : Nat) (w w' : World) : Prop where
  bel : Below base w w'
  ints : ∀ b v n, (∃ xs : List Int, xs.length = n ∧ OwnI w b v xs) → ∃ xs : List Int, xs.length = n ∧ OwnI w' b v xs
  rows : ∀ b (e : TypeId) size v n ys, e ≠ 3 → w.ownsRow b e size v n ys → w'.ownsRow b e size v n ys
theorem Spoilt.refl (base : Nat) (w : World) : Spoilt base w w := ⟨Below.refl _ _, fun _ _ _ h => h, fun _ _ _ _ _ _ _ h => h⟩
theorem Spoilt.trans {w1 w2 w3 : World} (h : Spoilt base w1 w2) (k : Spoilt base w2 w3) : Spoilt base w1 w3 :=
  ⟨h.bel.trans k.bel, fun b v n q => k.ints b v n (h.ints b v n q), fun b e s v n ys he q => k.rows b e s v n ys he (h.rows b e s v n ys he q)⟩
theorem Spoilt.set {g n cap i : Nat} (h : OwnI w base (.slice (some ⟨g, 0, none⟩) n cap) xs) (hg : base ≤ g) (z : Int) : Spoilt base w (w.setCell ⟨g, i, none⟩ (.int .i64 z)) := by
  have hblk : ∃ cur, w.heap[g]? = some (.cells cur 3 (0, 0)) := by
    rcases h.2 with ⟨h1, _⟩ | ⟨g', cap', cur, hv, _, hc, _⟩
    · cases h1
    · injection hv with q1
      injection q1 with q1
      injection q1 with q1
      subst q1
      exact ⟨cur, hc⟩
  obtain ⟨cur, hcur⟩ := hblk
  have other : ∀ b (e : TypeId) size v n ys, e ≠ 3 → w.ownsRow b e size v n ys → (w.setCell ⟨g, i, none⟩ (.int .i64 z)).ownsRow b e size v n ys := by
    intro b e size v n ys he hv
    obtain ⟨q1, q2⟩ := hv
    refine ⟨q1, ?_⟩
    rcases q2 with q2 | ⟨g', cap', cur', hv', hb', hc', r'⟩
    · exact .inl q2
    · refine .inr ⟨g', cap', cur', hv', hb', ?_, r'⟩
      rw [Below.heap_setCell _ _ _ _ (by
        rintro rfl
        rw [hcur] at hc'
        injection hc' with hc'
        injection hc' with _ q
        exact he q.symm)]
      exact hc'
  refine ⟨(Below.refl _ _).setCell hg _, fun b v n' ⟨ys, hl, hv⟩ => ?_, other⟩
  rcases hv.2 with ⟨rfl, h0⟩ | ⟨g', cap', cur', rfl, hb', hc', r'⟩
  · have : ys = [] := List.length_eq_zero_iff.1 h0
    subst this
    exact ⟨[], hl, OwnI.nil_⟩
  · by_cases e : g' = g
    · subst e
      have := (World.ownsRow.stored hv i (.int .i64 z)).1
      refine ⟨ys.set i z, by simp [hl], ?_⟩
      unfold OwnI
      have e2 : intCells (ys.set i z) = (intCells ys).set i (.int .i64 z) := by unfold intCells; rw [List.map_set]
      rw [e2, List.length_set]
      exact this
    · refine ⟨ys, hl, hv.1, .inr ⟨g', cap', cur', rfl, hb', ?_, r'⟩⟩
      rw [Below.heap_setCell _ _ _ _ e]
      exact hc'
end
end Go.Proofs.Ytlmpapdpmmkjnaa
