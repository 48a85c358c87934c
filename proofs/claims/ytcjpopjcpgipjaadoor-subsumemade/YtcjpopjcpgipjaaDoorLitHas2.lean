/-
  Words for memory: a row of literals that the call has made, whose atoms lie below it; an append in its place, and one that may grow.
  Contracts: lit.allMay, shape.SameLit, shape.HasLit and what it calls (its function literal, slices.IndexFunc, slices.ContainsFunc).
-/
import Derived.Test.YtcjpopjcpgipjaaDoorLitAll
import Derived.Test.YtcjpopjcpgipjaaDoorPlainCl
import Derived.Test.YtcjpopjcpgipjaaDoorRefLits
namespace Go.Proofs.YtcjpopjcpgipjaaDoor
open Go.RowKit Go.Deep
set_option linter.unusedSimpArgs false
set_option linter.unusedVariables false
set_option maxRecDepth 100000

/-- Two cells of a row stand for a literal; its atom lies below base. -/
def LCell (w : World) (base : Nat) (cur : Array Value) (i : Nat) (p : Lt) : Prop :=
  cur[i * 2]? = some (.bool p.neg) ∧ ∃ A c, cur[i * 2 + 1]? = some (.slice A p.atom.length c) ∧ LitAt w base A p.atom.length c p
/-- Block g, of cap literals, begins with those of ls. -/
def GBlk (w : World) (base g cap : Nat) (ls : List Lt) : Prop :=
  ∃ cur, w.heap[g]? = some (.cells cur 75 (0, 0)) ∧ base ≤ g ∧ ls.length ≤ cap ∧ cap ≤ maxLen ∧ cur.size = cap * 2 ∧ ∀ i, i < ls.length → LCell w base cur i (ltAt ls i)
def OwnG (w : World) (base : Nat) (v : Value) (ls : List Lt) : Prop := (v = .slice none 0 0 ∧ ls = []) ∨ ∃ g cap, v = .slice (some ⟨g, 0, none⟩) ls.length cap ∧ GBlk w base g cap ls
section
variable {w w' : World} {base g cap : Nat} {v u : Value} {ls gs : List Lt} {p : Lt} {cur : Array Value} {i k : Nat}
theorem LCell.on (h : LCell w base cur i p) (hb : Below base w w') : LCell w' base cur i p := by
  obtain ⟨h1, A, c, h2, h3⟩ := h
  exact ⟨h1, A, c, h2, h3.below hb⟩
theorem GBlk.lt (h : GBlk w base g cap ls) : g < w.heap.size := by
  obtain ⟨cur, h1, _⟩ := h
  exact (Array.getElem?_eq_some_iff.1 h1).1
theorem GBlk.le (h : GBlk w base g cap ls) : base ≤ g := by obtain ⟨cur, _, h2, _⟩ := h; exact h2
theorem GBlk.room (h : GBlk w base g cap ls) : ls.length ≤ cap := by obtain ⟨cur, _, _, h2, _⟩ := h; exact h2
theorem GBlk.keep (h : GBlk w base g cap ls) (hb : Below base w w') (hg : w'.heap[g]? = w.heap[g]?) : GBlk w' base g cap ls := by
  obtain ⟨cur, h1, h2, h3, h4, h5, h6⟩ := h
  exact ⟨cur, by rw [hg]; exact h1, h2, h3, h4, h5, fun i hi => (h6 i hi).on hb⟩
theorem GBlk.on (h : GBlk w base g cap ls) (hb : Below w.heap.size w w') : GBlk w' base g cap ls :=
  h.keep (hb.mono (by have := h.lt; have := h.le; omega)) (hb.block g h.lt)
theorem GBlk.cast (h : GBlk w base g cap ls) (e : ls = gs) : GBlk w base g cap gs := e ▸ h
theorem OwnG.on (h : OwnG w base v ls) (hb : Below w.heap.size w w') : OwnG w' base v ls := by
  rcases h with h | ⟨g, cap, e, h⟩
  · exact .inl h
  · exact .inr ⟨g, cap, e, h.on hb⟩
theorem OwnG.cast (h : OwnG w base v ls) (e : ls = gs) : OwnG w base v gs := e ▸ h
theorem OwnG.nil_ : OwnG w base (.slice none 0 0) [] := .inl ⟨rfl, rfl⟩
/-- The front of it. -/
theorem GBlk.front (h : GBlk w base g cap ls) (hk : k ≤ ls.length) : OwnG w base (.slice (some ⟨g, 0, none⟩) k cap) (ls.take k) := by
  obtain ⟨cur, h1, h2, h3, h4, h5, h6⟩ := h
  have hl : (ls.take k).length = k := by rw [List.length_take]; omega
  refine .inr ⟨g, cap, by rw [hl], cur, h1, h2, by omega, h4, h5, fun i hi => ?_⟩
  have := h6 i (by omega)
  have e : ltAt (ls.take k) i = ltAt ls i := by
    unfold ltAt
    rw [List.getD_eq_getElem?_getD, List.getD_eq_getElem?_getD, List.getElem?_take_of_lt (by omega)]
  rw [e]
  exact this
theorem GBlk.cells (h : GBlk w base g cap ls) (hi : i < ls.length) : ∃ A c, w.cell? ⟨g, i * 2, none⟩ = some (.bool (ltAt ls i).neg) ∧ w.cell? ⟨g, i * 2 + 1, none⟩ = some (.slice A (ltAt ls i).atom.length c) ∧ LitAt w base A (ltAt ls i).atom.length c (ltAt ls i) := by
  obtain ⟨cur, h1, h2, h3, h4, h5, h6⟩ := h
  obtain ⟨d0, A, c, d1, d2⟩ := h6 i hi
  refine ⟨A, c, ?_, ?_, d2⟩
  · simp only [World.cell?, h1]; exact d0
  · simp only [World.cell?, h1]; exact d1
theorem OwnG.litsAt (h : OwnG w base v ls) (hb : base ≤ w.heap.size) : ∃ A cap, v = .slice A ls.length cap ∧ ls.length ≤ cap ∧ LitsAt w w.heap.size A ls.length ls := by
  rcases h with ⟨rfl, rfl⟩ | ⟨g, cap, rfl, h⟩
  · exact ⟨_, _, rfl, Nat.le_refl _, LitsAt.nil_⟩
  · refine ⟨_, _, rfl, h.room, rfl, fun _ => ⟨g, 0, rfl, h.lt, fun i hi => ?_⟩, fun i hi => ?_⟩
    · obtain ⟨A, c, d0, d1, d2⟩ := h.cells hi
      rw [Nat.zero_add]
      exact ⟨d0, A, c, d1, d2.cap, d2.at_.more hb⟩
    · obtain ⟨A, c, d0, d1, d2⟩ := h.cells hi
      exact d2.fit
theorem splice2_get (xs : List Value) (m : Nat) (a b : Value) (h : m + 2 ≤ xs.length) (j : Nat) : (xs.take m ++ [a, b] ++ xs.drop (m + 2))[j]? = if j = m then some a else if j = m + 1 then some b else xs[j]? := by
  have hm : (xs.take m).length = m := by rw [List.length_take]; omega
  rw [List.append_assoc]
  by_cases h1 : j < m
  · rw [List.getElem?_append_left (by omega), List.getElem?_take_of_lt h1, if_neg (by omega), if_neg (by omega)]
  · rw [List.getElem?_append_right (by omega), hm]
    by_cases h2 : j = m
    · subst h2; simp
    · rw [if_neg h2]
      by_cases h3 : j = m + 1
      · subst h3
        rw [if_pos rfl]
        have e : m + 1 - m = 1 := by omega
        rw [e]; rfl
      · rw [if_neg h3]
        obtain ⟨t, rfl⟩ : ∃ t, j = m + 2 + t := ⟨j - (m + 2), by omega⟩
        have e : m + 2 + t - m = t + 2 := by omega
        rw [e, List.getElem?_append_right (by simp), List.getElem?_drop]
        simp
/-- The front of a row with room: 'kept = append(kept, l)' writes in its place. -/
theorem app_in_place {ops : Array Oper} {rest : List Oper} {o : Oper} {a : Act} {Q : Exit → Act → World → Prop} (hgd : o.guard = none) (s x : Operand)
    (ho : o.op = .call { callee := .builtin .append, args := #[s, x], argTypes := #[23, 23] })
    (base g cap k : Nat) (ls : List Lt) (p : Lt) (A : Option Addr) (c : Nat) (hs : a.eval s = .slice (some ⟨g, 0, none⟩) k cap) (hown : GBlk w base g cap ls) (hk : k < ls.length) (hu : LitAt w base A p.atom.length c p)
    (hx : a.eval x = .slice (some ⟨w.heap.size, 0, none⟩) 1 1)
    (h : ∀ w', GBlk w' base g cap (ls.set k p) → Below base w w' → w.heap.size ≤ w'.heap.size → (∀ j, j < w.heap.size → j ≠ g → w'.heap[j]? = w.heap[j]?) → wpList Tryd.prog ops Q rest (a.put o.dst (.slice (some ⟨g, 0, none⟩) (k + 1) cap)) w') :
    wpList Tryd.prog ops Q (o :: rest) a (w.alloc (.cells #[.bool p.neg, .slice A p.atom.length c] 75)) := by
  obtain ⟨i0, hi0, hz0, hz1, hz2⟩ := info_parts lit_info
  have hlt := hown.lt
  have hle := hown.le
  have hroom := hown.room
  have hal := hown.on (below_new w (.cells #[.bool p.neg, .slice A p.atom.length c] 75))
  obtain ⟨W, hW⟩ : ∃ W, W = w.alloc (.cells #[.bool p.neg, .slice A p.atom.length c] 75) := ⟨_, rfl⟩
  have hWs : W.heap.size = w.heap.size + 1 := by rw [hW]; simp
  have hbW : Below w.heap.size w W := by rw [hW]; exact below_new w _
  have hnews : ∀ j u, [Value.bool p.neg, .slice A p.atom.length c][j]? = some u → W.cell? ((⟨w.heap.size, 0, none⟩ : Addr).add j) = some u := by
    rw [hW]; exact World.news_of_block (cs := #[.bool p.neg, .slice A p.atom.length c]) (t := 75) (fr := (0, 0)) (heap_alloc_new w _)
  rw [← hW] at hal ⊢
  obtain ⟨cur, h1, h2, h3, h4, h5, h6⟩ := hal
  have hr := run_append_room (P := Tryd.prog) W 23 o.type 75 i0 Tryd.underlying23 hi0 g k cap cur h1 ⟨w.heap.size, 0, none⟩ 1 1 [.bool p.neg, .slice A p.atom.length c] (by rw [hz1]; rfl) hnews (by simp; exact ⟨rfl, rfl⟩) (by omega) (by rw [hz1, h5]; simp; omega)
  rw [hz1] at hr
  obtain ⟨cur', hc'⟩ : ∃ cur' : Array Value, cur' = (cur.toList.take (k * 2) ++ [Value.bool p.neg, .slice A p.atom.length c] ++ cur.toList.drop (k * 2 + 2)).toArray := ⟨_, rfl⟩
  have hget : ∀ j : Nat, cur'[j]? = if j = k * 2 then some (.bool p.neg) else if j = k * 2 + 1 then some (.slice A p.atom.length c) else cur[j]? := by
    intro j
    rw [hc', List.getElem?_toArray, splice2_get _ _ _ _ (by rw [Array.length_toList, h5]; omega), Array.getElem?_toList]
  have hr' : (Builtin.append_ #[23, 23] o.type #[.slice (some ⟨g, 0, none⟩) k cap, .slice (some ⟨w.heap.size, 0, none⟩) 1 1]).run Tryd.prog W = .ok (.slice (some ⟨g, 0, none⟩) (k + 1) cap) (W.setRow g cur') := by rw [hc']; exact hr
  have hoth : ∀ j, j ≠ g → (W.setRow g cur').heap[j]? = W.heap[j]? := fun j hj => setRow_other W g j cur' hj
  have hbel : Below base W (W.setRow g cur') := ⟨rfl, rfl, rfl, by simp, fun j hj => hoth j (by omega)⟩
  have hb' : Below base w (W.setRow g cur') := (hbW.mono (by omega)).trans hbel
  refine wpList_plain hgd fun K hK => ?_
  unfold Oper.wp execOp
  simp only [ho, resolve, invoke, builtin, Sem.run_bind, Sem.run_pure, Result.andThen_ok, List.map_toArray, List.map_cons, List.map_nil, hs, hx, hr']
  refine hK _ _ (h _ ⟨cur', setRow_heap W g cur cur' _ _ h1, h2, by rw [List.length_set]; exact h3, h4, ?_, fun i hi => ?_⟩ hb' (by simp; omega) (fun j hj hne => ?_))
  · rw [hc']; simp only [List.size_toArray, List.length_append, List.length_take, List.length_drop, Array.length_toList, List.length_cons, List.length_nil]; omega
  · rw [List.length_set] at hi
    by_cases e : i = k
    · subst e
      have e1 : ltAt (ls.set i p) i = p := by unfold ltAt; rw [List.getD_eq_getElem?_getD, List.getElem?_set_self hk]; rfl
      rw [e1]
      exact ⟨by rw [hget, if_pos rfl], A, c, by rw [hget, if_neg (by omega), if_pos rfl], hu.below hb'⟩
    · have e1 : ltAt (ls.set k p) i = ltAt ls i := by
        unfold ltAt; rw [List.getD_eq_getElem?_getD, List.getD_eq_getElem?_getD, List.getElem?_set_ne (fun x => e x.symm)]
      rw [e1]
      obtain ⟨q0, A', c', q1, q2⟩ := h6 i hi
      exact ⟨by rw [hget, if_neg (by omega), if_neg (by omega)]; exact q0, A', c', by rw [hget, if_neg (by omega), if_neg (by omega)]; exact q1, q2.below hbel⟩
  · rw [hoth j hne]
    exact hbW.block j hj
/-- 'append(kept, l)', whether it grows or not. -/
theorem app_grt {ops : Array Oper} {rest : List Oper} {o : Oper} {a : Act} {Q : Exit → Act → World → Prop} (hgd : o.guard = none) (s x : Operand)
    (ho : o.op = .call { callee := .builtin .append, args := #[s, x], argTypes := #[23, 23] })
    (base : Nat) (v : Value) (ls : List Lt) (p : Lt) (A : Option Addr) (c : Nat) (hs : a.eval s = v) (hown : OwnG w base v ls) (hu : LitAt w base A p.atom.length c p)
    (hx : a.eval x = .slice (some ⟨w.heap.size, 0, none⟩) 1 1) (hlen : ls.length + 1 ≤ 4398046511104) (hbase : base ≤ w.heap.size)
    (h : ∀ v' w', OwnG w' base v' (ls ++ [p]) → Below base w w' → wpList Tryd.prog ops Q rest (a.put o.dst v') w') :
    wpList Tryd.prog ops Q (o :: rest) a (w.alloc (.cells #[.bool p.neg, .slice A p.atom.length c] 75)) := by
  obtain ⟨i0, hi0, hz0, hz1, hz2⟩ := info_parts lit_info
  have hal := hown.on (below_new w (.cells #[.bool p.neg, .slice A p.atom.length c] 75))
  have hrow : ∃ xs : List Value, (w.alloc (.cells #[.bool p.neg, .slice A p.atom.length c] 75)).ownsRow base 75 2 v ls.length xs ∧ ∀ i, i < ls.length → LCell w base xs.toArray i (ltAt ls i) := by
    rcases hown with ⟨rfl, rfl⟩ | ⟨g, cap, rfl, cur, h1, h2, h3, h4, h5, h6⟩
    · exact ⟨[], ⟨rfl, .inl ⟨rfl, rfl⟩⟩, fun i hi => absurd hi (by simp)⟩
    · refine ⟨cur.toList.take (ls.length * 2), ⟨?_, .inr ⟨g, cap, cur, rfl, h2, ?_, h3, h4, h5, rfl⟩⟩, fun i hi => ?_⟩
      · have e : cur.toList.length = cur.size := Array.length_toList
        rw [List.length_take, e, h5]; omega
      · rw [(below_new w _).block g (Array.getElem?_eq_some_iff.1 h1).1]; exact h1
      · obtain ⟨q0, A', c', q1, q2⟩ := h6 i hi
        exact ⟨by rw [List.getElem?_toArray, List.getElem?_take_of_lt (by omega), Array.getElem?_toList]; exact q0, A', c', by rw [List.getElem?_toArray, List.getElem?_take_of_lt (by omega), Array.getElem?_toList]; exact q1, q2⟩
  obtain ⟨xs, hro, hce⟩ := hrow
  refine wpList_append_own _ hgd s x 23 ho base 75 i0 _ 2 32 Tryd.underlying23 hi0 hz0 hz1 hz2 rfl (by omega) v ls.length xs hs hro ⟨w.heap.size, 0, none⟩ 1 1 [.bool p.neg, .slice A p.atom.length c] hx rfl
    (World.news_of_block (cs := #[.bool p.neg, .slice A p.atom.length c]) (t := 75) (fr := (0, 0)) (heap_alloc_new w _)) (by simp; exact ⟨rfl, rfl⟩) (by unfold maxLen; omega) (by omega) (by simp; omega) ?_
  intro v' w' h1 h2 _
  have hb : Below base (w.alloc (.cells #[.bool p.neg, .slice A p.atom.length c] 75)) w' := (Below.refl base _).grown h2 (by simp; omega) (fun k hk => (hro.lt k hk).1)
  have hb' := below_un_new hb hbase
  refine h v' w' ?_ hb'
  rcases h1.2 with ⟨_, h0⟩ | ⟨g', cap', cur', hv', hg', hc', hn', hm', hs', ht'⟩
  · omega
  · right
    have hxl := hro.1
    refine ⟨g', cap', by rw [hv', List.length_append]; rfl, cur', hc', hg', by rw [List.length_append]; exact hn', hm', hs', fun i hi => ?_⟩
    have hgt : ∀ j, j < (ls.length + 1) * 2 → cur'[j]? = (xs ++ [Value.bool p.neg, .slice A p.atom.length c])[j]? := by
      intro j hj
      rw [← ht', List.getElem?_take_of_lt hj, Array.getElem?_toList]
    rw [List.length_append] at hi
    simp only [List.length_cons, List.length_nil] at hi
    by_cases e : i = ls.length
    · subst e
      rw [ltAt_right]
      refine ⟨?_, A, c, ?_, hu.below hb'⟩
      · rw [hgt _ (by omega), List.getElem?_append_right (by omega), hxl, Nat.sub_self]; rfl
      · rw [hgt _ (by omega), List.getElem?_append_right (by omega), hxl]
        have e : ls.length * 2 + 1 - ls.length * 2 = 1 := by omega
        rw [e]; rfl
    · rw [ltAt_left (by omega)]
      obtain ⟨q0, A', c', q1, q2⟩ := hce i (by omega)
      rw [List.getElem?_toArray] at q0 q1
      exact ⟨by rw [hgt _ (by omega), List.getElem?_append_left (by omega)]; exact q0, A', c', by rw [hgt _ (by omega), List.getElem?_append_left (by omega)]; exact q1, q2.below hb'⟩
end
end Go.Proofs.YtcjpopjcpgipjaaDoor

namespace Go.Proofs.YtcjpopjcpgipjaaDoor
open Go.RowKit Go.Deep
set_option linter.unusedSimpArgs false
set_option linter.unusedVariables false
set_option maxRecDepth 100000

set_option maxHeartbeats 1000000 in
theorem sameLit_any (A1 A2 : Option Addr) (n1 c1 n2 c2 : Nat) (p q : Lt) (w : World) (h1 : LitAt w w.heap.size A1 n1 c1 p) (h2 : LitAt w w.heap.size A2 n2 c2 q) :
    Calls Tryd.prog 114 #[.agg #[.bool p.neg, .slice A1 n1 c1], .agg #[.bool q.neg, .slice A2 n2 c2]] w fun e w' => e = .returned (.bool (sameL p q)) ∧ Below w.heap.size w w' := by
  have H1 := Lib.hid h1
  have H2 := Lib.hid h2
  have HB0 := Lib.hid (below_new2 w (.cells #[.bool p.neg, .slice A1 n1 c1] 75) (.cells #[.bool q.neg, .slice A2 n2 c2] 75))
  clear h1 h2
  cases hs : (p.neg == q.neg)
  · have HE : Hid (sameL p q = false) := by show sameL p q = false; unfold sameL; rw [hs]; rfl
    go_enter Tryd.func114, Tryd.ntmps114
    go_wp2
    go_ret
    exact ⟨ret_b HE.out.symm, HB0.out⟩
  · have HE : Hid (sameL p q = sameI p.atom q.atom) := by show sameL p q = _; unfold sameL; rw [hs]; rfl
    go_enter Tryd.func114, Tryd.ntmps114
    go_wp2_with fail
    refine (equal_any A1 A2 n1 c1 n2 c2 _ _ p.atom q.atom _ (H1.out.on HB0.out).at_ (H2.out.on HB0.out).at_ H1.out.big H2.out.big).mono ?_
    rintro e w1 ⟨rfl, hb1⟩
    have HB1 := Lib.hid (HB0.out.trans (hb1.mono HB0.out.size))
    clear hb1
    go_wp2
    go_ret
    exact ⟨ret_b HE.out.symm, HB1.out⟩
set_option maxHeartbeats 1000000 in
theorem hasOne_any (A1 A2 : Option Addr) (n1 c1 n2 c2 B : Nat) (p q : Lt) (w : World) (h1 : LitAt w w.heap.size A1 n1 c1 p) (h2 : LitAt w w.heap.size A2 n2 c2 q) (hB : B < w.heap.size) (k0 : w.cell? ⟨B, 0, none⟩ = some (.bool p.neg)) (k1 : w.cell? ⟨B, 1, none⟩ = some (.slice A1 n1 c1)) :
    Calls Tryd.prog 113 #[.agg #[.bool q.neg, .slice A2 n2 c2], .pointer (some ⟨B, 0, none⟩)] w fun e w' => e = .returned (.bool (sameL p q)) ∧ Below w.heap.size w w' := by
  have H1 := Lib.hid h1
  have H2 := Lib.hid h2
  have hne : ¬ B = w.heap.size := by omega
  have q0 : (w.alloc (.cells #[.bool q.neg, .slice A2 n2 c2] 75)).cell? ⟨B, 0, none⟩ = some (.bool p.neg) := by rw [(below_new w _).cell (p := ⟨B, 0, none⟩) hB]; exact k0
  have q1 : (w.alloc (.cells #[.bool q.neg, .slice A2 n2 c2] 75)).cell? ⟨B, 1, none⟩ = some (.slice A1 n1 c1) := by rw [(below_new w _).cell (p := ⟨B, 1, none⟩) hB]; exact k1
  have HB0 := Lib.hid (below_new w (.cells #[.bool q.neg, .slice A2 n2 c2] 75))
  clear h1 h2
  go_enter Tryd.func113, Tryd.ntmps113
  go_wp2_with fail
  refine (sameLit_any A1 A2 n1 c1 n2 c2 p q _ (H1.out.on HB0.out) (H2.out.on HB0.out)).mono ?_
  rintro e w1 ⟨rfl, hb1⟩
  have HB1 := Lib.hid (HB0.out.trans (hb1.mono HB0.out.size))
  clear hb1
  go_wp2
  go_ret
  exact ⟨rfl, HB1.out⟩
def IdxPost (p : Lt) (ls : List Lt) (w : World) (e : Ending) (w' : World) : Prop := ∃ r : Int, e = .returned (.int .i64 r) ∧ decide (0 ≤ r) = hasL p ls ∧ Below w.heap.size w w'
set_option maxHeartbeats 1000000 in
theorem indexFunc_any (A A1 : Option Addr) (n c n1 c1 B : Nat) (p : Lt) (ls : List Lt) (w : World) (hl : LitsAt w w.heap.size A n ls) (hn : n ≤ 4398046511104) (h1 : LitAt w w.heap.size A1 n1 c1 p) (hB : B < w.heap.size) (k0 : w.cell? ⟨B, 0, none⟩ = some (.bool p.neg)) (k1 : w.cell? ⟨B, 1, none⟩ = some (.slice A1 n1 c1)) :
    Calls Tryd.prog 116 #[.slice A n c, .func (.func 113) #[] #[.pointer (some ⟨B, 0, none⟩)]] w (IdxPost p ls w) := by
  have HL := Lib.hid hl
  have HN := Lib.hid hl.len
  have H1 := Lib.hid h1
  have HK0 := Lib.hid k0
  have HK1 := Lib.hid k1
  clear hl h1 k0 k1
  go_enter Tryd.func116, Tryd.ntmps116
  go_wp2
  go_loopw [8] (fun j wr => ∃ k : Nat, j = .int .i64 k ∧ k ≤ n ∧ (∀ j, j < k → sameL p (ltAt ls j) = false) ∧ Below w.heap.size w wr) (fun j _ => n - (intOf j).toNat)
  case atStart => exact ⟨0, rfl, by omega, fun j hj => absurd hj (by omega), Below.refl _ _⟩
  case round =>
    obtain ⟨k, rfl, hk, hno, hbw⟩ := hrel
    have HBW := Lib.hid hbw
    have HNO := Lib.hid hno
    clear hbw hno
    by_cases hlt : k < n
    · obtain ⟨b, off, A2, c2, rfl, hb, d0, d1, hk1⟩ := (HL.out.on HBW.out).one hlt
      have HYES : Hid (sameL p (ltAt ls k) = true → hasL p ls = true) := fun q => hasL_yes (by rw [HN.out]; exact hlt) q
      have HNX : Hid (sameL p (ltAt ls k) = false → ∀ j, j < k + 1 → sameL p (ltAt ls j) = false) := by
        intro q j hj
        by_cases e : j = k
        · rw [e]; exact q
        · exact HNO.out j (by omega)
      obtain ⟨q, hq⟩ : ∃ q, q = ltAt ls k := ⟨_, rfl⟩
      rw [← hq] at d0 d1 hk1 HYES HNX
      have HK2 := Lib.hid hk1
      have hi0 : (0 : Int) ≤ (k : Int) := by omega
      have hi3 : (k : Int) < (n : Int) := by omega
      clear hk1 hq
      go_wp2_with fail
      refine (hasOne_any A1 A2 n1 c1 _ c2 B p q _ (H1.out.on HBW.out) HK2.out (by have := HBW.out.size; omega) (by rw [HBW.out.cell (p := ⟨B, 0, none⟩) hB]; exact HK0.out) (by rw [HBW.out.cell (p := ⟨B, 1, none⟩) hB]; exact HK1.out)).mono ?_
      rintro e w1 ⟨rfl, hb1⟩
      have HB1 := Lib.hid (HBW.out.trans (hb1.mono HBW.out.size))
      clear hb1
      cases hpb : sameL p q
      · have HX := Lib.hid (HNX.out hpb)
        clear hpb
        go_wp2
        go_roundw
        case rel => exact ⟨k + 1, by go_num, by omega, HX.out, HB1.out⟩
        case measure => simp [intOf]; omega
      · have HX := Lib.hid (HYES.out hpb)
        clear hpb
        go_wp2
        go_ret
        exact ⟨(k : Int), rfl, by rw [HX.out]; simp, HB1.out⟩
    · obtain rfl : k = n := by omega
      have HX : Hid (hasL p ls = false) := hasL_no fun j hj => HNO.out j (by rw [HN.out] at hj; exact hj)
      go_wp2
      go_ret
      exact ⟨-1, rfl, by rw [HX.out]; rfl, HBW.out⟩
set_option maxHeartbeats 1000000 in
theorem containsFunc_any (A A1 : Option Addr) (n c n1 c1 B : Nat) (p : Lt) (ls : List Lt) (w : World) (hl : LitsAt w w.heap.size A n ls) (hn : n ≤ 4398046511104) (h1 : LitAt w w.heap.size A1 n1 c1 p) (hB : B < w.heap.size) (k0 : w.cell? ⟨B, 0, none⟩ = some (.bool p.neg)) (k1 : w.cell? ⟨B, 1, none⟩ = some (.slice A1 n1 c1)) :
    Calls Tryd.prog 112 #[.slice A n c, .func (.func 113) #[] #[.pointer (some ⟨B, 0, none⟩)]] w fun e w' => e = .returned (.bool (hasL p ls)) ∧ Below w.heap.size w w' := by
  have HL := Lib.hid hl
  have H1 := Lib.hid h1
  have HK0 := Lib.hid k0
  have HK1 := Lib.hid k1
  clear hl h1 k0 k1
  go_enter Tryd.func112, Tryd.ntmps112
  go_wp2_with fail
  refine (indexFunc_any A A1 n c n1 c1 B p ls w HL.out hn H1.out hB HK0.out HK1.out).mono ?_
  rintro e w1 ⟨r, rfl, hr, hb1⟩
  have HR := Lib.hid hr
  have HB1 := Lib.hid hb1
  clear hr hb1
  go_wp2
  go_ret
  exact ⟨ret_b HR.out, HB1.out⟩
set_option maxHeartbeats 1000000 in
theorem has_any (A A1 : Option Addr) (n c n1 c1 : Nat) (p : Lt) (ls : List Lt) (w : World) (hl : LitsAt w w.heap.size A n ls) (hn : n ≤ 4398046511104) (h1 : LitAt w w.heap.size A1 n1 c1 p) :
    Calls Tryd.prog 98 #[.slice A n c, .agg #[.bool p.neg, .slice A1 n1 c1]] w fun e w' => e = .returned (.bool (hasL p ls)) ∧ Below w.heap.size w w' := by
  have HL := Lib.hid hl
  have H1 := Lib.hid h1
  have hb0 := below_new w (.cells #[.bool p.neg, .slice A1 n1 c1] 75)
  have HB0 := Lib.hid hb0
  clear hl h1 hb0
  go_enter Tryd.func98, Tryd.ntmps98
  go_wp2_with fail
  refine (containsFunc_any A A1 n c n1 c1 w.heap.size p ls _ (HL.out.on HB0.out) hn (H1.out.on HB0.out) (by simp) (by rw [World.cell?_alloc_new]; rfl) (by rw [World.cell?_alloc_new]; rfl)).mono ?_
  rintro e w1 ⟨rfl, hb1⟩
  have HB1 := Lib.hid (HB0.out.trans (hb1.mono HB0.out.size))
  clear hb1
  go_wp2
  go_ret
  exact ⟨rfl, HB1.out⟩

end Go.Proofs.YtcjpopjcpgipjaaDoor
