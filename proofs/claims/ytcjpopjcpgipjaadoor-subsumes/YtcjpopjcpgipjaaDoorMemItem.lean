/-
  Rows of the reference's items (what has to become what): their memory; contracts of quaereref8: items, tuples.
-/
import Derived.Test.YtcjpopjcpgipjaaDoorMemClause
import Derived.Test.YtcjpopjcpgipjaaDoorPlainSubs
import Derived.Deep.DeepCutAuto
namespace Go.Proofs.YtcjpopjcpgipjaaDoor
open Go.RowKit Go.Deep
set_option linter.unusedSimpArgs false
set_option linter.unusedVariables false
set_option maxRecDepth 100000

theorem item_info : (Tryd.prog.info? 129).map (fun i => (i.zero, i.size, i.bytes)) = some (some (.agg #[.bool false, .slice none 0 0]), 2, 32) := by kernel_rfl
/-- A row of items that the call made; their rows lie anywhere. -/
def OwnIt (w : World) (base : Nat) (v : Value) (ls : List Lt) (vs : List Value) : Prop := vs.length = ls.length ∧ w.ownsRow base 129 2 v ls.length (litCells ls vs)
/-- The items' rows. -/
def ItRd (w : World) (B : Nat) (ls : List Lt) (vs : List Value) : Prop := ∀ i, i < ls.length → ∃ A c, valAt vs i = .slice A (ltAt ls i).atom.length c ∧ (ltAt ls i).atom.length ≤ c ∧ IntsAt w B A (ltAt ls i).atom.length (ltAt ls i).atom
section
variable {w w' : World} {base base' B B' : Nat} {v : Value} {ls : List Lt} {vs : List Value}
theorem OwnIt.nil_ : OwnIt w base (.slice none 0 0) [] [] := ⟨rfl, rfl, .inl ⟨rfl, rfl⟩⟩
theorem OwnIt.lower (h : OwnIt w base v ls vs) (hb : base' ≤ base) : OwnIt w base' v ls vs := ⟨h.1, own_base h.2 hb⟩
theorem OwnIt.on (h : OwnIt w base v ls vs) (hb : Below w.heap.size w w') : OwnIt w' base v ls vs := ⟨h.1, owns_on h.2 hb⟩
theorem ItRd.below (h : ItRd w B ls vs) (hb : Below B w w') : ItRd w' B ls vs := fun i hi => by
  obtain ⟨A, c, e, h1, h2⟩ := h i hi
  exact ⟨A, c, e, h1, h2.below hb⟩
theorem ItRd.more (h : ItRd w B ls vs) (hB : B ≤ B') : ItRd w B' ls vs := fun i hi => by
  obtain ⟨A, c, e, h1, h2⟩ := h i hi
  exact ⟨A, c, e, h1, h2.more hB⟩
theorem ItRd.on (h : ItRd w w.heap.size ls vs) (hb : Below w.heap.size w w') : ItRd w' w'.heap.size ls vs := fun i hi => by
  obtain ⟨A, c, e, h1, h2⟩ := h i hi
  exact ⟨A, c, e, h1, h2.on hb⟩
theorem ItRd.nil_ : ItRd w B [] [] := fun i hi => absurd hi (by simp)
theorem ItRd.snoc (h : ItRd w B ls vs) (hl : vs.length = ls.length) {x : Bool} {t : List Int} {A : Option Addr} {c : Nat} (hc : t.length ≤ c) (hi : IntsAt w B A t.length t) : ItRd w B (ls ++ [⟨x, t⟩]) (vs ++ [.slice A t.length c]) := fun i hi' => by
  rw [List.length_append] at hi'
  by_cases q : i < ls.length
  · obtain ⟨A', c', e, h1, h2⟩ := h i q
    have e1 : ltAt (ls ++ [⟨x, t⟩]) i = ltAt ls i := by unfold ltAt; rw [List.getD_eq_getElem?_getD, List.getD_eq_getElem?_getD, List.getElem?_append_left q]
    rw [e1, valAt_lefts (by omega)]
    exact ⟨A', c', e, h1, h2⟩
  · have hi2 : i = ls.length := by simp at hi'; omega
    subst hi2
    have e1 : ltAt (ls ++ [⟨x, t⟩]) ls.length = ⟨x, t⟩ := by unfold ltAt; rw [List.getD_eq_getElem?_getD, List.getElem?_append_right (Nat.le_refl _), Nat.sub_self]; rfl
    rw [e1, valAt_rights (by omega), hl, Nat.sub_self]
    exact ⟨A, c, rfl, hc, hi⟩
theorem OwnIt.shape (h : OwnIt w base v ls vs) : (v = .slice none 0 0 ∧ ls = []) ∨ ∃ g cap, v = .slice (some ⟨g, 0, none⟩) ls.length cap ∧ base ≤ g ∧ g < w.heap.size ∧ ls.length ≤ cap := by
  rcases h.2.2 with ⟨h1, h2⟩ | ⟨g, cap, cur, hv, hg, hc, hn, _⟩
  · exact .inl ⟨h1, List.length_eq_zero_iff.1 h2⟩
  · exact .inr ⟨g, cap, hv, hg, (Array.getElem?_eq_some_iff.1 hc).1, hn⟩
/-- Such a row is one to read, as literals are. -/
theorem OwnIt.litsAt (h : OwnIt w base v ls vs) (hr : ItRd w w.heap.size ls vs) (hf : ∀ i, i < ls.length → (ltAt ls i).atom.length * 8 ≤ 140737488351232) : ∃ A cap, v = .slice A ls.length cap ∧ ls.length ≤ cap ∧ LitsAt w w.heap.size A ls.length ls := by
  rcases h.shape with ⟨rfl, rfl⟩ | ⟨g, cap, rfl, hg, hlt, hn⟩
  · exact ⟨_, _, rfl, Nat.le_refl _, LitsAt.nil_⟩
  · refine ⟨_, _, rfl, hn, rfl, fun hp => ⟨g, 0, rfl, hlt, fun i hi => ?_⟩, hf⟩
    obtain ⟨h1, h2⟩ := h
    obtain ⟨d0, d1⟩ := litCells_get ls vs h1 i hi
    have c0 := h2.cellAt (i * 2) (by omega)
    have c1 := h2.cellAt (i * 2 + 1) (by omega)
    rw [d0] at c0
    rw [d1] at c1
    obtain ⟨A', c', e, hc', hi'⟩ := hr i hi
    rw [e] at c1
    rw [Nat.zero_add]
    exact ⟨c0, A', c', c1, hc', hi'⟩
end
/-- 'x = append(x, y)' of items, x made by the call. -/
theorem app_it_op {w : World} {o : Oper} {a : Act} {K : Act → World → Prop} {Q : Exit → Act → World → Prop} (s x : Operand)
    (ho : o.op = .call { callee := .builtin .append, args := #[s, x], argTypes := #[100, 100] })
    (base : Nat) (v : Value) (ls : List Lt) (vs : List Value) (y : Bool) (t : List Int) (u : Value) (hs : a.eval s = v) (hown : OwnIt w base v ls vs) (hu : u.oneCell' = true) {N : Nat} (hx : a.eval x = .slice (some ⟨N, 0, none⟩) 1 1) (hN : w.heap.size = N)
    (hlen : ls.length + 1 ≤ 4398046511104) (hbase : base ≤ w.heap.size)
    (h : ∀ v' w', OwnIt w' base v' (ls ++ [⟨y, t⟩]) (vs ++ [u]) → Chg [129] base w w' → K (a.put o.dst v') w') : o.wp Tryd.prog a (w.alloc (.cells #[.bool y, u] 129)) K Q := by
  subst hN
  obtain ⟨i0, hi0, hz0, hz1, hz2⟩ := info_parts item_info
  obtain ⟨k1, k2⟩ := hown
  have k2' := World.ownsRow.alloc k2 (.cells #[.bool y, u] 129)
  refine wp_append_own _ s x 100 ho base 129 i0 _ 2 32 Tryd.underlying100 hi0 hz0 hz1 hz2 rfl (by omega) v ls.length (litCells ls vs) hs k2' ⟨w.heap.size, 0, none⟩ 1 1 [.bool y, u] hx rfl
    (World.news_of_block (cs := #[.bool y, u]) (t := 129) (fr := (0, 0)) (heap_alloc_new w _)) (by simp [hu]; rfl) (by unfold maxLen; omega) (by omega) (by simp; omega) ?_
  intro v' w' h1 h2 _
  refine h v' w' ⟨by simp [k1], ?_⟩ ((Chg.of_below (below_new w _) hbase).trans (Chg.grown h2 k2' (by simp; omega)))
  rw [litCells_snoc ls vs _ u k1]
  simpa using h1
theorem app_it {w : World} {ops : Array Oper} {rest : List Oper} {o : Oper} {a : Act} {Q : Exit → Act → World → Prop} (hgd : o.guard = none) (s x : Operand)
    (ho : o.op = .call { callee := .builtin .append, args := #[s, x], argTypes := #[100, 100] })
    (base : Nat) (v : Value) (ls : List Lt) (vs : List Value) (y : Bool) (t : List Int) (u : Value) (hs : a.eval s = v) (hown : OwnIt w base v ls vs) (hu : u.oneCell' = true) {N : Nat} (hx : a.eval x = .slice (some ⟨N, 0, none⟩) 1 1) (hN : w.heap.size = N)
    (hlen : ls.length + 1 ≤ 4398046511104) (hbase : base ≤ w.heap.size)
    (h : ∀ v' w', OwnIt w' base v' (ls ++ [⟨y, t⟩]) (vs ++ [u]) → Chg [129] base w w' → wpList Tryd.prog ops Q rest (a.put o.dst v') w') : wpList Tryd.prog ops Q (o :: rest) a (w.alloc (.cells #[.bool y, u] 129)) :=
  wpList_plain hgd fun _ hK => app_it_op s x ho base v ls vs y t u hs hown hu hx hN hlen hbase fun v' w' h1 h2 => hK _ _ (h v' w' h1 h2)
theorem app_it_step {w : World} {ops : Array Oper} {o : Oper} {a : Act} {K : Act → World → Prop} {Q : Exit → Act → World → Prop} {E : Prop} (hgd : o.guard = none) (s x : Operand)
    (ho : o.op = .call { callee := .builtin .append, args := #[s, x], argTypes := #[100, 100] })
    (base : Nat) (v : Value) (ls : List Lt) (vs : List Value) (y : Bool) (t : List Int) (u : Value) (hs : a.eval s = v) (hown : OwnIt w base v ls vs) (hu : u.oneCell' = true) {N : Nat} (hx : a.eval x = .slice (some ⟨N, 0, none⟩) 1 1) (hN : w.heap.size = N)
    (hlen : ls.length + 1 ≤ 4398046511104) (hbase : base ≤ w.heap.size)
    (h : ∀ v' w', OwnIt w' base v' (ls ++ [⟨y, t⟩]) (vs ++ [u]) → Chg [129] base w w' → K (a.put o.dst v') w') : if Region.wanted o (yielded ops a.tmps) = true then Oper.wp Tryd.prog o a (w.alloc (.cells #[.bool y, u] 129)) K Q else E := by
  have hw : Region.wanted o (yielded ops a.tmps) = true := by simp [Region.wanted, hgd]
  rw [if_pos hw]
  exact app_it_op s x ho base v ls vs y t u hs hown hu hx hN hlen hbase h
/-- What items and tuples tell. -/
def ItPost (B : Nat) (ls : List Lt) (w : World) (e : Ending) (w' : World) : Prop := ∃ v vs, e = .returned v ∧ OwnIt w' w.heap.size v ls vs ∧ ItRd w B ls vs ∧ Below w.heap.size w w'
theorem slice_one (A : Option Addr) (n c : Nat) : (Value.slice A n c).oneCell' = true := by simp [Value.oneCell']
set_option maxHeartbeats 4000000 in
theorem refTuples_any (A : Option Addr) (n c B : Nat) (ts : List (List Int)) (w : World) (h : TupsAt w B A n ts) (hB : B ≤ w.heap.size) (hn : n ≤ 1000) : Calls Tryd.prog 62 #[.slice A n c] w (ItPost B (ts.map mkT) w) := by
  have HT := Lib.hid h
  have HL := Lib.hid h.len
  clear h
  go_enter Tryd.func62, Tryd.ntmps62
  go_wp2_with fail
  go_loopw [3, 4] (fun q i wr => ∃ (k : Nat) (vs : List Value), i = .int .i64 k ∧ k ≤ n ∧ OwnIt wr w.heap.size q ((ts.take k).map mkT) vs ∧ ItRd w B ((ts.take k).map mkT) vs ∧ Below w.heap.size w wr) (fun _ i _ => n - (intOf i).toNat)
  case atStart => exact ⟨0, [], rfl, by omega, OwnIt.nil_, ItRd.nil_, Below.refl _ _⟩
  case round =>
    obtain ⟨k, vs, rfl, hk, ho, hr, hbw⟩ := hrel
    by_cases hlt : k < n
    · have hkl : k < ts.length := by rw [HL.out]; exact hlt
      obtain ⟨b, off, A3, c3, hA, hbB, d0', hri, -⟩ := HT.out.one hlt
      have hb : b < w.heap.size := Nat.lt_of_lt_of_le hbB hB
      have d0 : wr.cell? ⟨b, off + k, none⟩ = some (.slice A3 (rowOf ts k).length c3) := by rw [hbw.cell (p := ⟨b, off + k, none⟩) hb]; exact d0'
      clear d0' hb hbB
      have htk : ts.take (k + 1) = ts.take k ++ [rowOf ts k] := by rw [List.take_add_one, rowOf_get hkl]; rfl
      have HTK := Lib.hid htk
      obtain ⟨t, ht⟩ : ∃ t, t = rowOf ts k := ⟨_, rfl⟩
      rw [← ht] at d0 hri HTK
      subst hA
      have HO := Lib.hid ho
      have HR := Lib.hid hr
      have HBW := Lib.hid hbw
      have HRI := Lib.hid hri
      have hll : ((ts.take k).map mkT).length + 1 ≤ 4398046511104 := by rw [List.length_map, List.length_take]; omega
      have hi0 : (0 : Int) ≤ (k : Int) := by omega
      have hi3 : (k : Int) < (n : Int) := by omega
      have hsz := hbw.size
      clear ho hr hbw hri ht htk hkl
      go_wp2_with (refine app_it rfl (.tmp 11) (.tmp 17) rfl w.heap.size _ ((ts.take k).map mkT) vs false t _ rfl HO.out (slice_one _ _ _) rfl rfl hll hsz ?_
                   intro v' w' hown hc
                   have HO2 := Lib.hid hown
                   have HC2 := Lib.hid hc
                   clear hown hc)
      go_roundw
      case rel =>
        have e : (ts.take (k + 1)).map mkT = (ts.take k).map mkT ++ [⟨false, t⟩] := by rw [HTK.out, List.map_append]; rfl
        refine ⟨k + 1, vs ++ [.slice A3 t.length c3], by go_num, by omega, ?_, ?_, HBW.out.trans HC2.out.bel⟩
        · rw [e]; exact HO2.out
        · rw [e]; exact HR.out.snoc HO.out.1 HRI.out.cap HRI.out.at_
      case measure => simp [intOf]; omega
    · obtain rfl : k = n := by omega
      have HO := Lib.hid ho
      have HR := Lib.hid hr
      have HBW := Lib.hid hbw
      have e : ts.take k = ts := List.take_of_length_le (by rw [HL.out]; exact Nat.le_refl _)
      rw [e] at HO HR
      clear ho hr hbw e
      go_wp2
      go_ret
      exact ⟨_, vs, rfl, HO.out, HR.out, HBW.out⟩
set_option maxHeartbeats 4000000 in
theorem refItems_any (A : Option Addr) (n c B : Nat) (ls : List Lt) (w : World) (h : LitsAt w B A n ls) (hB : B ≤ w.heap.size) (hn : n ≤ 1000) : Calls Tryd.prog 61 #[.slice A n c] w (ItPost B ls w) := by
  have HT := Lib.hid h
  have HL := Lib.hid h.len
  clear h
  go_enter Tryd.func61, Tryd.ntmps61
  go_wp2_with fail
  go_loopw [3, 4] (fun q i wr => ∃ (k : Nat) (vs : List Value), i = .int .i64 k ∧ k ≤ n ∧ OwnIt wr w.heap.size q (ls.take k) vs ∧ ItRd w B (ls.take k) vs ∧ Below w.heap.size w wr) (fun _ i _ => n - (intOf i).toNat)
  case atStart => exact ⟨0, [], rfl, by omega, OwnIt.nil_, ItRd.nil_, Below.refl _ _⟩
  case round =>
    obtain ⟨k, vs, rfl, hk, ho, hr, hbw⟩ := hrel
    by_cases hlt : k < n
    · have hkl : k < ls.length := by rw [HL.out]; exact hlt
      obtain ⟨b, off, A3, c3, hA, hbB, d0', d1', hri⟩ := HT.out.one hlt
      have hb : b < w.heap.size := Nat.lt_of_lt_of_le hbB hB
      have d0 : wr.cell? ⟨b, off + k * 2, none⟩ = some (.bool (ltAt ls k).neg) := by rw [hbw.cell (p := ⟨b, off + k * 2, none⟩) hb]; exact d0'
      have d1 : wr.cell? ⟨b, off + k * 2 + 1, none⟩ = some (.slice A3 (ltAt ls k).atom.length c3) := by rw [hbw.cell (p := ⟨b, off + k * 2 + 1, none⟩) hb]; exact d1'
      have hblt : b < wr.heap.size := Nat.lt_of_lt_of_le hb hbw.size
      have HBB := Lib.hid hb
      clear d0' d1' hb hbB
      have htk : ls.take (k + 1) = ls.take k ++ [ltAt ls k] := by rw [List.take_add_one, ltAt_get hkl]; rfl
      have HTK := Lib.hid htk
      obtain ⟨p, hp⟩ : ∃ p, p = ltAt ls k := ⟨_, rfl⟩
      rw [← hp] at d0 d1 hri HTK
      obtain ⟨x, t⟩ := p
      dsimp only at d0 d1 hri
      subst hA
      have HO := Lib.hid ho
      have HR := Lib.hid hr
      have HBW := Lib.hid hbw
      have HRI := Lib.hid hri
      have hll : (ls.take k).length + 1 ≤ 4398046511104 := by rw [List.length_take]; omega
      have hi0 : (0 : Int) ≤ (k : Int) := by omega
      have hi3 : (k : Int) < (n : Int) := by omega
      have hsz := hbw.size
      clear ho hr hbw hri hp htk hkl
      go_wp2_with fail
      refine wp_region_held_drew (S := (fun w' => w'.cell? ⟨b, off + k * 2, none⟩ = some (.bool x) ∧ w'.cell? ⟨b, off + k * 2 + 1, none⟩ = some (.slice A3 t.length c3))) (by kernel_rfl) ⟨d0, d1⟩ (fun hHeld => ?_)
      have hd : Below wr.heap.size wr wr.drew := (Below.refl wr.heap.size wr).drew
      have ho1 := HO.out.on hd
      obtain ⟨w1, hw1⟩ : ∃ w1, w1 = wr.drew := ⟨_, rfl⟩
      rw [← hw1] at ho1
      have HO1 := Lib.hid ho1
      clear ho1
      have HB1 : Hid (Below w.heap.size w w1) := by rw [hw1]; exact HBW.out.trans (hd.mono hsz)
      have c0 : w1.cell? ⟨b, off + k * 2, none⟩ = some (.bool x) := by rw [hw1]; exact d0
      have c1 : w1.cell? ⟨b, off + k * 2 + 1, none⟩ = some (.slice A3 t.length c3) := by rw [hw1]; exact d1
      have hlt1 : b < w1.heap.size := by rw [hw1]; exact hblt
      rw [← hw1] at hHeld ⊢
      clear hd hw1 d0 d1
      refine takeH (i := 0) (v := ?_) rfl rfl (by kernel_rfl) (by kernel_rfl) (by kernel_rfl) (fun _ _ _ h => h) (by rfl) ?_ hHeld ?_
      rotate_left
      · (intro w hSw; (try dsimp only at hSw); first | (go_simp; done) | (go_simp; with_reducible rfl))
      simp only [Act.put, List.setIfInBounds_toArray, List.set_cons_zero, List.set_cons_succ]
      refine takeH (i := 1) (v := ?_) rfl rfl (by kernel_rfl) (by kernel_rfl) (by kernel_rfl) (fun _ _ _ h => h) (by rfl) ?_ hHeld ?_
      rotate_left
      · (intro w hSw; (try dsimp only at hSw); first | (go_simp; done) | (go_simp; with_reducible rfl))
      simp only [Act.put, List.setIfInBounds_toArray, List.set_cons_zero, List.set_cons_succ]
      refine takeH (i := 2) (v := ?_) rfl rfl (by kernel_rfl) (by kernel_rfl) (by kernel_rfl) (fun _ _ _ h => h) (by rfl) ?_ hHeld ?_
      rotate_left
      · (intro w hSw; (try dsimp only at hSw); first | (go_simp; done) | (go_simp; with_reducible rfl))
      simp only [Act.put, List.setIfInBounds_toArray, List.set_cons_zero, List.set_cons_succ]
      refine takeH (i := 3) (v := ?_) rfl rfl (by kernel_rfl) (by kernel_rfl) (by kernel_rfl) (fun _ _ _ h => h) (by rfl) ?_ hHeld ?_
      rotate_left
      · (intro w hSw; (try dsimp only at hSw); first | (go_simp; done) | (go_simp; with_reducible rfl))
      simp only [Act.put, List.setIfInBounds_toArray, List.set_cons_zero, List.set_cons_succ]
      refine takeH (i := 4) (v := ?_) rfl rfl (by kernel_rfl) (by kernel_rfl) (by kernel_rfl) (fun _ _ _ h => h) (by rfl) ?_ hHeld ?_
      rotate_left
      · (intro w hSw; (try dsimp only at hSw); first | (go_simp; done) | (go_simp; with_reducible rfl))
      simp only [Act.put, List.setIfInBounds_toArray, List.set_cons_zero, List.set_cons_succ]
      refine takeH (i := 5) (v := ?_) rfl rfl (by kernel_rfl) (by kernel_rfl) (by kernel_rfl) (fun _ _ _ h => h) (by rfl) ?_ hHeld ?_
      rotate_left
      · (intro w hSw; (try dsimp only at hSw); first | (go_simp; done) | (go_simp; with_reducible rfl))
      simp only [Act.put, List.setIfInBounds_toArray, List.set_cons_zero, List.set_cons_succ]
      refine takeH (i := 6) (v := ?_) rfl rfl (by kernel_rfl) (by kernel_rfl) (by kernel_rfl) (fun _ _ _ h => h) (by rfl) ?_ hHeld ?_
      rotate_left
      · (intro w hSw; (try dsimp only at hSw); first | (go_simp; done) | (go_simp; with_reducible rfl))
      simp only [Act.put, List.setIfInBounds_toArray, List.set_cons_zero, List.set_cons_succ]
      refine takeH (i := 7) (v := ?_) rfl rfl (by kernel_rfl) (by kernel_rfl) (by kernel_rfl) (fun _ _ _ h => h) (by rfl) ?_ hHeld ?_
      rotate_left
      · (intro w hSw; (try dsimp only at hSw); first | (go_simp; done) | (go_simp; with_reducible rfl))
      simp only [Act.put, List.setIfInBounds_toArray, List.set_cons_zero, List.set_cons_succ]
      refine takeH (i := 8) (v := ?_) rfl rfl (by kernel_rfl) (by kernel_rfl) (by kernel_rfl) (fun _ _ _ h => h) (by rfl) ?_ hHeld ?_
      rotate_left
      · (intro w hSw; (try dsimp only at hSw); first | (go_simp; done) | (go_simp; with_reducible rfl))
      simp only [Act.put, List.setIfInBounds_toArray, List.set_cons_zero, List.set_cons_succ]
      refine takeH (i := 9) (v := ?_) rfl rfl (by kernel_rfl) (by kernel_rfl) (by kernel_rfl) (fun _ _ _ h => h) (by rfl) ?_ hHeld ?_
      rotate_left
      · (intro w hSw; (try dsimp only at hSw); first | (go_simp; done) | (go_simp; with_reducible rfl))
      simp only [Act.put, List.setIfInBounds_toArray, List.set_cons_zero, List.set_cons_succ]
      refine takeH (i := 10) (v := ?_) rfl rfl (by kernel_rfl) (by kernel_rfl) (by kernel_rfl) (fun _ _ _ h => h) (by rfl) ?_ hHeld ?_
      rotate_left
      · (intro w hSw; (try dsimp only at hSw); first | (go_simp; done) | (go_simp; with_reducible rfl))
      simp only [Act.put, List.setIfInBounds_toArray, List.set_cons_zero, List.set_cons_succ]
      refine takeH (i := 11) (v := ?_) rfl rfl (by kernel_rfl) (by kernel_rfl) (by kernel_rfl) (fun _ _ _ h => h) (by rfl) ?_ hHeld ?_
      rotate_left
      · (intro w hSw; (try dsimp only at hSw); first | (go_simp; done) | (go_simp; with_reducible rfl))
      simp only [Act.put, List.setIfInBounds_toArray, List.set_cons_zero, List.set_cons_succ]
      refine wpAnyH_ready (rs := [12]) (by kernel_rfl) (by simp) ?_
      refine AllReadyH.cons rfl (fun K hK => ?_) AllReadyH.nil
      go_simp
      refine hK.out _ _ ?_ (fun hHeld => ?_)
      · have hb2 := below_new w1 (.cells #[.bool x, .slice A3 t.length c3] 129)
        exact ⟨by rw [hb2.cell (p := ⟨b, _, none⟩) hlt1]; exact c0, by rw [hb2.cell (p := ⟨b, _, none⟩) hlt1]; exact c1⟩
      clear hK K
      refine wpAnyH_ready (rs := [13]) (by kernel_rfl) (by simp) ?_
      refine AllReadyH.cons rfl (fun K hK => ?_) AllReadyH.nil
      refine app_it_step rfl (.tmp 11) (.tmp 23) rfl w.heap.size _ (ls.take k) vs x t _ rfl HO1.out (slice_one _ _ _) rfl rfl hll HB1.out.size ?_
      intro v2 w2 hown2 hc2
      have hb2 := hc2.bel
      have HO2 : Hid (OwnIt w2 w.heap.size v2 (ls.take (k + 1)) (vs ++ [.slice A3 t.length c3])) := by show OwnIt _ _ _ _ _; rw [HTK.out]; exact hown2
      have c2 : w2.cell? ⟨b, off + k * 2, none⟩ = some (.bool x) := by rw [hb2.cell (p := ⟨b, _, none⟩) HBB.out]; exact c0
      have d2 : w2.cell? ⟨b, off + k * 2 + 1, none⟩ = some (.slice A3 t.length c3) := by rw [hb2.cell (p := ⟨b, _, none⟩) HBB.out]; exact c1
      have HB2 := Lib.hid (HB1.out.trans hb2)
      clear hown2 hb2 hc2
      refine hK.out _ _ ?_ (fun hHeld => ?_)
      · exact ⟨c2, d2⟩
      clear hK K
      refine takeH (i := 14) (v := ?_) rfl rfl (by kernel_rfl) (by kernel_rfl) (by kernel_rfl) (fun _ _ _ h => h) (by rfl) ?_ hHeld ?_
      rotate_left
      · (intro w hSw; (try dsimp only at hSw); first | (go_simp; done) | (go_simp; with_reducible rfl))
      simp only [Act.put, List.setIfInBounds_toArray, List.set_cons_zero, List.set_cons_succ]
      refine wpAnyH_done (by kernel_rfl) ?_ _
      go_wp2
      go_roundw
      case rel => exact ⟨k + 1, _, by go_num, by omega, HO2.out, by rw [HTK.out]; exact HR.out.snoc HO.out.1 HRI.out.cap HRI.out.at_, HB2.out⟩
      case measure => simp [intOf]; omega
    · obtain rfl : k = n := by omega
      have HO := Lib.hid ho
      have HR := Lib.hid hr
      have HBW := Lib.hid hbw
      have e : ls.take k = ls := List.take_of_length_le (by rw [HL.out]; exact Nat.le_refl _)
      rw [e] at HO HR
      clear ho hr hbw e
      go_wp2
      go_ret
      exact ⟨_, vs, rfl, HO.out, HR.out, HBW.out⟩
end Go.Proofs.YtcjpopjcpgipjaaDoor
