/-
  Words for memory: a slice of literals that reads as a list of literals, and one that a call has made; an append of one literal.
  Contracts of quaerelaw0: SpoilLits, SameLits, CopyLits; literals written out, in memory.
-/
import Derived.Test.YtcjpopjcpgipjaaDoorBaseMore
import Derived.Test.YtcjpopjcpgipjaaDoorPlainCl
namespace Go.Proofs.YtcjpopjcpgipjaaDoor
open Go.RowKit Go.Deep
set_option linter.unusedSimpArgs false
set_option linter.unusedVariables false
set_option maxRecDepth 100000

theorem ltAt_left {bs : List Lt} {b : Lt} {i : Nat} (h : i < bs.length) : ltAt (bs ++ [b]) i = ltAt bs i := by
  unfold ltAt; rw [List.getD_eq_getElem?_getD, List.getD_eq_getElem?_getD, List.getElem?_append_left h]
theorem ltAt_right {bs : List Lt} {b : Lt} : ltAt (bs ++ [b]) bs.length = b := by unfold ltAt; simp
set_option linter.unusedSimpArgs false
set_option linter.unusedVariables false
/-- The slice value '.slice A n _' holds the literals bs; its cells, and those of the terms, lie below block B. -/
structure LitsAt (w : World) (B : Nat) (A : Option Addr) (n : Nat) (bs : List Lt) : Prop where
  len : bs.length = n
  at_ : 0 < n → ∃ b off, A = some ⟨b, off, none⟩ ∧ b < B ∧ ∀ i, i < n →
    w.cell? ⟨b, off + i * 2, none⟩ = some (.bool (ltAt bs i).neg) ∧
    ∃ A' c, w.cell? ⟨b, off + i * 2 + 1, none⟩ = some (.slice A' (ltAt bs i).atom.length c) ∧ (ltAt bs i).atom.length ≤ c ∧ IntsAt w B A' (ltAt bs i).atom.length (ltAt bs i).atom
  fit : ∀ i, i < n → (ltAt bs i).atom.length * 8 ≤ 140737488351232
section
variable {w w' : World} {B B' n : Nat} {A : Option Addr} {bs : List Lt}
theorem LitsAt.keep (h : LitsAt w B A n bs) (hk : ∀ p : Addr, p.block < B → w'.cell? p = w.cell? p) : LitsAt w' B A n bs :=
  ⟨h.len, fun hn => by
    obtain ⟨b, off, e, hb, hc⟩ := h.at_ hn
    refine ⟨b, off, e, hb, fun i hi => ?_⟩
    obtain ⟨h1, A', c, h2, h3, h4⟩ := hc i hi
    exact ⟨by rw [hk ⟨b, _, none⟩ hb]; exact h1, A', c, by rw [hk ⟨b, _, none⟩ hb]; exact h2, h3, h4.keep hk⟩, h.fit⟩
theorem LitsAt.below (h : LitsAt w B A n bs) (hb : Below B w w') : LitsAt w' B A n bs := h.keep fun _ hp => hb.cell hp
theorem LitsAt.more (h : LitsAt w B A n bs) (hB : B ≤ B') : LitsAt w B' A n bs :=
  ⟨h.len, fun hn => by
    obtain ⟨b, off, e, hb, hc⟩ := h.at_ hn
    refine ⟨b, off, e, by omega, fun i hi => ?_⟩
    obtain ⟨h1, A', c, h2, h3, h4⟩ := hc i hi
    exact ⟨h1, A', c, h2, h3, h4.more hB⟩, h.fit⟩
theorem LitsAt.on (h : LitsAt w w.heap.size A n bs) (hb : Below w.heap.size w w') : LitsAt w' w'.heap.size A n bs := (h.below hb).more hb.size
theorem LitsAt.drew (h : LitsAt w B A n bs) : LitsAt w.drew B A n bs := h.keep fun _ _ => rfl
theorem LitsAt.nil_ : LitsAt w B A 0 [] := ⟨rfl, fun h => absurd h (by omega), fun _ h => absurd h (by omega)⟩
end
def litCells (bs : List Lt) (vs : List Value) : List Value := (bs.zip vs).flatMap fun p => [.bool p.1.neg, p.2]
theorem litCells_nil : litCells [] [] = [] := rfl
theorem litCells_cons (b : Lt) (bs : List Lt) (u : Value) (vs : List Value) : litCells (b :: bs) (u :: vs) = .bool b.neg :: u :: litCells bs vs := by unfold litCells; simp
theorem litCells_length : ∀ (bs : List Lt) (vs : List Value), vs.length = bs.length → (litCells bs vs).length = bs.length * 2
  | [], [], _ => rfl
  | b :: bs, u :: vs, h => by
    rw [litCells_cons, List.length_cons, List.length_cons, List.length_cons, litCells_length bs vs (by simpa using h)]; omega
theorem litCells_snoc : ∀ (bs : List Lt) (vs : List Value) (b : Lt) (u : Value), vs.length = bs.length → litCells (bs ++ [b]) (vs ++ [u]) = litCells bs vs ++ [.bool b.neg, u]
  | [], [], b, u, _ => rfl
  | a :: bs, x :: vs, b, u, h => by
    rw [List.cons_append, List.cons_append, litCells_cons, litCells_cons, litCells_snoc bs vs b u (by simpa using h)]; rfl
theorem litCells_get : ∀ (bs : List Lt) (vs : List Value), vs.length = bs.length → ∀ i, i < bs.length → (litCells bs vs)[i * 2]? = some (.bool (ltAt bs i).neg) ∧ (litCells bs vs)[i * 2 + 1]? = some (valAt vs i)
  | b :: bs, u :: vs, h, 0, _ => by rw [litCells_cons]; exact ⟨rfl, rfl⟩
  | b :: bs, u :: vs, h, i + 1, hi => by
    rw [litCells_cons]
    have := litCells_get bs vs (by simpa using h) i (by simpa using hi)
    have e : (i + 1) * 2 = i * 2 + 1 + 1 := by omega
    rw [e, List.getElem?_cons_succ, List.getElem?_cons_succ, List.getElem?_cons_succ, List.getElem?_cons_succ]
    exact this
/-- The value is a row of these literals, all of it in blocks from base on (or nil). -/
def OwnL (w : World) (base : Nat) (v : Value) (bs : List Lt) : Prop :=
  ∃ vs : List Value, vs.length = bs.length ∧ w.ownsRow base 75 2 v bs.length (litCells bs vs) ∧ ∀ i, i < bs.length → OwnI w base (valAt vs i) (ltAt bs i).atom
def LitsPost (bs : List Lt) (E : Int) (w : World) (e : Ending) (w' : World) : Prop :=
  ∃ v, e = .returned (.tuple #[v, .int .i64 E]) ∧ OwnL w' w.heap.size v bs ∧ Below w.heap.size w w'
def LitsRet (bs : List Lt) (w : World) (e : Ending) (w' : World) : Prop :=
  ∃ v, e = .returned v ∧ OwnL w' w.heap.size v bs ∧ Below w.heap.size w w'
theorem lit_info : (Tryd.prog.info? 75).map (fun i => (i.zero, i.size, i.bytes)) = some (some (.agg #[.bool false, .slice none 0 0]), 2, 32) := by kernel_rfl
section
variable {w w' : World} {base base' : Nat} {v u : Value} {bs cs : List Lt} {xs : List Int}
theorem OwnL.nil_ : OwnL w base (.slice none 0 0) [] := ⟨[], rfl, ⟨rfl, .inl ⟨rfl, rfl⟩⟩, fun i hi => absurd hi (by simp)⟩
theorem OwnL.lower (h : OwnL w base v bs) (hb : base' ≤ base) : OwnL w base' v bs := by
  obtain ⟨vs, h1, h2, h3⟩ := h
  exact ⟨vs, h1, own_base h2 hb, fun i hi => (h3 i hi).lower hb⟩
theorem OwnL.cast (h : OwnL w base v bs) (e : bs = cs) : OwnL w base v cs := e ▸ h
theorem OwnL.on (h : OwnL w base v bs) (hb : Below w.heap.size w w') : OwnL w' base v bs := by
  obtain ⟨vs, h1, h2, h3⟩ := h
  exact ⟨vs, h1, owns_on h2 hb, fun i hi => (h3 i hi).on hb⟩
theorem OwnL.shape (h : OwnL w base v bs) : (v = .slice none 0 0 ∧ bs = []) ∨ ∃ g cap, v = .slice (some ⟨g, 0, none⟩) bs.length cap ∧ base ≤ g ∧ g < w.heap.size ∧ bs.length ≤ cap := by
  obtain ⟨vs, h1, h2, h3⟩ := h
  rcases h2.2 with ⟨h1, h2⟩ | ⟨g, cap, cur, hv, hg, hc, hn, _⟩
  · exact .inl ⟨h1, List.length_eq_zero_iff.1 h2⟩
  · exact .inr ⟨g, cap, hv, hg, (Array.getElem?_eq_some_iff.1 hc).1, hn⟩
theorem OwnL.litsAt (h : OwnL w base v bs) (hf : ∀ i, i < bs.length → (ltAt bs i).atom.length * 8 ≤ 140737488351232) : ∃ A cap, v = .slice A bs.length cap ∧ bs.length ≤ cap ∧ LitsAt w w.heap.size A bs.length bs := by
  have hs := h.shape
  obtain ⟨vs, h1, h2, h3⟩ := h
  rcases hs with ⟨rfl, rfl⟩ | ⟨g, cap, rfl, hg, hlt, hn⟩
  · exact ⟨_, _, rfl, Nat.le_refl _, LitsAt.nil_⟩
  · refine ⟨_, _, rfl, hn, rfl, fun hp => ⟨g, 0, rfl, hlt, fun i hi => ?_⟩, hf⟩
    obtain ⟨d0, d1⟩ := litCells_get bs vs h1 i hi
    have c0 := h2.cellAt (i * 2) (by omega)
    have c1 := h2.cellAt (i * 2 + 1) (by omega)
    rw [d0] at c0
    rw [d1] at c1
    obtain ⟨A', c', e, hc', hi'⟩ := (h3 i hi).intsAt
    rw [e] at c1
    rw [Nat.zero_add]
    exact ⟨c0, A', c', c1, hc', hi'⟩
/-- 'x = append(x, b)' of literals, x and b's term made by the call. -/
theorem app_lit_op {o : Oper} {a : Act} {K : Act → World → Prop} {Q : Exit → Act → World → Prop} (s x : Operand)
    (ho : o.op = .call { callee := .builtin .append, args := #[s, x], argTypes := #[23, 23] })
    (base : Nat) (v : Value) (bs : List Lt) (y : Bool) (t : List Int) (u : Value) (hs : a.eval s = v) (hown : OwnL w base v bs) (hu : OwnI w base u t) (hx : a.eval x = .slice (some ⟨w.heap.size, 0, none⟩) 1 1)
    (hlen : bs.length + 1 ≤ 4398046511104) (hbase : base ≤ w.heap.size)
    (h : ∀ v' w', OwnL w' base v' (bs ++ [⟨y, t⟩]) → Below base w w' → K (a.put o.dst v') w') : o.wp Tryd.prog a (w.alloc (.cells #[.bool y, u] 75)) K Q := by
  obtain ⟨i0, hi0, hz0, hz1, hz2⟩ := info_parts lit_info
  have hsh := hown.shape
  obtain ⟨vs, k1, k2, k3⟩ := hown
  have k2' := World.ownsRow.alloc k2 (.cells #[.bool y, u] 75)
  have hu1 : u.oneCell' = true := by rcases hu.shape with ⟨rfl, _⟩ | ⟨g, cap, rfl, _⟩ <;> rfl
  refine wp_append_own _ s x 23 ho base 75 i0 _ 2 32 Tryd.underlying23 hi0 hz0 hz1 hz2 rfl (by omega) v bs.length (litCells bs vs) hs k2' ⟨w.heap.size, 0, none⟩ 1 1 [.bool y, u] hx rfl
    (World.news_of_block (cs := #[.bool y, u]) (t := 75) (fr := (0, 0)) (heap_alloc_new w _)) (by simp [hu1]; rfl) (by unfold maxLen; omega) (by omega) (by simp; omega) ?_
  intro v' w' h1 h2 _
  have hb : Below base (w.alloc (.cells #[.bool y, u] 75)) w' := (Below.refl base _).grown h2 (by simp; omega) (fun k hk => by
    rcases hsh with ⟨rfl, _⟩ | ⟨g, cap, rfl, hg, _⟩
    · simp [Value.ownBlock] at hk
    · simp [Value.ownBlock] at hk; omega)
  refine h v' w' ⟨vs ++ [u], by simp [k1], ?_, fun i hi => ?_⟩ (below_un_new hb hbase)
  · rw [litCells_snoc bs vs _ u k1]
    simpa using h1
  · have hne : (75 : TypeId) ≠ 3 := by decide
    by_cases e : i = bs.length
    · subst e
      rw [ltAt_right, ← k1, valAt_right]
      exact (hu.alloc _).grown k2' hne h2
    · have hi' : i < bs.length := by simp at hi; omega
      rw [ltAt_left hi', valAt_left (by omega)]
      exact ((k3 i hi').alloc _).grown k2' hne h2
theorem app_lit1 {ops : Array Oper} {rest : List Oper} {o : Oper} {a : Act} {Q : Exit → Act → World → Prop} (hgd : o.guard = none) (s x : Operand)
    (ho : o.op = .call { callee := .builtin .append, args := #[s, x], argTypes := #[23, 23] })
    (base : Nat) (v : Value) (bs : List Lt) (y : Bool) (t : List Int) (u : Value) (hs : a.eval s = v) (hown : OwnL w base v bs) (hu : OwnI w base u t) (hx : a.eval x = .slice (some ⟨w.heap.size, 0, none⟩) 1 1)
    (hlen : bs.length + 1 ≤ 4398046511104) (hbase : base ≤ w.heap.size)
    (h : ∀ v' w', OwnL w' base v' (bs ++ [⟨y, t⟩]) → Below base w w' → wpList Tryd.prog ops Q rest (a.put o.dst v') w') : wpList Tryd.prog ops Q (o :: rest) a (w.alloc (.cells #[.bool y, u] 75)) :=
  wpList_plain hgd fun _ hK => app_lit_op s x ho base v bs y t u hs hown hu hx hlen hbase fun v' w' h1 h2 => hK _ _ (h v' w' h1 h2)
theorem app_lit_step {ops : Array Oper} {o : Oper} {a : Act} {K : Act → World → Prop} {Q : Exit → Act → World → Prop} {E : Prop} (hgd : o.guard = none) (s x : Operand)
    (ho : o.op = .call { callee := .builtin .append, args := #[s, x], argTypes := #[23, 23] })
    (base : Nat) (v : Value) (bs : List Lt) (y : Bool) (t : List Int) (u : Value) (hs : a.eval s = v) (hown : OwnL w base v bs) (hu : OwnI w base u t) (hx : a.eval x = .slice (some ⟨w.heap.size, 0, none⟩) 1 1)
    (hlen : bs.length + 1 ≤ 4398046511104) (hbase : base ≤ w.heap.size)
    (h : ∀ v' w', OwnL w' base v' (bs ++ [⟨y, t⟩]) → Below base w w' → K (a.put o.dst v') w') : if Region.wanted o (yielded ops a.tmps) = true then Oper.wp Tryd.prog o a (w.alloc (.cells #[.bool y, u] 75)) K Q else E := by
  have hw : Region.wanted o (yielded ops a.tmps) = true := by simp [Region.wanted, hgd]
  rw [if_pos hw]
  exact app_lit_op s x ho base v bs y t u hs hown hu hx hlen hbase h

end
theorem LitsAt.drewN {w : World} {B n : Nat} {A : Option Addr} {bs : List Lt} (h : LitsAt w B A n bs) (k : Nat) : LitsAt (w.drewN k) B A n bs := h.keep fun _ _ => rfl
set_option linter.unusedSimpArgs false
set_option linter.unusedVariables false
set_option maxHeartbeats 2000000 in
theorem sameLits_true (A A1 : Option Addr) (n c c1 : Nat) (bs : List Lt) (w : World) (h : LitsAt w w.heap.size A n bs) (hn : n ≤ 4398046511104) (h1 : LitsAt w w.heap.size A1 n bs) :
    Calls Tryd.prog 33 #[.slice A n c, .slice A1 n c1] w fun e w' => e = .returned (.bool true) ∧ Below w.heap.size w w' := by
  have HA := Lib.hid h
  have HB := Lib.hid h1
  clear h h1
  go_enter Tryd.func33, Tryd.ntmps33
  go_wp2
  go_loopw [5] (fun i wr => ∃ k : Nat, i = .int .i64 k ∧ k ≤ n ∧ Below w.heap.size w wr) (fun i _ => n - (intOf i).toNat)
  case atStart => exact ⟨0, rfl, by omega, Below.refl _ _⟩
  case round =>
    obtain ⟨k, rfl, hk, hbw⟩ := hrel
    have HBW := Lib.hid hbw
    clear hbw
    by_cases hlt : k < n
    · obtain ⟨b1, o1, rfl, _, hc1⟩ := (HA.out.on HBW.out).at_ (by omega)
      obtain ⟨b2, o2, rfl, _, hc2⟩ := (HB.out.on HBW.out).at_ (by omega)
      obtain ⟨c0, A3, c3, d0, _, i3⟩ := hc1 k hlt
      obtain ⟨e0, A4, c4, f0, _, i4⟩ := hc2 k hlt
      have hfit := HA.out.fit k hlt
      obtain ⟨bd, hbd⟩ : ∃ bd, bd = ltAt bs k := ⟨_, rfl⟩
      rw [← hbd] at c0 d0 i3 e0 f0 i4 hfit
      have HI3 := Lib.hid i3
      have HI4 := Lib.hid i4
      have hi0 : (0 : Int) ≤ (k : Int) := by omega
      have hi3 : (k : Int) < (n : Int) := by omega
      have g1 : (bd.neg != bd.neg) = false := by simp
      clear hc1 hc2 i3 i4 hbd
      go_wp2_with fail
      go_quiet ((go_at_call 13; exact sameInts_still A3 A4 _ c3 _ c4 _ _ _ bd.atom bd.atom _ HI3.out HI4.out (by unfold maxLen; omega) (by unfold maxLen; omega) (sameI_self _)))
      go_wp2
      go_roundw
      case rel => exact ⟨k + 1, by go_num, by omega, HBW.out.trans (below_drewN _ _)⟩
      case measure => simp [intOf]; omega
    · obtain rfl : k = n := by omega
      go_wp2
      go_ret
      exact ⟨rfl, HBW.out⟩

set_option maxHeartbeats 2000000 in
theorem copyLits_any (A : Option Addr) (n c : Nat) (bs : List Lt) (w : World) (h : LitsAt w w.heap.size A n bs) (hn : n ≤ 4398046511104) :
    Calls Tryd.prog 19 #[.slice A n c] w (LitsRet bs w) := by
  have HS := Lib.hid h
  have HL := Lib.hid h.len
  clear h
  go_enter Tryd.func19, Tryd.ntmps19
  go_wp2
  go_loopw [3, 4] (fun q i wr => ∃ k : Nat, i = .int .i64 k ∧ k ≤ n ∧ OwnL wr w.heap.size q (bs.take k) ∧ Below w.heap.size w wr) (fun _ i _ => n - (intOf i).toNat)
  case atStart => exact ⟨0, rfl, by omega, OwnL.nil_, Below.refl _ _⟩
  case round =>
    obtain ⟨k, rfl, hk, hown, hbw⟩ := hrel
    have HBW := Lib.hid hbw
    have HOWN := Lib.hid hown
    have hsz := hbw.size
    clear hbw hown
    by_cases hlt : k < n
    · have hkl : k < bs.length := by rw [HL.out]; exact hlt
      obtain ⟨b, off, rfl, hb, hc⟩ := HS.out.at_ (by omega)
      obtain ⟨c0, A3, c3, d0, _, i3'⟩ := hc k hlt
      rw [← HBW.out.cell (p := ⟨b, _, none⟩) hb] at c0 d0
      have i3 := i3'.on HBW.out
      have hfit := HS.out.fit k hlt
      have HTK : Hid (bs.take (k + 1) = bs.take k ++ [⟨(ltAt bs k).neg, (ltAt bs k).atom⟩]) := by
        show bs.take (k + 1) = _
        rw [List.take_add_one, ltAt_get hkl]; rfl
      obtain ⟨bd, hbd⟩ : ∃ bd, bd = ltAt bs k := ⟨_, rfl⟩
      rw [← hbd] at c0 d0 i3 hfit HTK
      have HI3 := Lib.hid i3
      have hi0 : (0 : Int) ≤ (k : Int) := by omega
      have hi3 : (k : Int) < (n : Int) := by omega
      have htl : (bs.take k).length + 1 ≤ 4398046511104 := by simp; omega
      clear hc i3 i3' hbd hkl
      go_wp2_with fail
      refine wp_region_held_drew (S := (fun w' => w'.cell? ⟨b, off + k * 2, none⟩ = some (.bool bd.neg) ∧ w'.cell? ⟨b, off + k * 2 + 1, none⟩ = some (.slice A3 bd.atom.length c3))) (by kernel_rfl) ⟨c0, d0⟩ (fun hHeld => ?_)
      refine takeH (i := 0) (v := ?_) rfl rfl (by kernel_rfl) (by kernel_rfl) (by kernel_rfl) (fun _ _ _ h => h) (by rfl) ?_ hHeld ?_
      rotate_left
      · (intro w hSw; (try dsimp only at hSw); first | (go_simp; done) | (go_simp; with_reducible rfl))
      simp only [Act.put, List.setIfInBounds_toArray, List.set_cons_zero, List.set_cons_succ]
      refine takeH (i := 1) (v := ?_) rfl rfl (by kernel_rfl) (by kernel_rfl) (by kernel_rfl) (fun _ _ _ h => h) (by rfl) ?_ hHeld ?_
      rotate_left
      · (intro w hSw; (try dsimp only at hSw); first | (go_simp; done) | (go_simp; with_reducible rfl))
      simp only [Act.put, List.setIfInBounds_toArray, List.set_cons_zero, List.set_cons_succ]
      refine takeH (i := 2) (v := ?_) rfl rfl (by kernel_rfl) (by kernel_rfl) (by kernel_rfl) (fun _ _ _ h => h) (by rfl) ?_ hHeld ?_
      rotate_left
      · (intro w hSw; (try dsimp only at hSw); first | (go_simp; done) | (go_simp; with_reducible rfl))
      simp only [Act.put, List.setIfInBounds_toArray, List.set_cons_zero, List.set_cons_succ]
      refine takeH (i := 3) (v := ?_) rfl rfl (by kernel_rfl) (by kernel_rfl) (by kernel_rfl) (fun _ _ _ h => h) (by rfl) ?_ hHeld ?_
      rotate_left
      · (intro w hSw; (try dsimp only at hSw); first | (go_simp; done) | (go_simp; with_reducible rfl))
      simp only [Act.put, List.setIfInBounds_toArray, List.set_cons_zero, List.set_cons_succ]
      refine takeH (i := 4) (v := ?_) rfl rfl (by kernel_rfl) (by kernel_rfl) (by kernel_rfl) (fun _ _ _ h => h) (by rfl) ?_ hHeld ?_
      rotate_left
      · (intro w hSw; (try dsimp only at hSw); first | (go_simp; done) | (go_simp; with_reducible rfl))
      simp only [Act.put, List.setIfInBounds_toArray, List.set_cons_zero, List.set_cons_succ]
      refine takeH (i := 5) (v := ?_) rfl rfl (by kernel_rfl) (by kernel_rfl) (by kernel_rfl) (fun _ _ _ h => h) (by rfl) ?_ hHeld ?_
      rotate_left
      · (intro w hSw; (try dsimp only at hSw); first | (go_simp; done) | (go_simp; with_reducible rfl))
      simp only [Act.put, List.setIfInBounds_toArray, List.set_cons_zero, List.set_cons_succ]
      refine takeH (i := 6) (v := ?_) rfl rfl (by kernel_rfl) (by kernel_rfl) (by kernel_rfl) (fun _ _ _ h => h) (by rfl) ?_ hHeld ?_
      rotate_left
      · (intro w hSw; (try dsimp only at hSw); first | (go_simp; done) | (go_simp; with_reducible rfl))
      simp only [Act.put, List.setIfInBounds_toArray, List.set_cons_zero, List.set_cons_succ]
      refine takeH (i := 7) (v := ?_) rfl rfl (by kernel_rfl) (by kernel_rfl) (by kernel_rfl) (fun _ _ _ h => h) (by rfl) ?_ hHeld ?_
      rotate_left
      · (intro w hSw; (try dsimp only at hSw); first | (go_simp; done) | (go_simp; with_reducible rfl))
      simp only [Act.put, List.setIfInBounds_toArray, List.set_cons_zero, List.set_cons_succ]
      refine takeH (i := 8) (v := ?_) rfl rfl (by kernel_rfl) (by kernel_rfl) (by kernel_rfl) (fun _ _ _ h => h) (by rfl) ?_ hHeld ?_
      rotate_left
      · (intro w hSw; (try dsimp only at hSw); first | (go_simp; done) | (go_simp; with_reducible rfl))
      simp only [Act.put, List.setIfInBounds_toArray, List.set_cons_zero, List.set_cons_succ]
      refine takeH (i := 9) (v := ?_) rfl rfl (by kernel_rfl) (by kernel_rfl) (by kernel_rfl) (fun _ _ _ h => h) (by rfl) ?_ hHeld ?_
      rotate_left
      · (intro w hSw; (try dsimp only at hSw); first | (go_simp; done) | (go_simp; with_reducible rfl))
      simp only [Act.put, List.setIfInBounds_toArray, List.set_cons_zero, List.set_cons_succ]
      refine takeH (i := 10) (v := ?_) rfl rfl (by kernel_rfl) (by kernel_rfl) (by kernel_rfl) (fun _ _ _ h => h) (by rfl) ?_ hHeld ?_
      rotate_left
      · (intro w hSw; (try dsimp only at hSw); first | (go_simp; done) | (go_simp; with_reducible rfl))
      simp only [Act.put, List.setIfInBounds_toArray, List.set_cons_zero, List.set_cons_succ]
      refine wpAnyH_ready (rs := [11]) (by kernel_rfl) (by simp) ?_
      refine AllReadyH.cons rfl (fun K hK => ?_) AllReadyH.nil
      go_simp
      refine (copyInts_any A3 _ c3 bd.atom _ (HI3.out.drew) hfit).mono ?_
      rintro e w1 ⟨v1, rfl, hv1, hb1⟩
      obtain ⟨A4, c4, rfl⟩ := hv1.value
      have hb1' : Below wr.heap.size wr w1 := (Below.refl wr.heap.size wr).drew.trans hb1
      have hsz1 := hb1'.size
      have HO1 := Lib.hid (HOWN.out.on hb1')
      have HV1 := Lib.hid (hv1.lower (base' := w.heap.size) hsz)
      have HB1 := Lib.hid (HBW.out.trans (hb1'.mono hsz))
      have c1 : w1.cell? ⟨b, off + k * 2, none⟩ = some (.bool bd.neg) := by rw [hb1'.cell (p := ⟨b, _, none⟩) (by show b < _; omega)]; exact c0
      have d1 : w1.cell? ⟨b, off + k * 2 + 1, none⟩ = some (.slice A3 bd.atom.length c3) := by rw [hb1'.cell (p := ⟨b, _, none⟩) (by show b < _; omega)]; exact d0
      clear hv1 hb1 hb1'
      go_wp2_with fail
      refine hK.out _ _ ?_ (fun hHeld => ?_)
      · exact ⟨c1, d1⟩
      clear hK K
      refine takeH (i := 12) (v := ?_) rfl rfl (by kernel_rfl) (by kernel_rfl) (by kernel_rfl) (fun _ _ _ h => h) (by rfl) ?_ hHeld ?_
      rotate_left
      · (intro w hSw; (try dsimp only at hSw); first | (go_simp; done) | (go_simp; with_reducible rfl))
      simp only [Act.put, List.setIfInBounds_toArray, List.set_cons_zero, List.set_cons_succ]
      refine wpAnyH_ready (rs := [13]) (by kernel_rfl) (by simp) ?_
      refine AllReadyH.cons rfl (fun K hK => ?_) AllReadyH.nil
      go_simp
      refine hK.out _ _ ?_ (fun hHeld => ?_)
      · have hb2 := below_new w1 (.cells #[.bool bd.neg, .slice A4 bd.atom.length c4] 75)
        exact ⟨by rw [hb2.cell (p := ⟨b, _, none⟩) (by show b < _; omega)]; exact c1, by rw [hb2.cell (p := ⟨b, _, none⟩) (by show b < _; omega)]; exact d1⟩
      clear hK K
      refine wpAnyH_ready (rs := [14]) (by kernel_rfl) (by simp) ?_
      refine AllReadyH.cons rfl (fun K hK => ?_) AllReadyH.nil
      refine app_lit_step rfl (.tmp 11) (.tmp 24) rfl w.heap.size u3 (bs.take k) bd.neg bd.atom _ rfl HO1.out HV1.out rfl htl (by omega) ?_
      intro v2 w2 hown2 hb2
      have HO2 := Lib.hid (hown2.cast HTK.out.symm)
      have c2 : w2.cell? ⟨b, off + k * 2, none⟩ = some (.bool bd.neg) := by rw [hb2.cell (p := ⟨b, _, none⟩) hb]; exact c1
      have d2 : w2.cell? ⟨b, off + k * 2 + 1, none⟩ = some (.slice A3 bd.atom.length c3) := by rw [hb2.cell (p := ⟨b, _, none⟩) hb]; exact d1
      have HB2 := Lib.hid (HB1.out.trans hb2)
      clear hown2 hb2
      refine hK.out _ _ ?_ (fun hHeld => ?_)
      · exact ⟨c2, d2⟩
      clear hK K
      refine takeH (i := 15) (v := ?_) rfl rfl (by kernel_rfl) (by kernel_rfl) (by kernel_rfl) (fun _ _ _ h => h) (by rfl) ?_ hHeld ?_
      rotate_left
      · (intro w hSw; (try dsimp only at hSw); first | (go_simp; done) | (go_simp; with_reducible rfl))
      simp only [Act.put, List.setIfInBounds_toArray, List.set_cons_zero, List.set_cons_succ]
      refine wpAnyH_done (by kernel_rfl) ?_ _
      go_wp2
      go_roundw
      case rel => exact ⟨k + 1, by go_num, by omega, HO2.out, HB2.out⟩
      case measure => simp [intOf]; omega
    · obtain rfl : k = n := by omega
      go_wp2
      go_ret
      exact ⟨_, rfl, HOWN.out.cast (by rw [List.take_of_length_le (by rw [HL.out]; omega)]), HBW.out⟩

set_option linter.unusedSimpArgs false
set_option linter.unusedVariables false
theorem LitsAt.new1 (w : World) (v : Bool) (t : List Int) (A : Option Addr) (n c : Nat) (hi : IntsAt w w.heap.size A n t) (hc : n ≤ c) (hf : n * 8 ≤ 140737488351232) :
    LitsAt (w.alloc (.cells #[.bool v, .slice A n c] 75)) (w.alloc (.cells #[.bool v, .slice A n c] 75)).heap.size (some ⟨w.heap.size, 0, none⟩) 1 [⟨v, t⟩] := by
  have hl := hi.len
  subst hl
  refine ⟨rfl, fun _ => ⟨w.heap.size, 0, rfl, by simp, fun i h => ?_⟩, fun i h => ?_⟩
  · obtain rfl : i = 0 := by omega
    refine ⟨?_, A, c, ?_, hc, hi.on (below_new w _)⟩
    · rw [World.cell?_alloc_new]; rfl
    · rw [World.cell?_alloc_new]; rfl
  · obtain rfl : i = 0 := by omega
    exact hf
theorem LitsAt.new2 (w : World) (v v' : Bool) (t t' : List Int) (A A' : Option Addr) (n n' c c' : Nat) (hi : IntsAt w w.heap.size A n t) (hi' : IntsAt w w.heap.size A' n' t') (hc : n ≤ c) (hc' : n' ≤ c') (hf : n * 8 ≤ 140737488351232) (hf' : n' * 8 ≤ 140737488351232) :
    LitsAt (w.alloc (.cells #[.bool v, .slice A n c, .bool v', .slice A' n' c'] 75)) (w.alloc (.cells #[.bool v, .slice A n c, .bool v', .slice A' n' c'] 75)).heap.size (some ⟨w.heap.size, 0, none⟩) 2 [⟨v, t⟩, ⟨v', t'⟩] := by
  have hl := hi.len
  have hl' := hi'.len
  subst hl
  subst hl'
  refine ⟨rfl, fun _ => ⟨w.heap.size, 0, rfl, by simp, fun i h => ?_⟩, fun i h => ?_⟩
  · match i, h with
    | 0, _ =>
      refine ⟨?_, A, c, ?_, hc, hi.on (below_new w _)⟩
      · rw [World.cell?_alloc_new]; rfl
      · rw [World.cell?_alloc_new]; rfl
    | 1, _ =>
      refine ⟨?_, A', c', ?_, hc', hi'.on (below_new w _)⟩
      · rw [World.cell?_alloc_new]; rfl
      · rw [World.cell?_alloc_new]; rfl
  · match i, h with
    | 0, _ => exact hf
    | 1, _ => exact hf'
theorem LitsAt.new {w : World} {A : Option Addr} {n : Nat} {bs : List Lt} (h : LitsAt w w.heap.size A n bs) (o : Obj) : LitsAt (w.alloc o) (w.alloc o).heap.size A n bs := h.on (below_new w o)

theorem LitsAt.lit1 (w : World) (v : Bool) (t : List Int) (hf : t.length * 8 ≤ 140737488351232) :
    LitsAt ((w.alloc (.cells (intCells t).toArray 3)).alloc (.cells #[.bool v, .slice (some ⟨w.heap.size, 0, none⟩) t.length t.length] 75)) ((w.alloc (.cells (intCells t).toArray 3)).alloc (.cells #[.bool v, .slice (some ⟨w.heap.size, 0, none⟩) t.length t.length] 75)).heap.size (some ⟨w.heap.size + 1, 0, none⟩) 1 [⟨v, t⟩] := by
  have := LitsAt.new1 (w.alloc (.cells (intCells t).toArray 3)) v t _ _ _ (IntsAt.news w t) (Nat.le_refl _) hf
  have e : (w.alloc (.cells (intCells t).toArray 3)).heap.size = w.heap.size + 1 := by simp
  rw [e] at this
  exact this
theorem LitsAt.lit2 (w : World) (v v' : Bool) (t t' : List Int) (hf : t.length * 8 ≤ 140737488351232) (hf' : t'.length * 8 ≤ 140737488351232) :
    LitsAt (((w.alloc (.cells (intCells t).toArray 3)).alloc (.cells (intCells t').toArray 3)).alloc (.cells #[.bool v, .slice (some ⟨w.heap.size, 0, none⟩) t.length t.length, .bool v', .slice (some ⟨w.heap.size + 1, 0, none⟩) t'.length t'.length] 75))
      (((w.alloc (.cells (intCells t).toArray 3)).alloc (.cells (intCells t').toArray 3)).alloc (.cells #[.bool v, .slice (some ⟨w.heap.size, 0, none⟩) t.length t.length, .bool v', .slice (some ⟨w.heap.size + 1, 0, none⟩) t'.length t'.length] 75)).heap.size (some ⟨w.heap.size + 1 + 1, 0, none⟩) 2 [⟨v, t⟩, ⟨v', t'⟩] := by
  have h1 := (IntsAt.news w t).new (.cells (intCells t').toArray 3)
  have h2 := IntsAt.news (w.alloc (.cells (intCells t).toArray 3)) t'
  have e : (w.alloc (.cells (intCells t).toArray 3)).heap.size = w.heap.size + 1 := by simp
  have e2 : ((w.alloc (.cells (intCells t).toArray 3)).alloc (.cells (intCells t').toArray 3)).heap.size = w.heap.size + 1 + 1 := by simp
  rw [e] at h2
  have := LitsAt.new2 _ v v' t t' _ _ _ _ _ _ h1 h2 (Nat.le_refl _) (Nat.le_refl _) hf hf'
  rw [e2] at this
  exact this

end Go.Proofs.YtcjpopjcpgipjaaDoor
