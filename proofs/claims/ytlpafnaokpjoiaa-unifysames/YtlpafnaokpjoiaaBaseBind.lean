/-
  Words for memory: a slice of binds that reads as a list of binds, and one that a call has made; an append of one bind.
  Contracts: bind.isVar, bind.May, bind.replace, bind.Apply, bind.follow, bind.Then, bind.Shift.
  Contracts of the reference: BindMay, Of, Put.
  Contracts of quaerelaw0: SpoilBinds, SameBinds, CopyBinds; binds written out, in memory.
-/
import Derived.Test.YtlpafnaokpjoiaaBaseMore
namespace Go.Proofs.Ytlpafnaokpjoiaa
open Go.RowKit
set_option linter.unusedSimpArgs false
set_option linter.unusedVariables false
section
variable {ss : List Sym} {bs us : List Bd} {b : Bd} {lo : Int} {r : List Int}
end
section
variable {ss : List Sym} {bs us : List Bd} {r : List Int}
end
end Go.Proofs.Ytlpafnaokpjoiaa
namespace Go.Proofs.Ytlpafnaokpjoiaa
open Go.RowKit
set_option linter.unusedSimpArgs false
set_option linter.unusedVariables false
/-- The slice value '.slice A n _' holds the binds bs; its cells, and those of the terms, lie below block B. -/
structure BindsAt (w : World) (B : Nat) (A : Option Addr) (n : Nat) (bs : List Bd) : Prop where
  len : bs.length = n
  at_ : 0 < n → ∃ b off, A = some ⟨b, off, none⟩ ∧ b < B ∧ ∀ i, i < n →
    w.cell? ⟨b, off + i * 2, none⟩ = some (.int .i64 (bdAt bs i).v) ∧
    ∃ A' c, w.cell? ⟨b, off + i * 2 + 1, none⟩ = some (.slice A' (bdAt bs i).t.length c) ∧ (bdAt bs i).t.length ≤ c ∧ IntsAt w B A' (bdAt bs i).t.length (bdAt bs i).t
  fit : ∀ i, i < n → (bdAt bs i).t.length * 8 ≤ 140737488351232
section
variable {w w' : World} {B B' n : Nat} {A : Option Addr} {bs : List Bd}
theorem BindsAt.keep (h : BindsAt w B A n bs) (hk : ∀ p : Addr, p.block < B → w'.cell? p = w.cell? p) : BindsAt w' B A n bs :=
  ⟨h.len, fun hn => by
    obtain ⟨b, off, e, hb, hc⟩ := h.at_ hn
    refine ⟨b, off, e, hb, fun i hi => ?_⟩
    obtain ⟨h1, A', c, h2, h3, h4⟩ := hc i hi
    exact ⟨by rw [hk ⟨b, _, none⟩ hb]; exact h1, A', c, by rw [hk ⟨b, _, none⟩ hb]; exact h2, h3, h4.keep hk⟩, h.fit⟩
theorem BindsAt.below (h : BindsAt w B A n bs) (hb : Below B w w') : BindsAt w' B A n bs := h.keep fun _ hp => hb.cell hp
theorem BindsAt.more (h : BindsAt w B A n bs) (hB : B ≤ B') : BindsAt w B' A n bs :=
  ⟨h.len, fun hn => by
    obtain ⟨b, off, e, hb, hc⟩ := h.at_ hn
    refine ⟨b, off, e, by omega, fun i hi => ?_⟩
    obtain ⟨h1, A', c, h2, h3, h4⟩ := hc i hi
    exact ⟨h1, A', c, h2, h3, h4.more hB⟩, h.fit⟩
theorem BindsAt.on (h : BindsAt w w.heap.size A n bs) (hb : Below w.heap.size w w') : BindsAt w' w'.heap.size A n bs := (h.below hb).more hb.size
theorem BindsAt.drew (h : BindsAt w B A n bs) : BindsAt w.drew B A n bs := h.keep fun _ _ => rfl
theorem BindsAt.nil_ : BindsAt w B A 0 [] := ⟨rfl, fun h => absurd h (by omega), fun _ h => absurd h (by omega)⟩
end
def bindCells (bs : List Bd) (vs : List Value) : List Value := (bs.zip vs).flatMap fun p => [.int .i64 p.1.v, p.2]
theorem bindCells_nil : bindCells [] [] = [] := rfl
theorem bindCells_cons (b : Bd) (bs : List Bd) (u : Value) (vs : List Value) : bindCells (b :: bs) (u :: vs) = .int .i64 b.v :: u :: bindCells bs vs := by unfold bindCells; simp
theorem bindCells_length : ∀ (bs : List Bd) (vs : List Value), vs.length = bs.length → (bindCells bs vs).length = bs.length * 2
  | [], [], _ => rfl
  | b :: bs, u :: vs, h => by
    rw [bindCells_cons, List.length_cons, List.length_cons, List.length_cons, bindCells_length bs vs (by simpa using h)]; omega
theorem bindCells_snoc : ∀ (bs : List Bd) (vs : List Value) (b : Bd) (u : Value), vs.length = bs.length → bindCells (bs ++ [b]) (vs ++ [u]) = bindCells bs vs ++ [.int .i64 b.v, u]
  | [], [], b, u, _ => rfl
  | a :: bs, x :: vs, b, u, h => by
    rw [List.cons_append, List.cons_append, bindCells_cons, bindCells_cons, bindCells_snoc bs vs b u (by simpa using h)]; rfl
theorem bindCells_get : ∀ (bs : List Bd) (vs : List Value), vs.length = bs.length → ∀ i, i < bs.length → (bindCells bs vs)[i * 2]? = some (.int .i64 (bdAt bs i).v) ∧ (bindCells bs vs)[i * 2 + 1]? = some (valAt vs i)
  | b :: bs, u :: vs, h, 0, _ => by rw [bindCells_cons]; exact ⟨rfl, rfl⟩
  | b :: bs, u :: vs, h, i + 1, hi => by
    rw [bindCells_cons]
    have := bindCells_get bs vs (by simpa using h) i (by simpa using hi)
    have e : (i + 1) * 2 = i * 2 + 1 + 1 := by omega
    rw [e, List.getElem?_cons_succ, List.getElem?_cons_succ, List.getElem?_cons_succ, List.getElem?_cons_succ]
    exact this
/-- The value is a row of these binds, all of it in blocks from base on (or nil). -/
def OwnB (w : World) (base : Nat) (v : Value) (bs : List Bd) : Prop :=
  ∃ vs : List Value, vs.length = bs.length ∧ w.ownsRow base 41 2 v bs.length (bindCells bs vs) ∧ ∀ i, i < bs.length → OwnI w base (valAt vs i) (bdAt bs i).t
def BindsPost (bs : List Bd) (E : Int) (w : World) (e : Ending) (w' : World) : Prop :=
  ∃ v, e = .returned (.tuple #[v, .int .i64 E]) ∧ OwnB w' w.heap.size v bs ∧ Below w.heap.size w w'
def BindsRet (bs : List Bd) (w : World) (e : Ending) (w' : World) : Prop :=
  ∃ v, e = .returned v ∧ OwnB w' w.heap.size v bs ∧ Below w.heap.size w w'
theorem bind_info : (Try.prog.info? 41).map (fun i => (i.zero, i.size, i.bytes)) = some (some (.agg #[.int .i64 0, .slice none 0 0]), 2, 32) := by kernel_rfl
section
variable {w w' : World} {base base' : Nat} {v u : Value} {bs cs : List Bd} {xs : List Int}
theorem OwnB.nil_ : OwnB w base (.slice none 0 0) [] := ⟨[], rfl, ⟨rfl, .inl ⟨rfl, rfl⟩⟩, fun i hi => absurd hi (by simp)⟩
theorem OwnB.lower (h : OwnB w base v bs) (hb : base' ≤ base) : OwnB w base' v bs := by
  obtain ⟨vs, h1, h2, h3⟩ := h
  exact ⟨vs, h1, own_base h2 hb, fun i hi => (h3 i hi).lower hb⟩
theorem OwnB.cast (h : OwnB w base v bs) (e : bs = cs) : OwnB w base v cs := e ▸ h
theorem OwnB.on (h : OwnB w base v bs) (hb : Below w.heap.size w w') : OwnB w' base v bs := by
  obtain ⟨vs, h1, h2, h3⟩ := h
  exact ⟨vs, h1, owns_on h2 hb, fun i hi => (h3 i hi).on hb⟩
theorem OwnB.shape (h : OwnB w base v bs) : (v = .slice none 0 0 ∧ bs = []) ∨ ∃ g cap, v = .slice (some ⟨g, 0, none⟩) bs.length cap ∧ base ≤ g ∧ g < w.heap.size ∧ bs.length ≤ cap := by
  obtain ⟨vs, h1, h2, h3⟩ := h
  rcases h2.2 with ⟨h1, h2⟩ | ⟨g, cap, cur, hv, hg, hc, hn, _⟩
  · exact .inl ⟨h1, List.length_eq_zero_iff.1 h2⟩
  · exact .inr ⟨g, cap, hv, hg, (Array.getElem?_eq_some_iff.1 hc).1, hn⟩
theorem OwnB.bindsAt (h : OwnB w base v bs) (hf : ∀ i, i < bs.length → (bdAt bs i).t.length * 8 ≤ 140737488351232) : ∃ A cap, v = .slice A bs.length cap ∧ bs.length ≤ cap ∧ BindsAt w w.heap.size A bs.length bs := by
  have hs := h.shape
  obtain ⟨vs, h1, h2, h3⟩ := h
  rcases hs with ⟨rfl, rfl⟩ | ⟨g, cap, rfl, hg, hlt, hn⟩
  · exact ⟨_, _, rfl, Nat.le_refl _, BindsAt.nil_⟩
  · refine ⟨_, _, rfl, hn, rfl, fun hp => ⟨g, 0, rfl, hlt, fun i hi => ?_⟩, hf⟩
    obtain ⟨d0, d1⟩ := bindCells_get bs vs h1 i hi
    have c0 := h2.cellAt (i * 2) (by omega)
    have c1 := h2.cellAt (i * 2 + 1) (by omega)
    rw [d0] at c0
    rw [d1] at c1
    obtain ⟨A', c', e, hc', hi'⟩ := (h3 i hi).intsAt
    rw [e] at c1
    rw [Nat.zero_add]
    exact ⟨c0, A', c', c1, hc', hi'⟩
/-- 'x = append(x, b)' of binds, x and b's term made by the call. -/
theorem app_bind_op {o : Oper} {a : Act} {K : Act → World → Prop} {Q : Exit → Act → World → Prop} (s x : Operand)
    (ho : o.op = .call { callee := .builtin .append, args := #[s, x], argTypes := #[25, 25] })
    (base : Nat) (v : Value) (bs : List Bd) (y : Int) (t : List Int) (u : Value) (hs : a.eval s = v) (hown : OwnB w base v bs) (hu : OwnI w base u t) (hx : a.eval x = .slice (some ⟨w.heap.size, 0, none⟩) 1 1)
    (hlen : bs.length + 1 ≤ 4398046511104) (hbase : base ≤ w.heap.size)
    (h : ∀ v' w', OwnB w' base v' (bs ++ [⟨y, t⟩]) → Below base w w' → K (a.put o.dst v') w') : o.wp Try.prog a (w.alloc (.cells #[.int .i64 y, u] 41)) K Q := by
  obtain ⟨i0, hi0, hz0, hz1, hz2⟩ := info_parts bind_info
  have hsh := hown.shape
  obtain ⟨vs, k1, k2, k3⟩ := hown
  have k2' := World.ownsRow.alloc k2 (.cells #[.int .i64 y, u] 41)
  have hu1 : u.oneCell' = true := by rcases hu.shape with ⟨rfl, _⟩ | ⟨g, cap, rfl, _⟩ <;> rfl
  refine wp_append_own _ s x 25 ho base 41 i0 _ 2 32 Try.underlying25 hi0 hz0 hz1 hz2 rfl (by omega) v bs.length (bindCells bs vs) hs k2' ⟨w.heap.size, 0, none⟩ 1 1 [.int .i64 y, u] hx rfl
    (World.news_of_block (cs := #[.int .i64 y, u]) (t := 41) (fr := (0, 0)) (heap_alloc_new w _)) (by simp [hu1]; rfl) (by unfold maxLen; omega) (by omega) (by simp; omega) ?_
  intro v' w' h1 h2 _
  have hb : Below base (w.alloc (.cells #[.int .i64 y, u] 41)) w' := (Below.refl base _).grown h2 (by simp; omega) (fun k hk => by
    rcases hsh with ⟨rfl, _⟩ | ⟨g, cap, rfl, hg, _⟩
    · simp [Value.ownBlock] at hk
    · simp [Value.ownBlock] at hk; omega)
  refine h v' w' ⟨vs ++ [u], by simp [k1], ?_, fun i hi => ?_⟩ (below_un_new hb hbase)
  · rw [bindCells_snoc bs vs _ u k1]
    simpa using h1
  · have hne : (41 : TypeId) ≠ 3 := by decide
    by_cases e : i = bs.length
    · subst e
      rw [bdAt_right, ← k1, valAt_right]
      exact (hu.alloc _).grown k2' hne h2
    · have hi' : i < bs.length := by simp at hi; omega
      rw [bdAt_left hi', valAt_left (by omega)]
      exact ((k3 i hi').alloc _).grown k2' hne h2
theorem app_bind1 {ops : Array Oper} {rest : List Oper} {o : Oper} {a : Act} {Q : Exit → Act → World → Prop} (hgd : o.guard = none) (s x : Operand)
    (ho : o.op = .call { callee := .builtin .append, args := #[s, x], argTypes := #[25, 25] })
    (base : Nat) (v : Value) (bs : List Bd) (y : Int) (t : List Int) (u : Value) (hs : a.eval s = v) (hown : OwnB w base v bs) (hu : OwnI w base u t) (hx : a.eval x = .slice (some ⟨w.heap.size, 0, none⟩) 1 1)
    (hlen : bs.length + 1 ≤ 4398046511104) (hbase : base ≤ w.heap.size)
    (h : ∀ v' w', OwnB w' base v' (bs ++ [⟨y, t⟩]) → Below base w w' → wpList Try.prog ops Q rest (a.put o.dst v') w') : wpList Try.prog ops Q (o :: rest) a (w.alloc (.cells #[.int .i64 y, u] 41)) :=
  wpList_plain hgd fun _ hK => app_bind_op s x ho base v bs y t u hs hown hu hx hlen hbase fun v' w' h1 h2 => hK _ _ (h v' w' h1 h2)
theorem app_bind_step {ops : Array Oper} {o : Oper} {a : Act} {K : Act → World → Prop} {Q : Exit → Act → World → Prop} {E : Prop} (hgd : o.guard = none) (s x : Operand)
    (ho : o.op = .call { callee := .builtin .append, args := #[s, x], argTypes := #[25, 25] })
    (base : Nat) (v : Value) (bs : List Bd) (y : Int) (t : List Int) (u : Value) (hs : a.eval s = v) (hown : OwnB w base v bs) (hu : OwnI w base u t) (hx : a.eval x = .slice (some ⟨w.heap.size, 0, none⟩) 1 1)
    (hlen : bs.length + 1 ≤ 4398046511104) (hbase : base ≤ w.heap.size)
    (h : ∀ v' w', OwnB w' base v' (bs ++ [⟨y, t⟩]) → Below base w w' → K (a.put o.dst v') w') : if Region.wanted o (yielded ops a.tmps) = true then Oper.wp Try.prog o a (w.alloc (.cells #[.int .i64 y, u] 41)) K Q else E := by
  have hw : Region.wanted o (yielded ops a.tmps) = true := by simp [Region.wanted, hgd]
  rw [if_pos hw]
  exact app_bind_op s x ho base v bs y t u hs hown hu hx hlen hbase h

end
end Go.Proofs.Ytlpafnaokpjoiaa
namespace Go.Proofs.Ytlpafnaokpjoiaa
open Go.RowKit
set_option linter.unusedSimpArgs false
set_option linter.unusedVariables false
set_option maxHeartbeats 1000000 in
theorem isVar_any (A : Option Addr) (m c B : Nat) (t : List Int) (v : Int) (w : World) (h : IntsAt w B A m t) (hm : m ≤ maxLen) (hv0 : 0 ≤ v) (hv1 : v ≤ 23) :
    Calls Try.prog 33 #[.slice A m c, .int .i64 v] w fun e w' => e = .returned (.bool (isV t v)) ∧ w = w' := by
  unfold maxLen at hm
  have HL := Lib.hid h.len
  by_cases h1 : m = 1
  · subst h1
    obtain ⟨b, off, rfl, _, hc⟩ := h.at_ (by omega)
    have c0 : w.cell? ⟨b, off + 0, none⟩ = some (.int .i64 (intAt t 0)) := hc 0 (by omega)
    rw [Nat.add_zero] at c0
    clear hc
    by_cases h0 : intAt t 0 = -1 - v
    · have H := Lib.hid (isV_yes HL.out h0)
      rw [h0] at c0
      clear h0
      go_enter Try.func33, Try.ntmps33
      go_wp2
      go_ret
      exact ⟨ret_b H.out.symm, rfl⟩
    · have H := Lib.hid (isV_no h0)
      go_enter Try.func33, Try.ntmps33
      go_wp2
      go_ret
      exact ⟨ret_b (by rw [H.out]; simpa using h0), rfl⟩
  · have H := Lib.hid (isV_len (v := v) (by rw [HL.out]; exact h1))
    go_enter Try.func33, Try.ntmps33
    go_wp2
    go_ret
    exact ⟨ret_b H.out.symm, rfl⟩

set_option maxHeartbeats 2000000 in
theorem bindMay_any (A A' : Option Addr) (n c m c' : Nat) (ss : List Sym) (bs : List Bd) (w : World) (h : SymsAt w w.heap.size A n ss) (hn : n ≤ maxLen) (hnc : n ≤ c) (hr : BindsAt w w.heap.size A' m bs) (hm : m ≤ 4398046511104) :
    Calls Try.prog 18 #[.slice A n c, .slice A' m c'] w fun e w' => e = .returned (.bool (bindB ss bs)) ∧ Below w.heap.size w w' := by
  have HL := Lib.hid hr.len
  have HS := Lib.hid h
  have HR := Lib.hid hr
  cases hmay : mayB ss
  · have H := Lib.hid (bindB_no (bs := bs) hmay)
    clear hr
    go_enter Try.func18, Try.ntmps18
    go_wp2_with fail
    refine (may_any A n c ss _ h hn hnc).mono ?_
    rintro e w1 ⟨rfl, hb1⟩
    rw [hmay]
    clear hmay h
    go_wp2
    go_ret
    exact ⟨ret_b H.out.symm, hb1⟩
  · have H := Lib.hid (bindB_yes (bs := bs) hmay)
    clear hr
    go_enter Try.func18, Try.ntmps18
    go_wp2_with fail
    refine (may_any A n c ss _ h hn hnc).mono ?_
    rintro e w1 ⟨rfl, hb1⟩
    rw [hmay]
    have HB1 := Lib.hid hb1
    clear hmay h hb1
    go_wp2
    go_loopw [5, 13] (fun q i wr => ∃ (k : Nat) (lo : Int), q = .int .i64 lo ∧ i = .int .i64 k ∧ k ≤ m ∧ 0 ≤ lo ∧ lo ≤ 24 ∧ bdsB ss 0 bs = bdsB ss lo (bs.drop k) ∧ Below w.heap.size w wr) (fun _ i _ => m - (intOf i).toNat)
    case atStart => exact ⟨0, 0, rfl, rfl, by omega, by omega, by omega, rfl, HB1.out⟩
    case round =>
      obtain ⟨k, lo, rfl, rfl, hk, hl0, hl1, heq, hbw⟩ := hrel
      have HEQ := Lib.hid heq
      have HBW := Lib.hid hbw
      clear heq hbw
      by_cases hlt : k < m
      · have hkl : k < bs.length := by rw [HL.out]; exact hlt
        have HST := Lib.hid (bdsB_step (ss := ss) (lo := lo) hkl)
        obtain ⟨b, off, rfl, hb, hc⟩ := (HR.out.on HBW.out).at_ (by omega)
        obtain ⟨c0, A2, c2, c1, hc2, hi2⟩ := hc k hlt
        have hfit := HR.out.fit k hlt
        clear hc hkl
        obtain ⟨bd, hbd⟩ : ∃ bd, bd = bdAt bs k := ⟨_, rfl⟩
        rw [← hbd] at c0 c1 hc2 hi2 hfit HST
        clear hbd
        have HI := Lib.hid hi2
        clear hi2
        have no (hF : bdB ss lo bd = false) : bindB ss bs = false := by rw [H.out, HEQ.out, HST.out, hF]; rfl
        have NO := Lib.hid no
        clear no
        have hi0 : (0 : Int) ≤ (k : Int) := by omega
        have hi3 : (k : Int) < (m : Int) := by omega
        by_cases h1 : bd.v < lo
        · have HN := Lib.hid (NO.out (bdB_lo h1))
          go_wp2
          go_ret
          exact ⟨ret_b HN.out.symm, HBW.out.trans ((below_new _ _).mono HBW.out.size)⟩
        · by_cases h2 : 23 < bd.v
          · have HN := Lib.hid (NO.out (bdB_hi h2))
            go_wp2
            go_ret
            exact ⟨ret_b HN.out.symm, HBW.out.trans ((below_new _ _).mono HBW.out.size)⟩
          · cases h3 : oneB ss bd.t
            · have HN := Lib.hid (NO.out (bdB_one h3))
              go_wp2_with fail
              refine (isTerm_any A A2 n c _ c2 ss bd.t _ (HS.out.on (HBW.out.trans ((below_new _ _).mono HBW.out.size))) hn hnc (HI.out.on (below_new _ _)) (by unfold maxLen; omega)).mono ?_
              rintro e w2 ⟨rfl, hb2⟩
              rw [h3]
              have HB2 := Lib.hid ((HBW.out.trans ((below_new _ _).mono HBW.out.size)).trans (hb2.mono (HBW.out.trans ((below_new _ _).mono HBW.out.size)).size))
              clear h3 hb2
              go_wp2
              go_ret
              exact ⟨ret_b HN.out.symm, HB2.out⟩
            · have H3 := Lib.hid h3
              have hv0 : 0 ≤ bd.v := by omega
              have hv1 : bd.v ≤ 23 := by omega
              cases h4 : isV bd.t bd.v
              all_goals
                go_wp2_with fail
                refine (isTerm_any A A2 n c _ c2 ss bd.t _ (HS.out.on (HBW.out.trans ((below_new _ _).mono HBW.out.size))) hn hnc (HI.out.on (below_new _ _)) (by unfold maxLen; omega)).mono ?_
                rintro e w2 ⟨rfl, hb2⟩
                rw [h3]
                have HI2 := Lib.hid ((HI.out.on (below_new _ _)).on hb2)
                have HB2 := Lib.hid ((HBW.out.trans ((below_new _ _).mono HBW.out.size)).trans (hb2.mono (HBW.out.trans ((below_new _ _).mono HBW.out.size)).size))
                have e0 : w2.cell? ⟨wr.heap.size, 0, none⟩ = some (.int .i64 bd.v) := by rw [hb2.cell (p := ⟨wr.heap.size, 0, none⟩) (by simp)]; rw [World.cell?_alloc_new]; rfl
                have e1 : w2.cell? ⟨wr.heap.size, 1, none⟩ = some (.slice A2 bd.t.length c2) := by rw [hb2.cell (p := ⟨wr.heap.size, 1, none⟩) (by simp)]; rw [World.cell?_alloc_new]; rfl
                clear h3 hb2
                go_wp2_with fail
                refine (isVar_any A2 _ c2 _ bd.t bd.v _ HI2.out (by unfold maxLen; omega) hv0 hv1).mono ?_
                rintro e w3 ⟨rfl, rfl⟩
                rw [h4]
                go_wp2
              · go_roundw
                case rel => exact ⟨k + 1, bd.v + 1, by go_num, by go_num, by omega, by omega, by omega, by rw [HEQ.out, HST.out, bdB_good (by omega) hv1 H3.out h4]; rfl, HB2.out⟩
                case measure => simp [intOf]; omega
              · have HN := Lib.hid (NO.out (bdB_var h4))
                go_ret
                exact ⟨ret_b HN.out.symm, HB2.out⟩
      · obtain rfl : k = m := by omega
        have HN : Hid (bindB ss bs = true) := by show bindB ss bs = true; rw [H.out, HEQ.out, List.drop_of_length_le (by rw [HL.out]; omega)]; rfl
        go_wp2
        go_ret
        exact ⟨ret_b HN.out.symm, HBW.out⟩

end Go.Proofs.Ytlpafnaokpjoiaa
namespace Go.Proofs.Ytlpafnaokpjoiaa
open Go.RowKit Go.Deep
set_option linter.unusedSimpArgs false
set_option linter.unusedVariables false
section
variable {ss : List Sym} {bs : List Bd} {w w' : World} {B k : Nat} {f : Nat → Value}
end
set_option maxHeartbeats 2000000 in
theorem replace_any (A A' : Option Addr) (n c m c' : Nat) (ss : List Sym) (bs : List Bd) (r : List Int) (w : World) (h : BindsAt w w.heap.size A n bs) (hn : n ≤ 4398046511104) (hv : bdsB ss 0 bs = true) (hr : IntsAt w w.heap.size A' m r) (hm : m ≤ 48) (h24 : ∀ i, i < m → -24 ≤ intAt r i) :
    Calls Try.prog 30 #[.slice A n c, .slice A' m c'] w (PutPost bs r w) := by
  have HS := Lib.hid h
  have HR := Lib.hid hr
  have HL := Lib.hid hr.len
  have HLB := Lib.hid h.len
  have HV := Lib.hid hv
  have H24 := Lib.hid h24
  have HROW : Hid ((w.alloc (.cells #[.slice none 0 0, .slice none 0 0, .slice none 0 0, .slice none 0 0, .slice none 0 0, .slice none 0 0, .slice none 0 0, .slice none 0 0, .slice none 0 0, .slice none 0 0, .slice none 0 0, .slice none 0 0, .slice none 0 0, .slice none 0 0, .slice none 0 0, .slice none 0 0, .slice none 0 0, .slice none 0 0, .slice none 0 0, .slice none 0 0, .slice none 0 0, .slice none 0 0, .slice none 0 0, .slice none 0 0] 83)).rowIs w.heap.size 83 24 (fun _ => .slice none 0 0)) :=
    rows24 w
  clear h hr hv h24
  go_enter Try.func30, Try.ntmps30
  go_wp2
  go_loopw [14] (fun i wr => ∃ (k : Nat) (f : Nat → Value), i = .int .i64 k ∧ k ≤ n ∧ wr.rowIs w.heap.size 83 24 f ∧ Filled w w.heap.size bs k f ∧ Below w.heap.size w wr) (fun i _ => n - (intOf i).toNat)
  case atStart => exact ⟨0, _, rfl, by omega, HROW.out, Filled.zero, below_new _ _⟩
  case round =>
    clear HROW
    obtain ⟨k, f, rfl, hk, hrow, hfil, hbw⟩ := hrel
    have HBW := Lib.hid hbw
    have HROW := Lib.hid hrow
    have HFIL := Lib.hid hfil
    clear hbw hrow hfil
    by_cases hlt : k < n
    · have hkl : k < bs.length := by rw [HLB.out]; exact hlt
      obtain ⟨b, off, rfl, hb, hc⟩ := HS.out.at_ (by omega)
      obtain ⟨c0, A2, c2, c1, hc2, hi2⟩ := hc k hlt
      rw [← HBW.out.cell (p := ⟨b, _, none⟩) hb] at c0 c1
      have HF2 := Lib.hid (HFIL.out.step HV.out hkl (c := c2) hi2)
      obtain ⟨hv0, hv1, _, _⟩ := bdsB_at HV.out hkl
      obtain ⟨v, hv⟩ : ∃ v : Nat, (bdAt bs k).v = (v : Int) := ⟨(bdAt bs k).v.toNat, by omega⟩
      rw [hv] at c0 hv1 HF2
      rw [Int.toNat_natCast] at HF2
      have hcA : ∀ o, (wr.alloc o).cell? ⟨w.heap.size, v, none⟩ = some (f v) := fun o => (HROW.out.alloc o).cell (by omega)
      have hfA : ∀ o, (wr.alloc o).frozen? ⟨w.heap.size, v, none⟩ = false := fun o => (HROW.out.alloc o).frozen v
      clear hc hi2 hv0 hv
      have hi0 : (0 : Int) ≤ (k : Int) := by omega
      have hi3 : (k : Int) < (n : Int) := by omega
      have hj0 : (0 : Int) ≤ (v : Int) := by omega
      have hj1 : (v : Int) < 24 := by omega
      go_wp2
      go_roundw
      case rel => exact ⟨k + 1, _, by go_num, by omega, (HROW.out.alloc _).set v _, HF2.out, ((HBW.out.trans ((below_new _ _).mono HBW.out.size))).setCell (Nat.le_refl _) _⟩
      case measure => simp [intOf]; omega
    · obtain rfl : k = n := by omega
      obtain ⟨wA, hwA⟩ : ∃ wA, wA = wr := ⟨_, rfl⟩
      subst hwA
      have hsz := HBW.out.size
      have hgl := HROW.out.lt
      rw [← HLB.out] at HFIL
      go_wp2
      go_loopw [9, 26] (fun q i wr => ∃ j : Nat, i = .int .i64 j ∧ j ≤ m ∧ OwnI wr (w.heap.size + 1) q (put bs (r.take j)) ∧ (put bs (r.take j)).length ≤ 48 ∧ Below (w.heap.size + 1) wA wr) (fun _ i _ => m - (intOf i).toNat)
      case atStart => exact ⟨0, rfl, by omega, OwnI.nil_, by simp [put], Below.refl _ _⟩
      case round =>
        obtain ⟨j, rfl, hj, hown, h48, hbr⟩ := hrel
        have HOWN := Lib.hid hown
        have H48 := Lib.hid h48
        have HBR := Lib.hid hbr
        have hgr := hbr.size
        have HROW2 := Lib.hid (HROW.out.of_block (hbr.block w.heap.size (by omega)))
        clear hown h48 hbr
        by_cases hjm : j < m
        · have hjl : j < r.length := by rw [HL.out]; exact hjm
          have HPT := Lib.hid (put_take (bs := bs) hjl)
          obtain ⟨b', off', rfl, hb', hc'⟩ := HR.out.at_ (by omega)
          have hcx : wr.cell? ⟨b', off' + j, none⟩ = some (.int .i64 (intAt r j)) := by
            rw [HBR.out.cell (p := ⟨b', _, none⟩) (by show b' < _; omega), HBW.out.cell (p := ⟨b', _, none⟩) hb']; exact hc' j hjm
          have h24 := H24.out j hjm
          obtain ⟨x, hx⟩ : ∃ x, x = intAt r j := ⟨_, rfl⟩
          rw [← hx] at hcx h24 HPT
          clear hc' hjl hx
          have hi0 : (0 : Int) ≤ (j : Int) := by omega
          have hi3 : (j : Int) < (m : Int) := by omega
          by_cases hx0 : x < 0
          · obtain ⟨v, rfl⟩ : ∃ v : Nat, x = -1 - (v : Int) := ⟨(-1 - x).toNat, by omega⟩
            have hcell := HROW2.out.cell (i := v) (by omega)
            have hj0 : (0 : Int) ≤ (v : Int) := by omega
            have hj1 : (v : Int) < 24 := by omega
            have hxv : -1 - (-1 - (v : Int)) = (v : Int) := by omega
            rcases HFIL.out.look HV.out v with ⟨t, b3, o3, c3, q1, q2, q3, q4, q5⟩ | ⟨q1, q4⟩
            · rw [q4] at hcell
              have HP1 : Hid (put1 bs (-1 - (v : Int)) = t) := put1_var (by omega) (by rw [hxv]; exact q1)
              have HI3 := Lib.hid (q5.below (HBW.out.trans (HBR.out.mono (by omega))))
              clear q1 q4 q5
              go_wp2_with (at_builtin
                           refine app_ints rfl (.tmp 39) (.tmp 43) rfl (w.heap.size + 1) _ (put bs (r.take j)) rfl HOWN.out (some ⟨b3, o3, none⟩) t.length c3 w.heap.size t rfl (fun h => by cases h) HI3.out (by have := H48.out; omega) (by omega) ?_
                           intro v2 w2 hown2 hb2
                           obtain ⟨A4, cap4, rfl, _, _⟩ := hown2.intsAt
                           have HO2 := Lib.hid (hown2.cast (ys := put bs (r.take (j + 1))) (by rw [HPT.out, HP1.out]))
                           have HB2 := Lib.hid hb2
                           obtain ⟨L, hL⟩ : ∃ L, L = (put bs (r.take j) ++ t).length := ⟨_, rfl⟩
                           have HLL : Hid (L = (put bs (r.take (j + 1))).length) := by show L = _; rw [hL, HPT.out, HP1.out]
                           have hL2 : L ≤ 96 := by rw [hL, List.length_append]; have := H48.out; simp; omega
                           rw [← hL] at HO2 ⊢
                           clear hown2 hb2 hL)
              · rename_i hover
                go_ret2
                exact ⟨_, ret_vb (BAD HLL.out (by omega)).symm, OwnI.nil_.cast (badR HLL.out (by omega)).symm, (HBW.out.trans (HBR.out.mono (by omega))).trans (HB2.out.mono (by omega))⟩
              · rename_i hover
                go_roundw
                case rel => exact ⟨j + 1, by go_num, by omega, HO2.out, by rw [← HLL.out]; omega, HBR.out.trans HB2.out⟩
                case measure => simp [intOf]; omega
            · have HP1 : Hid (put1 bs (-1 - (v : Int)) = [-1 - (v : Int)]) := put1_free (by rw [hxv]; exact q1)
              rw [q4] at hcell
              clear q1 q4
              go_wp2_with (at_builtin
                           refine app_int1 rfl (.tmp 45) (.tmp 47) rfl (w.heap.size + 1) _ (put bs (r.take j)) (-1 - (v : Int)) rfl HOWN.out rfl (by have := H48.out; omega) (by omega) ?_
                           intro v2 w2 hown2 hb2
                           obtain ⟨A4, cap4, rfl, _, _⟩ := hown2.intsAt
                           have HO2 := Lib.hid (hown2.cast (ys := put bs (r.take (j + 1))) (by rw [HPT.out, HP1.out]))
                           have HB2 := Lib.hid hb2
                           obtain ⟨L, hL⟩ : ∃ L, L = (put bs (r.take j) ++ [-1 - (v : Int)]).length := ⟨_, rfl⟩
                           have HLL : Hid (L = (put bs (r.take (j + 1))).length) := by show L = _; rw [hL, HPT.out, HP1.out]
                           have hL2 : L ≤ 96 := by rw [hL, List.length_append]; have := H48.out; simp; omega
                           rw [← hL] at HO2 ⊢
                           clear hown2 hb2 hL)
              · rename_i hover
                go_ret2
                exact ⟨_, ret_vb (BAD HLL.out (by omega)).symm, OwnI.nil_.cast (badR HLL.out (by omega)).symm, (HBW.out.trans (HBR.out.mono (by omega))).trans (HB2.out.mono (by omega))⟩
              · rename_i hover
                go_roundw
                case rel => exact ⟨j + 1, by go_num, by omega, HO2.out, by rw [← HLL.out]; omega, HBR.out.trans HB2.out⟩
                case measure => simp [intOf]; omega
          · have HP1 : Hid (put1 bs x = [x]) := put1_sym hx0
            go_wp2_with (at_builtin
                         refine app_int1 rfl (.tmp 45) (.tmp 47) rfl (w.heap.size + 1) _ (put bs (r.take j)) x rfl HOWN.out rfl (by have := H48.out; omega) (by omega) ?_
                         intro v2 w2 hown2 hb2
                         obtain ⟨A4, cap4, rfl, _, _⟩ := hown2.intsAt
                         have HO2 := Lib.hid (hown2.cast (ys := put bs (r.take (j + 1))) (by rw [HPT.out, HP1.out]))
                         have HB2 := Lib.hid hb2
                         obtain ⟨L, hL⟩ : ∃ L, L = (put bs (r.take j) ++ [x]).length := ⟨_, rfl⟩
                         have HLL : Hid (L = (put bs (r.take (j + 1))).length) := by show L = _; rw [hL, HPT.out, HP1.out]
                         have hL2 : L ≤ 96 := by rw [hL, List.length_append]; have := H48.out; simp; omega
                         rw [← hL] at HO2 ⊢
                         clear hown2 hb2 hL)
            · rename_i hover
              go_ret2
              exact ⟨_, ret_vb (BAD HLL.out (by omega)).symm, OwnI.nil_.cast (badR HLL.out (by omega)).symm, (HBW.out.trans (HBR.out.mono (by omega))).trans (HB2.out.mono (by omega))⟩
            · rename_i hover
              go_roundw
              case rel => exact ⟨j + 1, by go_num, by omega, HO2.out, by rw [← HLL.out]; omega, HBR.out.trans HB2.out⟩
              case measure => simp [intOf]; omega
        · obtain rfl : j = m := by omega
          have HE : Hid (put bs (r.take j) = put bs r) := by show put bs (r.take j) = put bs r; rw [List.take_of_length_le (by rw [HL.out]; omega)]
          have HOK : Hid (putOk bs r = true) := by show putOk bs r = true; unfold putOk; rw [← HE.out]; exact decide_eq_true H48.out
          have HRR : Hid (putR bs r = put bs r) := by show putR bs r = put bs r; unfold putR; rw [HOK.out]; rfl
          go_wp2
          go_ret2
          exact ⟨_, ret_vb HOK.out.symm, (HOWN.out.lower (by omega)).cast (by rw [HRR.out, HE.out]), HBW.out.trans (HBR.out.mono (by omega))⟩

end Go.Proofs.Ytlpafnaokpjoiaa
namespace Go.Proofs.Ytlpafnaokpjoiaa
open Go.RowKit Go.Deep
set_option linter.unusedSimpArgs false
set_option linter.unusedVariables false
set_option maxHeartbeats 1000000 in
theorem apply_any (A A1 A2 : Option Addr) (n c n1 c1 n2 c2 : Nat) (ss : List Sym) (bs : List Bd) (r : List Int) (w : World) (h : SymsAt w w.heap.size A n ss) (hn : n ≤ maxLen) (hnc : n ≤ c) (hb : BindsAt w w.heap.size A1 n1 bs) (hn1 : n1 ≤ 4398046511104) (hr : IntsAt w w.heap.size A2 n2 r) (hn2 : n2 ≤ maxLen) :
    Calls Try.prog 17 #[.slice A n c, .slice A1 n1 c1, .slice A2 n2 c2] w (IntsPost (applyR ss bs r) (applyE ss bs r) w) := by
  have HS := Lib.hid h
  have HB := Lib.hid hb
  have HR := Lib.hid hr
  have HL := Lib.hid hr.len
  clear hb hr
  cases h1 : bindB ss bs
  · obtain ⟨q1, q2⟩ := applyE_no (ss := ss) (bs := bs) (r := r) (by rw [h1]; rfl)
    have Q1 := Lib.hid q1
    have Q2 := Lib.hid q2
    clear q1 q2
    go_enter Try.func17, Try.ntmps17
    go_wp2_with fail
    refine (bindMay_any A A1 n c n1 c1 ss bs _ HS.out hn hnc HB.out hn1).mono ?_
    rintro e w1 ⟨rfl, hb1⟩
    rw [h1]
    clear h1
    go_wp2
    go_ret2
    exact ⟨_, ret_vi Q1.out.symm, OwnI.nil_.cast Q2.out.symm, hb1⟩
  · have H1 := Lib.hid h1
    cases h2 : rowB ss r
    · obtain ⟨q1, q2⟩ := applyE_no (ss := ss) (bs := bs) (r := r) (by rw [h1, h2]; rfl)
      have Q1 := Lib.hid q1
      have Q2 := Lib.hid q2
      clear q1 q2
      go_enter Try.func17, Try.ntmps17
      go_wp2_with fail
      refine (bindMay_any A A1 n c n1 c1 ss bs _ HS.out hn hnc HB.out hn1).mono ?_
      rintro e w1 ⟨rfl, hb1⟩
      rw [h1]
      clear h1
      go_wp2_with fail
      refine (isRow_any A A2 n c n2 c2 ss r _ (HS.out.on hb1) hn hnc (HR.out.on hb1) hn2).mono ?_
      rintro e w2 ⟨rfl, hb2⟩
      rw [h2]
      clear h2
      go_wp2
      go_ret2
      exact ⟨_, ret_vi Q1.out.symm, OwnI.nil_.cast Q2.out.symm, hb1.trans (hb2.mono hb1.size)⟩
    · obtain ⟨q1, q2⟩ := applyE_yes h1 h2
      have Q1 := Lib.hid q1
      have Q2 := Lib.hid q2
      obtain ⟨_, hl48, hms⟩ := row_parts h2
      rw [HL.out] at hl48
      have H24 := Lib.hid (codes24 hms)
      rw [HL.out] at H24
      clear q1 q2 hms
      cases h3 : putOk bs r
      all_goals
        go_enter Try.func17, Try.ntmps17
        go_wp2_with fail
        refine (bindMay_any A A1 n c n1 c1 ss bs _ HS.out hn hnc HB.out hn1).mono ?_
        rintro e w1 ⟨rfl, hb1⟩
        rw [h1]
        go_wp2_with fail
        refine (isRow_any A A2 n c n2 c2 ss r _ (HS.out.on hb1) hn hnc (HR.out.on hb1) hn2).mono ?_
        rintro e w2 ⟨rfl, hb2⟩
        rw [h2]
        have hb12 := hb1.trans (hb2.mono hb1.size)
        have HB12 := Lib.hid hb12
        clear h2 hb1 hb2
        go_wp2_with fail
        refine (replace_any A1 A2 n1 c1 n2 c2 ss bs r _ (HB.out.on HB12.out) hn1 (bind_valid h1) (HR.out.on HB12.out) hl48 H24.out).mono ?_
        rintro e w3 ⟨v3, rfl, hv3, hb3⟩
        rw [h3]
        have HV3 := Lib.hid (hv3.lower HB12.out.size)
        have HB3 := Lib.hid (HB12.out.trans (hb3.mono HB12.out.size))
        clear h1 hb3 hv3 hb12
        go_wp2
        go_ret2
      · exact ⟨_, ret_vi (by rw [Q1.out, h3]; rfl), OwnI.nil_.cast (by rw [Q2.out]; unfold putR; rw [h3]; rfl), HB3.out⟩
      · exact ⟨_, ret_vi (by rw [Q1.out, h3]; rfl), HV3.out.cast Q2.out.symm, HB3.out⟩

set_option maxHeartbeats 1000000 in
theorem follow_any (A1 A2 : Option Addr) (n1 c1 n2 c2 v : Nat) (ss : List Sym) (bs us : List Bd) (w : World) (hb : BindsAt w w.heap.size A1 n1 bs) (hn1 : n1 ≤ 4398046511104) (hu : BindsAt w w.heap.size A2 n2 us) (hn2 : n2 ≤ 4398046511104)
    (h1 : bindB ss bs = true) (h2 : bindB ss us = true) (hv : v < 24) :
    Calls Try.prog 34 #[.slice A1 n1 c1, .slice A2 n2 c2, .int .i64 v] w (FollowPost bs us v w) := by
  have HB := Lib.hid hb
  have HU := Lib.hid hu
  have H1 := Lib.hid h1
  have H2 := Lib.hid h2
  have hP : putOk bs [-1 - (v : Int)] = true := by unfold putOk; rw [put_one]; exact decide_eq_true (put1_short h1 _)
  have HPR : Hid (putR bs [-1 - (v : Int)] = put1 bs (-1 - (v : Int))) := by show putR bs _ = _; unfold putR; rw [hP, put_one]; rfl
  obtain ⟨_, ms, hms, _⟩ := tl_both h1 h2 hv
  have H24 := Lib.hid (codes24 hms)
  have HSH := Lib.hid (put1_short h1 (-1 - (v : Int)))
  clear hb hu h1 h2 hms
  go_enter Try.func34, Try.ntmps34
  go_wp2_with fail
  refine (replace_any A1 _ n1 c1 1 1 ss bs [-1 - (v : Int)] _ (HB.out.on (below_new _ _)) hn1 (bind_valid H1.out) (IntsAt.news w [-1 - (v : Int)]) (by omega) (fun i hi => ?_)).mono ?_
  · obtain rfl : i = 0 := by omega
    show -24 ≤ -1 - (v : Int); omega
  rintro e w1 ⟨v1, rfl, hv1, hb1⟩
  rw [hP]
  rw [HPR.out] at hv1
  have HB1 := Lib.hid ((below_new w (.cells #[.int .i64 (-1 - (v : Int))] 3)).trans (hb1.mono (by simp)))
  obtain ⟨A3, cap3, rfl, hc3, hi3⟩ := hv1.intsAt
  have HI3 := Lib.hid hi3
  clear hb1 hv1 hi3
  go_wp2_with fail
  refine (replace_any A2 A3 n2 c2 _ cap3 ss us _ _ (HU.out.on HB1.out) hn2 (bind_valid H2.out) HI3.out HSH.out H24.out).mono ?_
  rintro e w2 ⟨v2, rfl, hv2, hb2⟩
  have HV2 := Lib.hid (hv2.lower HB1.out.size)
  have HB2 := Lib.hid (HB1.out.trans (hb2.mono HB1.out.size))
  clear hv2 hb2
  go_wp2
  go_ret2
  exact ⟨_, rfl, HV2.out, HB2.out⟩

set_option maxHeartbeats 2000000 in
theorem then_any (A A1 A2 : Option Addr) (n c n1 c1 n2 c2 : Nat) (ss : List Sym) (bs us : List Bd) (w : World) (h : SymsAt w w.heap.size A n ss) (hn : n ≤ maxLen) (hnc : n ≤ c) (hb : BindsAt w w.heap.size A1 n1 bs) (hn1 : n1 ≤ 4398046511104) (hu : BindsAt w w.heap.size A2 n2 us) (hn2 : n2 ≤ 4398046511104) :
    Calls Try.prog 20 #[.slice A n c, .slice A1 n1 c1, .slice A2 n2 c2] w (BindsPost (thenR ss bs us) (thenE ss bs us) w) := by
  have HS := Lib.hid h
  have HB := Lib.hid hb
  have HU := Lib.hid hu
  clear hb hu
  cases h1 : bindB ss bs
  · obtain ⟨q1, q2⟩ := thenE_no (ss := ss) (bs := bs) (us := us) (by rw [h1]; rfl)
    have Q1 := Lib.hid q1
    have Q2 := Lib.hid q2
    clear q1 q2
    go_enter Try.func20, Try.ntmps20
    go_wp2_with fail
    refine (bindMay_any A A1 n c n1 c1 ss bs _ HS.out hn hnc HB.out hn1).mono ?_
    rintro e w1 ⟨rfl, hb1⟩
    rw [h1]
    clear h1
    go_wp2
    go_ret2
    exact ⟨_, ret_vi Q1.out.symm, OwnB.nil_.cast Q2.out.symm, hb1⟩
  · have H1 := Lib.hid h1
    cases h2 : bindB ss us
    · obtain ⟨q1, q2⟩ := thenE_no (ss := ss) (bs := bs) (us := us) (by rw [h1, h2]; rfl)
      have Q1 := Lib.hid q1
      have Q2 := Lib.hid q2
      clear q1 q2
      go_enter Try.func20, Try.ntmps20
      go_wp2_with fail
      refine (bindMay_any A A1 n c n1 c1 ss bs _ HS.out hn hnc HB.out hn1).mono ?_
      rintro e w1 ⟨rfl, hb1⟩
      rw [h1]
      clear h1
      go_wp2_with fail
      refine (bindMay_any A A2 n c n2 c2 ss us _ (HS.out.on hb1) hn hnc (HU.out.on hb1) hn2).mono ?_
      rintro e w2 ⟨rfl, hb2⟩
      rw [h2]
      clear h2
      go_wp2
      go_ret2
      exact ⟨_, ret_vi Q1.out.symm, OwnB.nil_.cast Q2.out.symm, hb1.trans (hb2.mono hb1.size)⟩
    · have H2 := Lib.hid h2
      go_enter Try.func20, Try.ntmps20
      go_wp2_with fail
      refine (bindMay_any A A1 n c n1 c1 ss bs _ HS.out hn hnc HB.out hn1).mono ?_
      rintro e w1 ⟨rfl, hb1⟩
      rw [h1]
      clear h1
      go_wp2_with fail
      refine (bindMay_any A A2 n c n2 c2 ss us _ (HS.out.on hb1) hn hnc (HU.out.on hb1) hn2).mono ?_
      rintro e w2 ⟨rfl, hb2⟩
      rw [h2]
      have HB12 := Lib.hid (hb1.trans (hb2.mono hb1.size))
      clear h2 hb1 hb2
      go_wp2
      go_loopw [8, 22] (fun q i wr => ∃ k : Nat, i = .int .i64 k ∧ k ≤ 24 ∧ OwnB wr w.heap.size q ((List.range k).filterMap (bothF bs us)) ∧ (∀ v, v < k → bothOk bs us v = true) ∧ Below w.heap.size w wr) (fun _ i _ => 24 - (intOf i).toNat)
      case atStart => exact ⟨0, rfl, by omega, OwnB.nil_, fun v hv => absurd hv (by omega), HB12.out⟩
      case round =>
        obtain ⟨k, rfl, hk, hown, hall, hbw⟩ := hrel
        have HOWN := Lib.hid hown
        have HALL := Lib.hid hall
        have HBW := Lib.hid hbw
        have hsz := hbw.size
        clear hown hall hbw
        by_cases hlt : k < 24
        · have hk23 : (k : Int) ≤ 23 := by omega
          have hk0 : (0 : Int) ≤ (k : Int) := by omega
          cases h3 : bothOk bs us k
          · obtain ⟨q1, q2⟩ := thenE_long H1.out H2.out hlt h3
            have Q1 := Lib.hid q1
            have Q2 := Lib.hid q2
            clear q1 q2
            go_wp2_with fail
            refine (follow_any A1 A2 n1 c1 n2 c2 k ss bs us _ (HB.out.on HBW.out) hn1 (HU.out.on HBW.out) hn2 H1.out H2.out hlt).mono ?_
            rintro e w3 ⟨v3, rfl, hv3, hb3⟩
            rw [h3]
            have HB3 := Lib.hid (HBW.out.trans (hb3.mono HBW.out.size))
            clear hv3 hb3 h3
            go_wp2
            go_ret2
            exact ⟨_, ret_vi Q1.out.symm, OwnB.nil_.cast Q2.out.symm, HB3.out⟩
          · have HA2 : Hid (∀ v, v < k + 1 → bothOk bs us v = true) := fun v hv => if e : v = k then by rw [e]; exact h3 else HALL.out v (by omega)
            have hln : (bothV bs us k).length ≤ 48 := of_decide_eq_true h3
            have HLN := Lib.hid hln
            clear hln
            cases h4 : isV (bothV bs us k) k
            all_goals
              go_wp2_with fail
              refine (follow_any A1 A2 n1 c1 n2 c2 k ss bs us _ (HB.out.on HBW.out) hn1 (HU.out.on HBW.out) hn2 H1.out H2.out hlt).mono ?_
              rintro e w3 ⟨v3, rfl, hv3, hb3⟩
              rw [h3] at hv3 ⊢
              have HO3 := Lib.hid (HOWN.out.on hb3)
              have HB3 := Lib.hid (HBW.out.trans (hb3.mono HBW.out.size))
              obtain ⟨A3, cap3, rfl, hc3, hi3⟩ := hv3.intsAt
              have HI3 := Lib.hid hi3
              have HV3 := Lib.hid (hv3.lower hsz)
              have hsz3 := HB3.out.size
              clear hv3 hb3 hi3
              go_wp2_with fail
              refine (isVar_any A3 _ cap3 _ _ (k : Int) _ HI3.out (by have := HLN.out; unfold maxLen; simp; omega) hk0 hk23).mono ?_
              rintro e w4 ⟨rfl, rfl⟩
              simp only [if_true]
              rw [h4]
            · have HUP := Lib.hid (upTo_more h4)
              go_wp2_with (at_builtin
                           refine app_bind1 rfl (.tmp 38) (.tmp 42) rfl w.heap.size _ _ (k : Int) (bothV bs us k) _ rfl HO3.out HV3.out rfl (by have := upTo_len (bs := bs) (us := us) (k := k); omega) hsz3 ?_
                           intro v5 w5 hown5 hb5
                           have HO5 := Lib.hid hown5
                           have HB5 := Lib.hid hb5
                           clear hown5 hb5)
              go_roundw
              case rel => exact ⟨k + 1, by go_num, by omega, HO5.out.cast HUP.out.symm, HA2.out, HB3.out.trans HB5.out⟩
              case measure => simp [intOf]; omega
            · have HUP := Lib.hid (upTo_same h4)
              go_wp2
              go_roundw
              case rel => exact ⟨k + 1, by go_num, by omega, HO3.out.cast HUP.out.symm, HA2.out, HB3.out⟩
              case measure => simp [intOf]; omega
        · obtain rfl : k = 24 := by omega
          obtain ⟨q1, q2⟩ := thenE_good H1.out H2.out HALL.out
          have Q1 := Lib.hid q1
          have Q2 := Lib.hid q2
          clear q1 q2
          go_wp2
          go_ret2
          exact ⟨_, ret_vi Q1.out.symm, HOWN.out.cast Q2.out.symm, HBW.out⟩

end Go.Proofs.Ytlpafnaokpjoiaa
namespace Go.Proofs.Ytlpafnaokpjoiaa
open Go.RowKit
set_option linter.unusedSimpArgs false
set_option linter.unusedVariables false
theorem BindsAt.drewN {w : World} {B n : Nat} {A : Option Addr} {bs : List Bd} (h : BindsAt w B A n bs) (k : Nat) : BindsAt (w.drewN k) B A n bs := h.keep fun _ _ => rfl
end Go.Proofs.Ytlpafnaokpjoiaa
namespace Go.Proofs.Ytlpafnaokpjoiaa
open Go.RowKit Go.Deep
set_option linter.unusedSimpArgs false
set_option linter.unusedVariables false
set_option maxHeartbeats 1000000 in
theorem spoilBinds_any (v : Value) (base : Nat) (bs : List Bd) (w : World) (h : OwnB w base v bs) (hn : bs.length ≤ 4398046511104) (hf : ∀ i, i < bs.length → (bdAt bs i).t.length ≤ 17592186044416) :
    Calls Try.prog 14 #[v] w fun e w' => e = .returned (.tuple #[]) ∧ Below base w w' := by
  have HF := Lib.hid hf
  obtain ⟨n, hl⟩ : ∃ n, bs.length = n := ⟨_, rfl⟩
  obtain ⟨vs, h1, h2, h3⟩ := h
  have HV := Lib.hid h1
  have HR := Lib.hid h2
  have HI := Lib.hid h3
  have HL := Lib.hid hl
  obtain ⟨A, cap, rfl⟩ : ∃ A cap, v = .slice A n cap := by
    rcases h2.2 with ⟨rfl, h0⟩ | ⟨g, cap, cur, hv, _⟩
    · exact ⟨none, 0, by rw [← hl, h0]⟩
    · exact ⟨_, cap, by rw [← hl]; exact hv⟩
  rw [hl] at hn
  clear h1 h2 h3 hf hl
  go_enter Try.func14, Try.ntmps14
  go_wp2
  go_loopw [2] (fun i wr => ∃ k : Nat, i = .int .i64 k ∧ k ≤ n ∧ Spoilt base w wr) (fun i _ => n - (intOf i).toNat)
  case atStart => exact ⟨0, rfl, by omega, Spoilt.refl _ _⟩
  case round =>
    obtain ⟨k, rfl, hk, hsp⟩ := hrel
    have HSP := Lib.hid hsp
    clear hsp
    by_cases hlt : k < n
    · have hkl : k < bs.length := by rw [HL.out]; exact hlt
      have hr := HSP.out.rows _ _ _ _ _ _ (by decide) HR.out
      have hi := HSP.out.ints base (valAt vs k) _ ⟨_, rfl, HI.out k hkl⟩
      have hfk := HF.out k hkl
      obtain ⟨u, hu⟩ : ∃ u, u = valAt vs k := ⟨_, rfl⟩
      have d1 := (bindCells_get bs vs HV.out k hkl).2
      rcases hr.2 with ⟨_, h0⟩ | ⟨g, cap', cur, h1, _⟩
      · omega
      · injection h1 with q1 q2 q3
        subst q1 q3
        rw [HL.out] at hr
        have hc : wr.cell? ⟨g, k * 2 + 1, none⟩ = some u := by
          rw [hr.cellAt (k * 2 + 1) (by omega), d1, hu]
        rw [← hu] at hi
        have HI2 := Lib.hid hi
        obtain ⟨xs, hxl, hxo⟩ := hi
        obtain ⟨A2, cap2, rfl⟩ := hxo.value
        have hi0 : (0 : Int) ≤ (k : Int) := by omega
        have hi3 : (k : Int) < (n : Int) := by omega
        clear hxo hxl hu d1 hr q2
        go_wp2_with fail
        refine (spoilInts_any _ base _ _ HI2.out hfk).mono ?_
        rintro e w2 ⟨rfl, hs2⟩
        have HS2 := Lib.hid (HSP.out.trans hs2)
        clear hs2
        go_wp2
        go_roundw
        case rel => exact ⟨k + 1, by go_num, by omega, HS2.out⟩
        case measure => simp [intOf]; omega
    · obtain rfl : k = n := by omega
      go_wp2
      (first | go_end0 | refine bodyPost_ret (results_none rfl _ _ _) rfl ?_)
      exact ⟨rfl, HSP.out.bel⟩

set_option maxHeartbeats 2000000 in
theorem sameBinds_true (A A1 : Option Addr) (n c c1 : Nat) (bs : List Bd) (w : World) (h : BindsAt w w.heap.size A n bs) (hn : n ≤ 4398046511104) (h1 : BindsAt w w.heap.size A1 n bs) :
    Calls Try.prog 12 #[.slice A n c, .slice A1 n c1] w fun e w' => e = .returned (.bool true) ∧ Below w.heap.size w w' := by
  have HA := Lib.hid h
  have HB := Lib.hid h1
  clear h h1
  go_enter Try.func12, Try.ntmps12
  go_wp2
  go_loopw [5] (fun i wr => ∃ k : Nat, i = .int .i64 k ∧ k ≤ n ∧ Below w.heap.size w wr) (fun i _ => n - (intOf i).toNat)
  case atStart => exact ⟨0, rfl, by omega, Below.refl _ _⟩
  case round =>
    obtain ⟨k, rfl, hk, hbw⟩ := hrel
    have HBW := Lib.hid hbw
    clear hbw
    by_cases hlt : k < n
    · obtain ⟨b1, o1, rfl, _, hc1⟩ := (HA.out.on HBW.out).at_ (by omega)
      obtain ⟨b2, o2, rfl, _, hc2⟩ := (HB.out.on HBW.out).at_ (by omega)
      obtain ⟨c0, A3, c3, d0, _, i3⟩ := hc1 k hlt
      obtain ⟨e0, A4, c4, f0, _, i4⟩ := hc2 k hlt
      have hfit := HA.out.fit k hlt
      obtain ⟨bd, hbd⟩ : ∃ bd, bd = bdAt bs k := ⟨_, rfl⟩
      rw [← hbd] at c0 d0 i3 e0 f0 i4 hfit
      have HI3 := Lib.hid i3
      have HI4 := Lib.hid i4
      have hi0 : (0 : Int) ≤ (k : Int) := by omega
      have hi3 : (k : Int) < (n : Int) := by omega
      have g1 : (bd.v != bd.v) = false := by simp
      clear hc1 hc2 i3 i4 hbd
      go_wp2_with fail
      go_quiet ((go_at_call 19; exact sameInts_still A3 A4 _ c3 _ c4 _ _ _ bd.t bd.t _ HI3.out HI4.out (by unfold maxLen; omega) (by unfold maxLen; omega) (sameI_self _)))
      go_wp2
      go_roundw
      case rel => exact ⟨k + 1, by go_num, by omega, HBW.out.trans (below_drewN _ _)⟩
      case measure => simp [intOf]; omega
    · obtain rfl : k = n := by omega
      go_wp2
      go_ret
      exact ⟨rfl, HBW.out⟩

end Go.Proofs.Ytlpafnaokpjoiaa
namespace Go.Proofs.Ytlpafnaokpjoiaa
open Go.RowKit
set_option linter.unusedSimpArgs false
set_option linter.unusedVariables false
theorem BindsAt.new1 (w : World) (v : Int) (t : List Int) (A : Option Addr) (n c : Nat) (hi : IntsAt w w.heap.size A n t) (hc : n ≤ c) (hf : n * 8 ≤ 140737488351232) :
    BindsAt (w.alloc (.cells #[.int .i64 v, .slice A n c] 41)) (w.alloc (.cells #[.int .i64 v, .slice A n c] 41)).heap.size (some ⟨w.heap.size, 0, none⟩) 1 [⟨v, t⟩] := by
  have hl := hi.len
  subst hl
  refine ⟨rfl, fun _ => ⟨w.heap.size, 0, rfl, by simp, fun i h => ?_⟩, fun i h => ?_⟩
  · obtain rfl : i = 0 := by omega
    refine ⟨?_, A, c, ?_, hc, hi.on (below_new w _)⟩
    · rw [World.cell?_alloc_new]; rfl
    · rw [World.cell?_alloc_new]; rfl
  · obtain rfl : i = 0 := by omega
    exact hf
theorem BindsAt.new2 (w : World) (v v' : Int) (t t' : List Int) (A A' : Option Addr) (n n' c c' : Nat) (hi : IntsAt w w.heap.size A n t) (hi' : IntsAt w w.heap.size A' n' t') (hc : n ≤ c) (hc' : n' ≤ c') (hf : n * 8 ≤ 140737488351232) (hf' : n' * 8 ≤ 140737488351232) :
    BindsAt (w.alloc (.cells #[.int .i64 v, .slice A n c, .int .i64 v', .slice A' n' c'] 41)) (w.alloc (.cells #[.int .i64 v, .slice A n c, .int .i64 v', .slice A' n' c'] 41)).heap.size (some ⟨w.heap.size, 0, none⟩) 2 [⟨v, t⟩, ⟨v', t'⟩] := by
  have hl := hi.len
  have hl' := hi'.len
  subst hl
  subst hl'
  refine ⟨rfl, fun _ => ⟨w.heap.size, 0, rfl, by simp, fun i h => ?_⟩, fun i h => ?_⟩
  · match i, h with
    | 0, _ =>
      refine ⟨?_, A, c, ?_, hc, hi.on (below_new w _)⟩
      · rw [World.cell?_alloc_new]; rfl
      · rw [World.cell?_alloc_new]; rfl
    | 1, _ =>
      refine ⟨?_, A', c', ?_, hc', hi'.on (below_new w _)⟩
      · rw [World.cell?_alloc_new]; rfl
      · rw [World.cell?_alloc_new]; rfl
  · match i, h with
    | 0, _ => exact hf
    | 1, _ => exact hf'
theorem BindsAt.new {w : World} {A : Option Addr} {n : Nat} {bs : List Bd} (h : BindsAt w w.heap.size A n bs) (o : Obj) : BindsAt (w.alloc o) (w.alloc o).heap.size A n bs := h.on (below_new w o)

theorem BindsAt.lit1 (w : World) (v : Int) (t : List Int) (hf : t.length * 8 ≤ 140737488351232) :
    BindsAt ((w.alloc (.cells (intCells t).toArray 3)).alloc (.cells #[.int .i64 v, .slice (some ⟨w.heap.size, 0, none⟩) t.length t.length] 41)) ((w.alloc (.cells (intCells t).toArray 3)).alloc (.cells #[.int .i64 v, .slice (some ⟨w.heap.size, 0, none⟩) t.length t.length] 41)).heap.size (some ⟨w.heap.size + 1, 0, none⟩) 1 [⟨v, t⟩] := by
  have := BindsAt.new1 (w.alloc (.cells (intCells t).toArray 3)) v t _ _ _ (IntsAt.news w t) (Nat.le_refl _) hf
  have e : (w.alloc (.cells (intCells t).toArray 3)).heap.size = w.heap.size + 1 := by simp
  rw [e] at this
  exact this
theorem BindsAt.lit2 (w : World) (v v' : Int) (t t' : List Int) (hf : t.length * 8 ≤ 140737488351232) (hf' : t'.length * 8 ≤ 140737488351232) :
    BindsAt (((w.alloc (.cells (intCells t).toArray 3)).alloc (.cells (intCells t').toArray 3)).alloc (.cells #[.int .i64 v, .slice (some ⟨w.heap.size, 0, none⟩) t.length t.length, .int .i64 v', .slice (some ⟨w.heap.size + 1, 0, none⟩) t'.length t'.length] 41))
      (((w.alloc (.cells (intCells t).toArray 3)).alloc (.cells (intCells t').toArray 3)).alloc (.cells #[.int .i64 v, .slice (some ⟨w.heap.size, 0, none⟩) t.length t.length, .int .i64 v', .slice (some ⟨w.heap.size + 1, 0, none⟩) t'.length t'.length] 41)).heap.size (some ⟨w.heap.size + 1 + 1, 0, none⟩) 2 [⟨v, t⟩, ⟨v', t'⟩] := by
  have h1 := (IntsAt.news w t).new (.cells (intCells t').toArray 3)
  have h2 := IntsAt.news (w.alloc (.cells (intCells t).toArray 3)) t'
  have e : (w.alloc (.cells (intCells t).toArray 3)).heap.size = w.heap.size + 1 := by simp
  have e2 : ((w.alloc (.cells (intCells t).toArray 3)).alloc (.cells (intCells t').toArray 3)).heap.size = w.heap.size + 1 + 1 := by simp
  rw [e] at h2
  have := BindsAt.new2 _ v v' t t' _ _ _ _ _ _ h1 h2 (Nat.le_refl _) (Nat.le_refl _) hf hf'
  rw [e2] at this
  exact this

end Go.Proofs.Ytlpafnaokpjoiaa
