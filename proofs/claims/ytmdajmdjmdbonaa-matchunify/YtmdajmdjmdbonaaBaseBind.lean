/-
  Words for memory: a slice of binds that reads as a list of binds, and one that a call has made; an append of one bind.
  Contracts: bind.isVar, bind.May, bind.replace, bind.Apply, bind.follow, bind.Then, bind.Shift.
  Contracts of the reference: BindMay, Of, Put.
  Contracts of quaerelaw0: SpoilBinds, SameBinds, CopyBinds; binds written out, in memory.
-/
import Derived.Test.YtmdajmdjmdbonaaBaseMore
namespace Go.Proofs.Ytmdajmdjmdbonaa
open Go.RowKit
set_option linter.unusedSimpArgs false
set_option linter.unusedVariables false
section
variable {ss : List Sym} {bs us : List Bd} {b : Bd} {lo : Int} {r : List Int}
end
section
variable {ss : List Sym} {bs us : List Bd} {r : List Int}
end
end Go.Proofs.Ytmdajmdjmdbonaa
namespace Go.Proofs.Ytmdajmdjmdbonaa
open Go.RowKit
set_option linter.unusedSimpArgs false
set_option linter.unusedVariables false
/-- The slice value '.slice A n _' holds the binds bs; its cells, and those of the terms, lie below block B. -/
structure BindsAt (w : World) (B : Nat) (A : Option Addr) (n : Nat) (bs : List Bd) : Prop where
  len : bs.length = n
  at_ : 0 < n → ∃ b off, A = some ⟨b, off, none⟩ ∧ b < B ∧ ∀ i, i < n →
    w.cell? ⟨b, off + i * 2, none⟩ = some (.int .i64 (bdAt bs i).v) ∧
    ∃ A' c, w.cell? ⟨b, off + i * 2 + 1, none⟩ = some (.slice A' (bdAt bs i).t.length c) ∧ (bdAt bs i).t.length ≤ c ∧ IntsAt w B A' (bdAt bs i).t.length (bdAt bs i).t
  fit : ∀ i, i < n → (bdAt bs i).t.length * 8 ≤ 140737488351232
section
variable {w w' : World} {B B' n : Nat} {A : Option Addr} {bs : List Bd}
theorem BindsAt.keep (h : BindsAt w B A n bs) (hk : ∀ p : Addr, p.block < B → w'.cell? p = w.cell? p) : BindsAt w' B A n bs :=
  ⟨h.len, fun hn => by
    obtain ⟨b, off, e, hb, hc⟩ := h.at_ hn
    refine ⟨b, off, e, hb, fun i hi => ?_⟩
    obtain ⟨h1, A', c, h2, h3, h4⟩ := hc i hi
    exact ⟨by rw [hk ⟨b, _, none⟩ hb]; exact h1, A', c, by rw [hk ⟨b, _, none⟩ hb]; exact h2, h3, h4.keep hk⟩, h.fit⟩
theorem BindsAt.below (h : BindsAt w B A n bs) (hb : Below B w w') : BindsAt w' B A n bs := h.keep fun _ hp => hb.cell hp
theorem BindsAt.more (h : BindsAt w B A n bs) (hB : B ≤ B') : BindsAt w B' A n bs :=
  ⟨h.len, fun hn => by
    obtain ⟨b, off, e, hb, hc⟩ := h.at_ hn
    refine ⟨b, off, e, by omega, fun i hi => ?_⟩
    obtain ⟨h1, A', c, h2, h3, h4⟩ := hc i hi
    exact ⟨h1, A', c, h2, h3, h4.more hB⟩, h.fit⟩
theorem BindsAt.on (h : BindsAt w w.heap.size A n bs) (hb : Below w.heap.size w w') : BindsAt w' w'.heap.size A n bs := (h.below hb).more hb.size
theorem BindsAt.drew (h : BindsAt w B A n bs) : BindsAt w.drew B A n bs := h.keep fun _ _ => rfl
theorem BindsAt.nil_ : BindsAt w B A 0 [] := ⟨rfl, fun h => absurd h (by omega), fun _ h => absurd h (by omega)⟩
end
def bindCells (bs : List Bd) (vs : List Value) : List Value := (bs.zip vs).flatMap fun p => [.int .i64 p.1.v, p.2]
theorem bindCells_nil : bindCells [] [] = [] := rfl
theorem bindCells_cons (b : Bd) (bs : List Bd) (u : Value) (vs : List Value) : bindCells (b :: bs) (u :: vs) = .int .i64 b.v :: u :: bindCells bs vs := by unfold bindCells; simp
theorem bindCells_length : ∀ (bs : List Bd) (vs : List Value), vs.length = bs.length → (bindCells bs vs).length = bs.length * 2
  | [], [], _ => rfl
  | b :: bs, u :: vs, h => by
    rw [bindCells_cons, List.length_cons, List.length_cons, List.length_cons, bindCells_length bs vs (by simpa using h)]; omega
theorem bindCells_snoc : ∀ (bs : List Bd) (vs : List Value) (b : Bd) (u : Value), vs.length = bs.length → bindCells (bs ++ [b]) (vs ++ [u]) = bindCells bs vs ++ [.int .i64 b.v, u]
  | [], [], b, u, _ => rfl
  | a :: bs, x :: vs, b, u, h => by
    rw [List.cons_append, List.cons_append, bindCells_cons, bindCells_cons, bindCells_snoc bs vs b u (by simpa using h)]; rfl
theorem bindCells_get : ∀ (bs : List Bd) (vs : List Value), vs.length = bs.length → ∀ i, i < bs.length → (bindCells bs vs)[i * 2]? = some (.int .i64 (bdAt bs i).v) ∧ (bindCells bs vs)[i * 2 + 1]? = some (valAt vs i)
  | b :: bs, u :: vs, h, 0, _ => by rw [bindCells_cons]; exact ⟨rfl, rfl⟩
  | b :: bs, u :: vs, h, i + 1, hi => by
    rw [bindCells_cons]
    have := bindCells_get bs vs (by simpa using h) i (by simpa using hi)
    have e : (i + 1) * 2 = i * 2 + 1 + 1 := by omega
    rw [e, List.getElem?_cons_succ, List.getElem?_cons_succ, List.getElem?_cons_succ, List.getElem?_cons_succ]
    exact this
/-- The value is a row of these binds, all of it in blocks from base on (or nil). -/
def OwnB (w : World) (base : Nat) (v : Value) (bs : List Bd) : Prop :=
  ∃ vs : List Value, vs.length = bs.length ∧ w.ownsRow base 34 2 v bs.length (bindCells bs vs) ∧ ∀ i, i < bs.length → OwnI w base (valAt vs i) (bdAt bs i).t
def BindsPost (bs : List Bd) (E : Int) (w : World) (e : Ending) (w' : World) : Prop :=
  ∃ v, e = .returned (.tuple #[v, .int .i64 E]) ∧ OwnB w' w.heap.size v bs ∧ Below w.heap.size w w'
def BindsRet (bs : List Bd) (w : World) (e : Ending) (w' : World) : Prop :=
  ∃ v, e = .returned v ∧ OwnB w' w.heap.size v bs ∧ Below w.heap.size w w'
theorem bind_info : (Try.prog.info? 34).map (fun i => (i.zero, i.size, i.bytes)) = some (some (.agg #[.int .i64 0, .slice none 0 0]), 2, 32) := by kernel_rfl
section
variable {w w' : World} {base base' : Nat} {v u : Value} {bs cs : List Bd} {xs : List Int}
theorem OwnB.nil_ : OwnB w base (.slice none 0 0) [] := ⟨[], rfl, ⟨rfl, .inl ⟨rfl, rfl⟩⟩, fun i hi => absurd hi (by simp)⟩
theorem OwnB.lower (h : OwnB w base v bs) (hb : base' ≤ base) : OwnB w base' v bs := by
  obtain ⟨vs, h1, h2, h3⟩ := h
  exact ⟨vs, h1, own_base h2 hb, fun i hi => (h3 i hi).lower hb⟩
theorem OwnB.cast (h : OwnB w base v bs) (e : bs = cs) : OwnB w base v cs := e ▸ h
theorem OwnB.on (h : OwnB w base v bs) (hb : Below w.heap.size w w') : OwnB w' base v bs := by
  obtain ⟨vs, h1, h2, h3⟩ := h
  exact ⟨vs, h1, owns_on h2 hb, fun i hi => (h3 i hi).on hb⟩
theorem OwnB.shape (h : OwnB w base v bs) : (v = .slice none 0 0 ∧ bs = []) ∨ ∃ g cap, v = .slice (some ⟨g, 0, none⟩) bs.length cap ∧ base ≤ g ∧ g < w.heap.size ∧ bs.length ≤ cap := by
  obtain ⟨vs, h1, h2, h3⟩ := h
  rcases h2.2 with ⟨h1, h2⟩ | ⟨g, cap, cur, hv, hg, hc, hn, _⟩
  · exact .inl ⟨h1, List.length_eq_zero_iff.1 h2⟩
  · exact .inr ⟨g, cap, hv, hg, (Array.getElem?_eq_some_iff.1 hc).1, hn⟩
theorem OwnB.bindsAt (h : OwnB w base v bs) (hf : ∀ i, i < bs.length → (bdAt bs i).t.length * 8 ≤ 140737488351232) : ∃ A cap, v = .slice A bs.length cap ∧ bs.length ≤ cap ∧ BindsAt w w.heap.size A bs.length bs := by
  have hs := h.shape
  obtain ⟨vs, h1, h2, h3⟩ := h
  rcases hs with ⟨rfl, rfl⟩ | ⟨g, cap, rfl, hg, hlt, hn⟩
  · exact ⟨_, _, rfl, Nat.le_refl _, BindsAt.nil_⟩
  · refine ⟨_, _, rfl, hn, rfl, fun hp => ⟨g, 0, rfl, hlt, fun i hi => ?_⟩, hf⟩
    obtain ⟨d0, d1⟩ := bindCells_get bs vs h1 i hi
    have c0 := h2.cellAt (i * 2) (by omega)
    have c1 := h2.cellAt (i * 2 + 1) (by omega)
    rw [d0] at c0
    rw [d1] at c1
    obtain ⟨A', c', e, hc', hi'⟩ := (h3 i hi).intsAt
    rw [e] at c1
    rw [Nat.zero_add]
    exact ⟨c0, A', c', c1, hc', hi'⟩
/-- 'x = append(x, b)' of binds, x and b's term made by the call. -/
theorem app_bind_op {o : Oper} {a : Act} {K : Act → World → Prop} {Q : Exit → Act → World → Prop} (s x : Operand)
    (ho : o.op = .call { callee := .builtin .append, args := #[s, x], argTypes := #[25, 25] })
    (base : Nat) (v : Value) (bs : List Bd) (y : Int) (t : List Int) (u : Value) (hs : a.eval s = v) (hown : OwnB w base v bs) (hu : OwnI w base u t) (hx : a.eval x = .slice (some ⟨w.heap.size, 0, none⟩) 1 1)
    (hlen : bs.length + 1 ≤ 4398046511104) (hbase : base ≤ w.heap.size)
    (h : ∀ v' w', OwnB w' base v' (bs ++ [⟨y, t⟩]) → Below base w w' → K (a.put o.dst v') w') : o.wp Try.prog a (w.alloc (.cells #[.int .i64 y, u] 34)) K Q := by
  obtain ⟨i0, hi0, hz0, hz1, hz2⟩ := info_parts bind_info
  have hsh := hown.shape
  obtain ⟨vs, k1, k2, k3⟩ := hown
  have k2' := World.ownsRow.alloc k2 (.cells #[.int .i64 y, u] 34)
  have hu1 : u.oneCell' = true := by rcases hu.shape with ⟨rfl, _⟩ | ⟨g, cap, rfl, _⟩ <;> rfl
  refine wp_append_own _ s x 25 ho base 34 i0 _ 2 32 Try.underlying25 hi0 hz0 hz1 hz2 rfl (by omega) v bs.length (bindCells bs vs) hs k2' ⟨w.heap.size, 0, none⟩ 1 1 [.int .i64 y, u] hx rfl
    (World.news_of_block (cs := #[.int .i64 y, u]) (t := 34) (fr := (0, 0)) (heap_alloc_new w _)) (by simp [hu1]; rfl) (by unfold maxLen; omega) (by omega) (by simp; omega) ?_
  intro v' w' h1 h2 _
  have hb : Below base (w.alloc (.cells #[.int .i64 y, u] 34)) w' := (Below.refl base _).grown h2 (by simp; omega) (fun k hk => by
    rcases hsh with ⟨rfl, _⟩ | ⟨g, cap, rfl, hg, _⟩
    · simp [Value.ownBlock] at hk
    · simp [Value.ownBlock] at hk; omega)
  refine h v' w' ⟨vs ++ [u], by simp [k1], ?_, fun i hi => ?_⟩ (below_un_new hb hbase)
  · rw [bindCells_snoc bs vs _ u k1]
    simpa using h1
  · have hne : (34 : TypeId) ≠ 3 := by decide
    by_cases e : i = bs.length
    · subst e
      rw [bdAt_right, ← k1, valAt_right]
      exact (hu.alloc _).grown k2' hne h2
    · have hi' : i < bs.length := by simp at hi; omega
      rw [bdAt_left hi', valAt_left (by omega)]
      exact ((k3 i hi').alloc _).grown k2' hne h2
theorem app_bind1 {ops : Array Oper} {rest : List Oper} {o : Oper} {a : Act} {Q : Exit → Act → World → Prop} (hgd : o.guard = none) (s x : Operand)
    (ho : o.op = .call { callee := .builtin .append, args := #[s, x], argTypes := #[25, 25] })
    (base : Nat) (v : Value) (bs : List Bd) (y : Int) (t : List Int) (u : Value) (hs : a.eval s = v) (hown : OwnB w base v bs) (hu : OwnI w base u t) (hx : a.eval x = .slice (some ⟨w.heap.size, 0, none⟩) 1 1)
    (hlen : bs.length + 1 ≤ 4398046511104) (hbase : base ≤ w.heap.size)
    (h : ∀ v' w', OwnB w' base v' (bs ++ [⟨y, t⟩]) → Below base w w' → wpList Try.prog ops Q rest (a.put o.dst v') w') : wpList Try.prog ops Q (o :: rest) a (w.alloc (.cells #[.int .i64 y, u] 34)) :=
  wpList_plain hgd fun _ hK => app_bind_op s x ho base v bs y t u hs hown hu hx hlen hbase fun v' w' h1 h2 => hK _ _ (h v' w' h1 h2)
theorem app_bind_step {ops : Array Oper} {o : Oper} {a : Act} {K : Act → World → Prop} {Q : Exit → Act → World → Prop} {E : Prop} (hgd : o.guard = none) (s x : Operand)
    (ho : o.op = .call { callee := .builtin .append, args := #[s, x], argTypes := #[25, 25] })
    (base : Nat) (v : Value) (bs : List Bd) (y : Int) (t : List Int) (u : Value) (hs : a.eval s = v) (hown : OwnB w base v bs) (hu : OwnI w base u t) (hx : a.eval x = .slice (some ⟨w.heap.size, 0, none⟩) 1 1)
    (hlen : bs.length + 1 ≤ 4398046511104) (hbase : base ≤ w.heap.size)
    (h : ∀ v' w', OwnB w' base v' (bs ++ [⟨y, t⟩]) → Below base w w' → K (a.put o.dst v') w') : if Region.wanted o (yielded ops a.tmps) = true then Oper.wp Try.prog o a (w.alloc (.cells #[.int .i64 y, u] 34)) K Q else E := by
  have hw : Region.wanted o (yielded ops a.tmps) = true := by simp [Region.wanted, hgd]
  rw [if_pos hw]
  exact app_bind_op s x ho base v bs y t u hs hown hu hx hlen hbase h

end
end Go.Proofs.Ytmdajmdjmdbonaa
namespace Go.Proofs.Ytmdajmdjmdbonaa
open Go.RowKit
set_option linter.unusedSimpArgs false
set_option linter.unusedVariables false
end Go.Proofs.Ytmdajmdjmdbonaa
namespace Go.Proofs.Ytmdajmdjmdbonaa
open Go.RowKit Go.Deep
set_option linter.unusedSimpArgs false
set_option linter.unusedVariables false
section
variable {ss : List Sym} {bs : List Bd} {w w' : World} {B k : Nat} {f : Nat → Value}
end
end Go.Proofs.Ytmdajmdjmdbonaa
namespace Go.Proofs.Ytmdajmdjmdbonaa
open Go.RowKit Go.Deep
set_option linter.unusedSimpArgs false
set_option linter.unusedVariables false
end Go.Proofs.Ytmdajmdjmdbonaa
namespace Go.Proofs.Ytmdajmdjmdbonaa
open Go.RowKit
set_option linter.unusedSimpArgs false
set_option linter.unusedVariables false
theorem BindsAt.drewN {w : World} {B n : Nat} {A : Option Addr} {bs : List Bd} (h : BindsAt w B A n bs) (k : Nat) : BindsAt (w.drewN k) B A n bs := h.keep fun _ _ => rfl
end Go.Proofs.Ytmdajmdjmdbonaa
namespace Go.Proofs.Ytmdajmdjmdbonaa
open Go.RowKit Go.Deep
set_option linter.unusedSimpArgs false
set_option linter.unusedVariables false
set_option maxHeartbeats 2000000 in
theorem sameBinds_true (A A1 : Option Addr) (n c c1 : Nat) (bs : List Bd) (w : World) (h : BindsAt w w.heap.size A n bs) (hn : n ≤ 4398046511104) (h1 : BindsAt w w.heap.size A1 n bs) :
    Calls Try.prog 8 #[.slice A n c, .slice A1 n c1] w fun e w' => e = .returned (.bool true) ∧ Below w.heap.size w w' := by
  have HA := Lib.hid h
  have HB := Lib.hid h1
  clear h h1
  go_enter Try.func8, Try.ntmps8
  go_wp2
  go_loopw [5] (fun i wr => ∃ k : Nat, i = .int .i64 k ∧ k ≤ n ∧ Below w.heap.size w wr) (fun i _ => n - (intOf i).toNat)
  case atStart => exact ⟨0, rfl, by omega, Below.refl _ _⟩
  case round =>
    obtain ⟨k, rfl, hk, hbw⟩ := hrel
    have HBW := Lib.hid hbw
    clear hbw
    by_cases hlt : k < n
    · obtain ⟨b1, o1, rfl, _, hc1⟩ := (HA.out.on HBW.out).at_ (by omega)
      obtain ⟨b2, o2, rfl, _, hc2⟩ := (HB.out.on HBW.out).at_ (by omega)
      obtain ⟨c0, A3, c3, d0, _, i3⟩ := hc1 k hlt
      obtain ⟨e0, A4, c4, f0, _, i4⟩ := hc2 k hlt
      have hfit := HA.out.fit k hlt
      obtain ⟨bd, hbd⟩ : ∃ bd, bd = bdAt bs k := ⟨_, rfl⟩
      rw [← hbd] at c0 d0 i3 e0 f0 i4 hfit
      have HI3 := Lib.hid i3
      have HI4 := Lib.hid i4
      have hi0 : (0 : Int) ≤ (k : Int) := by omega
      have hi3 : (k : Int) < (n : Int) := by omega
      have g1 : (bd.v != bd.v) = false := by simp
      clear hc1 hc2 i3 i4 hbd
      go_wp2_with fail
      go_quiet ((go_at_call 15; exact sameInts_still A3 A4 _ c3 _ c4 _ _ _ bd.t bd.t _ HI3.out HI4.out (by unfold maxLen; omega) (by unfold maxLen; omega) (sameI_self _)))
      go_wp2
      go_roundw
      case rel => exact ⟨k + 1, by go_num, by omega, HBW.out.trans (below_drewN _ _)⟩
      case measure => simp [intOf]; omega
    · obtain rfl : k = n := by omega
      go_wp2
      go_ret
      exact ⟨rfl, HBW.out⟩

end Go.Proofs.Ytmdajmdjmdbonaa
namespace Go.Proofs.Ytmdajmdjmdbonaa
open Go.RowKit
set_option linter.unusedSimpArgs false
set_option linter.unusedVariables false
theorem BindsAt.new1 (w : World) (v : Int) (t : List Int) (A : Option Addr) (n c : Nat) (hi : IntsAt w w.heap.size A n t) (hc : n ≤ c) (hf : n * 8 ≤ 140737488351232) :
    BindsAt (w.alloc (.cells #[.int .i64 v, .slice A n c] 34)) (w.alloc (.cells #[.int .i64 v, .slice A n c] 34)).heap.size (some ⟨w.heap.size, 0, none⟩) 1 [⟨v, t⟩] := by
  have hl := hi.len
  subst hl
  refine ⟨rfl, fun _ => ⟨w.heap.size, 0, rfl, by simp, fun i h => ?_⟩, fun i h => ?_⟩
  · obtain rfl : i = 0 := by omega
    refine ⟨?_, A, c, ?_, hc, hi.on (below_new w _)⟩
    · rw [World.cell?_alloc_new]; rfl
    · rw [World.cell?_alloc_new]; rfl
  · obtain rfl : i = 0 := by omega
    exact hf
theorem BindsAt.new2 (w : World) (v v' : Int) (t t' : List Int) (A A' : Option Addr) (n n' c c' : Nat) (hi : IntsAt w w.heap.size A n t) (hi' : IntsAt w w.heap.size A' n' t') (hc : n ≤ c) (hc' : n' ≤ c') (hf : n * 8 ≤ 140737488351232) (hf' : n' * 8 ≤ 140737488351232) :
    BindsAt (w.alloc (.cells #[.int .i64 v, .slice A n c, .int .i64 v', .slice A' n' c'] 34)) (w.alloc (.cells #[.int .i64 v, .slice A n c, .int .i64 v', .slice A' n' c'] 34)).heap.size (some ⟨w.heap.size, 0, none⟩) 2 [⟨v, t⟩, ⟨v', t'⟩] := by
  have hl := hi.len
  have hl' := hi'.len
  subst hl
  subst hl'
  refine ⟨rfl, fun _ => ⟨w.heap.size, 0, rfl, by simp, fun i h => ?_⟩, fun i h => ?_⟩
  · match i, h with
    | 0, _ =>
      refine ⟨?_, A, c, ?_, hc, hi.on (below_new w _)⟩
      · rw [World.cell?_alloc_new]; rfl
      · rw [World.cell?_alloc_new]; rfl
    | 1, _ =>
      refine ⟨?_, A', c', ?_, hc', hi'.on (below_new w _)⟩
      · rw [World.cell?_alloc_new]; rfl
      · rw [World.cell?_alloc_new]; rfl
  · match i, h with
    | 0, _ => exact hf
    | 1, _ => exact hf'
theorem BindsAt.new {w : World} {A : Option Addr} {n : Nat} {bs : List Bd} (h : BindsAt w w.heap.size A n bs) (o : Obj) : BindsAt (w.alloc o) (w.alloc o).heap.size A n bs := h.on (below_new w o)

theorem BindsAt.lit1 (w : World) (v : Int) (t : List Int) (hf : t.length * 8 ≤ 140737488351232) :
    BindsAt ((w.alloc (.cells (intCells t).toArray 3)).alloc (.cells #[.int .i64 v, .slice (some ⟨w.heap.size, 0, none⟩) t.length t.length] 34)) ((w.alloc (.cells (intCells t).toArray 3)).alloc (.cells #[.int .i64 v, .slice (some ⟨w.heap.size, 0, none⟩) t.length t.length] 34)).heap.size (some ⟨w.heap.size + 1, 0, none⟩) 1 [⟨v, t⟩] := by
  have := BindsAt.new1 (w.alloc (.cells (intCells t).toArray 3)) v t _ _ _ (IntsAt.news w t) (Nat.le_refl _) hf
  have e : (w.alloc (.cells (intCells t).toArray 3)).heap.size = w.heap.size + 1 := by simp
  rw [e] at this
  exact this
theorem BindsAt.lit2 (w : World) (v v' : Int) (t t' : List Int) (hf : t.length * 8 ≤ 140737488351232) (hf' : t'.length * 8 ≤ 140737488351232) :
    BindsAt (((w.alloc (.cells (intCells t).toArray 3)).alloc (.cells (intCells t').toArray 3)).alloc (.cells #[.int .i64 v, .slice (some ⟨w.heap.size, 0, none⟩) t.length t.length, .int .i64 v', .slice (some ⟨w.heap.size + 1, 0, none⟩) t'.length t'.length] 34))
      (((w.alloc (.cells (intCells t).toArray 3)).alloc (.cells (intCells t').toArray 3)).alloc (.cells #[.int .i64 v, .slice (some ⟨w.heap.size, 0, none⟩) t.length t.length, .int .i64 v', .slice (some ⟨w.heap.size + 1, 0, none⟩) t'.length t'.length] 34)).heap.size (some ⟨w.heap.size + 1 + 1, 0, none⟩) 2 [⟨v, t⟩, ⟨v', t'⟩] := by
  have h1 := (IntsAt.news w t).new (.cells (intCells t').toArray 3)
  have h2 := IntsAt.news (w.alloc (.cells (intCells t).toArray 3)) t'
  have e : (w.alloc (.cells (intCells t).toArray 3)).heap.size = w.heap.size + 1 := by simp
  have e2 : ((w.alloc (.cells (intCells t).toArray 3)).alloc (.cells (intCells t').toArray 3)).heap.size = w.heap.size + 1 + 1 := by simp
  rw [e] at h2
  have := BindsAt.new2 _ v v' t t' _ _ _ _ _ _ h1 h2 (Nat.le_refl _) (Nat.le_refl _) hf hf'
  rw [e2] at this
  exact this

end Go.Proofs.Ytmdajmdjmdbonaa
