/-
  Words for memory: a table of facts; contracts of quaerelaw0: CopyTable, SameTable, SpoilTable.
-/
import Derived.Test.YthnjpkghjkhjdaaHelpCl
import Derived.Test.YthnjpkghjkhjdaaFactPlain
namespace Go.Proofs.Ythnjpkghjkhjdaa
open Go.RowKit Go.Deep
set_option linter.unusedSimpArgs false
set_option linter.unusedVariables false
set_option maxRecDepth 100000

/-- The parts of a table's value. -/
structure Tv where
  A1 : Option Addr
  n1 : Nat
  c1 : Nat
  A2 : Option Addr
  n2 : Nat
  c2 : Nat
def Tv.val (v : Tv) : Value := .agg #[.slice v.A1 v.n1 v.c1, .slice v.A2 v.n2 v.c2]
theorem Tv.val_eq (v : Tv) : v.val = .agg #[.slice v.A1 v.n1 v.c1, .slice v.A2 v.n2 v.c2] := rfl
def Tv.obj (v : Tv) : Obj := .cells #[.slice v.A1 v.n1 v.c1, .slice v.A2 v.n2 v.c2] 26
theorem two_one {A A' : Option Addr} {n n' c c' : Nat} : (#[Value.slice A n c, .slice A' n' c'].all (·.oneCell')) = true := by simp [Value.oneCell']
/-- What bounds a table has in memory. -/
structure TFit (t : Tb) : Prop where
  s : t.slots.length * 8 ≤ 140737488351232
  f : t.facts.length * 24 ≤ 140737488351232
  r : ∀ a ∈ t.facts, a.length * 8 ≤ 140737488351232
theorem TSmall.fit {t : Tb} (h : TSmall t) : TFit t := ⟨by have := h.s; omega, by have := h.f; omega, fun a ha => by have := h.r a ha; omega⟩
/-- A table, as a value. -/
structure TabAt (w : World) (B : Nat) (v : Tv) (t : Tb) : Prop where
  sl : IntsAt w B v.A1 v.n1 t.slots
  fc : TupsAt w B v.A2 v.n2 t.facts
  m1 : v.n1 ≤ v.c1
  m2 : v.n2 ≤ v.c2
  z1 : v.A1 = none → v.n1 = 0 ∧ v.c1 = 0
  z2 : v.A2 = none → v.c2 = 0
  f1 : v.n1 * 8 ≤ 140737488351232
  f2 : v.n2 * 24 ≤ 140737488351232
/-- Block b holds a table. -/
structure TBox (w : World) (b : Nat) (v : Tv) (t : Tb) : Prop where
  lt : b < w.heap.size
  c0 : w.cell? ⟨b, 0, none⟩ = some (.slice v.A1 v.n1 v.c1)
  c1 : w.cell? ⟨b, 1, none⟩ = some (.slice v.A2 v.n2 v.c2)
  tb : TabAt w w.heap.size v t
/-- A table that a call has made. -/
def OwnTb (w : World) (base : Nat) (v : Value) (t : Tb) : Prop := ∃ v1 v2, v = .agg #[v1, v2] ∧ OwnI w base v1 t.slots ∧ OwnT w base v2 t.facts
section
variable {w w' : World} {B B' b base base' : Nat} {v : Tv} {t : Tb} {u : Value}
theorem TabAt.on (h : TabAt w w.heap.size v t) (hb : Below w.heap.size w w') : TabAt w' w'.heap.size v t := ⟨h.sl.on hb, h.fc.on hb, h.m1, h.m2, h.z1, h.z2, h.f1, h.f2⟩
theorem TabAt.below (h : TabAt w B v t) (hb : Below B w w') : TabAt w' B v t := ⟨h.sl.below hb, h.fc.below hb, h.m1, h.m2, h.z1, h.z2, h.f1, h.f2⟩
theorem TabAt.more (h : TabAt w B v t) (hb : B ≤ B') : TabAt w B' v t := ⟨h.sl.more hb, h.fc.more hb, h.m1, h.m2, h.z1, h.z2, h.f1, h.f2⟩
theorem TBox.on (h : TBox w b v t) (hb : Below w.heap.size w w') : TBox w' b v t :=
  ⟨by have := h.lt; have := hb.size; omega, by rw [hb.cell (p := ⟨b, 0, none⟩) h.lt]; exact h.c0, by rw [hb.cell (p := ⟨b, 1, none⟩) h.lt]; exact h.c1, h.tb.on hb⟩
theorem TBox.new (h : TabAt w w.heap.size v t) : TBox (w.alloc v.obj) w.heap.size v t :=
  ⟨by simp, by rw [Tv.obj, World.cell?_alloc_new]; rfl, by rw [Tv.obj, World.cell?_alloc_new]; rfl, h.on (below_new w _)⟩
theorem TabAt.fit (h : TabAt w B v t) : TFit t where
  s := by rw [h.sl.len]; exact h.f1
  f := by rw [h.fc.len]; exact h.f2
  r := by
    intro r hr
    obtain ⟨i, hi, rfl⟩ := List.getElem_of_mem hr
    have e : rowOf t.facts i = t.facts[i] := by unfold rowOf; rw [List.getD_eq_getElem?_getD, List.getElem?_eq_getElem hi]; rfl
    obtain ⟨_, _, _, _, _, _, _, hR, _⟩ := h.fc.one (i := i) (by rw [h.fc.len] at hi; exact hi)
    rw [← e]; exact hR.fit
theorem OwnTb.on (h : OwnTb w base u t) (hb : Below w.heap.size w w') : OwnTb w' base u t := by
  obtain ⟨v1, v2, e, h1, h2⟩ := h
  exact ⟨v1, v2, e, h1.on hb, h2.on hb⟩
theorem OwnTb.lower (h : OwnTb w base u t) (hb : base' ≤ base) : OwnTb w base' u t := by
  obtain ⟨v1, v2, e, h1, h2⟩ := h
  exact ⟨v1, v2, e, h1.lower hb, h2.lower hb⟩
theorem OwnI.slice1 {xs : List Int} (h : OwnI w base u xs) : ∃ A c, u = .slice A xs.length c ∧ xs.length ≤ c ∧ IntsAt w w.heap.size A xs.length xs ∧ (A = none → xs.length = 0 ∧ c = 0) := by
  obtain ⟨A, c, e, hc, hi⟩ := h.intsAt
  refine ⟨A, c, e, hc, hi, fun q => ?_⟩
  subst q
  rcases h.shape with ⟨q, q2⟩ | ⟨g, cap, q, _⟩
  · rw [q] at e; injection e with _ _ e3; exact ⟨by rw [q2]; rfl, e3.symm⟩
  · rw [q] at e; cases e
theorem OwnTb.tabAt (h : OwnTb w base u t) (hf : TFit t) : ∃ x : Tv, u = x.val ∧ TabAt w w.heap.size x t := by
  obtain ⟨v1, v2, rfl, h1, h2⟩ := h
  obtain ⟨A1, c1, rfl, m1, k1, z1⟩ := h1.slice1
  obtain ⟨A2, c2, rfl, m2, k2, z2⟩ := h2.tupsAt hf.r
  exact ⟨⟨A1, _, c1, A2, _, c2⟩, rfl, k1, k2, m1, m2, z1, z2, hf.s, hf.f⟩
theorem TBox.two {v u : Tv} {t s : Tb} (h : TabAt w w.heap.size v t) (k : TabAt w w.heap.size u s) :
    TBox ((w.alloc v.obj).alloc u.obj) w.heap.size v t ∧ TBox ((w.alloc v.obj).alloc u.obj) (w.heap.size + 1) u s ∧ Below w.heap.size w ((w.alloc v.obj).alloc u.obj) := by
  have h0 := (TBox.new h).on (below_new (w.alloc v.obj) u.obj)
  have k0 := TBox.new (k.on (below_new w v.obj))
  have e0 : (w.alloc v.obj).heap.size = w.heap.size + 1 := by simp
  rw [e0] at k0
  exact ⟨h0, k0, below_new2 w _ _⟩
end
/-- The same, where the slots lie below m and the facts from m on. -/
def OwnTs (w : World) (base : Nat) (v : Value) (t : Tb) : Prop := ∃ m v1 v2, v = .agg #[v1, v2] ∧ base ≤ m ∧ m ≤ w.heap.size ∧ OwnI w base v1 t.slots ∧ (∀ b, v1.ownBlock = some b → b < m) ∧ OwnT w m v2 t.facts
section
variable {w w' : World} {base base' : Nat} {t : Tb} {u : Value}
theorem OwnTs.own (h : OwnTs w base u t) : OwnTb w base u t := by
  obtain ⟨m, v1, v2, e, hm, _, h1, _, h2⟩ := h
  exact ⟨v1, v2, e, h1, h2.lower hm⟩
theorem OwnTs.on (h : OwnTs w base u t) (hb : Below w.heap.size w w') : OwnTs w' base u t := by
  obtain ⟨m, v1, v2, e, hm, hx, h1, h3, h2⟩ := h
  exact ⟨m, v1, v2, e, hm, Nat.le_trans hx hb.size, h1.on hb, h3, h2.on hb⟩
theorem OwnTs.lower (h : OwnTs w base u t) (hb : base' ≤ base) : OwnTs w base' u t := by
  obtain ⟨m, v1, v2, e, hm, hx, h1, h3, h2⟩ := h
  exact ⟨m, v1, v2, e, by omega, hx, h1.lower hb, h3, h2⟩
theorem OwnI.blk {xs : List Int} {b : Nat} (h : OwnI w base u xs) (hb : u.ownBlock = some b) : base ≤ b ∧ b < w.heap.size := World.ownsRow.lt h b hb
end
def TabRet (t : Tb) (w : World) (e : Ending) (w' : World) : Prop := ∃ v, e = .returned v ∧ OwnTs w' w.heap.size v t ∧ Below w.heap.size w w'
set_option maxHeartbeats 1000000 in
theorem copyTable_any (v : Tv) (t : Tb) (w : World) (h : TabAt w w.heap.size v t) :
    Calls Try.prog 9 #[v.val] w (TabRet t w) := by
  have hf1 := h.f1
  have hf2 := h.f2
  have h0 := TBox.new h
  have hb0 := below_new2 w v.obj (.cells #[.slice none 0 0, .slice none 0 0] 26)
  have hx0 := h0.on (below_new _ (.cells #[.slice none 0 0, .slice none 0 0] 26))
  have hg0 := heap_alloc_new (w.alloc v.obj) (.cells #[.slice none 0 0, .slice none 0 0] 26)
  have e0 : (w.alloc v.obj).heap.size = w.heap.size + 1 := by simp
  rw [e0] at hg0
  simp only [Tv.val]
  unfold Tv.obj at h0 hb0 hx0 hg0
  clear h h0 e0
  go_enter Try.func9, Try.ntmps9
  go_wp2_with fail
  obtain ⟨w0, hw0⟩ : ∃ w0, w0 = (w.alloc (.cells #[.slice v.A1 v.n1 v.c1, .slice v.A2 v.n2 v.c2] 26)).alloc (.cells #[.slice none 0 0, .slice none 0 0] 26) := ⟨_, rfl⟩
  rw [← hw0] at hb0 hx0 hg0 ⊢
  obtain ⟨B, hB⟩ : ∃ B, B = w.heap.size := ⟨_, rfl⟩
  rw [← hB] at hx0 hg0 ⊢
  have p0 := hx0.c0
  have p1 := hx0.c1
  have HX := Lib.hid hx0
  have HB0 := Lib.hid hb0
  have HG := Lib.hid hg0
  have HW := Lib.hid hw0
  have HBB := Lib.hid hB
  clear hb0 hx0 hg0 hw0 hB
  refine wp_region_held_drew (S := (fun w' => w'.cell? ⟨B, 0, none⟩ = some (.slice v.A1 v.n1 v.c1) ∧ w'.cell? ⟨B, 1, none⟩ = some (.slice v.A2 v.n2 v.c2))) (by kernel_rfl) ⟨p0, p1⟩ (fun hHeld => ?_)
  have hd0 : Below w0.heap.size w0 w0.drew := (Below.refl w0.heap.size w0).drew
  refine takeH (i := 0) (v := ?_) rfl rfl (by kernel_rfl) (by kernel_rfl) (by kernel_rfl) (fun _ _ _ h => h) (by rfl) ?_ hHeld ?_
  rotate_left
  · (intro w hSw; (try dsimp only at hSw); first | (go_simp; done) | (go_simp; with_reducible rfl))
  simp only [Act.put, List.setIfInBounds_toArray, List.set_cons_zero, List.set_cons_succ]
  refine takeH (i := 1) (v := ?_) rfl rfl (by kernel_rfl) (by kernel_rfl) (by kernel_rfl) (fun _ _ _ h => h) (by rfl) ?_ hHeld ?_
  rotate_left
  · (intro w hSw; (try dsimp only at hSw); first | (go_simp; done) | (go_simp; with_reducible rfl))
  simp only [Act.put, List.setIfInBounds_toArray, List.set_cons_zero, List.set_cons_succ]
  refine takeH (i := 3) (v := ?_) rfl rfl (by kernel_rfl) (by kernel_rfl) (by kernel_rfl) (fun _ _ _ h => h) (by rfl) ?_ hHeld ?_
  rotate_left
  · (intro w hSw; (try dsimp only at hSw); first | (go_simp; done) | (go_simp; with_reducible rfl))
  simp only [Act.put, List.setIfInBounds_toArray, List.set_cons_zero, List.set_cons_succ]
  refine takeH (i := 4) (v := ?_) rfl rfl (by kernel_rfl) (by kernel_rfl) (by kernel_rfl) (fun _ _ _ h => h) (by rfl) ?_ hHeld ?_
  rotate_left
  · (intro w hSw; (try dsimp only at hSw); first | (go_simp; done) | (go_simp; with_reducible rfl))
  simp only [Act.put, List.setIfInBounds_toArray, List.set_cons_zero, List.set_cons_succ]
  refine wpAnyH_ready (rs := [2]) (by kernel_rfl) (by simp) ?_
  refine AllReadyH.cons rfl (fun K hK => ?_) AllReadyH.nil
  go_simp
  refine (copyInts_any v.A1 v.n1 v.c1 t.slots _ (HX.out.on hd0).tb.sl (by omega)).mono ?_
  rintro e w1 ⟨v1, rfl, hv1, hb1⟩
  obtain ⟨D1, d1, rfl⟩ := hv1.value
  have hb1' := hd0.trans (hb1.mono hd0.size)
  have HX1 := Lib.hid (HX.out.on hb1')
  have HB1 := Lib.hid hb1'
  have HV1 := Lib.hid hv1
  clear hv1 hb1 hb1' p0 p1
  have p0 := HX1.out.c0
  have p1 := HX1.out.c1
  go_wp2_with fail
  refine hK.out _ _ ?_ (fun hHeld => ?_)
  · exact ⟨p0, p1⟩
  clear hK K
  refine wpAnyH_ready (rs := [5]) (by kernel_rfl) (by simp) ?_
  refine AllReadyH.cons rfl (fun K hK => ?_) AllReadyH.nil
  go_simp
  refine (copyRows_any v.A2 v.n2 v.c2 t.facts _ HX1.out.tb.fc (by omega)).mono ?_
  rintro e w2 ⟨v2, rfl, hv2, hb2⟩
  obtain ⟨D2, d2, rfl⟩ := hv2.valued
  have HX2 := Lib.hid (HX1.out.on hb2)
  have HB2 := Lib.hid (HB1.out.trans (hb2.mono HB1.out.size))
  have HV2 := Lib.hid hv2
  have HSW : Hid (w1.heap.size ≤ w2.heap.size) := hb2.size
  have HLO : Hid (∀ b, (Value.slice D1 t.slots.length d1).ownBlock = some b → b < w1.heap.size) := fun b hb => (HV1.out.blk hb).2
  replace HV1 := Lib.hid (HV1.out.on hb2)
  clear hv2 hb2 p0 p1
  have p0 := HX2.out.c0
  have p1 := HX2.out.c1
  go_wp2_with fail
  refine hK.out _ _ ?_ (fun hHeld => ?_)
  · exact ⟨p0, p1⟩
  clear hK K
  refine takeH (i := 6) (v := ?_) rfl rfl (by kernel_rfl) (by kernel_rfl) (by kernel_rfl) (fun _ _ _ h => h) (by rfl) ?_ hHeld ?_
  rotate_left
  · (intro w hSw; (try dsimp only at hSw); first | (go_simp; done) | (go_simp; with_reducible rfl))
  simp only [Act.put, List.setIfInBounds_toArray, List.set_cons_zero, List.set_cons_succ]
  have hg3 : w2.heap[B + 1]? = some (.cells #[.slice none 0 0, .slice none 0 0] 26 (0, 0)) := by
    rw [HB2.out.block (B + 1) (Array.getElem?_eq_some_iff.1 HG.out).1]; exact HG.out
  refine wpAnyH_ready (rs := [7]) (by kernel_rfl) (by simp) ?_
  refine AllReadyH.cons rfl (fun K hK => ?_) AllReadyH.nil
  refine store_box_step rfl 26 (.tmp 2) (.tmp 9) rfl rfl (B + 1) _ _ rfl rfl hg3 rfl (by kernel_rfl) two_one ?_
  intro w4 hg4 hc4 hs4
  have q0 : w4.cell? ⟨B, 0, none⟩ = some (.slice v.A1 v.n1 v.c1) := by rw [hc4.bel.cell (p := ⟨B, 0, none⟩) (Nat.lt_succ_self B)]; exact p0
  have q1 : w4.cell? ⟨B, 1, none⟩ = some (.slice v.A2 v.n2 v.c2) := by rw [hc4.bel.cell (p := ⟨B, 1, none⟩) (Nat.lt_succ_self B)]; exact p1
  have HC4 := Lib.hid hc4
  have HG4 := Lib.hid hg4
  clear hc4 hg4 hg3 p0 p1
  refine hK.out _ _ ?_ (fun hHeld => ?_)
  · exact ⟨q0, q1⟩
  clear hK K
  refine wpAnyH_done (by kernel_rfl) ?_ _
  go_wp2
  refine bodyPost_ret (results_cell_row rfl _ _ (B + 1) _ _ _ _ rfl HG4.out Try.underlying26 rfl (by kernel_rfl)) rfl ?_
  have hle : w.heap.size ≤ w0.heap.size := HB0.out.size
  have hB3 := HB0.out.trans (HB2.out.mono hle)
  have hle1 : w.heap.size ≤ w1.heap.size := Nat.le_trans hle HB1.out.size
  have hd1 : w.heap.size ≤ w0.drew.heap.size := hle
  obtain ⟨vs2, b1, b2⟩ := HV2.out.vals
  have hBB := HBB.out
  exact ⟨_, rfl, ⟨w1.heap.size, _, _, rfl, hle1, Nat.le_trans HSW.out HC4.out.bel.size, (HC4.out.own (by decide) HV1.out).lower hd1, HLO.out, OwnT.mk (b1.chg HC4.out (by decide)) (b2.chg HC4.out (by decide))⟩, hB3.trans (HC4.out.bel.mono (by omega))⟩
set_option maxHeartbeats 1000000 in
theorem sameTable_true (v u : Tv) (t : Tb) (w : World) (h : TabAt w w.heap.size v t) (k : TabAt w w.heap.size u t) :
    Calls Try.prog 17 #[v.val, u.val] w fun e w' => e = .returned (.bool true) ∧ Below w.heap.size w w' := by
  have e1 : u.n1 = v.n1 := by rw [← h.sl.len, ← k.sl.len]
  have e2 : u.n2 = v.n2 := by rw [← h.fc.len, ← k.fc.len]
  have hf1 := h.f1
  have hf2 := h.f2
  obtain ⟨hx, hy, hb⟩ := TBox.two h k
  simp only [Tv.val]
  unfold Tv.obj at hx hy hb
  obtain ⟨A1, n1, c1, A2, n2, c2⟩ := u
  dsimp only at e1 e2 hx hy hb ⊢
  subst e1 e2
  have HX := Lib.hid hx
  have HY := Lib.hid hy
  have HB0 := Lib.hid hb
  clear h k hx hy hb
  go_enter Try.func17, Try.ntmps17
  go_wp2_with fail
  obtain ⟨w0, hw0⟩ : ∃ w0, w0 = ((w.alloc (.cells #[.slice v.A1 v.n1 v.c1, .slice v.A2 v.n2 v.c2] 26)).alloc (.cells #[.slice A1 v.n1 c1, .slice A2 v.n2 c2] 26)) := ⟨_, rfl⟩
  rw [← hw0] at HX HY HB0 ⊢
  clear hw0
  refine (sameInts_any v.A1 A1 v.n1 v.c1 v.n1 c1 _ _ t.slots t.slots _ HX.out.tb.sl HY.out.tb.sl (by unfold maxLen; omega) (by unfold maxLen; omega)).mono ?_
  rintro e w1 ⟨rfl, hb1⟩
  rw [sameI_self]
  have HB1 := Lib.hid (HB0.out.trans (hb1.mono HB0.out.size))
  replace HX := Lib.hid (HX.out.on hb1)
  replace HY := Lib.hid (HY.out.on hb1)
  clear hb1
  have p0 := HX.out.c0
  have p1 := HX.out.c1
  have q0 := HY.out.c0
  have q1 := HY.out.c1
  dsimp only at q0 q1
  go_wp2_with fail
  refine (sameRows_true v.A2 A2 v.n2 v.c2 c2 t.facts _ HX.out.tb.fc (by omega) HY.out.tb.fc).mono ?_
  rintro e w2 ⟨rfl, hb2⟩
  have HB2 := Lib.hid (HB1.out.trans (hb2.mono HB1.out.size))
  clear hb2 p0 p1 q0 q1
  go_wp2
  go_ret
  exact ⟨rfl, HB2.out⟩
/-- A box of a table as a row of one: what is written over rows of integers leaves it. -/
def TBoxRow (w : World) (b : Nat) (cells : List Value) : Prop := w.ownsRow b 26 2 (.slice (some ⟨b, 0, none⟩) 1 1) 1 cells
theorem TBoxRow.new (w : World) (x y : Value) : TBoxRow (w.alloc (.cells #[x, y] 26)) w.heap.size [x, y] := by
  have := World.ownsRow_lit (base := w.heap.size) (e := 26) (size := 2) w #[x, y] 1 (Nat.le_refl _) (by unfold maxLen; omega) rfl
  simpa [TBoxRow] using this
theorem TBoxRow.get {w : World} {b : Nat} {x y : Value} (h : TBoxRow w b [x, y]) : w.cell? ⟨b, 0, none⟩ = some x ∧ w.cell? ⟨b, 1, none⟩ = some y := by
  refine ⟨?_, ?_⟩
  · exact World.ownsRow.cellAt h 0 (by omega)
  · exact World.ownsRow.cellAt h 1 (by omega)
theorem TBoxRow.spoilt {w w' : World} {b base : Nat} {cells : List Value} (h : TBoxRow w b cells) (hs : Spoilt base w w') : TBoxRow w' b cells := hs.rows _ _ _ _ _ _ (by decide) h
set_option maxHeartbeats 1000000 in
theorem spoilTable_any (v : Value) (base : Nat) (t : Tb) (w : World) (h : OwnTb w base v t) (hf : TFit t) (hbase : base ≤ w.heap.size) :
    Calls Try.prog 25 #[v] w fun e w' => e = .returned (.tuple #[]) ∧ Below base w w' := by
  obtain ⟨v1, v2, rfl, h1, h2⟩ := h
  obtain ⟨vs2, b1, b2⟩ := h2.vals
  have hl := hf.s
  have ht := hf.f
  have hb0 := below_new w (.cells #[v1, v2] 26)
  have hb3 := (b2.weak fun r hq => hf.r r hq).on hb0
  have HB := Lib.hid (TBoxRow.new w v1 v2)
  have HA1 := Lib.hid (h1.on hb0)
  have HB1 := Lib.hid (b1.on hb0)
  have HB2 := Lib.hid hb3
  have HS0 := Lib.hid (hb0.mono hbase)
  have HVT := Lib.hid b2.1
  obtain ⟨D1, d1, e1⟩ := h1.value
  obtain ⟨D2, d2, e2⟩ := h2.valued
  obtain ⟨k1, hk1⟩ : ∃ k1, k1 = t.slots.length := ⟨_, rfl⟩
  obtain ⟨k2, hk2⟩ : ∃ k2, k2 = t.facts.length := ⟨_, rfl⟩
  rw [← hk1] at e1
  rw [← hk2] at e2
  subst e1 e2
  have HK1 := Lib.hid hk1
  clear hk1 hk2 h1 h2 b1 b2 hb3 hb0
  go_enter Try.func25, Try.ntmps25
  go_wp2_with fail
  refine (spoilInts_any _ base t.slots.length _ ⟨t.slots, rfl, HA1.out⟩ (by omega)).mono ?_
  rintro e w1 ⟨rfl, hs1⟩
  have HS1 := Lib.hid hs1
  obtain ⟨p0, p1⟩ := (HB.out.spoilt hs1).get
  clear hs1
  go_wp2_with fail
  refine (spoilRows_any _ base vs2 _ (HS1.out.rows _ _ _ _ _ _ (by decide) HB1.out) (HB2.out.spoilt HS1.out) (by rw [HVT.out]; omega)).mono ?_
  rintro e w2 ⟨rfl, hs2⟩
  have HS2 := Lib.hid (HS1.out.trans hs2)
  clear hs2 p0 p1
  go_wp2
  (first | go_end0 | refine bodyPost_ret (results_none rfl _ _ _) rfl ?_)
  exact ⟨rfl, HS0.out.trans HS2.out.bel⟩
end Go.Proofs.Ythnjpkghjkhjdaa
