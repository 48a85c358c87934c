/-
  The walk of the law Subsumes.
-/
import Derived.Test.YtcjpopjcpgipjaaDoorRefPlaces
import Derived.Test.YtcjpopjcpgipjaaDoorClauseSame
import Derived.Test.YtcjpopjcpgipjaaDoorSubRow
import Derived.Test.YtcjpopjcpgipjaaDoorClauseNorm
namespace Go.Proofs.YtcjpopjcpgipjaaDoor
open Go.RowKit Go.Deep
set_option linter.unusedSimpArgs false
set_option linter.unusedVariables false
set_option maxRecDepth 100000

theorem three_sl (A1 A2 A3 : Option Addr) (n1 c1 n2 c2 n3 c3 : Nat) : (#[.slice A1 n1 c1, .slice A2 n2 c2, .slice A3 n3 c3] : Array Value).all (·.oneCell') = true := by simp [Value.oneCell']
/-- An empty box. -/
structure ZBx (w : World) (g : Nat) : Prop where
  lt : g < w.heap.size
  z : w.heap[g]? = some (.cells #[.slice none 0 0, .slice none 0 0, .slice none 0 0] 26 (0, 0))
theorem ZBx.on {w w' : World} {g : Nat} (h : ZBx w g) (hb : Below w.heap.size w w') : ZBx w' g := ⟨by have := h.lt; have := hb.size; omega, by rw [hb.block g h.lt]; exact h.z⟩
theorem store_row_step {w : World} {ops : Array Oper} {o : Oper} {a : Act} {K : Act → World → Prop} {Q : Exit → Act → World → Prop} {E : Prop} (hgd : o.guard = none) (t : TypeId) (p x : Operand) (ho : o.op = .store t p x) (hdst : o.dst = none)
    (g : Nat) (old cells : Array Value) (hp : a.eval p = .pointer (some ⟨g, 0, none⟩)) (hx : a.eval x = .agg cells) (hg : w.heap[g]? = some (.cells old t (0, 0))) (hs : old.size = cells.size) (hi : (Tryd.prog.info? t).map (·.size) = some cells.size) (h1 : cells.all (·.oneCell') = true)
    (h : K a (w.setRow g cells)) : if Region.wanted o (yielded ops a.tmps) = true then Oper.wp Tryd.prog o a w K Q else E := by
  have hw : Region.wanted o (yielded ops a.tmps) = true := by simp [Region.wanted, hgd]
  rw [if_pos hw]
  have hst : (Instr.storeAt t (.pointer (some ⟨g, 0, none⟩)) (.agg cells)).run Tryd.prog w = .ok () (w.setRow g cells) := by
    simp only [Instr.storeAt, Instr.sureAddr, Sem.run_bind, Sem.run_pure, Result.andThen]
    exact run_storeVar_row _ _ t t old cells hg hi hs h1
  unfold Oper.wp
  simp only [execOp, ho, hp, hx, Sem.run_bind, hst, Result.andThen]
  simp [Oper.upon, hdst, Act.put, h]
theorem below_setRowC {w : World} {g B : Nat} {cells : Array Value} (hB : B ≤ g) : Below B w (w.setRow g cells) := by
  refine ⟨rfl, rfl, rfl, by unfold World.setRow; simp, fun k hk => ?_⟩
  unfold World.setRow
  simp only [Array.getElem?_modify]
  rw [if_neg (by omega)]
theorem setRow_neC {w : World} {g k : Nat} {cells : Array Value} (h : k ≠ g) : (w.setRow g cells).heap[k]? = w.heap[k]? := by
  unfold World.setRow
  simp only [Array.getElem?_modify]
  rw [if_neg (fun q => h q.symm)]
theorem setRow_sameC {w : World} {g : Nat} {old cells : Array Value} {t : TypeId} (hg : w.heap[g]? = some (.cells old t (0, 0))) : (w.setRow g cells).heap[g]? = some (.cells cells t (0, 0)) := by
  unfold World.setRow
  simp only [Array.getElem?_modify]
  rw [if_pos trivial, hg]; rfl
/-- The two copies lie in two boxes. -/
def SubMid (B : Nat) (A : Option Addr) (n : Nat) (ss : List Sym) (v u : Cv) (c d : Cl) (w : World) (s7 s8 : Value) (wx : World) : Prop :=
  ∃ (g7 g8 : Nat) (x y : Cv), s7 = .pointer (some ⟨g7, 0, none⟩) ∧ s8 = .pointer (some ⟨g8, 0, none⟩) ∧ CBox wx g7 x c ∧ CBox wx g8 y d ∧ CBox wx B v c ∧ CBox wx (B + 1) u d ∧ SymsAt wx wx.heap.size A n ss ∧ Below w.heap.size w wx
theorem Cv.val_inj {x y : Cv} (h : x.val = y.val) : x = y := by
  obtain ⟨a1, a2, a3, a4, a5, a6, a7, a8, a9⟩ := x
  obtain ⟨b1, b2, b3, b4, b5, b6, b7, b8, b9⟩ := y
  unfold Cv.val at h
  simp only [Value.agg.injEq, Array.mk.injEq, List.cons.injEq, Value.slice.injEq, and_true] at h
  obtain ⟨⟨rfl, rfl, rfl⟩, ⟨rfl, rfl, rfl⟩, rfl, rfl, rfl⟩ := h
  rfl
theorem ClAt.low {w w' : World} {B : Nat} {v : Cv} {c : Cl} (h : ClAt w B v c) (hb : Below B w w') (hB : B ≤ w'.heap.size) : ClAt w' w'.heap.size v c :=
  ⟨(h.lits.below hb).more hB, (h.tups.below hb).more hB, (h.conds.below hb).more hB, h.m1, h.m2, h.m3, h.z2, h.f1, h.f2, h.f3⟩
/-- Three cells of a box. -/
def Cells3 (w : World) (g : Nat) (x : Cv) : Prop := w.heap[g]? = some (.cells #[.slice x.A1 x.n1 x.c1, .slice x.A2 x.n2 x.c2, .slice x.A3 x.n3 x.c3] 26 (0, 0))
theorem Cells3.box {w : World} {g : Nat} {x : Cv} {c : Cl} (h : Cells3 w g x) (hc : ClAt w w.heap.size x c) : CBox w g x c :=
  ⟨(Array.getElem?_eq_some_iff.1 h).1, by rw [cell_of_row _ _ 0 _ _ _ h]; rfl, by rw [cell_of_row _ _ 1 _ _ _ h]; rfl, by rw [cell_of_row _ _ 2 _ _ _ h]; rfl, hc⟩
theorem Cells3.on {w w' : World} {g : Nat} {x : Cv} (h : Cells3 w g x) (hb : Below w.heap.size w w') : Cells3 w' g x := by
  unfold Cells3; rw [hb.block g (Array.getElem?_eq_some_iff.1 h).1]; exact h
theorem Cells3.d0 {w : World} {g : Nat} {x : Cv} (h : Cells3 w g x) : w.cell? ⟨g, 0, none⟩ = some (.slice x.A1 x.n1 x.c1) := by rw [cell_of_row _ _ 0 _ _ _ h]; rfl
theorem Cells3.d1 {w : World} {g : Nat} {x : Cv} (h : Cells3 w g x) : w.cell? ⟨g, 1, none⟩ = some (.slice x.A2 x.n2 x.c2) := by rw [cell_of_row _ _ 1 _ _ _ h]; rfl
theorem Cells3.d2 {w : World} {g : Nat} {x : Cv} (h : Cells3 w g x) : w.cell? ⟨g, 2, none⟩ = some (.slice x.A3 x.n3 x.c3) := by rw [cell_of_row _ _ 2 _ _ _ h]; rfl
theorem Cells3.lt {w : World} {g : Nat} {x : Cv} (h : Cells3 w g x) : g < w.heap.size := (Array.getElem?_eq_some_iff.1 h).1
theorem cells_two (w : World) (v u : Cv) : Cells3 ((w.alloc v.obj).alloc u.obj) w.heap.size v ∧ Cells3 ((w.alloc v.obj).alloc u.obj) (w.heap.size + 1) u ∧ Below w.heap.size w ((w.alloc v.obj).alloc u.obj) := by
  refine ⟨?_, ?_, below_alloc2 w _ _⟩
  · unfold Cells3
    rw [(below_new _ _).block w.heap.size (by simp)]
    exact heap_alloc_new _ _
  · unfold Cells3
    have := heap_alloc_new (w.alloc v.obj) u.obj
    have e : (w.alloc v.obj).heap.size = w.heap.size + 1 := by simp
    rw [e] at this
    exact this
theorem OwnC.at_ {w : World} {b : Nat} {x : Cv} {c : Cl} (h : OwnC w b x.val c) (hf : Fit c) : ClAt w w.heap.size x c := by
  obtain ⟨y, e, hy⟩ := h.clAt hf
  rw [Cv.val_inj e]; exact hy
structure Sto1 (B : Nat) (A : Option Addr) (n : Nat) (ss : List Sym) (v u : Cv) (c d : Cl) (w : World) (g7 g8 bx by_ : Nat) (x y : Cv) (wx : World) : Prop where
  bc : Cells3 wx B v
  bd : Cells3 wx (B + 1) u
  x7 : Cells3 wx g7 x
  z8 : ZBx wx g8
  ox : OwnC wx bx x.val c
  oy : OwnC wx by_ y.val d
  bel : Below B w wx
theorem sto_one {B : Nat} {A : Option Addr} {n : Nat} {ss : List Sym} {v u : Cv} {c d : Cl} {w w5 : World} {g7 g8 bx by_ : Nat} {x y : Cv} (hz7 : ZBx w5 g7) (hz8 : ZBx w5 g8) (hne : g8 ≠ g7) (hx : OwnC w5 bx x.val c) (hy : OwnC w5 by_ y.val d)
    (hc : Cells3 w5 B v) (hd : Cells3 w5 (B + 1) u) (hb : Below B w w5) (h7 : B + 1 < g7) : Sto1 B A n ss v u c d w g7 g8 bx by_ x y (w5.setRow g7 #[.slice x.A1 x.n1 x.c1, .slice x.A2 x.n2 x.c2, .slice x.A3 x.n3 x.c3]) := by
  have hch := (setRow_chg (cells := #[.slice x.A1 x.n1 x.c1, .slice x.A2 x.n2 x.c2, .slice x.A3 x.n3 x.c3]) hz7.z).2.1
  refine ⟨?_, ?_, setRow_sameC hz7.z, ⟨?_, ?_⟩, hx.chg hch (by decide) (by decide) (by decide), hy.chg hch (by decide) (by decide) (by decide), hb.trans (below_setRowC (by omega))⟩
  · unfold Cells3; rw [setRow_neC (by omega)]; exact hc
  · unfold Cells3; rw [setRow_neC (by omega)]; exact hd
  · have := (below_setRowC (w := w5) (g := g7) (B := 0) (cells := #[.slice x.A1 x.n1 x.c1, .slice x.A2 x.n2 x.c2, .slice x.A3 x.n3 x.c3]) (Nat.zero_le _)).size
    have := hz8.lt; omega
  · rw [setRow_neC hne]; exact hz8.z
theorem Sto1.two {B : Nat} {A : Option Addr} {n : Nat} {ss : List Sym} {v u : Cv} {c d : Cl} {w wx : World} {g7 g8 bx by_ : Nat} {x y : Cv} (h : Sto1 B A n ss v u c d w g7 g8 bx by_ x y wx) (hne : g8 ≠ g7) (h8 : B + 1 < g8)
    (hc0 : ClAt w B v c) (hd0 : ClAt w B u d) (hs0 : SymsAt w B A n ss) (hB : B ≤ w.heap.size) (hfc : Fit c) (hfd : Fit d) (w0 : World) (hw0 : Below w0.heap.size w0 w) (hw0B : w0.heap.size = B) :
    SubMid B A n ss v u c d w0 (.pointer (some ⟨g7, 0, none⟩)) (.pointer (some ⟨g8, 0, none⟩)) (wx.setRow g8 #[.slice y.A1 y.n1 y.c1, .slice y.A2 y.n2 y.c2, .slice y.A3 y.n3 y.c3]) ∧
      Cells3 (wx.setRow g8 #[.slice y.A1 y.n1 y.c1, .slice y.A2 y.n2 y.c2, .slice y.A3 y.n3 y.c3]) B v ∧ Cells3 (wx.setRow g8 #[.slice y.A1 y.n1 y.c1, .slice y.A2 y.n2 y.c2, .slice y.A3 y.n3 y.c3]) (B + 1) u := by
  have hch := (setRow_chg (cells := #[.slice y.A1 y.n1 y.c1, .slice y.A2 y.n2 y.c2, .slice y.A3 y.n3 y.c3]) h.z8.z).2.1
  obtain ⟨w9, hw9⟩ : ∃ w9, w9 = wx.setRow g8 #[.slice y.A1 y.n1 y.c1, .slice y.A2 y.n2 y.c2, .slice y.A3 y.n3 y.c3] := ⟨_, rfl⟩
  have k1 : Cells3 w9 B v := by unfold Cells3; rw [hw9, setRow_neC (by omega)]; exact h.bc
  have k2 : Cells3 w9 (B + 1) u := by unfold Cells3; rw [hw9, setRow_neC (by omega)]; exact h.bd
  have k3 : Cells3 w9 g7 x := by unfold Cells3; rw [hw9, setRow_neC (fun q => hne q.symm)]; exact h.x7
  have k4 : Cells3 w9 g8 y := by rw [hw9]; exact setRow_sameC h.z8.z
  have hb : Below B w w9 := by rw [hw9]; exact h.bel.trans (below_setRowC (by omega))
  have o1 : OwnC w9 bx x.val c := by rw [hw9]; exact h.ox.chg hch (by decide) (by decide) (by decide)
  have o2 : OwnC w9 by_ y.val d := by rw [hw9]; exact h.oy.chg hch (by decide) (by decide) (by decide)
  have hB9 : B ≤ w9.heap.size := Nat.le_trans hB hb.size
  rw [← hw9]
  refine ⟨⟨g7, g8, x, y, rfl, rfl, k3.box (o1.at_ hfc), k4.box (o2.at_ hfd), k1.box (hc0.low hb hB9), k2.box (hd0.low hb hB9), (hs0.below hb).more hB9, hw0.trans (hb.mono (by omega))⟩, k1, k2⟩
set_option maxHeartbeats 16000000 in
theorem subsumes_walk (A : Option Addr) (n cp : Nat) (ss : List Sym) (v u : Cv) (c d : Cl) (w : World) (h : SymsAt w w.heap.size A n ss) (hn : n ≤ maxLen) (hnc : n ≤ cp) (hc : ClAt w w.heap.size v c) (hd : ClAt w w.heap.size u d) (hT : TabW w) (hTB : 0 < w.heap.size) :
    Calls Tryd.prog 3 #[.slice A n cp, v.val, u.val] w fun e w' => e = .returned (.bool true) ∧ Below w.heap.size w w' := by
  obtain ⟨hx, hy, hb0⟩ := cells_two w v u
  have HFC := Lib.hid hc.fit
  have HFD := Lib.hid hd.fit
  rw [Cv.val_eq, Cv.val_eq]
  have HVE := Lib.hid v.val_eq
  have HUE := Lib.hid u.val_eq
  unfold Cv.obj at hx hy hb0
  obtain ⟨w0, hw0⟩ : ∃ w0, w0 = ((w.alloc (.cells #[.slice v.A1 v.n1 v.c1, .slice v.A2 v.n2 v.c2, .slice v.A3 v.n3 v.c3] 26)).alloc (.cells #[.slice u.A1 u.n1 u.c1, .slice u.A2 u.n2 u.c2, .slice u.A3 u.n3 u.c3] 26)) := ⟨_, rfl⟩
  rw [← hw0] at hx hy hb0
  go_enter Tryd.func3, Tryd.ntmps3
  go_upto_region 1 with (fail)
  rw [← hw0]
  clear hw0
  obtain ⟨B, hB⟩ : ∃ B, B = w.heap.size := ⟨_, rfl⟩
  have HBH := Lib.hid hB
  rw [← hB] at h hc hd hTB hx hy hb0 ⊢
  have HC := Lib.hid hx
  have HD := Lib.hid hy
  have HC0 := Lib.hid hc
  have HD0 := Lib.hid hd
  have HS0 := Lib.hid h
  have HB0 := Lib.hid hb0
  have HT := Lib.hid hT
  have HTB := Lib.hid hTB
  clear h hc hd hx hy hb0 hT hTB hB
  go_cut [7, 8] (fun s7 s8 wx => SubMid B A n ss v u c d w s7 s8 wx)
  case first =>
    go_wp2_with fail
    refine wp_region_held_drew (S := (fun w' => w'.cell? ⟨B, 0, none⟩ = some (.slice v.A1 v.n1 v.c1) ∧ w'.cell? ⟨B, 1, none⟩ = some (.slice v.A2 v.n2 v.c2) ∧ w'.cell? ⟨B, 2, none⟩ = some (.slice v.A3 v.n3 v.c3) ∧ w'.cell? ⟨B + 1, 0, none⟩ = some (.slice u.A1 u.n1 u.c1) ∧ w'.cell? ⟨B + 1, 1, none⟩ = some (.slice u.A2 u.n2 u.c2) ∧ w'.cell? ⟨B + 1, 2, none⟩ = some (.slice u.A3 u.n3 u.c3))) (by kernel_rfl) ⟨HC.out.d0, HC.out.d1, HC.out.d2, HD.out.d0, HD.out.d1, HD.out.d2⟩ (fun hHeld => ?_)
    have hb1 : Below w0.heap.size w0 w0.drew := (Below.refl w0.heap.size w0).drew
    obtain ⟨w1, hw1⟩ : ∃ w1, w1 = w0.drew := ⟨_, rfl⟩
    rw [← hw1] at hb1 hHeld ⊢
    have HB1 := Lib.hid (HB0.out.trans (hb1.mono (by have := HB0.out.size; have := HBH.out; omega)))
    replace HC := Lib.hid (HC.out.on hb1)
    replace HD := Lib.hid (HD.out.on hb1)
    clear hb1 hw1
    refine takeH (i := 0) (v := ?_) rfl rfl (by kernel_rfl) (by kernel_rfl) (by kernel_rfl) (fun _ _ _ h => h) (by rfl) ?_ hHeld ?_
    rotate_left
    · (intro w hSw; (try dsimp only at hSw); first | (go_simp; done) | (go_simp; with_reducible rfl))
    simp only [Act.put, List.setIfInBounds_toArray, List.set_cons_zero, List.set_cons_succ]
    refine takeH (i := 2) (v := ?_) rfl rfl (by kernel_rfl) (by kernel_rfl) (by kernel_rfl) (fun _ _ _ h => h) (by rfl) ?_ hHeld ?_
    rotate_left
    · (intro w hSw; (try dsimp only at hSw); first | (go_simp; done) | (go_simp; with_reducible rfl))
    simp only [Act.put, List.setIfInBounds_toArray, List.set_cons_zero, List.set_cons_succ]
    refine wpAnyH_ready (rs := [1, 4, 5]) (by kernel_rfl) (by simp) ?_
    refine AllReadyH.cons rfl (fun K hK => ?_) (AllReadyH.cons rfl (fun K hK => ?_) (AllReadyH.cons rfl (fun K hK => ?_) AllReadyH.nil))
    · skip
      go_simp
      rw [← HVE.out]
      refine (copyClause_any v c _ (HC0.out.low HB1.out (by have := HB1.out.size; have := HBH.out; omega))).mono ?_
      rintro e' w2 ⟨x0, rfl, hx, hb2⟩
      have HB2 := Lib.hid (HB1.out.trans (hb2.mono (by have := HB1.out.size; have := HBH.out; omega)))
      replace HC := Lib.hid (HC.out.on hb2)
      replace HD := Lib.hid (HD.out.on hb2)
      obtain ⟨x, rfl, hxc⟩ := hx.clAt HFC.out
      rw [Cv.val_eq x]
      have HXC := Lib.hid hx
      clear hb2 hx hxc
      refine hK.out _ _ ?_ (fun hHeld => ?_)
      · exact ⟨HC.out.d0, HC.out.d1, HC.out.d2, HD.out.d0, HD.out.d1, HD.out.d2⟩
      clear hK K
      refine wpAnyH_ready (rs := [3, 4, 5]) (by kernel_rfl) (by simp) ?_
      refine AllReadyH.cons rfl (fun K hK => ?_) (AllReadyH.cons rfl (fun K hK => ?_) (AllReadyH.cons rfl (fun K hK => ?_) AllReadyH.nil))
      · skip
        go_simp
        rw [← HUE.out]
        refine (copyClause_any u d _ (HD0.out.low HB2.out (by have := HB2.out.size; have := HBH.out; omega))).mono ?_
        rintro e' w3 ⟨y0, rfl, hy, hb3⟩
        have HB3 := Lib.hid (HB2.out.trans (hb3.mono (by have := HB2.out.size; have := HBH.out; omega)))
        replace HC := Lib.hid (HC.out.on hb3)
        replace HD := Lib.hid (HD.out.on hb3)
        replace HXC := Lib.hid (HXC.out.on hb3)
        obtain ⟨y, rfl, hyc⟩ := hy.clAt HFD.out
        rw [Cv.val_eq y]
        have HYC := Lib.hid hy
        clear hb3 hy hyc
        refine hK.out _ _ ?_ (fun hHeld => ?_)
        · exact ⟨HC.out.d0, HC.out.d1, HC.out.d2, HD.out.d0, HD.out.d1, HD.out.d2⟩
        clear hK K
        refine wpAnyH_ready (rs := [4, 5]) (by kernel_rfl) (by simp) ?_
        refine AllReadyH.cons rfl (fun K hK => ?_) (AllReadyH.cons rfl (fun K hK => ?_) AllReadyH.nil)
        · skip
          go_simp
          obtain ⟨w4, hw4⟩ : ∃ u, u = w3.alloc (.cells #[.slice none 0 0, .slice none 0 0, .slice none 0 0] 26) := ⟨_, rfl⟩
          rw [← hw4]
          have hb4 : Below w3.heap.size w3 w4 := by rw [hw4]; exact below_new _ _
          obtain ⟨g7, hg7⟩ : ∃ g, g = w3.heap.size := ⟨_, rfl⟩
          rw [← hg7]
          have HZ7 : Hid (ZBx w4 g7) := ⟨by rw [hg7, hw4]; simp, by rw [hg7, hw4]; exact heap_alloc_new _ _⟩
          have HB7B : Hid (B + 1 < g7) := by show _ < _; rw [hg7]; exact HD.out.lt
          clear hw4
          have HB4 := Lib.hid (HB3.out.trans (hb4.mono (by have := HB3.out.size; have := HBH.out; omega)))
          replace HC := Lib.hid (HC.out.on hb4)
          replace HD := Lib.hid (HD.out.on hb4)
          replace HXC := Lib.hid (HXC.out.on hb4)
          replace HYC := Lib.hid (HYC.out.on hb4)
          clear hb4 hg7
          refine hK.out _ _ ?_ (fun hHeld => ?_)
          · exact ⟨HC.out.d0, HC.out.d1, HC.out.d2, HD.out.d0, HD.out.d1, HD.out.d2⟩
          clear hK K
          refine wpAnyH_ready (rs := [5]) (by kernel_rfl) (by simp) ?_
          refine AllReadyH.cons rfl (fun K hK => ?_) AllReadyH.nil
          go_simp
          have hlt7 := HZ7.out.lt
          obtain ⟨w5, hw5⟩ : ∃ u, u = w4.alloc (.cells #[.slice none 0 0, .slice none 0 0, .slice none 0 0] 26) := ⟨_, rfl⟩
          rw [← hw5]
          have hb5 : Below w4.heap.size w4 w5 := by rw [hw5]; exact below_new _ _
          obtain ⟨g8, hg8⟩ : ∃ g, g = w4.heap.size := ⟨_, rfl⟩
          rw [← hg8]
          have HZ8 : Hid (ZBx w5 g8) := ⟨by rw [hg8, hw5]; simp, by rw [hg8, hw5]; exact heap_alloc_new _ _⟩
          have HNE : Hid (g8 ≠ g7) := by show _ ≠ _; omega
          have HB8B : Hid (B + 1 < g8) := by show _ < _; rw [hg8]; exact HD.out.lt
          clear hw5 hlt7
          have HB5 := Lib.hid (HB4.out.trans (hb5.mono (by have := HB4.out.size; have := HBH.out; omega)))
          replace HC := Lib.hid (HC.out.on hb5)
          replace HD := Lib.hid (HD.out.on hb5)
          replace HXC := Lib.hid (HXC.out.on hb5)
          replace HYC := Lib.hid (HYC.out.on hb5)
          replace HZ7 := Lib.hid (HZ7.out.on hb5)
          clear hb5 hg8
          refine hK.out _ _ ?_ (fun hHeld => ?_)
          · exact ⟨HC.out.d0, HC.out.d1, HC.out.d2, HD.out.d0, HD.out.d1, HD.out.d2⟩
          clear hK K
          refine wpAnyH_ready (rs := [6]) (by kernel_rfl) (by simp) ?_
          refine AllReadyH.cons rfl (fun K hK => ?_) AllReadyH.nil
          refine store_row_step rfl 26 (.tmp 7) (.tmp 18) rfl rfl g7 _ _ rfl rfl HZ7.out.z rfl (by kernel_rfl) (three_sl _ _ _ _ _ _ _ _ _) ?_
          have HM := Lib.hid (sto_one (A := A) (n := n) (ss := ss) HZ7.out HZ8.out HNE.out HXC.out HYC.out HC.out HD.out HB5.out HB7B.out)
          obtain ⟨w6, hw6⟩ : ∃ u, u = w5.setRow g7 #[.slice x.A1 x.n1 x.c1, .slice x.A2 x.n2 x.c2, .slice x.A3 x.n3 x.c3] := ⟨_, rfl⟩
          rw [← hw6] at HM ⊢
          clear hw6 HC HD
          have HC := Lib.hid HM.out.bc
          have HD := Lib.hid HM.out.bd
          refine hK.out _ _ ?_ (fun hHeld => ?_)
          · exact ⟨HC.out.d0, HC.out.d1, HC.out.d2, HD.out.d0, HD.out.d1, HD.out.d2⟩
          clear hK K
          refine wpAnyH_ready (rs := [7]) (by kernel_rfl) (by simp) ?_
          refine AllReadyH.cons rfl (fun K hK => ?_) AllReadyH.nil
          refine store_row_step rfl 26 (.tmp 8) (.tmp 20) rfl rfl g8 _ _ rfl rfl HM.out.z8.z rfl (by kernel_rfl) (three_sl _ _ _ _ _ _ _ _ _) ?_
          have HM2 := Lib.hid (HM.out.two HNE.out HB8B.out HC0.out HD0.out HS0.out (by have := HBH.out; omega) HFC.out HFD.out w (Below.refl _ _) HBH.out.symm)
          obtain ⟨w7, hw7⟩ : ∃ u, u = w6.setRow g8 #[.slice y.A1 y.n1 y.c1, .slice y.A2 y.n2 y.c2, .slice y.A3 y.n3 y.c3] := ⟨_, rfl⟩
          rw [← hw7] at HM2 ⊢
          clear hw7 HC HD
          have HC := Lib.hid HM2.out.2.1
          have HD := Lib.hid HM2.out.2.2
          refine hK.out _ _ ?_ (fun hHeld => ?_)
          · exact ⟨HC.out.d0, HC.out.d1, HC.out.d2, HD.out.d0, HD.out.d1, HD.out.d2⟩
          clear hK K
          refine wpAnyH_done (by kernel_rfl) ?_ _
          rw [HVE.out, HUE.out]
          go_wp2
          go_meet
          case rel => exact HM2.out.1
        · skip
          go_simp
          obtain ⟨w4, hw4⟩ : ∃ u, u = w3.alloc (.cells #[.slice none 0 0, .slice none 0 0, .slice none 0 0] 26) := ⟨_, rfl⟩
          rw [← hw4]
          have hb4 : Below w3.heap.size w3 w4 := by rw [hw4]; exact below_new _ _
          obtain ⟨g8, hg8⟩ : ∃ g, g = w3.heap.size := ⟨_, rfl⟩
          rw [← hg8]
          have HZ8 : Hid (ZBx w4 g8) := ⟨by rw [hg8, hw4]; simp, by rw [hg8, hw4]; exact heap_alloc_new _ _⟩
          have HB8B : Hid (B + 1 < g8) := by show _ < _; rw [hg8]; exact HD.out.lt
          clear hw4
          have HB4 := Lib.hid (HB3.out.trans (hb4.mono (by have := HB3.out.size; have := HBH.out; omega)))
          replace HC := Lib.hid (HC.out.on hb4)
          replace HD := Lib.hid (HD.out.on hb4)
          replace HXC := Lib.hid (HXC.out.on hb4)
          replace HYC := Lib.hid (HYC.out.on hb4)
          clear hb4 hg8
          refine hK.out _ _ ?_ (fun hHeld => ?_)
          · exact ⟨HC.out.d0, HC.out.d1, HC.out.d2, HD.out.d0, HD.out.d1, HD.out.d2⟩
          clear hK K
          refine wpAnyH_ready (rs := [4]) (by kernel_rfl) (by simp) ?_
          refine AllReadyH.cons rfl (fun K hK => ?_) AllReadyH.nil
          go_simp
          have hlt8 := HZ8.out.lt
          obtain ⟨w5, hw5⟩ : ∃ u, u = w4.alloc (.cells #[.slice none 0 0, .slice none 0 0, .slice none 0 0] 26) := ⟨_, rfl⟩
          rw [← hw5]
          have hb5 : Below w4.heap.size w4 w5 := by rw [hw5]; exact below_new _ _
          obtain ⟨g7, hg7⟩ : ∃ g, g = w4.heap.size := ⟨_, rfl⟩
          rw [← hg7]
          have HZ7 : Hid (ZBx w5 g7) := ⟨by rw [hg7, hw5]; simp, by rw [hg7, hw5]; exact heap_alloc_new _ _⟩
          have HNE : Hid (g8 ≠ g7) := by show _ ≠ _; omega
          have HB7B : Hid (B + 1 < g7) := by show _ < _; rw [hg7]; exact HD.out.lt
          clear hw5 hlt8
          have HB5 := Lib.hid (HB4.out.trans (hb5.mono (by have := HB4.out.size; have := HBH.out; omega)))
          replace HC := Lib.hid (HC.out.on hb5)
          replace HD := Lib.hid (HD.out.on hb5)
          replace HXC := Lib.hid (HXC.out.on hb5)
          replace HYC := Lib.hid (HYC.out.on hb5)
          replace HZ8 := Lib.hid (HZ8.out.on hb5)
          clear hb5 hg7
          refine hK.out _ _ ?_ (fun hHeld => ?_)
          · exact ⟨HC.out.d0, HC.out.d1, HC.out.d2, HD.out.d0, HD.out.d1, HD.out.d2⟩
          clear hK K
          refine wpAnyH_ready (rs := [6]) (by kernel_rfl) (by simp) ?_
          refine AllReadyH.cons rfl (fun K hK => ?_) AllReadyH.nil
          refine store_row_step rfl 26 (.tmp 7) (.tmp 18) rfl rfl g7 _ _ rfl rfl HZ7.out.z rfl (by kernel_rfl) (three_sl _ _ _ _ _ _ _ _ _) ?_
          have HM := Lib.hid (sto_one (A := A) (n := n) (ss := ss) HZ7.out HZ8.out HNE.out HXC.out HYC.out HC.out HD.out HB5.out HB7B.out)
          obtain ⟨w6, hw6⟩ : ∃ u, u = w5.setRow g7 #[.slice x.A1 x.n1 x.c1, .slice x.A2 x.n2 x.c2, .slice x.A3 x.n3 x.c3] := ⟨_, rfl⟩
          rw [← hw6] at HM ⊢
          clear hw6 HC HD
          have HC := Lib.hid HM.out.bc
          have HD := Lib.hid HM.out.bd
          refine hK.out _ _ ?_ (fun hHeld => ?_)
          · exact ⟨HC.out.d0, HC.out.d1, HC.out.d2, HD.out.d0, HD.out.d1, HD.out.d2⟩
          clear hK K
          refine wpAnyH_ready (rs := [7]) (by kernel_rfl) (by simp) ?_
          refine AllReadyH.cons rfl (fun K hK => ?_) AllReadyH.nil
          refine store_row_step rfl 26 (.tmp 8) (.tmp 20) rfl rfl g8 _ _ rfl rfl HM.out.z8.z rfl (by kernel_rfl) (three_sl _ _ _ _ _ _ _ _ _) ?_
          have HM2 := Lib.hid (HM.out.two HNE.out HB8B.out HC0.out HD0.out HS0.out (by have := HBH.out; omega) HFC.out HFD.out w (Below.refl _ _) HBH.out.symm)
          obtain ⟨w7, hw7⟩ : ∃ u, u = w6.setRow g8 #[.slice y.A1 y.n1 y.c1, .slice y.A2 y.n2 y.c2, .slice y.A3 y.n3 y.c3] := ⟨_, rfl⟩
          rw [← hw7] at HM2 ⊢
          clear hw7 HC HD
          have HC := Lib.hid HM2.out.2.1
          have HD := Lib.hid HM2.out.2.2
          refine hK.out _ _ ?_ (fun hHeld => ?_)
          · exact ⟨HC.out.d0, HC.out.d1, HC.out.d2, HD.out.d0, HD.out.d1, HD.out.d2⟩
          clear hK K
          refine wpAnyH_done (by kernel_rfl) ?_ _
          rw [HVE.out, HUE.out]
          go_wp2
          go_meet
          case rel => exact HM2.out.1
      · skip
        go_simp
        obtain ⟨w3, hw3⟩ : ∃ u, u = w2.alloc (.cells #[.slice none 0 0, .slice none 0 0, .slice none 0 0] 26) := ⟨_, rfl⟩
        rw [← hw3]
        have hb3 : Below w2.heap.size w2 w3 := by rw [hw3]; exact below_new _ _
        obtain ⟨g7, hg7⟩ : ∃ g, g = w2.heap.size := ⟨_, rfl⟩
        rw [← hg7]
        have HZ7 : Hid (ZBx w3 g7) := ⟨by rw [hg7, hw3]; simp, by rw [hg7, hw3]; exact heap_alloc_new _ _⟩
        have HB7B : Hid (B + 1 < g7) := by show _ < _; rw [hg7]; exact HD.out.lt
        clear hw3
        have HB3 := Lib.hid (HB2.out.trans (hb3.mono (by have := HB2.out.size; have := HBH.out; omega)))
        replace HC := Lib.hid (HC.out.on hb3)
        replace HD := Lib.hid (HD.out.on hb3)
        replace HXC := Lib.hid (HXC.out.on hb3)
        clear hb3 hg7
        refine hK.out _ _ ?_ (fun hHeld => ?_)
        · exact ⟨HC.out.d0, HC.out.d1, HC.out.d2, HD.out.d0, HD.out.d1, HD.out.d2⟩
        clear hK K
        refine wpAnyH_ready (rs := [3, 5]) (by kernel_rfl) (by simp) ?_
        refine AllReadyH.cons rfl (fun K hK => ?_) (AllReadyH.cons rfl (fun K hK => ?_) AllReadyH.nil)
        · skip
          go_simp
          rw [← HUE.out]
          refine (copyClause_any u d _ (HD0.out.low HB3.out (by have := HB3.out.size; have := HBH.out; omega))).mono ?_
          rintro e' w4 ⟨y0, rfl, hy, hb4⟩
          have HB4 := Lib.hid (HB3.out.trans (hb4.mono (by have := HB3.out.size; have := HBH.out; omega)))
          replace HC := Lib.hid (HC.out.on hb4)
          replace HD := Lib.hid (HD.out.on hb4)
          replace HXC := Lib.hid (HXC.out.on hb4)
          replace HZ7 := Lib.hid (HZ7.out.on hb4)
          obtain ⟨y, rfl, hyc⟩ := hy.clAt HFD.out
          rw [Cv.val_eq y]
          have HYC := Lib.hid hy
          clear hb4 hy hyc
          refine hK.out _ _ ?_ (fun hHeld => ?_)
          · exact ⟨HC.out.d0, HC.out.d1, HC.out.d2, HD.out.d0, HD.out.d1, HD.out.d2⟩
          clear hK K
          refine wpAnyH_ready (rs := [5]) (by kernel_rfl) (by simp) ?_
          refine AllReadyH.cons rfl (fun K hK => ?_) AllReadyH.nil
          go_simp
          have hlt7 := HZ7.out.lt
          obtain ⟨w5, hw5⟩ : ∃ u, u = w4.alloc (.cells #[.slice none 0 0, .slice none 0 0, .slice none 0 0] 26) := ⟨_, rfl⟩
          rw [← hw5]
          have hb5 : Below w4.heap.size w4 w5 := by rw [hw5]; exact below_new _ _
          obtain ⟨g8, hg8⟩ : ∃ g, g = w4.heap.size := ⟨_, rfl⟩
          rw [← hg8]
          have HZ8 : Hid (ZBx w5 g8) := ⟨by rw [hg8, hw5]; simp, by rw [hg8, hw5]; exact heap_alloc_new _ _⟩
          have HNE : Hid (g8 ≠ g7) := by show _ ≠ _; omega
          have HB8B : Hid (B + 1 < g8) := by show _ < _; rw [hg8]; exact HD.out.lt
          clear hw5 hlt7
          have HB5 := Lib.hid (HB4.out.trans (hb5.mono (by have := HB4.out.size; have := HBH.out; omega)))
          replace HC := Lib.hid (HC.out.on hb5)
          replace HD := Lib.hid (HD.out.on hb5)
          replace HXC := Lib.hid (HXC.out.on hb5)
          replace HZ7 := Lib.hid (HZ7.out.on hb5)
          replace HYC := Lib.hid (HYC.out.on hb5)
          clear hb5 hg8
          refine hK.out _ _ ?_ (fun hHeld => ?_)
          · exact ⟨HC.out.d0, HC.out.d1, HC.out.d2, HD.out.d0, HD.out.d1, HD.out.d2⟩
          clear hK K
          refine wpAnyH_ready (rs := [6]) (by kernel_rfl) (by simp) ?_
          refine AllReadyH.cons rfl (fun K hK => ?_) AllReadyH.nil
          refine store_row_step rfl 26 (.tmp 7) (.tmp 18) rfl rfl g7 _ _ rfl rfl HZ7.out.z rfl (by kernel_rfl) (three_sl _ _ _ _ _ _ _ _ _) ?_
          have HM := Lib.hid (sto_one (A := A) (n := n) (ss := ss) HZ7.out HZ8.out HNE.out HXC.out HYC.out HC.out HD.out HB5.out HB7B.out)
          obtain ⟨w6, hw6⟩ : ∃ u, u = w5.setRow g7 #[.slice x.A1 x.n1 x.c1, .slice x.A2 x.n2 x.c2, .slice x.A3 x.n3 x.c3] := ⟨_, rfl⟩
          rw [← hw6] at HM ⊢
          clear hw6 HC HD
          have HC := Lib.hid HM.out.bc
          have HD := Lib.hid HM.out.bd
          refine hK.out _ _ ?_ (fun hHeld => ?_)
          · exact ⟨HC.out.d0, HC.out.d1, HC.out.d2, HD.out.d0, HD.out.d1, HD.out.d2⟩
          clear hK K
          refine wpAnyH_ready (rs := [7]) (by kernel_rfl) (by simp) ?_
          refine AllReadyH.cons rfl (fun K hK => ?_) AllReadyH.nil
          refine store_row_step rfl 26 (.tmp 8) (.tmp 20) rfl rfl g8 _ _ rfl rfl HM.out.z8.z rfl (by kernel_rfl) (three_sl _ _ _ _ _ _ _ _ _) ?_
          have HM2 := Lib.hid (HM.out.two HNE.out HB8B.out HC0.out HD0.out HS0.out (by have := HBH.out; omega) HFC.out HFD.out w (Below.refl _ _) HBH.out.symm)
          obtain ⟨w7, hw7⟩ : ∃ u, u = w6.setRow g8 #[.slice y.A1 y.n1 y.c1, .slice y.A2 y.n2 y.c2, .slice y.A3 y.n3 y.c3] := ⟨_, rfl⟩
          rw [← hw7] at HM2 ⊢
          clear hw7 HC HD
          have HC := Lib.hid HM2.out.2.1
          have HD := Lib.hid HM2.out.2.2
          refine hK.out _ _ ?_ (fun hHeld => ?_)
          · exact ⟨HC.out.d0, HC.out.d1, HC.out.d2, HD.out.d0, HD.out.d1, HD.out.d2⟩
          clear hK K
          refine wpAnyH_done (by kernel_rfl) ?_ _
          rw [HVE.out, HUE.out]
          go_wp2
          go_meet
          case rel => exact HM2.out.1
        · skip
          go_simp
          have hlt7 := HZ7.out.lt
          obtain ⟨w4, hw4⟩ : ∃ u, u = w3.alloc (.cells #[.slice none 0 0, .slice none 0 0, .slice none 0 0] 26) := ⟨_, rfl⟩
          rw [← hw4]
          have hb4 : Below w3.heap.size w3 w4 := by rw [hw4]; exact below_new _ _
          obtain ⟨g8, hg8⟩ : ∃ g, g = w3.heap.size := ⟨_, rfl⟩
          rw [← hg8]
          have HZ8 : Hid (ZBx w4 g8) := ⟨by rw [hg8, hw4]; simp, by rw [hg8, hw4]; exact heap_alloc_new _ _⟩
          have HNE : Hid (g8 ≠ g7) := by show _ ≠ _; omega
          have HB8B : Hid (B + 1 < g8) := by show _ < _; rw [hg8]; exact HD.out.lt
          clear hw4 hlt7
          have HB4 := Lib.hid (HB3.out.trans (hb4.mono (by have := HB3.out.size; have := HBH.out; omega)))
          replace HC := Lib.hid (HC.out.on hb4)
          replace HD := Lib.hid (HD.out.on hb4)
          replace HXC := Lib.hid (HXC.out.on hb4)
          replace HZ7 := Lib.hid (HZ7.out.on hb4)
          clear hb4 hg8
          refine hK.out _ _ ?_ (fun hHeld => ?_)
          · exact ⟨HC.out.d0, HC.out.d1, HC.out.d2, HD.out.d0, HD.out.d1, HD.out.d2⟩
          clear hK K
          refine wpAnyH_ready (rs := [3]) (by kernel_rfl) (by simp) ?_
          refine AllReadyH.cons rfl (fun K hK => ?_) AllReadyH.nil
          go_simp
          rw [← HUE.out]
          refine (copyClause_any u d _ (HD0.out.low HB4.out (by have := HB4.out.size; have := HBH.out; omega))).mono ?_
          rintro e' w5 ⟨y0, rfl, hy, hb5⟩
          have HB5 := Lib.hid (HB4.out.trans (hb5.mono (by have := HB4.out.size; have := HBH.out; omega)))
          replace HC := Lib.hid (HC.out.on hb5)
          replace HD := Lib.hid (HD.out.on hb5)
          replace HXC := Lib.hid (HXC.out.on hb5)
          replace HZ7 := Lib.hid (HZ7.out.on hb5)
          replace HZ8 := Lib.hid (HZ8.out.on hb5)
          obtain ⟨y, rfl, hyc⟩ := hy.clAt HFD.out
          rw [Cv.val_eq y]
          have HYC := Lib.hid hy
          clear hb5 hy hyc
          refine hK.out _ _ ?_ (fun hHeld => ?_)
          · exact ⟨HC.out.d0, HC.out.d1, HC.out.d2, HD.out.d0, HD.out.d1, HD.out.d2⟩
          clear hK K
          refine wpAnyH_ready (rs := [6]) (by kernel_rfl) (by simp) ?_
          refine AllReadyH.cons rfl (fun K hK => ?_) AllReadyH.nil
          refine store_row_step rfl 26 (.tmp 7) (.tmp 18) rfl rfl g7 _ _ rfl rfl HZ7.out.z rfl (by kernel_rfl) (three_sl _ _ _ _ _ _ _ _ _) ?_
          have HM := Lib.hid (sto_one (A := A) (n := n) (ss := ss) HZ7.out HZ8.out HNE.out HXC.out HYC.out HC.out HD.out HB5.out HB7B.out)
          obtain ⟨w6, hw6⟩ : ∃ u, u = w5.setRow g7 #[.slice x.A1 x.n1 x.c1, .slice x.A2 x.n2 x.c2, .slice x.A3 x.n3 x.c3] := ⟨_, rfl⟩
          rw [← hw6] at HM ⊢
          clear hw6 HC HD
          have HC := Lib.hid HM.out.bc
          have HD := Lib.hid HM.out.bd
          refine hK.out _ _ ?_ (fun hHeld => ?_)
          · exact ⟨HC.out.d0, HC.out.d1, HC.out.d2, HD.out.d0, HD.out.d1, HD.out.d2⟩
          clear hK K
          refine wpAnyH_ready (rs := [7]) (by kernel_rfl) (by simp) ?_
          refine AllReadyH.cons rfl (fun K hK => ?_) AllReadyH.nil
          refine store_row_step rfl 26 (.tmp 8) (.tmp 20) rfl rfl g8 _ _ rfl rfl HM.out.z8.z rfl (by kernel_rfl) (three_sl _ _ _ _ _ _ _ _ _) ?_
          have HM2 := Lib.hid (HM.out.two HNE.out HB8B.out HC0.out HD0.out HS0.out (by have := HBH.out; omega) HFC.out HFD.out w (Below.refl _ _) HBH.out.symm)
          obtain ⟨w7, hw7⟩ : ∃ u, u = w6.setRow g8 #[.slice y.A1 y.n1 y.c1, .slice y.A2 y.n2 y.c2, .slice y.A3 y.n3 y.c3] := ⟨_, rfl⟩
          rw [← hw7] at HM2 ⊢
          clear hw7 HC HD
          have HC := Lib.hid HM2.out.2.1
          have HD := Lib.hid HM2.out.2.2
          refine hK.out _ _ ?_ (fun hHeld => ?_)
          · exact ⟨HC.out.d0, HC.out.d1, HC.out.d2, HD.out.d0, HD.out.d1, HD.out.d2⟩
          clear hK K
          refine wpAnyH_done (by kernel_rfl) ?_ _
          rw [HVE.out, HUE.out]
          go_wp2
          go_meet
          case rel => exact HM2.out.1
      · skip
        go_simp
        obtain ⟨w3, hw3⟩ : ∃ u, u = w2.alloc (.cells #[.slice none 0 0, .slice none 0 0, .slice none 0 0] 26) := ⟨_, rfl⟩
        rw [← hw3]
        have hb3 : Below w2.heap.size w2 w3 := by rw [hw3]; exact below_new _ _
        obtain ⟨g8, hg8⟩ : ∃ g, g = w2.heap.size := ⟨_, rfl⟩
        rw [← hg8]
        have HZ8 : Hid (ZBx w3 g8) := ⟨by rw [hg8, hw3]; simp, by rw [hg8, hw3]; exact heap_alloc_new _ _⟩
        have HB8B : Hid (B + 1 < g8) := by show _ < _; rw [hg8]; exact HD.out.lt
        clear hw3
        have HB3 := Lib.hid (HB2.out.trans (hb3.mono (by have := HB2.out.size; have := HBH.out; omega)))
        replace HC := Lib.hid (HC.out.on hb3)
        replace HD := Lib.hid (HD.out.on hb3)
        replace HXC := Lib.hid (HXC.out.on hb3)
        clear hb3 hg8
        refine hK.out _ _ ?_ (fun hHeld => ?_)
        · exact ⟨HC.out.d0, HC.out.d1, HC.out.d2, HD.out.d0, HD.out.d1, HD.out.d2⟩
        clear hK K
        refine wpAnyH_ready (rs := [3, 4]) (by kernel_rfl) (by simp) ?_
        refine AllReadyH.cons rfl (fun K hK => ?_) (AllReadyH.cons rfl (fun K hK => ?_) AllReadyH.nil)
        · skip
          go_simp
          rw [← HUE.out]
          refine (copyClause_any u d _ (HD0.out.low HB3.out (by have := HB3.out.size; have := HBH.out; omega))).mono ?_
          rintro e' w4 ⟨y0, rfl, hy, hb4⟩
          have HB4 := Lib.hid (HB3.out.trans (hb4.mono (by have := HB3.out.size; have := HBH.out; omega)))
          replace HC := Lib.hid (HC.out.on hb4)
          replace HD := Lib.hid (HD.out.on hb4)
          replace HXC := Lib.hid (HXC.out.on hb4)
          replace HZ8 := Lib.hid (HZ8.out.on hb4)
          obtain ⟨y, rfl, hyc⟩ := hy.clAt HFD.out
          rw [Cv.val_eq y]
          have HYC := Lib.hid hy
          clear hb4 hy hyc
          refine hK.out _ _ ?_ (fun hHeld => ?_)
          · exact ⟨HC.out.d0, HC.out.d1, HC.out.d2, HD.out.d0, HD.out.d1, HD.out.d2⟩
          clear hK K
          refine wpAnyH_ready (rs := [4]) (by kernel_rfl) (by simp) ?_
          refine AllReadyH.cons rfl (fun K hK => ?_) AllReadyH.nil
          go_simp
          have hlt8 := HZ8.out.lt
          obtain ⟨w5, hw5⟩ : ∃ u, u = w4.alloc (.cells #[.slice none 0 0, .slice none 0 0, .slice none 0 0] 26) := ⟨_, rfl⟩
          rw [← hw5]
          have hb5 : Below w4.heap.size w4 w5 := by rw [hw5]; exact below_new _ _
          obtain ⟨g7, hg7⟩ : ∃ g, g = w4.heap.size := ⟨_, rfl⟩
          rw [← hg7]
          have HZ7 : Hid (ZBx w5 g7) := ⟨by rw [hg7, hw5]; simp, by rw [hg7, hw5]; exact heap_alloc_new _ _⟩
          have HNE : Hid (g8 ≠ g7) := by show _ ≠ _; omega
          have HB7B : Hid (B + 1 < g7) := by show _ < _; rw [hg7]; exact HD.out.lt
          clear hw5 hlt8
          have HB5 := Lib.hid (HB4.out.trans (hb5.mono (by have := HB4.out.size; have := HBH.out; omega)))
          replace HC := Lib.hid (HC.out.on hb5)
          replace HD := Lib.hid (HD.out.on hb5)
          replace HXC := Lib.hid (HXC.out.on hb5)
          replace HZ8 := Lib.hid (HZ8.out.on hb5)
          replace HYC := Lib.hid (HYC.out.on hb5)
          clear hb5 hg7
          refine hK.out _ _ ?_ (fun hHeld => ?_)
          · exact ⟨HC.out.d0, HC.out.d1, HC.out.d2, HD.out.d0, HD.out.d1, HD.out.d2⟩
          clear hK K
          refine wpAnyH_ready (rs := [6]) (by kernel_rfl) (by simp) ?_
          refine AllReadyH.cons rfl (fun K hK => ?_) AllReadyH.nil
          refine store_row_step rfl 26 (.tmp 7) (.tmp 18) rfl rfl g7 _ _ rfl rfl HZ7.out.z rfl (by kernel_rfl) (three_sl _ _ _ _ _ _ _ _ _) ?_
          have HM := Lib.hid (sto_one (A := A) (n := n) (ss := ss) HZ7.out HZ8.out HNE.out HXC.out HYC.out HC.out HD.out HB5.out HB7B.out)
          obtain ⟨w6, hw6⟩ : ∃ u, u = w5.setRow g7 #[.slice x.A1 x.n1 x.c1, .slice x.A2 x.n2 x.c2, .slice x.A3 x.n3 x.c3] := ⟨_, rfl⟩
          rw [← hw6] at HM ⊢
          clear hw6 HC HD
          have HC := Lib.hid HM.out.bc
          have HD := Lib.hid HM.out.bd
          refine hK.out _ _ ?_ (fun hHeld => ?_)
          · exact ⟨HC.out.d0, HC.out.d1, HC.out.d2, HD.out.d0, HD.out.d1, HD.out.d2⟩
          clear hK K
          refine wpAnyH_ready (rs := [7]) (by kernel_rfl) (by simp) ?_
          refine AllReadyH.cons rfl (fun K hK => ?_) AllReadyH.nil
          refine store_row_step rfl 26 (.tmp 8) (.tmp 20) rfl rfl g8 _ _ rfl rfl HM.out.z8.z rfl (by kernel_rfl) (three_sl _ _ _ _ _ _ _ _ _) ?_
          have HM2 := Lib.hid (HM.out.two HNE.out HB8B.out HC0.out HD0.out HS0.out (by have := HBH.out; omega) HFC.out HFD.out w (Below.refl _ _) HBH.out.symm)
          obtain ⟨w7, hw7⟩ : ∃ u, u = w6.setRow g8 #[.slice y.A1 y.n1 y.c1, .slice y.A2 y.n2 y.c2, .slice y.A3 y.n3 y.c3] := ⟨_, rfl⟩
          rw [← hw7] at HM2 ⊢
          clear hw7 HC HD
          have HC := Lib.hid HM2.out.2.1
          have HD := Lib.hid HM2.out.2.2
          refine hK.out _ _ ?_ (fun hHeld => ?_)
          · exact ⟨HC.out.d0, HC.out.d1, HC.out.d2, HD.out.d0, HD.out.d1, HD.out.d2⟩
          clear hK K
          refine wpAnyH_done (by kernel_rfl) ?_ _
          rw [HVE.out, HUE.out]
          go_wp2
          go_meet
          case rel => exact HM2.out.1
        · skip
          go_simp
          have hlt8 := HZ8.out.lt
          obtain ⟨w4, hw4⟩ : ∃ u, u = w3.alloc (.cells #[.slice none 0 0, .slice none 0 0, .slice none 0 0] 26) := ⟨_, rfl⟩
          rw [← hw4]
          have hb4 : Below w3.heap.size w3 w4 := by rw [hw4]; exact below_new _ _
          obtain ⟨g7, hg7⟩ : ∃ g, g = w3.heap.size := ⟨_, rfl⟩
          rw [← hg7]
          have HZ7 : Hid (ZBx w4 g7) := ⟨by rw [hg7, hw4]; simp, by rw [hg7, hw4]; exact heap_alloc_new _ _⟩
          have HNE : Hid (g8 ≠ g7) := by show _ ≠ _; omega
          have HB7B : Hid (B + 1 < g7) := by show _ < _; rw [hg7]; exact HD.out.lt
          clear hw4 hlt8
          have HB4 := Lib.hid (HB3.out.trans (hb4.mono (by have := HB3.out.size; have := HBH.out; omega)))
          replace HC := Lib.hid (HC.out.on hb4)
          replace HD := Lib.hid (HD.out.on hb4)
          replace HXC := Lib.hid (HXC.out.on hb4)
          replace HZ8 := Lib.hid (HZ8.out.on hb4)
          clear hb4 hg7
          refine hK.out _ _ ?_ (fun hHeld => ?_)
          · exact ⟨HC.out.d0, HC.out.d1, HC.out.d2, HD.out.d0, HD.out.d1, HD.out.d2⟩
          clear hK K
          refine wpAnyH_ready (rs := [3]) (by kernel_rfl) (by simp) ?_
          refine AllReadyH.cons rfl (fun K hK => ?_) AllReadyH.nil
          go_simp
          rw [← HUE.out]
          refine (copyClause_any u d _ (HD0.out.low HB4.out (by have := HB4.out.size; have := HBH.out; omega))).mono ?_
          rintro e' w5 ⟨y0, rfl, hy, hb5⟩
          have HB5 := Lib.hid (HB4.out.trans (hb5.mono (by have := HB4.out.size; have := HBH.out; omega)))
          replace HC := Lib.hid (HC.out.on hb5)
          replace HD := Lib.hid (HD.out.on hb5)
          replace HXC := Lib.hid (HXC.out.on hb5)
          replace HZ8 := Lib.hid (HZ8.out.on hb5)
          replace HZ7 := Lib.hid (HZ7.out.on hb5)
          obtain ⟨y, rfl, hyc⟩ := hy.clAt HFD.out
          rw [Cv.val_eq y]
          have HYC := Lib.hid hy
          clear hb5 hy hyc
          refine hK.out _ _ ?_ (fun hHeld => ?_)
          · exact ⟨HC.out.d0, HC.out.d1, HC.out.d2, HD.out.d0, HD.out.d1, HD.out.d2⟩
          clear hK K
          refine wpAnyH_ready (rs := [6]) (by kernel_rfl) (by simp) ?_
          refine AllReadyH.cons rfl (fun K hK => ?_) AllReadyH.nil
          refine store_row_step rfl 26 (.tmp 7) (.tmp 18) rfl rfl g7 _ _ rfl rfl HZ7.out.z rfl (by kernel_rfl) (three_sl _ _ _ _ _ _ _ _ _) ?_
          have HM := Lib.hid (sto_one (A := A) (n := n) (ss := ss) HZ7.out HZ8.out HNE.out HXC.out HYC.out HC.out HD.out HB5.out HB7B.out)
          obtain ⟨w6, hw6⟩ : ∃ u, u = w5.setRow g7 #[.slice x.A1 x.n1 x.c1, .slice x.A2 x.n2 x.c2, .slice x.A3 x.n3 x.c3] := ⟨_, rfl⟩
          rw [← hw6] at HM ⊢
          clear hw6 HC HD
          have HC := Lib.hid HM.out.bc
          have HD := Lib.hid HM.out.bd
          refine hK.out _ _ ?_ (fun hHeld => ?_)
          · exact ⟨HC.out.d0, HC.out.d1, HC.out.d2, HD.out.d0, HD.out.d1, HD.out.d2⟩
          clear hK K
          refine wpAnyH_ready (rs := [7]) (by kernel_rfl) (by simp) ?_
          refine AllReadyH.cons rfl (fun K hK => ?_) AllReadyH.nil
          refine store_row_step rfl 26 (.tmp 8) (.tmp 20) rfl rfl g8 _ _ rfl rfl HM.out.z8.z rfl (by kernel_rfl) (three_sl _ _ _ _ _ _ _ _ _) ?_
          have HM2 := Lib.hid (HM.out.two HNE.out HB8B.out HC0.out HD0.out HS0.out (by have := HBH.out; omega) HFC.out HFD.out w (Below.refl _ _) HBH.out.symm)
          obtain ⟨w7, hw7⟩ : ∃ u, u = w6.setRow g8 #[.slice y.A1 y.n1 y.c1, .slice y.A2 y.n2 y.c2, .slice y.A3 y.n3 y.c3] := ⟨_, rfl⟩
          rw [← hw7] at HM2 ⊢
          clear hw7 HC HD
          have HC := Lib.hid HM2.out.2.1
          have HD := Lib.hid HM2.out.2.2
          refine hK.out _ _ ?_ (fun hHeld => ?_)
          · exact ⟨HC.out.d0, HC.out.d1, HC.out.d2, HD.out.d0, HD.out.d1, HD.out.d2⟩
          clear hK K
          refine wpAnyH_done (by kernel_rfl) ?_ _
          rw [HVE.out, HUE.out]
          go_wp2
          go_meet
          case rel => exact HM2.out.1
    · skip
      go_simp
      obtain ⟨w2, hw2⟩ : ∃ u, u = w1.alloc (.cells #[.slice none 0 0, .slice none 0 0, .slice none 0 0] 26) := ⟨_, rfl⟩
      rw [← hw2]
      have hb2 : Below w1.heap.size w1 w2 := by rw [hw2]; exact below_new _ _
      obtain ⟨g7, hg7⟩ : ∃ g, g = w1.heap.size := ⟨_, rfl⟩
      rw [← hg7]
      have HZ7 : Hid (ZBx w2 g7) := ⟨by rw [hg7, hw2]; simp, by rw [hg7, hw2]; exact heap_alloc_new _ _⟩
      have HB7B : Hid (B + 1 < g7) := by show _ < _; rw [hg7]; exact HD.out.lt
      clear hw2
      have HB2 := Lib.hid (HB1.out.trans (hb2.mono (by have := HB1.out.size; have := HBH.out; omega)))
      replace HC := Lib.hid (HC.out.on hb2)
      replace HD := Lib.hid (HD.out.on hb2)
      clear hb2 hg7
      refine hK.out _ _ ?_ (fun hHeld => ?_)
      · exact ⟨HC.out.d0, HC.out.d1, HC.out.d2, HD.out.d0, HD.out.d1, HD.out.d2⟩
      clear hK K
      refine wpAnyH_ready (rs := [1, 5]) (by kernel_rfl) (by simp) ?_
      refine AllReadyH.cons rfl (fun K hK => ?_) (AllReadyH.cons rfl (fun K hK => ?_) AllReadyH.nil)
      · skip
        go_simp
        rw [← HVE.out]
        refine (copyClause_any v c _ (HC0.out.low HB2.out (by have := HB2.out.size; have := HBH.out; omega))).mono ?_
        rintro e' w3 ⟨x0, rfl, hx, hb3⟩
        have HB3 := Lib.hid (HB2.out.trans (hb3.mono (by have := HB2.out.size; have := HBH.out; omega)))
        replace HC := Lib.hid (HC.out.on hb3)
        replace HD := Lib.hid (HD.out.on hb3)
        replace HZ7 := Lib.hid (HZ7.out.on hb3)
        obtain ⟨x, rfl, hxc⟩ := hx.clAt HFC.out
        rw [Cv.val_eq x]
        have HXC := Lib.hid hx
        clear hb3 hx hxc
        refine hK.out _ _ ?_ (fun hHeld => ?_)
        · exact ⟨HC.out.d0, HC.out.d1, HC.out.d2, HD.out.d0, HD.out.d1, HD.out.d2⟩
        clear hK K
        refine wpAnyH_ready (rs := [3, 5]) (by kernel_rfl) (by simp) ?_
        refine AllReadyH.cons rfl (fun K hK => ?_) (AllReadyH.cons rfl (fun K hK => ?_) AllReadyH.nil)
        · skip
          go_simp
          rw [← HUE.out]
          refine (copyClause_any u d _ (HD0.out.low HB3.out (by have := HB3.out.size; have := HBH.out; omega))).mono ?_
          rintro e' w4 ⟨y0, rfl, hy, hb4⟩
          have HB4 := Lib.hid (HB3.out.trans (hb4.mono (by have := HB3.out.size; have := HBH.out; omega)))
          replace HC := Lib.hid (HC.out.on hb4)
          replace HD := Lib.hid (HD.out.on hb4)
          replace HZ7 := Lib.hid (HZ7.out.on hb4)
          replace HXC := Lib.hid (HXC.out.on hb4)
          obtain ⟨y, rfl, hyc⟩ := hy.clAt HFD.out
          rw [Cv.val_eq y]
          have HYC := Lib.hid hy
          clear hb4 hy hyc
          refine hK.out _ _ ?_ (fun hHeld => ?_)
          · exact ⟨HC.out.d0, HC.out.d1, HC.out.d2, HD.out.d0, HD.out.d1, HD.out.d2⟩
          clear hK K
          refine wpAnyH_ready (rs := [5]) (by kernel_rfl) (by simp) ?_
          refine AllReadyH.cons rfl (fun K hK => ?_) AllReadyH.nil
          go_simp
          have hlt7 := HZ7.out.lt
          obtain ⟨w5, hw5⟩ : ∃ u, u = w4.alloc (.cells #[.slice none 0 0, .slice none 0 0, .slice none 0 0] 26) := ⟨_, rfl⟩
          rw [← hw5]
          have hb5 : Below w4.heap.size w4 w5 := by rw [hw5]; exact below_new _ _
          obtain ⟨g8, hg8⟩ : ∃ g, g = w4.heap.size := ⟨_, rfl⟩
          rw [← hg8]
          have HZ8 : Hid (ZBx w5 g8) := ⟨by rw [hg8, hw5]; simp, by rw [hg8, hw5]; exact heap_alloc_new _ _⟩
          have HNE : Hid (g8 ≠ g7) := by show _ ≠ _; omega
          have HB8B : Hid (B + 1 < g8) := by show _ < _; rw [hg8]; exact HD.out.lt
          clear hw5 hlt7
          have HB5 := Lib.hid (HB4.out.trans (hb5.mono (by have := HB4.out.size; have := HBH.out; omega)))
          replace HC := Lib.hid (HC.out.on hb5)
          replace HD := Lib.hid (HD.out.on hb5)
          replace HZ7 := Lib.hid (HZ7.out.on hb5)
          replace HXC := Lib.hid (HXC.out.on hb5)
          replace HYC := Lib.hid (HYC.out.on hb5)
          clear hb5 hg8
          refine hK.out _ _ ?_ (fun hHeld => ?_)
          · exact ⟨HC.out.d0, HC.out.d1, HC.out.d2, HD.out.d0, HD.out.d1, HD.out.d2⟩
          clear hK K
          refine wpAnyH_ready (rs := [6]) (by kernel_rfl) (by simp) ?_
          refine AllReadyH.cons rfl (fun K hK => ?_) AllReadyH.nil
          refine store_row_step rfl 26 (.tmp 7) (.tmp 18) rfl rfl g7 _ _ rfl rfl HZ7.out.z rfl (by kernel_rfl) (three_sl _ _ _ _ _ _ _ _ _) ?_
          have HM := Lib.hid (sto_one (A := A) (n := n) (ss := ss) HZ7.out HZ8.out HNE.out HXC.out HYC.out HC.out HD.out HB5.out HB7B.out)
          obtain ⟨w6, hw6⟩ : ∃ u, u = w5.setRow g7 #[.slice x.A1 x.n1 x.c1, .slice x.A2 x.n2 x.c2, .slice x.A3 x.n3 x.c3] := ⟨_, rfl⟩
          rw [← hw6] at HM ⊢
          clear hw6 HC HD
          have HC := Lib.hid HM.out.bc
          have HD := Lib.hid HM.out.bd
          refine hK.out _ _ ?_ (fun hHeld => ?_)
          · exact ⟨HC.out.d0, HC.out.d1, HC.out.d2, HD.out.d0, HD.out.d1, HD.out.d2⟩
          clear hK K
          refine wpAnyH_ready (rs := [7]) (by kernel_rfl) (by simp) ?_
          refine AllReadyH.cons rfl (fun K hK => ?_) AllReadyH.nil
          refine store_row_step rfl 26 (.tmp 8) (.tmp 20) rfl rfl g8 _ _ rfl rfl HM.out.z8.z rfl (by kernel_rfl) (three_sl _ _ _ _ _ _ _ _ _) ?_
          have HM2 := Lib.hid (HM.out.two HNE.out HB8B.out HC0.out HD0.out HS0.out (by have := HBH.out; omega) HFC.out HFD.out w (Below.refl _ _) HBH.out.symm)
          obtain ⟨w7, hw7⟩ : ∃ u, u = w6.setRow g8 #[.slice y.A1 y.n1 y.c1, .slice y.A2 y.n2 y.c2, .slice y.A3 y.n3 y.c3] := ⟨_, rfl⟩
          rw [← hw7] at HM2 ⊢
          clear hw7 HC HD
          have HC := Lib.hid HM2.out.2.1
          have HD := Lib.hid HM2.out.2.2
          refine hK.out _ _ ?_ (fun hHeld => ?_)
          · exact ⟨HC.out.d0, HC.out.d1, HC.out.d2, HD.out.d0, HD.out.d1, HD.out.d2⟩
          clear hK K
          refine wpAnyH_done (by kernel_rfl) ?_ _
          rw [HVE.out, HUE.out]
          go_wp2
          go_meet
          case rel => exact HM2.out.1
        · skip
          go_simp
          have hlt7 := HZ7.out.lt
          obtain ⟨w4, hw4⟩ : ∃ u, u = w3.alloc (.cells #[.slice none 0 0, .slice none 0 0, .slice none 0 0] 26) := ⟨_, rfl⟩
          rw [← hw4]
          have hb4 : Below w3.heap.size w3 w4 := by rw [hw4]; exact below_new _ _
          obtain ⟨g8, hg8⟩ : ∃ g, g = w3.heap.size := ⟨_, rfl⟩
          rw [← hg8]
          have HZ8 : Hid (ZBx w4 g8) := ⟨by rw [hg8, hw4]; simp, by rw [hg8, hw4]; exact heap_alloc_new _ _⟩
          have HNE : Hid (g8 ≠ g7) := by show _ ≠ _; omega
          have HB8B : Hid (B + 1 < g8) := by show _ < _; rw [hg8]; exact HD.out.lt
          clear hw4 hlt7
          have HB4 := Lib.hid (HB3.out.trans (hb4.mono (by have := HB3.out.size; have := HBH.out; omega)))
          replace HC := Lib.hid (HC.out.on hb4)
          replace HD := Lib.hid (HD.out.on hb4)
          replace HZ7 := Lib.hid (HZ7.out.on hb4)
          replace HXC := Lib.hid (HXC.out.on hb4)
          clear hb4 hg8
          refine hK.out _ _ ?_ (fun hHeld => ?_)
          · exact ⟨HC.out.d0, HC.out.d1, HC.out.d2, HD.out.d0, HD.out.d1, HD.out.d2⟩
          clear hK K
          refine wpAnyH_ready (rs := [3]) (by kernel_rfl) (by simp) ?_
          refine AllReadyH.cons rfl (fun K hK => ?_) AllReadyH.nil
          go_simp
          rw [← HUE.out]
          refine (copyClause_any u d _ (HD0.out.low HB4.out (by have := HB4.out.size; have := HBH.out; omega))).mono ?_
          rintro e' w5 ⟨y0, rfl, hy, hb5⟩
          have HB5 := Lib.hid (HB4.out.trans (hb5.mono (by have := HB4.out.size; have := HBH.out; omega)))
          replace HC := Lib.hid (HC.out.on hb5)
          replace HD := Lib.hid (HD.out.on hb5)
          replace HZ7 := Lib.hid (HZ7.out.on hb5)
          replace HXC := Lib.hid (HXC.out.on hb5)
          replace HZ8 := Lib.hid (HZ8.out.on hb5)
          obtain ⟨y, rfl, hyc⟩ := hy.clAt HFD.out
          rw [Cv.val_eq y]
          have HYC := Lib.hid hy
          clear hb5 hy hyc
          refine hK.out _ _ ?_ (fun hHeld => ?_)
          · exact ⟨HC.out.d0, HC.out.d1, HC.out.d2, HD.out.d0, HD.out.d1, HD.out.d2⟩
          clear hK K
          refine wpAnyH_ready (rs := [6]) (by kernel_rfl) (by simp) ?_
          refine AllReadyH.cons rfl (fun K hK => ?_) AllReadyH.nil
          refine store_row_step rfl 26 (.tmp 7) (.tmp 18) rfl rfl g7 _ _ rfl rfl HZ7.out.z rfl (by kernel_rfl) (three_sl _ _ _ _ _ _ _ _ _) ?_
          have HM := Lib.hid (sto_one (A := A) (n := n) (ss := ss) HZ7.out HZ8.out HNE.out HXC.out HYC.out HC.out HD.out HB5.out HB7B.out)
          obtain ⟨w6, hw6⟩ : ∃ u, u = w5.setRow g7 #[.slice x.A1 x.n1 x.c1, .slice x.A2 x.n2 x.c2, .slice x.A3 x.n3 x.c3] := ⟨_, rfl⟩
          rw [← hw6] at HM ⊢
          clear hw6 HC HD
          have HC := Lib.hid HM.out.bc
          have HD := Lib.hid HM.out.bd
          refine hK.out _ _ ?_ (fun hHeld => ?_)
          · exact ⟨HC.out.d0, HC.out.d1, HC.out.d2, HD.out.d0, HD.out.d1, HD.out.d2⟩
          clear hK K
          refine wpAnyH_ready (rs := [7]) (by kernel_rfl) (by simp) ?_
          refine AllReadyH.cons rfl (fun K hK => ?_) AllReadyH.nil
          refine store_row_step rfl 26 (.tmp 8) (.tmp 20) rfl rfl g8 _ _ rfl rfl HM.out.z8.z rfl (by kernel_rfl) (three_sl _ _ _ _ _ _ _ _ _) ?_
          have HM2 := Lib.hid (HM.out.two HNE.out HB8B.out HC0.out HD0.out HS0.out (by have := HBH.out; omega) HFC.out HFD.out w (Below.refl _ _) HBH.out.symm)
          obtain ⟨w7, hw7⟩ : ∃ u, u = w6.setRow g8 #[.slice y.A1 y.n1 y.c1, .slice y.A2 y.n2 y.c2, .slice y.A3 y.n3 y.c3] := ⟨_, rfl⟩
          rw [← hw7] at HM2 ⊢
          clear hw7 HC HD
          have HC := Lib.hid HM2.out.2.1
          have HD := Lib.hid HM2.out.2.2
          refine hK.out _ _ ?_ (fun hHeld => ?_)
          · exact ⟨HC.out.d0, HC.out.d1, HC.out.d2, HD.out.d0, HD.out.d1, HD.out.d2⟩
          clear hK K
          refine wpAnyH_done (by kernel_rfl) ?_ _
          rw [HVE.out, HUE.out]
          go_wp2
          go_meet
          case rel => exact HM2.out.1
      · skip
        go_simp
        have hlt7 := HZ7.out.lt
        obtain ⟨w3, hw3⟩ : ∃ u, u = w2.alloc (.cells #[.slice none 0 0, .slice none 0 0, .slice none 0 0] 26) := ⟨_, rfl⟩
        rw [← hw3]
        have hb3 : Below w2.heap.size w2 w3 := by rw [hw3]; exact below_new _ _
        obtain ⟨g8, hg8⟩ : ∃ g, g = w2.heap.size := ⟨_, rfl⟩
        rw [← hg8]
        have HZ8 : Hid (ZBx w3 g8) := ⟨by rw [hg8, hw3]; simp, by rw [hg8, hw3]; exact heap_alloc_new _ _⟩
        have HNE : Hid (g8 ≠ g7) := by show _ ≠ _; omega
        have HB8B : Hid (B + 1 < g8) := by show _ < _; rw [hg8]; exact HD.out.lt
        clear hw3 hlt7
        have HB3 := Lib.hid (HB2.out.trans (hb3.mono (by have := HB2.out.size; have := HBH.out; omega)))
        replace HC := Lib.hid (HC.out.on hb3)
        replace HD := Lib.hid (HD.out.on hb3)
        replace HZ7 := Lib.hid (HZ7.out.on hb3)
        clear hb3 hg8
        refine hK.out _ _ ?_ (fun hHeld => ?_)
        · exact ⟨HC.out.d0, HC.out.d1, HC.out.d2, HD.out.d0, HD.out.d1, HD.out.d2⟩
        clear hK K
        refine wpAnyH_ready (rs := [1]) (by kernel_rfl) (by simp) ?_
        refine AllReadyH.cons rfl (fun K hK => ?_) AllReadyH.nil
        go_simp
        rw [← HVE.out]
        refine (copyClause_any v c _ (HC0.out.low HB3.out (by have := HB3.out.size; have := HBH.out; omega))).mono ?_
        rintro e' w4 ⟨x0, rfl, hx, hb4⟩
        have HB4 := Lib.hid (HB3.out.trans (hb4.mono (by have := HB3.out.size; have := HBH.out; omega)))
        replace HC := Lib.hid (HC.out.on hb4)
        replace HD := Lib.hid (HD.out.on hb4)
        replace HZ7 := Lib.hid (HZ7.out.on hb4)
        replace HZ8 := Lib.hid (HZ8.out.on hb4)
        obtain ⟨x, rfl, hxc⟩ := hx.clAt HFC.out
        rw [Cv.val_eq x]
        have HXC := Lib.hid hx
        clear hb4 hx hxc
        refine hK.out _ _ ?_ (fun hHeld => ?_)
        · exact ⟨HC.out.d0, HC.out.d1, HC.out.d2, HD.out.d0, HD.out.d1, HD.out.d2⟩
        clear hK K
        refine wpAnyH_ready (rs := [3]) (by kernel_rfl) (by simp) ?_
        refine AllReadyH.cons rfl (fun K hK => ?_) AllReadyH.nil
        go_simp
        rw [← HUE.out]
        refine (copyClause_any u d _ (HD0.out.low HB4.out (by have := HB4.out.size; have := HBH.out; omega))).mono ?_
        rintro e' w5 ⟨y0, rfl, hy, hb5⟩
        have HB5 := Lib.hid (HB4.out.trans (hb5.mono (by have := HB4.out.size; have := HBH.out; omega)))
        replace HC := Lib.hid (HC.out.on hb5)
        replace HD := Lib.hid (HD.out.on hb5)
        replace HZ7 := Lib.hid (HZ7.out.on hb5)
        replace HZ8 := Lib.hid (HZ8.out.on hb5)
        replace HXC := Lib.hid (HXC.out.on hb5)
        obtain ⟨y, rfl, hyc⟩ := hy.clAt HFD.out
        rw [Cv.val_eq y]
        have HYC := Lib.hid hy
        clear hb5 hy hyc
        refine hK.out _ _ ?_ (fun hHeld => ?_)
        · exact ⟨HC.out.d0, HC.out.d1, HC.out.d2, HD.out.d0, HD.out.d1, HD.out.d2⟩
        clear hK K
        refine wpAnyH_ready (rs := [6]) (by kernel_rfl) (by simp) ?_
        refine AllReadyH.cons rfl (fun K hK => ?_) AllReadyH.nil
        refine store_row_step rfl 26 (.tmp 7) (.tmp 18) rfl rfl g7 _ _ rfl rfl HZ7.out.z rfl (by kernel_rfl) (three_sl _ _ _ _ _ _ _ _ _) ?_
        have HM := Lib.hid (sto_one (A := A) (n := n) (ss := ss) HZ7.out HZ8.out HNE.out HXC.out HYC.out HC.out HD.out HB5.out HB7B.out)
        obtain ⟨w6, hw6⟩ : ∃ u, u = w5.setRow g7 #[.slice x.A1 x.n1 x.c1, .slice x.A2 x.n2 x.c2, .slice x.A3 x.n3 x.c3] := ⟨_, rfl⟩
        rw [← hw6] at HM ⊢
        clear hw6 HC HD
        have HC := Lib.hid HM.out.bc
        have HD := Lib.hid HM.out.bd
        refine hK.out _ _ ?_ (fun hHeld => ?_)
        · exact ⟨HC.out.d0, HC.out.d1, HC.out.d2, HD.out.d0, HD.out.d1, HD.out.d2⟩
        clear hK K
        refine wpAnyH_ready (rs := [7]) (by kernel_rfl) (by simp) ?_
        refine AllReadyH.cons rfl (fun K hK => ?_) AllReadyH.nil
        refine store_row_step rfl 26 (.tmp 8) (.tmp 20) rfl rfl g8 _ _ rfl rfl HM.out.z8.z rfl (by kernel_rfl) (three_sl _ _ _ _ _ _ _ _ _) ?_
        have HM2 := Lib.hid (HM.out.two HNE.out HB8B.out HC0.out HD0.out HS0.out (by have := HBH.out; omega) HFC.out HFD.out w (Below.refl _ _) HBH.out.symm)
        obtain ⟨w7, hw7⟩ : ∃ u, u = w6.setRow g8 #[.slice y.A1 y.n1 y.c1, .slice y.A2 y.n2 y.c2, .slice y.A3 y.n3 y.c3] := ⟨_, rfl⟩
        rw [← hw7] at HM2 ⊢
        clear hw7 HC HD
        have HC := Lib.hid HM2.out.2.1
        have HD := Lib.hid HM2.out.2.2
        refine hK.out _ _ ?_ (fun hHeld => ?_)
        · exact ⟨HC.out.d0, HC.out.d1, HC.out.d2, HD.out.d0, HD.out.d1, HD.out.d2⟩
        clear hK K
        refine wpAnyH_done (by kernel_rfl) ?_ _
        rw [HVE.out, HUE.out]
        go_wp2
        go_meet
        case rel => exact HM2.out.1
    · skip
      go_simp
      obtain ⟨w2, hw2⟩ : ∃ u, u = w1.alloc (.cells #[.slice none 0 0, .slice none 0 0, .slice none 0 0] 26) := ⟨_, rfl⟩
      rw [← hw2]
      have hb2 : Below w1.heap.size w1 w2 := by rw [hw2]; exact below_new _ _
      obtain ⟨g8, hg8⟩ : ∃ g, g = w1.heap.size := ⟨_, rfl⟩
      rw [← hg8]
      have HZ8 : Hid (ZBx w2 g8) := ⟨by rw [hg8, hw2]; simp, by rw [hg8, hw2]; exact heap_alloc_new _ _⟩
      have HB8B : Hid (B + 1 < g8) := by show _ < _; rw [hg8]; exact HD.out.lt
      clear hw2
      have HB2 := Lib.hid (HB1.out.trans (hb2.mono (by have := HB1.out.size; have := HBH.out; omega)))
      replace HC := Lib.hid (HC.out.on hb2)
      replace HD := Lib.hid (HD.out.on hb2)
      clear hb2 hg8
      refine hK.out _ _ ?_ (fun hHeld => ?_)
      · exact ⟨HC.out.d0, HC.out.d1, HC.out.d2, HD.out.d0, HD.out.d1, HD.out.d2⟩
      clear hK K
      refine wpAnyH_ready (rs := [1, 4]) (by kernel_rfl) (by simp) ?_
      refine AllReadyH.cons rfl (fun K hK => ?_) (AllReadyH.cons rfl (fun K hK => ?_) AllReadyH.nil)
      · skip
        go_simp
        rw [← HVE.out]
        refine (copyClause_any v c _ (HC0.out.low HB2.out (by have := HB2.out.size; have := HBH.out; omega))).mono ?_
        rintro e' w3 ⟨x0, rfl, hx, hb3⟩
        have HB3 := Lib.hid (HB2.out.trans (hb3.mono (by have := HB2.out.size; have := HBH.out; omega)))
        replace HC := Lib.hid (HC.out.on hb3)
        replace HD := Lib.hid (HD.out.on hb3)
        replace HZ8 := Lib.hid (HZ8.out.on hb3)
        obtain ⟨x, rfl, hxc⟩ := hx.clAt HFC.out
        rw [Cv.val_eq x]
        have HXC := Lib.hid hx
        clear hb3 hx hxc
        refine hK.out _ _ ?_ (fun hHeld => ?_)
        · exact ⟨HC.out.d0, HC.out.d1, HC.out.d2, HD.out.d0, HD.out.d1, HD.out.d2⟩
        clear hK K
        refine wpAnyH_ready (rs := [3, 4]) (by kernel_rfl) (by simp) ?_
        refine AllReadyH.cons rfl (fun K hK => ?_) (AllReadyH.cons rfl (fun K hK => ?_) AllReadyH.nil)
        · skip
          go_simp
          rw [← HUE.out]
          refine (copyClause_any u d _ (HD0.out.low HB3.out (by have := HB3.out.size; have := HBH.out; omega))).mono ?_
          rintro e' w4 ⟨y0, rfl, hy, hb4⟩
          have HB4 := Lib.hid (HB3.out.trans (hb4.mono (by have := HB3.out.size; have := HBH.out; omega)))
          replace HC := Lib.hid (HC.out.on hb4)
          replace HD := Lib.hid (HD.out.on hb4)
          replace HZ8 := Lib.hid (HZ8.out.on hb4)
          replace HXC := Lib.hid (HXC.out.on hb4)
          obtain ⟨y, rfl, hyc⟩ := hy.clAt HFD.out
          rw [Cv.val_eq y]
          have HYC := Lib.hid hy
          clear hb4 hy hyc
          refine hK.out _ _ ?_ (fun hHeld => ?_)
          · exact ⟨HC.out.d0, HC.out.d1, HC.out.d2, HD.out.d0, HD.out.d1, HD.out.d2⟩
          clear hK K
          refine wpAnyH_ready (rs := [4]) (by kernel_rfl) (by simp) ?_
          refine AllReadyH.cons rfl (fun K hK => ?_) AllReadyH.nil
          go_simp
          have hlt8 := HZ8.out.lt
          obtain ⟨w5, hw5⟩ : ∃ u, u = w4.alloc (.cells #[.slice none 0 0, .slice none 0 0, .slice none 0 0] 26) := ⟨_, rfl⟩
          rw [← hw5]
          have hb5 : Below w4.heap.size w4 w5 := by rw [hw5]; exact below_new _ _
          obtain ⟨g7, hg7⟩ : ∃ g, g = w4.heap.size := ⟨_, rfl⟩
          rw [← hg7]
          have HZ7 : Hid (ZBx w5 g7) := ⟨by rw [hg7, hw5]; simp, by rw [hg7, hw5]; exact heap_alloc_new _ _⟩
          have HNE : Hid (g8 ≠ g7) := by show _ ≠ _; omega
          have HB7B : Hid (B + 1 < g7) := by show _ < _; rw [hg7]; exact HD.out.lt
          clear hw5 hlt8
          have HB5 := Lib.hid (HB4.out.trans (hb5.mono (by have := HB4.out.size; have := HBH.out; omega)))
          replace HC := Lib.hid (HC.out.on hb5)
          replace HD := Lib.hid (HD.out.on hb5)
          replace HZ8 := Lib.hid (HZ8.out.on hb5)
          replace HXC := Lib.hid (HXC.out.on hb5)
          replace HYC := Lib.hid (HYC.out.on hb5)
          clear hb5 hg7
          refine hK.out _ _ ?_ (fun hHeld => ?_)
          · exact ⟨HC.out.d0, HC.out.d1, HC.out.d2, HD.out.d0, HD.out.d1, HD.out.d2⟩
          clear hK K
          refine wpAnyH_ready (rs := [6]) (by kernel_rfl) (by simp) ?_
          refine AllReadyH.cons rfl (fun K hK => ?_) AllReadyH.nil
          refine store_row_step rfl 26 (.tmp 7) (.tmp 18) rfl rfl g7 _ _ rfl rfl HZ7.out.z rfl (by kernel_rfl) (three_sl _ _ _ _ _ _ _ _ _) ?_
          have HM := Lib.hid (sto_one (A := A) (n := n) (ss := ss) HZ7.out HZ8.out HNE.out HXC.out HYC.out HC.out HD.out HB5.out HB7B.out)
          obtain ⟨w6, hw6⟩ : ∃ u, u = w5.setRow g7 #[.slice x.A1 x.n1 x.c1, .slice x.A2 x.n2 x.c2, .slice x.A3 x.n3 x.c3] := ⟨_, rfl⟩
          rw [← hw6] at HM ⊢
          clear hw6 HC HD
          have HC := Lib.hid HM.out.bc
          have HD := Lib.hid HM.out.bd
          refine hK.out _ _ ?_ (fun hHeld => ?_)
          · exact ⟨HC.out.d0, HC.out.d1, HC.out.d2, HD.out.d0, HD.out.d1, HD.out.d2⟩
          clear hK K
          refine wpAnyH_ready (rs := [7]) (by kernel_rfl) (by simp) ?_
          refine AllReadyH.cons rfl (fun K hK => ?_) AllReadyH.nil
          refine store_row_step rfl 26 (.tmp 8) (.tmp 20) rfl rfl g8 _ _ rfl rfl HM.out.z8.z rfl (by kernel_rfl) (three_sl _ _ _ _ _ _ _ _ _) ?_
          have HM2 := Lib.hid (HM.out.two HNE.out HB8B.out HC0.out HD0.out HS0.out (by have := HBH.out; omega) HFC.out HFD.out w (Below.refl _ _) HBH.out.symm)
          obtain ⟨w7, hw7⟩ : ∃ u, u = w6.setRow g8 #[.slice y.A1 y.n1 y.c1, .slice y.A2 y.n2 y.c2, .slice y.A3 y.n3 y.c3] := ⟨_, rfl⟩
          rw [← hw7] at HM2 ⊢
          clear hw7 HC HD
          have HC := Lib.hid HM2.out.2.1
          have HD := Lib.hid HM2.out.2.2
          refine hK.out _ _ ?_ (fun hHeld => ?_)
          · exact ⟨HC.out.d0, HC.out.d1, HC.out.d2, HD.out.d0, HD.out.d1, HD.out.d2⟩
          clear hK K
          refine wpAnyH_done (by kernel_rfl) ?_ _
          rw [HVE.out, HUE.out]
          go_wp2
          go_meet
          case rel => exact HM2.out.1
        · skip
          go_simp
          have hlt8 := HZ8.out.lt
          obtain ⟨w4, hw4⟩ : ∃ u, u = w3.alloc (.cells #[.slice none 0 0, .slice none 0 0, .slice none 0 0] 26) := ⟨_, rfl⟩
          rw [← hw4]
          have hb4 : Below w3.heap.size w3 w4 := by rw [hw4]; exact below_new _ _
          obtain ⟨g7, hg7⟩ : ∃ g, g = w3.heap.size := ⟨_, rfl⟩
          rw [← hg7]
          have HZ7 : Hid (ZBx w4 g7) := ⟨by rw [hg7, hw4]; simp, by rw [hg7, hw4]; exact heap_alloc_new _ _⟩
          have HNE : Hid (g8 ≠ g7) := by show _ ≠ _; omega
          have HB7B : Hid (B + 1 < g7) := by show _ < _; rw [hg7]; exact HD.out.lt
          clear hw4 hlt8
          have HB4 := Lib.hid (HB3.out.trans (hb4.mono (by have := HB3.out.size; have := HBH.out; omega)))
          replace HC := Lib.hid (HC.out.on hb4)
          replace HD := Lib.hid (HD.out.on hb4)
          replace HZ8 := Lib.hid (HZ8.out.on hb4)
          replace HXC := Lib.hid (HXC.out.on hb4)
          clear hb4 hg7
          refine hK.out _ _ ?_ (fun hHeld => ?_)
          · exact ⟨HC.out.d0, HC.out.d1, HC.out.d2, HD.out.d0, HD.out.d1, HD.out.d2⟩
          clear hK K
          refine wpAnyH_ready (rs := [3]) (by kernel_rfl) (by simp) ?_
          refine AllReadyH.cons rfl (fun K hK => ?_) AllReadyH.nil
          go_simp
          rw [← HUE.out]
          refine (copyClause_any u d _ (HD0.out.low HB4.out (by have := HB4.out.size; have := HBH.out; omega))).mono ?_
          rintro e' w5 ⟨y0, rfl, hy, hb5⟩
          have HB5 := Lib.hid (HB4.out.trans (hb5.mono (by have := HB4.out.size; have := HBH.out; omega)))
          replace HC := Lib.hid (HC.out.on hb5)
          replace HD := Lib.hid (HD.out.on hb5)
          replace HZ8 := Lib.hid (HZ8.out.on hb5)
          replace HXC := Lib.hid (HXC.out.on hb5)
          replace HZ7 := Lib.hid (HZ7.out.on hb5)
          obtain ⟨y, rfl, hyc⟩ := hy.clAt HFD.out
          rw [Cv.val_eq y]
          have HYC := Lib.hid hy
          clear hb5 hy hyc
          refine hK.out _ _ ?_ (fun hHeld => ?_)
          · exact ⟨HC.out.d0, HC.out.d1, HC.out.d2, HD.out.d0, HD.out.d1, HD.out.d2⟩
          clear hK K
          refine wpAnyH_ready (rs := [6]) (by kernel_rfl) (by simp) ?_
          refine AllReadyH.cons rfl (fun K hK => ?_) AllReadyH.nil
          refine store_row_step rfl 26 (.tmp 7) (.tmp 18) rfl rfl g7 _ _ rfl rfl HZ7.out.z rfl (by kernel_rfl) (three_sl _ _ _ _ _ _ _ _ _) ?_
          have HM := Lib.hid (sto_one (A := A) (n := n) (ss := ss) HZ7.out HZ8.out HNE.out HXC.out HYC.out HC.out HD.out HB5.out HB7B.out)
          obtain ⟨w6, hw6⟩ : ∃ u, u = w5.setRow g7 #[.slice x.A1 x.n1 x.c1, .slice x.A2 x.n2 x.c2, .slice x.A3 x.n3 x.c3] := ⟨_, rfl⟩
          rw [← hw6] at HM ⊢
          clear hw6 HC HD
          have HC := Lib.hid HM.out.bc
          have HD := Lib.hid HM.out.bd
          refine hK.out _ _ ?_ (fun hHeld => ?_)
          · exact ⟨HC.out.d0, HC.out.d1, HC.out.d2, HD.out.d0, HD.out.d1, HD.out.d2⟩
          clear hK K
          refine wpAnyH_ready (rs := [7]) (by kernel_rfl) (by simp) ?_
          refine AllReadyH.cons rfl (fun K hK => ?_) AllReadyH.nil
          refine store_row_step rfl 26 (.tmp 8) (.tmp 20) rfl rfl g8 _ _ rfl rfl HM.out.z8.z rfl (by kernel_rfl) (three_sl _ _ _ _ _ _ _ _ _) ?_
          have HM2 := Lib.hid (HM.out.two HNE.out HB8B.out HC0.out HD0.out HS0.out (by have := HBH.out; omega) HFC.out HFD.out w (Below.refl _ _) HBH.out.symm)
          obtain ⟨w7, hw7⟩ : ∃ u, u = w6.setRow g8 #[.slice y.A1 y.n1 y.c1, .slice y.A2 y.n2 y.c2, .slice y.A3 y.n3 y.c3] := ⟨_, rfl⟩
          rw [← hw7] at HM2 ⊢
          clear hw7 HC HD
          have HC := Lib.hid HM2.out.2.1
          have HD := Lib.hid HM2.out.2.2
          refine hK.out _ _ ?_ (fun hHeld => ?_)
          · exact ⟨HC.out.d0, HC.out.d1, HC.out.d2, HD.out.d0, HD.out.d1, HD.out.d2⟩
          clear hK K
          refine wpAnyH_done (by kernel_rfl) ?_ _
          rw [HVE.out, HUE.out]
          go_wp2
          go_meet
          case rel => exact HM2.out.1
      · skip
        go_simp
        have hlt8 := HZ8.out.lt
        obtain ⟨w3, hw3⟩ : ∃ u, u = w2.alloc (.cells #[.slice none 0 0, .slice none 0 0, .slice none 0 0] 26) := ⟨_, rfl⟩
        rw [← hw3]
        have hb3 : Below w2.heap.size w2 w3 := by rw [hw3]; exact below_new _ _
        obtain ⟨g7, hg7⟩ : ∃ g, g = w2.heap.size := ⟨_, rfl⟩
        rw [← hg7]
        have HZ7 : Hid (ZBx w3 g7) := ⟨by rw [hg7, hw3]; simp, by rw [hg7, hw3]; exact heap_alloc_new _ _⟩
        have HNE : Hid (g8 ≠ g7) := by show _ ≠ _; omega
        have HB7B : Hid (B + 1 < g7) := by show _ < _; rw [hg7]; exact HD.out.lt
        clear hw3 hlt8
        have HB3 := Lib.hid (HB2.out.trans (hb3.mono (by have := HB2.out.size; have := HBH.out; omega)))
        replace HC := Lib.hid (HC.out.on hb3)
        replace HD := Lib.hid (HD.out.on hb3)
        replace HZ8 := Lib.hid (HZ8.out.on hb3)
        clear hb3 hg7
        refine hK.out _ _ ?_ (fun hHeld => ?_)
        · exact ⟨HC.out.d0, HC.out.d1, HC.out.d2, HD.out.d0, HD.out.d1, HD.out.d2⟩
        clear hK K
        refine wpAnyH_ready (rs := [1]) (by kernel_rfl) (by simp) ?_
        refine AllReadyH.cons rfl (fun K hK => ?_) AllReadyH.nil
        go_simp
        rw [← HVE.out]
        refine (copyClause_any v c _ (HC0.out.low HB3.out (by have := HB3.out.size; have := HBH.out; omega))).mono ?_
        rintro e' w4 ⟨x0, rfl, hx, hb4⟩
        have HB4 := Lib.hid (HB3.out.trans (hb4.mono (by have := HB3.out.size; have := HBH.out; omega)))
        replace HC := Lib.hid (HC.out.on hb4)
        replace HD := Lib.hid (HD.out.on hb4)
        replace HZ8 := Lib.hid (HZ8.out.on hb4)
        replace HZ7 := Lib.hid (HZ7.out.on hb4)
        obtain ⟨x, rfl, hxc⟩ := hx.clAt HFC.out
        rw [Cv.val_eq x]
        have HXC := Lib.hid hx
        clear hb4 hx hxc
        refine hK.out _ _ ?_ (fun hHeld => ?_)
        · exact ⟨HC.out.d0, HC.out.d1, HC.out.d2, HD.out.d0, HD.out.d1, HD.out.d2⟩
        clear hK K
        refine wpAnyH_ready (rs := [3]) (by kernel_rfl) (by simp) ?_
        refine AllReadyH.cons rfl (fun K hK => ?_) AllReadyH.nil
        go_simp
        rw [← HUE.out]
        refine (copyClause_any u d _ (HD0.out.low HB4.out (by have := HB4.out.size; have := HBH.out; omega))).mono ?_
        rintro e' w5 ⟨y0, rfl, hy, hb5⟩
        have HB5 := Lib.hid (HB4.out.trans (hb5.mono (by have := HB4.out.size; have := HBH.out; omega)))
        replace HC := Lib.hid (HC.out.on hb5)
        replace HD := Lib.hid (HD.out.on hb5)
        replace HZ8 := Lib.hid (HZ8.out.on hb5)
        replace HZ7 := Lib.hid (HZ7.out.on hb5)
        replace HXC := Lib.hid (HXC.out.on hb5)
        obtain ⟨y, rfl, hyc⟩ := hy.clAt HFD.out
        rw [Cv.val_eq y]
        have HYC := Lib.hid hy
        clear hb5 hy hyc
        refine hK.out _ _ ?_ (fun hHeld => ?_)
        · exact ⟨HC.out.d0, HC.out.d1, HC.out.d2, HD.out.d0, HD.out.d1, HD.out.d2⟩
        clear hK K
        refine wpAnyH_ready (rs := [6]) (by kernel_rfl) (by simp) ?_
        refine AllReadyH.cons rfl (fun K hK => ?_) AllReadyH.nil
        refine store_row_step rfl 26 (.tmp 7) (.tmp 18) rfl rfl g7 _ _ rfl rfl HZ7.out.z rfl (by kernel_rfl) (three_sl _ _ _ _ _ _ _ _ _) ?_
        have HM := Lib.hid (sto_one (A := A) (n := n) (ss := ss) HZ7.out HZ8.out HNE.out HXC.out HYC.out HC.out HD.out HB5.out HB7B.out)
        obtain ⟨w6, hw6⟩ : ∃ u, u = w5.setRow g7 #[.slice x.A1 x.n1 x.c1, .slice x.A2 x.n2 x.c2, .slice x.A3 x.n3 x.c3] := ⟨_, rfl⟩
        rw [← hw6] at HM ⊢
        clear hw6 HC HD
        have HC := Lib.hid HM.out.bc
        have HD := Lib.hid HM.out.bd
        refine hK.out _ _ ?_ (fun hHeld => ?_)
        · exact ⟨HC.out.d0, HC.out.d1, HC.out.d2, HD.out.d0, HD.out.d1, HD.out.d2⟩
        clear hK K
        refine wpAnyH_ready (rs := [7]) (by kernel_rfl) (by simp) ?_
        refine AllReadyH.cons rfl (fun K hK => ?_) AllReadyH.nil
        refine store_row_step rfl 26 (.tmp 8) (.tmp 20) rfl rfl g8 _ _ rfl rfl HM.out.z8.z rfl (by kernel_rfl) (three_sl _ _ _ _ _ _ _ _ _) ?_
        have HM2 := Lib.hid (HM.out.two HNE.out HB8B.out HC0.out HD0.out HS0.out (by have := HBH.out; omega) HFC.out HFD.out w (Below.refl _ _) HBH.out.symm)
        obtain ⟨w7, hw7⟩ : ∃ u, u = w6.setRow g8 #[.slice y.A1 y.n1 y.c1, .slice y.A2 y.n2 y.c2, .slice y.A3 y.n3 y.c3] := ⟨_, rfl⟩
        rw [← hw7] at HM2 ⊢
        clear hw7 HC HD
        have HC := Lib.hid HM2.out.2.1
        have HD := Lib.hid HM2.out.2.2
        refine hK.out _ _ ?_ (fun hHeld => ?_)
        · exact ⟨HC.out.d0, HC.out.d1, HC.out.d2, HD.out.d0, HD.out.d1, HD.out.d2⟩
        clear hK K
        refine wpAnyH_done (by kernel_rfl) ?_ _
        rw [HVE.out, HUE.out]
        go_wp2
        go_meet
        case rel => exact HM2.out.1
  case rest =>
    obtain ⟨g7, g8, x, y, rfl, rfl, hx7, hy8, hc, hd, hs, hb⟩ := hcut
    have HVX := Lib.hid x.val_eq
    have HVY := Lib.hid y.val_eq
    clear HC HD HC0 HD0 HS0 HB0
    have HC := Lib.hid hc
    have HD := Lib.hid hd
    have HX := Lib.hid hx7
    have HY := Lib.hid hy8
    have HS := Lib.hid hs
    have HB0 : Hid (Below B w wc) := by show Below _ _ _; rw [HBH.out]; exact hb
    clear hc hd hx7 hy8 hs hb
    obtain ⟨L, hL⟩ : ∃ L, L = (subR ss c d).length := ⟨_, rfl⟩
    have HL := Lib.hid hL
    clear hL
    have hle : ∀ wz, Below B w wz → B ≤ wz.heap.size := fun wz hz => by have := hz.size; have := HBH.out; omega
    have HLE := Lib.hid hle
    clear hle
    obtain ⟨w1, hw1⟩ : ∃ w1, w1 = wc := ⟨_, rfl⟩
    rw [← hw1] at HC HD HX HY HS HB0 ⊢
    clear hw1
    have p0 := HC.out.c0
    have p1 := HC.out.c1
    have p2 := HC.out.c2
    have q0 := HD.out.c0
    have q1 := HD.out.c1
    have q2 := HD.out.c2
    go_wp2_with fail
    try rw [← HVE.out]
    try rw [← HUE.out]
    refine (places_any A n cp ss v u c d _ HS.out hn hnc HC.out.cl HD.out.cl (HT.out.below HTB.out HB0.out) (Nat.lt_of_lt_of_le HTB.out (HLE.out _ HB0.out))).mono ?_
    rintro e' w2 ⟨x2, rfl, ho2, hb2⟩
    have HB2 := Lib.hid (HB0.out.trans (hb2.mono (HLE.out _ HB0.out)))
    replace HC := Lib.hid (HC.out.on hb2)
    replace HD := Lib.hid (HD.out.on hb2)
    replace HX := Lib.hid (HX.out.on hb2)
    replace HY := Lib.hid (HY.out.on hb2)
    replace HS := Lib.hid (HS.out.on hb2)
    obtain ⟨A2, c2, rfl, _, hi2⟩ := ho2.intsAt
    rw [← HL.out] at hi2 ⊢
    have HI2 := Lib.hid hi2
    clear hi2 ho2 hb2 p0 p1 p2 q0 q1 q2
    have p0 := HC.out.c0
    have p1 := HC.out.c1
    have p2 := HC.out.c2
    have q0 := HD.out.c0
    have q1 := HD.out.c1
    have q2 := HD.out.c2
    go_wp2_with fail
    try rw [← HVE.out]
    try rw [← HUE.out]
    refine (refPlaces_any A n cp ss v u c d _ HS.out hn hnc HC.out.cl HD.out.cl).mono ?_
    rintro e' w3 ⟨x3, rfl, ho3, hb3⟩
    have HB3 := Lib.hid (HB2.out.trans (hb3.mono (HLE.out _ HB2.out)))
    replace HC := Lib.hid (HC.out.on hb3)
    replace HD := Lib.hid (HD.out.on hb3)
    replace HX := Lib.hid (HX.out.on hb3)
    replace HY := Lib.hid (HY.out.on hb3)
    replace HS := Lib.hid (HS.out.on hb3)
    replace HI2 := Lib.hid (HI2.out.on hb3)
    obtain ⟨A3, c3, rfl, _, hi3⟩ := ho3.intsAt
    rw [← HL.out] at hi3 ⊢
    have HI3 := Lib.hid hi3
    clear hi3 ho3 hb3 p0 p1 p2 q0 q1 q2
    have p0 := HC.out.c0
    have p1 := HC.out.c1
    have p2 := HC.out.c2
    have q0 := HD.out.c0
    have q1 := HD.out.c1
    have q2 := HD.out.c2
    go_wp2_with fail
    try rw [← HVE.out]
    try rw [← HUE.out]
    refine (does_any A n cp ss v u c d _ HS.out hn hnc HC.out.cl HD.out.cl (HT.out.below HTB.out HB3.out) (Nat.lt_of_lt_of_le HTB.out (HLE.out _ HB3.out))).mono ?_
    rintro e' w4 ⟨rfl, hb4⟩
    have HB4 := Lib.hid (HB3.out.trans (hb4.mono (HLE.out _ HB3.out)))
    replace HC := Lib.hid (HC.out.on hb4)
    replace HD := Lib.hid (HD.out.on hb4)
    replace HX := Lib.hid (HX.out.on hb4)
    replace HY := Lib.hid (HY.out.on hb4)
    replace HI2 := Lib.hid (HI2.out.on hb4)
    replace HI3 := Lib.hid (HI3.out.on hb4)
    clear hb4 p0 p1 p2 q0 q1 q2 HS
    obtain ⟨IS, hIS⟩ : ∃ b, b = subIs ss c d := ⟨_, rfl⟩
    obtain ⟨E, hE⟩ : ∃ b, b = subE ss c d := ⟨_, rfl⟩
    rw [← hIS, ← hE]
    clear hIS hE
    have g1 : (IS == IS) = true := by simp
    have g2 : (E == E) = true := by simp
    have HLN : Hid (L ≤ maxLen) := by
      show L ≤ maxLen
      rw [HL.out]
      unfold subR
      by_cases q : okC ss c d = true
      · rw [if_pos q]
        cases hs : subO ss c d with
        | none => simp [natsJ]
        | some ps =>
          obtain ⟨h1, h2⟩ := okC_iff.1 q
          obtain ⟨T, t1, _, t3⟩ := fitP_sound (pat_all h1 h2) TOk.no hs
          have := (t3 _ fun v hv => st_same hv).length
          rw [items_len] at this
          have a1 := h1.nl
          have a2 := h1.nt
          have a3 := h1.nc
          simp only [Option.getD_some, natsJ, List.length_map]
          unfold maxLen
          omega
      · rw [if_neg q]; simp
    go_wp2_with fail
    refine (sameInts_any A2 A3 L c2 L c3 _ _ (subR ss c d) (subR ss c d) _ HI2.out HI3.out HLN.out HLN.out).mono ?_
    rintro e' w5 ⟨rfl, hb5⟩
    rw [sameI_self]
    have HB5 := Lib.hid (HB4.out.trans (hb5.mono (HLE.out _ HB4.out)))
    replace HC := Lib.hid (HC.out.on hb5)
    replace HD := Lib.hid (HD.out.on hb5)
    replace HX := Lib.hid (HX.out.on hb5)
    replace HY := Lib.hid (HY.out.on hb5)
    clear hb5 HI2 HI3
    have p0 := HC.out.c0
    have p1 := HC.out.c1
    have p2 := HC.out.c2
    have r0 := HX.out.c0
    have r1 := HX.out.c1
    have r2 := HX.out.c2
    go_wp2_with (go_at_call 14; refine (num_any _ _).mono ?_; rintro e w' ⟨rfl, rfl⟩)
    try rw [← HVE.out]
    try rw [← HVX.out]
    refine (sameClause_true v x c _ HC.out.cl HX.out.cl).mono ?_
    rintro e' w6 ⟨rfl, hb6⟩
    have HB6 := Lib.hid (HB5.out.trans (hb6.mono (HLE.out _ HB5.out)))
    replace HD := Lib.hid (HD.out.on hb6)
    replace HY := Lib.hid (HY.out.on hb6)
    clear hb6 p0 p1 p2 r0 r1 r2
    have p0 := HD.out.c0
    have p1 := HD.out.c1
    have p2 := HD.out.c2
    have r0 := HY.out.c0
    have r1 := HY.out.c1
    have r2 := HY.out.c2
    go_wp2_with fail
    try rw [← HUE.out]
    try rw [← HVY.out]
    refine (sameClause_true u y d _ HD.out.cl HY.out.cl).mono ?_
    rintro e' w7 ⟨rfl, hb7⟩
    have HB7 := Lib.hid (HB6.out.trans (hb7.mono (HLE.out _ HB6.out)))
    clear hb7 p0 p1 p2 r0 r1 r2
    go_wp2_with fail
    refine (awakeS_any _ (HT.out.below HTB.out HB7.out) (Nat.lt_of_lt_of_le HTB.out (HLE.out _ HB7.out))).mono ?_
    rintro e' w8 ⟨rfl, hb8⟩
    have HB8 := Lib.hid (HB7.out.trans (hb8.mono (HLE.out _ HB7.out)))
    clear hb8
    go_wp2
    go_ret
    have hfin := HB8.out
    rw [HBH.out] at hfin
    exact ⟨rfl, hfin⟩
end Go.Proofs.YtcjpopjcpgipjaaDoor
