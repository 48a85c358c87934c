/-
  Contracts of quaerelaw0: CopyClause, SameClause, SpoilClause.
-/
import Derived.Test.YtjdmnplkgimaiaaHelpRows
import Derived.Test.YtjdmnplkgimaiaaMemBox
import Derived.Laws.Rows
namespace Go.Proofs.Ytjdmnplkgimaiaa
open Go.RowKit Go.Deep
set_option linter.unusedSimpArgs false
set_option linter.unusedVariables false
set_option maxRecDepth 100000

theorem three_one {A A' A'' : Option Addr} {n n' n'' c c' c'' : Nat} : (#[Value.slice A n c, .slice A' n' c', .slice A'' n'' c''].all (·.oneCell')) = true := by simp [Value.oneCell']
def ClRet (c : Cl) (w : World) (e : Ending) (w' : World) : Prop :=
  ∃ v, e = .returned v ∧ OwnC w' w.heap.size v c ∧ Below w.heap.size w w'
theorem OwnL.valued {w : World} {base : Nat} {v : Value} {ls : List Lt} (h : OwnL w base v ls) : ∃ A c, v = .slice A ls.length c := by
  rcases h.shape with ⟨rfl, rfl⟩ | ⟨g, cap, rfl, _⟩
  · exact ⟨_, _, rfl⟩
  · exact ⟨_, _, rfl⟩
theorem OwnR.valued {w : World} {base : Nat} {v : Value} {ls : List Value} (h : OwnR w base v ls) : ∃ A c, v = .slice A ls.length c := by
  rcases h.shape with ⟨rfl, rfl⟩ | ⟨g, cap, rfl, _⟩
  · exact ⟨_, _, rfl⟩
  · exact ⟨_, _, rfl⟩
theorem OwnT.valued {w : World} {base : Nat} {v : Value} {ls : List (List Int)} (h : OwnT w base v ls) : ∃ A c, v = .slice A ls.length c := by
  obtain ⟨vs, h1, h2⟩ := h.vals
  obtain ⟨A, c, e⟩ := h1.valued
  rw [h2.1] at e
  exact ⟨A, c, e⟩

theorem CBox.two {w : World} {v u : Cv} {c d : Cl} (h : ClAt w w.heap.size v c) (k : ClAt w w.heap.size u d) :
    CBox ((w.alloc v.obj).alloc u.obj) w.heap.size v c ∧ CBox ((w.alloc v.obj).alloc u.obj) (w.heap.size + 1) u d ∧ Below w.heap.size w ((w.alloc v.obj).alloc u.obj) := by
  have h0 := (CBox.new h).on (below_new (w.alloc v.obj) u.obj)
  have k0 := CBox.new (k.on (below_new w v.obj))
  have e0 : (w.alloc v.obj).heap.size = w.heap.size + 1 := by simp
  rw [e0] at k0
  exact ⟨h0, k0, below_new2 w _ _⟩
set_option maxHeartbeats 1000000 in
theorem sameClause_true (v u : Cv) (c : Cl) (w : World) (h : ClAt w w.heap.size v c) (k : ClAt w w.heap.size u c) :
    Calls Try.prog 16 #[v.val, u.val] w fun e w' => e = .returned (.bool true) ∧ Below w.heap.size w w' := by
  have e1 : u.n1 = v.n1 := by rw [← h.lits.len, ← k.lits.len]
  have e2 : u.n2 = v.n2 := by rw [← h.tups.len, ← k.tups.len]
  have e3 : u.n3 = v.n3 := by rw [← h.conds.len, ← k.conds.len]
  have hf1 := h.f1
  have hf2 := h.f2
  have hf3 := h.f3
  obtain ⟨hx, hy, hb⟩ := CBox.two h k
  simp only [Cv.val]
  unfold Cv.obj at hx hy hb
  obtain ⟨A1, n1, c1, A2, n2, c2, A3, n3, c3⟩ := u
  dsimp only at e1 e2 e3 hx hy hb ⊢
  subst e1 e2 e3
  have HX := Lib.hid hx
  have HY := Lib.hid hy
  have HB0 := Lib.hid hb
  clear h k hx hy hb
  go_enter Try.func16, Try.ntmps16
  go_wp2_with fail
  obtain ⟨w0, hw0⟩ : ∃ w0, w0 = ((w.alloc (.cells #[.slice v.A1 v.n1 v.c1, .slice v.A2 v.n2 v.c2, .slice v.A3 v.n3 v.c3] 26)).alloc (.cells #[.slice A1 v.n1 c1, .slice A2 v.n2 c2, .slice A3 v.n3 c3] 26)) := ⟨_, rfl⟩
  rw [← hw0] at HX HY HB0 ⊢
  clear hw0
  refine (sameLits_true v.A1 A1 v.n1 v.c1 c1 c.lits _ HX.out.cl.lits (by omega) HY.out.cl.lits).mono ?_
  rintro e w1 ⟨rfl, hb1⟩
  have HB1 := Lib.hid (HB0.out.trans (hb1.mono HB0.out.size))
  replace HX := Lib.hid (HX.out.on hb1)
  replace HY := Lib.hid (HY.out.on hb1)
  clear hb1
  have p0 := HX.out.c0
  have p1 := HX.out.c1
  have p2 := HX.out.c2
  have q0 := HY.out.c0
  have q1 := HY.out.c1
  have q2 := HY.out.c2
  dsimp only at q0 q1 q2
  go_wp2_with fail
  refine (sameRows_true v.A2 A2 v.n2 v.c2 c2 c.tups _ HX.out.cl.tups (by omega) HY.out.cl.tups).mono ?_
  rintro e w2 ⟨rfl, hb2⟩
  have HB2 := Lib.hid (HB1.out.trans (hb2.mono HB1.out.size))
  replace HX := Lib.hid (HX.out.on hb2)
  replace HY := Lib.hid (HY.out.on hb2)
  clear hb2 p0 p1 p2 q0 q1 q2
  have p0 := HX.out.c0
  have p1 := HX.out.c1
  have p2 := HX.out.c2
  have q0 := HY.out.c0
  have q1 := HY.out.c1
  have q2 := HY.out.c2
  dsimp only at q0 q1 q2
  go_wp2_with fail
  refine (sameLits_true v.A3 A3 v.n3 v.c3 c3 c.conds _ HX.out.cl.conds (by omega) HY.out.cl.conds).mono ?_
  rintro e w3 ⟨rfl, hb3⟩
  have HB3 := Lib.hid (HB2.out.trans (hb3.mono HB2.out.size))
  clear hb3
  go_wp2
  go_ret
  exact ⟨rfl, HB3.out⟩

/-- A box of a clause as a row of one: what is written over rows of integers leaves it. -/
def BoxRow (w : World) (b : Nat) (cells : List Value) : Prop := w.ownsRow b 26 3 (.slice (some ⟨b, 0, none⟩) 1 1) 1 cells
theorem BoxRow.new (w : World) (x y z : Value) : BoxRow (w.alloc (.cells #[x, y, z] 26)) w.heap.size [x, y, z] := by
  have := World.ownsRow_lit (base := w.heap.size) (e := 26) (size := 3) w #[x, y, z] 1 (Nat.le_refl _) (by unfold maxLen; omega) rfl
  simpa [BoxRow] using this
theorem BoxRow.get {w : World} {b : Nat} {x y z : Value} (h : BoxRow w b [x, y, z]) : w.cell? ⟨b, 0, none⟩ = some x ∧ w.cell? ⟨b, 1, none⟩ = some y ∧ w.cell? ⟨b, 2, none⟩ = some z := by
  refine ⟨?_, ?_, ?_⟩
  · exact World.ownsRow.cellAt h 0 (by omega)
  · exact World.ownsRow.cellAt h 1 (by omega)
  · exact World.ownsRow.cellAt h 2 (by omega)
theorem BoxRow.spoilt {w w' : World} {b base : Nat} {cells : List Value} (h : BoxRow w b cells) (hs : Spoilt base w w') : BoxRow w' b cells := hs.rows _ _ _ _ _ _ (by decide) h
end Go.Proofs.Ytjdmnplkgimaiaa
