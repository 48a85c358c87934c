/-
  Contracts: clause.normal, clause.Normal.
-/
import Derived.Test.YtcjpopjcpgipjaaDoorClauseRen
import Derived.Laws.ResultCell
import Derived.Deep.DeepCutAuto
namespace Go.Proofs.YtcjpopjcpgipjaaDoor
open Go.RowKit Go.Deep
set_option linter.unusedSimpArgs false
set_option linter.unusedVariables false
set_option maxRecDepth 100000

theorem litCells_ren (f : Nat → Nat) : ∀ (ls : List Lt) (vs : List Value), litCells (ls.map (renL f)) vs = litCells ls vs
  | [], vs => rfl
  | l :: ls, [] => by unfold litCells; simp
  | l :: ls, v :: vs => by rw [List.map_cons, litCells_cons, litCells_cons, litCells_ren f ls vs]; rfl
section
variable {w w' : World} {base lo hi n cap : Nat} {v : Value} {vs : List Value} {ls : List Lt} {ts : List (List Int)} {A : Option Addr}
theorem OwnLv.ren {f : Nat → Nat} (h : OwnLv w base v ls vs) : OwnLv w base v (ls.map (renL f)) vs := by
  unfold OwnLv at *
  rw [List.length_map, litCells_ren]; exact h
theorem OwnLv.valued (h : OwnLv w base v ls vs) : ∃ A c, v = .slice A ls.length c := by
  rcases h.2.2 with ⟨rfl, h0⟩ | ⟨g, cap, cur, hv, _⟩
  · exact ⟨none, 0, by rw [h0]⟩
  · exact ⟨_, _, hv⟩
theorem OwnLv.lvals {L : List (List Int)} (h : OwnLv w base (.slice A n cap) ls vs) (hr : Rws w base vs L) : LVals w w.heap.size A n vs := by
  have hn : n = ls.length := by
    obtain ⟨A', c', e⟩ := h.valued
    injection e
  refine ⟨by rw [h.1, hn], fun h0 => ?_⟩
  rcases h.2.2 with ⟨_, e⟩ | ⟨g, cap', cur, hv, hg, hc, _⟩
  · omega
  · injection hv with q1 q2 q3
    subst q1
    refine ⟨g, 0, rfl, (Array.getElem?_eq_some_iff.1 hc).1, fun i hi => ?_⟩
    obtain ⟨k1, k2⟩ := litCells_get ls vs h.1 i (by omega)
    have hh := h.2
    rw [← hn] at hh
    obtain ⟨A2, c2, e2⟩ := (hr.2 i (by have := hr.1; have := h.1; omega)).value
    refine ⟨(ltAt ls i).neg, A2, _, c2, ?_, ?_, e2⟩
    · rw [Nat.zero_add, hh.cellAt (i * 2) (by omega)]; exact k1
    · rw [Nat.zero_add, hh.cellAt (i * 2 + 1) (by omega), k2, e2]
theorem OwnR.tvals {L : List (List Int)} (h : OwnR w base (.slice A n cap) vs) (hr : Rws w base vs L) : TVals w w.heap.size A n vs := by
  have hn : n = vs.length := by
    obtain ⟨A', c', e⟩ := h.valued
    injection e
  refine ⟨hn.symm, fun h0 => ?_⟩
  obtain ⟨g, cap', e, _, hl, _, _⟩ := h.get (i := 0) (by omega)
  injection e with q1 q2 q3
  subst q1
  refine ⟨g, 0, rfl, hl, fun i hi => ?_⟩
  obtain ⟨g', cap2, e', _, _, _, hc⟩ := h.get (i := i) (by omega)
  injection e' with q1 _ _
  injection q1 with q1
  injection q1 with q1
  subst q1
  obtain ⟨A2, c2, e2⟩ := (hr.2 i (by have := hr.1; omega)).value
  exact ⟨A2, _, c2, by rw [Nat.zero_add, hc, e2], e2⟩
theorem OwnR.nilcap (h : OwnR w base (.slice A n cap) vs) : A = none → cap = 0 := by
  rintro rfl
  rcases h.shape with ⟨e, _⟩ | ⟨g, cap', e, _⟩
  · injection e
  · cases e
/-- Literals that lie in rows of their own, made between the sizes lo and hi. -/
structure NL (w : World) (lo hi : Nat) (v : Value) (ls : List Lt) (vs : List Value) : Prop where
  own : OwnLv w lo v ls vs
  rws : Rws w lo vs (ls.map Lt.atom)
  ap : Apart vs
  lt : ∀ i, i < vs.length → ∀ g, (valAt vs i).ownBlock = some g → g < hi
structure NT (w : World) (lo hi : Nat) (v : Value) (ts : List (List Int)) (vs : List Value) : Prop where
  own : OwnR w lo v vs
  rws : Rws w lo vs ts
  ap : Apart vs
  lt : ∀ i, i < vs.length → ∀ g, (valAt vs i).ownBlock = some g → g < hi
theorem NL.on (h : NL w lo hi v ls vs) (hb : Below w.heap.size w w') : NL w' lo hi v ls vs := ⟨h.own.on hb, h.rws.on hb, h.ap, h.lt⟩
theorem NT.on (h : NT w lo hi v ts vs) (hb : Below w.heap.size w w') : NT w' lo hi v ts vs := ⟨h.own.on hb, h.rws.on hb, h.ap, h.lt⟩
end
/-- Block g is an empty box of a clause. -/
structure ZBox (w : World) (g : Nat) : Prop where
  lt : g < w.heap.size
  z : w.heap[g]? = some (.cells #[.slice none 0 0, .slice none 0 0, .slice none 0 0] 26 (0, 0))
theorem ZBox.on {w w' : World} {g : Nat} (h : ZBox w g) (hb : Below w.heap.size w w') : ZBox w' g := ⟨by have := h.lt; have := hb.size; omega, by rw [hb.block g h.lt]; exact h.z⟩
theorem ZBox.new (w : World) : ZBox (w.alloc (.cells #[.slice none 0 0, .slice none 0 0, .slice none 0 0] 26)) w.heap.size := ⟨by simp, heap_alloc_new w _⟩
/-- What normal has made ahead of new numbers: a box g of a clause each of whose rows lies in a block of its own. -/
def NormMid (w : World) (c : Cl) (s : Value) (wx : World) : Prop :=
  ∃ (g : Nat) (u : Cv) (vs1 vs2 vs3 : List Value), s = .pointer (some ⟨g, 0, none⟩) ∧ wx.heap[g]? = some (.cells #[.slice u.A1 u.n1 u.c1, .slice u.A2 u.n2 u.c2, .slice u.A3 u.n3 u.c3] 26 (0, 0)) ∧ w.heap.size + 2 ≤ g ∧
    OwnLv wx w.heap.size (.slice u.A1 u.n1 u.c1) (once c.lits) vs1 ∧ OwnR wx w.heap.size (.slice u.A2 u.n2 u.c2) vs2 ∧ OwnLv wx w.heap.size (.slice u.A3 u.n3 u.c3) (once c.conds) vs3 ∧
    Rws wx w.heap.size (vs1 ++ vs2 ++ vs3) (rowsC (onceC c)) ∧ Apart (vs1 ++ vs2 ++ vs3) ∧ ZBox wx (w.heap.size + 1) ∧ Below w.heap.size w wx
theorem NormMid.of {w wr wx : World} {c : Cl} {g : Nat} {u : Cv} {vs1 vs2 vs3 : List Value} {l1 l2 l3 h1 h2 h3 : Nat} (a : NL wr l1 h1 (.slice u.A1 u.n1 u.c1) (once c.lits) vs1) (b : NT wr l2 h2 (.slice u.A2 u.n2 u.c2) (once c.tups) vs2) (d : NL wr l3 h3 (.slice u.A3 u.n3 u.c3) (once c.conds) vs3)
    (e1 : w.heap.size ≤ l1) (e2 : h1 ≤ l2) (e2' : w.heap.size ≤ l2) (e3 : h2 ≤ l3) (e3' : h1 ≤ l3) (e3'' : w.heap.size ≤ l3) (hg : w.heap.size + 2 ≤ g) (hz : ZBox wr (w.heap.size + 1)) (hb : Below w.heap.size w wr)
    (hx : wx.heap[g]? = some (.cells #[.slice u.A1 u.n1 u.c1, .slice u.A2 u.n2 u.c2, .slice u.A3 u.n3 u.c3] 26 (0, 0))) (hc : Chg [26] g wr wx) : NormMid w c (.pointer (some ⟨g, 0, none⟩)) wx := by
  refine ⟨g, u, vs1, vs2, vs3, rfl, hx, hg, (a.own.lower e1).chg hc (by decide), (b.own.lower e2').chg hc (by decide), (d.own.lower e3'').chg hc (by decide), ?_, ?_, ?_, hb.trans (hc.bel.mono (by omega))⟩
  · have h1 := (((a.rws.lower e1).append (b.rws.lower e2')).append (d.rws.lower e3'')).chg hc (by decide)
    have e : rowsC (onceC c) = (once c.lits).map Lt.atom ++ once c.tups ++ (once c.conds).map Lt.atom := by unfold rowsC onceC; rw [List.append_assoc]
    rw [e]; exact h1
  · refine Apart.append (m := l3) (Apart.append (m := l2) a.ap b.ap (fun i hi g hg => Nat.lt_of_lt_of_le (a.lt i hi g hg) e2) (fun i hi g hg => (b.rws.lt i hi g hg).1)) d.ap (fun i hi g hg => ?_) (fun i hi g hg => (d.rws.lt i hi g hg).1)
    rw [List.length_append] at hi
    by_cases q : i < vs1.length
    · rw [valAt_lefts q] at hg
      exact Nat.lt_of_lt_of_le (a.lt i q g hg) e3'
    · rw [valAt_rights (by omega)] at hg
      exact Nat.lt_of_lt_of_le (b.lt _ (by omega) g hg) e3
  · refine ⟨?_, ?_⟩
    · have := hc.bel.size; have := hz.lt; omega
    · rw [hc.bel.block _ (by omega)]; exact hz.z

theorem Rws.three {w : World} {base : Nat} {vs1 vs2 vs3 : List Value} {c : Cl} (h : Rws w base (vs1 ++ vs2 ++ vs3) (rowsC c)) (e1 : vs1.length = c.lits.length) (e2 : vs2.length = c.tups.length) :
    Rws w base vs1 (c.lits.map Lt.atom) ∧ Rws w base vs2 c.tups ∧ Rws w base vs3 (c.conds.map Lt.atom) := by
  rw [List.append_assoc] at h
  unfold rowsC at h
  have h1 := h.right (by simpa using e1)
  exact ⟨h.left (by simpa using e1), h1.left e2, h1.right e2⟩
section
variable {w w' : World} {base b : Nat} {v : Value} {es : List TypeId} {ls : List Lt} {ts : List (List Int)} {c : Cl}
theorem OwnL.chg (h : OwnL w base v ls) (hc : Chg es b w w') (h1 : 3 ∉ es) (h2 : 75 ∉ es) : OwnL w' base v ls := by
  obtain ⟨vs, a, r⟩ := h.vals
  exact (a.chg hc h2).own (r.chg hc h1)
theorem OwnT.chg (h : OwnT w base v ts) (hc : Chg es b w w') (h1 : 3 ∉ es) (h2 : 28 ∉ es) : OwnT w' base v ts := by
  obtain ⟨vs, a, r⟩ := h.vals
  exact OwnT.mk (a.chg hc h2) (r.chg hc h1)
theorem OwnC.chg (h : OwnC w base v c) (hc : Chg es b w w') (h1 : 3 ∉ es) (h2 : 75 ∉ es) (h3 : 28 ∉ es) : OwnC w' base v c := by
  obtain ⟨v1, v2, v3, e, a, r, d⟩ := h
  exact ⟨v1, v2, v3, e, a.chg hc h1 h2, r.chg hc h1 h3, d.chg hc h1 h2⟩
theorem OwnC.cast {d : Cl} (h : OwnC w base v c) (e : c = d) : OwnC w base v d := e ▸ h
theorem OwnC.slices (h : OwnC w base v c) : ∃ D1 d1 D2 d2 D3 d3, v = .agg #[.slice D1 c.lits.length d1, .slice D2 c.tups.length d2, .slice D3 c.conds.length d3] := by
  obtain ⟨v1, v2, v3, rfl, a, r, d⟩ := h
  obtain ⟨D1, d1, rfl⟩ := a.valued
  obtain ⟨D2, d2, rfl⟩ := r.valued
  obtain ⟨D3, d3, rfl⟩ := d.valued
  exact ⟨_, _, _, _, _, _, rfl⟩
theorem OwnC.nil_ : OwnC w base (.agg #[.slice none 0 0, .slice none 0 0, .slice none 0 0]) ⟨[], [], []⟩ := ⟨_, _, _, rfl, OwnL.nil_, OwnT.nil_, OwnL.nil_⟩
end
theorem row24 {ss : List Sym} {c : Cl} (hm : MayC ss c) {r : List Int} (hr : r ∈ rowsC c) : ∀ x ∈ r, -24 ≤ x := by
  intro x hx
  by_cases h0 : x < 0
  · have := hm.row hr (-1 - x).toNat (mem_vrs.2 (by rw [neg_var h0]; exact hx))
    omega
  · omega
/-- A clause and an error. -/
def ClPost (c : Cl) (E : Int) (w : World) (e : Ending) (w' : World) : Prop := ∃ v, e = .returned (.tuple #[v, .int .i64 E]) ∧ OwnC w' w.heap.size v c ∧ Below w.heap.size w w'
def normO (ss : List Sym) (c : Cl) : Cl := if mayC ss c then norm c else ⟨[], [], []⟩
def clE (ss : List Sym) (c : Cl) : Int := if mayC ss c then 0 else 800
theorem clause_ret {fn : Func} {p u : Tmp} (h : fn.results = #[.cell p 26, .tmp u]) {R : Ending → World → Prop} {a : Act} {w : World} {g : Nat} {x : Value} {cs : Array Value} (h4 : a.tmps.getD p undef = .pointer (some ⟨g, 0, none⟩)) (h5 : a.tmps.getD u undef = x) (hd : a.defers = [])
    (hg : w.heap[g]? = some (.cells cs 26 (0, 0))) (hs : cs.size = 3) (hR : R (.returned (.tuple #[.agg cs, x])) w) : bodyPost Tryd.prog fn R .ret a w := by
  refine bodyPost_ret (v := .tuple #[.agg cs, x]) ?_ hd hR
  rw [results_cell_tmp h, h4, h5]
  have := run_loadVar_row (P := Tryd.prog) w g 26 26 cs (0, 0) _ hg Tryd.underlying26 rfl (by rw [hs]; kernel_rfl)
  simp [asAddr, Result.andThen, this]


set_option maxHeartbeats 4000000 in
theorem normal_any (v : Cv) (c : Cl) (ss : List Sym) (w : World) (h : ClAt w w.heap.size v c) (hm : MayC ss c) :
    Calls Tryd.prog 50 #[v.val] w (ClRet (norm c) w) := by
  have hsm := hm.small
  have L1 := h.lits.len
  have L2 := h.tups.len
  have L3 := h.conds.len
  have q1 : v.n1 ≤ 5 := by rw [← L1]; exact hm.nl
  have q2 : v.n2 ≤ 3 := by rw [← L2]; exact hm.nt
  have q3 : v.n3 ≤ 3 := by rw [← L3]; exact hm.nc
  have HS1 : Hid (∀ l ∈ c.lits, 0 < l.atom.length ∧ l.atom.length ≤ 49) := fun l hl => ⟨hsm.al l hl, hsm.r _ (lit_row hl)⟩
  have HS2 : Hid (∀ t ∈ c.tups, t.length ≤ 49) := fun t ht => hsm.r _ (tup_row ht)
  have HS3 : Hid (∀ l ∈ c.conds, 0 < l.atom.length ∧ l.atom.length ≤ 49) := fun l hl => ⟨hsm.ad l hl, hsm.r _ (cond_row hl)⟩
  have HSM := Lib.hid hsm
  have HM := Lib.hid hm
  have hb0 := below_new2 w v.obj (.cells #[.slice none 0 0, .slice none 0 0, .slice none 0 0] 26)
  have hx0 := (CBox.new h).on (below_new _ (.cells #[.slice none 0 0, .slice none 0 0, .slice none 0 0] 26))
  have hz0 := ZBox.new (w.alloc v.obj)
  have e0 : (w.alloc v.obj).heap.size = w.heap.size + 1 := by simp
  rw [e0] at hz0
  rw [Cv.val_eq]
  unfold Cv.obj at hb0 hx0 hz0
  clear h hm hsm L1 L2 L3 e0
  go_enter Tryd.func50, Tryd.ntmps50
  go_upto_region 1 with (fail)
  obtain ⟨w0, hw0⟩ : ∃ w0, w0 = (w.alloc (.cells #[.slice v.A1 v.n1 v.c1, .slice v.A2 v.n2 v.c2, .slice v.A3 v.n3 v.c3] 26)).alloc (.cells #[.slice none 0 0, .slice none 0 0, .slice none 0 0] 26) := ⟨_, rfl⟩
  have hsz0 : w0.heap.size = w.heap.size + 2 := by rw [hw0]; simp
  rw [← hw0] at hb0 hx0 hz0 ⊢
  have HX := Lib.hid hx0
  have HB0 := Lib.hid hb0
  have HZ0 := Lib.hid hz0
  clear hb0 hx0 hz0 hw0
  go_cut [3] (fun s wx => NormMid w c s wx)
  case first =>
    go_wp2_with fail
    have p0 := HX.out.c0
    have p1 := HX.out.c1
    have p2 := HX.out.c2
    refine wp_region_held_drew (S := (fun w' => w'.cell? ⟨w.heap.size, 0, none⟩ = some (.slice v.A1 v.n1 v.c1) ∧ w'.cell? ⟨w.heap.size, 1, none⟩ = some (.slice v.A2 v.n2 v.c2) ∧ w'.cell? ⟨w.heap.size, 2, none⟩ = some (.slice v.A3 v.n3 v.c3))) (by kernel_rfl) ⟨p0, p1, p2⟩ (fun hHeld => ?_)
    have hd0 : Below w0.heap.size w0 w0.drew := (Below.refl w0.heap.size w0).drew
    have hs1 : w0.heap.size ≤ w0.drew.heap.size := hd0.size
    refine takeH (i := 0) (v := ?_) rfl rfl (by kernel_rfl) (by kernel_rfl) (by kernel_rfl) (fun _ _ _ h => h) (by rfl) ?_ hHeld ?_
    rotate_left
    · (intro w hSw; (try dsimp only at hSw); first | (go_simp; done) | (go_simp; with_reducible rfl))
    simp only [Act.put, List.setIfInBounds_toArray, List.set_cons_zero, List.set_cons_succ]
    refine takeH (i := 1) (v := ?_) rfl rfl (by kernel_rfl) (by kernel_rfl) (by kernel_rfl) (fun _ _ _ h => h) (by rfl) ?_ hHeld ?_
    rotate_left
    · (intro w hSw; (try dsimp only at hSw); first | (go_simp; done) | (go_simp; with_reducible rfl))
    simp only [Act.put, List.setIfInBounds_toArray, List.set_cons_zero, List.set_cons_succ]
    refine takeH (i := 3) (v := ?_) rfl rfl (by kernel_rfl) (by kernel_rfl) (by kernel_rfl) (fun _ _ _ h => h) (by rfl) ?_ hHeld ?_
    rotate_left
    · (intro w hSw; (try dsimp only at hSw); first | (go_simp; done) | (go_simp; with_reducible rfl))
    simp only [Act.put, List.setIfInBounds_toArray, List.set_cons_zero, List.set_cons_succ]
    refine takeH (i := 4) (v := ?_) rfl rfl (by kernel_rfl) (by kernel_rfl) (by kernel_rfl) (fun _ _ _ h => h) (by rfl) ?_ hHeld ?_
    rotate_left
    · (intro w hSw; (try dsimp only at hSw); first | (go_simp; done) | (go_simp; with_reducible rfl))
    simp only [Act.put, List.setIfInBounds_toArray, List.set_cons_zero, List.set_cons_succ]
    refine takeH (i := 6) (v := ?_) rfl rfl (by kernel_rfl) (by kernel_rfl) (by kernel_rfl) (fun _ _ _ h => h) (by rfl) ?_ hHeld ?_
    rotate_left
    · (intro w hSw; (try dsimp only at hSw); first | (go_simp; done) | (go_simp; with_reducible rfl))
    simp only [Act.put, List.setIfInBounds_toArray, List.set_cons_zero, List.set_cons_succ]
    refine takeH (i := 7) (v := ?_) rfl rfl (by kernel_rfl) (by kernel_rfl) (by kernel_rfl) (fun _ _ _ h => h) (by rfl) ?_ hHeld ?_
    rotate_left
    · (intro w hSw; (try dsimp only at hSw); first | (go_simp; done) | (go_simp; with_reducible rfl))
    simp only [Act.put, List.setIfInBounds_toArray, List.set_cons_zero, List.set_cons_succ]
    replace HX := Lib.hid (HX.out.on hd0)
    replace HZ0 := Lib.hid (HZ0.out.on hd0)
    have HB1 := Lib.hid (HB0.out.trans (hd0.mono HB0.out.size))
    clear hd0 p0 p1 p2
    obtain ⟨w1, hw1⟩ : ∃ w1, w1 = w0.drew := ⟨_, rfl⟩
    rw [← hw1] at HX HZ0 HB1 hs1 ⊢
    clear hw1
    have p0 := HX.out.c0
    have p1 := HX.out.c1
    have p2 := HX.out.c2
    refine wpAnyH_ready (rs := [2, 10]) (by kernel_rfl) (by simp) ?_
    refine AllReadyH.cons rfl (fun K hK => ?_) (AllReadyH.cons rfl (fun K hK => ?_) AllReadyH.nil)
    · go_simp
      refine (onceLits_any v.A1 v.n1 v.c1 c.lits _ HX.out.cl.lits (by omega) HS1.out).mono ?_
      rintro e w2 ⟨v1, vs1, rfl, ho1, hr1, ha1, hb2⟩
      obtain ⟨D1, d1, hd1⟩ := ho1.valued
      obtain ⟨n1, hn1⟩ : ∃ n1, n1 = (once c.lits).length := ⟨_, rfl⟩
      rw [← hn1] at hd1
      subst hd1
      have hs2 := hb2.size
      have HB2 := Lib.hid (HB1.out.trans (hb2.mono HB1.out.size))
      replace HX := Lib.hid (HX.out.on hb2)
      replace HZ0 := Lib.hid (HZ0.out.on hb2)
      have H1 := Lib.hid (NL.mk (hi := w2.heap.size) ho1 hr1 ha1 (fun i hi g hg => (hr1.lt i hi g hg).2))
      clear ho1 hr1 ha1 hb2 p0 p1 p2 hn1
      have p0 := HX.out.c0
      have p1 := HX.out.c1
      have p2 := HX.out.c2
      go_wp2_with fail
      refine hK.out _ _ ?_ (fun hHeld => ?_)
      · exact ⟨p0, p1, p2⟩
      clear hK K
      refine wpAnyH_ready (rs := [5, 10]) (by kernel_rfl) (by simp) ?_
      refine AllReadyH.cons rfl (fun K hK => ?_) (AllReadyH.cons rfl (fun K hK => ?_) AllReadyH.nil)
      · go_simp
        refine (onceRows_any v.A2 v.n2 v.c2 c.tups _ HX.out.cl.tups (by omega) HS2.out).mono ?_
        rintro e w3 ⟨v2, vs2, rfl, ho2, hr2, ha2, hb3⟩
        obtain ⟨D2, d2, hd2⟩ := ho2.valued
        obtain ⟨n2, hn2⟩ : ∃ n2, n2 = vs2.length := ⟨_, rfl⟩
        rw [← hn2] at hd2
        subst hd2
        have hs3 := hb3.size
        have HB3 := Lib.hid (HB2.out.trans (hb3.mono HB2.out.size))
        replace HX := Lib.hid (HX.out.on hb3)
        replace HZ0 := Lib.hid (HZ0.out.on hb3)
        replace H1 := Lib.hid (H1.out.on hb3)
        have H2 := Lib.hid (NT.mk (hi := w3.heap.size) ho2 hr2 ha2 (fun i hi g hg => (hr2.lt i hi g hg).2))
        clear ho2 hr2 ha2 hb3 p0 p1 p2 hn2
        have p0 := HX.out.c0
        have p1 := HX.out.c1
        have p2 := HX.out.c2
        go_wp2_with fail
        refine hK.out _ _ ?_ (fun hHeld => ?_)
        · exact ⟨p0, p1, p2⟩
        clear hK K
        refine wpAnyH_ready (rs := [8, 10]) (by kernel_rfl) (by simp) ?_
        refine AllReadyH.cons rfl (fun K hK => ?_) (AllReadyH.cons rfl (fun K hK => ?_) AllReadyH.nil)
        · go_simp
          refine (onceLits_any v.A3 v.n3 v.c3 c.conds _ HX.out.cl.conds (by omega) HS3.out).mono ?_
          rintro e w4 ⟨v3, vs3, rfl, ho3, hr3, ha3, hb4⟩
          obtain ⟨D3, d3, hd3⟩ := ho3.valued
          obtain ⟨n3, hn3⟩ : ∃ n3, n3 = (once c.conds).length := ⟨_, rfl⟩
          rw [← hn3] at hd3
          subst hd3
          have hs4 := hb4.size
          have HB4 := Lib.hid (HB3.out.trans (hb4.mono HB3.out.size))
          replace HX := Lib.hid (HX.out.on hb4)
          replace HZ0 := Lib.hid (HZ0.out.on hb4)
          replace H1 := Lib.hid (H1.out.on hb4)
          replace H2 := Lib.hid (H2.out.on hb4)
          have H3 := Lib.hid (NL.mk (hi := w4.heap.size) ho3 hr3 ha3 (fun i hi g hg => (hr3.lt i hi g hg).2))
          clear ho3 hr3 ha3 hb4 p0 p1 p2 hn3
          have p0 := HX.out.c0
          have p1 := HX.out.c1
          have p2 := HX.out.c2
          go_wp2_with fail
          refine hK.out _ _ ?_ (fun hHeld => ?_)
          · exact ⟨p0, p1, p2⟩
          clear hK K
          refine takeH (i := 9) (v := ?_) rfl rfl (by kernel_rfl) (by kernel_rfl) (by kernel_rfl) (fun _ _ _ h => h) (by rfl) ?_ hHeld ?_
          rotate_left
          · (intro w hSw; (try dsimp only at hSw); first | (go_simp; done) | (go_simp; with_reducible rfl))
          simp only [Act.put, List.setIfInBounds_toArray, List.set_cons_zero, List.set_cons_succ]
          refine wpAnyH_ready (rs := [10]) (by kernel_rfl) (by simp) ?_
          refine AllReadyH.cons rfl (fun K hK => ?_) AllReadyH.nil
          go_simp
          have hb6 := below_new w4 (.cells #[.slice none 0 0, .slice none 0 0, .slice none 0 0] 26)
          have HZ := Lib.hid (ZBox.new w4)
          have HB6 := Lib.hid (HB4.out.trans (hb6.mono HB4.out.size))
          replace HX := Lib.hid (HX.out.on hb6)
          replace HZ0 := Lib.hid (HZ0.out.on hb6)
          replace H1 := Lib.hid (H1.out.on hb6)
          replace H2 := Lib.hid (H2.out.on hb6)
          replace H3 := Lib.hid (H3.out.on hb6)
          clear p0 p1 p2
          obtain ⟨w6, hw6⟩ : ∃ w6, w6 = w4.alloc (.cells #[.slice none 0 0, .slice none 0 0, .slice none 0 0] 26) := ⟨_, rfl⟩
          obtain ⟨g, hg⟩ : ∃ g, g = w4.heap.size := ⟨_, rfl⟩
          have hs6 : w4.heap.size ≤ w6.heap.size := by rw [hw6]; simp
          have hgw : w0.heap.size ≤ g := by omega
          rw [← hw6] at HX HZ HZ0 HB6 hb6 H1 H2 H3 ⊢
          rw [← hg] at HZ ⊢
          have p0 := HX.out.c0
          have p1 := HX.out.c1
          have p2 := HX.out.c2
          clear hb6 hw6 hg
          refine hK.out _ _ ?_ (fun hHeld => ?_)
          · exact ⟨p0, p1, p2⟩
          clear hK K
          refine wpAnyH_ready (rs := [11]) (by kernel_rfl) (by simp) ?_
          refine AllReadyH.cons rfl (fun K hK => ?_) AllReadyH.nil
          refine store_box_step rfl 26 (.tmp 3) (.tmp 13) rfl rfl g _ _ rfl rfl HZ.out.z rfl (by kernel_rfl) three_one ?_
          intro w9 hg9 hc9 hs9
          have HBl : w.heap.size < g := by omega
          have q0 : w9.cell? ⟨w.heap.size, 0, none⟩ = some (.slice v.A1 v.n1 v.c1) := by rw [hc9.bel.cell (p := ⟨w.heap.size, 0, none⟩) HBl]; exact p0
          have q1 : w9.cell? ⟨w.heap.size, 1, none⟩ = some (.slice v.A2 v.n2 v.c2) := by rw [hc9.bel.cell (p := ⟨w.heap.size, 1, none⟩) HBl]; exact p1
          have q2 : w9.cell? ⟨w.heap.size, 2, none⟩ = some (.slice v.A3 v.n3 v.c3) := by rw [hc9.bel.cell (p := ⟨w.heap.size, 2, none⟩) HBl]; exact p2
          have HMID : Hid (NormMid w c (.pointer (some ⟨g, 0, none⟩)) w9) := NormMid.of (u := ⟨D1, n1, d1, D2, n2, d2, D3, n3, d3⟩) H1.out H2.out H3.out (by omega) (by omega) (by omega) (by omega) (by omega) (by omega) (by omega) HZ0.out HB6.out hg9 hc9
          clear hg9 hc9 hs9 p0 p1 p2 HBl
          refine hK.out _ _ ?_ (fun hHeld => ?_)
          · exact ⟨q0, q1, q2⟩
          clear hK K
          refine wpAnyH_done (by kernel_rfl) ?_ _
          go_wp2
          go_meet
          case rel => exact HMID.out
        · go_simp
          have hb4 := below_new w3 (.cells #[.slice none 0 0, .slice none 0 0, .slice none 0 0] 26)
          have HZ := Lib.hid (ZBox.new w3)
          have HB4 := Lib.hid (HB3.out.trans (hb4.mono HB3.out.size))
          replace HX := Lib.hid (HX.out.on hb4)
          replace HZ0 := Lib.hid (HZ0.out.on hb4)
          replace H1 := Lib.hid (H1.out.on hb4)
          replace H2 := Lib.hid (H2.out.on hb4)
          clear p0 p1 p2
          obtain ⟨w4, hw4⟩ : ∃ w4, w4 = w3.alloc (.cells #[.slice none 0 0, .slice none 0 0, .slice none 0 0] 26) := ⟨_, rfl⟩
          obtain ⟨g, hg⟩ : ∃ g, g = w3.heap.size := ⟨_, rfl⟩
          have hs4 : w3.heap.size ≤ w4.heap.size := by rw [hw4]; simp
          have hgw : w0.heap.size ≤ g := by omega
          rw [← hw4] at HX HZ HZ0 HB4 hb4 H1 H2 ⊢
          rw [← hg] at HZ ⊢
          have p0 := HX.out.c0
          have p1 := HX.out.c1
          have p2 := HX.out.c2
          clear hb4 hw4 hg
          refine hK.out _ _ ?_ (fun hHeld => ?_)
          · exact ⟨p0, p1, p2⟩
          clear hK K
          refine wpAnyH_ready (rs := [8]) (by kernel_rfl) (by simp) ?_
          refine AllReadyH.cons rfl (fun K hK => ?_) AllReadyH.nil
          go_simp
          refine (onceLits_any v.A3 v.n3 v.c3 c.conds _ HX.out.cl.conds (by omega) HS3.out).mono ?_
          rintro e w6 ⟨v3, vs3, rfl, ho3, hr3, ha3, hb6⟩
          obtain ⟨D3, d3, hd3⟩ := ho3.valued
          obtain ⟨n3, hn3⟩ : ∃ n3, n3 = (once c.conds).length := ⟨_, rfl⟩
          rw [← hn3] at hd3
          subst hd3
          have hs6 := hb6.size
          have HB6 := Lib.hid (HB4.out.trans (hb6.mono HB4.out.size))
          replace HX := Lib.hid (HX.out.on hb6)
          replace HZ0 := Lib.hid (HZ0.out.on hb6)
          replace HZ := Lib.hid (HZ.out.on hb6)
          replace H1 := Lib.hid (H1.out.on hb6)
          replace H2 := Lib.hid (H2.out.on hb6)
          have H3 := Lib.hid (NL.mk (hi := w6.heap.size) ho3 hr3 ha3 (fun i hi g hg => (hr3.lt i hi g hg).2))
          clear ho3 hr3 ha3 hb6 p0 p1 p2 hn3
          have p0 := HX.out.c0
          have p1 := HX.out.c1
          have p2 := HX.out.c2
          go_wp2_with fail
          refine hK.out _ _ ?_ (fun hHeld => ?_)
          · exact ⟨p0, p1, p2⟩
          clear hK K
          refine takeH (i := 9) (v := ?_) rfl rfl (by kernel_rfl) (by kernel_rfl) (by kernel_rfl) (fun _ _ _ h => h) (by rfl) ?_ hHeld ?_
          rotate_left
          · (intro w hSw; (try dsimp only at hSw); first | (go_simp; done) | (go_simp; with_reducible rfl))
          simp only [Act.put, List.setIfInBounds_toArray, List.set_cons_zero, List.set_cons_succ]
          refine wpAnyH_ready (rs := [11]) (by kernel_rfl) (by simp) ?_
          refine AllReadyH.cons rfl (fun K hK => ?_) AllReadyH.nil
          refine store_box_step rfl 26 (.tmp 3) (.tmp 13) rfl rfl g _ _ rfl rfl HZ.out.z rfl (by kernel_rfl) three_one ?_
          intro w9 hg9 hc9 hs9
          have HBl : w.heap.size < g := by omega
          have q0 : w9.cell? ⟨w.heap.size, 0, none⟩ = some (.slice v.A1 v.n1 v.c1) := by rw [hc9.bel.cell (p := ⟨w.heap.size, 0, none⟩) HBl]; exact p0
          have q1 : w9.cell? ⟨w.heap.size, 1, none⟩ = some (.slice v.A2 v.n2 v.c2) := by rw [hc9.bel.cell (p := ⟨w.heap.size, 1, none⟩) HBl]; exact p1
          have q2 : w9.cell? ⟨w.heap.size, 2, none⟩ = some (.slice v.A3 v.n3 v.c3) := by rw [hc9.bel.cell (p := ⟨w.heap.size, 2, none⟩) HBl]; exact p2
          have HMID : Hid (NormMid w c (.pointer (some ⟨g, 0, none⟩)) w9) := NormMid.of (u := ⟨D1, n1, d1, D2, n2, d2, D3, n3, d3⟩) H1.out H2.out H3.out (by omega) (by omega) (by omega) (by omega) (by omega) (by omega) (by omega) HZ0.out HB6.out hg9 hc9
          clear hg9 hc9 hs9 p0 p1 p2 HBl
          refine hK.out _ _ ?_ (fun hHeld => ?_)
          · exact ⟨q0, q1, q2⟩
          clear hK K
          refine wpAnyH_done (by kernel_rfl) ?_ _
          go_wp2
          go_meet
          case rel => exact HMID.out
      · go_simp
        have hb3 := below_new w2 (.cells #[.slice none 0 0, .slice none 0 0, .slice none 0 0] 26)
        have HZ := Lib.hid (ZBox.new w2)
        have HB3 := Lib.hid (HB2.out.trans (hb3.mono HB2.out.size))
        replace HX := Lib.hid (HX.out.on hb3)
        replace HZ0 := Lib.hid (HZ0.out.on hb3)
        replace H1 := Lib.hid (H1.out.on hb3)
        clear p0 p1 p2
        obtain ⟨w3, hw3⟩ : ∃ w3, w3 = w2.alloc (.cells #[.slice none 0 0, .slice none 0 0, .slice none 0 0] 26) := ⟨_, rfl⟩
        obtain ⟨g, hg⟩ : ∃ g, g = w2.heap.size := ⟨_, rfl⟩
        have hs3 : w2.heap.size ≤ w3.heap.size := by rw [hw3]; simp
        have hgw : w0.heap.size ≤ g := by omega
        rw [← hw3] at HX HZ HZ0 HB3 hb3 H1 ⊢
        rw [← hg] at HZ ⊢
        have p0 := HX.out.c0
        have p1 := HX.out.c1
        have p2 := HX.out.c2
        clear hb3 hw3 hg
        refine hK.out _ _ ?_ (fun hHeld => ?_)
        · exact ⟨p0, p1, p2⟩
        clear hK K
        refine wpAnyH_ready (rs := [5]) (by kernel_rfl) (by simp) ?_
        refine AllReadyH.cons rfl (fun K hK => ?_) AllReadyH.nil
        go_simp
        refine (onceRows_any v.A2 v.n2 v.c2 c.tups _ HX.out.cl.tups (by omega) HS2.out).mono ?_
        rintro e w4 ⟨v2, vs2, rfl, ho2, hr2, ha2, hb4⟩
        obtain ⟨D2, d2, hd2⟩ := ho2.valued
        obtain ⟨n2, hn2⟩ : ∃ n2, n2 = vs2.length := ⟨_, rfl⟩
        rw [← hn2] at hd2
        subst hd2
        have hs4 := hb4.size
        have HB4 := Lib.hid (HB3.out.trans (hb4.mono HB3.out.size))
        replace HX := Lib.hid (HX.out.on hb4)
        replace HZ0 := Lib.hid (HZ0.out.on hb4)
        replace HZ := Lib.hid (HZ.out.on hb4)
        replace H1 := Lib.hid (H1.out.on hb4)
        have H2 := Lib.hid (NT.mk (hi := w4.heap.size) ho2 hr2 ha2 (fun i hi g hg => (hr2.lt i hi g hg).2))
        clear ho2 hr2 ha2 hb4 p0 p1 p2 hn2
        have p0 := HX.out.c0
        have p1 := HX.out.c1
        have p2 := HX.out.c2
        go_wp2_with fail
        refine hK.out _ _ ?_ (fun hHeld => ?_)
        · exact ⟨p0, p1, p2⟩
        clear hK K
        refine wpAnyH_ready (rs := [8]) (by kernel_rfl) (by simp) ?_
        refine AllReadyH.cons rfl (fun K hK => ?_) AllReadyH.nil
        go_simp
        refine (onceLits_any v.A3 v.n3 v.c3 c.conds _ HX.out.cl.conds (by omega) HS3.out).mono ?_
        rintro e w6 ⟨v3, vs3, rfl, ho3, hr3, ha3, hb6⟩
        obtain ⟨D3, d3, hd3⟩ := ho3.valued
        obtain ⟨n3, hn3⟩ : ∃ n3, n3 = (once c.conds).length := ⟨_, rfl⟩
        rw [← hn3] at hd3
        subst hd3
        have hs6 := hb6.size
        have HB6 := Lib.hid (HB4.out.trans (hb6.mono HB4.out.size))
        replace HX := Lib.hid (HX.out.on hb6)
        replace HZ0 := Lib.hid (HZ0.out.on hb6)
        replace HZ := Lib.hid (HZ.out.on hb6)
        replace H1 := Lib.hid (H1.out.on hb6)
        replace H2 := Lib.hid (H2.out.on hb6)
        have H3 := Lib.hid (NL.mk (hi := w6.heap.size) ho3 hr3 ha3 (fun i hi g hg => (hr3.lt i hi g hg).2))
        clear ho3 hr3 ha3 hb6 p0 p1 p2 hn3
        have p0 := HX.out.c0
        have p1 := HX.out.c1
        have p2 := HX.out.c2
        go_wp2_with fail
        refine hK.out _ _ ?_ (fun hHeld => ?_)
        · exact ⟨p0, p1, p2⟩
        clear hK K
        refine takeH (i := 9) (v := ?_) rfl rfl (by kernel_rfl) (by kernel_rfl) (by kernel_rfl) (fun _ _ _ h => h) (by rfl) ?_ hHeld ?_
        rotate_left
        · (intro w hSw; (try dsimp only at hSw); first | (go_simp; done) | (go_simp; with_reducible rfl))
        simp only [Act.put, List.setIfInBounds_toArray, List.set_cons_zero, List.set_cons_succ]
        refine wpAnyH_ready (rs := [11]) (by kernel_rfl) (by simp) ?_
        refine AllReadyH.cons rfl (fun K hK => ?_) AllReadyH.nil
        refine store_box_step rfl 26 (.tmp 3) (.tmp 13) rfl rfl g _ _ rfl rfl HZ.out.z rfl (by kernel_rfl) three_one ?_
        intro w9 hg9 hc9 hs9
        have HBl : w.heap.size < g := by omega
        have q0 : w9.cell? ⟨w.heap.size, 0, none⟩ = some (.slice v.A1 v.n1 v.c1) := by rw [hc9.bel.cell (p := ⟨w.heap.size, 0, none⟩) HBl]; exact p0
        have q1 : w9.cell? ⟨w.heap.size, 1, none⟩ = some (.slice v.A2 v.n2 v.c2) := by rw [hc9.bel.cell (p := ⟨w.heap.size, 1, none⟩) HBl]; exact p1
        have q2 : w9.cell? ⟨w.heap.size, 2, none⟩ = some (.slice v.A3 v.n3 v.c3) := by rw [hc9.bel.cell (p := ⟨w.heap.size, 2, none⟩) HBl]; exact p2
        have HMID : Hid (NormMid w c (.pointer (some ⟨g, 0, none⟩)) w9) := NormMid.of (u := ⟨D1, n1, d1, D2, n2, d2, D3, n3, d3⟩) H1.out H2.out H3.out (by omega) (by omega) (by omega) (by omega) (by omega) (by omega) (by omega) HZ0.out HB6.out hg9 hc9
        clear hg9 hc9 hs9 p0 p1 p2 HBl
        refine hK.out _ _ ?_ (fun hHeld => ?_)
        · exact ⟨q0, q1, q2⟩
        clear hK K
        refine wpAnyH_done (by kernel_rfl) ?_ _
        go_wp2
        go_meet
        case rel => exact HMID.out
    · go_simp
      have hb2 := below_new w1 (.cells #[.slice none 0 0, .slice none 0 0, .slice none 0 0] 26)
      have HZ := Lib.hid (ZBox.new w1)
      have HB2 := Lib.hid (HB1.out.trans (hb2.mono HB1.out.size))
      replace HX := Lib.hid (HX.out.on hb2)
      replace HZ0 := Lib.hid (HZ0.out.on hb2)
      clear p0 p1 p2
      obtain ⟨w2, hw2⟩ : ∃ w2, w2 = w1.alloc (.cells #[.slice none 0 0, .slice none 0 0, .slice none 0 0] 26) := ⟨_, rfl⟩
      obtain ⟨g, hg⟩ : ∃ g, g = w1.heap.size := ⟨_, rfl⟩
      have hs2 : w1.heap.size ≤ w2.heap.size := by rw [hw2]; simp
      have hgw : w0.heap.size ≤ g := by omega
      rw [← hw2] at HX HZ HZ0 HB2 hb2  ⊢
      rw [← hg] at HZ ⊢
      have p0 := HX.out.c0
      have p1 := HX.out.c1
      have p2 := HX.out.c2
      clear hb2 hw2 hg
      refine hK.out _ _ ?_ (fun hHeld => ?_)
      · exact ⟨p0, p1, p2⟩
      clear hK K
      refine wpAnyH_ready (rs := [2]) (by kernel_rfl) (by simp) ?_
      refine AllReadyH.cons rfl (fun K hK => ?_) AllReadyH.nil
      go_simp
      refine (onceLits_any v.A1 v.n1 v.c1 c.lits _ HX.out.cl.lits (by omega) HS1.out).mono ?_
      rintro e w3 ⟨v1, vs1, rfl, ho1, hr1, ha1, hb3⟩
      obtain ⟨D1, d1, hd1⟩ := ho1.valued
      obtain ⟨n1, hn1⟩ : ∃ n1, n1 = (once c.lits).length := ⟨_, rfl⟩
      rw [← hn1] at hd1
      subst hd1
      have hs3 := hb3.size
      have HB3 := Lib.hid (HB2.out.trans (hb3.mono HB2.out.size))
      replace HX := Lib.hid (HX.out.on hb3)
      replace HZ0 := Lib.hid (HZ0.out.on hb3)
      replace HZ := Lib.hid (HZ.out.on hb3)
      have H1 := Lib.hid (NL.mk (hi := w3.heap.size) ho1 hr1 ha1 (fun i hi g hg => (hr1.lt i hi g hg).2))
      clear ho1 hr1 ha1 hb3 p0 p1 p2 hn1
      have p0 := HX.out.c0
      have p1 := HX.out.c1
      have p2 := HX.out.c2
      go_wp2_with fail
      refine hK.out _ _ ?_ (fun hHeld => ?_)
      · exact ⟨p0, p1, p2⟩
      clear hK K
      refine wpAnyH_ready (rs := [5]) (by kernel_rfl) (by simp) ?_
      refine AllReadyH.cons rfl (fun K hK => ?_) AllReadyH.nil
      go_simp
      refine (onceRows_any v.A2 v.n2 v.c2 c.tups _ HX.out.cl.tups (by omega) HS2.out).mono ?_
      rintro e w4 ⟨v2, vs2, rfl, ho2, hr2, ha2, hb4⟩
      obtain ⟨D2, d2, hd2⟩ := ho2.valued
      obtain ⟨n2, hn2⟩ : ∃ n2, n2 = vs2.length := ⟨_, rfl⟩
      rw [← hn2] at hd2
      subst hd2
      have hs4 := hb4.size
      have HB4 := Lib.hid (HB3.out.trans (hb4.mono HB3.out.size))
      replace HX := Lib.hid (HX.out.on hb4)
      replace HZ0 := Lib.hid (HZ0.out.on hb4)
      replace HZ := Lib.hid (HZ.out.on hb4)
      replace H1 := Lib.hid (H1.out.on hb4)
      have H2 := Lib.hid (NT.mk (hi := w4.heap.size) ho2 hr2 ha2 (fun i hi g hg => (hr2.lt i hi g hg).2))
      clear ho2 hr2 ha2 hb4 p0 p1 p2 hn2
      have p0 := HX.out.c0
      have p1 := HX.out.c1
      have p2 := HX.out.c2
      go_wp2_with fail
      refine hK.out _ _ ?_ (fun hHeld => ?_)
      · exact ⟨p0, p1, p2⟩
      clear hK K
      refine wpAnyH_ready (rs := [8]) (by kernel_rfl) (by simp) ?_
      refine AllReadyH.cons rfl (fun K hK => ?_) AllReadyH.nil
      go_simp
      refine (onceLits_any v.A3 v.n3 v.c3 c.conds _ HX.out.cl.conds (by omega) HS3.out).mono ?_
      rintro e w6 ⟨v3, vs3, rfl, ho3, hr3, ha3, hb6⟩
      obtain ⟨D3, d3, hd3⟩ := ho3.valued
      obtain ⟨n3, hn3⟩ : ∃ n3, n3 = (once c.conds).length := ⟨_, rfl⟩
      rw [← hn3] at hd3
      subst hd3
      have hs6 := hb6.size
      have HB6 := Lib.hid (HB4.out.trans (hb6.mono HB4.out.size))
      replace HX := Lib.hid (HX.out.on hb6)
      replace HZ0 := Lib.hid (HZ0.out.on hb6)
      replace HZ := Lib.hid (HZ.out.on hb6)
      replace H1 := Lib.hid (H1.out.on hb6)
      replace H2 := Lib.hid (H2.out.on hb6)
      have H3 := Lib.hid (NL.mk (hi := w6.heap.size) ho3 hr3 ha3 (fun i hi g hg => (hr3.lt i hi g hg).2))
      clear ho3 hr3 ha3 hb6 p0 p1 p2 hn3
      have p0 := HX.out.c0
      have p1 := HX.out.c1
      have p2 := HX.out.c2
      go_wp2_with fail
      refine hK.out _ _ ?_ (fun hHeld => ?_)
      · exact ⟨p0, p1, p2⟩
      clear hK K
      refine takeH (i := 9) (v := ?_) rfl rfl (by kernel_rfl) (by kernel_rfl) (by kernel_rfl) (fun _ _ _ h => h) (by rfl) ?_ hHeld ?_
      rotate_left
      · (intro w hSw; (try dsimp only at hSw); first | (go_simp; done) | (go_simp; with_reducible rfl))
      simp only [Act.put, List.setIfInBounds_toArray, List.set_cons_zero, List.set_cons_succ]
      refine wpAnyH_ready (rs := [11]) (by kernel_rfl) (by simp) ?_
      refine AllReadyH.cons rfl (fun K hK => ?_) AllReadyH.nil
      refine store_box_step rfl 26 (.tmp 3) (.tmp 13) rfl rfl g _ _ rfl rfl HZ.out.z rfl (by kernel_rfl) three_one ?_
      intro w9 hg9 hc9 hs9
      have HBl : w.heap.size < g := by omega
      have q0 : w9.cell? ⟨w.heap.size, 0, none⟩ = some (.slice v.A1 v.n1 v.c1) := by rw [hc9.bel.cell (p := ⟨w.heap.size, 0, none⟩) HBl]; exact p0
      have q1 : w9.cell? ⟨w.heap.size, 1, none⟩ = some (.slice v.A2 v.n2 v.c2) := by rw [hc9.bel.cell (p := ⟨w.heap.size, 1, none⟩) HBl]; exact p1
      have q2 : w9.cell? ⟨w.heap.size, 2, none⟩ = some (.slice v.A3 v.n3 v.c3) := by rw [hc9.bel.cell (p := ⟨w.heap.size, 2, none⟩) HBl]; exact p2
      have HMID : Hid (NormMid w c (.pointer (some ⟨g, 0, none⟩)) w9) := NormMid.of (u := ⟨D1, n1, d1, D2, n2, d2, D3, n3, d3⟩) H1.out H2.out H3.out (by omega) (by omega) (by omega) (by omega) (by omega) (by omega) (by omega) HZ0.out HB6.out hg9 hc9
      clear hg9 hc9 hs9 p0 p1 p2 HBl
      refine hK.out _ _ ?_ (fun hHeld => ?_)
      · exact ⟨q0, q1, q2⟩
      clear hK K
      refine wpAnyH_done (by kernel_rfl) ?_ _
      go_wp2
      go_meet
      case rel => exact HMID.out
  case rest =>
    obtain ⟨g, u, vs1, vs2, vs3, rfl, hg, hgl, h1, h2, h3, hr, ha, hz, hb⟩ := hcut
    have k1 := h1.valued
    have k2 := h2.valued
    have k3 := h3.valued
    have hrs := hr.three (c := onceC c) h1.1 (by
      have := hr.1
      unfold rowsC onceC at this
      have e1 := h1.1
      have e3 := h3.1
      simp only [List.length_append, List.length_map] at this
      show vs2.length = (once c.tups).length
      omega)
    have HCV : Hid (CVals wc u vs1 vs2 vs3) := by
      obtain ⟨_, _, j1⟩ := k1
      obtain ⟨_, _, j2⟩ := k2
      obtain ⟨_, _, j3⟩ := k3
      injection j1 with _ j1 _
      injection j2 with _ j2 _
      injection j3 with _ j3 _
      have := once_length c.lits
      have := once_length c.tups
      have := once_length c.conds
      have := HM.out.nl
      have := HM.out.nt
      have := HM.out.nc
      have e2 := hrs.2.1.1
      have e2' : vs2.length = (once c.tups).length := e2
      exact ⟨h1.lvals hrs.1, h2.tvals hrs.2.1, h3.lvals hrs.2.2, h2.nilcap, by omega, by omega, by omega⟩
    have hcall : Calls Tryd.prog 78 #[.agg #[.slice u.A1 u.n1 u.c1, .slice u.A2 u.n2 u.c2, .slice u.A3 u.n3 u.c3]] wc (RenPost (vs1 ++ vs2 ++ vs3) (rowsC (onceC c)) w.heap.size wc) :=
      renumber_any u vs1 vs2 vs3 _ w.heap.size wc HCV.out hr ha hb.size (fun r q => HSM.out.r r (once_rows q)) (fun r q => row24 HM.out (once_rows q)) (Nat.le_trans onceC_sub.length_le HSM.out.rows)
    have HCALL := Lib.hid hcall
    have c0 : wc.cell? ⟨g, 0, none⟩ = some (.slice u.A1 u.n1 u.c1) := by rw [cell_of_row _ _ 0 _ _ _ hg]; rfl
    have c1 : wc.cell? ⟨g, 1, none⟩ = some (.slice u.A2 u.n2 u.c2) := by rw [cell_of_row _ _ 1 _ _ _ hg]; rfl
    have c2 : wc.cell? ⟨g, 2, none⟩ = some (.slice u.A3 u.n3 u.c3) := by rw [cell_of_row _ _ 2 _ _ _ hg]; rfl
    have HG := Lib.hid hg
    have H1 := Lib.hid h1
    have H2 := Lib.hid h2
    have H3 := Lib.hid h3
    have HZ := Lib.hid hz
    have HB := Lib.hid hb
    have HE1 := Lib.hid h1.1
    have HE2 := Lib.hid hrs.2.1.1
    clear hg h1 h2 h3 hz hb hr ha hcall k1 k2 k3 hrs HCV HX HZ0 HB0
    go_wp2_with fail
    refine HCALL.out.mono ?_
    rintro e w2 ⟨rfl, hr2, hc2⟩
    have hg2 := hc2.blk _ _ _ _ HG.out (by decide)
    have HZ2 : Hid (ZBox w2 (w.heap.size + 1)) := ⟨by have := HZ.out.lt; have := hc2.bel.size; have := (Array.getElem?_eq_some_iff.1 hg2).1; omega, hc2.blk _ _ _ _ HZ.out.z (by decide)⟩
    have d0 : w2.cell? ⟨g, 0, none⟩ = some (.slice u.A1 u.n1 u.c1) := by rw [cell_of_row _ _ 0 _ _ _ hg2]; rfl
    have d1 : w2.cell? ⟨g, 1, none⟩ = some (.slice u.A2 u.n2 u.c2) := by rw [cell_of_row _ _ 1 _ _ _ hg2]; rfl
    have d2 : w2.cell? ⟨g, 2, none⟩ = some (.slice u.A3 u.n3 u.c3) := by rw [cell_of_row _ _ 2 _ _ _ hg2]; rfl
    replace H1 := Lib.hid (H1.out.chg hc2 (by decide))
    replace H2 := Lib.hid (H2.out.chg hc2 (by decide))
    replace H3 := Lib.hid (H3.out.chg hc2 (by decide))
    have HR2 := Lib.hid hr2
    have HB2 := Lib.hid (HB.out.trans hc2.bel)
    clear hg2 hr2 hc2 c0 c1 c2 HCALL HG
    go_wp2_with (refine store_box rfl 26 (.tmp 2) (.tmp 16) rfl rfl (w.heap.size + 1) _ _ rfl rfl HZ2.out.z rfl (by kernel_rfl) three_one ?_
                 intro w4 hg4 hc4 hs4
                 have HG4 := Lib.hid hg4
                 have HC4 := Lib.hid hc4
                 clear hg4 hc4 hs4)
    refine bodyPost_ret (results_cell_row rfl _ _ (w.heap.size + 1) _ _ _ _ rfl HG4.out Tryd.underlying26 rfl (by kernel_rfl)) rfl ?_
    have hrr := HR2.out.chg HC4.out (by decide)
    have e : (rowsC (onceC c)).map (renR (plcL (rowsC (onceC c)))) = rowsC (norm c) := (rowsC_ren (f := plc c) (c := onceC c)).symm
    rw [e] at hrr
    have q := hrr.three (c := norm c) (by show _ = ((once c.lits).map (renL (plc c))).length; rw [List.length_map]; exact HE1.out) (by show _ = ((once c.tups).map (renR (plc c))).length; rw [List.length_map]; exact HE2.out)
    refine ⟨_, rfl, ⟨_, _, _, rfl, ?_, ?_, ?_⟩, HB2.out.trans (HC4.out.bel.mono (by omega))⟩
    · exact ((H1.out.chg HC4.out (by decide)).ren (f := plc c)).own q.1
    · exact OwnT.mk (H2.out.chg HC4.out (by decide)) q.2.1
    · exact ((H3.out.chg HC4.out (by decide)).ren (f := plc c)).own q.2.2

set_option maxHeartbeats 4000000 in
theorem normalC_any (A : Option Addr) (n cp : Nat) (ss : List Sym) (v : Cv) (c : Cl) (w : World) (h : SymsAt w w.heap.size A n ss) (hn : n ≤ maxLen) (hnc : n ≤ cp) (hc : ClAt w w.heap.size v c) :
    Calls Tryd.prog 26 #[.slice A n cp, v.val] w (ClPost (normO ss c) (clE ss c) w) := by
  have hb0 := below_new2 w v.obj (.cells #[.slice none 0 0, .slice none 0 0, .slice none 0 0] 26)
  have hx0 := (CBox.new hc).on (below_new _ (.cells #[.slice none 0 0, .slice none 0 0, .slice none 0 0] 26))
  have hz0 := ZBox.new (w.alloc v.obj)
  have e0 : (w.alloc v.obj).heap.size = w.heap.size + 1 := by simp
  rw [e0] at hz0
  have hs0 := h.on hb0
  have HNO : Hid (mayC ss c = true → normO ss c = norm c ∧ clE ss c = 0) := fun q => by unfold normO clE; rw [q]; exact ⟨rfl, rfl⟩
  have HNF : Hid (mayC ss c = false → normO ss c = ⟨[], [], []⟩ ∧ clE ss c = 800) := fun q => by unfold normO clE; rw [q]; exact ⟨rfl, rfl⟩
  have HMC : Hid (mayC ss c = true → MayC ss c) := fun q => mayC_iff.1 q
  rw [Cv.val_eq]
  have HVE := Lib.hid v.val_eq
  unfold Cv.obj at hb0 hx0 hz0 hs0
  have HX := Lib.hid hx0
  have HZ := Lib.hid hz0
  have HS := Lib.hid hs0
  have HB0 := Lib.hid hb0
  clear h hc hb0 hx0 hz0 hs0 e0
  go_enter Tryd.func26, Tryd.ntmps26
  go_wp2_with fail
  rw [← HVE.out]
  refine (mayC_any A n cp ss v c _ HS.out hn hnc HX.out.cl).mono ?_
  rintro e w1 ⟨rfl, hb1⟩
  have HB1 := Lib.hid (HB0.out.trans (hb1.mono HB0.out.size))
  replace HX := Lib.hid (HX.out.on hb1)
  replace HZ := Lib.hid (HZ.out.on hb1)
  clear hb1 HS HB0
  have p0 := HX.out.c0
  have p1 := HX.out.c1
  have p2 := HX.out.c2
  cases hm : mayC ss c
  · have HE := Lib.hid (HNF.out hm)
    clear hm
    go_wp2_with (refine store_box rfl 26 (.tmp 4) (.tmp 10) rfl rfl (w.heap.size + 1) _ _ rfl rfl HZ.out.z rfl (by kernel_rfl) three_one ?_
                 intro w4 hg4 hc4 hs4
                 have HG4 := Lib.hid hg4
                 have HC4 := Lib.hid hc4
                 clear hg4 hc4 hs4)
    refine clause_ret rfl (g := w.heap.size + 1) rfl rfl rfl HG4.out rfl ?_
    rw [HE.out.1, HE.out.2]
    exact ⟨_, rfl, OwnC.nil_, HB1.out.trans (HC4.out.bel.mono (by omega))⟩
  · have HE := Lib.hid (HNO.out hm)
    have HM := Lib.hid (HMC.out hm)
    clear hm
    go_wp2_with fail
    rw [← HVE.out]
    refine (normal_any v c ss _ HX.out.cl HM.out).mono ?_
    rintro e w2 ⟨x, rfl, hx, hb2⟩
    obtain ⟨D1, d1, D2, d2, D3, d3, rfl⟩ := hx.slices
    obtain ⟨n1, hn1⟩ : ∃ n1, n1 = (norm c).lits.length := ⟨_, rfl⟩
    obtain ⟨n2, hn2⟩ : ∃ n2, n2 = (norm c).tups.length := ⟨_, rfl⟩
    obtain ⟨n3, hn3⟩ : ∃ n3, n3 = (norm c).conds.length := ⟨_, rfl⟩
    rw [← hn1, ← hn2, ← hn3] at hx ⊢
    have HO := Lib.hid (hx.lower HB1.out.size)
    have HB2 := Lib.hid (HB1.out.trans (hb2.mono HB1.out.size))
    replace HZ := Lib.hid (HZ.out.on hb2)
    clear hx hb2 hn1 hn2 hn3 p0 p1 p2
    go_wp2_with (refine store_box rfl 26 (.tmp 4) (.tmp 12) rfl rfl (w.heap.size + 1) _ _ rfl rfl HZ.out.z rfl (by kernel_rfl) three_one ?_
                 intro w4 hg4 hc4 hs4
                 have HG4 := Lib.hid hg4
                 have HC4 := Lib.hid hc4
                 clear hg4 hc4 hs4)
    refine clause_ret rfl (g := w.heap.size + 1) rfl rfl rfl HG4.out rfl ?_
    rw [HE.out.1, HE.out.2]
    exact ⟨_, rfl, HO.out.chg HC4.out (by decide) (by decide) (by decide), HB2.out.trans (HC4.out.bel.mono (by omega))⟩
end Go.Proofs.YtcjpopjcpgipjaaDoor
