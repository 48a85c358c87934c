/-
  Rows of rows of items; contract of quaereref8: Fits.
-/
import Derived.Test.YtcjpopjcpgipjaaDoorRefFit
import Derived.Test.YtcjpopjcpgipjaaDoorClauseMays
namespace Go.Proofs.YtcjpopjcpgipjaaDoor
open Go.RowKit Go.Deep
set_option linter.unusedSimpArgs false
set_option linter.unusedVariables false
set_option maxRecDepth 100000

theorem litCells_one : ∀ (ls : List Lt) (vs : List Value), (∀ u ∈ vs, u.oneCell' = true) → vs.length = ls.length → ∀ u ∈ litCells ls vs, u.oneCell' = true
  | [], [], _, _, u, hu => by cases hu
  | b :: bs, x :: vs, h, hl, u, hu => by
    rw [litCells_cons] at hu
    rcases List.mem_cons.1 hu with rfl | hu
    · rfl
    · rcases List.mem_cons.1 hu with rfl | hu
      · exact h _ (List.mem_cons_self ..)
      · exact litCells_one bs vs (fun z hz => h z (List.mem_cons_of_mem _ hz)) (by simpa using hl) u hu
theorem litCells_append : ∀ (ls : List Lt) (vs : List Value) (ms : List Lt) (us : List Value), vs.length = ls.length → litCells (ls ++ ms) (vs ++ us) = litCells ls vs ++ litCells ms us
  | [], [], _, _, _ => rfl
  | b :: bs, x :: vs, ms, us, h => by
    rw [List.cons_append, List.cons_append, litCells_cons, litCells_cons, litCells_append bs vs ms us (by simpa using h)]; rfl
theorem ItRd.cells {w : World} {B : Nat} {ls : List Lt} {vs : List Value} (h : ItRd w B ls vs) (hl : vs.length = ls.length) : ∀ u ∈ vs, u.oneCell' = true := fun u hu => by
  obtain ⟨i, hi, e⟩ := List.mem_iff_getElem.1 hu
  obtain ⟨A, c, q, _⟩ := h i (by omega)
  have : valAt vs i = u := by unfold valAt; rw [List.getD_eq_getElem?_getD, List.getElem?_eq_getElem hi]; exact e
  rw [← this, q]; exact slice_one _ _ _
theorem ItRd.append {w : World} {B : Nat} {ls ms : List Lt} {vs us : List Value} (h : ItRd w B ls vs) (k : ItRd w B ms us) (hl : vs.length = ls.length) : ItRd w B (ls ++ ms) (vs ++ us) := fun i hi => by
  rw [List.length_append] at hi
  by_cases q : i < ls.length
  · obtain ⟨A', c', e, h1, h2⟩ := h i q
    have e1 : ltAt (ls ++ ms) i = ltAt ls i := by unfold ltAt; rw [List.getD_eq_getElem?_getD, List.getD_eq_getElem?_getD, List.getElem?_append_left q]
    rw [e1, valAt_lefts (by omega)]
    exact ⟨A', c', e, h1, h2⟩
  · obtain ⟨A', c', e, h1, h2⟩ := k (i - ls.length) (by omega)
    have e1 : ltAt (ls ++ ms) i = ltAt ms (i - ls.length) := by unfold ltAt; rw [List.getD_eq_getElem?_getD, List.getD_eq_getElem?_getD, List.getElem?_append_right (by omega)]
    rw [e1, valAt_rights (by omega), hl]
    exact ⟨A', c', e, h1, h2⟩
/-- 'append(x, y...)' of items, both made by calls. -/
theorem app_its {w : World} {ops : Array Oper} {rest : List Oper} {o : Oper} {a : Act} {Q : Exit → Act → World → Prop} (hgd : o.guard = none) (s x : Operand)
    (ho : o.op = .call { callee := .builtin .append, args := #[s, x], argTypes := #[100, 100] })
    (base base2 : Nat) (v vx : Value) (ls ms : List Lt) (vs us : List Value) (hs : a.eval s = v) (hown : OwnIt w base v ls vs) (hx : a.eval x = vx) (hxo : OwnIt w base2 vx ms us) (h1 : ∀ u ∈ us, u.oneCell' = true)
    (hlen : ls.length + ms.length ≤ 4398046511104) (hbase : base ≤ w.heap.size)
    (h : ∀ v' w', OwnIt w' base v' (ls ++ ms) (vs ++ us) → Chg [129] base w w' → wpList Tryd.prog ops Q rest (a.put o.dst v') w') : wpList Tryd.prog ops Q (o :: rest) a w := by
  refine wpList_plain hgd fun K hK => ?_
  obtain ⟨i0, hi0, hz0, hz1, hz2⟩ := info_parts item_info
  rcases hxo.shape with ⟨rfl, rfl⟩ | ⟨g, cap, rfl, hg, hlt, hn⟩
  · have hv0 : us = [] := List.eq_nil_of_length_eq_zero hxo.1
    subst hv0
    have hrun := run_append_owned_none (P := Tryd.prog) (w := w) base 100 o.type 129 i0 2 Tryd.underlying100 hi0 v ls.length (litCells ls vs) hown.2
    have hk := hK _ _ (h v w (by rw [List.append_nil, List.append_nil]; exact hown) Chg.refl)
    unfold Oper.wp
    simp [execOp, ho, resolve, invoke, builtin, hs, hx, hrun, Result.andThen]
    exact hk
  · obtain ⟨k1, k2⟩ := hxo
    refine wp_append_own _ s x 100 ho base 129 i0 _ 2 32 Tryd.underlying100 hi0 hz0 hz1 hz2 rfl (by omega) v ls.length (litCells ls vs) hs hown.2 ⟨g, 0, none⟩ ms.length cap (litCells ms us) hx (by rw [k2.1]) ?_ (litCells_one ms us h1 k1) (by unfold maxLen; omega) (by omega) hbase ?_
    · intro j u hu
      have hj : j < ms.length * 2 := by
        rcases Nat.lt_or_ge j (litCells ms us).length with q | q
        · rw [k2.1] at q; exact q
        · rw [List.getElem?_eq_none q] at hu; cases hu
      have := k2.cellAt j (by omega)
      have ea : ((⟨g, 0, none⟩ : Addr).add j) = ⟨g, 0 + j, none⟩ := by unfold Addr.add; by_cases e0 : j = 0 <;> simp [e0]
      rw [ea, Nat.zero_add, this]; exact hu
    · intro v' w' q1 q2 _
      refine hK _ _ (h v' w' ⟨by rw [List.length_append, List.length_append, hown.1, k1], ?_⟩ (Chg.grown q2 hown.2 hbase))
      rw [litCells_append _ _ _ _ hown.1, List.length_append]
      exact q1
/-- A row of rows of items that the call made; the rows lie anywhere. -/
def OwnY (w : World) (base : Nat) (v : Value) (vs : List Value) : Prop := w.ownsRow base 100 1 v vs.length vs
theorem items_info : (Tryd.prog.info? 100).map (fun i => (i.zero, i.size, i.bytes)) = some (some (.slice none 0 0), 1, 24) := by kernel_rfl
theorem OwnY.nil_ {w : World} {base : Nat} : OwnY w base (.slice none 0 0) [] := ⟨rfl, .inl ⟨rfl, rfl⟩⟩
theorem OwnY.on {w w' : World} {base : Nat} {v : Value} {vs : List Value} (h : OwnY w base v vs) (hb : Below w.heap.size w w') : OwnY w' base v vs := owns_on h hb
theorem app_y {w : World} {ops : Array Oper} {rest : List Oper} {o : Oper} {a : Act} {Q : Exit → Act → World → Prop} (hgd : o.guard = none) (s x : Operand)
    (ho : o.op = .call { callee := .builtin .append, args := #[s, x], argTypes := #[103, 103] })
    (base : Nat) (v : Value) (vs : List Value) (u : Value) (hs : a.eval s = v) (hown : OwnY w base v vs) (hu : u.oneCell' = true) {N : Nat} (hx : a.eval x = .slice (some ⟨N, 0, none⟩) 1 1) (hN : w.heap.size = N)
    (hlen : vs.length + 1 ≤ 4398046511104) (hbase : base ≤ w.heap.size)
    (h : ∀ v' w', OwnY w' base v' (vs ++ [u]) → Chg [100] base w w' → wpList Tryd.prog ops Q rest (a.put o.dst v') w') : wpList Tryd.prog ops Q (o :: rest) a (w.alloc (.cells #[u] 100)) := by
  refine wpList_plain hgd fun K hK => ?_
  subst hN
  obtain ⟨i0, hi0, hz0, hz1, hz2⟩ := info_parts items_info
  have k2' := World.ownsRow.alloc hown (.cells #[u] 100)
  refine wp_append_own _ s x 103 ho base 100 i0 _ 1 24 Tryd.underlying103 hi0 hz0 hz1 hz2 rfl (by omega) v vs.length vs hs k2' ⟨w.heap.size, 0, none⟩ 1 1 [u] hx rfl
    (World.news_of_block (cs := #[u]) (t := 100) (fr := (0, 0)) (heap_alloc_new w _)) (by simp [hu]) (by unfold maxLen; omega) (by omega) (by simp; omega) ?_
  intro v' w' h1 h2 _
  refine hK _ _ (h v' w' ?_ ((Chg.of_below (below_new w _) hbase).trans (Chg.grown h2 k2' (by simp; omega))))
  unfold OwnY
  rw [List.length_append]
  exact h1
/-- The rows of items, read. -/
def YRd (w : World) (L : List (List Lt)) (vs : List Value) : Prop := vs.length = L.length ∧ ∀ i, i < L.length → ∃ A c, valAt vs i = .slice A (itAt L i).length c ∧ LitsAt w w.heap.size A (itAt L i).length (itAt L i)
theorem YRd.on {w w' : World} {L : List (List Lt)} {vs : List Value} (h : YRd w L vs) (hb : Below w.heap.size w w') : YRd w' L vs := ⟨h.1, fun i hi => by
  obtain ⟨A, c, e, h1⟩ := h.2 i hi
  exact ⟨A, c, e, h1.on hb⟩⟩
theorem YRd.nil_ {w : World} : YRd w [] [] := ⟨rfl, fun i hi => absurd hi (by simp)⟩
theorem YRd.snoc {w : World} {L : List (List Lt)} {vs : List Value} (h : YRd w L vs) {y : List Lt} {A : Option Addr} {c : Nat} (k : LitsAt w w.heap.size A y.length y) : YRd w (L ++ [y]) (vs ++ [.slice A y.length c]) := by
  refine ⟨by simp [h.1], fun i hi => ?_⟩
  rw [List.length_append] at hi
  by_cases q : i < L.length
  · obtain ⟨A', c', e, h1⟩ := h.2 i q
    have e1 : itAt (L ++ [y]) i = itAt L i := by unfold itAt; rw [List.getD_eq_getElem?_getD, List.getD_eq_getElem?_getD, List.getElem?_append_left q]
    rw [e1, valAt_lefts (by have := h.1; omega)]
    exact ⟨A', c', e, h1⟩
  · have hi2 : i = L.length := by simp at hi; omega
    subst hi2
    have e1 : itAt (L ++ [y]) L.length = y := by unfold itAt; rw [List.getD_eq_getElem?_getD, List.getElem?_append_right (Nat.le_refl _), Nat.sub_self]; rfl
    rw [e1, valAt_rights (by have := h.1; omega), h.1, Nat.sub_self]
    exact ⟨A, c, rfl, k⟩
theorem OwnY.ysAt {w : World} {base : Nat} {v : Value} {vs : List Value} {L : List (List Lt)} (h : OwnY w base v vs) (hr : YRd w L vs) : ∃ A cap, v = .slice A L.length cap ∧ YsAt w w.heap.size A L.length L := by
  have hl := hr.1
  rcases h.2 with ⟨h1, h2⟩ | ⟨g, cap, cur, hv, hg, hc, hn, hcur⟩
  · have : L = [] := List.eq_nil_of_length_eq_zero (by rw [← hl]; exact h2)
    subst this
    exact ⟨none, 0, h1, rfl, fun q => absurd q (by simp)⟩
  · subst hv
    have hcl : ∀ i, i < vs.length → w.cell? ⟨g, i, none⟩ = vs[i]? := fun i hi => by
      have h' : w.ownsRow base 100 1 (.slice (some ⟨g, 0, none⟩) vs.length cap) vs.length vs := h
      exact h'.cellAt i (by omega)
    refine ⟨some ⟨g, 0, none⟩, cap, by rw [hl], rfl, fun _ => ⟨g, 0, rfl, (Array.getElem?_eq_some_iff.1 hc).1, fun i hi => ?_⟩⟩
    obtain ⟨A, c, e, h1⟩ := hr.2 i hi
    refine ⟨A, c, ?_, h1⟩
    rw [Nat.zero_add, hcl i (by omega)]
    unfold valAt at e
    rw [List.getD_eq_getElem?_getD, List.getElem?_eq_getElem (by omega)] at e
    rw [List.getElem?_eq_getElem (by omega)]
    exact congrArg some e
/-- What Fits tells. -/
def FitsPost (ss : List Sym) (c d : Cl) (w : World) (e : Ending) (w' : World) : Prop :=
  (subO ss c d = none ∧ e = .returned (.tuple #[.slice none 0 0, .bool false]) ∧ Below w.heap.size w w') ∨
  ∃ ps v, subO ss c d = some ps ∧ e = .returned (.tuple #[v, .bool true]) ∧ OwnI w' w.heap.size v (natsJ ps) ∧ Below w.heap.size w w'
theorem ItRd.keep {w w' : World} {B : Nat} {ls : List Lt} {vs : List Value} (h : ItRd w B ls vs) (hk : ∀ p : Addr, p.block < B → w'.cell? p = w.cell? p) : ItRd w' B ls vs := fun i hi => by
  obtain ⟨A, c, e, h1, h2⟩ := h i hi
  exact ⟨A, c, e, h1, h2.keep hk⟩
theorem OwnIt.chg {w w' : World} {base base' : Nat} {v : Value} {ls : List Lt} {vs : List Value} {es : List TypeId} (h : OwnIt w base v ls vs) (hc : Chg es base' w w') (he : 129 ∉ es) : OwnIt w' base v ls vs := ⟨h.1, hc.rows he h.2⟩
theorem keep_two {w0 w1 w2 : World} {B : Nat} (h1 : Below B w0 w1) (h2 : Below B w0 w2) : ∀ p : Addr, p.block < B → w2.cell? p = w1.cell? p := fun p hp => by rw [h2.cell hp, h1.cell hp]
/-- Rows of items that calls made, in a row. -/
def YOwn (w : World) (B base : Nat) (L : List (List Lt)) (us : List Value) : Prop := us.length = L.length ∧ ∀ i, i < L.length → ∃ vi, OwnIt w base (valAt us i) (itAt L i) vi ∧ ItRd w B (itAt L i) vi
theorem YOwn.nil_ {w : World} {B base : Nat} : YOwn w B base [] [] := ⟨rfl, fun i hi => absurd hi (by simp)⟩
theorem YOwn.on {w w' : World} {B base : Nat} {L : List (List Lt)} {us : List Value} (h : YOwn w B base L us) (hb : Below w.heap.size w w') (hB : B ≤ w.heap.size) : YOwn w' B base L us := ⟨h.1, fun i hi => by
  obtain ⟨vi, h1, h2⟩ := h.2 i hi
  exact ⟨vi, h1.on hb, h2.below (hb.mono hB)⟩⟩
theorem YOwn.chg {w w' : World} {B base base' : Nat} {L : List (List Lt)} {us : List Value} {es : List TypeId} (h : YOwn w B base L us) (hc : Chg es base' w w') (he : 129 ∉ es) (hB : B ≤ base') : YOwn w' B base L us := ⟨h.1, fun i hi => by
  obtain ⟨vi, h1, h2⟩ := h.2 i hi
  exact ⟨vi, h1.chg hc he, h2.below (hc.bel.mono hB)⟩⟩
theorem YOwn.snoc {w : World} {B base : Nat} {L : List (List Lt)} {us : List Value} (h : YOwn w B base L us) {y : List Lt} {u : Value} {vi : List Value} (h1 : OwnIt w base u y vi) (h2 : ItRd w B y vi) : YOwn w B base (L ++ [y]) (us ++ [u]) := by
  refine ⟨by simp [h.1], fun i hi => ?_⟩
  rw [List.length_append] at hi
  by_cases q : i < L.length
  · obtain ⟨vj, k1, k2⟩ := h.2 i q
    have e1 : itAt (L ++ [y]) i = itAt L i := by unfold itAt; rw [List.getD_eq_getElem?_getD, List.getD_eq_getElem?_getD, List.getElem?_append_left q]
    rw [e1, valAt_lefts (by have := h.1; omega)]
    exact ⟨vj, k1, k2⟩
  · have hi2 : i = L.length := by simp at hi; omega
    subst hi2
    have e1 : itAt (L ++ [y]) L.length = y := by unfold itAt; rw [List.getD_eq_getElem?_getD, List.getElem?_append_right (Nat.le_refl _), Nat.sub_self]; rfl
    rw [e1, valAt_rights (by have := h.1; omega), h.1, Nat.sub_self]
    exact ⟨vi, h1, h2⟩
theorem YOwn.read {w : World} {B base : Nat} {L : List (List Lt)} {us : List Value} (h : YOwn w B base L us) (hB : B ≤ w.heap.size) (hf : ∀ i, i < L.length → ∀ j, j < (itAt L i).length → (ltAt (itAt L i) j).atom.length * 8 ≤ 140737488351232) : YRd w L us := ⟨h.1, fun i hi => by
  obtain ⟨vi, h1, h2⟩ := h.2 i hi
  obtain ⟨A, cap, e, _, h3⟩ := h1.litsAt (h2.more hB) (hf i hi)
  exact ⟨A, cap, e, h3⟩⟩
set_option maxHeartbeats 16000000 in
theorem refFits_any (A : Option Addr) (n cp : Nat) (ss : List Sym) (v u : Cv) (c d : Cl) (w : World) (h : SymsAt w w.heap.size A n ss) (hn : n ≤ maxLen) (hc : ClAt w w.heap.size v c) (hd : ClAt w w.heap.size u d) (hm : MayC ss c) (hm2 : MayC ss d) :
    Calls Tryd.prog 32 #[.slice A n cp, v.val, u.val] w (FitsPost ss c d w) := by
  have HMC := Lib.hid hm
  have HMD := Lib.hid hm2
  have L1 := hc.lits.len
  have L2 := hc.tups.len
  have L3 := hc.conds.len
  have M1 := hd.lits.len
  have M2 := hd.tups.len
  have M3 := hd.conds.len
  have g1 : v.n1 ≤ 5 := by rw [← L1]; exact hm.nl
  have g2 : v.n2 ≤ 3 := by rw [← L2]; exact hm.nt
  have g3 : v.n3 ≤ 3 := by rw [← L3]; exact hm.nc
  have k1 : u.n1 ≤ 5 := by rw [← M1]; exact hm2.nl
  have k2 : u.n2 ≤ 3 := by rw [← M2]; exact hm2.nt
  have k3 : u.n3 ≤ 3 := by rw [← M3]; exact hm2.nc
  have HL1 := Lib.hid L1
  have HL2 := Lib.hid L2
  have HL3 := Lib.hid L3
  have HM1 := Lib.hid M1
  have HM2 := Lib.hid M2
  have HM3 := Lib.hid M3
  obtain ⟨hx, hy, hb0⟩ := CBox.two hc hd
  have hs0 := h.on hb0
  rw [Cv.val_eq, Cv.val_eq]
  unfold Cv.obj at hx hy hb0 hs0
  have HC := Lib.hid hx
  have HD := Lib.hid hy
  have HS := Lib.hid hs0
  have HB0 := Lib.hid hb0
  clear h hc hd hx hy hb0 hs0 hm hm2 L1 L2 L3 M1 M2 M3
  obtain ⟨w0, hw0⟩ : ∃ w0, w0 = ((w.alloc (.cells #[.slice v.A1 v.n1 v.c1, .slice v.A2 v.n2 v.c2, .slice v.A3 v.n3 v.c3] 26)).alloc (.cells #[.slice u.A1 u.n1 u.c1, .slice u.A2 u.n2 u.c2, .slice u.A3 u.n3 u.c3] 26)) := ⟨_, rfl⟩
  rw [← hw0] at HC HD HS HB0
  have HF1 : Hid (ClAt w0 w0.heap.size v c) := HC.out.cl
  have HF2 : Hid (ClAt w0 w0.heap.size u d) := HD.out.cl
  go_enter Tryd.func32, Tryd.ntmps32
  go_upto_region 1 with (fail)
  rw [← hw0]
  clear hw0
  have HBz := Lib.hid (Below.refl w0.heap.size w0)
  have p0 := (HC.out.on HBz.out).c0
  have p1 := (HC.out.on HBz.out).c1
  have p2 := (HC.out.on HBz.out).c2
  have q0 := (HD.out.on HBz.out).c0
  have q1 := (HD.out.on HBz.out).c1
  have q2 := (HD.out.on HBz.out).c2
  go_wp2_with fail
  refine (refItems_any v.A1 v.n1 v.c1 w0.heap.size c.lits _ HF1.out.lits (Nat.le_refl _) (by omega)).mono ?_
  rintro e w1 ⟨x1, vs1, rfl, ho1, hr1, hb1⟩
  have HO1 := Lib.hid ho1
  have HR1 := Lib.hid hr1
  have HB1 := Lib.hid hb1
  clear ho1 hr1 hb1
  clear p0 p1 p2 q0 q1 q2
  have p0 := (HC.out.on HB1.out).c0
  have p1 := (HC.out.on HB1.out).c1
  have p2 := (HC.out.on HB1.out).c2
  have q0 := (HD.out.on HB1.out).c0
  have q1 := (HD.out.on HB1.out).c1
  have q2 := (HD.out.on HB1.out).c2
  go_wp2_with fail
  refine (refTuples_any v.A2 v.n2 v.c2 w0.heap.size c.tups _ (HF1.out.tups.below HB1.out) HB1.out.size (by omega)).mono ?_
  rintro e w2 ⟨x2, vs2, rfl, ho2, hr2, hb2⟩
  have HO2 := Lib.hid ho2
  have HR2 := Lib.hid hr2
  have HB2 := Lib.hid (HB1.out.trans (hb2.mono HB1.out.size))
  have HO1' := Lib.hid (HO1.out.on hb2)
  clear ho2 hr2 hb2 HO1
  clear p0 p1 p2 q0 q1 q2
  have HLA1 : Hid (c.lits.length + (c.tups.map mkT).length ≤ 4398046511104) := by show _ ≤ _; rw [List.length_map, HL1.out, HL2.out]; omega
  go_wp2_with (refine app_its rfl (.tmp 14) (.tmp 17) rfl w0.heap.size w1.heap.size _ _ c.lits (c.tups.map mkT) vs1 vs2 rfl HO1'.out rfl HO2.out (HR2.out.cells HO2.out.1) HLA1.out HB2.out.size ?_
               intro x3 w3 hown3 hc3
               have HO3 := Lib.hid hown3
               have HB3 := Lib.hid (HB2.out.trans hc3.bel)
               clear hown3 hc3
               have p2 := (HC.out.on HB3.out).c2)
  refine (refItems_any v.A3 v.n3 v.c3 w0.heap.size c.conds _ (HF1.out.conds.below HB3.out) HB3.out.size (by omega)).mono ?_
  rintro e w4 ⟨x4, vs4, rfl, ho4, hr4, hb4⟩
  have HO4 := Lib.hid ho4
  have HR4 := Lib.hid hr4
  have HB4 := Lib.hid (HB3.out.trans (hb4.mono HB3.out.size))
  have HO3' := Lib.hid (HO3.out.on hb4)
  clear ho4 hr4 hb4 HO3 p2
  have HLA2 : Hid ((c.lits ++ c.tups.map mkT).length + c.conds.length ≤ 4398046511104) := by show _ ≤ _; rw [List.length_append, List.length_map, HL1.out, HL2.out, HL3.out]; omega
  go_wp2_with (refine app_its rfl (.tmp 19) (.tmp 22) rfl w0.heap.size w3.heap.size _ _ (c.lits ++ c.tups.map mkT) c.conds (vs1 ++ vs2) vs4 rfl HO3'.out rfl HO4.out (HR4.out.cells HO4.out.1) HLA2.out HB4.out.size ?_
               intro x5 w5 hown5 hc5
               have HO5 := Lib.hid hown5
               have HB5 := Lib.hid (HB4.out.trans hc5.bel)
               clear hown5 hc5)
  obtain ⟨N, hN⟩ : ∃ N, N = v.n1 + v.n2 + v.n3 := ⟨_, rfl⟩
  have hNl : (c.lits ++ c.tups.map mkT ++ c.conds).length = N := by rw [List.length_append, List.length_append, List.length_map, HL1.out, HL2.out, HL3.out, hN]
  have hIE : c.lits ++ c.tups.map mkT ++ c.conds = itemsC c := by unfold itemsC; rw [List.append_assoc]
  have HITR : Hid (ItRd w5 w0.heap.size (itemsC c) (vs1 ++ vs2 ++ vs4)) := by
    show ItRd _ _ _ _
    rw [← hIE]
    refine ItRd.append (ItRd.append (HR1.out.below HB5.out) (HR2.out.keep (keep_two HB1.out HB5.out)) HO1'.out.1) (HR4.out.keep (keep_two HB3.out HB5.out)) ?_
    exact HO3'.out.1
  have hlf : ∀ i, i < (itemsC c).length → (ltAt (itemsC c) i).atom.length * 8 ≤ 140737488351232 := fun i hi => by
    have hmem := ltAt_mem hi
    obtain ⟨p, hp⟩ : ∃ p, p = ltAt (itemsC c) i := ⟨_, rfl⟩
    rw [← hp] at hmem ⊢
    have : p.atom.length ≤ 49 := by
      unfold itemsC at hmem
      rcases List.mem_append.1 hmem with q | q
      · exact (lit_pos (HMC.out.lits _ q)).2
      · rcases List.mem_append.1 q with q | q
        · obtain ⟨t, ht, e⟩ := List.mem_map.1 q
          have := (row_parts (HMC.out.tups t ht).1).2.1
          rw [← e]
          show t.length ≤ 49
          omega
        · exact (lit_pos (HMC.out.conds _ q)).2
    omega
  have ho5 := HO5.out
  rw [hIE] at ho5 hNl
  obtain ⟨AX, capX, hxe, _, hxl⟩ := ho5.litsAt (HITR.out.more HB5.out.size) hlf
  rw [hNl] at hxe hxl
  subst hxe
  have HXL := Lib.hid hxl
  have HNL := Lib.hid hNl
  clear hIE hlf ho5 hxl hNl
  have hNb : N ≤ 11 := by omega
  have HN := Lib.hid hN
  clear hN
  have hn1 : (v.n1 : Int) ≤ 5 := by omega
  have hn2 : (v.n2 : Int) ≤ 3 := by omega
  have p0 := (HC.out.on HB5.out).c0
  have p1 := (HC.out.on HB5.out).c1
  have p2 := (HC.out.on HB5.out).c2
  have q0 := (HD.out.on HB5.out).c0
  have q1 := (HD.out.on HB5.out).c1
  have q2 := (HD.out.on HB5.out).c2
  go_wp2_with fail
  clear p0 p1 p2 q0 q1 q2
  go_loopw [9, 10] (fun q iq wr => ∃ (i : Nat) (us : List Value), iq = .int .i64 i ∧ i ≤ N ∧ OwnY wr w5.heap.size q us ∧ YOwn wr w0.heap.size w5.heap.size ((targC c d).take i) us ∧ Below w5.heap.size w5 wr) (fun _ i _ => N - (intOf i).toNat)
  case atStart => exact ⟨0, [], rfl, by omega, OwnY.nil_, YOwn.nil_, Below.refl _ _⟩
  case round =>
    obtain ⟨i, us, rfl, hi, hy, hu, hbw⟩ := hrel
    have HY := Lib.hid hy
    have HU := Lib.hid hu
    have HBW := Lib.hid hbw
    have HBr := Lib.hid (HB5.out.trans (hbw.mono HB5.out.size))
    have hB0r := HBr.out.size
    clear hy hu hbw
    by_cases hlt : i < N
    · have p0 := (HC.out.on HBr.out).c0
      have p1 := (HC.out.on HBr.out).c1
      have p2 := (HC.out.on HBr.out).c2
      have q0 := (HD.out.on HBr.out).c0
      have q1 := (HD.out.on HBr.out).c1
      have q2 := (HD.out.on HBr.out).c2
      have hi3 : (i : Int) < (N : Int) := by omega
      by_cases c1 : i < v.n1
      · have c1' : (i : Int) < (v.n1 : Int) := by omega
        go_wp2_with fail
        have HTK : Hid ((targC c d).take (i + 1) = (targC c d).take i ++ [d.lits]) := by show _ = _; rw [List.take_add_one, itAt_get (by rw [targ_len, HL1.out, HL2.out, HL3.out]; have := HN.out; omega), targ_lits (by rw [HL1.out]; exact c1)]; rfl
        refine (refItems_any u.A1 u.n1 u.c1 w0.heap.size d.lits _ (HF2.out.lits.below HBr.out) hB0r (by omega)).mono ?_
        rintro e w6 ⟨x6, vs6, rfl, ho6, hr6, hb6⟩
        have HB6 := Lib.hid (HBW.out.trans (hb6.mono HBW.out.size))
        have HO6 := Lib.hid (ho6.lower (base' := w5.heap.size) HBW.out.size)
        have HR6 := Lib.hid (hr6.below (hb6.mono hB0r))
        have HY6 := Lib.hid (HY.out.on hb6)
        have HU6 := Lib.hid (HU.out.on hb6 hB0r)
        obtain ⟨P6, m6, c6, e6⟩ : ∃ P6 m6 c6, x6 = Value.slice P6 m6 c6 := by
          rcases ho6.shape with ⟨q, _⟩ | ⟨g, cap, q, _⟩
          · exact ⟨_, _, _, q⟩
          · exact ⟨_, _, _, q⟩
        have hul : us.length + 1 ≤ 4398046511104 := by rw [HU.out.1, List.length_take, targ_len, HL1.out, HL2.out, HL3.out]; omega
        clear ho6 hr6 hb6 p0 p1 p2 q0 q1 q2
        subst e6
        go_wp2_with (at_builtin
                     refine app_y rfl (.tmp 42) (.tmp 46) rfl w5.heap.size _ us (.slice P6 m6 c6) rfl HY6.out (slice_one _ _ _) rfl rfl hul HB6.out.size ?_
                     intro x7 w7 hown7 hc7
                     have HY7 := Lib.hid hown7
                     have HC7 := Lib.hid hc7
                     clear hown7 hc7)
        go_roundw
        case rel => exact ⟨i + 1, us ++ [Value.slice P6 m6 c6], by go_num, by omega, HY7.out, by rw [HTK.out]; exact (HU6.out.snoc HO6.out HR6.out).chg HC7.out (by decide) (Nat.le_trans HB5.out.size (Nat.le_refl _)), HB6.out.trans HC7.out.bel⟩
        case measure => simp [intOf]; omega
      · have c1' : ¬ (i : Int) < (v.n1 : Int) := by omega
        by_cases c2 : i < v.n1 + v.n2
        · have c2' : (i : Int) < (v.n1 : Int) + (v.n2 : Int) := by omega
          go_wp2_with fail
          have HTK : Hid ((targC c d).take (i + 1) = (targC c d).take i ++ [(d.tups.map mkT)]) := by show _ = _; rw [List.take_add_one, itAt_get (by rw [targ_len, HL1.out, HL2.out, HL3.out]; have := HN.out; omega), targ_tups (by rw [HL1.out]; exact c1) (by rw [HL1.out, HL2.out]; exact c2)]; rfl
          refine (refTuples_any u.A2 u.n2 u.c2 w0.heap.size d.tups _ (HF2.out.tups.below HBr.out) hB0r (by omega)).mono ?_
          rintro e w6 ⟨x6, vs6, rfl, ho6, hr6, hb6⟩
          have HB6 := Lib.hid (HBW.out.trans (hb6.mono HBW.out.size))
          have HO6 := Lib.hid (ho6.lower (base' := w5.heap.size) HBW.out.size)
          have HR6 := Lib.hid (hr6.below (hb6.mono hB0r))
          have HY6 := Lib.hid (HY.out.on hb6)
          have HU6 := Lib.hid (HU.out.on hb6 hB0r)
          obtain ⟨P6, m6, c6, e6⟩ : ∃ P6 m6 c6, x6 = Value.slice P6 m6 c6 := by
            rcases ho6.shape with ⟨q, _⟩ | ⟨g, cap, q, _⟩
            · exact ⟨_, _, _, q⟩
            · exact ⟨_, _, _, q⟩
          have hul : us.length + 1 ≤ 4398046511104 := by rw [HU.out.1, List.length_take, targ_len, HL1.out, HL2.out, HL3.out]; omega
          clear ho6 hr6 hb6 p0 p1 p2 q0 q1 q2
          subst e6
          go_wp2_with (at_builtin
                       refine app_y rfl (.tmp 58) (.tmp 62) rfl w5.heap.size _ us (.slice P6 m6 c6) rfl HY6.out (slice_one _ _ _) rfl rfl hul HB6.out.size ?_
                       intro x7 w7 hown7 hc7
                       have HY7 := Lib.hid hown7
                       have HC7 := Lib.hid hc7
                       clear hown7 hc7)
          go_roundw
          case rel => exact ⟨i + 1, us ++ [Value.slice P6 m6 c6], by go_num, by omega, HY7.out, by rw [HTK.out]; exact (HU6.out.snoc HO6.out HR6.out).chg HC7.out (by decide) (Nat.le_trans HB5.out.size (Nat.le_refl _)), HB6.out.trans HC7.out.bel⟩
          case measure => simp [intOf]; omega
        · have c2' : ¬ (i : Int) < (v.n1 : Int) + (v.n2 : Int) := by omega
          go_wp2_with fail
          have HTK : Hid ((targC c d).take (i + 1) = (targC c d).take i ++ [d.conds]) := by show _ = _; rw [List.take_add_one, itAt_get (by rw [targ_len, HL1.out, HL2.out, HL3.out]; have := HN.out; omega), targ_conds (by rw [HL1.out, HL2.out]; exact c2) (by rw [HL1.out, HL2.out, HL3.out]; have := HN.out; omega)]; rfl
          refine (refItems_any u.A3 u.n3 u.c3 w0.heap.size d.conds _ (HF2.out.conds.below HBr.out) hB0r (by omega)).mono ?_
          rintro e w6 ⟨x6, vs6, rfl, ho6, hr6, hb6⟩
          have HB6 := Lib.hid (HBW.out.trans (hb6.mono HBW.out.size))
          have HO6 := Lib.hid (ho6.lower (base' := w5.heap.size) HBW.out.size)
          have HR6 := Lib.hid (hr6.below (hb6.mono hB0r))
          have HY6 := Lib.hid (HY.out.on hb6)
          have HU6 := Lib.hid (HU.out.on hb6 hB0r)
          obtain ⟨P6, m6, c6, e6⟩ : ∃ P6 m6 c6, x6 = Value.slice P6 m6 c6 := by
            rcases ho6.shape with ⟨q, _⟩ | ⟨g, cap, q, _⟩
            · exact ⟨_, _, _, q⟩
            · exact ⟨_, _, _, q⟩
          have hul : us.length + 1 ≤ 4398046511104 := by rw [HU.out.1, List.length_take, targ_len, HL1.out, HL2.out, HL3.out]; omega
          clear ho6 hr6 hb6 p0 p1 p2 q0 q1 q2
          subst e6
          go_wp2_with (at_builtin
                       refine app_y rfl (.tmp 30) (.tmp 34) rfl w5.heap.size _ us (.slice P6 m6 c6) rfl HY6.out (slice_one _ _ _) rfl rfl hul HB6.out.size ?_
                       intro x7 w7 hown7 hc7
                       have HY7 := Lib.hid hown7
                       have HC7 := Lib.hid hc7
                       clear hown7 hc7)
          go_roundw
          case rel => exact ⟨i + 1, us ++ [Value.slice P6 m6 c6], by go_num, by omega, HY7.out, by rw [HTK.out]; exact (HU6.out.snoc HO6.out HR6.out).chg HC7.out (by decide) (Nat.le_trans HB5.out.size (Nat.le_refl _)), HB6.out.trans HC7.out.bel⟩
          case measure => simp [intOf]; omega
    · have hi3 : ¬ (i : Int) < (N : Int) := by omega
      have hiN : i = N := by omega
      have hTL : (targC c d).length = N := by rw [targ_len, HL1.out, HL2.out, HL3.out]; exact HN.out.symm
      have hT : (targC c d).take i = targC c d := List.take_of_length_le (by rw [hTL]; omega)
      have hu' := HU.out
      rw [hT] at hu'
      have hat : ∀ i, i < (targC c d).length → (itAt (targC c d) i).length ≤ 5 ∧ ∀ j, j < (itAt (targC c d) i).length → (ltAt (itAt (targC c d) i) j).atom.length ≤ 49 := by
        intro i hi
        rw [targ_len] at hi
        by_cases d1 : i < c.lits.length
        · rw [targ_lits d1]
          exact ⟨by rw [HM1.out]; exact k1, fun j hj => (lit_pos (HMD.out.lits _ (ltAt_mem hj))).2⟩
        · by_cases d2 : i < c.lits.length + c.tups.length
          · rw [targ_tups d1 d2]
            refine ⟨by rw [List.length_map, HM2.out]; omega, fun j hj => ?_⟩
            have hmem := ltAt_mem hj
            obtain ⟨t, ht, e⟩ := List.mem_map.1 hmem
            have := (row_parts (HMD.out.tups t ht).1).2.1
            rw [← e]
            show t.length ≤ 49
            omega
          · rw [targ_conds d2 hi]
            exact ⟨by rw [HM3.out]; omega, fun j hj => (lit_pos (HMD.out.conds _ (ltAt_mem hj))).2⟩
      obtain ⟨AY, capY, he, hys⟩ := HY.out.ysAt (hu'.read hB0r (fun i hi j hj => by have := (hat i hi).2 j hj; omega))
      rw [hTL] at he hys
      subst he
      have hfit := refFit_any A AX AY n cp N capX N capY 0 ss (itemsC c) (targC c d) hn (by omega) HNL.out hTL (fun i hi => Nat.le_trans (hat i (by rw [hTL]; exact hi)).1 (by omega)) (fun i hi j hj => (pat_all HMC.out HMD.out).at_ i (by rw [HNL.out]; exact hi) (by rw [hTL]; exact hi) j hj) N 0 (.slice none 0 0) [] [] 0 wr (by omega) (HS.out.on HBr.out) (HXL.out.on HBW.out) hys OwnBv.nil_ BdRd.nil_ (fun x hx => absurd hx (by simp)) (by simp)
      have eT : tOf [] = noT := rfl
      rw [eT, List.drop_zero, List.drop_zero] at hfit
      have HBA := Lib.hid (HB0.out.trans (HBr.out.mono HB0.out.size))
      have HFI := Lib.hid hfit
      clear hfit hys hat hu' hT hTL hiN
      go_wp2_with fail
      refine HFI.out.mono ?_
      rintro e w6 (⟨q1, rfl, q2⟩ | ⟨ps, v', q1, rfl, q3, q2⟩)
      · have HQ1 : Hid (subO ss c d = none) := q1
        have HQ2 := Lib.hid (HBA.out.trans (q2.mono HBA.out.size))
        clear q1 q2
        go_wp2_with fail
        go_ret2
        exact .inl ⟨HQ1.out, rfl, HQ2.out⟩
      · have HQ1 : Hid (subO ss c d = some ps) := q1
        have HQ2 := Lib.hid (HBA.out.trans (q2.mono HBA.out.size))
        have HQ3 := Lib.hid (q3.lower (base' := w.heap.size) HBA.out.size)
        clear q1 q2 q3
        go_wp2_with fail
        go_ret2
        exact .inr ⟨ps, _, HQ1.out, rfl, HQ3.out, HQ2.out⟩
end Go.Proofs.YtcjpopjcpgipjaaDoor
