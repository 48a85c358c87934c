/-
  Contracts of quaerelaw0: CopyRows, SameRows, SpoilRows, and SpoilLits with the values of the atoms.
  Contracts of quaerelaw0: CopyClause, SameClause, SpoilClause.
-/
import Derived.Test.YtcjpopjcpgipjaaDoorMemClause
import Derived.Test.YtcjpopjcpgipjaaDoorMemBox
import Derived.Laws.Rows
namespace Go.Proofs.YtcjpopjcpgipjaaDoor
open Go.RowKit Go.Deep
set_option linter.unusedSimpArgs false
set_option linter.unusedVariables false
set_option maxRecDepth 100000

theorem rowOf_next {L : List (List Int)} {k : Nat} (h : k < L.length) : L.take (k + 1) = L.take k ++ [rowOf L k] := by
  rw [List.take_add_one, rowOf_get h]; rfl
theorem val_slice {u : Value} {A : Option Addr} {n c : Nat} (h : u = .slice A n c) : u.oneCell' = true := by rw [h]; rfl
def TupsRet (ts : List (List Int)) (w : World) (e : Ending) (w' : World) : Prop :=
  ∃ v, e = .returned v ∧ OwnT w' w.heap.size v ts ∧ Below w.heap.size w w'

set_option maxHeartbeats 1000000 in
theorem copyRows_any (A : Option Addr) (n c : Nat) (ts : List (List Int)) (w : World) (h : TupsAt w w.heap.size A n ts) (hn : n * 24 ≤ 140737488351232) :
    Calls Tryd.prog 27 #[.slice A n c] w (TupsRet ts w) := by
  have HS := Lib.hid h
  have HL := Lib.hid h.len
  clear h
  go_enter Tryd.func27, Tryd.ntmps27
  go_wp2
  go_loopw [3, 4] (fun q i wr => ∃ (k : Nat) (vs : List Value), i = .int .i64 k ∧ k ≤ n ∧ OwnR wr w.heap.size q vs ∧ Rws wr w.heap.size vs (ts.take k) ∧ Below w.heap.size w wr) (fun _ i _ => n - (intOf i).toNat)
  case atStart => exact ⟨0, [], rfl, by omega, OwnR.nil_, Rws.nil_, Below.refl _ _⟩
  case round =>
    obtain ⟨k, vs, rfl, hk, hown, hrw, hbw⟩ := hrel
    have HBW := Lib.hid hbw
    have HOWN := Lib.hid hown
    have HRW := Lib.hid hrw
    have hsz := hbw.size
    have hvl' : vs.length ≤ k := by have := hrw.1; rw [List.length_take] at this; omega
    clear hbw hown hrw
    by_cases hlt : k < n
    · have hkl : k < ts.length := by rw [HL.out]; exact hlt
      obtain ⟨b, off, A3, c3, rfl, hb, c0, hr, -⟩ := (HS.out.on HBW.out).one hlt
      have HTK := Lib.hid (rowOf_next hkl)
      obtain ⟨r, hrr⟩ : ∃ r, r = rowOf ts k := ⟨_, rfl⟩
      rw [← hrr] at c0 hr HTK
      have HI3 := Lib.hid hr
      have hfit := hr.fit
      have hvl : vs.length + 1 ≤ 5864062014634 := by omega
      have hi0 : (0 : Int) ≤ (k : Int) := by omega
      have hi3 : (k : Int) < (n : Int) := by omega
      clear hr hrr hkl
      go_wp2_with fail
      refine (copyInts_any A3 _ c3 r _ HI3.out.at_ hfit).mono ?_
      rintro e w1 ⟨v1, rfl, hv1, hb1⟩
      have HO1 := Lib.hid (HOWN.out.on hb1)
      have HR1 := Lib.hid (HRW.out.on hb1)
      have HV1 := Lib.hid (hv1.lower (base' := w.heap.size) hsz)
      have HB1 := Lib.hid (HBW.out.trans (hb1.mono hsz))
      have hsz1 := HB1.out.size
      obtain ⟨A4, c4, hv4⟩ := hv1.value
      obtain ⟨L4, hL4⟩ : ∃ L4, r.length = L4 := ⟨_, rfl⟩
      rw [hL4] at hv4
      subst hv4
      clear hv1 hb1
      go_wp2_with (at_builtin
                   refine app_rowv rfl (.tmp 11) (.tmp 17) rfl w.heap.size _ vs _ rfl HO1.out rfl rfl rfl hvl hsz1 ?_
                   intro v2 w2 hown2 hc2
                   have HO2 := Lib.hid hown2
                   have HR2 := Lib.hid ((HR1.out.snoc HV1.out).chg hc2 (by decide))
                   have HB2 := Lib.hid (HB1.out.trans hc2.bel)
                   clear hown2 hc2)
      go_roundw
      case rel => exact ⟨k + 1, _, by go_num, by omega, HO2.out, by rw [HTK.out]; exact HR2.out, HB2.out⟩
      case measure => simp [intOf]; omega
    · obtain rfl : k = n := by omega
      go_wp2
      go_ret
      exact ⟨_, rfl, OwnT.cast (OwnT.mk HOWN.out HRW.out) (by rw [List.take_of_length_le (by rw [HL.out]; omega)]), HBW.out⟩

set_option maxHeartbeats 1000000 in
theorem sameRows_true (A A1 : Option Addr) (n c c1 : Nat) (ts : List (List Int)) (w : World) (h : TupsAt w w.heap.size A n ts) (hn : n * 24 ≤ 140737488351232) (h1 : TupsAt w w.heap.size A1 n ts) :
    Calls Tryd.prog 34 #[.slice A n c, .slice A1 n c1] w fun e w' => e = .returned (.bool true) ∧ Below w.heap.size w w' := by
  have HA := Lib.hid h
  have HB := Lib.hid h1
  clear h h1
  go_enter Tryd.func34, Tryd.ntmps34
  go_wp2
  go_loopw [5] (fun i wr => ∃ k : Nat, i = .int .i64 k ∧ k ≤ n ∧ Below w.heap.size w wr) (fun i _ => n - (intOf i).toNat)
  case atStart => exact ⟨0, rfl, by omega, Below.refl _ _⟩
  case round =>
    obtain ⟨k, rfl, hk, hbw⟩ := hrel
    have HBW := Lib.hid hbw
    clear hbw
    by_cases hlt : k < n
    · obtain ⟨b1, o1, A3, c3, rfl, _, c0, i3, -⟩ := (HA.out.on HBW.out).one hlt
      obtain ⟨b2, o2, A4, c4, rfl, _, d0, i4, -⟩ := (HB.out.on HBW.out).one hlt
      obtain ⟨r, hrr⟩ : ∃ r, r = rowOf ts k := ⟨_, rfl⟩
      rw [← hrr] at c0 d0 i3 i4
      have HI3 := Lib.hid i3
      have HI4 := Lib.hid i4
      have hi0 : (0 : Int) ≤ (k : Int) := by omega
      have hi3 : (k : Int) < (n : Int) := by omega
      clear i3 i4 hrr
      go_wp2_with fail
      go_quiet ((go_at_call 13; exact sameInts_still A3 A4 _ c3 _ c4 _ _ _ r r _ HI3.out.at_ HI4.out.at_ HI3.out.big HI4.out.big (sameI_self _)))
      go_wp2
      go_roundw
      case rel => exact ⟨k + 1, by go_num, by omega, HBW.out.trans (below_drewN _ _)⟩
      case measure => simp [intOf]; omega
    · obtain rfl : k = n := by omega
      go_wp2
      go_ret
      exact ⟨rfl, HBW.out⟩

/-- Rows that the call has made, whatever stands in them. -/
def WRws (w : World) (base : Nat) (vs : List Value) : Prop := ∀ i, i < vs.length → ∃ n, n ≤ 17592186044416 ∧ ∃ xs : List Int, xs.length = n ∧ OwnI w base (valAt vs i) xs
theorem WRws.spoilt {w w' : World} {base b : Nat} {vs : List Value} (h : WRws w base vs) (hs : Spoilt b w w') : WRws w' base vs := fun i hi => by
  obtain ⟨n, hn, hx⟩ := h i hi
  exact ⟨n, hn, hs.ints _ _ _ hx⟩
theorem WRws.on {w w' : World} {base : Nat} {vs : List Value} (h : WRws w base vs) (hb : Below w.heap.size w w') : WRws w' base vs := fun i hi => by
  obtain ⟨n, hn, xs, e, hx⟩ := h i hi
  exact ⟨n, hn, xs, e, hx.on hb⟩
theorem Rws.weak {w : World} {base : Nat} {vs : List Value} {L : List (List Int)} (h : Rws w base vs L) (hf : ∀ r ∈ L, r.length * 8 ≤ 140737488351232) : WRws w base vs := fun i hi => by
  have hi' : i < L.length := by rw [← h.1]; exact hi
  exact ⟨_, by have := hf _ (rowOf_mem hi'); omega, _, rfl, h.2 i hi'⟩
end Go.Proofs.YtcjpopjcpgipjaaDoor

namespace Go.Proofs.YtcjpopjcpgipjaaDoor
open Go.RowKit Go.Deep
set_option linter.unusedSimpArgs false
set_option linter.unusedVariables false
set_option maxRecDepth 100000

theorem three_one {A A' A'' : Option Addr} {n n' n'' c c' c'' : Nat} : (#[Value.slice A n c, .slice A' n' c', .slice A'' n'' c''].all (·.oneCell')) = true := by simp [Value.oneCell']
def ClRet (c : Cl) (w : World) (e : Ending) (w' : World) : Prop :=
  ∃ v, e = .returned v ∧ OwnC w' w.heap.size v c ∧ Below w.heap.size w w'
theorem OwnL.valued {w : World} {base : Nat} {v : Value} {ls : List Lt} (h : OwnL w base v ls) : ∃ A c, v = .slice A ls.length c := by
  rcases h.shape with ⟨rfl, rfl⟩ | ⟨g, cap, rfl, _⟩
  · exact ⟨_, _, rfl⟩
  · exact ⟨_, _, rfl⟩
theorem OwnR.valued {w : World} {base : Nat} {v : Value} {ls : List Value} (h : OwnR w base v ls) : ∃ A c, v = .slice A ls.length c := by
  rcases h.shape with ⟨rfl, rfl⟩ | ⟨g, cap, rfl, _⟩
  · exact ⟨_, _, rfl⟩
  · exact ⟨_, _, rfl⟩
theorem OwnT.valued {w : World} {base : Nat} {v : Value} {ls : List (List Int)} (h : OwnT w base v ls) : ∃ A c, v = .slice A ls.length c := by
  obtain ⟨vs, h1, h2⟩ := h.vals
  obtain ⟨A, c, e⟩ := h1.valued
  rw [h2.1] at e
  exact ⟨A, c, e⟩

set_option maxHeartbeats 1000000 in
theorem copyClause_any (v : Cv) (c : Cl) (w : World) (h : ClAt w w.heap.size v c) :
    Calls Tryd.prog 9 #[v.val] w (ClRet c w) := by
  have hf1 := h.f1
  have hf2 := h.f2
  have hf3 := h.f3
  have h0 := CBox.new h
  have hb0 := below_new2 w v.obj (.cells #[.slice none 0 0, .slice none 0 0, .slice none 0 0] 26)
  have hx0 := h0.on (below_new _ (.cells #[.slice none 0 0, .slice none 0 0, .slice none 0 0] 26))
  have hg0 := heap_alloc_new (w.alloc v.obj) (.cells #[.slice none 0 0, .slice none 0 0, .slice none 0 0] 26)
  have e0 : (w.alloc v.obj).heap.size = w.heap.size + 1 := by simp
  rw [e0] at hg0
  simp only [Cv.val]
  unfold Cv.obj at h0 hb0 hx0 hg0
  clear h h0 e0
  go_enter Tryd.func9, Tryd.ntmps9
  go_wp2_with fail
  obtain ⟨w0, hw0⟩ : ∃ w0, w0 = (w.alloc (.cells #[.slice v.A1 v.n1 v.c1, .slice v.A2 v.n2 v.c2, .slice v.A3 v.n3 v.c3] 26)).alloc (.cells #[.slice none 0 0, .slice none 0 0, .slice none 0 0] 26) := ⟨_, rfl⟩
  rw [← hw0] at hb0 hx0 hg0 ⊢
  obtain ⟨B, hB⟩ : ∃ B, B = w.heap.size := ⟨_, rfl⟩
  rw [← hB] at hx0 hg0 ⊢
  have p0 := hx0.c0
  have p1 := hx0.c1
  have p2 := hx0.c2
  have HX := Lib.hid hx0
  have HB0 := Lib.hid hb0
  have HG := Lib.hid hg0
  have HW := Lib.hid hw0
  have HBB := Lib.hid hB
  clear hb0 hx0 hg0 hw0 hB
  refine wp_region_held_drew (S := (fun w' => w'.cell? ⟨B, 0, none⟩ = some (.slice v.A1 v.n1 v.c1) ∧ w'.cell? ⟨B, 1, none⟩ = some (.slice v.A2 v.n2 v.c2) ∧ w'.cell? ⟨B, 2, none⟩ = some (.slice v.A3 v.n3 v.c3))) (by kernel_rfl) ⟨p0, p1, p2⟩ (fun hHeld => ?_)
  have hd0 : Below w0.heap.size w0 w0.drew := (Below.refl w0.heap.size w0).drew
  refine takeH (i := 0) (v := ?_) rfl rfl (by kernel_rfl) (by kernel_rfl) (by kernel_rfl) (fun _ _ _ h => h) (by rfl) ?_ hHeld ?_
  rotate_left
  · (intro w hSw; (try dsimp only at hSw); first | (go_simp; done) | (go_simp; with_reducible rfl))
  simp only [Act.put, List.setIfInBounds_toArray, List.set_cons_zero, List.set_cons_succ]
  refine takeH (i := 1) (v := ?_) rfl rfl (by kernel_rfl) (by kernel_rfl) (by kernel_rfl) (fun _ _ _ h => h) (by rfl) ?_ hHeld ?_
  rotate_left
  · (intro w hSw; (try dsimp only at hSw); first | (go_simp; done) | (go_simp; with_reducible rfl))
  simp only [Act.put, List.setIfInBounds_toArray, List.set_cons_zero, List.set_cons_succ]
  refine takeH (i := 3) (v := ?_) rfl rfl (by kernel_rfl) (by kernel_rfl) (by kernel_rfl) (fun _ _ _ h => h) (by rfl) ?_ hHeld ?_
  rotate_left
  · (intro w hSw; (try dsimp only at hSw); first | (go_simp; done) | (go_simp; with_reducible rfl))
  simp only [Act.put, List.setIfInBounds_toArray, List.set_cons_zero, List.set_cons_succ]
  refine takeH (i := 4) (v := ?_) rfl rfl (by kernel_rfl) (by kernel_rfl) (by kernel_rfl) (fun _ _ _ h => h) (by rfl) ?_ hHeld ?_
  rotate_left
  · (intro w hSw; (try dsimp only at hSw); first | (go_simp; done) | (go_simp; with_reducible rfl))
  simp only [Act.put, List.setIfInBounds_toArray, List.set_cons_zero, List.set_cons_succ]
  refine takeH (i := 6) (v := ?_) rfl rfl (by kernel_rfl) (by kernel_rfl) (by kernel_rfl) (fun _ _ _ h => h) (by rfl) ?_ hHeld ?_
  rotate_left
  · (intro w hSw; (try dsimp only at hSw); first | (go_simp; done) | (go_simp; with_reducible rfl))
  simp only [Act.put, List.setIfInBounds_toArray, List.set_cons_zero, List.set_cons_succ]
  refine takeH (i := 7) (v := ?_) rfl rfl (by kernel_rfl) (by kernel_rfl) (by kernel_rfl) (fun _ _ _ h => h) (by rfl) ?_ hHeld ?_
  rotate_left
  · (intro w hSw; (try dsimp only at hSw); first | (go_simp; done) | (go_simp; with_reducible rfl))
  simp only [Act.put, List.setIfInBounds_toArray, List.set_cons_zero, List.set_cons_succ]
  refine wpAnyH_ready (rs := [2]) (by kernel_rfl) (by simp) ?_
  refine AllReadyH.cons rfl (fun K hK => ?_) AllReadyH.nil
  go_simp
  refine (copyLits_any v.A1 v.n1 v.c1 c.lits _ (HX.out.on hd0).cl.lits (by omega)).mono ?_
  rintro e w1 ⟨v1, rfl, hv1, hb1⟩
  obtain ⟨D1, d1, rfl⟩ := hv1.valued
  have hb1' := hd0.trans (hb1.mono hd0.size)
  have HX1 := Lib.hid (HX.out.on hb1')
  have HB1 := Lib.hid hb1'
  have HV1 := Lib.hid hv1
  clear hv1 hb1 hb1' p0 p1 p2
  have p0 := HX1.out.c0
  have p1 := HX1.out.c1
  have p2 := HX1.out.c2
  go_wp2_with fail
  refine hK.out _ _ ?_ (fun hHeld => ?_)
  · exact ⟨p0, p1, p2⟩
  clear hK K
  refine wpAnyH_ready (rs := [5]) (by kernel_rfl) (by simp) ?_
  refine AllReadyH.cons rfl (fun K hK => ?_) AllReadyH.nil
  go_simp
  refine (copyRows_any v.A2 v.n2 v.c2 c.tups _ HX1.out.cl.tups (by omega)).mono ?_
  rintro e w2 ⟨v2, rfl, hv2, hb2⟩
  obtain ⟨D2, d2, rfl⟩ := hv2.valued
  have HX2 := Lib.hid (HX1.out.on hb2)
  have HB2 := Lib.hid (HB1.out.trans (hb2.mono HB1.out.size))
  have HV2 := Lib.hid hv2
  replace HV1 := Lib.hid (HV1.out.on hb2)
  clear hv2 hb2 p0 p1 p2
  have p0 := HX2.out.c0
  have p1 := HX2.out.c1
  have p2 := HX2.out.c2
  go_wp2_with fail
  refine hK.out _ _ ?_ (fun hHeld => ?_)
  · exact ⟨p0, p1, p2⟩
  clear hK K
  refine wpAnyH_ready (rs := [8]) (by kernel_rfl) (by simp) ?_
  refine AllReadyH.cons rfl (fun K hK => ?_) AllReadyH.nil
  go_simp
  refine (copyLits_any v.A3 v.n3 v.c3 c.conds _ HX2.out.cl.conds (by omega)).mono ?_
  rintro e w3 ⟨v3, rfl, hv3, hb3⟩
  obtain ⟨D3, d3, rfl⟩ := hv3.valued
  have HX3 := Lib.hid (HX2.out.on hb3)
  have HB3 := Lib.hid (HB2.out.trans (hb3.mono HB2.out.size))
  have HV3 := Lib.hid hv3
  replace HV1 := Lib.hid (HV1.out.on hb3)
  replace HV2 := Lib.hid (HV2.out.on hb3)
  clear hv3 hb3 p0 p1 p2
  have p0 := HX3.out.c0
  have p1 := HX3.out.c1
  have p2 := HX3.out.c2
  go_wp2_with fail
  refine hK.out _ _ ?_ (fun hHeld => ?_)
  · exact ⟨p0, p1, p2⟩
  clear hK K
  refine takeH (i := 9) (v := ?_) rfl rfl (by kernel_rfl) (by kernel_rfl) (by kernel_rfl) (fun _ _ _ h => h) (by rfl) ?_ hHeld ?_
  rotate_left
  · (intro w hSw; (try dsimp only at hSw); first | (go_simp; done) | (go_simp; with_reducible rfl))
  simp only [Act.put, List.setIfInBounds_toArray, List.set_cons_zero, List.set_cons_succ]
  have hg3 : w3.heap[B + 1]? = some (.cells #[.slice none 0 0, .slice none 0 0, .slice none 0 0] 26 (0, 0)) := by
    rw [HB3.out.block (B + 1) (Array.getElem?_eq_some_iff.1 HG.out).1]; exact HG.out
  refine wpAnyH_ready (rs := [10]) (by kernel_rfl) (by simp) ?_
  refine AllReadyH.cons rfl (fun K hK => ?_) AllReadyH.nil
  refine store_box_step rfl 26 (.tmp 2) (.tmp 12) rfl rfl (B + 1) _ _ rfl rfl hg3 rfl (by kernel_rfl) three_one ?_
  intro w4 hg4 hc4 hs4
  have q0 : w4.cell? ⟨B, 0, none⟩ = some (.slice v.A1 v.n1 v.c1) := by rw [hc4.bel.cell (p := ⟨B, 0, none⟩) (Nat.lt_succ_self B)]; exact p0
  have q1 : w4.cell? ⟨B, 1, none⟩ = some (.slice v.A2 v.n2 v.c2) := by rw [hc4.bel.cell (p := ⟨B, 1, none⟩) (Nat.lt_succ_self B)]; exact p1
  have q2 : w4.cell? ⟨B, 2, none⟩ = some (.slice v.A3 v.n3 v.c3) := by rw [hc4.bel.cell (p := ⟨B, 2, none⟩) (Nat.lt_succ_self B)]; exact p2
  have HC4 := Lib.hid hc4
  have HG4 := Lib.hid hg4
  clear hc4 hg4 hg3 p0 p1 p2
  refine hK.out _ _ ?_ (fun hHeld => ?_)
  · exact ⟨q0, q1, q2⟩
  clear hK K
  refine wpAnyH_done (by kernel_rfl) ?_ _
  go_wp2
  refine bodyPost_ret (results_cell_row rfl _ _ (B + 1) _ _ _ _ rfl HG4.out Tryd.underlying26 rfl (by kernel_rfl)) rfl ?_
  have hle : w.heap.size ≤ w0.heap.size := HB0.out.size
  have hB3 := HB0.out.trans (HB3.out.mono hle)
  have hle1 : w.heap.size ≤ w1.heap.size := Nat.le_trans hle HB1.out.size
  have hle2 : w.heap.size ≤ w2.heap.size := Nat.le_trans hle HB2.out.size
  have hd1 : w.heap.size ≤ w0.drew.heap.size := hle
  have hx1 := HV1.out.vals
  obtain ⟨vs1, a1, a2⟩ := HV1.out.vals
  obtain ⟨vs2, b1, b2⟩ := HV2.out.vals
  obtain ⟨vs3, g1, g2⟩ := HV3.out.vals
  have hBB := HBB.out
  refine ⟨_, rfl, ⟨_, _, _, rfl, ((a1.chg HC4.out (by decide)).own (a2.chg HC4.out (by decide))).lower hd1, (OwnT.mk (b1.chg HC4.out (by decide)) (b2.chg HC4.out (by decide))).lower hle1, ((g1.chg HC4.out (by decide)).own (g2.chg HC4.out (by decide))).lower hle2⟩, hB3.trans (HC4.out.bel.mono (by omega))⟩

theorem CBox.two {w : World} {v u : Cv} {c d : Cl} (h : ClAt w w.heap.size v c) (k : ClAt w w.heap.size u d) :
    CBox ((w.alloc v.obj).alloc u.obj) w.heap.size v c ∧ CBox ((w.alloc v.obj).alloc u.obj) (w.heap.size + 1) u d ∧ Below w.heap.size w ((w.alloc v.obj).alloc u.obj) := by
  have h0 := (CBox.new h).on (below_new (w.alloc v.obj) u.obj)
  have k0 := CBox.new (k.on (below_new w v.obj))
  have e0 : (w.alloc v.obj).heap.size = w.heap.size + 1 := by simp
  rw [e0] at k0
  exact ⟨h0, k0, below_new2 w _ _⟩
set_option maxHeartbeats 1000000 in
theorem sameClause_true (v u : Cv) (c : Cl) (w : World) (h : ClAt w w.heap.size v c) (k : ClAt w w.heap.size u c) :
    Calls Tryd.prog 15 #[v.val, u.val] w fun e w' => e = .returned (.bool true) ∧ Below w.heap.size w w' := by
  have e1 : u.n1 = v.n1 := by rw [← h.lits.len, ← k.lits.len]
  have e2 : u.n2 = v.n2 := by rw [← h.tups.len, ← k.tups.len]
  have e3 : u.n3 = v.n3 := by rw [← h.conds.len, ← k.conds.len]
  have hf1 := h.f1
  have hf2 := h.f2
  have hf3 := h.f3
  obtain ⟨hx, hy, hb⟩ := CBox.two h k
  simp only [Cv.val]
  unfold Cv.obj at hx hy hb
  obtain ⟨A1, n1, c1, A2, n2, c2, A3, n3, c3⟩ := u
  dsimp only at e1 e2 e3 hx hy hb ⊢
  subst e1 e2 e3
  have HX := Lib.hid hx
  have HY := Lib.hid hy
  have HB0 := Lib.hid hb
  clear h k hx hy hb
  go_enter Tryd.func15, Tryd.ntmps15
  go_wp2_with fail
  obtain ⟨w0, hw0⟩ : ∃ w0, w0 = ((w.alloc (.cells #[.slice v.A1 v.n1 v.c1, .slice v.A2 v.n2 v.c2, .slice v.A3 v.n3 v.c3] 26)).alloc (.cells #[.slice A1 v.n1 c1, .slice A2 v.n2 c2, .slice A3 v.n3 c3] 26)) := ⟨_, rfl⟩
  rw [← hw0] at HX HY HB0 ⊢
  clear hw0
  refine (sameLits_true v.A1 A1 v.n1 v.c1 c1 c.lits _ HX.out.cl.lits (by omega) HY.out.cl.lits).mono ?_
  rintro e w1 ⟨rfl, hb1⟩
  have HB1 := Lib.hid (HB0.out.trans (hb1.mono HB0.out.size))
  replace HX := Lib.hid (HX.out.on hb1)
  replace HY := Lib.hid (HY.out.on hb1)
  clear hb1
  have p0 := HX.out.c0
  have p1 := HX.out.c1
  have p2 := HX.out.c2
  have q0 := HY.out.c0
  have q1 := HY.out.c1
  have q2 := HY.out.c2
  dsimp only at q0 q1 q2
  go_wp2_with fail
  refine (sameRows_true v.A2 A2 v.n2 v.c2 c2 c.tups _ HX.out.cl.tups (by omega) HY.out.cl.tups).mono ?_
  rintro e w2 ⟨rfl, hb2⟩
  have HB2 := Lib.hid (HB1.out.trans (hb2.mono HB1.out.size))
  replace HX := Lib.hid (HX.out.on hb2)
  replace HY := Lib.hid (HY.out.on hb2)
  clear hb2 p0 p1 p2 q0 q1 q2
  have p0 := HX.out.c0
  have p1 := HX.out.c1
  have p2 := HX.out.c2
  have q0 := HY.out.c0
  have q1 := HY.out.c1
  have q2 := HY.out.c2
  dsimp only at q0 q1 q2
  go_wp2_with fail
  refine (sameLits_true v.A3 A3 v.n3 v.c3 c3 c.conds _ HX.out.cl.conds (by omega) HY.out.cl.conds).mono ?_
  rintro e w3 ⟨rfl, hb3⟩
  have HB3 := Lib.hid (HB2.out.trans (hb3.mono HB2.out.size))
  clear hb3
  go_wp2
  go_ret
  exact ⟨rfl, HB3.out⟩

/-- A box of a clause as a row of one: what is written over rows of integers leaves it. -/
def BoxRow (w : World) (b : Nat) (cells : List Value) : Prop := w.ownsRow b 26 3 (.slice (some ⟨b, 0, none⟩) 1 1) 1 cells
theorem BoxRow.new (w : World) (x y z : Value) : BoxRow (w.alloc (.cells #[x, y, z] 26)) w.heap.size [x, y, z] := by
  have := World.ownsRow_lit (base := w.heap.size) (e := 26) (size := 3) w #[x, y, z] 1 (Nat.le_refl _) (by unfold maxLen; omega) rfl
  simpa [BoxRow] using this
theorem BoxRow.get {w : World} {b : Nat} {x y z : Value} (h : BoxRow w b [x, y, z]) : w.cell? ⟨b, 0, none⟩ = some x ∧ w.cell? ⟨b, 1, none⟩ = some y ∧ w.cell? ⟨b, 2, none⟩ = some z := by
  refine ⟨?_, ?_, ?_⟩
  · exact World.ownsRow.cellAt h 0 (by omega)
  · exact World.ownsRow.cellAt h 1 (by omega)
  · exact World.ownsRow.cellAt h 2 (by omega)
theorem BoxRow.spoilt {w w' : World} {b base : Nat} {cells : List Value} (h : BoxRow w b cells) (hs : Spoilt base w w') : BoxRow w' b cells := hs.rows _ _ _ _ _ _ (by decide) h
end Go.Proofs.YtcjpopjcpgipjaaDoor
