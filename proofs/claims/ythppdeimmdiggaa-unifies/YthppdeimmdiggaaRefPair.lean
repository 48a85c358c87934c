/-
  Contracts of the reference: pair and all.
-/
import Derived.Test.YthppdeimmdiggaaRefFull
import Derived.Test.YthppdeimmdiggaaRefBind
namespace Go.Proofs.Ythppdeimmdiggaa
open Go.RowKit
set_option linter.unusedSimpArgs false
set_option linter.unusedVariables false
set_option maxRecDepth 100000

def rowOf (L : List (List Int)) (i : Nat) : List Int := L.getD i []
theorem rowOf_get {L : List (List Int)} {i : Nat} (h : i < L.length) : L[i]? = some (rowOf L i) := by
  unfold rowOf; rw [List.getD_eq_getElem?_getD, List.getElem?_eq_getElem h]; rfl
theorem rowOf_mem {L : List (List Int)} {i : Nat} (h : i < L.length) : rowOf L i ∈ L := List.mem_of_getElem? (rowOf_get h)
theorem rowOf_take {L : List (List Int)} {i : Nat} (h : i < L.length) : (L.take (i + 1)).flatten = (L.take i).flatten ++ rowOf L i := by
  rw [List.take_add_one, rowOf_get h]; simp
theorem rowOf_drop {L : List (List Int)} {i : Nat} (h : i < L.length) : L.flatten = (L.take i).flatten ++ (rowOf L i ++ (L.drop (i + 1)).flatten) := by
  have e : L = L.take i ++ rowOf L i :: L.drop (i + 1) := by
    have := List.take_append_drop i L
    rw [List.drop_eq_getElem_cons h] at this
    have g := rowOf_get h
    rw [List.getElem?_eq_getElem h] at g
    injection g with g
    rw [g] at this
    exact this.symm
  have := congrArg List.flatten e
  rw [List.flatten_append, List.flatten_cons] at this
  exact this
theorem trm_flatten {V : Nat} {ss : List Sym} : ∀ {L : List (List Int)}, (∀ r ∈ L, trm V ss r 1) → trm V ss L.flatten L.length
  | [], _ => trm_nil
  | r :: L, h => by
    rw [List.flatten_cons, List.length_cons, Nat.add_comm]
    exact trm_append (h r (List.mem_cons_self ..)) (trm_flatten fun x hx => h x (List.mem_cons_of_mem _ hx))
/-- A row of rows, in a block from ob on; the rows lie below base. -/
def RowsAt (w : World) (base ob : Nat) (v : Value) (L : List (List Int)) : Prop :=
  ∃ vals, vals.length = L.length ∧ OwnR w ob v vals ∧ ∀ i, i < L.length → RowV w base (valAt vals i) (rowOf L i)
section
variable {w w' : World} {base ob sb : Nat} {v : Value} {L : List (List Int)}
theorem RowsAt.value (h : RowsAt w base ob v L) : ∃ A c, v = .slice A L.length c := by
  obtain ⟨vals, h1, h2, _⟩ := h
  rcases h2.shape with ⟨rfl, e⟩ | ⟨g, cap, rfl, _⟩
  · subst e; rw [← h1]; exact ⟨_, _, rfl⟩
  · rw [h1]; exact ⟨_, _, rfl⟩
theorem RowsAt.grown (h : RowsAt w base ob v L) (hg : w.grownBy w' (some sb)) (hle : base ≤ sb) (hw : base ≤ w.heap.size) (hne : v.ownBlock ≠ some sb) : RowsAt w' base ob v L := by
  obtain ⟨vals, h1, h2, h3⟩ := h
  refine ⟨vals, h1, World.ownsRow.kept h2 hg (.inr hne), fun i hi => ?_⟩
  obtain ⟨A, n, c, e, hr⟩ := h3 i hi
  exact ⟨A, n, c, e, hr.grown hg hle hw⟩
theorem RowsAt.off (h : RowsAt w base ob v L) (hob : sb < ob) : v.ownBlock ≠ some sb := by
  obtain ⟨vals, h1, h2, h3⟩ := h
  intro q
  have := (World.ownsRow.lt h2 sb q).1
  omega
theorem RowsAt.before (h : RowsAt w base ob v L) (hob : w.heap.size ≤ sb) : v.ownBlock ≠ some sb := by
  obtain ⟨vals, h1, h2, h3⟩ := h
  intro q
  have := (World.ownsRow.lt h2 sb q).2
  omega
theorem RowsAt.lower {ob' : Nat} (h : RowsAt w base ob v L) (hob : ob' ≤ ob) : RowsAt w base ob' v L := by
  obtain ⟨vals, h1, h2, h3⟩ := h
  exact ⟨vals, h1, h2.lower hob, h3⟩
theorem RowsAt.on (h : RowsAt w base ob v L) (hb : Below w.heap.size w w') (hw : base ≤ w.heap.size) : RowsAt w' base ob v L := by
  obtain ⟨vals, h1, h2, h3⟩ := h
  refine ⟨vals, h1, owns_on h2 hb, fun i hi => ?_⟩
  obtain ⟨A, n, c, e, hr⟩ := h3 i hi
  exact ⟨A, n, c, e, hr.below (hb.mono hw)⟩
theorem RowsAt.cell (h : RowsAt w base ob v L) {i : Nat} (hi : i < L.length) : ∃ g cap A n c, v = .slice (some ⟨g, 0, none⟩) L.length cap ∧ ob ≤ g ∧ w.cell? ⟨g, i, none⟩ = some (.slice A n c) ∧ RowAt w base A n c (rowOf L i) := by
  obtain ⟨vals, h1, h2, h3⟩ := h
  rcases h2.shape with ⟨rfl, e⟩ | ⟨g, cap, rfl, hob, _, _⟩
  · subst e; simp at h1; omega
  · obtain ⟨A, n, c, e, hr⟩ := h3 i hi
    refine ⟨g, cap, A, n, c, by rw [h1], hob, ?_, hr⟩
    have := own_get h2 i (by omega)
    rw [this]
    have hl : i < vals.length := by omega
    rw [List.getElem?_eq_getElem hl]
    unfold valAt at e
    rw [List.getD_eq_getElem?_getD, List.getElem?_eq_getElem hl] at e
    rw [← e]; rfl
theorem SymsAt.grownS {A : Option Addr} {n : Nat} {ss : List Sym} (h : SymsAt w base A n ss) (hg : w.grownBy w' (some sb)) (hle : base ≤ sb) (hw : base ≤ w.heap.size) : SymsAt w' base A n ss :=
  h.keep fun p hp => World.cell?_of_block (w := w) (hg.block p.block (by omega) (by simp; omega))
end

/-- pair's contract, for stores with at most U free variables, and rows that become at most K codes. -/
def PairH (V : Nat) (ss : List Sym) (A0 : Option Addr) (n0 c0 base sb : Nat) (U K : Nat) : Prop :=
  ∀ (T σ : Nat → List Int) (rk : Nat → Nat) (A1 A2 : Option Addr) (n1 c1 n2 c2 : Nat) (a b : List Int) (w : World), StoreAt w base sb T → Sto V ss T σ rk → SymsAt w base A0 n0 ss → RowAt w base A1 n1 c1 a → RowAt w base A2 n2 c2 b → trm V ss a 1 → trm V ss b 1 → unb V T ≤ U → (ap σ a).length ≤ K →
    Calls Try.prog 59 #[.pointer (some ⟨sb, 0, none⟩), .slice A0 n0 c0, .slice A1 n1 c1, .slice A2 n2 c2] w (PairPost V ss T base sb a b w)

set_option maxHeartbeats 600000 in
theorem refAll_of (V : Nat) (ss : List Sym) (A0 : Option Addr) (n0 c0 base sb ob U K : Nat) (h1 : PairH V ss A0 n0 c0 base sb U K) (h2 : ∀ U', U' < U → ∀ K', PairH V ss A0 n0 c0 base sb U' K')
    (T σ : Nat → List Int) (rk : Nat → Nat) (vL vM : Value) (L M : List (List Int)) (w : World) (hst : StoreAt w base sb T) (hs : Sto V ss T σ rk) (hsy : SymsAt w base A0 n0 ss) (hL : RowsAt w base ob vL L) (hM : RowsAt w base ob vM M) (hvL' : vL.ownBlock ≠ some sb) (hvM' : vM.ownBlock ≠ some sb) (hlen : L.length = M.length) (h48 : L.length ≤ 48)
    (tL : ∀ r ∈ L, trm V ss r 1) (tM : ∀ r ∈ M, trm V ss r 1) (hU : unb V T ≤ U) (hK : ∀ r ∈ L, (ap σ r).length ≤ K) :
    Calls Try.prog 51 #[.pointer (some ⟨sb, 0, none⟩), .slice A0 n0 c0, vL, vM] w (PairPost V ss T base sb L.flatten M.flatten w) := by
  have hle := hst.le
  have hbw0 : base ≤ w.heap.size := by have := hst.lt; omega
  have HH1 := Lib.hid h1
  have HH2 := Lib.hid h2
  have HST := Lib.hid hst
  have HS := Lib.hid hs
  have HSY := Lib.hid hsy
  have HLS := Lib.hid hL
  have HNL' := Lib.hid hvL'
  have HNM' := Lib.hid hvM'
  have HMS := Lib.hid hM
  have HTL := Lib.hid tL
  have HTM := Lib.hid tM
  have HU := Lib.hid hU
  have HKK := Lib.hid hK
  obtain ⟨AL, cL, hvL⟩ := hL.value
  obtain ⟨AM, cM, hvM⟩ := hM.value
  obtain ⟨N, hNe⟩ : ∃ N, N = L.length := ⟨_, rfl⟩
  rw [← hNe] at hvL hlen h48
  rw [← hlen] at hvM
  have HNL := Lib.hid hNe
  have HNM := Lib.hid hlen
  subst hvL; subst hvM
  clear h1 h2 hst hs hsy hL hM tL tM hU hK hNe hlen hvL' hvM'
  go_enter Try.func51, Try.ntmps51
  go_wp2
  go_loopw [9] (fun i wr => ∃ (j : Nat) (T' : Nat → List Int), i = .int .i64 (j : Int) ∧ j ≤ N ∧ StoreAt wr base sb T' ∧ PairOk V ss T (L.take j).flatten (M.take j).flatten T' ∧ w.grownBy wr (some sb)) (fun i _ => N - (intOf i).toNat)
  case atStart => exact ⟨0, T, rfl, by omega, HST.out, PairOk.rfl_, grown_refl⟩
  case round =>
    obtain ⟨j, T', rfl, hj, hst', hok, hgr⟩ := hrel
    have HST' := Lib.hid hst'
    have HOK := Lib.hid hok
    have HGR := Lib.hid hgr
    have hszr := hgr.size
    clear hst' hok hgr
    by_cases hlt : j < N
    · have hjL : j < L.length := by rw [← HNL.out]; exact hlt
      have hjM : j < M.length := by rw [← HNM.out]; exact hlt
      have HML := Lib.hid (rowOf_mem hjL)
      have HMM := Lib.hid (rowOf_mem hjM)
      have HTKL := Lib.hid (rowOf_take hjL)
      have HTKM := Lib.hid (rowOf_take hjM)
      have HDL := Lib.hid (rowOf_drop hjL)
      have HDM := Lib.hid (rowOf_drop hjM)
      have HPL : Hid (trm V ss (L.take j).flatten j) := by
        have := trm_flatten (V := V) (ss := ss) (L := L.take j) (fun r hr => HTL.out r (List.mem_of_mem_take hr))
        rw [List.length_take, Nat.min_eq_left (by omega)] at this
        exact this
      have HPM : Hid (trm V ss (M.take j).flatten j) := by
        have := trm_flatten (V := V) (ss := ss) (L := M.take j) (fun r hr => HTM.out r (List.mem_of_mem_take hr))
        rw [List.length_take, Nat.min_eq_left (by omega)] at this
        exact this
      have HLR := Lib.hid (HLS.out.grown HGR.out hle hbw0 HNL'.out)
      have HMR := Lib.hid (HMS.out.grown HGR.out hle hbw0 HNM'.out)
      obtain ⟨g1, k1, A1, n1, c1, e1, hg1, q1, r1⟩ := HLR.out.cell hjL
      obtain ⟨g2, k2, A2, n2, c2, e2, hg2, q2, r2⟩ := HMR.out.cell hjM
      simp only [Value.slice.injEq] at e1 e2
      obtain ⟨rfl, -, rfl⟩ := e1
      obtain ⟨rfl, -, rfl⟩ := e2
      have ng1 : g1 ≠ sb := fun e => HNL'.out (by simp [Value.ownBlock, e])
      have ng2 : g2 ≠ sb := fun e => HNM'.out (by simp [Value.ownBlock, e])
      have HR1 := Lib.hid r1
      have HR2 := Lib.hid r2
      have HSYR := Lib.hid (HSY.out.grownS HGR.out hle hbw0)
      have i0 : (0 : Int) ≤ (j : Int) := by omega
      have i1 : (j : Int) < (N : Int) := by omega
      have HJL := Lib.hid hjL
      have HJM := Lib.hid hjM
      have HCALL : Hid (Calls Try.prog 59 #[.pointer (some ⟨sb, 0, none⟩), .slice A0 n0 c0, .slice A1 n1 c1, .slice A2 n2 c2] wr.drew (PairPost V ss T' base sb (rowOf L j) (rowOf M j) wr.drew)) := by
        have hd : Below wr.heap.size wr wr.drew := (Below.refl _ _).drew
        rcases HOK.out.2 with e | ⟨hun, σ', rk', hs'⟩
        · rw [e]
          have hst2 := HST'.out
          rw [e] at hst2
          exact HH1.out T σ rk A1 A2 n1 c1 n2 c2 _ _ _ (hst2.on hd) HS.out HSYR.out.drew (HR1.out.below (Below.refl _ _).drew) (HR2.out.below (Below.refl _ _).drew) (HTL.out _ HML.out) (HTM.out _ HMM.out) HU.out (HKK.out _ HML.out)
        · exact HH2.out (unb V T') (by have := HU.out; omega) _ T' σ' rk' A1 A2 n1 c1 n2 c2 _ _ _ (HST'.out.on hd) hs' HSYR.out.drew (HR1.out.below (Below.refl _ _).drew) (HR2.out.below (Below.refl _ _).drew) (HTL.out _ HML.out) (HTM.out _ HMM.out) (Nat.le_refl _) (Nat.le_refl _)
      clear hjL hjM r1 r2
      go_wp2_with fail
      refine wp_region_held_drew (S := (fun w' => w'.cell? ⟨g1, j, none⟩ = some (.slice A1 n1 c1) ∧ w'.cell? ⟨g2, j, none⟩ = some (.slice A2 n2 c2))) (by kernel_rfl) ⟨q1, q2⟩ (fun hHeld => ?_)
      refine takeH (i := 0) (v := ?_) rfl rfl (by kernel_rfl) (by kernel_rfl) (by kernel_rfl) (fun _ _ _ h => h) (by rfl) ?_ hHeld ?_
      rotate_left
      · (intro w hSw; (try dsimp only at hSw); first | (go_simp; done) | (go_simp; with_reducible rfl))
      simp only [Act.put, List.setIfInBounds_toArray, List.set_cons_zero, List.set_cons_succ]
      refine takeH (i := 1) (v := ?_) rfl rfl (by kernel_rfl) (by kernel_rfl) (by kernel_rfl) (fun _ _ _ h => h) (by rfl) ?_ hHeld ?_
      rotate_left
      · (intro w hSw; (try dsimp only at hSw); first | (go_simp; done) | (go_simp; with_reducible rfl))
      simp only [Act.put, List.setIfInBounds_toArray, List.set_cons_zero, List.set_cons_succ]
      refine takeH (i := 2) (v := ?_) rfl rfl (by kernel_rfl) (by kernel_rfl) (by kernel_rfl) (fun _ _ _ h => h) (by rfl) ?_ hHeld ?_
      rotate_left
      · (intro w hSw; (try dsimp only at hSw); first | (go_simp; done) | (go_simp; with_reducible rfl))
      simp only [Act.put, List.setIfInBounds_toArray, List.set_cons_zero, List.set_cons_succ]
      refine takeH (i := 3) (v := ?_) rfl rfl (by kernel_rfl) (by kernel_rfl) (by kernel_rfl) (fun _ _ _ h => h) (by rfl) ?_ hHeld ?_
      rotate_left
      · (intro w hSw; (try dsimp only at hSw); first | (go_simp; done) | (go_simp; with_reducible rfl))
      simp only [Act.put, List.setIfInBounds_toArray, List.set_cons_zero, List.set_cons_succ]
      refine takeH (i := 4) (v := ?_) rfl rfl (by kernel_rfl) (by kernel_rfl) (by kernel_rfl) (fun _ _ _ h => h) (by rfl) ?_ hHeld ?_
      rotate_left
      · (intro w hSw; (try dsimp only at hSw); first | (go_simp; done) | (go_simp; with_reducible rfl))
      simp only [Act.put, List.setIfInBounds_toArray, List.set_cons_zero, List.set_cons_succ]
      refine takeH (i := 5) (v := ?_) rfl rfl (by kernel_rfl) (by kernel_rfl) (by kernel_rfl) (fun _ _ _ h => h) (by rfl) ?_ hHeld ?_
      rotate_left
      · (intro w hSw; (try dsimp only at hSw); first | (go_simp; done) | (go_simp; with_reducible rfl))
      simp only [Act.put, List.setIfInBounds_toArray, List.set_cons_zero, List.set_cons_succ]
      refine takeH (i := 6) (v := ?_) rfl rfl (by kernel_rfl) (by kernel_rfl) (by kernel_rfl) (fun _ _ _ h => h) (by rfl) ?_ hHeld ?_
      rotate_left
      · (intro w hSw; (try dsimp only at hSw); first | (go_simp; done) | (go_simp; with_reducible rfl))
      simp only [Act.put, List.setIfInBounds_toArray, List.set_cons_zero, List.set_cons_succ]
      refine takeH (i := 7) (v := ?_) rfl rfl (by kernel_rfl) (by kernel_rfl) (by kernel_rfl) (fun _ _ _ h => h) (by rfl) ?_ hHeld ?_
      rotate_left
      · (intro w hSw; (try dsimp only at hSw); first | (go_simp; done) | (go_simp; with_reducible rfl))
      simp only [Act.put, List.setIfInBounds_toArray, List.set_cons_zero, List.set_cons_succ]
      refine takeH (i := 8) (v := ?_) rfl rfl (by kernel_rfl) (by kernel_rfl) (by kernel_rfl) (fun _ _ _ h => h) (by rfl) ?_ hHeld ?_
      rotate_left
      · (intro w hSw; (try dsimp only at hSw); first | (go_simp; done) | (go_simp; with_reducible rfl))
      simp only [Act.put, List.setIfInBounds_toArray, List.set_cons_zero, List.set_cons_succ]
      refine takeH (i := 9) (v := ?_) rfl rfl (by kernel_rfl) (by kernel_rfl) (by kernel_rfl) (fun _ _ _ h => h) (by rfl) ?_ hHeld ?_
      rotate_left
      · (intro w hSw; (try dsimp only at hSw); first | (go_simp; done) | (go_simp; with_reducible rfl))
      simp only [Act.put, List.setIfInBounds_toArray, List.set_cons_zero, List.set_cons_succ]
      refine wpAnyH_ready (rs := [10]) (by kernel_rfl) (by simp) ?_
      refine AllReadyH.cons rfl (fun K hK => ?_) AllReadyH.nil
      go_simp
      refine HCALL.out.mono ?_
      rintro e w4 ⟨hd4, hgr4⟩
      have hgr4' : wr.grownBy w4 (some sb) := grown_trans (grown_of_below (w' := wr.drew) (Below.refl _ _).drew) hgr4
      have HGR4 := Lib.hid (grown_trans HGR.out hgr4')
      have s1 : w4.cell? ⟨g1, j, none⟩ = some (.slice A1 n1 c1) := hgr4'.cell q1 (by simpa using ng1)
      have s2 : w4.cell? ⟨g2, j, none⟩ = some (.slice A2 n2 c2) := hgr4'.cell q2 (by simpa using ng2)
      clear hgr4 hgr4'
      rcases hd4 with ⟨rfl, T4, hst4, hok4⟩ | ⟨rfl, hno⟩
      · have HST4 := Lib.hid hst4
        have HOK4 : Hid (PairOk V ss T (L.take (j + 1)).flatten (M.take (j + 1)).flatten T4) := by
          show PairOk _ _ _ _ _ _
          rw [HTKL.out, HTKM.out]
          exact HOK.out.more hok4 HPL.out HPM.out
        clear hst4 hok4
        go_wp2_with fail
        refine hK.out _ _ ?_ (fun hHeld => ?_)
        · exact ⟨s1, s2⟩
        clear hK K
        refine takeH (i := 11) (v := ?_) rfl rfl (by kernel_rfl) (by kernel_rfl) (by kernel_rfl) (fun _ _ _ h => h) (by rfl) ?_ hHeld ?_
        rotate_left
        · (intro w hSw; (try dsimp only at hSw); first | (go_simp; done) | (go_simp; with_reducible rfl))
        simp only [Act.put, List.setIfInBounds_toArray, List.set_cons_zero, List.set_cons_succ]
        refine wpAnyH_done (by kernel_rfl) ?_ _
        go_wp2
        go_roundw
        case rel => exact ⟨j + 1, T4, by go_num, by omega, HST4.out, HOK4.out, HGR4.out⟩
        case measure => simp [intOf]; omega
      · have HNO : Hid (PairNo V ss T L.flatten M.flatten) := by
          show PairNo _ _ _ _ _
          rw [HDL.out, HDM.out]
          exact PairNo.later HOK.out (hno.first (HTL.out _ HML.out) (HTM.out _ HMM.out)) HPL.out HPM.out
        clear hno
        go_wp2_with fail
        refine hK.out _ _ ?_ (fun hHeld => ?_)
        · exact ⟨s1, s2⟩
        clear hK K
        refine takeH (i := 11) (v := ?_) rfl rfl (by kernel_rfl) (by kernel_rfl) (by kernel_rfl) (fun _ _ _ h => h) (by rfl) ?_ hHeld ?_
        rotate_left
        · (intro w hSw; (try dsimp only at hSw); first | (go_simp; done) | (go_simp; with_reducible rfl))
        simp only [Act.put, List.setIfInBounds_toArray, List.set_cons_zero, List.set_cons_succ]
        refine wpAnyH_done (by kernel_rfl) ?_ _
        go_wp2
        go_ret
        exact ⟨.inr ⟨rfl, HNO.out⟩, HGR4.out⟩
    · obtain rfl : j = N := by omega
      have HEND : Hid (PairOk V ss T L.flatten M.flatten T') := by
        have := HOK.out
        rw [List.take_of_length_le (by rw [← HNL.out]; omega), List.take_of_length_le (by rw [← HNM.out]; omega)] at this
        exact this
      go_wp2
      go_ret
      exact ⟨.inl ⟨rfl, T', HST'.out, HEND.out⟩, HGR.out⟩
end Go.Proofs.Ythppdeimmdiggaa
