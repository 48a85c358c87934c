/-
  Contracts of the reference: pair and all.
  Contract of the reference: pair.
  Contracts of the reference: Together, Unify.
-/
import Derived.Test.YtlpafnaokpjoiaaRefStore
import Derived.Test.YtlpafnaokpjoiaaPartsR2
import Derived.Test.YtlpafnaokpjoiaaBaseBind
import Derived.Test.YtlpafnaokpjoiaaBaseSym
namespace Go.Proofs.Ytlpafnaokpjoiaa
open Go.RowKit
set_option linter.unusedSimpArgs false
set_option linter.unusedVariables false
set_option maxRecDepth 100000

/-- pair's contract, for stores with at most U free variables, and rows that become at most K codes. -/
def PairH (V : Nat) (ss : List Sym) (A0 : Option Addr) (n0 c0 base sb : Nat) (U K : Nat) : Prop :=
  ∀ (T σ : Nat → List Int) (rk : Nat → Nat) (A1 A2 : Option Addr) (n1 c1 n2 c2 : Nat) (a b : List Int) (w : World), StoreAt w base sb T → Sto V ss T σ rk → SymsAt w base A0 n0 ss → RowAt w base A1 n1 c1 a → RowAt w base A2 n2 c2 b → trm V ss a 1 → trm V ss b 1 → unb V T ≤ U → (ap σ a).length ≤ K →
    Calls Try.prog 56 #[.pointer (some ⟨sb, 0, none⟩), .slice A0 n0 c0, .slice A1 n1 c1, .slice A2 n2 c2] w (PairPost V ss T base sb a b w)

set_option maxHeartbeats 600000 in
theorem refAll_of (V : Nat) (ss : List Sym) (A0 : Option Addr) (n0 c0 base sb ob U K : Nat) (h1 : PairH V ss A0 n0 c0 base sb U K) (h2 : ∀ U', U' < U → ∀ K', PairH V ss A0 n0 c0 base sb U' K')
    (T σ : Nat → List Int) (rk : Nat → Nat) (vL vM : Value) (L M : List (List Int)) (w : World) (hst : StoreAt w base sb T) (hs : Sto V ss T σ rk) (hsy : SymsAt w base A0 n0 ss) (hL : RowsAt w base ob vL L) (hM : RowsAt w base ob vM M) (hvL' : vL.ownBlock ≠ some sb) (hvM' : vM.ownBlock ≠ some sb) (hlen : L.length = M.length) (h48 : L.length ≤ 48)
    (tL : ∀ r ∈ L, trm V ss r 1) (tM : ∀ r ∈ M, trm V ss r 1) (hU : unb V T ≤ U) (hK : ∀ r ∈ L, (ap σ r).length ≤ K) :
    Calls Try.prog 42 #[.pointer (some ⟨sb, 0, none⟩), .slice A0 n0 c0, vL, vM] w (PairPost V ss T base sb L.flatten M.flatten w) := by
  have hle := hst.le
  have hbw0 : base ≤ w.heap.size := by have := hst.lt; omega
  have HH1 := Lib.hid h1
  have HH2 := Lib.hid h2
  have HST := Lib.hid hst
  have HS := Lib.hid hs
  have HSY := Lib.hid hsy
  have HLS := Lib.hid hL
  have HNL' := Lib.hid hvL'
  have HNM' := Lib.hid hvM'
  have HMS := Lib.hid hM
  have HTL := Lib.hid tL
  have HTM := Lib.hid tM
  have HU := Lib.hid hU
  have HKK := Lib.hid hK
  obtain ⟨AL, cL, hvL⟩ := hL.value
  obtain ⟨AM, cM, hvM⟩ := hM.value
  obtain ⟨N, hNe⟩ : ∃ N, N = L.length := ⟨_, rfl⟩
  rw [← hNe] at hvL hlen h48
  rw [← hlen] at hvM
  have HNL := Lib.hid hNe
  have HNM := Lib.hid hlen
  subst hvL; subst hvM
  clear h1 h2 hst hs hsy hL hM tL tM hU hK hNe hlen hvL' hvM'
  go_enter Try.func42, Try.ntmps42
  go_wp2
  go_loopw [9] (fun i wr => ∃ (j : Nat) (T' : Nat → List Int), i = .int .i64 (j : Int) ∧ j ≤ N ∧ StoreAt wr base sb T' ∧ PairOk V ss T (L.take j).flatten (M.take j).flatten T' ∧ w.grownBy wr (some sb)) (fun i _ => N - (intOf i).toNat)
  case atStart => exact ⟨0, T, rfl, by omega, HST.out, PairOk.rfl_, grown_refl⟩
  case round =>
    obtain ⟨j, T', rfl, hj, hst', hok, hgr⟩ := hrel
    have HST' := Lib.hid hst'
    have HOK := Lib.hid hok
    have HGR := Lib.hid hgr
    have hszr := hgr.size
    clear hst' hok hgr
    by_cases hlt : j < N
    · have hjL : j < L.length := by rw [← HNL.out]; exact hlt
      have hjM : j < M.length := by rw [← HNM.out]; exact hlt
      have HML := Lib.hid (rowOf_mem hjL)
      have HMM := Lib.hid (rowOf_mem hjM)
      have HTKL := Lib.hid (rowOf_take hjL)
      have HTKM := Lib.hid (rowOf_take hjM)
      have HDL := Lib.hid (rowOf_drop hjL)
      have HDM := Lib.hid (rowOf_drop hjM)
      have HPL : Hid (trm V ss (L.take j).flatten j) := by
        have := trm_flatten (V := V) (ss := ss) (L := L.take j) (fun r hr => HTL.out r (List.mem_of_mem_take hr))
        rw [List.length_take, Nat.min_eq_left (by omega)] at this
        exact this
      have HPM : Hid (trm V ss (M.take j).flatten j) := by
        have := trm_flatten (V := V) (ss := ss) (L := M.take j) (fun r hr => HTM.out r (List.mem_of_mem_take hr))
        rw [List.length_take, Nat.min_eq_left (by omega)] at this
        exact this
      have HLR := Lib.hid (HLS.out.grown HGR.out hle hbw0 HNL'.out)
      have HMR := Lib.hid (HMS.out.grown HGR.out hle hbw0 HNM'.out)
      obtain ⟨g1, k1, A1, n1, c1, e1, hg1, q1, r1⟩ := HLR.out.cell hjL
      obtain ⟨g2, k2, A2, n2, c2, e2, hg2, q2, r2⟩ := HMR.out.cell hjM
      simp only [Value.slice.injEq] at e1 e2
      obtain ⟨rfl, -, rfl⟩ := e1
      obtain ⟨rfl, -, rfl⟩ := e2
      have ng1 : g1 ≠ sb := fun e => HNL'.out (by simp [Value.ownBlock, e])
      have ng2 : g2 ≠ sb := fun e => HNM'.out (by simp [Value.ownBlock, e])
      have HR1 := Lib.hid r1
      have HR2 := Lib.hid r2
      have HSYR := Lib.hid (HSY.out.grownS HGR.out hle hbw0)
      have i0 : (0 : Int) ≤ (j : Int) := by omega
      have i1 : (j : Int) < (N : Int) := by omega
      have HJL := Lib.hid hjL
      have HJM := Lib.hid hjM
      have HCALL : Hid (Calls Try.prog 56 #[.pointer (some ⟨sb, 0, none⟩), .slice A0 n0 c0, .slice A1 n1 c1, .slice A2 n2 c2] wr.drew (PairPost V ss T' base sb (rowOf L j) (rowOf M j) wr.drew)) := by
        have hd : Below wr.heap.size wr wr.drew := (Below.refl _ _).drew
        rcases HOK.out.2 with e | ⟨hun, σ', rk', hs'⟩
        · rw [e]
          have hst2 := HST'.out
          rw [e] at hst2
          exact HH1.out T σ rk A1 A2 n1 c1 n2 c2 _ _ _ (hst2.on hd) HS.out HSYR.out.drew (HR1.out.below (Below.refl _ _).drew) (HR2.out.below (Below.refl _ _).drew) (HTL.out _ HML.out) (HTM.out _ HMM.out) HU.out (HKK.out _ HML.out)
        · exact HH2.out (unb V T') (by have := HU.out; omega) _ T' σ' rk' A1 A2 n1 c1 n2 c2 _ _ _ (HST'.out.on hd) hs' HSYR.out.drew (HR1.out.below (Below.refl _ _).drew) (HR2.out.below (Below.refl _ _).drew) (HTL.out _ HML.out) (HTM.out _ HMM.out) (Nat.le_refl _) (Nat.le_refl _)
      clear hjL hjM r1 r2
      go_wp2_with fail
      refine wp_region_held_drew (S := (fun w' => w'.cell? ⟨g1, j, none⟩ = some (.slice A1 n1 c1) ∧ w'.cell? ⟨g2, j, none⟩ = some (.slice A2 n2 c2))) (by kernel_rfl) ⟨q1, q2⟩ (fun hHeld => ?_)
      refine takeH (i := 0) (v := ?_) rfl rfl (by kernel_rfl) (by kernel_rfl) (by kernel_rfl) (fun _ _ _ h => h) (by rfl) ?_ hHeld ?_
      rotate_left
      · (intro w hSw; (try dsimp only at hSw); first | (go_simp; done) | (go_simp; with_reducible rfl))
      simp only [Act.put, List.setIfInBounds_toArray, List.set_cons_zero, List.set_cons_succ]
      refine takeH (i := 1) (v := ?_) rfl rfl (by kernel_rfl) (by kernel_rfl) (by kernel_rfl) (fun _ _ _ h => h) (by rfl) ?_ hHeld ?_
      rotate_left
      · (intro w hSw; (try dsimp only at hSw); first | (go_simp; done) | (go_simp; with_reducible rfl))
      simp only [Act.put, List.setIfInBounds_toArray, List.set_cons_zero, List.set_cons_succ]
      refine takeH (i := 2) (v := ?_) rfl rfl (by kernel_rfl) (by kernel_rfl) (by kernel_rfl) (fun _ _ _ h => h) (by rfl) ?_ hHeld ?_
      rotate_left
      · (intro w hSw; (try dsimp only at hSw); first | (go_simp; done) | (go_simp; with_reducible rfl))
      simp only [Act.put, List.setIfInBounds_toArray, List.set_cons_zero, List.set_cons_succ]
      refine takeH (i := 3) (v := ?_) rfl rfl (by kernel_rfl) (by kernel_rfl) (by kernel_rfl) (fun _ _ _ h => h) (by rfl) ?_ hHeld ?_
      rotate_left
      · (intro w hSw; (try dsimp only at hSw); first | (go_simp; done) | (go_simp; with_reducible rfl))
      simp only [Act.put, List.setIfInBounds_toArray, List.set_cons_zero, List.set_cons_succ]
      refine takeH (i := 4) (v := ?_) rfl rfl (by kernel_rfl) (by kernel_rfl) (by kernel_rfl) (fun _ _ _ h => h) (by rfl) ?_ hHeld ?_
      rotate_left
      · (intro w hSw; (try dsimp only at hSw); first | (go_simp; done) | (go_simp; with_reducible rfl))
      simp only [Act.put, List.setIfInBounds_toArray, List.set_cons_zero, List.set_cons_succ]
      refine takeH (i := 5) (v := ?_) rfl rfl (by kernel_rfl) (by kernel_rfl) (by kernel_rfl) (fun _ _ _ h => h) (by rfl) ?_ hHeld ?_
      rotate_left
      · (intro w hSw; (try dsimp only at hSw); first | (go_simp; done) | (go_simp; with_reducible rfl))
      simp only [Act.put, List.setIfInBounds_toArray, List.set_cons_zero, List.set_cons_succ]
      refine takeH (i := 6) (v := ?_) rfl rfl (by kernel_rfl) (by kernel_rfl) (by kernel_rfl) (fun _ _ _ h => h) (by rfl) ?_ hHeld ?_
      rotate_left
      · (intro w hSw; (try dsimp only at hSw); first | (go_simp; done) | (go_simp; with_reducible rfl))
      simp only [Act.put, List.setIfInBounds_toArray, List.set_cons_zero, List.set_cons_succ]
      refine takeH (i := 7) (v := ?_) rfl rfl (by kernel_rfl) (by kernel_rfl) (by kernel_rfl) (fun _ _ _ h => h) (by rfl) ?_ hHeld ?_
      rotate_left
      · (intro w hSw; (try dsimp only at hSw); first | (go_simp; done) | (go_simp; with_reducible rfl))
      simp only [Act.put, List.setIfInBounds_toArray, List.set_cons_zero, List.set_cons_succ]
      refine takeH (i := 8) (v := ?_) rfl rfl (by kernel_rfl) (by kernel_rfl) (by kernel_rfl) (fun _ _ _ h => h) (by rfl) ?_ hHeld ?_
      rotate_left
      · (intro w hSw; (try dsimp only at hSw); first | (go_simp; done) | (go_simp; with_reducible rfl))
      simp only [Act.put, List.setIfInBounds_toArray, List.set_cons_zero, List.set_cons_succ]
      refine takeH (i := 9) (v := ?_) rfl rfl (by kernel_rfl) (by kernel_rfl) (by kernel_rfl) (fun _ _ _ h => h) (by rfl) ?_ hHeld ?_
      rotate_left
      · (intro w hSw; (try dsimp only at hSw); first | (go_simp; done) | (go_simp; with_reducible rfl))
      simp only [Act.put, List.setIfInBounds_toArray, List.set_cons_zero, List.set_cons_succ]
      refine wpAnyH_ready (rs := [10]) (by kernel_rfl) (by simp) ?_
      refine AllReadyH.cons rfl (fun K hK => ?_) AllReadyH.nil
      go_simp
      refine HCALL.out.mono ?_
      rintro e w4 ⟨hd4, hgr4⟩
      have hgr4' : wr.grownBy w4 (some sb) := grown_trans (grown_of_below (w' := wr.drew) (Below.refl _ _).drew) hgr4
      have HGR4 := Lib.hid (grown_trans HGR.out hgr4')
      have s1 : w4.cell? ⟨g1, j, none⟩ = some (.slice A1 n1 c1) := hgr4'.cell q1 (by simpa using ng1)
      have s2 : w4.cell? ⟨g2, j, none⟩ = some (.slice A2 n2 c2) := hgr4'.cell q2 (by simpa using ng2)
      clear hgr4 hgr4'
      rcases hd4 with ⟨rfl, T4, hst4, hok4⟩ | ⟨rfl, hno⟩
      · have HST4 := Lib.hid hst4
        have HOK4 : Hid (PairOk V ss T (L.take (j + 1)).flatten (M.take (j + 1)).flatten T4) := by
          show PairOk _ _ _ _ _ _
          rw [HTKL.out, HTKM.out]
          exact HOK.out.more hok4 HPL.out HPM.out
        clear hst4 hok4
        go_wp2_with fail
        refine hK.out _ _ ?_ (fun hHeld => ?_)
        · exact ⟨s1, s2⟩
        clear hK K
        refine takeH (i := 11) (v := ?_) rfl rfl (by kernel_rfl) (by kernel_rfl) (by kernel_rfl) (fun _ _ _ h => h) (by rfl) ?_ hHeld ?_
        rotate_left
        · (intro w hSw; (try dsimp only at hSw); first | (go_simp; done) | (go_simp; with_reducible rfl))
        simp only [Act.put, List.setIfInBounds_toArray, List.set_cons_zero, List.set_cons_succ]
        refine wpAnyH_done (by kernel_rfl) ?_ _
        go_wp2
        go_roundw
        case rel => exact ⟨j + 1, T4, by go_num, by omega, HST4.out, HOK4.out, HGR4.out⟩
        case measure => simp [intOf]; omega
      · have HNO : Hid (PairNo V ss T L.flatten M.flatten) := by
          show PairNo _ _ _ _ _
          rw [HDL.out, HDM.out]
          exact PairNo.later HOK.out (hno.first (HTL.out _ HML.out) (HTM.out _ HMM.out)) HPL.out HPM.out
        clear hno
        go_wp2_with fail
        refine hK.out _ _ ?_ (fun hHeld => ?_)
        · exact ⟨s1, s2⟩
        clear hK K
        refine takeH (i := 11) (v := ?_) rfl rfl (by kernel_rfl) (by kernel_rfl) (by kernel_rfl) (fun _ _ _ h => h) (by rfl) ?_ hHeld ?_
        rotate_left
        · (intro w hSw; (try dsimp only at hSw); first | (go_simp; done) | (go_simp; with_reducible rfl))
        simp only [Act.put, List.setIfInBounds_toArray, List.set_cons_zero, List.set_cons_succ]
        refine wpAnyH_done (by kernel_rfl) ?_ _
        go_wp2
        go_ret
        exact ⟨.inr ⟨rfl, HNO.out⟩, HGR4.out⟩
    · obtain rfl : j = N := by omega
      have HEND : Hid (PairOk V ss T L.flatten M.flatten T') := by
        have := HOK.out
        rw [List.take_of_length_le (by rw [← HNL.out]; omega), List.take_of_length_le (by rw [← HNM.out]; omega)] at this
        exact this
      go_wp2
      go_ret
      exact ⟨.inl ⟨rfl, T', HST'.out, HEND.out⟩, HGR.out⟩
end Go.Proofs.Ytlpafnaokpjoiaa

namespace Go.Proofs.Ytlpafnaokpjoiaa
open Go.RowKit
set_option linter.unusedSimpArgs false
set_option linter.unusedVariables false
set_option maxRecDepth 100000

theorem PairPost.of {V : Nat} {ss : List Sym} {T σ : Nat → List Int} {base sb : Nat} {a b a' b' : List Int} {w w1 w2 : World} {e : Ending} (ha : Wlk V ss T σ a a') (hb : Wlk V ss T σ b b') (hbl : Below w.heap.size w w1) (h : PairPost V ss T base sb a' b' w1 e w2) : PairPost V ss T base sb a b w e w2 := by
  refine ⟨?_, grown_trans (grown_of_below hbl) h.2⟩
  rcases h.1 with ⟨he, T', h1, h2⟩ | ⟨he, h1⟩
  · exact .inl ⟨he, T', h1, h2.walk ha hb⟩
  · exact .inr ⟨he, h1.walk ha hb⟩
theorem PairPost.symm {V : Nat} {ss : List Sym} {T : Nat → List Int} {base sb : Nat} {a b : List Int} {w w2 : World} {e : Ending} (h : PairPost V ss T base sb a b w e w2) : PairPost V ss T base sb b a w e w2 := by
  refine ⟨?_, h.2⟩
  rcases h.1 with ⟨he, T', h1, h2⟩ | ⟨he, h1⟩
  · exact .inl ⟨he, T', h1, h2.symm⟩
  · exact .inr ⟨he, h1.symm⟩
theorem PairPost.value {V : Nat} {ss : List Sym} {T : Nat → List Int} {base sb : Nat} {a b : List Int} {w w2 : World} {e : Ending} (h : PairPost V ss T base sb a b w e w2) : ∃ x, e = .returned (.bool x) := by
  rcases h.1 with ⟨he, _⟩ | ⟨he, _⟩
  · exact ⟨_, he⟩
  · exact ⟨_, he⟩
set_option maxHeartbeats 1000000 in
theorem refPair_all (V : Nat) (ss : List Sym) (A0 : Option Addr) (n0 c0 base sb : Nat) (hV : V ≤ 48) (hmay : mayB ss = true) (hn0 : n0 ≤ maxLen) : ∀ U K, PairH V ss A0 n0 c0 base sb U K := by
  have HM := Lib.hid hmay
  clear hmay
  intro U
  induction U using Nat.strongRecOn with
  | _ U ihU =>
  intro K
  induction K with
  | zero =>
    intro T σ rk A1 A2 n1 c1 n2 c2 a b w hst hs hsy h1 h2 t1 t2 hU hK
    have := trm_pos (trm_ap hs.sub t1)
    omega
  | succ K ihK =>
    intro T σ rk A1 A2 n1 c1 n2 c2 a b w hst hs hsy h1 h2 t1 t2 hU hK
    have HIU := Lib.hid ihU
    have HIK := Lib.hid ihK
    have HST := Lib.hid hst
    have HS := Lib.hid hs
    have HSY := Lib.hid hsy
    have HR1 := Lib.hid h1
    have HR2 := Lib.hid h2
    have HT1 := Lib.hid t1
    have HT2 := Lib.hid t2
    have HU := Lib.hid hU
    have HK := Lib.hid hK
    have hle := hst.le
    have hbw0 : base ≤ w.heap.size := by have := hst.lt; omega
    clear ihU ihK hst hs hsy h1 h2 t1 t2 hU hK
    go_enter Try.func56, Try.ntmps56
    go_wp2_with fail
    refine (refWalk_any V ss T σ rk A1 n1 c1 base sb a w HST.out HS.out hV HR1.out HT1.out).mono ?_
    rintro e w1 ⟨B1, m1, d1, a', rfl, hra, hwa, hfa, hb1⟩
    have HRA := Lib.hid hra
    have HWA := Lib.hid hwa
    have HFA := Lib.hid hfa
    have HB1 := Lib.hid hb1
    have HST1 := Lib.hid (HST.out.on hb1)
    have hsz1 := hb1.size
    clear hra hwa hfa hb1
    go_wp2_with fail
    refine (refWalk_any V ss T σ rk A2 n2 c2 base sb b w1 HST1.out HS.out hV (HR2.out.below (HB1.out.mono hbw0)) HT2.out).mono ?_
    rintro e w2 ⟨B2, m2, d2, b', rfl, hrb, hwb, hfb, hb2⟩
    have HRB := Lib.hid hrb
    have HWB := Lib.hid hwb
    have HFB := Lib.hid hfb
    have HB2 := Lib.hid (HB1.out.trans (hb2.mono HB1.out.size))
    replace HRA := Lib.hid (HRA.out.below (hb2.mono (by omega)))
    have HST2 := Lib.hid (HST1.out.on hb2)
    clear hrb hwb hfb hb2 HST1 HB1
    have hm1 := HRA.out.few
    have hm2 := HRB.out.few
    go_wp2_with fail
    refine (refSame_any B1 B2 m1 d1 m2 d2 _ _ _ _ _ HRA.out.at_ HRB.out.at_ (by unfold maxLen; omega) (by unfold maxLen; omega)).mono ?_
    rintro e w3 ⟨rfl, hb3⟩
    have hb3' : Below base w2 w3 := hb3.mono (by have := HB2.out.size; omega)
    have HRA3 := Lib.hid (HRA.out.below hb3')
    have HRB3 := Lib.hid (HRB.out.below hb3')
    have HST3 := Lib.hid (HST2.out.on hb3)
    have HB3 := Lib.hid (HB2.out.trans (hb3.mono HB2.out.size))
    have HSY3 := Lib.hid (HSY.out.below (HB3.out.mono hbw0))
    have hsz3 := HB3.out.size
    clear hb3 hb3' HRA HRB HST2 HB2
    cases hsm : sameI a' b'
    · have HNE : Hid (a' ≠ b') := fun e => by rw [e, sameI_self] at hsm; cases hsm
      clear hsm
      have HONE := Lib.hid HWA.out.one
      have HONEB := Lib.hid HWB.out.one
      rcases HFA.out with ⟨v, hv, hv', hfv⟩ | ⟨x, s, hx', hx0⟩
      · rcases HFB.out with ⟨u, hu, hu', hfu⟩ | ⟨y, t, hy', hy0⟩
        · subst hv'; subst hu'
          obtain ⟨rfl, g1, p1, rfl, hg1, q1⟩ := HRA3.out.var
          obtain ⟨rfl, g2, p2, rfl, hg2, q2⟩ := HRB3.out.var
          have hvu : v ≠ u := fun e => HNE.out (by rw [e])
          have HFV := Lib.hid hfv
          have HFU := Lib.hid hfu
          clear hfv hfu
          by_cases hlt : u < v
          · have HCALL := Lib.hid (refPair1_both V ss T σ rk _ _ 1 d2 1 d1 base sb u v w3.drew (HST3.out.on (Below.refl _ _).drew) HS.out hV hu hv (HRB3.out.below (Below.refl _ _).drew) (HRA3.out.below (Below.refl _ _).drew) hlt HFU.out HFV.out)
            go_wp2_with fail
            have k1 : decide (-1 - (v : Int) < 0) = true := decide_eq_true (by omega)
            have k2 : decide (-1 - (u : Int) < 0) = true := decide_eq_true (by omega)
            have k3 : decide (-1 - (v : Int) < -1 - (u : Int)) = true := decide_eq_true (by omega)
            refine wp_region_held_drew (S := (fun w' => w'.cell? ⟨g1, p1, none⟩ = some (.int .i64 (-1 - (v : Int))) ∧ w'.cell? ⟨g2, p2, none⟩ = some (.int .i64 (-1 - (u : Int))))) (by kernel_rfl) ⟨q1, q2⟩ (fun hHeld => ?_)
            refine takeH (i := 0) (v := ?_) rfl rfl (by kernel_rfl) (by kernel_rfl) (by kernel_rfl) (fun _ _ _ h => h) (by rfl) ?_ hHeld ?_
            rotate_left
            · (intro w hSw; (try dsimp only at hSw); first | (go_simp; done) | (go_simp; with_reducible rfl))
            simp only [Act.put, List.setIfInBounds_toArray, List.set_cons_zero, List.set_cons_succ]
            refine takeH (i := 1) (v := ?_) rfl rfl (by kernel_rfl) (by kernel_rfl) (by kernel_rfl) (fun _ _ _ h => h) (by rfl) ?_ hHeld ?_
            rotate_left
            · (intro w hSw; (try dsimp only at hSw); first | (go_simp; done) | (go_simp; with_reducible rfl))
            simp only [Act.put, List.setIfInBounds_toArray, List.set_cons_zero, List.set_cons_succ]
            refine takeH (i := 2) (v := ?_) rfl rfl (by kernel_rfl) (by kernel_rfl) (by kernel_rfl) (fun _ _ _ h => h) (by rfl) ?_ hHeld ?_
            rotate_left
            · (intro w hSw; (try dsimp only at hSw); first | (go_simp; done) | (go_simp; with_reducible rfl))
            simp only [Act.put, List.setIfInBounds_toArray, List.set_cons_zero, List.set_cons_succ]
            refine takeH (i := 3) (v := ?_) rfl rfl (by kernel_rfl) (by kernel_rfl) (by kernel_rfl) (fun _ _ _ h => h) (by rfl) ?_ hHeld ?_
            rotate_left
            · (intro w hSw; (try dsimp only at hSw); first | (go_simp; done) | (go_simp; with_reducible rfl))
            simp only [Act.put, List.setIfInBounds_toArray, List.set_cons_zero, List.set_cons_succ]
            refine takeH (i := 4) (v := ?_) rfl rfl (by kernel_rfl) (by kernel_rfl) (by kernel_rfl) (fun _ _ _ h => h) (by rfl) ?_ hHeld ?_
            rotate_left
            · (intro w hSw; (try dsimp only at hSw); first | (go_simp; done) | (go_simp; with_reducible rfl))
            simp only [Act.put, List.setIfInBounds_toArray, List.set_cons_zero, List.set_cons_succ]
            refine takeH (i := 5) (v := ?_) rfl rfl (by kernel_rfl) (by kernel_rfl) (by kernel_rfl) (fun _ _ _ h => h) (by rfl) ?_ hHeld ?_
            rotate_left
            · (intro w hSw; (try dsimp only at hSw); first | (go_simp; done) | (go_simp; with_reducible rfl))
            simp only [Act.put, List.setIfInBounds_toArray, List.set_cons_zero, List.set_cons_succ]
            refine takeH (i := 6) (v := ?_) rfl rfl (by kernel_rfl) (by kernel_rfl) (by kernel_rfl) (fun _ _ _ h => h) (by rfl) ?_ hHeld ?_
            rotate_left
            · (intro w hSw; (try dsimp only at hSw); first | (go_simp; done) | (go_simp; with_reducible rfl))
            simp only [Act.put, List.setIfInBounds_toArray, List.set_cons_zero, List.set_cons_succ]
            refine takeH (i := 7) (v := ?_) rfl rfl (by kernel_rfl) (by kernel_rfl) (by kernel_rfl) (fun _ _ _ h => h) (by rfl) ?_ hHeld ?_
            rotate_left
            · (intro w hSw; (try dsimp only at hSw); first | (go_simp; done) | (go_simp; with_reducible rfl))
            simp only [Act.put, List.setIfInBounds_toArray, List.set_cons_zero, List.set_cons_succ]
            refine takeH (i := 8) (v := ?_) rfl rfl (by kernel_rfl) (by kernel_rfl) (by kernel_rfl) (fun _ _ _ h => h) (by rfl) ?_ hHeld ?_
            rotate_left
            · (intro w hSw; (try dsimp only at hSw); first | (go_simp; done) | (go_simp; with_reducible rfl))
            simp only [Act.put, List.setIfInBounds_toArray, List.set_cons_zero, List.set_cons_succ]
            refine takeH (i := 9) (v := ?_) rfl rfl (by kernel_rfl) (by kernel_rfl) (by kernel_rfl) (fun _ _ _ h => h) (by rfl) ?_ hHeld ?_
            rotate_left
            · (intro w hSw; (try dsimp only at hSw); first | (go_simp; done) | (go_simp; with_reducible rfl))
            simp only [Act.put, List.setIfInBounds_toArray, List.set_cons_zero, List.set_cons_succ]
            refine takeH (i := 10) (v := ?_) rfl rfl (by kernel_rfl) (by kernel_rfl) (by kernel_rfl) (fun _ _ _ h => h) (by rfl) ?_ hHeld ?_
            rotate_left
            · (intro w hSw; (try dsimp only at hSw); first | (go_simp; done) | (go_simp; with_reducible rfl))
            simp only [Act.put, List.setIfInBounds_toArray, List.set_cons_zero, List.set_cons_succ]
            refine takeH (i := 11) (v := ?_) rfl rfl (by kernel_rfl) (by kernel_rfl) (by kernel_rfl) (fun _ _ _ h => h) (by rfl) ?_ hHeld ?_
            rotate_left
            · (intro w hSw; (try dsimp only at hSw); first | (go_simp; done) | (go_simp; with_reducible rfl))
            simp only [Act.put, List.setIfInBounds_toArray, List.set_cons_zero, List.set_cons_succ]
            refine takeH (i := 12) (v := ?_) rfl rfl (by kernel_rfl) (by kernel_rfl) (by kernel_rfl) (fun _ _ _ h => h) (by rfl) ?_ hHeld ?_
            rotate_left
            · (intro w hSw; (try dsimp only at hSw); first | (go_simp; done) | (go_simp; with_reducible rfl))
            simp only [Act.put, List.setIfInBounds_toArray, List.set_cons_zero, List.set_cons_succ]
            refine takeH (i := 13) (v := ?_) rfl rfl (by kernel_rfl) (by kernel_rfl) (by kernel_rfl) (fun _ _ _ h => h) (by rfl) ?_ hHeld ?_
            rotate_left
            · (intro w hSw; (try dsimp only at hSw); first | (go_simp; done) | (go_simp; with_reducible rfl))
            simp only [Act.put, List.setIfInBounds_toArray, List.set_cons_zero, List.set_cons_succ]
            refine takeH (i := 14) (v := ?_) rfl rfl (by kernel_rfl) (by kernel_rfl) (by kernel_rfl) (fun _ _ _ h => h) (by rfl) ?_ hHeld ?_
            rotate_left
            · (intro w hSw; (try dsimp only at hSw); first | (go_simp; done) | (go_simp; with_reducible rfl))
            simp only [Act.put, List.setIfInBounds_toArray, List.set_cons_zero, List.set_cons_succ]
            refine takeH (i := 15) (v := ?_) rfl rfl (by kernel_rfl) (by kernel_rfl) (by kernel_rfl) (fun _ _ _ h => h) (by rfl) ?_ hHeld ?_
            rotate_left
            · (intro w hSw; (try dsimp only at hSw); first | (go_simp; done) | (go_simp; with_reducible rfl))
            simp only [Act.put, List.setIfInBounds_toArray, List.set_cons_zero, List.set_cons_succ]
            refine takeH (i := 16) (v := ?_) rfl rfl (by kernel_rfl) (by kernel_rfl) (by kernel_rfl) (fun _ _ _ h => h) (by rfl) ?_ hHeld ?_
            rotate_left
            · (intro w hSw; (try dsimp only at hSw); first | (go_simp; done) | (go_simp; with_reducible rfl))
            simp only [Act.put, List.setIfInBounds_toArray, List.set_cons_zero, List.set_cons_succ]
            refine takeH (i := 17) (v := ?_) rfl rfl (by kernel_rfl) (by kernel_rfl) (by kernel_rfl) (fun _ _ _ h => h) (by rfl) ?_ hHeld ?_
            rotate_left
            · (intro w hSw; (try dsimp only at hSw); first | (go_simp; done) | (go_simp; with_reducible rfl))
            simp only [Act.put, List.setIfInBounds_toArray, List.set_cons_zero, List.set_cons_succ]
            refine takeH (i := 18) (v := ?_) rfl rfl (by kernel_rfl) (by kernel_rfl) (by kernel_rfl) (fun _ _ _ h => h) (by rfl) ?_ hHeld ?_
            rotate_left
            · (intro w hSw; (try dsimp only at hSw); first | (go_simp; done) | (go_simp; with_reducible rfl))
            simp only [Act.put, List.setIfInBounds_toArray, List.set_cons_zero, List.set_cons_succ]
            refine takeH (i := 19) (v := ?_) rfl rfl (by kernel_rfl) (by kernel_rfl) (by kernel_rfl) (fun _ _ _ h => h) (by rfl) ?_ hHeld ?_
            rotate_left
            · (intro w hSw; (try dsimp only at hSw); first | (go_simp; done) | (go_simp; with_reducible rfl))
            simp only [Act.put, List.setIfInBounds_toArray, List.set_cons_zero, List.set_cons_succ]
            refine passH (i := 20) rfl rfl (by kernel_rfl) (by kernel_rfl) (by kernel_rfl) (fun _ _ _ h => h) (by rfl) hHeld ?_
            simp only [Act.put, List.setIfInBounds_toArray, List.set_cons_zero, List.set_cons_succ]
            refine passH (i := 21) rfl rfl (by kernel_rfl) (by kernel_rfl) (by kernel_rfl) (fun _ _ _ h => h) (by rfl) hHeld ?_
            simp only [Act.put, List.setIfInBounds_toArray, List.set_cons_zero, List.set_cons_succ]
            refine passH (i := 22) rfl rfl (by kernel_rfl) (by kernel_rfl) (by kernel_rfl) (fun _ _ _ h => h) (by rfl) hHeld ?_
            simp only [Act.put, List.setIfInBounds_toArray, List.set_cons_zero, List.set_cons_succ]
            refine passH (i := 23) rfl rfl (by kernel_rfl) (by kernel_rfl) (by kernel_rfl) (fun _ _ _ h => h) (by rfl) hHeld ?_
            simp only [Act.put, List.setIfInBounds_toArray, List.set_cons_zero, List.set_cons_succ]
            refine passH (i := 24) rfl rfl (by kernel_rfl) (by kernel_rfl) (by kernel_rfl) (fun _ _ _ h => h) (by rfl) hHeld ?_
            simp only [Act.put, List.setIfInBounds_toArray, List.set_cons_zero, List.set_cons_succ]
            refine passH (i := 25) rfl rfl (by kernel_rfl) (by kernel_rfl) (by kernel_rfl) (fun _ _ _ h => h) (by rfl) hHeld ?_
            simp only [Act.put, List.setIfInBounds_toArray, List.set_cons_zero, List.set_cons_succ]
            refine passH (i := 26) rfl rfl (by kernel_rfl) (by kernel_rfl) (by kernel_rfl) (fun _ _ _ h => h) (by rfl) hHeld ?_
            simp only [Act.put, List.setIfInBounds_toArray, List.set_cons_zero, List.set_cons_succ]
            refine passH (i := 27) rfl rfl (by kernel_rfl) (by kernel_rfl) (by kernel_rfl) (fun _ _ _ h => h) (by rfl) hHeld ?_
            simp only [Act.put, List.setIfInBounds_toArray, List.set_cons_zero, List.set_cons_succ]
            refine passH (i := 28) rfl rfl (by kernel_rfl) (by kernel_rfl) (by kernel_rfl) (fun _ _ _ h => h) (by rfl) hHeld ?_
            simp only [Act.put, List.setIfInBounds_toArray, List.set_cons_zero, List.set_cons_succ]
            refine passH (i := 29) rfl rfl (by kernel_rfl) (by kernel_rfl) (by kernel_rfl) (fun _ _ _ h => h) (by rfl) hHeld ?_
            simp only [Act.put, List.setIfInBounds_toArray, List.set_cons_zero, List.set_cons_succ]
            refine takeH (i := 30) (v := ?_) rfl rfl (by kernel_rfl) (by kernel_rfl) (by kernel_rfl) (fun _ _ _ h => h) (by rfl) ?_ hHeld ?_
            rotate_left
            · (intro w hSw; (try dsimp only at hSw); first | (go_simp; done) | (go_simp; with_reducible rfl))
            simp only [Act.put, List.setIfInBounds_toArray, List.set_cons_zero, List.set_cons_succ]
            refine wpAnyH_done (by kernel_rfl) ?_ _
            go_wp2_with fail
            refine HCALL.out.mono ?_
            rintro e w5 hp
            obtain ⟨bb, rfl⟩ := hp.value
            have HP := Lib.hid (PairPost.of HWA.out HWB.out HB3.out.drew hp)
            clear hp
            go_wp2
            go_ret
            exact HP.out
          · have HCALL := Lib.hid (refPair1_both V ss T σ rk _ _ 1 d1 1 d2 base sb v u w3.drew (HST3.out.on (Below.refl _ _).drew) HS.out hV hv hu (HRA3.out.below (Below.refl _ _).drew) (HRB3.out.below (Below.refl _ _).drew) (by omega) HFV.out HFU.out)
            obtain ⟨xv, hxv⟩ : ∃ xv, xv = -1 - (v : Int) := ⟨_, rfl⟩
            obtain ⟨yu, hyu⟩ : ∃ yu, yu = -1 - (u : Int) := ⟨_, rfl⟩
            rw [← hxv] at q1
            rw [← hyu] at q2
            have hxn : xv < 0 := by omega
            have hyn : yu < 0 := by omega
            have HXY : Hid (¬ xv < yu) := by show ¬ xv < yu; omega
            clear hxv hyu
            go_wp2_with fail
            have k1 : decide (xv < 0) = true := decide_eq_true hxn
            have k2 : decide (yu < 0) = true := decide_eq_true hyn
            have k3 : decide (xv < yu) = false := decide_eq_false (by have := HXY.out; omega)
            have k4 : decide ((0 : Int) ≤ xv) = false := decide_eq_false (by omega)
            refine wp_region_held_drew (S := (fun w' => w'.cell? ⟨g1, p1, none⟩ = some (.int .i64 xv) ∧ w'.cell? ⟨g2, p2, none⟩ = some (.int .i64 yu))) (by kernel_rfl) ⟨q1, q2⟩ (fun hHeld => ?_)
            refine takeH (i := 0) (v := ?_) rfl rfl (by kernel_rfl) (by kernel_rfl) (by kernel_rfl) (fun _ _ _ h => h) (by rfl) ?_ hHeld ?_
            rotate_left
            · (intro w hSw; (try dsimp only at hSw); first | (go_simp; done) | (go_simp; with_reducible rfl))
            simp only [Act.put, List.setIfInBounds_toArray, List.set_cons_zero, List.set_cons_succ]
            refine takeH (i := 1) (v := ?_) rfl rfl (by kernel_rfl) (by kernel_rfl) (by kernel_rfl) (fun _ _ _ h => h) (by rfl) ?_ hHeld ?_
            rotate_left
            · (intro w hSw; (try dsimp only at hSw); first | (go_simp; done) | (go_simp; with_reducible rfl))
            simp only [Act.put, List.setIfInBounds_toArray, List.set_cons_zero, List.set_cons_succ]
            refine takeH (i := 2) (v := ?_) rfl rfl (by kernel_rfl) (by kernel_rfl) (by kernel_rfl) (fun _ _ _ h => h) (by rfl) ?_ hHeld ?_
            rotate_left
            · (intro w hSw; (try dsimp only at hSw); first | (go_simp; done) | (go_simp; with_reducible rfl))
            simp only [Act.put, List.setIfInBounds_toArray, List.set_cons_zero, List.set_cons_succ]
            refine takeH (i := 3) (v := ?_) rfl rfl (by kernel_rfl) (by kernel_rfl) (by kernel_rfl) (fun _ _ _ h => h) (by rfl) ?_ hHeld ?_
            rotate_left
            · (intro w hSw; (try dsimp only at hSw); first | (go_simp; done) | (go_simp; with_reducible rfl))
            simp only [Act.put, List.setIfInBounds_toArray, List.set_cons_zero, List.set_cons_succ]
            refine takeH (i := 4) (v := ?_) rfl rfl (by kernel_rfl) (by kernel_rfl) (by kernel_rfl) (fun _ _ _ h => h) (by rfl) ?_ hHeld ?_
            rotate_left
            · (intro w hSw; (try dsimp only at hSw); first | (go_simp; done) | (go_simp; with_reducible rfl))
            simp only [Act.put, List.setIfInBounds_toArray, List.set_cons_zero, List.set_cons_succ]
            refine takeH (i := 5) (v := ?_) rfl rfl (by kernel_rfl) (by kernel_rfl) (by kernel_rfl) (fun _ _ _ h => h) (by rfl) ?_ hHeld ?_
            rotate_left
            · (intro w hSw; (try dsimp only at hSw); first | (go_simp; done) | (go_simp; with_reducible rfl))
            simp only [Act.put, List.setIfInBounds_toArray, List.set_cons_zero, List.set_cons_succ]
            refine takeH (i := 6) (v := ?_) rfl rfl (by kernel_rfl) (by kernel_rfl) (by kernel_rfl) (fun _ _ _ h => h) (by rfl) ?_ hHeld ?_
            rotate_left
            · (intro w hSw; (try dsimp only at hSw); first | (go_simp; done) | (go_simp; with_reducible rfl))
            simp only [Act.put, List.setIfInBounds_toArray, List.set_cons_zero, List.set_cons_succ]
            refine takeH (i := 7) (v := ?_) rfl rfl (by kernel_rfl) (by kernel_rfl) (by kernel_rfl) (fun _ _ _ h => h) (by rfl) ?_ hHeld ?_
            rotate_left
            · (intro w hSw; (try dsimp only at hSw); first | (go_simp; done) | (go_simp; with_reducible rfl))
            simp only [Act.put, List.setIfInBounds_toArray, List.set_cons_zero, List.set_cons_succ]
            refine takeH (i := 8) (v := ?_) rfl rfl (by kernel_rfl) (by kernel_rfl) (by kernel_rfl) (fun _ _ _ h => h) (by rfl) ?_ hHeld ?_
            rotate_left
            · (intro w hSw; (try dsimp only at hSw); first | (go_simp; done) | (go_simp; with_reducible rfl))
            simp only [Act.put, List.setIfInBounds_toArray, List.set_cons_zero, List.set_cons_succ]
            refine takeH (i := 9) (v := ?_) rfl rfl (by kernel_rfl) (by kernel_rfl) (by kernel_rfl) (fun _ _ _ h => h) (by rfl) ?_ hHeld ?_
            rotate_left
            · (intro w hSw; (try dsimp only at hSw); first | (go_simp; done) | (go_simp; with_reducible rfl))
            simp only [Act.put, List.setIfInBounds_toArray, List.set_cons_zero, List.set_cons_succ]
            refine takeH (i := 10) (v := ?_) rfl rfl (by kernel_rfl) (by kernel_rfl) (by kernel_rfl) (fun _ _ _ h => h) (by rfl) ?_ hHeld ?_
            rotate_left
            · (intro w hSw; (try dsimp only at hSw); first | (go_simp; done) | (go_simp; with_reducible rfl))
            simp only [Act.put, List.setIfInBounds_toArray, List.set_cons_zero, List.set_cons_succ]
            refine takeH (i := 11) (v := ?_) rfl rfl (by kernel_rfl) (by kernel_rfl) (by kernel_rfl) (fun _ _ _ h => h) (by rfl) ?_ hHeld ?_
            rotate_left
            · (intro w hSw; (try dsimp only at hSw); first | (go_simp; done) | (go_simp; with_reducible rfl))
            simp only [Act.put, List.setIfInBounds_toArray, List.set_cons_zero, List.set_cons_succ]
            refine takeH (i := 12) (v := ?_) rfl rfl (by kernel_rfl) (by kernel_rfl) (by kernel_rfl) (fun _ _ _ h => h) (by rfl) ?_ hHeld ?_
            rotate_left
            · (intro w hSw; (try dsimp only at hSw); first | (go_simp; done) | (go_simp; with_reducible rfl))
            simp only [Act.put, List.setIfInBounds_toArray, List.set_cons_zero, List.set_cons_succ]
            refine takeH (i := 13) (v := ?_) rfl rfl (by kernel_rfl) (by kernel_rfl) (by kernel_rfl) (fun _ _ _ h => h) (by rfl) ?_ hHeld ?_
            rotate_left
            · (intro w hSw; (try dsimp only at hSw); first | (go_simp; done) | (go_simp; with_reducible rfl))
            simp only [Act.put, List.setIfInBounds_toArray, List.set_cons_zero, List.set_cons_succ]
            refine takeH (i := 14) (v := ?_) rfl rfl (by kernel_rfl) (by kernel_rfl) (by kernel_rfl) (fun _ _ _ h => h) (by rfl) ?_ hHeld ?_
            rotate_left
            · (intro w hSw; (try dsimp only at hSw); first | (go_simp; done) | (go_simp; with_reducible rfl))
            simp only [Act.put, List.setIfInBounds_toArray, List.set_cons_zero, List.set_cons_succ]
            refine takeH (i := 15) (v := ?_) rfl rfl (by kernel_rfl) (by kernel_rfl) (by kernel_rfl) (fun _ _ _ h => h) (by rfl) ?_ hHeld ?_
            rotate_left
            · (intro w hSw; (try dsimp only at hSw); first | (go_simp; done) | (go_simp; with_reducible rfl))
            simp only [Act.put, List.setIfInBounds_toArray, List.set_cons_zero, List.set_cons_succ]
            refine takeH (i := 16) (v := ?_) rfl rfl (by kernel_rfl) (by kernel_rfl) (by kernel_rfl) (fun _ _ _ h => h) (by rfl) ?_ hHeld ?_
            rotate_left
            · (intro w hSw; (try dsimp only at hSw); first | (go_simp; done) | (go_simp; with_reducible rfl))
            simp only [Act.put, List.setIfInBounds_toArray, List.set_cons_zero, List.set_cons_succ]
            refine takeH (i := 17) (v := ?_) rfl rfl (by kernel_rfl) (by kernel_rfl) (by kernel_rfl) (fun _ _ _ h => h) (by rfl) ?_ hHeld ?_
            rotate_left
            · (intro w hSw; (try dsimp only at hSw); first | (go_simp; done) | (go_simp; with_reducible rfl))
            simp only [Act.put, List.setIfInBounds_toArray, List.set_cons_zero, List.set_cons_succ]
            refine takeH (i := 18) (v := ?_) rfl rfl (by kernel_rfl) (by kernel_rfl) (by kernel_rfl) (fun _ _ _ h => h) (by rfl) ?_ hHeld ?_
            rotate_left
            · (intro w hSw; (try dsimp only at hSw); first | (go_simp; done) | (go_simp; with_reducible rfl))
            simp only [Act.put, List.setIfInBounds_toArray, List.set_cons_zero, List.set_cons_succ]
            refine takeH (i := 19) (v := ?_) rfl rfl (by kernel_rfl) (by kernel_rfl) (by kernel_rfl) (fun _ _ _ h => h) (by rfl) ?_ hHeld ?_
            rotate_left
            · (intro w hSw; (try dsimp only at hSw); first | (go_simp; done) | (go_simp; with_reducible rfl))
            simp only [Act.put, List.setIfInBounds_toArray, List.set_cons_zero, List.set_cons_succ]
            refine takeH (i := 20) (v := ?_) rfl rfl (by kernel_rfl) (by kernel_rfl) (by kernel_rfl) (fun _ _ _ h => h) (by rfl) ?_ hHeld ?_
            rotate_left
            · (intro w hSw; (try dsimp only at hSw); first | (go_simp; done) | (go_simp; with_reducible rfl))
            simp only [Act.put, List.setIfInBounds_toArray, List.set_cons_zero, List.set_cons_succ]
            refine takeH (i := 21) (v := ?_) rfl rfl (by kernel_rfl) (by kernel_rfl) (by kernel_rfl) (fun _ _ _ h => h) (by rfl) ?_ hHeld ?_
            rotate_left
            · (intro w hSw; (try dsimp only at hSw); first | (go_simp; done) | (go_simp; with_reducible rfl))
            simp only [Act.put, List.setIfInBounds_toArray, List.set_cons_zero, List.set_cons_succ]
            refine takeH (i := 22) (v := ?_) rfl rfl (by kernel_rfl) (by kernel_rfl) (by kernel_rfl) (fun _ _ _ h => h) (by rfl) ?_ hHeld ?_
            rotate_left
            · (intro w hSw; (try dsimp only at hSw); first | (go_simp; done) | (go_simp; with_reducible rfl))
            simp only [Act.put, List.setIfInBounds_toArray, List.set_cons_zero, List.set_cons_succ]
            refine takeH (i := 23) (v := ?_) rfl rfl (by kernel_rfl) (by kernel_rfl) (by kernel_rfl) (fun _ _ _ h => h) (by rfl) ?_ hHeld ?_
            rotate_left
            · (intro w hSw; (try dsimp only at hSw); first | (go_simp; done) | (go_simp; with_reducible rfl))
            simp only [Act.put, List.setIfInBounds_toArray, List.set_cons_zero, List.set_cons_succ]
            refine takeH (i := 24) (v := ?_) rfl rfl (by kernel_rfl) (by kernel_rfl) (by kernel_rfl) (fun _ _ _ h => h) (by rfl) ?_ hHeld ?_
            rotate_left
            · (intro w hSw; (try dsimp only at hSw); first | (go_simp; done) | (go_simp; with_reducible rfl))
            simp only [Act.put, List.setIfInBounds_toArray, List.set_cons_zero, List.set_cons_succ]
            refine passH (i := 25) rfl rfl (by kernel_rfl) (by kernel_rfl) (by kernel_rfl) (fun _ _ _ h => h) (by rfl) hHeld ?_
            simp only [Act.put, List.setIfInBounds_toArray, List.set_cons_zero, List.set_cons_succ]
            refine passH (i := 26) rfl rfl (by kernel_rfl) (by kernel_rfl) (by kernel_rfl) (fun _ _ _ h => h) (by rfl) hHeld ?_
            simp only [Act.put, List.setIfInBounds_toArray, List.set_cons_zero, List.set_cons_succ]
            refine passH (i := 27) rfl rfl (by kernel_rfl) (by kernel_rfl) (by kernel_rfl) (fun _ _ _ h => h) (by rfl) hHeld ?_
            simp only [Act.put, List.setIfInBounds_toArray, List.set_cons_zero, List.set_cons_succ]
            refine passH (i := 28) rfl rfl (by kernel_rfl) (by kernel_rfl) (by kernel_rfl) (fun _ _ _ h => h) (by rfl) hHeld ?_
            simp only [Act.put, List.setIfInBounds_toArray, List.set_cons_zero, List.set_cons_succ]
            refine takeH (i := 29) (v := ?_) rfl rfl (by kernel_rfl) (by kernel_rfl) (by kernel_rfl) (fun _ _ _ h => h) (by rfl) ?_ hHeld ?_
            rotate_left
            · (intro w hSw; (try dsimp only at hSw); first | (go_simp; done) | (go_simp; with_reducible rfl))
            simp only [Act.put, List.setIfInBounds_toArray, List.set_cons_zero, List.set_cons_succ]
            refine takeH (i := 30) (v := ?_) rfl rfl (by kernel_rfl) (by kernel_rfl) (by kernel_rfl) (fun _ _ _ h => h) (by rfl) ?_ hHeld ?_
            rotate_left
            · (intro w hSw; (try dsimp only at hSw); first | (go_simp; done) | (go_simp; with_reducible rfl))
            simp only [Act.put, List.setIfInBounds_toArray, List.set_cons_zero, List.set_cons_succ]
            refine wpAnyH_done (by kernel_rfl) ?_ _
            go_wp2_with fail
            refine HCALL.out.mono ?_
            rintro e w5 hp
            obtain ⟨bb, rfl⟩ := hp.value
            have HP := Lib.hid (PairPost.of HWA.out HWB.out HB3.out.drew (PairPost.symm hp))
            clear hp
            go_wp2
            go_ret
            exact HP.out
        · subst hv'; subst hy'
          obtain ⟨rfl, g1, p1, rfl, hg1, q1⟩ := HRA3.out.var
          obtain ⟨g2, p2, rfl, hg2, q2, hn2⟩ := HRB3.out.head
          have HFV := Lib.hid hfv
          have HCALL := Lib.hid (refPair1_one V ss T σ rk _ _ 1 d1 m2 d2 base sb v y t w3.drew (HST3.out.on (Below.refl _ _).drew) HS.out hV hv (HRA3.out.below (Below.refl _ _).drew) (HRB3.out.below (Below.refl _ _).drew) hy0 HONEB.out HFV.out)
          have hm0 : 0 < m2 := by omega
          have hm0i : (0 : Int) < (m2 : Int) := by omega
          obtain ⟨xv, hxv⟩ : ∃ xv, xv = -1 - (v : Int) := ⟨_, rfl⟩
          rw [← hxv] at q1
          have hxn : xv < 0 := by omega
          clear hfv hn2 hxv
          go_wp2_with fail
          have k1 : decide (xv < 0) = true := decide_eq_true hxn
          have k2 : decide (y < 0) = false := decide_eq_false (by omega)
          have k4 : decide ((0 : Int) ≤ xv) = false := decide_eq_false (by omega)
          refine wp_region_held_drew (S := (fun w' => w'.cell? ⟨g1, p1, none⟩ = some (.int .i64 xv) ∧ w'.cell? ⟨g2, p2, none⟩ = some (.int .i64 y))) (by kernel_rfl) ⟨q1, q2⟩ (fun hHeld => ?_)
          refine takeH (i := 0) (v := ?_) rfl rfl (by kernel_rfl) (by kernel_rfl) (by kernel_rfl) (fun _ _ _ h => h) (by rfl) ?_ hHeld ?_
          rotate_left
          · (intro w hSw; (try dsimp only at hSw); first | (go_simp; done) | (go_simp; with_reducible rfl))
          simp only [Act.put, List.setIfInBounds_toArray, List.set_cons_zero, List.set_cons_succ]
          refine takeH (i := 1) (v := ?_) rfl rfl (by kernel_rfl) (by kernel_rfl) (by kernel_rfl) (fun _ _ _ h => h) (by rfl) ?_ hHeld ?_
          rotate_left
          · (intro w hSw; (try dsimp only at hSw); first | (go_simp; done) | (go_simp; with_reducible rfl))
          simp only [Act.put, List.setIfInBounds_toArray, List.set_cons_zero, List.set_cons_succ]
          refine takeH (i := 2) (v := ?_) rfl rfl (by kernel_rfl) (by kernel_rfl) (by kernel_rfl) (fun _ _ _ h => h) (by rfl) ?_ hHeld ?_
          rotate_left
          · (intro w hSw; (try dsimp only at hSw); first | (go_simp; done) | (go_simp; with_reducible rfl))
          simp only [Act.put, List.setIfInBounds_toArray, List.set_cons_zero, List.set_cons_succ]
          refine takeH (i := 3) (v := ?_) rfl rfl (by kernel_rfl) (by kernel_rfl) (by kernel_rfl) (fun _ _ _ h => h) (by rfl) ?_ hHeld ?_
          rotate_left
          · (intro w hSw; (try dsimp only at hSw); first | (go_simp; done) | (go_simp; with_reducible rfl))
          simp only [Act.put, List.setIfInBounds_toArray, List.set_cons_zero, List.set_cons_succ]
          refine takeH (i := 4) (v := ?_) rfl rfl (by kernel_rfl) (by kernel_rfl) (by kernel_rfl) (fun _ _ _ h => h) (by rfl) ?_ hHeld ?_
          rotate_left
          · (intro w hSw; (try dsimp only at hSw); first | (go_simp; done) | (go_simp; with_reducible rfl))
          simp only [Act.put, List.setIfInBounds_toArray, List.set_cons_zero, List.set_cons_succ]
          refine takeH (i := 5) (v := ?_) rfl rfl (by kernel_rfl) (by kernel_rfl) (by kernel_rfl) (fun _ _ _ h => h) (by rfl) ?_ hHeld ?_
          rotate_left
          · (intro w hSw; (try dsimp only at hSw); first | (go_simp; done) | (go_simp; with_reducible rfl))
          simp only [Act.put, List.setIfInBounds_toArray, List.set_cons_zero, List.set_cons_succ]
          refine takeH (i := 6) (v := ?_) rfl rfl (by kernel_rfl) (by kernel_rfl) (by kernel_rfl) (fun _ _ _ h => h) (by rfl) ?_ hHeld ?_
          rotate_left
          · (intro w hSw; (try dsimp only at hSw); first | (go_simp; done) | (go_simp; with_reducible rfl))
          simp only [Act.put, List.setIfInBounds_toArray, List.set_cons_zero, List.set_cons_succ]
          refine takeH (i := 7) (v := ?_) rfl rfl (by kernel_rfl) (by kernel_rfl) (by kernel_rfl) (fun _ _ _ h => h) (by rfl) ?_ hHeld ?_
          rotate_left
          · (intro w hSw; (try dsimp only at hSw); first | (go_simp; done) | (go_simp; with_reducible rfl))
          simp only [Act.put, List.setIfInBounds_toArray, List.set_cons_zero, List.set_cons_succ]
          refine takeH (i := 8) (v := ?_) rfl rfl (by kernel_rfl) (by kernel_rfl) (by kernel_rfl) (fun _ _ _ h => h) (by rfl) ?_ hHeld ?_
          rotate_left
          · (intro w hSw; (try dsimp only at hSw); first | (go_simp; done) | (go_simp; with_reducible rfl))
          simp only [Act.put, List.setIfInBounds_toArray, List.set_cons_zero, List.set_cons_succ]
          refine takeH (i := 9) (v := ?_) rfl rfl (by kernel_rfl) (by kernel_rfl) (by kernel_rfl) (fun _ _ _ h => h) (by rfl) ?_ hHeld ?_
          rotate_left
          · (intro w hSw; (try dsimp only at hSw); first | (go_simp; done) | (go_simp; with_reducible rfl))
          simp only [Act.put, List.setIfInBounds_toArray, List.set_cons_zero, List.set_cons_succ]
          refine takeH (i := 10) (v := ?_) rfl rfl (by kernel_rfl) (by kernel_rfl) (by kernel_rfl) (fun _ _ _ h => h) (by rfl) ?_ hHeld ?_
          rotate_left
          · (intro w hSw; (try dsimp only at hSw); first | (go_simp; done) | (go_simp; with_reducible rfl))
          simp only [Act.put, List.setIfInBounds_toArray, List.set_cons_zero, List.set_cons_succ]
          refine passH (i := 11) rfl rfl (by kernel_rfl) (by kernel_rfl) (by kernel_rfl) (fun _ _ _ h => h) (by rfl) hHeld ?_
          simp only [Act.put, List.setIfInBounds_toArray, List.set_cons_zero, List.set_cons_succ]
          refine passH (i := 12) rfl rfl (by kernel_rfl) (by kernel_rfl) (by kernel_rfl) (fun _ _ _ h => h) (by rfl) hHeld ?_
          simp only [Act.put, List.setIfInBounds_toArray, List.set_cons_zero, List.set_cons_succ]
          refine passH (i := 13) rfl rfl (by kernel_rfl) (by kernel_rfl) (by kernel_rfl) (fun _ _ _ h => h) (by rfl) hHeld ?_
          simp only [Act.put, List.setIfInBounds_toArray, List.set_cons_zero, List.set_cons_succ]
          refine passH (i := 14) rfl rfl (by kernel_rfl) (by kernel_rfl) (by kernel_rfl) (fun _ _ _ h => h) (by rfl) hHeld ?_
          simp only [Act.put, List.setIfInBounds_toArray, List.set_cons_zero, List.set_cons_succ]
          refine passH (i := 15) rfl rfl (by kernel_rfl) (by kernel_rfl) (by kernel_rfl) (fun _ _ _ h => h) (by rfl) hHeld ?_
          simp only [Act.put, List.setIfInBounds_toArray, List.set_cons_zero, List.set_cons_succ]
          refine passH (i := 16) rfl rfl (by kernel_rfl) (by kernel_rfl) (by kernel_rfl) (fun _ _ _ h => h) (by rfl) hHeld ?_
          simp only [Act.put, List.setIfInBounds_toArray, List.set_cons_zero, List.set_cons_succ]
          refine passH (i := 17) rfl rfl (by kernel_rfl) (by kernel_rfl) (by kernel_rfl) (fun _ _ _ h => h) (by rfl) hHeld ?_
          simp only [Act.put, List.setIfInBounds_toArray, List.set_cons_zero, List.set_cons_succ]
          refine takeH (i := 18) (v := ?_) rfl rfl (by kernel_rfl) (by kernel_rfl) (by kernel_rfl) (fun _ _ _ h => h) (by rfl) ?_ hHeld ?_
          rotate_left
          · (intro w hSw; (try dsimp only at hSw); first | (go_simp; done) | (go_simp; with_reducible rfl))
          simp only [Act.put, List.setIfInBounds_toArray, List.set_cons_zero, List.set_cons_succ]
          refine takeH (i := 19) (v := ?_) rfl rfl (by kernel_rfl) (by kernel_rfl) (by kernel_rfl) (fun _ _ _ h => h) (by rfl) ?_ hHeld ?_
          rotate_left
          · (intro w hSw; (try dsimp only at hSw); first | (go_simp; done) | (go_simp; with_reducible rfl))
          simp only [Act.put, List.setIfInBounds_toArray, List.set_cons_zero, List.set_cons_succ]
          refine takeH (i := 20) (v := ?_) rfl rfl (by kernel_rfl) (by kernel_rfl) (by kernel_rfl) (fun _ _ _ h => h) (by rfl) ?_ hHeld ?_
          rotate_left
          · (intro w hSw; (try dsimp only at hSw); first | (go_simp; done) | (go_simp; with_reducible rfl))
          simp only [Act.put, List.setIfInBounds_toArray, List.set_cons_zero, List.set_cons_succ]
          refine takeH (i := 21) (v := ?_) rfl rfl (by kernel_rfl) (by kernel_rfl) (by kernel_rfl) (fun _ _ _ h => h) (by rfl) ?_ hHeld ?_
          rotate_left
          · (intro w hSw; (try dsimp only at hSw); first | (go_simp; done) | (go_simp; with_reducible rfl))
          simp only [Act.put, List.setIfInBounds_toArray, List.set_cons_zero, List.set_cons_succ]
          refine takeH (i := 22) (v := ?_) rfl rfl (by kernel_rfl) (by kernel_rfl) (by kernel_rfl) (fun _ _ _ h => h) (by rfl) ?_ hHeld ?_
          rotate_left
          · (intro w hSw; (try dsimp only at hSw); first | (go_simp; done) | (go_simp; with_reducible rfl))
          simp only [Act.put, List.setIfInBounds_toArray, List.set_cons_zero, List.set_cons_succ]
          refine takeH (i := 23) (v := ?_) rfl rfl (by kernel_rfl) (by kernel_rfl) (by kernel_rfl) (fun _ _ _ h => h) (by rfl) ?_ hHeld ?_
          rotate_left
          · (intro w hSw; (try dsimp only at hSw); first | (go_simp; done) | (go_simp; with_reducible rfl))
          simp only [Act.put, List.setIfInBounds_toArray, List.set_cons_zero, List.set_cons_succ]
          refine takeH (i := 24) (v := ?_) rfl rfl (by kernel_rfl) (by kernel_rfl) (by kernel_rfl) (fun _ _ _ h => h) (by rfl) ?_ hHeld ?_
          rotate_left
          · (intro w hSw; (try dsimp only at hSw); first | (go_simp; done) | (go_simp; with_reducible rfl))
          simp only [Act.put, List.setIfInBounds_toArray, List.set_cons_zero, List.set_cons_succ]
          refine passH (i := 25) rfl rfl (by kernel_rfl) (by kernel_rfl) (by kernel_rfl) (fun _ _ _ h => h) (by rfl) hHeld ?_
          simp only [Act.put, List.setIfInBounds_toArray, List.set_cons_zero, List.set_cons_succ]
          refine passH (i := 26) rfl rfl (by kernel_rfl) (by kernel_rfl) (by kernel_rfl) (fun _ _ _ h => h) (by rfl) hHeld ?_
          simp only [Act.put, List.setIfInBounds_toArray, List.set_cons_zero, List.set_cons_succ]
          refine passH (i := 27) rfl rfl (by kernel_rfl) (by kernel_rfl) (by kernel_rfl) (fun _ _ _ h => h) (by rfl) hHeld ?_
          simp only [Act.put, List.setIfInBounds_toArray, List.set_cons_zero, List.set_cons_succ]
          refine passH (i := 28) rfl rfl (by kernel_rfl) (by kernel_rfl) (by kernel_rfl) (fun _ _ _ h => h) (by rfl) hHeld ?_
          simp only [Act.put, List.setIfInBounds_toArray, List.set_cons_zero, List.set_cons_succ]
          refine takeH (i := 29) (v := ?_) rfl rfl (by kernel_rfl) (by kernel_rfl) (by kernel_rfl) (fun _ _ _ h => h) (by rfl) ?_ hHeld ?_
          rotate_left
          · (intro w hSw; (try dsimp only at hSw); first | (go_simp; done) | (go_simp; with_reducible rfl))
          simp only [Act.put, List.setIfInBounds_toArray, List.set_cons_zero, List.set_cons_succ]
          refine takeH (i := 30) (v := ?_) rfl rfl (by kernel_rfl) (by kernel_rfl) (by kernel_rfl) (fun _ _ _ h => h) (by rfl) ?_ hHeld ?_
          rotate_left
          · (intro w hSw; (try dsimp only at hSw); first | (go_simp; done) | (go_simp; with_reducible rfl))
          simp only [Act.put, List.setIfInBounds_toArray, List.set_cons_zero, List.set_cons_succ]
          refine wpAnyH_done (by kernel_rfl) ?_ _
          go_wp2_with fail
          refine HCALL.out.mono ?_
          rintro e w5 hp
          obtain ⟨bb, rfl⟩ := hp.value
          have HP := Lib.hid (PairPost.of HWA.out HWB.out HB3.out.drew hp)
          clear hp
          go_wp2
          go_ret
          exact HP.out
      · rcases HFB.out with ⟨u, hu, hu', hfu⟩ | ⟨y, t, hy', hy0⟩
        · subst hx'; subst hu'
          obtain ⟨g1, p1, rfl, hg1, q1, hn1⟩ := HRA3.out.head
          obtain ⟨rfl, g2, p2, rfl, hg2, q2⟩ := HRB3.out.var
          have HFU := Lib.hid hfu
          have HCALL := Lib.hid (refPair1_one V ss T σ rk _ _ 1 d2 m1 d1 base sb u x s w3.drew (HST3.out.on (Below.refl _ _).drew) HS.out hV hu (HRB3.out.below (Below.refl _ _).drew) (HRA3.out.below (Below.refl _ _).drew) hx0 HONE.out HFU.out)
          have hm0 : 0 < m1 := by omega
          have hm0i : (0 : Int) < (m1 : Int) := by omega
          clear hfu hn1
          go_wp2_with fail
          have k1 : decide (x < 0) = false := decide_eq_false (by omega)
          have k2 : decide (-1 - (u : Int) < 0) = true := decide_eq_true (by omega)
          have k4 : decide ((0 : Int) ≤ x) = true := decide_eq_true (by omega)
          refine wp_region_held_drew (S := (fun w' => w'.cell? ⟨g1, p1, none⟩ = some (.int .i64 x) ∧ w'.cell? ⟨g2, p2, none⟩ = some (.int .i64 (-1 - (u : Int))))) (by kernel_rfl) ⟨q1, q2⟩ (fun hHeld => ?_)
          refine takeH (i := 0) (v := ?_) rfl rfl (by kernel_rfl) (by kernel_rfl) (by kernel_rfl) (fun _ _ _ h => h) (by rfl) ?_ hHeld ?_
          rotate_left
          · (intro w hSw; (try dsimp only at hSw); first | (go_simp; done) | (go_simp; with_reducible rfl))
          simp only [Act.put, List.setIfInBounds_toArray, List.set_cons_zero, List.set_cons_succ]
          refine takeH (i := 1) (v := ?_) rfl rfl (by kernel_rfl) (by kernel_rfl) (by kernel_rfl) (fun _ _ _ h => h) (by rfl) ?_ hHeld ?_
          rotate_left
          · (intro w hSw; (try dsimp only at hSw); first | (go_simp; done) | (go_simp; with_reducible rfl))
          simp only [Act.put, List.setIfInBounds_toArray, List.set_cons_zero, List.set_cons_succ]
          refine takeH (i := 2) (v := ?_) rfl rfl (by kernel_rfl) (by kernel_rfl) (by kernel_rfl) (fun _ _ _ h => h) (by rfl) ?_ hHeld ?_
          rotate_left
          · (intro w hSw; (try dsimp only at hSw); first | (go_simp; done) | (go_simp; with_reducible rfl))
          simp only [Act.put, List.setIfInBounds_toArray, List.set_cons_zero, List.set_cons_succ]
          refine takeH (i := 3) (v := ?_) rfl rfl (by kernel_rfl) (by kernel_rfl) (by kernel_rfl) (fun _ _ _ h => h) (by rfl) ?_ hHeld ?_
          rotate_left
          · (intro w hSw; (try dsimp only at hSw); first | (go_simp; done) | (go_simp; with_reducible rfl))
          simp only [Act.put, List.setIfInBounds_toArray, List.set_cons_zero, List.set_cons_succ]
          refine takeH (i := 4) (v := ?_) rfl rfl (by kernel_rfl) (by kernel_rfl) (by kernel_rfl) (fun _ _ _ h => h) (by rfl) ?_ hHeld ?_
          rotate_left
          · (intro w hSw; (try dsimp only at hSw); first | (go_simp; done) | (go_simp; with_reducible rfl))
          simp only [Act.put, List.setIfInBounds_toArray, List.set_cons_zero, List.set_cons_succ]
          refine passH (i := 5) rfl rfl (by kernel_rfl) (by kernel_rfl) (by kernel_rfl) (fun _ _ _ h => h) (by rfl) hHeld ?_
          simp only [Act.put, List.setIfInBounds_toArray, List.set_cons_zero, List.set_cons_succ]
          refine passH (i := 6) rfl rfl (by kernel_rfl) (by kernel_rfl) (by kernel_rfl) (fun _ _ _ h => h) (by rfl) hHeld ?_
          simp only [Act.put, List.setIfInBounds_toArray, List.set_cons_zero, List.set_cons_succ]
          refine passH (i := 7) rfl rfl (by kernel_rfl) (by kernel_rfl) (by kernel_rfl) (fun _ _ _ h => h) (by rfl) hHeld ?_
          simp only [Act.put, List.setIfInBounds_toArray, List.set_cons_zero, List.set_cons_succ]
          refine passH (i := 8) rfl rfl (by kernel_rfl) (by kernel_rfl) (by kernel_rfl) (fun _ _ _ h => h) (by rfl) hHeld ?_
          simp only [Act.put, List.setIfInBounds_toArray, List.set_cons_zero, List.set_cons_succ]
          refine takeH (i := 9) (v := ?_) rfl rfl (by kernel_rfl) (by kernel_rfl) (by kernel_rfl) (fun _ _ _ h => h) (by rfl) ?_ hHeld ?_
          rotate_left
          · (intro w hSw; (try dsimp only at hSw); first | (go_simp; done) | (go_simp; with_reducible rfl))
          simp only [Act.put, List.setIfInBounds_toArray, List.set_cons_zero, List.set_cons_succ]
          refine takeH (i := 10) (v := ?_) rfl rfl (by kernel_rfl) (by kernel_rfl) (by kernel_rfl) (fun _ _ _ h => h) (by rfl) ?_ hHeld ?_
          rotate_left
          · (intro w hSw; (try dsimp only at hSw); first | (go_simp; done) | (go_simp; with_reducible rfl))
          simp only [Act.put, List.setIfInBounds_toArray, List.set_cons_zero, List.set_cons_succ]
          refine passH (i := 11) rfl rfl (by kernel_rfl) (by kernel_rfl) (by kernel_rfl) (fun _ _ _ h => h) (by rfl) hHeld ?_
          simp only [Act.put, List.setIfInBounds_toArray, List.set_cons_zero, List.set_cons_succ]
          refine passH (i := 12) rfl rfl (by kernel_rfl) (by kernel_rfl) (by kernel_rfl) (fun _ _ _ h => h) (by rfl) hHeld ?_
          simp only [Act.put, List.setIfInBounds_toArray, List.set_cons_zero, List.set_cons_succ]
          refine passH (i := 13) rfl rfl (by kernel_rfl) (by kernel_rfl) (by kernel_rfl) (fun _ _ _ h => h) (by rfl) hHeld ?_
          simp only [Act.put, List.setIfInBounds_toArray, List.set_cons_zero, List.set_cons_succ]
          refine passH (i := 14) rfl rfl (by kernel_rfl) (by kernel_rfl) (by kernel_rfl) (fun _ _ _ h => h) (by rfl) hHeld ?_
          simp only [Act.put, List.setIfInBounds_toArray, List.set_cons_zero, List.set_cons_succ]
          refine passH (i := 15) rfl rfl (by kernel_rfl) (by kernel_rfl) (by kernel_rfl) (fun _ _ _ h => h) (by rfl) hHeld ?_
          simp only [Act.put, List.setIfInBounds_toArray, List.set_cons_zero, List.set_cons_succ]
          refine passH (i := 16) rfl rfl (by kernel_rfl) (by kernel_rfl) (by kernel_rfl) (fun _ _ _ h => h) (by rfl) hHeld ?_
          simp only [Act.put, List.setIfInBounds_toArray, List.set_cons_zero, List.set_cons_succ]
          refine passH (i := 17) rfl rfl (by kernel_rfl) (by kernel_rfl) (by kernel_rfl) (fun _ _ _ h => h) (by rfl) hHeld ?_
          simp only [Act.put, List.setIfInBounds_toArray, List.set_cons_zero, List.set_cons_succ]
          refine takeH (i := 18) (v := ?_) rfl rfl (by kernel_rfl) (by kernel_rfl) (by kernel_rfl) (fun _ _ _ h => h) (by rfl) ?_ hHeld ?_
          rotate_left
          · (intro w hSw; (try dsimp only at hSw); first | (go_simp; done) | (go_simp; with_reducible rfl))
          simp only [Act.put, List.setIfInBounds_toArray, List.set_cons_zero, List.set_cons_succ]
          refine takeH (i := 19) (v := ?_) rfl rfl (by kernel_rfl) (by kernel_rfl) (by kernel_rfl) (fun _ _ _ h => h) (by rfl) ?_ hHeld ?_
          rotate_left
          · (intro w hSw; (try dsimp only at hSw); first | (go_simp; done) | (go_simp; with_reducible rfl))
          simp only [Act.put, List.setIfInBounds_toArray, List.set_cons_zero, List.set_cons_succ]
          refine takeH (i := 20) (v := ?_) rfl rfl (by kernel_rfl) (by kernel_rfl) (by kernel_rfl) (fun _ _ _ h => h) (by rfl) ?_ hHeld ?_
          rotate_left
          · (intro w hSw; (try dsimp only at hSw); first | (go_simp; done) | (go_simp; with_reducible rfl))
          simp only [Act.put, List.setIfInBounds_toArray, List.set_cons_zero, List.set_cons_succ]
          refine takeH (i := 21) (v := ?_) rfl rfl (by kernel_rfl) (by kernel_rfl) (by kernel_rfl) (fun _ _ _ h => h) (by rfl) ?_ hHeld ?_
          rotate_left
          · (intro w hSw; (try dsimp only at hSw); first | (go_simp; done) | (go_simp; with_reducible rfl))
          simp only [Act.put, List.setIfInBounds_toArray, List.set_cons_zero, List.set_cons_succ]
          refine takeH (i := 22) (v := ?_) rfl rfl (by kernel_rfl) (by kernel_rfl) (by kernel_rfl) (fun _ _ _ h => h) (by rfl) ?_ hHeld ?_
          rotate_left
          · (intro w hSw; (try dsimp only at hSw); first | (go_simp; done) | (go_simp; with_reducible rfl))
          simp only [Act.put, List.setIfInBounds_toArray, List.set_cons_zero, List.set_cons_succ]
          refine takeH (i := 23) (v := ?_) rfl rfl (by kernel_rfl) (by kernel_rfl) (by kernel_rfl) (fun _ _ _ h => h) (by rfl) ?_ hHeld ?_
          rotate_left
          · (intro w hSw; (try dsimp only at hSw); first | (go_simp; done) | (go_simp; with_reducible rfl))
          simp only [Act.put, List.setIfInBounds_toArray, List.set_cons_zero, List.set_cons_succ]
          refine takeH (i := 24) (v := ?_) rfl rfl (by kernel_rfl) (by kernel_rfl) (by kernel_rfl) (fun _ _ _ h => h) (by rfl) ?_ hHeld ?_
          rotate_left
          · (intro w hSw; (try dsimp only at hSw); first | (go_simp; done) | (go_simp; with_reducible rfl))
          simp only [Act.put, List.setIfInBounds_toArray, List.set_cons_zero, List.set_cons_succ]
          refine takeH (i := 25) (v := ?_) rfl rfl (by kernel_rfl) (by kernel_rfl) (by kernel_rfl) (fun _ _ _ h => h) (by rfl) ?_ hHeld ?_
          rotate_left
          · (intro w hSw; (try dsimp only at hSw); first | (go_simp; done) | (go_simp; with_reducible rfl))
          simp only [Act.put, List.setIfInBounds_toArray, List.set_cons_zero, List.set_cons_succ]
          refine takeH (i := 26) (v := ?_) rfl rfl (by kernel_rfl) (by kernel_rfl) (by kernel_rfl) (fun _ _ _ h => h) (by rfl) ?_ hHeld ?_
          rotate_left
          · (intro w hSw; (try dsimp only at hSw); first | (go_simp; done) | (go_simp; with_reducible rfl))
          simp only [Act.put, List.setIfInBounds_toArray, List.set_cons_zero, List.set_cons_succ]
          refine takeH (i := 27) (v := ?_) rfl rfl (by kernel_rfl) (by kernel_rfl) (by kernel_rfl) (fun _ _ _ h => h) (by rfl) ?_ hHeld ?_
          rotate_left
          · (intro w hSw; (try dsimp only at hSw); first | (go_simp; done) | (go_simp; with_reducible rfl))
          simp only [Act.put, List.setIfInBounds_toArray, List.set_cons_zero, List.set_cons_succ]
          refine takeH (i := 28) (v := ?_) rfl rfl (by kernel_rfl) (by kernel_rfl) (by kernel_rfl) (fun _ _ _ h => h) (by rfl) ?_ hHeld ?_
          rotate_left
          · (intro w hSw; (try dsimp only at hSw); first | (go_simp; done) | (go_simp; with_reducible rfl))
          simp only [Act.put, List.setIfInBounds_toArray, List.set_cons_zero, List.set_cons_succ]
          refine takeH (i := 29) (v := ?_) rfl rfl (by kernel_rfl) (by kernel_rfl) (by kernel_rfl) (fun _ _ _ h => h) (by rfl) ?_ hHeld ?_
          rotate_left
          · (intro w hSw; (try dsimp only at hSw); first | (go_simp; done) | (go_simp; with_reducible rfl))
          simp only [Act.put, List.setIfInBounds_toArray, List.set_cons_zero, List.set_cons_succ]
          refine takeH (i := 30) (v := ?_) rfl rfl (by kernel_rfl) (by kernel_rfl) (by kernel_rfl) (fun _ _ _ h => h) (by rfl) ?_ hHeld ?_
          rotate_left
          · (intro w hSw; (try dsimp only at hSw); first | (go_simp; done) | (go_simp; with_reducible rfl))
          simp only [Act.put, List.setIfInBounds_toArray, List.set_cons_zero, List.set_cons_succ]
          refine wpAnyH_done (by kernel_rfl) ?_ _
          go_wp2_with fail
          refine HCALL.out.mono ?_
          rintro e w5 hp
          obtain ⟨bb, rfl⟩ := hp.value
          have HP := Lib.hid (PairPost.of HWA.out HWB.out HB3.out.drew (PairPost.symm hp))
          clear hp
          go_wp2
          go_ret
          exact HP.out
        · subst hx'; subst hy'
          obtain ⟨g1, p1, rfl, hg1, q1, hn1⟩ := HRA3.out.head
          obtain ⟨g2, p2, rfl, hg2, q2, hn2⟩ := HRB3.out.head
          have hm0 : 0 < m1 := by omega
          have hm0i : (0 : Int) < (m1 : Int) := by omega
          have hm0' : 0 < m2 := by omega
          have hm0i' : (0 : Int) < (m2 : Int) := by omega
          have HN1 := Lib.hid hn1
          have HN2 := Lib.hid hn2
          clear hn1 hn2
          go_wp2_with fail
          have k1 : decide (x < 0) = false := decide_eq_false (by omega)
          have k2 : decide (y < 0) = false := decide_eq_false (by omega)
          have k4 : decide ((0 : Int) ≤ x) = true := decide_eq_true (by omega)
          refine wp_region_held_drew (S := (fun w' => w'.cell? ⟨g1, p1, none⟩ = some (.int .i64 x) ∧ w'.cell? ⟨g2, p2, none⟩ = some (.int .i64 y))) (by kernel_rfl) ⟨q1, q2⟩ (fun hHeld => ?_)
          refine takeH (i := 0) (v := ?_) rfl rfl (by kernel_rfl) (by kernel_rfl) (by kernel_rfl) (fun _ _ _ h => h) (by rfl) ?_ hHeld ?_
          rotate_left
          · (intro w hSw; (try dsimp only at hSw); first | (go_simp; done) | (go_simp; with_reducible rfl))
          simp only [Act.put, List.setIfInBounds_toArray, List.set_cons_zero, List.set_cons_succ]
          refine takeH (i := 1) (v := ?_) rfl rfl (by kernel_rfl) (by kernel_rfl) (by kernel_rfl) (fun _ _ _ h => h) (by rfl) ?_ hHeld ?_
          rotate_left
          · (intro w hSw; (try dsimp only at hSw); first | (go_simp; done) | (go_simp; with_reducible rfl))
          simp only [Act.put, List.setIfInBounds_toArray, List.set_cons_zero, List.set_cons_succ]
          refine takeH (i := 2) (v := ?_) rfl rfl (by kernel_rfl) (by kernel_rfl) (by kernel_rfl) (fun _ _ _ h => h) (by rfl) ?_ hHeld ?_
          rotate_left
          · (intro w hSw; (try dsimp only at hSw); first | (go_simp; done) | (go_simp; with_reducible rfl))
          simp only [Act.put, List.setIfInBounds_toArray, List.set_cons_zero, List.set_cons_succ]
          refine takeH (i := 3) (v := ?_) rfl rfl (by kernel_rfl) (by kernel_rfl) (by kernel_rfl) (fun _ _ _ h => h) (by rfl) ?_ hHeld ?_
          rotate_left
          · (intro w hSw; (try dsimp only at hSw); first | (go_simp; done) | (go_simp; with_reducible rfl))
          simp only [Act.put, List.setIfInBounds_toArray, List.set_cons_zero, List.set_cons_succ]
          refine takeH (i := 4) (v := ?_) rfl rfl (by kernel_rfl) (by kernel_rfl) (by kernel_rfl) (fun _ _ _ h => h) (by rfl) ?_ hHeld ?_
          rotate_left
          · (intro w hSw; (try dsimp only at hSw); first | (go_simp; done) | (go_simp; with_reducible rfl))
          simp only [Act.put, List.setIfInBounds_toArray, List.set_cons_zero, List.set_cons_succ]
          refine passH (i := 5) rfl rfl (by kernel_rfl) (by kernel_rfl) (by kernel_rfl) (fun _ _ _ h => h) (by rfl) hHeld ?_
          simp only [Act.put, List.setIfInBounds_toArray, List.set_cons_zero, List.set_cons_succ]
          refine passH (i := 6) rfl rfl (by kernel_rfl) (by kernel_rfl) (by kernel_rfl) (fun _ _ _ h => h) (by rfl) hHeld ?_
          simp only [Act.put, List.setIfInBounds_toArray, List.set_cons_zero, List.set_cons_succ]
          refine passH (i := 7) rfl rfl (by kernel_rfl) (by kernel_rfl) (by kernel_rfl) (fun _ _ _ h => h) (by rfl) hHeld ?_
          simp only [Act.put, List.setIfInBounds_toArray, List.set_cons_zero, List.set_cons_succ]
          refine passH (i := 8) rfl rfl (by kernel_rfl) (by kernel_rfl) (by kernel_rfl) (fun _ _ _ h => h) (by rfl) hHeld ?_
          simp only [Act.put, List.setIfInBounds_toArray, List.set_cons_zero, List.set_cons_succ]
          refine takeH (i := 9) (v := ?_) rfl rfl (by kernel_rfl) (by kernel_rfl) (by kernel_rfl) (fun _ _ _ h => h) (by rfl) ?_ hHeld ?_
          rotate_left
          · (intro w hSw; (try dsimp only at hSw); first | (go_simp; done) | (go_simp; with_reducible rfl))
          simp only [Act.put, List.setIfInBounds_toArray, List.set_cons_zero, List.set_cons_succ]
          refine takeH (i := 10) (v := ?_) rfl rfl (by kernel_rfl) (by kernel_rfl) (by kernel_rfl) (fun _ _ _ h => h) (by rfl) ?_ hHeld ?_
          rotate_left
          · (intro w hSw; (try dsimp only at hSw); first | (go_simp; done) | (go_simp; with_reducible rfl))
          simp only [Act.put, List.setIfInBounds_toArray, List.set_cons_zero, List.set_cons_succ]
          refine passH (i := 11) rfl rfl (by kernel_rfl) (by kernel_rfl) (by kernel_rfl) (fun _ _ _ h => h) (by rfl) hHeld ?_
          simp only [Act.put, List.setIfInBounds_toArray, List.set_cons_zero, List.set_cons_succ]
          refine passH (i := 12) rfl rfl (by kernel_rfl) (by kernel_rfl) (by kernel_rfl) (fun _ _ _ h => h) (by rfl) hHeld ?_
          simp only [Act.put, List.setIfInBounds_toArray, List.set_cons_zero, List.set_cons_succ]
          refine passH (i := 13) rfl rfl (by kernel_rfl) (by kernel_rfl) (by kernel_rfl) (fun _ _ _ h => h) (by rfl) hHeld ?_
          simp only [Act.put, List.setIfInBounds_toArray, List.set_cons_zero, List.set_cons_succ]
          refine passH (i := 14) rfl rfl (by kernel_rfl) (by kernel_rfl) (by kernel_rfl) (fun _ _ _ h => h) (by rfl) hHeld ?_
          simp only [Act.put, List.setIfInBounds_toArray, List.set_cons_zero, List.set_cons_succ]
          refine passH (i := 15) rfl rfl (by kernel_rfl) (by kernel_rfl) (by kernel_rfl) (fun _ _ _ h => h) (by rfl) hHeld ?_
          simp only [Act.put, List.setIfInBounds_toArray, List.set_cons_zero, List.set_cons_succ]
          refine passH (i := 16) rfl rfl (by kernel_rfl) (by kernel_rfl) (by kernel_rfl) (fun _ _ _ h => h) (by rfl) hHeld ?_
          simp only [Act.put, List.setIfInBounds_toArray, List.set_cons_zero, List.set_cons_succ]
          refine passH (i := 17) rfl rfl (by kernel_rfl) (by kernel_rfl) (by kernel_rfl) (fun _ _ _ h => h) (by rfl) hHeld ?_
          simp only [Act.put, List.setIfInBounds_toArray, List.set_cons_zero, List.set_cons_succ]
          refine takeH (i := 18) (v := ?_) rfl rfl (by kernel_rfl) (by kernel_rfl) (by kernel_rfl) (fun _ _ _ h => h) (by rfl) ?_ hHeld ?_
          rotate_left
          · (intro w hSw; (try dsimp only at hSw); first | (go_simp; done) | (go_simp; with_reducible rfl))
          simp only [Act.put, List.setIfInBounds_toArray, List.set_cons_zero, List.set_cons_succ]
          refine takeH (i := 19) (v := ?_) rfl rfl (by kernel_rfl) (by kernel_rfl) (by kernel_rfl) (fun _ _ _ h => h) (by rfl) ?_ hHeld ?_
          rotate_left
          · (intro w hSw; (try dsimp only at hSw); first | (go_simp; done) | (go_simp; with_reducible rfl))
          simp only [Act.put, List.setIfInBounds_toArray, List.set_cons_zero, List.set_cons_succ]
          refine takeH (i := 20) (v := ?_) rfl rfl (by kernel_rfl) (by kernel_rfl) (by kernel_rfl) (fun _ _ _ h => h) (by rfl) ?_ hHeld ?_
          rotate_left
          · (intro w hSw; (try dsimp only at hSw); first | (go_simp; done) | (go_simp; with_reducible rfl))
          simp only [Act.put, List.setIfInBounds_toArray, List.set_cons_zero, List.set_cons_succ]
          refine takeH (i := 21) (v := ?_) rfl rfl (by kernel_rfl) (by kernel_rfl) (by kernel_rfl) (fun _ _ _ h => h) (by rfl) ?_ hHeld ?_
          rotate_left
          · (intro w hSw; (try dsimp only at hSw); first | (go_simp; done) | (go_simp; with_reducible rfl))
          simp only [Act.put, List.setIfInBounds_toArray, List.set_cons_zero, List.set_cons_succ]
          refine takeH (i := 22) (v := ?_) rfl rfl (by kernel_rfl) (by kernel_rfl) (by kernel_rfl) (fun _ _ _ h => h) (by rfl) ?_ hHeld ?_
          rotate_left
          · (intro w hSw; (try dsimp only at hSw); first | (go_simp; done) | (go_simp; with_reducible rfl))
          simp only [Act.put, List.setIfInBounds_toArray, List.set_cons_zero, List.set_cons_succ]
          refine takeH (i := 23) (v := ?_) rfl rfl (by kernel_rfl) (by kernel_rfl) (by kernel_rfl) (fun _ _ _ h => h) (by rfl) ?_ hHeld ?_
          rotate_left
          · (intro w hSw; (try dsimp only at hSw); first | (go_simp; done) | (go_simp; with_reducible rfl))
          simp only [Act.put, List.setIfInBounds_toArray, List.set_cons_zero, List.set_cons_succ]
          refine takeH (i := 24) (v := ?_) rfl rfl (by kernel_rfl) (by kernel_rfl) (by kernel_rfl) (fun _ _ _ h => h) (by rfl) ?_ hHeld ?_
          rotate_left
          · (intro w hSw; (try dsimp only at hSw); first | (go_simp; done) | (go_simp; with_reducible rfl))
          simp only [Act.put, List.setIfInBounds_toArray, List.set_cons_zero, List.set_cons_succ]
          refine takeH (i := 25) (v := ?_) rfl rfl (by kernel_rfl) (by kernel_rfl) (by kernel_rfl) (fun _ _ _ h => h) (by rfl) ?_ hHeld ?_
          rotate_left
          · (intro w hSw; (try dsimp only at hSw); first | (go_simp; done) | (go_simp; with_reducible rfl))
          simp only [Act.put, List.setIfInBounds_toArray, List.set_cons_zero, List.set_cons_succ]
          refine takeH (i := 26) (v := ?_) rfl rfl (by kernel_rfl) (by kernel_rfl) (by kernel_rfl) (fun _ _ _ h => h) (by rfl) ?_ hHeld ?_
          rotate_left
          · (intro w hSw; (try dsimp only at hSw); first | (go_simp; done) | (go_simp; with_reducible rfl))
          simp only [Act.put, List.setIfInBounds_toArray, List.set_cons_zero, List.set_cons_succ]
          refine takeH (i := 27) (v := ?_) rfl rfl (by kernel_rfl) (by kernel_rfl) (by kernel_rfl) (fun _ _ _ h => h) (by rfl) ?_ hHeld ?_
          rotate_left
          · (intro w hSw; (try dsimp only at hSw); first | (go_simp; done) | (go_simp; with_reducible rfl))
          simp only [Act.put, List.setIfInBounds_toArray, List.set_cons_zero, List.set_cons_succ]
          refine takeH (i := 28) (v := ?_) rfl rfl (by kernel_rfl) (by kernel_rfl) (by kernel_rfl) (fun _ _ _ h => h) (by rfl) ?_ hHeld ?_
          rotate_left
          · (intro w hSw; (try dsimp only at hSw); first | (go_simp; done) | (go_simp; with_reducible rfl))
          simp only [Act.put, List.setIfInBounds_toArray, List.set_cons_zero, List.set_cons_succ]
          refine takeH (i := 29) (v := ?_) rfl rfl (by kernel_rfl) (by kernel_rfl) (by kernel_rfl) (fun _ _ _ h => h) (by rfl) ?_ hHeld ?_
          rotate_left
          · (intro w hSw; (try dsimp only at hSw); first | (go_simp; done) | (go_simp; with_reducible rfl))
          simp only [Act.put, List.setIfInBounds_toArray, List.set_cons_zero, List.set_cons_succ]
          refine takeH (i := 30) (v := ?_) rfl rfl (by kernel_rfl) (by kernel_rfl) (by kernel_rfl) (fun _ _ _ h => h) (by rfl) ?_ hHeld ?_
          rotate_left
          · (intro w hSw; (try dsimp only at hSw); first | (go_simp; done) | (go_simp; with_reducible rfl))
          simp only [Act.put, List.setIfInBounds_toArray, List.set_cons_zero, List.set_cons_succ]
          refine wpAnyH_done (by kernel_rfl) ?_ _
          go_wp2_with fail
          have q3 : w3.drew.cell? ⟨g1, p1, none⟩ = some (.int .i64 x) := q1
          have q4 : w3.drew.cell? ⟨g2, p2, none⟩ = some (.int .i64 y) := q2
          refine wp_region_held_drew (S := (fun w' => w'.cell? ⟨g1, p1, none⟩ = some (.int .i64 x) ∧ w'.cell? ⟨g2, p2, none⟩ = some (.int .i64 y))) (by kernel_rfl) ⟨q3, q4⟩ (fun hHeld => ?_)
          refine takeH (i := 0) (v := ?_) rfl rfl (by kernel_rfl) (by kernel_rfl) (by kernel_rfl) (fun _ _ _ h => h) (by rfl) ?_ hHeld ?_
          rotate_left
          · (intro w hSw; (try dsimp only at hSw); first | (go_simp; done) | (go_simp; with_reducible rfl))
          simp only [Act.put, List.setIfInBounds_toArray, List.set_cons_zero, List.set_cons_succ]
          refine takeH (i := 1) (v := ?_) rfl rfl (by kernel_rfl) (by kernel_rfl) (by kernel_rfl) (fun _ _ _ h => h) (by rfl) ?_ hHeld ?_
          rotate_left
          · (intro w hSw; (try dsimp only at hSw); first | (go_simp; done) | (go_simp; with_reducible rfl))
          simp only [Act.put, List.setIfInBounds_toArray, List.set_cons_zero, List.set_cons_succ]
          refine takeH (i := 2) (v := ?_) rfl rfl (by kernel_rfl) (by kernel_rfl) (by kernel_rfl) (fun _ _ _ h => h) (by rfl) ?_ hHeld ?_
          rotate_left
          · (intro w hSw; (try dsimp only at hSw); first | (go_simp; done) | (go_simp; with_reducible rfl))
          simp only [Act.put, List.setIfInBounds_toArray, List.set_cons_zero, List.set_cons_succ]
          refine takeH (i := 3) (v := ?_) rfl rfl (by kernel_rfl) (by kernel_rfl) (by kernel_rfl) (fun _ _ _ h => h) (by rfl) ?_ hHeld ?_
          rotate_left
          · (intro w hSw; (try dsimp only at hSw); first | (go_simp; done) | (go_simp; with_reducible rfl))
          simp only [Act.put, List.setIfInBounds_toArray, List.set_cons_zero, List.set_cons_succ]
          refine takeH (i := 4) (v := ?_) rfl rfl (by kernel_rfl) (by kernel_rfl) (by kernel_rfl) (fun _ _ _ h => h) (by rfl) ?_ hHeld ?_
          rotate_left
          · (intro w hSw; (try dsimp only at hSw); first | (go_simp; done) | (go_simp; with_reducible rfl))
          simp only [Act.put, List.setIfInBounds_toArray, List.set_cons_zero, List.set_cons_succ]
          refine takeH (i := 5) (v := ?_) rfl rfl (by kernel_rfl) (by kernel_rfl) (by kernel_rfl) (fun _ _ _ h => h) (by rfl) ?_ hHeld ?_
          rotate_left
          · (intro w hSw; (try dsimp only at hSw); first | (go_simp; done) | (go_simp; with_reducible rfl))
          simp only [Act.put, List.setIfInBounds_toArray, List.set_cons_zero, List.set_cons_succ]
          refine takeH (i := 6) (v := ?_) rfl rfl (by kernel_rfl) (by kernel_rfl) (by kernel_rfl) (fun _ _ _ h => h) (by rfl) ?_ hHeld ?_
          rotate_left
          · (intro w hSw; (try dsimp only at hSw); first | (go_simp; done) | (go_simp; with_reducible rfl))
          simp only [Act.put, List.setIfInBounds_toArray, List.set_cons_zero, List.set_cons_succ]
          refine wpAnyH_done (by kernel_rfl) ?_ _
          obtain ⟨w4, hw4⟩ : ∃ w4, w4 = w3.drew.drew := ⟨_, rfl⟩
          have hb4 : Below w3.heap.size w3 w4 := by rw [hw4]; exact (Below.refl _ _).drew.drew
          rw [← hw4]
          have HB4 := Lib.hid (HB3.out.trans (hb4.mono HB3.out.size))
          have HST4 := Lib.hid (HST3.out.on hb4)
          have HRA4 := Lib.hid (HRA3.out.below (hb4.mono (by omega)))
          have HRB4 := Lib.hid (HRB3.out.below (hb4.mono (by omega)))
          have HSY4 := Lib.hid (HSY.out.below (HB4.out.mono hbw0))
          clear hw4 hb4 q1 q2 q3 q4 k1 k2 k4
          by_cases hxy : x = y
          · subst hxy
            have gxx : (x != x) = false := by simp
            obtain ⟨ar, har, hts⟩ : ∃ ar, arOf ss x = some ar ∧ trm V ss s ar := by
              rcases trm_cons HONE.out with ⟨h, _⟩ | ⟨_, ar, i, h1, h2, h3⟩
              · omega
              · have : i = 0 := by omega
                subst this
                exact ⟨ar, h1, h3⟩
            have htt : trm V ss t ar := by
              rcases trm_cons HONEB.out with ⟨h, _⟩ | ⟨_, ar', i, h1, h2, h3⟩
              · omega
              · have : i = 0 := by omega
                subst this
                rw [har] at h1
                injection h1 with h1
                subst h1
                exact h3
            have har0 : ar ≠ 0 := fun e => by
              subst e
              exact HNE.out (by rw [trm_zero hts, trm_zero htt])
            have hls := trm_len hts
            have hlt := trm_len htt
            have HTS := Lib.hid hts
            have HTT := Lib.hid htt
            have hk1 : 2 ≤ m1 := by have := HN1.out; omega
            have hk2 : 2 ≤ m2 := by have := HN2.out; omega
            have hd1 := HRA4.out.cap
            have hd2 := HRB4.out.cap
            obtain ⟨⟨ms1, e1, l1⟩, cc1⟩ := hts
            obtain ⟨⟨ms2, e2, l2⟩, cc2⟩ := htt
            have HE1 := Lib.hid e1
            have HE2 := Lib.hid e2
            have HL1 : Hid (ms1.length = ms2.length) := by show ms1.length = ms2.length; omega
            have HCC1 := Lib.hid cc1
            have HCC2 := Lib.hid cc2
            have HRS1 : Hid (RowAt w4 base (some ⟨g1, p1 + 1, none⟩) (m1 - 1) (d1 - 1) s) := ⟨HRA4.out.at_.drop (k := 1) (by omega), by omega, by omega⟩
            have HRS2 : Hid (RowAt w4 base (some ⟨g2, p2 + 1, none⟩) (m2 - 1) (d2 - 1) t) := ⟨HRB4.out.at_.drop (k := 1) (by omega), by omega, by omega⟩
            have z1 : (1 : Int) ≤ (m1 : Int) := by omega
            have z2 : (1 : Int) ≤ (m2 : Int) := by omega
            have z3 : ¬ d1 = 1 := by omega
            have z4 : ¬ d2 = 1 := by omega
            have z5 : (m1 : Int) ≤ (d1 : Int) := by omega
            have z6 : (m2 : Int) ≤ (d2 : Int) := by omega
            have HARLE : Hid (ms1.length ≤ 48) := by show ms1.length ≤ 48; have := HN1.out; omega
            have hsz4 := HB4.out.size
            have HSBLT := Lib.hid HST4.out.lt
            clear e1 e2 cc1 cc2 l1 l2 hls hlt har har0
            go_wp2_with fail
            refine wp_region_held_drew (S := (fun w' => True)) (by kernel_rfl) trivial (fun hHeld => ?_)
            refine takeH (i := 0) (v := ?_) rfl rfl (by kernel_rfl) (by kernel_rfl) (by kernel_rfl) (fun _ _ _ h => h) (by rfl) ?_ hHeld ?_
            rotate_left
            · (intro w hSw; (try dsimp only at hSw); first | (go_simp; done) | (go_simp; with_reducible rfl))
            simp only [Act.put, List.setIfInBounds_toArray, List.set_cons_zero, List.set_cons_succ]
            refine takeH (i := 1) (v := ?_) rfl rfl (by kernel_rfl) (by kernel_rfl) (by kernel_rfl) (fun _ _ _ h => h) (by rfl) ?_ hHeld ?_
            rotate_left
            · (intro w hSw; (try dsimp only at hSw); first | (go_simp; done) | (go_simp; with_reducible rfl))
            simp only [Act.put, List.setIfInBounds_toArray, List.set_cons_zero, List.set_cons_succ]
            refine takeH (i := 2) (v := ?_) rfl rfl (by kernel_rfl) (by kernel_rfl) (by kernel_rfl) (fun _ _ _ h => h) (by rfl) ?_ hHeld ?_
            rotate_left
            · (intro w hSw; (try dsimp only at hSw); first | (go_simp; done) | (go_simp; with_reducible rfl))
            simp only [Act.put, List.setIfInBounds_toArray, List.set_cons_zero, List.set_cons_succ]
            refine takeH (i := 3) (v := ?_) rfl rfl (by kernel_rfl) (by kernel_rfl) (by kernel_rfl) (fun _ _ _ h => h) (by rfl) ?_ hHeld ?_
            rotate_left
            · (intro w hSw; (try dsimp only at hSw); first | (go_simp; done) | (go_simp; with_reducible rfl))
            simp only [Act.put, List.setIfInBounds_toArray, List.set_cons_zero, List.set_cons_succ]
            refine takeH (i := 4) (v := ?_) rfl rfl (by kernel_rfl) (by kernel_rfl) (by kernel_rfl) (fun _ _ _ h => h) (by rfl) ?_ hHeld ?_
            rotate_left
            · (intro w hSw; (try dsimp only at hSw); first | (go_simp; done) | (go_simp; with_reducible rfl))
            simp only [Act.put, List.setIfInBounds_toArray, List.set_cons_zero, List.set_cons_succ]
            refine takeH (i := 6) (v := ?_) rfl rfl (by kernel_rfl) (by kernel_rfl) (by kernel_rfl) (fun _ _ _ h => h) (by rfl) ?_ hHeld ?_
            rotate_left
            · (intro w hSw; (try dsimp only at hSw); first | (go_simp; done) | (go_simp; with_reducible rfl))
            simp only [Act.put, List.setIfInBounds_toArray, List.set_cons_zero, List.set_cons_succ]
            refine takeH (i := 7) (v := ?_) rfl rfl (by kernel_rfl) (by kernel_rfl) (by kernel_rfl) (fun _ _ _ h => h) (by rfl) ?_ hHeld ?_
            rotate_left
            · (intro w hSw; (try dsimp only at hSw); first | (go_simp; done) | (go_simp; with_reducible rfl))
            simp only [Act.put, List.setIfInBounds_toArray, List.set_cons_zero, List.set_cons_succ]
            refine takeH (i := 8) (v := ?_) rfl rfl (by kernel_rfl) (by kernel_rfl) (by kernel_rfl) (fun _ _ _ h => h) (by rfl) ?_ hHeld ?_
            rotate_left
            · (intro w hSw; (try dsimp only at hSw); first | (go_simp; done) | (go_simp; with_reducible rfl))
            simp only [Act.put, List.setIfInBounds_toArray, List.set_cons_zero, List.set_cons_succ]
            refine wpAnyH_ready (rs := [5]) (by kernel_rfl) (by simp) ?_
            refine AllReadyH.cons rfl (fun K hK => ?_) AllReadyH.nil
            go_simp
            refine (refParts_any A0 g1 (p1 + 1) n0 c0 (m1 - 1) (d1 - 1) ss s ms1 w4.drew ((HSY4.out.below (Below.refl _ _).drew).more (by show base ≤ w4.heap.size; omega)) hn0 ((HRS1.out.at_.below (Below.refl _ _).drew).more (by show base ≤ w4.heap.size; omega)) (by omega) (by omega) HM.out HE1.out).mono ?_
            rintro e w5 ⟨v5, rfl, hv5, hb5⟩
            have hb5' : Below w4.heap.size w4 w5 := (Below.refl _ _).drew.trans hb5
            have HP5 := Lib.hid (RowsAt.parts (w := w4) HRS1.out HE1.out hv5 hb5' (by omega))
            have HST5 := Lib.hid (HST4.out.on hb5')
            have HB5 := Lib.hid (HB4.out.trans (hb5'.mono HB4.out.size))
            have HRS25 := Lib.hid (HRS2.out.below (hb5'.mono (by omega)))
            have HSY5 := Lib.hid (HSY4.out.below (hb5'.mono (by omega)))
            have hsz5 := hb5'.size
            clear hv5 hb5 hb5'
            go_wp2_with fail
            refine hK.out _ _ ?_ (fun hHeld => ?_)
            · trivial
            clear hK K
            refine wpAnyH_ready (rs := [9]) (by kernel_rfl) (by simp) ?_
            refine AllReadyH.cons rfl (fun K hK => ?_) AllReadyH.nil
            go_simp
            refine (refParts_any A0 g2 (p2 + 1) n0 c0 (m2 - 1) (d2 - 1) ss t ms2 w5 (HSY5.out.more (by omega)) hn0 (HRS25.out.at_.more (by omega)) (by omega) (by omega) HM.out HE2.out).mono ?_
            rintro e w6 ⟨v6, rfl, hv6, hb6⟩
            have HP6 := Lib.hid (RowsAt.parts (w := w5) HRS25.out HE2.out hv6 hb6 (by omega))
            have HP56 : Hid (RowsAt w6 base w4.heap.size v5 (partsL s ms1)) := HP5.out.on hb6 (by omega)
            have HST6 := Lib.hid (HST5.out.on hb6)
            have HB6 := Lib.hid (HB5.out.trans (hb6.mono HB5.out.size))
            have HSY6 := Lib.hid (HSY5.out.below (hb6.mono (by omega)))
            have HP66 : Hid (RowsAt w6 base w4.heap.size v6 (partsL t ms2)) := by
              obtain ⟨vals, k1, k2, k3⟩ := HP6.out
              exact ⟨vals, k1, k2.lower (by omega), k3⟩
            clear hv6 hb6 HP5 HP6
            go_wp2_with fail
            refine hK.out _ _ ?_ (fun hHeld => ?_)
            · trivial
            clear hK K
            have HCALL := Lib.hid (refAll_of V ss A0 n0 c0 base sb w4.heap.size U K HIK.out (fun U' hU' K' => HIU.out U' hU' K') T σ rk v5 v6 (partsL s ms1) (partsL t ms2) w6 HST6.out HS.out HSY6.out HP56.out HP66.out (HP56.out.off HSBLT.out) (HP66.out.off HSBLT.out) (by rw [partsL_length, partsL_length]; exact HL1.out) (by rw [partsL_length]; exact HARLE.out) (partsL_trm HE1.out HCC1.out) (partsL_trm HE2.out HCC2.out) HU.out (fun r hr => by
              have h1 := ap_in_flat (σ := σ) hr
              rw [partsL_flat HE1.out] at h1
              have h2 := HK.out
              rw [← HWA.out.eq, ap_sym hx0, List.length_cons] at h2
              omega))
            refine wpAnyH_ready (rs := [10]) (by kernel_rfl) (by simp) ?_
            refine AllReadyH.cons rfl (fun K hK => ?_) AllReadyH.nil
            go_simp
            refine HCALL.out.mono ?_
            rintro e w7 hp
            obtain ⟨bb, rfl⟩ := hp.value
            have HP : Hid (PairPost V ss T base sb a b w (.returned (.bool bb)) w7) := by
              refine PairPost.of (w1 := w6) HWA.out HWB.out HB6.out ?_
              refine ⟨?_, hp.2⟩
              have hd := hp.1
              rw [partsL_flat HE1.out, partsL_flat HE2.out] at hd
              rcases hd with ⟨he, T', h1, h2⟩ | ⟨he, h1⟩
              · exact .inl ⟨he, T', h1, h2.args hx0⟩
              · exact .inr ⟨he, h1.args hx0⟩
            clear hp
            go_wp2_with fail
            refine hK.out _ _ ?_ (fun hHeld => ?_)
            · trivial
            clear hK K
            refine takeH (i := 11) (v := ?_) rfl rfl (by kernel_rfl) (by kernel_rfl) (by kernel_rfl) (fun _ _ _ h => h) (by rfl) ?_ hHeld ?_
            rotate_left
            · (intro w hSw; (try dsimp only at hSw); first | (go_simp; done) | (go_simp; with_reducible rfl))
            simp only [Act.put, List.setIfInBounds_toArray, List.set_cons_zero, List.set_cons_succ]
            refine wpAnyH_done (by kernel_rfl) ?_ _
            go_wp2
            go_ret
            exact HP.out
          · have gxy : (x != y) = true := by simpa using hxy
            have HEND := Lib.hid (PairPost.of (w2 := w4) (e := .returned (.bool false)) HWA.out HWB.out HB4.out ⟨.inr ⟨rfl, PairNo.clash hx0 hy0 hxy⟩, grown_refl⟩ : PairPost V ss T base sb a b w _ w4)
            clear hxy
            go_wp2
            go_ret
            exact HEND.out
    · have HEQ : Hid (a' = b') := by
        have : a' = b' := of_decide_eq_true hsm
        exact this
      have HEND : Hid (PairPost V ss T base sb a b w (.returned (.bool true)) w3) := by
        have hw2 := HWB.out
        rw [← HEQ.out] at hw2
        exact PairPost.of (w1 := w3) HWA.out hw2 HB3.out ⟨.inl ⟨rfl, T, HST3.out, PairOk.rfl_⟩, grown_refl⟩
      clear hsm
      go_wp2
      go_ret
      exact HEND.out

end Go.Proofs.Ytlpafnaokpjoiaa

namespace Go.Proofs.Ytlpafnaokpjoiaa
open Go.RowKit
set_option linter.unusedSimpArgs false
set_option linter.unusedVariables false
set_option maxRecDepth 100000

def TogPost (ss : List Sym) (a b : List Int) (w : World) (e : Ending) (w' : World) : Prop :=
  ∃ v is short bs, e = .returned (.tuple #[v, .bool is, .bool short]) ∧ OwnB w' w.heap.size v bs ∧ Below w.heap.size w w' ∧
    (((∀ θ, Sub 24 ss θ → ap θ a ≠ ap θ b) ∧ is = false ∧ short = true ∧ bs = []) ∨
     ∃ σ, Canon 24 ss a b σ ∧ (((∀ v, v < 24 → (σ v).length ≤ 48) ∧ is = true ∧ short = true ∧ bs = bdsOf σ 24) ∨ ((∃ v, v < 24 ∧ 48 < (σ v).length) ∧ is = true ∧ short = false ∧ bs = [])))

set_option maxHeartbeats 600000 in
theorem refTogether_any (A A1 A2 : Option Addr) (n c n1 c1 n2 c2 : Nat) (ss : List Sym) (a b : List Int) (w : World) (hs : SymsAt w w.heap.size A n ss) (hn : n ≤ maxLen) (ha : RowAt w w.heap.size A1 n1 c1 a) (hb : RowAt w w.heap.size A2 n2 c2 b) (hra : rowB ss a = true) (hrb : rowB ss b = true) :
    Calls Try.prog 28 #[.slice A n c, .slice A1 n1 c1, .slice A2 n2 c2] w (TogPost ss a b w) := by
  obtain ⟨hmay, -, hta⟩ := row_parts hra
  obtain ⟨-, -, htb⟩ := row_parts hrb
  have HS := Lib.hid hs
  have HA := Lib.hid ha
  have HB := Lib.hid hb
  have HM := Lib.hid hmay
  have HTA := Lib.hid (tl_nrm _ hta)
  have HTB := Lib.hid (tl_nrm _ htb)
  have HCA : Hid (∀ x ∈ a, -((24 : Nat) : Int) ≤ x) := row_codes hta
  have HCB : Hid (∀ x ∈ b, -((24 : Nat) : Int) ≤ x) := row_codes htb
  have HMA := Lib.hid (tl_len _ hta)
  have HMB := Lib.hid (tl_len _ htb)
  have HLA := Lib.hid ha.at_.len
  have HLB := Lib.hid hb.at_.len
  have hf1 := ha.few
  have hf2 := hb.few
  obtain ⟨ms1, hms1⟩ : ∃ ms1, ms1 = tlD ss a := ⟨_, rfl⟩
  obtain ⟨ms2, hms2⟩ : ∃ ms2, ms2 = tlD ss b := ⟨_, rfl⟩
  rw [← hms1] at HTA HMA
  rw [← hms2] at HTB HMB
  have HB0 := Lib.hid (Below.refl w.heap.size w)
  clear hs ha hb hmay hta htb hms1 hms2
  go_enter Try.func28, Try.ntmps28
  go_wp2_with fail
  refine (refPartsR_any A A1 n c n1 c1 w.heap.size ss a ms1 w HS.out hn HA.out HM.out HTA.out (Nat.le_refl _)).mono ?_
  rintro e w1 ⟨v1, rfl, hv1, hb1⟩
  have HV1 := Lib.hid hv1
  have HB1 := Lib.hid hb1
  have hsz1 := hb1.size
  clear hv1 hb1
  go_wp2_with fail
  refine (refPartsR_any A A2 n c n2 c2 w.heap.size ss b ms2 w1 (HS.out.below HB1.out) hn (HB.out.below HB1.out) HM.out HTB.out hsz1).mono ?_
  rintro e w2 ⟨v2, rfl, hv2, hb2⟩
  have HV2 := Lib.hid hv2
  have hsz2 := hb2.size
  have HV12 := Lib.hid hb2
  have HB2 := Lib.hid (HB1.out.trans (hb2.mono hsz1))
  clear hv2 hb2
  obtain ⟨B1, d1, hv1e⟩ := HV1.out.value
  obtain ⟨B2, d2, hv2e⟩ := HV2.out.value
  rw [partsL_length] at hv1e hv2e
  subst hv1e; subst hv2e
  have HFA := Lib.hid (partsL_flat HTA.out)
  have HFB := Lib.hid (partsL_flat HTB.out)
  obtain ⟨w3, hw3⟩ : ∃ w3, w3 = w2.alloc (.cells noneC 80) := ⟨_, rfl⟩
  obtain ⟨sb, hsb⟩ : ∃ sb, sb = w2.heap.size := ⟨_, rfl⟩
  have hb3 : Below w2.heap.size w2 w3 := by rw [hw3]; exact below_new w2 _
  have HST3 : Hid (StoreAt w3 w.heap.size sb (fun _ => [])) := by
    rw [hw3, hsb]
    exact StoreAt.empty w2 w.heap.size (by omega)
  have HV13 : Hid (RowsAt w3 w.heap.size w.heap.size (.slice B1 ms1.length d1) (partsL a ms1)) := (HV1.out.on HV12.out hsz1).on hb3 (by omega)
  have HV23 : Hid (RowsAt w3 w.heap.size w.heap.size (.slice B2 ms2.length d2) (partsL b ms2)) := (HV2.out.lower hsz1).on hb3 (by omega)
  have HN1 : Hid ((Value.slice B1 ms1.length d1).ownBlock ≠ some sb) := HV1.out.before (by omega)
  have HN2 : Hid ((Value.slice B2 ms2.length d2).ownBlock ≠ some sb) := HV2.out.before (by omega)
  have HB3 := Lib.hid (HB2.out.trans (hb3.mono (by omega)))
  have hsbw : w.heap.size ≤ sb := by omega
  have HSY3 := Lib.hid (HS.out.below HB3.out)
  have HT1 := Lib.hid (partsL_trm (V := 24) HTA.out HCA.out)
  have HT2 := Lib.hid (partsL_trm (V := 24) HTB.out HCB.out)
  rw [noneC_lit] at hw3
  have HW3 := Lib.hid hw3
  have HSB := Lib.hid hsb
  obtain ⟨L1, hL1⟩ : ∃ L1, L1 = ms1.length := ⟨_, rfl⟩
  obtain ⟨L2, hL2⟩ : ∃ L2, L2 = ms2.length := ⟨_, rfl⟩
  rw [← hL1] at HV13 HN1 ⊢
  rw [← hL2] at HV23 HN2 ⊢
  have HL1 := Lib.hid hL1
  have HL2 := Lib.hid hL2
  have HLEN48 : Hid (ms1.length ≤ 48) := by have := HMA.out; have := HLA.out; show ms1.length ≤ 48; omega
  have HLT1 := Lib.hid (trm_flatten HT1.out)
  have HLT2 := Lib.hid (trm_flatten HT2.out)
  rw [HFA.out, partsL_length] at HLT1
  rw [HFB.out, partsL_length] at HLT2
  clear hw3 hsb hb3 hL1 hL2
  by_cases hl : L1 = L2
  · subst hl
    have HEQ : Hid (ms1.length = ms2.length) := HL1.out.symm.trans HL2.out
    have gl : ((L1 : Int) != (L1 : Int)) = false := by simp
    have HCALL := Lib.hid (refAll_of 24 ss A n c w.heap.size sb w.heap.size _ _ (refPair_all 24 ss A n c w.heap.size sb (by omega) HM.out hn _ _) (fun U' _ K' => refPair_all 24 ss A n c w.heap.size sb (by omega) HM.out hn U' K') (fun _ => []) (fun v => [-1 - (v : Int)]) (fun _ => 0) _ _ (partsL a ms1) (partsL b ms2) w3 HST3.out Sto.empty HSY3.out HV13.out HV23.out HN1.out HN2.out (by rw [partsL_length, partsL_length]; exact HEQ.out) (by rw [partsL_length]; exact HLEN48.out) HT1.out HT2.out (Nat.le_refl _) (fun r hr => ap_in_flat hr))
    go_wp2_with fail
    rw [← HSB.out, ← HW3.out]
    refine HCALL.out.mono ?_
    rintro e w4 hp
    rw [HFA.out, HFB.out] at hp
    obtain ⟨hd, hg⟩ := hp
    have HB4 := Lib.hid (HB3.out.grown hg (by have := HB3.out.size; omega) (fun k hk => by injection hk with hk; omega))
    have hsz4 := HB4.out.size
    clear hg
    rcases hd with ⟨rfl, T', hst4, hok⟩ | ⟨rfl, hno⟩
    · obtain ⟨σ, rk, hs4, hcan⟩ := hok.canon
      have HST4 := Lib.hid hst4
      have HS4 := Lib.hid hs4
      have HCAN := Lib.hid hcan
      clear hst4 hok hs4 hcan
      go_wp2
      go_loopw [12, 13] (fun q i wr => ∃ k : Nat, i = .int .i64 (k : Int) ∧ k ≤ 24 ∧ OwnB wr w4.heap.size q (bdsOf σ k) ∧ (∀ v, v < k → (σ v).length ≤ 48) ∧ Below w4.heap.size w4 wr) (fun _ i _ => 24 - (intOf i).toNat)
      case atStart => exact ⟨0, rfl, by omega, OwnB.nil_, fun v hv => absurd hv (by omega), Below.refl _ _⟩
      case round =>
        obtain ⟨k, rfl, hk, hown, hall, hbw⟩ := hrel
        have HOWN := Lib.hid hown
        have HALL := Lib.hid hall
        have HBW := Lib.hid hbw
        have hsz := hbw.size
        clear hown hall hbw
        have HBR := Lib.hid (HB4.out.trans (HBW.out.mono hsz4))
        by_cases hlt : k < 24
        · have HSTR := Lib.hid (HST4.out.on HBW.out)
          obtain ⟨A5, n5, c5, hc5, hr5⟩ := HSTR.out.cell (v := k) (by omega)
          have HR5 := Lib.hid hr5
          have HL5 := Lib.hid hr5.at_.len
          have HSUCC := Lib.hid (bdsOf_succ σ k)
          have HIV := Lib.hid (HS4.out.isV hlt)
          have i0 : (0 : Int) ≤ (k : Int) := by omega
          have i1 : (k : Int) < 48 := by omega
          have i2 : (k : Int) ≤ 23 := by omega
          clear hr5
          by_cases hn5 : n5 = 0
          · subst hn5
            have HTE : Hid (T' k = []) := List.eq_nil_of_length_eq_zero HL5.out
            have HVT : Hid (isV (σ k) k = true) := by show isV (σ k) k = true; rw [HIV.out]; exact decide_eq_true HTE.out
            have HL1 : Hid ((σ k).length ≤ 48) := by show (σ k).length ≤ 48; rw [isV_iff.1 HVT.out]; simp
            go_wp2
            go_roundw
            case rel => exact ⟨k + 1, by go_num, by omega, HOWN.out.cast (by rw [HSUCC.out, HVT.out]; simp), fun v hv => if e : v = k then by rw [e]; exact HL1.out else HALL.out v (by omega), HBW.out⟩
            case measure => simp [intOf]; omega
          · have hn5' : ¬ (n5 : Int) = 0 := by omega
            have HTN : Hid (T' k ≠ []) := fun e => hn5 (by rw [← HL5.out, e]; rfl)
            have HVT : Hid (isV (σ k) k = false) := by show isV (σ k) k = false; rw [HIV.out]; exact decide_eq_false HTN.out
            have HBND := Lib.hid (HS4.out.bnd k hlt HTN.out)
            have HRK : Hid (∀ y ∈ T' k, y < 0 → rk (-1 - y).toNat < rk k) := HS4.out.down k hlt HTN.out
            clear hn5
            go_wp2_with fail
            refine (refFull_any 24 ss T' σ rk w.heap.size sb wr HSTR.out HS4.out (by omega) (rk k) A5 n5 c5 1 (T' k) _ [] wr HR5.out (HS4.out.one k hlt HTN.out) HRK.out (Below.refl _ _) OwnI.nil_ (by simp)).mono ?_
            rintro e w5 ⟨v5, zs, rfl, hv5, hf5, hb5⟩
            rw [← HBND.out] at hf5
            have HO5 := Lib.hid (HOWN.out.on hb5)
            have HB5 := Lib.hid (HBW.out.trans (hb5.mono hsz))
            have HBR5 := Lib.hid (HBR.out.trans (hb5.mono (by omega)))
            have hsz5 := HBR5.out.size
            have HF5 := Lib.hid hf5
            obtain ⟨A6, c6, hv5e, _, _⟩ := hv5.intsAt
            obtain ⟨L6, hL6⟩ : ∃ L6, L6 = zs.length := ⟨_, rfl⟩
            rw [← hL6] at hv5e
            have HL6 := Lib.hid hL6
            have HV5 := Lib.hid (hv5.lower (base' := w4.heap.size) hsz)
            have hsz45 := HB5.out.size
            subst hv5e
            clear hv5 hf5 hb5 hL6
            by_cases hlong : 48 < (σ k).length
            · have hl6 : (48 : Int) < (L6 : Int) := by have := HF5.out.2.1 (by simpa using hlong); have := HL6.out; omega
              have HLONG := Lib.hid hlong
              clear hlong
              go_wp2
              go_ret3
              exact ⟨_, true, false, [], rfl, OwnB.nil_, HBR5.out, .inr ⟨σ, HCAN.out, .inr ⟨⟨k, hlt, HLONG.out⟩, rfl, rfl, rfl⟩⟩⟩
            · have hz : zs = σ k := by have := HF5.out.1 (by simp; omega); simpa using this
              have hl6 : ¬ (48 : Int) < (L6 : Int) := by have := HL6.out; rw [hz] at this; omega
              have HL1 : Hid ((σ k).length ≤ 48) := by show (σ k).length ≤ 48; omega
              have HV6 := Lib.hid (HV5.out.cast hz)
              clear hlong hz
              go_wp2_with (at_builtin
                           refine app_bind1 rfl (.tmp 59) (.tmp 63) rfl w4.heap.size _ _ (k : Int) (σ k) _ rfl HO5.out HV6.out rfl (by have := bdsOf_len σ k; omega) hsz45 ?_
                           intro v7 w7 hown7 hb7
                           have HO7 := Lib.hid hown7
                           have HB7 := Lib.hid hb7
                           clear hown7 hb7)
              go_roundw
              case rel => exact ⟨k + 1, by go_num, by omega, HO7.out.cast (by rw [HSUCC.out, HVT.out]; simp), fun v hv => if e : v = k then by rw [e]; exact HL1.out else HALL.out v (by omega), HB5.out.trans HB7.out⟩
              case measure => simp [intOf]; omega
        · obtain rfl : k = 24 := by omega
          go_wp2
          go_ret3
          exact ⟨_, true, true, _, rfl, HOWN.out.lower hsz4, HBR.out, .inr ⟨σ, HCAN.out, .inl ⟨HALL.out, rfl, rfl, rfl⟩⟩⟩
    · have HNO := Lib.hid hno.none
      clear hno
      go_wp2
      go_ret3
      exact ⟨_, false, true, [], rfl, OwnB.nil_, HB4.out, .inl ⟨HNO.out, rfl, rfl, rfl⟩⟩
  · have gl : ((L1 : Int) != (L2 : Int)) = true := by simp; omega
    have HNO : Hid (∀ θ, Sub 24 ss θ → ap θ a ≠ ap θ b) := fun θ hθ e => by
      have h1 := trm_uniq' (trm_ap hθ HLT1.out) (trm_ap hθ HLT2.out) e
      exact hl (by rw [HL1.out, HL2.out]; exact h1)
    clear hl
    have HBA := Lib.hid HB3.out
    rw [HW3.out] at HBA
    go_wp2
    go_ret3
    exact ⟨_, false, true, [], rfl, OwnB.nil_, HBA.out, .inl ⟨HNO.out, rfl, rfl, rfl⟩⟩
def RefUniPost (ss : List Sym) (a b : List Int) (w : World) (e : Ending) (w' : World) : Prop :=
  ∃ v E is bs, e = .returned (.tuple #[v, .bool is, .int .i64 E]) ∧ OwnB w' w.heap.size v bs ∧ Below w.heap.size w w' ∧ UniR ss a b E is bs

set_option maxHeartbeats 600000 in
theorem refUnify_any (A A1 A2 : Option Addr) (n c n1 c1 n2 c2 : Nat) (ss : List Sym) (a b : List Int) (w : World) (hs : SymsAt w w.heap.size A n ss) (hn : n ≤ maxLen) (ha : IntsAt w w.heap.size A1 n1 a) (hn1 : n1 ≤ maxLen) (hnc1 : n1 ≤ c1) (hb : IntsAt w w.heap.size A2 n2 b) (hn2 : n2 ≤ maxLen) (hnc2 : n2 ≤ c2) :
    Calls Try.prog 11 #[.slice A n c, .slice A1 n1 c1, .slice A2 n2 c2] w (RefUniPost ss a b w) := by
  have HS := Lib.hid hs
  have HA := Lib.hid ha
  have HB := Lib.hid hb
  clear hs ha hb
  cases hm : mayB ss
  · have HU : Hid (UniR ss a b 400 false []) := .inl ⟨by unfold rowB; rw [hm]; rfl, rfl, rfl, rfl⟩
    go_enter Try.func11, Try.ntmps11
    go_wp2_with fail
    refine (signMay_any A n c ss _ HS.out hn).mono ?_
    rintro e w1 ⟨rfl, hb1⟩
    rw [hm]
    have HB1 := Lib.hid hb1
    clear hb1 hm
    go_wp2
    go_ret3
    exact ⟨_, 400, false, [], rfl, OwnB.nil_, HB1.out, HU.out⟩
  have HM := Lib.hid hm
  cases h1 : rowB ss a
  · have HU : Hid (UniR ss a b 400 false []) := .inl ⟨by rw [h1]; rfl, rfl, rfl, rfl⟩
    have ht := tK_no hm h1
    go_enter Try.func11, Try.ntmps11
    go_wp2_with fail
    refine (signMay_any A n c ss _ HS.out hn).mono ?_
    rintro e w1 ⟨rfl, hb1⟩
    rw [hm]
    have HB1 := Lib.hid hb1
    clear hb1 hm h1
    go_wp2_with fail
    refine (refTerms_any A A1 n c n1 c1 _ _ ss a _ (HS.out.on HB1.out) hn (HA.out.on HB1.out) hn1 HM.out).mono ?_
    rintro e w2 ⟨rfl, rfl⟩
    rw [ht]
    clear ht
    go_wp2
    go_ret3
    exact ⟨_, 400, false, [], rfl, OwnB.nil_, HB1.out, HU.out⟩
  cases h2 : rowB ss b
  · have HU : Hid (UniR ss a b 400 false []) := .inl ⟨by rw [h1, h2]; rfl, rfl, rfl, rfl⟩
    have ht := tK_no hm h2
    have ht1 := tK_yes h1
    obtain ⟨t1, ht1e⟩ : ∃ t1, t1 = termsK ss a := ⟨_, rfl⟩
    rw [← ht1e] at ht1
    have ht1n : ¬ t1 < 0 := by omega
    have HT1 := Lib.hid ht1e
    clear ht1e
    go_enter Try.func11, Try.ntmps11
    go_wp2_with fail
    refine (signMay_any A n c ss _ HS.out hn).mono ?_
    rintro e w1 ⟨rfl, hb1⟩
    rw [hm]
    have HB1 := Lib.hid hb1
    clear hb1 hm h1 h2
    go_wp2_with fail
    refine (refTerms_any A A1 n c n1 c1 _ _ ss a _ (HS.out.on HB1.out) hn (HA.out.on HB1.out) hn1 HM.out).mono ?_
    rintro e w2 ⟨rfl, rfl⟩
    rw [← HT1.out]
    go_wp2_with fail
    refine (refTerms_any A A2 n c n2 c2 _ _ ss b _ (HS.out.on HB1.out) hn (HB.out.on HB1.out) hn2 HM.out).mono ?_
    rintro e w2 ⟨rfl, rfl⟩
    rw [ht]
    clear ht
    go_wp2
    go_ret3
    exact ⟨_, 400, false, [], rfl, OwnB.nil_, HB1.out, HU.out⟩
  have ht1 := tK_yes h1
  have ht2 := tK_yes h2
  obtain ⟨t1, ht1e⟩ : ∃ t1, t1 = termsK ss a := ⟨_, rfl⟩
  obtain ⟨t2, ht2e⟩ : ∃ t2, t2 = termsK ss b := ⟨_, rfl⟩
  rw [← ht1e] at ht1
  rw [← ht2e] at ht2
  have ht1n : ¬ t1 < 0 := by omega
  have ht2n : ¬ t2 < 0 := by omega
  have HT1 := Lib.hid ht1e
  have HT2 := Lib.hid ht2e
  have H1 := Lib.hid h1
  have H2 := Lib.hid h2
  have hl1 := (row_parts h1).2.1
  have hl2 := (row_parts h2).2.1
  rw [HA.out.len] at hl1
  rw [HB.out.len] at hl2
  clear ht1e ht2e
  go_enter Try.func11, Try.ntmps11
  go_wp2_with fail
  refine (signMay_any A n c ss _ HS.out hn).mono ?_
  rintro e w1 ⟨rfl, hb1⟩
  rw [hm]
  have HB1 := Lib.hid hb1
  clear hb1 hm h1 h2
  go_wp2_with fail
  refine (refTerms_any A A1 n c n1 c1 _ _ ss a _ (HS.out.on HB1.out) hn (HA.out.on HB1.out) hn1 HM.out).mono ?_
  rintro e w2 ⟨rfl, rfl⟩
  rw [← HT1.out]
  go_wp2_with fail
  refine (refTerms_any A A2 n c n2 c2 _ _ ss b _ (HS.out.on HB1.out) hn (HB.out.on HB1.out) hn2 HM.out).mono ?_
  rintro e w2 ⟨rfl, rfl⟩
  rw [← HT2.out]
  go_wp2_with fail
  refine (refTogether_any A A1 A2 n c n1 c1 n2 c2 ss a b w1 (HS.out.on HB1.out) hn ⟨HA.out.on HB1.out, hnc1, hl1⟩ ⟨HB.out.on HB1.out, hnc2, hl2⟩ H1.out H2.out).mono ?_
  rintro e w3 ⟨v3, is3, sh3, bs3, rfl, hv3, hb3, hd3⟩
  have HV3 := Lib.hid (hv3.lower HB1.out.size)
  have HB3 := Lib.hid (HB1.out.trans (hb3.mono HB1.out.size))
  have HROW : Hid ((rowB ss a && rowB ss b) = true) := by show (rowB ss a && rowB ss b) = true; rw [H1.out, H2.out]; rfl
  clear hv3 hb3
  rcases hd3 with ⟨hno, rfl, rfl, rfl⟩ | ⟨σ, hc, ⟨hl, rfl, rfl, rfl⟩ | ⟨hl, rfl, rfl, rfl⟩⟩
  · have HU : Hid (UniR ss a b 0 false []) := .inr ⟨HROW.out, .inl ⟨hno, rfl, rfl, rfl⟩⟩
    clear hno
    go_wp2
    go_ret3
    exact ⟨_, 0, false, [], rfl, HV3.out, HB3.out, HU.out⟩
  · have HU : Hid (UniR ss a b 0 true (bdsOf σ 24)) := .inr ⟨HROW.out, .inr ⟨σ, hc, .inl ⟨hl, rfl, rfl, rfl⟩⟩⟩
    clear hl hc
    go_wp2
    go_ret3
    exact ⟨_, 0, true, _, rfl, HV3.out, HB3.out, HU.out⟩
  · have HU : Hid (UniR ss a b 401 false []) := .inr ⟨HROW.out, .inr ⟨σ, hc, .inr ⟨hl, rfl, rfl, rfl⟩⟩⟩
    clear hl hc
    go_wp2
    go_ret3
    exact ⟨_, 401, false, [], rfl, OwnB.nil_, HB3.out, HU.out⟩

end Go.Proofs.Ytlpafnaokpjoiaa
