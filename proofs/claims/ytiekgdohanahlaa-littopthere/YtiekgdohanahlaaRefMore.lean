/-
  Contracts of the reference: More, IsTerm, IsAtom, Which, Compare.
-/
import Derived.Test.YtiekgdohanahlaaRefOrder
namespace Go.Proofs.Ytiekgdohanahlaa
open Go.RowKit
set_option linter.unusedSimpArgs false
set_option linter.unusedVariables false
set_option maxRecDepth 100000

/-- The first parts that are unlike, of two rows of parts. -/
theorem parts_mor {ss : List Sym} {c : Int} {L M : List (List Int)} {j : Nat} (hj : j < L.length) (hl : L.length = M.length) (tL : ∀ x ∈ L, trm 24 ss x 1) (tM : ∀ x ∈ M, trm 24 ss x 1) (hs : ∀ i, i < j → rowOf L i = rowOf M i) (hne : rowOf L j ≠ rowOf M j)
    (ho : Often (c :: L.flatten) (c :: M.flatten)) (hw : wtSum ss (c :: L.flatten) = wtSum ss (c :: M.flatten)) : morB ss (c :: L.flatten) (c :: M.flatten) = morB ss (rowOf L j) (rowOf M j) := by
  have e1 := rowOf_drop hj
  have e2 := rowOf_drop (L := M) (i := j) (by omega)
  have key : ∀ i, i ≤ j → (L.take i).flatten = (M.take i).flatten := by
    intro i
    induction i with
    | zero => intro _; rfl
    | succ i ih =>
      intro hi
      rw [rowOf_take (by omega), rowOf_take (by omega), ih (by omega), hs i (by omega)]
  have hp : trm 24 ss (L.take j).flatten (L.take j).length := trm_flatten fun x hx => tL x (List.mem_of_mem_take hx)
  rw [e1, e2, ← key j (Nat.le_refl _)] at ho hw ⊢
  exact mor_args ho hw hp (tL _ (rowOf_mem hj)) (tM _ (rowOf_mem (by omega))) hne
theorem parts_some {L M : List (List Int)} (hl : L.length = M.length) (hne : L.flatten ≠ M.flatten) (h : ∀ i, i < L.length → rowOf L i = rowOf M i) : False := by
  apply hne
  have : L = M := by
    apply List.ext_getElem? 
    intro i
    by_cases hi : i < L.length
    · rw [rowOf_get hi, rowOf_get (by omega), h i hi]
    · rw [List.getElem?_eq_none (by omega), List.getElem?_eq_none (by omega)]
  rw [this]

/-- More's contract, for expressions of at most N codes. -/
def MoreH (ss : List Sym) (A : Option Addr) (n c N : Nat) : Prop :=
  ∀ (A1 A2 : Option Addr) (n1 c1 n2 c2 : Nat) (a b : List Int) (w : World), SymsAt w w.heap.size A n ss → ExAt w w.heap.size A1 n1 c1 a → ExAt w w.heap.size A2 n2 c2 b → Ex ss a → Ex ss b → a ≠ b → a.length ≤ N →
    Calls Try.prog 50 #[.slice A n c, .slice A1 n1 c1, .slice A2 n2 c2] w fun e w' => e = .returned (.bool (morB ss a b)) ∧ Below w.heap.size w w'

set_option maxHeartbeats 1000000 in
theorem refMore_step (ss : List Sym) (A : Option Addr) (n c N : Nat) (hn : n ≤ maxLen) (hmay : mayB ss = true) (ih : ∀ N', N' < N → MoreH ss A n c N') : MoreH ss A n c N := by
  intro A1 A2 n1 c1 n2 c2 a b w h ha hb exa exb hne hN
  have HIH := Lib.hid ih
  have HS := Lib.hid h
  have HM := Lib.hid hmay
  obtain ⟨c0, r, rfl⟩ := exa.cons hmay
  obtain ⟨d0, s, rfl⟩ := exb.cons hmay
  have HA := Lib.hid ha
  have HB := Lib.hid hb
  have HXA := Lib.hid exa
  have HXB := Lib.hid exb
  have HNE := Lib.hid hne
  have HNL := Lib.hid hN
  have f1 := ha.few
  have f2 := hb.few
  have g1 := ha.cap
  have g2 := hb.cap
  clear ih h hmay ha hb exa exb hne hN
  go_enter Try.func50, Try.ntmps50
  go_wp2_with fail
  refine (refHeavyO_any A A1 n c n1 c1 _ _ ss (c0 :: r) w HS.out HA.out.at_ HM.out (HXA.out.codes HM.out) f1).mono ?_
  rintro e w2 ⟨rfl, rfl⟩
  go_wp2_with fail
  refine (refHeavyO_any A A2 n c n2 c2 _ _ ss (d0 :: s) w HS.out HB.out.at_ HM.out (HXB.out.codes HM.out) f2).mono ?_
  rintro e w2 ⟨rfl, rfl⟩
  go_wp2_with fail
  refine (refOften_any A1 A2 n1 c1 n2 c2 _ _ (c0 :: r) (d0 :: s) w HA.out.at_ HB.out.at_ f1 f2).mono ?_
  rintro e w2 ⟨rfl, rfl⟩
  obtain ⟨W1, hW1⟩ : ∃ W, W = wtSum ss (c0 :: r) := ⟨_, rfl⟩
  obtain ⟨W2, hW2⟩ : ∃ W, W = wtSum ss (d0 :: s) := ⟨_, rfl⟩
  have HW1 := Lib.hid hW1
  have HW2 := Lib.hid hW2
  rw [← hW1, ← hW2]
  clear hW1 hW2
  cases ho : oftB (c0 :: r) (d0 :: s)
  · have H : Hid (morB ss (c0 :: r) (d0 :: s) = false) := mor_oft HXB.out.ge ho
    clear ho
    go_wp2
    go_ret
    exact ⟨ret_b H.out.symm, Below.refl _ _⟩
  · have HO := Lib.hid ((oftB_iff HXB.out.ge).1 ho)
    clear ho
    by_cases hgt : W1 < W2
    · have H : Hid (morB ss (c0 :: r) (d0 :: s) = false) := mor_light (by rw [← HW1.out, ← HW2.out]; exact hgt)
      have q1 : decide (W1 < W2) = true := by simpa using hgt
      go_wp2
      go_ret
      exact ⟨ret_b H.out.symm, Below.refl _ _⟩
    · have q1 : decide (W1 < W2) = false := by simpa using hgt
      obtain ⟨b1, o1, rfl, _, hc1, hm1⟩ := HA.out.head
      obtain ⟨b2, o2, rfl, _, hc2, hm2⟩ := HB.out.head
      have z1 : (0 : Int) < (n1 : Int) := by omega
      have z2 : (0 : Int) < (n2 : Int) := by omega
      have HM1 := Lib.hid hm1
      have HM2 := Lib.hid hm2
      clear hm1 hm2
      by_cases hlt : W2 < W1
      · have H : Hid (morB ss (c0 :: r) (d0 :: s) = true) := mor_heavy HO.out (by rw [← HW1.out, ← HW2.out]; exact hlt)
        have q2 : decide (W2 < W1) = true := by simpa using hlt
        clear hgt hlt
        go_wp2_with fail
        go_quiet (fail)
        go_wp2_with fail
        go_quiet (fail)
        go_wp2
        go_ret
        exact ⟨ret_b (by rw [H.out]), (below_drewN _ _).trans (below_drewN _ _)⟩
      · have q2 : decide (W2 < W1) = false := by simpa using hlt
        have HWW : Hid (wtSum ss (c0 :: r) = wtSum ss (d0 :: s)) := by show wtSum ss (c0 :: r) = _; rw [← HW1.out, ← HW2.out]; omega
        clear hgt hlt
        by_cases hcd : c0 = d0
        · subst hcd
          obtain ⟨k, t1, t2, hrs⟩ := HXA.out.tails HM.out HXB.out HNE.out
          have hk0 : k ≠ 0 := fun e => by
            subst e
            exact hrs (by rw [trm_zero t1, trm_zero t2])
          have hl1 := trm_len t1
          have hl2 := trm_len t2
          have HRS := Lib.hid hrs
          obtain ⟨⟨ms1, e1, l1⟩, cc1⟩ := t1
          obtain ⟨⟨ms2, e2, l2⟩, cc2⟩ := t2
          have HE1 := Lib.hid e1
          have HE2 := Lib.hid e2
          have HR1 := Lib.hid HA.out.tail
          have HR2 := Lib.hid HB.out.tail
          have HT1 := Lib.hid (partsL_trm (V := 24) e1 cc1)
          have HT2 := Lib.hid (partsL_trm (V := 24) e2 cc2)
          have HF1 := Lib.hid (partsL_flat e1)
          have HF2 := Lib.hid (partsL_flat e2)
          obtain ⟨NP, hNP⟩ : ∃ NP, NP = ms1.length := ⟨_, rfl⟩
          have HN1 : Hid ((partsL r ms1).length = NP) := by show (partsL r ms1).length = NP; rw [partsL_length, hNP]
          have HN2 : Hid ((partsL s ms2).length = NP) := by show (partsL s ms2).length = NP; rw [partsL_length, hNP]; omega
          have hNP48 : NP ≤ 48 := by have := HM1.out; omega
          have he : (c0 != c0) = false := by simp
          have y1 : 2 ≤ n1 := by have := HM1.out; omega
          have y2 : 2 ≤ n2 := by have := HM2.out; omega
          have y3 : (1 : Int) ≤ (n1 : Int) := by omega
          have y4 : (1 : Int) ≤ (n2 : Int) := by omega
          have y5 : ¬ c1 = 1 := by omega
          have y6 : ¬ c2 = 1 := by omega
          have y7 : (n1 : Int) ≤ (c1 : Int) := by omega
          have y8 : (n2 : Int) ≤ (c2 : Int) := by omega
          clear e1 e2 l1 l2 cc1 cc2 hrs hk0 hl1 hl2 hNP
          go_wp2_with fail
          go_quiet (fail)
          go_wp2_with fail
          obtain ⟨wB, hwB⟩ : ∃ wB, wB = w.drewN nq := ⟨_, rfl⟩
          have HBD : Hid (Below w.heap.size w wB) := by rw [hwB]; exact below_drewN _ _
          have hsB := HBD.out.size
          rw [← hwB]
          clear hwB hc1 hc2
          refine wp_region_held_drew (S := (fun w' => True)) (by kernel_rfl) trivial (fun hHeld => ?_)
          refine takeH (i := 0) (v := ?_) rfl rfl (by kernel_rfl) (by kernel_rfl) (by kernel_rfl) (fun _ _ _ h => h) (by rfl) ?_ hHeld ?_
          rotate_left
          · (intro w hSw; (try dsimp only at hSw); first | (go_simp; done) | (go_simp; with_reducible rfl))
          simp only [Act.put, List.setIfInBounds_toArray, List.set_cons_zero, List.set_cons_succ]
          refine takeH (i := 1) (v := ?_) rfl rfl (by kernel_rfl) (by kernel_rfl) (by kernel_rfl) (fun _ _ _ h => h) (by rfl) ?_ hHeld ?_
          rotate_left
          · (intro w hSw; (try dsimp only at hSw); first | (go_simp; done) | (go_simp; with_reducible rfl))
          simp only [Act.put, List.setIfInBounds_toArray, List.set_cons_zero, List.set_cons_succ]
          refine takeH (i := 2) (v := ?_) rfl rfl (by kernel_rfl) (by kernel_rfl) (by kernel_rfl) (fun _ _ _ h => h) (by rfl) ?_ hHeld ?_
          rotate_left
          · (intro w hSw; (try dsimp only at hSw); first | (go_simp; done) | (go_simp; with_reducible rfl))
          simp only [Act.put, List.setIfInBounds_toArray, List.set_cons_zero, List.set_cons_succ]
          refine takeH (i := 4) (v := ?_) rfl rfl (by kernel_rfl) (by kernel_rfl) (by kernel_rfl) (fun _ _ _ h => h) (by rfl) ?_ hHeld ?_
          rotate_left
          · (intro w hSw; (try dsimp only at hSw); first | (go_simp; done) | (go_simp; with_reducible rfl))
          simp only [Act.put, List.setIfInBounds_toArray, List.set_cons_zero, List.set_cons_succ]
          refine takeH (i := 5) (v := ?_) rfl rfl (by kernel_rfl) (by kernel_rfl) (by kernel_rfl) (fun _ _ _ h => h) (by rfl) ?_ hHeld ?_
          rotate_left
          · (intro w hSw; (try dsimp only at hSw); first | (go_simp; done) | (go_simp; with_reducible rfl))
          simp only [Act.put, List.setIfInBounds_toArray, List.set_cons_zero, List.set_cons_succ]
          refine takeH (i := 6) (v := ?_) rfl rfl (by kernel_rfl) (by kernel_rfl) (by kernel_rfl) (fun _ _ _ h => h) (by rfl) ?_ hHeld ?_
          rotate_left
          · (intro w hSw; (try dsimp only at hSw); first | (go_simp; done) | (go_simp; with_reducible rfl))
          simp only [Act.put, List.setIfInBounds_toArray, List.set_cons_zero, List.set_cons_succ]
          refine wpAnyH_ready (rs := [3]) (by kernel_rfl) (by simp) ?_
          refine AllReadyH.cons rfl (fun K hK => ?_) AllReadyH.nil
          go_simp
          have hbd : Below w.heap.size w wB.drew := HBD.out.trans (Below.refl _ _).drew
          refine (refPartsR_any A _ n c (n1 - 1) (c1 - 1) w.heap.size ss r ms1 wB.drew (HS.out.below hbd) hn (HR1.out.below hbd) HM.out HE1.out (by show w.heap.size ≤ wB.heap.size; omega)).mono ?_
          rintro e w5 ⟨v5, rfl, hv5, hb5⟩
          have HB5 := Lib.hid (hbd.trans (hb5.mono (by show w.heap.size ≤ wB.heap.size; omega)))
          have HP5 := Lib.hid hv5
          have hs5 := HB5.out.size
          clear hv5 hb5 hbd
          go_wp2_with fail
          refine hK.out _ _ ?_ (fun hHeld => ?_)
          · trivial
          clear hK K
          refine wpAnyH_ready (rs := [7]) (by kernel_rfl) (by simp) ?_
          refine AllReadyH.cons rfl (fun K hK => ?_) AllReadyH.nil
          go_simp
          refine (refPartsR_any A _ n c (n2 - 1) (c2 - 1) w.heap.size ss s ms2 w5 (HS.out.below HB5.out) hn (HR2.out.below HB5.out) HM.out HE2.out (by omega)).mono ?_
          rintro e w6 ⟨v6, rfl, hv6, hb6⟩
          have HB6 := Lib.hid (HB5.out.trans (hb6.mono hs5))
          have HP6 := Lib.hid hv6
          replace HP5 := Lib.hid (HP5.out.on hb6 hs5)
          have hs6 := HB6.out.size
          obtain ⟨C5, k5, rfl⟩ := HP5.out.value
          obtain ⟨C6, k6, rfl⟩ := HP6.out.value
          rw [HN1.out] at HP5 ⊢
          rw [HN2.out] at HP6 ⊢
          clear hv6 hb6
          go_wp2_with fail
          refine hK.out _ _ ?_ (fun hHeld => ?_)
          · trivial
          clear hK K
          refine takeH (i := 8) (v := ?_) rfl rfl (by kernel_rfl) (by kernel_rfl) (by kernel_rfl) (fun _ _ _ h => h) (by rfl) ?_ hHeld ?_
          rotate_left
          · (intro w hSw; (try dsimp only at hSw); first | (go_simp; done) | (go_simp; with_reducible rfl))
          simp only [Act.put, List.setIfInBounds_toArray, List.set_cons_zero, List.set_cons_succ]
          refine takeH (i := 9) (v := ?_) rfl rfl (by kernel_rfl) (by kernel_rfl) (by kernel_rfl) (fun _ _ _ h => h) (by rfl) ?_ hHeld ?_
          rotate_left
          · (intro w hSw; (try dsimp only at hSw); first | (go_simp; done) | (go_simp; with_reducible rfl))
          simp only [Act.put, List.setIfInBounds_toArray, List.set_cons_zero, List.set_cons_succ]
          refine wpAnyH_done (by kernel_rfl) ?_ _
          go_wp2_with fail
          go_loopw [11] (fun i wr => ∃ j q : Nat, i = .int .i64 j ∧ j ≤ NP ∧ wr = w6.drewN q ∧ ∀ i, i < j → rowOf (partsL r ms1) i = rowOf (partsL s ms2) i) (fun i _ => NP - (intOf i).toNat)
          case atStart => exact ⟨0, 0, rfl, by omega, rfl, fun i hi => absurd hi (by omega)⟩
          case round =>
            obtain ⟨j, q, rfl, hj, hwr, hall⟩ := hrel
            have HALL := Lib.hid hall
            have HWR := Lib.hid hwr
            have HBR : Hid (Below w6.heap.size w6 wr) := by rw [hwr]; exact below_drewN _ _
            clear hall hwr
            by_cases hjt : j < NP
            · have HQ5 := Lib.hid (HP5.out.on HBR.out hs6)
              have HQ6 := Lib.hid (HP6.out.on HBR.out hs6)
              obtain ⟨p1, x1, A3, m3, d3, e3, hg3, q3, r3⟩ := HQ5.out.cell (i := j) (by rw [HN1.out]; exact hjt)
              obtain ⟨p2, x2, A4, m4, d4, e4, hg4, q4, r4⟩ := HQ6.out.cell (i := j) (by rw [HN2.out]; exact hjt)
              simp only [Value.slice.injEq] at e3 e4
              obtain ⟨rfl, -, rfl⟩ := e3
              obtain ⟨rfl, -, rfl⟩ := e4
              have HR3 := Lib.hid r3
              have HR4 := Lib.hid r4
              have i0 : (0 : Int) ≤ (j : Int) := by omega
              have i1 : (j : Int) < (NP : Int) := by omega
              have hf3 := r3.few
              have hf4 := r4.few
              have HQ3 := Lib.hid q3
              have HQ4 := Lib.hid q4
              clear r3 r4 hg3 hg4
              cases hsm : sameI (rowOf (partsL r ms1) j) (rowOf (partsL s ms2) j)
              · have HSM := Lib.hid hsm
                have HNEQ : Hid (rowOf (partsL r ms1) j ≠ rowOf (partsL s ms2) j) := fun e => by
                  rw [e, sameI_self] at hsm; cases hsm
                clear hsm
                have HMOR : Hid (morB ss (rowOf (partsL r ms1) j) (rowOf (partsL s ms2) j) = morB ss (c0 :: r) (c0 :: s)) := by
                  have h1 := HO.out
                  have h2 := HWW.out
                  have h3 := parts_mor (c := c0) (ss := ss) (by rw [HN1.out]; exact hjt) (by rw [HN1.out, HN2.out]) HT1.out HT2.out HALL.out HNEQ.out
                  rw [HF1.out, HF2.out] at h3
                  exact (h3 h1 h2).symm
                have HLT : Hid ((rowOf (partsL r ms1) j).length < N) := by
                  have h1 := congrArg List.length (rowOf_drop (L := partsL r ms1) (i := j) (by rw [HN1.out]; exact hjt))
                  rw [HF1.out] at h1
                  simp only [List.length_append] at h1
                  have h2 := HNL.out
                  simp only [List.length_cons] at h2
                  show _ < N
                  omega
                go_wp2_with fail
                go_quiet ((go_at_call 49; exact refSame_still A3 A4 m3 d3 m4 d4 w.heap.size w.heap.size _ (rowOf (partsL r ms1) j) (rowOf (partsL s ms2) j) wr HR3.out.at_ HR4.out.at_ (by unfold maxLen; omega) (by unfold maxLen; omega) HSM.out))
                go_wp2_with fail
                obtain ⟨wC, hwC⟩ : ∃ wC, wC = wr.drewN nq := ⟨_, rfl⟩
                have HBC : Hid (Below w6.heap.size w6 wC) := by rw [hwC]; exact HBR.out.trans (below_drewN _ _)
                have j3 : wC.cell? ⟨p1, j, none⟩ = some (.slice A3 m3 d3) := by rw [hwC]; exact HQ3.out
                have j4 : wC.cell? ⟨p2, j, none⟩ = some (.slice A4 m4 d4) := by rw [hwC]; exact HQ4.out
                have HR3C : Hid (RowAt wC w.heap.size A3 m3 d3 (rowOf (partsL r ms1) j)) := by rw [hwC]; exact HR3.out.below (below_drewN _ _)
                have HR4C : Hid (RowAt wC w.heap.size A4 m4 d4 (rowOf (partsL s ms2) j)) := by rw [hwC]; exact HR4.out.below (below_drewN _ _)
                have HBX := Lib.hid (HB6.out.trans (HBC.out.mono hs6))
                have hsX := HBX.out.size
                rw [← hwC]
                clear hwC q3 q4
                have HCALL : Hid (Calls Try.prog 50 #[.slice A n c, .slice A3 m3 d3, .slice A4 m4 d4] wC.drew fun e w' => e = .returned (.bool (morB ss (rowOf (partsL r ms1) j) (rowOf (partsL s ms2) j))) ∧ Below wC.drew.heap.size wC.drew w') := by
                  refine HIH.out _ HLT.out A3 A4 m3 d3 m4 d4 _ _ _ ((HS.out.below (HBX.out.trans (Below.refl _ _).drew)).more hsX) ⟨(HR3C.out.at_.below (Below.refl _ _).drew).more hsX, HR3C.out.cap, by omega⟩ ⟨(HR4C.out.at_.below (Below.refl _ _).drew).more hsX, HR4C.out.cap, by omega⟩ (.inl (HT1.out _ (rowOf_mem (by rw [HN1.out]; exact hjt)))) (.inl (HT2.out _ (rowOf_mem (by rw [HN2.out]; exact hjt)))) HNEQ.out (Nat.le_refl _)
                refine wp_region_held_drew (S := (fun w' => w'.cell? ⟨p1, j, none⟩ = some (.slice A3 m3 d3) ∧ w'.cell? ⟨p2, j, none⟩ = some (.slice A4 m4 d4))) (by kernel_rfl) ⟨j3, j4⟩ (fun hHeld => ?_)
                refine takeH (i := 0) (v := ?_) rfl rfl (by kernel_rfl) (by kernel_rfl) (by kernel_rfl) (fun _ _ _ h => h) (by rfl) ?_ hHeld ?_
                rotate_left
                · (intro w hSw; (try dsimp only at hSw); first | (go_simp; done) | (go_simp; with_reducible rfl))
                simp only [Act.put, List.setIfInBounds_toArray, List.set_cons_zero, List.set_cons_succ]
                refine takeH (i := 1) (v := ?_) rfl rfl (by kernel_rfl) (by kernel_rfl) (by kernel_rfl) (fun _ _ _ h => h) (by rfl) ?_ hHeld ?_
                rotate_left
                · (intro w hSw; (try dsimp only at hSw); first | (go_simp; done) | (go_simp; with_reducible rfl))
                simp only [Act.put, List.setIfInBounds_toArray, List.set_cons_zero, List.set_cons_succ]
                refine takeH (i := 2) (v := ?_) rfl rfl (by kernel_rfl) (by kernel_rfl) (by kernel_rfl) (fun _ _ _ h => h) (by rfl) ?_ hHeld ?_
                rotate_left
                · (intro w hSw; (try dsimp only at hSw); first | (go_simp; done) | (go_simp; with_reducible rfl))
                simp only [Act.put, List.setIfInBounds_toArray, List.set_cons_zero, List.set_cons_succ]
                refine takeH (i := 3) (v := ?_) rfl rfl (by kernel_rfl) (by kernel_rfl) (by kernel_rfl) (fun _ _ _ h => h) (by rfl) ?_ hHeld ?_
                rotate_left
                · (intro w hSw; (try dsimp only at hSw); first | (go_simp; done) | (go_simp; with_reducible rfl))
                simp only [Act.put, List.setIfInBounds_toArray, List.set_cons_zero, List.set_cons_succ]
                refine takeH (i := 4) (v := ?_) rfl rfl (by kernel_rfl) (by kernel_rfl) (by kernel_rfl) (fun _ _ _ h => h) (by rfl) ?_ hHeld ?_
                rotate_left
                · (intro w hSw; (try dsimp only at hSw); first | (go_simp; done) | (go_simp; with_reducible rfl))
                simp only [Act.put, List.setIfInBounds_toArray, List.set_cons_zero, List.set_cons_succ]
                refine takeH (i := 5) (v := ?_) rfl rfl (by kernel_rfl) (by kernel_rfl) (by kernel_rfl) (fun _ _ _ h => h) (by rfl) ?_ hHeld ?_
                rotate_left
                · (intro w hSw; (try dsimp only at hSw); first | (go_simp; done) | (go_simp; with_reducible rfl))
                simp only [Act.put, List.setIfInBounds_toArray, List.set_cons_zero, List.set_cons_succ]
                refine takeH (i := 6) (v := ?_) rfl rfl (by kernel_rfl) (by kernel_rfl) (by kernel_rfl) (fun _ _ _ h => h) (by rfl) ?_ hHeld ?_
                rotate_left
                · (intro w hSw; (try dsimp only at hSw); first | (go_simp; done) | (go_simp; with_reducible rfl))
                simp only [Act.put, List.setIfInBounds_toArray, List.set_cons_zero, List.set_cons_succ]
                refine takeH (i := 7) (v := ?_) rfl rfl (by kernel_rfl) (by kernel_rfl) (by kernel_rfl) (fun _ _ _ h => h) (by rfl) ?_ hHeld ?_
                rotate_left
                · (intro w hSw; (try dsimp only at hSw); first | (go_simp; done) | (go_simp; with_reducible rfl))
                simp only [Act.put, List.setIfInBounds_toArray, List.set_cons_zero, List.set_cons_succ]
                refine takeH (i := 8) (v := ?_) rfl rfl (by kernel_rfl) (by kernel_rfl) (by kernel_rfl) (fun _ _ _ h => h) (by rfl) ?_ hHeld ?_
                rotate_left
                · (intro w hSw; (try dsimp only at hSw); first | (go_simp; done) | (go_simp; with_reducible rfl))
                simp only [Act.put, List.setIfInBounds_toArray, List.set_cons_zero, List.set_cons_succ]
                refine wpAnyH_ready (rs := [9]) (by kernel_rfl) (by simp) ?_
                refine AllReadyH.cons rfl (fun K hK => ?_) AllReadyH.nil
                go_simp
                refine HCALL.out.mono ?_
                rintro e w7 ⟨rfl, hb7⟩
                have hb7' : Below wC.heap.size wC w7 := (Below.refl _ _).drew.trans hb7
                have HB7 := Lib.hid (HBX.out.trans (hb7'.mono hsX))
                have s1 : w7.cell? ⟨p1, j, none⟩ = some (.slice A3 m3 d3) := (grown_of_below (row := none) hb7').cell j3 (by simp)
                have s2 : w7.cell? ⟨p2, j, none⟩ = some (.slice A4 m4 d4) := (grown_of_below (row := none) hb7').cell j4 (by simp)
                rw [HMOR.out]
                clear hb7 hb7'
                go_wp2_with fail
                refine hK.out _ _ ?_ (fun hHeld => ?_)
                · exact ⟨s1, s2⟩
                clear hK K
                refine takeH (i := 10) (v := ?_) rfl rfl (by kernel_rfl) (by kernel_rfl) (by kernel_rfl) (fun _ _ _ h => h) (by rfl) ?_ hHeld ?_
                rotate_left
                · (intro w hSw; (try dsimp only at hSw); first | (go_simp; done) | (go_simp; with_reducible rfl))
                simp only [Act.put, List.setIfInBounds_toArray, List.set_cons_zero, List.set_cons_succ]
                refine wpAnyH_done (by kernel_rfl) ?_ _
                go_wp2
                go_ret
                exact ⟨rfl, HB7.out⟩
              · have HEQ : Hid (rowOf (partsL r ms1) j = rowOf (partsL s ms2) j) := by
                  show rowOf (partsL r ms1) j = rowOf (partsL s ms2) j
                  unfold sameI at hsm
                  exact of_decide_eq_true hsm
                have HSM := Lib.hid hsm
                clear hsm
                go_wp2_with fail
                go_quiet ((go_at_call 49; exact refSame_still A3 A4 m3 d3 m4 d4 w.heap.size w.heap.size _ (rowOf (partsL r ms1) j) (rowOf (partsL s ms2) j) wr HR3.out.at_ HR4.out.at_ (by unfold maxLen; omega) (by unfold maxLen; omega) HSM.out))
                go_wp2
                go_roundw
                case rel => exact ⟨j + 1, _, by go_num, by omega, by rw [HWR.out, World.drewN_drewN], fun i hi => if e : i = j then e ▸ HEQ.out else HALL.out i (by omega)⟩
                case measure => simp [intOf]; omega
            · obtain rfl : j = NP := by omega
              exact (parts_some (L := partsL r ms1) (M := partsL s ms2) (by rw [HN1.out, HN2.out]) (by rw [HF1.out, HF2.out]; exact HRS.out) (by rw [HN1.out]; exact HALL.out)).elim
        · have he : (c0 != d0) = true := by simpa using hcd
          have H : Hid (morB ss (c0 :: r) (d0 :: s) = decide (d0 < c0)) := mor_code HO.out HWW.out hcd
          by_cases hl : d0 < c0
          · have q3 : decide (d0 < c0) = true := by simpa using hl
            go_wp2_with fail
            go_quiet (fail)
            go_wp2_with fail
            go_quiet (fail)
            go_wp2
            go_ret
            exact ⟨ret_b (by rw [H.out, decide_eq_true hl]), (below_drewN _ _).trans (below_drewN _ _)⟩
          · have q3 : decide (d0 < c0) = false := by simpa using hl
            go_wp2_with fail
            go_quiet (fail)
            go_wp2_with fail
            go_quiet (fail)
            go_wp2
            go_ret
            exact ⟨ret_b (by rw [H.out]; exact (decide_eq_false (by omega)).symm), (below_drewN _ _).trans (below_drewN _ _)⟩
theorem refMore_all (ss : List Sym) (A : Option Addr) (n c : Nat) (hn : n ≤ maxLen) (hmay : mayB ss = true) (N : Nat) : MoreH ss A n c N := by
  induction N using Nat.strongRecOn with
  | ind N ih => exact refMore_step ss A n c N hn hmay ih
theorem refMore_any (A A1 A2 : Option Addr) (n c n1 c1 n2 c2 : Nat) (ss : List Sym) (a b : List Int) (w : World) (h : SymsAt w w.heap.size A n ss) (hn : n ≤ maxLen) (hmay : mayB ss = true) (ha : ExAt w w.heap.size A1 n1 c1 a) (hb : ExAt w w.heap.size A2 n2 c2 b) (exa : Ex ss a) (exb : Ex ss b) (hne : a ≠ b) :
    Calls Try.prog 50 #[.slice A n c, .slice A1 n1 c1, .slice A2 n2 c2] w fun e w' => e = .returned (.bool (morB ss a b)) ∧ Below w.heap.size w w' :=
  refMore_all ss A n c hn hmay a.length A1 A2 n1 c1 n2 c2 a b w h ha hb exa exb hne (Nat.le_refl _)
end Go.Proofs.Ytiekgdohanahlaa
