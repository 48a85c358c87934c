/-
  Contracts: clause.May, and May of quaereref8.
-/
import Derived.Test.YtcjpopjcpgipjaaDoorClauseMay
namespace Go.Proofs.YtcjpopjcpgipjaaDoor
open Go.RowKit Go.Deep
set_option linter.unusedSimpArgs false
set_option linter.unusedVariables false
set_option maxRecDepth 100000

section
variable {ss : List Sym} {c : Cl}
theorem mayC_n1 (h : ¬ c.lits.length ≤ 5) : mayC ss c = false := by unfold mayC; simp [h]
theorem mayC_n2 (h : ¬ c.tups.length ≤ 3) : mayC ss c = false := by unfold mayC; simp [h]
theorem mayC_n3 (h : ¬ c.conds.length ≤ 3) : mayC ss c = false := by unfold mayC; simp [h]
theorem mayC_n4 (h : mayB ss = false) : mayC ss c = false := by unfold mayC; simp [h]
theorem mayC_n5 (h : c.lits.all (litB ss) = false) : mayC ss c = false := by unfold mayC; rw [h]; simp
theorem mayC_n6 (h : tupsB ss c.tups = false) : mayC ss c = false := by unfold mayC; rw [h]; simp
theorem mayC_n7 (h : c.conds.all (litB ss) = false) : mayC ss c = false := by unfold mayC; rw [h]; simp
theorem mayC_all (h1 : c.lits.length ≤ 5) (h2 : c.tups.length ≤ 3) (h3 : c.conds.length ≤ 3) (h4 : mayB ss = true) (h5 : c.lits.all (litB ss) = true) (h6 : tupsB ss c.tups = true) (h7 : c.conds.all (litB ss) = true) : mayC ss c = decide ((codesC c).length ≤ 240) := by
  unfold mayC; rw [h4, h5, h6, h7, decide_eq_true h1, decide_eq_true h2, decide_eq_true h3]; simp
end
/-- A box of a clause and the symbols: what a walk over a clause carries. -/
theorem Cv.val_eq (v : Cv) : v.val = .agg #[.slice v.A1 v.n1 v.c1, .slice v.A2 v.n2 v.c2, .slice v.A3 v.n3 v.c3] := rfl

set_option maxHeartbeats 2000000 in
theorem mayC_any (A : Option Addr) (n cp : Nat) (ss : List Sym) (v : Cv) (c : Cl) (w : World) (h : SymsAt w w.heap.size A n ss) (hn : n ≤ maxLen) (hnc : n ≤ cp) (hc : ClAt w w.heap.size v c) :
    Calls Tryd.prog 18 #[.slice A n cp, v.val] w fun e w' => e = .returned (.bool (mayC ss c)) ∧ Below w.heap.size w w' := by
  have hb0 := below_new w v.obj
  have hx := CBox.new hc
  have hs := h.on hb0
  have L1 := hc.lits.len
  have L2 := hc.tups.len
  have L3 := hc.conds.len
  rw [Cv.val_eq]
  have HVE := Lib.hid v.val_eq
  unfold Cv.obj at hx hb0 hs
  have HX := Lib.hid hx
  have HS := Lib.hid hs
  have HB0 := Lib.hid hb0
  clear h hc hb0 hx hs
  by_cases g1 : v.n1 ≤ 5
  case neg =>
    have HX1 := Lib.hid (mayC_n1 (ss := ss) (c := c) (by omega))
    have g1' : (5 : Int) < (v.n1 : Int) := by omega
    clear g1 L1 L2 L3
    go_enter Tryd.func18, Tryd.ntmps18
    go_wp2
    go_ret
    exact ⟨ret_b HX1.out.symm, HB0.out⟩
  by_cases g2 : v.n2 ≤ 3
  case neg =>
    have HX1 := Lib.hid (mayC_n2 (ss := ss) (c := c) (by omega))
    have g1' : ¬ (5 : Int) < (v.n1 : Int) := by omega
    have g2' : (3 : Int) < (v.n2 : Int) := by omega
    clear g1 g2 L1 L2 L3
    go_enter Tryd.func18, Tryd.ntmps18
    go_wp2
    go_ret
    exact ⟨ret_b HX1.out.symm, HB0.out⟩
  by_cases g3 : v.n3 ≤ 3
  case neg =>
    have HX1 := Lib.hid (mayC_n3 (ss := ss) (c := c) (by omega))
    have g1' : ¬ (5 : Int) < (v.n1 : Int) := by omega
    have g2' : ¬ (3 : Int) < (v.n2 : Int) := by omega
    have g3' : (3 : Int) < (v.n3 : Int) := by omega
    clear g1 g2 g3 L1 L2 L3
    go_enter Tryd.func18, Tryd.ntmps18
    go_wp2
    go_ret
    exact ⟨ret_b HX1.out.symm, HB0.out⟩
  have G1 : Hid (c.lits.length ≤ 5) := by show _ ≤ _; omega
  have G2 : Hid (c.tups.length ≤ 3) := by show _ ≤ _; omega
  have G3 : Hid (c.conds.length ≤ 3) := by show _ ≤ _; omega
  have g1' : ¬ (5 : Int) < (v.n1 : Int) := by omega
  have g2' : ¬ (3 : Int) < (v.n2 : Int) := by omega
  have g3' : ¬ (3 : Int) < (v.n3 : Int) := by omega
  have k1 : Hid (v.n1 ≤ 5) := g1
  have k2 : Hid (v.n2 ≤ 3) := g2
  have k3 : Hid (v.n3 ≤ 3) := g3
  clear g1 g2 g3 L1 L2 L3
  go_enter Tryd.func18, Tryd.ntmps18
  go_wp2_with fail
  refine (may_any A n cp ss _ HS.out hn hnc).mono ?_
  rintro e w1 ⟨rfl, hb1⟩
  have HB1 := Lib.hid (HB0.out.trans (hb1.mono HB0.out.size))
  replace HS := Lib.hid (HS.out.on hb1)
  replace HX := Lib.hid (HX.out.on hb1)
  clear hb1
  have p0 := HX.out.c0
  have p1 := HX.out.c1
  have p2 := HX.out.c2
  cases hm : mayB ss
  case false =>
    have HX1 := Lib.hid (mayC_n4 (ss := ss) (c := c) hm)
    clear hm
    go_wp2
    go_ret
    exact ⟨ret_b HX1.out.symm, HB1.out⟩
  have HM := Lib.hid hm
  clear hm
  go_wp2_with fail
  refine (mayLits_any A v.A1 n cp v.n1 v.c1 ss c.lits _ HS.out hn hnc HX.out.cl.lits (by have := k1.out; omega)).mono ?_
  rintro e w2 ⟨rfl, hb2⟩
  have HB2 := Lib.hid (HB1.out.trans (hb2.mono HB1.out.size))
  replace HS := Lib.hid (HS.out.on hb2)
  replace HX := Lib.hid (HX.out.on hb2)
  clear hb2
  clear p0 p1 p2
  have p0 := HX.out.c0
  have p1 := HX.out.c1
  have p2 := HX.out.c2
  cases hm : c.lits.all (litB ss)
  case false =>
    have HX1 := Lib.hid (mayC_n5 (ss := ss) (c := c) hm)
    clear hm
    go_wp2
    go_ret
    exact ⟨ret_b HX1.out.symm, HB2.out⟩
  have HM1 := Lib.hid hm
  clear hm
  go_wp2_with fail
  refine (mayTuples_any A v.A2 n cp v.n2 v.c2 ss c.tups _ HS.out hn hnc HX.out.cl.tups (by have := k2.out; omega)).mono ?_
  rintro e w3 ⟨rfl, hb3⟩
  have HB3 := Lib.hid (HB2.out.trans (hb3.mono HB2.out.size))
  replace HS := Lib.hid (HS.out.on hb3)
  replace HX := Lib.hid (HX.out.on hb3)
  clear hb3
  clear p0 p1 p2
  have p0 := HX.out.c0
  have p1 := HX.out.c1
  have p2 := HX.out.c2
  cases hm : tupsB ss c.tups
  case false =>
    have HX1 := Lib.hid (mayC_n6 (ss := ss) (c := c) hm)
    clear hm
    go_wp2
    go_ret
    exact ⟨ret_b HX1.out.symm, HB3.out⟩
  have HM2 := Lib.hid hm
  clear hm
  go_wp2_with fail
  refine (mayLits_any A v.A3 n cp v.n3 v.c3 ss c.conds _ HS.out hn hnc HX.out.cl.conds (by have := k3.out; omega)).mono ?_
  rintro e w4 ⟨rfl, hb4⟩
  have HB4 := Lib.hid (HB3.out.trans (hb4.mono HB3.out.size))
  replace HS := Lib.hid (HS.out.on hb4)
  replace HX := Lib.hid (HX.out.on hb4)
  clear hb4
  clear p0 p1 p2
  have p0 := HX.out.c0
  have p1 := HX.out.c1
  have p2 := HX.out.c2
  cases hm : c.conds.all (litB ss)
  case false =>
    have HX1 := Lib.hid (mayC_n7 (ss := ss) (c := c) hm)
    clear hm
    go_wp2
    go_ret
    exact ⟨ret_b HX1.out.symm, HB4.out⟩
  have HM3 := Lib.hid hm
  clear hm
  have HALL := Lib.hid (mayC_all G1.out G2.out G3.out HM.out HM1.out HM2.out HM3.out)
  have HSM := Lib.hid (small_of G1.out G2.out G3.out HM1.out HM3.out HM2.out)
  go_wp2_with fail
  rw [← HVE.out]
  refine (size_any v c _ HX.out.cl HSM.out).mono ?_
  rintro e w5 ⟨rfl, hb5⟩
  have HB5 := Lib.hid (HB4.out.trans (hb5.mono HB4.out.size))
  clear hb5
  obtain ⟨s, hs⟩ : ∃ s, s = (codesC c).length := ⟨_, rfl⟩
  rw [← hs] at HALL ⊢
  clear hs
  go_wp2
  go_ret
  refine ⟨ret_b ?_, HB5.out⟩
  rw [HALL.out]
  exact decide_eq_decide.2 (by omega)

theorem termsK_no {ss : List Sym} {r : List Int} (hm : mayB ss = true) (h : rowB ss r = false) : termsK ss r = -1 := by
  unfold termsK
  unfold rowB at h
  rw [hm, Bool.true_and] at h
  rw [h]; rfl
theorem termsK_yes {ss : List Sym} {r : List Int} (h : rowB ss r = true) : termsK ss r = ((tlD ss r).length : Int) := by
  unfold termsK
  unfold rowB at h
  simp only [Bool.and_eq_true] at h
  rw [h.1.2, h.2]; rfl
theorem termsK_pos {ss : List Sym} {r : List Int} (h : rowB ss r = true) : 0 ≤ termsK ss r := by rw [termsK_yes h]; omega
theorem tupB_termsK {ss : List Sym} {ts : List (List Int)} {k : Nat} (h0 : 0 < k → rowB ss (rowOf ts 0) = true) (hk : rowB ss (rowOf ts k) = true) : (termsK ss (rowOf ts k) = termsK ss (rowOf ts 0)) ↔ tupB ss ts k = true := by
  have h0' : rowB ss (rowOf ts 0) = true := by
    rcases Nat.eq_zero_or_pos k with e | e
    · subst e; exact hk
    · exact h0 e
  rw [termsK_yes hk, termsK_yes h0']
  unfold tupB
  rw [hk]
  simp
  omega
set_option maxHeartbeats 4000000 in
theorem refMayC_any (A : Option Addr) (n cp : Nat) (ss : List Sym) (v : Cv) (c : Cl) (w : World) (h : SymsAt w w.heap.size A n ss) (hn : n ≤ maxLen) (hnc : n ≤ cp) (hc : ClAt w w.heap.size v c) :
    Calls Tryd.prog 31 #[.slice A n cp, v.val] w fun e w' => e = .returned (.bool (mayC ss c)) ∧ Below w.heap.size w w' := by
  have hb0 := below_new w v.obj
  have hx := CBox.new hc
  have hs := h.on hb0
  have L1 := hc.lits.len
  have L2 := hc.tups.len
  have L3 := hc.conds.len
  rw [Cv.val_eq]
  have HVE := Lib.hid v.val_eq
  unfold Cv.obj at hx hb0 hs
  have HX := Lib.hid hx
  have HS := Lib.hid hs
  have HB0 := Lib.hid hb0
  clear h hc hb0 hx hs
  go_enter Tryd.func31, Tryd.ntmps31
  go_wp2_with fail
  refine (signMay_any A n cp ss _ HS.out hn).mono ?_
  rintro e w1 ⟨rfl, hb1⟩
  have HB1 := Lib.hid (HB0.out.trans (hb1.mono HB0.out.size))
  replace HS := Lib.hid (HS.out.on hb1)
  replace HX := Lib.hid (HX.out.on hb1)
  clear hb1
  have p0 := HX.out.c0
  have p1 := HX.out.c1
  have p2 := HX.out.c2
  obtain ⟨B, hB⟩ : ∃ B, B = w.heap.size := ⟨_, rfl⟩
  rw [← hB] at HX p0 p1 p2 ⊢
  have HBH := Lib.hid hB
  clear hB
  cases hm : mayB ss
  case false =>
    have HZ := Lib.hid (mayC_n4 (ss := ss) (c := c) hm)
    clear hm L1 L2 L3
    go_wp2
    go_ret
    exact ⟨ret_b HZ.out.symm, HB1.out⟩
  have HM := Lib.hid hm
  clear hm
  by_cases g1 : v.n1 ≤ 5
  case neg =>
    have HZ := Lib.hid (mayC_n1 (ss := ss) (c := c) (by omega))
    have g1' : (5 : Int) < (v.n1 : Int) := by omega
    clear g1 L1 L2 L3
    go_wp2
    go_ret
    exact ⟨ret_b HZ.out.symm, HB1.out⟩
  by_cases g3 : v.n3 ≤ 3
  case neg =>
    have HZ := Lib.hid (mayC_n3 (ss := ss) (c := c) (by omega))
    have g1' : ¬ (5 : Int) < (v.n1 : Int) := by omega
    have g3' : (3 : Int) < (v.n3 : Int) := by omega
    clear g1 g3 L1 L2 L3
    go_wp2
    go_ret
    exact ⟨ret_b HZ.out.symm, HB1.out⟩
  by_cases g2 : v.n2 ≤ 3
  case neg =>
    have HZ := Lib.hid (mayC_n2 (ss := ss) (c := c) (by omega))
    have g1' : ¬ (5 : Int) < (v.n1 : Int) := by omega
    have g3' : ¬ (3 : Int) < (v.n3 : Int) := by omega
    have g2' : (3 : Int) < (v.n2 : Int) := by omega
    clear g1 g2 g3 L1 L2 L3
    go_wp2
    go_ret
    exact ⟨ret_b HZ.out.symm, HB1.out⟩
  have G1 : Hid (c.lits.length ≤ 5) := by show _ ≤ _; omega
  have G2 : Hid (c.tups.length ≤ 3) := by show _ ≤ _; omega
  have G3 : Hid (c.conds.length ≤ 3) := by show _ ≤ _; omega
  have g1' : ¬ (5 : Int) < (v.n1 : Int) := by omega
  have g2' : ¬ (3 : Int) < (v.n2 : Int) := by omega
  have g3' : ¬ (3 : Int) < (v.n3 : Int) := by omega
  clear L1 L2 L3
  have HBF := HB1
  obtain ⟨w0, hw0⟩ : ∃ w0, w0 = w1 := ⟨_, rfl⟩
  subst hw0
  go_wp2
  clear p0 p1 p2 HB0 HB1
  go_loopw [5] (fun j wr => ∃ k : Nat, j = .int .i64 k ∧ k ≤ v.n1 ∧ (∀ j, j < k → litB ss (ltAt c.lits j) = true) ∧ Below w0.heap.size w0 wr) (fun j _ => v.n1 - (intOf j).toNat)
  case atStart => exact ⟨0, rfl, by omega, fun j hj => absurd hj (by omega), Below.refl _ _⟩
  case round =>
    obtain ⟨k, rfl, hk, hyes, hbw⟩ := hrel
    have HBW := Lib.hid hbw
    have HY := Lib.hid hyes
    have hxw := HX.out.on hbw
    have p0 := hxw.c0
    have p1 := hxw.c1
    have p2 := hxw.c2
    clear hbw hyes hxw
    by_cases hlt : k < v.n1
    · obtain ⟨b, off, A2, c2, hA, hb, d0, d1, hk1⟩ := (HX.out.cl.lits.on HBW.out).one hlt
      rw [hA] at p0
      have HNX : Hid (litB ss (ltAt c.lits k) = true → ∀ j, j < k + 1 → litB ss (ltAt c.lits j) = true) := by
        intro q j hj
        by_cases e : j = k
        · rw [e]; exact q
        · exact HY.out j (by omega)
      have HNO : Hid (litB ss (ltAt c.lits k) = false → mayC ss c = false) := fun q => mayC_n5 (all_not (by rw [HX.out.cl.lits.len]; exact hlt) q)
      obtain ⟨p, hp⟩ : ∃ p, p = ltAt c.lits k := ⟨_, rfl⟩
      rw [← hp] at d0 d1 hk1 HNX HNO
      have HK1 := Lib.hid hk1
      have HS1 := Lib.hid (HS.out.on HBW.out)
      have hi0 : (0 : Int) ≤ (k : Int) := by omega
      have hi3 : (k : Int) < (v.n1 : Int) := by omega
      clear hk1 hp hA
      go_wp2_with fail
      refine (refLitMay_any A A2 n cp _ c2 ss p _ HS1.out hn hnc HK1.out).mono ?_
      rintro e w1 ⟨rfl, hb1⟩
      have HB1 := Lib.hid (HBW.out.trans (hb1.mono HBW.out.size))
      clear hb1 p0 p1 p2 d0 d1
      cases hpb : litB ss p
      · have HZ := Lib.hid (HNO.out hpb)
        clear hpb
        go_wp2
        go_ret
        exact ⟨ret_b HZ.out.symm, HBF.out.trans (HB1.out.mono HBF.out.size)⟩
      · have HZ := Lib.hid (HNX.out hpb)
        clear hpb
        go_wp2
        go_roundw
        case rel => exact ⟨k + 1, by go_num, by omega, HZ.out, HB1.out⟩
        case measure => simp [intOf]; omega
    · obtain rfl : k = v.n1 := by omega
      obtain ⟨w1a, hwA⟩ : ∃ w1a, w1a = wr := ⟨_, rfl⟩
      subst hwA
      have HM1 : Hid (c.lits.all (litB ss) = true) := all_yes fun j hj => HY.out j (by rw [HX.out.cl.lits.len] at hj; exact hj)
      have HBF := Lib.hid (HBF.out.trans (HBW.out.mono HBF.out.size))
      have HX := Lib.hid (HX.out.on HBW.out)
      have HS := Lib.hid (HS.out.on HBW.out)
      clear HY HBW
      go_wp2
      clear p0 p1 p2
      go_loopw [6] (fun j wr => ∃ k : Nat, j = .int .i64 k ∧ k ≤ v.n3 ∧ (∀ j, j < k → litB ss (ltAt c.conds j) = true) ∧ Below w1a.heap.size w1a wr) (fun j _ => v.n3 - (intOf j).toNat)
      case atStart => exact ⟨0, rfl, by omega, fun j hj => absurd hj (by omega), Below.refl _ _⟩
      case round =>
        obtain ⟨k, rfl, hk, hyes, hbw⟩ := hrel
        have HBW := Lib.hid hbw
        have HY := Lib.hid hyes
        have hxw := HX.out.on hbw
        have p0 := hxw.c0
        have p1 := hxw.c1
        have p2 := hxw.c2
        clear hbw hyes hxw
        by_cases hlt : k < v.n3
        · obtain ⟨b, off, A2, c2, hA, hb, d0, d1, hk1⟩ := (HX.out.cl.conds.on HBW.out).one hlt
          rw [hA] at p2
          have HNX : Hid (litB ss (ltAt c.conds k) = true → ∀ j, j < k + 1 → litB ss (ltAt c.conds j) = true) := by
            intro q j hj
            by_cases e : j = k
            · rw [e]; exact q
            · exact HY.out j (by omega)
          have HNO : Hid (litB ss (ltAt c.conds k) = false → mayC ss c = false) := fun q => mayC_n7 (all_not (by rw [HX.out.cl.conds.len]; exact hlt) q)
          obtain ⟨p, hp⟩ : ∃ p, p = ltAt c.conds k := ⟨_, rfl⟩
          rw [← hp] at d0 d1 hk1 HNX HNO
          have HK1 := Lib.hid hk1
          have HS1 := Lib.hid (HS.out.on HBW.out)
          have hi0 : (0 : Int) ≤ (k : Int) := by omega
          have hi3 : (k : Int) < (v.n3 : Int) := by omega
          clear hk1 hp hA
          go_wp2_with fail
          refine (refLitMay_any A A2 n cp _ c2 ss p _ HS1.out hn hnc HK1.out).mono ?_
          rintro e w1 ⟨rfl, hb1⟩
          have HB1 := Lib.hid (HBW.out.trans (hb1.mono HBW.out.size))
          clear hb1 p0 p1 p2 d0 d1
          cases hpb : litB ss p
          · have HZ := Lib.hid (HNO.out hpb)
            clear hpb
            go_wp2
            go_ret
            exact ⟨ret_b HZ.out.symm, HBF.out.trans (HB1.out.mono HBF.out.size)⟩
          · have HZ := Lib.hid (HNX.out hpb)
            clear hpb
            go_wp2
            go_roundw
            case rel => exact ⟨k + 1, by go_num, by omega, HZ.out, HB1.out⟩
            case measure => simp [intOf]; omega
        · obtain rfl : k = v.n3 := by omega
          obtain ⟨w3a, hwA⟩ : ∃ w3a, w3a = wr := ⟨_, rfl⟩
          subst hwA
          have HM3 : Hid (c.conds.all (litB ss) = true) := all_yes fun j hj => HY.out j (by rw [HX.out.cl.conds.len] at hj; exact hj)
          have HBF := Lib.hid (HBF.out.trans (HBW.out.mono HBF.out.size))
          have HX := Lib.hid (HX.out.on HBW.out)
          have HS := Lib.hid (HS.out.on HBW.out)
          clear HY HBW
          go_wp2
          clear p0 p1 p2
          go_loopw [7] (fun j wr => ∃ k : Nat, j = .int .i64 k ∧ k ≤ v.n2 ∧ (∀ j, j < k → tupB ss c.tups j = true) ∧ wr = w3a) (fun j _ => v.n2 - (intOf j).toNat)
          case atStart => exact ⟨0, rfl, by omega, fun j hj => absurd hj (by omega), rfl⟩
          case round =>
            obtain ⟨k, rfl, hk, hyes, rfl⟩ := hrel
            have HY := Lib.hid hyes
            have p0 := HX.out.c0
            have p1 := HX.out.c1
            have p2 := HX.out.c2
            clear hyes
            by_cases hlt : k < v.n2
            · obtain ⟨b, off, A2, c2, hA, hb, d0, hk1, -⟩ := HX.out.cl.tups.one hlt
              obtain ⟨b', off', A4, c4, hA', -, f0, hk4, -⟩ := HX.out.cl.tups.one (i := 0) (by omega)
              rw [hA] at hA' p1
              simp only [Option.some.injEq, Addr.mk.injEq] at hA'
              obtain ⟨rfl, rfl, -⟩ := hA'
              rw [Nat.add_zero] at f0
              have HR0 : Hid (0 < k → rowB ss (rowOf c.tups 0) = true) := fun q => by
                have := HY.out 0 q
                unfold tupB at this
                rw [Bool.and_eq_true] at this
                exact this.1
              have HNX : Hid (tupB ss c.tups k = true → ∀ j, j < k + 1 → tupB ss c.tups j = true) := by
                intro q j hj
                by_cases e : j = k
                · rw [e]; exact q
                · exact HY.out j (by omega)
              have HNO : Hid (tupB ss c.tups k = false → mayC ss c = false) := fun q => mayC_n6 (tups_not (by rw [HX.out.cl.tups.len]; exact hlt) q)
              have HBK : Hid (rowB ss (rowOf c.tups k) = false → tupB ss c.tups k = false) := fun q => by unfold tupB; rw [q]; rfl
              have HKK : Hid (rowB ss (rowOf c.tups k) = true → ((termsK ss (rowOf c.tups k) = termsK ss (rowOf c.tups 0)) ↔ tupB ss c.tups k = true)) := fun q => tupB_termsK HR0.out q
              obtain ⟨r, hr⟩ : ∃ r, r = rowOf c.tups k := ⟨_, rfl⟩
              obtain ⟨r0, hr0⟩ : ∃ r0, r0 = rowOf c.tups 0 := ⟨_, rfl⟩
              rw [← hr] at d0 hk1 HBK HKK
              rw [← hr0] at f0 hk4 HKK
              have HK1 := Lib.hid hk1
              have HK4 := Lib.hid hk4
              have hi0 : (0 : Int) ≤ (k : Int) := by omega
              have hi3 : (k : Int) < (v.n2 : Int) := by omega
              have hi4 : (0 : Int) < (v.n2 : Int) := by omega
              clear hk1 hk4 hr hr0 hA
              go_wp2_with fail
              refine (refTerms_any A A2 n cp _ c2 _ _ ss r _ HS.out hn HK1.out.at_ HK1.out.big HM.out).mono ?_
              rintro e w7 ⟨rfl, rfl⟩
              cases hrb : rowB ss r
              · have HZ := Lib.hid (HNO.out (HBK.out hrb))
                have ht := termsK_no HM.out hrb
                rw [ht]
                clear hrb ht
                go_wp2
                go_ret
                exact ⟨ret_b HZ.out.symm, HBF.out⟩
              · have HKI := Lib.hid (HKK.out hrb)
                have ht := termsK_pos hrb
                obtain ⟨kk, hkk⟩ : ∃ kk, kk = termsK ss r := ⟨_, rfl⟩
                rw [← hkk] at HKI ht ⊢
                have ht' : ¬ kk < 0 := by omega
                clear hrb hkk ht
                go_wp2_with fail
                refine (refTerms_any A A4 n cp _ c4 _ _ ss r0 _ HS.out hn HK4.out.at_ HK4.out.big HM.out).mono ?_
                rintro e w8 ⟨rfl, rfl⟩
                obtain ⟨k0, hk0⟩ : ∃ k0, k0 = termsK ss r0 := ⟨_, rfl⟩
                rw [← hk0] at HKI ⊢
                clear hk0
                by_cases hkf : kk = k0
                · have HZ := Lib.hid (HNX.out (HKI.out.1 hkf))
                  have hk2 : (kk != k0) = false := by simp [hkf]
                  clear hkf
                  go_wp2
                  go_roundw
                  case rel => exact ⟨k + 1, by go_num, by omega, HZ.out, trivial⟩
                  case measure => simp [intOf]; omega
                · have HZ : Hid (mayC ss c = false) := HNO.out (by
                    cases q : tupB ss c.tups k
                    · rfl
                    · exact absurd (HKI.out.2 q) hkf)
                  have hk2 : (kk != k0) = true := by simp [hkf]
                  clear hkf
                  go_wp2
                  go_ret
                  exact ⟨ret_b HZ.out.symm, HBF.out⟩
            · obtain rfl : k = v.n2 := by omega
              have HM2 : Hid (tupsB ss c.tups = true) := tups_yes fun j hj => HY.out j (by rw [HX.out.cl.tups.len] at hj; exact hj)
              clear HY
              have HALL := Lib.hid (mayC_all G1.out G2.out G3.out HM.out HM1.out HM2.out HM3.out)
              have HSM := Lib.hid (small_of G1.out G2.out G3.out HM1.out HM3.out HM2.out)
              have HR : Hid (∀ k, ((rowsC c).take k).flatten.length ≤ 49 * 11) := fun k => Nat.le_trans (flat_few fun r hr => HSM.out.r r (List.mem_of_mem_take hr)) (by have := HSM.out.rows; rw [List.length_take]; omega)
              have hrl := HSM.out.rows
              obtain ⟨L, hL⟩ : ∃ L, L = rowsC c := ⟨_, rfl⟩
              have HE : Hid ((codesC c).length = L.flatten.length) := by show _ = _; rw [hL]; rfl
              have HPA := Lib.hid (refRowsR_any v c)
              rw [← hL] at HR hrl HPA
              clear hL
              go_wp2_with fail
              rw [← HVE.out]
              refine (HPA.out _ HX.out.cl HSM.out).mono ?_
              rintro e w5 ⟨A5, cap, rfl, hcap, ht, hb1⟩
              have HT := Lib.hid ht
              have HB5 := Lib.hid (HBF.out.trans (hb1.mono HBF.out.size))
              obtain ⟨n5, hn5⟩ : ∃ n5, n5 = L.length := ⟨_, rfl⟩
              rw [← hn5] at HT hcap hrl ⊢
              have HN := Lib.hid hn5
              clear ht hb1 hn5 p0 p1 p2
              go_wp2
              go_loopw [10, 11] (fun q i wr => ∃ k s : Nat, q = .int .i64 s ∧ i = .int .i64 k ∧ k ≤ n5 ∧ s = (L.take k).flatten.length ∧ wr = w5) (fun _ i _ => n5 - (intOf i).toNat)
              case atStart => exact ⟨0, 0, rfl, rfl, by omega, rfl, rfl⟩
              case round =>
                obtain ⟨k, s, rfl, rfl, hk, hs, rfl⟩ := hrel
                have HSU := Lib.hid hs
                have hs2 : s ≤ 49 * 11 := by rw [hs]; exact HR.out k
                clear hs
                by_cases hlt : k < n5
                · obtain ⟨b, off, A2, c2, rfl, hb, d0, hr, -⟩ := HT.out.one hlt
                  have HNX : Hid ((L.take (k + 1)).flatten.length = s + (rowOf L k).length) := by
                    show _ = _
                    rw [rowOf_take (by rw [← HN.out]; exact hlt), List.length_append, ← HSU.out]
                  have hs3 := HR.out (k + 1)
                  rw [HNX.out] at hs3
                  obtain ⟨m, hm⟩ : ∃ m, m = (rowOf L k).length := ⟨_, rfl⟩
                  rw [← hm] at d0 HNX hs3
                  have hi0 : (0 : Int) ≤ (k : Int) := by omega
                  have hi3 : (k : Int) < (n5 : Int) := by omega
                  clear hr hm
                  go_wp2
                  go_roundw
                  case rel => exact ⟨k + 1, s + m, by go_num, by go_num, by omega, HNX.out.symm, trivial⟩
                  case measure => simp [intOf]; omega
                · obtain rfl : k = n5 := by omega
                  have e2 : Hid ((codesC c).length = s) := by show _ = _; rw [HE.out, HSU.out, List.take_of_length_le (by have := HN.out; omega)]
                  go_wp2
                  go_ret
                  refine ⟨ret_b ?_, HB5.out⟩
                  rw [HALL.out, e2.out]
                  exact decide_eq_decide.2 (by omega)
end Go.Proofs.YtcjpopjcpgipjaaDoor
