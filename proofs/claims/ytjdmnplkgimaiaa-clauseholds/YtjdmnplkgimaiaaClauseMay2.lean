/-
  Contracts: clause.May, and May of quaereref8.
-/
import Derived.Test.YtjdmnplkgimaiaaClauseMay
namespace Go.Proofs.Ytjdmnplkgimaiaa
open Go.RowKit Go.Deep
set_option linter.unusedSimpArgs false
set_option linter.unusedVariables false
set_option maxRecDepth 100000

section
variable {ss : List Sym} {c : Cl}
theorem mayC_n1 (h : ¬ c.lits.length ≤ 5) : mayC ss c = false := by unfold mayC; simp [h]
theorem mayC_n2 (h : ¬ c.tups.length ≤ 3) : mayC ss c = false := by unfold mayC; simp [h]
theorem mayC_n3 (h : ¬ c.conds.length ≤ 3) : mayC ss c = false := by unfold mayC; simp [h]
theorem mayC_n4 (h : mayB ss = false) : mayC ss c = false := by unfold mayC; simp [h]
theorem mayC_n5 (h : c.lits.all (litB ss) = false) : mayC ss c = false := by unfold mayC; rw [h]; simp
theorem mayC_n6 (h : tupsB ss c.tups = false) : mayC ss c = false := by unfold mayC; rw [h]; simp
theorem mayC_n7 (h : c.conds.all (litB ss) = false) : mayC ss c = false := by unfold mayC; rw [h]; simp
theorem mayC_all (h1 : c.lits.length ≤ 5) (h2 : c.tups.length ≤ 3) (h3 : c.conds.length ≤ 3) (h4 : mayB ss = true) (h5 : c.lits.all (litB ss) = true) (h6 : tupsB ss c.tups = true) (h7 : c.conds.all (litB ss) = true) : mayC ss c = decide ((codesC c).length ≤ 240) := by
  unfold mayC; rw [h4, h5, h6, h7, decide_eq_true h1, decide_eq_true h2, decide_eq_true h3]; simp
end
/-- A box of a clause and the symbols: what a walk over a clause carries. -/
theorem Cv.val_eq (v : Cv) : v.val = .agg #[.slice v.A1 v.n1 v.c1, .slice v.A2 v.n2 v.c2, .slice v.A3 v.n3 v.c3] := rfl

set_option maxHeartbeats 2000000 in
theorem mayC_any (A : Option Addr) (n cp : Nat) (ss : List Sym) (v : Cv) (c : Cl) (w : World) (h : SymsAt w w.heap.size A n ss) (hn : n ≤ maxLen) (hnc : n ≤ cp) (hc : ClAt w w.heap.size v c) :
    Calls Try.prog 9 #[.slice A n cp, v.val] w fun e w' => e = .returned (.bool (mayC ss c)) ∧ Below w.heap.size w w' := by
  have hb0 := below_new w v.obj
  have hx := CBox.new hc
  have hs := h.on hb0
  have L1 := hc.lits.len
  have L2 := hc.tups.len
  have L3 := hc.conds.len
  rw [Cv.val_eq]
  have HVE := Lib.hid v.val_eq
  unfold Cv.obj at hx hb0 hs
  have HX := Lib.hid hx
  have HS := Lib.hid hs
  have HB0 := Lib.hid hb0
  clear h hc hb0 hx hs
  by_cases g1 : v.n1 ≤ 5
  case neg =>
    have HX1 := Lib.hid (mayC_n1 (ss := ss) (c := c) (by omega))
    have g1' : (5 : Int) < (v.n1 : Int) := by omega
    clear g1 L1 L2 L3
    go_enter Try.func9, Try.ntmps9
    go_wp2
    go_ret
    exact ⟨ret_b HX1.out.symm, HB0.out⟩
  by_cases g2 : v.n2 ≤ 3
  case neg =>
    have HX1 := Lib.hid (mayC_n2 (ss := ss) (c := c) (by omega))
    have g1' : ¬ (5 : Int) < (v.n1 : Int) := by omega
    have g2' : (3 : Int) < (v.n2 : Int) := by omega
    clear g1 g2 L1 L2 L3
    go_enter Try.func9, Try.ntmps9
    go_wp2
    go_ret
    exact ⟨ret_b HX1.out.symm, HB0.out⟩
  by_cases g3 : v.n3 ≤ 3
  case neg =>
    have HX1 := Lib.hid (mayC_n3 (ss := ss) (c := c) (by omega))
    have g1' : ¬ (5 : Int) < (v.n1 : Int) := by omega
    have g2' : ¬ (3 : Int) < (v.n2 : Int) := by omega
    have g3' : (3 : Int) < (v.n3 : Int) := by omega
    clear g1 g2 g3 L1 L2 L3
    go_enter Try.func9, Try.ntmps9
    go_wp2
    go_ret
    exact ⟨ret_b HX1.out.symm, HB0.out⟩
  have G1 : Hid (c.lits.length ≤ 5) := by show _ ≤ _; omega
  have G2 : Hid (c.tups.length ≤ 3) := by show _ ≤ _; omega
  have G3 : Hid (c.conds.length ≤ 3) := by show _ ≤ _; omega
  have g1' : ¬ (5 : Int) < (v.n1 : Int) := by omega
  have g2' : ¬ (3 : Int) < (v.n2 : Int) := by omega
  have g3' : ¬ (3 : Int) < (v.n3 : Int) := by omega
  have k1 : Hid (v.n1 ≤ 5) := g1
  have k2 : Hid (v.n2 ≤ 3) := g2
  have k3 : Hid (v.n3 ≤ 3) := g3
  clear g1 g2 g3 L1 L2 L3
  go_enter Try.func9, Try.ntmps9
  go_wp2_with fail
  refine (may_any A n cp ss _ HS.out hn hnc).mono ?_
  rintro e w1 ⟨rfl, hb1⟩
  have HB1 := Lib.hid (HB0.out.trans (hb1.mono HB0.out.size))
  replace HS := Lib.hid (HS.out.on hb1)
  replace HX := Lib.hid (HX.out.on hb1)
  clear hb1
  have p0 := HX.out.c0
  have p1 := HX.out.c1
  have p2 := HX.out.c2
  cases hm : mayB ss
  case false =>
    have HX1 := Lib.hid (mayC_n4 (ss := ss) (c := c) hm)
    clear hm
    go_wp2
    go_ret
    exact ⟨ret_b HX1.out.symm, HB1.out⟩
  have HM := Lib.hid hm
  clear hm
  go_wp2_with fail
  refine (mayLits_any A v.A1 n cp v.n1 v.c1 ss c.lits _ HS.out hn hnc HX.out.cl.lits (by have := k1.out; omega)).mono ?_
  rintro e w2 ⟨rfl, hb2⟩
  have HB2 := Lib.hid (HB1.out.trans (hb2.mono HB1.out.size))
  replace HS := Lib.hid (HS.out.on hb2)
  replace HX := Lib.hid (HX.out.on hb2)
  clear hb2
  clear p0 p1 p2
  have p0 := HX.out.c0
  have p1 := HX.out.c1
  have p2 := HX.out.c2
  cases hm : c.lits.all (litB ss)
  case false =>
    have HX1 := Lib.hid (mayC_n5 (ss := ss) (c := c) hm)
    clear hm
    go_wp2
    go_ret
    exact ⟨ret_b HX1.out.symm, HB2.out⟩
  have HM1 := Lib.hid hm
  clear hm
  go_wp2_with fail
  refine (mayTuples_any A v.A2 n cp v.n2 v.c2 ss c.tups _ HS.out hn hnc HX.out.cl.tups (by have := k2.out; omega)).mono ?_
  rintro e w3 ⟨rfl, hb3⟩
  have HB3 := Lib.hid (HB2.out.trans (hb3.mono HB2.out.size))
  replace HS := Lib.hid (HS.out.on hb3)
  replace HX := Lib.hid (HX.out.on hb3)
  clear hb3
  clear p0 p1 p2
  have p0 := HX.out.c0
  have p1 := HX.out.c1
  have p2 := HX.out.c2
  cases hm : tupsB ss c.tups
  case false =>
    have HX1 := Lib.hid (mayC_n6 (ss := ss) (c := c) hm)
    clear hm
    go_wp2
    go_ret
    exact ⟨ret_b HX1.out.symm, HB3.out⟩
  have HM2 := Lib.hid hm
  clear hm
  go_wp2_with fail
  refine (mayLits_any A v.A3 n cp v.n3 v.c3 ss c.conds _ HS.out hn hnc HX.out.cl.conds (by have := k3.out; omega)).mono ?_
  rintro e w4 ⟨rfl, hb4⟩
  have HB4 := Lib.hid (HB3.out.trans (hb4.mono HB3.out.size))
  replace HS := Lib.hid (HS.out.on hb4)
  replace HX := Lib.hid (HX.out.on hb4)
  clear hb4
  clear p0 p1 p2
  have p0 := HX.out.c0
  have p1 := HX.out.c1
  have p2 := HX.out.c2
  cases hm : c.conds.all (litB ss)
  case false =>
    have HX1 := Lib.hid (mayC_n7 (ss := ss) (c := c) hm)
    clear hm
    go_wp2
    go_ret
    exact ⟨ret_b HX1.out.symm, HB4.out⟩
  have HM3 := Lib.hid hm
  clear hm
  have HALL := Lib.hid (mayC_all G1.out G2.out G3.out HM.out HM1.out HM2.out HM3.out)
  have HSM := Lib.hid (small_of G1.out G2.out G3.out HM1.out HM3.out HM2.out)
  go_wp2_with fail
  rw [← HVE.out]
  refine (size_any v c _ HX.out.cl HSM.out).mono ?_
  rintro e w5 ⟨rfl, hb5⟩
  have HB5 := Lib.hid (HB4.out.trans (hb5.mono HB4.out.size))
  clear hb5
  obtain ⟨s, hs⟩ : ∃ s, s = (codesC c).length := ⟨_, rfl⟩
  rw [← hs] at HALL ⊢
  clear hs
  go_wp2
  go_ret
  refine ⟨ret_b ?_, HB5.out⟩
  rw [HALL.out]
  exact decide_eq_decide.2 (by omega)

theorem termsK_no {ss : List Sym} {r : List Int} (hm : mayB ss = true) (h : rowB ss r = false) : termsK ss r = -1 := by
  unfold termsK
  unfold rowB at h
  rw [hm, Bool.true_and] at h
  rw [h]; rfl
theorem termsK_yes {ss : List Sym} {r : List Int} (h : rowB ss r = true) : termsK ss r = ((tlD ss r).length : Int) := by
  unfold termsK
  unfold rowB at h
  simp only [Bool.and_eq_true] at h
  rw [h.1.2, h.2]; rfl
theorem termsK_pos {ss : List Sym} {r : List Int} (h : rowB ss r = true) : 0 ≤ termsK ss r := by rw [termsK_yes h]; omega
theorem tupB_termsK {ss : List Sym} {ts : List (List Int)} {k : Nat} (h0 : 0 < k → rowB ss (rowOf ts 0) = true) (hk : rowB ss (rowOf ts k) = true) : (termsK ss (rowOf ts k) = termsK ss (rowOf ts 0)) ↔ tupB ss ts k = true := by
  have h0' : rowB ss (rowOf ts 0) = true := by
    rcases Nat.eq_zero_or_pos k with e | e
    · subst e; exact hk
    · exact h0 e
  rw [termsK_yes hk, termsK_yes h0']
  unfold tupB
  rw [hk]
  simp
  omega
end Go.Proofs.Ytjdmnplkgimaiaa
