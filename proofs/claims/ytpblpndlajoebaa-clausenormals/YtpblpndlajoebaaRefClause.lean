/-
  Contracts of quaereref8: Heavy, Weight, VarsOf, Vars, SameLit.
-/
import Derived.Test.YtpblpndlajoebaaClauseTriv
import Derived.Test.YtpblpndlajoebaaClauseVars
import Derived.Test.YtpblpndlajoebaaRefVars
import Derived.Test.YtpblpndlajoebaaRefOrder
namespace Go.Proofs.Ytpblpndlajoebaa
open Go.RowKit Go.Deep
set_option linter.unusedSimpArgs false
set_option linter.unusedVariables false
set_option maxRecDepth 100000

set_option maxHeartbeats 2000000 in
theorem refHeavyC_any (A : Option Addr) (n cp : Nat) (ss : List Sym) (v : Cv) (c : Cl) (w : World) (h : SymsAt w w.heap.size A n ss) (hc : ClAt w w.heap.size v c) (hm : MayC ss c) :
    Calls Try.prog 34 #[.slice A n cp, v.val] w fun e w' => e = .returned (.int .i64 (wtC ss c)) ∧ Below w.heap.size w w' := by
  have hb0 := below_new w v.obj
  have hx0 := CBox.new hc
  have hs0 := h.on hb0
  rw [Cv.val_eq]
  unfold Cv.obj at hb0 hx0 hs0
  have HX := Lib.hid hx0
  have HS := Lib.hid hs0
  have HB0 := Lib.hid hb0
  have HM := Lib.hid hm
  have h5 := hm.nl
  have HL := Lib.hid hc.lits.len
  rw [HL.out] at h5
  have p0 := hx0.c0
  clear h hc hb0 hx0 hs0 hm
  go_enter Try.func34, Try.ntmps34
  go_wp2
  obtain ⟨w1, hw1⟩ : ∃ w1, w1 = w.alloc (.cells #[.slice v.A1 v.n1 v.c1, .slice v.A2 v.n2 v.c2, .slice v.A3 v.n3 v.c3] 26) := ⟨_, rfl⟩
  rw [← hw1] at HX HS HB0 p0 ⊢
  obtain ⟨B, hB⟩ : ∃ B, B = w.heap.size := ⟨_, rfl⟩
  rw [← hB] at HX p0 ⊢
  clear hw1 hB
  go_loopw [5, 6] (fun q i wr => ∃ (k : Nat) (s : Int), q = .int .i64 s ∧ i = .int .i64 k ∧ k ≤ v.n1 ∧ s = wtL ss (c.lits.take k) ∧ wr = w1) (fun _ i _ => v.n1 - (intOf i).toNat)
  case atStart => exact ⟨0, 0, rfl, rfl, by omega, rfl, rfl⟩
  case round =>
    obtain ⟨k, s, rfl, rfl, hk, hs, rfl⟩ := hrel
    have HSU := Lib.hid hs
    have hsb := wtL_bd (ss := ss) (ls := c.lits.take k) (fun l hl => HM.out.lits l (List.mem_of_mem_take hl))
    rw [← hs, List.length_take, HL.out] at hsb
    obtain ⟨s0, s1⟩ := hsb
    have s2 : s ≤ 4900 := by omega
    clear hs s1
    by_cases hlt : k < v.n1
    · have hkl : k < c.lits.length := by rw [HL.out]; exact hlt
      obtain ⟨b, off, A3, c3, hA, hb, d0, d1, hr⟩ := HX.out.cl.lits.one hlt
      rw [hA] at p0
      have HNX := Lib.hid (wtL_next (ss := ss) hkl)
      have HLB := Lib.hid (HM.out.lits _ (ltAt_mem hkl))
      obtain ⟨p, hp⟩ : ∃ p, p = ltAt c.lits k := ⟨_, rfl⟩
      rw [← hp] at d0 d1 hr HNX HLB
      obtain ⟨x1, x2⟩ := lit_wt HLB.out
      have hx := atom_ex (show atomB ss p.atom = true from HLB.out)
      have HEX := Lib.hid (hx.2.codes hx.1)
      have h49 := (lit_pos HLB.out).2
      have HK2 := Lib.hid hr.at_
      obtain ⟨W, hW⟩ : ∃ W, W = wtSum ss p.atom := ⟨_, rfl⟩
      rw [← hW] at x1 x2 HNX
      have HWW := Lib.hid hW
      have hi0 : (0 : Int) ≤ (k : Int) := by omega
      have hi3 : (k : Int) < (v.n1 : Int) := by omega
      clear hr hp hA hkl hx hW
      go_wp2_with fail
      refine (refHeavyO_any A A3 n cp _ c3 _ _ ss p.atom _ HS.out HK2.out HM.out.may HEX.out h49).mono ?_
      rintro e w2 ⟨rfl, rfl⟩
      rw [← HWW.out]
      go_wp2
      go_roundw
      case rel => exact ⟨k + 1, s + W, by go_num, by go_num, by omega, by rw [HNX.out, HSU.out], trivial⟩
      case measure => simp [intOf]; omega
    · obtain rfl : k = v.n1 := by omega
      have HZ : Hid (s = wtC ss c) := by show _ = _; rw [HSU.out, List.take_of_length_le (by rw [HL.out]; omega)]; rfl
      go_wp2
      go_ret
      exact ⟨ret_int HZ.out, HB0.out⟩
set_option maxHeartbeats 2000000 in
theorem refWeightC_any (A : Option Addr) (n cp : Nat) (ss : List Sym) (v : Cv) (c : Cl) (w : World) (h : SymsAt w w.heap.size A n ss) (hn : n ≤ maxLen) (hnc : n ≤ cp) (hc : ClAt w w.heap.size v c) :
    Calls Try.prog 11 #[.slice A n cp, v.val] w (IntPost (wtO ss c) (clE ss c) w) := by
  have HWO : Hid (wtO ss c = if mayC ss c then wtC ss c else 0) := rfl
  have hb0 := below_new w v.obj
  have hx0 := CBox.new hc
  have hs0 := h.on hb0
  have HMC : Hid (mayC ss c = true → MayC ss c) := fun q => mayC_iff.1 q
  have HNE : Hid (clE ss c = if mayC ss c then 0 else 800) := rfl
  rw [Cv.val_eq]
  have HVE := Lib.hid v.val_eq
  unfold Cv.obj at hb0 hx0 hs0
  have HX := Lib.hid hx0
  have HS := Lib.hid hs0
  have HB0 := Lib.hid hb0
  clear h hc hb0 hx0 hs0
  go_enter Try.func11, Try.ntmps11
  go_wp2_with fail
  rw [← HVE.out]
  refine (refMayC_any A n cp ss v c _ HS.out hn hnc HX.out.cl).mono ?_
  rintro e w1 ⟨rfl, hb1⟩
  have HB1 := Lib.hid (HB0.out.trans (hb1.mono HB0.out.size))
  replace HX := Lib.hid (HX.out.on hb1)
  replace HS := Lib.hid (HS.out.on hb1)
  clear hb1 HB0
  have p0 := HX.out.c0
  have p1 := HX.out.c1
  have p2 := HX.out.c2
  obtain ⟨B, hB⟩ : ∃ B, B = w.heap.size := ⟨_, rfl⟩
  rw [← hB] at HX p0 p1 p2 ⊢
  have HBH := Lib.hid hB
  clear hB
  cases hm : mayC ss c
  · rw [hm] at HNE HWO
    clear hm
    go_wp2
    go_ret2
    exact ⟨ret_two HWO.out.symm HNE.out.symm, HBH.out ▸ HB1.out⟩
  · rw [hm] at HNE HWO
    have HM := Lib.hid (HMC.out hm)
    clear hm
    go_wp2_with fail
    rw [← HVE.out]
    refine (refHeavyC_any A n cp ss v c _ HS.out HX.out.cl HM.out).mono ?_
    rintro e w2 ⟨rfl, hb2⟩
    have HB2 := Lib.hid (HB1.out.trans (hb2.mono HB1.out.size))
    obtain ⟨W, hW⟩ : ∃ W, W = wtC ss c := ⟨_, rfl⟩
    rw [← hW] at HWO ⊢
    clear hb2 p0 p1 p2 hW
    go_wp2
    go_ret2
    exact ⟨ret_two (by rw [HWO.out]; rfl) (by rw [HNE.out]; rfl), HBH.out ▸ HB2.out⟩
set_option maxHeartbeats 2000000 in
theorem refVarsOfC_any (v : Cv) (c : Cl) (w : World) (hc : ClAt w w.heap.size v c) (hs : Small c) :
    Calls Try.prog 36 #[v.val] w (IntsRet (varsC c) w) := by
  have hb0 := below_new w v.obj
  have hx0 := CBox.new hc
  rw [Cv.val_eq]
  have HVE := Lib.hid v.val_eq
  unfold Cv.obj at hb0 hx0
  have HX := Lib.hid hx0
  have HB0 := Lib.hid hb0
  have HSM := Lib.hid hs
  obtain ⟨L, hL⟩ : ∃ L, L = rowsC c := ⟨_, rfl⟩
  have HPA := Lib.hid (refRowsR_any v c)
  have H49 : Hid (∀ r ∈ L, r.length ≤ 49) := by rw [hL]; exact hs.r
  have hL11 : L.length ≤ 11 := by rw [hL]; exact hs.rows
  have HVC : Hid (varsC c = varsN L.flatten 24) := by show _ = _; rw [hL]; rfl
  rw [← hL] at HPA
  clear hc hb0 hx0 hs hL
  go_enter Try.func36, Try.ntmps36
  go_wp2_with fail
  rw [← HVE.out]
  refine (HPA.out _ HX.out.cl HSM.out).mono ?_
  rintro e w1 ⟨A5, cap, rfl, hcap, ht, hb1⟩
  have HT := Lib.hid ht
  have HB1 := Lib.hid (HB0.out.trans (hb1.mono HB0.out.size))
  obtain ⟨m, hm⟩ : ∃ m, m = L.length := ⟨_, rfl⟩
  rw [← hm] at HT hcap hL11 ⊢
  have HMM := Lib.hid hm
  have HFL : Hid (∀ k, (L.take k).flatten.length ≤ 539) := fun k => Nat.le_trans (flat_few fun r hr => H49.out r (List.mem_of_mem_take hr)) (by have := HMM.out; rw [List.length_take]; omega)
  clear ht hb1 hm
  go_wp2
  go_loopw [3, 5] (fun q i wr => ∃ k : Nat, i = .int .i64 k ∧ k ≤ m ∧ OwnI wr w1.heap.size q (L.take k).flatten ∧ Below w1.heap.size w1 wr) (fun _ i _ => m - (intOf i).toNat)
  case atStart => exact ⟨0, rfl, by omega, OwnI.nil_, Below.refl _ _⟩
  case round =>
    obtain ⟨k, rfl, hk, hown, hbw⟩ := hrel
    have HOWN := Lib.hid hown
    have HBW := Lib.hid hbw
    have hsz := hbw.size
    clear hown hbw
    by_cases hlt : k < m
    · have hkL : k < L.length := by rw [← HMM.out]; exact hlt
      obtain ⟨b, off, A2, c2, rfl, hb, d0, hr, hnil⟩ := (HT.out.on HBW.out).one hlt
      have HNX := Lib.hid (rowOf_take hkL)
      have hf1 := HFL.out k
      have h49 := H49.out _ (rowOf_mem hkL)
      obtain ⟨r, hrr⟩ : ∃ r, r = rowOf L k := ⟨_, rfl⟩
      rw [← hrr] at d0 hr HNX h49
      have HR := Lib.hid hr
      have HNIL : Hid (A2 = none → r.length = 0 ∧ c2 = 0) := fun q => ⟨by
        rcases Nat.eq_zero_or_pos r.length with e | e
        · exact e
        · exact absurd q (hr.at_.some_ e), hnil q⟩
      obtain ⟨Lr, hLr⟩ : ∃ Lr, r.length = Lr := ⟨_, rfl⟩
      rw [hLr] at d0 HR HNIL h49
      have hi0 : (0 : Int) ≤ (k : Int) := by omega
      have hi3 : (k : Int) < (m : Int) := by omega
      have hlen : (L.take k).flatten.length + Lr ≤ 17592186044416 := by omega
      clear hr hrr hnil hkL hLr
      go_wp2_with (at_builtin
                   refine app_ints rfl (.tmp 14) (.tmp 18) rfl w1.heap.size _ (L.take k).flatten rfl HOWN.out A2 Lr c2 _ r rfl HNIL.out HR.out.at_ hlen hsz ?_
                   intro v2 w2 hown2 hb2
                   have HO2 := Lib.hid hown2
                   have HB2 := Lib.hid (HBW.out.trans hb2)
                   clear hown2 hb2)
      go_roundw
      case rel => exact ⟨k + 1, by go_num, by omega, by rw [HNX.out]; exact HO2.out, HB2.out⟩
      case measure => simp [intOf]; omega
    · obtain rfl : k = m := by omega
      have HOW : Hid (OwnI wr w1.heap.size u3 L.flatten) := HOWN.out.cast (by rw [List.take_of_length_le (by rw [HMM.out]; omega)])
      obtain ⟨A7, c7, hv7, _, hi7⟩ := HOW.out.intsAt
      have hfl := HFL.out k
      rw [List.take_of_length_le (by rw [HMM.out]; omega)] at hfl
      obtain ⟨N7, hN7⟩ : ∃ N7, N7 = L.flatten.length := ⟨_, rfl⟩
      rw [← hN7] at hv7 hi7 hfl
      subst hv7
      have HI := Lib.hid hi7
      clear hi7 hN7
      go_wp2_with fail
      refine (refVarsOf_any A7 N7 c7 L.flatten _ HI.out (by unfold maxLen; omega)).mono ?_
      rintro e w3 ⟨v3, rfl, hv3, hb3⟩
      rw [← HVC.out] at hv3
      have HV3 := Lib.hid hv3
      have HB3 := Lib.hid (HBW.out.trans (hb3.mono HBW.out.size))
      clear hb3 hv3
      go_wp2
      go_ret
      exact ⟨_, rfl, HV3.out.lower (Nat.le_trans HB1.out.size HBW.out.size), HB1.out.trans (HB3.out.mono HB1.out.size)⟩
set_option maxHeartbeats 2000000 in
theorem refVarsC_any (A : Option Addr) (n cp : Nat) (ss : List Sym) (v : Cv) (c : Cl) (w : World) (h : SymsAt w w.heap.size A n ss) (hn : n ≤ maxLen) (hnc : n ≤ cp) (hc : ClAt w w.heap.size v c) :
    Calls Try.prog 13 #[.slice A n cp, v.val] w (IntsPost (varsO ss c) (clE ss c) w) := by
  have HWO : Hid (varsO ss c = if mayC ss c then varsC c else []) := rfl
  have hb0 := below_new w v.obj
  have hx0 := CBox.new hc
  have hs0 := h.on hb0
  have HMC : Hid (mayC ss c = true → MayC ss c) := fun q => mayC_iff.1 q
  have HNE : Hid (clE ss c = if mayC ss c then 0 else 800) := rfl
  rw [Cv.val_eq]
  have HVE := Lib.hid v.val_eq
  unfold Cv.obj at hb0 hx0 hs0
  have HX := Lib.hid hx0
  have HS := Lib.hid hs0
  have HB0 := Lib.hid hb0
  clear h hc hb0 hx0 hs0
  go_enter Try.func13, Try.ntmps13
  go_wp2_with fail
  rw [← HVE.out]
  refine (refMayC_any A n cp ss v c _ HS.out hn hnc HX.out.cl).mono ?_
  rintro e w1 ⟨rfl, hb1⟩
  have HB1 := Lib.hid (HB0.out.trans (hb1.mono HB0.out.size))
  replace HX := Lib.hid (HX.out.on hb1)
  replace HS := Lib.hid (HS.out.on hb1)
  clear hb1 HB0
  have p0 := HX.out.c0
  have p1 := HX.out.c1
  have p2 := HX.out.c2
  obtain ⟨B, hB⟩ : ∃ B, B = w.heap.size := ⟨_, rfl⟩
  rw [← hB] at HX p0 p1 p2 ⊢
  have HBH := Lib.hid hB
  clear hB
  cases hm : mayC ss c
  · rw [hm] at HNE HWO
    clear hm
    go_wp2
    go_ret2
    exact ⟨_, ret_vi HNE.out.symm, OwnI.nil_.cast HWO.out.symm, HBH.out ▸ HB1.out⟩
  · rw [hm] at HNE HWO
    have HM := Lib.hid (HMC.out hm)
    clear hm
    go_wp2_with fail
    rw [← HVE.out]
    refine (refVarsOfC_any v c _ HX.out.cl HM.out.small).mono ?_
    rintro e w2 ⟨v2, rfl, hv2, hb2⟩
    have HB2 := Lib.hid (HB1.out.trans (hb2.mono HB1.out.size))
    have HV2 := Lib.hid (hv2.lower HB1.out.size)
    clear hb2 hv2 p0 p1 p2
    go_wp2
    go_ret2
    exact ⟨_, ret_vi (by rw [HNE.out]; rfl), HV2.out.cast (by rw [HWO.out]; rfl), HB2.out⟩
set_option maxHeartbeats 1000000 in
theorem refSameLit_any (A1 A2 : Option Addr) (n1 c1 n2 c2 : Nat) (p q : Lt) (w : World) (h1 : LitAt w w.heap.size A1 n1 c1 p) (h2 : LitAt w w.heap.size A2 n2 c2 q) :
    Calls Try.prog 96 #[.agg #[.bool p.neg, .slice A1 n1 c1], .agg #[.bool q.neg, .slice A2 n2 c2]] w fun e w' => e = .returned (.bool (sameL p q)) ∧ Below w.heap.size w w' := by
  have hbn := below_new2 w (.cells #[.bool p.neg, .slice A1 n1 c1] 57) (.cells #[.bool q.neg, .slice A2 n2 c2] 57)
  have H1 := Lib.hid (h1.on hbn)
  have H2 := Lib.hid (h2.on hbn)
  have HB := Lib.hid hbn
  have HE : Hid (sameL p q = (p.neg == q.neg && sameI p.atom q.atom)) := rfl
  clear h1 h2 hbn
  cases hpq : p.neg == q.neg
  · rw [hpq] at HE
    go_enter Try.func96, Try.ntmps96
    go_wp2
    go_ret
    exact ⟨ret_b HE.out.symm, HB.out⟩
  · rw [hpq] at HE
    go_enter Try.func96, Try.ntmps96
    go_wp2_with fail
    refine (refSame_any A1 A2 n1 c1 n2 c2 _ _ p.atom q.atom _ H1.out.at_ H2.out.at_ H1.out.row.big H2.out.row.big).mono ?_
    rintro e w3 ⟨rfl, hb3⟩
    have HB3 := Lib.hid (HB.out.trans (hb3.mono HB.out.size))
    clear hb3
    go_wp2
    go_ret
    exact ⟨ret_b (by rw [HE.out]; rfl), HB3.out⟩
end Go.Proofs.Ytpblpndlajoebaa
