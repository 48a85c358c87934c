/-
  Contracts of quaereref8: Heavy, Weight, VarsOf, Vars, SameLit.
  Contracts of quaereref8: Dull, Trivial.
  Contract of quaereref8: Trivial.
-/
import Derived.Test.YtpblpndlajoebaaClauseTriv
import Derived.Test.YtpblpndlajoebaaClauseVars
import Derived.Test.YtpblpndlajoebaaRefVarsAll
import Derived.Test.YtpblpndlajoebaaRefOrder
import Derived.Deep.DeepCutAuto
namespace Go.Proofs.Ytpblpndlajoebaa
open Go.RowKit Go.Deep
set_option linter.unusedSimpArgs false
set_option linter.unusedVariables false
set_option maxRecDepth 100000

set_option maxHeartbeats 2000000 in
theorem refHeavyC_any (A : Option Addr) (n cp : Nat) (ss : List Sym) (v : Cv) (c : Cl) (w : World) (h : SymsAt w w.heap.size A n ss) (hc : ClAt w w.heap.size v c) (hm : MayC ss c) :
    Calls Try.prog 34 #[.slice A n cp, v.val] w fun e w' => e = .returned (.int .i64 (wtC ss c)) ∧ Below w.heap.size w w' := by
  have hb0 := below_new w v.obj
  have hx0 := CBox.new hc
  have hs0 := h.on hb0
  rw [Cv.val_eq]
  unfold Cv.obj at hb0 hx0 hs0
  have HX := Lib.hid hx0
  have HS := Lib.hid hs0
  have HB0 := Lib.hid hb0
  have HM := Lib.hid hm
  have h5 := hm.nl
  have HL := Lib.hid hc.lits.len
  rw [HL.out] at h5
  have p0 := hx0.c0
  clear h hc hb0 hx0 hs0 hm
  go_enter Try.func34, Try.ntmps34
  go_wp2
  obtain ⟨w1, hw1⟩ : ∃ w1, w1 = w.alloc (.cells #[.slice v.A1 v.n1 v.c1, .slice v.A2 v.n2 v.c2, .slice v.A3 v.n3 v.c3] 26) := ⟨_, rfl⟩
  rw [← hw1] at HX HS HB0 p0 ⊢
  obtain ⟨B, hB⟩ : ∃ B, B = w.heap.size := ⟨_, rfl⟩
  rw [← hB] at HX p0 ⊢
  clear hw1 hB
  go_loopw [5, 6] (fun q i wr => ∃ (k : Nat) (s : Int), q = .int .i64 s ∧ i = .int .i64 k ∧ k ≤ v.n1 ∧ s = wtL ss (c.lits.take k) ∧ wr = w1) (fun _ i _ => v.n1 - (intOf i).toNat)
  case atStart => exact ⟨0, 0, rfl, rfl, by omega, rfl, rfl⟩
  case round =>
    obtain ⟨k, s, rfl, rfl, hk, hs, rfl⟩ := hrel
    have HSU := Lib.hid hs
    have hsb := wtL_bd (ss := ss) (ls := c.lits.take k) (fun l hl => HM.out.lits l (List.mem_of_mem_take hl))
    rw [← hs, List.length_take, HL.out] at hsb
    obtain ⟨s0, s1⟩ := hsb
    have s2 : s ≤ 4900 := by omega
    clear hs s1
    by_cases hlt : k < v.n1
    · have hkl : k < c.lits.length := by rw [HL.out]; exact hlt
      obtain ⟨b, off, A3, c3, hA, hb, d0, d1, hr⟩ := HX.out.cl.lits.one hlt
      rw [hA] at p0
      have HNX := Lib.hid (wtL_next (ss := ss) hkl)
      have HLB := Lib.hid (HM.out.lits _ (ltAt_mem hkl))
      obtain ⟨p, hp⟩ : ∃ p, p = ltAt c.lits k := ⟨_, rfl⟩
      rw [← hp] at d0 d1 hr HNX HLB
      obtain ⟨x1, x2⟩ := lit_wt HLB.out
      have hx := atom_ex (show atomB ss p.atom = true from HLB.out)
      have HEX := Lib.hid (hx.2.codes hx.1)
      have h49 := (lit_pos HLB.out).2
      have HK2 := Lib.hid hr.at_
      obtain ⟨W, hW⟩ : ∃ W, W = wtSum ss p.atom := ⟨_, rfl⟩
      rw [← hW] at x1 x2 HNX
      have HWW := Lib.hid hW
      have hi0 : (0 : Int) ≤ (k : Int) := by omega
      have hi3 : (k : Int) < (v.n1 : Int) := by omega
      clear hr hp hA hkl hx hW
      go_wp2_with fail
      refine (refHeavyO_any A A3 n cp _ c3 _ _ ss p.atom _ HS.out HK2.out HM.out.may HEX.out h49).mono ?_
      rintro e w2 ⟨rfl, rfl⟩
      rw [← HWW.out]
      go_wp2
      go_roundw
      case rel => exact ⟨k + 1, s + W, by go_num, by go_num, by omega, by rw [HNX.out, HSU.out], trivial⟩
      case measure => simp [intOf]; omega
    · obtain rfl : k = v.n1 := by omega
      have HZ : Hid (s = wtC ss c) := by show _ = _; rw [HSU.out, List.take_of_length_le (by rw [HL.out]; omega)]; rfl
      go_wp2
      go_ret
      exact ⟨ret_int HZ.out, HB0.out⟩
set_option maxHeartbeats 2000000 in
theorem refWeightC_any (A : Option Addr) (n cp : Nat) (ss : List Sym) (v : Cv) (c : Cl) (w : World) (h : SymsAt w w.heap.size A n ss) (hn : n ≤ maxLen) (hnc : n ≤ cp) (hc : ClAt w w.heap.size v c) :
    Calls Try.prog 11 #[.slice A n cp, v.val] w (IntPost (wtO ss c) (clE ss c) w) := by
  have HWO : Hid (wtO ss c = if mayC ss c then wtC ss c else 0) := rfl
  have hb0 := below_new w v.obj
  have hx0 := CBox.new hc
  have hs0 := h.on hb0
  have HMC : Hid (mayC ss c = true → MayC ss c) := fun q => mayC_iff.1 q
  have HNE : Hid (clE ss c = if mayC ss c then 0 else 800) := rfl
  rw [Cv.val_eq]
  have HVE := Lib.hid v.val_eq
  unfold Cv.obj at hb0 hx0 hs0
  have HX := Lib.hid hx0
  have HS := Lib.hid hs0
  have HB0 := Lib.hid hb0
  clear h hc hb0 hx0 hs0
  go_enter Try.func11, Try.ntmps11
  go_wp2_with fail
  rw [← HVE.out]
  refine (refMayC_any A n cp ss v c _ HS.out hn hnc HX.out.cl).mono ?_
  rintro e w1 ⟨rfl, hb1⟩
  have HB1 := Lib.hid (HB0.out.trans (hb1.mono HB0.out.size))
  replace HX := Lib.hid (HX.out.on hb1)
  replace HS := Lib.hid (HS.out.on hb1)
  clear hb1 HB0
  have p0 := HX.out.c0
  have p1 := HX.out.c1
  have p2 := HX.out.c2
  obtain ⟨B, hB⟩ : ∃ B, B = w.heap.size := ⟨_, rfl⟩
  rw [← hB] at HX p0 p1 p2 ⊢
  have HBH := Lib.hid hB
  clear hB
  cases hm : mayC ss c
  · rw [hm] at HNE HWO
    clear hm
    go_wp2
    go_ret2
    exact ⟨ret_two HWO.out.symm HNE.out.symm, HBH.out ▸ HB1.out⟩
  · rw [hm] at HNE HWO
    have HM := Lib.hid (HMC.out hm)
    clear hm
    go_wp2_with fail
    rw [← HVE.out]
    refine (refHeavyC_any A n cp ss v c _ HS.out HX.out.cl HM.out).mono ?_
    rintro e w2 ⟨rfl, hb2⟩
    have HB2 := Lib.hid (HB1.out.trans (hb2.mono HB1.out.size))
    obtain ⟨W, hW⟩ : ∃ W, W = wtC ss c := ⟨_, rfl⟩
    rw [← hW] at HWO ⊢
    clear hb2 p0 p1 p2 hW
    go_wp2
    go_ret2
    exact ⟨ret_two (by rw [HWO.out]; rfl) (by rw [HNE.out]; rfl), HBH.out ▸ HB2.out⟩
set_option maxHeartbeats 2000000 in
theorem refVarsOfC_any (v : Cv) (c : Cl) (w : World) (hc : ClAt w w.heap.size v c) (hs : Small c) :
    Calls Try.prog 36 #[v.val] w (IntsRet (varsC c) w) := by
  have hb0 := below_new w v.obj
  have hx0 := CBox.new hc
  rw [Cv.val_eq]
  have HVE := Lib.hid v.val_eq
  unfold Cv.obj at hb0 hx0
  have HX := Lib.hid hx0
  have HB0 := Lib.hid hb0
  have HSM := Lib.hid hs
  obtain ⟨L, hL⟩ : ∃ L, L = rowsC c := ⟨_, rfl⟩
  have HPA := Lib.hid (refRowsR_any v c)
  have H49 : Hid (∀ r ∈ L, r.length ≤ 49) := by rw [hL]; exact hs.r
  have hL11 : L.length ≤ 11 := by rw [hL]; exact hs.rows
  have HVC : Hid (varsC c = varsN L.flatten 24) := by show _ = _; rw [hL]; rfl
  rw [← hL] at HPA
  clear hc hb0 hx0 hs hL
  go_enter Try.func36, Try.ntmps36
  go_wp2_with fail
  rw [← HVE.out]
  refine (HPA.out _ HX.out.cl HSM.out).mono ?_
  rintro e w1 ⟨A5, cap, rfl, hcap, ht, hb1⟩
  have HT := Lib.hid ht
  have HB1 := Lib.hid (HB0.out.trans (hb1.mono HB0.out.size))
  obtain ⟨m, hm⟩ : ∃ m, m = L.length := ⟨_, rfl⟩
  rw [← hm] at HT hcap hL11 ⊢
  have HMM := Lib.hid hm
  have HFL : Hid (∀ k, (L.take k).flatten.length ≤ 539) := fun k => Nat.le_trans (flat_few fun r hr => H49.out r (List.mem_of_mem_take hr)) (by have := HMM.out; rw [List.length_take]; omega)
  clear ht hb1 hm
  go_wp2
  go_loopw [3, 5] (fun q i wr => ∃ k : Nat, i = .int .i64 k ∧ k ≤ m ∧ OwnI wr w1.heap.size q (L.take k).flatten ∧ Below w1.heap.size w1 wr) (fun _ i _ => m - (intOf i).toNat)
  case atStart => exact ⟨0, rfl, by omega, OwnI.nil_, Below.refl _ _⟩
  case round =>
    obtain ⟨k, rfl, hk, hown, hbw⟩ := hrel
    have HOWN := Lib.hid hown
    have HBW := Lib.hid hbw
    have hsz := hbw.size
    clear hown hbw
    by_cases hlt : k < m
    · have hkL : k < L.length := by rw [← HMM.out]; exact hlt
      obtain ⟨b, off, A2, c2, rfl, hb, d0, hr, hnil⟩ := (HT.out.on HBW.out).one hlt
      have HNX := Lib.hid (rowOf_take hkL)
      have hf1 := HFL.out k
      have h49 := H49.out _ (rowOf_mem hkL)
      obtain ⟨r, hrr⟩ : ∃ r, r = rowOf L k := ⟨_, rfl⟩
      rw [← hrr] at d0 hr HNX h49
      have HR := Lib.hid hr
      have HNIL : Hid (A2 = none → r.length = 0 ∧ c2 = 0) := fun q => ⟨by
        rcases Nat.eq_zero_or_pos r.length with e | e
        · exact e
        · exact absurd q (hr.at_.some_ e), hnil q⟩
      obtain ⟨Lr, hLr⟩ : ∃ Lr, r.length = Lr := ⟨_, rfl⟩
      rw [hLr] at d0 HR HNIL h49
      have hi0 : (0 : Int) ≤ (k : Int) := by omega
      have hi3 : (k : Int) < (m : Int) := by omega
      have hlen : (L.take k).flatten.length + Lr ≤ 17592186044416 := by omega
      clear hr hrr hnil hkL hLr
      go_wp2_with (at_builtin
                   refine app_ints rfl (.tmp 14) (.tmp 18) rfl w1.heap.size _ (L.take k).flatten rfl HOWN.out A2 Lr c2 _ r rfl HNIL.out HR.out.at_ hlen hsz ?_
                   intro v2 w2 hown2 hb2
                   have HO2 := Lib.hid hown2
                   have HB2 := Lib.hid (HBW.out.trans hb2)
                   clear hown2 hb2)
      go_roundw
      case rel => exact ⟨k + 1, by go_num, by omega, by rw [HNX.out]; exact HO2.out, HB2.out⟩
      case measure => simp [intOf]; omega
    · obtain rfl : k = m := by omega
      have HOW : Hid (OwnI wr w1.heap.size u3 L.flatten) := HOWN.out.cast (by rw [List.take_of_length_le (by rw [HMM.out]; omega)])
      obtain ⟨A7, c7, hv7, _, hi7⟩ := HOW.out.intsAt
      have hfl := HFL.out k
      rw [List.take_of_length_le (by rw [HMM.out]; omega)] at hfl
      obtain ⟨N7, hN7⟩ : ∃ N7, N7 = L.flatten.length := ⟨_, rfl⟩
      rw [← hN7] at hv7 hi7 hfl
      subst hv7
      have HI := Lib.hid hi7
      clear hi7 hN7
      go_wp2_with fail
      refine (refVarsOf_any A7 N7 c7 L.flatten _ HI.out (by unfold maxLen; omega)).mono ?_
      rintro e w3 ⟨v3, rfl, hv3, hb3⟩
      rw [← HVC.out] at hv3
      have HV3 := Lib.hid hv3
      have HB3 := Lib.hid (HBW.out.trans (hb3.mono HBW.out.size))
      clear hb3 hv3
      go_wp2
      go_ret
      exact ⟨_, rfl, HV3.out.lower (Nat.le_trans HB1.out.size HBW.out.size), HB1.out.trans (HB3.out.mono HB1.out.size)⟩
set_option maxHeartbeats 2000000 in
theorem refVarsC_any (A : Option Addr) (n cp : Nat) (ss : List Sym) (v : Cv) (c : Cl) (w : World) (h : SymsAt w w.heap.size A n ss) (hn : n ≤ maxLen) (hnc : n ≤ cp) (hc : ClAt w w.heap.size v c) :
    Calls Try.prog 13 #[.slice A n cp, v.val] w (IntsPost (varsO ss c) (clE ss c) w) := by
  have HWO : Hid (varsO ss c = if mayC ss c then varsC c else []) := rfl
  have hb0 := below_new w v.obj
  have hx0 := CBox.new hc
  have hs0 := h.on hb0
  have HMC : Hid (mayC ss c = true → MayC ss c) := fun q => mayC_iff.1 q
  have HNE : Hid (clE ss c = if mayC ss c then 0 else 800) := rfl
  rw [Cv.val_eq]
  have HVE := Lib.hid v.val_eq
  unfold Cv.obj at hb0 hx0 hs0
  have HX := Lib.hid hx0
  have HS := Lib.hid hs0
  have HB0 := Lib.hid hb0
  clear h hc hb0 hx0 hs0
  go_enter Try.func13, Try.ntmps13
  go_wp2_with fail
  rw [← HVE.out]
  refine (refMayC_any A n cp ss v c _ HS.out hn hnc HX.out.cl).mono ?_
  rintro e w1 ⟨rfl, hb1⟩
  have HB1 := Lib.hid (HB0.out.trans (hb1.mono HB0.out.size))
  replace HX := Lib.hid (HX.out.on hb1)
  replace HS := Lib.hid (HS.out.on hb1)
  clear hb1 HB0
  have p0 := HX.out.c0
  have p1 := HX.out.c1
  have p2 := HX.out.c2
  obtain ⟨B, hB⟩ : ∃ B, B = w.heap.size := ⟨_, rfl⟩
  rw [← hB] at HX p0 p1 p2 ⊢
  have HBH := Lib.hid hB
  clear hB
  cases hm : mayC ss c
  · rw [hm] at HNE HWO
    clear hm
    go_wp2
    go_ret2
    exact ⟨_, ret_vi HNE.out.symm, OwnI.nil_.cast HWO.out.symm, HBH.out ▸ HB1.out⟩
  · rw [hm] at HNE HWO
    have HM := Lib.hid (HMC.out hm)
    clear hm
    go_wp2_with fail
    rw [← HVE.out]
    refine (refVarsOfC_any v c _ HX.out.cl HM.out.small).mono ?_
    rintro e w2 ⟨v2, rfl, hv2, hb2⟩
    have HB2 := Lib.hid (HB1.out.trans (hb2.mono HB1.out.size))
    have HV2 := Lib.hid (hv2.lower HB1.out.size)
    clear hb2 hv2 p0 p1 p2
    go_wp2
    go_ret2
    exact ⟨_, ret_vi (by rw [HNE.out]; rfl), HV2.out.cast (by rw [HWO.out]; rfl), HB2.out⟩
set_option maxHeartbeats 1000000 in
theorem refSameLit_any (A1 A2 : Option Addr) (n1 c1 n2 c2 : Nat) (p q : Lt) (w : World) (h1 : LitAt w w.heap.size A1 n1 c1 p) (h2 : LitAt w w.heap.size A2 n2 c2 q) :
    Calls Try.prog 96 #[.agg #[.bool p.neg, .slice A1 n1 c1], .agg #[.bool q.neg, .slice A2 n2 c2]] w fun e w' => e = .returned (.bool (sameL p q)) ∧ Below w.heap.size w w' := by
  have hbn := below_new2 w (.cells #[.bool p.neg, .slice A1 n1 c1] 57) (.cells #[.bool q.neg, .slice A2 n2 c2] 57)
  have H1 := Lib.hid (h1.on hbn)
  have H2 := Lib.hid (h2.on hbn)
  have HB := Lib.hid hbn
  have HE : Hid (sameL p q = (p.neg == q.neg && sameI p.atom q.atom)) := rfl
  clear h1 h2 hbn
  cases hpq : p.neg == q.neg
  · rw [hpq] at HE
    go_enter Try.func96, Try.ntmps96
    go_wp2
    go_ret
    exact ⟨ret_b HE.out.symm, HB.out⟩
  · rw [hpq] at HE
    go_enter Try.func96, Try.ntmps96
    go_wp2_with fail
    refine (refSame_any A1 A2 n1 c1 n2 c2 _ _ p.atom q.atom _ H1.out.at_ H2.out.at_ H1.out.row.big H2.out.row.big).mono ?_
    rintro e w3 ⟨rfl, hb3⟩
    have HB3 := Lib.hid (HB.out.trans (hb3.mono HB.out.size))
    clear hb3
    go_wp2
    go_ret
    exact ⟨ret_b (by rw [HE.out]; rfl), HB3.out⟩
end Go.Proofs.Ytpblpndlajoebaa

namespace Go.Proofs.Ytpblpndlajoebaa
open Go.RowKit Go.Deep
set_option linter.unusedSimpArgs false
set_option linter.unusedVariables false
set_option maxRecDepth 100000

theorem eq_parts {ss : List Sym} {z y : List Int} (hz : trm 24 ss z 1) (hy : trm 24 ss y 1) : ∃ ms, tl ss (nrm (z ++ y)) = some ms ∧ (partsL (z ++ y) ms).length = 2 ∧ rowOf (partsL (z ++ y) ms) 0 = z ∧ rowOf (partsL (z ++ y) ms) 1 = y := by
  obtain ⟨⟨ms, h1, h2⟩, h3⟩ := trm_append hz hy
  have hl : (partsL (z ++ y) ms).length = 2 := by rw [partsL_length, h2]
  have hf := partsL_flat h1
  have ht := partsL_trm (V := 24) h1 h3
  refine ⟨ms, h1, hl, ?_⟩
  obtain ⟨a, b, hp⟩ : ∃ a b, partsL (z ++ y) ms = [a, b] := by
    match partsL (z ++ y) ms, hl with
    | [a, b], _ => exact ⟨a, b, rfl⟩
  rw [hp] at hf ht ⊢
  have e : a ++ b = z ++ y := by simpa using hf
  obtain ⟨q1, q2⟩ := trm_uniq (ht a (List.mem_cons_self ..)) hz e
  exact ⟨q1, q2⟩
theorem sameL_opp {p q : Lt} : sameL (opp p) q = ((q.neg != p.neg) && sameI q.atom p.atom) := by
  unfold sameL opp sameI
  have : decide (p.atom = q.atom) = decide (q.atom = p.atom) := decide_eq_decide.2 ⟨fun h => h.symm, fun h => h.symm⟩
  rw [this]
  cases p.neg <;> cases q.neg <;> rfl
theorem hasL_take {p : Lt} {ls : List Lt} {k : Nat} (hk : k ≤ ls.length) (h : ∀ t, t < k → sameL p (ltAt ls t) = false) : hasL p (ls.take k) = false := by
  refine hasL_no fun t ht => ?_
  rw [List.length_take] at ht
  have e : ltAt (ls.take k) t = ltAt ls t := by
    unfold ltAt
    rw [List.getD_eq_getElem?_getD, List.getD_eq_getElem?_getD, List.getElem?_take, if_pos (by omega)]
  rw [e]; exact h t (by omega)
theorem hasL_took {p : Lt} {ls : List Lt} {k t : Nat} (ht : t < k) (hk : k ≤ ls.length) (h : sameL p (ltAt ls t) = true) : hasL p (ls.take k) = true := by
  have e : ltAt (ls.take k) t = ltAt ls t := by
    unfold ltAt
    rw [List.getD_eq_getElem?_getD, List.getD_eq_getElem?_getD, List.getElem?_take, if_pos ht]
  exact hasL_yes (k := t) (by rw [List.length_take]; omega) (by rw [e]; exact h)

/-- Is it an equation without Neg? -/
def eqL (p : Lt) : Bool := !p.neg && decide (intAt p.atom 0 = 0)
theorem eqL_yes {p : Lt} (h : eqL p = true) : p.neg = false ∧ intAt p.atom 0 = 0 := by
  unfold eqL at h
  simp only [Bool.and_eq_true, Bool.not_eq_true', decide_eq_true_eq] at h
  exact h
theorem eqL_no {ss : List Sym} {p : Lt} (h : eqL p = false) : idB ss p = false := by
  unfold eqL at h
  rw [Bool.and_eq_false_iff, decide_eq_false_iff_not] at h
  rcases h with h | h
  · exact idB_neg (by simpa using h)
  · exact idB_code h
set_option maxHeartbeats 4000000 in
theorem refDull_any (A : Option Addr) (n cp : Nat) (ss : List Sym) (v : Cv) (c : Cl) (w : World) (h : SymsAt w w.heap.size A n ss) (hn : n ≤ maxLen) (hc : ClAt w w.heap.size v c) (hm : MayC ss c) :
    Calls Try.prog 39 #[.slice A n cp, v.val] w fun e w' => e = .returned (.bool (dullB ss c)) ∧ Below w.heap.size w w' := by
  have hb0 := below_new w v.obj
  have hx0 := CBox.new hc
  have hs0 := h.on hb0
  rw [Cv.val_eq]
  unfold Cv.obj at hb0 hx0 hs0
  have HX := Lib.hid hx0
  have HS := Lib.hid hs0
  have HB0 := Lib.hid hb0
  have HM := Lib.hid hm
  have h5 := hm.nl
  have HL := Lib.hid hc.lits.len
  rw [HL.out] at h5
  clear h hc hb0 hx0 hs0 hm
  go_enter Try.func39, Try.ntmps39
  go_wp2
  obtain ⟨w1, hw1⟩ : ∃ w1, w1 = w.alloc (.cells #[.slice v.A1 v.n1 v.c1, .slice v.A2 v.n2 v.c2, .slice v.A3 v.n3 v.c3] 26) := ⟨_, rfl⟩
  rw [← hw1] at HX HS HB0 ⊢
  obtain ⟨B, hB⟩ : ∃ B, B = w.heap.size := ⟨_, rfl⟩
  rw [← hB] at HX ⊢
  clear hw1 hB
  go_loopw [5] (fun i wr => ∃ k : Nat, i = .int .i64 k ∧ k ≤ v.n1 ∧ (∀ j, j < k → idB ss (ltAt c.lits j) = false ∧ hasL (opp (ltAt c.lits j)) (c.lits.take j) = false) ∧ Below w1.heap.size w1 wr) (fun i _ => v.n1 - (intOf i).toNat)
  case atStart => exact ⟨0, rfl, by omega, fun j hj => absurd hj (by omega), Below.refl _ _⟩
  case round =>
    obtain ⟨k, rfl, hk, hno, hbw⟩ := hrel
    have HNO := Lib.hid hno
    have HBI := Lib.hid hbw
    clear hno hbw
    have p0 := (HX.out.on HBI.out).c0
    by_cases hlt : k < v.n1
    · have hkl : k < c.lits.length := by rw [HL.out]; exact hlt
      have HKL : Hid (k ≤ c.lits.length) := Nat.le_of_lt hkl
      obtain ⟨b, off, A3, c3, hA, hb, d0, d1, hr⟩ := HX.out.cl.lits.one hlt
      rw [hA] at p0
      have HA := Lib.hid hA
      have HLT := Lib.hid hb
      have HLB := Lib.hid (HM.out.lits _ (ltAt_mem hkl))
      have HY1 := Lib.hid (fun q => dull_id (ss := ss) (c := c) hkl q)
      have HY2 := Lib.hid (fun q => dull_opp (ss := ss) (c := c) hkl q)
      have HNX : Hid (idB ss (ltAt c.lits k) = false → hasL (opp (ltAt c.lits k)) (c.lits.take k) = false → ∀ j, j < k + 1 → idB ss (ltAt c.lits j) = false ∧ hasL (opp (ltAt c.lits j)) (c.lits.take j) = false) := by
        intro q1 q2 j hj
        by_cases e : j = k
        · rw [e]; exact ⟨q1, q2⟩
        · exact HNO.out j (by omega)
      obtain ⟨p, hp⟩ : ∃ p, p = ltAt c.lits k := ⟨_, rfl⟩
      rw [← hp] at d0 d1 hr HLB HY1 HY2 HNX
      have HD0 := Lib.hid d0
      have HRW := Lib.hid hr
      have g0 : wr.cell? ⟨b, off + k * 2, none⟩ = some (.bool p.neg) := by rw [HBI.out.cell (p := ⟨b, off + k * 2, none⟩) hb]; exact d0
      have g1 : wr.cell? ⟨b, off + k * 2 + 1, none⟩ = some (.slice A3 p.atom.length c3) := by rw [HBI.out.cell (p := ⟨b, off + k * 2 + 1, none⟩) hb]; exact d1
      have hi0 : (0 : Int) ≤ (k : Int) := by omega
      have hi3 : (k : Int) < (v.n1 : Int) := by omega
      obtain ⟨wA, hwA⟩ : ∃ wA, wA = wr := ⟨_, rfl⟩
      subst hwA
      clear hp hA hkl d0 d1 hr
      have hb1 := (lit_pos HLB.out).1
      have hb2 := (lit_pos HLB.out).2
      obtain ⟨b3, off3, hA3, hlt3, hcc⟩ := (HRW.out.on HBI.out).at_.at_ hb1
      have hc0 : wA.cell? ⟨b3, off3, none⟩ = some (.int .i64 (intAt p.atom 0)) := by have := hcc 0 (by omega); rw [Nat.add_zero] at this; exact this
      have HIN := Lib.hid (HRW.out.on HBI.out).at_
      have HIN0 := Lib.hid HIN.out
      rw [hA3] at HIN
      have hcap := HRW.out.cap
      obtain ⟨m3, hm3⟩ : ∃ m3, m3 = p.atom.length := ⟨_, rfl⟩
      rw [← hm3] at g1 hb1 hb2 hcap HIN
      rw [hA3] at g1
      have HM3 := Lib.hid hm3
      have HA3 := Lib.hid hA3
      have z0 : (0 : Int) < (m3 : Int) := by omega
      clear hcc hA3 hm3
      go_upto_region 5 with (fail)
      go_cut [34] (fun s wx => s = .bool (eqL p) ∧ wA = wx)
      case first =>
        cases hng : p.neg
        case true =>
          have HEQ : Hid (eqL p = false) := by show _ = _; unfold eqL; rw [hng]; rfl
          rw [hng] at g0
          clear hng
          go_wp2_with fail
          go_meet
          case rel => exact ⟨by rw [HEQ.out], rfl⟩
        rw [hng] at g0
        have HNG := Lib.hid hng
        clear hng
        by_cases h0 : intAt p.atom 0 = 0
        case neg =>
          have HEQ : Hid (eqL p = false) := by show _ = _; unfold eqL; rw [decide_eq_false h0]; simp
          obtain ⟨x, hx⟩ : ∃ x, x = intAt p.atom 0 := ⟨_, rfl⟩
          rw [← hx] at hc0 h0
          have h0' : (x == 0) = false := by simpa using h0
          clear hx h0
          go_wp2_with fail
          go_meet
          case rel => exact ⟨by rw [HEQ.out], rfl⟩
        have HEQ : Hid (eqL p = true) := by show _ = _; unfold eqL; rw [decide_eq_true h0, HNG.out]; rfl
        rw [h0] at hc0
        clear h0
        go_wp2_with fail
        go_meet
        case rel => exact ⟨by rw [HEQ.out], rfl⟩
      case rest =>
      obtain ⟨rfl, rfl⟩ := hcut
      go_upto_if 34 with (fail)
      go_cut [7] (fun s wx => idB ss p = false ∧ Below w1.heap.size w1 wx)
      case first =>
        cases heq : eqL p
        case false =>
          have HID := Lib.hid (eqL_no (ss := ss) heq)
          clear heq
          go_wp2_with fail
          go_meet
          case rel => exact ⟨HID.out, HBI.out⟩
        obtain ⟨hng, h0⟩ := eqL_yes heq
        have HNG := Lib.hid hng
        obtain ⟨z, y, ha, hz, hy⟩ := eq_sides HLB.out h0
        have HIS := Lib.hid (idB_sides HNG.out ha hz hy)
        obtain ⟨ms, hms, hpl, hp0, hp1⟩ := eq_parts hz hy
        have HMS := Lib.hid hms
        have HPL := Lib.hid hpl
        have HP0 := Lib.hid hp0
        have HP1 := Lib.hid hp1
        have hin := HIN.out
        rw [ha] at hin
        have hex : ExAt wA wA.heap.size (some ⟨b3, off3, none⟩) m3 c3 (0 :: (z ++ y)) := ⟨hin, hcap, hb2⟩
        have HROW := Lib.hid hex.tail
        have hml : m3 = z.length + y.length + 1 := by have := hin.len; simp at this; omega
        have hz1 := trm_pos hz
        have hy1 := trm_pos hy
        have hs3 : ¬ c3 = 1 := by omega
        have z1 : (1 : Int) ≤ (m3 : Int) := by omega
        have z2 : (m3 : Int) ≤ (c3 : Int) := by omega
        clear ha hz hy hms hpl hp0 hp1 hin hex hml hz1 hy1 h0 hng heq
        go_wp2_with fail
        refine (refPartsR_any A _ n cp (m3 - 1) (c3 - 1) wA.heap.size ss (z ++ y) ms wA (HS.out.on HBI.out) hn HROW.out HM.out.may HMS.out (Nat.le_refl _)).mono ?_
        rintro e w5 ⟨v5, rfl, hv5, hb5⟩
        have HB5 := Lib.hid (HBI.out.trans (hb5.mono HBI.out.size))
        obtain ⟨g, cap, A4, n4, c4, hv, hg, q0, r0⟩ := hv5.cell (i := 0) (by rw [HPL.out]; omega)
        obtain ⟨g', cap', A5, n5, c5, hv', hg', q1, r1⟩ := hv5.cell (i := 1) (by rw [HPL.out]; omega)
        subst hv
        simp only [Value.slice.injEq, Option.some.injEq, Addr.mk.injEq] at hv'
        obtain ⟨⟨rfl, -, -⟩, -, rfl⟩ := hv'
        rw [HP0.out] at r0
        rw [HP1.out] at r1
        rw [HPL.out]
        have HR0 := Lib.hid r0
        have HR1 := Lib.hid r1
        have hf0 := r0.few
        have hf1 := r1.few
        clear r0 r1 hv5 hb5 hg hg'
        cases hsm : sameI z y
        · have HSM := Lib.hid hsm
          have HID : Hid (idB ss p = false) := by show _ = _; rw [HIS.out]; exact hsm
          clear hsm
          go_wp2_with fail
          go_quiet ((go_at_call 66; exact refSame_still A4 A5 n4 c4 n5 c5 wA.heap.size wA.heap.size _ z y w5 HR0.out.at_ HR1.out.at_ (by unfold maxLen; omega) (by unfold maxLen; omega) HSM.out))
          go_wp2_with fail
          go_meet
          case rel => exact ⟨HID.out, HB5.out.trans ((below_drewN w5 nq).mono HB5.out.size)⟩
        · have HSM := Lib.hid hsm
          have HZ : Hid (dullB ss c = true) := HY1.out (by rw [HIS.out]; exact hsm)
          clear hsm
          go_wp2_with fail
          go_quiet ((go_at_call 66; exact refSame_still A4 A5 n4 c4 n5 c5 wA.heap.size wA.heap.size _ z y w5 HR0.out.at_ HR1.out.at_ (by unfold maxLen; omega) (by unfold maxLen; omega) HSM.out))
          go_wp2
          go_ret
          exact ⟨ret_b HZ.out.symm, HB0.out.trans ((HB5.out.trans ((below_drewN w5 nq).mono HB5.out.size)).mono HB0.out.size)⟩
      case rest =>
        obtain ⟨hid, hbc⟩ := hcut
        have HID := Lib.hid hid
        have HBC := Lib.hid hbc
        clear hid hbc p0 g0 g1 hc0 hcap hb1 hb2
        rw [← HA3.out, HM3.out]
        obtain ⟨np, hnp⟩ : ∃ np, np = p.neg := ⟨_, rfl⟩
        rw [← hnp] at HD0
        have HNP := Lib.hid hnp
        clear hnp
        go_wp2_with fail
        go_loopw [8] (fun j wr => ∃ m : Nat, j = .int .i64 m ∧ m ≤ k ∧ (∀ t, t < m → sameL (opp p) (ltAt c.lits t) = false) ∧ Below w1.heap.size w1 wr) (fun j _ => k - (intOf j).toNat)
        case atStart => exact ⟨0, rfl, by omega, fun t ht => absurd ht (by omega), HBC.out⟩
        case round =>
          obtain ⟨m, rfl, hm, hno, hbw⟩ := hrel
          have HNM := Lib.hid hno
          have HBM := Lib.hid hbw
          clear hno hbw
          by_cases hmt : m < k
          · obtain ⟨b', off', A4, c4, hA', hb', e0, e1, hr4⟩ := (HX.out.cl.lits.on HBM.out).one (show m < v.n1 by omega)
            rw [HA.out] at hA'
            simp only [Option.some.injEq, Addr.mk.injEq] at hA'
            obtain ⟨rfl, rfl, -⟩ := hA'
            have r0 := (HX.out.on HBM.out).c0
            rw [HA.out] at r0
            have d0 : wr.cell? ⟨b, off + k * 2, none⟩ = some (.bool np) := by rw [HBM.out.cell (p := ⟨b, off + k * 2, none⟩) HLT.out]; exact HD0.out
            have HYM : Hid (sameL (opp p) (ltAt c.lits m) = true → dullB ss c = true) := fun q => HY2.out (hasL_took hmt HKL.out q)
            have HNX2 : Hid (sameL (opp p) (ltAt c.lits m) = false → ∀ t, t < m + 1 → sameL (opp p) (ltAt c.lits t) = false) := by
              intro q t ht
              by_cases e : t = m
              · rw [e]; exact q
              · exact HNM.out t (by omega)
            obtain ⟨q, hq⟩ : ∃ q, q = ltAt c.lits m := ⟨_, rfl⟩
            rw [← hq] at e0 e1 hr4 HYM HNX2
            have HR4 := Lib.hid hr4
            have HR3 := Lib.hid (HRW.out.on HBM.out)
            have hj0 : (0 : Int) ≤ (m : Int) := by omega
            have hj3 : (m : Int) < (v.n1 : Int) := by omega
            clear hr4 hq hb'
            rw [sameL_opp, ← HNP.out] at HYM HNX2
            obtain ⟨nq, hnq⟩ : ∃ nq, nq = q.neg := ⟨_, rfl⟩
            rw [← hnq] at e0 HYM HNX2
            clear hnq
            go_wp2_with fail
            refine wp_region_held_drew (S := (fun w' => w'.cell? ⟨B, 0, none⟩ = some (.slice (some ⟨b, off, none⟩) v.n1 v.c1) ∧ w'.cell? ⟨b, off + k * 2, none⟩ = some (.bool np) ∧ w'.cell? ⟨b, off + m * 2, none⟩ = some (.bool nq) ∧ w'.cell? ⟨b, off + m * 2 + 1, none⟩ = some (.slice A4 q.atom.length c4))) (by kernel_rfl) ⟨r0, d0, e0, e1⟩ (fun hHeld => ?_)
            have hd : Below wr.heap.size wr wr.drew := (Below.refl wr.heap.size wr).drew
            have HBD := Lib.hid (HBM.out.trans (hd.mono HBM.out.size))
            have HR4d := Lib.hid (HR4.out.on hd)
            have HR3d := Lib.hid (HR3.out.on hd)
            clear hd
            cases np
            case false =>
              cases nq
              case false =>
                have HZ := Lib.hid (HNX2.out rfl)
                refine takeH (i := 0) (v := ?_) rfl rfl (by kernel_rfl) (by kernel_rfl) (by kernel_rfl) (fun _ _ _ h => h) (by rfl) ?_ hHeld ?_
                rotate_left
                · (intro w hSw; (try dsimp only at hSw); first | (go_simp; done) | (go_simp; with_reducible rfl))
                simp only [Act.put, List.setIfInBounds_toArray, List.set_cons_zero, List.set_cons_succ]
                refine takeH (i := 1) (v := ?_) rfl rfl (by kernel_rfl) (by kernel_rfl) (by kernel_rfl) (fun _ _ _ h => h) (by rfl) ?_ hHeld ?_
                rotate_left
                · (intro w hSw; (try dsimp only at hSw); first | (go_simp; done) | (go_simp; with_reducible rfl))
                simp only [Act.put, List.setIfInBounds_toArray, List.set_cons_zero, List.set_cons_succ]
                refine takeH (i := 2) (v := ?_) rfl rfl (by kernel_rfl) (by kernel_rfl) (by kernel_rfl) (fun _ _ _ h => h) (by rfl) ?_ hHeld ?_
                rotate_left
                · (intro w hSw; (try dsimp only at hSw); first | (go_simp; done) | (go_simp; with_reducible rfl))
                simp only [Act.put, List.setIfInBounds_toArray, List.set_cons_zero, List.set_cons_succ]
                refine takeH (i := 3) (v := ?_) rfl rfl (by kernel_rfl) (by kernel_rfl) (by kernel_rfl) (fun _ _ _ h => h) (by rfl) ?_ hHeld ?_
                rotate_left
                · (intro w hSw; (try dsimp only at hSw); first | (go_simp; done) | (go_simp; with_reducible rfl))
                simp only [Act.put, List.setIfInBounds_toArray, List.set_cons_zero, List.set_cons_succ]
                refine takeH (i := 4) (v := ?_) rfl rfl (by kernel_rfl) (by kernel_rfl) (by kernel_rfl) (fun _ _ _ h => h) (by rfl) ?_ hHeld ?_
                rotate_left
                · (intro w hSw; (try dsimp only at hSw); first | (go_simp; done) | (go_simp; with_reducible rfl))
                simp only [Act.put, List.setIfInBounds_toArray, List.set_cons_zero, List.set_cons_succ]
                refine takeH (i := 5) (v := ?_) rfl rfl (by kernel_rfl) (by kernel_rfl) (by kernel_rfl) (fun _ _ _ h => h) (by rfl) ?_ hHeld ?_
                rotate_left
                · (intro w hSw; (try dsimp only at hSw); first | (go_simp; done) | (go_simp; with_reducible rfl))
                simp only [Act.put, List.setIfInBounds_toArray, List.set_cons_zero, List.set_cons_succ]
                refine takeH (i := 6) (v := ?_) rfl rfl (by kernel_rfl) (by kernel_rfl) (by kernel_rfl) (fun _ _ _ h => h) (by rfl) ?_ hHeld ?_
                rotate_left
                · (intro w hSw; (try dsimp only at hSw); first | (go_simp; done) | (go_simp; with_reducible rfl))
                simp only [Act.put, List.setIfInBounds_toArray, List.set_cons_zero, List.set_cons_succ]
                refine takeH (i := 7) (v := ?_) rfl rfl (by kernel_rfl) (by kernel_rfl) (by kernel_rfl) (fun _ _ _ h => h) (by rfl) ?_ hHeld ?_
                rotate_left
                · (intro w hSw; (try dsimp only at hSw); first | (go_simp; done) | (go_simp; with_reducible rfl))
                simp only [Act.put, List.setIfInBounds_toArray, List.set_cons_zero, List.set_cons_succ]
                refine takeH (i := 8) (v := ?_) rfl rfl (by kernel_rfl) (by kernel_rfl) (by kernel_rfl) (fun _ _ _ h => h) (by rfl) ?_ hHeld ?_
                rotate_left
                · (intro w hSw; (try dsimp only at hSw); first | (go_simp; done) | (go_simp; with_reducible rfl))
                simp only [Act.put, List.setIfInBounds_toArray, List.set_cons_zero, List.set_cons_succ]
                refine takeH (i := 9) (v := ?_) rfl rfl (by kernel_rfl) (by kernel_rfl) (by kernel_rfl) (fun _ _ _ h => h) (by rfl) ?_ hHeld ?_
                rotate_left
                · (intro w hSw; (try dsimp only at hSw); first | (go_simp; done) | (go_simp; with_reducible rfl))
                simp only [Act.put, List.setIfInBounds_toArray, List.set_cons_zero, List.set_cons_succ]
                refine takeH (i := 10) (v := ?_) rfl rfl (by kernel_rfl) (by kernel_rfl) (by kernel_rfl) (fun _ _ _ h => h) (by rfl) ?_ hHeld ?_
                rotate_left
                · (intro w hSw; (try dsimp only at hSw); first | (go_simp; done) | (go_simp; with_reducible rfl))
                simp only [Act.put, List.setIfInBounds_toArray, List.set_cons_zero, List.set_cons_succ]
                refine takeH (i := 11) (v := ?_) rfl rfl (by kernel_rfl) (by kernel_rfl) (by kernel_rfl) (fun _ _ _ h => h) (by rfl) ?_ hHeld ?_
                rotate_left
                · (intro w hSw; (try dsimp only at hSw); first | (go_simp; done) | (go_simp; with_reducible rfl))
                simp only [Act.put, List.setIfInBounds_toArray, List.set_cons_zero, List.set_cons_succ]
                refine takeH (i := 12) (v := ?_) rfl rfl (by kernel_rfl) (by kernel_rfl) (by kernel_rfl) (fun _ _ _ h => h) (by rfl) ?_ hHeld ?_
                rotate_left
                · (intro w hSw; (try dsimp only at hSw); first | (go_simp; done) | (go_simp; with_reducible rfl))
                simp only [Act.put, List.setIfInBounds_toArray, List.set_cons_zero, List.set_cons_succ]
                refine takeH (i := 13) (v := ?_) rfl rfl (by kernel_rfl) (by kernel_rfl) (by kernel_rfl) (fun _ _ _ h => h) (by rfl) ?_ hHeld ?_
                rotate_left
                · (intro w hSw; (try dsimp only at hSw); first | (go_simp; done) | (go_simp; with_reducible rfl))
                simp only [Act.put, List.setIfInBounds_toArray, List.set_cons_zero, List.set_cons_succ]
                refine passH (i := 14) rfl rfl (by kernel_rfl) (by kernel_rfl) (by kernel_rfl) (fun _ _ _ h => h) (by rfl) hHeld ?_
                simp only [Act.put, List.setIfInBounds_toArray, List.set_cons_zero, List.set_cons_succ]
                refine passH (i := 15) rfl rfl (by kernel_rfl) (by kernel_rfl) (by kernel_rfl) (fun _ _ _ h => h) (by rfl) hHeld ?_
                simp only [Act.put, List.setIfInBounds_toArray, List.set_cons_zero, List.set_cons_succ]
                refine passH (i := 16) rfl rfl (by kernel_rfl) (by kernel_rfl) (by kernel_rfl) (fun _ _ _ h => h) (by rfl) hHeld ?_
                simp only [Act.put, List.setIfInBounds_toArray, List.set_cons_zero, List.set_cons_succ]
                refine passH (i := 17) rfl rfl (by kernel_rfl) (by kernel_rfl) (by kernel_rfl) (fun _ _ _ h => h) (by rfl) hHeld ?_
                simp only [Act.put, List.setIfInBounds_toArray, List.set_cons_zero, List.set_cons_succ]
                refine passH (i := 18) rfl rfl (by kernel_rfl) (by kernel_rfl) (by kernel_rfl) (fun _ _ _ h => h) (by rfl) hHeld ?_
                simp only [Act.put, List.setIfInBounds_toArray, List.set_cons_zero, List.set_cons_succ]
                refine passH (i := 19) rfl rfl (by kernel_rfl) (by kernel_rfl) (by kernel_rfl) (fun _ _ _ h => h) (by rfl) hHeld ?_
                simp only [Act.put, List.setIfInBounds_toArray, List.set_cons_zero, List.set_cons_succ]
                refine passH (i := 20) rfl rfl (by kernel_rfl) (by kernel_rfl) (by kernel_rfl) (fun _ _ _ h => h) (by rfl) hHeld ?_
                simp only [Act.put, List.setIfInBounds_toArray, List.set_cons_zero, List.set_cons_succ]
                refine passH (i := 21) rfl rfl (by kernel_rfl) (by kernel_rfl) (by kernel_rfl) (fun _ _ _ h => h) (by rfl) hHeld ?_
                simp only [Act.put, List.setIfInBounds_toArray, List.set_cons_zero, List.set_cons_succ]
                refine takeH (i := 22) (v := ?_) rfl rfl (by kernel_rfl) (by kernel_rfl) (by kernel_rfl) (fun _ _ _ h => h) (by rfl) ?_ hHeld ?_
                rotate_left
                · (intro w hSw; (try dsimp only at hSw); first | (go_simp; done) | (go_simp; with_reducible rfl))
                simp only [Act.put, List.setIfInBounds_toArray, List.set_cons_zero, List.set_cons_succ]
                refine wpAnyH_done (by kernel_rfl) ?_ _
                go_wp2
                go_roundw
                case rel => exact ⟨m + 1, by go_num, by omega, HZ.out, HBD.out⟩
                case measure => simp [intOf]; omega
              case true =>
                refine takeH (i := 0) (v := ?_) rfl rfl (by kernel_rfl) (by kernel_rfl) (by kernel_rfl) (fun _ _ _ h => h) (by rfl) ?_ hHeld ?_
                rotate_left
                · (intro w hSw; (try dsimp only at hSw); first | (go_simp; done) | (go_simp; with_reducible rfl))
                simp only [Act.put, List.setIfInBounds_toArray, List.set_cons_zero, List.set_cons_succ]
                refine takeH (i := 1) (v := ?_) rfl rfl (by kernel_rfl) (by kernel_rfl) (by kernel_rfl) (fun _ _ _ h => h) (by rfl) ?_ hHeld ?_
                rotate_left
                · (intro w hSw; (try dsimp only at hSw); first | (go_simp; done) | (go_simp; with_reducible rfl))
                simp only [Act.put, List.setIfInBounds_toArray, List.set_cons_zero, List.set_cons_succ]
                refine takeH (i := 2) (v := ?_) rfl rfl (by kernel_rfl) (by kernel_rfl) (by kernel_rfl) (fun _ _ _ h => h) (by rfl) ?_ hHeld ?_
                rotate_left
                · (intro w hSw; (try dsimp only at hSw); first | (go_simp; done) | (go_simp; with_reducible rfl))
                simp only [Act.put, List.setIfInBounds_toArray, List.set_cons_zero, List.set_cons_succ]
                refine takeH (i := 3) (v := ?_) rfl rfl (by kernel_rfl) (by kernel_rfl) (by kernel_rfl) (fun _ _ _ h => h) (by rfl) ?_ hHeld ?_
                rotate_left
                · (intro w hSw; (try dsimp only at hSw); first | (go_simp; done) | (go_simp; with_reducible rfl))
                simp only [Act.put, List.setIfInBounds_toArray, List.set_cons_zero, List.set_cons_succ]
                refine takeH (i := 4) (v := ?_) rfl rfl (by kernel_rfl) (by kernel_rfl) (by kernel_rfl) (fun _ _ _ h => h) (by rfl) ?_ hHeld ?_
                rotate_left
                · (intro w hSw; (try dsimp only at hSw); first | (go_simp; done) | (go_simp; with_reducible rfl))
                simp only [Act.put, List.setIfInBounds_toArray, List.set_cons_zero, List.set_cons_succ]
                refine takeH (i := 5) (v := ?_) rfl rfl (by kernel_rfl) (by kernel_rfl) (by kernel_rfl) (fun _ _ _ h => h) (by rfl) ?_ hHeld ?_
                rotate_left
                · (intro w hSw; (try dsimp only at hSw); first | (go_simp; done) | (go_simp; with_reducible rfl))
                simp only [Act.put, List.setIfInBounds_toArray, List.set_cons_zero, List.set_cons_succ]
                refine takeH (i := 6) (v := ?_) rfl rfl (by kernel_rfl) (by kernel_rfl) (by kernel_rfl) (fun _ _ _ h => h) (by rfl) ?_ hHeld ?_
                rotate_left
                · (intro w hSw; (try dsimp only at hSw); first | (go_simp; done) | (go_simp; with_reducible rfl))
                simp only [Act.put, List.setIfInBounds_toArray, List.set_cons_zero, List.set_cons_succ]
                refine takeH (i := 7) (v := ?_) rfl rfl (by kernel_rfl) (by kernel_rfl) (by kernel_rfl) (fun _ _ _ h => h) (by rfl) ?_ hHeld ?_
                rotate_left
                · (intro w hSw; (try dsimp only at hSw); first | (go_simp; done) | (go_simp; with_reducible rfl))
                simp only [Act.put, List.setIfInBounds_toArray, List.set_cons_zero, List.set_cons_succ]
                refine takeH (i := 8) (v := ?_) rfl rfl (by kernel_rfl) (by kernel_rfl) (by kernel_rfl) (fun _ _ _ h => h) (by rfl) ?_ hHeld ?_
                rotate_left
                · (intro w hSw; (try dsimp only at hSw); first | (go_simp; done) | (go_simp; with_reducible rfl))
                simp only [Act.put, List.setIfInBounds_toArray, List.set_cons_zero, List.set_cons_succ]
                refine takeH (i := 9) (v := ?_) rfl rfl (by kernel_rfl) (by kernel_rfl) (by kernel_rfl) (fun _ _ _ h => h) (by rfl) ?_ hHeld ?_
                rotate_left
                · (intro w hSw; (try dsimp only at hSw); first | (go_simp; done) | (go_simp; with_reducible rfl))
                simp only [Act.put, List.setIfInBounds_toArray, List.set_cons_zero, List.set_cons_succ]
                refine takeH (i := 10) (v := ?_) rfl rfl (by kernel_rfl) (by kernel_rfl) (by kernel_rfl) (fun _ _ _ h => h) (by rfl) ?_ hHeld ?_
                rotate_left
                · (intro w hSw; (try dsimp only at hSw); first | (go_simp; done) | (go_simp; with_reducible rfl))
                simp only [Act.put, List.setIfInBounds_toArray, List.set_cons_zero, List.set_cons_succ]
                refine takeH (i := 11) (v := ?_) rfl rfl (by kernel_rfl) (by kernel_rfl) (by kernel_rfl) (fun _ _ _ h => h) (by rfl) ?_ hHeld ?_
                rotate_left
                · (intro w hSw; (try dsimp only at hSw); first | (go_simp; done) | (go_simp; with_reducible rfl))
                simp only [Act.put, List.setIfInBounds_toArray, List.set_cons_zero, List.set_cons_succ]
                refine takeH (i := 12) (v := ?_) rfl rfl (by kernel_rfl) (by kernel_rfl) (by kernel_rfl) (fun _ _ _ h => h) (by rfl) ?_ hHeld ?_
                rotate_left
                · (intro w hSw; (try dsimp only at hSw); first | (go_simp; done) | (go_simp; with_reducible rfl))
                simp only [Act.put, List.setIfInBounds_toArray, List.set_cons_zero, List.set_cons_succ]
                refine takeH (i := 13) (v := ?_) rfl rfl (by kernel_rfl) (by kernel_rfl) (by kernel_rfl) (fun _ _ _ h => h) (by rfl) ?_ hHeld ?_
                rotate_left
                · (intro w hSw; (try dsimp only at hSw); first | (go_simp; done) | (go_simp; with_reducible rfl))
                simp only [Act.put, List.setIfInBounds_toArray, List.set_cons_zero, List.set_cons_succ]
                refine takeH (i := 14) (v := ?_) rfl rfl (by kernel_rfl) (by kernel_rfl) (by kernel_rfl) (fun _ _ _ h => h) (by rfl) ?_ hHeld ?_
                rotate_left
                · (intro w hSw; (try dsimp only at hSw); first | (go_simp; done) | (go_simp; with_reducible rfl))
                simp only [Act.put, List.setIfInBounds_toArray, List.set_cons_zero, List.set_cons_succ]
                refine takeH (i := 15) (v := ?_) rfl rfl (by kernel_rfl) (by kernel_rfl) (by kernel_rfl) (fun _ _ _ h => h) (by rfl) ?_ hHeld ?_
                rotate_left
                · (intro w hSw; (try dsimp only at hSw); first | (go_simp; done) | (go_simp; with_reducible rfl))
                simp only [Act.put, List.setIfInBounds_toArray, List.set_cons_zero, List.set_cons_succ]
                refine takeH (i := 16) (v := ?_) rfl rfl (by kernel_rfl) (by kernel_rfl) (by kernel_rfl) (fun _ _ _ h => h) (by rfl) ?_ hHeld ?_
                rotate_left
                · (intro w hSw; (try dsimp only at hSw); first | (go_simp; done) | (go_simp; with_reducible rfl))
                simp only [Act.put, List.setIfInBounds_toArray, List.set_cons_zero, List.set_cons_succ]
                refine takeH (i := 17) (v := ?_) rfl rfl (by kernel_rfl) (by kernel_rfl) (by kernel_rfl) (fun _ _ _ h => h) (by rfl) ?_ hHeld ?_
                rotate_left
                · (intro w hSw; (try dsimp only at hSw); first | (go_simp; done) | (go_simp; with_reducible rfl))
                simp only [Act.put, List.setIfInBounds_toArray, List.set_cons_zero, List.set_cons_succ]
                refine takeH (i := 18) (v := ?_) rfl rfl (by kernel_rfl) (by kernel_rfl) (by kernel_rfl) (fun _ _ _ h => h) (by rfl) ?_ hHeld ?_
                rotate_left
                · (intro w hSw; (try dsimp only at hSw); first | (go_simp; done) | (go_simp; with_reducible rfl))
                simp only [Act.put, List.setIfInBounds_toArray, List.set_cons_zero, List.set_cons_succ]
                refine takeH (i := 19) (v := ?_) rfl rfl (by kernel_rfl) (by kernel_rfl) (by kernel_rfl) (fun _ _ _ h => h) (by rfl) ?_ hHeld ?_
                rotate_left
                · (intro w hSw; (try dsimp only at hSw); first | (go_simp; done) | (go_simp; with_reducible rfl))
                simp only [Act.put, List.setIfInBounds_toArray, List.set_cons_zero, List.set_cons_succ]
                refine takeH (i := 20) (v := ?_) rfl rfl (by kernel_rfl) (by kernel_rfl) (by kernel_rfl) (fun _ _ _ h => h) (by rfl) ?_ hHeld ?_
                rotate_left
                · (intro w hSw; (try dsimp only at hSw); first | (go_simp; done) | (go_simp; with_reducible rfl))
                simp only [Act.put, List.setIfInBounds_toArray, List.set_cons_zero, List.set_cons_succ]
                refine wpAnyH_ready (rs := [21]) (by kernel_rfl) (by simp) ?_
                refine AllReadyH.cons rfl (fun K hK => ?_) AllReadyH.nil
                go_simp
                refine (refSame_any A4 A3 _ c4 _ c3 _ _ q.atom p.atom _ HR4d.out.at_ HR3d.out.at_ HR4d.out.row.big HR3d.out.row.big).mono ?_
                rintro e w5 ⟨rfl, hb5⟩
                have HB5 := Lib.hid (HBD.out.trans (hb5.mono HBD.out.size))
                have r0' : w5.cell? ⟨B, 0, none⟩ = some (.slice (some ⟨b, off, none⟩) v.n1 v.c1) := by have := (HX.out.on HB5.out).c0; rw [HA.out] at this; exact this
                have d0' : w5.cell? ⟨b, off + k * 2, none⟩ = some (.bool false) := by rw [HB5.out.cell (p := ⟨b, off + k * 2, none⟩) HLT.out]; exact HD0.out
                have e0' : w5.cell? ⟨b, off + m * 2, none⟩ = some (.bool true) := by rw [hb5.cell (p := ⟨b, off + m * 2, none⟩) (Nat.lt_of_lt_of_le HLT.out HBD.out.size)]; exact e0
                have e1' : w5.cell? ⟨b, off + m * 2 + 1, none⟩ = some (.slice A4 q.atom.length c4) := by rw [hb5.cell (p := ⟨b, off + m * 2 + 1, none⟩) (Nat.lt_of_lt_of_le HLT.out HBD.out.size)]; exact e1
                clear hb5
                cases hsm : sameI q.atom p.atom
                · rw [hsm] at HNX2
                  have HZ := Lib.hid (HNX2.out rfl)
                  clear hsm
                  go_wp2_with fail
                  refine hK.out _ _ ?_ (fun hHeld => ?_)
                  · exact ⟨r0', d0', e0', e1'⟩
                  clear hK K
                  refine takeH (i := 22) (v := ?_) rfl rfl (by kernel_rfl) (by kernel_rfl) (by kernel_rfl) (fun _ _ _ h => h) (by rfl) ?_ hHeld ?_
                  rotate_left
                  · (intro w hSw; (try dsimp only at hSw); first | (go_simp; done) | (go_simp; with_reducible rfl))
                  simp only [Act.put, List.setIfInBounds_toArray, List.set_cons_zero, List.set_cons_succ]
                  refine wpAnyH_done (by kernel_rfl) ?_ _
                  go_wp2
                  go_roundw
                  case rel => exact ⟨m + 1, by go_num, by omega, HZ.out, HB5.out⟩
                  case measure => simp [intOf]; omega
                · rw [hsm] at HYM
                  have HZ := Lib.hid (HYM.out rfl)
                  clear hsm
                  go_wp2_with fail
                  refine hK.out _ _ ?_ (fun hHeld => ?_)
                  · exact ⟨r0', d0', e0', e1'⟩
                  clear hK K
                  refine takeH (i := 22) (v := ?_) rfl rfl (by kernel_rfl) (by kernel_rfl) (by kernel_rfl) (fun _ _ _ h => h) (by rfl) ?_ hHeld ?_
                  rotate_left
                  · (intro w hSw; (try dsimp only at hSw); first | (go_simp; done) | (go_simp; with_reducible rfl))
                  simp only [Act.put, List.setIfInBounds_toArray, List.set_cons_zero, List.set_cons_succ]
                  refine wpAnyH_done (by kernel_rfl) ?_ _
                  go_wp2
                  go_ret
                  exact ⟨ret_b HZ.out.symm, HB0.out.trans (HB5.out.mono HB0.out.size)⟩
            case true =>
              cases nq
              case false =>
                refine takeH (i := 0) (v := ?_) rfl rfl (by kernel_rfl) (by kernel_rfl) (by kernel_rfl) (fun _ _ _ h => h) (by rfl) ?_ hHeld ?_
                rotate_left
                · (intro w hSw; (try dsimp only at hSw); first | (go_simp; done) | (go_simp; with_reducible rfl))
                simp only [Act.put, List.setIfInBounds_toArray, List.set_cons_zero, List.set_cons_succ]
                refine takeH (i := 1) (v := ?_) rfl rfl (by kernel_rfl) (by kernel_rfl) (by kernel_rfl) (fun _ _ _ h => h) (by rfl) ?_ hHeld ?_
                rotate_left
                · (intro w hSw; (try dsimp only at hSw); first | (go_simp; done) | (go_simp; with_reducible rfl))
                simp only [Act.put, List.setIfInBounds_toArray, List.set_cons_zero, List.set_cons_succ]
                refine takeH (i := 2) (v := ?_) rfl rfl (by kernel_rfl) (by kernel_rfl) (by kernel_rfl) (fun _ _ _ h => h) (by rfl) ?_ hHeld ?_
                rotate_left
                · (intro w hSw; (try dsimp only at hSw); first | (go_simp; done) | (go_simp; with_reducible rfl))
                simp only [Act.put, List.setIfInBounds_toArray, List.set_cons_zero, List.set_cons_succ]
                refine takeH (i := 3) (v := ?_) rfl rfl (by kernel_rfl) (by kernel_rfl) (by kernel_rfl) (fun _ _ _ h => h) (by rfl) ?_ hHeld ?_
                rotate_left
                · (intro w hSw; (try dsimp only at hSw); first | (go_simp; done) | (go_simp; with_reducible rfl))
                simp only [Act.put, List.setIfInBounds_toArray, List.set_cons_zero, List.set_cons_succ]
                refine takeH (i := 4) (v := ?_) rfl rfl (by kernel_rfl) (by kernel_rfl) (by kernel_rfl) (fun _ _ _ h => h) (by rfl) ?_ hHeld ?_
                rotate_left
                · (intro w hSw; (try dsimp only at hSw); first | (go_simp; done) | (go_simp; with_reducible rfl))
                simp only [Act.put, List.setIfInBounds_toArray, List.set_cons_zero, List.set_cons_succ]
                refine takeH (i := 5) (v := ?_) rfl rfl (by kernel_rfl) (by kernel_rfl) (by kernel_rfl) (fun _ _ _ h => h) (by rfl) ?_ hHeld ?_
                rotate_left
                · (intro w hSw; (try dsimp only at hSw); first | (go_simp; done) | (go_simp; with_reducible rfl))
                simp only [Act.put, List.setIfInBounds_toArray, List.set_cons_zero, List.set_cons_succ]
                refine takeH (i := 6) (v := ?_) rfl rfl (by kernel_rfl) (by kernel_rfl) (by kernel_rfl) (fun _ _ _ h => h) (by rfl) ?_ hHeld ?_
                rotate_left
                · (intro w hSw; (try dsimp only at hSw); first | (go_simp; done) | (go_simp; with_reducible rfl))
                simp only [Act.put, List.setIfInBounds_toArray, List.set_cons_zero, List.set_cons_succ]
                refine takeH (i := 7) (v := ?_) rfl rfl (by kernel_rfl) (by kernel_rfl) (by kernel_rfl) (fun _ _ _ h => h) (by rfl) ?_ hHeld ?_
                rotate_left
                · (intro w hSw; (try dsimp only at hSw); first | (go_simp; done) | (go_simp; with_reducible rfl))
                simp only [Act.put, List.setIfInBounds_toArray, List.set_cons_zero, List.set_cons_succ]
                refine takeH (i := 8) (v := ?_) rfl rfl (by kernel_rfl) (by kernel_rfl) (by kernel_rfl) (fun _ _ _ h => h) (by rfl) ?_ hHeld ?_
                rotate_left
                · (intro w hSw; (try dsimp only at hSw); first | (go_simp; done) | (go_simp; with_reducible rfl))
                simp only [Act.put, List.setIfInBounds_toArray, List.set_cons_zero, List.set_cons_succ]
                refine takeH (i := 9) (v := ?_) rfl rfl (by kernel_rfl) (by kernel_rfl) (by kernel_rfl) (fun _ _ _ h => h) (by rfl) ?_ hHeld ?_
                rotate_left
                · (intro w hSw; (try dsimp only at hSw); first | (go_simp; done) | (go_simp; with_reducible rfl))
                simp only [Act.put, List.setIfInBounds_toArray, List.set_cons_zero, List.set_cons_succ]
                refine takeH (i := 10) (v := ?_) rfl rfl (by kernel_rfl) (by kernel_rfl) (by kernel_rfl) (fun _ _ _ h => h) (by rfl) ?_ hHeld ?_
                rotate_left
                · (intro w hSw; (try dsimp only at hSw); first | (go_simp; done) | (go_simp; with_reducible rfl))
                simp only [Act.put, List.setIfInBounds_toArray, List.set_cons_zero, List.set_cons_succ]
                refine takeH (i := 11) (v := ?_) rfl rfl (by kernel_rfl) (by kernel_rfl) (by kernel_rfl) (fun _ _ _ h => h) (by rfl) ?_ hHeld ?_
                rotate_left
                · (intro w hSw; (try dsimp only at hSw); first | (go_simp; done) | (go_simp; with_reducible rfl))
                simp only [Act.put, List.setIfInBounds_toArray, List.set_cons_zero, List.set_cons_succ]
                refine takeH (i := 12) (v := ?_) rfl rfl (by kernel_rfl) (by kernel_rfl) (by kernel_rfl) (fun _ _ _ h => h) (by rfl) ?_ hHeld ?_
                rotate_left
                · (intro w hSw; (try dsimp only at hSw); first | (go_simp; done) | (go_simp; with_reducible rfl))
                simp only [Act.put, List.setIfInBounds_toArray, List.set_cons_zero, List.set_cons_succ]
                refine takeH (i := 13) (v := ?_) rfl rfl (by kernel_rfl) (by kernel_rfl) (by kernel_rfl) (fun _ _ _ h => h) (by rfl) ?_ hHeld ?_
                rotate_left
                · (intro w hSw; (try dsimp only at hSw); first | (go_simp; done) | (go_simp; with_reducible rfl))
                simp only [Act.put, List.setIfInBounds_toArray, List.set_cons_zero, List.set_cons_succ]
                refine takeH (i := 14) (v := ?_) rfl rfl (by kernel_rfl) (by kernel_rfl) (by kernel_rfl) (fun _ _ _ h => h) (by rfl) ?_ hHeld ?_
                rotate_left
                · (intro w hSw; (try dsimp only at hSw); first | (go_simp; done) | (go_simp; with_reducible rfl))
                simp only [Act.put, List.setIfInBounds_toArray, List.set_cons_zero, List.set_cons_succ]
                refine takeH (i := 15) (v := ?_) rfl rfl (by kernel_rfl) (by kernel_rfl) (by kernel_rfl) (fun _ _ _ h => h) (by rfl) ?_ hHeld ?_
                rotate_left
                · (intro w hSw; (try dsimp only at hSw); first | (go_simp; done) | (go_simp; with_reducible rfl))
                simp only [Act.put, List.setIfInBounds_toArray, List.set_cons_zero, List.set_cons_succ]
                refine takeH (i := 16) (v := ?_) rfl rfl (by kernel_rfl) (by kernel_rfl) (by kernel_rfl) (fun _ _ _ h => h) (by rfl) ?_ hHeld ?_
                rotate_left
                · (intro w hSw; (try dsimp only at hSw); first | (go_simp; done) | (go_simp; with_reducible rfl))
                simp only [Act.put, List.setIfInBounds_toArray, List.set_cons_zero, List.set_cons_succ]
                refine takeH (i := 17) (v := ?_) rfl rfl (by kernel_rfl) (by kernel_rfl) (by kernel_rfl) (fun _ _ _ h => h) (by rfl) ?_ hHeld ?_
                rotate_left
                · (intro w hSw; (try dsimp only at hSw); first | (go_simp; done) | (go_simp; with_reducible rfl))
                simp only [Act.put, List.setIfInBounds_toArray, List.set_cons_zero, List.set_cons_succ]
                refine takeH (i := 18) (v := ?_) rfl rfl (by kernel_rfl) (by kernel_rfl) (by kernel_rfl) (fun _ _ _ h => h) (by rfl) ?_ hHeld ?_
                rotate_left
                · (intro w hSw; (try dsimp only at hSw); first | (go_simp; done) | (go_simp; with_reducible rfl))
                simp only [Act.put, List.setIfInBounds_toArray, List.set_cons_zero, List.set_cons_succ]
                refine takeH (i := 19) (v := ?_) rfl rfl (by kernel_rfl) (by kernel_rfl) (by kernel_rfl) (fun _ _ _ h => h) (by rfl) ?_ hHeld ?_
                rotate_left
                · (intro w hSw; (try dsimp only at hSw); first | (go_simp; done) | (go_simp; with_reducible rfl))
                simp only [Act.put, List.setIfInBounds_toArray, List.set_cons_zero, List.set_cons_succ]
                refine takeH (i := 20) (v := ?_) rfl rfl (by kernel_rfl) (by kernel_rfl) (by kernel_rfl) (fun _ _ _ h => h) (by rfl) ?_ hHeld ?_
                rotate_left
                · (intro w hSw; (try dsimp only at hSw); first | (go_simp; done) | (go_simp; with_reducible rfl))
                simp only [Act.put, List.setIfInBounds_toArray, List.set_cons_zero, List.set_cons_succ]
                refine wpAnyH_ready (rs := [21]) (by kernel_rfl) (by simp) ?_
                refine AllReadyH.cons rfl (fun K hK => ?_) AllReadyH.nil
                go_simp
                refine (refSame_any A4 A3 _ c4 _ c3 _ _ q.atom p.atom _ HR4d.out.at_ HR3d.out.at_ HR4d.out.row.big HR3d.out.row.big).mono ?_
                rintro e w5 ⟨rfl, hb5⟩
                have HB5 := Lib.hid (HBD.out.trans (hb5.mono HBD.out.size))
                have r0' : w5.cell? ⟨B, 0, none⟩ = some (.slice (some ⟨b, off, none⟩) v.n1 v.c1) := by have := (HX.out.on HB5.out).c0; rw [HA.out] at this; exact this
                have d0' : w5.cell? ⟨b, off + k * 2, none⟩ = some (.bool true) := by rw [HB5.out.cell (p := ⟨b, off + k * 2, none⟩) HLT.out]; exact HD0.out
                have e0' : w5.cell? ⟨b, off + m * 2, none⟩ = some (.bool false) := by rw [hb5.cell (p := ⟨b, off + m * 2, none⟩) (Nat.lt_of_lt_of_le HLT.out HBD.out.size)]; exact e0
                have e1' : w5.cell? ⟨b, off + m * 2 + 1, none⟩ = some (.slice A4 q.atom.length c4) := by rw [hb5.cell (p := ⟨b, off + m * 2 + 1, none⟩) (Nat.lt_of_lt_of_le HLT.out HBD.out.size)]; exact e1
                clear hb5
                cases hsm : sameI q.atom p.atom
                · rw [hsm] at HNX2
                  have HZ := Lib.hid (HNX2.out rfl)
                  clear hsm
                  go_wp2_with fail
                  refine hK.out _ _ ?_ (fun hHeld => ?_)
                  · exact ⟨r0', d0', e0', e1'⟩
                  clear hK K
                  refine takeH (i := 22) (v := ?_) rfl rfl (by kernel_rfl) (by kernel_rfl) (by kernel_rfl) (fun _ _ _ h => h) (by rfl) ?_ hHeld ?_
                  rotate_left
                  · (intro w hSw; (try dsimp only at hSw); first | (go_simp; done) | (go_simp; with_reducible rfl))
                  simp only [Act.put, List.setIfInBounds_toArray, List.set_cons_zero, List.set_cons_succ]
                  refine wpAnyH_done (by kernel_rfl) ?_ _
                  go_wp2
                  go_roundw
                  case rel => exact ⟨m + 1, by go_num, by omega, HZ.out, HB5.out⟩
                  case measure => simp [intOf]; omega
                · rw [hsm] at HYM
                  have HZ := Lib.hid (HYM.out rfl)
                  clear hsm
                  go_wp2_with fail
                  refine hK.out _ _ ?_ (fun hHeld => ?_)
                  · exact ⟨r0', d0', e0', e1'⟩
                  clear hK K
                  refine takeH (i := 22) (v := ?_) rfl rfl (by kernel_rfl) (by kernel_rfl) (by kernel_rfl) (fun _ _ _ h => h) (by rfl) ?_ hHeld ?_
                  rotate_left
                  · (intro w hSw; (try dsimp only at hSw); first | (go_simp; done) | (go_simp; with_reducible rfl))
                  simp only [Act.put, List.setIfInBounds_toArray, List.set_cons_zero, List.set_cons_succ]
                  refine wpAnyH_done (by kernel_rfl) ?_ _
                  go_wp2
                  go_ret
                  exact ⟨ret_b HZ.out.symm, HB0.out.trans (HB5.out.mono HB0.out.size)⟩
              case true =>
                have HZ := Lib.hid (HNX2.out rfl)
                refine takeH (i := 0) (v := ?_) rfl rfl (by kernel_rfl) (by kernel_rfl) (by kernel_rfl) (fun _ _ _ h => h) (by rfl) ?_ hHeld ?_
                rotate_left
                · (intro w hSw; (try dsimp only at hSw); first | (go_simp; done) | (go_simp; with_reducible rfl))
                simp only [Act.put, List.setIfInBounds_toArray, List.set_cons_zero, List.set_cons_succ]
                refine takeH (i := 1) (v := ?_) rfl rfl (by kernel_rfl) (by kernel_rfl) (by kernel_rfl) (fun _ _ _ h => h) (by rfl) ?_ hHeld ?_
                rotate_left
                · (intro w hSw; (try dsimp only at hSw); first | (go_simp; done) | (go_simp; with_reducible rfl))
                simp only [Act.put, List.setIfInBounds_toArray, List.set_cons_zero, List.set_cons_succ]
                refine takeH (i := 2) (v := ?_) rfl rfl (by kernel_rfl) (by kernel_rfl) (by kernel_rfl) (fun _ _ _ h => h) (by rfl) ?_ hHeld ?_
                rotate_left
                · (intro w hSw; (try dsimp only at hSw); first | (go_simp; done) | (go_simp; with_reducible rfl))
                simp only [Act.put, List.setIfInBounds_toArray, List.set_cons_zero, List.set_cons_succ]
                refine takeH (i := 3) (v := ?_) rfl rfl (by kernel_rfl) (by kernel_rfl) (by kernel_rfl) (fun _ _ _ h => h) (by rfl) ?_ hHeld ?_
                rotate_left
                · (intro w hSw; (try dsimp only at hSw); first | (go_simp; done) | (go_simp; with_reducible rfl))
                simp only [Act.put, List.setIfInBounds_toArray, List.set_cons_zero, List.set_cons_succ]
                refine takeH (i := 4) (v := ?_) rfl rfl (by kernel_rfl) (by kernel_rfl) (by kernel_rfl) (fun _ _ _ h => h) (by rfl) ?_ hHeld ?_
                rotate_left
                · (intro w hSw; (try dsimp only at hSw); first | (go_simp; done) | (go_simp; with_reducible rfl))
                simp only [Act.put, List.setIfInBounds_toArray, List.set_cons_zero, List.set_cons_succ]
                refine takeH (i := 5) (v := ?_) rfl rfl (by kernel_rfl) (by kernel_rfl) (by kernel_rfl) (fun _ _ _ h => h) (by rfl) ?_ hHeld ?_
                rotate_left
                · (intro w hSw; (try dsimp only at hSw); first | (go_simp; done) | (go_simp; with_reducible rfl))
                simp only [Act.put, List.setIfInBounds_toArray, List.set_cons_zero, List.set_cons_succ]
                refine takeH (i := 6) (v := ?_) rfl rfl (by kernel_rfl) (by kernel_rfl) (by kernel_rfl) (fun _ _ _ h => h) (by rfl) ?_ hHeld ?_
                rotate_left
                · (intro w hSw; (try dsimp only at hSw); first | (go_simp; done) | (go_simp; with_reducible rfl))
                simp only [Act.put, List.setIfInBounds_toArray, List.set_cons_zero, List.set_cons_succ]
                refine takeH (i := 7) (v := ?_) rfl rfl (by kernel_rfl) (by kernel_rfl) (by kernel_rfl) (fun _ _ _ h => h) (by rfl) ?_ hHeld ?_
                rotate_left
                · (intro w hSw; (try dsimp only at hSw); first | (go_simp; done) | (go_simp; with_reducible rfl))
                simp only [Act.put, List.setIfInBounds_toArray, List.set_cons_zero, List.set_cons_succ]
                refine takeH (i := 8) (v := ?_) rfl rfl (by kernel_rfl) (by kernel_rfl) (by kernel_rfl) (fun _ _ _ h => h) (by rfl) ?_ hHeld ?_
                rotate_left
                · (intro w hSw; (try dsimp only at hSw); first | (go_simp; done) | (go_simp; with_reducible rfl))
                simp only [Act.put, List.setIfInBounds_toArray, List.set_cons_zero, List.set_cons_succ]
                refine takeH (i := 9) (v := ?_) rfl rfl (by kernel_rfl) (by kernel_rfl) (by kernel_rfl) (fun _ _ _ h => h) (by rfl) ?_ hHeld ?_
                rotate_left
                · (intro w hSw; (try dsimp only at hSw); first | (go_simp; done) | (go_simp; with_reducible rfl))
                simp only [Act.put, List.setIfInBounds_toArray, List.set_cons_zero, List.set_cons_succ]
                refine takeH (i := 10) (v := ?_) rfl rfl (by kernel_rfl) (by kernel_rfl) (by kernel_rfl) (fun _ _ _ h => h) (by rfl) ?_ hHeld ?_
                rotate_left
                · (intro w hSw; (try dsimp only at hSw); first | (go_simp; done) | (go_simp; with_reducible rfl))
                simp only [Act.put, List.setIfInBounds_toArray, List.set_cons_zero, List.set_cons_succ]
                refine takeH (i := 11) (v := ?_) rfl rfl (by kernel_rfl) (by kernel_rfl) (by kernel_rfl) (fun _ _ _ h => h) (by rfl) ?_ hHeld ?_
                rotate_left
                · (intro w hSw; (try dsimp only at hSw); first | (go_simp; done) | (go_simp; with_reducible rfl))
                simp only [Act.put, List.setIfInBounds_toArray, List.set_cons_zero, List.set_cons_succ]
                refine takeH (i := 12) (v := ?_) rfl rfl (by kernel_rfl) (by kernel_rfl) (by kernel_rfl) (fun _ _ _ h => h) (by rfl) ?_ hHeld ?_
                rotate_left
                · (intro w hSw; (try dsimp only at hSw); first | (go_simp; done) | (go_simp; with_reducible rfl))
                simp only [Act.put, List.setIfInBounds_toArray, List.set_cons_zero, List.set_cons_succ]
                refine takeH (i := 13) (v := ?_) rfl rfl (by kernel_rfl) (by kernel_rfl) (by kernel_rfl) (fun _ _ _ h => h) (by rfl) ?_ hHeld ?_
                rotate_left
                · (intro w hSw; (try dsimp only at hSw); first | (go_simp; done) | (go_simp; with_reducible rfl))
                simp only [Act.put, List.setIfInBounds_toArray, List.set_cons_zero, List.set_cons_succ]
                refine passH (i := 14) rfl rfl (by kernel_rfl) (by kernel_rfl) (by kernel_rfl) (fun _ _ _ h => h) (by rfl) hHeld ?_
                simp only [Act.put, List.setIfInBounds_toArray, List.set_cons_zero, List.set_cons_succ]
                refine passH (i := 15) rfl rfl (by kernel_rfl) (by kernel_rfl) (by kernel_rfl) (fun _ _ _ h => h) (by rfl) hHeld ?_
                simp only [Act.put, List.setIfInBounds_toArray, List.set_cons_zero, List.set_cons_succ]
                refine passH (i := 16) rfl rfl (by kernel_rfl) (by kernel_rfl) (by kernel_rfl) (fun _ _ _ h => h) (by rfl) hHeld ?_
                simp only [Act.put, List.setIfInBounds_toArray, List.set_cons_zero, List.set_cons_succ]
                refine passH (i := 17) rfl rfl (by kernel_rfl) (by kernel_rfl) (by kernel_rfl) (fun _ _ _ h => h) (by rfl) hHeld ?_
                simp only [Act.put, List.setIfInBounds_toArray, List.set_cons_zero, List.set_cons_succ]
                refine passH (i := 18) rfl rfl (by kernel_rfl) (by kernel_rfl) (by kernel_rfl) (fun _ _ _ h => h) (by rfl) hHeld ?_
                simp only [Act.put, List.setIfInBounds_toArray, List.set_cons_zero, List.set_cons_succ]
                refine passH (i := 19) rfl rfl (by kernel_rfl) (by kernel_rfl) (by kernel_rfl) (fun _ _ _ h => h) (by rfl) hHeld ?_
                simp only [Act.put, List.setIfInBounds_toArray, List.set_cons_zero, List.set_cons_succ]
                refine passH (i := 20) rfl rfl (by kernel_rfl) (by kernel_rfl) (by kernel_rfl) (fun _ _ _ h => h) (by rfl) hHeld ?_
                simp only [Act.put, List.setIfInBounds_toArray, List.set_cons_zero, List.set_cons_succ]
                refine passH (i := 21) rfl rfl (by kernel_rfl) (by kernel_rfl) (by kernel_rfl) (fun _ _ _ h => h) (by rfl) hHeld ?_
                simp only [Act.put, List.setIfInBounds_toArray, List.set_cons_zero, List.set_cons_succ]
                refine takeH (i := 22) (v := ?_) rfl rfl (by kernel_rfl) (by kernel_rfl) (by kernel_rfl) (fun _ _ _ h => h) (by rfl) ?_ hHeld ?_
                rotate_left
                · (intro w hSw; (try dsimp only at hSw); first | (go_simp; done) | (go_simp; with_reducible rfl))
                simp only [Act.put, List.setIfInBounds_toArray, List.set_cons_zero, List.set_cons_succ]
                refine wpAnyH_done (by kernel_rfl) ?_ _
                go_wp2
                go_roundw
                case rel => exact ⟨m + 1, by go_num, by omega, HZ.out, HBD.out⟩
                case measure => simp [intOf]; omega
          · obtain rfl : k = m := by omega
            have HZ := Lib.hid (HNX.out HID.out (hasL_take HKL.out HNM.out))
            go_wp2
            go_roundw
            case rel => exact ⟨k + 1, by go_num, by omega, HZ.out, HBM.out⟩
            case measure => simp [intOf]; omega
    · obtain rfl : k = v.n1 := by omega
      have HZ : Hid (dullB ss c = false) := dull_no fun i hi => HNO.out i (by rw [HL.out] at hi; exact hi)
      go_wp2
      go_ret
      exact ⟨ret_b HZ.out.symm, HB0.out.trans (HBI.out.mono HB0.out.size)⟩
end Go.Proofs.Ytpblpndlajoebaa

namespace Go.Proofs.Ytpblpndlajoebaa
open Go.RowKit Go.Deep
set_option linter.unusedSimpArgs false
set_option linter.unusedVariables false
set_option maxRecDepth 100000

set_option maxHeartbeats 2000000 in
theorem refTrivialC_any (A : Option Addr) (n cp : Nat) (ss : List Sym) (v : Cv) (c : Cl) (w : World) (h : SymsAt w w.heap.size A n ss) (hn : n ≤ maxLen) (hnc : n ≤ cp) (hc : ClAt w w.heap.size v c) :
    Calls Try.prog 15 #[.slice A n cp, v.val] w (BoolPost (dullO ss c) (clE ss c) w) := by
  have HWO : Hid (dullO ss c = (mayC ss c && dullB ss c)) := rfl
  have hb0 := below_new w v.obj
  have hx0 := CBox.new hc
  have hs0 := h.on hb0
  have HMC : Hid (mayC ss c = true → MayC ss c) := fun q => mayC_iff.1 q
  have HNE : Hid (clE ss c = if mayC ss c then 0 else 800) := rfl
  rw [Cv.val_eq]
  have HVE := Lib.hid v.val_eq
  unfold Cv.obj at hb0 hx0 hs0
  have HX := Lib.hid hx0
  have HS := Lib.hid hs0
  have HB0 := Lib.hid hb0
  clear h hc hb0 hx0 hs0
  go_enter Try.func15, Try.ntmps15
  go_wp2_with fail
  rw [← HVE.out]
  refine (refMayC_any A n cp ss v c _ HS.out hn hnc HX.out.cl).mono ?_
  rintro e w1 ⟨rfl, hb1⟩
  have HB1 := Lib.hid (HB0.out.trans (hb1.mono HB0.out.size))
  replace HX := Lib.hid (HX.out.on hb1)
  replace HS := Lib.hid (HS.out.on hb1)
  clear hb1 HB0
  have p0 := HX.out.c0
  have p1 := HX.out.c1
  have p2 := HX.out.c2
  obtain ⟨B, hB⟩ : ∃ B, B = w.heap.size := ⟨_, rfl⟩
  rw [← hB] at HX p0 p1 p2 ⊢
  have HBH := Lib.hid hB
  clear hB
  cases hm : mayC ss c
  · rw [hm] at HNE HWO
    clear hm
    go_wp2
    go_ret2
    exact ⟨ret_bi HWO.out.symm HNE.out.symm, HBH.out ▸ HB1.out⟩
  · rw [hm] at HNE HWO
    have HM := Lib.hid (HMC.out hm)
    clear hm
    go_wp2_with fail
    rw [← HVE.out]
    refine (refDull_any A n cp ss v c _ HS.out hn HX.out.cl HM.out).mono ?_
    rintro e w2 ⟨rfl, hb2⟩
    have HB2 := Lib.hid (HB1.out.trans (hb2.mono HB1.out.size))
    obtain ⟨W, hW⟩ : ∃ W, W = dullB ss c := ⟨_, rfl⟩
    rw [← hW] at HWO ⊢
    clear hb2 p0 p1 p2 hW
    go_wp2
    go_ret2
    exact ⟨ret_bi (by rw [HWO.out]; rfl) (by rw [HNE.out]; rfl), HBH.out ▸ HB2.out⟩
end Go.Proofs.Ytpblpndlajoebaa
