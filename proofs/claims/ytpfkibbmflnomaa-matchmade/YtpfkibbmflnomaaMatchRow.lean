/-
  The walk of the law MatchRow.
-/
import Derived.Test.YtpfkibbmflnomaaAwakeM
import Derived.Test.YtpfkibbmflnomaaBaseBind
namespace Go.Proofs.Ytpfkibbmflnomaa
open Go.RowKit
set_option linter.unusedSimpArgs false
set_option linter.unusedVariables false
set_option maxRecDepth 100000

theorem made_row {ss : List Sym} {us : List Bd} {a : List Int} (h : applyE ss us a = 0) : bindB ss us = true ∧ rowB ss a = true ∧ rowB ss (applyR ss us a) = true ∧ ap (fnB us) a = applyR ss us a := by
  obtain ⟨a1, a2, a3, a4⟩ := ap_zero h
  have hus : bdsB ss 0 us = true := by unfold bindB at a1; simp only [Bool.and_eq_true] at a1; exact a1.2
  obtain ⟨ns, q1, _⟩ := tl_put hus a (row_parts a2).2.2
  exact ⟨a1, a2, by rw [a4]; exact one_row (row_parts a2).1 a3 q1, by rw [a4, put_fn]⟩
theorem mtIs_of {ss : List Sym} {θ : Nat → List Int} {a b : List Int} (ha : rowB ss a = true) (hb : rowB ss b = true) (hθ : Sub 24 ss θ) (h : ap θ a = b) : mtIs ss a b = true ∧ mtE ss a b = 0 := by
  obtain ⟨T, hT, _⟩ := mtO_there ha hb hθ h
  have : mtIs ss a b = true := by unfold mtIs; rw [hT]; rfl
  exact ⟨this, mtE_yes this⟩
theorem made_is {ss : List Sym} {us : List Bd} {a : List Int} (h : applyE ss us a = 0) : mtIs ss a (applyR ss us a) = true ∧ mtE ss a (applyR ss us a) = 0 := by
  obtain ⟨h1, h2, h3, h4⟩ := made_row h
  exact mtIs_of h2 h3 (fn_sub h1) h4
theorem made_both {ss : List Sym} {bs us : List Bd} {a : List Int} (h : applyE ss bs a = 0) (k : applyE ss us (applyR ss bs a) = 0) : mtIs ss a (applyR ss us (applyR ss bs a)) = true ∧ mtE ss a (applyR ss us (applyR ss bs a)) = 0 := by
  obtain ⟨h1, h2, h3, h4⟩ := made_row h
  obtain ⟨k1, k2, k3, k4⟩ := made_row k
  refine mtIs_of h2 k3 (θ := fun v => ap (fnB us) (fnB bs v)) (fun v hv => trm_ap (fn_sub k1) (fn_sub h1 v hv)) ?_
  rw [← ap_ap, h4, k4]

set_option maxHeartbeats 1000000 in
theorem matchRow_walk (A0 A1 A2 A3 : Option Addr) (n0 c0 n1 c1 n2 c2 n3 c3 : Nat) (ss : List Sym) (bs us : List Bd) (a : List Int) (w : World) (hs : SymsAt w w.heap.size A0 n0 ss) (hn0 : n0 ≤ maxLen) (hnc : n0 ≤ c0) (hb : BindsAt w w.heap.size A1 n1 bs) (hn1 : n1 ≤ 4398046511104) (hu : BindsAt w w.heap.size A2 n2 us) (hn2 : n2 ≤ 4398046511104) (ha : IntsAt w w.heap.size A3 n3 a) (hn3 : n3 ≤ maxLen) :
    Calls Try.prog 5 #[.slice A0 n0 c0, .slice A1 n1 c1, .slice A2 n2 c2, .slice A3 n3 c3] w fun e w' => e = .returned (.bool true) ∧ Below w.heap.size w w' := by
  have HS := Lib.hid hs
  have HU := Lib.hid hu
  have HBS := Lib.hid hb
  have HA := Lib.hid ha
  have HB0 := Lib.hid (Below.refl w.heap.size w)
  clear hs ha hu hb
  go_enter Try.func5, Try.ntmps5
  go_wp2_with fail
  refine (awakeM_any _).mono ?_
  rintro e w1 ⟨rfl, hb1⟩
  have HB1 := Lib.hid (HB0.out.trans (hb1.mono HB0.out.size))
  replace HS := Lib.hid (HS.out.on hb1)
  replace HU := Lib.hid (HU.out.on hb1)
  replace HBS := Lib.hid (HBS.out.on hb1)
  replace HA := Lib.hid (HA.out.on hb1)
  clear hb1
  go_wp2_with fail
  refine (apply_any A0 A1 A3 n0 c0 n1 c1 n3 c3 ss bs a _ HS.out hn0 hnc HBS.out hn1 HA.out hn3).mono ?_
  rintro e w2 ⟨v2, rfl, hv2, hb2⟩
  have HB2 := Lib.hid (HB1.out.trans (hb2.mono HB1.out.size))
  replace HS := Lib.hid (HS.out.on hb2)
  replace HU := Lib.hid (HU.out.on hb2)
  replace HA := Lib.hid (HA.out.on hb2)
  clear hb2
  obtain ⟨A5, c5, rfl, hcap5, ht⟩ := hv2.intsAt
  have HX := Lib.hid ht
  clear ht hv2
  obtain ⟨E1, hE1⟩ : ∃ E1, E1 = applyE ss bs a := ⟨_, rfl⟩
  obtain ⟨X, hX⟩ : ∃ X, X = applyR ss bs a := ⟨_, rfl⟩
  have hL1 : X.length ≤ 48 := by rw [hX]; exact applyR_len ss bs a
  obtain ⟨L1, hL⟩ : ∃ L1, L1 = X.length := ⟨_, rfl⟩
  rw [← hE1, ← hX, ← hL]
  rw [← hX, ← hL] at HX hcap5
  rw [← hL] at hL1
  have HE1 := Lib.hid hE1
  have HXE := Lib.hid hX
  clear hE1 hL hX
  go_wp2_with fail
  refine (apply_any A0 A2 A5 n0 c0 n2 c2 L1 c5 ss us X _ HS.out hn0 hnc HU.out hn2 HX.out (len_small (by omega))).mono ?_
  rintro e w3 ⟨v3, rfl, hv3, hb3⟩
  have HB3 := Lib.hid (HB2.out.trans (hb3.mono HB2.out.size))
  replace HS := Lib.hid (HS.out.on hb3)
  replace HX := Lib.hid (HX.out.on hb3)
  replace HA := Lib.hid (HA.out.on hb3)
  clear hb3
  obtain ⟨A6, c6, rfl, hcap6, ht⟩ := hv3.intsAt
  have HY := Lib.hid ht
  clear ht hv3
  obtain ⟨E2, hE2⟩ : ∃ E2, E2 = applyE ss us X := ⟨_, rfl⟩
  obtain ⟨Y, hY⟩ : ∃ Y, Y = applyR ss us X := ⟨_, rfl⟩
  have hL2 : Y.length ≤ 48 := by rw [hY]; exact applyR_len ss us X
  obtain ⟨L2, hL⟩ : ∃ L2, L2 = Y.length := ⟨_, rfl⟩
  rw [← hE2, ← hY, ← hL]
  rw [← hY, ← hL] at HY hcap6
  rw [← hL] at hL2
  have HE2 := Lib.hid hE2
  have HYE := Lib.hid hY
  clear hE2 hL hY
  by_cases z1 : E1 = 0
  · subst z1
    by_cases z2 : E2 = 0
    · subst z2
      have M1 : Hid (mtIs ss a X = true ∧ mtE ss a X = 0) := by
        have := made_is HE1.out.symm
        rw [← HXE.out] at this
        exact this
      have M2 : Hid (mtIs ss X Y = true ∧ mtE ss X Y = 0) := by
        have := made_is HE2.out.symm
        rw [← HYE.out] at this
        exact this
      have M3 : Hid (mtIs ss a Y = true ∧ mtE ss a Y = 0) := by
        have h2 := HE2.out.symm
        rw [HXE.out] at h2
        have := made_both HE1.out.symm h2
        rw [← HXE.out, ← HYE.out] at this
        exact this
      go_wp2_with (go_at_call 13; refine (num_any _ _).mono ?_; rintro e w' ⟨rfl, rfl⟩)
      go_wp2_with fail
      refine (match_any A0 A3 A5 n0 c0 n3 c3 L1 c5 ss a X _ HS.out hn0 hnc HA.out hn3 HX.out (len_small (by omega)) hcap5).mono ?_
      rintro e w4 ⟨v4, rfl, hv4, hb4⟩
      have HB4 := Lib.hid (HB3.out.trans (hb4.mono HB3.out.size))
      replace HS := Lib.hid (HS.out.on hb4)
      replace HX := Lib.hid (HX.out.on hb4)
      replace HY := Lib.hid (HY.out.on hb4)
      replace HA := Lib.hid (HA.out.on hb4)
      clear hb4
      rw [M1.out.1, M1.out.2]
      clear hv4
      go_wp2_with fail
      refine (match_any A0 A5 A6 n0 c0 L1 c5 L2 c6 ss X Y _ HS.out hn0 hnc HX.out (len_small (by omega)) HY.out (len_small (by omega)) hcap6).mono ?_
      rintro e w5 ⟨v5, rfl, hv5, hb5⟩
      have HB5 := Lib.hid (HB4.out.trans (hb5.mono HB4.out.size))
      replace HS := Lib.hid (HS.out.on hb5)
      replace HX := Lib.hid (HX.out.on hb5)
      replace HY := Lib.hid (HY.out.on hb5)
      replace HA := Lib.hid (HA.out.on hb5)
      clear hb5
      rw [M2.out.1, M2.out.2]
      clear hv5
      go_wp2_with fail
      refine (match_any A0 A3 A6 n0 c0 n3 c3 L2 c6 ss a Y _ HS.out hn0 hnc HA.out hn3 HY.out (len_small (by omega)) hcap6).mono ?_
      rintro e w6 ⟨v6, rfl, hv6, hb6⟩
      have HB6 := Lib.hid (HB5.out.trans (hb6.mono HB5.out.size))
      replace HS := Lib.hid (HS.out.on hb6)
      replace HX := Lib.hid (HX.out.on hb6)
      replace HY := Lib.hid (HY.out.on hb6)
      replace HA := Lib.hid (HA.out.on hb6)
      clear hb6
      rw [M3.out.1, M3.out.2]
      clear hv6
      go_wp2_with (go_at_call 13; refine (num_any _ _).mono ?_; rintro e w' ⟨rfl, rfl⟩)
      go_ret
      exact ⟨rfl, HB6.out⟩
    · have g2 : (E2 != 0) = true := by simpa using z2
      clear z2
      go_wp2_with (go_at_call 13; refine (num_any _ _).mono ?_; rintro e w' ⟨rfl, rfl⟩)
      go_ret
      exact ⟨rfl, HB3.out⟩
  · have g1 : (E1 != 0) = true := by simpa using z1
    clear z1
    go_wp2_with (go_at_call 13; refine (num_any _ _).mono ?_; rintro e w' ⟨rfl, rfl⟩)
    go_ret
    exact ⟨rfl, HB3.out⟩
end Go.Proofs.Ytpfkibbmflnomaa
