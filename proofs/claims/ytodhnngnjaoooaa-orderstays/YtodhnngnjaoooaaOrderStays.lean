/-
  The walk of the law OrderStays.
-/
import Derived.Test.YtodhnngnjaoooaaAwakeO
import Derived.Test.YtodhnngnjaoooaaBaseBind
namespace Go.Proofs.Ytodhnngnjaoooaa
open Go.RowKit
set_option linter.unusedSimpArgs false
set_option linter.unusedVariables false
set_option maxRecDepth 100000

set_option maxHeartbeats 1000000 in
theorem orderStays_walk (A0 A1 A2 A3 : Option Addr) (n0 c0 n1 c1 n2 c2 n3 c3 : Nat) (ss : List Sym) (us : List Bd) (a b : List Int) (w : World) (hs : SymsAt w w.heap.size A0 n0 ss) (hn0 : n0 ≤ maxLen) (hnc : n0 ≤ c0) (hu : BindsAt w w.heap.size A1 n1 us) (hn1 : n1 ≤ 4398046511104) (ha : IntsAt w w.heap.size A2 n2 a) (hn2 : n2 ≤ maxLen) (hc2 : n2 ≤ c2) (hb : IntsAt w w.heap.size A3 n3 b) (hn3 : n3 ≤ maxLen) (hc3 : n3 ≤ c3) :
    Calls Try.prog 4 #[.slice A0 n0 c0, .slice A1 n1 c1, .slice A2 n2 c2, .slice A3 n3 c3] w fun e w' => e = .returned (.bool true) ∧ Below w.heap.size w w' := by
  have HS := Lib.hid hs
  have HU := Lib.hid hu
  have HA := Lib.hid ha
  have HB := Lib.hid hb
  have HB0 := Lib.hid (Below.refl w.heap.size w)
  clear hs ha hu hb
  go_enter Try.func4, Try.ntmps4
  go_wp2_with fail
  refine (awakeO_any _).mono ?_
  rintro e w1 ⟨rfl, hb1⟩
  have HB1 := Lib.hid (HB0.out.trans (hb1.mono HB0.out.size))
  replace HS := Lib.hid (HS.out.on hb1)
  replace HU := Lib.hid (HU.out.on hb1)
  replace HA := Lib.hid (HA.out.on hb1)
  replace HB := Lib.hid (HB.out.on hb1)
  clear hb1
  go_wp2_with fail
  refine (compareO_any A0 A2 A3 n0 c0 n2 c2 n3 c3 ss a b _ HS.out hn0 hnc HA.out hn2 hc2 HB.out hn3 hc3).mono ?_
  rintro e w2 ⟨k, E, rfl, hr, hb2⟩
  have HB2 := Lib.hid (HB1.out.trans (hb2.mono HB1.out.size))
  replace HS := Lib.hid (HS.out.on hb2)
  replace HU := Lib.hid (HU.out.on hb2)
  replace HA := Lib.hid (HA.out.on hb2)
  replace HB := Lib.hid (HB.out.on hb2)
  clear hb2
  have HR := Lib.hid hr
  clear hr
  go_wp2_with fail
  refine (apply_any A0 A1 A2 n0 c0 n1 c1 n2 c2 ss us a _ HS.out hn0 hnc HU.out hn1 HA.out hn2).mono ?_
  rintro e w3 ⟨v3, rfl, hv3, hb3⟩
  have HB3 := Lib.hid (HB2.out.trans (hb3.mono HB2.out.size))
  replace HS := Lib.hid (HS.out.on hb3)
  replace HU := Lib.hid (HU.out.on hb3)
  replace HB := Lib.hid (HB.out.on hb3)
  clear hb3
  obtain ⟨A5, c5, rfl, hcap5, ht⟩ := hv3.intsAt
  have HX := Lib.hid ht
  clear ht hv3
  obtain ⟨E1, hE1⟩ : ∃ E1, E1 = applyE ss us a := ⟨_, rfl⟩
  obtain ⟨X, hX⟩ : ∃ X, X = applyR ss us a := ⟨_, rfl⟩
  have hL1 : X.length ≤ 48 := by rw [hX]; exact applyR_len ss us a
  obtain ⟨L1, hL⟩ : ∃ L1, L1 = X.length := ⟨_, rfl⟩
  rw [← hE1, ← hX, ← hL]
  rw [← hX, ← hL] at HX hcap5
  rw [← hL] at hL1
  have HE1 := Lib.hid hE1
  have HXE := Lib.hid hX
  clear hE1 hL hX
  go_wp2_with fail
  refine (apply_any A0 A1 A3 n0 c0 n1 c1 n3 c3 ss us b _ HS.out hn0 hnc HU.out hn1 HB.out hn3).mono ?_
  rintro e w4 ⟨v4, rfl, hv4, hb4⟩
  have HB4 := Lib.hid (HB3.out.trans (hb4.mono HB3.out.size))
  replace HS := Lib.hid (HS.out.on hb4)
  replace HX := Lib.hid (HX.out.on hb4)
  clear hb4
  obtain ⟨A6, c6, rfl, hcap6, ht⟩ := hv4.intsAt
  have HY := Lib.hid ht
  clear ht hv4
  obtain ⟨E2, hE2⟩ : ∃ E2, E2 = applyE ss us b := ⟨_, rfl⟩
  obtain ⟨Y, hY⟩ : ∃ Y, Y = applyR ss us b := ⟨_, rfl⟩
  have hL2 : Y.length ≤ 48 := by rw [hY]; exact applyR_len ss us b
  obtain ⟨L2, hL⟩ : ∃ L2, L2 = Y.length := ⟨_, rfl⟩
  rw [← hE2, ← hY, ← hL]
  rw [← hY, ← hL] at HY hcap6
  rw [← hL] at hL2
  have HE2 := Lib.hid hE2
  have HYE := Lib.hid hY
  clear hE2 hL hY
  by_cases z0 : E = 0
  · subst z0
    by_cases z1 : E1 = 0
    · subst z1
      by_cases z2 : E2 = 0
      · subst z2
        by_cases z3 : k = 3
        · subst z3
          go_wp2_with (go_at_call 12; refine (num_any _ _).mono ?_; rintro e w' ⟨rfl, rfl⟩)
          go_ret
          exact ⟨rfl, HB4.out⟩
        · have g : (k == 3) = false := by simpa using z3
          have HK := Lib.hid z3
          clear z3
          go_wp2_with (go_at_call 12; refine (num_any _ _).mono ?_; rintro e w' ⟨rfl, rfl⟩)
          go_wp2_with fail
          refine (compareO_any A0 A5 A6 n0 c0 L1 c5 L2 c6 ss X Y _ HS.out hn0 hnc HX.out (len_small (by omega)) hcap5 HY.out (len_small (by omega)) hcap6).mono ?_
          rintro e w5 ⟨m, F, rfl, hr, hb5⟩
          have HB5 := Lib.hid (HB4.out.trans (hb5.mono HB4.out.size))
          replace HS := Lib.hid (HS.out.on hb5)
          clear hb5
          have hst : F = 0 ∧ m = k := by
            rw [HXE.out, HYE.out] at hr
            exact HR.out.stays HK.out HE1.out.symm HE2.out.symm hr
          obtain ⟨rfl, rfl⟩ := hst
          clear hr
          go_wp2_with (go_at_call 12; refine (num_any _ _).mono ?_; rintro e w' ⟨rfl, rfl⟩)
          go_ret
          exact ⟨ret_b (by simp), HB5.out⟩
      · have g : (E2 != 0) = true := by simpa using z2
        clear z2
        go_wp2_with (go_at_call 12; refine (num_any _ _).mono ?_; rintro e w' ⟨rfl, rfl⟩)
        go_ret
        exact ⟨rfl, HB4.out⟩
    · have g : (E1 != 0) = true := by simpa using z1
      clear z1
      go_wp2_with (go_at_call 12; refine (num_any _ _).mono ?_; rintro e w' ⟨rfl, rfl⟩)
      go_ret
      exact ⟨rfl, HB4.out⟩
  · have g : (E != 0) = true := by simpa using z0
    clear z0
    go_wp2_with (go_at_call 12; refine (num_any _ _).mono ?_; rintro e w' ⟨rfl, rfl⟩)
    go_ret
    exact ⟨rfl, HB4.out⟩
end Go.Proofs.Ytodhnngnjaoooaa
