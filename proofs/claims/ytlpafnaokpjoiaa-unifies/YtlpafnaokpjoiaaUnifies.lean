/-
  The walk of the law Unifies.
-/
import Derived.Test.YtlpafnaokpjoiaaAwakeU
import Derived.Test.YtlpafnaokpjoiaaRefPair
namespace Go.Proofs.Ytlpafnaokpjoiaa
open Go.RowKit
set_option linter.unusedSimpArgs false
set_option linter.unusedVariables false
set_option maxRecDepth 100000

set_option maxHeartbeats 1000000 in
theorem unifies_walk (A0 A1 A2 : Option Addr) (n0 c0 n1 c1 n2 c2 : Nat) (ss : List Sym) (a b : List Int) (w : World) (hs : SymsAt w w.heap.size A0 n0 ss) (hn0 : n0 ≤ maxLen) (hnc : n0 ≤ c0) (ha : IntsAt w w.heap.size A1 n1 a) (hn1 : n1 * 8 ≤ 140737488351232) (hnc1 : n1 ≤ c1) (hb : IntsAt w w.heap.size A2 n2 b) (hn2 : n2 * 8 ≤ 140737488351232) (hnc2 : n2 ≤ c2) :
    Calls Try.prog 3 #[.slice A0 n0 c0, .slice A1 n1 c1, .slice A2 n2 c2] w fun e w' => e = .returned (.bool true) ∧ Below w.heap.size w w' := by
  have HS := Lib.hid hs
  have HA := Lib.hid ha
  have HB := Lib.hid hb
  have HLA := Lib.hid ha.len
  have HLB := Lib.hid hb.len
  have HB0 := Lib.hid (Below.refl w.heap.size w)
  have hn1' : n1 ≤ maxLen := by unfold maxLen; omega
  have hn2' : n2 ≤ maxLen := by unfold maxLen; omega
  clear hs ha hb
  go_enter Try.func3, Try.ntmps3
  go_wp2_with fail
  refine (lendInts_any A1 n1 c1 a _ HA.out hn1).mono ?_
  rintro e w1 ⟨v1, rfl, hx1, hb1⟩
  have HB1 := Lib.hid (HB0.out.trans (hb1.mono HB0.out.size))
  replace HS := Lib.hid (HS.out.on hb1)
  replace HA := Lib.hid (HA.out.on hb1)
  replace HB := Lib.hid (HB.out.on hb1)
  clear hb1
  have HX := Lib.hid hx1
  clear hx1
  go_wp2_with fail
  refine (lendInts_any A2 n2 c2 b _ HB.out hn2).mono ?_
  rintro e w2 ⟨v2, rfl, hx2, hb2⟩
  have HB2 := Lib.hid (HB1.out.trans (hb2.mono HB1.out.size))
  replace HS := Lib.hid (HS.out.on hb2)
  replace HA := Lib.hid (HA.out.on hb2)
  replace HB := Lib.hid (HB.out.on hb2)
  replace HX := Lib.hid (HX.out.on hb2)
  clear hb2
  have HY := Lib.hid hx2
  clear hx2
  have HBW := HB2
  clear HB2
  have HB2 := Lib.hid (Below.refl w2.heap.size w2)
  obtain ⟨A5, c5, rfl, _, hx5⟩ := HX.out.ints
  obtain ⟨A6, c6, rfl, _, hx6⟩ := HY.out.ints
  rw [HLA.out] at hx5 HX ⊢
  rw [HLB.out] at hx6 HY ⊢
  have HX5 := Lib.hid hx5
  have HX6 := Lib.hid hx6
  clear hx5 hx6
  go_wp2_with fail
  refine (unify_any A0 A5 A6 n0 c0 n1 c5 n2 c6 ss a b _ HS.out hn0 hnc HX5.out hn1' HX6.out hn2').mono ?_
  rintro e w3 ⟨v3, E, is, bs, rfl, hv3, hb3, hu3⟩
  have HB3 := Lib.hid (HB2.out.trans (hb3.mono HB2.out.size))
  clear hb3
  obtain ⟨hbl, hbt⟩ := hu3.few
  have HU := Lib.hid hu3
  have HV3 := Lib.hid hv3
  have HF2 : Hid (∀ i, i < bs.length → (bdAt bs i).t.length ≤ 17592186044416) := fun i hi => by have := hbt i hi; omega
  obtain ⟨A7, c7, hv3e, _, _⟩ := hv3.bindsAt hu3.fit
  subst hv3e
  obtain ⟨L, hL⟩ : ∃ L, L = bs.length := ⟨_, rfl⟩
  have HLL := Lib.hid hL
  rw [← hL] at HV3 hbl ⊢
  clear hv3 hu3 hbt hL
  go_wp2_with fail
  refine (refUnify_any A0 A1 A2 n0 c0 n1 c1 n2 c2 ss a b _ (HS.out.on HB3.out) hn0 (HA.out.on HB3.out) hn1' hnc1 (HB.out.on HB3.out) hn2' hnc2).mono ?_
  rintro e w4 ⟨v4, E', is', bs', rfl, hv4, hb4, hu4⟩
  have HB4 := Lib.hid (HB3.out.trans (hb4.mono HB3.out.size))
  replace HV3 := Lib.hid (HV3.out.on hb4)
  clear hb4
  obtain ⟨rfl, rfl, rfl⟩ := HU.out.unique hu4
  have HV4 := Lib.hid hv4
  obtain ⟨A8, c8, hv4e, _, _⟩ := hv4.bindsAt HU.out.fit
  subst hv4e
  rw [← HLL.out] at HV4 ⊢
  clear hv4 hu4
  have gE : (E != E) = false := by simp
  have gI : (is != is) = false := by simp
  have HI7 : Hid (BindsAt w4 w4.heap.size A7 L bs) := by
    obtain ⟨A', c', e, _, h⟩ := HV3.out.bindsAt HU.out.fit
    injection e with e1 e2 e3
    rw [e1, e2]; exact h
  have HI8 : Hid (BindsAt w4 w4.heap.size A8 L bs) := by
    obtain ⟨A', c', e, _, h⟩ := HV4.out.bindsAt HU.out.fit
    injection e with e1 e2 e3
    rw [e1, e2]; exact h
  go_wp2_with fail
  refine (sameBinds_true A7 A8 L c7 c8 bs _ HI7.out (by omega) HI8.out).mono ?_
  rintro e w5 ⟨rfl, hb5⟩
  have HB5 := Lib.hid (HB4.out.trans (hb5.mono HB4.out.size))
  replace HV3 := Lib.hid (HV3.out.on hb5)
  clear hb5
  clear HI7 HI8
  go_wp2_with (go_at_call 13; refine (num_any _ _).mono ?_; rintro e w' ⟨rfl, rfl⟩)
  refine (spoilBinds_any _ w2.heap.size bs _ HV3.out (by rw [← HLL.out]; omega) HF2.out).mono ?_
  rintro e w6 ⟨rfl, hsp⟩
  have HB6 := Lib.hid (HB5.out.trans hsp)
  clear hsp
  go_wp2_with fail
  refine (keptInts_any _ _ A1 n1 c1 a _ (HX.out.on HB6.out) (HA.out.on HB6.out) hn1).mono ?_
  rintro e w7 ⟨rfl, hb7⟩
  have HB7 := Lib.hid (HB6.out.trans (hb7.mono HB6.out.size))
  clear hb7
  go_wp2_with fail
  refine (keptInts_any _ _ A2 n2 c2 b _ (HY.out.on HB7.out) (HB.out.on HB7.out) hn2).mono ?_
  rintro e w8 ⟨rfl, hb8⟩
  have HB8 := Lib.hid (HB7.out.trans (hb8.mono HB7.out.size))
  clear hb8
  go_wp2_with fail
  refine (awakeU_any _).mono ?_
  rintro e w9 ⟨rfl, hb9⟩
  have HB9 := Lib.hid (HB8.out.trans (hb9.mono HB8.out.size))
  clear hb9
  go_wp2
  go_ret
  exact ⟨rfl, HBW.out.trans (HB9.out.mono HBW.out.size)⟩

end Go.Proofs.Ytlpafnaokpjoiaa
