/-
  The walk of the law Orders.
-/
import Derived.Test.YtodhnngnjaoooaaAwakeO
import Derived.Test.YtodhnngnjaoooaaRefWhich
namespace Go.Proofs.Ytodhnngnjaoooaa
open Go.RowKit
set_option linter.unusedSimpArgs false
set_option linter.unusedVariables false
set_option maxRecDepth 100000

set_option maxHeartbeats 1000000 in
theorem orders_walk (A0 A1 A2 : Option Addr) (n0 c0 n1 c1 n2 c2 : Nat) (ss : List Sym) (a b : List Int) (w : World) (hs : SymsAt w w.heap.size A0 n0 ss) (hn0 : n0 ≤ maxLen) (hnc : n0 ≤ c0) (ha : IntsAt w w.heap.size A1 n1 a) (hn1 : n1 * 8 ≤ 140737488351232) (hnc1 : n1 ≤ c1) (hb : IntsAt w w.heap.size A2 n2 b) (hn2 : n2 * 8 ≤ 140737488351232) (hnc2 : n2 ≤ c2) :
    Calls Try.prog 3 #[.slice A0 n0 c0, .slice A1 n1 c1, .slice A2 n2 c2] w fun e w' => e = .returned (.bool true) ∧ Below w.heap.size w w' := by
  have HS := Lib.hid hs
  have HA := Lib.hid ha
  have HB := Lib.hid hb
  have HLA := Lib.hid ha.len
  have HLB := Lib.hid hb.len
  have HB0 := Lib.hid (Below.refl w.heap.size w)
  have hn1' : n1 ≤ maxLen := by unfold maxLen; omega
  have hn2' : n2 ≤ maxLen := by unfold maxLen; omega
  clear hs ha hb
  go_enter Try.func3, Try.ntmps3
  go_wp2_with fail
  refine (lendInts_any A1 n1 c1 a _ HA.out hn1).mono ?_
  rintro e w1 ⟨v1, rfl, hx1, hb1⟩
  have HB1 := Lib.hid (HB0.out.trans (hb1.mono HB0.out.size))
  replace HS := Lib.hid (HS.out.on hb1)
  replace HA := Lib.hid (HA.out.on hb1)
  replace HB := Lib.hid (HB.out.on hb1)
  clear hb1
  have HX := Lib.hid hx1
  clear hx1
  go_wp2_with fail
  refine (lendInts_any A2 n2 c2 b _ HB.out hn2).mono ?_
  rintro e w2 ⟨v2, rfl, hx2, hb2⟩
  have HB2 := Lib.hid (HB1.out.trans (hb2.mono HB1.out.size))
  replace HS := Lib.hid (HS.out.on hb2)
  replace HA := Lib.hid (HA.out.on hb2)
  replace HB := Lib.hid (HB.out.on hb2)
  replace HX := Lib.hid (HX.out.on hb2)
  clear hb2
  have HY := Lib.hid hx2
  clear hx2
  have HBW := HB2
  clear HB2
  have HB2 := Lib.hid (Below.refl w2.heap.size w2)
  obtain ⟨A5, c5, rfl, hcap5, hx5⟩ := HX.out.ints
  obtain ⟨A6, c6, rfl, hcap6, hx6⟩ := HY.out.ints
  rw [HLA.out] at hx5 hcap5 HX ⊢
  rw [HLB.out] at hx6 hcap6 HY ⊢
  have HX5 := Lib.hid hx5
  have HX6 := Lib.hid hx6
  clear hx5 hx6
  go_wp2_with fail
  refine (compareO_any A0 A5 A6 n0 c0 n1 c5 n2 c6 ss a b _ HS.out hn0 hnc HX5.out hn1' hcap5 HX6.out hn2' hcap6).mono ?_
  rintro e w3 ⟨k, E, rfl, hr, hb3⟩
  have HB3 := Lib.hid (HB2.out.trans (hb3.mono HB2.out.size))
  clear hb3
  have HR := Lib.hid hr
  clear hr
  go_wp2_with fail
  refine (refCompare_any A0 A1 A2 n0 c0 n1 c1 n2 c2 ss a b _ (HS.out.on HB3.out) hn0 (HA.out.on HB3.out) hn1' hnc1 (HB.out.on HB3.out) hn2' hnc2).mono ?_
  rintro e w4 ⟨m, F, rfl, hr, hb4⟩
  have HB4 := Lib.hid (HB3.out.trans (hb4.mono HB3.out.size))
  clear hb4
  obtain ⟨rfl, rfl⟩ := hr.unique HR.out
  clear hr
  have gE : (F == F) = true := by simp
  have gK : (m == m) = true := by simp
  go_wp2_with (go_at_call 12; refine (num_any _ _).mono ?_; rintro e w' ⟨rfl, rfl⟩)
  go_wp2_with fail
  refine (keptInts_any _ _ A1 n1 c1 a _ (HX.out.on HB4.out) (HA.out.on HB4.out) hn1).mono ?_
  rintro e w5 ⟨rfl, hb5⟩
  have HB5 := Lib.hid (HB4.out.trans (hb5.mono HB4.out.size))
  clear hb5
  go_wp2_with fail
  refine (keptInts_any _ _ A2 n2 c2 b _ (HY.out.on HB5.out) (HB.out.on HB5.out) hn2).mono ?_
  rintro e w6 ⟨rfl, hb6⟩
  have HB6 := Lib.hid (HB5.out.trans (hb6.mono HB5.out.size))
  clear hb6
  go_wp2_with fail
  refine (awakeO_any _).mono ?_
  rintro e w7 ⟨rfl, hb7⟩
  have HB7 := Lib.hid (HB6.out.trans (hb7.mono HB6.out.size))
  clear hb7
  go_wp2
  go_ret
  exact ⟨rfl, HBW.out.trans (HB7.out.mono HBW.out.size)⟩

end Go.Proofs.Ytodhnngnjaoooaa
