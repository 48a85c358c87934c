/-
  The walk of the law OrderTurns.
-/
import Derived.Test.YtodhnngnjaoooaaAwakeO
namespace Go.Proofs.Ytodhnngnjaoooaa
open Go.RowKit
set_option linter.unusedSimpArgs false
set_option linter.unusedVariables false
set_option maxRecDepth 100000

set_option maxHeartbeats 1000000 in
theorem orderTurns_walk (A0 A1 A2 : Option Addr) (n0 c0 n1 c1 n2 c2 : Nat) (ss : List Sym) (a b : List Int) (w : World) (hs : SymsAt w w.heap.size A0 n0 ss) (hn0 : n0 ≤ maxLen) (hnc : n0 ≤ c0) (ha : IntsAt w w.heap.size A1 n1 a) (hn1 : n1 ≤ maxLen) (hc1 : n1 ≤ c1) (hb : IntsAt w w.heap.size A2 n2 b) (hn2 : n2 ≤ maxLen) (hc2 : n2 ≤ c2) :
    Calls Try.prog 5 #[.slice A0 n0 c0, .slice A1 n1 c1, .slice A2 n2 c2] w fun e w' => e = .returned (.bool true) ∧ Below w.heap.size w w' := by
  have HS := Lib.hid hs
  have HA := Lib.hid ha
  have HB := Lib.hid hb
  have HB0 := Lib.hid (Below.refl w.heap.size w)
  clear hs ha hb
  go_enter Try.func5, Try.ntmps5
  go_wp2_with fail
  refine (awakeO_any _).mono ?_
  rintro e w1 ⟨rfl, hb1⟩
  have HB1 := Lib.hid (HB0.out.trans (hb1.mono HB0.out.size))
  replace HS := Lib.hid (HS.out.on hb1)
  replace HA := Lib.hid (HA.out.on hb1)
  replace HB := Lib.hid (HB.out.on hb1)
  clear hb1
  go_wp2_with fail
  refine (compareO_any A0 A1 A2 n0 c0 n1 c1 n2 c2 ss a b _ HS.out hn0 hnc HA.out hn1 hc1 HB.out hn2 hc2).mono ?_
  rintro e w2 ⟨k, E, rfl, hr, hb2⟩
  have HB2 := Lib.hid (HB1.out.trans (hb2.mono HB1.out.size))
  replace HS := Lib.hid (HS.out.on hb2)
  replace HA := Lib.hid (HA.out.on hb2)
  replace HB := Lib.hid (HB.out.on hb2)
  clear hb2
  go_wp2_with fail
  refine (compareO_any A0 A2 A1 n0 c0 n2 c2 n1 c1 ss b a _ HS.out hn0 hnc HB.out hn2 hc2 HA.out hn1 hc1).mono ?_
  rintro e w3 ⟨m, F, rfl, hr', hb3⟩
  have HB3 := Lib.hid (HB2.out.trans (hb3.mono HB2.out.size))
  replace HS := Lib.hid (HS.out.on hb3)
  replace HA := Lib.hid (HA.out.on hb3)
  replace HB := Lib.hid (HB.out.on hb3)
  clear hb3
  rcases hr.turn with ⟨rfl, rfl, ht⟩ | ⟨rfl, ht⟩
  · obtain ⟨rfl, rfl⟩ := hr'.unique ht
    clear hr hr' ht
    go_wp2_with (go_at_call 12; refine (num_any _ _).mono ?_; rintro e w' ⟨rfl, rfl⟩)
    go_ret
    exact ⟨rfl, HB3.out⟩
  · obtain ⟨rfl, hm⟩ := hr'.unique ht
    obtain ⟨-, hk, k1, -⟩ := hr.zero
    have K1 := Lib.hid k1
    clear hr hr' ht k1
    rcases hk with rfl | rfl | rfl | rfl
    · have hm' : m = 2 := hm
      clear hm
      subst hm'
      go_wp2_with (go_at_call 12; refine (num_any _ _).mono ?_; rintro e w' ⟨rfl, rfl⟩)
      go_ret
      exact ⟨rfl, HB3.out⟩
    · have hm' : m = 1 := hm
      clear hm
      subst hm'
      have HE : Hid (sameI a b = true) := by show sameI a b = true; rw [K1.out.1 rfl]; exact sameI_self _
      go_wp2_with (go_at_call 12; refine (num_any _ _).mono ?_; rintro e w' ⟨rfl, rfl⟩)
      go_wp2_with fail
      refine (sameInts_any A1 A2 n1 c1 n2 c2 _ _ a b _ HA.out HB.out hn1 hn2).mono ?_
      rintro e w4 ⟨rfl, hb4⟩
      have HB4 := Lib.hid (HB3.out.trans (hb4.mono HB3.out.size))
      replace HS := Lib.hid (HS.out.on hb4)
      clear hb4
      rw [HE.out]
      go_wp2
      go_ret
      exact ⟨rfl, HB4.out⟩
    · have hm' : m = 0 := hm
      clear hm
      subst hm'
      go_wp2_with (go_at_call 12; refine (num_any _ _).mono ?_; rintro e w' ⟨rfl, rfl⟩)
      go_ret
      exact ⟨rfl, HB3.out⟩
    · have hm' : m = 3 := hm
      clear hm
      subst hm'
      have HE : Hid (sameI a b = false) := by
        show sameI a b = false
        unfold sameI
        exact decide_eq_false fun e => by have := K1.out.2 e; omega
      go_wp2_with (go_at_call 12; refine (num_any _ _).mono ?_; rintro e w' ⟨rfl, rfl⟩)
      go_wp2_with fail
      refine (sameInts_any A1 A2 n1 c1 n2 c2 _ _ a b _ HA.out HB.out hn1 hn2).mono ?_
      rintro e w4 ⟨rfl, hb4⟩
      have HB4 := Lib.hid (HB3.out.trans (hb4.mono HB3.out.size))
      replace HS := Lib.hid (HS.out.on hb4)
      clear hb4
      rw [HE.out]
      go_wp2
      go_ret
      exact ⟨rfl, HB4.out⟩
end Go.Proofs.Ytodhnngnjaoooaa
