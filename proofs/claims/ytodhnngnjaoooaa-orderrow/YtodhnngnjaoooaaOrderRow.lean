/-
  The walk of the law OrderRow.
-/
import Derived.Test.YtodhnngnjaoooaaAwakeO
namespace Go.Proofs.Ytodhnngnjaoooaa
open Go.RowKit
set_option linter.unusedSimpArgs false
set_option linter.unusedVariables false
set_option maxRecDepth 100000

set_option maxHeartbeats 1000000 in
theorem orderRow_walk (A0 A1 A2 A3 : Option Addr) (n0 c0 n1 c1 n2 c2 n3 c3 : Nat) (ss : List Sym) (a b d : List Int) (w : World) (hs : SymsAt w w.heap.size A0 n0 ss) (hn0 : n0 ≤ maxLen) (hnc : n0 ≤ c0) (ha : IntsAt w w.heap.size A1 n1 a) (hn1 : n1 ≤ maxLen) (hc1 : n1 ≤ c1) (hb : IntsAt w w.heap.size A2 n2 b) (hn2 : n2 ≤ maxLen) (hc2 : n2 ≤ c2) (hd : IntsAt w w.heap.size A3 n3 d) (hn3 : n3 ≤ maxLen) (hc3 : n3 ≤ c3) :
    Calls Try.prog 6 #[.slice A0 n0 c0, .slice A1 n1 c1, .slice A2 n2 c2, .slice A3 n3 c3] w fun e w' => e = .returned (.bool true) ∧ Below w.heap.size w w' := by
  have HS := Lib.hid hs
  have HA := Lib.hid ha
  have HB := Lib.hid hb
  have HD := Lib.hid hd
  have HB0 := Lib.hid (Below.refl w.heap.size w)
  clear hs ha hb hd
  go_enter Try.func6, Try.ntmps6
  go_wp2_with fail
  refine (awakeO_any _).mono ?_
  rintro e w1 ⟨rfl, hb1⟩
  have HB1 := Lib.hid (HB0.out.trans (hb1.mono HB0.out.size))
  replace HS := Lib.hid (HS.out.on hb1)
  replace HA := Lib.hid (HA.out.on hb1)
  replace HB := Lib.hid (HB.out.on hb1)
  replace HD := Lib.hid (HD.out.on hb1)
  clear hb1
  go_wp2_with fail
  refine (compareO_any A0 A1 A2 n0 c0 n1 c1 n2 c2 ss a b _ HS.out hn0 hnc HA.out hn1 hc1 HB.out hn2 hc2).mono ?_
  rintro e w2 ⟨k, E, rfl, hr, hb2⟩
  have HB2 := Lib.hid (HB1.out.trans (hb2.mono HB1.out.size))
  replace HS := Lib.hid (HS.out.on hb2)
  replace HA := Lib.hid (HA.out.on hb2)
  replace HB := Lib.hid (HB.out.on hb2)
  replace HD := Lib.hid (HD.out.on hb2)
  clear hb2
  go_wp2_with fail
  refine (compareO_any A0 A2 A3 n0 c0 n2 c2 n3 c3 ss b d _ HS.out hn0 hnc HB.out hn2 hc2 HD.out hn3 hc3).mono ?_
  rintro e w3 ⟨m, F, rfl, hr', hb3⟩
  have HB3 := Lib.hid (HB2.out.trans (hb3.mono HB2.out.size))
  replace HS := Lib.hid (HS.out.on hb3)
  replace HA := Lib.hid (HA.out.on hb3)
  replace HB := Lib.hid (HB.out.on hb3)
  replace HD := Lib.hid (HD.out.on hb3)
  clear hb3
  have HR := Lib.hid hr
  have HR' := Lib.hid hr'
  clear hr hr'
  by_cases z1 : E = 0
  · subst z1
    by_cases z2 : F = 0
    · subst z2
      by_cases z3 : k = 2
      · subst z3
        by_cases z4 : m = 2
        · subst z4
          go_wp2_with (go_at_call 12; refine (num_any _ _).mono ?_; rintro e w' ⟨rfl, rfl⟩)
          go_wp2_with fail
          refine (compareO_any A0 A1 A3 n0 c0 n1 c1 n3 c3 ss a d _ HS.out hn0 hnc HA.out hn1 hc1 HD.out hn3 hc3).mono ?_
          rintro e w4 ⟨q, G, rfl, hr4, hb4⟩
          have HB4 := Lib.hid (HB3.out.trans (hb4.mono HB3.out.size))
          replace HS := Lib.hid (HS.out.on hb4)
          clear hb4
          obtain ⟨rfl, rfl⟩ := HR.out.row HR'.out hr4
          clear hr4
          go_wp2_with (go_at_call 12; refine (num_any _ _).mono ?_; rintro e w' ⟨rfl, rfl⟩)
          go_ret
          exact ⟨rfl, HB4.out⟩
        · have g : (m != 2) = true := by simpa using z4
          clear z4
          go_wp2_with (go_at_call 12; refine (num_any _ _).mono ?_; rintro e w' ⟨rfl, rfl⟩)
          go_ret
          exact ⟨rfl, HB3.out⟩
      · have g : (k != 2) = true := by simpa using z3
        clear z3
        go_wp2_with (go_at_call 12; refine (num_any _ _).mono ?_; rintro e w' ⟨rfl, rfl⟩)
        go_ret
        exact ⟨rfl, HB3.out⟩
    · have g : (F != 0) = true := by simpa using z2
      clear z2
      go_wp2_with (go_at_call 12; refine (num_any _ _).mono ?_; rintro e w' ⟨rfl, rfl⟩)
      go_ret
      exact ⟨rfl, HB3.out⟩
  · have g : (E != 0) = true := by simpa using z1
    clear z1
    go_wp2_with (go_at_call 12; refine (num_any _ _).mono ?_; rintro e w' ⟨rfl, rfl⟩)
    go_ret
    exact ⟨rfl, HB3.out⟩
end Go.Proofs.Ytodhnngnjaoooaa
