/-
  The walk of the law LitTops.
-/
import Derived.Test.YtiekgdohanahlaaAwakeL
namespace Go.Proofs.Ytiekgdohanahlaa
open Go.RowKit Go.Deep
set_option linter.unusedSimpArgs false
set_option linter.unusedVariables false
set_option maxRecDepth 100000

set_option maxHeartbeats 1000000 in
theorem litTops_walk (A0 A1 : Option Addr) (n0 c0 n1 c1 : Nat) (ss : List Sym) (ls : List Lt) (w : World) (hs : SymsAt w w.heap.size A0 n0 ss) (hn0 : n0 ≤ maxLen) (hnc : n0 ≤ c0) (hl : LitsAt w w.heap.size A1 n1 ls) (hn1 : n1 ≤ maxLen) :
    Calls Try.prog 4 #[.slice A0 n0 c0, .slice A1 n1 c1] w fun e w' => e = .returned (.bool true) ∧ Below w.heap.size w w' := by
  unfold maxLen at hn1
  have HS := Lib.hid hs
  have HL := Lib.hid hl
  have HN := Lib.hid hl.len
  have HB0 := Lib.hid (Below.refl w.heap.size w)
  clear hs hl
  by_cases h60 : 60 < n1
  · have h60' : (60 : Int) < (n1 : Int) := by omega
    go_enter Try.func4, Try.ntmps4
    go_wp2
    go_ret
    exact ⟨rfl, HB0.out⟩
  · have h60' : ¬ (60 : Int) < (n1 : Int) := by omega
    go_enter Try.func4, Try.ntmps4
    go_wp2_with fail
    refine (copyLits_any A1 n1 c1 ls _ HL.out (by omega)).mono ?_
    rintro e w1 ⟨v1, rfl, hv1, hb1⟩
    have HB1 := Lib.hid (HB0.out.trans (hb1.mono HB0.out.size))
    replace HS := Lib.hid (HS.out.on hb1)
    replace HL := Lib.hid (HL.out.on hb1)
    clear hb1
    obtain ⟨A2, c2, rfl, -, hl2⟩ := hv1.litsAt (fun i hi => HL.out.fit i (by rw [HN.out] at hi; exact hi))
    rw [HN.out] at hl2 ⊢
    have HL2 := Lib.hid hl2
    clear hv1 hl2
    go_wp2_with fail
    refine (litTops_any A0 A1 n0 c0 n1 c1 ss ls _ HS.out hn0 hnc HL.out (by omega)).mono ?_
    rintro e w2 ⟨v2, rfl, hv2, hb2⟩
    have HB2 := Lib.hid (HB1.out.trans (hb2.mono HB1.out.size))
    replace HS := Lib.hid (HS.out.on hb2)
    replace HL := Lib.hid (HL.out.on hb2)
    replace HL2 := Lib.hid (HL2.out.on hb2)
    clear hb2
    obtain ⟨A3, c3, rfl, -, hi3⟩ := hv2.intsAt
    have HI3 := Lib.hid hi3
    clear hv2 hi3
    go_wp2_with fail
    refine (refTops_any A0 A1 n0 c0 n1 c1 ss ls _ HS.out hn0 hnc HL.out (by omega)).mono ?_
    rintro e w3 ⟨v3, rfl, hv3, hb3⟩
    have HB3 := Lib.hid (HB2.out.trans (hb3.mono HB2.out.size))
    replace HS := Lib.hid (HS.out.on hb3)
    replace HL := Lib.hid (HL.out.on hb3)
    replace HL2 := Lib.hid (HL2.out.on hb3)
    replace HI3 := Lib.hid (HI3.out.on hb3)
    clear hb3
    obtain ⟨A4, c4, rfl, -, hi4⟩ := hv3.intsAt
    have HI4 := Lib.hid hi4
    clear hv3 hi4
    have HM : Hid ((topsR ss ls).length ≤ maxLen) := by
      show _ ≤ _
      have q := topsN_length (ss := ss) (ls := ls) ls.length
      have := HN.out
      unfold topsR maxLen
      split
      · omega
      · simp
    go_wp2_with fail
    refine (sameInts_any A3 A4 _ c3 _ c4 _ _ (topsR ss ls) (topsR ss ls) _ HI3.out HI4.out HM.out HM.out).mono ?_
    rintro e w4 ⟨rfl, hb4⟩
    have HB4 := Lib.hid (HB3.out.trans (hb4.mono HB3.out.size))
    replace HL := Lib.hid (HL.out.on hb4)
    replace HL2 := Lib.hid (HL2.out.on hb4)
    clear hb4
    rw [sameI_self]
    have g1 : (topsE ss ls == topsE ss ls) = true := by simp
    go_wp2_with (go_at_call 16; refine (num_any _ _).mono ?_; rintro e w' ⟨rfl, rfl⟩)
    refine (sameLits_true A2 A1 n1 c2 c1 ls _ HL2.out (by omega) HL.out).mono ?_
    rintro e w5 ⟨rfl, hb5⟩
    have HB5 := Lib.hid (HB4.out.trans (hb5.mono HB4.out.size))
    clear hb5
    go_wp2_with fail
    refine (awakeL_any _).mono ?_
    rintro e w6 ⟨rfl, hb6⟩
    have HB6 := Lib.hid (HB5.out.trans (hb6.mono HB5.out.size))
    clear hb6
    go_wp2
    go_ret
    exact ⟨rfl, HB6.out⟩
end Go.Proofs.Ytiekgdohanahlaa
