/-
  The walk of the law TermTells.
-/
import Derived.Test.YtmjopiobahaggaaWords
import Derived.Test.YtmjopiobahaggaaRefDeep
namespace Go.Proofs.Ytmjopiobahaggaa
open Go.RowKit
set_option linter.unusedSimpArgs false
set_option linter.unusedVariables false

theorem varsOf_len (ss : List Sym) (r : List Int) : (varsOf ss r).length ≤ maxLen := by
  unfold varsOf
  cases hb : rowB ss r
  · simp
  · have := varsN_length r 24
    simp only [if_true]; unfold maxLen; omega

set_option maxHeartbeats 4000000 in
set_option maxRecDepth 100000 in
theorem termTells_walk (A A' : Option Addr) (n c m c' : Nat) (ss : List Sym) (r : List Int) (w : World) (h : SymsAt w w.heap.size A n ss) (hn : n ≤ maxLen) (hnc : n ≤ c) (hr : IntsAt w w.heap.size A' m r) (hm8 : m * 8 ≤ 140737488351232) (hmc : m ≤ c') :
    Calls Try.prog 4 #[.slice A n c, .slice A' m c'] w fun e w' => e = .returned (.bool true) ∧ Below w.heap.size w w' := by
  have HB0 : Hid (Below w.heap.size w w) := Below.refl _ _
  have HS := Lib.hid h
  have HR := Lib.hid hr
  have HL := Lib.hid hr.len
  have hm : m ≤ maxLen := by unfold maxLen; omega
  clear h hr
  go_enter Try.func4, Try.ntmps4
  go_wp2_with fail
  refine (lendInts_any A' m c' r _ HR.out hm8).mono ?_
  rintro e w1 ⟨v1, rfl, hv1, hb1⟩
  have HB1 := Lib.hid (HB0.out.trans (hb1.mono HB0.out.size))
  replace HS := Lib.hid (HS.out.on hb1)
  replace HR := Lib.hid (HR.out.on hb1)
  clear hb1
  have HV := Lib.hid hv1
  obtain ⟨C, cap, rfl, hcap, hi1⟩ := hv1.ints
  rw [HL.out] at hcap hi1
  have HI := Lib.hid hi1
  clear hv1 hi1
  rw [HL.out]
  go_wp2_with fail
  refine (vars_any A C n c m cap ss r _ HS.out hn hnc HI.out hm).mono ?_
  rintro e w2 ⟨v2, rfl, hv2, hb2⟩
  have HB2 := Lib.hid (HB1.out.trans (hb2.mono HB1.out.size))
  replace HS := Lib.hid (HS.out.on hb2)
  replace HR := Lib.hid (HR.out.on hb2)
  replace HV := Lib.hid (HV.out.on hb2)
  replace HI := Lib.hid (HI.out.on hb2)
  clear hb2
  obtain ⟨C2, cap2, rfl, hcap2, hi2⟩ := hv2.intsAt
  have HI2 := Lib.hid hi2
  clear hv2 hi2
  go_wp2_with fail
  refine (refVars_any A A' n c m c' ss r _ HS.out hn HR.out hm).mono ?_
  rintro e w3 ⟨v3, rfl, hv3, hb3⟩
  have HB3 := Lib.hid (HB2.out.trans (hb3.mono HB2.out.size))
  replace HS := Lib.hid (HS.out.on hb3)
  replace HR := Lib.hid (HR.out.on hb3)
  replace HV := Lib.hid (HV.out.on hb3)
  replace HI := Lib.hid (HI.out.on hb3)
  replace HI2 := Lib.hid (HI2.out.on hb3)
  clear hb3
  obtain ⟨C3, cap3, rfl, hcap3, hi3⟩ := hv3.intsAt
  have HI3 := Lib.hid hi3
  clear hv3 hi3
  go_wp2_with fail
  refine (weight_any A C n c m cap ss r _ HS.out hn hnc HI.out hm).mono ?_
  rintro e w4 ⟨rfl, hb4⟩
  have HB4 := Lib.hid (HB3.out.trans (hb4.mono HB3.out.size))
  replace HS := Lib.hid (HS.out.on hb4)
  replace HR := Lib.hid (HR.out.on hb4)
  replace HV := Lib.hid (HV.out.on hb4)
  replace HI := Lib.hid (HI.out.on hb4)
  replace HI2 := Lib.hid (HI2.out.on hb4)
  replace HI3 := Lib.hid (HI3.out.on hb4)
  clear hb4
  go_wp2_with fail
  refine (refWeight_any A A' n c m c' ss r _ HS.out hn HR.out hm).mono ?_
  rintro e w5 ⟨rfl, hb5⟩
  have HB5 := Lib.hid (HB4.out.trans (hb5.mono HB4.out.size))
  replace HS := Lib.hid (HS.out.on hb5)
  replace HR := Lib.hid (HR.out.on hb5)
  replace HV := Lib.hid (HV.out.on hb5)
  replace HI := Lib.hid (HI.out.on hb5)
  replace HI2 := Lib.hid (HI2.out.on hb5)
  replace HI3 := Lib.hid (HI3.out.on hb5)
  clear hb5
  go_wp2_with fail
  refine (deep_any A C n c m cap ss r _ HS.out hn hnc HI.out hm).mono ?_
  rintro e w6 ⟨rfl, hb6⟩
  have HB6 := Lib.hid (HB5.out.trans (hb6.mono HB5.out.size))
  replace HS := Lib.hid (HS.out.on hb6)
  replace HR := Lib.hid (HR.out.on hb6)
  replace HV := Lib.hid (HV.out.on hb6)
  replace HI := Lib.hid (HI.out.on hb6)
  replace HI2 := Lib.hid (HI2.out.on hb6)
  replace HI3 := Lib.hid (HI3.out.on hb6)
  clear hb6
  go_wp2_with fail
  refine (refDeep_any A A' n c m c' ss r _ HS.out hn HR.out hm hmc).mono ?_
  rintro e w7 ⟨rfl, hb7⟩
  have HB7 := Lib.hid (HB6.out.trans (hb7.mono HB6.out.size))
  replace HS := Lib.hid (HS.out.on hb7)
  replace HR := Lib.hid (HR.out.on hb7)
  replace HV := Lib.hid (HV.out.on hb7)
  replace HI := Lib.hid (HI.out.on hb7)
  replace HI2 := Lib.hid (HI2.out.on hb7)
  replace HI3 := Lib.hid (HI3.out.on hb7)
  clear hb7
  go_wp2_with fail
  refine (sameInts_any _ _ _ cap2 _ cap3 _ _ (varsOf ss r) (varsOf ss r) _ HI2.out HI3.out (varsOf_len ss r) (varsOf_len ss r)).mono ?_
  rintro e w8 ⟨rfl, hb8⟩
  have HB8 := Lib.hid (HB7.out.trans (hb8.mono HB7.out.size))
  replace HR := Lib.hid (HR.out.on hb8)
  replace HV := Lib.hid (HV.out.on hb8)
  clear hb8
  rw [sameI_self]
  go_wp2_with (go_at_call 16; refine (num_any _ _).mono ?_; rintro e w' ⟨rfl, rfl⟩)
  rw [HL.out] at HV
  refine (keptInts_any _ _ A' m c' r _ HV.out HR.out hm8).mono ?_
  rintro e w9 ⟨rfl, hb9⟩
  have HB9 := Lib.hid (HB8.out.trans (hb9.mono HB8.out.size))
  clear hb9
  go_wp2_with fail
  refine (awake_any _).mono ?_
  rintro e w10 ⟨rfl, hb10⟩
  have HB10 := Lib.hid (HB9.out.trans (hb10.mono HB9.out.size))
  clear hb10
  go_wp2
  go_ret
  exact ⟨rfl, HB10.out⟩

end Go.Proofs.Ytmjopiobahaggaa
