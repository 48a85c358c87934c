/-
  The walk of the law Binds.
-/
import Derived.Test.YtjclcogjdodjpaaAwake3
import Derived.Test.YtjclcogjdodjpaaRefBind2
namespace Go.Proofs.Ytjclcogjdodjpaa
open Go.RowKit
set_option linter.unusedSimpArgs false
set_option linter.unusedVariables false

theorem applyR_short (ss : List Sym) (bs : List Bd) (r : List Int) : (applyR ss bs r).length ≤ 48 := by
  unfold applyR
  split
  · rename_i h
    simp only [Bool.and_eq_true, decide_eq_true_eq] at h
    exact h.2
  · simp

set_option maxHeartbeats 4000000 in
theorem binds_walk (A0 A1 A2 : Option Addr) (n0 c0 n1 c1 n2 c2 : Nat) (ss : List Sym) (bs : List Bd) (r : List Int) (w : World) (hs : SymsAt w w.heap.size A0 n0 ss) (hn0 : n0 ≤ maxLen) (hnc : n0 ≤ c0) (hb : BindsAt w w.heap.size A1 n1 bs) (hn1 : n1 ≤ 4398046511104) (hr : IntsAt w w.heap.size A2 n2 r) (hn2 : n2 * 8 ≤ 140737488351232) :
    Calls Try.prog 3 #[.slice A0 n0 c0, .slice A1 n1 c1, .slice A2 n2 c2] w fun e w' => e = .returned (.bool true) ∧ Below w.heap.size w w' := by
  have HS := Lib.hid hs
  have HB := Lib.hid hb
  have HR := Lib.hid hr
  have HLR := Lib.hid hr.len
  have HLB := Lib.hid hb.len
  have HFIT := Lib.hid hb.fit
  rw [← HLB.out] at HFIT
  have HB0 := Lib.hid (Below.refl w.heap.size w)
  have hn2' : n2 ≤ maxLen := by unfold maxLen; omega
  clear hs hb hr
  go_enter Try.func3, Try.ntmps3
  go_wp2_with fail
  refine (lendInts_any A2 n2 c2 r _ HR.out hn2).mono ?_
  rintro e w1 ⟨v1, rfl, hx1, hb1⟩
  have HB1 := Lib.hid (HB0.out.trans (hb1.mono HB0.out.size))
  replace HS := Lib.hid (HS.out.on hb1)
  replace HB := Lib.hid (HB.out.on hb1)
  replace HR := Lib.hid (HR.out.on hb1)
  clear hb1
  have HX := Lib.hid hx1
  clear hx1
  go_wp2_with fail
  refine (copyBinds_any A1 n1 c1 bs _ HB.out hn1).mono ?_
  rintro e w2 ⟨v2, rfl, hv2, hb2⟩
  have HB2 := Lib.hid (HB1.out.trans (hb2.mono HB1.out.size))
  replace HS := Lib.hid (HS.out.on hb2)
  replace HB := Lib.hid (HB.out.on hb2)
  replace HR := Lib.hid (HR.out.on hb2)
  replace HX := Lib.hid (HX.out.on hb2)
  clear hb2
  obtain ⟨A4, c4, rfl, _, hw2⟩ := hv2.bindsAt HFIT.out
  rw [HLB.out] at hw2 ⊢
  have HWAS := Lib.hid hw2
  clear hv2 hw2
  have HBW := HB2
  clear HB2
  have HB2 := Lib.hid (Below.refl w2.heap.size w2)
  obtain ⟨A5, c5, rfl, _, hx5⟩ := HX.out.ints
  rw [HLR.out] at hx5 ⊢
  have HX5 := Lib.hid hx5
  clear hx5
  go_wp2_with fail
  refine (apply_any A0 A1 A5 n0 c0 n1 c1 n2 c5 ss bs r _ HS.out hn0 hnc HB.out hn1 HX5.out hn2').mono ?_
  rintro e w3 ⟨v3, rfl, hv3, hb3⟩
  have HB3 := Lib.hid (HB2.out.trans (hb3.mono HB2.out.size))
  clear hb3
  have HV3 := Lib.hid hv3
  clear hv3
  rw [HLR.out] at HX
  obtain ⟨E, hE⟩ : ∃ E, E = applyE ss bs r := ⟨_, rfl⟩
  obtain ⟨L, hL⟩ : ∃ L, L = (applyR ss bs r).length := ⟨_, rfl⟩
  have hL48 : L ≤ 48 := by rw [hL]; exact applyR_short ss bs r
  have HE := Lib.hid hE
  have HLL := Lib.hid hL
  obtain ⟨A6, c6, rfl, _, _⟩ := HV3.out.intsAt
  rw [← hE]
  rw [← hL] at HV3 ⊢
  clear hE hL
  go_wp2_with fail
  refine (refApply_any A0 A1 A2 n0 c0 n1 c1 n2 c2 ss bs r _ (HS.out.on HB3.out) hn0 (HB.out.on HB3.out) hn1 (HR.out.on HB3.out) hn2').mono ?_
  rintro e w4 ⟨v4, rfl, hv4, hb4⟩
  have HB4 := Lib.hid (HB3.out.trans (hb4.mono HB3.out.size))
  replace HV3 := Lib.hid (HV3.out.on hb4)
  clear hb4
  have HV4 := Lib.hid hv4
  clear hv4
  obtain ⟨A7, c7, rfl, _, _⟩ := HV4.out.intsAt
  rw [← HE.out]
  rw [← HLL.out] at HV4 ⊢
  obtain ⟨B, hB⟩ : ∃ B, B = bindB ss bs := ⟨_, rfl⟩
  have HBB := Lib.hid hB
  clear hB
  have gB : (B != B) = false := by simp
  have gE : (E != E) = false := by simp
  go_wp2_with fail
  refine (bindMay_any A0 A1 n0 c0 n1 c1 ss bs _ (HS.out.on HB4.out) hn0 hnc (HB.out.on HB4.out) hn1).mono ?_
  rintro e w5 ⟨rfl, hb5⟩
  have HB5 := Lib.hid (HB4.out.trans (hb5.mono HB4.out.size))
  replace HV3 := Lib.hid (HV3.out.on hb5)
  replace HV4 := Lib.hid (HV4.out.on hb5)
  clear hb5
  rw [← HBB.out]
  go_wp2_with fail
  refine (refBindMay_any A0 A1 n0 c0 n1 c1 ss bs _ (HS.out.on HB5.out) hn0 (HB.out.on HB5.out) hn1).mono ?_
  rintro e w6 ⟨rfl, hb6⟩
  have HB6 := Lib.hid (HB5.out.trans (hb6.mono HB5.out.size))
  replace HV3 := Lib.hid (HV3.out.on hb6)
  replace HV4 := Lib.hid (HV4.out.on hb6)
  clear hb6
  rw [← HBB.out]
  have HI6 : Hid (IntsAt w6 w6.heap.size A6 L (applyR ss bs r)) := by
    obtain ⟨A', c', e, _, h⟩ := HV3.out.intsAt
    injection e with e1 e2 e3
    rw [e1, e2]; exact h
  have HI7 : Hid (IntsAt w6 w6.heap.size A7 L (applyR ss bs r)) := by
    obtain ⟨A', c', e, _, h⟩ := HV4.out.intsAt
    injection e with e1 e2 e3
    rw [e1, e2]; exact h
  go_wp2_with fail
  refine (sameInts_any A6 A7 L c6 L c7 _ _ _ _ _ HI6.out HI7.out (len_small (by omega)) (len_small (by omega))).mono ?_
  rintro e w7 ⟨rfl, hb7⟩
  have HB7 := Lib.hid (HB6.out.trans (hb7.mono HB6.out.size))
  replace HV3 := Lib.hid (HV3.out.on hb7)
  clear hb7
  rw [sameI_self]
  go_wp2_with (go_at_call 17; refine (num_any _ _).mono ?_; rintro e w' ⟨rfl, rfl⟩)
  go_wp2_with fail
  refine (spoilInts_any _ w2.heap.size L _ ⟨_, HLL.out.symm, HV3.out⟩ (by omega)).mono ?_
  rintro e w8 ⟨rfl, hsp⟩
  have HB8 := Lib.hid (HB7.out.trans hsp.bel)
  clear hsp HI6 HI7
  go_wp2_with fail
  refine (keptInts_any _ _ A2 n2 c2 r _ (HX.out.on HB8.out) (HR.out.on HB8.out) hn2).mono ?_
  rintro e w9 ⟨rfl, hb9⟩
  have HB9 := Lib.hid (HB8.out.trans (hb9.mono HB8.out.size))
  clear hb9
  go_wp2_with fail
  refine (sameBinds_true A1 A4 n1 c1 c4 bs _ (HB.out.on HB9.out) hn1 (HWAS.out.on HB9.out)).mono ?_
  rintro e w10 ⟨rfl, hb10⟩
  have HB10 := Lib.hid (HB9.out.trans (hb10.mono HB9.out.size))
  clear hb10
  go_wp2_with fail
  refine (awake_any _).mono ?_
  rintro e w11 ⟨rfl, hb11⟩
  have HB11 := Lib.hid (HB10.out.trans (hb11.mono HB10.out.size))
  clear hb11
  go_wp2
  go_ret
  exact ⟨rfl, HBW.out.trans (HB11.out.mono HBW.out.size)⟩

end Go.Proofs.Ytjclcogjdodjpaa
