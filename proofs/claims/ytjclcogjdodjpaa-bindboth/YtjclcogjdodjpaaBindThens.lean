/-
  The walk of the law BindThens.
-/
import Derived.Test.YtjclcogjdodjpaaAwake3
import Derived.Test.YtjclcogjdodjpaaRefBind2
namespace Go.Proofs.Ytjclcogjdodjpaa
open Go.RowKit
set_option linter.unusedSimpArgs false
set_option linter.unusedVariables false

theorem thenR_short (ss : List Sym) (bs us : List Bd) : (thenR ss bs us).length ≤ 24 ∧ ∀ i, i < (thenR ss bs us).length → (bdAt (thenR ss bs us) i).t.length ≤ 48 := by
  unfold thenR
  split
  · rename_i h
    simp only [Bool.and_eq_true] at h
    refine ⟨?_, fun i hi => ?_⟩
    · unfold both
      have := List.length_filterMap_le (bothF bs us) (List.range 24)
      simpa using this
    · have hm := bdAt_mem hi
      unfold both at hm
      obtain ⟨v, hv, hf⟩ := List.mem_filterMap.1 hm
      obtain ⟨e, _⟩ := bothF_some hf
      unfold both
      rw [e]
      exact bothB_iff.1 h.2 v (by simpa using hv)
  · exact ⟨by simp, fun i hi => absurd hi (by simp)⟩

set_option maxHeartbeats 4000000 in
theorem bindThens_walk (A0 A1 A2 : Option Addr) (n0 c0 n1 c1 n2 c2 : Nat) (ss : List Sym) (bs us : List Bd) (w : World) (hs : SymsAt w w.heap.size A0 n0 ss) (hn0 : n0 ≤ maxLen) (hnc : n0 ≤ c0) (hb : BindsAt w w.heap.size A1 n1 bs) (hn1 : n1 ≤ 4398046511104) (hu : BindsAt w w.heap.size A2 n2 us) (hn2 : n2 ≤ 4398046511104) :
    Calls Try.prog 4 #[.slice A0 n0 c0, .slice A1 n1 c1, .slice A2 n2 c2] w fun e w' => e = .returned (.bool true) ∧ Below w.heap.size w w' := by
  have HS := Lib.hid hs
  have HB := Lib.hid hb
  have HU := Lib.hid hu
  have HLB := Lib.hid hb.len
  have HLU := Lib.hid hu.len
  have HFB := Lib.hid hb.fit
  have HFU := Lib.hid hu.fit
  rw [← HLB.out] at HFB
  rw [← HLU.out] at HFU
  have HB0 := Lib.hid (Below.refl w.heap.size w)
  clear hs hb hu
  go_enter Try.func4, Try.ntmps4
  go_wp2_with fail
  refine (copyBinds_any A1 n1 c1 bs _ HB.out hn1).mono ?_
  rintro e w1 ⟨v1, rfl, hv1, hb1⟩
  have HB1 := Lib.hid (HB0.out.trans (hb1.mono HB0.out.size))
  replace HS := Lib.hid (HS.out.on hb1)
  replace HB := Lib.hid (HB.out.on hb1)
  replace HU := Lib.hid (HU.out.on hb1)
  clear hb1
  obtain ⟨A4, c4, rfl, _, hw1⟩ := hv1.bindsAt HFB.out
  rw [HLB.out] at hw1 ⊢
  have HWB := Lib.hid hw1
  clear hv1 hw1
  go_wp2_with fail
  refine (copyBinds_any A2 n2 c2 us _ HU.out hn2).mono ?_
  rintro e w2 ⟨v2, rfl, hv2, hb2⟩
  have HB2 := Lib.hid (HB1.out.trans (hb2.mono HB1.out.size))
  replace HS := Lib.hid (HS.out.on hb2)
  replace HB := Lib.hid (HB.out.on hb2)
  replace HU := Lib.hid (HU.out.on hb2)
  replace HWB := Lib.hid (HWB.out.on hb2)
  clear hb2
  obtain ⟨A5, c5, rfl, _, hw2⟩ := hv2.bindsAt HFU.out
  rw [HLU.out] at hw2 ⊢
  have HWU := Lib.hid hw2
  clear hv2 hw2
  have HBW := HB2
  clear HB2
  have HB2 := Lib.hid (Below.refl w2.heap.size w2)
  go_wp2_with fail
  refine (then_any A0 A1 A2 n0 c0 n1 c1 n2 c2 ss bs us _ HS.out hn0 hnc HB.out hn1 HU.out hn2).mono ?_
  rintro e w3 ⟨v3, rfl, hv3, hb3⟩
  have HB3 := Lib.hid (HB2.out.trans (hb3.mono HB2.out.size))
  clear hb3
  have HV3 := Lib.hid hv3
  clear hv3
  obtain ⟨T, hT⟩ : ∃ T, T = thenR ss bs us := ⟨_, rfl⟩
  obtain ⟨E, hE⟩ : ∃ E, E = thenE ss bs us := ⟨_, rfl⟩
  obtain ⟨q1, q2⟩ := thenR_short ss bs us
  rw [← hT] at q1 q2 HV3
  have HT := Lib.hid hT
  have HE := Lib.hid hE
  have HSH := Lib.hid q2
  have HF : Hid (∀ i, i < T.length → (bdAt T i).t.length * 8 ≤ 140737488351232) := fun i hi => by have := HSH.out i hi; omega
  have HF2 : Hid (∀ i, i < T.length → (bdAt T i).t.length ≤ 17592186044416) := fun i hi => by have := HSH.out i hi; omega
  obtain ⟨L, hL⟩ : ∃ L, L = T.length := ⟨_, rfl⟩
  have hL24 : L ≤ 24 := by rw [hL]; exact q1
  obtain ⟨A6, c6, rfl, _, _⟩ := HV3.out.bindsAt HF.out
  have HLL := Lib.hid hL
  rw [← hE]
  rw [← hL] at HV3 ⊢
  clear hT hE q1 q2 hL
  go_wp2_with fail
  refine (refThen_any A0 A1 A2 n0 c0 n1 c1 n2 c2 ss bs us _ (HS.out.on HB3.out) hn0 (HB.out.on HB3.out) hn1 (HU.out.on HB3.out) hn2).mono ?_
  rintro e w4 ⟨v4, rfl, hv4, hb4⟩
  have HB4 := Lib.hid (HB3.out.trans (hb4.mono HB3.out.size))
  replace HV3 := Lib.hid (HV3.out.on hb4)
  clear hb4
  rw [← HT.out] at hv4
  have HV4 := Lib.hid hv4
  clear hv4
  obtain ⟨A7, c7, rfl, _, _⟩ := HV4.out.bindsAt HF.out
  rw [← HE.out]
  rw [← HLL.out] at HV4 ⊢
  have gE : (E != E) = false := by simp
  have HI6 : Hid (BindsAt w4 w4.heap.size A6 L T) := by
    obtain ⟨A', c', e, _, h⟩ := HV3.out.bindsAt HF.out
    injection e with e1 e2 e3
    rw [e1, e2]; exact h
  have HI7 : Hid (BindsAt w4 w4.heap.size A7 L T) := by
    obtain ⟨A', c', e, _, h⟩ := HV4.out.bindsAt HF.out
    injection e with e1 e2 e3
    rw [e1, e2]; exact h
  go_wp2_with fail
  refine (sameBinds_true A6 A7 L c6 c7 T _ HI6.out (by omega) HI7.out).mono ?_
  rintro e w5 ⟨rfl, hb5⟩
  have HB5 := Lib.hid (HB4.out.trans (hb5.mono HB4.out.size))
  replace HV3 := Lib.hid (HV3.out.on hb5)
  clear hb5
  go_wp2_with (go_at_call 17; refine (num_any _ _).mono ?_; rintro e w' ⟨rfl, rfl⟩)
  go_wp2_with fail
  refine (spoilBinds_any _ w2.heap.size T _ HV3.out (by rw [← HLL.out]; omega) HF2.out).mono ?_
  rintro e w6 ⟨rfl, hsp⟩
  have HB6 := Lib.hid (HB5.out.trans hsp)
  clear hsp HI6 HI7
  go_wp2_with fail
  refine (sameBinds_true A1 A4 n1 c1 c4 bs _ (HB.out.on HB6.out) hn1 (HWB.out.on HB6.out)).mono ?_
  rintro e w7 ⟨rfl, hb7⟩
  have HB7 := Lib.hid (HB6.out.trans (hb7.mono HB6.out.size))
  clear hb7
  go_wp2_with fail
  refine (sameBinds_true A2 A5 n2 c2 c5 us _ (HU.out.on HB7.out) hn2 (HWU.out.on HB7.out)).mono ?_
  rintro e w8 ⟨rfl, hb8⟩
  have HB8 := Lib.hid (HB7.out.trans (hb8.mono HB7.out.size))
  clear hb8
  go_wp2_with fail
  refine (awake_any _).mono ?_
  rintro e w9 ⟨rfl, hb9⟩
  have HB9 := Lib.hid (HB8.out.trans (hb9.mono HB8.out.size))
  clear hb9
  go_wp2
  go_ret
  exact ⟨rfl, HBW.out.trans (HB9.out.mono HBW.out.size)⟩

end Go.Proofs.Ytjclcogjdodjpaa
