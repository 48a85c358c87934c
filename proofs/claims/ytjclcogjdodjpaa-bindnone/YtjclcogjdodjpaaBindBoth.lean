/-
  The walk of the law BindBoth.
-/
import Derived.Test.YtjclcogjdodjpaaAwake3
import Derived.Test.YtjclcogjdodjpaaBindThens
import Derived.Test.YtjclcogjdodjpaaBinds
namespace Go.Proofs.Ytjclcogjdodjpaa
open Go.RowKit
set_option linter.unusedSimpArgs false
set_option linter.unusedVariables false

theorem applyE_zero {ss : List Sym} {bs : List Bd} {r : List Int} (h : applyE ss bs r = 0) : bindB ss bs = true ∧ rowB ss r = true ∧ (put bs r).length ≤ 48 ∧ applyR ss bs r = put bs r := by
  unfold applyE at h
  cases h1 : bindB ss bs && rowB ss r
  · rw [h1] at h; simp at h
  · rw [h1] at h
    simp at h
    by_cases h2 : (put bs r).length ≤ 48
    · obtain ⟨q1, q2⟩ := Bool.and_eq_true_iff.1 h1
      refine ⟨q1, q2, h2, ?_⟩
      unfold applyR
      rw [h1]
      simp [h2]
    · omega
theorem applyE_good {ss : List Sym} {bs : List Bd} {r : List Int} (h1 : bindB ss bs = true) (h2 : rowB ss r = true) (h3 : (put bs r).length ≤ 48) : applyE ss bs r = 0 ∧ applyR ss bs r = put bs r := by
  unfold applyE applyR; rw [h1, h2]; simp [h3]
theorem applyE_long {ss : List Sym} {bs : List Bd} {r : List Int} (h1 : bindB ss bs = true) (h2 : rowB ss r = true) (h3 : 48 < (put bs r).length) : applyE ss bs r = 301 ∧ applyR ss bs r = [] := by
  unfold applyE applyR; rw [h1, h2]
  have : ¬ (put bs r).length ≤ 48 := by omega
  simp [this]
theorem thenE_zero {ss : List Sym} {bs us : List Bd} (h : thenE ss bs us = 0) : bindB ss bs = true ∧ bindB ss us = true ∧ bothB bs us = true ∧ thenR ss bs us = both bs us := by
  unfold thenE at h
  cases h1 : bindB ss bs && bindB ss us
  · rw [h1] at h; simp at h
  · rw [h1] at h
    simp at h
    cases h2 : bothB bs us
    · rw [h2] at h; simp at h
    · obtain ⟨q1, q2⟩ := Bool.and_eq_true_iff.1 h1
      refine ⟨q1, q2, rfl, ?_⟩
      unfold thenR
      rw [h1, h2]; rfl
/-- What is done by both at once. -/
theorem both_apply {ss : List Sym} {bs us : List Bd} {r : List Int} (h1 : thenE ss bs us = 0) (h2 : applyE ss bs r = 0) (h3 : applyE ss us (applyR ss bs r) = 0) :
    applyE ss (thenR ss bs us) r = 0 ∧ applyR ss (thenR ss bs us) r = applyR ss us (applyR ss bs r) ∧ bindB ss (thenR ss bs us) = true := by
  obtain ⟨t1, t2, t3, t4⟩ := thenE_zero h1
  obtain ⟨a1, a2, a3, a4⟩ := applyE_zero h2
  obtain ⟨b1, b2, b3, b4⟩ := applyE_zero h3
  have hv := both_valid t1 t2 t3
  rw [t4, b4, a4]
  rw [a4] at b3
  obtain ⟨_, _, hms⟩ := row_parts a2
  have hp := put_both (bs := bs) (us := us) (row_codes hms)
  rw [← hp] at b3 ⊢
  obtain ⟨q1, q2⟩ := applyE_good hv a2 b3
  exact ⟨q1, q2, hv⟩

set_option maxHeartbeats 4000000 in
theorem bindBoth_walk (A0 A1 A2 A3 : Option Addr) (n0 c0 n1 c1 n2 c2 n3 c3 : Nat) (ss : List Sym) (bs us : List Bd) (r : List Int) (w : World) (hs : SymsAt w w.heap.size A0 n0 ss) (hn0 : n0 ≤ maxLen) (hnc : n0 ≤ c0) (hb : BindsAt w w.heap.size A1 n1 bs) (hn1 : n1 ≤ 4398046511104) (hu : BindsAt w w.heap.size A2 n2 us) (hn2 : n2 ≤ 4398046511104)
    (hr : IntsAt w w.heap.size A3 n3 r) (hn3 : n3 ≤ maxLen) :
    Calls Try.prog 5 #[.slice A0 n0 c0, .slice A1 n1 c1, .slice A2 n2 c2, .slice A3 n3 c3] w fun e w' => e = .returned (.bool true) ∧ Below w.heap.size w w' := by
  have HS := Lib.hid hs
  have HB := Lib.hid hb
  have HU := Lib.hid hu
  have HR := Lib.hid hr
  have HB0 := Lib.hid (Below.refl w.heap.size w)
  clear hs hb hu hr
  go_enter Try.func5, Try.ntmps5
  go_wp2_with fail
  refine (awake_any _).mono ?_
  rintro e w1 ⟨rfl, hb1⟩
  have HB1 := Lib.hid (HB0.out.trans (hb1.mono HB0.out.size))
  replace HS := Lib.hid (HS.out.on hb1)
  replace HB := Lib.hid (HB.out.on hb1)
  replace HU := Lib.hid (HU.out.on hb1)
  replace HR := Lib.hid (HR.out.on hb1)
  clear hb1
  go_wp2_with fail
  refine (then_any A0 A1 A2 n0 c0 n1 c1 n2 c2 ss bs us _ HS.out hn0 hnc HB.out hn1 HU.out hn2).mono ?_
  rintro e w2 ⟨v2, rfl, hv2, hb2⟩
  have HB2 := Lib.hid (HB1.out.trans (hb2.mono HB1.out.size))
  replace HS := Lib.hid (HS.out.on hb2)
  replace HB := Lib.hid (HB.out.on hb2)
  replace HU := Lib.hid (HU.out.on hb2)
  replace HR := Lib.hid (HR.out.on hb2)
  clear hb2
  have HV2 := Lib.hid hv2
  clear hv2
  obtain ⟨q1, q2⟩ := thenR_short ss bs us
  have HF : Hid (∀ i, i < (thenR ss bs us).length → (bdAt (thenR ss bs us) i).t.length * 8 ≤ 140737488351232) := fun i hi => by have := q2 i hi; omega
  obtain ⟨A5, c5, rfl, _, ht⟩ := HV2.out.bindsAt HF.out
  have HT := Lib.hid ht
  obtain ⟨L, hL⟩ : ∃ L, L = (thenR ss bs us).length := ⟨_, rfl⟩
  rw [← hL] at HT ⊢ q1
  obtain ⟨E1, hE1⟩ : ∃ E, E = thenE ss bs us := ⟨_, rfl⟩
  rw [← hE1]
  have HE1 := Lib.hid hE1
  clear ht HV2 q2 hL hE1
  go_wp2_with fail
  refine (apply_any A0 A1 A3 n0 c0 n1 c1 n3 c3 ss bs r _ HS.out hn0 hnc HB.out hn1 HR.out hn3).mono ?_
  rintro e w3 ⟨v3, rfl, hv3, hb3⟩
  have HB3 := Lib.hid (HB2.out.trans (hb3.mono HB2.out.size))
  replace HS := Lib.hid (HS.out.on hb3)
  replace HB := Lib.hid (HB.out.on hb3)
  replace HU := Lib.hid (HU.out.on hb3)
  replace HR := Lib.hid (HR.out.on hb3)
  replace HT := Lib.hid (HT.out.on hb3)
  clear hb3
  obtain ⟨A6, c6, rfl, _, ha⟩ := hv3.intsAt
  have HA := Lib.hid ha
  obtain ⟨M, hM⟩ : ∃ M, M = (applyR ss bs r).length := ⟨_, rfl⟩
  have hM48 : M ≤ 48 := by rw [hM]; exact applyR_short ss bs r
  rw [← hM] at HA ⊢
  obtain ⟨E2, hE2⟩ : ∃ E, E = applyE ss bs r := ⟨_, rfl⟩
  rw [← hE2]
  have HE2 := Lib.hid hE2
  clear ha hv3 hM hE2
  go_wp2_with fail
  refine (apply_any A0 A2 A6 n0 c0 n2 c2 M c6 ss us (applyR ss bs r) _ HS.out hn0 hnc HU.out hn2 HA.out (len_small (by omega))).mono ?_
  rintro e w4 ⟨v4, rfl, hv4, hb4⟩
  have HB4 := Lib.hid (HB3.out.trans (hb4.mono HB3.out.size))
  replace HS := Lib.hid (HS.out.on hb4)
  replace HB := Lib.hid (HB.out.on hb4)
  replace HU := Lib.hid (HU.out.on hb4)
  replace HR := Lib.hid (HR.out.on hb4)
  replace HT := Lib.hid (HT.out.on hb4)
  replace HA := Lib.hid (HA.out.on hb4)
  clear hb4
  obtain ⟨A7, c7, rfl, _, ha⟩ := hv4.intsAt
  have HC := Lib.hid ha
  obtain ⟨N, hN⟩ : ∃ N, N = (applyR ss us (applyR ss bs r)).length := ⟨_, rfl⟩
  have hN48 : N ≤ 48 := by rw [hN]; exact applyR_short ss us _
  rw [← hN] at HC ⊢
  obtain ⟨E3, hE3⟩ : ∃ E, E = applyE ss us (applyR ss bs r) := ⟨_, rfl⟩
  rw [← hE3]
  have HE3 := Lib.hid hE3
  clear ha hv4 hE3
  by_cases z1 : E1 = 0
  · subst z1
    by_cases z2 : E2 = 0
    · subst z2
      by_cases z3 : E3 = 0
      · subst z3
        obtain ⟨p1, p2, p3⟩ := both_apply HE1.out.symm HE2.out.symm HE3.out.symm
        have P1 := Lib.hid p1
        have P2 := Lib.hid p2
        have P3 := Lib.hid p3
        have HN := Lib.hid hN
        clear p1 p2 p3 hN
        go_wp2_with (go_at_call 17; refine (num_any _ _).mono ?_; rintro e w' ⟨rfl, rfl⟩)
        go_wp2_with fail
        refine (apply_any A0 A5 A3 n0 c0 L c5 n3 c3 ss (thenR ss bs us) r _ HS.out hn0 hnc HT.out (by omega) HR.out hn3).mono ?_
        rintro e w5 ⟨v5, rfl, hv5, hb5⟩
        have HB5 := Lib.hid (HB4.out.trans (hb5.mono HB4.out.size))
        replace HS := Lib.hid (HS.out.on hb5)
        replace HT := Lib.hid (HT.out.on hb5)
        replace HC := Lib.hid (HC.out.on hb5)
        clear hb5
        rw [P1.out]
        rw [P2.out] at hv5
        obtain ⟨A8, c8, rfl, _, ha⟩ := hv5.intsAt
        have HD := Lib.hid ha
        rw [← HN.out] at HD ⊢
        clear ha hv5
        go_wp2_with (go_at_call 17; refine (num_any _ _).mono ?_; rintro e w' ⟨rfl, rfl⟩)
        go_wp2_with fail
        refine (sameInts_any A7 A8 N c7 N c8 _ _ _ _ _ HC.out HD.out (len_small (by omega)) (len_small (by omega))).mono ?_
        rintro e w6 ⟨rfl, hb6⟩
        have HB6 := Lib.hid (HB5.out.trans (hb6.mono HB5.out.size))
        replace HS := Lib.hid (HS.out.on hb6)
        replace HT := Lib.hid (HT.out.on hb6)
        clear hb6
        rw [sameI_self]
        go_wp2_with fail
        refine (bindMay_any A0 A5 n0 c0 L c5 ss (thenR ss bs us) _ HS.out hn0 hnc HT.out (by omega)).mono ?_
        rintro e w7 ⟨rfl, hb7⟩
        have HB7 := Lib.hid (HB6.out.trans (hb7.mono HB6.out.size))
        clear hb7
        rw [P3.out]
        go_wp2
        go_ret
        exact ⟨rfl, HB7.out⟩
      · have g3 : (E3 != 0) = true := by simpa using z3
        clear z3 hN
        go_wp2_with (go_at_call 17; refine (num_any _ _).mono ?_; rintro e w' ⟨rfl, rfl⟩)
        go_ret
        exact ⟨rfl, HB4.out⟩
    · have g2 : (E2 != 0) = true := by simpa using z2
      clear z2 hN
      go_wp2_with (go_at_call 17; refine (num_any _ _).mono ?_; rintro e w' ⟨rfl, rfl⟩)
      go_ret
      exact ⟨rfl, HB4.out⟩
  · have g1 : (E1 != 0) = true := by simpa using z1
    clear z1 hN
    go_wp2_with (go_at_call 17; refine (num_any _ _).mono ?_; rintro e w' ⟨rfl, rfl⟩)
    go_ret
    exact ⟨rfl, HB4.out⟩

end Go.Proofs.Ytjclcogjdodjpaa
