/-
  The walk of the law UnifyAny.
-/
import Derived.Test.YtlpafnaokpjoiaaUnifySames
namespace Go.Proofs.Ytlpafnaokpjoiaa
open Go.RowKit
set_option linter.unusedSimpArgs false
set_option linter.unusedVariables false
set_option maxRecDepth 100000

section
variable {ss : List Sym} {bs us : List Bd} {a b r : List Int} {E : Int} {is : Bool}
theorem ap_good (h1 : bindB ss bs = true) (h2 : rowB ss r = true) (h3 : (put bs r).length ≤ 48) : applyE ss bs r = 0 ∧ applyR ss bs r = put bs r := by
  unfold applyE applyR; rw [h1, h2]; simp [h3]
theorem any_told (h1 : applyE ss us a = 0) (h2 : applyE ss us b = 0) (h3 : applyR ss us a = applyR ss us b) (hu : UniR ss a b E is bs) :
    E = 0 ∧ is = true ∧ thenE ss bs us = 0 ∧ applyE ss (thenR ss bs us) a = 0 ∧ applyR ss (thenR ss bs us) a = applyR ss us a := by
  obtain ⟨a1, a2, a3, a4⟩ := ap_zero h1
  obtain ⟨b1, b2, b3, b4⟩ := ap_zero h2
  have hθ := fn_sub a1
  have he : ap (fnB us) a = ap (fnB us) b := by rw [← put_fn, ← put_fn, ← a4, ← b4]; exact h3
  have his := hu.there a2 b2 hθ he (fun v hv => (fn_term a1 hv).2)
  subst his
  obtain ⟨e0, _, _, σ, hc, hl, rfl⟩ := hu.yes
  have hv := bdsOf_valid (row_parts a2).1 hc.sub hl
  have hmg : ∀ v, v < 24 → ap (fnB us) (σ v) = fnB us v := hc.mgu _ hθ he
  have hb : ∀ v, v < 24 → bothV (bdsOf σ 24) us v = fnB us v := fun v hv => by
    unfold bothV
    rw [← put_one, put_bdsOf (by simp; omega), ap_var, put_fn, hmg v hv]
  have hB : bothB (bdsOf σ 24) us = true := bothB_iff.2 fun v hv => by rw [hb v hv]; exact (fn_term a1 hv).2
  have ht : thenE ss (bdsOf σ 24) us = 0 ∧ thenR ss (bdsOf σ 24) us = both (bdsOf σ 24) us := by
    unfold thenE thenR; rw [hv, a1, hB]; exact ⟨rfl, rfl⟩
  have hp : put (both (bdsOf σ 24) us) a = put us a := by
    rw [put_both (row_ge a2), put_bdsOf (row_ge a2), put_fn, put_fn, ap_ap]
    obtain ⟨k, hk⟩ := row_trm a2
    exact ap_on fun c hc' h0 => hmg _ (vnum hk hc' h0).1
  obtain ⟨g1, g2⟩ := ap_good (both_valid hv a1 hB) a2 (by rw [hp]; exact a3)
  refine ⟨e0, rfl, ht.1, ?_, ?_⟩
  · rw [ht.2]; exact g1
  · rw [ht.2, g2, hp, a4]
theorem then_short (ss : List Sym) (bs us : List Bd) : (thenR ss bs us).length ≤ 24 ∧ ∀ i, i < (thenR ss bs us).length → (bdAt (thenR ss bs us) i).t.length ≤ 48 := by
  unfold thenR
  split
  · rename_i h
    simp only [Bool.and_eq_true] at h
    refine ⟨?_, fun i hi => ?_⟩
    · unfold both
      have := List.length_filterMap_le (bothF bs us) (List.range 24)
      simpa using this
    · have hm := bdAt_mem hi
      unfold both at hm
      obtain ⟨v, hv, he⟩ := List.mem_filterMap.1 hm
      obtain ⟨e, _⟩ := bothF_some he
      show (bdAt ((List.range 24).filterMap (bothF bs us)) i).t.length ≤ 48
      rw [e]
      exact bothB_iff.1 h.2 v (by simpa using hv)
  · simp
end

set_option maxHeartbeats 1000000 in
theorem unifyAny_walk (A0 A1 A2 A3 : Option Addr) (n0 c0 n1 c1 n2 c2 n3 c3 : Nat) (ss : List Sym) (us : List Bd) (a b : List Int) (w : World) (hs : SymsAt w w.heap.size A0 n0 ss) (hn0 : n0 ≤ maxLen) (hnc : n0 ≤ c0) (hu : BindsAt w w.heap.size A1 n1 us) (hn1 : n1 ≤ 4398046511104) (ha : IntsAt w w.heap.size A2 n2 a) (hn2 : n2 ≤ maxLen) (hb : IntsAt w w.heap.size A3 n3 b) (hn3 : n3 ≤ maxLen) :
    Calls Try.prog 5 #[.slice A0 n0 c0, .slice A1 n1 c1, .slice A2 n2 c2, .slice A3 n3 c3] w fun e w' => e = .returned (.bool true) ∧ Below w.heap.size w w' := by
  have HS := Lib.hid hs
  have HU := Lib.hid hu
  have HA := Lib.hid ha
  have HB := Lib.hid hb
  have HB0 := Lib.hid (Below.refl w.heap.size w)
  clear hs hb ha hu
  go_enter Try.func5, Try.ntmps5
  go_wp2_with fail
  refine (awakeU_any _).mono ?_
  rintro e w1 ⟨rfl, hb1⟩
  have HB1 := Lib.hid (HB0.out.trans (hb1.mono HB0.out.size))
  replace HS := Lib.hid (HS.out.on hb1)
  replace HU := Lib.hid (HU.out.on hb1)
  replace HA := Lib.hid (HA.out.on hb1)
  replace HB := Lib.hid (HB.out.on hb1)
  clear hb1
  go_wp2_with fail
  refine (apply_any A0 A1 A2 n0 c0 n1 c1 n2 c2 ss us a _ HS.out hn0 hnc HU.out hn1 HA.out hn2).mono ?_
  rintro e w2 ⟨v2, rfl, hv2, hb2⟩
  have HB2 := Lib.hid (HB1.out.trans (hb2.mono HB1.out.size))
  replace HS := Lib.hid (HS.out.on hb2)
  replace HU := Lib.hid (HU.out.on hb2)
  replace HA := Lib.hid (HA.out.on hb2)
  replace HB := Lib.hid (HB.out.on hb2)
  clear hb2
  obtain ⟨A5, c5, rfl, _, ht⟩ := hv2.intsAt
  have HX := Lib.hid ht
  clear ht hv2
  go_wp2_with fail
  refine (apply_any A0 A1 A3 n0 c0 n1 c1 n3 c3 ss us b _ HS.out hn0 hnc HU.out hn1 HB.out hn3).mono ?_
  rintro e w3 ⟨v3, rfl, hv3, hb3⟩
  have HB3 := Lib.hid (HB2.out.trans (hb3.mono HB2.out.size))
  replace HS := Lib.hid (HS.out.on hb3)
  replace HU := Lib.hid (HU.out.on hb3)
  replace HA := Lib.hid (HA.out.on hb3)
  replace HB := Lib.hid (HB.out.on hb3)
  replace HX := Lib.hid (HX.out.on hb3)
  clear hb3
  obtain ⟨A6, c6, rfl, _, ht⟩ := hv3.intsAt
  have HY := Lib.hid ht
  clear ht hv3
  obtain ⟨E1, hE1⟩ : ∃ E1, E1 = applyE ss us a := ⟨_, rfl⟩
  obtain ⟨E2, hE2⟩ : ∃ E2, E2 = applyE ss us b := ⟨_, rfl⟩
  obtain ⟨L1, hL1⟩ : ∃ L1, L1 = (applyR ss us a).length := ⟨_, rfl⟩
  obtain ⟨L2, hL2⟩ : ∃ L2, L2 = (applyR ss us b).length := ⟨_, rfl⟩
  have hL48 : L1 ≤ 48 := by rw [hL1]; exact applyR_len ss us a
  have hL48' : L2 ≤ 48 := by rw [hL2]; exact applyR_len ss us b
  rw [← hE1, ← hE2, ← hL1, ← hL2]
  rw [← hL1] at HX
  rw [← hL2] at HY
  have HE1 := Lib.hid hE1
  have HE2 := Lib.hid hE2
  have HL1 := Lib.hid hL1
  clear hE1 hE2 hL1 hL2
  by_cases z1 : E1 = 0
  · subst z1
    by_cases z2 : E2 = 0
    · subst z2
      go_wp2_with (go_at_call 13; refine (num_any _ _).mono ?_; rintro e w' ⟨rfl, rfl⟩)
      refine (sameInts_any A5 A6 L1 c5 L2 c6 _ _ _ _ _ HX.out HY.out (len_small (by omega)) (len_small (by omega))).mono ?_
      rintro e w4 ⟨rfl, hb4⟩
      have HB4 := Lib.hid (HB3.out.trans (hb4.mono HB3.out.size))
      replace HS := Lib.hid (HS.out.on hb4)
      replace HU := Lib.hid (HU.out.on hb4)
      replace HA := Lib.hid (HA.out.on hb4)
      replace HB := Lib.hid (HB.out.on hb4)
      replace HX := Lib.hid (HX.out.on hb4)
      clear hb4 HY
      cases hsm : sameI (applyR ss us a) (applyR ss us b)
      · clear hsm
        go_wp2
        go_ret
        exact ⟨rfl, HB4.out⟩
      · have hEQ : applyR ss us a = applyR ss us b := of_decide_eq_true hsm
        have HEQ := Lib.hid hEQ
        clear hsm hEQ
        go_wp2_with fail
        refine (unify_any A0 A2 A3 n0 c0 n2 c2 n3 c3 ss a b _ HS.out hn0 hnc HA.out hn2 HB.out hn3).mono ?_
        rintro e w5 ⟨v5, E, is, bs, rfl, hv5, hb5, hu5⟩
        have HB5 := Lib.hid (HB4.out.trans (hb5.mono HB4.out.size))
        replace HS := Lib.hid (HS.out.on hb5)
        replace HU := Lib.hid (HU.out.on hb5)
        replace HA := Lib.hid (HA.out.on hb5)
        replace HX := Lib.hid (HX.out.on hb5)
        clear hb5
        obtain ⟨e0, e1, q1, q2, q3⟩ := any_told HE1.out.symm HE2.out.symm HEQ.out hu5
        subst e0; subst e1
        obtain ⟨hbl, hbt⟩ := hu5.few
        obtain ⟨A7, c7, rfl, _, ht⟩ := hv5.bindsAt hu5.fit
        have HT := Lib.hid ht
        have Q1 := Lib.hid q1
        have Q2 := Lib.hid q2
        have Q3 := Lib.hid q3
        obtain ⟨L, hL⟩ : ∃ L, L = bs.length := ⟨_, rfl⟩
        rw [← hL] at HT hbl ⊢
        clear ht hv5 hu5 hbt hL q1 q2 q3
        go_wp2_with (go_at_call 13; refine (num_any _ _).mono ?_; rintro e w' ⟨rfl, rfl⟩)
        go_wp2_with fail
        refine (then_any A0 A7 A1 n0 c0 L c7 n1 c1 ss bs us _ HS.out hn0 hnc HT.out (by omega) HU.out hn1).mono ?_
        rintro e w6 ⟨v6, rfl, hv6, hb6⟩
        have HB6 := Lib.hid (HB5.out.trans (hb6.mono HB5.out.size))
        replace HS := Lib.hid (HS.out.on hb6)
        replace HA := Lib.hid (HA.out.on hb6)
        replace HX := Lib.hid (HX.out.on hb6)
        clear hb6
        rw [Q1.out]
        obtain ⟨f1, f2⟩ := then_short ss bs us
        obtain ⟨A8, c8, rfl, _, ht⟩ := hv6.bindsAt (fun i hi => by have := f2 i hi; omega)
        have HT2 := Lib.hid ht
        obtain ⟨M, hM⟩ : ∃ M, M = (thenR ss bs us).length := ⟨_, rfl⟩
        rw [← hM] at HT2 f1 ⊢
        clear ht hv6 f2 hM
        go_wp2_with (go_at_call 13; refine (num_any _ _).mono ?_; rintro e w' ⟨rfl, rfl⟩)
        go_wp2_with fail
        refine (apply_any A0 A8 A2 n0 c0 M c8 n2 c2 ss (thenR ss bs us) a _ HS.out hn0 hnc HT2.out (by omega) HA.out hn2).mono ?_
        rintro e w7 ⟨v7, rfl, hv7, hb7⟩
        have HB7 := Lib.hid (HB6.out.trans (hb7.mono HB6.out.size))
        replace HX := Lib.hid (HX.out.on hb7)
        clear hb7
        rw [Q2.out]
        rw [Q3.out] at hv7
        obtain ⟨A9, c9, rfl, _, ht⟩ := hv7.intsAt
        rw [← HL1.out] at ht ⊢
        have HZ := Lib.hid ht
        clear ht hv7
        go_wp2_with (go_at_call 13; refine (num_any _ _).mono ?_; rintro e w' ⟨rfl, rfl⟩)
        refine (sameInts_any A9 A5 L1 c9 L1 c5 _ _ _ _ _ HZ.out HX.out (len_small (by omega)) (len_small (by omega))).mono ?_
        rintro e w8 ⟨rfl, hb8⟩
        rw [sameI_self]
        have HB8 := Lib.hid (HB7.out.trans (hb8.mono HB7.out.size))
        clear hb8
        go_wp2
        go_ret
        exact ⟨rfl, HB8.out⟩
    · have g2 : (E2 != 0) = true := by simpa using z2
      clear z2
      go_wp2_with (go_at_call 13; refine (num_any _ _).mono ?_; rintro e w' ⟨rfl, rfl⟩)
      go_ret
      exact ⟨rfl, HB3.out⟩
  · have g1 : (E1 != 0) = true := by simpa using z1
    clear z1
    go_wp2_with (go_at_call 13; refine (num_any _ _).mono ?_; rintro e w' ⟨rfl, rfl⟩)
    go_ret
    exact ⟨rfl, HB3.out⟩

end Go.Proofs.Ytlpafnaokpjoiaa
