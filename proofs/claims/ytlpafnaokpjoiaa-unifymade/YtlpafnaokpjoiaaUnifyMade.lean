/-
  The walk of the law UnifyMade.
-/
import Derived.Test.YtlpafnaokpjoiaaUnifyAny
import Derived.BigQuiet
namespace Go.Proofs.Ytlpafnaokpjoiaa
open Go.RowKit
set_option linter.unusedSimpArgs false
set_option linter.unusedVariables false
set_option maxRecDepth 100000

theorem made_told {ss : List Sym} {bs us : List Bd} {a : List Int} {E : Int} {is : Bool} (h1 : applyE ss us a = 0) (hno : ∀ i, i < us.length → ∀ k, k < (applyR ss us a).length → intAt (applyR ss us a) k ≠ -1 - (bdAt us i).v) (hu : UniR ss a (applyR ss us a) E is bs) :
    E = 0 ∧ is = true ∧ applyE ss bs a = applyE ss bs (applyR ss us a) ∧ applyR ss bs a = applyR ss bs (applyR ss us a) := by
  obtain ⟨a1, a2, a3, a4⟩ := ap_zero h1
  rw [a4] at hno hu ⊢
  have hθ := fn_sub a1
  have hm := (row_parts a2).1
  have hus : bdsB ss 0 us = true := by unfold bindB at a1; simp only [Bool.and_eq_true] at a1; exact a1.2
  obtain ⟨ns, q1, _⟩ := tl_put hus a (row_parts a2).2.2
  have hr : rowB ss (put us a) = true := one_row hm a3 q1
  have hid : ap (fnB us) (put us a) = put us a := by
    apply ap_id
    intro c hc h0
    obtain ⟨k, hk⟩ := row_trm hr
    obtain ⟨n1, n2⟩ := vnum hk hc h0
    unfold fnB
    rw [← n2]
    apply put1_free
    apply ofB_none_of
    intro x hx e
    obtain ⟨i, hi, hxi⟩ := List.getElem_of_mem hx
    obtain ⟨j, hj, hcj⟩ := List.getElem_of_mem hc
    have g1 := bdAt_get hi
    rw [List.getElem?_eq_getElem hi, hxi] at g1
    injection g1 with g1
    have g2 := intAt_get hj
    rw [List.getElem?_eq_getElem hj, hcj] at g2
    injection g2 with g2
    refine hno i hi j hj ?_
    rw [← g1, ← g2]; omega
  have he : ap (fnB us) a = ap (fnB us) (put us a) := by rw [hid, ← put_fn]
  have his := hu.there a2 hr hθ he (fun v hv => (fn_term a1 hv).2)
  subst his
  obtain ⟨e0, _, _, σ, hc, hl, rfl⟩ := hu.yes
  obtain ⟨p1, p2, _⟩ := told_same hc a2 hr hl
  exact ⟨e0, rfl, p1, p2⟩

set_option maxHeartbeats 1000000 in
theorem unifyMade_walk (A0 A1 A2 : Option Addr) (n0 c0 n1 c1 n2 c2 : Nat) (ss : List Sym) (us : List Bd) (a : List Int) (w : World) (hs : SymsAt w w.heap.size A0 n0 ss) (hn0 : n0 ≤ maxLen) (hnc : n0 ≤ c0) (hu : BindsAt w w.heap.size A1 n1 us) (hn1 : n1 ≤ 4398046511104) (ha : IntsAt w w.heap.size A2 n2 a) (hn2 : n2 ≤ maxLen) :
    Calls Try.prog 6 #[.slice A0 n0 c0, .slice A1 n1 c1, .slice A2 n2 c2] w fun e w' => e = .returned (.bool true) ∧ Below w.heap.size w w' := by
  have HS := Lib.hid hs
  have HU := Lib.hid hu
  have HA := Lib.hid ha
  have HLU := Lib.hid hu.len
  have HB0 := Lib.hid (Below.refl w.heap.size w)
  clear hs ha hu
  go_enter Try.func6, Try.ntmps6
  go_wp2_with fail
  refine (awakeU_any _).mono ?_
  rintro e w1 ⟨rfl, hb1⟩
  have HB1 := Lib.hid (HB0.out.trans (hb1.mono HB0.out.size))
  replace HS := Lib.hid (HS.out.on hb1)
  replace HU := Lib.hid (HU.out.on hb1)
  replace HA := Lib.hid (HA.out.on hb1)
  clear hb1
  go_wp2_with fail
  refine (apply_any A0 A1 A2 n0 c0 n1 c1 n2 c2 ss us a _ HS.out hn0 hnc HU.out hn1 HA.out hn2).mono ?_
  rintro e w2 ⟨v2, rfl, hv2, hb2⟩
  have HB2 := Lib.hid (HB1.out.trans (hb2.mono HB1.out.size))
  replace HS := Lib.hid (HS.out.on hb2)
  replace HU := Lib.hid (HU.out.on hb2)
  replace HA := Lib.hid (HA.out.on hb2)
  clear hb2
  obtain ⟨A5, c5, rfl, _, ht⟩ := hv2.intsAt
  have HX := Lib.hid ht
  clear ht hv2
  obtain ⟨E1, hE1⟩ : ∃ E1, E1 = applyE ss us a := ⟨_, rfl⟩
  obtain ⟨X, hX⟩ : ∃ X, X = applyR ss us a := ⟨_, rfl⟩
  have hL48 : X.length ≤ 48 := by rw [hX]; exact applyR_len ss us a
  obtain ⟨L1, hL1⟩ : ∃ L1, L1 = X.length := ⟨_, rfl⟩
  rw [← hE1, ← hX, ← hL1]
  rw [← hX, ← hL1] at HX
  rw [← hL1] at hL48
  have HE1 := Lib.hid hE1
  have HXE := Lib.hid hX
  have HL1 := Lib.hid hL1
  clear hE1 hL1 hX
  by_cases z1 : E1 = 0
  · subst z1
    have HVAR : Hid (∀ i, i < n1 → 0 ≤ (bdAt us i).v ∧ (bdAt us i).v ≤ 23) := by
      intro i hi
      have := (ap_zero HE1.out.symm).1
      unfold bindB at this
      simp only [Bool.and_eq_true] at this
      obtain ⟨q1, q2, _⟩ := bdsB_at this.2 (i := i) (by rw [HLU.out]; exact hi)
      exact ⟨q1, q2⟩
    go_wp2_with (go_at_call 13; refine (num_any _ _).mono ?_; rintro e w' ⟨rfl, rfl⟩)
    go_loopw [9] (fun i wr => ∃ k : Nat, i = .int .i64 (k : Int) ∧ k ≤ n1 ∧ Below w2.heap.size w2 wr ∧ ∀ j, j < k → ∀ q, q < L1 → intAt X q ≠ -1 - (bdAt us j).v) (fun i _ => n1 - (intOf i).toNat)
    case atStart => exact ⟨0, rfl, by omega, Below.refl _ _, fun j hj => absurd hj (by omega)⟩
    case round =>
      obtain ⟨k, rfl, hk, hbw, hno⟩ := hrel
      have HBW := Lib.hid hbw
      have HNO := Lib.hid hno
      clear hbw hno
      obtain ⟨wA, hwA⟩ : ∃ wA, wA = wr := ⟨_, rfl⟩
      subst hwA
      by_cases hlt : k < n1
      · go_wp2
        go_loopw [10] (fun i wr => ∃ q : Nat, i = .int .i64 (q : Int) ∧ q ≤ L1 ∧ Below w2.heap.size w2 wr ∧ ∀ p, p < q → intAt X p ≠ -1 - (bdAt us k).v) (fun i _ => L1 - (intOf i).toNat)
        case atStart => exact ⟨0, rfl, by omega, HBW.out, fun j hj => absurd hj (by omega)⟩
        case round =>
          obtain ⟨q, rfl, hq, hbq, hnq⟩ := hrel
          have HBQ := Lib.hid hbq
          have HNQ := Lib.hid hnq
          clear hbq hnq
          by_cases hql : q < L1
          · obtain ⟨b1, o1, hA1, hb1', hc1⟩ := (HU.out.on HBQ.out).at_ (by omega)
            obtain ⟨d0, _⟩ := hc1 k hlt
            obtain ⟨b2, o2, hA5, hb2', hc2⟩ := (HX.out.on HBQ.out).at_ (by omega)
            have e0 : wr.cell? ⟨b2, o2 + q, none⟩ = some (.int .i64 (intAt X q)) := hc2 q hql
            obtain ⟨g1, g2⟩ := HVAR.out k hlt
            subst hA1; subst hA5
            obtain ⟨vk, hvk⟩ : ∃ vk, vk = (bdAt us k).v := ⟨_, rfl⟩
            obtain ⟨xq, hxq⟩ : ∃ xq, xq = intAt X q := ⟨_, rfl⟩
            rw [← hvk] at d0 g1 g2
            rw [← hxq] at e0
            have HVK := Lib.hid hvk
            have HXQ := Lib.hid hxq
            have i0 : (0 : Int) ≤ (k : Int) := by omega
            have i1 : (k : Int) < (n1 : Int) := by omega
            have i2 : (0 : Int) ≤ (q : Int) := by omega
            have i3 : (q : Int) < (L1 : Int) := by omega
            clear hc1 hc2 hvk hxq
            by_cases heq : xq = -1 - vk
            · have heq' : (xq == -1 - vk) = true := by simp [heq]
              have HW := Lib.hid (HB2.out.trans (HBQ.out.mono HB2.out.size))
              go_wp2_with fail
              go_quiet (fail)
              go_wp2
              go_ret
              exact ⟨rfl, HW.out.trans (below_drewN _ _)⟩
            · have heq' : (xq == -1 - vk) = false := by simp [heq]
              have HNE := Lib.hid heq
              clear heq
              go_wp2_with fail
              go_quiet (fail)
              go_wp2
              go_roundw
              case rel => exact ⟨q + 1, by go_num, by omega, HBQ.out.trans (below_drewN _ _), fun p hp => if e : p = q then by rw [e, ← HXQ.out, ← HVK.out]; exact HNE.out else HNQ.out p (by omega)⟩
              case measure => simp [intOf]; omega
          · obtain rfl : q = L1 := by omega
            go_wp2
            go_roundw
            case rel => exact ⟨k + 1, by go_num, by omega, HBQ.out, fun j hj => if e : j = k then by rw [e]; exact HNQ.out else HNO.out j (by omega)⟩
            case measure => simp [intOf]; omega
      · obtain rfl : k = n1 := by omega
        have HB3 := Lib.hid (HB2.out.trans (HBW.out.mono HB2.out.size))
        have HSA := Lib.hid (HS.out.on HBW.out)
        have HAA := Lib.hid (HA.out.on HBW.out)
        have HXA := Lib.hid (HX.out.on HBW.out)
        go_wp2_with fail
        refine (unify_any A0 A2 A5 n0 c0 n2 c2 L1 c5 ss a X _ HSA.out hn0 hnc HAA.out hn2 HXA.out (len_small (by omega))).mono ?_
        rintro e w5 ⟨v5, E, is, bs, rfl, hv5, hb5, hu5⟩
        have HB5 := Lib.hid (HB3.out.trans (hb5.mono HB3.out.size))
        replace HSA := Lib.hid (HSA.out.on hb5)
        replace HAA := Lib.hid (HAA.out.on hb5)
        replace HXA := Lib.hid (HXA.out.on hb5)
        clear hb5
        have hmt : E = 0 ∧ is = true ∧ applyE ss bs a = applyE ss bs X ∧ applyR ss bs a = applyR ss bs X := by
          have h1 := HNO.out
          have hu6 := hu5
          rw [HXE.out] at hu6 ⊢
          refine made_told HE1.out.symm (fun i hi q hq => ?_) hu6
          rw [HLU.out] at hi
          rw [← HXE.out, ← HL1.out] at hq
          rw [← HXE.out]
          exact h1 i hi q hq
        obtain ⟨e0, e1, q1, q2⟩ := hmt
        subst e0; subst e1
        obtain ⟨hbl, hbt⟩ := hu5.few
        obtain ⟨A7, c7, rfl, _, ht⟩ := hv5.bindsAt hu5.fit
        have HT := Lib.hid ht
        have Q1 := Lib.hid q1
        have Q2 := Lib.hid q2
        obtain ⟨L, hL⟩ : ∃ L, L = bs.length := ⟨_, rfl⟩
        rw [← hL] at HT hbl ⊢
        clear ht hv5 hu5 hbt hL q1 q2
        go_wp2_with (go_at_call 13; refine (num_any _ _).mono ?_; rintro e w' ⟨rfl, rfl⟩)
        go_wp2_with fail
        refine (apply_any A0 A7 A2 n0 c0 L c7 n2 c2 ss bs a _ HSA.out hn0 hnc HT.out (by omega) HAA.out hn2).mono ?_
        rintro e w6 ⟨v6, rfl, hv6, hb6⟩
        have HB6 := Lib.hid (HB5.out.trans (hb6.mono HB5.out.size))
        replace HSA := Lib.hid (HSA.out.on hb6)
        replace HT := Lib.hid (HT.out.on hb6)
        replace HXA := Lib.hid (HXA.out.on hb6)
        clear hb6
        rw [Q1.out]
        rw [Q2.out] at hv6
        obtain ⟨A8, c8, rfl, _, ht⟩ := hv6.intsAt
        have HY := Lib.hid ht
        clear ht hv6
        go_wp2_with fail
        refine (apply_any A0 A7 A5 n0 c0 L c7 L1 c5 ss bs X _ HSA.out hn0 hnc HT.out (by omega) HXA.out (len_small (by omega))).mono ?_
        rintro e w7 ⟨v7, rfl, hv7, hb7⟩
        have HB7 := Lib.hid (HB6.out.trans (hb7.mono HB6.out.size))
        replace HY := Lib.hid (HY.out.on hb7)
        clear hb7
        obtain ⟨A9, c9, rfl, _, ht⟩ := hv7.intsAt
        have HZ := Lib.hid ht
        clear ht hv7
        obtain ⟨E5, hE5⟩ : ∃ E5, E5 = applyE ss bs X := ⟨_, rfl⟩
        obtain ⟨L5, hL5⟩ : ∃ L5, L5 = (applyR ss bs X).length := ⟨_, rfl⟩
        have hL5' : L5 ≤ 48 := by rw [hL5]; exact applyR_len ss bs X
        rw [← hE5]
        rw [← hL5] at HY HZ ⊢
        clear hE5 hL5
        have gE5 : (E5 == E5) = true := by simp
        go_wp2_with (go_at_call 13; refine (num_any _ _).mono ?_; rintro e w' ⟨rfl, rfl⟩)
        refine (sameInts_any A8 A9 L5 c8 L5 c9 _ _ _ _ _ HY.out HZ.out (len_small (by omega)) (len_small (by omega))).mono ?_
        rintro e w8 ⟨rfl, hb8⟩
        rw [sameI_self]
        have HB8 := Lib.hid (HB7.out.trans (hb8.mono HB7.out.size))
        clear hb8
        go_wp2
        go_ret
        exact ⟨rfl, HB8.out⟩
  · have g1 : (E1 != 0) = true := by simpa using z1
    clear z1
    go_wp2_with (go_at_call 13; refine (num_any _ _).mono ?_; rintro e w' ⟨rfl, rfl⟩)
    go_ret
    exact ⟨rfl, HB2.out⟩

end Go.Proofs.Ytlpafnaokpjoiaa
