/-
  The walk of the law MatchMade.
-/
import Derived.Test.YtpfkibbmflnomaaMatchRow
import Derived.BigQuiet
namespace Go.Proofs.Ytpfkibbmflnomaa
open Go.RowKit
set_option linter.unusedSimpArgs false
set_option linter.unusedVariables false
set_option maxRecDepth 100000

/-- Is it the same bind? -/
def hitB (x b : Bd) : Bool := (x.v == b.v) && sameI x.t b.t
/-- Does one of the first k binds say the same? -/
def inB (us : List Bd) (b : Bd) : Nat → Bool
  | 0 => false
  | k + 1 => inB us b k || hitB (bdAt us k) b
theorem inB_yes {us : List Bd} {b : Bd} {k : Nat} (h : hitB (bdAt us k) b = true) : ∀ {n : Nat}, k < n → inB us b n = true
  | 0, hn => absurd hn (by omega)
  | n + 1, hn => by
    show (inB us b n || hitB (bdAt us n) b) = true
    by_cases e : k = n
    · subst e; rw [h, Bool.or_true]
    · rw [inB_yes h (n := n) (by omega), Bool.true_or]
theorem made_told {ss : List Sym} {us : List Bd} {a : List Int} (h : applyE ss us a = 0) : bindB ss (mtB ss a (applyR ss us a)) = true ∧ applyE ss (mtB ss a (applyR ss us a)) a = 0 ∧ applyR ss (mtB ss a (applyR ss us a)) a = applyR ss us a ∧
    ∀ i, i < (mtB ss a (applyR ss us a)).length → inB us (bdAt (mtB ss a (applyR ss us a)) i) us.length = true := by
  obtain ⟨h1, h2, h3, h4⟩ := made_row h
  obtain ⟨T, hT, hall⟩ := mtO_there h2 h3 (fn_sub h1) h4
  obtain ⟨_, _, _, hs, h48, he, _⟩ := mtO_yes hT
  have hv := bdsOf_valid (row_parts h2).1 hs h48
  have ep : put (bdsOf (stT T) 24) a = applyR ss us a := by rw [put_bdsOf (row_ge h2)]; exact he
  have hl : (applyR ss us a).length ≤ 48 := applyR_len ss us a
  rw [mtB_yes hT]
  refine ⟨hv, ?_, ?_, fun i hi => ?_⟩
  · unfold applyE; rw [hv, h2, ep]; simp [hl]
  · have : applyE ss (bdsOf (stT T) 24) a = 0 := by unfold applyE; rw [hv, h2, ep]; simp [hl]
    rw [(ap_zero this).2.2.2, ep]
  · obtain ⟨v, hv24, e, hne⟩ := bdsOf_mem (bdAt_mem hi)
    rw [e]
    have hst : stT T v = fnB us v := by
      rcases hall v with q | q
      · exact absurd (by unfold stT; rw [if_pos q]) hne
      · unfold stT
        by_cases q' : T v = []
        · exact absurd (by unfold stT; rw [if_pos q']) hne
        · rw [if_neg q', q]
    have hf : fnB us v ≠ [-1 - (v : Int)] := by rw [← hst]; exact hne
    cases ho : ofB us (-1 - (-1 - (v : Int))) with
    | none => exact absurd (put1_free ho) hf
    | some t =>
      have e2 : fnB us v = t := put1_var (by omega) ho
      obtain ⟨x, hx, hxv, hxt⟩ := ofB_some ho
      obtain ⟨k, hk, hxk⟩ := List.getElem_of_mem hx
      have g1 := bdAt_get hk
      rw [List.getElem?_eq_getElem hk, hxk] at g1
      injection g1 with g1
      refine inB_yes (k := k) ?_ hk
      unfold hitB
      have e3 : (bdAt us k).v = (v : Int) := by rw [← g1, hxv]; omega
      have e4 : (bdAt us k).t = stT T v := by rw [← g1, hxt, hst, e2]
      show ((bdAt us k).v == (v : Int) && sameI (bdAt us k).t (stT T v)) = true
      rw [e3, e4, sameI_self]
      simp

set_option maxHeartbeats 1000000 in
theorem matchMade_walk (A0 A1 A2 : Option Addr) (n0 c0 n1 c1 n2 c2 : Nat) (ss : List Sym) (us : List Bd) (a : List Int) (w : World) (hs : SymsAt w w.heap.size A0 n0 ss) (hn0 : n0 ≤ maxLen) (hnc : n0 ≤ c0) (hu : BindsAt w w.heap.size A1 n1 us) (hn1 : n1 ≤ 4398046511104) (ha : IntsAt w w.heap.size A2 n2 a) (hn2 : n2 ≤ maxLen) :
    Calls Try.prog 4 #[.slice A0 n0 c0, .slice A1 n1 c1, .slice A2 n2 c2] w fun e w' => e = .returned (.bool true) ∧ Below w.heap.size w w' := by
  have HS := Lib.hid hs
  have HU := Lib.hid hu
  have HA := Lib.hid ha
  have HLU := Lib.hid hu.len
  have HB0 := Lib.hid (Below.refl w.heap.size w)
  clear hs ha hu
  go_enter Try.func4, Try.ntmps4
  go_wp2_with fail
  refine (awakeM_any _).mono ?_
  rintro e w1 ⟨rfl, hb1⟩
  have HB1 := Lib.hid (HB0.out.trans (hb1.mono HB0.out.size))
  replace HS := Lib.hid (HS.out.on hb1)
  replace HU := Lib.hid (HU.out.on hb1)
  replace HA := Lib.hid (HA.out.on hb1)
  clear hb1
  go_wp2_with fail
  refine (apply_any A0 A1 A2 n0 c0 n1 c1 n2 c2 ss us a _ HS.out hn0 hnc HU.out hn1 HA.out hn2).mono ?_
  rintro e w2 ⟨v2, rfl, hv2, hb2⟩
  have HB2 := Lib.hid (HB1.out.trans (hb2.mono HB1.out.size))
  replace HS := Lib.hid (HS.out.on hb2)
  replace HU := Lib.hid (HU.out.on hb2)
  replace HA := Lib.hid (HA.out.on hb2)
  clear hb2
  obtain ⟨A5, c5, rfl, hcap5, ht⟩ := hv2.intsAt
  have HX := Lib.hid ht
  clear ht hv2
  obtain ⟨E1, hE1⟩ : ∃ E1, E1 = applyE ss us a := ⟨_, rfl⟩
  obtain ⟨X, hX⟩ : ∃ X, X = applyR ss us a := ⟨_, rfl⟩
  have hL1 : X.length ≤ 48 := by rw [hX]; exact applyR_len ss us a
  obtain ⟨L1, hL⟩ : ∃ L1, L1 = X.length := ⟨_, rfl⟩
  rw [← hE1, ← hX, ← hL]
  rw [← hX, ← hL] at HX hcap5
  rw [← hL] at hL1
  have HE1 := Lib.hid hE1
  have HXE := Lib.hid hX
  have HXL := Lib.hid hL
  clear hE1 hL hX
  by_cases z1 : E1 = 0
  · subst z1
    have M1 : Hid (mtIs ss a X = true ∧ mtE ss a X = 0) := by
      have := made_is HE1.out.symm
      rw [← HXE.out] at this
      exact this
    obtain ⟨m1, m2, m3, m4⟩ := made_told HE1.out.symm
    rw [← HXE.out] at m1 m2 m3 m4
    have hfit : ∀ i, i < (mtB ss a X).length → (bdAt (mtB ss a X) i).t.length * 8 ≤ 140737488351232 := mtB_fit
    have hL2 : (mtB ss a X).length ≤ 24 := mtB_few.1
    have HT48 : Hid (∀ i, i < (mtB ss a X).length → (bdAt (mtB ss a X) i).t.length ≤ 48) := mtB_few.2
    have HFIT := Lib.hid hfit
    obtain ⟨bs, hbs⟩ : ∃ bs, bs = mtB ss a X := ⟨_, rfl⟩
    have HBS := Lib.hid hbs
    rw [← hbs] at m1 m2 m3 m4 hL2 HT48 HFIT
    obtain ⟨L2, hL2'⟩ : ∃ L2, L2 = bs.length := ⟨_, rfl⟩
    have HL2 := Lib.hid hL2'
    rw [← hL2'] at hL2
    have HM1 := Lib.hid m1
    have HM2 := Lib.hid m2
    have HM3 := Lib.hid m3
    have HM4 := Lib.hid m4
    clear m1 m2 m3 m4 hfit hbs hL2'
    go_wp2_with (go_at_call 13; refine (num_any _ _).mono ?_; rintro e w' ⟨rfl, rfl⟩)
    go_wp2_with fail
    refine (match_any A0 A2 A5 n0 c0 n2 c2 L1 c5 ss a X _ HS.out hn0 hnc HA.out hn2 HX.out (len_small (by omega)) hcap5).mono ?_
    rintro e w4 ⟨v4, rfl, hv4, hb4⟩
    have HB4 := Lib.hid (HB2.out.trans (hb4.mono HB2.out.size))
    replace HS := Lib.hid (HS.out.on hb4)
    replace HU := Lib.hid (HU.out.on hb4)
    replace HX := Lib.hid (HX.out.on hb4)
    replace HA := Lib.hid (HA.out.on hb4)
    clear hb4
    rw [M1.out.1, M1.out.2]
    rw [← HBS.out] at hv4
    obtain ⟨A6, c6, rfl, _, h6⟩ := hv4.bindsAt HFIT.out
    have H6 := Lib.hid h6
    clear h6 hv4
    rw [← HL2.out] at H6 ⊢
    go_wp2_with (go_at_call 13; refine (num_any _ _).mono ?_; rintro e w' ⟨rfl, rfl⟩)
    go_wp2_with fail
    refine (bindMay_any A0 A6 n0 c0 L2 c6 ss bs _ HS.out hn0 hnc H6.out (by omega)).mono ?_
    rintro e w5 ⟨rfl, hb5⟩
    have HB5 := Lib.hid (HB4.out.trans (hb5.mono HB4.out.size))
    replace HS := Lib.hid (HS.out.on hb5)
    replace HU := Lib.hid (HU.out.on hb5)
    replace HX := Lib.hid (HX.out.on hb5)
    replace HA := Lib.hid (HA.out.on hb5)
    replace H6 := Lib.hid (H6.out.on hb5)
    clear hb5
    rw [HM1.out]
    go_wp2_with fail
    refine (apply_any A0 A6 A2 n0 c0 L2 c6 n2 c2 ss bs a _ HS.out hn0 hnc H6.out (by omega) HA.out hn2).mono ?_
    rintro e w7 ⟨v7, rfl, hv7, hb7⟩
    have HB7 := Lib.hid (HB5.out.trans (hb7.mono HB5.out.size))
    replace HU := Lib.hid (HU.out.on hb7)
    replace HX := Lib.hid (HX.out.on hb7)
    replace H6 := Lib.hid (H6.out.on hb7)
    clear hb7
    rw [HM2.out]
    rw [HM3.out] at hv7
    obtain ⟨A8, c8, rfl, _, ht⟩ := hv7.intsAt
    have HY := Lib.hid ht
    clear ht hv7
    rw [← HXL.out] at HY ⊢
    go_wp2_with (go_at_call 13; refine (num_any _ _).mono ?_; rintro e w' ⟨rfl, rfl⟩)
    go_wp2_with fail
    refine (sameInts_any A5 A8 L1 c5 L1 c8 _ _ X X _ HX.out HY.out (len_small (by omega)) (len_small (by omega))).mono ?_
    rintro e w9 ⟨rfl, hb9⟩
    have HB9 := Lib.hid (HB7.out.trans (hb9.mono HB7.out.size))
    replace HU := Lib.hid (HU.out.on hb9)
    replace H6 := Lib.hid (H6.out.on hb9)
    clear hb9
    rw [sameI_self]
    clear HX HY
    go_wp2
    go_loopw [14] (fun i wr => ∃ k : Nat, i = .int .i64 (k : Int) ∧ k ≤ L2 ∧ Below w9.heap.size w9 wr) (fun i _ => L2 - (intOf i).toNat)
    case atStart => exact ⟨0, rfl, by omega, Below.refl _ _⟩
    case round =>
      obtain ⟨k, rfl, hk, hbw⟩ := hrel
      have HBW := Lib.hid hbw
      clear hbw
      obtain ⟨wA, hwA⟩ : ∃ wA, wA = wr := ⟨_, rfl⟩
      subst hwA
      by_cases hlt : k < L2
      · go_wp2
        go_loopw [15, 16] (fun i j wr => ∃ q : Nat, i = .bool (inB us (bdAt bs k) q) ∧ j = .int .i64 (q : Int) ∧ q ≤ n1 ∧ Below w9.heap.size w9 wr) (fun _ j _ => n1 - (intOf j).toNat)
        case atStart => exact ⟨0, rfl, rfl, by omega, HBW.out⟩
        case round =>
          obtain ⟨q, rfl, rfl, hq, hbq⟩ := hrel
          have HBQ := Lib.hid hbq
          clear hbq
          by_cases hql : q < n1
          · obtain ⟨b1, o1, hA1, _, hc1⟩ := (HU.out.on HBQ.out).at_ (by omega)
            obtain ⟨b2, o2, hA6, _, hc2⟩ := (H6.out.on HBQ.out).at_ (by omega)
            subst hA1; subst hA6
            obtain ⟨d0, A3, c3, d1, _, d3⟩ := hc1 q hql
            obtain ⟨e0, A4, c4, e1, _, e3⟩ := hc2 k hlt
            have hfx := HU.out.fit q hql
            have hfy := HT48.out k (by rw [← HL2.out]; exact hlt)
            have HSUC : Hid (inB us (bdAt bs k) (q + 1) = (inB us (bdAt bs k) q || hitB (bdAt us q) (bdAt bs k))) := rfl
            obtain ⟨x, hx⟩ : ∃ x, x = bdAt us q := ⟨_, rfl⟩
            obtain ⟨y, hy⟩ : ∃ y, y = bdAt bs k := ⟨_, rfl⟩
            have HYE := Lib.hid hy
            rw [← hx] at d0 d1 d3 hfx
            rw [← hy] at e0 e1 e3 hfy ⊢
            rw [← hx, ← hy] at HSUC
            have HI3 := Lib.hid d3
            have HI4 := Lib.hid e3
            have z0 : (0 : Int) ≤ (k : Int) := by omega
            have z1 : (k : Int) < (L2 : Int) := by omega
            have z2 : (0 : Int) ≤ (q : Int) := by omega
            have z3 : (q : Int) < (n1 : Int) := by omega
            clear hc1 hc2 d3 e3 hx hy
            cases hin : inB us y q
            · rw [hin, Bool.false_or] at HSUC
              clear hin
              cases hv : (x.v == y.v)
              · have HH : Hid (inB us y (q + 1) = false) := by show inB us y (q + 1) = false; rw [HSUC.out]; unfold hitB; rw [hv]; rfl
                go_wp2_with fail
                go_quiet (fail)
                go_wp2
                go_roundw
                case rel => exact ⟨q + 1, by rw [HH.out], by go_num, by omega, HBQ.out.trans (below_drewN _ _)⟩
                case measure => simp [intOf]; omega
              · cases ht : sameI x.t y.t
                all_goals
                  have HH := HSUC
                  unfold hitB at HH
                  rw [hv, ht] at HH
                  have HTT := Lib.hid ht
                  clear ht
                  go_wp2_with fail
                  go_quiet ((go_at_call 19; exact sameInts_still A3 A4 _ c3 _ c4 _ _ _ x.t y.t _ HI3.out HI4.out (by unfold maxLen; omega) (by unfold maxLen; omega) HTT.out))
                  go_wp2
                  go_roundw
                  case rel => exact ⟨q + 1, by rw [HH.out]; rfl, by go_num, by omega, HBQ.out.trans (below_drewN _ _)⟩
                  case measure => simp [intOf]; omega
            · rw [hin, Bool.true_or] at HSUC
              clear hin
              go_wp2_with fail
              go_quiet (fail)
              go_wp2
              go_roundw
              case rel => exact ⟨q + 1, by rw [HSUC.out], by go_num, by omega, HBQ.out.trans (below_drewN _ _)⟩
              case measure => simp [intOf]; omega
          · obtain rfl : q = n1 := by omega
            have H : Hid (inB us (bdAt bs k) q = true) := by
              have := HM4.out k (by rw [← HL2.out]; exact hlt)
              rw [HLU.out] at this
              exact this
            rw [H.out]
            go_wp2
            go_roundw
            case rel => exact ⟨k + 1, by go_num, by omega, HBQ.out⟩
            case measure => simp [intOf]; omega
      · obtain rfl : k = L2 := by omega
        go_wp2
        go_ret
        exact ⟨rfl, HB9.out.trans (HBW.out.mono HB9.out.size)⟩
  · have g1 : (E1 != 0) = true := by simpa using z1
    clear z1
    go_wp2_with (go_at_call 13; refine (num_any _ _).mono ?_; rintro e w' ⟨rfl, rfl⟩)
    go_ret
    exact ⟨rfl, HB2.out⟩
end Go.Proofs.Ytpfkibbmflnomaa
