/-
  Contracts of the reference: Apply, Then.
-/
import Derived.Test.YtjclcogjdodjpaaBaseBind
namespace Go.Proofs.Ytjclcogjdodjpaa
open Go.RowKit Go.Deep
set_option linter.unusedSimpArgs false
set_option linter.unusedVariables false

theorem var24 {k : Nat} (h : k < 24) : ∀ i, i < 1 → -24 ≤ intAt [-1 - (k : Int)] i := fun i hi => by
  obtain rfl : i = 0 := by omega
  show -24 ≤ -1 - (k : Int)
  omega
theorem termsK_no {ss : List Sym} {r : List Int} (hm : mayB ss = true) (h : rowB ss r = false) : termsK ss r = -1 := by
  unfold rowB at h; rw [hm, Bool.true_and] at h; unfold termsK; rw [h]; rfl
theorem termsK_yes {ss : List Sym} {r : List Int} (h : rowB ss r = true) : 0 ≤ termsK ss r := by
  unfold termsK; split <;> simp_all [rowB]

set_option maxHeartbeats 1000000 in
theorem refApply_any (A A1 A2 : Option Addr) (n c n1 c1 n2 c2 : Nat) (ss : List Sym) (bs : List Bd) (r : List Int) (w : World) (h : SymsAt w w.heap.size A n ss) (hn : n ≤ maxLen) (hb : BindsAt w w.heap.size A1 n1 bs) (hn1 : n1 ≤ 4398046511104) (hr : IntsAt w w.heap.size A2 n2 r) (hn2 : n2 ≤ maxLen) :
    Calls Try.prog 13 #[.slice A n c, .slice A1 n1 c1, .slice A2 n2 c2] w (IntsPost (applyR ss bs r) (applyE ss bs r) w) := by
  have HS := Lib.hid h
  have HB := Lib.hid hb
  have HR := Lib.hid hr
  have HL := Lib.hid hr.len
  clear hb hr
  cases h1 : bindB ss bs
  · obtain ⟨q1, q2⟩ := applyE_no (ss := ss) (bs := bs) (r := r) (by rw [h1]; rfl)
    have Q1 := Lib.hid q1
    have Q2 := Lib.hid q2
    clear q1 q2
    go_enter Try.func13, Try.ntmps13
    go_wp2_with fail
    refine (refBindMay_any A A1 n c n1 c1 ss bs _ HS.out hn HB.out hn1).mono ?_
    rintro e w1 ⟨rfl, hb1⟩
    rw [h1]
    clear h1
    go_wp2
    go_ret2
    exact ⟨_, ret_vi Q1.out.symm, OwnI.nil_.cast Q2.out.symm, hb1⟩
  · have H1 := Lib.hid h1
    have HM := Lib.hid (bind_may h1)
    cases h2 : rowB ss r
    · obtain ⟨q1, q2⟩ := applyE_no (ss := ss) (bs := bs) (r := r) (by rw [h1, h2]; rfl)
      have Q1 := Lib.hid q1
      have Q2 := Lib.hid q2
      have hk := termsK_no HM.out h2
      clear q1 q2
      go_enter Try.func13, Try.ntmps13
      go_wp2_with fail
      refine (refBindMay_any A A1 n c n1 c1 ss bs _ HS.out hn HB.out hn1).mono ?_
      rintro e w1 ⟨rfl, hb1⟩
      rw [h1]
      clear h1
      go_wp2_with fail
      refine (refTerms_any A A2 n c n2 c2 _ _ ss r _ (HS.out.on hb1) hn (HR.out.on hb1) hn2 HM.out).mono ?_
      rintro e w2 ⟨rfl, rfl⟩
      rw [hk]
      clear h2 hk
      go_wp2
      go_ret2
      exact ⟨_, ret_vi Q1.out.symm, OwnI.nil_.cast Q2.out.symm, hb1⟩
    · obtain ⟨q1, q2⟩ := applyE_yes h1 h2
      have Q1 := Lib.hid q1
      have Q2 := Lib.hid q2
      obtain ⟨_, hl48, hms⟩ := row_parts h2
      rw [HL.out] at hl48
      have H24 := Lib.hid (codes24 hms)
      rw [HL.out] at H24
      have hk := termsK_yes h2
      obtain ⟨K, hK⟩ : ∃ K, K = termsK ss r := ⟨_, rfl⟩
      rw [← hK] at hk
      have HK := Lib.hid hK
      have hk' : ¬ K < 0 := by omega
      clear q1 q2 hms hK
      cases h3 : putOk bs r
      all_goals
        go_enter Try.func13, Try.ntmps13
        go_wp2_with fail
        refine (refBindMay_any A A1 n c n1 c1 ss bs _ HS.out hn HB.out hn1).mono ?_
        rintro e w1 ⟨rfl, hb1⟩
        rw [h1]
        have HB1 := Lib.hid hb1
        clear hb1
        go_wp2_with fail
        refine (refTerms_any A A2 n c n2 c2 _ _ ss r _ (HS.out.on HB1.out) hn (HR.out.on HB1.out) hn2 HM.out).mono ?_
        rintro e w2 ⟨rfl, rfl⟩
        rw [← HK.out]
        clear h2
        go_wp2_with fail
        refine (refPut_any A1 A2 n1 c1 n2 c2 ss bs r _ (HB.out.on HB1.out) hn1 (bind_valid H1.out) (HR.out.on HB1.out) (by omega) H24.out).mono ?_
        rintro e w3 ⟨v3, rfl, hv3, hb3⟩
        have HV3 := Lib.hid (hv3.lower HB1.out.size)
        have HB3 := Lib.hid (HB1.out.trans (hb3.mono HB1.out.size))
        obtain ⟨A3, cap3, rfl, _, _⟩ := hv3.intsAt
        obtain ⟨L, hL⟩ : ∃ L, L = (put bs r).length := ⟨_, rfl⟩
        rw [← hL] at HV3 ⊢
        have HLL := Lib.hid hL
        clear h1 hb3 hv3 hL
      · have hover : 48 < L := by have := of_decide_eq_false h3; rw [HLL.out]; omega
        go_wp2
        go_ret2
        exact ⟨_, ret_vi (by rw [Q1.out, h3]; rfl), OwnI.nil_.cast (by rw [Q2.out]; unfold putR; rw [h3]; rfl), HB3.out⟩
      · have hover : ¬ 48 < L := by have := of_decide_eq_true h3; rw [HLL.out]; omega
        go_wp2
        go_ret2
        exact ⟨_, ret_vi (by rw [Q1.out, h3]; rfl), HV3.out.cast (by rw [Q2.out]; unfold putR; rw [h3]; rfl), HB3.out⟩

set_option maxHeartbeats 2000000 in
theorem refThen_any (A A1 A2 : Option Addr) (n c n1 c1 n2 c2 : Nat) (ss : List Sym) (bs us : List Bd) (w : World) (h : SymsAt w w.heap.size A n ss) (hn : n ≤ maxLen) (hb : BindsAt w w.heap.size A1 n1 bs) (hn1 : n1 ≤ 4398046511104) (hu : BindsAt w w.heap.size A2 n2 us) (hn2 : n2 ≤ 4398046511104) :
    Calls Try.prog 23 #[.slice A n c, .slice A1 n1 c1, .slice A2 n2 c2] w (BindsPost (thenR ss bs us) (thenE ss bs us) w) := by
  have HS := Lib.hid h
  have HB := Lib.hid hb
  have HU := Lib.hid hu
  clear hb hu
  cases h1 : bindB ss bs
  · obtain ⟨q1, q2⟩ := thenE_no (ss := ss) (bs := bs) (us := us) (by rw [h1]; rfl)
    have Q1 := Lib.hid q1
    have Q2 := Lib.hid q2
    clear q1 q2
    go_enter Try.func23, Try.ntmps23
    go_wp2_with fail
    refine (refBindMay_any A A1 n c n1 c1 ss bs _ HS.out hn HB.out hn1).mono ?_
    rintro e w1 ⟨rfl, hb1⟩
    rw [h1]
    clear h1
    go_wp2
    go_ret2
    exact ⟨_, ret_vi Q1.out.symm, OwnB.nil_.cast Q2.out.symm, hb1⟩
  · have H1 := Lib.hid h1
    cases h2 : bindB ss us
    · obtain ⟨q1, q2⟩ := thenE_no (ss := ss) (bs := bs) (us := us) (by rw [h1, h2]; rfl)
      have Q1 := Lib.hid q1
      have Q2 := Lib.hid q2
      clear q1 q2
      go_enter Try.func23, Try.ntmps23
      go_wp2_with fail
      refine (refBindMay_any A A1 n c n1 c1 ss bs _ HS.out hn HB.out hn1).mono ?_
      rintro e w1 ⟨rfl, hb1⟩
      rw [h1]
      clear h1
      go_wp2_with fail
      refine (refBindMay_any A A2 n c n2 c2 ss us _ (HS.out.on hb1) hn (HU.out.on hb1) hn2).mono ?_
      rintro e w2 ⟨rfl, hb2⟩
      rw [h2]
      clear h2
      go_wp2
      go_ret2
      exact ⟨_, ret_vi Q1.out.symm, OwnB.nil_.cast Q2.out.symm, hb1.trans (hb2.mono hb1.size)⟩
    · have H2 := Lib.hid h2
      go_enter Try.func23, Try.ntmps23
      go_wp2_with fail
      refine (refBindMay_any A A1 n c n1 c1 ss bs _ HS.out hn HB.out hn1).mono ?_
      rintro e w1 ⟨rfl, hb1⟩
      rw [h1]
      clear h1
      go_wp2_with fail
      refine (refBindMay_any A A2 n c n2 c2 ss us _ (HS.out.on hb1) hn (HU.out.on hb1) hn2).mono ?_
      rintro e w2 ⟨rfl, hb2⟩
      rw [h2]
      have HB12 := Lib.hid (hb1.trans (hb2.mono hb1.size))
      clear h2 hb1 hb2
      go_wp2
      go_loopw [8, 9] (fun q i wr => ∃ k : Nat, i = .int .i64 k ∧ k ≤ 24 ∧ OwnB wr w.heap.size q ((List.range k).filterMap (bothF bs us)) ∧ (∀ v, v < k → bothOk bs us v = true) ∧ Below w.heap.size w wr) (fun _ i _ => 24 - (intOf i).toNat)
      case atStart => exact ⟨0, rfl, by omega, OwnB.nil_, fun v hv => absurd hv (by omega), HB12.out⟩
      case round =>
        obtain ⟨k, rfl, hk, hown, hall, hbw⟩ := hrel
        have HOWN := Lib.hid hown
        have HALL := Lib.hid hall
        have HBW := Lib.hid hbw
        have hsz := hbw.size
        clear hown hall hbw
        by_cases hlt : k < 24
        · have hk23 : (k : Int) ≤ 23 := by omega
          have hk0 : (0 : Int) ≤ (k : Int) := by omega
          obtain ⟨_, ms, hms, _⟩ := tl_both H1.out H2.out hlt
          have H24 := Lib.hid (codes24 hms)
          have HSH := Lib.hid (put1_short H1.out (-1 - (k : Int)))
          clear hms
          cases h3 : bothOk bs us k
          all_goals
            go_wp2_with fail
            refine (refPut_any A1 _ n1 c1 1 1 ss bs [-1 - (k : Int)] _ (HB.out.on (HBW.out.trans ((below_new _ _).mono hsz))) hn1 (bind_valid H1.out) (IntsAt.news wr [-1 - (k : Int)]) (by omega) (var24 hlt)).mono ?_
            rintro e w3 ⟨v3, rfl, hv3, hb3⟩
            rw [put_one] at hv3
            have HB3 := Lib.hid ((below_new wr (.cells #[.int .i64 (-1 - (k : Int))] 3)).trans (hb3.mono (by simp)))
            have HBW3 := Lib.hid (HBW.out.trans (HB3.out.mono hsz))
            have HO3 := Lib.hid (HOWN.out.on HB3.out)
            obtain ⟨A3, cap3, rfl, hc3, hi3⟩ := hv3.intsAt
            have HI3 := Lib.hid hi3
            clear hv3 hb3 hi3
            go_wp2_with fail
            refine (refPut_any A2 A3 n2 c2 _ cap3 ss us _ _ (HU.out.on HBW3.out) hn2 (bind_valid H2.out) HI3.out (by have := HSH.out; omega) H24.out).mono ?_
            rintro e w4 ⟨v4, rfl, hv4, hb4⟩
            have HV4 : Hid (OwnI w4 w.heap.size v4 (bothV bs us k)) := hv4.lower HBW3.out.size
            have HBW4 := Lib.hid (HBW3.out.trans (hb4.mono HBW3.out.size))
            have HO4 := Lib.hid (HO3.out.on hb4)
            have hsz4 := HBW4.out.size
            obtain ⟨A4, cap4, rfl, hc4, hi4⟩ := HV4.out.intsAt
            have HI4 := Lib.hid hi4
            obtain ⟨L, hL⟩ : ∃ L, L = (bothV bs us k).length := ⟨_, rfl⟩
            rw [← hL] at HV4 HI4 ⊢
            have HLL := Lib.hid hL
            clear hv4 hb4 hi4 hL
          · have hover : 48 < L := by have := of_decide_eq_false h3; rw [HLL.out]; omega
            obtain ⟨q1, q2⟩ := thenE_long H1.out H2.out hlt h3
            have Q1 := Lib.hid q1
            have Q2 := Lib.hid q2
            clear q1 q2 h3
            go_wp2
            go_ret2
            exact ⟨_, ret_vi Q1.out.symm, OwnB.nil_.cast Q2.out.symm, HBW4.out⟩
          · have hover : ¬ 48 < L := by have := of_decide_eq_true h3; rw [HLL.out]; omega
            have HA2 : Hid (∀ v, v < k + 1 → bothOk bs us v = true) := fun v hv => if e : v = k then by rw [e]; exact h3 else HALL.out v (by omega)
            clear h3
            have HB5 := Lib.hid (HBW4.out.trans ((below_new w4 (.cells #[.int .i64 (-1 - (k : Int))] 3)).mono hsz4))
            cases h4 : isV (bothV bs us k) k
            all_goals
              go_wp2_with fail
              refine (refSame_any A4 _ L cap4 1 1 _ _ _ [-1 - (k : Int)] _ (HI4.out.on (below_new _ _)) (IntsAt.news w4 [-1 - (k : Int)]) (by unfold maxLen; omega) (by unfold maxLen; omega)).mono ?_
              rintro e w6 ⟨rfl, hb6⟩
              have hsame : sameI (bothV bs us k) [-1 - (k : Int)] = isV (bothV bs us k) k := rfl
              rw [hsame, h4]
              have HB6 := Lib.hid (HB5.out.trans (hb6.mono HB5.out.size))
              have hb46 := (below_new w4 (.cells #[.int .i64 (-1 - (k : Int))] 3)).trans (hb6.mono (by simp))
              have HO6 := Lib.hid (HO4.out.on hb46)
              have HV6 := Lib.hid (HV4.out.on hb46)
              have hsz6 := HB6.out.size
              clear hb6 hsame hb46
            · have HUP := Lib.hid (upTo_more h4)
              go_wp2_with (at_builtin
                           refine app_bind1 rfl (.tmp 41) (.tmp 45) rfl w.heap.size _ _ (k : Int) (bothV bs us k) _ rfl HO6.out HV6.out rfl (by have := upTo_len (bs := bs) (us := us) (k := k); omega) hsz6 ?_
                           intro v5 w5 hown5 hb5
                           have HO5 := Lib.hid hown5
                           have HB7 := Lib.hid hb5
                           clear hown5 hb5)
              go_roundw
              case rel => exact ⟨k + 1, by go_num, by omega, HO5.out.cast HUP.out.symm, HA2.out, HB6.out.trans HB7.out⟩
              case measure => simp [intOf]; omega
            · have HUP := Lib.hid (upTo_same h4)
              go_wp2
              go_roundw
              case rel => exact ⟨k + 1, by go_num, by omega, HO6.out.cast HUP.out.symm, HA2.out, HB6.out⟩
              case measure => simp [intOf]; omega
        · obtain rfl : k = 24 := by omega
          obtain ⟨q1, q2⟩ := thenE_good H1.out H2.out HALL.out
          have Q1 := Lib.hid q1
          have Q2 := Lib.hid q2
          clear q1 q2
          go_wp2
          go_ret2
          exact ⟨_, ret_vi Q1.out.symm, HOWN.out.cast Q2.out.symm, HBW.out⟩

end Go.Proofs.Ytjclcogjdodjpaa
