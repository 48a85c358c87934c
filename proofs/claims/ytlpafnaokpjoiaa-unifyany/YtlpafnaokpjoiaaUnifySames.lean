/-
  The walk of the law UnifySames.
-/
import Derived.Test.YtlpafnaokpjoiaaAwakeU
import Derived.Test.YtlpafnaokpjoiaaPlainUni
import Derived.Test.YtlpafnaokpjoiaaBaseBind
namespace Go.Proofs.Ytlpafnaokpjoiaa
open Go.RowKit
set_option linter.unusedSimpArgs false
set_option linter.unusedVariables false
set_option maxRecDepth 100000

set_option maxHeartbeats 1000000 in
theorem unifySames_walk (A0 A1 A2 : Option Addr) (n0 c0 n1 c1 n2 c2 : Nat) (ss : List Sym) (a b : List Int) (w : World) (hs : SymsAt w w.heap.size A0 n0 ss) (hn0 : n0 ≤ maxLen) (hnc : n0 ≤ c0) (ha : IntsAt w w.heap.size A1 n1 a) (hn1 : n1 ≤ maxLen) (hb : IntsAt w w.heap.size A2 n2 b) (hn2 : n2 ≤ maxLen) :
    Calls Try.prog 4 #[.slice A0 n0 c0, .slice A1 n1 c1, .slice A2 n2 c2] w fun e w' => e = .returned (.bool true) ∧ Below w.heap.size w w' := by
  have HS := Lib.hid hs
  have HA := Lib.hid ha
  have HB := Lib.hid hb
  have HB0 := Lib.hid (Below.refl w.heap.size w)
  clear hs hb ha
  go_enter Try.func4, Try.ntmps4
  go_wp2_with fail
  refine (awakeU_any _).mono ?_
  rintro e w1 ⟨rfl, hb1⟩
  have HB1 := Lib.hid (HB0.out.trans (hb1.mono HB0.out.size))
  replace HS := Lib.hid (HS.out.on hb1)
  replace HA := Lib.hid (HA.out.on hb1)
  replace HB := Lib.hid (HB.out.on hb1)
  clear hb1
  go_wp2_with fail
  refine (unify_any A0 A1 A2 n0 c0 n1 c1 n2 c2 ss a b _ HS.out hn0 hnc HA.out hn1 HB.out hn2).mono ?_
  rintro e w2 ⟨v2, E, is, bs, rfl, hv2, hb2, hu2⟩
  have HB2 := Lib.hid (HB1.out.trans (hb2.mono HB1.out.size))
  replace HS := Lib.hid (HS.out.on hb2)
  replace HA := Lib.hid (HA.out.on hb2)
  replace HB := Lib.hid (HB.out.on hb2)
  clear hb2
  obtain ⟨hbl, hbt⟩ := hu2.few
  have HU := Lib.hid hu2
  obtain ⟨A3, c3, rfl, _, ht⟩ := hv2.bindsAt hu2.fit
  have HT := Lib.hid ht
  clear ht hv2 hu2 hbt
  go_wp2_with fail
  refine (unify_any A0 A2 A1 n0 c0 n2 c2 n1 c1 ss b a _ HS.out hn0 hnc HB.out hn2 HA.out hn1).mono ?_
  rintro e w3 ⟨v3, E', is', bs', rfl, hv3, hb3, hu3⟩
  have HB3 := Lib.hid (HB2.out.trans (hb3.mono HB2.out.size))
  replace HS := Lib.hid (HS.out.on hb3)
  replace HA := Lib.hid (HA.out.on hb3)
  replace HB := Lib.hid (HB.out.on hb3)
  replace HT := Lib.hid (HT.out.on hb3)
  clear hb3
  obtain ⟨rfl, rfl, rfl⟩ := HU.out.symm.unique hu3
  obtain ⟨A4, c4, rfl, _, ht⟩ := hv3.bindsAt HU.out.fit
  have HT4 := Lib.hid ht
  clear ht hv3 hu3
  obtain ⟨L, hL⟩ : ∃ L, L = bs.length := ⟨_, rfl⟩
  rw [← hL] at HT HT4 hbl ⊢
  have HL := Lib.hid hL
  clear hL
  have gE : (E != E) = false := by simp
  have gI : (is != is) = false := by simp
  go_wp2_with (go_at_call 13; refine (num_any _ _).mono ?_; rintro e w' ⟨rfl, rfl⟩)
  go_wp2_with fail
  refine (sameBinds_true A3 A4 L c3 c4 bs _ HT.out (by omega) HT4.out).mono ?_
  rintro e w4 ⟨rfl, hb4⟩
  have HB4 := Lib.hid (HB3.out.trans (hb4.mono HB3.out.size))
  replace HS := Lib.hid (HS.out.on hb4)
  replace HA := Lib.hid (HA.out.on hb4)
  replace HB := Lib.hid (HB.out.on hb4)
  replace HT := Lib.hid (HT.out.on hb4)
  clear hb4
  clear HT4
  cases is
  · have hL0 : L = 0 := by rw [HL.out, HU.out.no]; rfl
    subst hL0
    go_wp2
    go_ret
    exact ⟨rfl, HB4.out⟩
  · obtain ⟨hE0, hra, hrb, σ, hc, hl, hbs⟩ := HU.out.yes
    subst hE0
    obtain ⟨p1, p2, p3⟩ := told_same hc hra hrb hl
    have HID := Lib.hid (fun i (hi : i < (bdsOf σ 24).length) => told_idem hc (row_parts hra).1 hl hi)
    have HLS := Lib.hid (fun i (hi : i < (bdsOf σ 24).length) => (HU.out.few.2 i (by rw [hbs]; exact hi)))
    rw [← hbs] at p1 p2 p3 HID HLS
    have P1 := Lib.hid p1
    have P2 := Lib.hid p2
    have P3 := Lib.hid p3
    clear hra hrb hc hl hbs p1 p2 p3
    go_wp2_with (go_at_call 13; refine (num_any _ _).mono ?_; rintro e w' ⟨rfl, rfl⟩)
    go_wp2_with fail
    refine (apply_any A0 A3 A1 n0 c0 L c3 n1 c1 ss bs a _ HS.out hn0 hnc HT.out (by omega) HA.out hn1).mono ?_
    rintro e w5 ⟨v5, rfl, hv5, hb5⟩
    have HB5 := Lib.hid (HB4.out.trans (hb5.mono HB4.out.size))
    replace HS := Lib.hid (HS.out.on hb5)
    replace HA := Lib.hid (HA.out.on hb5)
    replace HB := Lib.hid (HB.out.on hb5)
    replace HT := Lib.hid (HT.out.on hb5)
    clear hb5
    rw [P1.out]
    rw [P2.out] at hv5
    obtain ⟨A5, c5, rfl, _, ht⟩ := hv5.intsAt
    have HI5 := Lib.hid ht
    clear ht hv5
    go_wp2_with fail
    refine (apply_any A0 A3 A2 n0 c0 L c3 n2 c2 ss bs b _ HS.out hn0 hnc HT.out (by omega) HB.out hn2).mono ?_
    rintro e w6 ⟨v6, rfl, hv6, hb6⟩
    have HB6 := Lib.hid (HB5.out.trans (hb6.mono HB5.out.size))
    replace HS := Lib.hid (HS.out.on hb6)
    replace HA := Lib.hid (HA.out.on hb6)
    replace HB := Lib.hid (HB.out.on hb6)
    replace HT := Lib.hid (HT.out.on hb6)
    replace HI5 := Lib.hid (HI5.out.on hb6)
    clear hb6
    obtain ⟨A6, c6, rfl, _, ht⟩ := hv6.intsAt
    have HI6 := Lib.hid ht
    clear ht hv6
    obtain ⟨E5, hE5⟩ : ∃ E5, E5 = applyE ss bs b := ⟨_, rfl⟩
    obtain ⟨L5, hL5⟩ : ∃ L5, L5 = (applyR ss bs b).length := ⟨_, rfl⟩
    have hL48 : L5 ≤ 48 := by rw [hL5]; exact applyR_len ss bs b
    rw [← hE5]
    rw [← hL5] at HI5 HI6 ⊢
    clear hE5 hL5
    have gE5 : (E5 != E5) = false := by simp
    go_wp2_with fail
    refine (bindMay_any A0 A3 n0 c0 L c3 ss bs _ HS.out hn0 hnc HT.out (by omega)).mono ?_
    rintro e w7 ⟨rfl, hb7⟩
    have HB7 := Lib.hid (HB6.out.trans (hb7.mono HB6.out.size))
    replace HS := Lib.hid (HS.out.on hb7)
    replace HT := Lib.hid (HT.out.on hb7)
    replace HI5 := Lib.hid (HI5.out.on hb7)
    replace HI6 := Lib.hid (HI6.out.on hb7)
    clear hb7
    rw [P3.out]
    go_wp2_with (go_at_call 13; refine (num_any _ _).mono ?_; rintro e w' ⟨rfl, rfl⟩)
    go_wp2_with fail
    refine (sameInts_any A5 A6 L5 c5 L5 c6 _ _ _ _ _ HI5.out HI6.out (len_small (by omega)) (len_small (by omega))).mono ?_
    rintro e w8 ⟨rfl, hb8⟩
    have HB8 := Lib.hid (HB7.out.trans (hb8.mono HB7.out.size))
    replace HS := Lib.hid (HS.out.on hb8)
    replace HT := Lib.hid (HT.out.on hb8)
    clear hb8
    rw [sameI_self]
    clear HI5 HI6
    go_wp2
    go_loopw [17] (fun i wr => ∃ k : Nat, i = .int .i64 (k : Int) ∧ k ≤ L ∧ Below w.heap.size w wr ∧ SymsAt wr wr.heap.size A0 n0 ss ∧ BindsAt wr wr.heap.size A3 L bs) (fun i _ => L - (intOf i).toNat)
    case atStart => exact ⟨0, rfl, by omega, HB8.out, HS.out, HT.out⟩
    case round =>
      obtain ⟨k, rfl, hk, hbw, hsw, htw⟩ := hrel
      have HB9 := Lib.hid hbw
      have HS9 := Lib.hid hsw
      have HT9 := Lib.hid htw
      clear hbw hsw htw
      by_cases hlt : k < L
      · obtain ⟨b1, o1, hA3, hb1, hcb⟩ := HT9.out.at_ (by omega)
        obtain ⟨d0, A7, c7, d1, hc7, hi7⟩ := hcb k hlt
        subst hA3
        obtain ⟨q1, q2⟩ := HID.out k (by rw [← HL.out]; exact hlt)
        have hlk := HLS.out k (by rw [← HL.out]; exact hlt)
        have Q1 := Lib.hid q1
        have Q2 := Lib.hid q2
        have HI7 := Lib.hid hi7
        obtain ⟨tk, htk⟩ : ∃ tk, tk = (bdAt bs k).t := ⟨_, rfl⟩
        rw [← htk] at d1 hc7 hlk Q1 Q2 HI7
        obtain ⟨lk, hlke⟩ : ∃ lk, lk = tk.length := ⟨_, rfl⟩
        rw [← hlke] at d1 hc7 hlk HI7
        have HLK := Lib.hid hlke
        have z0 : (0 : Int) ≤ (k : Int) := by omega
        have z1 : (k : Int) < (L : Int) := by omega
        clear hcb q1 q2 htk hi7 hlke
        go_wp2_with fail
        refine (apply_any A0 _ A7 n0 c0 L c3 lk c7 ss bs tk _ HS9.out hn0 hnc HT9.out (by omega) HI7.out (len_small (by omega))).mono ?_
        rintro e w10 ⟨v10, rfl, hv10, hb10⟩
        rw [Q1.out]
        rw [Q2.out] at hv10
        have HB10 := Lib.hid (HB9.out.trans (hb10.mono HB9.out.size))
        have HS10 := Lib.hid (HS9.out.on hb10)
        have HT10 := Lib.hid (HT9.out.on hb10)
        have HI10 := Lib.hid (HI7.out.on hb10)
        have d1' := (hb10.cell (p := ⟨b1, o1 + k * 2 + 1, none⟩) hb1).trans d1
        obtain ⟨A8, c8, rfl, _, ht⟩ := hv10.intsAt
        rw [← HLK.out] at ht ⊢
        have HI8 := Lib.hid ht
        clear ht hv10 hb10 d1 d0
        go_wp2_with (go_at_call 13; refine (num_any _ _).mono ?_; rintro e w' ⟨rfl, rfl⟩)
        refine (sameInts_any A8 A7 lk c8 lk c7 _ _ _ _ _ HI8.out HI10.out (len_small (by omega)) (len_small (by omega))).mono ?_
        rintro e w11 ⟨rfl, hb11⟩
        rw [sameI_self]
        have HB11 := Lib.hid (HB10.out.trans (hb11.mono HB10.out.size))
        have HS11 := Lib.hid (HS10.out.on hb11)
        have HT11 := Lib.hid (HT10.out.on hb11)
        clear hb11
        go_wp2
        go_roundw
        case rel => exact ⟨k + 1, by go_num, by omega, HB11.out, HS11.out, HT11.out⟩
        case measure => simp [intOf]; omega
      · obtain rfl : k = L := by omega
        go_wp2
        go_ret
        exact ⟨rfl, HB9.out⟩

end Go.Proofs.Ytlpafnaokpjoiaa
