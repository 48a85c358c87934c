/-
  Contract of quaerelaw3: awake.
-/
import Derived.Test.YtjclcogjdodjpaaBaseBind
namespace Go.Proofs.Ytjclcogjdodjpaa
open Go.RowKit
set_option linter.unusedSimpArgs false
set_option linter.unusedVariables false

theorem aw1 : applyE wordsL [⟨0, [3, -2]⟩] [4, -1, -2] = 0 := by decide +kernel
theorem aw2 : applyR wordsL [⟨0, [3, -2]⟩] [4, -1, -2] = [4, 3, -2, -2] := by decide +kernel
theorem aw3 : thenE wordsL [⟨0, [3, -2]⟩] [⟨1, [1]⟩] = 0 := by decide +kernel
theorem aw4 : thenR wordsL [⟨0, [3, -2]⟩] [⟨1, [1]⟩] = [⟨0, [3, 1]⟩, ⟨1, [1]⟩] := by kernel_rfl
theorem aw5 : shiftE wordsL [4, -1, 1] 2 = 0 := by decide +kernel
theorem aw6 : shiftR wordsL [4, -1, 1] 2 = [4, -3, 1] := by decide +kernel
theorem aw7 : shiftE wordsL [-1] (-1) = 302 := by decide +kernel
theorem aw8 : bindB wordsL [⟨0, [3, -2]⟩] = true := by decide +kernel
theorem aw9 : bindB wordsL [⟨0, [-1]⟩] = false := by decide +kernel
theorem fit4 : ∀ i, i < [(⟨0, [3, 1]⟩ : Bd), ⟨1, [1]⟩].length → (bdAt [(⟨0, [3, 1]⟩ : Bd), ⟨1, [1]⟩] i).t.length * 8 ≤ 140737488351232 := by
  intro i hi
  match i, hi with
  | 0, _ => show 2 * 8 ≤ _; omega
  | 1, _ => show 1 * 8 ≤ _; omega

set_option maxHeartbeats 4000000 in
set_option maxRecDepth 100000 in
theorem awake_any (w : World) : Calls Try.prog 21 #[] w fun e w' => e = .returned (.bool true) ∧ Below w.heap.size w w' := by
  obtain ⟨w0, hw0⟩ : ∃ w0, w0 = (w.alloc (.cells #[.int .i64 3, .int .i64 (-2)] 3)).alloc (.cells #[.int .i64 0, .slice (some ⟨w.heap.size, 0, none⟩) 2 2] 51) := ⟨_, rfl⟩
  have HSB : Hid (BindsAt w0 w0.heap.size (some ⟨w.heap.size + 1, 0, none⟩) 1 [⟨0, [3, -2]⟩]) := by
    show BindsAt w0 w0.heap.size _ 1 _
    rw [hw0]
    exact BindsAt.lit1 w 0 [3, -2] (by simp)
  have HB0 : Hid (Below w.heap.size w w0) := by
    show Below w.heap.size w w0
    rw [hw0]; exact below_new2 w _ _
  go_enter Try.func21, Try.ntmps21
  go_wp2_with fail
  rw [← hw0]
  clear hw0
  go_wp2_with fail
  refine (words_any _).mono ?_
  rintro e w1 ⟨A1, rfl, hs1, hb1⟩
  have HB1 := Lib.hid (HB0.out.trans (hb1.mono HB0.out.size))
  replace HSB := Lib.hid (HSB.out.on hb1)
  clear hb1
  have hs2 := hs1.new (.cells #[.int .i64 4, .int .i64 (-1), .int .i64 (-2)] 3)
  have hb2 := below_new w1 (.cells #[.int .i64 4, .int .i64 (-1), .int .i64 (-2)] 3)
  have HB2 := Lib.hid (HB1.out.trans (hb2.mono HB1.out.size))
  replace HSB := Lib.hid (HSB.out.on hb2)
  clear hb2
  go_wp2_with fail
  refine (apply_any _ _ _ 7 7 1 1 3 3 wordsL [⟨0, [3, -2]⟩] [4, -1, -2] _ hs2 len7 (Nat.le_refl _) HSB.out (by omega) (IntsAt.news w1 [4, -1, -2]) (len_small (by decide))).mono ?_
  rintro e w3 ⟨v3, rfl, hv3, hb3⟩
  have HB3 := Lib.hid (HB2.out.trans (hb3.mono HB2.out.size))
  replace HSB := Lib.hid (HSB.out.on hb3)
  clear hb3
  rw [aw1]
  clear hs1 hs2
  rw [aw2] at hv3
  obtain ⟨C3, cap3, rfl, hcap3, hi3⟩ := hv3.intsAt
  have HI3 := Lib.hid hi3
  clear hv3 hi3
  go_wp2_with fail
  refine (words_any _).mono ?_
  rintro e w4 ⟨A4, rfl, hs4, hb4⟩
  have HB4 := Lib.hid (HB3.out.trans (hb4.mono HB3.out.size))
  replace HSB := Lib.hid (HSB.out.on hb4)
  replace HI3 := Lib.hid (HI3.out.on hb4)
  clear hb4
  have hs5 := (hs4.new (.cells #[.int .i64 1] 3)).new (.cells #[.int .i64 1, .slice (some ⟨w4.heap.size, 0, none⟩) 1 1] 51)
  have HB6 := Lib.hid (HB4.out.trans ((below_new2 w4 (.cells #[.int .i64 1] 3) (.cells #[.int .i64 1, .slice (some ⟨w4.heap.size, 0, none⟩) 1 1] 51)).mono HB4.out.size))
  replace HSB := Lib.hid (HSB.out.on (below_new2 w4 (.cells #[.int .i64 1] 3) (.cells #[.int .i64 1, .slice (some ⟨w4.heap.size, 0, none⟩) 1 1] 51)))
  replace HI3 := Lib.hid (HI3.out.on (below_new2 w4 (.cells #[.int .i64 1] 3) (.cells #[.int .i64 1, .slice (some ⟨w4.heap.size, 0, none⟩) 1 1] 51)))
  go_wp2_with fail
  refine (then_any _ _ _ 7 7 1 1 1 1 wordsL [⟨0, [3, -2]⟩] [⟨1, [1]⟩] _ hs5 len7 (Nat.le_refl _) HSB.out (by omega) (BindsAt.lit1 w4 1 [1] (by simp)) (by omega)).mono ?_
  rintro e w7 ⟨v7, rfl, hv7, hb7⟩
  have HB7 := Lib.hid (HB6.out.trans (hb7.mono HB6.out.size))
  replace HSB := Lib.hid (HSB.out.on hb7)
  replace HI3 := Lib.hid (HI3.out.on hb7)
  clear hb7
  rw [aw3]
  clear hs4 hs5
  rw [aw4] at hv7
  obtain ⟨C7, cap7, rfl, hcap7, hi7⟩ := hv7.bindsAt fit4
  have HT := Lib.hid hi7
  clear hv7 hi7
  go_wp2_with fail
  refine (words_any _).mono ?_
  rintro e w8 ⟨A8, rfl, hs8, hb8⟩
  have HB8 := Lib.hid (HB7.out.trans (hb8.mono HB7.out.size))
  replace HSB := Lib.hid (HSB.out.on hb8)
  replace HI3 := Lib.hid (HI3.out.on hb8)
  replace HT := Lib.hid (HT.out.on hb8)
  clear hb8
  have hs9 := hs8.new (.cells #[.int .i64 4, .int .i64 (-1), .int .i64 1] 3)
  have hb9 := below_new w8 (.cells #[.int .i64 4, .int .i64 (-1), .int .i64 1] 3)
  have HB9 := Lib.hid (HB8.out.trans (hb9.mono HB8.out.size))
  replace HSB := Lib.hid (HSB.out.on hb9)
  replace HI3 := Lib.hid (HI3.out.on hb9)
  replace HT := Lib.hid (HT.out.on hb9)
  clear hb9
  go_wp2_with fail
  refine (shift_any _ _ 7 7 3 3 wordsL [4, -1, 1] 2 _ hs9 len7 (Nat.le_refl _) (IntsAt.news w8 [4, -1, 1]) (len_small (by decide))).mono ?_
  rintro e w10 ⟨v10, rfl, hv10, hb10⟩
  have HB10 := Lib.hid (HB9.out.trans (hb10.mono HB9.out.size))
  replace HSB := Lib.hid (HSB.out.on hb10)
  replace HI3 := Lib.hid (HI3.out.on hb10)
  replace HT := Lib.hid (HT.out.on hb10)
  clear hb10
  rw [aw5]
  clear hs8 hs9
  rw [aw6] at hv10
  obtain ⟨C10, cap10, rfl, hcap10, hi10⟩ := hv10.intsAt
  have HI10 := Lib.hid hi10
  clear hv10 hi10
  go_wp2_with fail
  refine (words_any _).mono ?_
  rintro e w11 ⟨A11, rfl, hs11, hb11⟩
  have HB11 := Lib.hid (HB10.out.trans (hb11.mono HB10.out.size))
  replace HSB := Lib.hid (HSB.out.on hb11)
  replace HI3 := Lib.hid (HI3.out.on hb11)
  replace HT := Lib.hid (HT.out.on hb11)
  replace HI10 := Lib.hid (HI10.out.on hb11)
  clear hb11
  have hs12 := hs11.new (.cells #[.int .i64 (-1)] 3)
  have hb12 := below_new w11 (.cells #[.int .i64 (-1)] 3)
  have HB12 := Lib.hid (HB11.out.trans (hb12.mono HB11.out.size))
  replace HSB := Lib.hid (HSB.out.on hb12)
  replace HI3 := Lib.hid (HI3.out.on hb12)
  replace HT := Lib.hid (HT.out.on hb12)
  replace HI10 := Lib.hid (HI10.out.on hb12)
  clear hb12
  go_wp2_with fail
  refine (shift_any _ _ 7 7 1 1 wordsL [-1] (-1) _ hs12 len7 (Nat.le_refl _) (IntsAt.news w11 [-1]) (len_small (by decide))).mono ?_
  rintro e w13 ⟨v13, rfl, hv13, hb13⟩
  have HB13 := Lib.hid (HB12.out.trans (hb13.mono HB12.out.size))
  replace HSB := Lib.hid (HSB.out.on hb13)
  replace HI3 := Lib.hid (HI3.out.on hb13)
  replace HT := Lib.hid (HT.out.on hb13)
  replace HI10 := Lib.hid (HI10.out.on hb13)
  clear hb13
  rw [aw7]
  clear hs11 hs12 hv13
  have hb14 := below_new w13 (.cells #[.int .i64 4, .int .i64 3, .int .i64 (-2), .int .i64 (-2)] 3)
  have HB14 := Lib.hid (HB13.out.trans (hb14.mono HB13.out.size))
  replace HSB := Lib.hid (HSB.out.on hb14)
  replace HI3 := Lib.hid (HI3.out.on hb14)
  replace HT := Lib.hid (HT.out.on hb14)
  replace HI10 := Lib.hid (HI10.out.on hb14)
  clear hb14
  go_wp2_with fail
  refine (sameInts_any _ _ 4 cap3 4 4 _ _ [4, 3, -2, -2] [4, 3, -2, -2] _ HI3.out (IntsAt.news w13 [4, 3, -2, -2]) (len_small (by decide)) (len_small (by decide))).mono ?_
  rintro e w15 ⟨rfl, hb15⟩
  have HB15 := Lib.hid (HB14.out.trans (hb15.mono HB14.out.size))
  replace HSB := Lib.hid (HSB.out.on hb15)
  replace HI3 := Lib.hid (HI3.out.on hb15)
  replace HT := Lib.hid (HT.out.on hb15)
  replace HI10 := Lib.hid (HI10.out.on hb15)
  clear hb15
  rw [sameI_self]
  go_wp2_with (go_at_call 17; refine (num_any _ _).mono ?_; rintro e w' ⟨rfl, rfl⟩)
  have HB18 := Lib.hid (HB15.out.trans ((below_new3 w15 (.cells #[.int .i64 3, .int .i64 1] 3) (.cells #[.int .i64 1] 3) (.cells #[.int .i64 0, .slice (some ⟨w15.heap.size, 0, none⟩) 2 2, .int .i64 1, .slice (some ⟨w15.heap.size + 1, 0, none⟩) 1 1] 51)).mono HB15.out.size))
  replace HSB := Lib.hid (HSB.out.on (below_new3 w15 (.cells #[.int .i64 3, .int .i64 1] 3) (.cells #[.int .i64 1] 3) (.cells #[.int .i64 0, .slice (some ⟨w15.heap.size, 0, none⟩) 2 2, .int .i64 1, .slice (some ⟨w15.heap.size + 1, 0, none⟩) 1 1] 51)))
  replace HT := Lib.hid (HT.out.on (below_new3 w15 (.cells #[.int .i64 3, .int .i64 1] 3) (.cells #[.int .i64 1] 3) (.cells #[.int .i64 0, .slice (some ⟨w15.heap.size, 0, none⟩) 2 2, .int .i64 1, .slice (some ⟨w15.heap.size + 1, 0, none⟩) 1 1] 51)))
  replace HI10 := Lib.hid (HI10.out.on (below_new3 w15 (.cells #[.int .i64 3, .int .i64 1] 3) (.cells #[.int .i64 1] 3) (.cells #[.int .i64 0, .slice (some ⟨w15.heap.size, 0, none⟩) 2 2, .int .i64 1, .slice (some ⟨w15.heap.size + 1, 0, none⟩) 1 1] 51)))
  clear HI3
  go_wp2_with fail
  refine (sameBinds_true C7 _ 2 cap7 2 _ _ HT.out (by omega) (BindsAt.lit2 w15 0 1 [3, 1] [1] (by simp) (by simp))).mono ?_
  rintro e w19 ⟨rfl, hb19⟩
  have HB19 := Lib.hid (HB18.out.trans (hb19.mono HB18.out.size))
  replace HSB := Lib.hid (HSB.out.on hb19)
  replace HI10 := Lib.hid (HI10.out.on hb19)
  clear hb19
  have hb20 := below_new w19 (.cells #[.int .i64 4, .int .i64 (-3), .int .i64 1] 3)
  have HB20 := Lib.hid (HB19.out.trans (hb20.mono HB19.out.size))
  replace HSB := Lib.hid (HSB.out.on hb20)
  replace HI10 := Lib.hid (HI10.out.on hb20)
  clear hb20
  go_wp2_with fail
  refine (sameInts_any _ _ 3 cap10 3 3 _ _ [4, -3, 1] [4, -3, 1] _ HI10.out (IntsAt.news w19 [4, -3, 1]) (len_small (by decide)) (len_small (by decide))).mono ?_
  rintro e w21 ⟨rfl, hb21⟩
  have HB21 := Lib.hid (HB20.out.trans (hb21.mono HB20.out.size))
  replace HSB := Lib.hid (HSB.out.on hb21)
  clear hb21
  rw [sameI_self]
  go_wp2_with (go_at_call 17; refine (num_any _ _).mono ?_; rintro e w' ⟨rfl, rfl⟩)
  go_wp2_with fail
  refine (words_any _).mono ?_
  rintro e w22 ⟨A22, rfl, hs22, hb22⟩
  have HB22 := Lib.hid (HB21.out.trans (hb22.mono HB21.out.size))
  replace HSB := Lib.hid (HSB.out.on hb22)
  clear hb22
  go_wp2_with fail
  refine (bindMay_any _ _ 7 7 1 1 wordsL [⟨0, [3, -2]⟩] _ hs22 len7 (Nat.le_refl _) HSB.out (by omega)).mono ?_
  rintro e w24 ⟨rfl, hb24⟩
  have HB24 := Lib.hid (HB22.out.trans (hb24.mono HB22.out.size))
  replace HSB := Lib.hid (HSB.out.on hb24)
  clear hb24
  rw [aw8]
  clear hs22
  go_wp2_with fail
  refine (words_any _).mono ?_
  rintro e w23 ⟨A23, rfl, hs23, hb23⟩
  have HB23 := Lib.hid (HB24.out.trans (hb23.mono HB24.out.size))
  replace HSB := Lib.hid (HSB.out.on hb23)
  clear hb23
  have HB25 := Lib.hid (HB23.out.trans ((below_new2 w23 (.cells #[.int .i64 (-1)] 3) (.cells #[.int .i64 0, .slice (some ⟨w23.heap.size, 0, none⟩) 1 1] 51)).mono HB23.out.size))
  have hs25 := hs23.on (below_new2 w23 (.cells #[.int .i64 (-1)] 3) (.cells #[.int .i64 0, .slice (some ⟨w23.heap.size, 0, none⟩) 1 1] 51))
  go_wp2_with fail
  refine (bindMay_any _ _ 7 7 1 1 wordsL [⟨0, [-1]⟩] _ hs25 len7 (Nat.le_refl _) (BindsAt.lit1 w23 0 [-1] (by simp)) (by omega)).mono ?_
  rintro e w26 ⟨rfl, hb26⟩
  have HB26 := Lib.hid (HB25.out.trans (hb26.mono HB25.out.size))
  clear hb26
  rw [aw9]
  clear hs23 hs25
  go_wp2
  go_ret
  exact ⟨rfl, HB26.out⟩

end Go.Proofs.Ytjclcogjdodjpaa
