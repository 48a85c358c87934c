/-
  The walk of the law PointRing.
-/
import Derived.Test.YtpplddongkhkbaaAwakeP
import Derived.Test.YtpplddongkhkbaaPointFacts
namespace Go.Proofs.Ytpplddongkhkbaa
open Go.RowKit Go.Deep
set_option linter.unusedSimpArgs false
set_option linter.unusedVariables false
set_option maxRecDepth 100000

set_option maxHeartbeats 16000000 in
theorem pointRing_walk (haw : ∀ u, Calls Try.prog 22 #[] u fun e w' => e = .returned (.bool true) ∧ Below u.heap.size u w') (a b c d : Int) (w1 : World) :
    Calls Try.prog 5 #[.int .i64 a, .int .i64 b, .int .i64 c, .int .i64 d] w1 fun e w' => e = .returned (.bool true) ∧ Below w1.heap.size w1 w' := by
  have bA := sm_bd a
  have bB := sm_bd b
  have bC := sm_bd c
  have bD := sm_bd d
  have s1 := smallPt_any a b
  have s2 := smallPt_any b c
  have s3 := smallPt_any c d
  obtain ⟨A, hA⟩ : ∃ A, A = sm a := ⟨_, rfl⟩
  obtain ⟨B, hB⟩ : ∃ B, B = sm b := ⟨_, rfl⟩
  obtain ⟨C, hC⟩ : ∃ C, C = sm c := ⟨_, rfl⟩
  obtain ⟨D, hD⟩ : ∃ D, D = sm d := ⟨_, rfl⟩
  rw [← hA] at bA s1
  rw [← hB] at bB s1 s2
  rw [← hC] at bC s2 s3
  rw [← hD] at bD s3
  clear hA hB hC hD
  have m1 := prod_300 bA bB
  have m2 := prod_300 bB bC
  have m3 := prod_300 bA bC
  have m4 := prod_300 bB bB
  have m5 := prod_300 bB bD
  have m6 := prod_300 bA bD
  have oP : okP A B = true := ok_near (by omega) (by omega)
  have oQ : okP B C = true := ok_near (by omega) (by omega)
  have oR : okP C D = true := ok_near (by omega) (by omega)
  obtain ⟨X, hX⟩ : ∃ X, X = A * B - B * C := ⟨_, rfl⟩
  obtain ⟨Y, hY⟩ : ∃ Y, Y = A * C + B * B := ⟨_, rfl⟩
  obtain ⟨S, hS⟩ : ∃ S, S = B + C := ⟨_, rfl⟩
  obtain ⟨T, hT⟩ : ∃ T, T = C + D := ⟨_, rfl⟩
  obtain ⟨U, hU⟩ : ∃ U, U = A * C - B * D := ⟨_, rfl⟩
  obtain ⟨V, hV⟩ : ∃ V, V = A * D + B * C := ⟨_, rfl⟩
  have oX : okP X Y = true := ok_near (by omega) (by omega)
  have oS : okP S T = true := ok_near (by omega) (by omega)
  have oU : okP U V = true := ok_near (by omega) (by omega)
  have oZ : okP (X + U) (Y + V) = true := ok_near (by omega) (by omega)
  have c1 := mul_ok oP oQ oX hX.symm hY.symm
  have c2 := mul_ok oQ oP oX (by rw [hX, Int.mul_comm B A, Int.mul_comm C B]) (by rw [hY, Int.mul_comm C A]; omega)
  have c3 := add_ok oQ oR oS hS.symm hT.symm
  have c4 := mul_ok oP oS oZ (by rw [hX, hU, hS, hT, Int.mul_add, Int.mul_add]; omega) (by rw [hY, hV, hS, hT, Int.mul_add, Int.mul_add]; omega)
  have c5 := mul_ok oP oR oU hU.symm hV.symm
  have c6 := add_ok oX oU oZ rfl rfl
  obtain ⟨Z, hZ⟩ : ∃ Z, Z = X + U := ⟨_, rfl⟩
  obtain ⟨W, hW⟩ : ∃ W, W = Y + V := ⟨_, rfl⟩
  rw [← hZ, ← hW] at c4 c6
  clear bA bB bC bD m1 m2 m3 m4 m5 m6 oP oQ oR oX oS oU oZ hX hY hS hT hU hV hZ hW
  have HAW := Lib.hid haw
  have H1 := Lib.hid s1
  have H2 := Lib.hid s2
  have H3 := Lib.hid s3
  have K1 := Lib.hid c1
  have K2 := Lib.hid c2
  have K3 := Lib.hid c3
  have K4 := Lib.hid c4
  have K5 := Lib.hid c5
  have K6 := Lib.hid c6
  clear haw s1 s2 s3 c1 c2 c3 c4 c5 c6
  have HB1 := Lib.hid (Below.refl w1.heap.size w1)
  go_enter Try.func5, Try.ntmps5
  go_wp2_with fail
  refine (HAW.out _).mono ?_
  rintro e w2 ⟨rfl, hb2⟩
  have HB2 := Lib.hid (HB1.out.trans (hb2.mono HB1.out.size))
  clear hb2
  go_wp2_with fail
  refine (H1.out _).mono ?_
  rintro e w3 ⟨rfl, hb3⟩
  have HB3 := Lib.hid (HB2.out.trans (hb3.mono HB2.out.size))
  clear hb3
  go_wp2_with fail
  refine (H2.out _).mono ?_
  rintro e w4 ⟨rfl, hb4⟩
  have HB4 := Lib.hid (HB3.out.trans (hb4.mono HB3.out.size))
  clear hb4
  go_wp2_with fail
  refine (H3.out _).mono ?_
  rintro e w5 ⟨rfl, hb5⟩
  have HB5 := Lib.hid (HB4.out.trans (hb5.mono HB4.out.size))
  clear hb5
  obtain ⟨w6, hw6, hb6, kHP, kHQ, kHR⟩ := three_pts' w5 A B B C C D
  have HB6 := Lib.hid (HB5.out.trans (hb6.mono HB5.out.size))
  have HP := Lib.hid kHP
  have HQ := Lib.hid kHQ
  have HR := Lib.hid kHR
  clear hb6 kHP kHQ kHR
  go_upto_region 4 with (fail)
  rw [← hw6]
  clear hw6
  have cHP0 := HP.out.c0
  have cHP1 := HP.out.c1
  have cHQ0 := HQ.out.c0
  have cHQ1 := HQ.out.c1
  go_wp2_with fail
  refine (K1.out _).mono ?_
  rintro e w7 ⟨rfl, hb7⟩
  have HB7 := Lib.hid (HB6.out.trans (hb7.mono HB6.out.size))
  replace HP := Lib.hid (HP.out.on hb7)
  replace HQ := Lib.hid (HQ.out.on hb7)
  replace HR := Lib.hid (HR.out.on hb7)
  clear hb7
  clear cHP0 cHP1 cHQ0 cHQ1
  have hb8 := below_new w7 (.cells #[.int .i64 X, .int .i64 Y] 23)
  have HX := Lib.hid (PBox.new w7 X Y)
  have HB8 := Lib.hid (HB7.out.trans (hb8.mono HB7.out.size))
  replace HP := Lib.hid (HP.out.on hb8)
  replace HQ := Lib.hid (HQ.out.on hb8)
  replace HR := Lib.hid (HR.out.on hb8)
  clear hb8
  have cHP0 := HP.out.c0
  have cHP1 := HP.out.c1
  have cHQ0 := HQ.out.c0
  have cHQ1 := HQ.out.c1
  go_wp2_with fail
  refine (K2.out _).mono ?_
  rintro e w9 ⟨rfl, hb9⟩
  have HB9 := Lib.hid (HB8.out.trans (hb9.mono HB8.out.size))
  replace HP := Lib.hid (HP.out.on hb9)
  replace HQ := Lib.hid (HQ.out.on hb9)
  replace HR := Lib.hid (HR.out.on hb9)
  replace HX := Lib.hid (HX.out.on hb9)
  clear hb9
  clear cHP0 cHP1 cHQ0 cHQ1
  have hb10 := below_new w9 (.cells #[.int .i64 X, .int .i64 Y] 23)
  have HY := Lib.hid (PBox.new w9 X Y)
  have HB10 := Lib.hid (HB9.out.trans (hb10.mono HB9.out.size))
  replace HP := Lib.hid (HP.out.on hb10)
  replace HQ := Lib.hid (HQ.out.on hb10)
  replace HR := Lib.hid (HR.out.on hb10)
  replace HX := Lib.hid (HX.out.on hb10)
  clear hb10
  have cHQ0 := HQ.out.c0
  have cHQ1 := HQ.out.c1
  have cHR0 := HR.out.c0
  have cHR1 := HR.out.c1
  go_wp2_with fail
  refine (K3.out _).mono ?_
  rintro e w11 ⟨rfl, hb11⟩
  have HB11 := Lib.hid (HB10.out.trans (hb11.mono HB10.out.size))
  replace HP := Lib.hid (HP.out.on hb11)
  replace HQ := Lib.hid (HQ.out.on hb11)
  replace HR := Lib.hid (HR.out.on hb11)
  replace HX := Lib.hid (HX.out.on hb11)
  replace HY := Lib.hid (HY.out.on hb11)
  clear hb11
  clear cHQ0 cHQ1 cHR0 cHR1
  have hb12 := below_new w11 (.cells #[.int .i64 S, .int .i64 T] 23)
  have HS := Lib.hid (PBox.new w11 S T)
  have HB12 := Lib.hid (HB11.out.trans (hb12.mono HB11.out.size))
  replace HP := Lib.hid (HP.out.on hb12)
  replace HQ := Lib.hid (HQ.out.on hb12)
  replace HR := Lib.hid (HR.out.on hb12)
  replace HX := Lib.hid (HX.out.on hb12)
  replace HY := Lib.hid (HY.out.on hb12)
  clear hb12
  have cHP0 := HP.out.c0
  have cHP1 := HP.out.c1
  have cHS0 := HS.out.c0
  have cHS1 := HS.out.c1
  go_wp2_with fail
  refine (K4.out _).mono ?_
  rintro e w13 ⟨rfl, hb13⟩
  have HB13 := Lib.hid (HB12.out.trans (hb13.mono HB12.out.size))
  replace HP := Lib.hid (HP.out.on hb13)
  replace HQ := Lib.hid (HQ.out.on hb13)
  replace HR := Lib.hid (HR.out.on hb13)
  replace HX := Lib.hid (HX.out.on hb13)
  replace HY := Lib.hid (HY.out.on hb13)
  replace HS := Lib.hid (HS.out.on hb13)
  clear hb13
  clear cHP0 cHP1 cHS0 cHS1
  have hb14 := below_new w13 (.cells #[.int .i64 Z, .int .i64 W] 23)
  have HT := Lib.hid (PBox.new w13 Z W)
  have HB14 := Lib.hid (HB13.out.trans (hb14.mono HB13.out.size))
  replace HP := Lib.hid (HP.out.on hb14)
  replace HQ := Lib.hid (HQ.out.on hb14)
  replace HR := Lib.hid (HR.out.on hb14)
  replace HX := Lib.hid (HX.out.on hb14)
  replace HY := Lib.hid (HY.out.on hb14)
  replace HS := Lib.hid (HS.out.on hb14)
  clear hb14
  have cHP0 := HP.out.c0
  have cHP1 := HP.out.c1
  have cHR0 := HR.out.c0
  have cHR1 := HR.out.c1
  go_wp2_with fail
  refine (K5.out _).mono ?_
  rintro e w15 ⟨rfl, hb15⟩
  have HB15 := Lib.hid (HB14.out.trans (hb15.mono HB14.out.size))
  replace HP := Lib.hid (HP.out.on hb15)
  replace HQ := Lib.hid (HQ.out.on hb15)
  replace HR := Lib.hid (HR.out.on hb15)
  replace HX := Lib.hid (HX.out.on hb15)
  replace HY := Lib.hid (HY.out.on hb15)
  replace HS := Lib.hid (HS.out.on hb15)
  replace HT := Lib.hid (HT.out.on hb15)
  clear hb15
  clear cHP0 cHP1 cHR0 cHR1
  have hb16 := below_new w15 (.cells #[.int .i64 U, .int .i64 V] 23)
  have HU := Lib.hid (PBox.new w15 U V)
  have HB16 := Lib.hid (HB15.out.trans (hb16.mono HB15.out.size))
  replace HP := Lib.hid (HP.out.on hb16)
  replace HQ := Lib.hid (HQ.out.on hb16)
  replace HR := Lib.hid (HR.out.on hb16)
  replace HX := Lib.hid (HX.out.on hb16)
  replace HY := Lib.hid (HY.out.on hb16)
  replace HS := Lib.hid (HS.out.on hb16)
  replace HT := Lib.hid (HT.out.on hb16)
  clear hb16
  have cHX0 := HX.out.c0
  have cHX1 := HX.out.c1
  have cHU0 := HU.out.c0
  have cHU1 := HU.out.c1
  go_wp2_with fail
  refine (K6.out _).mono ?_
  rintro e w17 ⟨rfl, hb17⟩
  have HB17 := Lib.hid (HB16.out.trans (hb17.mono HB16.out.size))
  replace HP := Lib.hid (HP.out.on hb17)
  replace HQ := Lib.hid (HQ.out.on hb17)
  replace HR := Lib.hid (HR.out.on hb17)
  replace HX := Lib.hid (HX.out.on hb17)
  replace HY := Lib.hid (HY.out.on hb17)
  replace HS := Lib.hid (HS.out.on hb17)
  replace HT := Lib.hid (HT.out.on hb17)
  replace HU := Lib.hid (HU.out.on hb17)
  clear hb17
  clear cHX0 cHX1 cHU0 cHU1
  have hb18 := below_new w17 (.cells #[.int .i64 Z, .int .i64 W] 23)
  have HV := Lib.hid (PBox.new w17 Z W)
  have HB18 := Lib.hid (HB17.out.trans (hb18.mono HB17.out.size))
  replace HP := Lib.hid (HP.out.on hb18)
  replace HQ := Lib.hid (HQ.out.on hb18)
  replace HR := Lib.hid (HR.out.on hb18)
  replace HX := Lib.hid (HX.out.on hb18)
  replace HY := Lib.hid (HY.out.on hb18)
  replace HS := Lib.hid (HS.out.on hb18)
  replace HT := Lib.hid (HT.out.on hb18)
  replace HU := Lib.hid (HU.out.on hb18)
  clear hb18
  have cHX0 := HX.out.c0
  have cHX1 := HX.out.c1
  have cHY0 := HY.out.c0
  have cHY1 := HY.out.c1
  have cHT0 := HT.out.c0
  have cHT1 := HT.out.c1
  have cHV0 := HV.out.c0
  have cHV1 := HV.out.c1
  go_wp2_with (go_at_call 21; refine (num_any _ _).mono ?_; rintro e w' ⟨rfl, rfl⟩)
  go_ret
  exact ⟨rfl, HB18.out⟩
end Go.Proofs.Ytpplddongkhkbaa
