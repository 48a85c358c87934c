/-
  The walk of the law PointFlips.
-/
import Derived.Test.YtpplddongkhkbaaAwakeP
import Derived.Test.YtpplddongkhkbaaPointFacts
namespace Go.Proofs.Ytpplddongkhkbaa
open Go.RowKit Go.Deep
set_option linter.unusedSimpArgs false
set_option linter.unusedVariables false
set_option maxRecDepth 100000

set_option maxHeartbeats 16000000 in
theorem pointFlips_walk (haw : ∀ u, Calls Try.prog 22 #[] u fun e w' => e = .returned (.bool true) ∧ Below u.heap.size u w') (a b c d : Int) (w1 : World) :
    Calls Try.prog 6 #[.int .i64 a, .int .i64 b, .int .i64 c, .int .i64 d] w1 fun e w' => e = .returned (.bool true) ∧ Below w1.heap.size w1 w' := by
  have bA := sm_bd a
  have bB := sm_bd b
  have bC := sm_bd c
  have bD := sm_bd d
  have s1 := smallPt_any a b
  have s2 := smallPt_any c d
  obtain ⟨A, hA⟩ : ∃ A, A = sm a := ⟨_, rfl⟩
  obtain ⟨B, hB⟩ : ∃ B, B = sm b := ⟨_, rfl⟩
  obtain ⟨C, hC⟩ : ∃ C, C = sm c := ⟨_, rfl⟩
  obtain ⟨D, hD⟩ : ∃ D, D = sm d := ⟨_, rfl⟩
  rw [← hA] at bA s1
  rw [← hB] at bB s1
  rw [← hC] at bC s2
  rw [← hD] at bD s2
  clear hA hB hC hD
  have oP : okP A B = true := ok_near (by omega) (by omega)
  have oQ : okP C D = true := ok_near (by omega) (by omega)
  have oX : okP B A = true := ok_near (by omega) (by omega)
  have oY : okP D C = true := ok_near (by omega) (by omega)
  obtain ⟨S, hS⟩ : ∃ S, S = A + C := ⟨_, rfl⟩
  obtain ⟨T, hT⟩ : ∃ T, T = B + D := ⟨_, rfl⟩
  have oS : okP S T = true := ok_near (by omega) (by omega)
  have oT : okP T S = true := ok_near (by omega) (by omega)
  obtain ⟨K, hK⟩ : ∃ K, K = A * C + B * D := ⟨_, rfl⟩
  have c1 := flip_ok oP
  have c2 := flip_ok oQ
  have c3 := flip_ok oX
  have c4 := add_ok oP oQ oS hS.symm hT.symm
  have c5 := flip_ok oS
  have c6 := add_ok oX oY oT hT.symm hS.symm
  have c7 := score_ok oP oQ hK.symm
  have c8 := score_ok oX oY (x := K) (by rw [hK]; omega)
  clear bA bB bC bD oP oQ oX oY oS oT hS hT hK
  have HAW := Lib.hid haw
  have H1 := Lib.hid s1
  have H2 := Lib.hid s2
  have K1 := Lib.hid c1
  have K2 := Lib.hid c2
  have K3 := Lib.hid c3
  have K4 := Lib.hid c4
  have K5 := Lib.hid c5
  have K6 := Lib.hid c6
  have K7 := Lib.hid c7
  have K8 := Lib.hid c8
  clear haw s1 s2 c1 c2 c3 c4 c5 c6 c7 c8
  have HB1 := Lib.hid (Below.refl w1.heap.size w1)
  go_enter Try.func6, Try.ntmps6
  go_wp2_with fail
  refine (HAW.out _).mono ?_
  rintro e w2 ⟨rfl, hb2⟩
  have HB2 := Lib.hid (HB1.out.trans (hb2.mono HB1.out.size))
  clear hb2
  go_wp2_with fail
  refine (H1.out _).mono ?_
  rintro e w3 ⟨rfl, hb3⟩
  have HB3 := Lib.hid (HB2.out.trans (hb3.mono HB2.out.size))
  clear hb3
  go_wp2_with fail
  refine (H2.out _).mono ?_
  rintro e w4 ⟨rfl, hb4⟩
  have HB4 := Lib.hid (HB3.out.trans (hb4.mono HB3.out.size))
  clear hb4
  obtain ⟨w5, hw5, hb5, kHP, kHQ⟩ := two_pts w4 A B C D
  have HB5 := Lib.hid (HB4.out.trans (hb5.mono HB4.out.size))
  have HP := Lib.hid kHP
  have HQ := Lib.hid kHQ
  clear hb5 kHP kHQ
  go_upto_region 4 with (fail)
  rw [← hw5]
  clear hw5
  have cHP0 := HP.out.c0
  have cHP1 := HP.out.c1
  go_wp2_with fail
  refine (K1.out _).mono ?_
  rintro e w6 ⟨rfl, hb6⟩
  have HB6 := Lib.hid (HB5.out.trans (hb6.mono HB5.out.size))
  replace HP := Lib.hid (HP.out.on hb6)
  replace HQ := Lib.hid (HQ.out.on hb6)
  clear hb6
  clear cHP0 cHP1
  have hb7 := below_new w6 (.cells #[.int .i64 B, .int .i64 A] 23)
  have HX := Lib.hid (PBox.new w6 B A)
  have HB7 := Lib.hid (HB6.out.trans (hb7.mono HB6.out.size))
  replace HP := Lib.hid (HP.out.on hb7)
  replace HQ := Lib.hid (HQ.out.on hb7)
  clear hb7
  have cHQ0 := HQ.out.c0
  have cHQ1 := HQ.out.c1
  go_wp2_with fail
  refine (K2.out _).mono ?_
  rintro e w8 ⟨rfl, hb8⟩
  have HB8 := Lib.hid (HB7.out.trans (hb8.mono HB7.out.size))
  replace HP := Lib.hid (HP.out.on hb8)
  replace HQ := Lib.hid (HQ.out.on hb8)
  replace HX := Lib.hid (HX.out.on hb8)
  clear hb8
  clear cHQ0 cHQ1
  have hb9 := below_new w8 (.cells #[.int .i64 D, .int .i64 C] 23)
  have HY := Lib.hid (PBox.new w8 D C)
  have HB9 := Lib.hid (HB8.out.trans (hb9.mono HB8.out.size))
  replace HP := Lib.hid (HP.out.on hb9)
  replace HQ := Lib.hid (HQ.out.on hb9)
  replace HX := Lib.hid (HX.out.on hb9)
  clear hb9
  have cHX0 := HX.out.c0
  have cHX1 := HX.out.c1
  go_wp2_with fail
  refine (K3.out _).mono ?_
  rintro e w10 ⟨rfl, hb10⟩
  have HB10 := Lib.hid (HB9.out.trans (hb10.mono HB9.out.size))
  replace HP := Lib.hid (HP.out.on hb10)
  replace HQ := Lib.hid (HQ.out.on hb10)
  replace HX := Lib.hid (HX.out.on hb10)
  replace HY := Lib.hid (HY.out.on hb10)
  clear hb10
  clear cHX0 cHX1
  have hb11 := below_new w10 (.cells #[.int .i64 A, .int .i64 B] 23)
  have HZ := Lib.hid (PBox.new w10 A B)
  have HB11 := Lib.hid (HB10.out.trans (hb11.mono HB10.out.size))
  replace HP := Lib.hid (HP.out.on hb11)
  replace HQ := Lib.hid (HQ.out.on hb11)
  replace HX := Lib.hid (HX.out.on hb11)
  replace HY := Lib.hid (HY.out.on hb11)
  clear hb11
  have cHP0 := HP.out.c0
  have cHP1 := HP.out.c1
  have cHQ0 := HQ.out.c0
  have cHQ1 := HQ.out.c1
  go_wp2_with fail
  refine (K4.out _).mono ?_
  rintro e w12 ⟨rfl, hb12⟩
  have HB12 := Lib.hid (HB11.out.trans (hb12.mono HB11.out.size))
  replace HP := Lib.hid (HP.out.on hb12)
  replace HQ := Lib.hid (HQ.out.on hb12)
  replace HX := Lib.hid (HX.out.on hb12)
  replace HY := Lib.hid (HY.out.on hb12)
  replace HZ := Lib.hid (HZ.out.on hb12)
  clear hb12
  clear cHP0 cHP1 cHQ0 cHQ1
  have hb13 := below_new w12 (.cells #[.int .i64 S, .int .i64 T] 23)
  have HS := Lib.hid (PBox.new w12 S T)
  have HB13 := Lib.hid (HB12.out.trans (hb13.mono HB12.out.size))
  replace HP := Lib.hid (HP.out.on hb13)
  replace HQ := Lib.hid (HQ.out.on hb13)
  replace HX := Lib.hid (HX.out.on hb13)
  replace HY := Lib.hid (HY.out.on hb13)
  replace HZ := Lib.hid (HZ.out.on hb13)
  clear hb13
  have cHS0 := HS.out.c0
  have cHS1 := HS.out.c1
  go_wp2_with fail
  refine (K5.out _).mono ?_
  rintro e w14 ⟨rfl, hb14⟩
  have HB14 := Lib.hid (HB13.out.trans (hb14.mono HB13.out.size))
  replace HP := Lib.hid (HP.out.on hb14)
  replace HQ := Lib.hid (HQ.out.on hb14)
  replace HX := Lib.hid (HX.out.on hb14)
  replace HY := Lib.hid (HY.out.on hb14)
  replace HZ := Lib.hid (HZ.out.on hb14)
  replace HS := Lib.hid (HS.out.on hb14)
  clear hb14
  clear cHS0 cHS1
  have hb15 := below_new w14 (.cells #[.int .i64 T, .int .i64 S] 23)
  have HT := Lib.hid (PBox.new w14 T S)
  have HB15 := Lib.hid (HB14.out.trans (hb15.mono HB14.out.size))
  replace HP := Lib.hid (HP.out.on hb15)
  replace HQ := Lib.hid (HQ.out.on hb15)
  replace HX := Lib.hid (HX.out.on hb15)
  replace HY := Lib.hid (HY.out.on hb15)
  replace HZ := Lib.hid (HZ.out.on hb15)
  replace HS := Lib.hid (HS.out.on hb15)
  clear hb15
  have cHX0 := HX.out.c0
  have cHX1 := HX.out.c1
  have cHY0 := HY.out.c0
  have cHY1 := HY.out.c1
  go_wp2_with fail
  refine (K6.out _).mono ?_
  rintro e w16 ⟨rfl, hb16⟩
  have HB16 := Lib.hid (HB15.out.trans (hb16.mono HB15.out.size))
  replace HP := Lib.hid (HP.out.on hb16)
  replace HQ := Lib.hid (HQ.out.on hb16)
  replace HX := Lib.hid (HX.out.on hb16)
  replace HY := Lib.hid (HY.out.on hb16)
  replace HZ := Lib.hid (HZ.out.on hb16)
  replace HS := Lib.hid (HS.out.on hb16)
  replace HT := Lib.hid (HT.out.on hb16)
  clear hb16
  clear cHX0 cHX1 cHY0 cHY1
  have hb17 := below_new w16 (.cells #[.int .i64 T, .int .i64 S] 23)
  have HU := Lib.hid (PBox.new w16 T S)
  have HB17 := Lib.hid (HB16.out.trans (hb17.mono HB16.out.size))
  replace HP := Lib.hid (HP.out.on hb17)
  replace HQ := Lib.hid (HQ.out.on hb17)
  replace HX := Lib.hid (HX.out.on hb17)
  replace HY := Lib.hid (HY.out.on hb17)
  replace HZ := Lib.hid (HZ.out.on hb17)
  replace HS := Lib.hid (HS.out.on hb17)
  replace HT := Lib.hid (HT.out.on hb17)
  clear hb17
  have cHP0 := HP.out.c0
  have cHP1 := HP.out.c1
  have cHQ0 := HQ.out.c0
  have cHQ1 := HQ.out.c1
  go_wp2_with fail
  refine (K7.out _).mono ?_
  rintro e w18 ⟨rfl, hb18⟩
  have HB18 := Lib.hid (HB17.out.trans (hb18.mono HB17.out.size))
  replace HP := Lib.hid (HP.out.on hb18)
  replace HQ := Lib.hid (HQ.out.on hb18)
  replace HX := Lib.hid (HX.out.on hb18)
  replace HY := Lib.hid (HY.out.on hb18)
  replace HZ := Lib.hid (HZ.out.on hb18)
  replace HS := Lib.hid (HS.out.on hb18)
  replace HT := Lib.hid (HT.out.on hb18)
  replace HU := Lib.hid (HU.out.on hb18)
  clear hb18
  clear cHP0 cHP1 cHQ0 cHQ1
  have cHX0 := HX.out.c0
  have cHX1 := HX.out.c1
  have cHY0 := HY.out.c0
  have cHY1 := HY.out.c1
  go_wp2_with fail
  refine (K8.out _).mono ?_
  rintro e w19 ⟨rfl, hb19⟩
  have HB19 := Lib.hid (HB18.out.trans (hb19.mono HB18.out.size))
  replace HP := Lib.hid (HP.out.on hb19)
  replace HQ := Lib.hid (HQ.out.on hb19)
  replace HX := Lib.hid (HX.out.on hb19)
  replace HY := Lib.hid (HY.out.on hb19)
  replace HZ := Lib.hid (HZ.out.on hb19)
  replace HS := Lib.hid (HS.out.on hb19)
  replace HT := Lib.hid (HT.out.on hb19)
  replace HU := Lib.hid (HU.out.on hb19)
  clear hb19
  clear cHX0 cHX1 cHY0 cHY1
  have cHZ0 := HZ.out.c0
  have cHZ1 := HZ.out.c1
  have cHP0 := HP.out.c0
  have cHP1 := HP.out.c1
  have cHT0 := HT.out.c0
  have cHT1 := HT.out.c1
  have cHU0 := HU.out.c0
  have cHU1 := HU.out.c1
  go_wp2_with (go_at_call 21; refine (num_any _ _).mono ?_; rintro e w' ⟨rfl, rfl⟩)
  go_ret
  exact ⟨rfl, HB19.out⟩
end Go.Proofs.Ytpplddongkhkbaa
