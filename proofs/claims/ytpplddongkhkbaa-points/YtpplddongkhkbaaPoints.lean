/-
  The walk of the law Points.
-/
import Derived.Test.YtpplddongkhkbaaAwakeP
import Derived.Test.YtpplddongkhkbaaRefPoint
namespace Go.Proofs.Ytpplddongkhkbaa
open Go.RowKit Go.Deep
set_option linter.unusedSimpArgs false
set_option linter.unusedVariables false
set_option maxRecDepth 100000

set_option maxHeartbeats 16000000 in
theorem points_walk (haw : ∀ u, Calls Try.prog 22 #[] u fun e w' => e = .returned (.bool true) ∧ Below u.heap.size u w') (a b c d : Int) (w : World) :
    Calls Try.prog 3 #[.agg #[.int .i64 a, .int .i64 b], .agg #[.int .i64 c, .int .i64 d]] w fun e w' => e = .returned (.bool true) ∧ Below w.heap.size w w' := by
  obtain ⟨X1, Y1, E1, kA1, kB1⟩ : ∃ X Y E, (∀ u, Calls Try.prog 9 #[.agg #[.int .i64 a, .int .i64 b], .agg #[.int .i64 c, .int .i64 d]] u (PPost X Y E u)) ∧ (∀ u, Calls Try.prog 10 #[.agg #[.int .i64 a, .int .i64 b], .agg #[.int .i64 c, .int .i64 d]] u (PPost X Y E u)) := ⟨_, _, _, fun u => add_any a b c d u, fun u => refAdd_pt a b c d u⟩
  have HA1 := Lib.hid kA1
  have HR1 := Lib.hid kB1
  clear kA1 kB1
  obtain ⟨X2, Y2, E2, kA2, kB2⟩ : ∃ X Y E, (∀ u, Calls Try.prog 11 #[.agg #[.int .i64 a, .int .i64 b], .agg #[.int .i64 c, .int .i64 d]] u (PPost X Y E u)) ∧ (∀ u, Calls Try.prog 12 #[.agg #[.int .i64 a, .int .i64 b], .agg #[.int .i64 c, .int .i64 d]] u (PPost X Y E u)) := ⟨_, _, _, fun u => mul_any a b c d u, fun u => refMul_pt a b c d u⟩
  have HA2 := Lib.hid kA2
  have HR2 := Lib.hid kB2
  clear kA2 kB2
  obtain ⟨X3, Y3, E3, kA3, kB3⟩ : ∃ X Y E, (∀ u, Calls Try.prog 13 #[.agg #[.int .i64 a, .int .i64 b]] u (PPost X Y E u)) ∧ (∀ u, Calls Try.prog 14 #[.agg #[.int .i64 a, .int .i64 b]] u (PPost X Y E u)) := ⟨_, _, _, fun u => flip_any a b u, fun u => refFlip_pt a b u⟩
  have HA3 := Lib.hid kA3
  have HR3 := Lib.hid kB3
  clear kA3 kB3
  obtain ⟨X4, E4, kA4, kB4⟩ : ∃ X E, (∀ u, Calls Try.prog 15 #[.agg #[.int .i64 a, .int .i64 b], .agg #[.int .i64 c, .int .i64 d]] u (UPost X E u)) ∧ (∀ u, Calls Try.prog 16 #[.agg #[.int .i64 a, .int .i64 b], .agg #[.int .i64 c, .int .i64 d]] u (UPost X E u)) := ⟨_, _, fun u => under_any a b c d u, fun u => refUnder_pt a b c d u⟩
  have HA4 := Lib.hid kA4
  have HR4 := Lib.hid kB4
  clear kA4 kB4
  obtain ⟨X5, E5, kA5, kB5⟩ : ∃ X E, (∀ u, Calls Try.prog 17 #[.agg #[.int .i64 a, .int .i64 b], .agg #[.int .i64 c, .int .i64 d]] u (SPost X E u)) ∧ (∀ u, Calls Try.prog 18 #[.agg #[.int .i64 a, .int .i64 b], .agg #[.int .i64 c, .int .i64 d]] u (SPost X E u)) := ⟨_, _, fun u => score_any a b c d u, fun u => refScore_pt a b c d u⟩
  have HA5 := Lib.hid kA5
  have HR5 := Lib.hid kB5
  clear kA5 kB5
  obtain ⟨M, hM⟩ : ∃ M, okP a b = M := ⟨_, rfl⟩
  have HM := Lib.hid hM
  clear hM
  have g1 : (X1 == X1) = true := by simp
  have g2 : (X2 == X2) = true := by simp
  have g3 : (X3 == X3) = true := by simp
  have g4 : (X4 == X4) = true := by simp
  have g5 : (X5 == X5) = true := by simp
  have i1 : (Y1 == Y1) = true := by simp
  have i2 : (Y2 == Y2) = true := by simp
  have i3 : (Y3 == Y3) = true := by simp
  have j1 : (E1 == E1) = true := by simp
  have j2 : (E2 == E2) = true := by simp
  have j3 : (E3 == E3) = true := by simp
  have j4 : (E4 == E4) = true := by simp
  have j5 : (E5 == E5) = true := by simp
  have gM : (M == M) = true := by simp
  go_enter Try.func3, Try.ntmps3
  obtain ⟨w1, hw1, hb1, hp1, hq1⟩ := two_pts w a b c d
  have HB1 := Lib.hid hb1
  have HP := Lib.hid hp1
  have HQ := Lib.hid hq1
  clear hb1 hp1 hq1
  go_upto_region 1 with (fail)
  rw [← hw1]
  clear hw1
  have cHP0 := HP.out.c0
  have cHP1 := HP.out.c1
  have cHQ0 := HQ.out.c0
  have cHQ1 := HQ.out.c1
  go_wp2_with fail
  refine (HA1.out _).mono ?_
  rintro e w2 ⟨rfl, hb2⟩
  have HB2 := Lib.hid (HB1.out.trans (hb2.mono HB1.out.size))
  replace HP := Lib.hid (HP.out.on hb2)
  replace HQ := Lib.hid (HQ.out.on hb2)
  clear hb2
  clear cHP0 cHP1 cHQ0 cHQ1
  have hb3 := below_new w2 (.cells #[.int .i64 X1, .int .i64 Y1] 23)
  have HX1 := Lib.hid (PBox.new w2 X1 Y1)
  have HB3 := Lib.hid (HB2.out.trans (hb3.mono HB2.out.size))
  replace HP := Lib.hid (HP.out.on hb3)
  replace HQ := Lib.hid (HQ.out.on hb3)
  clear hb3
  have cHP0 := HP.out.c0
  have cHP1 := HP.out.c1
  have cHQ0 := HQ.out.c0
  have cHQ1 := HQ.out.c1
  go_wp2_with fail
  refine (HR1.out _).mono ?_
  rintro e w4 ⟨rfl, hb4⟩
  have HB4 := Lib.hid (HB3.out.trans (hb4.mono HB3.out.size))
  replace HP := Lib.hid (HP.out.on hb4)
  replace HQ := Lib.hid (HQ.out.on hb4)
  replace HX1 := Lib.hid (HX1.out.on hb4)
  clear hb4
  clear cHP0 cHP1 cHQ0 cHQ1
  have hb5 := below_new w4 (.cells #[.int .i64 X1, .int .i64 Y1] 23)
  have HZ1 := Lib.hid (PBox.new w4 X1 Y1)
  have HB5 := Lib.hid (HB4.out.trans (hb5.mono HB4.out.size))
  replace HP := Lib.hid (HP.out.on hb5)
  replace HQ := Lib.hid (HQ.out.on hb5)
  replace HX1 := Lib.hid (HX1.out.on hb5)
  clear hb5
  have cHP0 := HP.out.c0
  have cHP1 := HP.out.c1
  have cHQ0 := HQ.out.c0
  have cHQ1 := HQ.out.c1
  go_wp2_with fail
  refine (HA2.out _).mono ?_
  rintro e w6 ⟨rfl, hb6⟩
  have HB6 := Lib.hid (HB5.out.trans (hb6.mono HB5.out.size))
  replace HP := Lib.hid (HP.out.on hb6)
  replace HQ := Lib.hid (HQ.out.on hb6)
  replace HX1 := Lib.hid (HX1.out.on hb6)
  replace HZ1 := Lib.hid (HZ1.out.on hb6)
  clear hb6
  clear cHP0 cHP1 cHQ0 cHQ1
  have hb7 := below_new w6 (.cells #[.int .i64 X2, .int .i64 Y2] 23)
  have HX2 := Lib.hid (PBox.new w6 X2 Y2)
  have HB7 := Lib.hid (HB6.out.trans (hb7.mono HB6.out.size))
  replace HP := Lib.hid (HP.out.on hb7)
  replace HQ := Lib.hid (HQ.out.on hb7)
  replace HX1 := Lib.hid (HX1.out.on hb7)
  replace HZ1 := Lib.hid (HZ1.out.on hb7)
  clear hb7
  have cHP0 := HP.out.c0
  have cHP1 := HP.out.c1
  have cHQ0 := HQ.out.c0
  have cHQ1 := HQ.out.c1
  go_wp2_with fail
  refine (HR2.out _).mono ?_
  rintro e w8 ⟨rfl, hb8⟩
  have HB8 := Lib.hid (HB7.out.trans (hb8.mono HB7.out.size))
  replace HP := Lib.hid (HP.out.on hb8)
  replace HQ := Lib.hid (HQ.out.on hb8)
  replace HX1 := Lib.hid (HX1.out.on hb8)
  replace HZ1 := Lib.hid (HZ1.out.on hb8)
  replace HX2 := Lib.hid (HX2.out.on hb8)
  clear hb8
  clear cHP0 cHP1 cHQ0 cHQ1
  have hb9 := below_new w8 (.cells #[.int .i64 X2, .int .i64 Y2] 23)
  have HZ2 := Lib.hid (PBox.new w8 X2 Y2)
  have HB9 := Lib.hid (HB8.out.trans (hb9.mono HB8.out.size))
  replace HP := Lib.hid (HP.out.on hb9)
  replace HQ := Lib.hid (HQ.out.on hb9)
  replace HX1 := Lib.hid (HX1.out.on hb9)
  replace HZ1 := Lib.hid (HZ1.out.on hb9)
  replace HX2 := Lib.hid (HX2.out.on hb9)
  clear hb9
  have cHP0 := HP.out.c0
  have cHP1 := HP.out.c1
  go_wp2_with fail
  refine (HA3.out _).mono ?_
  rintro e w10 ⟨rfl, hb10⟩
  have HB10 := Lib.hid (HB9.out.trans (hb10.mono HB9.out.size))
  replace HP := Lib.hid (HP.out.on hb10)
  replace HQ := Lib.hid (HQ.out.on hb10)
  replace HX1 := Lib.hid (HX1.out.on hb10)
  replace HZ1 := Lib.hid (HZ1.out.on hb10)
  replace HX2 := Lib.hid (HX2.out.on hb10)
  replace HZ2 := Lib.hid (HZ2.out.on hb10)
  clear hb10
  clear cHP0 cHP1
  have hb11 := below_new w10 (.cells #[.int .i64 X3, .int .i64 Y3] 23)
  have HX3 := Lib.hid (PBox.new w10 X3 Y3)
  have HB11 := Lib.hid (HB10.out.trans (hb11.mono HB10.out.size))
  replace HP := Lib.hid (HP.out.on hb11)
  replace HQ := Lib.hid (HQ.out.on hb11)
  replace HX1 := Lib.hid (HX1.out.on hb11)
  replace HZ1 := Lib.hid (HZ1.out.on hb11)
  replace HX2 := Lib.hid (HX2.out.on hb11)
  replace HZ2 := Lib.hid (HZ2.out.on hb11)
  clear hb11
  have cHP0 := HP.out.c0
  have cHP1 := HP.out.c1
  go_wp2_with fail
  refine (HR3.out _).mono ?_
  rintro e w12 ⟨rfl, hb12⟩
  have HB12 := Lib.hid (HB11.out.trans (hb12.mono HB11.out.size))
  replace HP := Lib.hid (HP.out.on hb12)
  replace HQ := Lib.hid (HQ.out.on hb12)
  replace HX1 := Lib.hid (HX1.out.on hb12)
  replace HZ1 := Lib.hid (HZ1.out.on hb12)
  replace HX2 := Lib.hid (HX2.out.on hb12)
  replace HZ2 := Lib.hid (HZ2.out.on hb12)
  replace HX3 := Lib.hid (HX3.out.on hb12)
  clear hb12
  clear cHP0 cHP1
  have hb13 := below_new w12 (.cells #[.int .i64 X3, .int .i64 Y3] 23)
  have HZ3 := Lib.hid (PBox.new w12 X3 Y3)
  have HB13 := Lib.hid (HB12.out.trans (hb13.mono HB12.out.size))
  replace HP := Lib.hid (HP.out.on hb13)
  replace HQ := Lib.hid (HQ.out.on hb13)
  replace HX1 := Lib.hid (HX1.out.on hb13)
  replace HZ1 := Lib.hid (HZ1.out.on hb13)
  replace HX2 := Lib.hid (HX2.out.on hb13)
  replace HZ2 := Lib.hid (HZ2.out.on hb13)
  replace HX3 := Lib.hid (HX3.out.on hb13)
  clear hb13
  have cHP0 := HP.out.c0
  have cHP1 := HP.out.c1
  have cHQ0 := HQ.out.c0
  have cHQ1 := HQ.out.c1
  go_wp2_with fail
  refine (HA4.out _).mono ?_
  rintro e w14 ⟨rfl, hb14⟩
  have HB14 := Lib.hid (HB13.out.trans (hb14.mono HB13.out.size))
  replace HP := Lib.hid (HP.out.on hb14)
  replace HQ := Lib.hid (HQ.out.on hb14)
  replace HX1 := Lib.hid (HX1.out.on hb14)
  replace HZ1 := Lib.hid (HZ1.out.on hb14)
  replace HX2 := Lib.hid (HX2.out.on hb14)
  replace HZ2 := Lib.hid (HZ2.out.on hb14)
  replace HX3 := Lib.hid (HX3.out.on hb14)
  replace HZ3 := Lib.hid (HZ3.out.on hb14)
  clear hb14
  clear cHP0 cHP1 cHQ0 cHQ1
  have cHP0 := HP.out.c0
  have cHP1 := HP.out.c1
  have cHQ0 := HQ.out.c0
  have cHQ1 := HQ.out.c1
  go_wp2_with fail
  refine (HR4.out _).mono ?_
  rintro e w15 ⟨rfl, hb15⟩
  have HB15 := Lib.hid (HB14.out.trans (hb15.mono HB14.out.size))
  replace HP := Lib.hid (HP.out.on hb15)
  replace HQ := Lib.hid (HQ.out.on hb15)
  replace HX1 := Lib.hid (HX1.out.on hb15)
  replace HZ1 := Lib.hid (HZ1.out.on hb15)
  replace HX2 := Lib.hid (HX2.out.on hb15)
  replace HZ2 := Lib.hid (HZ2.out.on hb15)
  replace HX3 := Lib.hid (HX3.out.on hb15)
  replace HZ3 := Lib.hid (HZ3.out.on hb15)
  clear hb15
  clear cHP0 cHP1 cHQ0 cHQ1
  have cHP0 := HP.out.c0
  have cHP1 := HP.out.c1
  have cHQ0 := HQ.out.c0
  have cHQ1 := HQ.out.c1
  go_wp2_with fail
  refine (HA5.out _).mono ?_
  rintro e w16 ⟨rfl, hb16⟩
  have HB16 := Lib.hid (HB15.out.trans (hb16.mono HB15.out.size))
  replace HP := Lib.hid (HP.out.on hb16)
  replace HQ := Lib.hid (HQ.out.on hb16)
  replace HX1 := Lib.hid (HX1.out.on hb16)
  replace HZ1 := Lib.hid (HZ1.out.on hb16)
  replace HX2 := Lib.hid (HX2.out.on hb16)
  replace HZ2 := Lib.hid (HZ2.out.on hb16)
  replace HX3 := Lib.hid (HX3.out.on hb16)
  replace HZ3 := Lib.hid (HZ3.out.on hb16)
  clear hb16
  clear cHP0 cHP1 cHQ0 cHQ1
  have cHP0 := HP.out.c0
  have cHP1 := HP.out.c1
  have cHQ0 := HQ.out.c0
  have cHQ1 := HQ.out.c1
  go_wp2_with fail
  refine (HR5.out _).mono ?_
  rintro e w17 ⟨rfl, hb17⟩
  have HB17 := Lib.hid (HB16.out.trans (hb17.mono HB16.out.size))
  replace HP := Lib.hid (HP.out.on hb17)
  replace HQ := Lib.hid (HQ.out.on hb17)
  replace HX1 := Lib.hid (HX1.out.on hb17)
  replace HZ1 := Lib.hid (HZ1.out.on hb17)
  replace HX2 := Lib.hid (HX2.out.on hb17)
  replace HZ2 := Lib.hid (HZ2.out.on hb17)
  replace HX3 := Lib.hid (HX3.out.on hb17)
  replace HZ3 := Lib.hid (HZ3.out.on hb17)
  clear hb17
  clear cHP0 cHP1 cHQ0 cHQ1
  go_upto_region 11 with (fail)
  have cHP0 := HP.out.c0
  have cHP1 := HP.out.c1
  have cHX10 := HX1.out.c0
  have cHX11 := HX1.out.c1
  have cHZ10 := HZ1.out.c0
  have cHZ11 := HZ1.out.c1
  have cHX20 := HX2.out.c0
  have cHX21 := HX2.out.c1
  have cHZ20 := HZ2.out.c0
  have cHZ21 := HZ2.out.c1
  have cHX30 := HX3.out.c0
  have cHX31 := HX3.out.c1
  have cHZ30 := HZ3.out.c0
  have cHZ31 := HZ3.out.c1
  clear HQ
  refine wp_region_held_drew (S := (fun w' => w'.cell? ⟨w.heap.size, 0, none⟩ = some (.int .i64 a) ∧ w'.cell? ⟨w.heap.size, 1, none⟩ = some (.int .i64 b) ∧ w'.cell? ⟨w2.heap.size, 0, none⟩ = some (.int .i64 X1) ∧ w'.cell? ⟨w2.heap.size, 1, none⟩ = some (.int .i64 Y1) ∧ w'.cell? ⟨w4.heap.size, 0, none⟩ = some (.int .i64 X1) ∧ w'.cell? ⟨w4.heap.size, 1, none⟩ = some (.int .i64 Y1) ∧ w'.cell? ⟨w6.heap.size, 0, none⟩ = some (.int .i64 X2) ∧ w'.cell? ⟨w6.heap.size, 1, none⟩ = some (.int .i64 Y2) ∧ w'.cell? ⟨w8.heap.size, 0, none⟩ = some (.int .i64 X2) ∧ w'.cell? ⟨w8.heap.size, 1, none⟩ = some (.int .i64 Y2) ∧ w'.cell? ⟨w10.heap.size, 0, none⟩ = some (.int .i64 X3) ∧ w'.cell? ⟨w10.heap.size, 1, none⟩ = some (.int .i64 Y3) ∧ w'.cell? ⟨w12.heap.size, 0, none⟩ = some (.int .i64 X3) ∧ w'.cell? ⟨w12.heap.size, 1, none⟩ = some (.int .i64 Y3))) (by kernel_rfl) ⟨cHP0, cHP1, cHX10, cHX11, cHZ10, cHZ11, cHX20, cHX21, cHZ20, cHZ21, cHX30, cHX31, cHZ30, cHZ31⟩ (fun hHeld => ?_)
  have hd0 : Below w17.heap.size w17 w17.drew := (Below.refl w17.heap.size w17).drew
  replace HP := Lib.hid (HP.out.on hd0)
  replace HX1 := Lib.hid (HX1.out.on hd0)
  replace HZ1 := Lib.hid (HZ1.out.on hd0)
  replace HX2 := Lib.hid (HX2.out.on hd0)
  replace HZ2 := Lib.hid (HZ2.out.on hd0)
  replace HX3 := Lib.hid (HX3.out.on hd0)
  replace HZ3 := Lib.hid (HZ3.out.on hd0)
  have HB18 := Lib.hid (HB17.out.trans (hd0.mono HB17.out.size))
  obtain ⟨w18, hw18⟩ : ∃ w18, w18 = w17.drew := ⟨_, rfl⟩
  rw [← hw18] at HP HX1 HZ1 HX2 HZ2 HX3 HZ3 HB18 hHeld ⊢
  clear hd0 hw18
  clear cHP0 cHP1 cHX10 cHX11 cHZ10 cHZ11 cHX20 cHX21 cHZ20 cHZ21 cHX30 cHX31 cHZ30 cHZ31
  have cHP0 := HP.out.c0
  have cHP1 := HP.out.c1
  have cHX10 := HX1.out.c0
  have cHX11 := HX1.out.c1
  have cHZ10 := HZ1.out.c0
  have cHZ11 := HZ1.out.c1
  have cHX20 := HX2.out.c0
  have cHX21 := HX2.out.c1
  have cHZ20 := HZ2.out.c0
  have cHZ21 := HZ2.out.c1
  have cHX30 := HX3.out.c0
  have cHX31 := HX3.out.c1
  have cHZ30 := HZ3.out.c0
  have cHZ31 := HZ3.out.c1
  refine takeH (i := 0) (v := ?_) rfl rfl (by kernel_rfl) (by kernel_rfl) (by kernel_rfl) (fun _ _ _ h => h) (by rfl) ?_ hHeld ?_
  rotate_left
  · (intro w hSw; (try dsimp only at hSw); first | (go_simp; done) | (go_simp; with_reducible rfl))
  simp only [Act.put, List.setIfInBounds_toArray, List.set_cons_zero, List.set_cons_succ]
  refine takeH (i := 2) (v := ?_) rfl rfl (by kernel_rfl) (by kernel_rfl) (by kernel_rfl) (fun _ _ _ h => h) (by rfl) ?_ hHeld ?_
  rotate_left
  · (intro w hSw; (try dsimp only at hSw); first | (go_simp; done) | (go_simp; with_reducible rfl))
  simp only [Act.put, List.setIfInBounds_toArray, List.set_cons_zero, List.set_cons_succ]
  refine wpAnyH_ready (rs := [1]) (by kernel_rfl) (by simp) ?_
  refine AllReadyH.cons rfl (fun K hK => ?_) AllReadyH.nil
  go_simp
  refine (pMay_is a b M _ HM.out).mono ?_
  rintro e w19 ⟨rfl, hb19⟩
  have HB19 := Lib.hid (HB18.out.trans (hb19.mono HB18.out.size))
  replace HP := Lib.hid (HP.out.on hb19)
  replace HX1 := Lib.hid (HX1.out.on hb19)
  replace HZ1 := Lib.hid (HZ1.out.on hb19)
  replace HX2 := Lib.hid (HX2.out.on hb19)
  replace HZ2 := Lib.hid (HZ2.out.on hb19)
  replace HX3 := Lib.hid (HX3.out.on hb19)
  replace HZ3 := Lib.hid (HZ3.out.on hb19)
  clear hb19
  clear cHP0 cHP1 cHX10 cHX11 cHZ10 cHZ11 cHX20 cHX21 cHZ20 cHZ21 cHX30 cHX31 cHZ30 cHZ31
  have cHP0 := HP.out.c0
  have cHP1 := HP.out.c1
  have cHX10 := HX1.out.c0
  have cHX11 := HX1.out.c1
  have cHZ10 := HZ1.out.c0
  have cHZ11 := HZ1.out.c1
  have cHX20 := HX2.out.c0
  have cHX21 := HX2.out.c1
  have cHZ20 := HZ2.out.c0
  have cHZ21 := HZ2.out.c1
  have cHX30 := HX3.out.c0
  have cHX31 := HX3.out.c1
  have cHZ30 := HZ3.out.c0
  have cHZ31 := HZ3.out.c1
  go_wp2_with fail
  refine hK.out _ _ ?_ (fun hHeld => ?_)
  · exact ⟨cHP0, cHP1, cHX10, cHX11, cHZ10, cHZ11, cHX20, cHX21, cHZ20, cHZ21, cHX30, cHX31, cHZ30, cHZ31⟩
  clear hK K
  refine wpAnyH_ready (rs := [3]) (by kernel_rfl) (by simp) ?_
  refine AllReadyH.cons rfl (fun K hK => ?_) AllReadyH.nil
  go_simp
  refine (refPMay_is a b M _ HM.out).mono ?_
  rintro e w20 ⟨rfl, hb20⟩
  have HB20 := Lib.hid (HB19.out.trans (hb20.mono HB19.out.size))
  replace HP := Lib.hid (HP.out.on hb20)
  replace HX1 := Lib.hid (HX1.out.on hb20)
  replace HZ1 := Lib.hid (HZ1.out.on hb20)
  replace HX2 := Lib.hid (HX2.out.on hb20)
  replace HZ2 := Lib.hid (HZ2.out.on hb20)
  replace HX3 := Lib.hid (HX3.out.on hb20)
  replace HZ3 := Lib.hid (HZ3.out.on hb20)
  clear hb20
  clear cHP0 cHP1 cHX10 cHX11 cHZ10 cHZ11 cHX20 cHX21 cHZ20 cHZ21 cHX30 cHX31 cHZ30 cHZ31
  have cHP0 := HP.out.c0
  have cHP1 := HP.out.c1
  have cHX10 := HX1.out.c0
  have cHX11 := HX1.out.c1
  have cHZ10 := HZ1.out.c0
  have cHZ11 := HZ1.out.c1
  have cHX20 := HX2.out.c0
  have cHX21 := HX2.out.c1
  have cHZ20 := HZ2.out.c0
  have cHZ21 := HZ2.out.c1
  have cHX30 := HX3.out.c0
  have cHX31 := HX3.out.c1
  have cHZ30 := HZ3.out.c0
  have cHZ31 := HZ3.out.c1
  go_wp2_with fail
  refine hK.out _ _ ?_ (fun hHeld => ?_)
  · exact ⟨cHP0, cHP1, cHX10, cHX11, cHZ10, cHZ11, cHX20, cHX21, cHZ20, cHZ21, cHX30, cHX31, cHZ30, cHZ31⟩
  clear hK K
  refine takeH (i := 4) (v := ?_) rfl rfl (by kernel_rfl) (by kernel_rfl) (by kernel_rfl) (fun _ _ _ h => h) (by rfl) ?_ hHeld ?_
  rotate_left
  · (intro w hSw; (try dsimp only at hSw); first | (go_simp; done) | (go_simp; with_reducible rfl))
  simp only [Act.put, List.setIfInBounds_toArray, List.set_cons_zero, List.set_cons_succ]
  refine takeH (i := 5) (v := ?_) rfl rfl (by kernel_rfl) (by kernel_rfl) (by kernel_rfl) (fun _ _ _ h => h) (by rfl) ?_ hHeld ?_
  rotate_left
  · (intro w hSw; (try dsimp only at hSw); first | (go_simp; done) | (go_simp; with_reducible rfl))
  simp only [Act.put, List.setIfInBounds_toArray, List.set_cons_zero, List.set_cons_succ]
  refine takeH (i := 6) (v := ?_) rfl rfl (by kernel_rfl) (by kernel_rfl) (by kernel_rfl) (fun _ _ _ h => h) (by rfl) ?_ hHeld ?_
  rotate_left
  · (intro w hSw; (try dsimp only at hSw); first | (go_simp; done) | (go_simp; with_reducible rfl))
  simp only [Act.put, List.setIfInBounds_toArray, List.set_cons_zero, List.set_cons_succ]
  refine takeH (i := 7) (v := ?_) rfl rfl (by kernel_rfl) (by kernel_rfl) (by kernel_rfl) (fun _ _ _ h => h) (by rfl) ?_ hHeld ?_
  rotate_left
  · (intro w hSw; (try dsimp only at hSw); first | (go_simp; done) | (go_simp; with_reducible rfl))
  simp only [Act.put, List.setIfInBounds_toArray, List.set_cons_zero, List.set_cons_succ]
  refine takeH (i := 8) (v := ?_) rfl rfl (by kernel_rfl) (by kernel_rfl) (by kernel_rfl) (fun _ _ _ h => h) (by rfl) ?_ hHeld ?_
  rotate_left
  · (intro w hSw; (try dsimp only at hSw); first | (go_simp; done) | (go_simp; with_reducible rfl))
  simp only [Act.put, List.setIfInBounds_toArray, List.set_cons_zero, List.set_cons_succ]
  refine takeH (i := 9) (v := ?_) rfl rfl (by kernel_rfl) (by kernel_rfl) (by kernel_rfl) (fun _ _ _ h => h) (by rfl) ?_ hHeld ?_
  rotate_left
  · (intro w hSw; (try dsimp only at hSw); first | (go_simp; done) | (go_simp; with_reducible rfl))
  simp only [Act.put, List.setIfInBounds_toArray, List.set_cons_zero, List.set_cons_succ]
  refine takeH (i := 10) (v := ?_) rfl rfl (by kernel_rfl) (by kernel_rfl) (by kernel_rfl) (fun _ _ _ h => h) (by rfl) ?_ hHeld ?_
  rotate_left
  · (intro w hSw; (try dsimp only at hSw); first | (go_simp; done) | (go_simp; with_reducible rfl))
  simp only [Act.put, List.setIfInBounds_toArray, List.set_cons_zero, List.set_cons_succ]
  refine takeH (i := 11) (v := ?_) rfl rfl (by kernel_rfl) (by kernel_rfl) (by kernel_rfl) (fun _ _ _ h => h) (by rfl) ?_ hHeld ?_
  rotate_left
  · (intro w hSw; (try dsimp only at hSw); first | (go_simp; done) | (go_simp; with_reducible rfl))
  simp only [Act.put, List.setIfInBounds_toArray, List.set_cons_zero, List.set_cons_succ]
  refine takeH (i := 13) (v := ?_) rfl rfl (by kernel_rfl) (by kernel_rfl) (by kernel_rfl) (fun _ _ _ h => h) (by rfl) ?_ hHeld ?_
  rotate_left
  · (intro w hSw; (try dsimp only at hSw); first | (go_simp; done) | (go_simp; with_reducible rfl))
  simp only [Act.put, List.setIfInBounds_toArray, List.set_cons_zero, List.set_cons_succ]
  refine wpAnyH_ready (rs := [12]) (by kernel_rfl) (by simp) ?_
  refine AllReadyH.cons rfl (fun K hK => ?_) AllReadyH.nil
  go_simp
  refine (num_any _ _).mono ?_
  rintro e w' ⟨rfl, rfl⟩
  go_wp2_with fail
  refine hK.out _ _ ?_ (fun hHeld => ?_)
  · exact ⟨cHP0, cHP1, cHX10, cHX11, cHZ10, cHZ11, cHX20, cHX21, cHZ20, cHZ21, cHX30, cHX31, cHZ30, cHZ31⟩
  clear hK K
  refine takeH (i := 14) (v := ?_) rfl rfl (by kernel_rfl) (by kernel_rfl) (by kernel_rfl) (fun _ _ _ h => h) (by rfl) ?_ hHeld ?_
  rotate_left
  · (intro w hSw; (try dsimp only at hSw); first | (go_simp; done) | (go_simp; with_reducible rfl))
  simp only [Act.put, List.setIfInBounds_toArray, List.set_cons_zero, List.set_cons_succ]
  refine takeH (i := 15) (v := ?_) rfl rfl (by kernel_rfl) (by kernel_rfl) (by kernel_rfl) (fun _ _ _ h => h) (by rfl) ?_ hHeld ?_
  rotate_left
  · (intro w hSw; (try dsimp only at hSw); first | (go_simp; done) | (go_simp; with_reducible rfl))
  simp only [Act.put, List.setIfInBounds_toArray, List.set_cons_zero, List.set_cons_succ]
  refine takeH (i := 16) (v := ?_) rfl rfl (by kernel_rfl) (by kernel_rfl) (by kernel_rfl) (fun _ _ _ h => h) (by rfl) ?_ hHeld ?_
  rotate_left
  · (intro w hSw; (try dsimp only at hSw); first | (go_simp; done) | (go_simp; with_reducible rfl))
  simp only [Act.put, List.setIfInBounds_toArray, List.set_cons_zero, List.set_cons_succ]
  refine takeH (i := 17) (v := ?_) rfl rfl (by kernel_rfl) (by kernel_rfl) (by kernel_rfl) (fun _ _ _ h => h) (by rfl) ?_ hHeld ?_
  rotate_left
  · (intro w hSw; (try dsimp only at hSw); first | (go_simp; done) | (go_simp; with_reducible rfl))
  simp only [Act.put, List.setIfInBounds_toArray, List.set_cons_zero, List.set_cons_succ]
  refine takeH (i := 18) (v := ?_) rfl rfl (by kernel_rfl) (by kernel_rfl) (by kernel_rfl) (fun _ _ _ h => h) (by rfl) ?_ hHeld ?_
  rotate_left
  · (intro w hSw; (try dsimp only at hSw); first | (go_simp; done) | (go_simp; with_reducible rfl))
  simp only [Act.put, List.setIfInBounds_toArray, List.set_cons_zero, List.set_cons_succ]
  refine takeH (i := 19) (v := ?_) rfl rfl (by kernel_rfl) (by kernel_rfl) (by kernel_rfl) (fun _ _ _ h => h) (by rfl) ?_ hHeld ?_
  rotate_left
  · (intro w hSw; (try dsimp only at hSw); first | (go_simp; done) | (go_simp; with_reducible rfl))
  simp only [Act.put, List.setIfInBounds_toArray, List.set_cons_zero, List.set_cons_succ]
  refine takeH (i := 20) (v := ?_) rfl rfl (by kernel_rfl) (by kernel_rfl) (by kernel_rfl) (fun _ _ _ h => h) (by rfl) ?_ hHeld ?_
  rotate_left
  · (intro w hSw; (try dsimp only at hSw); first | (go_simp; done) | (go_simp; with_reducible rfl))
  simp only [Act.put, List.setIfInBounds_toArray, List.set_cons_zero, List.set_cons_succ]
  refine takeH (i := 21) (v := ?_) rfl rfl (by kernel_rfl) (by kernel_rfl) (by kernel_rfl) (fun _ _ _ h => h) (by rfl) ?_ hHeld ?_
  rotate_left
  · (intro w hSw; (try dsimp only at hSw); first | (go_simp; done) | (go_simp; with_reducible rfl))
  simp only [Act.put, List.setIfInBounds_toArray, List.set_cons_zero, List.set_cons_succ]
  refine takeH (i := 22) (v := ?_) rfl rfl (by kernel_rfl) (by kernel_rfl) (by kernel_rfl) (fun _ _ _ h => h) (by rfl) ?_ hHeld ?_
  rotate_left
  · (intro w hSw; (try dsimp only at hSw); first | (go_simp; done) | (go_simp; with_reducible rfl))
  simp only [Act.put, List.setIfInBounds_toArray, List.set_cons_zero, List.set_cons_succ]
  refine takeH (i := 24) (v := ?_) rfl rfl (by kernel_rfl) (by kernel_rfl) (by kernel_rfl) (fun _ _ _ h => h) (by rfl) ?_ hHeld ?_
  rotate_left
  · (intro w hSw; (try dsimp only at hSw); first | (go_simp; done) | (go_simp; with_reducible rfl))
  simp only [Act.put, List.setIfInBounds_toArray, List.set_cons_zero, List.set_cons_succ]
  refine wpAnyH_ready (rs := [23]) (by kernel_rfl) (by simp) ?_
  refine AllReadyH.cons rfl (fun K hK => ?_) AllReadyH.nil
  go_simp
  refine (num_any _ _).mono ?_
  rintro e w' ⟨rfl, rfl⟩
  go_wp2_with fail
  refine hK.out _ _ ?_ (fun hHeld => ?_)
  · exact ⟨cHP0, cHP1, cHX10, cHX11, cHZ10, cHZ11, cHX20, cHX21, cHZ20, cHZ21, cHX30, cHX31, cHZ30, cHZ31⟩
  clear hK K
  refine takeH (i := 25) (v := ?_) rfl rfl (by kernel_rfl) (by kernel_rfl) (by kernel_rfl) (fun _ _ _ h => h) (by rfl) ?_ hHeld ?_
  rotate_left
  · (intro w hSw; (try dsimp only at hSw); first | (go_simp; done) | (go_simp; with_reducible rfl))
  simp only [Act.put, List.setIfInBounds_toArray, List.set_cons_zero, List.set_cons_succ]
  refine takeH (i := 26) (v := ?_) rfl rfl (by kernel_rfl) (by kernel_rfl) (by kernel_rfl) (fun _ _ _ h => h) (by rfl) ?_ hHeld ?_
  rotate_left
  · (intro w hSw; (try dsimp only at hSw); first | (go_simp; done) | (go_simp; with_reducible rfl))
  simp only [Act.put, List.setIfInBounds_toArray, List.set_cons_zero, List.set_cons_succ]
  refine takeH (i := 27) (v := ?_) rfl rfl (by kernel_rfl) (by kernel_rfl) (by kernel_rfl) (fun _ _ _ h => h) (by rfl) ?_ hHeld ?_
  rotate_left
  · (intro w hSw; (try dsimp only at hSw); first | (go_simp; done) | (go_simp; with_reducible rfl))
  simp only [Act.put, List.setIfInBounds_toArray, List.set_cons_zero, List.set_cons_succ]
  refine takeH (i := 28) (v := ?_) rfl rfl (by kernel_rfl) (by kernel_rfl) (by kernel_rfl) (fun _ _ _ h => h) (by rfl) ?_ hHeld ?_
  rotate_left
  · (intro w hSw; (try dsimp only at hSw); first | (go_simp; done) | (go_simp; with_reducible rfl))
  simp only [Act.put, List.setIfInBounds_toArray, List.set_cons_zero, List.set_cons_succ]
  refine takeH (i := 29) (v := ?_) rfl rfl (by kernel_rfl) (by kernel_rfl) (by kernel_rfl) (fun _ _ _ h => h) (by rfl) ?_ hHeld ?_
  rotate_left
  · (intro w hSw; (try dsimp only at hSw); first | (go_simp; done) | (go_simp; with_reducible rfl))
  simp only [Act.put, List.setIfInBounds_toArray, List.set_cons_zero, List.set_cons_succ]
  refine takeH (i := 30) (v := ?_) rfl rfl (by kernel_rfl) (by kernel_rfl) (by kernel_rfl) (fun _ _ _ h => h) (by rfl) ?_ hHeld ?_
  rotate_left
  · (intro w hSw; (try dsimp only at hSw); first | (go_simp; done) | (go_simp; with_reducible rfl))
  simp only [Act.put, List.setIfInBounds_toArray, List.set_cons_zero, List.set_cons_succ]
  refine takeH (i := 31) (v := ?_) rfl rfl (by kernel_rfl) (by kernel_rfl) (by kernel_rfl) (fun _ _ _ h => h) (by rfl) ?_ hHeld ?_
  rotate_left
  · (intro w hSw; (try dsimp only at hSw); first | (go_simp; done) | (go_simp; with_reducible rfl))
  simp only [Act.put, List.setIfInBounds_toArray, List.set_cons_zero, List.set_cons_succ]
  refine takeH (i := 32) (v := ?_) rfl rfl (by kernel_rfl) (by kernel_rfl) (by kernel_rfl) (fun _ _ _ h => h) (by rfl) ?_ hHeld ?_
  rotate_left
  · (intro w hSw; (try dsimp only at hSw); first | (go_simp; done) | (go_simp; with_reducible rfl))
  simp only [Act.put, List.setIfInBounds_toArray, List.set_cons_zero, List.set_cons_succ]
  refine takeH (i := 33) (v := ?_) rfl rfl (by kernel_rfl) (by kernel_rfl) (by kernel_rfl) (fun _ _ _ h => h) (by rfl) ?_ hHeld ?_
  rotate_left
  · (intro w hSw; (try dsimp only at hSw); first | (go_simp; done) | (go_simp; with_reducible rfl))
  simp only [Act.put, List.setIfInBounds_toArray, List.set_cons_zero, List.set_cons_succ]
  refine takeH (i := 35) (v := ?_) rfl rfl (by kernel_rfl) (by kernel_rfl) (by kernel_rfl) (fun _ _ _ h => h) (by rfl) ?_ hHeld ?_
  rotate_left
  · (intro w hSw; (try dsimp only at hSw); first | (go_simp; done) | (go_simp; with_reducible rfl))
  simp only [Act.put, List.setIfInBounds_toArray, List.set_cons_zero, List.set_cons_succ]
  refine wpAnyH_ready (rs := [34]) (by kernel_rfl) (by simp) ?_
  refine AllReadyH.cons rfl (fun K hK => ?_) AllReadyH.nil
  go_simp
  refine (num_any _ _).mono ?_
  rintro e w' ⟨rfl, rfl⟩
  go_wp2_with fail
  refine hK.out _ _ ?_ (fun hHeld => ?_)
  · exact ⟨cHP0, cHP1, cHX10, cHX11, cHZ10, cHZ11, cHX20, cHX21, cHZ20, cHZ21, cHX30, cHX31, cHZ30, cHZ31⟩
  clear hK K
  refine takeH (i := 36) (v := ?_) rfl rfl (by kernel_rfl) (by kernel_rfl) (by kernel_rfl) (fun _ _ _ h => h) (by rfl) ?_ hHeld ?_
  rotate_left
  · (intro w hSw; (try dsimp only at hSw); first | (go_simp; done) | (go_simp; with_reducible rfl))
  simp only [Act.put, List.setIfInBounds_toArray, List.set_cons_zero, List.set_cons_succ]
  refine takeH (i := 37) (v := ?_) rfl rfl (by kernel_rfl) (by kernel_rfl) (by kernel_rfl) (fun _ _ _ h => h) (by rfl) ?_ hHeld ?_
  rotate_left
  · (intro w hSw; (try dsimp only at hSw); first | (go_simp; done) | (go_simp; with_reducible rfl))
  simp only [Act.put, List.setIfInBounds_toArray, List.set_cons_zero, List.set_cons_succ]
  refine takeH (i := 38) (v := ?_) rfl rfl (by kernel_rfl) (by kernel_rfl) (by kernel_rfl) (fun _ _ _ h => h) (by rfl) ?_ hHeld ?_
  rotate_left
  · (intro w hSw; (try dsimp only at hSw); first | (go_simp; done) | (go_simp; with_reducible rfl))
  simp only [Act.put, List.setIfInBounds_toArray, List.set_cons_zero, List.set_cons_succ]
  refine takeH (i := 39) (v := ?_) rfl rfl (by kernel_rfl) (by kernel_rfl) (by kernel_rfl) (fun _ _ _ h => h) (by rfl) ?_ hHeld ?_
  rotate_left
  · (intro w hSw; (try dsimp only at hSw); first | (go_simp; done) | (go_simp; with_reducible rfl))
  simp only [Act.put, List.setIfInBounds_toArray, List.set_cons_zero, List.set_cons_succ]
  refine takeH (i := 40) (v := ?_) rfl rfl (by kernel_rfl) (by kernel_rfl) (by kernel_rfl) (fun _ _ _ h => h) (by rfl) ?_ hHeld ?_
  rotate_left
  · (intro w hSw; (try dsimp only at hSw); first | (go_simp; done) | (go_simp; with_reducible rfl))
  simp only [Act.put, List.setIfInBounds_toArray, List.set_cons_zero, List.set_cons_succ]
  refine takeH (i := 41) (v := ?_) rfl rfl (by kernel_rfl) (by kernel_rfl) (by kernel_rfl) (fun _ _ _ h => h) (by rfl) ?_ hHeld ?_
  rotate_left
  · (intro w hSw; (try dsimp only at hSw); first | (go_simp; done) | (go_simp; with_reducible rfl))
  simp only [Act.put, List.setIfInBounds_toArray, List.set_cons_zero, List.set_cons_succ]
  refine takeH (i := 42) (v := ?_) rfl rfl (by kernel_rfl) (by kernel_rfl) (by kernel_rfl) (fun _ _ _ h => h) (by rfl) ?_ hHeld ?_
  rotate_left
  · (intro w hSw; (try dsimp only at hSw); first | (go_simp; done) | (go_simp; with_reducible rfl))
  simp only [Act.put, List.setIfInBounds_toArray, List.set_cons_zero, List.set_cons_succ]
  refine takeH (i := 43) (v := ?_) rfl rfl (by kernel_rfl) (by kernel_rfl) (by kernel_rfl) (fun _ _ _ h => h) (by rfl) ?_ hHeld ?_
  rotate_left
  · (intro w hSw; (try dsimp only at hSw); first | (go_simp; done) | (go_simp; with_reducible rfl))
  simp only [Act.put, List.setIfInBounds_toArray, List.set_cons_zero, List.set_cons_succ]
  refine takeH (i := 44) (v := ?_) rfl rfl (by kernel_rfl) (by kernel_rfl) (by kernel_rfl) (fun _ _ _ h => h) (by rfl) ?_ hHeld ?_
  rotate_left
  · (intro w hSw; (try dsimp only at hSw); first | (go_simp; done) | (go_simp; with_reducible rfl))
  simp only [Act.put, List.setIfInBounds_toArray, List.set_cons_zero, List.set_cons_succ]
  refine takeH (i := 46) (v := ?_) rfl rfl (by kernel_rfl) (by kernel_rfl) (by kernel_rfl) (fun _ _ _ h => h) (by rfl) ?_ hHeld ?_
  rotate_left
  · (intro w hSw; (try dsimp only at hSw); first | (go_simp; done) | (go_simp; with_reducible rfl))
  simp only [Act.put, List.setIfInBounds_toArray, List.set_cons_zero, List.set_cons_succ]
  refine wpAnyH_ready (rs := [45]) (by kernel_rfl) (by simp) ?_
  refine AllReadyH.cons rfl (fun K hK => ?_) AllReadyH.nil
  go_simp
  refine (num_any _ _).mono ?_
  rintro e w' ⟨rfl, rfl⟩
  go_wp2_with fail
  refine hK.out _ _ ?_ (fun hHeld => ?_)
  · exact ⟨cHP0, cHP1, cHX10, cHX11, cHZ10, cHZ11, cHX20, cHX21, cHZ20, cHZ21, cHX30, cHX31, cHZ30, cHZ31⟩
  clear hK K
  refine takeH (i := 47) (v := ?_) rfl rfl (by kernel_rfl) (by kernel_rfl) (by kernel_rfl) (fun _ _ _ h => h) (by rfl) ?_ hHeld ?_
  rotate_left
  · (intro w hSw; (try dsimp only at hSw); first | (go_simp; done) | (go_simp; with_reducible rfl))
  simp only [Act.put, List.setIfInBounds_toArray, List.set_cons_zero, List.set_cons_succ]
  refine takeH (i := 48) (v := ?_) rfl rfl (by kernel_rfl) (by kernel_rfl) (by kernel_rfl) (fun _ _ _ h => h) (by rfl) ?_ hHeld ?_
  rotate_left
  · (intro w hSw; (try dsimp only at hSw); first | (go_simp; done) | (go_simp; with_reducible rfl))
  simp only [Act.put, List.setIfInBounds_toArray, List.set_cons_zero, List.set_cons_succ]
  refine takeH (i := 49) (v := ?_) rfl rfl (by kernel_rfl) (by kernel_rfl) (by kernel_rfl) (fun _ _ _ h => h) (by rfl) ?_ hHeld ?_
  rotate_left
  · (intro w hSw; (try dsimp only at hSw); first | (go_simp; done) | (go_simp; with_reducible rfl))
  simp only [Act.put, List.setIfInBounds_toArray, List.set_cons_zero, List.set_cons_succ]
  refine takeH (i := 50) (v := ?_) rfl rfl (by kernel_rfl) (by kernel_rfl) (by kernel_rfl) (fun _ _ _ h => h) (by rfl) ?_ hHeld ?_
  rotate_left
  · (intro w hSw; (try dsimp only at hSw); first | (go_simp; done) | (go_simp; with_reducible rfl))
  simp only [Act.put, List.setIfInBounds_toArray, List.set_cons_zero, List.set_cons_succ]
  refine takeH (i := 51) (v := ?_) rfl rfl (by kernel_rfl) (by kernel_rfl) (by kernel_rfl) (fun _ _ _ h => h) (by rfl) ?_ hHeld ?_
  rotate_left
  · (intro w hSw; (try dsimp only at hSw); first | (go_simp; done) | (go_simp; with_reducible rfl))
  simp only [Act.put, List.setIfInBounds_toArray, List.set_cons_zero, List.set_cons_succ]
  refine takeH (i := 52) (v := ?_) rfl rfl (by kernel_rfl) (by kernel_rfl) (by kernel_rfl) (fun _ _ _ h => h) (by rfl) ?_ hHeld ?_
  rotate_left
  · (intro w hSw; (try dsimp only at hSw); first | (go_simp; done) | (go_simp; with_reducible rfl))
  simp only [Act.put, List.setIfInBounds_toArray, List.set_cons_zero, List.set_cons_succ]
  refine takeH (i := 53) (v := ?_) rfl rfl (by kernel_rfl) (by kernel_rfl) (by kernel_rfl) (fun _ _ _ h => h) (by rfl) ?_ hHeld ?_
  rotate_left
  · (intro w hSw; (try dsimp only at hSw); first | (go_simp; done) | (go_simp; with_reducible rfl))
  simp only [Act.put, List.setIfInBounds_toArray, List.set_cons_zero, List.set_cons_succ]
  refine takeH (i := 54) (v := ?_) rfl rfl (by kernel_rfl) (by kernel_rfl) (by kernel_rfl) (fun _ _ _ h => h) (by rfl) ?_ hHeld ?_
  rotate_left
  · (intro w hSw; (try dsimp only at hSw); first | (go_simp; done) | (go_simp; with_reducible rfl))
  simp only [Act.put, List.setIfInBounds_toArray, List.set_cons_zero, List.set_cons_succ]
  refine takeH (i := 55) (v := ?_) rfl rfl (by kernel_rfl) (by kernel_rfl) (by kernel_rfl) (fun _ _ _ h => h) (by rfl) ?_ hHeld ?_
  rotate_left
  · (intro w hSw; (try dsimp only at hSw); first | (go_simp; done) | (go_simp; with_reducible rfl))
  simp only [Act.put, List.setIfInBounds_toArray, List.set_cons_zero, List.set_cons_succ]
  refine takeH (i := 57) (v := ?_) rfl rfl (by kernel_rfl) (by kernel_rfl) (by kernel_rfl) (fun _ _ _ h => h) (by rfl) ?_ hHeld ?_
  rotate_left
  · (intro w hSw; (try dsimp only at hSw); first | (go_simp; done) | (go_simp; with_reducible rfl))
  simp only [Act.put, List.setIfInBounds_toArray, List.set_cons_zero, List.set_cons_succ]
  refine wpAnyH_ready (rs := [56]) (by kernel_rfl) (by simp) ?_
  refine AllReadyH.cons rfl (fun K hK => ?_) AllReadyH.nil
  go_simp
  refine (num_any _ _).mono ?_
  rintro e w' ⟨rfl, rfl⟩
  go_wp2_with fail
  refine hK.out _ _ ?_ (fun hHeld => ?_)
  · exact ⟨cHP0, cHP1, cHX10, cHX11, cHZ10, cHZ11, cHX20, cHX21, cHZ20, cHZ21, cHX30, cHX31, cHZ30, cHZ31⟩
  clear hK K
  refine takeH (i := 58) (v := ?_) rfl rfl (by kernel_rfl) (by kernel_rfl) (by kernel_rfl) (fun _ _ _ h => h) (by rfl) ?_ hHeld ?_
  rotate_left
  · (intro w hSw; (try dsimp only at hSw); first | (go_simp; done) | (go_simp; with_reducible rfl))
  simp only [Act.put, List.setIfInBounds_toArray, List.set_cons_zero, List.set_cons_succ]
  refine takeH (i := 59) (v := ?_) rfl rfl (by kernel_rfl) (by kernel_rfl) (by kernel_rfl) (fun _ _ _ h => h) (by rfl) ?_ hHeld ?_
  rotate_left
  · (intro w hSw; (try dsimp only at hSw); first | (go_simp; done) | (go_simp; with_reducible rfl))
  simp only [Act.put, List.setIfInBounds_toArray, List.set_cons_zero, List.set_cons_succ]
  refine takeH (i := 60) (v := ?_) rfl rfl (by kernel_rfl) (by kernel_rfl) (by kernel_rfl) (fun _ _ _ h => h) (by rfl) ?_ hHeld ?_
  rotate_left
  · (intro w hSw; (try dsimp only at hSw); first | (go_simp; done) | (go_simp; with_reducible rfl))
  simp only [Act.put, List.setIfInBounds_toArray, List.set_cons_zero, List.set_cons_succ]
  refine wpAnyH_ready (rs := [61]) (by kernel_rfl) (by simp) ?_
  refine AllReadyH.cons rfl (fun K hK => ?_) AllReadyH.nil
  go_simp
  refine (haw _).mono ?_
  rintro e w21 ⟨rfl, hb21⟩
  have HB21 := Lib.hid (HB20.out.trans (hb21.mono HB20.out.size))
  replace HP := Lib.hid (HP.out.on hb21)
  replace HX1 := Lib.hid (HX1.out.on hb21)
  replace HZ1 := Lib.hid (HZ1.out.on hb21)
  replace HX2 := Lib.hid (HX2.out.on hb21)
  replace HZ2 := Lib.hid (HZ2.out.on hb21)
  replace HX3 := Lib.hid (HX3.out.on hb21)
  replace HZ3 := Lib.hid (HZ3.out.on hb21)
  clear hb21
  clear cHP0 cHP1 cHX10 cHX11 cHZ10 cHZ11 cHX20 cHX21 cHZ20 cHZ21 cHX30 cHX31 cHZ30 cHZ31
  have cHP0 := HP.out.c0
  have cHP1 := HP.out.c1
  have cHX10 := HX1.out.c0
  have cHX11 := HX1.out.c1
  have cHZ10 := HZ1.out.c0
  have cHZ11 := HZ1.out.c1
  have cHX20 := HX2.out.c0
  have cHX21 := HX2.out.c1
  have cHZ20 := HZ2.out.c0
  have cHZ21 := HZ2.out.c1
  have cHX30 := HX3.out.c0
  have cHX31 := HX3.out.c1
  have cHZ30 := HZ3.out.c0
  have cHZ31 := HZ3.out.c1
  go_wp2_with fail
  refine hK.out _ _ ?_ (fun hHeld => ?_)
  · exact ⟨cHP0, cHP1, cHX10, cHX11, cHZ10, cHZ11, cHX20, cHX21, cHZ20, cHZ21, cHX30, cHX31, cHZ30, cHZ31⟩
  clear hK K
  refine takeH (i := 62) (v := ?_) rfl rfl (by kernel_rfl) (by kernel_rfl) (by kernel_rfl) (fun _ _ _ h => h) (by rfl) ?_ hHeld ?_
  rotate_left
  · (intro w hSw; (try dsimp only at hSw); first | (go_simp; done) | (go_simp; with_reducible rfl))
  simp only [Act.put, List.setIfInBounds_toArray, List.set_cons_zero, List.set_cons_succ]
  refine takeH (i := 63) (v := ?_) rfl rfl (by kernel_rfl) (by kernel_rfl) (by kernel_rfl) (fun _ _ _ h => h) (by rfl) ?_ hHeld ?_
  rotate_left
  · (intro w hSw; (try dsimp only at hSw); first | (go_simp; done) | (go_simp; with_reducible rfl))
  simp only [Act.put, List.setIfInBounds_toArray, List.set_cons_zero, List.set_cons_succ]
  refine wpAnyH_done (by kernel_rfl) ?_ _
  go_wp2
  go_ret
  exact ⟨rfl, HB21.out⟩
end Go.Proofs.Ytpplddongkhkbaa
