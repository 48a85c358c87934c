/-
  The walk of the law PointScores.
-/
import Derived.Test.YtpplddongkhkbaaAwakeP
import Derived.Test.YtpplddongkhkbaaPointFacts
namespace Go.Proofs.Ytpplddongkhkbaa
open Go.RowKit Go.Deep
set_option linter.unusedSimpArgs false
set_option linter.unusedVariables false
set_option maxRecDepth 100000

set_option maxHeartbeats 16000000 in
theorem pointScores_walk (haw : ∀ u, Calls Try.prog 22 #[] u fun e w' => e = .returned (.bool true) ∧ Below u.heap.size u w') (a b : Int) (w1 : World) :
    Calls Try.prog 7 #[.int .i64 a, .int .i64 b] w1 fun e w' => e = .returned (.bool true) ∧ Below w1.heap.size w1 w' := by
  have bA := sm_bd a
  have bB := sm_bd b
  have s1 := smallPt_any a b
  obtain ⟨A, hA⟩ : ∃ A, A = sm a := ⟨_, rfl⟩
  obtain ⟨B, hB⟩ : ∃ B, B = sm b := ⟨_, rfl⟩
  rw [← hA] at bA s1
  rw [← hB] at bB s1
  clear hA hB
  have m1 := prod_300 bA bA
  have m2 := prod_300 bB bB
  have oP : okP A B = true := ok_near (by omega) (by omega)
  have oQ : okP (-B) A = true := ok_near (by omega) (by omega)
  have c1 := mul_ok oP (show okP 0 1 = true by rfl) oQ (by omega) (by omega)
  have c2 := score_ok oP oP rfl
  have c3 := score_ok oP oQ (x := 0) (by rw [Int.mul_neg, Int.mul_comm B A]; omega)
  obtain ⟨a1, a2⟩ := bA
  obtain ⟨b1, b2⟩ := bB
  obtain ⟨p1, p2⟩ := m1
  obtain ⟨q1, q2⟩ := m2
  clear oP oQ
  have HAW := Lib.hid haw
  have H1 := Lib.hid s1
  have K1 := Lib.hid c1
  have K2 := Lib.hid c2
  have K3 := Lib.hid c3
  clear haw s1 c1 c2 c3
  have HB1 := Lib.hid (Below.refl w1.heap.size w1)
  go_enter Try.func7, Try.ntmps7
  go_wp2_with fail
  refine (HAW.out _).mono ?_
  rintro e w2 ⟨rfl, hb2⟩
  have HB2 := Lib.hid (HB1.out.trans (hb2.mono HB1.out.size))
  clear hb2
  go_wp2_with fail
  refine (H1.out _).mono ?_
  rintro e w3 ⟨rfl, hb3⟩
  have HB3 := Lib.hid (HB2.out.trans (hb3.mono HB2.out.size))
  clear hb3
  obtain ⟨w4, hw4⟩ : ∃ w4, w4 = w3.alloc (.cells #[.int .i64 A, .int .i64 B] 23) := ⟨_, rfl⟩
  have hb4 := below_new w3 (.cells #[.int .i64 A, .int .i64 B] 23)
  have kHP := PBox.new w3 A B
  rw [← hw4] at hb4 kHP
  have HB4 := Lib.hid (HB3.out.trans (hb4.mono HB3.out.size))
  have HP := Lib.hid kHP
  clear hb4 kHP
  go_upto_region 4 with (fail)
  rw [← hw4]
  clear hw4
  have cHP0 := HP.out.c0
  have cHP1 := HP.out.c1
  go_wp2_with fail
  refine (K1.out _).mono ?_
  rintro e w5 ⟨rfl, hb5⟩
  have HB5 := Lib.hid (HB4.out.trans (hb5.mono HB4.out.size))
  replace HP := Lib.hid (HP.out.on hb5)
  clear hb5
  clear cHP0 cHP1
  have hb6 := below_new w5 (.cells #[.int .i64 (-B), .int .i64 A] 23)
  have HQ := Lib.hid (PBox.new w5 (-B) A)
  have HB6 := Lib.hid (HB5.out.trans (hb6.mono HB5.out.size))
  replace HP := Lib.hid (HP.out.on hb6)
  clear hb6
  have cHP0 := HP.out.c0
  have cHP1 := HP.out.c1
  go_wp2_with fail
  refine (K2.out _).mono ?_
  rintro e w7 ⟨rfl, hb7⟩
  have HB7 := Lib.hid (HB6.out.trans (hb7.mono HB6.out.size))
  replace HP := Lib.hid (HP.out.on hb7)
  replace HQ := Lib.hid (HQ.out.on hb7)
  clear hb7
  clear cHP0 cHP1
  have cHP0 := HP.out.c0
  have cHP1 := HP.out.c1
  have cHQ0 := HQ.out.c0
  have cHQ1 := HQ.out.c1
  go_wp2_with fail
  refine (K3.out _).mono ?_
  rintro e w8 ⟨rfl, hb8⟩
  have HB8 := Lib.hid (HB7.out.trans (hb8.mono HB7.out.size))
  replace HP := Lib.hid (HP.out.on hb8)
  replace HQ := Lib.hid (HQ.out.on hb8)
  clear hb8
  clear cHP0 cHP1 cHQ0 cHQ1
  have cHP0 := HP.out.c0
  have cHP1 := HP.out.c1
  have cHQ0 := HQ.out.c0
  have cHQ1 := HQ.out.c1
  go_wp2_with (go_at_call 21; refine (num_any _ _).mono ?_; rintro e w' ⟨rfl, rfl⟩)
  go_ret
  exact ⟨rfl, HB8.out⟩
end Go.Proofs.Ytpplddongkhkbaa
