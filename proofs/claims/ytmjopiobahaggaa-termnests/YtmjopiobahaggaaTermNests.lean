/-
  The walk of the law TermNests.
-/
import Derived.Test.YtmjopiobahaggaaTermJoins
namespace Go.Proofs.Ytmjopiobahaggaa
open Go.RowKit
set_option linter.unusedSimpArgs false
set_option linter.unusedVariables false

/-- A row of two terms within a symbol of two arguments. -/
theorem row_nest {ss : List Sym} {a b : List Int} {x : Int} (ha : rowB ss a = true) (hb : rowB ss b = true) (ka : (tlD ss a).length = 1) (kb : (tlD ss b).length = 1) (hx : arOf ss x = some 2) (h : a.length + b.length < 48) :
    rowE ss (x :: (a ++ b)) = 0 ∧ deepK ss (x :: (a ++ b)) = 1 + ((max (maxD (tlD ss a)) (maxD (tlD ss b)) : Nat) : Int) ∧
    endK ss (x :: (a ++ b)) 1 = 1 + (a.length : Int) ∧ endE ss (x :: (a ++ b)) 1 = 0 ∧ endK ss (x :: (a ++ b)) 0 = 1 + (a.length : Int) + (b.length : Int) ∧ endE ss (x :: (a ++ b)) 0 = 0 ∧
    weightK ss (x :: (a ++ b)) = wtOf ss x + wtSum ss a + wtSum ss b := by
  obtain ⟨h1, _, h3⟩ := row_parts ha
  obtain ⟨_, _, k3⟩ := row_parts hb
  obtain ⟨ma, hma⟩ : ∃ m, tlD ss a = [m] := List.length_eq_one_iff.1 ka
  obtain ⟨mb, hmb⟩ : ∃ m, tlD ss b = [m] := List.length_eq_one_iff.1 kb
  rw [hma] at h3
  rw [hmb] at k3
  have la := tl_all a h3
  have lb := tl_all b k3
  simp [sumL] at la lb
  have pa := (tl_pos a h3 ma (by simp)).1
  have hab := tl_append a b h3 k3
  have hc := tl_cons (c := x) hab hx (by simp)
  simp [sumL, maxD] at hc
  have hr : rowB ss (x :: (a ++ b)) = true := row_true h1 (by simp; omega) hc
  have hD : tlD ss (x :: (a ++ b)) = [(1 + (ma.1 + mb.1), 1 + max ma.2 mb.2)] := by show (tl ss _).getD [] = _; rw [hc]; rfl
  have e1 : endB ss (x :: (a ++ b)) 1 = true := by unfold endB; rw [hr]; simp; omega
  have e0 : endB ss (x :: (a ++ b)) 0 = true := by unfold endB; rw [hr]; simp; omega
  refine ⟨(rowK_yes hr).2, ?_, ?_, ?_, ?_, ?_, ?_⟩
  · unfold deepK; rw [hr, hD, hma, hmb]; simp [maxD]
  · unfold endK; rw [e1]
    have : endAt ss (x :: (a ++ b)) 1 = 1 + a.length := by
      unfold endAt hd
      rw [List.drop_succ_cons, List.drop_zero, hab]
      show 1 + ma.1 = _; omega
    simp [this]
  · unfold endE; rw [e1]; rfl
  · unfold endK; rw [e0]
    have : endAt ss (x :: (a ++ b)) 0 = 1 + a.length + b.length := by
      unfold endAt hd
      rw [List.drop_zero, hc]
      show 0 + (1 + (ma.1 + mb.1)) = _; omega
    simp [this]
  · unfold endE; rw [e0]; rfl
  · unfold weightK; rw [hr]; simp only [if_true, wtSum, wtSum_append]; omega

set_option maxHeartbeats 4000000 in
set_option maxRecDepth 100000 in
theorem termNests_walk (A1 A2 : Option Addr) (n1 c1 n2 c2 : Nat) (a b : List Int) (w : World)
    (h1 : IntsAt w w.heap.size A1 n1 a) (hn1 : n1 * 8 ≤ 140737488351232) (h2 : IntsAt w w.heap.size A2 n2 b) (hn2 : n2 * 8 ≤ 140737488351232) (hnil1 : A1 = none → n1 = 0 ∧ c1 = 0) (hnil2 : A2 = none → n2 = 0 ∧ c2 = 0) :
    Calls Try.prog 6 #[.slice A1 n1 c1, .slice A2 n2 c2] w fun e w' => e = .returned (.bool true) ∧ Below w.heap.size w w' := by
  have HB0 : Hid (Below w.heap.size w w) := Below.refl _ _
  have HR1 := Lib.hid h1
  have HR2 := Lib.hid h2
  have HL1 := Lib.hid h1.len
  have HL2 := Lib.hid h2.len
  have HN1 := Lib.hid hnil1
  have HN2 := Lib.hid hnil2
  have hm1 : n1 ≤ maxLen := by unfold maxLen; omega
  have hm2 : n2 ≤ maxLen := by unfold maxLen; omega
  clear h1 h2 hnil1 hnil2
  go_enter Try.func6, Try.ntmps6
  go_wp2_with fail
  refine (awake_any _).mono ?_
  rintro e w1 ⟨rfl, hb1⟩
  have HB1 := Lib.hid (HB0.out.trans (hb1.mono HB0.out.size))
  replace HR1 := Lib.hid (HR1.out.on hb1)
  replace HR2 := Lib.hid (HR2.out.on hb1)
  clear hb1
  go_wp2_with fail
  refine (words_any _).mono ?_
  rintro e w2 ⟨A02, rfl, hs2, hb2⟩
  have HB2 := Lib.hid (HB1.out.trans (hb2.mono HB1.out.size))
  replace HR1 := Lib.hid (HR1.out.on hb2)
  replace HR2 := Lib.hid (HR2.out.on hb2)
  clear hb2
  go_wp2_with fail
  refine (row_any _ A1 7 7 n1 c1 wordsL a _ hs2 len7 (Nat.le_refl _) HR1.out hm1).mono ?_
  rintro e w3 ⟨rfl, hb3⟩
  have HB3 := Lib.hid (HB2.out.trans (hb3.mono HB2.out.size))
  replace HR1 := Lib.hid (HR1.out.on hb3)
  replace HR2 := Lib.hid (HR2.out.on hb3)
  clear hb3
  clear hs2
  go_wp2_with fail
  refine (words_any _).mono ?_
  rintro e w4 ⟨A04, rfl, hs4, hb4⟩
  have HB4 := Lib.hid (HB3.out.trans (hb4.mono HB3.out.size))
  replace HR1 := Lib.hid (HR1.out.on hb4)
  replace HR2 := Lib.hid (HR2.out.on hb4)
  clear hb4
  go_wp2_with fail
  refine (row_any _ A2 7 7 n2 c2 wordsL b _ hs4 len7 (Nat.le_refl _) HR2.out hm2).mono ?_
  rintro e w5 ⟨rfl, hb5⟩
  have HB5 := Lib.hid (HB4.out.trans (hb5.mono HB4.out.size))
  replace HR1 := Lib.hid (HR1.out.on hb5)
  replace HR2 := Lib.hid (HR2.out.on hb5)
  clear hb5
  clear hs4
  cases ha : rowB wordsL a
  · rw [(rowK_no ha).1, (rowK_no ha).2]
    go_wp2_with (go_at_call 16; refine (num_any _ _).mono ?_; rintro e w' ⟨rfl, rfl⟩)
    go_ret
    exact ⟨rfl, HB5.out⟩
  · obtain ⟨ka, da, va, e1, e2, e3, e4, q1, q2, q3, q4, q5, q6, q7⟩ := row_nums ha
    rw [e1, e4]
    cases hb : rowB wordsL b
    · rw [(rowK_no hb).1, (rowK_no hb).2]
      clear e1 e2 e3 e4 q1 q2 q3
      go_wp2_with (go_at_call 16; refine (num_any _ _).mono ?_; rintro e w' ⟨rfl, rfl⟩)
      go_ret
      exact ⟨rfl, HB5.out⟩
    · obtain ⟨kb, db, vb, f1, f2, f3, f4, r1, r2, r3, r4, r5, r6, r7⟩ := row_nums hb
      rw [f1, f4]
      have HA := Lib.hid ha
      have HBB := Lib.hid hb
      have E := Lib.hid e2
      have E3 := Lib.hid e3
      have E4 := Lib.hid e4
      have F := Lib.hid f2
      have F3 := Lib.hid f3
      have F4 := Lib.hid f4
      have Q1 := Lib.hid q1
      have Q2 := Lib.hid q2
      have Q3 := Lib.hid q3
      have R1 := Lib.hid r1
      have R2 := Lib.hid r2
      have R3 := Lib.hid r3
      clear e1 e2 e3 e4 q1 q2 q3 f1 f2 f3 f4 r1 r2 r3 ha hb
      by_cases hka : ka = 1
      · by_cases hkb : kb = 1
        · subst hka hkb
          by_cases h48 : n1 + n2 < 48
          · obtain ⟨g1, g2, g3, g4, g5, g6, g7⟩ := row_nest (x := 4) HA.out HBB.out Q1.out.symm R1.out.symm (by decide +kernel) (by rw [HL1.out, HL2.out]; exact h48)
            rw [← Q2.out, ← R2.out] at g2
            rw [HL1.out] at g3 g5
            rw [HL2.out] at g5
            rw [← Q3.out, ← R3.out] at g7
            have ew : wtOf wordsL 4 = 3 := by decide +kernel
            rw [ew] at g7
            have G1 := Lib.hid g1
            have G2 := Lib.hid g2
            have G3 := Lib.hid g3
            have G4 := Lib.hid g4
            have G5 := Lib.hid g5
            have G6 := Lib.hid g6
            have G7 := Lib.hid g7
            clear g1 g2 g3 g4 g5 g6 g7 ew
            have h48' : ¬ (48 : Int) ≤ (n1 : Int) + (n2 : Int) := by omega
            have hb6 := below_new w5 (.cells #[.int .i64 4] 3)
            have HB6 := Lib.hid (HB5.out.trans (hb6.mono HB5.out.size))
            replace HR1 := Lib.hid (HR1.out.on hb6)
            replace HR2 := Lib.hid (HR2.out.on hb6)
            clear hb6
            go_wp2_with (go_at_call 16; refine (num_any _ _).mono ?_; rintro e w' ⟨rfl, rfl⟩)
            refine (copyInts_any _ 1 1 [4] _ (IntsAt.news w5 [4]) (by omega)).mono ?_
            rintro e w7 ⟨v7, rfl, hv7, hb7⟩
            have HV := Lib.hid hv7
            have HB7 := Lib.hid (HB6.out.trans (hb7.mono HB6.out.size))
            have H67 := Lib.hid hb7
            have hz7 := hb7.size
            clear hv7 hb7
            go_wp2_with (first
              | (at_builtin
                 refine app_ints rfl (.tmp 65) (.tmp 66) rfl (w5.alloc (.cells #[.int .i64 4] 3)).heap.size _ [4] rfl HV.out A1 n1 c1 _ a rfl HN1.out (HR1.out.on H67.out) (by simp; omega) hz7 ?_
                 intro v8 w8 hown8 hb8
                 have HV8 := Lib.hid hown8
                 have H68 := Lib.hid (H67.out.trans hb8)
                 have hz8 := H68.out.size
                 clear hown8 hb8)
              | (at_builtin
                 refine app_ints rfl (.tmp 68) (.tmp 69) rfl (w5.alloc (.cells #[.int .i64 4] 3)).heap.size _ ([4] ++ a) rfl HV8.out A2 n2 c2 _ b rfl HN2.out (HR2.out.on H68.out) (by simp; rw [HL1.out]; omega) hz8 ?_
                 intro v9 w9 hown9 hb9
                 obtain ⟨C, cap9, rfl, hcap9, hi9⟩ : ∃ C cap, v9 = .slice C (n1 + n2 + 1) cap ∧ n1 + n2 + 1 ≤ cap ∧ IntsAt w9 w9.heap.size C (n1 + n2 + 1) (4 :: (a ++ b)) := by
                   have := hown9.intsAt
                   have e1 : ([4] ++ a ++ b : List Int) = 4 :: (a ++ b) := by simp
                   rw [e1] at this
                   have e2 : (4 :: (a ++ b)).length = n1 + n2 + 1 := by simp; rw [HL1.out, HL2.out]
                   rw [e2] at this
                   exact this
                 have HI := Lib.hid hi9
                 have H69 := Lib.hid (H68.out.trans hb9)
                 clear hown9 hi9 hb9))
            have hb9 := H69.out
            have HB9 := Lib.hid (HB6.out.trans (hb9.mono HB6.out.size))
            replace HR1 := Lib.hid (HR1.out.on hb9)
            replace HR2 := Lib.hid (HR2.out.on hb9)
            clear hb9 H69 H68 H67 HV HV8 hz7 hz8
            have hmc : n1 + n2 + 1 ≤ maxLen := by unfold maxLen; omega
            refine (words_any _).mono ?_
            rintro e w10 ⟨A10, rfl, hs10, hb10⟩
            have HB10 := Lib.hid (HB9.out.trans (hb10.mono HB9.out.size))
            replace HR1 := Lib.hid (HR1.out.on hb10)
            replace HR2 := Lib.hid (HR2.out.on hb10)
            replace HI := Lib.hid (HI.out.on hb10)
            clear hb10
            go_wp2_with fail
            refine (deep_any _ A1 7 7 n1 c1 wordsL a _ hs10 len7 (Nat.le_refl _) HR1.out hm1).mono ?_
            rintro e w11 ⟨rfl, hb11⟩
            have HB11 := Lib.hid (HB10.out.trans (hb11.mono HB10.out.size))
            replace HR1 := Lib.hid (HR1.out.on hb11)
            replace HR2 := Lib.hid (HR2.out.on hb11)
            replace HI := Lib.hid (HI.out.on hb11)
            clear hb11
            rw [E.out, E4.out]
            clear hs10
            go_wp2_with fail
            refine (words_any _).mono ?_
            rintro e w12 ⟨A12, rfl, hs12, hb12⟩
            have HB12 := Lib.hid (HB11.out.trans (hb12.mono HB11.out.size))
            replace HR1 := Lib.hid (HR1.out.on hb12)
            replace HR2 := Lib.hid (HR2.out.on hb12)
            replace HI := Lib.hid (HI.out.on hb12)
            clear hb12
            go_wp2_with fail
            refine (deep_any _ A2 7 7 n2 c2 wordsL b _ hs12 len7 (Nat.le_refl _) HR2.out hm2).mono ?_
            rintro e w13 ⟨rfl, hb13⟩
            have HB13 := Lib.hid (HB12.out.trans (hb13.mono HB12.out.size))
            replace HR1 := Lib.hid (HR1.out.on hb13)
            replace HR2 := Lib.hid (HR2.out.on hb13)
            replace HI := Lib.hid (HI.out.on hb13)
            clear hb13
            rw [F.out, F4.out]
            clear hs12
            go_wp2_with fail
            refine (words_any _).mono ?_
            rintro e w14 ⟨A14, rfl, hs14, hb14⟩
            have HB14 := Lib.hid (HB13.out.trans (hb14.mono HB13.out.size))
            replace HR1 := Lib.hid (HR1.out.on hb14)
            replace HR2 := Lib.hid (HR2.out.on hb14)
            replace HI := Lib.hid (HI.out.on hb14)
            clear hb14
            go_wp2_with fail
            refine (deep_any _ C 7 7 (n1 + n2 + 1) cap9 wordsL (4::(a ++ b)) _ hs14 len7 (Nat.le_refl _) HI.out hmc).mono ?_
            rintro e w15 ⟨rfl, hb15⟩
            have HB15 := Lib.hid (HB14.out.trans (hb15.mono HB14.out.size))
            replace HR1 := Lib.hid (HR1.out.on hb15)
            replace HR2 := Lib.hid (HR2.out.on hb15)
            replace HI := Lib.hid (HI.out.on hb15)
            clear hb15
            rw [G2.out, G1.out]
            clear hs14
            go_wp2_with fail
            refine (words_any _).mono ?_
            rintro e w16 ⟨A16, rfl, hs16, hb16⟩
            have HB16 := Lib.hid (HB15.out.trans (hb16.mono HB15.out.size))
            replace HR1 := Lib.hid (HR1.out.on hb16)
            replace HR2 := Lib.hid (HR2.out.on hb16)
            replace HI := Lib.hid (HI.out.on hb16)
            clear hb16
            go_wp2_with fail
            refine (end_any _ C 7 7 (n1 + n2 + 1) cap9 wordsL (4::(a ++ b)) 1 _ hs16 len7 (Nat.le_refl _) HI.out hmc).mono ?_
            rintro e w17 ⟨rfl, hb17⟩
            have HB17 := Lib.hid (HB16.out.trans (hb17.mono HB16.out.size))
            replace HR1 := Lib.hid (HR1.out.on hb17)
            replace HR2 := Lib.hid (HR2.out.on hb17)
            replace HI := Lib.hid (HI.out.on hb17)
            clear hb17
            rw [G3.out, G4.out]
            clear hs16
            go_wp2_with fail
            refine (words_any _).mono ?_
            rintro e w18 ⟨A18, rfl, hs18, hb18⟩
            have HB18 := Lib.hid (HB17.out.trans (hb18.mono HB17.out.size))
            replace HR1 := Lib.hid (HR1.out.on hb18)
            replace HR2 := Lib.hid (HR2.out.on hb18)
            replace HI := Lib.hid (HI.out.on hb18)
            clear hb18
            go_wp2_with fail
            refine (end_any _ C 7 7 (n1 + n2 + 1) cap9 wordsL (4::(a ++ b)) 0 _ hs18 len7 (Nat.le_refl _) HI.out hmc).mono ?_
            rintro e w19 ⟨rfl, hb19⟩
            have HB19 := Lib.hid (HB18.out.trans (hb19.mono HB18.out.size))
            replace HR1 := Lib.hid (HR1.out.on hb19)
            replace HR2 := Lib.hid (HR2.out.on hb19)
            replace HI := Lib.hid (HI.out.on hb19)
            clear hb19
            rw [G5.out, G6.out]
            clear hs18
            go_wp2_with fail
            refine (words_any _).mono ?_
            rintro e w20 ⟨A20, rfl, hs20, hb20⟩
            have HB20 := Lib.hid (HB19.out.trans (hb20.mono HB19.out.size))
            replace HR1 := Lib.hid (HR1.out.on hb20)
            replace HR2 := Lib.hid (HR2.out.on hb20)
            replace HI := Lib.hid (HI.out.on hb20)
            clear hb20
            go_wp2_with fail
            refine (weight_any _ C 7 7 (n1 + n2 + 1) cap9 wordsL (4::(a ++ b)) _ hs20 len7 (Nat.le_refl _) HI.out hmc).mono ?_
            rintro e w21 ⟨rfl, hb21⟩
            have HB21 := Lib.hid (HB20.out.trans (hb21.mono HB20.out.size))
            replace HR1 := Lib.hid (HR1.out.on hb21)
            replace HR2 := Lib.hid (HR2.out.on hb21)
            replace HI := Lib.hid (HI.out.on hb21)
            clear hb21
            rw [G7.out, G1.out]
            clear hs20
            go_wp2_with fail
            refine (words_any _).mono ?_
            rintro e w22 ⟨A22, rfl, hs22, hb22⟩
            have HB22 := Lib.hid (HB21.out.trans (hb22.mono HB21.out.size))
            replace HR1 := Lib.hid (HR1.out.on hb22)
            replace HR2 := Lib.hid (HR2.out.on hb22)
            replace HI := Lib.hid (HI.out.on hb22)
            clear hb22
            go_wp2_with fail
            refine (weight_any _ A1 7 7 n1 c1 wordsL a _ hs22 len7 (Nat.le_refl _) HR1.out hm1).mono ?_
            rintro e w23 ⟨rfl, hb23⟩
            have HB23 := Lib.hid (HB22.out.trans (hb23.mono HB22.out.size))
            replace HR1 := Lib.hid (HR1.out.on hb23)
            replace HR2 := Lib.hid (HR2.out.on hb23)
            replace HI := Lib.hid (HI.out.on hb23)
            clear hb23
            rw [E3.out, E4.out]
            clear hs22
            go_wp2_with fail
            refine (words_any _).mono ?_
            rintro e w24 ⟨A24, rfl, hs24, hb24⟩
            have HB24 := Lib.hid (HB23.out.trans (hb24.mono HB23.out.size))
            replace HR1 := Lib.hid (HR1.out.on hb24)
            replace HR2 := Lib.hid (HR2.out.on hb24)
            replace HI := Lib.hid (HI.out.on hb24)
            clear hb24
            go_wp2_with fail
            refine (weight_any _ A2 7 7 n2 c2 wordsL b _ hs24 len7 (Nat.le_refl _) HR2.out hm2).mono ?_
            rintro e w25 ⟨rfl, hb25⟩
            have HB25 := Lib.hid (HB24.out.trans (hb25.mono HB24.out.size))
            replace HR1 := Lib.hid (HR1.out.on hb25)
            replace HR2 := Lib.hid (HR2.out.on hb25)
            replace HI := Lib.hid (HI.out.on hb25)
            clear hb25
            rw [F3.out, F4.out]
            clear hs24
            by_cases hmx : da < db
            · rw [Nat.max_eq_right (by omega)]
              go_wp2_with (go_at_call 16; refine (num_any _ _).mono ?_; rintro e w' ⟨rfl, rfl⟩)
              go_ret
              exact ⟨by simp, HB25.out⟩
            · rw [Nat.max_eq_left (by omega)]
              go_wp2_with (go_at_call 16; refine (num_any _ _).mono ?_; rintro e w' ⟨rfl, rfl⟩)
              go_ret
              exact ⟨by simp, HB25.out⟩
          · have h48' : (48 : Int) ≤ (n1 : Int) + (n2 : Int) := by omega
            go_wp2_with (go_at_call 16; refine (num_any _ _).mono ?_; rintro e w' ⟨rfl, rfl⟩)
            go_ret
            exact ⟨rfl, HB5.out⟩
        · subst hka
          have hb1 : ((kb : Int) != 1) = true := by simp; omega
          clear hkb
          go_wp2_with (go_at_call 16; refine (num_any _ _).mono ?_; rintro e w' ⟨rfl, rfl⟩)
          go_ret
          exact ⟨rfl, HB5.out⟩
      · have hb1 : ((ka : Int) != 1) = true := by simp; omega
        clear hka
        go_wp2_with (go_at_call 16; refine (num_any _ _).mono ?_; rintro e w' ⟨rfl, rfl⟩)
        go_ret
        exact ⟨rfl, HB5.out⟩

end Go.Proofs.Ytmjopiobahaggaa
