/-
  The walk of the law OrderWithin.
-/
import Derived.Test.YtodhnngnjaoooaaAwakeO
namespace Go.Proofs.Ytodhnngnjaoooaa
open Go.RowKit
set_option linter.unusedSimpArgs false
set_option linter.unusedVariables false
set_option maxRecDepth 100000

theorem atom_word {a : List Int} (h : atomB wordsL a = true) : intAt a 0 = 0 ∨ 5 ≤ intAt a 0 := by
  obtain ⟨c, r, rfl, h1, h2, h3, _⟩ := atom_parts h
  have hl : wordsL.length = 7 := by decide +kernel
  rw [hl] at h2
  show c = 0 ∨ 5 ≤ c
  have hc : c = 0 ∨ c = 1 ∨ c = 2 ∨ c = 3 ∨ c = 4 ∨ 5 ≤ c := by omega
  rcases hc with rfl | rfl | rfl | rfl | rfl | hc
  · exact .inl rfl
  · exact absurd h3 (by decide +kernel)
  · exact absurd h3 (by decide +kernel)
  · exact absurd h3 (by decide +kernel)
  · exact absurd h3 (by decide +kernel)
  · exact .inr hc
theorem ex_word {a b : List Int} (h : exB wordsL a b = true) (h0 : intAt a 0 ≠ 0) (h5 : intAt a 0 < 5) : oneB wordsL a = true ∧ oneB wordsL b = true := by
  obtain ⟨_, _, _, h | h⟩ := exB_yes h
  · exact h
  · rcases atom_word h.1 with q | q
    · exact absurd q h0
    · omega
theorem one_g {a c : List Int} (ha : oneB wordsL a = true) (hc : oneB wordsL c = true) (hl : a.length + c.length < 48) : oneB wordsL (4 :: (c ++ a)) = true := by
  obtain ⟨hm, ta⟩ := one_trm ha
  have tc := (one_trm hc).2
  exact trm_oneB hm (trm_sym (k := 2) (by omega) (a := 2) (by decide +kernel) (trm_append tc ta) (Nat.le_refl _)) (by simp; omega)
theorem CmpR.in_g {a b c : List Int} {k q : Int} (h : CmpR wordsL a b 0 k) (hc : CmpR wordsL c c 0 q) (a0 : intAt a 0 ≠ 0) (a5 : intAt a 0 < 5) (c0 : intAt c 0 ≠ 0) (c5 : intAt c 0 < 5) (l1 : a.length + c.length < 48) (l2 : b.length + c.length < 48) :
    CmpR wordsL (4 :: (c ++ a)) (4 :: (c ++ b)) 0 k ∧ CmpR wordsL (4 :: (c ++ a)) a 0 2 ∧ CmpR wordsL (4 :: (c ++ a)) c 0 2 := by
  obtain ⟨h0, hk, h1, h2, h3⟩ := h.zero
  obtain ⟨oa, ob⟩ := ex_word h0 a0 a5
  obtain ⟨oc, _⟩ := ex_word hc.zero.1 c0 c5
  obtain ⟨hm, ta⟩ := one_trm oa
  have tb := (one_trm ob).2
  have tc := (one_trm oc).2
  have gx := one_g oa oc l1
  have gy := one_g ob oc l2
  obtain ⟨p1, p2⟩ := Mor.part (f := 4) hm (by omega) (by decide +kernel) tc ta
  refine ⟨.inr ⟨exB_one gx gy, rfl, ?_⟩, .inr ⟨exB_one gx oa, rfl, .inr (.inl ⟨p1, rfl⟩)⟩, .inr ⟨exB_one gx oc, rfl, .inr (.inl ⟨p2, rfl⟩)⟩⟩
  have w1 := Mor.within (ss := wordsL) (f := 4) (by omega) tc ta tb
  have w2 := Mor.within (ss := wordsL) (f := 4) (by omega) tc tb ta
  have e1 : (4 : Int) :: (c ++ a) = 4 :: (c ++ b) ↔ a = b := ⟨fun e => by injection e with _ e; exact List.append_cancel_left e, fun e => by rw [e]⟩
  rcases hk with rfl | rfl | rfl | rfl
  · exact .inr (.inr (.inl ⟨w2.2 (h3.1 rfl), rfl⟩))
  · exact .inl ⟨e1.2 (h1.1 rfl), rfl⟩
  · exact .inr (.inl ⟨w1.2 (h2.1 rfl), rfl⟩)
  · refine .inr (.inr (.inr ⟨fun e => ?_, fun e => ?_, fun e => ?_, rfl⟩))
    · have := h1.2 (e1.1 e); omega
    · have := h2.2 (w1.1 e); omega
    · have := h3.2 (w2.1 e); omega

set_option maxHeartbeats 1000000 in
theorem orderWithin_walk (A1 A2 A3 : Option Addr) (n1 c1 n2 c2 n3 c3 : Nat) (a b d : List Int) (w : World) (ha : IntsAt w w.heap.size A1 n1 a) (hn1 : n1 * 8 ≤ 140737488351232) (hc1 : n1 ≤ c1) (hb : IntsAt w w.heap.size A2 n2 b) (hn2 : n2 * 8 ≤ 140737488351232) (hc2 : n2 ≤ c2) (hd : IntsAt w w.heap.size A3 n3 d) (hn3 : n3 * 8 ≤ 140737488351232) (hc3 : n3 ≤ c3)
    (hnil1 : A1 = none → n1 = 0 ∧ c1 = 0) (hnil2 : A2 = none → n2 = 0 ∧ c2 = 0) (hnil3 : A3 = none → n3 = 0 ∧ c3 = 0) :
    Calls Try.prog 8 #[.slice A1 n1 c1, .slice A2 n2 c2, .slice A3 n3 c3] w fun e w' => e = .returned (.bool true) ∧ Below w.heap.size w w' := by
  have HA := Lib.hid ha
  have HB := Lib.hid hb
  have HD := Lib.hid hd
  have HLA := Lib.hid ha.len
  have HLB := Lib.hid hb.len
  have HLD := Lib.hid hd.len
  have HN1 := Lib.hid hnil1
  have HN2 := Lib.hid hnil2
  have HN3 := Lib.hid hnil3
  have HB0 := Lib.hid (Below.refl w.heap.size w)
  have m1 : n1 ≤ maxLen := by unfold maxLen; omega
  have m2 : n2 ≤ maxLen := by unfold maxLen; omega
  have m3 : n3 ≤ maxLen := by unfold maxLen; omega
  clear ha hb hd hnil1 hnil2 hnil3
  go_enter Try.func8, Try.ntmps8
  go_wp2_with fail
  refine (awakeO_any _).mono ?_
  rintro e w1 ⟨rfl, hb1⟩
  have HB1 := Lib.hid (HB0.out.trans (hb1.mono HB0.out.size))
  replace HA := Lib.hid (HA.out.on hb1)
  replace HB := Lib.hid (HB.out.on hb1)
  replace HD := Lib.hid (HD.out.on hb1)
  clear hb1
  go_wp2_with fail
  refine (words_any _).mono ?_
  rintro e w2 ⟨W2, rfl, hs2, hb2⟩
  have HB2 := Lib.hid (HB1.out.trans (hb2.mono HB1.out.size))
  replace HA := Lib.hid (HA.out.on hb2)
  replace HB := Lib.hid (HB.out.on hb2)
  replace HD := Lib.hid (HD.out.on hb2)
  clear hb2
  go_wp2_with fail
  refine (compareO_any W2 A1 A2 7 7 n1 c1 n2 c2 wordsL a b _ hs2 len7 (Nat.le_refl _) HA.out m1 hc1 HB.out m2 hc2).mono ?_
  rintro e w3 ⟨k, E, rfl, hr, hb3⟩
  have HB3 := Lib.hid (HB2.out.trans (hb3.mono HB2.out.size))
  replace HA := Lib.hid (HA.out.on hb3)
  replace HB := Lib.hid (HB.out.on hb3)
  replace HD := Lib.hid (HD.out.on hb3)
  clear hb3
  clear hs2
  go_wp2_with fail
  refine (words_any _).mono ?_
  rintro e w4 ⟨W4, rfl, hs4, hb4⟩
  have HB4 := Lib.hid (HB3.out.trans (hb4.mono HB3.out.size))
  replace HA := Lib.hid (HA.out.on hb4)
  replace HB := Lib.hid (HB.out.on hb4)
  replace HD := Lib.hid (HD.out.on hb4)
  clear hb4
  go_wp2_with fail
  refine (compareO_any W4 A3 A3 7 7 n3 c3 n3 c3 wordsL d d _ hs4 len7 (Nat.le_refl _) HD.out m3 hc3 HD.out m3 hc3).mono ?_
  rintro e w5 ⟨q, F, rfl, hr', hb5⟩
  have HB5 := Lib.hid (HB4.out.trans (hb5.mono HB4.out.size))
  replace HA := Lib.hid (HA.out.on hb5)
  replace HB := Lib.hid (HB.out.on hb5)
  replace HD := Lib.hid (HD.out.on hb5)
  clear hb5
  clear hs4
  have HR := Lib.hid hr
  have HR' := Lib.hid hr'
  clear hr hr'
  by_cases z1 : E = 0
  · subst z1
    by_cases z2 : F = 0
    · subst z2
      have p1 : 1 ≤ n1 := by
        obtain ⟨hm, hx, _, _⟩ := exB_yes HR.out.zero.1
        obtain ⟨c, r, e⟩ := hx.cons hm
        have := HLA.out
        rw [e] at this
        simp at this
        omega
      have p3 : 1 ≤ n3 := by
        obtain ⟨hm, hx, _, _⟩ := exB_yes HR'.out.zero.1
        obtain ⟨c, r, e⟩ := hx.cons hm
        have := HLD.out
        rw [e] at this
        simp at this
        omega
      obtain ⟨b1, o1, rfl, _, hca⟩ := HA.out.at_ (by omega)
      obtain ⟨b3, o3, rfl, _, hcd⟩ := HD.out.at_ (by omega)
      have ka : w5.cell? ⟨b1, o1, none⟩ = some (.int .i64 (intAt a 0)) := by have := hca 0 (by omega); rw [Nat.add_zero] at this; exact this
      have kd : w5.cell? ⟨b3, o3, none⟩ = some (.int .i64 (intAt d 0)) := by have := hcd 0 (by omega); rw [Nat.add_zero] at this; exact this
      obtain ⟨X, hX⟩ : ∃ X, X = intAt a 0 := ⟨_, rfl⟩
      obtain ⟨Z, hZ⟩ : ∃ Z, Z = intAt d 0 := ⟨_, rfl⟩
      rw [← hX] at ka
      rw [← hZ] at kd
      have HX := Lib.hid hX
      have HZ := Lib.hid hZ
      clear hca hcd hX hZ
      have y1 : ((n1 : Int) == 0) = false := by simp; omega
      have y3 : ((n3 : Int) == 0) = false := by simp; omega
      have u1 : (0 : Int) < (n1 : Int) := by omega
      have u3 : (0 : Int) < (n3 : Int) := by omega
      by_cases x0 : X = 0
      · subst x0
        go_wp2_with (go_at_call 12; refine (num_any _ _).mono ?_; rintro e w' ⟨rfl, rfl⟩)
        go_ret
        exact ⟨rfl, HB5.out⟩
      · have x0' : (X == 0) = false := by simpa using x0
        have HX0 := Lib.hid x0
        clear x0
        by_cases x5 : 5 ≤ X
        · have x5' : decide (5 ≤ X) = true := by simpa using x5
          go_wp2_with (go_at_call 12; refine (num_any _ _).mono ?_; rintro e w' ⟨rfl, rfl⟩)
          go_ret
          exact ⟨rfl, HB5.out⟩
        · have x5' : decide (5 ≤ X) = false := by simpa using x5
          have HX5 := Lib.hid x5
          clear x5
          by_cases z0 : Z = 0
          · subst z0
            go_wp2_with (go_at_call 12; refine (num_any _ _).mono ?_; rintro e w' ⟨rfl, rfl⟩)
            go_ret
            exact ⟨rfl, HB5.out⟩
          · have z0' : (Z == 0) = false := by simpa using z0
            have HZ0 := Lib.hid z0
            clear z0
            by_cases z5 : 5 ≤ Z
            · have z5' : decide (5 ≤ Z) = true := by simpa using z5
              go_wp2_with (go_at_call 12; refine (num_any _ _).mono ?_; rintro e w' ⟨rfl, rfl⟩)
              go_ret
              exact ⟨rfl, HB5.out⟩
            · have z5' : decide (5 ≤ Z) = false := by simpa using z5
              have HZ5 := Lib.hid z5
              clear z5
              by_cases l1 : 48 ≤ n1 + n3
              · have l1' : decide ((48 : Int) ≤ (n1 : Int) + (n3 : Int)) = true := by simp; omega
                go_wp2_with (go_at_call 12; refine (num_any _ _).mono ?_; rintro e w' ⟨rfl, rfl⟩)
                go_ret
                exact ⟨rfl, HB5.out⟩
              · have l1' : decide ((48 : Int) ≤ (n1 : Int) + (n3 : Int)) = false := by simp; omega
                by_cases l2 : 48 ≤ n2 + n3
                · have l2' : decide ((48 : Int) ≤ (n2 : Int) + (n3 : Int)) = true := by simp; omega
                  go_wp2_with (go_at_call 12; refine (num_any _ _).mono ?_; rintro e w' ⟨rfl, rfl⟩)
                  go_ret
                  exact ⟨rfl, HB5.out⟩
                · have l2' : decide ((48 : Int) ≤ (n2 : Int) + (n3 : Int)) = false := by simp; omega
                  obtain ⟨f1, f2, f3⟩ := HR.out.in_g HR'.out (by rw [← HX.out]; exact HX0.out) (by rw [← HX.out]; have := HX5.out; omega) (by rw [← HZ.out]; exact HZ0.out) (by rw [← HZ.out]; have := HZ5.out; omega) (by rw [HLA.out, HLD.out]; omega) (by rw [HLB.out, HLD.out]; omega)
                  have F1 := Lib.hid f1
                  have F2 := Lib.hid f2
                  have F3 := Lib.hid f3
                  clear f1 f2 f3
                  obtain ⟨LX, hLX⟩ : ∃ LX, LX = n3 + n1 + 1 := ⟨_, rfl⟩
                  obtain ⟨LY, hLY⟩ : ∃ LY, LY = n3 + n2 + 1 := ⟨_, rfl⟩
                  have HLX := Lib.hid hLX
                  have HLY := Lib.hid hLY
                  have mx : LX ≤ 48 := by omega
                  have my : LY ≤ 48 := by omega
                  clear hLX hLY
                  go_wp2_with (first
                    | (go_at_call 12; refine (num_any _ _).mono ?_; rintro e w' ⟨rfl, rfl⟩)
                    | (at_builtin
                       refine app_ints rfl (.tmp 93) (.tmp 94) rfl w5.heap.size _ [4] rfl (OwnI.lit w5 [4] (by unfold maxLen; simp)) _ n3 c3 _ d rfl HN3.out (HD.out.below (below_new w5 _)) (by simp; omega) (by simp) ?_
                       intro v8 w8 hown8 hb8
                       have HV8 := Lib.hid hown8
                       have H58 := Lib.hid ((below_new w5 (.cells #[.int .i64 4] 3)).trans hb8)
                       have hz8 := H58.out.size
                       clear hown8 hb8)
                    | (at_builtin
                       refine app_ints rfl (.tmp 96) (.tmp 97) rfl w5.heap.size _ ([4] ++ d) rfl HV8.out _ n1 c1 _ a rfl HN1.out (HA.out.below H58.out) (by simp; rw [HLD.out]; omega) hz8 ?_
                       intro v9 w9 hown9 hb9
                       obtain ⟨C, cap9, rfl, hcap9, hi9⟩ : ∃ C cap, v9 = .slice C LX cap ∧ LX ≤ cap ∧ IntsAt w9 w9.heap.size C LX (4 :: (d ++ a)) := by
                         have := hown9.intsAt
                         have e1 : ([4] ++ d ++ a : List Int) = 4 :: (d ++ a) := by simp
                         rw [e1] at this
                         have e2 : (4 :: (d ++ a)).length = LX := by simp; rw [HLA.out, HLD.out, HLX.out]
                         rw [e2] at this
                         exact this
                       have HXI := Lib.hid hi9
                       have H59 := Lib.hid (H58.out.trans hb9)
                       have hz9 := H59.out.size
                       clear hown9 hi9 hb9)
                    | (at_builtin
                       refine app_ints rfl (.tmp 99) (.tmp 100) rfl w9.heap.size _ [4] rfl (OwnI.lit w9 [4] (by unfold maxLen; simp)) _ n3 c3 _ d rfl HN3.out ((HD.out.on H59.out).below (below_new w9 _)) (by simp; omega) (by simp) ?_
                       intro v10 w10 hown10 hb10
                       have HV10 := Lib.hid hown10
                       have H910 := Lib.hid ((below_new w9 (.cells #[.int .i64 4] 3)).trans hb10)
                       have hz10 := H910.out.size
                       clear hown10 hb10)
                    | (at_builtin
                       refine app_ints rfl (.tmp 102) (.tmp 103) rfl w9.heap.size _ ([4] ++ d) rfl HV10.out _ n2 c2 _ b rfl HN2.out ((HB.out.on H59.out).below H910.out) (by simp; rw [HLD.out]; omega) hz10 ?_
                       intro v11 w11 hown11 hb11
                       obtain ⟨C2, cap11, rfl, hcap11, hi11⟩ : ∃ C cap, v11 = .slice C LY cap ∧ LY ≤ cap ∧ IntsAt w11 w11.heap.size C LY (4 :: (d ++ b)) := by
                         have := hown11.intsAt
                         have e1 : ([4] ++ d ++ b : List Int) = 4 :: (d ++ b) := by simp
                         rw [e1] at this
                         have e2 : (4 :: (d ++ b)).length = LY := by simp; rw [HLB.out, HLD.out, HLY.out]
                         rw [e2] at this
                         exact this
                       have HYI := Lib.hid hi11
                       have H911 := Lib.hid (H910.out.trans hb11)
                       clear hown11 hi11 hb11))
                  have HB11 := Lib.hid ((HB5.out.trans (H59.out.mono HB5.out.size)).trans (H911.out.mono (by have := HB5.out.size; omega)))
                  replace HA := Lib.hid ((HA.out.on H59.out).on H911.out)
                  replace HD := Lib.hid ((HD.out.on H59.out).on H911.out)
                  replace HXI := Lib.hid (HXI.out.on H911.out)
                  clear H911 H910 H59 H58 HV8 HV10 hz8 hz9 hz10 HB
                  go_wp2_with fail
                  refine (words_any _).mono ?_
                  rintro e w12 ⟨W12, rfl, hs12, hb12⟩
                  have HB12 := Lib.hid (HB11.out.trans (hb12.mono HB11.out.size))
                  replace HA := Lib.hid (HA.out.on hb12)
                  replace HD := Lib.hid (HD.out.on hb12)
                  replace HXI := Lib.hid (HXI.out.on hb12)
                  replace HYI := Lib.hid (HYI.out.on hb12)
                  clear hb12
                  go_wp2_with fail
                  refine (compareO_any W12 C C2 7 7 LX cap9 LY cap11 wordsL (4::(d ++ a)) (4::(d ++ b)) _ hs12 len7 (Nat.le_refl _) HXI.out (len_small (by omega)) hcap9 HYI.out (len_small (by omega)) hcap11).mono ?_
                  rintro e w13 ⟨i, G, rfl, hr, hb13⟩
                  have HB13 := Lib.hid (HB12.out.trans (hb13.mono HB12.out.size))
                  replace HA := Lib.hid (HA.out.on hb13)
                  replace HD := Lib.hid (HD.out.on hb13)
                  replace HXI := Lib.hid (HXI.out.on hb13)
                  clear hb13
                  obtain ⟨rfl, rfl⟩ := hr.unique F1.out
                  clear hr hs12
                  go_wp2_with fail
                  refine (words_any _).mono ?_
                  rintro e w14 ⟨W14, rfl, hs14, hb14⟩
                  have HB14 := Lib.hid (HB13.out.trans (hb14.mono HB13.out.size))
                  replace HA := Lib.hid (HA.out.on hb14)
                  replace HD := Lib.hid (HD.out.on hb14)
                  replace HXI := Lib.hid (HXI.out.on hb14)
                  clear hb14
                  go_wp2_with fail
                  refine (compareO_any W14 C _ 7 7 LX cap9 n1 c1 wordsL (4::(d ++ a)) a _ hs14 len7 (Nat.le_refl _) HXI.out (len_small (by omega)) hcap9 HA.out m1 hc1).mono ?_
                  rintro e w15 ⟨j, G, rfl, hr, hb15⟩
                  have HB15 := Lib.hid (HB14.out.trans (hb15.mono HB14.out.size))
                  replace HA := Lib.hid (HA.out.on hb15)
                  replace HD := Lib.hid (HD.out.on hb15)
                  replace HXI := Lib.hid (HXI.out.on hb15)
                  clear hb15
                  obtain ⟨rfl, rfl⟩ := hr.unique F2.out
                  clear hr hs14
                  go_wp2_with fail
                  refine (words_any _).mono ?_
                  rintro e w16 ⟨W16, rfl, hs16, hb16⟩
                  have HB16 := Lib.hid (HB15.out.trans (hb16.mono HB15.out.size))
                  replace HA := Lib.hid (HA.out.on hb16)
                  replace HD := Lib.hid (HD.out.on hb16)
                  replace HXI := Lib.hid (HXI.out.on hb16)
                  clear hb16
                  go_wp2_with fail
                  refine (compareO_any W16 C _ 7 7 LX cap9 n3 c3 wordsL (4::(d ++ a)) d _ hs16 len7 (Nat.le_refl _) HXI.out (len_small (by omega)) hcap9 HD.out m3 hc3).mono ?_
                  rintro e w17 ⟨p, G, rfl, hr, hb17⟩
                  have HB17 := Lib.hid (HB16.out.trans (hb17.mono HB16.out.size))
                  replace HA := Lib.hid (HA.out.on hb17)
                  replace HD := Lib.hid (HD.out.on hb17)
                  replace HXI := Lib.hid (HXI.out.on hb17)
                  clear hb17
                  obtain ⟨rfl, rfl⟩ := hr.unique F3.out
                  clear hr hs16
                  go_wp2_with (go_at_call 12; refine (num_any _ _).mono ?_; rintro e w' ⟨rfl, rfl⟩)
                  go_ret
                  exact ⟨ret_b (by simp), HB17.out⟩
    · have g : (F != 0) = true := by simpa using z2
      clear z2
      go_wp2_with (go_at_call 12; refine (num_any _ _).mono ?_; rintro e w' ⟨rfl, rfl⟩)
      go_ret
      exact ⟨rfl, HB5.out⟩
  · have g : (E != 0) = true := by simpa using z1
    clear z1
    go_wp2_with (go_at_call 12; refine (num_any _ _).mono ?_; rintro e w' ⟨rfl, rfl⟩)
    go_ret
    exact ⟨rfl, HB5.out⟩
end Go.Proofs.Ytodhnngnjaoooaa
