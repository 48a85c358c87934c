/-
  The walk of the law TermJoins.
-/
import Derived.Test.YtmjopiobahaggaaTermCut
namespace Go.Proofs.Ytmjopiobahaggaa
open Go.RowKit
set_option linter.unusedSimpArgs false
set_option linter.unusedVariables false

theorem row_join {ss : List Sym} {a b : List Int} (ha : rowB ss a = true) (hb : rowB ss b = true) (h : a.length + b.length ≤ 48) : rowB ss (a ++ b) = true ∧ tlD ss (a ++ b) = tlD ss a ++ tlD ss b := by
  obtain ⟨h1, _, h3⟩ := row_parts ha
  obtain ⟨_, _, k3⟩ := row_parts hb
  have := tl_append a b h3 k3
  exact ⟨row_true h1 (by simp; omega) this, by show (tl ss _).getD [] = _; rw [this]; rfl⟩
theorem row_nums {ss : List Sym} {a : List Int} (ha : rowB ss a = true) : ∃ (k d : Nat) (v : Int), rowK ss a = k ∧ deepK ss a = d ∧ weightK ss a = v ∧ rowE ss a = 0 ∧ k = (tlD ss a).length ∧ d = maxD (tlD ss a) ∧ v = wtSum ss a ∧ k ≤ 48 ∧ d ≤ 48 ∧ 0 ≤ v ∧ v ≤ 960 := by
  obtain ⟨h1, h2, h3⟩ := row_parts ha
  have b := wtSum_bd ha a.length (Nat.le_refl _)
  rw [List.take_length] at b
  have l := tl_len a h3
  have dp := tl_deep a h3
  refine ⟨_, _, _, (rowK_yes ha).1, ?_, ?_, (rowK_yes ha).2, rfl, rfl, rfl, by omega, by omega, b.1, by omega⟩
  · unfold deepK; rw [ha]; rfl
  · unfold weightK; rw [ha]; rfl

set_option maxHeartbeats 4000000 in
set_option maxRecDepth 100000 in
theorem termJoins_walk (A A1 A2 : Option Addr) (n c n1 c1 n2 c2 : Nat) (ss : List Sym) (a b : List Int) (w : World) (h : SymsAt w w.heap.size A n ss) (hn : n ≤ maxLen) (hnc : n ≤ c)
    (h1 : IntsAt w w.heap.size A1 n1 a) (hn1 : n1 * 8 ≤ 140737488351232) (h2 : IntsAt w w.heap.size A2 n2 b) (hn2 : n2 * 8 ≤ 140737488351232) (hnil : A2 = none → n2 = 0 ∧ c2 = 0) :
    Calls Try.prog 5 #[.slice A n c, .slice A1 n1 c1, .slice A2 n2 c2] w fun e w' => e = .returned (.bool true) ∧ Below w.heap.size w w' := by
  have HB0 : Hid (Below w.heap.size w w) := Below.refl _ _
  have HS := Lib.hid h
  have HR1 := Lib.hid h1
  have HR2 := Lib.hid h2
  have HL1 := Lib.hid h1.len
  have HL2 := Lib.hid h2.len
  have HN := Lib.hid hnil
  have hm1 : n1 ≤ maxLen := by unfold maxLen; omega
  have hm2 : n2 ≤ maxLen := by unfold maxLen; omega
  clear h h1 h2 hnil
  go_enter Try.func5, Try.ntmps5
  go_wp2_with fail
  refine (awake_any _).mono ?_
  rintro e w1 ⟨rfl, hb1⟩
  have HB1 := Lib.hid (HB0.out.trans (hb1.mono HB0.out.size))
  replace HS := Lib.hid (HS.out.on hb1)
  replace HR1 := Lib.hid (HR1.out.on hb1)
  replace HR2 := Lib.hid (HR2.out.on hb1)
  clear hb1
  go_wp2_with fail
  refine (row_any A A1 n c n1 c1 ss a _ HS.out hn hnc HR1.out hm1).mono ?_
  rintro e w2 ⟨rfl, hb2⟩
  have HB2 := Lib.hid (HB1.out.trans (hb2.mono HB1.out.size))
  replace HS := Lib.hid (HS.out.on hb2)
  replace HR1 := Lib.hid (HR1.out.on hb2)
  replace HR2 := Lib.hid (HR2.out.on hb2)
  clear hb2
  go_wp2_with fail
  refine (row_any A A2 n c n2 c2 ss b _ HS.out hn hnc HR2.out hm2).mono ?_
  rintro e w3 ⟨rfl, hb3⟩
  have HB3 := Lib.hid (HB2.out.trans (hb3.mono HB2.out.size))
  replace HS := Lib.hid (HS.out.on hb3)
  replace HR1 := Lib.hid (HR1.out.on hb3)
  replace HR2 := Lib.hid (HR2.out.on hb3)
  clear hb3
  cases ha : rowB ss a
  · rw [(rowK_no ha).1, (rowK_no ha).2]
    go_wp2_with (go_at_call 16; refine (num_any _ _).mono ?_; rintro e w' ⟨rfl, rfl⟩)
    go_ret
    exact ⟨rfl, HB3.out⟩
  · obtain ⟨ka, da, va, e1, e2, e3, e4, q1, q2, q3, q4, q5, q6, q7⟩ := row_nums ha
    rw [e1, e4]
    cases hb : rowB ss b
    · rw [(rowK_no hb).1, (rowK_no hb).2]
      clear e1 e2 e3 e4 q1 q2 q3
      go_wp2_with (go_at_call 16; refine (num_any _ _).mono ?_; rintro e w' ⟨rfl, rfl⟩)
      go_ret
      exact ⟨rfl, HB3.out⟩
    · obtain ⟨kb, db, vb, f1, f2, f3, f4, r1, r2, r3, r4, r5, r6, r7⟩ := row_nums hb
      rw [f1, f4]
      by_cases h48 : n1 + n2 ≤ 48
      · obtain ⟨hc, hcl⟩ := row_join ha hb (by rw [HL1.out, HL2.out]; exact h48)
        obtain ⟨kc, dc, vc, g1, g2, g3, g4, s1, s2, s3, s4, s5, s6, s7⟩ := row_nums hc
        rw [hcl, List.length_append, ← q1, ← r1] at s1
        rw [hcl, maxD_append, ← q2, ← r2] at s2
        rw [wtSum_append, ← q3, ← r3] at s3
        subst s1 s3
        have E := Lib.hid e2
        have E3 := Lib.hid e3
        have E4 := Lib.hid e4
        have F := Lib.hid f2
        have F3 := Lib.hid f3
        have F4 := Lib.hid f4
        have G1 := Lib.hid g1
        have G2 := Lib.hid g2
        have G3 := Lib.hid g3
        have G4 := Lib.hid g4
        have S2 := Lib.hid s2
        clear e1 e2 e3 e4 q1 q2 q3 f1 f2 f3 f4 r1 r2 r3 g1 g2 g3 g4 s2 hc hcl ha hb
        have h48' : ¬ (48 : Int) < (n1 : Int) + (n2 : Int) := by omega
        go_wp2_with (go_at_call 16; refine (num_any _ _).mono ?_; rintro e w' ⟨rfl, rfl⟩)
        refine (copyInts_any A1 n1 c1 a _ HR1.out hn1).mono ?_
        rintro e w4 ⟨v4, rfl, hv4, hb4⟩
        have HV := Lib.hid hv4
        have H34 := Lib.hid hb4
        have hz4 := hb4.size
        clear hv4 hb4
        go_wp2_with (at_builtin
                     refine app_ints rfl (.tmp 57) (.tmp 58) rfl w3.heap.size _ a rfl HV.out A2 n2 c2 _ b rfl HN.out (HR2.out.on H34.out) (by rw [HL1.out]; omega) hz4 ?_
                     intro v5 w5 hown5 hb5
                     obtain ⟨C, cap5, rfl, hcap5, hi5⟩ : ∃ C cap, v5 = .slice C (n1 + n2) cap ∧ n1 + n2 ≤ cap ∧ IntsAt w5 w5.heap.size C (n1 + n2) (a ++ b) := by
                       have := hown5.intsAt
                       rw [List.length_append, HL1.out, HL2.out] at this
                       exact this
                     have HI := Lib.hid hi5
                     have HX := Lib.hid hb5
                     clear hown5 hi5 hb5)
        have hb5 := H34.out.trans HX.out
        have HB5 := Lib.hid (HB3.out.trans (hb5.mono HB3.out.size))
        replace HS := Lib.hid (HS.out.on hb5)
        replace HR1 := Lib.hid (HR1.out.on hb5)
        replace HR2 := Lib.hid (HR2.out.on hb5)
        clear hb5 H34 HX HV
        have hmc : n1 + n2 ≤ maxLen := by unfold maxLen; omega
        refine (row_any A C n c (n1 + n2) cap5 ss (a ++ b) _ HS.out hn hnc HI.out hmc).mono ?_
        rintro e w6 ⟨rfl, hb6⟩
        have HB6 := Lib.hid (HB5.out.trans (hb6.mono HB5.out.size))
        replace HS := Lib.hid (HS.out.on hb6)
        replace HR1 := Lib.hid (HR1.out.on hb6)
        replace HR2 := Lib.hid (HR2.out.on hb6)
        replace HI := Lib.hid (HI.out.on hb6)
        clear hb6
        rw [G1.out, G4.out]
        go_wp2_with fail
        refine (weight_any A A1 n c n1 c1 ss a _ HS.out hn hnc HR1.out hm1).mono ?_
        rintro e w7 ⟨rfl, hb7⟩
        have HB7 := Lib.hid (HB6.out.trans (hb7.mono HB6.out.size))
        replace HS := Lib.hid (HS.out.on hb7)
        replace HR1 := Lib.hid (HR1.out.on hb7)
        replace HR2 := Lib.hid (HR2.out.on hb7)
        replace HI := Lib.hid (HI.out.on hb7)
        clear hb7
        rw [E3.out, E4.out]
        go_wp2_with fail
        refine (weight_any A A2 n c n2 c2 ss b _ HS.out hn hnc HR2.out hm2).mono ?_
        rintro e w8 ⟨rfl, hb8⟩
        have HB8 := Lib.hid (HB7.out.trans (hb8.mono HB7.out.size))
        replace HS := Lib.hid (HS.out.on hb8)
        replace HR1 := Lib.hid (HR1.out.on hb8)
        replace HR2 := Lib.hid (HR2.out.on hb8)
        replace HI := Lib.hid (HI.out.on hb8)
        clear hb8
        rw [F3.out, F4.out]
        go_wp2_with fail
        refine (weight_any A C n c (n1 + n2) cap5 ss (a ++ b) _ HS.out hn hnc HI.out hmc).mono ?_
        rintro e w9 ⟨rfl, hb9⟩
        have HB9 := Lib.hid (HB8.out.trans (hb9.mono HB8.out.size))
        replace HS := Lib.hid (HS.out.on hb9)
        replace HR1 := Lib.hid (HR1.out.on hb9)
        replace HR2 := Lib.hid (HR2.out.on hb9)
        replace HI := Lib.hid (HI.out.on hb9)
        clear hb9
        rw [G3.out, G4.out]
        go_wp2_with fail
        refine (deep_any A A1 n c n1 c1 ss a _ HS.out hn hnc HR1.out hm1).mono ?_
        rintro e w10 ⟨rfl, hb10⟩
        have HB10 := Lib.hid (HB9.out.trans (hb10.mono HB9.out.size))
        replace HS := Lib.hid (HS.out.on hb10)
        replace HR1 := Lib.hid (HR1.out.on hb10)
        replace HR2 := Lib.hid (HR2.out.on hb10)
        replace HI := Lib.hid (HI.out.on hb10)
        clear hb10
        rw [E.out, E4.out]
        go_wp2_with fail
        refine (deep_any A A2 n c n2 c2 ss b _ HS.out hn hnc HR2.out hm2).mono ?_
        rintro e w11 ⟨rfl, hb11⟩
        have HB11 := Lib.hid (HB10.out.trans (hb11.mono HB10.out.size))
        replace HS := Lib.hid (HS.out.on hb11)
        replace HR1 := Lib.hid (HR1.out.on hb11)
        replace HR2 := Lib.hid (HR2.out.on hb11)
        replace HI := Lib.hid (HI.out.on hb11)
        clear hb11
        rw [F.out, F4.out]
        go_wp2_with fail
        refine (deep_any A C n c (n1 + n2) cap5 ss (a ++ b) _ HS.out hn hnc HI.out hmc).mono ?_
        rintro e w12 ⟨rfl, hb12⟩
        have HB12 := Lib.hid (HB11.out.trans (hb12.mono HB11.out.size))
        replace HS := Lib.hid (HS.out.on hb12)
        replace HR1 := Lib.hid (HR1.out.on hb12)
        replace HR2 := Lib.hid (HR2.out.on hb12)
        replace HI := Lib.hid (HI.out.on hb12)
        clear hb12
        rw [G2.out, G4.out]
        by_cases hmx : da < db
        · have e : dc = db := by rw [S2.out]; omega
          rw [e]
          clear e
          go_wp2_with (go_at_call 16; refine (num_any _ _).mono ?_; rintro e w' ⟨rfl, rfl⟩)
          go_ret
          exact ⟨by simp, HB12.out⟩
        · have e : dc = da := by rw [S2.out]; omega
          rw [e]
          clear e
          go_wp2_with (go_at_call 16; refine (num_any _ _).mono ?_; rintro e w' ⟨rfl, rfl⟩)
          go_ret
          exact ⟨by simp, HB12.out⟩
      · have h48' : (48 : Int) < (n1 : Int) + (n2 : Int) := by omega
        clear e1 e2 e3 e4 q1 q2 q3 f1 f2 f3 f4 r1 r2 r3 ha hb
        go_wp2_with (go_at_call 16; refine (num_any _ _).mono ?_; rintro e w' ⟨rfl, rfl⟩)
        go_ret
        exact ⟨rfl, HB3.out⟩

end Go.Proofs.Ytmjopiobahaggaa
