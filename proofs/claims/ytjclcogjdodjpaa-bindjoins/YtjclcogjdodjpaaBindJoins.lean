/-
  The walk of the law BindJoins.
-/
import Derived.Test.YtjclcogjdodjpaaAwake3
import Derived.Test.YtjclcogjdodjpaaBindBoth
namespace Go.Proofs.Ytjclcogjdodjpaa
open Go.RowKit
set_option linter.unusedSimpArgs false
set_option linter.unusedVariables false

theorem row_join {ss : List Sym} {a b : List Int} (ha : rowB ss a = true) (hb : rowB ss b = true) (hl : a.length + b.length ≤ 48) : rowB ss (a ++ b) = true := by
  obtain ⟨h1, _, h3⟩ := row_parts ha
  obtain ⟨_, _, k3⟩ := row_parts hb
  exact one_row h1 (by simpa using hl) (tl_append _ _ h3 k3)
theorem join_apply {ss : List Sym} {bs : List Bd} {a b : List Int} (h1 : applyE ss bs a = 0) (h2 : applyE ss bs b = 0) (hl : a.length + b.length ≤ 48) :
    ((applyR ss bs a).length + (applyR ss bs b).length ≤ 48 → applyE ss bs (a ++ b) = 0 ∧ applyR ss bs (a ++ b) = applyR ss bs a ++ applyR ss bs b) ∧
    (48 < (applyR ss bs a).length + (applyR ss bs b).length → applyE ss bs (a ++ b) = 301 ∧ applyR ss bs (a ++ b) = []) := by
  obtain ⟨a1, a2, a3, a4⟩ := applyE_zero h1
  obtain ⟨b1, b2, b3, b4⟩ := applyE_zero h2
  have hr := row_join a2 b2 hl
  have hp := put_append (bs := bs) a b
  rw [a4, b4]
  refine ⟨fun h => ?_, fun h => ?_⟩
  · obtain ⟨q1, q2⟩ := applyE_good a1 hr (by rw [hp]; simpa using h)
    exact ⟨q1, by rw [q2, hp]⟩
  · exact applyE_long a1 hr (by rw [hp]; simpa using h)
theorem OwnI.nil_of {w : World} {base : Nat} {A : Option Addr} {n c : Nat} {xs : List Int} (h : OwnI w base (.slice A n c) xs) : A = none → n = 0 ∧ c = 0 := by
  rintro rfl
  rcases h.shape with ⟨e, _⟩ | ⟨g, cap, e, _⟩
  · injection e with _ e2 e3; exact ⟨e2, e3⟩
  · injection e with e1; cases e1
/-- A row that a call has made, its value written out. -/
theorem OwnI.at_ {w : World} {base : Nat} {A : Option Addr} {n c : Nat} {xs : List Int} (h : OwnI w base (.slice A n c) xs) : n = xs.length ∧ IntsAt w w.heap.size A n xs := by
  obtain ⟨A', c', e, _, hi⟩ := h.intsAt
  injection e with e1 e2 e3
  subst e1
  exact ⟨e2, by rw [e2]; exact hi⟩

set_option maxHeartbeats 4000000 in
theorem bindJoins_walk (A0 A1 A2 A3 : Option Addr) (n0 c0 n1 c1 n2 c2 n3 c3 : Nat) (ss : List Sym) (bs : List Bd) (a b : List Int) (w : World) (hs : SymsAt w w.heap.size A0 n0 ss) (hn0 : n0 ≤ maxLen) (hnc : n0 ≤ c0) (hb : BindsAt w w.heap.size A1 n1 bs) (hn1 : n1 ≤ 4398046511104)
    (ha : IntsAt w w.heap.size A2 n2 a) (hn2 : n2 * 8 ≤ 140737488351232) (hr : IntsAt w w.heap.size A3 n3 b) (hn3 : n3 * 8 ≤ 140737488351232) (hnil : A3 = none → n3 = 0 ∧ c3 = 0) :
    Calls Try.prog 6 #[.slice A0 n0 c0, .slice A1 n1 c1, .slice A2 n2 c2, .slice A3 n3 c3] w fun e w' => e = .returned (.bool true) ∧ Below w.heap.size w w' := by
  have HS := Lib.hid hs
  have HB := Lib.hid hb
  have HA := Lib.hid ha
  have HR := Lib.hid hr
  have HLA := Lib.hid ha.len
  have HLR := Lib.hid hr.len
  have HNIL := Lib.hid hnil
  have HB0 := Lib.hid (Below.refl w.heap.size w)
  have hm2 : n2 ≤ maxLen := by unfold maxLen; omega
  have hm3 : n3 ≤ maxLen := by unfold maxLen; omega
  clear hs hb ha hr hnil
  go_enter Try.func6, Try.ntmps6
  go_wp2_with fail
  refine (awake_any _).mono ?_
  rintro e w1 ⟨rfl, hb1⟩
  have HB1 := Lib.hid (HB0.out.trans (hb1.mono HB0.out.size))
  replace HS := Lib.hid (HS.out.on hb1)
  replace HB := Lib.hid (HB.out.on hb1)
  replace HA := Lib.hid (HA.out.on hb1)
  replace HR := Lib.hid (HR.out.on hb1)
  clear hb1
  go_wp2_with fail
  refine (apply_any A0 A1 A2 n0 c0 n1 c1 n2 c2 ss bs a _ HS.out hn0 hnc HB.out hn1 HA.out hm2).mono ?_
  rintro e w2 ⟨v2, rfl, hv2, hb2⟩
  have HB2 := Lib.hid (HB1.out.trans (hb2.mono HB1.out.size))
  replace HS := Lib.hid (HS.out.on hb2)
  replace HB := Lib.hid (HB.out.on hb2)
  replace HA := Lib.hid (HA.out.on hb2)
  replace HR := Lib.hid (HR.out.on hb2)
  clear hb2
  obtain ⟨A5, c5, rfl, _, _⟩ := hv2.intsAt
  have HX := Lib.hid hv2
  obtain ⟨X, hX⟩ : ∃ M, M = applyR ss bs a := ⟨_, rfl⟩
  obtain ⟨L, hL⟩ : ∃ M, M = X.length := ⟨_, rfl⟩
  have hL48 : L ≤ 48 := by rw [hL, hX]; exact applyR_short ss bs a
  rw [← hX] at HX ⊢
  rw [← hL] at HX ⊢
  obtain ⟨E1, hE1⟩ : ∃ E, E = applyE ss bs a := ⟨_, rfl⟩
  rw [← hE1]
  have HE1 := Lib.hid hE1
  have HXX := Lib.hid hX
  have HLX := Lib.hid hL
  clear hv2 hX hL hE1
  go_wp2_with fail
  refine (apply_any A0 A1 A3 n0 c0 n1 c1 n3 c3 ss bs b _ HS.out hn0 hnc HB.out hn1 HR.out hm3).mono ?_
  rintro e w3 ⟨v3, rfl, hv3, hb3⟩
  have HB3 := Lib.hid (HB2.out.trans (hb3.mono HB2.out.size))
  replace HS := Lib.hid (HS.out.on hb3)
  replace HB := Lib.hid (HB.out.on hb3)
  replace HA := Lib.hid (HA.out.on hb3)
  replace HR := Lib.hid (HR.out.on hb3)
  replace HX := Lib.hid (HX.out.on hb3)
  clear hb3
  obtain ⟨A6, c6, rfl, _, _⟩ := hv3.intsAt
  have HY := Lib.hid hv3
  obtain ⟨Y, hY⟩ : ∃ M, M = applyR ss bs b := ⟨_, rfl⟩
  obtain ⟨M, hM⟩ : ∃ M, M = Y.length := ⟨_, rfl⟩
  have hM48 : M ≤ 48 := by rw [hM, hY]; exact applyR_short ss bs b
  rw [← hY] at HY ⊢
  rw [← hM] at HY ⊢
  obtain ⟨E2, hE2⟩ : ∃ E, E = applyE ss bs b := ⟨_, rfl⟩
  rw [← hE2]
  have HE2 := Lib.hid hE2
  have HYY := Lib.hid hY
  have HLY := Lib.hid hM
  clear hv3 hY hM hE2
  by_cases z1 : E1 = 0
  · subst z1
    by_cases z2 : E2 = 0
    · subst z2
      by_cases z3 : 48 < n2 + n3
      · have g3 : (48 : Int) < (n2 : Int) + (n3 : Int) := by omega
        go_wp2_with (go_at_call 17; refine (num_any _ _).mono ?_; rintro e w' ⟨rfl, rfl⟩)
        go_ret
        exact ⟨rfl, HB3.out⟩
      · have g3 : ¬ (48 : Int) < (n2 : Int) + (n3 : Int) := by omega
        obtain ⟨k1, k2⟩ := join_apply HE1.out.symm HE2.out.symm (by rw [HLA.out, HLR.out]; omega)
        rw [← HXX.out, ← HYY.out, ← HLX.out, ← HLY.out] at k1 k2
        have K1 := Lib.hid k1
        have K2 := Lib.hid k2
        clear k1 k2
        have hd : (n2 : Int) + (n3 : Int) ≤ 48 := by omega
        go_wp2_with (go_at_call 17; refine (num_any _ _).mono ?_; rintro e w' ⟨rfl, rfl⟩)
        refine (copyInts_any A2 n2 c2 a _ HA.out hn2).mono ?_
        rintro e w4 ⟨v4, rfl, hv4, hb4⟩
        have HV4 := Lib.hid hv4
        have H34 := Lib.hid hb4
        have hz4 := hb4.size
        clear hv4 hb4
        go_wp2_with (at_builtin
                     refine app_ints rfl (.tmp 51) (.tmp 52) rfl w3.heap.size _ a rfl HV4.out A3 n3 c3 _ b rfl HNIL.out (HR.out.on H34.out) (by rw [HLA.out]; omega) hz4 ?_
                     intro v5 w5 hown5 hb5
                     obtain ⟨C, cap5, rfl, hcap5, hi5⟩ : ∃ C cap, v5 = .slice C (n2 + n3) cap ∧ n2 + n3 ≤ cap ∧ IntsAt w5 w5.heap.size C (n2 + n3) (a ++ b) := by
                       have := hown5.intsAt
                       rw [List.length_append, HLA.out, HLR.out] at this
                       exact this
                     have HI := Lib.hid hi5
                     have H45 := Lib.hid hb5
                     clear hown5 hi5 hb5)
        have hb5 := H34.out.trans H45.out
        have HB5 := Lib.hid (HB3.out.trans (hb5.mono HB3.out.size))
        replace HS := Lib.hid (HS.out.on hb5)
        replace HB := Lib.hid (HB.out.on hb5)
        replace HX := Lib.hid (HX.out.on hb5)
        replace HY := Lib.hid (HY.out.on hb5)
        clear hb5 H34 H45 HV4
        refine (apply_any A0 A1 C n0 c0 n1 c1 (n2 + n3) cap5 ss bs (a ++ b) _ HS.out hn0 hnc HB.out hn1 HI.out (len_small (by omega))).mono ?_
        rintro e w6 ⟨v6, rfl, hv6, hb6⟩
        have HB6 := Lib.hid (HB5.out.trans (hb6.mono HB5.out.size))
        replace HX := Lib.hid (HX.out.on hb6)
        replace HY := Lib.hid (HY.out.on hb6)
        clear hb6
        by_cases z4 : 48 < L + M
        · obtain ⟨k1, k2⟩ := K2.out z4
          rw [k1]
          rw [k2] at hv6
          obtain ⟨A7, c7, rfl, _, _⟩ := hv6.intsAt
          have g4 : (48 : Int) < (L : Int) + (M : Int) := by omega
          clear hv6 k1 k2
          go_wp2_with (go_at_call 17; refine (num_any _ _).mono ?_; rintro e w' ⟨rfl, rfl⟩)
          go_ret
          exact ⟨rfl, HB6.out⟩
        · obtain ⟨k1, k2⟩ := K1.out (by omega)
          rw [k1]
          rw [k2] at hv6
          have g4 : ¬ (48 : Int) < (L : Int) + (M : Int) := by omega
          obtain ⟨A7, c7, rfl, _, hz⟩ := hv6.intsAt
          rw [List.length_append, ← HLX.out, ← HLY.out] at hz ⊢
          have HZ := Lib.hid hz
          clear hv6 k1 k2 hz
          have HXA := Lib.hid HX.out.at_.2
          go_wp2_with (go_at_call 17; refine (num_any _ _).mono ?_; rintro e w' ⟨rfl, rfl⟩)
          refine (copyInts_any A5 L c5 X _ HXA.out (by omega)).mono ?_
          rintro e w7 ⟨v7, rfl, hv7, hb7⟩
          have HV7 := Lib.hid hv7
          have H67 := Lib.hid hb7
          have hz7 := hb7.size
          have HY7 := Lib.hid (HY.out.on hb7)
          clear hv7 hb7
          go_wp2_with (at_builtin
                       refine app_ints_want (by rfl) (.tmp 77) (.tmp 78) rfl w6.heap.size _ X rfl HV7.out A6 M c6 _ Y rfl HY7.out.nil_of HY7.out.at_.2 (by rw [← HLX.out]; omega) hz7 ?_
                       intro v8 w8 hown8 hb8
                       obtain ⟨C8, cap8, rfl, hcap8, hi8⟩ : ∃ C cap, v8 = .slice C (L + M) cap ∧ L + M ≤ cap ∧ IntsAt w8 w8.heap.size C (L + M) (X ++ Y) := by
                         have := hown8.intsAt
                         rw [List.length_append, ← HLX.out, ← HLY.out] at this
                         exact this
                       have HI8 := Lib.hid hi8
                       have H78 := Lib.hid hb8
                       clear hown8 hi8 hb8)
          have hb8 := H67.out.trans H78.out
          have HB8 := Lib.hid (HB6.out.trans (hb8.mono HB6.out.size))
          replace HZ := Lib.hid (HZ.out.on hb8)
          clear hb8 H67 H78
          refine (sameInts_any A7 C8 (L + M) c7 (L + M) cap8 _ _ (X ++ Y) (X ++ Y) _ HZ.out HI8.out (len_small (by omega)) (len_small (by omega))).mono ?_
          rintro e w9 ⟨rfl, hb9⟩
          rw [sameI_self]
          go_wp2
          go_ret
          exact ⟨rfl, HB8.out.trans (hb9.mono HB8.out.size)⟩
    · have g2 : (E2 != 0) = true := by simpa using z2
      clear z2
      go_wp2_with (go_at_call 17; refine (num_any _ _).mono ?_; rintro e w' ⟨rfl, rfl⟩)
      go_ret
      exact ⟨rfl, HB3.out⟩
  · have g1 : (E1 != 0) = true := by simpa using z1
    clear z1
    go_wp2_with (go_at_call 17; refine (num_any _ _).mono ?_; rintro e w' ⟨rfl, rfl⟩)
    go_ret
    exact ⟨rfl, HB3.out⟩

end Go.Proofs.Ytjclcogjdodjpaa
