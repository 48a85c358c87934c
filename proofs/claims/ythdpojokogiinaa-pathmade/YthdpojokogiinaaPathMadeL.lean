/-
  The walk of the law PathMade.
-/
import Derived.Test.YthdpojokogiinaaAwakeR
import Derived.Test.YthdpojokogiinaaBaseBind
namespace Go.Proofs.Ythdpojokogiinaa
open Go.RowKit
set_option linter.unusedSimpArgs false
set_option linter.unusedVariables false
set_option maxRecDepth 100000

theorem atom_no_row {ss : List Sym} {t : List Int} (h : rowB ss t = true) : atomB ss t = false := by
  cases ha : atomB ss t
  · rfl
  · exfalso
    obtain ⟨c, r, rfl, h0, hl, hk, _⟩ := atom_parts ha
    obtain ⟨_, _, ht⟩ := row_parts h
    obtain ⟨qs, a, _, h2, _⟩ := tl_cons_inv ht
    exact (ar_sym (row_parts h).1 h0 h2).2.1 hk
theorem row_expr {ss : List Sym} {t : List Int} (h : rowB ss t = true) (hx : exprB ss t = true) : oneB ss t = true ∧ restP ss t = (-1, t) := by
  have := atom_no_row h
  refine ⟨?_, ?_⟩
  · unfold exprB at hx; rw [this, Bool.false_or] at hx; exact hx
  · unfold restP; rw [this]; rfl
theorem path_made {ss : List Sym} {us : List Bd} {t : List Int} (h : applyE ss us t = 0) (hx : exprB ss t = true) :
    (applyR ss us t).length ≤ 48 ∧ FindR ss [[], applyR ss us t] t 1 [1] 0 ∧ FindR ss [t, []] (applyR ss us t) 2 [0] 0 := by
  obtain ⟨a1, a2, a3, a4⟩ := ap_zero h
  have hus : bdsB ss 0 us = true := by unfold bindB at a1; simp only [Bool.and_eq_true] at a1; exact a1.2
  obtain ⟨ns, q1, _⟩ := tl_put hus t (row_parts a2).2.2
  have h3 : rowB ss (applyR ss us t) = true := by rw [a4]; exact one_row (row_parts a2).1 a3 q1
  have h4 : ap (fnB us) t = applyR ss us t := by rw [a4, put_fn]
  obtain ⟨hone, hrt⟩ := row_expr a2 hx
  have htr := trm_ap (fn_sub a1) (one_trm hone).2
  rw [h4] at htr
  obtain ⟨x, hxe⟩ : ∃ x, x = applyR ss us t := ⟨_, rfl⟩
  rw [← hxe] at h3 h4 htr ⊢
  obtain ⟨ms, m1, m2⟩ := tl_of_trm htr
  have hox : oneB ss x = true := one_of (row_parts h3).1 (row_parts h3).2.1 m1 m2
  have hex : exprB ss x = true := by unfold exprB; rw [hox, Bool.or_true]
  have hrx : restP ss x = (-1, x) := (row_expr h3 hex).2
  have hxn : x ≠ [] := by rintro rfl; exact absurd (one_parts hox).2.2.1 (by simp)
  have htn : t ≠ [] := by rintro rfl; exact absurd (one_parts hone).2.2.1 (by simp)
  have hmt : (mt ss x noT 0 t).isSome = true := by
    obtain ⟨T, hT, _⟩ := mtO_there a2 h3 (fn_sub a1) h4
    unfold mtO at hT
    rw [a2, h3] at hT
    rw [show (if (true && true) = true then mt ss x noT 0 t else none) = mt ss x noT 0 t from rfl] at hT
    rw [hT]; rfl
  have ok1 : findOk ss [[], x] t 1 = true := by
    unfold findOk; rw [hx]
    have : okRow ss x = true := by unfold okRow; rw [hex, Bool.or_true]
    simp only [List.all_cons, List.all_nil, this]; rfl
  have ok2 : findOk ss [t, []] x 2 = true := by
    unfold findOk; rw [hex]
    have : okRow ss t = true := by unfold okRow; rw [hx, Bool.or_true]
    simp only [List.all_cons, List.all_nil, this]; rfl
  refine ⟨(row_parts h3).2.1, .inr ⟨ok1, rfl, ?_⟩, .inr ⟨ok2, rfl, ?_⟩⟩
  · refine .yes (k := 1) (out := []) (.no (k := 0) .zero (fun h => h.1 rfl)) ⟨hxn, ?_, meets_one.2 ?_⟩
    · show (restP ss x).1 = (restP ss t).1
      rw [hrx, hrt]
    · show (mt ss (restP ss x).2 noT 0 (restP ss t).2).isSome = true
      rw [hrx, hrt]; exact hmt
  · refine .no (k := 1) (.yes (k := 0) (out := []) .zero ⟨htn, ?_, meets_two.2 ?_⟩) (fun h => h.1 rfl)
    · show (restP ss t).1 = (restP ss x).1
      rw [hrx, hrt]
    · show (mt ss (restP ss x).2 noT 0 (restP ss t).2).isSome = true
      rw [hrx, hrt]; exact hmt

theorem own_nilcap {w : World} {base n c : Nat} {A : Option Addr} {xs : List Int} (h : OwnI w base (.slice A n c) xs) : A = none → c = 0 := by
  rintro rfl
  rcases h.shape with ⟨q, _⟩ | ⟨g, cap, q, _⟩
  · injection q
  · injection q with q; cases q
theorem pathsE_zero {ss : List Sym} {t : List Int} (h : 0 = pathsE ss t) : exprB ss t = true := by
  unfold pathsE at h
  cases hx : exprB ss t
  · rw [hx] at h; simp at h
  · rfl
set_option maxHeartbeats 2000000 in
theorem pathMade_walk (A0 A1 A2 : Option Addr) (n0 c0 n1 c1 n2 c2 : Nat) (ss : List Sym) (us : List Bd) (t : List Int) (w : World) (hs : SymsAt w w.heap.size A0 n0 ss) (hn0 : n0 ≤ maxLen) (hnc : n0 ≤ c0) (hu : BindsAt w w.heap.size A1 n1 us) (hn1 : n1 ≤ 4398046511104) (ha : IntsAt w w.heap.size A2 n2 t) (hn2 : n2 * 8 ≤ 140737488351232) (hnc2 : n2 ≤ c2) (hz2 : A2 = none → c2 = 0) :
    Calls Try.prog 6 #[.slice A0 n0 c0, .slice A1 n1 c1, .slice A2 n2 c2] w fun e w' => e = .returned (.bool true) ∧ Below w.heap.size w w' := by
  have hm2 : n2 ≤ maxLen := by unfold maxLen; omega
  have HS := Lib.hid hs
  have HU := Lib.hid hu
  have HA := Lib.hid ha
  have HLA := Lib.hid ha.len
  have HB0 := Lib.hid (Below.refl w.heap.size w)
  clear hs ha hu
  go_enter Try.func6, Try.ntmps6
  go_wp2_with fail
  refine (awakeR_any _).mono ?_
  rintro e w1 ⟨rfl, hb1⟩
  have HB1 := Lib.hid (HB0.out.trans (hb1.mono HB0.out.size))
  replace HS := Lib.hid (HS.out.on hb1)
  replace HU := Lib.hid (HU.out.on hb1)
  replace HA := Lib.hid (HA.out.on hb1)
  clear hb1
  go_wp2_with fail
  refine (apply_any A0 A1 A2 n0 c0 n1 c1 n2 c2 ss us t _ HS.out hn0 hnc (HU.out) hn1 HA.out hm2).mono ?_
  rintro e w2 ⟨v2, rfl, hv2, hb2⟩
  have HB2 := Lib.hid (HB1.out.trans (hb2.mono HB1.out.size))
  replace HS := Lib.hid (HS.out.on hb2)
  replace HA := Lib.hid (HA.out.on hb2)
  clear hb2
  obtain ⟨A5, c5, rfl, hcap5, ht⟩ := hv2.intsAt
  have hz5 := own_nilcap hv2
  have HX := Lib.hid ht
  clear ht hv2
  obtain ⟨E1, hE1⟩ : ∃ E1, E1 = applyE ss us t := ⟨_, rfl⟩
  obtain ⟨X, hX⟩ : ∃ X, X = applyR ss us t := ⟨_, rfl⟩
  have hL1 : X.length ≤ 48 := by rw [hX]; exact applyR_len ss us t
  obtain ⟨L1, hL⟩ : ∃ L1, L1 = X.length := ⟨_, rfl⟩
  rw [← hE1, ← hX, ← hL]
  rw [← hX, ← hL] at HX hcap5
  rw [← hL] at hL1
  have HE1 := Lib.hid hE1
  have HXE := Lib.hid hX
  have HXL := Lib.hid hL
  clear hE1 hL hX
  go_wp2_with fail
  refine (paths_any A0 A2 n0 c0 n2 c2 ss t _ HS.out hn0 hnc HA.out hm2 hnc2).mono ?_
  rintro e w3 ⟨v3, rfl, hv3, hb3⟩
  have HB3 := Lib.hid (HB2.out.trans (hb3.mono HB2.out.size))
  replace HS := Lib.hid (HS.out.on hb3)
  replace HA := Lib.hid (HA.out.on hb3)
  replace HX := Lib.hid (HX.out.on hb3)
  clear hb3
  clear hv3
  obtain ⟨E2, hE2⟩ : ∃ E2, E2 = pathsE ss t := ⟨_, rfl⟩
  rw [← hE2]
  have HE2 := Lib.hid hE2
  clear hE2
  by_cases z1 : E1 = 0
  · by_cases z2 : E2 = 0
    · subst z1
      subst z2
      have hpm := path_made HE1.out.symm (pathsE_zero HE2.out)
      rw [← HXE.out] at hpm
      have HF1 := Lib.hid hpm.2.1
      have HF2 := Lib.hid hpm.2.2
      clear hpm
      have hb4 := below_new w3 (.cells #[.slice none 0 0, .slice A5 L1 c5] 23)
      have HT4 := Lib.hid (tups_new (w := w3) (us := [.slice none 0 0, .slice A5 L1 c5]) (ts := [[], X]) (n := 2) rfl rfl (fun i hi => by
        match i, hi with
        | 0, _ => exact ⟨none, 0, rfl, ⟨IntsAt.nil_, Nat.le_refl _, by show 0 * 8 ≤ _; omega⟩, fun _ => rfl⟩
        | 1, _ =>
          refine ⟨A5, c5, ?_, ?_, hz5⟩
          · show Value.slice A5 L1 c5 = Value.slice A5 X.length c5
            rw [← HXL.out]
          · show RowIn w3 w3.heap.size A5 X.length c5 X
            rw [← HXL.out]; exact ⟨HX.out, hcap5, by omega⟩))
      have HB4 := Lib.hid (HB3.out.trans (hb4.mono HB3.out.size))
      replace HS := Lib.hid (HS.out.on hb4)
      replace HA := Lib.hid (HA.out.on hb4)
      replace HX := Lib.hid (HX.out.on hb4)
      clear hb4
      go_wp2_with (go_at_call 13; refine (num_any _ _).mono ?_; rintro e w' ⟨rfl, rfl⟩)
      go_wp2_with (go_at_call 13; refine (num_any _ _).mono ?_; rintro e w' ⟨rfl, rfl⟩)
      refine (find_any A0 (some ⟨w3.heap.size, 0, none⟩) A2 n0 c0 2 2 n2 c2 1 ss [[], X] t _ HS.out hn0 hnc HT4.out (by omega) HA.out hm2 hnc2).mono ?_
      rintro e w5 hp5
      obtain ⟨v5, rfl, hv5, hb5⟩ := hp5.eqs HF1.out
      obtain ⟨A6, c6, rfl, hc6, hi6⟩ := hv5.intsAt
      have HI6 := Lib.hid hi6
      have HB5 := Lib.hid (HB4.out.trans (hb5.mono HB4.out.size))
      replace HS := Lib.hid (HS.out.on hb5)
      replace HA := Lib.hid (HA.out.on hb5)
      replace HX := Lib.hid (HX.out.on hb5)
      clear hp5 hv5 hb5 HT4 hi6
      have hb6 := below_new w5 (.cells #[.slice A2 n2 c2, .slice none 0 0] 23)
      have HT6 := Lib.hid (tups_new (w := w5) (us := [.slice A2 n2 c2, .slice none 0 0]) (ts := [t, []]) (n := 2) rfl rfl (fun i hi => by
        match i, hi with
        | 0, _ =>
          refine ⟨A2, c2, ?_, ?_, hz2⟩
          · show Value.slice A2 n2 c2 = Value.slice A2 t.length c2
            rw [HLA.out]
          · show RowIn w5 w5.heap.size A2 t.length c2 t
            rw [HLA.out]; exact ⟨HA.out, hnc2, hn2⟩
        | 1, _ => exact ⟨none, 0, rfl, ⟨IntsAt.nil_, Nat.le_refl _, by show 0 * 8 ≤ _; omega⟩, fun _ => rfl⟩))
      have HB6 := Lib.hid (HB5.out.trans (hb6.mono HB5.out.size))
      replace HS := Lib.hid (HS.out.on hb6)
      replace HX := Lib.hid (HX.out.on hb6)
      replace HI6 := Lib.hid (HI6.out.on hb6)
      clear hb6 HA
      go_wp2_with fail
      refine (find_any A0 (some ⟨w5.heap.size, 0, none⟩) A5 n0 c0 2 2 L1 c5 2 ss [t, []] X _ HS.out hn0 hnc HT6.out (by omega) HX.out (len_small (by omega)) hcap5).mono ?_
      rintro e w7 hp7
      obtain ⟨v7, rfl, hv7, hb7⟩ := hp7.eqs HF2.out
      obtain ⟨A8, c8, rfl, hc8, hi8⟩ := hv7.intsAt
      have HI8 := Lib.hid hi8
      have HB7 := Lib.hid (HB6.out.trans (hb7.mono HB6.out.size))
      replace HI6 := Lib.hid (HI6.out.on hb7)
      clear hp7 hv7 hb7 HT6 HS HX hi8
      go_wp2_with (go_at_call 13; refine (num_any _ _).mono ?_; rintro e w' ⟨rfl, rfl⟩)
      have hb8 := below_new w7 (.cells (intCells [1]).toArray 3)
      have HB8 := Lib.hid (HB7.out.trans (hb8.mono HB7.out.size))
      replace HI8 := Lib.hid (HI8.out.on hb8)
      refine (sameInts_any A6 (some ⟨w7.heap.size, 0, none⟩) 1 c6 1 1 _ _ [1] [1] _ (HI6.out.on hb8) (IntsAt.news w7 [1]) (len_small (by omega)) (len_small (by omega))).mono ?_
      rintro e w9 ⟨rfl, hb9⟩
      have HB9 := Lib.hid (HB8.out.trans (hb9.mono HB8.out.size))
      replace HI8 := Lib.hid (HI8.out.on hb9)
      clear hb8 hb9
      rw [sameI_self]
      go_wp2_with (go_at_call 13; refine (num_any _ _).mono ?_; rintro e w' ⟨rfl, rfl⟩)
      have hb10 := below_new w9 (.cells (intCells [0]).toArray 3)
      have HB10 := Lib.hid (HB9.out.trans (hb10.mono HB9.out.size))
      refine (sameInts_any A8 (some ⟨w9.heap.size, 0, none⟩) 1 c8 1 1 _ _ [0] [0] _ (HI8.out.on hb10) (IntsAt.news w9 [0]) (len_small (by omega)) (len_small (by omega))).mono ?_
      rintro e w11 ⟨rfl, hb11⟩
      have HB11 := Lib.hid (HB10.out.trans (hb11.mono HB10.out.size))
      clear hb10 hb11
      rw [sameI_self]
      go_wp2
      go_ret
      exact ⟨rfl, HB11.out⟩
    · have z2' : (E2 != 0) = true := by simp; exact z2
      subst z1
      go_wp2_with (go_at_call 13; refine (num_any _ _).mono ?_; rintro e w' ⟨rfl, rfl⟩)
      go_wp2_with (go_at_call 13; refine (num_any _ _).mono ?_; rintro e w' ⟨rfl, rfl⟩)
      go_ret
      exact ⟨rfl, HB3.out⟩
  · have z1' : (E1 != 0) = true := by simp; exact z1
    go_wp2_with (go_at_call 13; refine (num_any _ _).mono ?_; rintro e w' ⟨rfl, rfl⟩)
    go_ret
    exact ⟨rfl, HB3.out⟩
end Go.Proofs.Ythdpojokogiinaa
