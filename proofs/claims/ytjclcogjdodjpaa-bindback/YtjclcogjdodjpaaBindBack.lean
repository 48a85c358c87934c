/-
  The walk of the law BindBack.
-/
import Derived.Test.YtjclcogjdodjpaaAwake3
namespace Go.Proofs.Ytjclcogjdodjpaa
open Go.RowKit
set_option linter.unusedSimpArgs false
set_option linter.unusedVariables false

theorem far_iff {y c : Int} : farB y c = true ↔ c < 0 ∧ (y < 1 + c ∨ 24 + c < y) := by unfold farB; simp
theorem shOk_iff {y : Int} {r : List Int} : shOk y r = true ↔ ∀ c ∈ r, c < 0 → 1 + c ≤ y ∧ y ≤ 24 + c := by
  unfold shOk
  rw [List.all_eq_true]
  constructor
  · intro h c hc hn
    have := h c hc
    rw [Bool.not_eq_true'] at this
    have : ¬ (c < 0 ∧ (y < 1 + c ∨ 24 + c < y)) := fun q => by rw [far_iff.2 q] at this; cases this
    omega
  · intro h c hc
    rw [Bool.not_eq_true']
    cases hf : farB y c with
    | false => rfl
    | true =>
      obtain ⟨q1, q2⟩ := far_iff.1 hf
      have := h c hc q1
      omega
/-- A row whose variables are shifted has the same terms. -/
theorem tl_shift {ss : List Sym} {y : Int} : ∀ (r : List Int), shOk y r = true → tl ss (r.map (sh1 y)) = tl ss r ∨ tl ss r = none
  | [], _ => .inl rfl
  | c :: r, h => by
    have hr : shOk y r = true := shOk_iff.2 fun x hx => shOk_iff.1 h x (List.mem_cons_of_mem _ hx)
    rcases tl_shift (ss := ss) r hr with h1 | h1
    · by_cases hc : c < 0
      · have hc2 := shOk_iff.1 h c (List.mem_cons_self ..) hc
        by_cases h24 : -24 ≤ c
        · left
          have e : arOf ss (sh1 y c) = arOf ss c := by
            unfold sh1 arOf
            rw [if_pos hc, if_pos (by omega), if_pos (by omega), if_pos hc, if_pos h24]
          show tl ss (sh1 y c :: r.map (sh1 y)) = _
          unfold tl
          rw [h1, e]
        · right
          exact tl_cons_bad (by unfold arOf; rw [if_pos hc, if_neg h24])
      · left
        have e : sh1 y c = c := by unfold sh1; rw [if_neg hc]
        show tl ss (sh1 y c :: r.map (sh1 y)) = _
        rw [e]
        unfold tl
        rw [h1]
    · exact .inr (tl_cons_none h1)
theorem row_shift {ss : List Sym} {y : Int} {r : List Int} (h : rowB ss r = true) (hs : shOk y r = true) : rowB ss (r.map (sh1 y)) = true := by
  obtain ⟨h1, h2, h3⟩ := row_parts h
  rcases tl_shift (ss := ss) r hs with q | q
  · exact one_row h1 (by simpa using h2) (by rw [q]; exact h3)
  · rw [h3] at q; cases q
theorem shiftE_zero {ss : List Sym} {y : Int} {r : List Int} (h : shiftE ss r y = 0) : rowB ss r = true ∧ shOk y r = true ∧ shiftR ss r y = r.map (sh1 y) := by
  unfold shiftE at h
  cases h1 : rowB ss r
  · rw [h1] at h; simp at h
  · rw [h1] at h
    cases h2 : shOk y r
    · rw [h2] at h; simp at h
    · exact ⟨rfl, rfl, (shiftE_good h1 h2).2⟩
theorem sh_back {y : Int} {r : List Int} (h24 : ∀ c ∈ r, -24 ≤ c) (hs : shOk y r = true) : shOk (-y) (r.map (sh1 y)) = true ∧ (r.map (sh1 y)).map (sh1 (-y)) = r := by
  refine ⟨shOk_iff.2 fun c' hc' hn => ?_, ?_⟩
  · obtain ⟨c, hc, rfl⟩ := List.mem_map.1 hc'
    by_cases hc0 : c < 0
    · have := shOk_iff.1 hs c hc hc0
      have := h24 c hc
      have e : sh1 y c = c - y := by unfold sh1; rw [if_pos hc0]
      omega
    · have e : sh1 y c = c := by unfold sh1; rw [if_neg hc0]
      omega
  · rw [List.map_map]
    have : ∀ c ∈ r, (sh1 (-y) ∘ sh1 y) c = c := by
      intro c hc
      show sh1 (-y) (sh1 y c) = c
      by_cases hc0 : c < 0
      · have := shOk_iff.1 hs c hc hc0
        have e : sh1 y c = c - y := by unfold sh1; rw [if_pos hc0]
        rw [e]
        unfold sh1
        rw [if_pos (by omega)]
        omega
      · have e : sh1 y c = c := by unfold sh1; rw [if_neg hc0]
        rw [e]
        unfold sh1
        rw [if_neg hc0]
    rw [List.map_congr_left this]
    exact List.map_id' r
theorem sh_twice {y z : Int} {r : List Int} (hs : shOk y r = true) : shOk z (r.map (sh1 y)) = shOk (y + z) r ∧ (r.map (sh1 y)).map (sh1 z) = r.map (sh1 (y + z)) := by
  have key : ∀ c ∈ r, farB z (sh1 y c) = farB (y + z) c ∧ sh1 z (sh1 y c) = sh1 (y + z) c := by
    intro c hc
    by_cases hc0 : c < 0
    · have := shOk_iff.1 hs c hc hc0
      have e : sh1 y c = c - y := by unfold sh1; rw [if_pos hc0]
      rw [e]
      refine ⟨?_, ?_⟩
      · rw [Bool.eq_iff_iff, far_iff, far_iff]
        omega
      · unfold sh1
        rw [if_pos (by omega), if_pos hc0]
        omega
    · have e : sh1 y c = c := by unfold sh1; rw [if_neg hc0]
      rw [e]
      refine ⟨?_, ?_⟩
      · rw [Bool.eq_iff_iff, far_iff, far_iff]
        omega
      · unfold sh1
        rw [if_neg hc0, if_neg hc0]
  refine ⟨?_, ?_⟩
  · rw [Bool.eq_iff_iff]
    unfold shOk
    rw [List.all_eq_true, List.all_eq_true]
    constructor
    · intro h c hc
      rw [← (key c hc).1]
      exact h _ (List.mem_map.2 ⟨c, hc, rfl⟩)
    · intro h c' hc'
      obtain ⟨c, hc, rfl⟩ := List.mem_map.1 hc'
      rw [(key c hc).1]
      exact h c hc
  · rw [List.map_map]
    exact List.map_congr_left fun c hc => (key c hc).2
theorem shift_facts {ss : List Sym} {y : Int} {r : List Int} (h : shiftE ss r y = 0) (z : Int) :
    shiftE ss (shiftR ss r y) (-y) = 0 ∧ shiftR ss (shiftR ss r y) (-y) = r ∧ shiftE ss (shiftR ss r y) z = shiftE ss r (y + z) ∧ shiftR ss (shiftR ss r y) z = shiftR ss r (y + z) := by
  obtain ⟨h1, h2, h3⟩ := shiftE_zero h
  rw [h3]
  obtain ⟨_, _, hms⟩ := row_parts h1
  have hr := row_shift h1 h2
  obtain ⟨b1, b2⟩ := sh_back (row_codes hms) h2
  obtain ⟨q1, q2⟩ := shiftE_good hr b1
  obtain ⟨t1, t2⟩ := sh_twice (z := z) h2
  refine ⟨q1, by rw [q2, b2], ?_, ?_⟩
  · unfold shiftE; rw [hr, h1, t1]
  · unfold shiftR; rw [hr, h1, t1, t2]
theorem shiftR_short (ss : List Sym) (r : List Int) (y : Int) : (shiftR ss r y).length ≤ 48 := by
  unfold shiftR
  split
  · rename_i h
    simp only [Bool.and_eq_true] at h
    have := (row_parts h.1).2.1
    simpa using this
  · simp

set_option maxHeartbeats 4000000 in
theorem bindBack_walk (A0 A1 : Option Addr) (n0 c0 n1 c1 : Nat) (ss : List Sym) (r : List Int) (y z : Int) (w : World) (hs : SymsAt w w.heap.size A0 n0 ss) (hn0 : n0 ≤ maxLen) (hnc : n0 ≤ c0) (hr : IntsAt w w.heap.size A1 n1 r) (hn1 : n1 ≤ maxLen) :
    Calls Try.prog 7 #[.slice A0 n0 c0, .slice A1 n1 c1, .int .i64 y, .int .i64 z] w fun e w' => e = .returned (.bool true) ∧ Below w.heap.size w w' := by
  have HS := Lib.hid hs
  have HR := Lib.hid hr
  have HLR := Lib.hid hr.len
  have HB0 := Lib.hid (Below.refl w.heap.size w)
  clear hs hr
  go_enter Try.func7, Try.ntmps7
  go_wp2_with fail
  refine (awake_any _).mono ?_
  rintro e w1 ⟨rfl, hb1⟩
  have HB1 := Lib.hid (HB0.out.trans (hb1.mono HB0.out.size))
  replace HS := Lib.hid (HS.out.on hb1)
  replace HR := Lib.hid (HR.out.on hb1)
  clear hb1
  go_wp2_with fail
  refine (shift_any A0 A1 n0 c0 n1 c1 ss r y _ HS.out hn0 hnc HR.out hn1).mono ?_
  rintro e w2 ⟨v2, rfl, hv2, hb2⟩
  have HB2 := Lib.hid (HB1.out.trans (hb2.mono HB1.out.size))
  replace HS := Lib.hid (HS.out.on hb2)
  replace HR := Lib.hid (HR.out.on hb2)
  clear hb2
  obtain ⟨A5, c5, rfl, _, ha⟩ := hv2.intsAt
  have HA := Lib.hid ha
  obtain ⟨L, hL⟩ : ∃ M, M = (shiftR ss r y).length := ⟨_, rfl⟩
  have hL48 : L ≤ 48 := by rw [hL]; exact shiftR_short ss r y
  rw [← hL] at HA ⊢
  obtain ⟨E1, hE1⟩ : ∃ E, E = shiftE ss r y := ⟨_, rfl⟩
  rw [← hE1]
  have HE1 := Lib.hid hE1
  clear ha hv2 hE1 hL
  by_cases z1 : E1 = 0
  · subst z1
    by_cases y1 : y < -23
    · go_wp2_with (go_at_call 17; refine (num_any _ _).mono ?_; rintro e w' ⟨rfl, rfl⟩)
      go_ret
      exact ⟨rfl, HB2.out⟩
    · by_cases y2 : 23 < y
      · go_wp2_with (go_at_call 17; refine (num_any _ _).mono ?_; rintro e w' ⟨rfl, rfl⟩)
        go_ret
        exact ⟨rfl, HB2.out⟩
      · by_cases z2 : z < -23
        · go_wp2_with (go_at_call 17; refine (num_any _ _).mono ?_; rintro e w' ⟨rfl, rfl⟩)
          go_ret
          exact ⟨rfl, HB2.out⟩
        · by_cases z3 : 23 < z
          · go_wp2_with (go_at_call 17; refine (num_any _ _).mono ?_; rintro e w' ⟨rfl, rfl⟩)
            go_ret
            exact ⟨rfl, HB2.out⟩
          · obtain ⟨f1, f2, f3, f4⟩ := shift_facts HE1.out.symm z
            have F1 := Lib.hid f1
            have F2 := Lib.hid f2
            have F3 := Lib.hid f3
            have F4 := Lib.hid f4
            clear f1 f2 f3 f4
            have yb : -23 ≤ y ∧ y ≤ 23 := ⟨by omega, by omega⟩
            have zb : -23 ≤ z ∧ z ≤ 23 := ⟨by omega, by omega⟩
            obtain ⟨y3, y4⟩ := yb
            obtain ⟨z4, z5⟩ := zb
            go_wp2_with (go_at_call 17; refine (num_any _ _).mono ?_; rintro e w' ⟨rfl, rfl⟩)
            go_wp2_with fail
            refine (shift_any A0 A5 n0 c0 L c5 ss (shiftR ss r y) (-y) _ HS.out hn0 hnc HA.out (len_small (by omega))).mono ?_
            rintro e w3 ⟨v3, rfl, hv3, hb3⟩
            have HB3 := Lib.hid (HB2.out.trans (hb3.mono HB2.out.size))
            replace HS := Lib.hid (HS.out.on hb3)
            replace HR := Lib.hid (HR.out.on hb3)
            replace HA := Lib.hid (HA.out.on hb3)
            clear hb3
            rw [F1.out]
            rw [F2.out] at hv3
            obtain ⟨A6, c6, rfl, _, h3⟩ := hv3.intsAt
            have HI3 := Lib.hid h3
            clear hv3 h3
            rw [HLR.out] at HI3 ⊢
            go_wp2_with fail
            refine (shift_any A0 A5 n0 c0 L c5 ss (shiftR ss r y) z _ HS.out hn0 hnc HA.out (len_small (by omega))).mono ?_
            rintro e w4 ⟨v4, rfl, hv4, hb4⟩
            have HB4 := Lib.hid (HB3.out.trans (hb4.mono HB3.out.size))
            replace HS := Lib.hid (HS.out.on hb4)
            replace HR := Lib.hid (HR.out.on hb4)
            replace HA := Lib.hid (HA.out.on hb4)
            replace HI3 := Lib.hid (HI3.out.on hb4)
            clear hb4
            rw [F3.out]
            rw [F4.out] at hv4
            obtain ⟨E, hE⟩ : ∃ E, E = shiftE ss r (y + z) := ⟨_, rfl⟩
            rw [← hE]
            have HE := Lib.hid hE
            obtain ⟨R, hR⟩ : ∃ R, R = shiftR ss r (y + z) := ⟨_, rfl⟩
            rw [← hR] at hv4
            have HRR := Lib.hid hR
            obtain ⟨A7, c7, rfl, _, h4⟩ := hv4.intsAt
            have HI4 := Lib.hid h4
            obtain ⟨M, hM⟩ : ∃ M, M = R.length := ⟨_, rfl⟩
            have hM48 : M ≤ 48 := by rw [hM, hR]; exact shiftR_short ss r _
            rw [← hM] at HI4 ⊢
            have HMM := Lib.hid hM
            clear hE hR hv4 h4 hM
            go_wp2_with fail
            refine (shift_any A0 A1 n0 c0 n1 c1 ss r (y + z) _ HS.out hn0 hnc HR.out hn1).mono ?_
            rintro e w5 ⟨v5, rfl, hv5, hb5⟩
            have HB5 := Lib.hid (HB4.out.trans (hb5.mono HB4.out.size))
            replace HS := Lib.hid (HS.out.on hb5)
            replace HR := Lib.hid (HR.out.on hb5)
            replace HI3 := Lib.hid (HI3.out.on hb5)
            replace HI4 := Lib.hid (HI4.out.on hb5)
            clear hb5
            rw [← HE.out]
            rw [← HRR.out] at hv5
            obtain ⟨A8, c8, rfl, _, h5⟩ := hv5.intsAt
            have HI5 := Lib.hid h5
            clear hv5 h5
            rw [← HMM.out] at HI5 ⊢
            have gE : (E == E) = true := by simp
            go_wp2_with (go_at_call 17; refine (num_any _ _).mono ?_; rintro e w' ⟨rfl, rfl⟩)
            go_wp2_with fail
            refine (sameInts_any A6 A1 n1 c6 n1 c1 _ _ r r _ HI3.out HR.out hn1 hn1).mono ?_
            rintro e w6 ⟨rfl, hb6⟩
            have HB6 := Lib.hid (HB5.out.trans (hb6.mono HB5.out.size))
            replace HI4 := Lib.hid (HI4.out.on hb6)
            replace HI5 := Lib.hid (HI5.out.on hb6)
            clear hb6
            rw [sameI_self]
            go_wp2_with (go_at_call 17; refine (num_any _ _).mono ?_; rintro e w' ⟨rfl, rfl⟩)
            go_wp2_with fail
            refine (sameInts_any A7 A8 M c7 M c8 _ _ R R _ HI4.out HI5.out (len_small (by omega)) (len_small (by omega))).mono ?_
            rintro e w7 ⟨rfl, hb7⟩
            have HB7 := Lib.hid (HB6.out.trans (hb7.mono HB6.out.size))
            clear hb7
            rw [sameI_self]
            go_wp2
            go_ret
            exact ⟨rfl, HB7.out⟩
  · have g1 : (E1 != 0) = true := by simpa using z1
    clear z1
    go_wp2_with (go_at_call 17; refine (num_any _ _).mono ?_; rintro e w' ⟨rfl, rfl⟩)
    go_ret
    exact ⟨rfl, HB2.out⟩

end Go.Proofs.Ytjclcogjdodjpaa
