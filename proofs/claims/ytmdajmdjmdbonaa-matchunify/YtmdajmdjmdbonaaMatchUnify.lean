/-
  The walk of the law MatchUnify.
-/
import Derived.Test.YtmdajmdjmdbonaaAwakeM
import Derived.Test.YtmdajmdjmdbonaaGraphU
namespace Go.Proofs.Ytmdajmdjmdbonaa
open Go.RowKit
set_option linter.unusedSimpArgs false
set_option linter.unusedVariables false
set_option maxRecDepth 100000

theorem ap_mem {θ : Nat → List Int} {a : List Int} {v : Nat} (h : -1 - (v : Int) ∈ a) {x : Int} (hx : x ∈ θ v) : x ∈ ap θ a := by
  unfold ap
  exact List.mem_flatMap.2 ⟨_, h, by rw [ap1_var]; exact hx⟩
theorem ap_ground {θ : Nat → List Int} {b : List Int} (h : ∀ c ∈ b, 0 ≤ c) : ap θ b = b := ap_id fun c hc h0 => absurd (h c hc) (by omega)
theorem ground_uni {ss : List Sym} {a b : List Int} (ha : rowB ss a = true) (hb : rowB ss b = true) (hg : ∀ c ∈ b, 0 ≤ c) : UniR ss a b 0 (mtIs ss a b) (mtB ss a b) := by
  refine .inr ⟨by rw [ha, hb]; rfl, ?_⟩
  cases hm : mtO ss a b with
  | none =>
    refine .inl ⟨fun θ hθ e => ?_, rfl, by unfold mtIs; rw [hm]; rfl, by unfold mtB; rw [hm]⟩
    rw [ap_ground hg] at e
    obtain ⟨T, hT, _⟩ := mtO_there ha hb hθ e
    rw [hm] at hT
    cases hT
  | some T =>
    obtain ⟨_, _, _, hs, h48, he, hin, _⟩ := mtO_yes hm
    have hT : ∀ v, T v ≠ [] → ∀ c ∈ T v, 0 ≤ c := by
      intro v hv c hc
      have := ap_mem (θ := stT T) (hin v hv) (x := c) (by unfold stT; rw [if_neg hv]; exact hc)
      rw [he] at this
      exact hg c this
    refine .inr ⟨stT T, ⟨hs, by rw [ap_ground hg, he], fun θ hθ e v hv => ?_, fun v x hv e => ?_⟩, .inl ⟨h48, rfl, by unfold mtIs; rw [hm]; rfl, mtB_yes hm⟩⟩
    · rw [ap_ground hg] at e
      obtain ⟨T', hT', hall⟩ := mtO_there ha hb hθ e
      rw [hm] at hT'
      injection hT' with hT'
      subst hT'
      unfold stT
      by_cases q : T v = []
      · rw [if_pos q, ap_var]
      · rw [if_neg q, ap_ground (hT v q)]
        rcases hall v with k | k
        · exact absurd k q
        · exact k
    · unfold stT at e
      by_cases q : T v = []
      · rw [if_pos q] at e; injection e with e; omega
      · rw [if_neg q] at e
        have := hT v q (-1 - (x : Int)) (by rw [e]; simp)
        omega
theorem ground_told {ss : List Sym} {a b : List Int} {E : Int} {is : Bool} {bs : List Bd} (hg : ∀ c ∈ b, 0 ≤ c) (hu : UniR ss a b E is bs) : (mtE ss a b = 500 ∧ E = 400) ∨ (mtE ss a b = 0 ∧ E = 0 ∧ is = mtIs ss a b ∧ bs = mtB ss a b) := by
  cases h : rowB ss a && rowB ss b
  · refine .inl ⟨(mtE_bad h).1, ?_⟩
    exact (hu.unique (.inl ⟨h, rfl, rfl, rfl⟩)).1
  · obtain ⟨h1, h2⟩ := Bool.and_eq_true_iff.1 h
    obtain ⟨e1, e2, e3⟩ := hu.unique (ground_uni h1 h2 hg)
    exact .inr ⟨by unfold mtE; rw [h]; rfl, e1, e2, e3⟩

set_option maxHeartbeats 1000000 in
theorem matchUnify_walk (A0 A1 A2 : Option Addr) (n0 c0 n1 c1 n2 c2 : Nat) (ss : List Sym) (a b : List Int) (w : World) (hs : SymsAt w w.heap.size A0 n0 ss) (hn0 : n0 ≤ maxLen) (hnc : n0 ≤ c0) (ha : IntsAt w w.heap.size A1 n1 a) (hn1 : n1 ≤ maxLen) (hb : IntsAt w w.heap.size A2 n2 b) (hn2 : n2 ≤ maxLen) (hc2 : n2 ≤ c2) :
    Calls Try.prog 3 #[.slice A0 n0 c0, .slice A1 n1 c1, .slice A2 n2 c2] w fun e w' => e = .returned (.bool true) ∧ Below w.heap.size w w' := by
  have HS := Lib.hid hs
  have HA := Lib.hid ha
  have HBB := Lib.hid hb
  have HLB := Lib.hid hb.len
  have HB0 := Lib.hid (Below.refl w.heap.size w)
  have hn2' := hn2
  unfold maxLen at hn2'
  clear hs ha hb
  go_enter Try.func3, Try.ntmps3
  go_wp2_with fail
  refine (awakeM_any _).mono ?_
  rintro e w1 ⟨rfl, hb1⟩
  have HB1 := Lib.hid (HB0.out.trans (hb1.mono HB0.out.size))
  replace HS := Lib.hid (HS.out.on hb1)
  replace HA := Lib.hid (HA.out.on hb1)
  replace HBB := Lib.hid (HBB.out.on hb1)
  clear hb1
  go_wp2
  go_loop [7] (fun i => ∃ k : Nat, i = .int .i64 (k : Int) ∧ k ≤ n2 ∧ ∀ j, j < k → 0 ≤ intAt b j) (fun i => n2 - (intOf i).toNat)
  case atStart => exact ⟨0, rfl, by omega, fun j hj => absurd hj (by omega)⟩
  case round =>
    obtain ⟨k, rfl, hk, hno⟩ := hrel
    have HNO := Lib.hid hno
    clear hno
    by_cases hlt : k < n2
    · obtain ⟨b1, o1, rfl, _, hc1⟩ := HBB.out.at_ (by omega)
      have d0 : w1.cell? ⟨b1, o1 + k, none⟩ = some (.int .i64 (intAt b k)) := hc1 k hlt
      clear hc1
      by_cases hx : intAt b k < 0
      · go_wp2
        go_ret
        exact ⟨rfl, HB1.out⟩
      · have hx' : 0 ≤ intAt b k := by omega
        have HX := Lib.hid hx'
        clear hx'
        go_wp2
        go_round
        case rel => exact ⟨k + 1, by go_num, by omega, fun j hj => if e : j = k then by rw [e]; exact HX.out else HNO.out j (by omega)⟩
        case measure => simp [intOf]; omega
    · obtain rfl : k = n2 := by omega
      have HG : Hid (∀ c ∈ b, 0 ≤ c) := by
        intro c hc
        obtain ⟨i, hi, e⟩ := List.getElem_of_mem hc
        have := intAt_get hi
        rw [List.getElem?_eq_getElem hi] at this
        injection this with this
        rw [← e, this]
        exact HNO.out i (by rw [← HLB.out]; exact hi)
      go_wp2_with fail
      refine (match_any A0 A1 A2 n0 c0 n1 c1 k c2 ss a b _ HS.out hn0 hnc HA.out hn1 HBB.out hn2 hc2).mono ?_
      rintro e w2 ⟨v2, rfl, hv2, hb2⟩
      have HB2 := Lib.hid (HB1.out.trans (hb2.mono HB1.out.size))
      replace HS := Lib.hid (HS.out.on hb2)
      replace HA := Lib.hid (HA.out.on hb2)
      replace HBB := Lib.hid (HBB.out.on hb2)
      clear hb2
      have HV2 := Lib.hid hv2
      clear hv2
      obtain ⟨E2, hE2⟩ : ∃ E2, E2 = mtE ss a b := ⟨_, rfl⟩
      obtain ⟨i2, hi2⟩ : ∃ i2, i2 = mtIs ss a b := ⟨_, rfl⟩
      rw [← hE2, ← hi2]
      have HE2 := Lib.hid hE2
      have HI2 := Lib.hid hi2
      clear hE2 hi2
      go_wp2_with fail
      refine (unify_any A0 A1 A2 n0 c0 n1 c1 k c2 ss a b _ HS.out hn0 hnc HA.out hn1 HBB.out hn2).mono ?_
      rintro e w3 ⟨v3, E, is, bs, rfl, hv3, hb3, hu3⟩
      have HB3 := Lib.hid (HB2.out.trans (hb3.mono HB2.out.size))
      replace HV2 := Lib.hid (HV2.out.on hb3)
      clear hb3
      rcases ground_told HG.out hu3 with ⟨g1, g2⟩ | ⟨g1, g2, g3, g4⟩
      · rw [← HE2.out] at g1
        subst g1; subst g2
        clear hv3 hu3
        go_wp2_with (go_at_call 7; refine (num_any _ _).mono ?_; rintro e w' ⟨rfl, rfl⟩)
        go_ret
        exact ⟨rfl, HB3.out⟩
      · rw [← HE2.out] at g1
        rw [← HI2.out] at g3
        subst g1; subst g2; subst g3; subst g4
        obtain ⟨A4, c4, rfl, _, h4⟩ := HV2.out.bindsAt mtB_fit
        obtain ⟨A5, c5, rfl, _, h5⟩ := hv3.bindsAt mtB_fit
        have H4 := Lib.hid h4
        have H5 := Lib.hid h5
        have hL : (mtB ss a b).length ≤ 24 := mtB_few.1
        obtain ⟨L, hL'⟩ : ∃ L, L = (mtB ss a b).length := ⟨_, rfl⟩
        rw [← hL'] at H4 H5 hL ⊢
        clear h4 h5 hv3 hu3 hL' HV2
        cases is
        all_goals
          go_wp2_with (go_at_call 7; refine (num_any _ _).mono ?_; rintro e w' ⟨rfl, rfl⟩)
          refine (sameBinds_true A4 A5 L c4 c5 _ _ H4.out (by omega) H5.out).mono ?_
          rintro e w4 ⟨rfl, hb4⟩
          have HB4 := Lib.hid (HB3.out.trans (hb4.mono HB3.out.size))
          clear hb4
          go_wp2
          go_ret
          exact ⟨rfl, HB4.out⟩
end Go.Proofs.Ytmdajmdjmdbonaa
