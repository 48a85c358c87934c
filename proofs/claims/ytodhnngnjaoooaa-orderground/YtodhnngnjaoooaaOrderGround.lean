/-
  The walk of the law OrderGround.
-/
import Derived.Test.YtodhnngnjaoooaaAwakeO
namespace Go.Proofs.Ytodhnngnjaoooaa
open Go.RowKit
set_option linter.unusedSimpArgs false
set_option linter.unusedVariables false
set_option maxRecDepth 100000

theorem all_ground {a : List Int} {n : Nat} (hl : a.length = n) (h : ∀ i, i < n → 0 ≤ intAt a i) : ∀ c ∈ a, 0 ≤ c := by
  intro c hc
  obtain ⟨i, hi⟩ := List.mem_iff_getElem?.1 hc
  have hlt : i < a.length := (List.getElem?_eq_some_iff.1 hi).1
  have h1 := intAt_get hlt
  rw [hi] at h1
  injection h1 with h1
  rw [h1]
  exact h i (by omega)

set_option maxHeartbeats 1000000 in
theorem orderGround_walk (A0 A1 A2 : Option Addr) (n0 c0 n1 c1 n2 c2 : Nat) (ss : List Sym) (a b : List Int) (w : World) (hs : SymsAt w w.heap.size A0 n0 ss) (hn0 : n0 ≤ maxLen) (hnc : n0 ≤ c0) (ha : IntsAt w w.heap.size A1 n1 a) (hn1 : n1 ≤ maxLen) (hc1 : n1 ≤ c1) (hb : IntsAt w w.heap.size A2 n2 b) (hn2 : n2 ≤ maxLen) (hc2 : n2 ≤ c2) :
    Calls Try.prog 7 #[.slice A0 n0 c0, .slice A1 n1 c1, .slice A2 n2 c2] w fun e w' => e = .returned (.bool true) ∧ Below w.heap.size w w' := by
  have HS := Lib.hid hs
  have HA := Lib.hid ha
  have HB := Lib.hid hb
  have HLA := Lib.hid ha.len
  have HLB := Lib.hid hb.len
  have HB0 := Lib.hid (Below.refl w.heap.size w)
  have hm1 := hn1
  have hm2 := hn2
  unfold maxLen at hm1 hm2
  clear hs ha hb
  go_enter Try.func7, Try.ntmps7
  go_wp2_with fail
  refine (awakeO_any _).mono ?_
  rintro e w1 ⟨rfl, hb1⟩
  have HB1 := Lib.hid (HB0.out.trans (hb1.mono HB0.out.size))
  replace HS := Lib.hid (HS.out.on hb1)
  replace HA := Lib.hid (HA.out.on hb1)
  replace HB := Lib.hid (HB.out.on hb1)
  clear hb1
  go_wp2_with fail
  go_loop [7] (fun i => ∃ k : Nat, i = .int .i64 k ∧ k ≤ n1 ∧ ∀ j, j < k → 0 ≤ intAt a j) (fun i => n1 - (intOf i).toNat)
  case atStart => exact ⟨0, rfl, by omega, fun j hj => absurd hj (by omega)⟩
  case round =>
    obtain ⟨k, rfl, hk, hall⟩ := hrel
    have HALL := Lib.hid hall
    clear hall
    by_cases hlt : k < n1
    · obtain ⟨b', off', rfl, _, hc'⟩ := HA.out.at_ (by omega)
      have hcx : w1.cell? ⟨b', off' + k, none⟩ = some (.int .i64 (intAt a k)) := hc' k hlt
      clear hc'
      by_cases hx : intAt a k < 0
      · go_wp2
        go_ret
        exact ⟨rfl, HB1.out⟩
      · have HX : Hid (0 ≤ intAt a k) := by show 0 ≤ intAt a k; omega
        go_wp2
        go_round
        case rel => exact ⟨k + 1, by go_num, by omega, fun j hj => if e : j = k then e ▸ HX.out else HALL.out j (by omega)⟩
        case measure => simp [intOf]; omega
    · obtain rfl : k = n1 := by omega
      have GA := Lib.hid (all_ground HLA.out HALL.out)
      clear HALL hlt hk
      go_wp2_with fail
      go_loop [8] (fun i => ∃ j : Nat, i = .int .i64 j ∧ j ≤ n2 ∧ ∀ q, q < j → 0 ≤ intAt b q) (fun i => n2 - (intOf i).toNat)
      case atStart => exact ⟨0, rfl, by omega, fun j hj => absurd hj (by omega)⟩
      case round =>
        obtain ⟨j, rfl, hj, hall⟩ := hrel
        have HALL := Lib.hid hall
        clear hall
        by_cases hlt : j < n2
        · obtain ⟨b', off', rfl, _, hc'⟩ := HB.out.at_ (by omega)
          have hcx : w1.cell? ⟨b', off' + j, none⟩ = some (.int .i64 (intAt b j)) := hc' j hlt
          clear hc'
          by_cases hx : intAt b j < 0
          · go_wp2
            go_ret
            exact ⟨rfl, HB1.out⟩
          · have HX : Hid (0 ≤ intAt b j) := by show 0 ≤ intAt b j; omega
            go_wp2
            go_round
            case rel => exact ⟨j + 1, by go_num, by omega, fun q hq => if e : q = j then e ▸ HX.out else HALL.out q (by omega)⟩
            case measure => simp [intOf]; omega
        · obtain rfl : j = n2 := by omega
          have GB := Lib.hid (all_ground HLB.out HALL.out)
          clear HALL hlt hj
          go_wp2_with fail
          refine (compareO_any A0 A1 A2 n0 c0 k c1 j c2 ss a b _ HS.out hn0 hnc HA.out hn1 hc1 HB.out hn2 hc2).mono ?_
          rintro e w2 ⟨q, E, rfl, hr, hb2⟩
          have HB2 := Lib.hid (HB1.out.trans (hb2.mono HB1.out.size))
          replace HS := Lib.hid (HS.out.on hb2)
          replace HA := Lib.hid (HA.out.on hb2)
          replace HB := Lib.hid (HB.out.on hb2)
          clear hb2
          by_cases z1 : E = 0
          · subst z1
            have hg := hr.ground GA.out GB.out
            clear hr
            rcases hg with ⟨he, rfl⟩ | ⟨he, hq⟩
            · have HE : Hid (sameI a b = true) := by show sameI a b = true; rw [he]; exact sameI_self _
              clear he
              go_wp2_with (go_at_call 12; refine (num_any _ _).mono ?_; rintro e w' ⟨rfl, rfl⟩)
              go_wp2_with fail
              refine (sameInts_any A1 A2 _ c1 _ c2 _ _ a b _ HA.out HB.out hn1 hn2).mono ?_
              rintro e w3 ⟨rfl, hb3⟩
              have HB3 := Lib.hid (HB2.out.trans (hb3.mono HB2.out.size))
              replace HS := Lib.hid (HS.out.on hb3)
              clear hb3
              rw [HE.out]
              go_wp2
              go_ret
              exact ⟨rfl, HB3.out⟩
            · have HE : Hid (sameI a b = false) := by
                show sameI a b = false
                unfold sameI
                exact decide_eq_false he
              clear he
              rcases hq with rfl | rfl
              · go_wp2_with (go_at_call 12; refine (num_any _ _).mono ?_; rintro e w' ⟨rfl, rfl⟩)
                go_wp2_with fail
                refine (sameInts_any A1 A2 _ c1 _ c2 _ _ a b _ HA.out HB.out hn1 hn2).mono ?_
                rintro e w3 ⟨rfl, hb3⟩
                have HB3 := Lib.hid (HB2.out.trans (hb3.mono HB2.out.size))
                replace HS := Lib.hid (HS.out.on hb3)
                clear hb3
                rw [HE.out]
                go_wp2
                go_ret
                exact ⟨rfl, HB3.out⟩
              · go_wp2_with (go_at_call 12; refine (num_any _ _).mono ?_; rintro e w' ⟨rfl, rfl⟩)
                go_wp2_with fail
                refine (sameInts_any A1 A2 _ c1 _ c2 _ _ a b _ HA.out HB.out hn1 hn2).mono ?_
                rintro e w3 ⟨rfl, hb3⟩
                have HB3 := Lib.hid (HB2.out.trans (hb3.mono HB2.out.size))
                replace HS := Lib.hid (HS.out.on hb3)
                clear hb3
                rw [HE.out]
                go_wp2
                go_ret
                exact ⟨rfl, HB3.out⟩
          · have hq : q = 0 ∧ E = 600 := by
              rcases hr with ⟨_, h1, h2⟩ | ⟨_, h1, _⟩
              · exact ⟨h2, h1⟩
              · exact absurd h1 z1
            obtain ⟨rfl, rfl⟩ := hq
            clear z1 hr
            go_wp2_with (go_at_call 12; refine (num_any _ _).mono ?_; rintro e w' ⟨rfl, rfl⟩)
            go_ret
            exact ⟨rfl, HB2.out⟩
end Go.Proofs.Ytodhnngnjaoooaa
