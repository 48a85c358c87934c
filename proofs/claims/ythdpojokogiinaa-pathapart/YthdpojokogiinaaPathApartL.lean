/-
  The walk of the law PathApart.
-/
import Derived.Test.YthdpojokogiinaaPathWaysL
import Derived.Test.YthdpojokogiinaaPathAllL
namespace Go.Proofs.Ythdpojokogiinaa
open Go.RowKit
set_option linter.unusedSimpArgs false
set_option linter.unusedVariables false
set_option maxRecDepth 100000

section
variable {ss : List Sym} {a b t : List Int}
theorem xpr_wide {V V' : Nat} (h : xpr V ss t) (hV : V ≤ V') : xpr V' ss t := by
  obtain ⟨c, r, e, h1, h2⟩ := h
  exact ⟨c, r, e, by omega, trm_wide h2 hV⟩
theorem xpr_farR {V y : Nat} (h : xpr V ss t) : xpr (y + V) ss (farR y t) := by
  obtain ⟨c, r, rfl, h1, h2⟩ := h
  rw [farR_cons]
  by_cases hc : c < 0
  · rw [if_pos hc]
    refine ⟨_, _, rfl, by omega, ?_⟩
    rw [arc_neg (by omega)]
    rw [arc_neg hc] at h2
    exact trm_farR h2
  · rw [if_neg hc]
    exact ⟨_, _, rfl, by omega, trm_farR h2⟩
/-- Of two that can be made the same, no two codes that are symbols differ at one place. -/
theorem hit_apart (ha : exprB ss a = true) (hb : exprB ss b = true) (h : Hit ss b 0 a) {i j : Nat} (hi : i < a.length) (hj : j < b.length) (he : wyAt ss a i = wyAt ss b j) (h0 : 0 ≤ intAt a i) (h1 : 0 ≤ intAt b j) : intAt a i = intAt b j := by
  obtain ⟨_, hp, hm⟩ := h
  obtain ⟨θ, hθ, hu⟩ := meets_zero.1 hm
  have key : ap θ a = ap θ (farR 24 b) := by
    unfold restP at hp hu
    cases ea : atomB ss a
    · cases eb : atomB ss b
      · rw [ea, eb] at hu; exact hu
      · rw [ea, eb] at hp
        obtain ⟨c, r, rfl, hc, _⟩ := atom_parts eb
        have : intAt (c :: r) 0 = c := rfl
        simp at hp; omega
    · obtain ⟨c, r, rfl, hc, _⟩ := atom_parts ea
      cases eb : atomB ss b
      · rw [ea, eb] at hp
        have : intAt (c :: r) 0 = c := rfl
        simp at hp; omega
      · obtain ⟨d, s, rfl, hd, _⟩ := atom_parts eb
        rw [ea, eb] at hp hu
        have e1 : intAt (c :: r) 0 = c := rfl
        have e2 : intAt (d :: s) 0 = d := rfl
        simp only [if_true, e1, e2] at hp
        simp only [if_true, List.drop_succ_cons, List.drop_zero] at hu
        rw [farR_cons, if_neg (by omega), ap_sym hc, ap_sym hd, hp, hu]
  have m1 := wk_mem (ss := ss) hi
  have m2 := (wk_farR (y := 24) b [] _ _ h1).2 (wk_mem (ss := ss) hj)
  rw [he] at m1
  exact xpr_apart hθ (xpr_wide (expr_xpr ha) (by omega)) (xpr_farR (V := 24) (y := 24) (expr_xpr hb)) key h0 h1 m1 m2
end

set_option maxHeartbeats 8000000 in
theorem pathApart_walk (A0 A1 A2 : Option Addr) (n0 c0 n1 c1 n2 c2 : Nat) (ss : List Sym) (a b : List Int) (w : World) (hs : SymsAt w w.heap.size A0 n0 ss) (hn0 : n0 ≤ maxLen) (hnc : n0 ≤ c0) (ha : IntsAt w w.heap.size A1 n1 a) (hn1 : n1 * 8 ≤ 140737488351232) (hnc1 : n1 ≤ c1) (hz1 : A1 = none → c1 = 0)
    (hb : IntsAt w w.heap.size A2 n2 b) (hn2 : n2 ≤ maxLen) (hnc2 : n2 ≤ c2) :
    Calls Try.prog 8 #[.slice A0 n0 c0, .slice A1 n1 c1, .slice A2 n2 c2] w fun e w' => e = .returned (.bool true) ∧ Below w.heap.size w w' := by
  have hm1 : n1 ≤ maxLen := by unfold maxLen; omega
  have HS := Lib.hid hs
  have HA := Lib.hid ha
  have HB := Lib.hid hb
  have HLA := Lib.hid ha.len
  have HLB := Lib.hid hb.len
  have HB0 := Lib.hid (Below.refl w.heap.size w)
  clear hs ha hb
  go_enter Try.func8, Try.ntmps8
  go_wp2_with fail
  refine (awakeR_any _).mono ?_
  rintro e w1 ⟨rfl, hb1⟩
  have HB1 := Lib.hid (HB0.out.trans (hb1.mono HB0.out.size))
  replace HS := Lib.hid (HS.out.on hb1)
  replace HA := Lib.hid (HA.out.on hb1)
  replace HB := Lib.hid (HB.out.on hb1)
  clear hb1
  have hb2 := below_new w1 (.cells #[.slice A1 n1 c1] 23)
  have HT2 := Lib.hid (one_tup HA.out HLA.out hnc1 hn1 hz1)
  have HB2 := Lib.hid (HB1.out.trans (hb2.mono HB1.out.size))
  replace HS := Lib.hid (HS.out.on hb2)
  replace HA := Lib.hid (HA.out.on hb2)
  replace HB := Lib.hid (HB.out.on hb2)
  clear hb2
  cases hok : findOk ss [a] b 0
  · go_wp2_with fail
    refine (find_any A0 (some ⟨w1.heap.size, 0, none⟩) A2 n0 c0 1 1 n2 c2 0 ss [a] b _ HS.out hn0 hnc HT2.out (by omega) HB.out hn2 hnc2).mono ?_
    rintro e w3 hp3
    obtain ⟨B3, d3, rfl, hb3⟩ := hp3.wrong hok
    have HB3 := Lib.hid (HB2.out.trans (hb3.mono HB2.out.size))
    clear hp3 hb3 hok
    go_wp2_with (go_at_call 13; refine (num_any _ _).mono ?_; rintro e w' ⟨rfl, rfl⟩)
    go_ret
    exact ⟨rfl, HB3.out⟩
  have hxb : exprB ss b = true := by unfold findOk at hok; simp only [Bool.and_eq_true] at hok; exact hok.1.2
  have hra : okRow ss a = true := by unfold findOk at hok; simp only [Bool.and_eq_true, List.all_cons, List.all_nil, Bool.and_true] at hok; exact hok.2
  have HXB := Lib.hid hxb
  have HRA := Lib.hid hra
  clear hxb hra
  go_wp2_with fail
  refine (find_any A0 (some ⟨w1.heap.size, 0, none⟩) A2 n0 c0 1 1 n2 c2 0 ss [a] b _ HS.out hn0 hnc HT2.out (by omega) HB.out hn2 hnc2).mono ?_
  rintro e w3 hp3
  obtain ⟨Ak, Lk, ck, xk, rfl, hlk, _, _, hfk, hb3⟩ := hp3.right hok
  have HB3 := Lib.hid (HB2.out.trans (hb3.mono HB2.out.size))
  replace HS := Lib.hid (HS.out.on hb3)
  replace HA := Lib.hid (HA.out.on hb3)
  replace HB := Lib.hid (HB.out.on hb3)
  have hone : Lk = 0 ∨ (Lk = 1 ∧ Hit ss b 0 a) := by
    rcases (show Fnd _ 1 xk from hfk).one with ⟨e, hp⟩ | ⟨e, hp⟩
    · exact .inr ⟨by rw [hlk, e]; rfl, hp⟩
    · exact .inl (by rw [hlk, e]; rfl)
  clear hp3 hb3 hok hlk hfk HT2
  rcases hone with rfl | ⟨rfl, hhit⟩
  · by_cases hn : n1 = 0
    · subst hn
      go_wp2_with (go_at_call 13; refine (num_any _ _).mono ?_; rintro e w' ⟨rfl, rfl⟩)
      go_ret
      exact ⟨rfl, HB3.out⟩
    · have hn' : ((n1 : Int) == 0) = false := by simp; omega
      go_wp2_with (go_at_call 13; refine (num_any _ _).mono ?_; rintro e w' ⟨rfl, rfl⟩)
      go_ret
      exact ⟨rfl, HB3.out⟩
  have hxa : exprB ss a = true := by
    have := HRA.out
    unfold okRow at this
    have hne := hhit.1
    cases ha : a with
    | nil => exact absurd ha hne
    | cons _ _ => rw [ha] at this; simpa using this
  have HXA := Lib.hid hxa
  have HHIT := Lib.hid hhit
  have hn : ¬ n1 = 0 := by have := (expr_len hxa).1; rw [HLA.out] at this; omega
  have hn' : ((n1 : Int) == 0) = false := by simp; omega
  have hq1 : n1 ≤ 49 := by have := (expr_len hxa).2; rw [HLA.out] at this; exact this
  have hq2 : n2 ≤ 49 := by have := (expr_len HXB.out).2; rw [HLB.out] at this; exact this
  clear hxa hhit
  go_wp2_with (go_at_call 13; refine (num_any _ _).mono ?_; rintro e w' ⟨rfl, rfl⟩)
  refine (paths_any A0 A1 n0 c0 n1 c1 ss a _ HS.out hn0 hnc HA.out hm1 hnc1).mono ?_
  rintro e w4 hp4
  obtain ⟨B4, d4, rfl, ht4, hb4⟩ := hp4.yes HXA.out
  rw [HLA.out] at ht4 ⊢
  have HT4 := Lib.hid ht4
  have HB4 := Lib.hid (HB3.out.trans (hb4.mono HB3.out.size))
  replace HS := Lib.hid (HS.out.on hb4)
  replace HB := Lib.hid (HB.out.on hb4)
  clear hp4 hb4 ht4
  go_wp2_with fail
  refine (paths_any A0 A2 n0 c0 n2 c2 ss b _ HS.out hn0 hnc HB.out hn2 hnc2).mono ?_
  rintro e w5 hp5
  obtain ⟨B5, d5, rfl, ht5, hb5⟩ := hp5.yes HXB.out
  rw [HLB.out] at ht5 ⊢
  have HT5 := Lib.hid ht5
  have HB5 := Lib.hid (HB4.out.trans (hb5.mono HB4.out.size))
  have HBT := Lib.hid hb5
  clear hp5 hb5 ht5 HA HB HS
  go_wp2_with (go_at_call 13; refine (num_any _ _).mono ?_; rintro e w' ⟨rfl, rfl⟩)
  go_loopw [13] (fun i wr => ∃ k : Nat, i = .int .i64 (k : Int) ∧ k ≤ n1 ∧ Below w5.heap.size w5 wr) (fun i _ => n1 - (intOf i).toNat)
  case atStart => exact ⟨0, rfl, by omega, Below.refl _ _⟩
  case round =>
    obtain ⟨k, rfl, hk, hbw⟩ := hrel
    have HBW := Lib.hid hbw
    clear hbw
    by_cases hlt : k < n1
    · obtain ⟨wA, hwA⟩ : ∃ wA, wA = wr := ⟨_, rfl⟩
      subst hwA
      go_wp2
      go_loopw [14] (fun i wx => ∃ j : Nat, i = .int .i64 (j : Int) ∧ j ≤ n2 ∧ Below wA.heap.size wA wx) (fun i _ => n2 - (intOf i).toNat)
      case atStart => exact ⟨0, rfl, by omega, Below.refl _ _⟩
      case round =>
        obtain ⟨j, rfl, hj, hbx⟩ := hrel
        have HBX := Lib.hid hbx
        have HBY : Hid (Below w5.heap.size w5 wr) := HBW.out.trans (hbx.mono HBW.out.size)
        clear hbx
        by_cases hjk : j < n2
        · obtain ⟨b1, off1, br1, offr1, cr1, rfl, hb1, hd1, hbr1, hcr1, hq1', hd2, hi1⟩ := path_cells ((HT4.out.on HBT.out).on HBY.out) HXA.out (i := k) (by rw [HLA.out]; exact hlt)
          obtain ⟨b2, off2, br2, offr2, cr2, rfl, hb2, hd3, hbr2, hcr2, hq2', hd4, hi2⟩ := path_cells (HT5.out.on HBY.out) HXB.out (i := j) (by rw [HLB.out]; exact hjk)
          have HI1 := Lib.hid hi1
          have HI2 := Lib.hid hi2
          have HAP : Hid (wyAt ss a k = wyAt ss b j → 0 ≤ intAt a k → 0 ≤ intAt b j → intAt a k = intAt b j) := fun e h0 h1 => hit_apart HXA.out HXB.out HHIT.out (by rw [HLA.out]; exact hlt) (by rw [HLB.out]; exact hjk) e h0 h1
          obtain ⟨x, hx⟩ : ∃ x, x = max (intAt a k) (-1) := ⟨_, rfl⟩
          obtain ⟨y, hy⟩ : ∃ y, y = max (intAt b j) (-1) := ⟨_, rfl⟩
          rw [← hx] at hd2
          rw [← hy] at hd4
          have HXE := Lib.hid hx
          have HYE := Lib.hid hy
          have hxy : wyAt ss a k = wyAt ss b j → x ≠ y → x < 0 ∨ y < 0 := by
            intro e hne
            by_cases h0 : 0 ≤ intAt a k
            · by_cases h1 : 0 ≤ intAt b j
              · exact absurd (by rw [HXE.out, HYE.out, HAP.out e h0 h1]) hne
              · right; rw [HYE.out]; omega
            · left; rw [HXE.out]; omega
          have HXY := Lib.hid hxy
          obtain ⟨q1, hq1e⟩ : ∃ q1, q1 = (wyAt ss a k).length := ⟨_, rfl⟩
          obtain ⟨q2, hq2e⟩ : ∃ q2, q2 = (wyAt ss b j).length := ⟨_, rfl⟩
          rw [← hq1e] at hd1 hcr1 hq1' hd2 HI1
          rw [← hq2e] at hd3 hcr2 hq2' hd4 HI2
          have u0 : (0 : Int) ≤ (j : Int) := by omega
          have u1 : (j : Int) < (n2 : Int) := by omega
          have u2 : (0 : Int) ≤ (k : Int) := by omega
          have u3 : (k : Int) < (n1 : Int) := by omega
          have u4 : (0 : Int) ≤ (q1 : Int) := by omega
          have u5 : (q1 : Int) ≤ (cr1 : Int) := by omega
          have u6 : ((q1 + 1 : Nat) : Int) - 1 = (q1 : Int) := by omega
          have u7 : (0 : Int) ≤ (q2 : Int) := by omega
          have u8 : (q2 : Int) ≤ (cr2 : Int) := by omega
          have u9 : ((q2 + 1 : Nat) : Int) - 1 = (q2 : Int) := by omega
          have v1 : (q1 : Int) < (q1 : Int) + 1 := by omega
          have v2 : (q2 : Int) < (q2 : Int) + 1 := by omega
          clear hi1 hi2 hx hy hxy hq1e hq2e
          cases hsame : sameI (wyAt ss a k) (wyAt ss b j)
          · have HSAME := Lib.hid hsame
            clear hsame
            go_wp2_with fail
            go_quiet (fail)
            go_wp2_with fail
            obtain ⟨wB, hwB⟩ : ∃ wB, wB = wr.drewN nq := ⟨_, rfl⟩
            have HBB : Hid (Below wr.heap.size wr wB) := by rw [hwB]; exact below_drewN _ _
            have k1 : wB.cell? ⟨b1, off1 + k, none⟩ = some (.slice (some ⟨br1, offr1, none⟩) (q1 + 1) cr1) := by rw [hwB]; exact hd1
            have k2 : wB.cell? ⟨br1, offr1 + q1, none⟩ = some (.int .i64 x) := by rw [hwB]; exact hd2
            have k3 : wB.cell? ⟨b2, off2 + j, none⟩ = some (.slice (some ⟨br2, offr2, none⟩) (q2 + 1) cr2) := by rw [hwB]; exact hd3
            have k4 : wB.cell? ⟨br2, offr2 + q2, none⟩ = some (.int .i64 y) := by rw [hwB]; exact hd4
            replace HI1 := Lib.hid (HI1.out.on HBB.out)
            replace HI2 := Lib.hid (HI2.out.on HBB.out)
            rw [← hwB]
            clear hwB hd1 hd2 hd3 hd4
            go_quiet ((go_at_call 20; exact sameInts_still (some ⟨br1, offr1, none⟩) (some ⟨br2, offr2, none⟩) q1 cr1 q2 cr2 _ _ _ (wyAt ss a k) (wyAt ss b j) _ HI1.out HI2.out (len_small (by omega)) (len_small (by omega)) HSAME.out))
            go_wp2
            go_roundw
            case rel => exact ⟨j + 1, by go_num, by omega, HBX.out.trans ((HBB.out.trans (below_drewN _ _)).mono HBX.out.size)⟩
            case measure => simp [intOf]; omega
          · have HSAME := Lib.hid hsame
            have heq : wyAt ss a k = wyAt ss b j := by unfold sameI at hsame; exact of_decide_eq_true hsame
            have HXY2 := Lib.hid (HXY.out heq)
            clear hsame heq
            by_cases hne : x = y
            · subst hne
              have g0 : (x != x) = false := by simp
              go_wp2_with fail
              go_quiet (fail)
              go_wp2_with fail
              obtain ⟨wB, hwB⟩ : ∃ wB, wB = wr.drewN nq := ⟨_, rfl⟩
              have HBB : Hid (Below wr.heap.size wr wB) := by rw [hwB]; exact below_drewN _ _
              have k1 : wB.cell? ⟨b1, off1 + k, none⟩ = some (.slice (some ⟨br1, offr1, none⟩) (q1 + 1) cr1) := by rw [hwB]; exact hd1
              have k2 : wB.cell? ⟨br1, offr1 + q1, none⟩ = some (.int .i64 x) := by rw [hwB]; exact hd2
              have k3 : wB.cell? ⟨b2, off2 + j, none⟩ = some (.slice (some ⟨br2, offr2, none⟩) (q2 + 1) cr2) := by rw [hwB]; exact hd3
              have k4 : wB.cell? ⟨br2, offr2 + q2, none⟩ = some (.int .i64 x) := by rw [hwB]; exact hd4
              replace HI1 := Lib.hid (HI1.out.on HBB.out)
              replace HI2 := Lib.hid (HI2.out.on HBB.out)
              rw [← hwB]
              clear hwB hd1 hd2 hd3 hd4
              go_quiet ((go_at_call 20; exact sameInts_still (some ⟨br1, offr1, none⟩) (some ⟨br2, offr2, none⟩) q1 cr1 q2 cr2 _ _ _ (wyAt ss a k) (wyAt ss b j) _ HI1.out HI2.out (len_small (by omega)) (len_small (by omega)) HSAME.out))
              go_wp2
              go_roundw
              case rel => exact ⟨j + 1, by go_num, by omega, HBX.out.trans ((HBB.out.trans (below_drewN _ _)).mono HBX.out.size)⟩
              case measure => simp [intOf]; omega
            · have g0 : (x != y) = true := by simp; exact hne
              by_cases hx0 : x < 0
              · have g1 : decide (0 ≤ x) = false := by simp; omega
                have g2 : ¬ 0 ≤ x := by omega
                clear hne
                go_wp2_with fail
                go_quiet (fail)
                go_wp2_with fail
                obtain ⟨wB, hwB⟩ : ∃ wB, wB = wr.drewN nq := ⟨_, rfl⟩
                have HBB : Hid (Below wr.heap.size wr wB) := by rw [hwB]; exact below_drewN _ _
                have k1 : wB.cell? ⟨b1, off1 + k, none⟩ = some (.slice (some ⟨br1, offr1, none⟩) (q1 + 1) cr1) := by rw [hwB]; exact hd1
                have k2 : wB.cell? ⟨br1, offr1 + q1, none⟩ = some (.int .i64 x) := by rw [hwB]; exact hd2
                have k3 : wB.cell? ⟨b2, off2 + j, none⟩ = some (.slice (some ⟨br2, offr2, none⟩) (q2 + 1) cr2) := by rw [hwB]; exact hd3
                have k4 : wB.cell? ⟨br2, offr2 + q2, none⟩ = some (.int .i64 y) := by rw [hwB]; exact hd4
                replace HI1 := Lib.hid (HI1.out.on HBB.out)
                replace HI2 := Lib.hid (HI2.out.on HBB.out)
                rw [← hwB]
                clear hwB hd1 hd2 hd3 hd4
                go_quiet ((go_at_call 20; exact sameInts_still (some ⟨br1, offr1, none⟩) (some ⟨br2, offr2, none⟩) q1 cr1 q2 cr2 _ _ _ (wyAt ss a k) (wyAt ss b j) _ HI1.out HI2.out (len_small (by omega)) (len_small (by omega)) HSAME.out))
                go_wp2
                go_roundw
                case rel => exact ⟨j + 1, by go_num, by omega, HBX.out.trans ((HBB.out.trans (below_drewN _ _)).mono HBX.out.size)⟩
                case measure => simp [intOf]; omega
              · have hy0 : y < 0 := by rcases HXY2.out hne with h | h <;> omega
                have g1 : decide (0 ≤ y) = false := by simp; omega
                have g2 : ¬ 0 ≤ y := by omega
                have g3 : decide (0 ≤ x) = true := by simp; omega
                have g4 : 0 ≤ x := by omega
                clear hne
                go_wp2_with fail
                go_quiet (fail)
                go_wp2_with fail
                obtain ⟨wB, hwB⟩ : ∃ wB, wB = wr.drewN nq := ⟨_, rfl⟩
                have HBB : Hid (Below wr.heap.size wr wB) := by rw [hwB]; exact below_drewN _ _
                have k1 : wB.cell? ⟨b1, off1 + k, none⟩ = some (.slice (some ⟨br1, offr1, none⟩) (q1 + 1) cr1) := by rw [hwB]; exact hd1
                have k2 : wB.cell? ⟨br1, offr1 + q1, none⟩ = some (.int .i64 x) := by rw [hwB]; exact hd2
                have k3 : wB.cell? ⟨b2, off2 + j, none⟩ = some (.slice (some ⟨br2, offr2, none⟩) (q2 + 1) cr2) := by rw [hwB]; exact hd3
                have k4 : wB.cell? ⟨br2, offr2 + q2, none⟩ = some (.int .i64 y) := by rw [hwB]; exact hd4
                replace HI1 := Lib.hid (HI1.out.on HBB.out)
                replace HI2 := Lib.hid (HI2.out.on HBB.out)
                rw [← hwB]
                clear hwB hd1 hd2 hd3 hd4
                go_quiet ((go_at_call 20; exact sameInts_still (some ⟨br1, offr1, none⟩) (some ⟨br2, offr2, none⟩) q1 cr1 q2 cr2 _ _ _ (wyAt ss a k) (wyAt ss b j) _ HI1.out HI2.out (len_small (by omega)) (len_small (by omega)) HSAME.out))
                go_wp2
                go_roundw
                case rel => exact ⟨j + 1, by go_num, by omega, HBX.out.trans ((HBB.out.trans (below_drewN _ _)).mono HBX.out.size)⟩
                case measure => simp [intOf]; omega
        · go_wp2
          go_roundw
          case rel => exact ⟨k + 1, by go_num, by omega, HBY.out⟩
          case measure => simp [intOf]; omega
    · go_wp2
      go_ret
      exact ⟨rfl, HB5.out.trans (HBW.out.mono HB5.out.size)⟩
end Go.Proofs.Ythdpojokogiinaa
