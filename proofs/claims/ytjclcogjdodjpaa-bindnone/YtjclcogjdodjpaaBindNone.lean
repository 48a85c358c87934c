/-
  The walk of the law BindNone.
-/
import Derived.Test.YtjclcogjdodjpaaAwake3
import Derived.Test.YtjclcogjdodjpaaBindBoth
namespace Go.Proofs.Ytjclcogjdodjpaa
open Go.RowKit
set_option linter.unusedSimpArgs false
set_option linter.unusedVariables false

theorem applyE_not {ss : List Sym} {bs : List Bd} {r : List Int} (h : applyE ss bs r ≠ 0) : applyR ss bs r = [] := by
  unfold applyR
  rw [if_neg]
  intro hc
  simp only [Bool.and_eq_true, decide_eq_true_eq] at hc
  exact h (applyE_good hc.1.1 hc.1.2 hc.2).1
def hasC (x : Int) (r : List Int) : Bool := r.any fun c => decide (c = -1 - x)
theorem hasC_step {x : Int} {r : List Int} {k : Nat} (hk : k < r.length) : hasC x (r.take (k + 1)) = (hasC x (r.take k) || decide (intAt r k = -1 - x)) := by
  have e : r.take (k + 1) = r.take k ++ [intAt r k] := by rw [List.take_add_one, intAt_get hk]; rfl
  unfold hasC
  rw [e, List.any_append]
  simp
/-- One variable gets another number. -/
def ren1 (x : Int) (y : Int) (c : Int) : Int := if c = -1 - x then -1 - y else c
theorem put_ren {x y : Int} (hx : 0 ≤ x) (r : List Int) : put [⟨x, [-1 - y]⟩] r = r.map (ren1 x y) := by
  induction r with
  | nil => rfl
  | cons c r ih =>
    rw [put_cons, ih]
    show _ = [ren1 x y c] ++ r.map (ren1 x y)
    congr 1
    unfold ren1
    by_cases hc : c = -1 - x
    · rw [if_pos hc]
      refine put1_var (by omega) ?_
      rw [ofB_cons, if_pos (by show x = -1 - c; omega)]
    · rw [if_neg hc]
      by_cases h0 : c < 0
      · refine put1_free ?_
        rw [ofB_cons, if_neg (by show ¬ x = -1 - c; omega)]
        rfl
      · exact put1_sym h0
theorem same_ren {x y : Int} (hxy : x ≠ y) (r : List Int) : sameI (r.map (ren1 x y)) r = !hasC x r := by
  induction r with
  | nil => rfl
  | cons c r ih =>
    have e1 : sameI ((c :: r).map (ren1 x y)) (c :: r) = (decide (ren1 x y c = c) && sameI (r.map (ren1 x y)) r) := by
      unfold sameI; simp
    have e2 : hasC x (c :: r) = (decide (c = -1 - x) || hasC x r) := by unfold hasC; simp
    rw [e1, e2, ih]
    unfold ren1
    by_cases hc : c = -1 - x
    · have : ¬ (-1 - y = c) := by omega
      simp [hc]; omega
    · simp [hc]
theorem none_facts {ss : List Sym} {r : List Int} (h : applyE ss [] r = 0) {x y : Nat} (hx : x < 24) (hy : y < 24) (hxy : x ≠ y) :
    applyR ss [] r = r ∧ applyE ss [⟨x, [-1 - (y : Int)]⟩] r = 0 ∧ applyR ss [⟨x, [-1 - (y : Int)]⟩] r = r.map (ren1 x y) := by
  obtain ⟨h1, h2, h3, h4⟩ := applyE_zero h
  obtain ⟨m1, m2, m3⟩ := row_parts h2
  have hb : bindB ss [⟨x, [-1 - (y : Int)]⟩] = true := by
    rw [bindB_yes m1, bdsB_cons]
    have : bdB ss 0 ⟨x, [-1 - (y : Int)]⟩ = true := bdB_iff.2 ⟨by show (0 : Int) ≤ (x : Int); omega, by show (x : Int) ≤ 23; omega, one_of m1 (by simp) (tl_var (by omega) (by omega)) rfl, by
      show [-1 - (y : Int)] ≠ [-1 - (x : Int)]
      simp; omega⟩
    rw [this]; rfl
  have hp := put_ren (x := x) (y := y) (by omega) r
  obtain ⟨q1, q2⟩ := applyE_good hb h2 (by rw [hp]; simpa using m2)
  exact ⟨by rw [h4, put_none], q1, by rw [q2, hp]⟩
theorem u_mod (k : Int) (n : Nat) (hn : 0 < n) : ∃ z : Nat, z < n ∧ (IntKind.u64.wrap k).tmod n = (z : Int) := by
  have h1 : 0 ≤ IntKind.u64.wrap k := by
    have : IntKind.u64.wrap k = k % 18446744073709551616 := by rfl
    rw [this]; omega
  have h2 : 0 ≤ (IntKind.u64.wrap k).tmod n := Int.tmod_nonneg _ h1
  have h3 : (IntKind.u64.wrap k).tmod n < n := Int.tmod_lt_of_pos _ (by omega)
  exact ⟨((IntKind.u64.wrap k).tmod n).toNat, by omega, by omega⟩
theorem next_var {x : Nat} (hx : x < 24) : ∃ y : Nat, y < 24 ∧ x ≠ y ∧ wrap64 (x : Int) = (x : Int) ∧ wrap64 ((x : Int) + 1) = (x : Int) + 1 ∧ ((x : Int) + 1).tmod 24 = (y : Int) := by
  refine ⟨(x + 1) % 24, by omega, by omega, IntWalk.wrap64_in _ ⟨by omega, by omega⟩, IntWalk.wrap64_in _ ⟨by omega, by omega⟩, ?_⟩
  rw [Int.tmod_eq_emod_of_nonneg (by omega)]; omega

set_option maxHeartbeats 4000000 in
theorem bindNone_walk (A0 A1 : Option Addr) (n0 c0 n1 c1 : Nat) (ss : List Sym) (r : List Int) (v : Int) (w : World) (hs : SymsAt w w.heap.size A0 n0 ss) (hn0 : n0 ≤ maxLen) (hnc : n0 ≤ c0) (hr : IntsAt w w.heap.size A1 n1 r) (hn1 : n1 ≤ maxLen) :
    Calls Try.prog 8 #[.slice A0 n0 c0, .slice A1 n1 c1, .int .i64 v] w fun e w' => e = .returned (.bool true) ∧ Below w.heap.size w w' := by
  have HS := Lib.hid hs
  have HR := Lib.hid hr
  have HLR := Lib.hid hr.len
  have HB0 := Lib.hid (Below.refl w.heap.size w)
  clear hs hr
  go_enter Try.func8, Try.ntmps8
  go_wp2_with fail
  refine (awake_any _).mono ?_
  rintro e w1 ⟨rfl, hb1⟩
  have HB1 := Lib.hid (HB0.out.trans (hb1.mono HB0.out.size))
  replace HS := Lib.hid (HS.out.on hb1)
  replace HR := Lib.hid (HR.out.on hb1)
  clear hb1
  go_wp2_with fail
  refine (apply_any A0 none A1 n0 c0 0 0 n1 c1 ss [] r _ HS.out hn0 hnc BindsAt.nil_ (by omega) HR.out hn1).mono ?_
  rintro e w2 ⟨v2, rfl, hv2, hb2⟩
  have HB2 := Lib.hid (HB1.out.trans (hb2.mono HB1.out.size))
  replace HS := Lib.hid (HS.out.on hb2)
  replace HR := Lib.hid (HR.out.on hb2)
  clear hb2
  obtain ⟨E, hE⟩ : ∃ E, E = applyE ss [] r := ⟨_, rfl⟩
  rw [← hE]
  by_cases hE0 : E = 0
  · subst hE0
    obtain ⟨x, hx, hxe⟩ := u_mod v 24 (by omega)
    obtain ⟨y, hy24, hne, hw1, hw2, hyt⟩ := next_var hx
    have HW := Lib.hid (And.intro hxe (And.intro hw1 (And.intro hw2 hyt)))
    clear hxe hw1 hw2 hyt
    obtain ⟨f1, f2, f3⟩ := none_facts hE.symm hx hy24 hne
    rw [f1] at hv2
    obtain ⟨A5, c5, rfl, _, ha⟩ := hv2.intsAt
    rw [HLR.out] at ha ⊢
    have HA := Lib.hid ha
    have F2 := Lib.hid f2
    have F3 := Lib.hid f3
    have hn48 : n1 ≤ 48 := by have := (row_parts (applyE_zero hE.symm).2.1).2.1; rw [HLR.out] at this; exact this
    have hxy : Hid ((x : Int) ≠ (y : Int)) := fun e => hne (by omega)
    clear hE ha hv2 f1 f2 f3 hne
    go_wp2_with (go_at_call 17; refine (num_any _ _).mono ?_; rintro e w' ⟨rfl, rfl⟩)
    have hxe : (IntKind.u64.wrap v).tmod 24 = (x : Int) := HW.out.1
    simp only [hxe, HW.out.2.1, HW.out.2.2.1, HW.out.2.2.2]
    clear hxe HW
    have hx0 : (0 : Int) ≤ (x : Int) := by omega
    have hx23 : (x : Int) ≤ 23 := by omega
    have hy0 : (0 : Int) ≤ (y : Int) := by omega
    have hy23 : (y : Int) ≤ 23 := by omega
    go_loop [11, 12] (fun q i => ∃ k : Nat, i = .int .i64 k ∧ k ≤ n1 ∧ q = .bool (hasC x (r.take k))) (fun _ i => n1 - (intOf i).toNat)
    case atStart => exact ⟨0, rfl, by omega, rfl⟩
    case round =>
      obtain ⟨k, rfl, hk, rfl⟩ := hrel
      by_cases hlt : k < n1
      · have hkl : k < r.length := by rw [HLR.out]; exact hlt
        have HST := Lib.hid (hasC_step (x := x) hkl)
        obtain ⟨b', off', rfl, hb', hc'⟩ := HR.out.at_ (by omega)
        have hcx : w2.cell? ⟨b', off' + k, none⟩ = some (.int .i64 (intAt r k)) := hc' k hlt
        obtain ⟨z, hz⟩ : ∃ z, z = intAt r k := ⟨_, rfl⟩
        rw [← hz] at hcx HST
        clear hc' hkl hz
        have hi0 : (0 : Int) ≤ (k : Int) := by omega
        have hi3 : (k : Int) < (n1 : Int) := by omega
        cases hq : hasC x (r.take k)
        · have HQ := Lib.hid hq
          by_cases hz : z = -1 - (x : Int)
          · have g1 : (z == -1 - (x : Int)) = true := by simpa using hz
            have HG : Hid (hasC x (r.take (k + 1)) = true) := by show hasC x _ = true; rw [HST.out, hz]; simp
            clear hz hq
            go_wp2
            go_round
            case rel => exact ⟨k + 1, by go_num, by omega, by rw [HG.out]⟩
            case measure => simp [intOf]; omega
          · have g1 : (z == -1 - (x : Int)) = false := by simpa using hz
            have HG : Hid (hasC x (r.take (k + 1)) = false) := by show hasC x _ = false; rw [HST.out, HQ.out]; simp [hz]
            clear hz hq
            go_wp2
            go_round
            case rel => exact ⟨k + 1, by go_num, by omega, by rw [HG.out]⟩
            case measure => simp [intOf]; omega
        · have HG : Hid (hasC x (r.take (k + 1)) = true) := by show hasC x _ = true; rw [HST.out, hq]; simp
          clear hq
          go_wp2
          go_round
          case rel => exact ⟨k + 1, by go_num, by omega, by rw [HG.out]⟩
          case measure => simp [intOf]; omega
      · obtain rfl : k = n1 := by omega
        have HT : Hid (r.take k = r) := by show r.take k = r; exact List.take_of_length_le (by rw [HLR.out]; omega)
        rw [HT.out]
        have HBN := below_new2 w2 (.cells #[.int .i64 (-1 - (y : Int))] 3) (.cells #[.int .i64 (x : Int), .slice (some ⟨w2.heap.size, 0, none⟩) 1 1] 51)
        have HB3 := Lib.hid (HB2.out.trans (HBN.mono HB2.out.size))
        have HS3 := Lib.hid (HS.out.on HBN)
        have HR3 := Lib.hid (HR.out.on HBN)
        have HA3 := Lib.hid (HA.out.on HBN)
        have HBD := Lib.hid (BindsAt.lit1 w2 (x : Int) [-1 - (y : Int)] (by simp))
        clear HBN
        go_wp2_with fail
        refine (apply_any A0 _ A1 n0 c0 1 1 k c1 ss [⟨x, [-1 - (y : Int)]⟩] r _ HS3.out hn0 hnc HBD.out (by omega) HR3.out hn1).mono ?_
        rintro e w4 ⟨v4, rfl, hv4, hb4⟩
        have HB4 := Lib.hid (HB3.out.trans (hb4.mono HB3.out.size))
        replace HS3 := Lib.hid (HS3.out.on hb4)
        replace HR3 := Lib.hid (HR3.out.on hb4)
        replace HA3 := Lib.hid (HA3.out.on hb4)
        clear hb4
        rw [F2.out]
        rw [F3.out] at hv4
        obtain ⟨A6, c6, rfl, _, h4⟩ := hv4.intsAt
        rw [List.length_map, HLR.out] at h4 ⊢
        have HI4 := Lib.hid h4
        clear hv4 h4
        go_wp2_with fail
        refine (sameInts_any A5 A1 k c5 k c1 _ _ r r _ HA3.out HR3.out hn1 hn1).mono ?_
        rintro e w5 ⟨rfl, hb5⟩
        have HB5 := Lib.hid (HB4.out.trans (hb5.mono HB4.out.size))
        replace HR3 := Lib.hid (HR3.out.on hb5)
        replace HI4 := Lib.hid (HI4.out.on hb5)
        clear hb5
        rw [sameI_self]
        go_wp2_with (go_at_call 17; refine (num_any _ _).mono ?_; rintro e w' ⟨rfl, rfl⟩)
        have HSR := Lib.hid (same_ren hxy.out r)
        go_wp2_with fail
        refine (sameInts_any A6 A1 k c6 k c1 _ _ _ r _ HI4.out HR3.out hn1 hn1).mono ?_
        rintro e w6 ⟨rfl, hb6⟩
        have HB6 := Lib.hid (HB5.out.trans (hb6.mono HB5.out.size))
        clear hb6
        rw [HSR.out]
        cases hq : hasC x r
        all_goals
          go_wp2
          go_ret
          exact ⟨rfl, HB6.out⟩
  · have hr2 := applyE_not (by rw [← hE]; exact hE0)
    rw [hr2] at hv2
    obtain ⟨A5, c5, rfl, _, _⟩ := hv2.intsAt
    have g1 : (E != 0) = true := by simpa using hE0
    clear hE hE0 hr2 hv2
    go_wp2_with (go_at_call 17; refine (num_any _ _).mono ?_; rintro e w' ⟨rfl, rfl⟩)
    go_ret
    exact ⟨rfl, HB2.out⟩

end Go.Proofs.Ytjclcogjdodjpaa
