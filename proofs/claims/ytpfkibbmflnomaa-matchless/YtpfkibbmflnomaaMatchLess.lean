/-
  The walk of the law MatchLess.
-/
import Derived.Test.YtpfkibbmflnomaaAwakeM
namespace Go.Proofs.Ytpfkibbmflnomaa
open Go.RowKit
set_option linter.unusedSimpArgs false
set_option linter.unusedVariables false
set_option maxRecDepth 100000

/-- How many symbols stand in a row. -/
def symN (r : List Int) : Nat := r.countP fun c => decide (0 ≤ c)
theorem symN_nil : symN [] = 0 := rfl
theorem symN_append (x y : List Int) : symN (x ++ y) = symN x + symN y := by unfold symN; exact List.countP_append
theorem symN_take {r : List Int} {k : Nat} (h : k < r.length) : symN (r.take (k + 1)) = symN (r.take k) + if 0 ≤ intAt r k then 1 else 0 := by
  have e : r.take (k + 1) = r.take k ++ [intAt r k] := by
    rw [List.take_add_one, intAt_get h]; rfl
  rw [e, symN_append]
  by_cases q : 0 ≤ intAt r k
  · rw [if_pos q]; simp [symN, q]
  · rw [if_neg q]; simp [symN]; omega
theorem symN_le (r : List Int) : symN r ≤ r.length := List.countP_le_length
theorem symN_ap (θ : Nat → List Int) (r : List Int) : symN r ≤ symN (ap θ r) := by
  induction r with
  | nil => simp [symN]
  | cons c r ih =>
    rw [ap_cons, symN_append]
    have e : symN (c :: r) = symN [c] + symN r := symN_append [c] r
    rw [e]
    by_cases h : 0 ≤ c
    · rw [ap1_sym h]; omega
    · have : symN [c] = 0 := by simp [symN]; omega
      omega
theorem less_told {ss : List Sym} {a b : List Int} (h : mtIs ss a b = true) : a.length ≤ b.length ∧ symN a ≤ symN b ∧ a.length ≤ 48 ∧ b.length ≤ 48 := by
  obtain ⟨T, hT⟩ := mtIs_yes h
  obtain ⟨r1, r2, _, hs, _, he, _⟩ := mtO_yes hT
  have g := ap_grows hs (fun c hc => row_ge r1 c hc)
  rw [he] at g
  have := symN_ap (stT T) a
  rw [he] at this
  exact ⟨g, this, (row_parts r1).2.1, (row_parts r2).2.1⟩

set_option maxHeartbeats 1000000 in
theorem matchLess_walk (A0 A1 A2 : Option Addr) (n0 c0 n1 c1 n2 c2 : Nat) (ss : List Sym) (a b : List Int) (w : World) (hs : SymsAt w w.heap.size A0 n0 ss) (hn0 : n0 ≤ maxLen) (hnc : n0 ≤ c0) (ha : IntsAt w w.heap.size A1 n1 a) (hn1 : n1 ≤ maxLen) (hb : IntsAt w w.heap.size A2 n2 b) (hn2 : n2 ≤ maxLen) (hc2 : n2 ≤ c2) :
    Calls Try.prog 8 #[.slice A0 n0 c0, .slice A1 n1 c1, .slice A2 n2 c2] w fun e w' => e = .returned (.bool true) ∧ Below w.heap.size w w' := by
  have HS := Lib.hid hs
  have HA := Lib.hid ha
  have HBB := Lib.hid hb
  have HLA := Lib.hid ha.len
  have HLB := Lib.hid hb.len
  have HB0 := Lib.hid (Below.refl w.heap.size w)
  clear hs ha hb
  go_enter Try.func8, Try.ntmps8
  go_wp2_with fail
  refine (awakeM_any _).mono ?_
  rintro e w1 ⟨rfl, hb1⟩
  have HB1 := Lib.hid (HB0.out.trans (hb1.mono HB0.out.size))
  replace HS := Lib.hid (HS.out.on hb1)
  replace HA := Lib.hid (HA.out.on hb1)
  replace HBB := Lib.hid (HBB.out.on hb1)
  clear hb1
  go_wp2_with fail
  refine (match_any A0 A1 A2 n0 c0 n1 c1 n2 c2 ss a b _ HS.out hn0 hnc HA.out hn1 HBB.out hn2 hc2).mono ?_
  rintro e w2 ⟨v2, rfl, hv2, hb2⟩
  have HB2 := Lib.hid (HB1.out.trans (hb2.mono HB1.out.size))
  replace HA := Lib.hid (HA.out.on hb2)
  replace HBB := Lib.hid (HBB.out.on hb2)
  clear hb2
  cases his : mtIs ss a b
  · rw [mtB_no his] at hv2
    obtain ⟨A3, c3, rfl, _, _⟩ := hv2.bindsAt (fun i hi => absurd hi (by simp))
    obtain ⟨E, hE⟩ : ∃ E, E = mtE ss a b := ⟨_, rfl⟩
    rw [← hE]
    clear hE his hv2
    by_cases z : E = 0
    · subst z
      go_wp2_with (go_at_call 13; refine (num_any _ _).mono ?_; rintro e w' ⟨rfl, rfl⟩)
      go_ret
      exact ⟨rfl, HB2.out⟩
    · have g1 : (E != 0) = true := by simpa using z
      clear z
      go_wp2_with (go_at_call 13; refine (num_any _ _).mono ?_; rintro e w' ⟨rfl, rfl⟩)
      go_ret
      exact ⟨rfl, HB2.out⟩
  · rw [mtE_yes his]
    obtain ⟨f1, f2, f3, f4⟩ := less_told his
    rw [HLA.out, HLB.out] at f1
    rw [HLA.out] at f3
    rw [HLB.out] at f4
    have HF2 := Lib.hid f2
    have HSA : Hid (symN a ≤ n1) := by have := symN_le a; rw [HLA.out] at this; exact this
    clear his hv2 f2
    go_wp2_with (go_at_call 13; refine (num_any _ _).mono ?_; rintro e w' ⟨rfl, rfl⟩)
    go_loop [10, 11] (fun q i => ∃ k : Nat, q = .int .i64 (symN (a.take k) : Nat) ∧ i = .int .i64 (k : Int) ∧ k ≤ n1) (fun _ i => n1 - (intOf i).toNat)
    case atStart => exact ⟨0, rfl, rfl, by omega⟩
    case round =>
      obtain ⟨k, rfl, rfl, hk⟩ := hrel
      by_cases hlt : k < n1
      · obtain ⟨b1, o1, rfl, _, hc1⟩ := HA.out.at_ (by omega)
        have d0 : w2.cell? ⟨b1, o1 + k, none⟩ = some (.int .i64 (intAt a k)) := hc1 k hlt
        have HST := Lib.hid (symN_take (r := a) (k := k) (by rw [HLA.out]; exact hlt))
        have hle : symN (a.take k) ≤ 48 := by have := symN_le (a.take k); rw [List.length_take, HLA.out] at this; omega
        obtain ⟨q, hq⟩ : ∃ q, q = symN (a.take k) := ⟨_, rfl⟩
        rw [← hq] at hle ⊢
        have HQ := Lib.hid hq
        clear hc1 hq
        by_cases hx : 0 ≤ intAt a k
        · have HE : Hid (symN (a.take (k + 1)) = q + 1) := by show symN _ = _; rw [HST.out, if_pos hx, HQ.out]
          go_wp2
          go_round
          case rel => exact ⟨k + 1, by rw [HE.out]; go_num, by go_num, by omega⟩
          case measure => simp [intOf]; omega
        · have HE : Hid (symN (a.take (k + 1)) = q) := by show symN _ = _; rw [HST.out, if_neg hx, HQ.out]; rfl
          go_wp2
          go_round
          case rel => exact ⟨k + 1, by rw [HE.out], by go_num, by omega⟩
          case measure => simp [intOf]; omega
      · obtain rfl : k = n1 := by omega
        rw [List.take_of_length_le (by rw [HLA.out]; exact Nat.le_refl _)]
        have hsa := HSA.out
        obtain ⟨N, hN⟩ : ∃ N, N = symN a := ⟨_, rfl⟩
        rw [← hN] at hsa ⊢
        have HN := Lib.hid hN
        clear hN
        go_wp2
        go_loop [10, 12] (fun q i => ∃ k : Nat, q = .int .i64 ((N : Int) - (symN (b.take k) : Nat)) ∧ i = .int .i64 (k : Int) ∧ k ≤ n2) (fun _ i => n2 - (intOf i).toNat)
        case atStart => exact ⟨0, by simp [symN], rfl, by omega⟩
        case round =>
          obtain ⟨j, rfl, rfl, hj⟩ := hrel
          by_cases hlt2 : j < n2
          · obtain ⟨b1, o1, rfl, _, hc1⟩ := HBB.out.at_ (by omega)
            have d0 : w2.cell? ⟨b1, o1 + j, none⟩ = some (.int .i64 (intAt b j)) := hc1 j hlt2
            have HST := Lib.hid (symN_take (r := b) (k := j) (by rw [HLB.out]; exact hlt2))
            have hle : symN (b.take j) ≤ 48 := by have := symN_le (b.take j); rw [List.length_take, HLB.out] at this; omega
            obtain ⟨q, hq⟩ : ∃ q, q = symN (b.take j) := ⟨_, rfl⟩
            rw [← hq] at hle ⊢
            have HQ := Lib.hid hq
            clear hc1 hq
            by_cases hx : 0 ≤ intAt b j
            · have HE : Hid (symN (b.take (j + 1)) = q + 1) := by show symN _ = _; rw [HST.out, if_pos hx, HQ.out]
              go_wp2
              go_round
              case rel => exact ⟨j + 1, by rw [HE.out]; go_num, by go_num, by omega⟩
              case measure => simp [intOf]; omega
            · have HE : Hid (symN (b.take (j + 1)) = q) := by show symN _ = _; rw [HST.out, if_neg hx, HQ.out]; rfl
              go_wp2
              go_round
              case rel => exact ⟨j + 1, by rw [HE.out], by go_num, by omega⟩
              case measure => simp [intOf]; omega
          · obtain rfl : j = n2 := by omega
            rw [List.take_of_length_le (by rw [HLB.out]; exact Nat.le_refl _)]
            have hf := HF2.out
            rw [← HN.out] at hf
            obtain ⟨M, hM⟩ : ∃ M, M = symN b := ⟨_, rfl⟩
            rw [← hM] at hf ⊢
            clear hM
            have hd : (N : Int) - (M : Int) ≤ 0 := by omega
            go_wp2
            go_ret
            exact ⟨rfl, HB2.out⟩
end Go.Proofs.Ytpfkibbmflnomaa
