/-
  The walk of the law TermForms.
-/
import Derived.Test.YtmjopiobahaggaaWords
import Derived.Deep.OwnRows
import Derived.Deep.DeepCutAuto
namespace Go.Proofs.Ytmjopiobahaggaa
open Go.RowKit
set_option linter.unusedSimpArgs false
set_option linter.unusedVariables false

def isB (c : Int) : Bool := decide ((c ≤ -1 ∧ -24 ≤ c) ∨ c = 1 ∨ c = 2)
theorem tl_one (ss : List Sym) (c : Int) : tl ss [c] = if arOf ss c = some 0 then some [(1, 1)] else none := by
  unfold tl tl
  cases h : arOf ss c with
  | none => simp
  | some a =>
    cases a with
    | zero => simp [sumL, maxD]
    | succ a => simp
theorem ar_words (c : Int) : (arOf wordsL c = some 0) ↔ ((c ≤ -1 ∧ -24 ≤ c) ∨ c = 1 ∨ c = 2) := by
  by_cases h0 : c < 0
  · unfold arOf; rw [if_pos h0]
    by_cases h1 : -24 ≤ c
    · rw [if_pos h1]; simp; omega
    · rw [if_neg h1]; simp; omega
  · by_cases h7 : c < 7
    · have : c = 0 ∨ c = 1 ∨ c = 2 ∨ c = 3 ∨ c = 4 ∨ c = 5 ∨ c = 6 := by omega
      rcases this with rfl | rfl | rfl | rfl | rfl | rfl | rfl <;> decide +kernel
    · unfold arOf
      rw [if_neg h0, if_neg (by intro h; have : (wordsL.length : Int) = 7 := rfl; omega)]
      simp; omega
theorem row_one (c : Int) : rowE wordsL [c] = if isB c then 0 else 200 := by
  have : rowB wordsL [c] = isB c := by
    unfold rowB rowP isB
    rw [may_words, tl_one]
    by_cases h : arOf wordsL c = some 0
    · rw [if_pos h, decide_eq_true ((ar_words c).1 h)]; rfl
    · rw [if_neg h, decide_eq_false (fun h' => h ((ar_words c).2 h'))]; rfl
  unfold rowE; rw [this]
theorem tl_long (n : Nat) : tl wordsL (List.replicate n 1) = some (List.replicate n (1, 1)) := by
  induction n with
  | zero => rfl
  | succ n ih =>
    rw [List.replicate_succ, List.replicate_succ, tl_cons ih (a := 0) (by decide +kernel) (Nat.zero_le _)]
    simp [sumL, maxD]
theorem row_long (n : Nat) : rowB wordsL (List.replicate n 1) = decide (n ≤ 48) := by
  unfold rowB rowP; rw [may_words, tl_long]; simp
theorem rowE_long (n : Nat) : rowE wordsL (List.replicate n 1) = if n ≤ 48 then 0 else 200 := by
  unfold rowE; rw [row_long]; simp
theorem rowK_long (n : Nat) (h : n ≤ 48) : rowK wordsL (List.replicate n 1) = n := by
  unfold rowK tlD; rw [row_long, tl_long, decide_eq_true h]; simp

set_option maxHeartbeats 2000000 in
set_option maxRecDepth 100000 in
theorem termForms_walk (c k : Int) (w : World) (hc : (Lit.int .i64 c).wf = true) (hk : (Lit.int .i64 k).wf = true) : Calls Try.prog 8 #[.int .i64 c, .int .i64 k] w fun e w' => e = .returned (.bool true) ∧ Below w.heap.size w w' := by
  have HB0 : Hid (Below w.heap.size w w) := Below.refl _ _
  go_enter Try.func8, Try.ntmps8
  go_wp2_with fail
  refine (awake_any _).mono ?_
  rintro e w1 ⟨rfl, hb1⟩
  have HB1 := Lib.hid (HB0.out.trans (hb1.mono HB0.out.size))
  clear hb1
  go_wp2_with fail
  refine (words_any _).mono ?_
  rintro e w2 ⟨A2, rfl, hs2, hb2⟩
  have HB2 := Lib.hid (HB1.out.trans (hb2.mono HB1.out.size))
  clear hb2
  have hs3 := hs2.new (.cells #[.int .i64 c] 3)
  have hb3 := below_new w2 (.cells #[.int .i64 c] 3)
  have HB3 := Lib.hid (HB2.out.trans (hb3.mono HB2.out.size))
  clear hb3
  go_wp2_with fail
  refine (row_any _ _ 7 7 1 1 wordsL [c] _ hs3 len7 (Nat.le_refl _) (IntsAt.news w2 [c]) (by unfold maxLen; omega)).mono ?_
  rintro e w4 ⟨rfl, hb4⟩
  have HB4 := Lib.hid (HB3.out.trans (hb4.mono HB3.out.size))
  clear hb4
  clear hs2 hs3
  go_upto_region 4 with (fail)
  go_cut [7] (fun s7 wx => s7 = .bool (isB c) ∧ w4 = wx)
  case first =>
    by_cases a1 : c ≤ -1
    · by_cases a2 : -24 ≤ c
      · go_wp2_with fail
        go_meet
        case rel => exact ⟨by unfold isB; simp; omega, rfl⟩
      · have a3 : (c == 1) = false := by simp; omega
        have a4 : (c == 2) = false := by simp; omega
        go_wp2_with fail
        go_meet
        case rel => exact ⟨by unfold isB; simp; omega, rfl⟩
    · by_cases a2 : c = 1
      · have a3 : (c == 1) = true := by simp [a2]
        have A2 := Lib.hid a2
        clear a2
        go_wp2_with fail
        go_meet
        case rel => exact ⟨by unfold isB; simp [A2.out], rfl⟩
      · have a3 : (c == 1) = false := by simp [a2]
        by_cases a4 : c = 2
        · have a5 : (c == 2) = true := by simp [a4]
          have A4 := Lib.hid a4
          clear a4
          go_wp2_with fail
          go_meet
          case rel => exact ⟨by unfold isB; simp [A4.out], rfl⟩
        · have a5 : (c == 2) = false := by simp [a4]
          go_wp2_with fail
          go_meet
          case rel => exact ⟨by unfold isB; simp; omega, rfl⟩
  case rest =>
    obtain ⟨rfl, rfl⟩ := hcut
    obtain ⟨q, hq, hq1, hq2⟩ : ∃ q : Nat, wrap64 (40 + wrap64 ((IntKind.u64.wrap k).tmod 20)) = (q : Int) ∧ 40 ≤ q ∧ q < 60 := by
      have h1 : 0 ≤ IntKind.u64.wrap k := by
        have : IntKind.u64.wrap k = k % 18446744073709551616 := by rfl
        rw [this]; omega
      have h2 : 0 ≤ (IntKind.u64.wrap k).tmod 20 := Int.tmod_nonneg _ h1
      have h3 : (IntKind.u64.wrap k).tmod 20 < 20 := Int.tmod_lt_of_pos _ (by omega)
      generalize (IntKind.u64.wrap k).tmod 20 = z at *
      have e1 : wrap64 z = z := by unfold wrap64; omega
      rw [e1]
      have e2 : wrap64 (40 + z) = 40 + z := by unfold wrap64; omega
      rw [e2]
      exact ⟨(40 + z).toNat, by omega, by omega, by omega⟩
    have HQ := Lib.hid hq
    clear hq
    have hmk := run_make_row' (P := Try.prog) 23 3 (.int .i64 0) 8 Try.underlying23 int_info rfl .i64 .i64 q (by omega) (by omega) w4
    rw [← HQ.out] at hmk
    go_wp2_with fail
    clear hmk
    go_loopw [9] (fun i wr => ∃ j : Nat, i = .int .i64 j ∧ j ≤ q ∧ wr.rowIs w4.heap.size 3 q (fun x => .int .i64 (if x < j then 1 else 0)) ∧ Below w4.heap.size w4 wr) (fun i _ => q - (intOf i).toNat)
    case atStart => exact ⟨0, rfl, by omega, (World.rowIs_made _ _ _ _).congr (fun i hi => by simp), below_new _ _⟩
    case round =>
      obtain ⟨j, rfl, hj, hrow, hbw⟩ := hrel
      have HROW := Lib.hid hrow
      have HBW := Lib.hid hbw
      clear hbw
      by_cases hlt : j < q
      · have hcj := hrow.cell hlt
        have hfj := hrow.frozen j
        have e0 : (if j < j then (1 : Int) else 0) = 0 := by simp
        rw [e0] at hcj
        clear hrow e0
        go_wp2
        go_roundw
        case rel => exact ⟨j + 1, by go_num, by omega, (HROW.out.set j _).congr (fun i hi => by
          by_cases e : i = j
          · subst e; simp
          · by_cases e2 : i < j
            · simp [e, e2]; omega
            · simp [e, e2]; omega), HBW.out.setCell (Nat.le_refl _) _⟩
        case measure => simp [intOf]; omega
      · obtain rfl : j = q := by omega
        have HI : Hid (IntsAt wr wr.heap.size (some ⟨w4.heap.size, 0, none⟩) j (List.replicate j 1)) := by
          refine ⟨by simp, fun _ => ⟨_, _, rfl, hrow.lt, fun i hi => ?_⟩⟩
          have := hrow.cell hi
          rw [if_pos hi] at this
          rw [Nat.zero_add, this]
          show _ = some (Value.int .i64 (intAt (List.replicate j 1) i))
          unfold intAt; rw [List.getD_eq_getElem?_getD]; simp [hi]
        obtain ⟨w5, hw5⟩ : ∃ w5, w5 = wr := ⟨_, rfl⟩
        subst hw5
        have HB5 := Lib.hid (HB4.out.trans (HBW.out.mono HB4.out.size))
        clear hrow HROW
        go_wp2_with fail
        refine (words_any _).mono ?_
        rintro e w6 ⟨A6, rfl, hs6, hb6⟩
        have HB6 := Lib.hid (HB5.out.trans (hb6.mono HB5.out.size))
        replace HI := Lib.hid (HI.out.on hb6)
        clear hb6
        go_wp2_with fail
        refine (row_any _ _ 7 7 j j wordsL (List.replicate j 1) _ hs6 len7 (Nat.le_refl _) HI.out (by unfold maxLen; omega)).mono ?_
        rintro e w7 ⟨rfl, hb7⟩
        have HB7 := Lib.hid (HB6.out.trans (hb7.mono HB6.out.size))
        clear hb7
        clear hs6
        rw [rowE_long]
        by_cases hj48 : j ≤ 48
        · rw [rowK_long j hj48, if_pos hj48, row_one c]
          cases hi : isB c
          all_goals
            go_wp2_with (go_at_call 16; refine (num_any _ _).mono ?_; rintro e w' ⟨rfl, rfl⟩)
            go_ret
            exact ⟨rfl, HB7.out⟩
        · rw [if_neg hj48, row_one c]
          cases hi : isB c
          all_goals
            go_wp2_with (go_at_call 16; refine (num_any _ _).mono ?_; rintro e w' ⟨rfl, rfl⟩)
            go_ret
            exact ⟨rfl, HB7.out⟩

end Go.Proofs.Ytmjopiobahaggaa
