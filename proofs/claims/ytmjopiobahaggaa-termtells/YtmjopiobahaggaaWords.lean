/-
  Contracts of quaerelaw2: words, awake.
-/
import Derived.Test.YtmjopiobahaggaaTermVars
import Derived.Test.YtmjopiobahaggaaHelpInts
namespace Go.Proofs.Ytmjopiobahaggaa
open Go.RowKit
set_option linter.unusedSimpArgs false
set_option linter.unusedVariables false

def wordsL : List Sym := [⟨⟨#[61]⟩, 0, 2, 1⟩, ⟨⟨#[97]⟩, 1, 0, 1⟩, ⟨⟨#[98]⟩, 1, 0, 2⟩, ⟨⟨#[102]⟩, 1, 1, 1⟩, ⟨⟨#[103]⟩, 1, 2, 3⟩, ⟨⟨#[112]⟩, 0, 1, 1⟩, ⟨⟨#[114]⟩, 0, 2, 2⟩]
theorem may_words : mayB wordsL = true := by decide +kernel
theorem fit_words : ∀ i, i < 7 → (symAt wordsL i).name.size ≤ maxLen := by
  intro i hi
  have : (symAt wordsL i).name.size = 1 := by
    match i, hi with
    | 0, _ => rfl
    | 1, _ => rfl
    | 2, _ => rfl
    | 3, _ => rfl
    | 4, _ => rfl
    | 5, _ => rfl
    | 6, _ => rfl
  rw [this]; unfold maxLen; omega
/-- The words, in a new row. -/
def WordsRet (w : World) (e : Ending) (w' : World) : Prop :=
  ∃ A, e = .returned (.slice A 7 7) ∧ SymsAt w' w'.heap.size A 7 wordsL ∧ Below w.heap.size w w'
set_option maxHeartbeats 1000000 in
theorem words_any (w : World) : Calls Try.prog 27 #[] w (WordsRet w) := by
  go_enter Try.func27, Try.ntmps27
  go_wp2
  go_ret
  refine ⟨_, rfl, ?_, below_new w _⟩
  have := World.ownsRow_lit (base := w.heap.size) (e := 55) (size := 4) w (cellsOf wordsL).toArray 7 (Nat.le_refl _) (by unfold maxLen; omega) rfl
  exact SymsAt.of_own this fit_words

theorem len7 : (7 : Nat) ≤ maxLen := by unfold maxLen; omega
theorem len5 : (5 : Nat) ≤ maxLen := by unfold maxLen; omega
theorem len2 : (2 : Nat) ≤ maxLen := by unfold maxLen; omega
theorem aw1 : rowK wordsL [4, 3, -1, 1, -2] = 2 := by decide +kernel
theorem aw2 : rowE wordsL [4, 3, -1, 1, -2] = 0 := by decide +kernel
theorem aw3 : startsOf wordsL [4, 3, -1, 1, -2] = [0, 4] := by decide +kernel
theorem aw4 : endK wordsL [4, 3, -1, 1, -2] 1 = 3 := by decide +kernel
theorem aw5 : endE wordsL [4, 3, -1, 1, -2] 1 = 0 := by decide +kernel
theorem aw6 : varsOf wordsL [4, 3, -1, 1, -2] = [0, 1] := by decide +kernel
theorem aw7 : weightK wordsL [4, 3, -1, 1, -2] = 7 := by decide +kernel
theorem aw8 : deepK wordsL [4, 3, -1, 1, -2] = 3 := by decide +kernel
theorem aw9 : rowE wordsL [5, 1] = 200 := by decide +kernel
theorem aw10 : endE wordsL [4, 3, -1, 1, -2] 5 = 200 := by decide +kernel
theorem IntsAt.news (w : World) (xs : List Int) : IntsAt (w.alloc (.cells (intCells xs).toArray 3)) (w.alloc (.cells (intCells xs).toArray 3)).heap.size (some ⟨w.heap.size, 0, none⟩) xs.length xs :=
  (IntsAt.lit w xs).more (by simp)

set_option maxHeartbeats 2000000 in
set_option maxRecDepth 100000 in
theorem awake_any (w : World) : Calls Try.prog 19 #[] w fun e w' => e = .returned (.bool true) ∧ Below w.heap.size w w' := by
  have HR : Hid (IntsAt (w.alloc (.cells #[.int .i64 4, .int .i64 3, .int .i64 (-1), .int .i64 1, .int .i64 (-2)] 3)) (w.alloc (.cells #[.int .i64 4, .int .i64 3, .int .i64 (-1), .int .i64 1, .int .i64 (-2)] 3)).heap.size (some ⟨w.heap.size, 0, none⟩) 5 [4, 3, -1, 1, -2]) := IntsAt.news w [4, 3, -1, 1, -2]
  have HB0 : Hid (Below w.heap.size w (w.alloc (.cells #[.int .i64 4, .int .i64 3, .int .i64 (-1), .int .i64 1, .int .i64 (-2)] 3))) := below_new w _
  go_enter Try.func19, Try.ntmps19
  go_wp2_with fail
  refine (words_any _).mono ?_
  rintro e w1 ⟨A1, rfl, hs1, hb1⟩
  have HB1 := Lib.hid (HB0.out.trans (hb1.mono HB0.out.size))
  replace HR := Lib.hid (HR.out.on hb1)
  clear hb1
  go_wp2_with fail
  refine (row_any _ _ 7 7 5 5 wordsL [4, 3, -1, 1, -2] _ hs1 len7 (Nat.le_refl _) HR.out len5).mono ?_
  rintro e w2 ⟨rfl, hb2⟩
  have HB2 := Lib.hid (HB1.out.trans (hb2.mono HB1.out.size))
  replace HR := Lib.hid (HR.out.on hb2)
  clear hb2
  rw [aw1, aw2]
  clear hs1
  go_wp2_with fail
  refine (words_any _).mono ?_
  rintro e w3 ⟨A3, rfl, hs3, hb3⟩
  have HB3 := Lib.hid (HB2.out.trans (hb3.mono HB2.out.size))
  replace HR := Lib.hid (HR.out.on hb3)
  clear hb3
  go_wp2_with fail
  refine (starts_any _ _ 7 7 5 5 wordsL [4, 3, -1, 1, -2] _ hs3 len7 (Nat.le_refl _) HR.out len5).mono ?_
  rintro e w4 ⟨v4, rfl, hv4, hb4⟩
  have HB4 := Lib.hid (HB3.out.trans (hb4.mono HB3.out.size))
  replace HR := Lib.hid (HR.out.on hb4)
  clear hb4
  rw [aw2]
  clear hs3
  rw [aw3] at hv4
  obtain ⟨C4, cap4, rfl, hcap4, hi4⟩ := hv4.intsAt
  have HI4 := Lib.hid hi4
  clear hv4 hi4
  go_wp2_with fail
  refine (words_any _).mono ?_
  rintro e w5 ⟨A5, rfl, hs5, hb5⟩
  have HB5 := Lib.hid (HB4.out.trans (hb5.mono HB4.out.size))
  replace HR := Lib.hid (HR.out.on hb5)
  replace HI4 := Lib.hid (HI4.out.on hb5)
  clear hb5
  go_wp2_with fail
  refine (end_any _ _ 7 7 5 5 wordsL [4, 3, -1, 1, -2] 1 _ hs5 len7 (Nat.le_refl _) HR.out len5).mono ?_
  rintro e w6 ⟨rfl, hb6⟩
  have HB6 := Lib.hid (HB5.out.trans (hb6.mono HB5.out.size))
  replace HR := Lib.hid (HR.out.on hb6)
  replace HI4 := Lib.hid (HI4.out.on hb6)
  clear hb6
  rw [aw4, aw5]
  clear hs5
  go_wp2_with fail
  refine (words_any _).mono ?_
  rintro e w7 ⟨A7, rfl, hs7, hb7⟩
  have HB7 := Lib.hid (HB6.out.trans (hb7.mono HB6.out.size))
  replace HR := Lib.hid (HR.out.on hb7)
  replace HI4 := Lib.hid (HI4.out.on hb7)
  clear hb7
  go_wp2_with fail
  refine (vars_any _ _ 7 7 5 5 wordsL [4, 3, -1, 1, -2] _ hs7 len7 (Nat.le_refl _) HR.out len5).mono ?_
  rintro e w8 ⟨v8, rfl, hv8, hb8⟩
  have HB8 := Lib.hid (HB7.out.trans (hb8.mono HB7.out.size))
  replace HR := Lib.hid (HR.out.on hb8)
  replace HI4 := Lib.hid (HI4.out.on hb8)
  clear hb8
  rw [aw2]
  clear hs7
  rw [aw6] at hv8
  obtain ⟨C8, cap8, rfl, hcap8, hi8⟩ := hv8.intsAt
  have HI8 := Lib.hid hi8
  clear hv8 hi8
  go_wp2_with fail
  refine (words_any _).mono ?_
  rintro e w9 ⟨A9, rfl, hs9, hb9⟩
  have HB9 := Lib.hid (HB8.out.trans (hb9.mono HB8.out.size))
  replace HR := Lib.hid (HR.out.on hb9)
  replace HI4 := Lib.hid (HI4.out.on hb9)
  replace HI8 := Lib.hid (HI8.out.on hb9)
  clear hb9
  go_wp2_with fail
  refine (weight_any _ _ 7 7 5 5 wordsL [4, 3, -1, 1, -2] _ hs9 len7 (Nat.le_refl _) HR.out len5).mono ?_
  rintro e w10 ⟨rfl, hb10⟩
  have HB10 := Lib.hid (HB9.out.trans (hb10.mono HB9.out.size))
  replace HR := Lib.hid (HR.out.on hb10)
  replace HI4 := Lib.hid (HI4.out.on hb10)
  replace HI8 := Lib.hid (HI8.out.on hb10)
  clear hb10
  rw [aw7, aw2]
  clear hs9
  go_wp2_with fail
  refine (words_any _).mono ?_
  rintro e w11 ⟨A11, rfl, hs11, hb11⟩
  have HB11 := Lib.hid (HB10.out.trans (hb11.mono HB10.out.size))
  replace HR := Lib.hid (HR.out.on hb11)
  replace HI4 := Lib.hid (HI4.out.on hb11)
  replace HI8 := Lib.hid (HI8.out.on hb11)
  clear hb11
  go_wp2_with fail
  refine (deep_any _ _ 7 7 5 5 wordsL [4, 3, -1, 1, -2] _ hs11 len7 (Nat.le_refl _) HR.out len5).mono ?_
  rintro e w12 ⟨rfl, hb12⟩
  have HB12 := Lib.hid (HB11.out.trans (hb12.mono HB11.out.size))
  replace HR := Lib.hid (HR.out.on hb12)
  replace HI4 := Lib.hid (HI4.out.on hb12)
  replace HI8 := Lib.hid (HI8.out.on hb12)
  clear hb12
  rw [aw8, aw2]
  clear hs11
  go_wp2_with fail
  refine (words_any _).mono ?_
  rintro e w13 ⟨A13, rfl, hs13, hb13⟩
  have HB13 := Lib.hid (HB12.out.trans (hb13.mono HB12.out.size))
  replace HR := Lib.hid (HR.out.on hb13)
  replace HI4 := Lib.hid (HI4.out.on hb13)
  replace HI8 := Lib.hid (HI8.out.on hb13)
  clear hb13
  have hs14 := hs13.new (.cells #[.int .i64 5, .int .i64 1] 3)
  have hb14 := below_new w13 (.cells #[.int .i64 5, .int .i64 1] 3)
  have HB14 := Lib.hid (HB13.out.trans (hb14.mono HB13.out.size))
  replace HR := Lib.hid (HR.out.on hb14)
  replace HI4 := Lib.hid (HI4.out.on hb14)
  replace HI8 := Lib.hid (HI8.out.on hb14)
  clear hb14
  go_wp2_with fail
  refine (row_any _ _ 7 7 2 2 wordsL [5, 1] _ hs14 len7 (Nat.le_refl _) (IntsAt.news w13 [5, 1]) len2).mono ?_
  rintro e w15 ⟨rfl, hb15⟩
  have HB15 := Lib.hid (HB14.out.trans (hb15.mono HB14.out.size))
  replace HR := Lib.hid (HR.out.on hb15)
  replace HI4 := Lib.hid (HI4.out.on hb15)
  replace HI8 := Lib.hid (HI8.out.on hb15)
  clear hb15
  rw [aw9]
  clear hs13 hs14
  go_wp2_with fail
  refine (words_any _).mono ?_
  rintro e w16 ⟨A16, rfl, hs16, hb16⟩
  have HB16 := Lib.hid (HB15.out.trans (hb16.mono HB15.out.size))
  replace HR := Lib.hid (HR.out.on hb16)
  replace HI4 := Lib.hid (HI4.out.on hb16)
  replace HI8 := Lib.hid (HI8.out.on hb16)
  clear hb16
  go_wp2_with fail
  refine (end_any _ _ 7 7 5 5 wordsL [4, 3, -1, 1, -2] 5 _ hs16 len7 (Nat.le_refl _) HR.out len5).mono ?_
  rintro e w17 ⟨rfl, hb17⟩
  have HB17 := Lib.hid (HB16.out.trans (hb17.mono HB16.out.size))
  replace HR := Lib.hid (HR.out.on hb17)
  replace HI4 := Lib.hid (HI4.out.on hb17)
  replace HI8 := Lib.hid (HI8.out.on hb17)
  clear hb17
  rw [aw10]
  clear hs16
  have hb18 := below_new w17 (.cells #[.int .i64 0, .int .i64 4] 3)
  have HB18 := Lib.hid (HB17.out.trans (hb18.mono HB17.out.size))
  replace HR := Lib.hid (HR.out.on hb18)
  replace HI4 := Lib.hid (HI4.out.on hb18)
  replace HI8 := Lib.hid (HI8.out.on hb18)
  clear hb18
  go_wp2_with (go_at_call 16; refine (num_any _ _).mono ?_; rintro e w' ⟨rfl, rfl⟩)
  go_wp2_with fail
  refine (sameInts_any _ _ 2 cap4 2 2 _ _ [0, 4] [0, 4] _ HI4.out (IntsAt.news w17 [0, 4]) len2 len2).mono ?_
  rintro e w19 ⟨rfl, hb19⟩
  have HB19 := Lib.hid (HB18.out.trans (hb19.mono HB18.out.size))
  replace HR := Lib.hid (HR.out.on hb19)
  replace HI4 := Lib.hid (HI4.out.on hb19)
  replace HI8 := Lib.hid (HI8.out.on hb19)
  clear hb19
  rw [sameI_self]
  have hb20 := below_new w19 (.cells #[.int .i64 0, .int .i64 1] 3)
  have HB20 := Lib.hid (HB19.out.trans (hb20.mono HB19.out.size))
  replace HR := Lib.hid (HR.out.on hb20)
  replace HI4 := Lib.hid (HI4.out.on hb20)
  replace HI8 := Lib.hid (HI8.out.on hb20)
  clear hb20
  go_wp2_with (go_at_call 16; refine (num_any _ _).mono ?_; rintro e w' ⟨rfl, rfl⟩)
  go_wp2_with fail
  refine (sameInts_any _ _ 2 cap8 2 2 _ _ [0, 1] [0, 1] _ HI8.out (IntsAt.news w19 [0, 1]) len2 len2).mono ?_
  rintro e w21 ⟨rfl, hb21⟩
  have HB21 := Lib.hid (HB20.out.trans (hb21.mono HB20.out.size))
  replace HR := Lib.hid (HR.out.on hb21)
  replace HI4 := Lib.hid (HI4.out.on hb21)
  replace HI8 := Lib.hid (HI8.out.on hb21)
  clear hb21
  rw [sameI_self]
  go_wp2_with (go_at_call 16; refine (num_any _ _).mono ?_; rintro e w' ⟨rfl, rfl⟩)
  go_ret
  exact ⟨rfl, HB21.out⟩

end Go.Proofs.Ytmjopiobahaggaa
