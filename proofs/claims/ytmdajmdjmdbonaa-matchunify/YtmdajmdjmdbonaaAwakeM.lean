/-
  Contract of quaerelaw5: awake.
-/
import Derived.Test.YtmdajmdjmdbonaaMatchAll
import Derived.Test.YtmdajmdjmdbonaaBaseBind
namespace Go.Proofs.Ytmdajmdjmdbonaa
open Go.RowKit
set_option linter.unusedSimpArgs false
set_option linter.unusedVariables false

theorem am1 : mtIs wordsL [4, -1, -2] [4, 1, -2] = true ∧ mtE wordsL [4, -1, -2] [4, 1, -2] = 0 ∧ mtB wordsL [4, -1, -2] [4, 1, -2] = [⟨0, [1]⟩] := ⟨by kernel_rfl, by kernel_rfl, by kernel_rfl⟩
theorem am2 : mtIs wordsL [4, -1, -1] [4, 1, 2] = false ∧ mtE wordsL [4, -1, -1] [4, 1, 2] = 0 ∧ mtB wordsL [4, -1, -1] [4, 1, 2] = [] := ⟨by kernel_rfl, by kernel_rfl, by kernel_rfl⟩
theorem am3 : mtIs wordsL [1] [-1] = false ∧ mtE wordsL [1] [-1] = 0 ∧ mtB wordsL [1] [-1] = [] := ⟨by kernel_rfl, by kernel_rfl, by kernel_rfl⟩
theorem am4 : mtIs wordsL [5] [1] = false ∧ mtE wordsL [5] [1] = 500 ∧ mtB wordsL [5] [1] = [] := ⟨by kernel_rfl, by kernel_rfl, by kernel_rfl⟩
theorem fitM1 : ∀ i, i < [(⟨0, [1]⟩ : Bd)].length → (bdAt [(⟨0, [1]⟩ : Bd)] i).t.length * 8 ≤ 140737488351232 := by
  intro i hi
  match i, hi with
  | 0, _ => show 1 * 8 ≤ _; omega
/-- Match of two rows written out. -/
theorem match_lit (w : World) (A : Option Addr) (xs ys : List Int) (hs : SymsAt w w.heap.size A 7 wordsL) (hx : xs.length ≤ 9) (hy : ys.length ≤ 9) :
    Calls Try.prog 5 #[.slice A 7 7, .slice (some ⟨w.heap.size, 0, none⟩) xs.length xs.length, .slice (some ⟨w.heap.size + 1, 0, none⟩) ys.length ys.length] ((w.alloc (.cells (intCells xs).toArray 3)).alloc (.cells (intCells ys).toArray 3))
      (MatPost wordsL xs ys ((w.alloc (.cells (intCells xs).toArray 3)).alloc (.cells (intCells ys).toArray 3))) :=
  match_any A _ _ 7 7 _ _ _ _ wordsL xs ys _ (hs.two _ _) len7 (Nat.le_refl _) (lit_two w xs ys).1 (len_small (by omega)) (lit_two w xs ys).2 (len_small (by omega)) (Nat.le_refl _)

set_option maxHeartbeats 600000 in
set_option maxRecDepth 100000 in
theorem awakeM_any (w : World) : Calls Try.prog 4 #[] w fun e w' => e = .returned (.bool true) ∧ Below w.heap.size w w' := by
  have HB0 := Lib.hid (Below.refl w.heap.size w)
  go_enter Try.func4, Try.ntmps4
  go_wp2_with fail
  refine (words_any _).mono ?_
  rintro e w1 ⟨A1, rfl, hs1, hb1⟩
  have HB1 := Lib.hid (HB0.out.trans (hb1.mono HB0.out.size))
  clear hb1
  have hcall : Calls Try.prog 5 #[.slice A1 7 7, .slice (some ⟨w1.heap.size, 0, none⟩) 3 3, .slice (some ⟨w1.heap.size + 1, 0, none⟩) 3 3] ((w1.alloc (.cells #[.int .i64 4, .int .i64 (-1), .int .i64 (-2)] 3)).alloc (.cells #[.int .i64 4, .int .i64 1, .int .i64 (-2)] 3)) (MatPost wordsL [4, -1, -2] [4, 1, -2] ((w1.alloc (.cells #[.int .i64 4, .int .i64 (-1), .int .i64 (-2)] 3)).alloc (.cells #[.int .i64 4, .int .i64 1, .int .i64 (-2)] 3))) := match_lit w1 A1 [4, -1, -2] [4, 1, -2] hs1 (by decide) (by decide)
  have hbn := below_new2 w1 (.cells #[.int .i64 4, .int .i64 (-1), .int .i64 (-2)] 3) (.cells #[.int .i64 4, .int .i64 1, .int .i64 (-2)] 3)
  replace HB1 := Lib.hid (HB1.out.trans (hbn.mono HB1.out.size))
  clear hbn hs1
  go_wp2_with fail
  refine (hcall).mono ?_
  rintro e w2 ⟨v2, rfl, hv2, hb2⟩
  have HB2 := Lib.hid (HB1.out.trans (hb2.mono HB1.out.size))
  clear hb2
  clear hcall
  rw [am1.1, am1.2.1]
  rw [am1.2.2] at hv2
  obtain ⟨C2, cap2, rfl, hcap2, hi2⟩ := hv2.bindsAt fitM1
  have HI2 := Lib.hid hi2
  clear hv2 hi2 hcap2
  go_wp2_with fail
  refine (words_any _).mono ?_
  rintro e w3 ⟨A3, rfl, hs3, hb3⟩
  have HB3 := Lib.hid (HB2.out.trans (hb3.mono HB2.out.size))
  replace HI2 := Lib.hid (HI2.out.on hb3)
  clear hb3
  have hcall : Calls Try.prog 5 #[.slice A3 7 7, .slice (some ⟨w3.heap.size, 0, none⟩) 3 3, .slice (some ⟨w3.heap.size + 1, 0, none⟩) 3 3] ((w3.alloc (.cells #[.int .i64 4, .int .i64 (-1), .int .i64 (-1)] 3)).alloc (.cells #[.int .i64 4, .int .i64 1, .int .i64 2] 3)) (MatPost wordsL [4, -1, -1] [4, 1, 2] ((w3.alloc (.cells #[.int .i64 4, .int .i64 (-1), .int .i64 (-1)] 3)).alloc (.cells #[.int .i64 4, .int .i64 1, .int .i64 2] 3))) := match_lit w3 A3 [4, -1, -1] [4, 1, 2] hs3 (by decide) (by decide)
  have hbn := below_new2 w3 (.cells #[.int .i64 4, .int .i64 (-1), .int .i64 (-1)] 3) (.cells #[.int .i64 4, .int .i64 1, .int .i64 2] 3)
  replace HB3 := Lib.hid (HB3.out.trans (hbn.mono HB3.out.size))
  replace HI2 := Lib.hid (HI2.out.on hbn)
  clear hbn hs3
  go_wp2_with fail
  refine (hcall).mono ?_
  rintro e w4 ⟨v4, rfl, hv4, hb4⟩
  have HB4 := Lib.hid (HB3.out.trans (hb4.mono HB3.out.size))
  replace HI2 := Lib.hid (HI2.out.on hb4)
  clear hb4
  clear hcall
  rw [am2.1, am2.2.1]
  clear hv4
  go_wp2_with fail
  refine (words_any _).mono ?_
  rintro e w5 ⟨A5, rfl, hs5, hb5⟩
  have HB5 := Lib.hid (HB4.out.trans (hb5.mono HB4.out.size))
  replace HI2 := Lib.hid (HI2.out.on hb5)
  clear hb5
  have hcall : Calls Try.prog 5 #[.slice A5 7 7, .slice (some ⟨w5.heap.size, 0, none⟩) 1 1, .slice (some ⟨w5.heap.size + 1, 0, none⟩) 1 1] ((w5.alloc (.cells #[.int .i64 1] 3)).alloc (.cells #[.int .i64 (-1)] 3)) (MatPost wordsL [1] [-1] ((w5.alloc (.cells #[.int .i64 1] 3)).alloc (.cells #[.int .i64 (-1)] 3))) := match_lit w5 A5 [1] [-1] hs5 (by decide) (by decide)
  have hbn := below_new2 w5 (.cells #[.int .i64 1] 3) (.cells #[.int .i64 (-1)] 3)
  replace HB5 := Lib.hid (HB5.out.trans (hbn.mono HB5.out.size))
  replace HI2 := Lib.hid (HI2.out.on hbn)
  clear hbn hs5
  go_wp2_with fail
  refine (hcall).mono ?_
  rintro e w6 ⟨v6, rfl, hv6, hb6⟩
  have HB6 := Lib.hid (HB5.out.trans (hb6.mono HB5.out.size))
  replace HI2 := Lib.hid (HI2.out.on hb6)
  clear hb6
  clear hcall
  rw [am3.1, am3.2.1]
  clear hv6
  go_wp2_with fail
  refine (words_any _).mono ?_
  rintro e w7 ⟨A7, rfl, hs7, hb7⟩
  have HB7 := Lib.hid (HB6.out.trans (hb7.mono HB6.out.size))
  replace HI2 := Lib.hid (HI2.out.on hb7)
  clear hb7
  have hcall : Calls Try.prog 5 #[.slice A7 7 7, .slice (some ⟨w7.heap.size, 0, none⟩) 1 1, .slice (some ⟨w7.heap.size + 1, 0, none⟩) 1 1] ((w7.alloc (.cells #[.int .i64 5] 3)).alloc (.cells #[.int .i64 1] 3)) (MatPost wordsL [5] [1] ((w7.alloc (.cells #[.int .i64 5] 3)).alloc (.cells #[.int .i64 1] 3))) := match_lit w7 A7 [5] [1] hs7 (by decide) (by decide)
  have hbn := below_new2 w7 (.cells #[.int .i64 5] 3) (.cells #[.int .i64 1] 3)
  replace HB7 := Lib.hid (HB7.out.trans (hbn.mono HB7.out.size))
  replace HI2 := Lib.hid (HI2.out.on hbn)
  clear hbn hs7
  go_wp2_with fail
  refine (hcall).mono ?_
  rintro e w8 ⟨v8, rfl, hv8, hb8⟩
  have HB8 := Lib.hid (HB7.out.trans (hb8.mono HB7.out.size))
  replace HI2 := Lib.hid (HI2.out.on hb8)
  clear hb8
  clear hcall
  rw [am4.1, am4.2.1]
  clear hv8
  go_wp2_with (go_at_call 7; refine (num_any _ _).mono ?_; rintro e w' ⟨rfl, rfl⟩)
  have hbn := below_new2 w8 (.cells #[.int .i64 1] 3) (.cells #[.int .i64 0, .slice (some ⟨w8.heap.size, 0, none⟩) 1 1] 34)
  replace HB8 := Lib.hid (HB8.out.trans (hbn.mono HB8.out.size))
  replace HI2 := Lib.hid (HI2.out.on hbn)
  clear hbn
  go_wp2_with fail
  refine (sameBinds_true C2 _ 1 cap2 1 _ _ HI2.out (by omega) (BindsAt.lit1 w8 0 [1] (by simp))).mono ?_
  rintro e w9 ⟨rfl, hb9⟩
  have HB9 := Lib.hid (HB8.out.trans (hb9.mono HB8.out.size))
  clear hb9
  clear HI2
  go_wp2_with (go_at_call 7; refine (num_any _ _).mono ?_; rintro e w' ⟨rfl, rfl⟩)
  go_ret
  exact ⟨rfl, HB9.out⟩
end Go.Proofs.Ytmdajmdjmdbonaa
