/-
  Contract of quaerelaw4: awake.
-/
import Derived.Test.YtlpafnaokpjoiaaPlainUni
import Derived.Test.YtlpafnaokpjoiaaGraphU
import Derived.Test.YtlpafnaokpjoiaaBaseBind
namespace Go.Proofs.Ytlpafnaokpjoiaa
open Go.RowKit
set_option linter.unusedSimpArgs false
set_option linter.unusedVariables false

theorem fitU1 : ∀ i, i < [(⟨0, [3, 1]⟩ : Bd), ⟨1, [1]⟩].length → (bdAt [(⟨0, [3, 1]⟩ : Bd), ⟨1, [1]⟩] i).t.length * 8 ≤ 140737488351232 := by
  intro i hi
  match i, hi with
  | 0, _ => show 2 * 8 ≤ _; omega
  | 1, _ => show 1 * 8 ≤ _; omega
theorem fitU2 : ∀ i, i < [(⟨3, [-2]⟩ : Bd)].length → (bdAt [(⟨3, [-2]⟩ : Bd)] i).t.length * 8 ≤ 140737488351232 := by
  intro i hi
  match i, hi with
  | 0, _ => show 1 * 8 ≤ _; omega
/-- Unify of two rows written out. -/
theorem unify_lit (w : World) (A : Option Addr) (xs ys : List Int) (hs : SymsAt w w.heap.size A 7 wordsL) (hx : xs.length ≤ 9) (hy : ys.length ≤ 9) :
    Calls Try.prog 10 #[.slice A 7 7, .slice (some ⟨w.heap.size, 0, none⟩) xs.length xs.length, .slice (some ⟨w.heap.size + 1, 0, none⟩) ys.length ys.length] ((w.alloc (.cells (intCells xs).toArray 3)).alloc (.cells (intCells ys).toArray 3))
      (UniPost wordsL xs ys ((w.alloc (.cells (intCells xs).toArray 3)).alloc (.cells (intCells ys).toArray 3))) :=
  unify_any A _ _ 7 7 _ _ _ _ wordsL xs ys _ (hs.two _ _) len7 (Nat.le_refl _) (lit_two w xs ys).1 (len_small (by omega)) (lit_two w xs ys).2 (len_small (by omega))

set_option maxHeartbeats 600000 in
set_option maxRecDepth 100000 in
theorem awakeU_any (w : World) : Calls Try.prog 16 #[] w fun e w' => e = .returned (.bool true) ∧ Below w.heap.size w w' := by
  have HB0 := Lib.hid (Below.refl w.heap.size w)
  go_enter Try.func16, Try.ntmps16
  go_wp2_with fail
  refine (words_any _).mono ?_
  rintro e w1 ⟨A1, rfl, hs1, hb1⟩
  have HB1 := Lib.hid (HB0.out.trans (hb1.mono HB0.out.size))
  clear hb1
  have hcall : Calls Try.prog 10 #[.slice A1 7 7, .slice (some ⟨w1.heap.size, 0, none⟩) 3 3, .slice (some ⟨w1.heap.size + 1, 0, none⟩) 4 4] ((w1.alloc (.cells #[.int .i64 4, .int .i64 (-1), .int .i64 (-2)] 3)).alloc (.cells #[.int .i64 4, .int .i64 3, .int .i64 (-2), .int .i64 1] 3)) (UniPost wordsL [4, -1, -2] [4, 3, -2, 1] ((w1.alloc (.cells #[.int .i64 4, .int .i64 (-1), .int .i64 (-2)] 3)).alloc (.cells #[.int .i64 4, .int .i64 3, .int .i64 (-2), .int .i64 1] 3))) := unify_lit w1 A1 [4, -1, -2] [4, 3, -2, 1] hs1 (by decide) (by decide)
  have hbn := below_new2 w1 (.cells #[.int .i64 4, .int .i64 (-1), .int .i64 (-2)] 3) (.cells #[.int .i64 4, .int .i64 3, .int .i64 (-2), .int .i64 1] 3)
  replace HB1 := Lib.hid (HB1.out.trans (hbn.mono HB1.out.size))
  clear hbn hs1
  go_wp2_with fail
  refine (hcall).mono ?_
  rintro e w2 ⟨v2, E2, is2, bs2, rfl, hv2, hb2, hu2⟩
  have HB2 := Lib.hid (HB1.out.trans (hb2.mono HB1.out.size))
  clear hb2
  clear hcall
  obtain ⟨rfl, rfl, rfl⟩ := au1 hu2
  obtain ⟨C2, cap2, rfl, hcap2, hi2⟩ := hv2.bindsAt fitU1
  have HI2 := Lib.hid hi2
  clear hv2 hi2 hu2 hcap2
  go_wp2_with fail
  refine (words_any _).mono ?_
  rintro e w3 ⟨A3, rfl, hs3, hb3⟩
  have HB3 := Lib.hid (HB2.out.trans (hb3.mono HB2.out.size))
  replace HI2 := Lib.hid (HI2.out.on hb3)
  clear hb3
  have hcall : Calls Try.prog 10 #[.slice A3 7 7, .slice (some ⟨w3.heap.size, 0, none⟩) 1 1, .slice (some ⟨w3.heap.size + 1, 0, none⟩) 1 1] ((w3.alloc (.cells #[.int .i64 (-4)] 3)).alloc (.cells #[.int .i64 (-2)] 3)) (UniPost wordsL [-4] [-2] ((w3.alloc (.cells #[.int .i64 (-4)] 3)).alloc (.cells #[.int .i64 (-2)] 3))) := unify_lit w3 A3 [-4] [-2] hs3 (by decide) (by decide)
  have hbn := below_new2 w3 (.cells #[.int .i64 (-4)] 3) (.cells #[.int .i64 (-2)] 3)
  replace HB3 := Lib.hid (HB3.out.trans (hbn.mono HB3.out.size))
  replace HI2 := Lib.hid (HI2.out.on hbn)
  clear hbn hs3
  go_wp2_with fail
  refine (hcall).mono ?_
  rintro e w4 ⟨v4, E4, is4, bs4, rfl, hv4, hb4, hu4⟩
  have HB4 := Lib.hid (HB3.out.trans (hb4.mono HB3.out.size))
  replace HI2 := Lib.hid (HI2.out.on hb4)
  clear hb4
  clear hcall
  obtain ⟨rfl, rfl, rfl⟩ := au2 hu4
  obtain ⟨C4, cap4, rfl, hcap4, hi4⟩ := hv4.bindsAt fitU2
  have HI4 := Lib.hid hi4
  clear hv4 hi4 hu4 hcap4
  go_wp2_with fail
  refine (words_any _).mono ?_
  rintro e w5 ⟨A5, rfl, hs5, hb5⟩
  have HB5 := Lib.hid (HB4.out.trans (hb5.mono HB4.out.size))
  replace HI2 := Lib.hid (HI2.out.on hb5)
  replace HI4 := Lib.hid (HI4.out.on hb5)
  clear hb5
  have hcall : Calls Try.prog 10 #[.slice A5 7 7, .slice (some ⟨w5.heap.size, 0, none⟩) 1 1, .slice (some ⟨w5.heap.size + 1, 0, none⟩) 2 2] ((w5.alloc (.cells #[.int .i64 (-1)] 3)).alloc (.cells #[.int .i64 3, .int .i64 (-1)] 3)) (UniPost wordsL [-1] [3, -1] ((w5.alloc (.cells #[.int .i64 (-1)] 3)).alloc (.cells #[.int .i64 3, .int .i64 (-1)] 3))) := unify_lit w5 A5 [-1] [3, -1] hs5 (by decide) (by decide)
  have hbn := below_new2 w5 (.cells #[.int .i64 (-1)] 3) (.cells #[.int .i64 3, .int .i64 (-1)] 3)
  replace HB5 := Lib.hid (HB5.out.trans (hbn.mono HB5.out.size))
  replace HI2 := Lib.hid (HI2.out.on hbn)
  replace HI4 := Lib.hid (HI4.out.on hbn)
  clear hbn hs5
  go_wp2_with fail
  refine (hcall).mono ?_
  rintro e w6 ⟨v6, E6, is6, bs6, rfl, hv6, hb6, hu6⟩
  have HB6 := Lib.hid (HB5.out.trans (hb6.mono HB5.out.size))
  replace HI2 := Lib.hid (HI2.out.on hb6)
  replace HI4 := Lib.hid (HI4.out.on hb6)
  clear hb6
  clear hcall
  obtain ⟨rfl, rfl, rfl⟩ := au3 hu6
  obtain ⟨C6, cap6, rfl, hcap6, hi6⟩ := hv6.bindsAt (fun i hi => absurd hi (by simp))
  clear hv6 hi6 hu6 hcap6
  go_wp2_with fail
  refine (words_any _).mono ?_
  rintro e w7 ⟨A7, rfl, hs7, hb7⟩
  have HB7 := Lib.hid (HB6.out.trans (hb7.mono HB6.out.size))
  replace HI2 := Lib.hid (HI2.out.on hb7)
  replace HI4 := Lib.hid (HI4.out.on hb7)
  clear hb7
  have hcall : Calls Try.prog 10 #[.slice A7 7 7, .slice (some ⟨w7.heap.size, 0, none⟩) 1 1, .slice (some ⟨w7.heap.size + 1, 0, none⟩) 1 1] ((w7.alloc (.cells #[.int .i64 1] 3)).alloc (.cells #[.int .i64 2] 3)) (UniPost wordsL [1] [2] ((w7.alloc (.cells #[.int .i64 1] 3)).alloc (.cells #[.int .i64 2] 3))) := unify_lit w7 A7 [1] [2] hs7 (by decide) (by decide)
  have hbn := below_new2 w7 (.cells #[.int .i64 1] 3) (.cells #[.int .i64 2] 3)
  replace HB7 := Lib.hid (HB7.out.trans (hbn.mono HB7.out.size))
  replace HI2 := Lib.hid (HI2.out.on hbn)
  replace HI4 := Lib.hid (HI4.out.on hbn)
  clear hbn hs7
  go_wp2_with fail
  refine (hcall).mono ?_
  rintro e w8 ⟨v8, E8, is8, bs8, rfl, hv8, hb8, hu8⟩
  have HB8 := Lib.hid (HB7.out.trans (hb8.mono HB7.out.size))
  replace HI2 := Lib.hid (HI2.out.on hb8)
  replace HI4 := Lib.hid (HI4.out.on hb8)
  clear hb8
  clear hcall
  obtain ⟨rfl, rfl, rfl⟩ := au4 hu8
  obtain ⟨C8, cap8, rfl, hcap8, hi8⟩ := hv8.bindsAt (fun i hi => absurd hi (by simp))
  clear hv8 hi8 hu8 hcap8
  go_wp2_with fail
  refine (words_any _).mono ?_
  rintro e w9 ⟨A9, rfl, hs9, hb9⟩
  have HB9 := Lib.hid (HB8.out.trans (hb9.mono HB8.out.size))
  replace HI2 := Lib.hid (HI2.out.on hb9)
  replace HI4 := Lib.hid (HI4.out.on hb9)
  clear hb9
  have hcall : Calls Try.prog 10 #[.slice A9 7 7, .slice (some ⟨w9.heap.size, 0, none⟩) 1 1, .slice (some ⟨w9.heap.size + 1, 0, none⟩) 1 1] ((w9.alloc (.cells #[.int .i64 3] 3)).alloc (.cells #[.int .i64 1] 3)) (UniPost wordsL [3] [1] ((w9.alloc (.cells #[.int .i64 3] 3)).alloc (.cells #[.int .i64 1] 3))) := unify_lit w9 A9 [3] [1] hs9 (by decide) (by decide)
  have hbn := below_new2 w9 (.cells #[.int .i64 3] 3) (.cells #[.int .i64 1] 3)
  replace HB9 := Lib.hid (HB9.out.trans (hbn.mono HB9.out.size))
  replace HI2 := Lib.hid (HI2.out.on hbn)
  replace HI4 := Lib.hid (HI4.out.on hbn)
  clear hbn hs9
  go_wp2_with fail
  refine (hcall).mono ?_
  rintro e w10 ⟨v10, E10, is10, bs10, rfl, hv10, hb10, hu10⟩
  have HB10 := Lib.hid (HB9.out.trans (hb10.mono HB9.out.size))
  replace HI2 := Lib.hid (HI2.out.on hb10)
  replace HI4 := Lib.hid (HI4.out.on hb10)
  clear hb10
  clear hcall
  obtain ⟨rfl, rfl, rfl⟩ := au5 hu10
  obtain ⟨C10, cap10, rfl, hcap10, hi10⟩ := hv10.bindsAt (fun i hi => absurd hi (by simp))
  clear hv10 hi10 hu10 hcap10
  go_wp2_with (go_at_call 13; refine (num_any _ _).mono ?_; rintro e w' ⟨rfl, rfl⟩)
  have hbn := below_new3 w10 (.cells #[.int .i64 3, .int .i64 1] 3) (.cells #[.int .i64 1] 3) (.cells #[.int .i64 0, .slice (some ⟨w10.heap.size, 0, none⟩) 2 2, .int .i64 1, .slice (some ⟨w10.heap.size + 1, 0, none⟩) 1 1] 41)
  replace HB10 := Lib.hid (HB10.out.trans (hbn.mono HB10.out.size))
  replace HI2 := Lib.hid (HI2.out.on hbn)
  replace HI4 := Lib.hid (HI4.out.on hbn)
  clear hbn
  go_wp2_with fail
  refine (sameBinds_true C2 _ 2 cap2 2 _ _ HI2.out (by omega) (BindsAt.lit2 w10 0 1 [3, 1] [1] (by simp) (by simp))).mono ?_
  rintro e w11 ⟨rfl, hb11⟩
  have HB11 := Lib.hid (HB10.out.trans (hb11.mono HB10.out.size))
  replace HI4 := Lib.hid (HI4.out.on hb11)
  clear hb11
  clear HI2
  go_wp2_with (go_at_call 13; refine (num_any _ _).mono ?_; rintro e w' ⟨rfl, rfl⟩)
  have hbn := below_new2 w11 (.cells #[.int .i64 (-2)] 3) (.cells #[.int .i64 3, .slice (some ⟨w11.heap.size, 0, none⟩) 1 1] 41)
  replace HB11 := Lib.hid (HB11.out.trans (hbn.mono HB11.out.size))
  replace HI4 := Lib.hid (HI4.out.on hbn)
  clear hbn
  go_wp2_with fail
  refine (sameBinds_true C4 _ 1 cap4 1 _ _ HI4.out (by omega) (BindsAt.lit1 w11 3 [-2] (by simp))).mono ?_
  rintro e w12 ⟨rfl, hb12⟩
  have HB12 := Lib.hid (HB11.out.trans (hb12.mono HB11.out.size))
  clear hb12
  clear HI4
  go_wp2_with (go_at_call 13; refine (num_any _ _).mono ?_; rintro e w' ⟨rfl, rfl⟩)
  go_ret
  exact ⟨rfl, HB12.out⟩

end Go.Proofs.Ytlpafnaokpjoiaa
