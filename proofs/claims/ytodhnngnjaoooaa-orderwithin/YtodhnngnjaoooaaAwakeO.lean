/-
  Contract of quaerelaw6: awake.
-/
import Derived.Test.YtodhnngnjaoooaaOrderCmp
namespace Go.Proofs.Ytodhnngnjaoooaa
open Go.RowKit
set_option linter.unusedSimpArgs false
set_option linter.unusedVariables false
set_option maxRecDepth 100000

theorem ge_lit {b : List Int} (h : (b.all fun c => decide (-24 ≤ c)) = true) : ∀ c ∈ b, -24 ≤ c := fun c hc => of_decide_eq_true (List.all_eq_true.1 h c hc)
theorem oft_lit {a b : List Int} (h : (b.all fun c => decide (-24 ≤ c)) = true) (k : oftB a b = true) : Often a b := (oftB_iff (ge_lit h)).1 k
theorem oft_lit_no {a b : List Int} (h : (b.all fun c => decide (-24 ≤ c)) = true) (k : oftB a b = false) : ¬ Mor wordsL a b := fun q => oftB_no (ge_lit h) k q.often
theorem ao1 : CmpR wordsL [3, -1] [-1] 0 2 := .inr ⟨by kernel_rfl, rfl, .inr (.inl ⟨.heavy (oft_lit (by kernel_rfl) (by kernel_rfl)) (by decide), rfl⟩)⟩
theorem ao2 : CmpR wordsL [-1] [-2] 0 3 := .inr ⟨by kernel_rfl, rfl, .inr (.inr (.inr ⟨by decide, oft_lit_no (by kernel_rfl) (by kernel_rfl), oft_lit_no (by kernel_rfl) (by kernel_rfl), rfl⟩))⟩
theorem ao3 : CmpR wordsL [1] [2] 0 0 := .inr ⟨by kernel_rfl, rfl, .inr (.inr (.inl ⟨.heavy (oft_lit (by kernel_rfl) (by kernel_rfl)) (by decide), rfl⟩))⟩
theorem ao4 : CmpR wordsL [5, 1] [5, 1] 0 1 := .inr ⟨by kernel_rfl, rfl, .inl ⟨rfl, rfl⟩⟩
theorem ao5 : CmpR wordsL [5, 1] [1] 600 0 := .inl ⟨by kernel_rfl, rfl, rfl⟩
/-- Compare of two rows written out. -/
theorem order_lit (w : World) (A : Option Addr) (xs ys : List Int) (hs : SymsAt w w.heap.size A 7 wordsL) (hx : xs.length ≤ 9) (hy : ys.length ≤ 9) :
    Calls Try.prog 10 #[.slice A 7 7, .slice (some ⟨w.heap.size, 0, none⟩) xs.length xs.length, .slice (some ⟨w.heap.size + 1, 0, none⟩) ys.length ys.length] ((w.alloc (.cells (intCells xs).toArray 3)).alloc (.cells (intCells ys).toArray 3))
      (OrdPost wordsL xs ys ((w.alloc (.cells (intCells xs).toArray 3)).alloc (.cells (intCells ys).toArray 3))) :=
  compareO_any A _ _ 7 7 _ _ _ _ wordsL xs ys _ (hs.two _ _) len7 (Nat.le_refl _) (lit_two w xs ys).1 (len_small (by omega)) (Nat.le_refl _) (lit_two w xs ys).2 (len_small (by omega)) (Nat.le_refl _)

set_option maxHeartbeats 600000 in
theorem awakeO_any (w : World) : Calls Try.prog 14 #[] w fun e w' => e = .returned (.bool true) ∧ Below w.heap.size w w' := by
  have HB0 := Lib.hid (Below.refl w.heap.size w)
  go_enter Try.func14, Try.ntmps14
  go_wp2_with fail
  refine (words_any _).mono ?_
  rintro e w1 ⟨A1, rfl, hs1, hb1⟩
  have HB1 := Lib.hid (HB0.out.trans (hb1.mono HB0.out.size))
  clear hb1
  have hcall : Calls Try.prog 10 #[.slice A1 7 7, .slice (some ⟨w1.heap.size, 0, none⟩) 2 2, .slice (some ⟨w1.heap.size + 1, 0, none⟩) 1 1] ((w1.alloc (.cells #[.int .i64 3, .int .i64 (-1)] 3)).alloc (.cells #[.int .i64 (-1)] 3)) (OrdPost wordsL [3, -1] [-1] ((w1.alloc (.cells #[.int .i64 3, .int .i64 (-1)] 3)).alloc (.cells #[.int .i64 (-1)] 3))) := order_lit w1 A1 [3, -1] [-1] hs1 (by decide) (by decide)
  have hbn := below_new2 w1 (.cells #[.int .i64 3, .int .i64 (-1)] 3) (.cells #[.int .i64 (-1)] 3)
  replace HB1 := Lib.hid (HB1.out.trans (hbn.mono HB1.out.size))
  clear hbn hs1
  go_wp2_with fail
  refine (hcall).mono ?_
  rintro e w2 ⟨k, E, rfl, hr, hb2⟩
  have HB2 := Lib.hid (HB1.out.trans (hb2.mono HB1.out.size))
  clear hb2
  clear hcall
  obtain ⟨rfl, rfl⟩ := hr.unique ao1
  clear hr
  go_wp2_with fail
  refine (words_any _).mono ?_
  rintro e w3 ⟨A3, rfl, hs3, hb3⟩
  have HB3 := Lib.hid (HB2.out.trans (hb3.mono HB2.out.size))
  clear hb3
  have hcall : Calls Try.prog 10 #[.slice A3 7 7, .slice (some ⟨w3.heap.size, 0, none⟩) 1 1, .slice (some ⟨w3.heap.size + 1, 0, none⟩) 1 1] ((w3.alloc (.cells #[.int .i64 (-1)] 3)).alloc (.cells #[.int .i64 (-2)] 3)) (OrdPost wordsL [-1] [-2] ((w3.alloc (.cells #[.int .i64 (-1)] 3)).alloc (.cells #[.int .i64 (-2)] 3))) := order_lit w3 A3 [-1] [-2] hs3 (by decide) (by decide)
  have hbn := below_new2 w3 (.cells #[.int .i64 (-1)] 3) (.cells #[.int .i64 (-2)] 3)
  replace HB3 := Lib.hid (HB3.out.trans (hbn.mono HB3.out.size))
  clear hbn hs3
  go_wp2_with fail
  refine (hcall).mono ?_
  rintro e w4 ⟨k, E, rfl, hr, hb4⟩
  have HB4 := Lib.hid (HB3.out.trans (hb4.mono HB3.out.size))
  clear hb4
  clear hcall
  obtain ⟨rfl, rfl⟩ := hr.unique ao2
  clear hr
  go_wp2_with fail
  refine (words_any _).mono ?_
  rintro e w5 ⟨A5, rfl, hs5, hb5⟩
  have HB5 := Lib.hid (HB4.out.trans (hb5.mono HB4.out.size))
  clear hb5
  have hcall : Calls Try.prog 10 #[.slice A5 7 7, .slice (some ⟨w5.heap.size, 0, none⟩) 1 1, .slice (some ⟨w5.heap.size + 1, 0, none⟩) 1 1] ((w5.alloc (.cells #[.int .i64 1] 3)).alloc (.cells #[.int .i64 2] 3)) (OrdPost wordsL [1] [2] ((w5.alloc (.cells #[.int .i64 1] 3)).alloc (.cells #[.int .i64 2] 3))) := order_lit w5 A5 [1] [2] hs5 (by decide) (by decide)
  have hbn := below_new2 w5 (.cells #[.int .i64 1] 3) (.cells #[.int .i64 2] 3)
  replace HB5 := Lib.hid (HB5.out.trans (hbn.mono HB5.out.size))
  clear hbn hs5
  go_wp2_with fail
  refine (hcall).mono ?_
  rintro e w6 ⟨k, E, rfl, hr, hb6⟩
  have HB6 := Lib.hid (HB5.out.trans (hb6.mono HB5.out.size))
  clear hb6
  clear hcall
  obtain ⟨rfl, rfl⟩ := hr.unique ao3
  clear hr
  go_wp2_with fail
  refine (words_any _).mono ?_
  rintro e w7 ⟨A7, rfl, hs7, hb7⟩
  have HB7 := Lib.hid (HB6.out.trans (hb7.mono HB6.out.size))
  clear hb7
  have hcall : Calls Try.prog 10 #[.slice A7 7 7, .slice (some ⟨w7.heap.size, 0, none⟩) 2 2, .slice (some ⟨w7.heap.size + 1, 0, none⟩) 2 2] ((w7.alloc (.cells #[.int .i64 5, .int .i64 1] 3)).alloc (.cells #[.int .i64 5, .int .i64 1] 3)) (OrdPost wordsL [5, 1] [5, 1] ((w7.alloc (.cells #[.int .i64 5, .int .i64 1] 3)).alloc (.cells #[.int .i64 5, .int .i64 1] 3))) := order_lit w7 A7 [5, 1] [5, 1] hs7 (by decide) (by decide)
  have hbn := below_new2 w7 (.cells #[.int .i64 5, .int .i64 1] 3) (.cells #[.int .i64 5, .int .i64 1] 3)
  replace HB7 := Lib.hid (HB7.out.trans (hbn.mono HB7.out.size))
  clear hbn hs7
  go_wp2_with fail
  refine (hcall).mono ?_
  rintro e w8 ⟨k, E, rfl, hr, hb8⟩
  have HB8 := Lib.hid (HB7.out.trans (hb8.mono HB7.out.size))
  clear hb8
  clear hcall
  obtain ⟨rfl, rfl⟩ := hr.unique ao4
  clear hr
  go_wp2_with fail
  refine (words_any _).mono ?_
  rintro e w9 ⟨A9, rfl, hs9, hb9⟩
  have HB9 := Lib.hid (HB8.out.trans (hb9.mono HB8.out.size))
  clear hb9
  have hcall : Calls Try.prog 10 #[.slice A9 7 7, .slice (some ⟨w9.heap.size, 0, none⟩) 2 2, .slice (some ⟨w9.heap.size + 1, 0, none⟩) 1 1] ((w9.alloc (.cells #[.int .i64 5, .int .i64 1] 3)).alloc (.cells #[.int .i64 1] 3)) (OrdPost wordsL [5, 1] [1] ((w9.alloc (.cells #[.int .i64 5, .int .i64 1] 3)).alloc (.cells #[.int .i64 1] 3))) := order_lit w9 A9 [5, 1] [1] hs9 (by decide) (by decide)
  have hbn := below_new2 w9 (.cells #[.int .i64 5, .int .i64 1] 3) (.cells #[.int .i64 1] 3)
  replace HB9 := Lib.hid (HB9.out.trans (hbn.mono HB9.out.size))
  clear hbn hs9
  go_wp2_with fail
  refine (hcall).mono ?_
  rintro e w10 ⟨k, E, rfl, hr, hb10⟩
  have HB10 := Lib.hid (HB9.out.trans (hb10.mono HB9.out.size))
  clear hb10
  clear hcall
  obtain ⟨rfl, rfl⟩ := hr.unique ao5
  clear hr
  go_wp2_with (go_at_call 12; refine (num_any _ _).mono ?_; rintro e w' ⟨rfl, rfl⟩)
  go_ret
  exact ⟨rfl, HB10.out⟩
end Go.Proofs.Ytodhnngnjaoooaa
