/-
  Contract of quaerelaw12: awake.
-/
import Derived.Test.YthdpojokogiinaaPathFind
import Derived.Test.YthdpojokogiinaaOpenC
namespace Go.Proofs.Ythdpojokogiinaa
open Go.RowKit Go.Deep
set_option linter.unusedSimpArgs false
set_option linter.unusedVariables false
set_option maxRecDepth 100000

/-- Rows in a slice that is written out. -/
theorem tups_new {w : World} {us : List Value} {ts : List (List Int)} {n : Nat} (hn : ts.length = n) (he : us.length = n) (hr : ∀ i, i < n → ∃ A c, valAt us i = .slice A (rowOf ts i).length c ∧ RowIn w w.heap.size A (rowOf ts i).length c (rowOf ts i) ∧ (A = none → c = 0)) :
    TupsAt (w.alloc (.cells us.toArray 23)) (w.alloc (.cells us.toArray 23)).heap.size (some ⟨w.heap.size, 0, none⟩) n ts := by
  have hb := below_new w (.cells us.toArray 23)
  refine ⟨hn, fun _ => ⟨w.heap.size, 0, rfl, by simp, fun i hi => ?_⟩⟩
  obtain ⟨A, c, h1, h2, h3⟩ := hr i hi
  refine ⟨A, c, ?_, h2.on hb, h3⟩
  rw [cell_of_row _ _ _ _ _ _ (heap_alloc_new w (.cells us.toArray 23)), ← h1]
  show us.toArray[0 + i]? = _
  rw [Nat.zero_add, List.getElem?_toArray]
  unfold valAt
  rw [List.getD_eq_getElem?_getD, List.getElem?_eq_getElem (by omega)]; rfl
theorem RowIn.news (w : World) (xs : List Int) (h : xs.length ≤ 100) : RowIn (w.alloc (.cells (intCells xs).toArray 3)) (w.alloc (.cells (intCells xs).toArray 3)).heap.size (some ⟨w.heap.size, 0, none⟩) xs.length xs.length xs :=
  ⟨IntsAt.news w xs, Nat.le_refl _, by omega⟩
/-- The rows among which is looked, and what is looked for, written out. -/
theorem aw_rows (w : World) : ∃ w5, w5 = ((((w.alloc (.cells #[.int .i64 1] 3)).alloc (.cells #[.int .i64 3, .int .i64 (-1)] 3)).alloc (.cells #[.int .i64 (-1)] 3)).alloc
      (.cells #[.slice (some ⟨w.heap.size, 0, none⟩) 1 1, .slice none 0 0, .slice (some ⟨w.heap.size + 1, 0, none⟩) 2 2, .slice (some ⟨w.heap.size + 1 + 1, 0, none⟩) 1 1] 23)).alloc (.cells #[.int .i64 3, .int .i64 1] 3) ∧
    TupsAt w5 w5.heap.size (some ⟨w.heap.size + 1 + 1 + 1, 0, none⟩) 4 [[1], [], [3, -1], [-1]] ∧ IntsAt w5 w5.heap.size (some ⟨w.heap.size + 1 + 1 + 1 + 1, 0, none⟩) 2 [3, 1] ∧ Below w.heap.size w w5 := by
  obtain ⟨u1, h1⟩ : ∃ u, u = w.alloc (.cells #[.int .i64 1] 3) := ⟨_, rfl⟩
  obtain ⟨u2, h2⟩ : ∃ u, u = u1.alloc (.cells #[.int .i64 3, .int .i64 (-1)] 3) := ⟨_, rfl⟩
  obtain ⟨u3, h3⟩ : ∃ u, u = u2.alloc (.cells #[.int .i64 (-1)] 3) := ⟨_, rfl⟩
  have s1 : u1.heap.size = w.heap.size + 1 := by rw [h1]; simp
  have s2 : u2.heap.size = w.heap.size + 1 + 1 := by rw [h2]; simp; omega
  have s3 : u3.heap.size = w.heap.size + 1 + 1 + 1 := by rw [h3]; simp; omega
  have i1 : RowIn u1 u1.heap.size (some ⟨w.heap.size, 0, none⟩) 1 1 [1] := by rw [h1]; exact RowIn.news w [1] (by decide)
  have i2 : RowIn u2 u2.heap.size (some ⟨w.heap.size + 1, 0, none⟩) 2 2 [3, -1] := by rw [h2, ← s1]; exact RowIn.news u1 [3, -1] (by decide)
  have i3 : RowIn u3 u3.heap.size (some ⟨w.heap.size + 1 + 1, 0, none⟩) 1 1 [-1] := by rw [h3, ← s2]; exact RowIn.news u2 [-1] (by decide)
  have b1 := below_new w (.cells #[.int .i64 1] 3)
  have b2 := below_new u1 (.cells #[.int .i64 3, .int .i64 (-1)] 3)
  have b3 := below_new u2 (.cells #[.int .i64 (-1)] 3)
  rw [← h1] at b1
  rw [← h2] at b2
  rw [← h3] at b3
  have ht := tups_new (w := u3) (us := [.slice (some ⟨w.heap.size, 0, none⟩) 1 1, .slice none 0 0, .slice (some ⟨w.heap.size + 1, 0, none⟩) 2 2, .slice (some ⟨w.heap.size + 1 + 1, 0, none⟩) 1 1]) (ts := [[1], [], [3, -1], [-1]]) (n := 4) rfl rfl (fun i hi => by
    match i, hi with
    | 0, _ => exact ⟨_, _, rfl, (i1.on b2).on b3, fun e => by cases e⟩
    | 1, _ => exact ⟨none, 0, rfl, ⟨IntsAt.nil_, Nat.le_refl _, by decide⟩, fun _ => rfl⟩
    | 2, _ => exact ⟨_, _, rfl, i2.on b3, fun e => by cases e⟩
    | 3, _ => exact ⟨_, _, rfl, i3, fun e => by cases e⟩)
  rw [← h1, ← h2, ← h3]
  obtain ⟨u4, h4⟩ : ∃ u, u = u3.alloc (.cells #[.slice (some ⟨w.heap.size, 0, none⟩) 1 1, .slice none 0 0, .slice (some ⟨w.heap.size + 1, 0, none⟩) 2 2, .slice (some ⟨w.heap.size + 1 + 1, 0, none⟩) 1 1] 23) := ⟨_, rfl⟩
  have b4 := below_new u3 (.cells #[.slice (some ⟨w.heap.size, 0, none⟩) 1 1, .slice none 0 0, .slice (some ⟨w.heap.size + 1, 0, none⟩) 2 2, .slice (some ⟨w.heap.size + 1 + 1, 0, none⟩) 1 1] 23)
  have s4 : u4.heap.size = w.heap.size + 1 + 1 + 1 + 1 := by rw [h4]; simp; omega
  have ht' : TupsAt u4 u4.heap.size (some ⟨u3.heap.size, 0, none⟩) 4 [[1], [], [3, -1], [-1]] := by rw [h4]; exact ht
  rw [← h4] at b4 ⊢
  have b5 := below_new u4 (.cells #[.int .i64 3, .int .i64 1] 3)
  refine ⟨_, rfl, ?_, ?_, (((b1.trans (b2.mono (by omega))).trans (b3.mono (by omega))).trans (b4.mono (by omega))).trans (b5.mono (by omega))⟩
  · rw [← s3]; exact ht'.on b5
  · rw [← s4]; exact IntsAt.news u4 [3, 1]
/-- The paths that are expected, written out. -/
theorem aw_paths (w : World) : ∃ w5, w5 = ((((w.alloc (.cells #[.int .i64 4] 3)).alloc (.cells #[.int .i64 0, .int .i64 3] 3)).alloc (.cells #[.int .i64 0, .int .i64 0, .int .i64 (-1)] 3)).alloc (.cells #[.int .i64 1, .int .i64 1] 3)).alloc
      (.cells #[.slice (some ⟨w.heap.size, 0, none⟩) 1 1, .slice (some ⟨w.heap.size + 1, 0, none⟩) 2 2, .slice (some ⟨w.heap.size + 1 + 1, 0, none⟩) 3 3, .slice (some ⟨w.heap.size + 1 + 1 + 1, 0, none⟩) 2 2] 23) ∧
    TupsAt w5 w5.heap.size (some ⟨w.heap.size + 1 + 1 + 1 + 1, 0, none⟩) 4 [[4], [0, 3], [0, 0, -1], [1, 1]] ∧ Below w.heap.size w w5 := by
  obtain ⟨u1, h1⟩ : ∃ u, u = w.alloc (.cells #[.int .i64 4] 3) := ⟨_, rfl⟩
  obtain ⟨u2, h2⟩ : ∃ u, u = u1.alloc (.cells #[.int .i64 0, .int .i64 3] 3) := ⟨_, rfl⟩
  obtain ⟨u3, h3⟩ : ∃ u, u = u2.alloc (.cells #[.int .i64 0, .int .i64 0, .int .i64 (-1)] 3) := ⟨_, rfl⟩
  obtain ⟨u4, h4⟩ : ∃ u, u = u3.alloc (.cells #[.int .i64 1, .int .i64 1] 3) := ⟨_, rfl⟩
  have s1 : u1.heap.size = w.heap.size + 1 := by rw [h1]; simp
  have s2 : u2.heap.size = w.heap.size + 1 + 1 := by rw [h2]; simp; omega
  have s3 : u3.heap.size = w.heap.size + 1 + 1 + 1 := by rw [h3]; simp; omega
  have s4 : u4.heap.size = w.heap.size + 1 + 1 + 1 + 1 := by rw [h4]; simp; omega
  have i1 : RowIn u1 u1.heap.size (some ⟨w.heap.size, 0, none⟩) 1 1 [4] := by rw [h1]; exact RowIn.news w [4] (by decide)
  have i2 : RowIn u2 u2.heap.size (some ⟨w.heap.size + 1, 0, none⟩) 2 2 [0, 3] := by rw [h2, ← s1]; exact RowIn.news u1 [0, 3] (by decide)
  have i3 : RowIn u3 u3.heap.size (some ⟨w.heap.size + 1 + 1, 0, none⟩) 3 3 [0, 0, -1] := by rw [h3, ← s2]; exact RowIn.news u2 [0, 0, -1] (by decide)
  have i4 : RowIn u4 u4.heap.size (some ⟨w.heap.size + 1 + 1 + 1, 0, none⟩) 2 2 [1, 1] := by rw [h4, ← s3]; exact RowIn.news u3 [1, 1] (by decide)
  have b1 := below_new w (.cells #[.int .i64 4] 3)
  have b2 := below_new u1 (.cells #[.int .i64 0, .int .i64 3] 3)
  have b3 := below_new u2 (.cells #[.int .i64 0, .int .i64 0, .int .i64 (-1)] 3)
  have b4 := below_new u3 (.cells #[.int .i64 1, .int .i64 1] 3)
  rw [← h1] at b1
  rw [← h2] at b2
  rw [← h3] at b3
  rw [← h4] at b4
  have ht := tups_new (w := u4) (us := [.slice (some ⟨w.heap.size, 0, none⟩) 1 1, .slice (some ⟨w.heap.size + 1, 0, none⟩) 2 2, .slice (some ⟨w.heap.size + 1 + 1, 0, none⟩) 3 3, .slice (some ⟨w.heap.size + 1 + 1 + 1, 0, none⟩) 2 2]) (ts := [[4], [0, 3], [0, 0, -1], [1, 1]]) (n := 4) rfl rfl (fun i hi => by
    match i, hi with
    | 0, _ => exact ⟨_, _, rfl, ((i1.on b2).on b3).on b4, fun e => by cases e⟩
    | 1, _ => exact ⟨_, _, rfl, (i2.on b3).on b4, fun e => by cases e⟩
    | 2, _ => exact ⟨_, _, rfl, i3.on b4, fun e => by cases e⟩
    | 3, _ => exact ⟨_, _, rfl, i4, fun e => by cases e⟩)
  rw [← h1, ← h2, ← h3, ← h4]
  have b5 := below_new u4 (.cells #[.slice (some ⟨w.heap.size, 0, none⟩) 1 1, .slice (some ⟨w.heap.size + 1, 0, none⟩) 2 2, .slice (some ⟨w.heap.size + 1 + 1, 0, none⟩) 3 3, .slice (some ⟨w.heap.size + 1 + 1 + 1, 0, none⟩) 2 2] 23)
  refine ⟨_, rfl, ?_, (((b1.trans (b2.mono (by omega))).trans (b3.mono (by omega))).trans (b4.mono (by omega))).trans (b5.mono (by omega))⟩
  rw [← s4]; exact ht

/-- What is put in for variable 0 alone. -/
def onlyZ (t : List Int) (v : Nat) : List Int := if v = 0 then t else [-1 - (v : Int)]
theorem onlyZ_sub {V : Nat} {ss : List Sym} {t : List Int} (h : trm V ss t 1) : Sub V ss (onlyZ t) := by
  intro v hv
  unfold onlyZ
  by_cases e : v = 0
  · rw [if_pos e]; exact h
  · rw [if_neg e]; exact trm_var hv
theorem aw_t1 : trm 48 wordsL [1] 1 := trm_wide (trm_of_tl (ms := [(1, 1)]) (by decide +kernel)) (by omega)
theorem aw_t31 : trm 48 wordsL [3, 1] 1 := trm_wide (trm_of_tl (ms := [(2, 2)]) (by decide +kernel)) (by omega)
theorem aw_find0 : FindR wordsL [[1], [], [3, -1], [-1]] [3, 1] 0 [2, 3] 0 := by
  refine .inr ⟨by decide +kernel, rfl, ?_⟩
  have h0 : ¬ Hit wordsL [3, 1] 0 [1] := by
    rintro ⟨_, _, hm⟩
    obtain ⟨θ, _, h⟩ := meets_zero.1 hm
    have e1 : (restP wordsL [1]).2 = [1] := by decide +kernel
    have e2 : farR 24 (restP wordsL [3, 1]).2 = [3, 1] := by decide +kernel
    rw [e1, e2, ap_sym (by omega), ap_sym (by omega), ap_sym (by omega)] at h
    cases h
  have h2 : Hit wordsL [3, 1] 0 [3, -1] := by
    refine ⟨by simp, by decide +kernel, meets_zero.2 ⟨onlyZ [1], onlyZ_sub aw_t1, ?_⟩⟩
    have e1 : (restP wordsL [3, -1]).2 = [3, -1] := by decide +kernel
    have e2 : farR 24 (restP wordsL [3, 1]).2 = [3, 1] := by decide +kernel
    rw [e1, e2]; decide +kernel
  have h3 : Hit wordsL [3, 1] 0 [-1] := by
    refine ⟨by simp, by decide +kernel, meets_zero.2 ⟨onlyZ [3, 1], onlyZ_sub aw_t31, ?_⟩⟩
    have e1 : (restP wordsL [-1]).2 = [-1] := by decide +kernel
    have e2 : farR 24 (restP wordsL [3, 1]).2 = [3, 1] := by decide +kernel
    rw [e1, e2]; decide +kernel
  exact .yes (k := 3) (out := [2]) (.yes (k := 2) (out := []) (.no (k := 1) (.no (k := 0) .zero h0) (fun h => h.1 rfl)) h2) h3
theorem aw_find2 : FindR wordsL [[1], [], [3, -1], [-1]] [3, 1] 2 [2, 3] 0 := by
  refine .inr ⟨by decide +kernel, rfl, ?_⟩
  have h0 : ¬ Hit wordsL [3, 1] 2 [1] := by
    rintro ⟨_, _, hm⟩
    have := meets_two.1 hm
    revert this; decide +kernel
  have h2 : Hit wordsL [3, 1] 2 [3, -1] := ⟨by simp, by decide +kernel, meets_two.2 (by decide +kernel)⟩
  have h3 : Hit wordsL [3, 1] 2 [-1] := ⟨by simp, by decide +kernel, meets_two.2 (by decide +kernel)⟩
  exact .yes (k := 3) (out := [2]) (.yes (k := 2) (out := []) (.no (k := 1) (.no (k := 0) .zero h0) (fun h => h.1 rfl)) h2) h3
theorem aw_find3 : FindR wordsL [] [1] 3 [] 1200 := .inl ⟨by decide +kernel, rfl, rfl⟩
theorem aw_pths : pathsV wordsL [4, 3, -1, 1] = [[4], [0, 3], [0, 0, -1], [1, 1]] ∧ pathsE wordsL [4, 3, -1, 1] = 0 := by decide +kernel
/-- Find, where what it answers is known. -/
theorem FindPost.eqs {ss : List Sym} {ts : List (List Int)} {t : List Int} {way E : Int} {out : List Int} {w w' : World} {e : Ending} (h : FindPost ss ts t way w e w') (k : FindR ss ts t way out E) :
    ∃ v, e = .returned (.tuple #[v, .int .i64 E]) ∧ OwnI w' w.heap.size v out ∧ Below w.heap.size w w' := by
  obtain ⟨v, out', E', h1, h2, h3, h4⟩ := h
  obtain ⟨rfl, rfl⟩ := h3.unique k
  exact ⟨v, h1, h2, h4⟩

set_option maxHeartbeats 4000000 in
theorem awakeR_any (w : World) : Calls Try.prog 16 #[] w fun e w' => e = .returned (.bool true) ∧ Below w.heap.size w w' := by
  go_enter Try.func16, Try.ntmps16
  go_wp2_with fail
  refine (words_any _).mono ?_
  rintro e w1 ⟨A1, rfl, hs1, hb1⟩
  have HS1 := Lib.hid hs1
  have HB1 := Lib.hid hb1
  clear hs1 hb1
  go_wp2_with fail
  refine (paths_any A1 (some ⟨w1.heap.size, 0, none⟩) 7 7 4 4 wordsL [4, 3, -1, 1] _ (HS1.out.on (below_new _ _)) (by unfold maxLen; omega) (Nat.le_refl _) (IntsAt.news w1 [4, 3, -1, 1]) (by unfold maxLen; omega) (Nat.le_refl _)).mono ?_
  rintro e w2 ⟨v2, rfl, hv2, hb2⟩
  rw [aw_pths.1] at hv2
  rw [aw_pths.2]
  have hb12 : Below w1.heap.size w1 w2 := (below_new w1 _).trans (hb2.mono (by simp))
  have HB2 := Lib.hid (HB1.out.trans (hb12.mono HB1.out.size))
  obtain ⟨A2, c2, rfl, hc2, ht2, hz2⟩ := hv2.tupsAt (by decide)
  have HT2 := Lib.hid ht2
  clear hv2 hb2 hb12 hz2 hc2 ht2
  go_wp2_with fail
  refine (words_any _).mono ?_
  rintro e w3 ⟨A3, rfl, hs3, hb3⟩
  have HB3 := Lib.hid (HB2.out.trans (hb3.mono HB2.out.size))
  replace HT2 := Lib.hid (HT2.out.on hb3)
  clear hb3
  have HS3 := Lib.hid hs3
  clear hs3
  obtain ⟨w4, hw4, ht4, hi4, hb4⟩ := aw_rows w3
  have HT4 := Lib.hid ht4
  have HI4 := Lib.hid hi4
  have HB4 := Lib.hid (HB3.out.trans (hb4.mono HB3.out.size))
  replace HS3 := Lib.hid (HS3.out.on hb4)
  replace HT2 := Lib.hid (HT2.out.on hb4)
  clear hb4 ht4 hi4
  go_wp2_with fail
  rw [← hw4]
  clear hw4
  refine (find_any A3 (some ⟨w3.heap.size + 1 + 1 + 1, 0, none⟩) (some ⟨w3.heap.size + 1 + 1 + 1 + 1, 0, none⟩) 7 7 4 4 2 2 0 wordsL [[1], [], [3, -1], [-1]] [3, 1] w4 HS3.out (by unfold maxLen; omega) (Nat.le_refl _) HT4.out (by omega) HI4.out (by unfold maxLen; omega) (Nat.le_refl _)).mono ?_
  rintro e w5 hp5
  obtain ⟨v5, rfl, hv5, hb5⟩ := hp5.eqs aw_find0
  have HB5 := Lib.hid (HB4.out.trans (hb5.mono HB4.out.size))
  replace HT2 := Lib.hid (HT2.out.on hb5)
  obtain ⟨A5, c5, rfl, hc5, hi5⟩ := hv5.intsAt
  have HI5 := Lib.hid hi5
  clear hp5 hv5 hb5 hc5
  go_wp2_with fail
  refine (words_any _).mono ?_
  rintro e w6 ⟨A6, rfl, hs6, hb6⟩
  have HB6 := Lib.hid (HB5.out.trans (hb6.mono HB5.out.size))
  replace HT2 := Lib.hid (HT2.out.on hb6)
  replace HI5 := Lib.hid (HI5.out.on hb6)
  clear hb6
  have HS6 := Lib.hid hs6
  clear hs6
  obtain ⟨w7, hw7, ht7, hi7, hb7⟩ := aw_rows w6
  have HT7 := Lib.hid ht7
  have HI7 := Lib.hid hi7
  have HB7 := Lib.hid (HB6.out.trans (hb7.mono HB6.out.size))
  replace HS6 := Lib.hid (HS6.out.on hb7)
  replace HT2 := Lib.hid (HT2.out.on hb7)
  replace HI5 := Lib.hid (HI5.out.on hb7)
  clear hb7 ht7 hi7
  go_wp2_with fail
  rw [← hw7]
  clear hw7
  refine (find_any A6 (some ⟨w6.heap.size + 1 + 1 + 1, 0, none⟩) (some ⟨w6.heap.size + 1 + 1 + 1 + 1, 0, none⟩) 7 7 4 4 2 2 2 wordsL [[1], [], [3, -1], [-1]] [3, 1] w7 HS6.out (by unfold maxLen; omega) (Nat.le_refl _) HT7.out (by omega) HI7.out (by unfold maxLen; omega) (Nat.le_refl _)).mono ?_
  rintro e w8 hp8
  obtain ⟨v8, rfl, hv8, hb8⟩ := hp8.eqs aw_find2
  have HB8 := Lib.hid (HB7.out.trans (hb8.mono HB7.out.size))
  replace HT2 := Lib.hid (HT2.out.on hb8)
  replace HI5 := Lib.hid (HI5.out.on hb8)
  obtain ⟨A8, c8, rfl, hc8, hi8⟩ := hv8.intsAt
  have HI8 := Lib.hid hi8
  clear hp8 hv8 hb8 hc8
  go_wp2_with fail
  refine (words_any _).mono ?_
  rintro e w9 ⟨A9, rfl, hs9, hb9⟩
  have HB9 := Lib.hid (HB8.out.trans (hb9.mono HB8.out.size))
  replace HT2 := Lib.hid (HT2.out.on hb9)
  replace HI5 := Lib.hid (HI5.out.on hb9)
  replace HI8 := Lib.hid (HI8.out.on hb9)
  clear hb9
  have HS9 := Lib.hid hs9
  clear hs9
  have hb10 := below_new w9 (.cells (intCells [1]).toArray 3)
  have HB10 := Lib.hid (HB9.out.trans (hb10.mono HB9.out.size))
  replace HS9 := Lib.hid (HS9.out.on hb10)
  replace HT2 := Lib.hid (HT2.out.on hb10)
  replace HI5 := Lib.hid (HI5.out.on hb10)
  replace HI8 := Lib.hid (HI8.out.on hb10)
  have HI10 := Lib.hid (IntsAt.news w9 [1])
  clear hb10
  go_wp2_with fail
  refine (find_any A9 none (some ⟨w9.heap.size, 0, none⟩) 7 7 0 0 1 1 3 wordsL [] [1] _ HS9.out (by unfold maxLen; omega) (Nat.le_refl _) TupsAt.nil_ (by omega) HI10.out (by unfold maxLen; omega) (Nat.le_refl _)).mono ?_
  rintro e w11 hp11
  obtain ⟨v11, rfl, hv11, hb11⟩ := hp11.eqs aw_find3
  have HB11 := Lib.hid (HB10.out.trans (hb11.mono HB10.out.size))
  replace HT2 := Lib.hid (HT2.out.on hb11)
  replace HI5 := Lib.hid (HI5.out.on hb11)
  replace HI8 := Lib.hid (HI8.out.on hb11)
  clear hp11 hv11 hb11 HI10
  go_wp2_with (go_at_call 13; refine (num_any _ _).mono ?_; rintro e w' ⟨rfl, rfl⟩)
  obtain ⟨w12, hw12, ht12, hb12⟩ := aw_paths w11
  have HT12 := Lib.hid ht12
  have HB12 := Lib.hid (HB11.out.trans (hb12.mono HB11.out.size))
  replace HT2 := Lib.hid (HT2.out.on hb12)
  replace HI5 := Lib.hid (HI5.out.on hb12)
  replace HI8 := Lib.hid (HI8.out.on hb12)
  clear hb12 ht12
  rw [← hw12]
  clear hw12
  refine (sameRows_true A2 (some ⟨w11.heap.size + 1 + 1 + 1 + 1, 0, none⟩) 4 c2 4 [[4], [0, 3], [0, 0, -1], [1, 1]] w12 HT2.out (by omega) HT12.out).mono ?_
  rintro e w13 ⟨rfl, hb13⟩
  have HB13 := Lib.hid (HB12.out.trans (hb13.mono HB12.out.size))
  replace HI5 := Lib.hid (HI5.out.on hb13)
  replace HI8 := Lib.hid (HI8.out.on hb13)
  clear hb13 HT2 HT12
  go_wp2_with (go_at_call 13; refine (num_any _ _).mono ?_; rintro e w' ⟨rfl, rfl⟩)
  have hb14 := below_new w13 (.cells (intCells [2, 3]).toArray 3)
  have HB14 := Lib.hid (HB13.out.trans (hb14.mono HB13.out.size))
  replace HI8 := Lib.hid (HI8.out.on hb14)
  refine (sameInts_any A5 (some ⟨w13.heap.size, 0, none⟩) 2 c5 2 2 _ _ [2, 3] [2, 3] _ (HI5.out.on hb14) (IntsAt.news w13 [2, 3]) (by unfold maxLen; omega) (by unfold maxLen; omega)).mono ?_
  rintro e w15 ⟨rfl, hb15⟩
  have HB15 := Lib.hid (HB14.out.trans (hb15.mono HB14.out.size))
  replace HI8 := Lib.hid (HI8.out.on hb15)
  clear hb14 hb15
  have e15 : sameI [2, 3] [2, 3] = true := by decide +kernel
  rw [e15]
  clear e15
  go_wp2_with (go_at_call 13; refine (num_any _ _).mono ?_; rintro e w' ⟨rfl, rfl⟩)
  have hb16 := below_new w15 (.cells (intCells [2, 3]).toArray 3)
  have HB16 := Lib.hid (HB15.out.trans (hb16.mono HB15.out.size))
  refine (sameInts_any A8 (some ⟨w15.heap.size, 0, none⟩) 2 c8 2 2 _ _ [2, 3] [2, 3] _ (HI8.out.on hb16) (IntsAt.news w15 [2, 3]) (by unfold maxLen; omega) (by unfold maxLen; omega)).mono ?_
  rintro e w17 ⟨rfl, hb17⟩
  have HB17 := Lib.hid (HB16.out.trans (hb17.mono HB16.out.size))
  clear hb16 hb17
  have e17 : sameI [2, 3] [2, 3] = true := by decide +kernel
  rw [e17]
  clear e17
  go_wp2_with (go_at_call 13; refine (num_any _ _).mono ?_; rintro e w' ⟨rfl, rfl⟩)
  go_ret
  exact ⟨rfl, HB17.out⟩
end Go.Proofs.Ythdpojokogiinaa
