/-
  Contract of quaerelaw11: awake. Written by tools/gen_fact.py.
-/
import Derived.Test.YthnjpkghjkhjdaaFactPut
import Derived.Test.YthnjpkghjkhjdaaFactCut
import Derived.Test.YthnjpkghjkhjdaaFactNew
import Derived.Test.YthnjpkghjkhjdaaFactLaw
namespace Go.Proofs.Ythnjpkghjkhjdaa
open Go.RowKit Go.Deep
set_option linter.unusedSimpArgs false
set_option linter.unusedVariables false
set_option maxRecDepth 100000

theorem len2 : (2 : Nat) ≤ maxLen := len_small (by decide)
/-- An empty box. -/
structure ZBx (w : World) (g : Nat) : Prop where
  z : w.heap[g]? = some (.cells #[.slice none 0 0, .slice none 0 0] 26 (0, 0))
theorem ZBx.on {w w' : World} {g : Nat} (h : ZBx w g) (hb : Below w.heap.size w w') : ZBx w' g := ⟨by rw [hb.block g (Array.getElem?_eq_some_iff.1 h.z).1]; exact h.z⟩
theorem ZBx.new (w : World) : ZBx (w.alloc (.cells #[.slice none 0 0, .slice none 0 0] 26)) w.heap.size := ⟨heap_alloc_new _ _⟩
theorem TBox.of_store {w w2 : World} {base g : Nat} {T : Tb} {D F : Option Addr} {n d k f : Nat} (h : OwnTs w base (.agg #[.slice D n d, .slice F k f]) T) (hf : TFit T) (hg : w2.heap[g]? = some (.cells #[.slice D n d, .slice F k f] 26 (0, 0))) (hc : Chg [26] g w w2) : ∃ x, TBox w2 g x T := by
  obtain ⟨x, e, hx⟩ := (h.chg hc).tab hf
  simp only [Value.agg.injEq, Array.mk.injEq, List.cons.injEq, Value.slice.injEq, and_true] at e
  refine ⟨x, (Array.getElem?_eq_some_iff.1 hg).1, ?_, ?_, hx⟩
  · rw [cell_of_row _ _ 0 _ _ _ hg]; simp [e]
  · rw [cell_of_row _ _ 1 _ _ _ hg]; simp [e]
def awT : Tb := putT newT [5, 1] 0
def awC : Tb := cutT awT 0 29 29
theorem aw_fact : factB wordsL [5, 1] = true := by decide +kernel
theorem aw_bad : factB wordsL [5, -1] = false := by decide +kernel
theorem aw_hash : hashV wordsL [5, 1] = 861 ∧ hashE wordsL [5, 1] = 0 := by
  obtain ⟨h1, h2⟩ := hash_yes aw_fact
  exact ⟨by rw [h1]; decide +kernel, h2⟩
theorem aw_new : TabOk (factB wordsL) newT := newT_ok
theorem aw_ok : TabOk (factB wordsL) awT := aw_new.put aw_fact (by simp [newT]) (by decide) (by decide +kernel) (fun e he => absurd he (Nat.not_lt_zero _))
theorem aw_ok2 : TabOk (factB wordsL) awC := aw_ok.cut (k := 0) (p := 29) (q := 29) (by decide +kernel) (by omega) (by omega) (by decide +kernel) (by decide +kernel)
theorem aw_facts : awT.facts = [[5, 1]] := rfl
theorem aw_facts2 : awC.facts = [] := rfl
theorem aw_tab1 : tabB wordsL newT = true := tabB_yes may_words aw_new
theorem aw_tab2 : tabB wordsL awT = true := tabB_yes may_words aw_ok
theorem aw_tab3 : tabB wordsL awC = true := tabB_yes may_words aw_ok2
theorem aw_put : PutX wordsL newT [5, 1] awT true 0 := .done (okT_yes aw_tab1 aw_fact) (by simp [newT]) (by decide) 0 (by decide +kernel) (fun e he => absurd he (Nat.not_lt_zero _))
theorem aw_cut : CutX wordsL awT [5, 1] awC true 0 := .done (okT_yes aw_tab2 aw_fact) 0 29 29 (by decide +kernel) (by decide +kernel) (by omega) (by omega) (by decide +kernel) (by decide +kernel)
theorem aw_put2 : PutX wordsL newT [5, -1] ⟨[], []⟩ false 1100 := .bad (okT_no2 aw_bad)
theorem aw_has : hasV' wordsL awT [5, 1] = true ∧ hasE wordsL awT [5, 1] = 0 := by
  obtain ⟨h1, h2⟩ := has_yes (okT_yes aw_tab2 aw_fact)
  exact ⟨by rw [h1, aw_facts]; simp, h2⟩
theorem aw_no : hasV' wordsL awC [5, 1] = false ∧ hasE wordsL awC [5, 1] = 0 := by
  obtain ⟨h1, h2⟩ := has_yes (okT_yes aw_tab3 aw_fact)
  exact ⟨by rw [h1, aw_facts2]; simp, h2⟩
theorem fit_new : TFit newT := aw_new.small.fit
theorem fit_T : TFit awT := aw_ok.small.fit
theorem fit_C : TFit awC := aw_ok2.small.fit
theorem fit_zero : TFit ⟨[], []⟩ := TSmall.zero.fit
set_option maxHeartbeats 16000000 in
theorem awakeF_any (w : World) : Calls Try.prog 20 #[] w fun e w' => e = .returned (.bool true) ∧ Below w.heap.size w w' := by
  go_enter Try.func20, Try.ntmps20
  go_wp2_with fail
  refine (newT_any w).mono ?_
  rintro e w1 ⟨v1, rfl, hv1, hb1⟩
  obtain ⟨x1, rfl, ht1⟩ := hv1.tab fit_new
  have HT1 := Lib.hid ht1
  have HB1 := Lib.hid hb1
  clear hv1 hb1 ht1
  go_wp2_with (refine store_box rfl 26 (.tmp 1) (.tmp 17) rfl rfl w1.heap.size _ _ rfl rfl (heap_alloc_new w1 (.cells #[.slice none 0 0, .slice none 0 0] 26)) rfl (by as_aux_lemma => kernel_rfl) two_one ?_
               intro w2 hg2 hc2 hs2
               obtain ⟨hx2, hb2⟩ := TBox.made HT1.out hg2 hc2
               have HT := Lib.hid hx2
               have HB2 := Lib.hid (HB1.out.trans (hb2.mono HB1.out.size))
               clear hg2 hc2 hs2 hx2 hb2)
  obtain ⟨g1, hg1⟩ : ∃ g1, g1 = w1.heap.size := ⟨_, rfl⟩
  rw [← hg1] at HT ⊢
  clear hg1 HT1 HB1
  refine (words_any _).mono ?_
  rintro e w3 ⟨A3, rfl, hs3, hb3⟩
  have hbn := below_new w3 (.cells #[.int .i64 5, .int .i64 1] 3)
  have HB3 := Lib.hid (HB2.out.trans ((hb3.trans (hbn.mono hb3.size)).mono HB2.out.size))
  replace HT := Lib.hid (HT.out.on (hb3.trans (hbn.mono hb3.size)))
  have HS := Lib.hid (hs3.on hbn)
  clear hs3 hb3 hbn HB2
  go_wp2_with fail
  refine (hashFact_any A3 _ 7 7 2 2 wordsL [5, 1] _ HS.out len7 (Nat.le_refl _) (IntsAt.news w3 [5, 1]) len2 (Nat.le_refl _)).mono ?_
  rintro e y0 ⟨rfl, hb4⟩
  rw [aw_hash.1, aw_hash.2]
  have HBY := Lib.hid (HB3.out.trans (hb4.mono HB3.out.size))
  replace HT := Lib.hid (HT.out.on hb4)
  clear hb4 HS HB3
  go_upto_region 3 with (fail)
  go_cut [4, 5, 6] (fun sa sb sc wx => ∃ g x, sa = .pointer (some ⟨g, 0, none⟩) ∧ sb = .bool true ∧ sc = .int .i64 0 ∧ TBox wx g x awT ∧ TBox wx g1 x1 newT ∧ Below w.heap.size w wx)
  case first =>
    have p0 := HT.out.c0
    have p1 := HT.out.c1
    go_wp2_with fail
    refine wp_region_held_drew (S := (fun w' => w'.cell? ⟨g1, 0, none⟩ = some (.slice x1.A1 x1.n1 x1.c1) ∧ w'.cell? ⟨g1, 1, none⟩ = some (.slice x1.A2 x1.n2 x1.c2))) (by as_aux_lemma => kernel_rfl) ⟨p0, p1⟩ (fun hHeld => ?_)
    have hd : Below y0.heap.size y0 y0.drew := (Below.refl y0.heap.size y0).drew
    obtain ⟨y1, hy1⟩ : ∃ y1, y1 = y0.drew := ⟨_, rfl⟩
    rw [← hy1] at hd hHeld ⊢
    have HB1 := Lib.hid hd
    clear hy1 hd p0 p1
    refine takeH (i := 1) (v := ?_) rfl rfl (by as_aux_lemma => kernel_rfl) (by as_aux_lemma => kernel_rfl) (by as_aux_lemma => kernel_rfl) (fun _ _ _ h => h) (by rfl) ?_ hHeld ?_
    rotate_left
    · (intro w hSw; (try dsimp only at hSw); first | (go_simp; done) | (go_simp; with_reducible rfl))
    simp only [Act.put, List.setIfInBounds_toArray, List.set_cons_zero, List.set_cons_succ]
    refine wpAnyH_ready (rs := [0, 2, 8]) (by as_aux_lemma => kernel_rfl) (by simp) ?_
    refine AllReadyH.cons rfl (fun K hK => ?_) (AllReadyH.cons rfl (fun K hK => ?_) (AllReadyH.cons rfl (fun K hK => ?_) AllReadyH.nil))
    · go_simp
      refine (words_any _).mono ?_
      rintro e y2 ⟨A2, rfl, hs2, hb2⟩
      have HB2 := Lib.hid (HB1.out.trans (hb2.mono HB1.out.size))
      have HS := Lib.hid hs2
      clear hs2 hb2
      go_wp2_with fail
      refine hK.out _ _ ?_ (fun hHeld => ?_)
      · exact ⟨(HT.out.on HB2.out).c0, (HT.out.on HB2.out).c1⟩
      clear hK K
      refine wpAnyH_ready (rs := [2, 8]) (by as_aux_lemma => kernel_rfl) (by simp) ?_
      refine AllReadyH.cons rfl (fun K hK => ?_) (AllReadyH.cons rfl (fun K hK => ?_) AllReadyH.nil)
      · go_simp
        have hb3 := below_new y2 (.cells #[.int .i64 5, .int .i64 1] 3)
        have HI := Lib.hid (IntsAt.news y2 [5, 1])
        have HB3 := Lib.hid (HB2.out.trans (hb3.mono HB2.out.size))
        replace HS := Lib.hid (HS.out.on hb3)
        obtain ⟨y3, hy3⟩ : ∃ u, u = y2.alloc (.cells #[.int .i64 5, .int .i64 1] 3) := ⟨_, rfl⟩
        replace HI : Hid (IntsAt y3 y3.heap.size (some ⟨y2.heap.size, 0, none⟩) 2 [5, 1]) := by rw [hy3]; exact HI.out
        rw [← hy3] at HB3 HS ⊢
        clear hy3 hb3
        refine hK.out _ _ ?_ (fun hHeld => ?_)
        · exact ⟨(HT.out.on HB3.out).c0, (HT.out.on HB3.out).c1⟩
        clear hK K
        refine wpAnyH_ready (rs := [3, 8]) (by as_aux_lemma => kernel_rfl) (by simp) ?_
        refine AllReadyH.cons rfl (fun K hK => ?_) (AllReadyH.cons rfl (fun K hK => ?_) AllReadyH.nil)
        · go_simp
          refine (put_fact A2 _ 7 7 2 2 wordsL x1 newT [5, 1] awT true 0 aw_put y3 HS.out len7 (Nat.le_refl _) (HT.out.on HB3.out).tb HI.out len2 (Nat.le_refl _)).mono ?_
          rintro e y4 ⟨v, rfl, hv, hb4⟩
          obtain ⟨D, d, F, f, rfl⟩ := hv.parts
          have HO := Lib.hid hv
          have HB4 := Lib.hid (HB3.out.trans (hb4.mono HB3.out.size))
          replace HS := Lib.hid (HS.out.on hb4)
          replace HI := Lib.hid (HI.out.on hb4)
          clear hv hb4 HS HI
          go_wp2_with fail
          refine hK.out _ _ ?_ (fun hHeld => ?_)
          · exact ⟨(HT.out.on HB4.out).c0, (HT.out.on HB4.out).c1⟩
          clear hK K
          refine takeH (i := 4) (v := ?_) rfl rfl (by as_aux_lemma => kernel_rfl) (by as_aux_lemma => kernel_rfl) (by as_aux_lemma => kernel_rfl) (fun _ _ _ h => h) (by rfl) ?_ hHeld ?_
          rotate_left
          · (intro w hSw; (try dsimp only at hSw); first | (go_simp; done) | (go_simp; with_reducible rfl))
          simp only [Act.put, List.setIfInBounds_toArray, List.set_cons_zero, List.set_cons_succ]
          refine takeH (i := 5) (v := ?_) rfl rfl (by as_aux_lemma => kernel_rfl) (by as_aux_lemma => kernel_rfl) (by as_aux_lemma => kernel_rfl) (fun _ _ _ h => h) (by rfl) ?_ hHeld ?_
          rotate_left
          · (intro w hSw; (try dsimp only at hSw); first | (go_simp; done) | (go_simp; with_reducible rfl))
          simp only [Act.put, List.setIfInBounds_toArray, List.set_cons_zero, List.set_cons_succ]
          refine takeH (i := 6) (v := ?_) rfl rfl (by as_aux_lemma => kernel_rfl) (by as_aux_lemma => kernel_rfl) (by as_aux_lemma => kernel_rfl) (fun _ _ _ h => h) (by rfl) ?_ hHeld ?_
          rotate_left
          · (intro w hSw; (try dsimp only at hSw); first | (go_simp; done) | (go_simp; with_reducible rfl))
          simp only [Act.put, List.setIfInBounds_toArray, List.set_cons_zero, List.set_cons_succ]
          refine takeH (i := 7) (v := ?_) rfl rfl (by as_aux_lemma => kernel_rfl) (by as_aux_lemma => kernel_rfl) (by as_aux_lemma => kernel_rfl) (fun _ _ _ h => h) (by rfl) ?_ hHeld ?_
          rotate_left
          · (intro w hSw; (try dsimp only at hSw); first | (go_simp; done) | (go_simp; with_reducible rfl))
          simp only [Act.put, List.setIfInBounds_toArray, List.set_cons_zero, List.set_cons_succ]
          refine wpAnyH_ready (rs := [8]) (by as_aux_lemma => kernel_rfl) (by simp) ?_
          refine AllReadyH.cons rfl (fun K hK => ?_) AllReadyH.nil
          go_simp
          have hb5 := below_new y4 (.cells #[.slice none 0 0, .slice none 0 0] 26)
          have HZ := Lib.hid (ZBx.new y4)
          have HB5 := Lib.hid (HB4.out.trans (hb5.mono HB4.out.size))
          replace HO := Lib.hid (HO.out.on hb5)
          obtain ⟨y5, hy5⟩ : ∃ u, u = y4.alloc (.cells #[.slice none 0 0, .slice none 0 0] 26) := ⟨_, rfl⟩
          replace HZ : Hid (ZBx y5 y4.heap.size) := by rw [hy5]; exact HZ.out
          have hgw : y0.heap.size ≤ y4.heap.size := HB4.out.size
          rw [← hy5] at HB5 HO ⊢
          clear hy5 hb5
          refine hK.out _ _ ?_ (fun hHeld => ?_)
          · exact ⟨(HT.out.on HB5.out).c0, (HT.out.on HB5.out).c1⟩
          clear hK K
          refine wpAnyH_ready (rs := [9]) (by as_aux_lemma => kernel_rfl) (by simp) ?_
          refine AllReadyH.cons rfl (fun K hK => ?_) AllReadyH.nil
          refine store_box_step rfl 26 (.tmp 4) (.tmp 29) rfl rfl y4.heap.size _ _ rfl rfl HZ.out.z rfl (by as_aux_lemma => kernel_rfl) two_one ?_
          intro z9 hg9 hc9 hs9
          have HBX := Lib.hid (TBox.of_store HO.out fit_T hg9 hc9)
          have HB99 := Lib.hid (HB5.out.trans (hc9.bel.mono hgw))
          clear hg9 hc9 hs9
          refine hK.out _ _ ?_ (fun hHeld => ?_)
          · exact ⟨(HT.out.on HB99.out).c0, (HT.out.on HB99.out).c1⟩
          clear hK K
          refine takeH (i := 10) (v := ?_) rfl rfl (by as_aux_lemma => kernel_rfl) (by as_aux_lemma => kernel_rfl) (by as_aux_lemma => kernel_rfl) (fun _ _ _ h => h) (by rfl) ?_ hHeld ?_
          rotate_left
          · (intro w hSw; (try dsimp only at hSw); first | (go_simp; done) | (go_simp; with_reducible rfl))
          simp only [Act.put, List.setIfInBounds_toArray, List.set_cons_zero, List.set_cons_succ]
          refine takeH (i := 11) (v := ?_) rfl rfl (by as_aux_lemma => kernel_rfl) (by as_aux_lemma => kernel_rfl) (by as_aux_lemma => kernel_rfl) (fun _ _ _ h => h) (by rfl) ?_ hHeld ?_
          rotate_left
          · (intro w hSw; (try dsimp only at hSw); first | (go_simp; done) | (go_simp; with_reducible rfl))
          simp only [Act.put, List.setIfInBounds_toArray, List.set_cons_zero, List.set_cons_succ]
          refine wpAnyH_done (by as_aux_lemma => kernel_rfl) ?_ _
          go_wp2
          go_meet
          case rel =>
            obtain ⟨x, hx⟩ := HBX.out
            exact ⟨y4.heap.size, x, rfl, rfl, rfl, hx, HT.out.on HB99.out, HBY.out.trans (HB99.out.mono HBY.out.size)⟩
        · go_simp
          have hb4 := below_new y3 (.cells #[.slice none 0 0, .slice none 0 0] 26)
          have HZ := Lib.hid (ZBx.new y3)
          have HB4 := Lib.hid (HB3.out.trans (hb4.mono HB3.out.size))
          replace HS := Lib.hid (HS.out.on hb4)
          replace HI := Lib.hid (HI.out.on hb4)
          obtain ⟨y4, hy4⟩ : ∃ u, u = y3.alloc (.cells #[.slice none 0 0, .slice none 0 0] 26) := ⟨_, rfl⟩
          replace HZ : Hid (ZBx y4 y3.heap.size) := by rw [hy4]; exact HZ.out
          have hgw : y0.heap.size ≤ y3.heap.size := HB3.out.size
          rw [← hy4] at HB4 HS HI ⊢
          clear hy4 hb4
          refine hK.out _ _ ?_ (fun hHeld => ?_)
          · exact ⟨(HT.out.on HB4.out).c0, (HT.out.on HB4.out).c1⟩
          clear hK K
          refine wpAnyH_ready (rs := [3]) (by as_aux_lemma => kernel_rfl) (by simp) ?_
          refine AllReadyH.cons rfl (fun K hK => ?_) AllReadyH.nil
          go_simp
          refine (put_fact A2 _ 7 7 2 2 wordsL x1 newT [5, 1] awT true 0 aw_put y4 HS.out len7 (Nat.le_refl _) (HT.out.on HB4.out).tb HI.out len2 (Nat.le_refl _)).mono ?_
          rintro e y5 ⟨v, rfl, hv, hb5⟩
          obtain ⟨D, d, F, f, rfl⟩ := hv.parts
          have HO := Lib.hid hv
          have HB5 := Lib.hid (HB4.out.trans (hb5.mono HB4.out.size))
          replace HS := Lib.hid (HS.out.on hb5)
          replace HI := Lib.hid (HI.out.on hb5)
          replace HZ := Lib.hid (HZ.out.on hb5)
          clear hv hb5 HS HI
          go_wp2_with fail
          refine hK.out _ _ ?_ (fun hHeld => ?_)
          · exact ⟨(HT.out.on HB5.out).c0, (HT.out.on HB5.out).c1⟩
          clear hK K
          refine takeH (i := 4) (v := ?_) rfl rfl (by as_aux_lemma => kernel_rfl) (by as_aux_lemma => kernel_rfl) (by as_aux_lemma => kernel_rfl) (fun _ _ _ h => h) (by rfl) ?_ hHeld ?_
          rotate_left
          · (intro w hSw; (try dsimp only at hSw); first | (go_simp; done) | (go_simp; with_reducible rfl))
          simp only [Act.put, List.setIfInBounds_toArray, List.set_cons_zero, List.set_cons_succ]
          refine takeH (i := 5) (v := ?_) rfl rfl (by as_aux_lemma => kernel_rfl) (by as_aux_lemma => kernel_rfl) (by as_aux_lemma => kernel_rfl) (fun _ _ _ h => h) (by rfl) ?_ hHeld ?_
          rotate_left
          · (intro w hSw; (try dsimp only at hSw); first | (go_simp; done) | (go_simp; with_reducible rfl))
          simp only [Act.put, List.setIfInBounds_toArray, List.set_cons_zero, List.set_cons_succ]
          refine takeH (i := 6) (v := ?_) rfl rfl (by as_aux_lemma => kernel_rfl) (by as_aux_lemma => kernel_rfl) (by as_aux_lemma => kernel_rfl) (fun _ _ _ h => h) (by rfl) ?_ hHeld ?_
          rotate_left
          · (intro w hSw; (try dsimp only at hSw); first | (go_simp; done) | (go_simp; with_reducible rfl))
          simp only [Act.put, List.setIfInBounds_toArray, List.set_cons_zero, List.set_cons_succ]
          refine takeH (i := 7) (v := ?_) rfl rfl (by as_aux_lemma => kernel_rfl) (by as_aux_lemma => kernel_rfl) (by as_aux_lemma => kernel_rfl) (fun _ _ _ h => h) (by rfl) ?_ hHeld ?_
          rotate_left
          · (intro w hSw; (try dsimp only at hSw); first | (go_simp; done) | (go_simp; with_reducible rfl))
          simp only [Act.put, List.setIfInBounds_toArray, List.set_cons_zero, List.set_cons_succ]
          refine wpAnyH_ready (rs := [9]) (by as_aux_lemma => kernel_rfl) (by simp) ?_
          refine AllReadyH.cons rfl (fun K hK => ?_) AllReadyH.nil
          refine store_box_step rfl 26 (.tmp 4) (.tmp 29) rfl rfl y3.heap.size _ _ rfl rfl HZ.out.z rfl (by as_aux_lemma => kernel_rfl) two_one ?_
          intro z9 hg9 hc9 hs9
          have HBX := Lib.hid (TBox.of_store HO.out fit_T hg9 hc9)
          have HB99 := Lib.hid (HB5.out.trans (hc9.bel.mono hgw))
          clear hg9 hc9 hs9
          refine hK.out _ _ ?_ (fun hHeld => ?_)
          · exact ⟨(HT.out.on HB99.out).c0, (HT.out.on HB99.out).c1⟩
          clear hK K
          refine takeH (i := 10) (v := ?_) rfl rfl (by as_aux_lemma => kernel_rfl) (by as_aux_lemma => kernel_rfl) (by as_aux_lemma => kernel_rfl) (fun _ _ _ h => h) (by rfl) ?_ hHeld ?_
          rotate_left
          · (intro w hSw; (try dsimp only at hSw); first | (go_simp; done) | (go_simp; with_reducible rfl))
          simp only [Act.put, List.setIfInBounds_toArray, List.set_cons_zero, List.set_cons_succ]
          refine takeH (i := 11) (v := ?_) rfl rfl (by as_aux_lemma => kernel_rfl) (by as_aux_lemma => kernel_rfl) (by as_aux_lemma => kernel_rfl) (fun _ _ _ h => h) (by rfl) ?_ hHeld ?_
          rotate_left
          · (intro w hSw; (try dsimp only at hSw); first | (go_simp; done) | (go_simp; with_reducible rfl))
          simp only [Act.put, List.setIfInBounds_toArray, List.set_cons_zero, List.set_cons_succ]
          refine wpAnyH_done (by as_aux_lemma => kernel_rfl) ?_ _
          go_wp2
          go_meet
          case rel =>
            obtain ⟨x, hx⟩ := HBX.out
            exact ⟨y3.heap.size, x, rfl, rfl, rfl, hx, HT.out.on HB99.out, HBY.out.trans (HB99.out.mono HBY.out.size)⟩
      · go_simp
        have hb3 := below_new y2 (.cells #[.slice none 0 0, .slice none 0 0] 26)
        have HZ := Lib.hid (ZBx.new y2)
        have HB3 := Lib.hid (HB2.out.trans (hb3.mono HB2.out.size))
        replace HS := Lib.hid (HS.out.on hb3)
        obtain ⟨y3, hy3⟩ : ∃ u, u = y2.alloc (.cells #[.slice none 0 0, .slice none 0 0] 26) := ⟨_, rfl⟩
        replace HZ : Hid (ZBx y3 y2.heap.size) := by rw [hy3]; exact HZ.out
        have hgw : y0.heap.size ≤ y2.heap.size := HB2.out.size
        rw [← hy3] at HB3 HS ⊢
        clear hy3 hb3
        refine hK.out _ _ ?_ (fun hHeld => ?_)
        · exact ⟨(HT.out.on HB3.out).c0, (HT.out.on HB3.out).c1⟩
        clear hK K
        refine wpAnyH_ready (rs := [2]) (by as_aux_lemma => kernel_rfl) (by simp) ?_
        refine AllReadyH.cons rfl (fun K hK => ?_) AllReadyH.nil
        go_simp
        have hb4 := below_new y3 (.cells #[.int .i64 5, .int .i64 1] 3)
        have HI := Lib.hid (IntsAt.news y3 [5, 1])
        have HB4 := Lib.hid (HB3.out.trans (hb4.mono HB3.out.size))
        replace HS := Lib.hid (HS.out.on hb4)
        replace HZ := Lib.hid (HZ.out.on hb4)
        obtain ⟨y4, hy4⟩ : ∃ u, u = y3.alloc (.cells #[.int .i64 5, .int .i64 1] 3) := ⟨_, rfl⟩
        replace HI : Hid (IntsAt y4 y4.heap.size (some ⟨y3.heap.size, 0, none⟩) 2 [5, 1]) := by rw [hy4]; exact HI.out
        rw [← hy4] at HB4 HS HZ ⊢
        clear hy4 hb4
        refine hK.out _ _ ?_ (fun hHeld => ?_)
        · exact ⟨(HT.out.on HB4.out).c0, (HT.out.on HB4.out).c1⟩
        clear hK K
        refine wpAnyH_ready (rs := [3]) (by as_aux_lemma => kernel_rfl) (by simp) ?_
        refine AllReadyH.cons rfl (fun K hK => ?_) AllReadyH.nil
        go_simp
        refine (put_fact A2 _ 7 7 2 2 wordsL x1 newT [5, 1] awT true 0 aw_put y4 HS.out len7 (Nat.le_refl _) (HT.out.on HB4.out).tb HI.out len2 (Nat.le_refl _)).mono ?_
        rintro e y5 ⟨v, rfl, hv, hb5⟩
        obtain ⟨D, d, F, f, rfl⟩ := hv.parts
        have HO := Lib.hid hv
        have HB5 := Lib.hid (HB4.out.trans (hb5.mono HB4.out.size))
        replace HS := Lib.hid (HS.out.on hb5)
        replace HZ := Lib.hid (HZ.out.on hb5)
        replace HI := Lib.hid (HI.out.on hb5)
        clear hv hb5 HS HI
        go_wp2_with fail
        refine hK.out _ _ ?_ (fun hHeld => ?_)
        · exact ⟨(HT.out.on HB5.out).c0, (HT.out.on HB5.out).c1⟩
        clear hK K
        refine takeH (i := 4) (v := ?_) rfl rfl (by as_aux_lemma => kernel_rfl) (by as_aux_lemma => kernel_rfl) (by as_aux_lemma => kernel_rfl) (fun _ _ _ h => h) (by rfl) ?_ hHeld ?_
        rotate_left
        · (intro w hSw; (try dsimp only at hSw); first | (go_simp; done) | (go_simp; with_reducible rfl))
        simp only [Act.put, List.setIfInBounds_toArray, List.set_cons_zero, List.set_cons_succ]
        refine takeH (i := 5) (v := ?_) rfl rfl (by as_aux_lemma => kernel_rfl) (by as_aux_lemma => kernel_rfl) (by as_aux_lemma => kernel_rfl) (fun _ _ _ h => h) (by rfl) ?_ hHeld ?_
        rotate_left
        · (intro w hSw; (try dsimp only at hSw); first | (go_simp; done) | (go_simp; with_reducible rfl))
        simp only [Act.put, List.setIfInBounds_toArray, List.set_cons_zero, List.set_cons_succ]
        refine takeH (i := 6) (v := ?_) rfl rfl (by as_aux_lemma => kernel_rfl) (by as_aux_lemma => kernel_rfl) (by as_aux_lemma => kernel_rfl) (fun _ _ _ h => h) (by rfl) ?_ hHeld ?_
        rotate_left
        · (intro w hSw; (try dsimp only at hSw); first | (go_simp; done) | (go_simp; with_reducible rfl))
        simp only [Act.put, List.setIfInBounds_toArray, List.set_cons_zero, List.set_cons_succ]
        refine takeH (i := 7) (v := ?_) rfl rfl (by as_aux_lemma => kernel_rfl) (by as_aux_lemma => kernel_rfl) (by as_aux_lemma => kernel_rfl) (fun _ _ _ h => h) (by rfl) ?_ hHeld ?_
        rotate_left
        · (intro w hSw; (try dsimp only at hSw); first | (go_simp; done) | (go_simp; with_reducible rfl))
        simp only [Act.put, List.setIfInBounds_toArray, List.set_cons_zero, List.set_cons_succ]
        refine wpAnyH_ready (rs := [9]) (by as_aux_lemma => kernel_rfl) (by simp) ?_
        refine AllReadyH.cons rfl (fun K hK => ?_) AllReadyH.nil
        refine store_box_step rfl 26 (.tmp 4) (.tmp 29) rfl rfl y2.heap.size _ _ rfl rfl HZ.out.z rfl (by as_aux_lemma => kernel_rfl) two_one ?_
        intro z9 hg9 hc9 hs9
        have HBX := Lib.hid (TBox.of_store HO.out fit_T hg9 hc9)
        have HB99 := Lib.hid (HB5.out.trans (hc9.bel.mono hgw))
        clear hg9 hc9 hs9
        refine hK.out _ _ ?_ (fun hHeld => ?_)
        · exact ⟨(HT.out.on HB99.out).c0, (HT.out.on HB99.out).c1⟩
        clear hK K
        refine takeH (i := 10) (v := ?_) rfl rfl (by as_aux_lemma => kernel_rfl) (by as_aux_lemma => kernel_rfl) (by as_aux_lemma => kernel_rfl) (fun _ _ _ h => h) (by rfl) ?_ hHeld ?_
        rotate_left
        · (intro w hSw; (try dsimp only at hSw); first | (go_simp; done) | (go_simp; with_reducible rfl))
        simp only [Act.put, List.setIfInBounds_toArray, List.set_cons_zero, List.set_cons_succ]
        refine takeH (i := 11) (v := ?_) rfl rfl (by as_aux_lemma => kernel_rfl) (by as_aux_lemma => kernel_rfl) (by as_aux_lemma => kernel_rfl) (fun _ _ _ h => h) (by rfl) ?_ hHeld ?_
        rotate_left
        · (intro w hSw; (try dsimp only at hSw); first | (go_simp; done) | (go_simp; with_reducible rfl))
        simp only [Act.put, List.setIfInBounds_toArray, List.set_cons_zero, List.set_cons_succ]
        refine wpAnyH_done (by as_aux_lemma => kernel_rfl) ?_ _
        go_wp2
        go_meet
        case rel =>
          obtain ⟨x, hx⟩ := HBX.out
          exact ⟨y2.heap.size, x, rfl, rfl, rfl, hx, HT.out.on HB99.out, HBY.out.trans (HB99.out.mono HBY.out.size)⟩
    · go_simp
      have hb2 := below_new y1 (.cells #[.int .i64 5, .int .i64 1] 3)
      have HI := Lib.hid (IntsAt.news y1 [5, 1])
      have HB2 := Lib.hid (HB1.out.trans (hb2.mono HB1.out.size))
      obtain ⟨y2, hy2⟩ : ∃ u, u = y1.alloc (.cells #[.int .i64 5, .int .i64 1] 3) := ⟨_, rfl⟩
      replace HI : Hid (IntsAt y2 y2.heap.size (some ⟨y1.heap.size, 0, none⟩) 2 [5, 1]) := by rw [hy2]; exact HI.out
      rw [← hy2] at HB2  ⊢
      clear hy2 hb2
      refine hK.out _ _ ?_ (fun hHeld => ?_)
      · exact ⟨(HT.out.on HB2.out).c0, (HT.out.on HB2.out).c1⟩
      clear hK K
      refine wpAnyH_ready (rs := [0, 8]) (by as_aux_lemma => kernel_rfl) (by simp) ?_
      refine AllReadyH.cons rfl (fun K hK => ?_) (AllReadyH.cons rfl (fun K hK => ?_) AllReadyH.nil)
      · go_simp
        refine (words_any _).mono ?_
        rintro e y3 ⟨A3, rfl, hs3, hb3⟩
        have HB3 := Lib.hid (HB2.out.trans (hb3.mono HB2.out.size))
        replace HI := Lib.hid (HI.out.on hb3)
        have HS := Lib.hid hs3
        clear hs3 hb3
        go_wp2_with fail
        refine hK.out _ _ ?_ (fun hHeld => ?_)
        · exact ⟨(HT.out.on HB3.out).c0, (HT.out.on HB3.out).c1⟩
        clear hK K
        refine wpAnyH_ready (rs := [3, 8]) (by as_aux_lemma => kernel_rfl) (by simp) ?_
        refine AllReadyH.cons rfl (fun K hK => ?_) (AllReadyH.cons rfl (fun K hK => ?_) AllReadyH.nil)
        · go_simp
          refine (put_fact A3 _ 7 7 2 2 wordsL x1 newT [5, 1] awT true 0 aw_put y3 HS.out len7 (Nat.le_refl _) (HT.out.on HB3.out).tb HI.out len2 (Nat.le_refl _)).mono ?_
          rintro e y4 ⟨v, rfl, hv, hb4⟩
          obtain ⟨D, d, F, f, rfl⟩ := hv.parts
          have HO := Lib.hid hv
          have HB4 := Lib.hid (HB3.out.trans (hb4.mono HB3.out.size))
          replace HI := Lib.hid (HI.out.on hb4)
          replace HS := Lib.hid (HS.out.on hb4)
          clear hv hb4 HS HI
          go_wp2_with fail
          refine hK.out _ _ ?_ (fun hHeld => ?_)
          · exact ⟨(HT.out.on HB4.out).c0, (HT.out.on HB4.out).c1⟩
          clear hK K
          refine takeH (i := 4) (v := ?_) rfl rfl (by as_aux_lemma => kernel_rfl) (by as_aux_lemma => kernel_rfl) (by as_aux_lemma => kernel_rfl) (fun _ _ _ h => h) (by rfl) ?_ hHeld ?_
          rotate_left
          · (intro w hSw; (try dsimp only at hSw); first | (go_simp; done) | (go_simp; with_reducible rfl))
          simp only [Act.put, List.setIfInBounds_toArray, List.set_cons_zero, List.set_cons_succ]
          refine takeH (i := 5) (v := ?_) rfl rfl (by as_aux_lemma => kernel_rfl) (by as_aux_lemma => kernel_rfl) (by as_aux_lemma => kernel_rfl) (fun _ _ _ h => h) (by rfl) ?_ hHeld ?_
          rotate_left
          · (intro w hSw; (try dsimp only at hSw); first | (go_simp; done) | (go_simp; with_reducible rfl))
          simp only [Act.put, List.setIfInBounds_toArray, List.set_cons_zero, List.set_cons_succ]
          refine takeH (i := 6) (v := ?_) rfl rfl (by as_aux_lemma => kernel_rfl) (by as_aux_lemma => kernel_rfl) (by as_aux_lemma => kernel_rfl) (fun _ _ _ h => h) (by rfl) ?_ hHeld ?_
          rotate_left
          · (intro w hSw; (try dsimp only at hSw); first | (go_simp; done) | (go_simp; with_reducible rfl))
          simp only [Act.put, List.setIfInBounds_toArray, List.set_cons_zero, List.set_cons_succ]
          refine takeH (i := 7) (v := ?_) rfl rfl (by as_aux_lemma => kernel_rfl) (by as_aux_lemma => kernel_rfl) (by as_aux_lemma => kernel_rfl) (fun _ _ _ h => h) (by rfl) ?_ hHeld ?_
          rotate_left
          · (intro w hSw; (try dsimp only at hSw); first | (go_simp; done) | (go_simp; with_reducible rfl))
          simp only [Act.put, List.setIfInBounds_toArray, List.set_cons_zero, List.set_cons_succ]
          refine wpAnyH_ready (rs := [8]) (by as_aux_lemma => kernel_rfl) (by simp) ?_
          refine AllReadyH.cons rfl (fun K hK => ?_) AllReadyH.nil
          go_simp
          have hb5 := below_new y4 (.cells #[.slice none 0 0, .slice none 0 0] 26)
          have HZ := Lib.hid (ZBx.new y4)
          have HB5 := Lib.hid (HB4.out.trans (hb5.mono HB4.out.size))
          replace HO := Lib.hid (HO.out.on hb5)
          obtain ⟨y5, hy5⟩ : ∃ u, u = y4.alloc (.cells #[.slice none 0 0, .slice none 0 0] 26) := ⟨_, rfl⟩
          replace HZ : Hid (ZBx y5 y4.heap.size) := by rw [hy5]; exact HZ.out
          have hgw : y0.heap.size ≤ y4.heap.size := HB4.out.size
          rw [← hy5] at HB5 HO ⊢
          clear hy5 hb5
          refine hK.out _ _ ?_ (fun hHeld => ?_)
          · exact ⟨(HT.out.on HB5.out).c0, (HT.out.on HB5.out).c1⟩
          clear hK K
          refine wpAnyH_ready (rs := [9]) (by as_aux_lemma => kernel_rfl) (by simp) ?_
          refine AllReadyH.cons rfl (fun K hK => ?_) AllReadyH.nil
          refine store_box_step rfl 26 (.tmp 4) (.tmp 29) rfl rfl y4.heap.size _ _ rfl rfl HZ.out.z rfl (by as_aux_lemma => kernel_rfl) two_one ?_
          intro z9 hg9 hc9 hs9
          have HBX := Lib.hid (TBox.of_store HO.out fit_T hg9 hc9)
          have HB99 := Lib.hid (HB5.out.trans (hc9.bel.mono hgw))
          clear hg9 hc9 hs9
          refine hK.out _ _ ?_ (fun hHeld => ?_)
          · exact ⟨(HT.out.on HB99.out).c0, (HT.out.on HB99.out).c1⟩
          clear hK K
          refine takeH (i := 10) (v := ?_) rfl rfl (by as_aux_lemma => kernel_rfl) (by as_aux_lemma => kernel_rfl) (by as_aux_lemma => kernel_rfl) (fun _ _ _ h => h) (by rfl) ?_ hHeld ?_
          rotate_left
          · (intro w hSw; (try dsimp only at hSw); first | (go_simp; done) | (go_simp; with_reducible rfl))
          simp only [Act.put, List.setIfInBounds_toArray, List.set_cons_zero, List.set_cons_succ]
          refine takeH (i := 11) (v := ?_) rfl rfl (by as_aux_lemma => kernel_rfl) (by as_aux_lemma => kernel_rfl) (by as_aux_lemma => kernel_rfl) (fun _ _ _ h => h) (by rfl) ?_ hHeld ?_
          rotate_left
          · (intro w hSw; (try dsimp only at hSw); first | (go_simp; done) | (go_simp; with_reducible rfl))
          simp only [Act.put, List.setIfInBounds_toArray, List.set_cons_zero, List.set_cons_succ]
          refine wpAnyH_done (by as_aux_lemma => kernel_rfl) ?_ _
          go_wp2
          go_meet
          case rel =>
            obtain ⟨x, hx⟩ := HBX.out
            exact ⟨y4.heap.size, x, rfl, rfl, rfl, hx, HT.out.on HB99.out, HBY.out.trans (HB99.out.mono HBY.out.size)⟩
        · go_simp
          have hb4 := below_new y3 (.cells #[.slice none 0 0, .slice none 0 0] 26)
          have HZ := Lib.hid (ZBx.new y3)
          have HB4 := Lib.hid (HB3.out.trans (hb4.mono HB3.out.size))
          replace HI := Lib.hid (HI.out.on hb4)
          replace HS := Lib.hid (HS.out.on hb4)
          obtain ⟨y4, hy4⟩ : ∃ u, u = y3.alloc (.cells #[.slice none 0 0, .slice none 0 0] 26) := ⟨_, rfl⟩
          replace HZ : Hid (ZBx y4 y3.heap.size) := by rw [hy4]; exact HZ.out
          have hgw : y0.heap.size ≤ y3.heap.size := HB3.out.size
          rw [← hy4] at HB4 HI HS ⊢
          clear hy4 hb4
          refine hK.out _ _ ?_ (fun hHeld => ?_)
          · exact ⟨(HT.out.on HB4.out).c0, (HT.out.on HB4.out).c1⟩
          clear hK K
          refine wpAnyH_ready (rs := [3]) (by as_aux_lemma => kernel_rfl) (by simp) ?_
          refine AllReadyH.cons rfl (fun K hK => ?_) AllReadyH.nil
          go_simp
          refine (put_fact A3 _ 7 7 2 2 wordsL x1 newT [5, 1] awT true 0 aw_put y4 HS.out len7 (Nat.le_refl _) (HT.out.on HB4.out).tb HI.out len2 (Nat.le_refl _)).mono ?_
          rintro e y5 ⟨v, rfl, hv, hb5⟩
          obtain ⟨D, d, F, f, rfl⟩ := hv.parts
          have HO := Lib.hid hv
          have HB5 := Lib.hid (HB4.out.trans (hb5.mono HB4.out.size))
          replace HI := Lib.hid (HI.out.on hb5)
          replace HS := Lib.hid (HS.out.on hb5)
          replace HZ := Lib.hid (HZ.out.on hb5)
          clear hv hb5 HS HI
          go_wp2_with fail
          refine hK.out _ _ ?_ (fun hHeld => ?_)
          · exact ⟨(HT.out.on HB5.out).c0, (HT.out.on HB5.out).c1⟩
          clear hK K
          refine takeH (i := 4) (v := ?_) rfl rfl (by as_aux_lemma => kernel_rfl) (by as_aux_lemma => kernel_rfl) (by as_aux_lemma => kernel_rfl) (fun _ _ _ h => h) (by rfl) ?_ hHeld ?_
          rotate_left
          · (intro w hSw; (try dsimp only at hSw); first | (go_simp; done) | (go_simp; with_reducible rfl))
          simp only [Act.put, List.setIfInBounds_toArray, List.set_cons_zero, List.set_cons_succ]
          refine takeH (i := 5) (v := ?_) rfl rfl (by as_aux_lemma => kernel_rfl) (by as_aux_lemma => kernel_rfl) (by as_aux_lemma => kernel_rfl) (fun _ _ _ h => h) (by rfl) ?_ hHeld ?_
          rotate_left
          · (intro w hSw; (try dsimp only at hSw); first | (go_simp; done) | (go_simp; with_reducible rfl))
          simp only [Act.put, List.setIfInBounds_toArray, List.set_cons_zero, List.set_cons_succ]
          refine takeH (i := 6) (v := ?_) rfl rfl (by as_aux_lemma => kernel_rfl) (by as_aux_lemma => kernel_rfl) (by as_aux_lemma => kernel_rfl) (fun _ _ _ h => h) (by rfl) ?_ hHeld ?_
          rotate_left
          · (intro w hSw; (try dsimp only at hSw); first | (go_simp; done) | (go_simp; with_reducible rfl))
          simp only [Act.put, List.setIfInBounds_toArray, List.set_cons_zero, List.set_cons_succ]
          refine takeH (i := 7) (v := ?_) rfl rfl (by as_aux_lemma => kernel_rfl) (by as_aux_lemma => kernel_rfl) (by as_aux_lemma => kernel_rfl) (fun _ _ _ h => h) (by rfl) ?_ hHeld ?_
          rotate_left
          · (intro w hSw; (try dsimp only at hSw); first | (go_simp; done) | (go_simp; with_reducible rfl))
          simp only [Act.put, List.setIfInBounds_toArray, List.set_cons_zero, List.set_cons_succ]
          refine wpAnyH_ready (rs := [9]) (by as_aux_lemma => kernel_rfl) (by simp) ?_
          refine AllReadyH.cons rfl (fun K hK => ?_) AllReadyH.nil
          refine store_box_step rfl 26 (.tmp 4) (.tmp 29) rfl rfl y3.heap.size _ _ rfl rfl HZ.out.z rfl (by as_aux_lemma => kernel_rfl) two_one ?_
          intro z9 hg9 hc9 hs9
          have HBX := Lib.hid (TBox.of_store HO.out fit_T hg9 hc9)
          have HB99 := Lib.hid (HB5.out.trans (hc9.bel.mono hgw))
          clear hg9 hc9 hs9
          refine hK.out _ _ ?_ (fun hHeld => ?_)
          · exact ⟨(HT.out.on HB99.out).c0, (HT.out.on HB99.out).c1⟩
          clear hK K
          refine takeH (i := 10) (v := ?_) rfl rfl (by as_aux_lemma => kernel_rfl) (by as_aux_lemma => kernel_rfl) (by as_aux_lemma => kernel_rfl) (fun _ _ _ h => h) (by rfl) ?_ hHeld ?_
          rotate_left
          · (intro w hSw; (try dsimp only at hSw); first | (go_simp; done) | (go_simp; with_reducible rfl))
          simp only [Act.put, List.setIfInBounds_toArray, List.set_cons_zero, List.set_cons_succ]
          refine takeH (i := 11) (v := ?_) rfl rfl (by as_aux_lemma => kernel_rfl) (by as_aux_lemma => kernel_rfl) (by as_aux_lemma => kernel_rfl) (fun _ _ _ h => h) (by rfl) ?_ hHeld ?_
          rotate_left
          · (intro w hSw; (try dsimp only at hSw); first | (go_simp; done) | (go_simp; with_reducible rfl))
          simp only [Act.put, List.setIfInBounds_toArray, List.set_cons_zero, List.set_cons_succ]
          refine wpAnyH_done (by as_aux_lemma => kernel_rfl) ?_ _
          go_wp2
          go_meet
          case rel =>
            obtain ⟨x, hx⟩ := HBX.out
            exact ⟨y3.heap.size, x, rfl, rfl, rfl, hx, HT.out.on HB99.out, HBY.out.trans (HB99.out.mono HBY.out.size)⟩
      · go_simp
        have hb3 := below_new y2 (.cells #[.slice none 0 0, .slice none 0 0] 26)
        have HZ := Lib.hid (ZBx.new y2)
        have HB3 := Lib.hid (HB2.out.trans (hb3.mono HB2.out.size))
        replace HI := Lib.hid (HI.out.on hb3)
        obtain ⟨y3, hy3⟩ : ∃ u, u = y2.alloc (.cells #[.slice none 0 0, .slice none 0 0] 26) := ⟨_, rfl⟩
        replace HZ : Hid (ZBx y3 y2.heap.size) := by rw [hy3]; exact HZ.out
        have hgw : y0.heap.size ≤ y2.heap.size := HB2.out.size
        rw [← hy3] at HB3 HI ⊢
        clear hy3 hb3
        refine hK.out _ _ ?_ (fun hHeld => ?_)
        · exact ⟨(HT.out.on HB3.out).c0, (HT.out.on HB3.out).c1⟩
        clear hK K
        refine wpAnyH_ready (rs := [0]) (by as_aux_lemma => kernel_rfl) (by simp) ?_
        refine AllReadyH.cons rfl (fun K hK => ?_) AllReadyH.nil
        go_simp
        refine (words_any _).mono ?_
        rintro e y4 ⟨A4, rfl, hs4, hb4⟩
        have HB4 := Lib.hid (HB3.out.trans (hb4.mono HB3.out.size))
        replace HI := Lib.hid (HI.out.on hb4)
        replace HZ := Lib.hid (HZ.out.on hb4)
        have HS := Lib.hid hs4
        clear hs4 hb4
        go_wp2_with fail
        refine hK.out _ _ ?_ (fun hHeld => ?_)
        · exact ⟨(HT.out.on HB4.out).c0, (HT.out.on HB4.out).c1⟩
        clear hK K
        refine wpAnyH_ready (rs := [3]) (by as_aux_lemma => kernel_rfl) (by simp) ?_
        refine AllReadyH.cons rfl (fun K hK => ?_) AllReadyH.nil
        go_simp
        refine (put_fact A4 _ 7 7 2 2 wordsL x1 newT [5, 1] awT true 0 aw_put y4 HS.out len7 (Nat.le_refl _) (HT.out.on HB4.out).tb HI.out len2 (Nat.le_refl _)).mono ?_
        rintro e y5 ⟨v, rfl, hv, hb5⟩
        obtain ⟨D, d, F, f, rfl⟩ := hv.parts
        have HO := Lib.hid hv
        have HB5 := Lib.hid (HB4.out.trans (hb5.mono HB4.out.size))
        replace HI := Lib.hid (HI.out.on hb5)
        replace HZ := Lib.hid (HZ.out.on hb5)
        replace HS := Lib.hid (HS.out.on hb5)
        clear hv hb5 HS HI
        go_wp2_with fail
        refine hK.out _ _ ?_ (fun hHeld => ?_)
        · exact ⟨(HT.out.on HB5.out).c0, (HT.out.on HB5.out).c1⟩
        clear hK K
        refine takeH (i := 4) (v := ?_) rfl rfl (by as_aux_lemma => kernel_rfl) (by as_aux_lemma => kernel_rfl) (by as_aux_lemma => kernel_rfl) (fun _ _ _ h => h) (by rfl) ?_ hHeld ?_
        rotate_left
        · (intro w hSw; (try dsimp only at hSw); first | (go_simp; done) | (go_simp; with_reducible rfl))
        simp only [Act.put, List.setIfInBounds_toArray, List.set_cons_zero, List.set_cons_succ]
        refine takeH (i := 5) (v := ?_) rfl rfl (by as_aux_lemma => kernel_rfl) (by as_aux_lemma => kernel_rfl) (by as_aux_lemma => kernel_rfl) (fun _ _ _ h => h) (by rfl) ?_ hHeld ?_
        rotate_left
        · (intro w hSw; (try dsimp only at hSw); first | (go_simp; done) | (go_simp; with_reducible rfl))
        simp only [Act.put, List.setIfInBounds_toArray, List.set_cons_zero, List.set_cons_succ]
        refine takeH (i := 6) (v := ?_) rfl rfl (by as_aux_lemma => kernel_rfl) (by as_aux_lemma => kernel_rfl) (by as_aux_lemma => kernel_rfl) (fun _ _ _ h => h) (by rfl) ?_ hHeld ?_
        rotate_left
        · (intro w hSw; (try dsimp only at hSw); first | (go_simp; done) | (go_simp; with_reducible rfl))
        simp only [Act.put, List.setIfInBounds_toArray, List.set_cons_zero, List.set_cons_succ]
        refine takeH (i := 7) (v := ?_) rfl rfl (by as_aux_lemma => kernel_rfl) (by as_aux_lemma => kernel_rfl) (by as_aux_lemma => kernel_rfl) (fun _ _ _ h => h) (by rfl) ?_ hHeld ?_
        rotate_left
        · (intro w hSw; (try dsimp only at hSw); first | (go_simp; done) | (go_simp; with_reducible rfl))
        simp only [Act.put, List.setIfInBounds_toArray, List.set_cons_zero, List.set_cons_succ]
        refine wpAnyH_ready (rs := [9]) (by as_aux_lemma => kernel_rfl) (by simp) ?_
        refine AllReadyH.cons rfl (fun K hK => ?_) AllReadyH.nil
        refine store_box_step rfl 26 (.tmp 4) (.tmp 29) rfl rfl y2.heap.size _ _ rfl rfl HZ.out.z rfl (by as_aux_lemma => kernel_rfl) two_one ?_
        intro z9 hg9 hc9 hs9
        have HBX := Lib.hid (TBox.of_store HO.out fit_T hg9 hc9)
        have HB99 := Lib.hid (HB5.out.trans (hc9.bel.mono hgw))
        clear hg9 hc9 hs9
        refine hK.out _ _ ?_ (fun hHeld => ?_)
        · exact ⟨(HT.out.on HB99.out).c0, (HT.out.on HB99.out).c1⟩
        clear hK K
        refine takeH (i := 10) (v := ?_) rfl rfl (by as_aux_lemma => kernel_rfl) (by as_aux_lemma => kernel_rfl) (by as_aux_lemma => kernel_rfl) (fun _ _ _ h => h) (by rfl) ?_ hHeld ?_
        rotate_left
        · (intro w hSw; (try dsimp only at hSw); first | (go_simp; done) | (go_simp; with_reducible rfl))
        simp only [Act.put, List.setIfInBounds_toArray, List.set_cons_zero, List.set_cons_succ]
        refine takeH (i := 11) (v := ?_) rfl rfl (by as_aux_lemma => kernel_rfl) (by as_aux_lemma => kernel_rfl) (by as_aux_lemma => kernel_rfl) (fun _ _ _ h => h) (by rfl) ?_ hHeld ?_
        rotate_left
        · (intro w hSw; (try dsimp only at hSw); first | (go_simp; done) | (go_simp; with_reducible rfl))
        simp only [Act.put, List.setIfInBounds_toArray, List.set_cons_zero, List.set_cons_succ]
        refine wpAnyH_done (by as_aux_lemma => kernel_rfl) ?_ _
        go_wp2
        go_meet
        case rel =>
          obtain ⟨x, hx⟩ := HBX.out
          exact ⟨y2.heap.size, x, rfl, rfl, rfl, hx, HT.out.on HB99.out, HBY.out.trans (HB99.out.mono HBY.out.size)⟩
    · go_simp
      have hb2 := below_new y1 (.cells #[.slice none 0 0, .slice none 0 0] 26)
      have HZ := Lib.hid (ZBx.new y1)
      have HB2 := Lib.hid (HB1.out.trans (hb2.mono HB1.out.size))
      obtain ⟨y2, hy2⟩ : ∃ u, u = y1.alloc (.cells #[.slice none 0 0, .slice none 0 0] 26) := ⟨_, rfl⟩
      replace HZ : Hid (ZBx y2 y1.heap.size) := by rw [hy2]; exact HZ.out
      have hgw : y0.heap.size ≤ y1.heap.size := HB1.out.size
      rw [← hy2] at HB2  ⊢
      clear hy2 hb2
      refine hK.out _ _ ?_ (fun hHeld => ?_)
      · exact ⟨(HT.out.on HB2.out).c0, (HT.out.on HB2.out).c1⟩
      clear hK K
      refine wpAnyH_ready (rs := [0, 2]) (by as_aux_lemma => kernel_rfl) (by simp) ?_
      refine AllReadyH.cons rfl (fun K hK => ?_) (AllReadyH.cons rfl (fun K hK => ?_) AllReadyH.nil)
      · go_simp
        refine (words_any _).mono ?_
        rintro e y3 ⟨A3, rfl, hs3, hb3⟩
        have HB3 := Lib.hid (HB2.out.trans (hb3.mono HB2.out.size))
        replace HZ := Lib.hid (HZ.out.on hb3)
        have HS := Lib.hid hs3
        clear hs3 hb3
        go_wp2_with fail
        refine hK.out _ _ ?_ (fun hHeld => ?_)
        · exact ⟨(HT.out.on HB3.out).c0, (HT.out.on HB3.out).c1⟩
        clear hK K
        refine wpAnyH_ready (rs := [2]) (by as_aux_lemma => kernel_rfl) (by simp) ?_
        refine AllReadyH.cons rfl (fun K hK => ?_) AllReadyH.nil
        go_simp
        have hb4 := below_new y3 (.cells #[.int .i64 5, .int .i64 1] 3)
        have HI := Lib.hid (IntsAt.news y3 [5, 1])
        have HB4 := Lib.hid (HB3.out.trans (hb4.mono HB3.out.size))
        replace HZ := Lib.hid (HZ.out.on hb4)
        replace HS := Lib.hid (HS.out.on hb4)
        obtain ⟨y4, hy4⟩ : ∃ u, u = y3.alloc (.cells #[.int .i64 5, .int .i64 1] 3) := ⟨_, rfl⟩
        replace HI : Hid (IntsAt y4 y4.heap.size (some ⟨y3.heap.size, 0, none⟩) 2 [5, 1]) := by rw [hy4]; exact HI.out
        rw [← hy4] at HB4 HZ HS ⊢
        clear hy4 hb4
        refine hK.out _ _ ?_ (fun hHeld => ?_)
        · exact ⟨(HT.out.on HB4.out).c0, (HT.out.on HB4.out).c1⟩
        clear hK K
        refine wpAnyH_ready (rs := [3]) (by as_aux_lemma => kernel_rfl) (by simp) ?_
        refine AllReadyH.cons rfl (fun K hK => ?_) AllReadyH.nil
        go_simp
        refine (put_fact A3 _ 7 7 2 2 wordsL x1 newT [5, 1] awT true 0 aw_put y4 HS.out len7 (Nat.le_refl _) (HT.out.on HB4.out).tb HI.out len2 (Nat.le_refl _)).mono ?_
        rintro e y5 ⟨v, rfl, hv, hb5⟩
        obtain ⟨D, d, F, f, rfl⟩ := hv.parts
        have HO := Lib.hid hv
        have HB5 := Lib.hid (HB4.out.trans (hb5.mono HB4.out.size))
        replace HZ := Lib.hid (HZ.out.on hb5)
        replace HS := Lib.hid (HS.out.on hb5)
        replace HI := Lib.hid (HI.out.on hb5)
        clear hv hb5 HS HI
        go_wp2_with fail
        refine hK.out _ _ ?_ (fun hHeld => ?_)
        · exact ⟨(HT.out.on HB5.out).c0, (HT.out.on HB5.out).c1⟩
        clear hK K
        refine takeH (i := 4) (v := ?_) rfl rfl (by as_aux_lemma => kernel_rfl) (by as_aux_lemma => kernel_rfl) (by as_aux_lemma => kernel_rfl) (fun _ _ _ h => h) (by rfl) ?_ hHeld ?_
        rotate_left
        · (intro w hSw; (try dsimp only at hSw); first | (go_simp; done) | (go_simp; with_reducible rfl))
        simp only [Act.put, List.setIfInBounds_toArray, List.set_cons_zero, List.set_cons_succ]
        refine takeH (i := 5) (v := ?_) rfl rfl (by as_aux_lemma => kernel_rfl) (by as_aux_lemma => kernel_rfl) (by as_aux_lemma => kernel_rfl) (fun _ _ _ h => h) (by rfl) ?_ hHeld ?_
        rotate_left
        · (intro w hSw; (try dsimp only at hSw); first | (go_simp; done) | (go_simp; with_reducible rfl))
        simp only [Act.put, List.setIfInBounds_toArray, List.set_cons_zero, List.set_cons_succ]
        refine takeH (i := 6) (v := ?_) rfl rfl (by as_aux_lemma => kernel_rfl) (by as_aux_lemma => kernel_rfl) (by as_aux_lemma => kernel_rfl) (fun _ _ _ h => h) (by rfl) ?_ hHeld ?_
        rotate_left
        · (intro w hSw; (try dsimp only at hSw); first | (go_simp; done) | (go_simp; with_reducible rfl))
        simp only [Act.put, List.setIfInBounds_toArray, List.set_cons_zero, List.set_cons_succ]
        refine takeH (i := 7) (v := ?_) rfl rfl (by as_aux_lemma => kernel_rfl) (by as_aux_lemma => kernel_rfl) (by as_aux_lemma => kernel_rfl) (fun _ _ _ h => h) (by rfl) ?_ hHeld ?_
        rotate_left
        · (intro w hSw; (try dsimp only at hSw); first | (go_simp; done) | (go_simp; with_reducible rfl))
        simp only [Act.put, List.setIfInBounds_toArray, List.set_cons_zero, List.set_cons_succ]
        refine wpAnyH_ready (rs := [9]) (by as_aux_lemma => kernel_rfl) (by simp) ?_
        refine AllReadyH.cons rfl (fun K hK => ?_) AllReadyH.nil
        refine store_box_step rfl 26 (.tmp 4) (.tmp 29) rfl rfl y1.heap.size _ _ rfl rfl HZ.out.z rfl (by as_aux_lemma => kernel_rfl) two_one ?_
        intro z9 hg9 hc9 hs9
        have HBX := Lib.hid (TBox.of_store HO.out fit_T hg9 hc9)
        have HB99 := Lib.hid (HB5.out.trans (hc9.bel.mono hgw))
        clear hg9 hc9 hs9
        refine hK.out _ _ ?_ (fun hHeld => ?_)
        · exact ⟨(HT.out.on HB99.out).c0, (HT.out.on HB99.out).c1⟩
        clear hK K
        refine takeH (i := 10) (v := ?_) rfl rfl (by as_aux_lemma => kernel_rfl) (by as_aux_lemma => kernel_rfl) (by as_aux_lemma => kernel_rfl) (fun _ _ _ h => h) (by rfl) ?_ hHeld ?_
        rotate_left
        · (intro w hSw; (try dsimp only at hSw); first | (go_simp; done) | (go_simp; with_reducible rfl))
        simp only [Act.put, List.setIfInBounds_toArray, List.set_cons_zero, List.set_cons_succ]
        refine takeH (i := 11) (v := ?_) rfl rfl (by as_aux_lemma => kernel_rfl) (by as_aux_lemma => kernel_rfl) (by as_aux_lemma => kernel_rfl) (fun _ _ _ h => h) (by rfl) ?_ hHeld ?_
        rotate_left
        · (intro w hSw; (try dsimp only at hSw); first | (go_simp; done) | (go_simp; with_reducible rfl))
        simp only [Act.put, List.setIfInBounds_toArray, List.set_cons_zero, List.set_cons_succ]
        refine wpAnyH_done (by as_aux_lemma => kernel_rfl) ?_ _
        go_wp2
        go_meet
        case rel =>
          obtain ⟨x, hx⟩ := HBX.out
          exact ⟨y1.heap.size, x, rfl, rfl, rfl, hx, HT.out.on HB99.out, HBY.out.trans (HB99.out.mono HBY.out.size)⟩
      · go_simp
        have hb3 := below_new y2 (.cells #[.int .i64 5, .int .i64 1] 3)
        have HI := Lib.hid (IntsAt.news y2 [5, 1])
        have HB3 := Lib.hid (HB2.out.trans (hb3.mono HB2.out.size))
        replace HZ := Lib.hid (HZ.out.on hb3)
        obtain ⟨y3, hy3⟩ : ∃ u, u = y2.alloc (.cells #[.int .i64 5, .int .i64 1] 3) := ⟨_, rfl⟩
        replace HI : Hid (IntsAt y3 y3.heap.size (some ⟨y2.heap.size, 0, none⟩) 2 [5, 1]) := by rw [hy3]; exact HI.out
        rw [← hy3] at HB3 HZ ⊢
        clear hy3 hb3
        refine hK.out _ _ ?_ (fun hHeld => ?_)
        · exact ⟨(HT.out.on HB3.out).c0, (HT.out.on HB3.out).c1⟩
        clear hK K
        refine wpAnyH_ready (rs := [0]) (by as_aux_lemma => kernel_rfl) (by simp) ?_
        refine AllReadyH.cons rfl (fun K hK => ?_) AllReadyH.nil
        go_simp
        refine (words_any _).mono ?_
        rintro e y4 ⟨A4, rfl, hs4, hb4⟩
        have HB4 := Lib.hid (HB3.out.trans (hb4.mono HB3.out.size))
        replace HZ := Lib.hid (HZ.out.on hb4)
        replace HI := Lib.hid (HI.out.on hb4)
        have HS := Lib.hid hs4
        clear hs4 hb4
        go_wp2_with fail
        refine hK.out _ _ ?_ (fun hHeld => ?_)
        · exact ⟨(HT.out.on HB4.out).c0, (HT.out.on HB4.out).c1⟩
        clear hK K
        refine wpAnyH_ready (rs := [3]) (by as_aux_lemma => kernel_rfl) (by simp) ?_
        refine AllReadyH.cons rfl (fun K hK => ?_) AllReadyH.nil
        go_simp
        refine (put_fact A4 _ 7 7 2 2 wordsL x1 newT [5, 1] awT true 0 aw_put y4 HS.out len7 (Nat.le_refl _) (HT.out.on HB4.out).tb HI.out len2 (Nat.le_refl _)).mono ?_
        rintro e y5 ⟨v, rfl, hv, hb5⟩
        obtain ⟨D, d, F, f, rfl⟩ := hv.parts
        have HO := Lib.hid hv
        have HB5 := Lib.hid (HB4.out.trans (hb5.mono HB4.out.size))
        replace HZ := Lib.hid (HZ.out.on hb5)
        replace HI := Lib.hid (HI.out.on hb5)
        replace HS := Lib.hid (HS.out.on hb5)
        clear hv hb5 HS HI
        go_wp2_with fail
        refine hK.out _ _ ?_ (fun hHeld => ?_)
        · exact ⟨(HT.out.on HB5.out).c0, (HT.out.on HB5.out).c1⟩
        clear hK K
        refine takeH (i := 4) (v := ?_) rfl rfl (by as_aux_lemma => kernel_rfl) (by as_aux_lemma => kernel_rfl) (by as_aux_lemma => kernel_rfl) (fun _ _ _ h => h) (by rfl) ?_ hHeld ?_
        rotate_left
        · (intro w hSw; (try dsimp only at hSw); first | (go_simp; done) | (go_simp; with_reducible rfl))
        simp only [Act.put, List.setIfInBounds_toArray, List.set_cons_zero, List.set_cons_succ]
        refine takeH (i := 5) (v := ?_) rfl rfl (by as_aux_lemma => kernel_rfl) (by as_aux_lemma => kernel_rfl) (by as_aux_lemma => kernel_rfl) (fun _ _ _ h => h) (by rfl) ?_ hHeld ?_
        rotate_left
        · (intro w hSw; (try dsimp only at hSw); first | (go_simp; done) | (go_simp; with_reducible rfl))
        simp only [Act.put, List.setIfInBounds_toArray, List.set_cons_zero, List.set_cons_succ]
        refine takeH (i := 6) (v := ?_) rfl rfl (by as_aux_lemma => kernel_rfl) (by as_aux_lemma => kernel_rfl) (by as_aux_lemma => kernel_rfl) (fun _ _ _ h => h) (by rfl) ?_ hHeld ?_
        rotate_left
        · (intro w hSw; (try dsimp only at hSw); first | (go_simp; done) | (go_simp; with_reducible rfl))
        simp only [Act.put, List.setIfInBounds_toArray, List.set_cons_zero, List.set_cons_succ]
        refine takeH (i := 7) (v := ?_) rfl rfl (by as_aux_lemma => kernel_rfl) (by as_aux_lemma => kernel_rfl) (by as_aux_lemma => kernel_rfl) (fun _ _ _ h => h) (by rfl) ?_ hHeld ?_
        rotate_left
        · (intro w hSw; (try dsimp only at hSw); first | (go_simp; done) | (go_simp; with_reducible rfl))
        simp only [Act.put, List.setIfInBounds_toArray, List.set_cons_zero, List.set_cons_succ]
        refine wpAnyH_ready (rs := [9]) (by as_aux_lemma => kernel_rfl) (by simp) ?_
        refine AllReadyH.cons rfl (fun K hK => ?_) AllReadyH.nil
        refine store_box_step rfl 26 (.tmp 4) (.tmp 29) rfl rfl y1.heap.size _ _ rfl rfl HZ.out.z rfl (by as_aux_lemma => kernel_rfl) two_one ?_
        intro z9 hg9 hc9 hs9
        have HBX := Lib.hid (TBox.of_store HO.out fit_T hg9 hc9)
        have HB99 := Lib.hid (HB5.out.trans (hc9.bel.mono hgw))
        clear hg9 hc9 hs9
        refine hK.out _ _ ?_ (fun hHeld => ?_)
        · exact ⟨(HT.out.on HB99.out).c0, (HT.out.on HB99.out).c1⟩
        clear hK K
        refine takeH (i := 10) (v := ?_) rfl rfl (by as_aux_lemma => kernel_rfl) (by as_aux_lemma => kernel_rfl) (by as_aux_lemma => kernel_rfl) (fun _ _ _ h => h) (by rfl) ?_ hHeld ?_
        rotate_left
        · (intro w hSw; (try dsimp only at hSw); first | (go_simp; done) | (go_simp; with_reducible rfl))
        simp only [Act.put, List.setIfInBounds_toArray, List.set_cons_zero, List.set_cons_succ]
        refine takeH (i := 11) (v := ?_) rfl rfl (by as_aux_lemma => kernel_rfl) (by as_aux_lemma => kernel_rfl) (by as_aux_lemma => kernel_rfl) (fun _ _ _ h => h) (by rfl) ?_ hHeld ?_
        rotate_left
        · (intro w hSw; (try dsimp only at hSw); first | (go_simp; done) | (go_simp; with_reducible rfl))
        simp only [Act.put, List.setIfInBounds_toArray, List.set_cons_zero, List.set_cons_succ]
        refine wpAnyH_done (by as_aux_lemma => kernel_rfl) ?_ _
        go_wp2
        go_meet
        case rel =>
          obtain ⟨x, hx⟩ := HBX.out
          exact ⟨y1.heap.size, x, rfl, rfl, rfl, hx, HT.out.on HB99.out, HBY.out.trans (HB99.out.mono HBY.out.size)⟩
  case rest =>
    obtain ⟨g2, x2, rfl, rfl, rfl, hu, ht, hbx⟩ := hcut
    have HU := Lib.hid hu
    replace HT := Lib.hid ht
    replace HBY := Lib.hid hbx
    obtain ⟨y0, hy0⟩ : ∃ y0, y0 = wc := ⟨_, rfl⟩
    subst hy0
    clear hu ht hbx
    go_upto_region 4 with (fail)
    go_cut [7, 8] (fun sa sb wx => sa = .bool true ∧ sb = .int .i64 0 ∧ TBox wx g1 x1 newT ∧ TBox wx g2 x2 awT ∧ Below w.heap.size w wx)
    case first =>
      have p0 := HU.out.c0
      have p1 := HU.out.c1
      go_wp2_with fail
      refine wp_region_held_drew (S := (fun w' => w'.cell? ⟨g2, 0, none⟩ = some (.slice x2.A1 x2.n1 x2.c1) ∧ w'.cell? ⟨g2, 1, none⟩ = some (.slice x2.A2 x2.n2 x2.c2))) (by as_aux_lemma => kernel_rfl) ⟨p0, p1⟩ (fun hHeld => ?_)
      have hd : Below y0.heap.size y0 y0.drew := (Below.refl y0.heap.size y0).drew
      obtain ⟨y1, hy1⟩ : ∃ y1, y1 = y0.drew := ⟨_, rfl⟩
      rw [← hy1] at hd hHeld ⊢
      have HB1 := Lib.hid hd
      clear hy1 hd p0 p1
      refine takeH (i := 1) (v := ?_) rfl rfl (by as_aux_lemma => kernel_rfl) (by as_aux_lemma => kernel_rfl) (by as_aux_lemma => kernel_rfl) (fun _ _ _ h => h) (by rfl) ?_ hHeld ?_
      rotate_left
      · (intro w hSw; (try dsimp only at hSw); first | (go_simp; done) | (go_simp; with_reducible rfl))
      simp only [Act.put, List.setIfInBounds_toArray, List.set_cons_zero, List.set_cons_succ]
      refine wpAnyH_ready (rs := [0, 2]) (by as_aux_lemma => kernel_rfl) (by simp) ?_
      refine AllReadyH.cons rfl (fun K hK => ?_) (AllReadyH.cons rfl (fun K hK => ?_) AllReadyH.nil)
      · go_simp
        refine (words_any _).mono ?_
        rintro e y2 ⟨A2, rfl, hs2, hb2⟩
        have HB2 := Lib.hid (HB1.out.trans (hb2.mono HB1.out.size))
        have HS := Lib.hid hs2
        clear hs2 hb2
        go_wp2_with fail
        refine hK.out _ _ ?_ (fun hHeld => ?_)
        · exact ⟨(HU.out.on HB2.out).c0, (HU.out.on HB2.out).c1⟩
        clear hK K
        refine wpAnyH_ready (rs := [2]) (by as_aux_lemma => kernel_rfl) (by simp) ?_
        refine AllReadyH.cons rfl (fun K hK => ?_) AllReadyH.nil
        go_simp
        have hb3 := below_new y2 (.cells #[.int .i64 5, .int .i64 1] 3)
        have HI := Lib.hid (IntsAt.news y2 [5, 1])
        have HB3 := Lib.hid (HB2.out.trans (hb3.mono HB2.out.size))
        replace HS := Lib.hid (HS.out.on hb3)
        obtain ⟨y3, hy3⟩ : ∃ u, u = y2.alloc (.cells #[.int .i64 5, .int .i64 1] 3) := ⟨_, rfl⟩
        replace HI : Hid (IntsAt y3 y3.heap.size (some ⟨y2.heap.size, 0, none⟩) 2 [5, 1]) := by rw [hy3]; exact HI.out
        rw [← hy3] at HB3 HS ⊢
        clear hy3 hb3
        refine hK.out _ _ ?_ (fun hHeld => ?_)
        · exact ⟨(HU.out.on HB3.out).c0, (HU.out.on HB3.out).c1⟩
        clear hK K
        refine wpAnyH_ready (rs := [3]) (by as_aux_lemma => kernel_rfl) (by simp) ?_
        refine AllReadyH.cons rfl (fun K hK => ?_) AllReadyH.nil
        go_simp
        refine (has_fact A2 _ 7 7 2 2 wordsL x2 awT [5, 1] y3 HS.out len7 (Nat.le_refl _) (HU.out.on HB3.out).tb HI.out len2 (Nat.le_refl _)).mono ?_
        rintro e y4 ⟨rfl, hb4⟩
        rw [aw_has.1, aw_has.2]
        have HB4 := Lib.hid (HB3.out.trans (hb4.mono HB3.out.size))
        replace HS := Lib.hid (HS.out.on hb4)
        replace HI := Lib.hid (HI.out.on hb4)
        clear hb4 HS HI
        go_wp2_with fail
        refine hK.out _ _ ?_ (fun hHeld => ?_)
        · exact ⟨(HU.out.on HB4.out).c0, (HU.out.on HB4.out).c1⟩
        clear hK K
        refine takeH (i := 4) (v := ?_) rfl rfl (by as_aux_lemma => kernel_rfl) (by as_aux_lemma => kernel_rfl) (by as_aux_lemma => kernel_rfl) (fun _ _ _ h => h) (by rfl) ?_ hHeld ?_
        rotate_left
        · (intro w hSw; (try dsimp only at hSw); first | (go_simp; done) | (go_simp; with_reducible rfl))
        simp only [Act.put, List.setIfInBounds_toArray, List.set_cons_zero, List.set_cons_succ]
        refine takeH (i := 5) (v := ?_) rfl rfl (by as_aux_lemma => kernel_rfl) (by as_aux_lemma => kernel_rfl) (by as_aux_lemma => kernel_rfl) (fun _ _ _ h => h) (by rfl) ?_ hHeld ?_
        rotate_left
        · (intro w hSw; (try dsimp only at hSw); first | (go_simp; done) | (go_simp; with_reducible rfl))
        simp only [Act.put, List.setIfInBounds_toArray, List.set_cons_zero, List.set_cons_succ]
        refine takeH (i := 6) (v := ?_) rfl rfl (by as_aux_lemma => kernel_rfl) (by as_aux_lemma => kernel_rfl) (by as_aux_lemma => kernel_rfl) (fun _ _ _ h => h) (by rfl) ?_ hHeld ?_
        rotate_left
        · (intro w hSw; (try dsimp only at hSw); first | (go_simp; done) | (go_simp; with_reducible rfl))
        simp only [Act.put, List.setIfInBounds_toArray, List.set_cons_zero, List.set_cons_succ]
        refine takeH (i := 7) (v := ?_) rfl rfl (by as_aux_lemma => kernel_rfl) (by as_aux_lemma => kernel_rfl) (by as_aux_lemma => kernel_rfl) (fun _ _ _ h => h) (by rfl) ?_ hHeld ?_
        rotate_left
        · (intro w hSw; (try dsimp only at hSw); first | (go_simp; done) | (go_simp; with_reducible rfl))
        simp only [Act.put, List.setIfInBounds_toArray, List.set_cons_zero, List.set_cons_succ]
        refine takeH (i := 8) (v := ?_) rfl rfl (by as_aux_lemma => kernel_rfl) (by as_aux_lemma => kernel_rfl) (by as_aux_lemma => kernel_rfl) (fun _ _ _ h => h) (by rfl) ?_ hHeld ?_
        rotate_left
        · (intro w hSw; (try dsimp only at hSw); first | (go_simp; done) | (go_simp; with_reducible rfl))
        simp only [Act.put, List.setIfInBounds_toArray, List.set_cons_zero, List.set_cons_succ]
        refine wpAnyH_done (by as_aux_lemma => kernel_rfl) ?_ _
        go_wp2
        go_meet
        case rel =>
          exact ⟨rfl, rfl, HT.out.on HB4.out, HU.out.on HB4.out, HBY.out.trans (HB4.out.mono HBY.out.size)⟩
      · go_simp
        have hb2 := below_new y1 (.cells #[.int .i64 5, .int .i64 1] 3)
        have HI := Lib.hid (IntsAt.news y1 [5, 1])
        have HB2 := Lib.hid (HB1.out.trans (hb2.mono HB1.out.size))
        obtain ⟨y2, hy2⟩ : ∃ u, u = y1.alloc (.cells #[.int .i64 5, .int .i64 1] 3) := ⟨_, rfl⟩
        replace HI : Hid (IntsAt y2 y2.heap.size (some ⟨y1.heap.size, 0, none⟩) 2 [5, 1]) := by rw [hy2]; exact HI.out
        rw [← hy2] at HB2  ⊢
        clear hy2 hb2
        refine hK.out _ _ ?_ (fun hHeld => ?_)
        · exact ⟨(HU.out.on HB2.out).c0, (HU.out.on HB2.out).c1⟩
        clear hK K
        refine wpAnyH_ready (rs := [0]) (by as_aux_lemma => kernel_rfl) (by simp) ?_
        refine AllReadyH.cons rfl (fun K hK => ?_) AllReadyH.nil
        go_simp
        refine (words_any _).mono ?_
        rintro e y3 ⟨A3, rfl, hs3, hb3⟩
        have HB3 := Lib.hid (HB2.out.trans (hb3.mono HB2.out.size))
        replace HI := Lib.hid (HI.out.on hb3)
        have HS := Lib.hid hs3
        clear hs3 hb3
        go_wp2_with fail
        refine hK.out _ _ ?_ (fun hHeld => ?_)
        · exact ⟨(HU.out.on HB3.out).c0, (HU.out.on HB3.out).c1⟩
        clear hK K
        refine wpAnyH_ready (rs := [3]) (by as_aux_lemma => kernel_rfl) (by simp) ?_
        refine AllReadyH.cons rfl (fun K hK => ?_) AllReadyH.nil
        go_simp
        refine (has_fact A3 _ 7 7 2 2 wordsL x2 awT [5, 1] y3 HS.out len7 (Nat.le_refl _) (HU.out.on HB3.out).tb HI.out len2 (Nat.le_refl _)).mono ?_
        rintro e y4 ⟨rfl, hb4⟩
        rw [aw_has.1, aw_has.2]
        have HB4 := Lib.hid (HB3.out.trans (hb4.mono HB3.out.size))
        replace HI := Lib.hid (HI.out.on hb4)
        replace HS := Lib.hid (HS.out.on hb4)
        clear hb4 HS HI
        go_wp2_with fail
        refine hK.out _ _ ?_ (fun hHeld => ?_)
        · exact ⟨(HU.out.on HB4.out).c0, (HU.out.on HB4.out).c1⟩
        clear hK K
        refine takeH (i := 4) (v := ?_) rfl rfl (by as_aux_lemma => kernel_rfl) (by as_aux_lemma => kernel_rfl) (by as_aux_lemma => kernel_rfl) (fun _ _ _ h => h) (by rfl) ?_ hHeld ?_
        rotate_left
        · (intro w hSw; (try dsimp only at hSw); first | (go_simp; done) | (go_simp; with_reducible rfl))
        simp only [Act.put, List.setIfInBounds_toArray, List.set_cons_zero, List.set_cons_succ]
        refine takeH (i := 5) (v := ?_) rfl rfl (by as_aux_lemma => kernel_rfl) (by as_aux_lemma => kernel_rfl) (by as_aux_lemma => kernel_rfl) (fun _ _ _ h => h) (by rfl) ?_ hHeld ?_
        rotate_left
        · (intro w hSw; (try dsimp only at hSw); first | (go_simp; done) | (go_simp; with_reducible rfl))
        simp only [Act.put, List.setIfInBounds_toArray, List.set_cons_zero, List.set_cons_succ]
        refine takeH (i := 6) (v := ?_) rfl rfl (by as_aux_lemma => kernel_rfl) (by as_aux_lemma => kernel_rfl) (by as_aux_lemma => kernel_rfl) (fun _ _ _ h => h) (by rfl) ?_ hHeld ?_
        rotate_left
        · (intro w hSw; (try dsimp only at hSw); first | (go_simp; done) | (go_simp; with_reducible rfl))
        simp only [Act.put, List.setIfInBounds_toArray, List.set_cons_zero, List.set_cons_succ]
        refine takeH (i := 7) (v := ?_) rfl rfl (by as_aux_lemma => kernel_rfl) (by as_aux_lemma => kernel_rfl) (by as_aux_lemma => kernel_rfl) (fun _ _ _ h => h) (by rfl) ?_ hHeld ?_
        rotate_left
        · (intro w hSw; (try dsimp only at hSw); first | (go_simp; done) | (go_simp; with_reducible rfl))
        simp only [Act.put, List.setIfInBounds_toArray, List.set_cons_zero, List.set_cons_succ]
        refine takeH (i := 8) (v := ?_) rfl rfl (by as_aux_lemma => kernel_rfl) (by as_aux_lemma => kernel_rfl) (by as_aux_lemma => kernel_rfl) (fun _ _ _ h => h) (by rfl) ?_ hHeld ?_
        rotate_left
        · (intro w hSw; (try dsimp only at hSw); first | (go_simp; done) | (go_simp; with_reducible rfl))
        simp only [Act.put, List.setIfInBounds_toArray, List.set_cons_zero, List.set_cons_succ]
        refine wpAnyH_done (by as_aux_lemma => kernel_rfl) ?_ _
        go_wp2
        go_meet
        case rel =>
          exact ⟨rfl, rfl, HT.out.on HB4.out, HU.out.on HB4.out, HBY.out.trans (HB4.out.mono HBY.out.size)⟩
    case rest =>
      obtain ⟨rfl, rfl, ht, hu, hbx⟩ := hcut
      replace HU := Lib.hid hu
      replace HT := Lib.hid ht
      replace HBY := Lib.hid hbx
      obtain ⟨y0, hy0⟩ : ∃ y0, y0 = wc := ⟨_, rfl⟩
      subst hy0
      clear hu ht hbx
      go_upto_region 5 with (fail)
      go_cut [9, 10, 11] (fun sa sb sc wx => ∃ g x, sa = .pointer (some ⟨g, 0, none⟩) ∧ sb = .bool true ∧ sc = .int .i64 0 ∧ TBox wx g x awC ∧ TBox wx g1 x1 newT ∧ TBox wx g2 x2 awT ∧ Below w.heap.size w wx)
      case first =>
        have p0 := HU.out.c0
        have p1 := HU.out.c1
        go_wp2_with fail
        refine wp_region_held_drew (S := (fun w' => w'.cell? ⟨g2, 0, none⟩ = some (.slice x2.A1 x2.n1 x2.c1) ∧ w'.cell? ⟨g2, 1, none⟩ = some (.slice x2.A2 x2.n2 x2.c2))) (by as_aux_lemma => kernel_rfl) ⟨p0, p1⟩ (fun hHeld => ?_)
        have hd : Below y0.heap.size y0 y0.drew := (Below.refl y0.heap.size y0).drew
        obtain ⟨y1, hy1⟩ : ∃ y1, y1 = y0.drew := ⟨_, rfl⟩
        rw [← hy1] at hd hHeld ⊢
        have HB1 := Lib.hid hd
        clear hy1 hd p0 p1
        refine takeH (i := 1) (v := ?_) rfl rfl (by as_aux_lemma => kernel_rfl) (by as_aux_lemma => kernel_rfl) (by as_aux_lemma => kernel_rfl) (fun _ _ _ h => h) (by rfl) ?_ hHeld ?_
        rotate_left
        · (intro w hSw; (try dsimp only at hSw); first | (go_simp; done) | (go_simp; with_reducible rfl))
        simp only [Act.put, List.setIfInBounds_toArray, List.set_cons_zero, List.set_cons_succ]
        refine wpAnyH_ready (rs := [0, 2, 8]) (by as_aux_lemma => kernel_rfl) (by simp) ?_
        refine AllReadyH.cons rfl (fun K hK => ?_) (AllReadyH.cons rfl (fun K hK => ?_) (AllReadyH.cons rfl (fun K hK => ?_) AllReadyH.nil))
        · go_simp
          refine (words_any _).mono ?_
          rintro e y2 ⟨A2, rfl, hs2, hb2⟩
          have HB2 := Lib.hid (HB1.out.trans (hb2.mono HB1.out.size))
          have HS := Lib.hid hs2
          clear hs2 hb2
          go_wp2_with fail
          refine hK.out _ _ ?_ (fun hHeld => ?_)
          · exact ⟨(HU.out.on HB2.out).c0, (HU.out.on HB2.out).c1⟩
          clear hK K
          refine wpAnyH_ready (rs := [2, 8]) (by as_aux_lemma => kernel_rfl) (by simp) ?_
          refine AllReadyH.cons rfl (fun K hK => ?_) (AllReadyH.cons rfl (fun K hK => ?_) AllReadyH.nil)
          · go_simp
            have hb3 := below_new y2 (.cells #[.int .i64 5, .int .i64 1] 3)
            have HI := Lib.hid (IntsAt.news y2 [5, 1])
            have HB3 := Lib.hid (HB2.out.trans (hb3.mono HB2.out.size))
            replace HS := Lib.hid (HS.out.on hb3)
            obtain ⟨y3, hy3⟩ : ∃ u, u = y2.alloc (.cells #[.int .i64 5, .int .i64 1] 3) := ⟨_, rfl⟩
            replace HI : Hid (IntsAt y3 y3.heap.size (some ⟨y2.heap.size, 0, none⟩) 2 [5, 1]) := by rw [hy3]; exact HI.out
            rw [← hy3] at HB3 HS ⊢
            clear hy3 hb3
            refine hK.out _ _ ?_ (fun hHeld => ?_)
            · exact ⟨(HU.out.on HB3.out).c0, (HU.out.on HB3.out).c1⟩
            clear hK K
            refine wpAnyH_ready (rs := [3, 8]) (by as_aux_lemma => kernel_rfl) (by simp) ?_
            refine AllReadyH.cons rfl (fun K hK => ?_) (AllReadyH.cons rfl (fun K hK => ?_) AllReadyH.nil)
            · go_simp
              refine (cut_fact A2 _ 7 7 2 2 wordsL x2 awT [5, 1] awC true 0 aw_cut y3 HS.out len7 (Nat.le_refl _) (HU.out.on HB3.out).tb HI.out len2 (Nat.le_refl _)).mono ?_
              rintro e y4 ⟨v, rfl, hv, hb4⟩
              obtain ⟨D, d, F, f, rfl⟩ := hv.parts
              have HO := Lib.hid hv
              have HB4 := Lib.hid (HB3.out.trans (hb4.mono HB3.out.size))
              replace HS := Lib.hid (HS.out.on hb4)
              replace HI := Lib.hid (HI.out.on hb4)
              clear hv hb4 HS HI
              go_wp2_with fail
              refine hK.out _ _ ?_ (fun hHeld => ?_)
              · exact ⟨(HU.out.on HB4.out).c0, (HU.out.on HB4.out).c1⟩
              clear hK K
              refine takeH (i := 4) (v := ?_) rfl rfl (by as_aux_lemma => kernel_rfl) (by as_aux_lemma => kernel_rfl) (by as_aux_lemma => kernel_rfl) (fun _ _ _ h => h) (by rfl) ?_ hHeld ?_
              rotate_left
              · (intro w hSw; (try dsimp only at hSw); first | (go_simp; done) | (go_simp; with_reducible rfl))
              simp only [Act.put, List.setIfInBounds_toArray, List.set_cons_zero, List.set_cons_succ]
              refine takeH (i := 5) (v := ?_) rfl rfl (by as_aux_lemma => kernel_rfl) (by as_aux_lemma => kernel_rfl) (by as_aux_lemma => kernel_rfl) (fun _ _ _ h => h) (by rfl) ?_ hHeld ?_
              rotate_left
              · (intro w hSw; (try dsimp only at hSw); first | (go_simp; done) | (go_simp; with_reducible rfl))
              simp only [Act.put, List.setIfInBounds_toArray, List.set_cons_zero, List.set_cons_succ]
              refine takeH (i := 6) (v := ?_) rfl rfl (by as_aux_lemma => kernel_rfl) (by as_aux_lemma => kernel_rfl) (by as_aux_lemma => kernel_rfl) (fun _ _ _ h => h) (by rfl) ?_ hHeld ?_
              rotate_left
              · (intro w hSw; (try dsimp only at hSw); first | (go_simp; done) | (go_simp; with_reducible rfl))
              simp only [Act.put, List.setIfInBounds_toArray, List.set_cons_zero, List.set_cons_succ]
              refine takeH (i := 7) (v := ?_) rfl rfl (by as_aux_lemma => kernel_rfl) (by as_aux_lemma => kernel_rfl) (by as_aux_lemma => kernel_rfl) (fun _ _ _ h => h) (by rfl) ?_ hHeld ?_
              rotate_left
              · (intro w hSw; (try dsimp only at hSw); first | (go_simp; done) | (go_simp; with_reducible rfl))
              simp only [Act.put, List.setIfInBounds_toArray, List.set_cons_zero, List.set_cons_succ]
              refine wpAnyH_ready (rs := [8]) (by as_aux_lemma => kernel_rfl) (by simp) ?_
              refine AllReadyH.cons rfl (fun K hK => ?_) AllReadyH.nil
              go_simp
              have hb5 := below_new y4 (.cells #[.slice none 0 0, .slice none 0 0] 26)
              have HZ := Lib.hid (ZBx.new y4)
              have HB5 := Lib.hid (HB4.out.trans (hb5.mono HB4.out.size))
              replace HO := Lib.hid (HO.out.on hb5)
              obtain ⟨y5, hy5⟩ : ∃ u, u = y4.alloc (.cells #[.slice none 0 0, .slice none 0 0] 26) := ⟨_, rfl⟩
              replace HZ : Hid (ZBx y5 y4.heap.size) := by rw [hy5]; exact HZ.out
              have hgw : y0.heap.size ≤ y4.heap.size := HB4.out.size
              rw [← hy5] at HB5 HO ⊢
              clear hy5 hb5
              refine hK.out _ _ ?_ (fun hHeld => ?_)
              · exact ⟨(HU.out.on HB5.out).c0, (HU.out.on HB5.out).c1⟩
              clear hK K
              refine wpAnyH_ready (rs := [9]) (by as_aux_lemma => kernel_rfl) (by simp) ?_
              refine AllReadyH.cons rfl (fun K hK => ?_) AllReadyH.nil
              refine store_box_step rfl 26 (.tmp 9) (.tmp 44) rfl rfl y4.heap.size _ _ rfl rfl HZ.out.z rfl (by as_aux_lemma => kernel_rfl) two_one ?_
              intro z9 hg9 hc9 hs9
              have HBX := Lib.hid (TBox.of_store HO.out fit_C hg9 hc9)
              have HB99 := Lib.hid (HB5.out.trans (hc9.bel.mono hgw))
              clear hg9 hc9 hs9
              refine hK.out _ _ ?_ (fun hHeld => ?_)
              · exact ⟨(HU.out.on HB99.out).c0, (HU.out.on HB99.out).c1⟩
              clear hK K
              refine takeH (i := 10) (v := ?_) rfl rfl (by as_aux_lemma => kernel_rfl) (by as_aux_lemma => kernel_rfl) (by as_aux_lemma => kernel_rfl) (fun _ _ _ h => h) (by rfl) ?_ hHeld ?_
              rotate_left
              · (intro w hSw; (try dsimp only at hSw); first | (go_simp; done) | (go_simp; with_reducible rfl))
              simp only [Act.put, List.setIfInBounds_toArray, List.set_cons_zero, List.set_cons_succ]
              refine takeH (i := 11) (v := ?_) rfl rfl (by as_aux_lemma => kernel_rfl) (by as_aux_lemma => kernel_rfl) (by as_aux_lemma => kernel_rfl) (fun _ _ _ h => h) (by rfl) ?_ hHeld ?_
              rotate_left
              · (intro w hSw; (try dsimp only at hSw); first | (go_simp; done) | (go_simp; with_reducible rfl))
              simp only [Act.put, List.setIfInBounds_toArray, List.set_cons_zero, List.set_cons_succ]
              refine wpAnyH_done (by as_aux_lemma => kernel_rfl) ?_ _
              go_wp2
              go_meet
              case rel =>
                obtain ⟨x, hx⟩ := HBX.out
                exact ⟨y4.heap.size, x, rfl, rfl, rfl, hx, HT.out.on HB99.out, HU.out.on HB99.out, HBY.out.trans (HB99.out.mono HBY.out.size)⟩
            · go_simp
              have hb4 := below_new y3 (.cells #[.slice none 0 0, .slice none 0 0] 26)
              have HZ := Lib.hid (ZBx.new y3)
              have HB4 := Lib.hid (HB3.out.trans (hb4.mono HB3.out.size))
              replace HS := Lib.hid (HS.out.on hb4)
              replace HI := Lib.hid (HI.out.on hb4)
              obtain ⟨y4, hy4⟩ : ∃ u, u = y3.alloc (.cells #[.slice none 0 0, .slice none 0 0] 26) := ⟨_, rfl⟩
              replace HZ : Hid (ZBx y4 y3.heap.size) := by rw [hy4]; exact HZ.out
              have hgw : y0.heap.size ≤ y3.heap.size := HB3.out.size
              rw [← hy4] at HB4 HS HI ⊢
              clear hy4 hb4
              refine hK.out _ _ ?_ (fun hHeld => ?_)
              · exact ⟨(HU.out.on HB4.out).c0, (HU.out.on HB4.out).c1⟩
              clear hK K
              refine wpAnyH_ready (rs := [3]) (by as_aux_lemma => kernel_rfl) (by simp) ?_
              refine AllReadyH.cons rfl (fun K hK => ?_) AllReadyH.nil
              go_simp
              refine (cut_fact A2 _ 7 7 2 2 wordsL x2 awT [5, 1] awC true 0 aw_cut y4 HS.out len7 (Nat.le_refl _) (HU.out.on HB4.out).tb HI.out len2 (Nat.le_refl _)).mono ?_
              rintro e y5 ⟨v, rfl, hv, hb5⟩
              obtain ⟨D, d, F, f, rfl⟩ := hv.parts
              have HO := Lib.hid hv
              have HB5 := Lib.hid (HB4.out.trans (hb5.mono HB4.out.size))
              replace HS := Lib.hid (HS.out.on hb5)
              replace HI := Lib.hid (HI.out.on hb5)
              replace HZ := Lib.hid (HZ.out.on hb5)
              clear hv hb5 HS HI
              go_wp2_with fail
              refine hK.out _ _ ?_ (fun hHeld => ?_)
              · exact ⟨(HU.out.on HB5.out).c0, (HU.out.on HB5.out).c1⟩
              clear hK K
              refine takeH (i := 4) (v := ?_) rfl rfl (by as_aux_lemma => kernel_rfl) (by as_aux_lemma => kernel_rfl) (by as_aux_lemma => kernel_rfl) (fun _ _ _ h => h) (by rfl) ?_ hHeld ?_
              rotate_left
              · (intro w hSw; (try dsimp only at hSw); first | (go_simp; done) | (go_simp; with_reducible rfl))
              simp only [Act.put, List.setIfInBounds_toArray, List.set_cons_zero, List.set_cons_succ]
              refine takeH (i := 5) (v := ?_) rfl rfl (by as_aux_lemma => kernel_rfl) (by as_aux_lemma => kernel_rfl) (by as_aux_lemma => kernel_rfl) (fun _ _ _ h => h) (by rfl) ?_ hHeld ?_
              rotate_left
              · (intro w hSw; (try dsimp only at hSw); first | (go_simp; done) | (go_simp; with_reducible rfl))
              simp only [Act.put, List.setIfInBounds_toArray, List.set_cons_zero, List.set_cons_succ]
              refine takeH (i := 6) (v := ?_) rfl rfl (by as_aux_lemma => kernel_rfl) (by as_aux_lemma => kernel_rfl) (by as_aux_lemma => kernel_rfl) (fun _ _ _ h => h) (by rfl) ?_ hHeld ?_
              rotate_left
              · (intro w hSw; (try dsimp only at hSw); first | (go_simp; done) | (go_simp; with_reducible rfl))
              simp only [Act.put, List.setIfInBounds_toArray, List.set_cons_zero, List.set_cons_succ]
              refine takeH (i := 7) (v := ?_) rfl rfl (by as_aux_lemma => kernel_rfl) (by as_aux_lemma => kernel_rfl) (by as_aux_lemma => kernel_rfl) (fun _ _ _ h => h) (by rfl) ?_ hHeld ?_
              rotate_left
              · (intro w hSw; (try dsimp only at hSw); first | (go_simp; done) | (go_simp; with_reducible rfl))
              simp only [Act.put, List.setIfInBounds_toArray, List.set_cons_zero, List.set_cons_succ]
              refine wpAnyH_ready (rs := [9]) (by as_aux_lemma => kernel_rfl) (by simp) ?_
              refine AllReadyH.cons rfl (fun K hK => ?_) AllReadyH.nil
              refine store_box_step rfl 26 (.tmp 9) (.tmp 44) rfl rfl y3.heap.size _ _ rfl rfl HZ.out.z rfl (by as_aux_lemma => kernel_rfl) two_one ?_
              intro z9 hg9 hc9 hs9
              have HBX := Lib.hid (TBox.of_store HO.out fit_C hg9 hc9)
              have HB99 := Lib.hid (HB5.out.trans (hc9.bel.mono hgw))
              clear hg9 hc9 hs9
              refine hK.out _ _ ?_ (fun hHeld => ?_)
              · exact ⟨(HU.out.on HB99.out).c0, (HU.out.on HB99.out).c1⟩
              clear hK K
              refine takeH (i := 10) (v := ?_) rfl rfl (by as_aux_lemma => kernel_rfl) (by as_aux_lemma => kernel_rfl) (by as_aux_lemma => kernel_rfl) (fun _ _ _ h => h) (by rfl) ?_ hHeld ?_
              rotate_left
              · (intro w hSw; (try dsimp only at hSw); first | (go_simp; done) | (go_simp; with_reducible rfl))
              simp only [Act.put, List.setIfInBounds_toArray, List.set_cons_zero, List.set_cons_succ]
              refine takeH (i := 11) (v := ?_) rfl rfl (by as_aux_lemma => kernel_rfl) (by as_aux_lemma => kernel_rfl) (by as_aux_lemma => kernel_rfl) (fun _ _ _ h => h) (by rfl) ?_ hHeld ?_
              rotate_left
              · (intro w hSw; (try dsimp only at hSw); first | (go_simp; done) | (go_simp; with_reducible rfl))
              simp only [Act.put, List.setIfInBounds_toArray, List.set_cons_zero, List.set_cons_succ]
              refine wpAnyH_done (by as_aux_lemma => kernel_rfl) ?_ _
              go_wp2
              go_meet
              case rel =>
                obtain ⟨x, hx⟩ := HBX.out
                exact ⟨y3.heap.size, x, rfl, rfl, rfl, hx, HT.out.on HB99.out, HU.out.on HB99.out, HBY.out.trans (HB99.out.mono HBY.out.size)⟩
          · go_simp
            have hb3 := below_new y2 (.cells #[.slice none 0 0, .slice none 0 0] 26)
            have HZ := Lib.hid (ZBx.new y2)
            have HB3 := Lib.hid (HB2.out.trans (hb3.mono HB2.out.size))
            replace HS := Lib.hid (HS.out.on hb3)
            obtain ⟨y3, hy3⟩ : ∃ u, u = y2.alloc (.cells #[.slice none 0 0, .slice none 0 0] 26) := ⟨_, rfl⟩
            replace HZ : Hid (ZBx y3 y2.heap.size) := by rw [hy3]; exact HZ.out
            have hgw : y0.heap.size ≤ y2.heap.size := HB2.out.size
            rw [← hy3] at HB3 HS ⊢
            clear hy3 hb3
            refine hK.out _ _ ?_ (fun hHeld => ?_)
            · exact ⟨(HU.out.on HB3.out).c0, (HU.out.on HB3.out).c1⟩
            clear hK K
            refine wpAnyH_ready (rs := [2]) (by as_aux_lemma => kernel_rfl) (by simp) ?_
            refine AllReadyH.cons rfl (fun K hK => ?_) AllReadyH.nil
            go_simp
            have hb4 := below_new y3 (.cells #[.int .i64 5, .int .i64 1] 3)
            have HI := Lib.hid (IntsAt.news y3 [5, 1])
            have HB4 := Lib.hid (HB3.out.trans (hb4.mono HB3.out.size))
            replace HS := Lib.hid (HS.out.on hb4)
            replace HZ := Lib.hid (HZ.out.on hb4)
            obtain ⟨y4, hy4⟩ : ∃ u, u = y3.alloc (.cells #[.int .i64 5, .int .i64 1] 3) := ⟨_, rfl⟩
            replace HI : Hid (IntsAt y4 y4.heap.size (some ⟨y3.heap.size, 0, none⟩) 2 [5, 1]) := by rw [hy4]; exact HI.out
            rw [← hy4] at HB4 HS HZ ⊢
            clear hy4 hb4
            refine hK.out _ _ ?_ (fun hHeld => ?_)
            · exact ⟨(HU.out.on HB4.out).c0, (HU.out.on HB4.out).c1⟩
            clear hK K
            refine wpAnyH_ready (rs := [3]) (by as_aux_lemma => kernel_rfl) (by simp) ?_
            refine AllReadyH.cons rfl (fun K hK => ?_) AllReadyH.nil
            go_simp
            refine (cut_fact A2 _ 7 7 2 2 wordsL x2 awT [5, 1] awC true 0 aw_cut y4 HS.out len7 (Nat.le_refl _) (HU.out.on HB4.out).tb HI.out len2 (Nat.le_refl _)).mono ?_
            rintro e y5 ⟨v, rfl, hv, hb5⟩
            obtain ⟨D, d, F, f, rfl⟩ := hv.parts
            have HO := Lib.hid hv
            have HB5 := Lib.hid (HB4.out.trans (hb5.mono HB4.out.size))
            replace HS := Lib.hid (HS.out.on hb5)
            replace HZ := Lib.hid (HZ.out.on hb5)
            replace HI := Lib.hid (HI.out.on hb5)
            clear hv hb5 HS HI
            go_wp2_with fail
            refine hK.out _ _ ?_ (fun hHeld => ?_)
            · exact ⟨(HU.out.on HB5.out).c0, (HU.out.on HB5.out).c1⟩
            clear hK K
            refine takeH (i := 4) (v := ?_) rfl rfl (by as_aux_lemma => kernel_rfl) (by as_aux_lemma => kernel_rfl) (by as_aux_lemma => kernel_rfl) (fun _ _ _ h => h) (by rfl) ?_ hHeld ?_
            rotate_left
            · (intro w hSw; (try dsimp only at hSw); first | (go_simp; done) | (go_simp; with_reducible rfl))
            simp only [Act.put, List.setIfInBounds_toArray, List.set_cons_zero, List.set_cons_succ]
            refine takeH (i := 5) (v := ?_) rfl rfl (by as_aux_lemma => kernel_rfl) (by as_aux_lemma => kernel_rfl) (by as_aux_lemma => kernel_rfl) (fun _ _ _ h => h) (by rfl) ?_ hHeld ?_
            rotate_left
            · (intro w hSw; (try dsimp only at hSw); first | (go_simp; done) | (go_simp; with_reducible rfl))
            simp only [Act.put, List.setIfInBounds_toArray, List.set_cons_zero, List.set_cons_succ]
            refine takeH (i := 6) (v := ?_) rfl rfl (by as_aux_lemma => kernel_rfl) (by as_aux_lemma => kernel_rfl) (by as_aux_lemma => kernel_rfl) (fun _ _ _ h => h) (by rfl) ?_ hHeld ?_
            rotate_left
            · (intro w hSw; (try dsimp only at hSw); first | (go_simp; done) | (go_simp; with_reducible rfl))
            simp only [Act.put, List.setIfInBounds_toArray, List.set_cons_zero, List.set_cons_succ]
            refine takeH (i := 7) (v := ?_) rfl rfl (by as_aux_lemma => kernel_rfl) (by as_aux_lemma => kernel_rfl) (by as_aux_lemma => kernel_rfl) (fun _ _ _ h => h) (by rfl) ?_ hHeld ?_
            rotate_left
            · (intro w hSw; (try dsimp only at hSw); first | (go_simp; done) | (go_simp; with_reducible rfl))
            simp only [Act.put, List.setIfInBounds_toArray, List.set_cons_zero, List.set_cons_succ]
            refine wpAnyH_ready (rs := [9]) (by as_aux_lemma => kernel_rfl) (by simp) ?_
            refine AllReadyH.cons rfl (fun K hK => ?_) AllReadyH.nil
            refine store_box_step rfl 26 (.tmp 9) (.tmp 44) rfl rfl y2.heap.size _ _ rfl rfl HZ.out.z rfl (by as_aux_lemma => kernel_rfl) two_one ?_
            intro z9 hg9 hc9 hs9
            have HBX := Lib.hid (TBox.of_store HO.out fit_C hg9 hc9)
            have HB99 := Lib.hid (HB5.out.trans (hc9.bel.mono hgw))
            clear hg9 hc9 hs9
            refine hK.out _ _ ?_ (fun hHeld => ?_)
            · exact ⟨(HU.out.on HB99.out).c0, (HU.out.on HB99.out).c1⟩
            clear hK K
            refine takeH (i := 10) (v := ?_) rfl rfl (by as_aux_lemma => kernel_rfl) (by as_aux_lemma => kernel_rfl) (by as_aux_lemma => kernel_rfl) (fun _ _ _ h => h) (by rfl) ?_ hHeld ?_
            rotate_left
            · (intro w hSw; (try dsimp only at hSw); first | (go_simp; done) | (go_simp; with_reducible rfl))
            simp only [Act.put, List.setIfInBounds_toArray, List.set_cons_zero, List.set_cons_succ]
            refine takeH (i := 11) (v := ?_) rfl rfl (by as_aux_lemma => kernel_rfl) (by as_aux_lemma => kernel_rfl) (by as_aux_lemma => kernel_rfl) (fun _ _ _ h => h) (by rfl) ?_ hHeld ?_
            rotate_left
            · (intro w hSw; (try dsimp only at hSw); first | (go_simp; done) | (go_simp; with_reducible rfl))
            simp only [Act.put, List.setIfInBounds_toArray, List.set_cons_zero, List.set_cons_succ]
            refine wpAnyH_done (by as_aux_lemma => kernel_rfl) ?_ _
            go_wp2
            go_meet
            case rel =>
              obtain ⟨x, hx⟩ := HBX.out
              exact ⟨y2.heap.size, x, rfl, rfl, rfl, hx, HT.out.on HB99.out, HU.out.on HB99.out, HBY.out.trans (HB99.out.mono HBY.out.size)⟩
        · go_simp
          have hb2 := below_new y1 (.cells #[.int .i64 5, .int .i64 1] 3)
          have HI := Lib.hid (IntsAt.news y1 [5, 1])
          have HB2 := Lib.hid (HB1.out.trans (hb2.mono HB1.out.size))
          obtain ⟨y2, hy2⟩ : ∃ u, u = y1.alloc (.cells #[.int .i64 5, .int .i64 1] 3) := ⟨_, rfl⟩
          replace HI : Hid (IntsAt y2 y2.heap.size (some ⟨y1.heap.size, 0, none⟩) 2 [5, 1]) := by rw [hy2]; exact HI.out
          rw [← hy2] at HB2  ⊢
          clear hy2 hb2
          refine hK.out _ _ ?_ (fun hHeld => ?_)
          · exact ⟨(HU.out.on HB2.out).c0, (HU.out.on HB2.out).c1⟩
          clear hK K
          refine wpAnyH_ready (rs := [0, 8]) (by as_aux_lemma => kernel_rfl) (by simp) ?_
          refine AllReadyH.cons rfl (fun K hK => ?_) (AllReadyH.cons rfl (fun K hK => ?_) AllReadyH.nil)
          · go_simp
            refine (words_any _).mono ?_
            rintro e y3 ⟨A3, rfl, hs3, hb3⟩
            have HB3 := Lib.hid (HB2.out.trans (hb3.mono HB2.out.size))
            replace HI := Lib.hid (HI.out.on hb3)
            have HS := Lib.hid hs3
            clear hs3 hb3
            go_wp2_with fail
            refine hK.out _ _ ?_ (fun hHeld => ?_)
            · exact ⟨(HU.out.on HB3.out).c0, (HU.out.on HB3.out).c1⟩
            clear hK K
            refine wpAnyH_ready (rs := [3, 8]) (by as_aux_lemma => kernel_rfl) (by simp) ?_
            refine AllReadyH.cons rfl (fun K hK => ?_) (AllReadyH.cons rfl (fun K hK => ?_) AllReadyH.nil)
            · go_simp
              refine (cut_fact A3 _ 7 7 2 2 wordsL x2 awT [5, 1] awC true 0 aw_cut y3 HS.out len7 (Nat.le_refl _) (HU.out.on HB3.out).tb HI.out len2 (Nat.le_refl _)).mono ?_
              rintro e y4 ⟨v, rfl, hv, hb4⟩
              obtain ⟨D, d, F, f, rfl⟩ := hv.parts
              have HO := Lib.hid hv
              have HB4 := Lib.hid (HB3.out.trans (hb4.mono HB3.out.size))
              replace HI := Lib.hid (HI.out.on hb4)
              replace HS := Lib.hid (HS.out.on hb4)
              clear hv hb4 HS HI
              go_wp2_with fail
              refine hK.out _ _ ?_ (fun hHeld => ?_)
              · exact ⟨(HU.out.on HB4.out).c0, (HU.out.on HB4.out).c1⟩
              clear hK K
              refine takeH (i := 4) (v := ?_) rfl rfl (by as_aux_lemma => kernel_rfl) (by as_aux_lemma => kernel_rfl) (by as_aux_lemma => kernel_rfl) (fun _ _ _ h => h) (by rfl) ?_ hHeld ?_
              rotate_left
              · (intro w hSw; (try dsimp only at hSw); first | (go_simp; done) | (go_simp; with_reducible rfl))
              simp only [Act.put, List.setIfInBounds_toArray, List.set_cons_zero, List.set_cons_succ]
              refine takeH (i := 5) (v := ?_) rfl rfl (by as_aux_lemma => kernel_rfl) (by as_aux_lemma => kernel_rfl) (by as_aux_lemma => kernel_rfl) (fun _ _ _ h => h) (by rfl) ?_ hHeld ?_
              rotate_left
              · (intro w hSw; (try dsimp only at hSw); first | (go_simp; done) | (go_simp; with_reducible rfl))
              simp only [Act.put, List.setIfInBounds_toArray, List.set_cons_zero, List.set_cons_succ]
              refine takeH (i := 6) (v := ?_) rfl rfl (by as_aux_lemma => kernel_rfl) (by as_aux_lemma => kernel_rfl) (by as_aux_lemma => kernel_rfl) (fun _ _ _ h => h) (by rfl) ?_ hHeld ?_
              rotate_left
              · (intro w hSw; (try dsimp only at hSw); first | (go_simp; done) | (go_simp; with_reducible rfl))
              simp only [Act.put, List.setIfInBounds_toArray, List.set_cons_zero, List.set_cons_succ]
              refine takeH (i := 7) (v := ?_) rfl rfl (by as_aux_lemma => kernel_rfl) (by as_aux_lemma => kernel_rfl) (by as_aux_lemma => kernel_rfl) (fun _ _ _ h => h) (by rfl) ?_ hHeld ?_
              rotate_left
              · (intro w hSw; (try dsimp only at hSw); first | (go_simp; done) | (go_simp; with_reducible rfl))
              simp only [Act.put, List.setIfInBounds_toArray, List.set_cons_zero, List.set_cons_succ]
              refine wpAnyH_ready (rs := [8]) (by as_aux_lemma => kernel_rfl) (by simp) ?_
              refine AllReadyH.cons rfl (fun K hK => ?_) AllReadyH.nil
              go_simp
              have hb5 := below_new y4 (.cells #[.slice none 0 0, .slice none 0 0] 26)
              have HZ := Lib.hid (ZBx.new y4)
              have HB5 := Lib.hid (HB4.out.trans (hb5.mono HB4.out.size))
              replace HO := Lib.hid (HO.out.on hb5)
              obtain ⟨y5, hy5⟩ : ∃ u, u = y4.alloc (.cells #[.slice none 0 0, .slice none 0 0] 26) := ⟨_, rfl⟩
              replace HZ : Hid (ZBx y5 y4.heap.size) := by rw [hy5]; exact HZ.out
              have hgw : y0.heap.size ≤ y4.heap.size := HB4.out.size
              rw [← hy5] at HB5 HO ⊢
              clear hy5 hb5
              refine hK.out _ _ ?_ (fun hHeld => ?_)
              · exact ⟨(HU.out.on HB5.out).c0, (HU.out.on HB5.out).c1⟩
              clear hK K
              refine wpAnyH_ready (rs := [9]) (by as_aux_lemma => kernel_rfl) (by simp) ?_
              refine AllReadyH.cons rfl (fun K hK => ?_) AllReadyH.nil
              refine store_box_step rfl 26 (.tmp 9) (.tmp 44) rfl rfl y4.heap.size _ _ rfl rfl HZ.out.z rfl (by as_aux_lemma => kernel_rfl) two_one ?_
              intro z9 hg9 hc9 hs9
              have HBX := Lib.hid (TBox.of_store HO.out fit_C hg9 hc9)
              have HB99 := Lib.hid (HB5.out.trans (hc9.bel.mono hgw))
              clear hg9 hc9 hs9
              refine hK.out _ _ ?_ (fun hHeld => ?_)
              · exact ⟨(HU.out.on HB99.out).c0, (HU.out.on HB99.out).c1⟩
              clear hK K
              refine takeH (i := 10) (v := ?_) rfl rfl (by as_aux_lemma => kernel_rfl) (by as_aux_lemma => kernel_rfl) (by as_aux_lemma => kernel_rfl) (fun _ _ _ h => h) (by rfl) ?_ hHeld ?_
              rotate_left
              · (intro w hSw; (try dsimp only at hSw); first | (go_simp; done) | (go_simp; with_reducible rfl))
              simp only [Act.put, List.setIfInBounds_toArray, List.set_cons_zero, List.set_cons_succ]
              refine takeH (i := 11) (v := ?_) rfl rfl (by as_aux_lemma => kernel_rfl) (by as_aux_lemma => kernel_rfl) (by as_aux_lemma => kernel_rfl) (fun _ _ _ h => h) (by rfl) ?_ hHeld ?_
              rotate_left
              · (intro w hSw; (try dsimp only at hSw); first | (go_simp; done) | (go_simp; with_reducible rfl))
              simp only [Act.put, List.setIfInBounds_toArray, List.set_cons_zero, List.set_cons_succ]
              refine wpAnyH_done (by as_aux_lemma => kernel_rfl) ?_ _
              go_wp2
              go_meet
              case rel =>
                obtain ⟨x, hx⟩ := HBX.out
                exact ⟨y4.heap.size, x, rfl, rfl, rfl, hx, HT.out.on HB99.out, HU.out.on HB99.out, HBY.out.trans (HB99.out.mono HBY.out.size)⟩
            · go_simp
              have hb4 := below_new y3 (.cells #[.slice none 0 0, .slice none 0 0] 26)
              have HZ := Lib.hid (ZBx.new y3)
              have HB4 := Lib.hid (HB3.out.trans (hb4.mono HB3.out.size))
              replace HI := Lib.hid (HI.out.on hb4)
              replace HS := Lib.hid (HS.out.on hb4)
              obtain ⟨y4, hy4⟩ : ∃ u, u = y3.alloc (.cells #[.slice none 0 0, .slice none 0 0] 26) := ⟨_, rfl⟩
              replace HZ : Hid (ZBx y4 y3.heap.size) := by rw [hy4]; exact HZ.out
              have hgw : y0.heap.size ≤ y3.heap.size := HB3.out.size
              rw [← hy4] at HB4 HI HS ⊢
              clear hy4 hb4
              refine hK.out _ _ ?_ (fun hHeld => ?_)
              · exact ⟨(HU.out.on HB4.out).c0, (HU.out.on HB4.out).c1⟩
              clear hK K
              refine wpAnyH_ready (rs := [3]) (by as_aux_lemma => kernel_rfl) (by simp) ?_
              refine AllReadyH.cons rfl (fun K hK => ?_) AllReadyH.nil
              go_simp
              refine (cut_fact A3 _ 7 7 2 2 wordsL x2 awT [5, 1] awC true 0 aw_cut y4 HS.out len7 (Nat.le_refl _) (HU.out.on HB4.out).tb HI.out len2 (Nat.le_refl _)).mono ?_
              rintro e y5 ⟨v, rfl, hv, hb5⟩
              obtain ⟨D, d, F, f, rfl⟩ := hv.parts
              have HO := Lib.hid hv
              have HB5 := Lib.hid (HB4.out.trans (hb5.mono HB4.out.size))
              replace HI := Lib.hid (HI.out.on hb5)
              replace HS := Lib.hid (HS.out.on hb5)
              replace HZ := Lib.hid (HZ.out.on hb5)
              clear hv hb5 HS HI
              go_wp2_with fail
              refine hK.out _ _ ?_ (fun hHeld => ?_)
              · exact ⟨(HU.out.on HB5.out).c0, (HU.out.on HB5.out).c1⟩
              clear hK K
              refine takeH (i := 4) (v := ?_) rfl rfl (by as_aux_lemma => kernel_rfl) (by as_aux_lemma => kernel_rfl) (by as_aux_lemma => kernel_rfl) (fun _ _ _ h => h) (by rfl) ?_ hHeld ?_
              rotate_left
              · (intro w hSw; (try dsimp only at hSw); first | (go_simp; done) | (go_simp; with_reducible rfl))
              simp only [Act.put, List.setIfInBounds_toArray, List.set_cons_zero, List.set_cons_succ]
              refine takeH (i := 5) (v := ?_) rfl rfl (by as_aux_lemma => kernel_rfl) (by as_aux_lemma => kernel_rfl) (by as_aux_lemma => kernel_rfl) (fun _ _ _ h => h) (by rfl) ?_ hHeld ?_
              rotate_left
              · (intro w hSw; (try dsimp only at hSw); first | (go_simp; done) | (go_simp; with_reducible rfl))
              simp only [Act.put, List.setIfInBounds_toArray, List.set_cons_zero, List.set_cons_succ]
              refine takeH (i := 6) (v := ?_) rfl rfl (by as_aux_lemma => kernel_rfl) (by as_aux_lemma => kernel_rfl) (by as_aux_lemma => kernel_rfl) (fun _ _ _ h => h) (by rfl) ?_ hHeld ?_
              rotate_left
              · (intro w hSw; (try dsimp only at hSw); first | (go_simp; done) | (go_simp; with_reducible rfl))
              simp only [Act.put, List.setIfInBounds_toArray, List.set_cons_zero, List.set_cons_succ]
              refine takeH (i := 7) (v := ?_) rfl rfl (by as_aux_lemma => kernel_rfl) (by as_aux_lemma => kernel_rfl) (by as_aux_lemma => kernel_rfl) (fun _ _ _ h => h) (by rfl) ?_ hHeld ?_
              rotate_left
              · (intro w hSw; (try dsimp only at hSw); first | (go_simp; done) | (go_simp; with_reducible rfl))
              simp only [Act.put, List.setIfInBounds_toArray, List.set_cons_zero, List.set_cons_succ]
              refine wpAnyH_ready (rs := [9]) (by as_aux_lemma => kernel_rfl) (by simp) ?_
              refine AllReadyH.cons rfl (fun K hK => ?_) AllReadyH.nil
              refine store_box_step rfl 26 (.tmp 9) (.tmp 44) rfl rfl y3.heap.size _ _ rfl rfl HZ.out.z rfl (by as_aux_lemma => kernel_rfl) two_one ?_
              intro z9 hg9 hc9 hs9
              have HBX := Lib.hid (TBox.of_store HO.out fit_C hg9 hc9)
              have HB99 := Lib.hid (HB5.out.trans (hc9.bel.mono hgw))
              clear hg9 hc9 hs9
              refine hK.out _ _ ?_ (fun hHeld => ?_)
              · exact ⟨(HU.out.on HB99.out).c0, (HU.out.on HB99.out).c1⟩
              clear hK K
              refine takeH (i := 10) (v := ?_) rfl rfl (by as_aux_lemma => kernel_rfl) (by as_aux_lemma => kernel_rfl) (by as_aux_lemma => kernel_rfl) (fun _ _ _ h => h) (by rfl) ?_ hHeld ?_
              rotate_left
              · (intro w hSw; (try dsimp only at hSw); first | (go_simp; done) | (go_simp; with_reducible rfl))
              simp only [Act.put, List.setIfInBounds_toArray, List.set_cons_zero, List.set_cons_succ]
              refine takeH (i := 11) (v := ?_) rfl rfl (by as_aux_lemma => kernel_rfl) (by as_aux_lemma => kernel_rfl) (by as_aux_lemma => kernel_rfl) (fun _ _ _ h => h) (by rfl) ?_ hHeld ?_
              rotate_left
              · (intro w hSw; (try dsimp only at hSw); first | (go_simp; done) | (go_simp; with_reducible rfl))
              simp only [Act.put, List.setIfInBounds_toArray, List.set_cons_zero, List.set_cons_succ]
              refine wpAnyH_done (by as_aux_lemma => kernel_rfl) ?_ _
              go_wp2
              go_meet
              case rel =>
                obtain ⟨x, hx⟩ := HBX.out
                exact ⟨y3.heap.size, x, rfl, rfl, rfl, hx, HT.out.on HB99.out, HU.out.on HB99.out, HBY.out.trans (HB99.out.mono HBY.out.size)⟩
          · go_simp
            have hb3 := below_new y2 (.cells #[.slice none 0 0, .slice none 0 0] 26)
            have HZ := Lib.hid (ZBx.new y2)
            have HB3 := Lib.hid (HB2.out.trans (hb3.mono HB2.out.size))
            replace HI := Lib.hid (HI.out.on hb3)
            obtain ⟨y3, hy3⟩ : ∃ u, u = y2.alloc (.cells #[.slice none 0 0, .slice none 0 0] 26) := ⟨_, rfl⟩
            replace HZ : Hid (ZBx y3 y2.heap.size) := by rw [hy3]; exact HZ.out
            have hgw : y0.heap.size ≤ y2.heap.size := HB2.out.size
            rw [← hy3] at HB3 HI ⊢
            clear hy3 hb3
            refine hK.out _ _ ?_ (fun hHeld => ?_)
            · exact ⟨(HU.out.on HB3.out).c0, (HU.out.on HB3.out).c1⟩
            clear hK K
            refine wpAnyH_ready (rs := [0]) (by as_aux_lemma => kernel_rfl) (by simp) ?_
            refine AllReadyH.cons rfl (fun K hK => ?_) AllReadyH.nil
            go_simp
            refine (words_any _).mono ?_
            rintro e y4 ⟨A4, rfl, hs4, hb4⟩
            have HB4 := Lib.hid (HB3.out.trans (hb4.mono HB3.out.size))
            replace HI := Lib.hid (HI.out.on hb4)
            replace HZ := Lib.hid (HZ.out.on hb4)
            have HS := Lib.hid hs4
            clear hs4 hb4
            go_wp2_with fail
            refine hK.out _ _ ?_ (fun hHeld => ?_)
            · exact ⟨(HU.out.on HB4.out).c0, (HU.out.on HB4.out).c1⟩
            clear hK K
            refine wpAnyH_ready (rs := [3]) (by as_aux_lemma => kernel_rfl) (by simp) ?_
            refine AllReadyH.cons rfl (fun K hK => ?_) AllReadyH.nil
            go_simp
            refine (cut_fact A4 _ 7 7 2 2 wordsL x2 awT [5, 1] awC true 0 aw_cut y4 HS.out len7 (Nat.le_refl _) (HU.out.on HB4.out).tb HI.out len2 (Nat.le_refl _)).mono ?_
            rintro e y5 ⟨v, rfl, hv, hb5⟩
            obtain ⟨D, d, F, f, rfl⟩ := hv.parts
            have HO := Lib.hid hv
            have HB5 := Lib.hid (HB4.out.trans (hb5.mono HB4.out.size))
            replace HI := Lib.hid (HI.out.on hb5)
            replace HZ := Lib.hid (HZ.out.on hb5)
            replace HS := Lib.hid (HS.out.on hb5)
            clear hv hb5 HS HI
            go_wp2_with fail
            refine hK.out _ _ ?_ (fun hHeld => ?_)
            · exact ⟨(HU.out.on HB5.out).c0, (HU.out.on HB5.out).c1⟩
            clear hK K
            refine takeH (i := 4) (v := ?_) rfl rfl (by as_aux_lemma => kernel_rfl) (by as_aux_lemma => kernel_rfl) (by as_aux_lemma => kernel_rfl) (fun _ _ _ h => h) (by rfl) ?_ hHeld ?_
            rotate_left
            · (intro w hSw; (try dsimp only at hSw); first | (go_simp; done) | (go_simp; with_reducible rfl))
            simp only [Act.put, List.setIfInBounds_toArray, List.set_cons_zero, List.set_cons_succ]
            refine takeH (i := 5) (v := ?_) rfl rfl (by as_aux_lemma => kernel_rfl) (by as_aux_lemma => kernel_rfl) (by as_aux_lemma => kernel_rfl) (fun _ _ _ h => h) (by rfl) ?_ hHeld ?_
            rotate_left
            · (intro w hSw; (try dsimp only at hSw); first | (go_simp; done) | (go_simp; with_reducible rfl))
            simp only [Act.put, List.setIfInBounds_toArray, List.set_cons_zero, List.set_cons_succ]
            refine takeH (i := 6) (v := ?_) rfl rfl (by as_aux_lemma => kernel_rfl) (by as_aux_lemma => kernel_rfl) (by as_aux_lemma => kernel_rfl) (fun _ _ _ h => h) (by rfl) ?_ hHeld ?_
            rotate_left
            · (intro w hSw; (try dsimp only at hSw); first | (go_simp; done) | (go_simp; with_reducible rfl))
            simp only [Act.put, List.setIfInBounds_toArray, List.set_cons_zero, List.set_cons_succ]
            refine takeH (i := 7) (v := ?_) rfl rfl (by as_aux_lemma => kernel_rfl) (by as_aux_lemma => kernel_rfl) (by as_aux_lemma => kernel_rfl) (fun _ _ _ h => h) (by rfl) ?_ hHeld ?_
            rotate_left
            · (intro w hSw; (try dsimp only at hSw); first | (go_simp; done) | (go_simp; with_reducible rfl))
            simp only [Act.put, List.setIfInBounds_toArray, List.set_cons_zero, List.set_cons_succ]
            refine wpAnyH_ready (rs := [9]) (by as_aux_lemma => kernel_rfl) (by simp) ?_
            refine AllReadyH.cons rfl (fun K hK => ?_) AllReadyH.nil
            refine store_box_step rfl 26 (.tmp 9) (.tmp 44) rfl rfl y2.heap.size _ _ rfl rfl HZ.out.z rfl (by as_aux_lemma => kernel_rfl) two_one ?_
            intro z9 hg9 hc9 hs9
            have HBX := Lib.hid (TBox.of_store HO.out fit_C hg9 hc9)
            have HB99 := Lib.hid (HB5.out.trans (hc9.bel.mono hgw))
            clear hg9 hc9 hs9
            refine hK.out _ _ ?_ (fun hHeld => ?_)
            · exact ⟨(HU.out.on HB99.out).c0, (HU.out.on HB99.out).c1⟩
            clear hK K
            refine takeH (i := 10) (v := ?_) rfl rfl (by as_aux_lemma => kernel_rfl) (by as_aux_lemma => kernel_rfl) (by as_aux_lemma => kernel_rfl) (fun _ _ _ h => h) (by rfl) ?_ hHeld ?_
            rotate_left
            · (intro w hSw; (try dsimp only at hSw); first | (go_simp; done) | (go_simp; with_reducible rfl))
            simp only [Act.put, List.setIfInBounds_toArray, List.set_cons_zero, List.set_cons_succ]
            refine takeH (i := 11) (v := ?_) rfl rfl (by as_aux_lemma => kernel_rfl) (by as_aux_lemma => kernel_rfl) (by as_aux_lemma => kernel_rfl) (fun _ _ _ h => h) (by rfl) ?_ hHeld ?_
            rotate_left
            · (intro w hSw; (try dsimp only at hSw); first | (go_simp; done) | (go_simp; with_reducible rfl))
            simp only [Act.put, List.setIfInBounds_toArray, List.set_cons_zero, List.set_cons_succ]
            refine wpAnyH_done (by as_aux_lemma => kernel_rfl) ?_ _
            go_wp2
            go_meet
            case rel =>
              obtain ⟨x, hx⟩ := HBX.out
              exact ⟨y2.heap.size, x, rfl, rfl, rfl, hx, HT.out.on HB99.out, HU.out.on HB99.out, HBY.out.trans (HB99.out.mono HBY.out.size)⟩
        · go_simp
          have hb2 := below_new y1 (.cells #[.slice none 0 0, .slice none 0 0] 26)
          have HZ := Lib.hid (ZBx.new y1)
          have HB2 := Lib.hid (HB1.out.trans (hb2.mono HB1.out.size))
          obtain ⟨y2, hy2⟩ : ∃ u, u = y1.alloc (.cells #[.slice none 0 0, .slice none 0 0] 26) := ⟨_, rfl⟩
          replace HZ : Hid (ZBx y2 y1.heap.size) := by rw [hy2]; exact HZ.out
          have hgw : y0.heap.size ≤ y1.heap.size := HB1.out.size
          rw [← hy2] at HB2  ⊢
          clear hy2 hb2
          refine hK.out _ _ ?_ (fun hHeld => ?_)
          · exact ⟨(HU.out.on HB2.out).c0, (HU.out.on HB2.out).c1⟩
          clear hK K
          refine wpAnyH_ready (rs := [0, 2]) (by as_aux_lemma => kernel_rfl) (by simp) ?_
          refine AllReadyH.cons rfl (fun K hK => ?_) (AllReadyH.cons rfl (fun K hK => ?_) AllReadyH.nil)
          · go_simp
            refine (words_any _).mono ?_
            rintro e y3 ⟨A3, rfl, hs3, hb3⟩
            have HB3 := Lib.hid (HB2.out.trans (hb3.mono HB2.out.size))
            replace HZ := Lib.hid (HZ.out.on hb3)
            have HS := Lib.hid hs3
            clear hs3 hb3
            go_wp2_with fail
            refine hK.out _ _ ?_ (fun hHeld => ?_)
            · exact ⟨(HU.out.on HB3.out).c0, (HU.out.on HB3.out).c1⟩
            clear hK K
            refine wpAnyH_ready (rs := [2]) (by as_aux_lemma => kernel_rfl) (by simp) ?_
            refine AllReadyH.cons rfl (fun K hK => ?_) AllReadyH.nil
            go_simp
            have hb4 := below_new y3 (.cells #[.int .i64 5, .int .i64 1] 3)
            have HI := Lib.hid (IntsAt.news y3 [5, 1])
            have HB4 := Lib.hid (HB3.out.trans (hb4.mono HB3.out.size))
            replace HZ := Lib.hid (HZ.out.on hb4)
            replace HS := Lib.hid (HS.out.on hb4)
            obtain ⟨y4, hy4⟩ : ∃ u, u = y3.alloc (.cells #[.int .i64 5, .int .i64 1] 3) := ⟨_, rfl⟩
            replace HI : Hid (IntsAt y4 y4.heap.size (some ⟨y3.heap.size, 0, none⟩) 2 [5, 1]) := by rw [hy4]; exact HI.out
            rw [← hy4] at HB4 HZ HS ⊢
            clear hy4 hb4
            refine hK.out _ _ ?_ (fun hHeld => ?_)
            · exact ⟨(HU.out.on HB4.out).c0, (HU.out.on HB4.out).c1⟩
            clear hK K
            refine wpAnyH_ready (rs := [3]) (by as_aux_lemma => kernel_rfl) (by simp) ?_
            refine AllReadyH.cons rfl (fun K hK => ?_) AllReadyH.nil
            go_simp
            refine (cut_fact A3 _ 7 7 2 2 wordsL x2 awT [5, 1] awC true 0 aw_cut y4 HS.out len7 (Nat.le_refl _) (HU.out.on HB4.out).tb HI.out len2 (Nat.le_refl _)).mono ?_
            rintro e y5 ⟨v, rfl, hv, hb5⟩
            obtain ⟨D, d, F, f, rfl⟩ := hv.parts
            have HO := Lib.hid hv
            have HB5 := Lib.hid (HB4.out.trans (hb5.mono HB4.out.size))
            replace HZ := Lib.hid (HZ.out.on hb5)
            replace HS := Lib.hid (HS.out.on hb5)
            replace HI := Lib.hid (HI.out.on hb5)
            clear hv hb5 HS HI
            go_wp2_with fail
            refine hK.out _ _ ?_ (fun hHeld => ?_)
            · exact ⟨(HU.out.on HB5.out).c0, (HU.out.on HB5.out).c1⟩
            clear hK K
            refine takeH (i := 4) (v := ?_) rfl rfl (by as_aux_lemma => kernel_rfl) (by as_aux_lemma => kernel_rfl) (by as_aux_lemma => kernel_rfl) (fun _ _ _ h => h) (by rfl) ?_ hHeld ?_
            rotate_left
            · (intro w hSw; (try dsimp only at hSw); first | (go_simp; done) | (go_simp; with_reducible rfl))
            simp only [Act.put, List.setIfInBounds_toArray, List.set_cons_zero, List.set_cons_succ]
            refine takeH (i := 5) (v := ?_) rfl rfl (by as_aux_lemma => kernel_rfl) (by as_aux_lemma => kernel_rfl) (by as_aux_lemma => kernel_rfl) (fun _ _ _ h => h) (by rfl) ?_ hHeld ?_
            rotate_left
            · (intro w hSw; (try dsimp only at hSw); first | (go_simp; done) | (go_simp; with_reducible rfl))
            simp only [Act.put, List.setIfInBounds_toArray, List.set_cons_zero, List.set_cons_succ]
            refine takeH (i := 6) (v := ?_) rfl rfl (by as_aux_lemma => kernel_rfl) (by as_aux_lemma => kernel_rfl) (by as_aux_lemma => kernel_rfl) (fun _ _ _ h => h) (by rfl) ?_ hHeld ?_
            rotate_left
            · (intro w hSw; (try dsimp only at hSw); first | (go_simp; done) | (go_simp; with_reducible rfl))
            simp only [Act.put, List.setIfInBounds_toArray, List.set_cons_zero, List.set_cons_succ]
            refine takeH (i := 7) (v := ?_) rfl rfl (by as_aux_lemma => kernel_rfl) (by as_aux_lemma => kernel_rfl) (by as_aux_lemma => kernel_rfl) (fun _ _ _ h => h) (by rfl) ?_ hHeld ?_
            rotate_left
            · (intro w hSw; (try dsimp only at hSw); first | (go_simp; done) | (go_simp; with_reducible rfl))
            simp only [Act.put, List.setIfInBounds_toArray, List.set_cons_zero, List.set_cons_succ]
            refine wpAnyH_ready (rs := [9]) (by as_aux_lemma => kernel_rfl) (by simp) ?_
            refine AllReadyH.cons rfl (fun K hK => ?_) AllReadyH.nil
            refine store_box_step rfl 26 (.tmp 9) (.tmp 44) rfl rfl y1.heap.size _ _ rfl rfl HZ.out.z rfl (by as_aux_lemma => kernel_rfl) two_one ?_
            intro z9 hg9 hc9 hs9
            have HBX := Lib.hid (TBox.of_store HO.out fit_C hg9 hc9)
            have HB99 := Lib.hid (HB5.out.trans (hc9.bel.mono hgw))
            clear hg9 hc9 hs9
            refine hK.out _ _ ?_ (fun hHeld => ?_)
            · exact ⟨(HU.out.on HB99.out).c0, (HU.out.on HB99.out).c1⟩
            clear hK K
            refine takeH (i := 10) (v := ?_) rfl rfl (by as_aux_lemma => kernel_rfl) (by as_aux_lemma => kernel_rfl) (by as_aux_lemma => kernel_rfl) (fun _ _ _ h => h) (by rfl) ?_ hHeld ?_
            rotate_left
            · (intro w hSw; (try dsimp only at hSw); first | (go_simp; done) | (go_simp; with_reducible rfl))
            simp only [Act.put, List.setIfInBounds_toArray, List.set_cons_zero, List.set_cons_succ]
            refine takeH (i := 11) (v := ?_) rfl rfl (by as_aux_lemma => kernel_rfl) (by as_aux_lemma => kernel_rfl) (by as_aux_lemma => kernel_rfl) (fun _ _ _ h => h) (by rfl) ?_ hHeld ?_
            rotate_left
            · (intro w hSw; (try dsimp only at hSw); first | (go_simp; done) | (go_simp; with_reducible rfl))
            simp only [Act.put, List.setIfInBounds_toArray, List.set_cons_zero, List.set_cons_succ]
            refine wpAnyH_done (by as_aux_lemma => kernel_rfl) ?_ _
            go_wp2
            go_meet
            case rel =>
              obtain ⟨x, hx⟩ := HBX.out
              exact ⟨y1.heap.size, x, rfl, rfl, rfl, hx, HT.out.on HB99.out, HU.out.on HB99.out, HBY.out.trans (HB99.out.mono HBY.out.size)⟩
          · go_simp
            have hb3 := below_new y2 (.cells #[.int .i64 5, .int .i64 1] 3)
            have HI := Lib.hid (IntsAt.news y2 [5, 1])
            have HB3 := Lib.hid (HB2.out.trans (hb3.mono HB2.out.size))
            replace HZ := Lib.hid (HZ.out.on hb3)
            obtain ⟨y3, hy3⟩ : ∃ u, u = y2.alloc (.cells #[.int .i64 5, .int .i64 1] 3) := ⟨_, rfl⟩
            replace HI : Hid (IntsAt y3 y3.heap.size (some ⟨y2.heap.size, 0, none⟩) 2 [5, 1]) := by rw [hy3]; exact HI.out
            rw [← hy3] at HB3 HZ ⊢
            clear hy3 hb3
            refine hK.out _ _ ?_ (fun hHeld => ?_)
            · exact ⟨(HU.out.on HB3.out).c0, (HU.out.on HB3.out).c1⟩
            clear hK K
            refine wpAnyH_ready (rs := [0]) (by as_aux_lemma => kernel_rfl) (by simp) ?_
            refine AllReadyH.cons rfl (fun K hK => ?_) AllReadyH.nil
            go_simp
            refine (words_any _).mono ?_
            rintro e y4 ⟨A4, rfl, hs4, hb4⟩
            have HB4 := Lib.hid (HB3.out.trans (hb4.mono HB3.out.size))
            replace HZ := Lib.hid (HZ.out.on hb4)
            replace HI := Lib.hid (HI.out.on hb4)
            have HS := Lib.hid hs4
            clear hs4 hb4
            go_wp2_with fail
            refine hK.out _ _ ?_ (fun hHeld => ?_)
            · exact ⟨(HU.out.on HB4.out).c0, (HU.out.on HB4.out).c1⟩
            clear hK K
            refine wpAnyH_ready (rs := [3]) (by as_aux_lemma => kernel_rfl) (by simp) ?_
            refine AllReadyH.cons rfl (fun K hK => ?_) AllReadyH.nil
            go_simp
            refine (cut_fact A4 _ 7 7 2 2 wordsL x2 awT [5, 1] awC true 0 aw_cut y4 HS.out len7 (Nat.le_refl _) (HU.out.on HB4.out).tb HI.out len2 (Nat.le_refl _)).mono ?_
            rintro e y5 ⟨v, rfl, hv, hb5⟩
            obtain ⟨D, d, F, f, rfl⟩ := hv.parts
            have HO := Lib.hid hv
            have HB5 := Lib.hid (HB4.out.trans (hb5.mono HB4.out.size))
            replace HZ := Lib.hid (HZ.out.on hb5)
            replace HI := Lib.hid (HI.out.on hb5)
            replace HS := Lib.hid (HS.out.on hb5)
            clear hv hb5 HS HI
            go_wp2_with fail
            refine hK.out _ _ ?_ (fun hHeld => ?_)
            · exact ⟨(HU.out.on HB5.out).c0, (HU.out.on HB5.out).c1⟩
            clear hK K
            refine takeH (i := 4) (v := ?_) rfl rfl (by as_aux_lemma => kernel_rfl) (by as_aux_lemma => kernel_rfl) (by as_aux_lemma => kernel_rfl) (fun _ _ _ h => h) (by rfl) ?_ hHeld ?_
            rotate_left
            · (intro w hSw; (try dsimp only at hSw); first | (go_simp; done) | (go_simp; with_reducible rfl))
            simp only [Act.put, List.setIfInBounds_toArray, List.set_cons_zero, List.set_cons_succ]
            refine takeH (i := 5) (v := ?_) rfl rfl (by as_aux_lemma => kernel_rfl) (by as_aux_lemma => kernel_rfl) (by as_aux_lemma => kernel_rfl) (fun _ _ _ h => h) (by rfl) ?_ hHeld ?_
            rotate_left
            · (intro w hSw; (try dsimp only at hSw); first | (go_simp; done) | (go_simp; with_reducible rfl))
            simp only [Act.put, List.setIfInBounds_toArray, List.set_cons_zero, List.set_cons_succ]
            refine takeH (i := 6) (v := ?_) rfl rfl (by as_aux_lemma => kernel_rfl) (by as_aux_lemma => kernel_rfl) (by as_aux_lemma => kernel_rfl) (fun _ _ _ h => h) (by rfl) ?_ hHeld ?_
            rotate_left
            · (intro w hSw; (try dsimp only at hSw); first | (go_simp; done) | (go_simp; with_reducible rfl))
            simp only [Act.put, List.setIfInBounds_toArray, List.set_cons_zero, List.set_cons_succ]
            refine takeH (i := 7) (v := ?_) rfl rfl (by as_aux_lemma => kernel_rfl) (by as_aux_lemma => kernel_rfl) (by as_aux_lemma => kernel_rfl) (fun _ _ _ h => h) (by rfl) ?_ hHeld ?_
            rotate_left
            · (intro w hSw; (try dsimp only at hSw); first | (go_simp; done) | (go_simp; with_reducible rfl))
            simp only [Act.put, List.setIfInBounds_toArray, List.set_cons_zero, List.set_cons_succ]
            refine wpAnyH_ready (rs := [9]) (by as_aux_lemma => kernel_rfl) (by simp) ?_
            refine AllReadyH.cons rfl (fun K hK => ?_) AllReadyH.nil
            refine store_box_step rfl 26 (.tmp 9) (.tmp 44) rfl rfl y1.heap.size _ _ rfl rfl HZ.out.z rfl (by as_aux_lemma => kernel_rfl) two_one ?_
            intro z9 hg9 hc9 hs9
            have HBX := Lib.hid (TBox.of_store HO.out fit_C hg9 hc9)
            have HB99 := Lib.hid (HB5.out.trans (hc9.bel.mono hgw))
            clear hg9 hc9 hs9
            refine hK.out _ _ ?_ (fun hHeld => ?_)
            · exact ⟨(HU.out.on HB99.out).c0, (HU.out.on HB99.out).c1⟩
            clear hK K
            refine takeH (i := 10) (v := ?_) rfl rfl (by as_aux_lemma => kernel_rfl) (by as_aux_lemma => kernel_rfl) (by as_aux_lemma => kernel_rfl) (fun _ _ _ h => h) (by rfl) ?_ hHeld ?_
            rotate_left
            · (intro w hSw; (try dsimp only at hSw); first | (go_simp; done) | (go_simp; with_reducible rfl))
            simp only [Act.put, List.setIfInBounds_toArray, List.set_cons_zero, List.set_cons_succ]
            refine takeH (i := 11) (v := ?_) rfl rfl (by as_aux_lemma => kernel_rfl) (by as_aux_lemma => kernel_rfl) (by as_aux_lemma => kernel_rfl) (fun _ _ _ h => h) (by rfl) ?_ hHeld ?_
            rotate_left
            · (intro w hSw; (try dsimp only at hSw); first | (go_simp; done) | (go_simp; with_reducible rfl))
            simp only [Act.put, List.setIfInBounds_toArray, List.set_cons_zero, List.set_cons_succ]
            refine wpAnyH_done (by as_aux_lemma => kernel_rfl) ?_ _
            go_wp2
            go_meet
            case rel =>
              obtain ⟨x, hx⟩ := HBX.out
              exact ⟨y1.heap.size, x, rfl, rfl, rfl, hx, HT.out.on HB99.out, HU.out.on HB99.out, HBY.out.trans (HB99.out.mono HBY.out.size)⟩
      case rest =>
        obtain ⟨g3, x3, rfl, rfl, rfl, hv, ht, hu, hbx⟩ := hcut
        have HV := Lib.hid hv
        replace HU := Lib.hid hu
        replace HT := Lib.hid ht
        replace HBY := Lib.hid hbx
        obtain ⟨y0, hy0⟩ : ∃ y0, y0 = wc := ⟨_, rfl⟩
        subst hy0
        clear hv hu ht hbx
        go_upto_region 6 with (fail)
        go_cut [12, 13] (fun sa sb wx => sa = .bool false ∧ sb = .int .i64 0 ∧ TBox wx g1 x1 newT ∧ TBox wx g2 x2 awT ∧ TBox wx g3 x3 awC ∧ Below w.heap.size w wx)
        case first =>
          have p0 := HV.out.c0
          have p1 := HV.out.c1
          go_wp2_with fail
          refine wp_region_held_drew (S := (fun w' => w'.cell? ⟨g3, 0, none⟩ = some (.slice x3.A1 x3.n1 x3.c1) ∧ w'.cell? ⟨g3, 1, none⟩ = some (.slice x3.A2 x3.n2 x3.c2))) (by as_aux_lemma => kernel_rfl) ⟨p0, p1⟩ (fun hHeld => ?_)
          have hd : Below y0.heap.size y0 y0.drew := (Below.refl y0.heap.size y0).drew
          obtain ⟨y1, hy1⟩ : ∃ y1, y1 = y0.drew := ⟨_, rfl⟩
          rw [← hy1] at hd hHeld ⊢
          have HB1 := Lib.hid hd
          clear hy1 hd p0 p1
          refine takeH (i := 1) (v := ?_) rfl rfl (by as_aux_lemma => kernel_rfl) (by as_aux_lemma => kernel_rfl) (by as_aux_lemma => kernel_rfl) (fun _ _ _ h => h) (by rfl) ?_ hHeld ?_
          rotate_left
          · (intro w hSw; (try dsimp only at hSw); first | (go_simp; done) | (go_simp; with_reducible rfl))
          simp only [Act.put, List.setIfInBounds_toArray, List.set_cons_zero, List.set_cons_succ]
          refine wpAnyH_ready (rs := [0, 2]) (by as_aux_lemma => kernel_rfl) (by simp) ?_
          refine AllReadyH.cons rfl (fun K hK => ?_) (AllReadyH.cons rfl (fun K hK => ?_) AllReadyH.nil)
          · go_simp
            refine (words_any _).mono ?_
            rintro e y2 ⟨A2, rfl, hs2, hb2⟩
            have HB2 := Lib.hid (HB1.out.trans (hb2.mono HB1.out.size))
            have HS := Lib.hid hs2
            clear hs2 hb2
            go_wp2_with fail
            refine hK.out _ _ ?_ (fun hHeld => ?_)
            · exact ⟨(HV.out.on HB2.out).c0, (HV.out.on HB2.out).c1⟩
            clear hK K
            refine wpAnyH_ready (rs := [2]) (by as_aux_lemma => kernel_rfl) (by simp) ?_
            refine AllReadyH.cons rfl (fun K hK => ?_) AllReadyH.nil
            go_simp
            have hb3 := below_new y2 (.cells #[.int .i64 5, .int .i64 1] 3)
            have HI := Lib.hid (IntsAt.news y2 [5, 1])
            have HB3 := Lib.hid (HB2.out.trans (hb3.mono HB2.out.size))
            replace HS := Lib.hid (HS.out.on hb3)
            obtain ⟨y3, hy3⟩ : ∃ u, u = y2.alloc (.cells #[.int .i64 5, .int .i64 1] 3) := ⟨_, rfl⟩
            replace HI : Hid (IntsAt y3 y3.heap.size (some ⟨y2.heap.size, 0, none⟩) 2 [5, 1]) := by rw [hy3]; exact HI.out
            rw [← hy3] at HB3 HS ⊢
            clear hy3 hb3
            refine hK.out _ _ ?_ (fun hHeld => ?_)
            · exact ⟨(HV.out.on HB3.out).c0, (HV.out.on HB3.out).c1⟩
            clear hK K
            refine wpAnyH_ready (rs := [3]) (by as_aux_lemma => kernel_rfl) (by simp) ?_
            refine AllReadyH.cons rfl (fun K hK => ?_) AllReadyH.nil
            go_simp
            refine (has_fact A2 _ 7 7 2 2 wordsL x3 awC [5, 1] y3 HS.out len7 (Nat.le_refl _) (HV.out.on HB3.out).tb HI.out len2 (Nat.le_refl _)).mono ?_
            rintro e y4 ⟨rfl, hb4⟩
            rw [aw_no.1, aw_no.2]
            have HB4 := Lib.hid (HB3.out.trans (hb4.mono HB3.out.size))
            replace HS := Lib.hid (HS.out.on hb4)
            replace HI := Lib.hid (HI.out.on hb4)
            clear hb4 HS HI
            go_wp2_with fail
            refine hK.out _ _ ?_ (fun hHeld => ?_)
            · exact ⟨(HV.out.on HB4.out).c0, (HV.out.on HB4.out).c1⟩
            clear hK K
            refine takeH (i := 4) (v := ?_) rfl rfl (by as_aux_lemma => kernel_rfl) (by as_aux_lemma => kernel_rfl) (by as_aux_lemma => kernel_rfl) (fun _ _ _ h => h) (by rfl) ?_ hHeld ?_
            rotate_left
            · (intro w hSw; (try dsimp only at hSw); first | (go_simp; done) | (go_simp; with_reducible rfl))
            simp only [Act.put, List.setIfInBounds_toArray, List.set_cons_zero, List.set_cons_succ]
            refine takeH (i := 5) (v := ?_) rfl rfl (by as_aux_lemma => kernel_rfl) (by as_aux_lemma => kernel_rfl) (by as_aux_lemma => kernel_rfl) (fun _ _ _ h => h) (by rfl) ?_ hHeld ?_
            rotate_left
            · (intro w hSw; (try dsimp only at hSw); first | (go_simp; done) | (go_simp; with_reducible rfl))
            simp only [Act.put, List.setIfInBounds_toArray, List.set_cons_zero, List.set_cons_succ]
            refine takeH (i := 6) (v := ?_) rfl rfl (by as_aux_lemma => kernel_rfl) (by as_aux_lemma => kernel_rfl) (by as_aux_lemma => kernel_rfl) (fun _ _ _ h => h) (by rfl) ?_ hHeld ?_
            rotate_left
            · (intro w hSw; (try dsimp only at hSw); first | (go_simp; done) | (go_simp; with_reducible rfl))
            simp only [Act.put, List.setIfInBounds_toArray, List.set_cons_zero, List.set_cons_succ]
            refine takeH (i := 7) (v := ?_) rfl rfl (by as_aux_lemma => kernel_rfl) (by as_aux_lemma => kernel_rfl) (by as_aux_lemma => kernel_rfl) (fun _ _ _ h => h) (by rfl) ?_ hHeld ?_
            rotate_left
            · (intro w hSw; (try dsimp only at hSw); first | (go_simp; done) | (go_simp; with_reducible rfl))
            simp only [Act.put, List.setIfInBounds_toArray, List.set_cons_zero, List.set_cons_succ]
            refine takeH (i := 8) (v := ?_) rfl rfl (by as_aux_lemma => kernel_rfl) (by as_aux_lemma => kernel_rfl) (by as_aux_lemma => kernel_rfl) (fun _ _ _ h => h) (by rfl) ?_ hHeld ?_
            rotate_left
            · (intro w hSw; (try dsimp only at hSw); first | (go_simp; done) | (go_simp; with_reducible rfl))
            simp only [Act.put, List.setIfInBounds_toArray, List.set_cons_zero, List.set_cons_succ]
            refine wpAnyH_done (by as_aux_lemma => kernel_rfl) ?_ _
            go_wp2
            go_meet
            case rel =>
              exact ⟨rfl, rfl, HT.out.on HB4.out, HU.out.on HB4.out, HV.out.on HB4.out, HBY.out.trans (HB4.out.mono HBY.out.size)⟩
          · go_simp
            have hb2 := below_new y1 (.cells #[.int .i64 5, .int .i64 1] 3)
            have HI := Lib.hid (IntsAt.news y1 [5, 1])
            have HB2 := Lib.hid (HB1.out.trans (hb2.mono HB1.out.size))
            obtain ⟨y2, hy2⟩ : ∃ u, u = y1.alloc (.cells #[.int .i64 5, .int .i64 1] 3) := ⟨_, rfl⟩
            replace HI : Hid (IntsAt y2 y2.heap.size (some ⟨y1.heap.size, 0, none⟩) 2 [5, 1]) := by rw [hy2]; exact HI.out
            rw [← hy2] at HB2  ⊢
            clear hy2 hb2
            refine hK.out _ _ ?_ (fun hHeld => ?_)
            · exact ⟨(HV.out.on HB2.out).c0, (HV.out.on HB2.out).c1⟩
            clear hK K
            refine wpAnyH_ready (rs := [0]) (by as_aux_lemma => kernel_rfl) (by simp) ?_
            refine AllReadyH.cons rfl (fun K hK => ?_) AllReadyH.nil
            go_simp
            refine (words_any _).mono ?_
            rintro e y3 ⟨A3, rfl, hs3, hb3⟩
            have HB3 := Lib.hid (HB2.out.trans (hb3.mono HB2.out.size))
            replace HI := Lib.hid (HI.out.on hb3)
            have HS := Lib.hid hs3
            clear hs3 hb3
            go_wp2_with fail
            refine hK.out _ _ ?_ (fun hHeld => ?_)
            · exact ⟨(HV.out.on HB3.out).c0, (HV.out.on HB3.out).c1⟩
            clear hK K
            refine wpAnyH_ready (rs := [3]) (by as_aux_lemma => kernel_rfl) (by simp) ?_
            refine AllReadyH.cons rfl (fun K hK => ?_) AllReadyH.nil
            go_simp
            refine (has_fact A3 _ 7 7 2 2 wordsL x3 awC [5, 1] y3 HS.out len7 (Nat.le_refl _) (HV.out.on HB3.out).tb HI.out len2 (Nat.le_refl _)).mono ?_
            rintro e y4 ⟨rfl, hb4⟩
            rw [aw_no.1, aw_no.2]
            have HB4 := Lib.hid (HB3.out.trans (hb4.mono HB3.out.size))
            replace HI := Lib.hid (HI.out.on hb4)
            replace HS := Lib.hid (HS.out.on hb4)
            clear hb4 HS HI
            go_wp2_with fail
            refine hK.out _ _ ?_ (fun hHeld => ?_)
            · exact ⟨(HV.out.on HB4.out).c0, (HV.out.on HB4.out).c1⟩
            clear hK K
            refine takeH (i := 4) (v := ?_) rfl rfl (by as_aux_lemma => kernel_rfl) (by as_aux_lemma => kernel_rfl) (by as_aux_lemma => kernel_rfl) (fun _ _ _ h => h) (by rfl) ?_ hHeld ?_
            rotate_left
            · (intro w hSw; (try dsimp only at hSw); first | (go_simp; done) | (go_simp; with_reducible rfl))
            simp only [Act.put, List.setIfInBounds_toArray, List.set_cons_zero, List.set_cons_succ]
            refine takeH (i := 5) (v := ?_) rfl rfl (by as_aux_lemma => kernel_rfl) (by as_aux_lemma => kernel_rfl) (by as_aux_lemma => kernel_rfl) (fun _ _ _ h => h) (by rfl) ?_ hHeld ?_
            rotate_left
            · (intro w hSw; (try dsimp only at hSw); first | (go_simp; done) | (go_simp; with_reducible rfl))
            simp only [Act.put, List.setIfInBounds_toArray, List.set_cons_zero, List.set_cons_succ]
            refine takeH (i := 6) (v := ?_) rfl rfl (by as_aux_lemma => kernel_rfl) (by as_aux_lemma => kernel_rfl) (by as_aux_lemma => kernel_rfl) (fun _ _ _ h => h) (by rfl) ?_ hHeld ?_
            rotate_left
            · (intro w hSw; (try dsimp only at hSw); first | (go_simp; done) | (go_simp; with_reducible rfl))
            simp only [Act.put, List.setIfInBounds_toArray, List.set_cons_zero, List.set_cons_succ]
            refine takeH (i := 7) (v := ?_) rfl rfl (by as_aux_lemma => kernel_rfl) (by as_aux_lemma => kernel_rfl) (by as_aux_lemma => kernel_rfl) (fun _ _ _ h => h) (by rfl) ?_ hHeld ?_
            rotate_left
            · (intro w hSw; (try dsimp only at hSw); first | (go_simp; done) | (go_simp; with_reducible rfl))
            simp only [Act.put, List.setIfInBounds_toArray, List.set_cons_zero, List.set_cons_succ]
            refine takeH (i := 8) (v := ?_) rfl rfl (by as_aux_lemma => kernel_rfl) (by as_aux_lemma => kernel_rfl) (by as_aux_lemma => kernel_rfl) (fun _ _ _ h => h) (by rfl) ?_ hHeld ?_
            rotate_left
            · (intro w hSw; (try dsimp only at hSw); first | (go_simp; done) | (go_simp; with_reducible rfl))
            simp only [Act.put, List.setIfInBounds_toArray, List.set_cons_zero, List.set_cons_succ]
            refine wpAnyH_done (by as_aux_lemma => kernel_rfl) ?_ _
            go_wp2
            go_meet
            case rel =>
              exact ⟨rfl, rfl, HT.out.on HB4.out, HU.out.on HB4.out, HV.out.on HB4.out, HBY.out.trans (HB4.out.mono HBY.out.size)⟩
        case rest =>
          obtain ⟨rfl, rfl, ht, hu, hv, hbx⟩ := hcut
          replace HV := Lib.hid hv
          replace HU := Lib.hid hu
          replace HT := Lib.hid ht
          replace HBY := Lib.hid hbx
          obtain ⟨y0, hy0⟩ : ∃ y0, y0 = wc := ⟨_, rfl⟩
          subst hy0
          clear hv hu ht hbx
          go_upto_region 7 with (fail)
          go_cut [16] (fun sc wx => sc = .int .i64 1100 ∧ TBox wx g1 x1 newT ∧ TBox wx g2 x2 awT ∧ TBox wx g3 x3 awC ∧ Below w.heap.size w wx)
          case first =>
            have p0 := HT.out.c0
            have p1 := HT.out.c1
            go_wp2_with fail
            refine wp_region_held_drew (S := (fun w' => w'.cell? ⟨g1, 0, none⟩ = some (.slice x1.A1 x1.n1 x1.c1) ∧ w'.cell? ⟨g1, 1, none⟩ = some (.slice x1.A2 x1.n2 x1.c2))) (by as_aux_lemma => kernel_rfl) ⟨p0, p1⟩ (fun hHeld => ?_)
            have hd : Below y0.heap.size y0 y0.drew := (Below.refl y0.heap.size y0).drew
            obtain ⟨y1, hy1⟩ : ∃ y1, y1 = y0.drew := ⟨_, rfl⟩
            rw [← hy1] at hd hHeld ⊢
            have HB1 := Lib.hid hd
            clear hy1 hd p0 p1
            refine takeH (i := 1) (v := ?_) rfl rfl (by as_aux_lemma => kernel_rfl) (by as_aux_lemma => kernel_rfl) (by as_aux_lemma => kernel_rfl) (fun _ _ _ h => h) (by rfl) ?_ hHeld ?_
            rotate_left
            · (intro w hSw; (try dsimp only at hSw); first | (go_simp; done) | (go_simp; with_reducible rfl))
            simp only [Act.put, List.setIfInBounds_toArray, List.set_cons_zero, List.set_cons_succ]
            refine wpAnyH_ready (rs := [0, 2, 8]) (by as_aux_lemma => kernel_rfl) (by simp) ?_
            refine AllReadyH.cons rfl (fun K hK => ?_) (AllReadyH.cons rfl (fun K hK => ?_) (AllReadyH.cons rfl (fun K hK => ?_) AllReadyH.nil))
            · go_simp
              refine (words_any _).mono ?_
              rintro e y2 ⟨A2, rfl, hs2, hb2⟩
              have HB2 := Lib.hid (HB1.out.trans (hb2.mono HB1.out.size))
              have HS := Lib.hid hs2
              clear hs2 hb2
              go_wp2_with fail
              refine hK.out _ _ ?_ (fun hHeld => ?_)
              · exact ⟨(HT.out.on HB2.out).c0, (HT.out.on HB2.out).c1⟩
              clear hK K
              refine wpAnyH_ready (rs := [2, 8]) (by as_aux_lemma => kernel_rfl) (by simp) ?_
              refine AllReadyH.cons rfl (fun K hK => ?_) (AllReadyH.cons rfl (fun K hK => ?_) AllReadyH.nil)
              · go_simp
                have hb3 := below_new y2 (.cells #[.int .i64 5, .int .i64 (-1)] 3)
                have HI := Lib.hid (IntsAt.news y2 [5, -1])
                have HB3 := Lib.hid (HB2.out.trans (hb3.mono HB2.out.size))
                replace HS := Lib.hid (HS.out.on hb3)
                obtain ⟨y3, hy3⟩ : ∃ u, u = y2.alloc (.cells #[.int .i64 5, .int .i64 (-1)] 3) := ⟨_, rfl⟩
                replace HI : Hid (IntsAt y3 y3.heap.size (some ⟨y2.heap.size, 0, none⟩) 2 [5, -1]) := by rw [hy3]; exact HI.out
                rw [← hy3] at HB3 HS ⊢
                clear hy3 hb3
                refine hK.out _ _ ?_ (fun hHeld => ?_)
                · exact ⟨(HT.out.on HB3.out).c0, (HT.out.on HB3.out).c1⟩
                clear hK K
                refine wpAnyH_ready (rs := [3, 8]) (by as_aux_lemma => kernel_rfl) (by simp) ?_
                refine AllReadyH.cons rfl (fun K hK => ?_) (AllReadyH.cons rfl (fun K hK => ?_) AllReadyH.nil)
                · go_simp
                  refine (put_fact A2 _ 7 7 2 2 wordsL x1 newT [5, -1] ⟨[], []⟩ false 1100 aw_put2 y3 HS.out len7 (Nat.le_refl _) (HT.out.on HB3.out).tb HI.out len2 (Nat.le_refl _)).mono ?_
                  rintro e y4 ⟨v, rfl, hv, hb4⟩
                  obtain ⟨D, d, F, f, rfl⟩ := hv.parts
                  have HO := Lib.hid hv
                  have HB4 := Lib.hid (HB3.out.trans (hb4.mono HB3.out.size))
                  replace HS := Lib.hid (HS.out.on hb4)
                  replace HI := Lib.hid (HI.out.on hb4)
                  clear hv hb4 HS HI
                  go_wp2_with fail
                  refine hK.out _ _ ?_ (fun hHeld => ?_)
                  · exact ⟨(HT.out.on HB4.out).c0, (HT.out.on HB4.out).c1⟩
                  clear hK K
                  refine takeH (i := 4) (v := ?_) rfl rfl (by as_aux_lemma => kernel_rfl) (by as_aux_lemma => kernel_rfl) (by as_aux_lemma => kernel_rfl) (fun _ _ _ h => h) (by rfl) ?_ hHeld ?_
                  rotate_left
                  · (intro w hSw; (try dsimp only at hSw); first | (go_simp; done) | (go_simp; with_reducible rfl))
                  simp only [Act.put, List.setIfInBounds_toArray, List.set_cons_zero, List.set_cons_succ]
                  refine takeH (i := 5) (v := ?_) rfl rfl (by as_aux_lemma => kernel_rfl) (by as_aux_lemma => kernel_rfl) (by as_aux_lemma => kernel_rfl) (fun _ _ _ h => h) (by rfl) ?_ hHeld ?_
                  rotate_left
                  · (intro w hSw; (try dsimp only at hSw); first | (go_simp; done) | (go_simp; with_reducible rfl))
                  simp only [Act.put, List.setIfInBounds_toArray, List.set_cons_zero, List.set_cons_succ]
                  refine takeH (i := 6) (v := ?_) rfl rfl (by as_aux_lemma => kernel_rfl) (by as_aux_lemma => kernel_rfl) (by as_aux_lemma => kernel_rfl) (fun _ _ _ h => h) (by rfl) ?_ hHeld ?_
                  rotate_left
                  · (intro w hSw; (try dsimp only at hSw); first | (go_simp; done) | (go_simp; with_reducible rfl))
                  simp only [Act.put, List.setIfInBounds_toArray, List.set_cons_zero, List.set_cons_succ]
                  refine takeH (i := 7) (v := ?_) rfl rfl (by as_aux_lemma => kernel_rfl) (by as_aux_lemma => kernel_rfl) (by as_aux_lemma => kernel_rfl) (fun _ _ _ h => h) (by rfl) ?_ hHeld ?_
                  rotate_left
                  · (intro w hSw; (try dsimp only at hSw); first | (go_simp; done) | (go_simp; with_reducible rfl))
                  simp only [Act.put, List.setIfInBounds_toArray, List.set_cons_zero, List.set_cons_succ]
                  refine wpAnyH_ready (rs := [8]) (by as_aux_lemma => kernel_rfl) (by simp) ?_
                  refine AllReadyH.cons rfl (fun K hK => ?_) AllReadyH.nil
                  go_simp
                  have hb5 := below_new y4 (.cells #[.slice none 0 0, .slice none 0 0] 26)
                  have HZ := Lib.hid (ZBx.new y4)
                  have HB5 := Lib.hid (HB4.out.trans (hb5.mono HB4.out.size))
                  replace HO := Lib.hid (HO.out.on hb5)
                  obtain ⟨y5, hy5⟩ : ∃ u, u = y4.alloc (.cells #[.slice none 0 0, .slice none 0 0] 26) := ⟨_, rfl⟩
                  replace HZ : Hid (ZBx y5 y4.heap.size) := by rw [hy5]; exact HZ.out
                  have hgw : y0.heap.size ≤ y4.heap.size := HB4.out.size
                  rw [← hy5] at HB5 HO ⊢
                  clear hy5 hb5
                  refine hK.out _ _ ?_ (fun hHeld => ?_)
                  · exact ⟨(HT.out.on HB5.out).c0, (HT.out.on HB5.out).c1⟩
                  clear hK K
                  refine wpAnyH_ready (rs := [9]) (by as_aux_lemma => kernel_rfl) (by simp) ?_
                  refine AllReadyH.cons rfl (fun K hK => ?_) AllReadyH.nil
                  refine store_box_step rfl 26 (.tmp 14) (.tmp 59) rfl rfl y4.heap.size _ _ rfl rfl HZ.out.z rfl (by as_aux_lemma => kernel_rfl) two_one ?_
                  intro z9 hg9 hc9 hs9
                  have HBX := Lib.hid (TBox.of_store HO.out fit_zero hg9 hc9)
                  have HB99 := Lib.hid (HB5.out.trans (hc9.bel.mono hgw))
                  clear hg9 hc9 hs9
                  refine hK.out _ _ ?_ (fun hHeld => ?_)
                  · exact ⟨(HT.out.on HB99.out).c0, (HT.out.on HB99.out).c1⟩
                  clear hK K
                  refine takeH (i := 10) (v := ?_) rfl rfl (by as_aux_lemma => kernel_rfl) (by as_aux_lemma => kernel_rfl) (by as_aux_lemma => kernel_rfl) (fun _ _ _ h => h) (by rfl) ?_ hHeld ?_
                  rotate_left
                  · (intro w hSw; (try dsimp only at hSw); first | (go_simp; done) | (go_simp; with_reducible rfl))
                  simp only [Act.put, List.setIfInBounds_toArray, List.set_cons_zero, List.set_cons_succ]
                  refine takeH (i := 11) (v := ?_) rfl rfl (by as_aux_lemma => kernel_rfl) (by as_aux_lemma => kernel_rfl) (by as_aux_lemma => kernel_rfl) (fun _ _ _ h => h) (by rfl) ?_ hHeld ?_
                  rotate_left
                  · (intro w hSw; (try dsimp only at hSw); first | (go_simp; done) | (go_simp; with_reducible rfl))
                  simp only [Act.put, List.setIfInBounds_toArray, List.set_cons_zero, List.set_cons_succ]
                  refine wpAnyH_done (by as_aux_lemma => kernel_rfl) ?_ _
                  go_wp2
                  go_meet
                  case rel =>
                    exact ⟨rfl, HT.out.on HB99.out, HU.out.on HB99.out, HV.out.on HB99.out, HBY.out.trans (HB99.out.mono HBY.out.size)⟩
                · go_simp
                  have hb4 := below_new y3 (.cells #[.slice none 0 0, .slice none 0 0] 26)
                  have HZ := Lib.hid (ZBx.new y3)
                  have HB4 := Lib.hid (HB3.out.trans (hb4.mono HB3.out.size))
                  replace HS := Lib.hid (HS.out.on hb4)
                  replace HI := Lib.hid (HI.out.on hb4)
                  obtain ⟨y4, hy4⟩ : ∃ u, u = y3.alloc (.cells #[.slice none 0 0, .slice none 0 0] 26) := ⟨_, rfl⟩
                  replace HZ : Hid (ZBx y4 y3.heap.size) := by rw [hy4]; exact HZ.out
                  have hgw : y0.heap.size ≤ y3.heap.size := HB3.out.size
                  rw [← hy4] at HB4 HS HI ⊢
                  clear hy4 hb4
                  refine hK.out _ _ ?_ (fun hHeld => ?_)
                  · exact ⟨(HT.out.on HB4.out).c0, (HT.out.on HB4.out).c1⟩
                  clear hK K
                  refine wpAnyH_ready (rs := [3]) (by as_aux_lemma => kernel_rfl) (by simp) ?_
                  refine AllReadyH.cons rfl (fun K hK => ?_) AllReadyH.nil
                  go_simp
                  refine (put_fact A2 _ 7 7 2 2 wordsL x1 newT [5, -1] ⟨[], []⟩ false 1100 aw_put2 y4 HS.out len7 (Nat.le_refl _) (HT.out.on HB4.out).tb HI.out len2 (Nat.le_refl _)).mono ?_
                  rintro e y5 ⟨v, rfl, hv, hb5⟩
                  obtain ⟨D, d, F, f, rfl⟩ := hv.parts
                  have HO := Lib.hid hv
                  have HB5 := Lib.hid (HB4.out.trans (hb5.mono HB4.out.size))
                  replace HS := Lib.hid (HS.out.on hb5)
                  replace HI := Lib.hid (HI.out.on hb5)
                  replace HZ := Lib.hid (HZ.out.on hb5)
                  clear hv hb5 HS HI
                  go_wp2_with fail
                  refine hK.out _ _ ?_ (fun hHeld => ?_)
                  · exact ⟨(HT.out.on HB5.out).c0, (HT.out.on HB5.out).c1⟩
                  clear hK K
                  refine takeH (i := 4) (v := ?_) rfl rfl (by as_aux_lemma => kernel_rfl) (by as_aux_lemma => kernel_rfl) (by as_aux_lemma => kernel_rfl) (fun _ _ _ h => h) (by rfl) ?_ hHeld ?_
                  rotate_left
                  · (intro w hSw; (try dsimp only at hSw); first | (go_simp; done) | (go_simp; with_reducible rfl))
                  simp only [Act.put, List.setIfInBounds_toArray, List.set_cons_zero, List.set_cons_succ]
                  refine takeH (i := 5) (v := ?_) rfl rfl (by as_aux_lemma => kernel_rfl) (by as_aux_lemma => kernel_rfl) (by as_aux_lemma => kernel_rfl) (fun _ _ _ h => h) (by rfl) ?_ hHeld ?_
                  rotate_left
                  · (intro w hSw; (try dsimp only at hSw); first | (go_simp; done) | (go_simp; with_reducible rfl))
                  simp only [Act.put, List.setIfInBounds_toArray, List.set_cons_zero, List.set_cons_succ]
                  refine takeH (i := 6) (v := ?_) rfl rfl (by as_aux_lemma => kernel_rfl) (by as_aux_lemma => kernel_rfl) (by as_aux_lemma => kernel_rfl) (fun _ _ _ h => h) (by rfl) ?_ hHeld ?_
                  rotate_left
                  · (intro w hSw; (try dsimp only at hSw); first | (go_simp; done) | (go_simp; with_reducible rfl))
                  simp only [Act.put, List.setIfInBounds_toArray, List.set_cons_zero, List.set_cons_succ]
                  refine takeH (i := 7) (v := ?_) rfl rfl (by as_aux_lemma => kernel_rfl) (by as_aux_lemma => kernel_rfl) (by as_aux_lemma => kernel_rfl) (fun _ _ _ h => h) (by rfl) ?_ hHeld ?_
                  rotate_left
                  · (intro w hSw; (try dsimp only at hSw); first | (go_simp; done) | (go_simp; with_reducible rfl))
                  simp only [Act.put, List.setIfInBounds_toArray, List.set_cons_zero, List.set_cons_succ]
                  refine wpAnyH_ready (rs := [9]) (by as_aux_lemma => kernel_rfl) (by simp) ?_
                  refine AllReadyH.cons rfl (fun K hK => ?_) AllReadyH.nil
                  refine store_box_step rfl 26 (.tmp 14) (.tmp 59) rfl rfl y3.heap.size _ _ rfl rfl HZ.out.z rfl (by as_aux_lemma => kernel_rfl) two_one ?_
                  intro z9 hg9 hc9 hs9
                  have HBX := Lib.hid (TBox.of_store HO.out fit_zero hg9 hc9)
                  have HB99 := Lib.hid (HB5.out.trans (hc9.bel.mono hgw))
                  clear hg9 hc9 hs9
                  refine hK.out _ _ ?_ (fun hHeld => ?_)
                  · exact ⟨(HT.out.on HB99.out).c0, (HT.out.on HB99.out).c1⟩
                  clear hK K
                  refine takeH (i := 10) (v := ?_) rfl rfl (by as_aux_lemma => kernel_rfl) (by as_aux_lemma => kernel_rfl) (by as_aux_lemma => kernel_rfl) (fun _ _ _ h => h) (by rfl) ?_ hHeld ?_
                  rotate_left
                  · (intro w hSw; (try dsimp only at hSw); first | (go_simp; done) | (go_simp; with_reducible rfl))
                  simp only [Act.put, List.setIfInBounds_toArray, List.set_cons_zero, List.set_cons_succ]
                  refine takeH (i := 11) (v := ?_) rfl rfl (by as_aux_lemma => kernel_rfl) (by as_aux_lemma => kernel_rfl) (by as_aux_lemma => kernel_rfl) (fun _ _ _ h => h) (by rfl) ?_ hHeld ?_
                  rotate_left
                  · (intro w hSw; (try dsimp only at hSw); first | (go_simp; done) | (go_simp; with_reducible rfl))
                  simp only [Act.put, List.setIfInBounds_toArray, List.set_cons_zero, List.set_cons_succ]
                  refine wpAnyH_done (by as_aux_lemma => kernel_rfl) ?_ _
                  go_wp2
                  go_meet
                  case rel =>
                    exact ⟨rfl, HT.out.on HB99.out, HU.out.on HB99.out, HV.out.on HB99.out, HBY.out.trans (HB99.out.mono HBY.out.size)⟩
              · go_simp
                have hb3 := below_new y2 (.cells #[.slice none 0 0, .slice none 0 0] 26)
                have HZ := Lib.hid (ZBx.new y2)
                have HB3 := Lib.hid (HB2.out.trans (hb3.mono HB2.out.size))
                replace HS := Lib.hid (HS.out.on hb3)
                obtain ⟨y3, hy3⟩ : ∃ u, u = y2.alloc (.cells #[.slice none 0 0, .slice none 0 0] 26) := ⟨_, rfl⟩
                replace HZ : Hid (ZBx y3 y2.heap.size) := by rw [hy3]; exact HZ.out
                have hgw : y0.heap.size ≤ y2.heap.size := HB2.out.size
                rw [← hy3] at HB3 HS ⊢
                clear hy3 hb3
                refine hK.out _ _ ?_ (fun hHeld => ?_)
                · exact ⟨(HT.out.on HB3.out).c0, (HT.out.on HB3.out).c1⟩
                clear hK K
                refine wpAnyH_ready (rs := [2]) (by as_aux_lemma => kernel_rfl) (by simp) ?_
                refine AllReadyH.cons rfl (fun K hK => ?_) AllReadyH.nil
                go_simp
                have hb4 := below_new y3 (.cells #[.int .i64 5, .int .i64 (-1)] 3)
                have HI := Lib.hid (IntsAt.news y3 [5, -1])
                have HB4 := Lib.hid (HB3.out.trans (hb4.mono HB3.out.size))
                replace HS := Lib.hid (HS.out.on hb4)
                replace HZ := Lib.hid (HZ.out.on hb4)
                obtain ⟨y4, hy4⟩ : ∃ u, u = y3.alloc (.cells #[.int .i64 5, .int .i64 (-1)] 3) := ⟨_, rfl⟩
                replace HI : Hid (IntsAt y4 y4.heap.size (some ⟨y3.heap.size, 0, none⟩) 2 [5, -1]) := by rw [hy4]; exact HI.out
                rw [← hy4] at HB4 HS HZ ⊢
                clear hy4 hb4
                refine hK.out _ _ ?_ (fun hHeld => ?_)
                · exact ⟨(HT.out.on HB4.out).c0, (HT.out.on HB4.out).c1⟩
                clear hK K
                refine wpAnyH_ready (rs := [3]) (by as_aux_lemma => kernel_rfl) (by simp) ?_
                refine AllReadyH.cons rfl (fun K hK => ?_) AllReadyH.nil
                go_simp
                refine (put_fact A2 _ 7 7 2 2 wordsL x1 newT [5, -1] ⟨[], []⟩ false 1100 aw_put2 y4 HS.out len7 (Nat.le_refl _) (HT.out.on HB4.out).tb HI.out len2 (Nat.le_refl _)).mono ?_
                rintro e y5 ⟨v, rfl, hv, hb5⟩
                obtain ⟨D, d, F, f, rfl⟩ := hv.parts
                have HO := Lib.hid hv
                have HB5 := Lib.hid (HB4.out.trans (hb5.mono HB4.out.size))
                replace HS := Lib.hid (HS.out.on hb5)
                replace HZ := Lib.hid (HZ.out.on hb5)
                replace HI := Lib.hid (HI.out.on hb5)
                clear hv hb5 HS HI
                go_wp2_with fail
                refine hK.out _ _ ?_ (fun hHeld => ?_)
                · exact ⟨(HT.out.on HB5.out).c0, (HT.out.on HB5.out).c1⟩
                clear hK K
                refine takeH (i := 4) (v := ?_) rfl rfl (by as_aux_lemma => kernel_rfl) (by as_aux_lemma => kernel_rfl) (by as_aux_lemma => kernel_rfl) (fun _ _ _ h => h) (by rfl) ?_ hHeld ?_
                rotate_left
                · (intro w hSw; (try dsimp only at hSw); first | (go_simp; done) | (go_simp; with_reducible rfl))
                simp only [Act.put, List.setIfInBounds_toArray, List.set_cons_zero, List.set_cons_succ]
                refine takeH (i := 5) (v := ?_) rfl rfl (by as_aux_lemma => kernel_rfl) (by as_aux_lemma => kernel_rfl) (by as_aux_lemma => kernel_rfl) (fun _ _ _ h => h) (by rfl) ?_ hHeld ?_
                rotate_left
                · (intro w hSw; (try dsimp only at hSw); first | (go_simp; done) | (go_simp; with_reducible rfl))
                simp only [Act.put, List.setIfInBounds_toArray, List.set_cons_zero, List.set_cons_succ]
                refine takeH (i := 6) (v := ?_) rfl rfl (by as_aux_lemma => kernel_rfl) (by as_aux_lemma => kernel_rfl) (by as_aux_lemma => kernel_rfl) (fun _ _ _ h => h) (by rfl) ?_ hHeld ?_
                rotate_left
                · (intro w hSw; (try dsimp only at hSw); first | (go_simp; done) | (go_simp; with_reducible rfl))
                simp only [Act.put, List.setIfInBounds_toArray, List.set_cons_zero, List.set_cons_succ]
                refine takeH (i := 7) (v := ?_) rfl rfl (by as_aux_lemma => kernel_rfl) (by as_aux_lemma => kernel_rfl) (by as_aux_lemma => kernel_rfl) (fun _ _ _ h => h) (by rfl) ?_ hHeld ?_
                rotate_left
                · (intro w hSw; (try dsimp only at hSw); first | (go_simp; done) | (go_simp; with_reducible rfl))
                simp only [Act.put, List.setIfInBounds_toArray, List.set_cons_zero, List.set_cons_succ]
                refine wpAnyH_ready (rs := [9]) (by as_aux_lemma => kernel_rfl) (by simp) ?_
                refine AllReadyH.cons rfl (fun K hK => ?_) AllReadyH.nil
                refine store_box_step rfl 26 (.tmp 14) (.tmp 59) rfl rfl y2.heap.size _ _ rfl rfl HZ.out.z rfl (by as_aux_lemma => kernel_rfl) two_one ?_
                intro z9 hg9 hc9 hs9
                have HBX := Lib.hid (TBox.of_store HO.out fit_zero hg9 hc9)
                have HB99 := Lib.hid (HB5.out.trans (hc9.bel.mono hgw))
                clear hg9 hc9 hs9
                refine hK.out _ _ ?_ (fun hHeld => ?_)
                · exact ⟨(HT.out.on HB99.out).c0, (HT.out.on HB99.out).c1⟩
                clear hK K
                refine takeH (i := 10) (v := ?_) rfl rfl (by as_aux_lemma => kernel_rfl) (by as_aux_lemma => kernel_rfl) (by as_aux_lemma => kernel_rfl) (fun _ _ _ h => h) (by rfl) ?_ hHeld ?_
                rotate_left
                · (intro w hSw; (try dsimp only at hSw); first | (go_simp; done) | (go_simp; with_reducible rfl))
                simp only [Act.put, List.setIfInBounds_toArray, List.set_cons_zero, List.set_cons_succ]
                refine takeH (i := 11) (v := ?_) rfl rfl (by as_aux_lemma => kernel_rfl) (by as_aux_lemma => kernel_rfl) (by as_aux_lemma => kernel_rfl) (fun _ _ _ h => h) (by rfl) ?_ hHeld ?_
                rotate_left
                · (intro w hSw; (try dsimp only at hSw); first | (go_simp; done) | (go_simp; with_reducible rfl))
                simp only [Act.put, List.setIfInBounds_toArray, List.set_cons_zero, List.set_cons_succ]
                refine wpAnyH_done (by as_aux_lemma => kernel_rfl) ?_ _
                go_wp2
                go_meet
                case rel =>
                  exact ⟨rfl, HT.out.on HB99.out, HU.out.on HB99.out, HV.out.on HB99.out, HBY.out.trans (HB99.out.mono HBY.out.size)⟩
            · go_simp
              have hb2 := below_new y1 (.cells #[.int .i64 5, .int .i64 (-1)] 3)
              have HI := Lib.hid (IntsAt.news y1 [5, -1])
              have HB2 := Lib.hid (HB1.out.trans (hb2.mono HB1.out.size))
              obtain ⟨y2, hy2⟩ : ∃ u, u = y1.alloc (.cells #[.int .i64 5, .int .i64 (-1)] 3) := ⟨_, rfl⟩
              replace HI : Hid (IntsAt y2 y2.heap.size (some ⟨y1.heap.size, 0, none⟩) 2 [5, -1]) := by rw [hy2]; exact HI.out
              rw [← hy2] at HB2  ⊢
              clear hy2 hb2
              refine hK.out _ _ ?_ (fun hHeld => ?_)
              · exact ⟨(HT.out.on HB2.out).c0, (HT.out.on HB2.out).c1⟩
              clear hK K
              refine wpAnyH_ready (rs := [0, 8]) (by as_aux_lemma => kernel_rfl) (by simp) ?_
              refine AllReadyH.cons rfl (fun K hK => ?_) (AllReadyH.cons rfl (fun K hK => ?_) AllReadyH.nil)
              · go_simp
                refine (words_any _).mono ?_
                rintro e y3 ⟨A3, rfl, hs3, hb3⟩
                have HB3 := Lib.hid (HB2.out.trans (hb3.mono HB2.out.size))
                replace HI := Lib.hid (HI.out.on hb3)
                have HS := Lib.hid hs3
                clear hs3 hb3
                go_wp2_with fail
                refine hK.out _ _ ?_ (fun hHeld => ?_)
                · exact ⟨(HT.out.on HB3.out).c0, (HT.out.on HB3.out).c1⟩
                clear hK K
                refine wpAnyH_ready (rs := [3, 8]) (by as_aux_lemma => kernel_rfl) (by simp) ?_
                refine AllReadyH.cons rfl (fun K hK => ?_) (AllReadyH.cons rfl (fun K hK => ?_) AllReadyH.nil)
                · go_simp
                  refine (put_fact A3 _ 7 7 2 2 wordsL x1 newT [5, -1] ⟨[], []⟩ false 1100 aw_put2 y3 HS.out len7 (Nat.le_refl _) (HT.out.on HB3.out).tb HI.out len2 (Nat.le_refl _)).mono ?_
                  rintro e y4 ⟨v, rfl, hv, hb4⟩
                  obtain ⟨D, d, F, f, rfl⟩ := hv.parts
                  have HO := Lib.hid hv
                  have HB4 := Lib.hid (HB3.out.trans (hb4.mono HB3.out.size))
                  replace HI := Lib.hid (HI.out.on hb4)
                  replace HS := Lib.hid (HS.out.on hb4)
                  clear hv hb4 HS HI
                  go_wp2_with fail
                  refine hK.out _ _ ?_ (fun hHeld => ?_)
                  · exact ⟨(HT.out.on HB4.out).c0, (HT.out.on HB4.out).c1⟩
                  clear hK K
                  refine takeH (i := 4) (v := ?_) rfl rfl (by as_aux_lemma => kernel_rfl) (by as_aux_lemma => kernel_rfl) (by as_aux_lemma => kernel_rfl) (fun _ _ _ h => h) (by rfl) ?_ hHeld ?_
                  rotate_left
                  · (intro w hSw; (try dsimp only at hSw); first | (go_simp; done) | (go_simp; with_reducible rfl))
                  simp only [Act.put, List.setIfInBounds_toArray, List.set_cons_zero, List.set_cons_succ]
                  refine takeH (i := 5) (v := ?_) rfl rfl (by as_aux_lemma => kernel_rfl) (by as_aux_lemma => kernel_rfl) (by as_aux_lemma => kernel_rfl) (fun _ _ _ h => h) (by rfl) ?_ hHeld ?_
                  rotate_left
                  · (intro w hSw; (try dsimp only at hSw); first | (go_simp; done) | (go_simp; with_reducible rfl))
                  simp only [Act.put, List.setIfInBounds_toArray, List.set_cons_zero, List.set_cons_succ]
                  refine takeH (i := 6) (v := ?_) rfl rfl (by as_aux_lemma => kernel_rfl) (by as_aux_lemma => kernel_rfl) (by as_aux_lemma => kernel_rfl) (fun _ _ _ h => h) (by rfl) ?_ hHeld ?_
                  rotate_left
                  · (intro w hSw; (try dsimp only at hSw); first | (go_simp; done) | (go_simp; with_reducible rfl))
                  simp only [Act.put, List.setIfInBounds_toArray, List.set_cons_zero, List.set_cons_succ]
                  refine takeH (i := 7) (v := ?_) rfl rfl (by as_aux_lemma => kernel_rfl) (by as_aux_lemma => kernel_rfl) (by as_aux_lemma => kernel_rfl) (fun _ _ _ h => h) (by rfl) ?_ hHeld ?_
                  rotate_left
                  · (intro w hSw; (try dsimp only at hSw); first | (go_simp; done) | (go_simp; with_reducible rfl))
                  simp only [Act.put, List.setIfInBounds_toArray, List.set_cons_zero, List.set_cons_succ]
                  refine wpAnyH_ready (rs := [8]) (by as_aux_lemma => kernel_rfl) (by simp) ?_
                  refine AllReadyH.cons rfl (fun K hK => ?_) AllReadyH.nil
                  go_simp
                  have hb5 := below_new y4 (.cells #[.slice none 0 0, .slice none 0 0] 26)
                  have HZ := Lib.hid (ZBx.new y4)
                  have HB5 := Lib.hid (HB4.out.trans (hb5.mono HB4.out.size))
                  replace HO := Lib.hid (HO.out.on hb5)
                  obtain ⟨y5, hy5⟩ : ∃ u, u = y4.alloc (.cells #[.slice none 0 0, .slice none 0 0] 26) := ⟨_, rfl⟩
                  replace HZ : Hid (ZBx y5 y4.heap.size) := by rw [hy5]; exact HZ.out
                  have hgw : y0.heap.size ≤ y4.heap.size := HB4.out.size
                  rw [← hy5] at HB5 HO ⊢
                  clear hy5 hb5
                  refine hK.out _ _ ?_ (fun hHeld => ?_)
                  · exact ⟨(HT.out.on HB5.out).c0, (HT.out.on HB5.out).c1⟩
                  clear hK K
                  refine wpAnyH_ready (rs := [9]) (by as_aux_lemma => kernel_rfl) (by simp) ?_
                  refine AllReadyH.cons rfl (fun K hK => ?_) AllReadyH.nil
                  refine store_box_step rfl 26 (.tmp 14) (.tmp 59) rfl rfl y4.heap.size _ _ rfl rfl HZ.out.z rfl (by as_aux_lemma => kernel_rfl) two_one ?_
                  intro z9 hg9 hc9 hs9
                  have HBX := Lib.hid (TBox.of_store HO.out fit_zero hg9 hc9)
                  have HB99 := Lib.hid (HB5.out.trans (hc9.bel.mono hgw))
                  clear hg9 hc9 hs9
                  refine hK.out _ _ ?_ (fun hHeld => ?_)
                  · exact ⟨(HT.out.on HB99.out).c0, (HT.out.on HB99.out).c1⟩
                  clear hK K
                  refine takeH (i := 10) (v := ?_) rfl rfl (by as_aux_lemma => kernel_rfl) (by as_aux_lemma => kernel_rfl) (by as_aux_lemma => kernel_rfl) (fun _ _ _ h => h) (by rfl) ?_ hHeld ?_
                  rotate_left
                  · (intro w hSw; (try dsimp only at hSw); first | (go_simp; done) | (go_simp; with_reducible rfl))
                  simp only [Act.put, List.setIfInBounds_toArray, List.set_cons_zero, List.set_cons_succ]
                  refine takeH (i := 11) (v := ?_) rfl rfl (by as_aux_lemma => kernel_rfl) (by as_aux_lemma => kernel_rfl) (by as_aux_lemma => kernel_rfl) (fun _ _ _ h => h) (by rfl) ?_ hHeld ?_
                  rotate_left
                  · (intro w hSw; (try dsimp only at hSw); first | (go_simp; done) | (go_simp; with_reducible rfl))
                  simp only [Act.put, List.setIfInBounds_toArray, List.set_cons_zero, List.set_cons_succ]
                  refine wpAnyH_done (by as_aux_lemma => kernel_rfl) ?_ _
                  go_wp2
                  go_meet
                  case rel =>
                    exact ⟨rfl, HT.out.on HB99.out, HU.out.on HB99.out, HV.out.on HB99.out, HBY.out.trans (HB99.out.mono HBY.out.size)⟩
                · go_simp
                  have hb4 := below_new y3 (.cells #[.slice none 0 0, .slice none 0 0] 26)
                  have HZ := Lib.hid (ZBx.new y3)
                  have HB4 := Lib.hid (HB3.out.trans (hb4.mono HB3.out.size))
                  replace HI := Lib.hid (HI.out.on hb4)
                  replace HS := Lib.hid (HS.out.on hb4)
                  obtain ⟨y4, hy4⟩ : ∃ u, u = y3.alloc (.cells #[.slice none 0 0, .slice none 0 0] 26) := ⟨_, rfl⟩
                  replace HZ : Hid (ZBx y4 y3.heap.size) := by rw [hy4]; exact HZ.out
                  have hgw : y0.heap.size ≤ y3.heap.size := HB3.out.size
                  rw [← hy4] at HB4 HI HS ⊢
                  clear hy4 hb4
                  refine hK.out _ _ ?_ (fun hHeld => ?_)
                  · exact ⟨(HT.out.on HB4.out).c0, (HT.out.on HB4.out).c1⟩
                  clear hK K
                  refine wpAnyH_ready (rs := [3]) (by as_aux_lemma => kernel_rfl) (by simp) ?_
                  refine AllReadyH.cons rfl (fun K hK => ?_) AllReadyH.nil
                  go_simp
                  refine (put_fact A3 _ 7 7 2 2 wordsL x1 newT [5, -1] ⟨[], []⟩ false 1100 aw_put2 y4 HS.out len7 (Nat.le_refl _) (HT.out.on HB4.out).tb HI.out len2 (Nat.le_refl _)).mono ?_
                  rintro e y5 ⟨v, rfl, hv, hb5⟩
                  obtain ⟨D, d, F, f, rfl⟩ := hv.parts
                  have HO := Lib.hid hv
                  have HB5 := Lib.hid (HB4.out.trans (hb5.mono HB4.out.size))
                  replace HI := Lib.hid (HI.out.on hb5)
                  replace HS := Lib.hid (HS.out.on hb5)
                  replace HZ := Lib.hid (HZ.out.on hb5)
                  clear hv hb5 HS HI
                  go_wp2_with fail
                  refine hK.out _ _ ?_ (fun hHeld => ?_)
                  · exact ⟨(HT.out.on HB5.out).c0, (HT.out.on HB5.out).c1⟩
                  clear hK K
                  refine takeH (i := 4) (v := ?_) rfl rfl (by as_aux_lemma => kernel_rfl) (by as_aux_lemma => kernel_rfl) (by as_aux_lemma => kernel_rfl) (fun _ _ _ h => h) (by rfl) ?_ hHeld ?_
                  rotate_left
                  · (intro w hSw; (try dsimp only at hSw); first | (go_simp; done) | (go_simp; with_reducible rfl))
                  simp only [Act.put, List.setIfInBounds_toArray, List.set_cons_zero, List.set_cons_succ]
                  refine takeH (i := 5) (v := ?_) rfl rfl (by as_aux_lemma => kernel_rfl) (by as_aux_lemma => kernel_rfl) (by as_aux_lemma => kernel_rfl) (fun _ _ _ h => h) (by rfl) ?_ hHeld ?_
                  rotate_left
                  · (intro w hSw; (try dsimp only at hSw); first | (go_simp; done) | (go_simp; with_reducible rfl))
                  simp only [Act.put, List.setIfInBounds_toArray, List.set_cons_zero, List.set_cons_succ]
                  refine takeH (i := 6) (v := ?_) rfl rfl (by as_aux_lemma => kernel_rfl) (by as_aux_lemma => kernel_rfl) (by as_aux_lemma => kernel_rfl) (fun _ _ _ h => h) (by rfl) ?_ hHeld ?_
                  rotate_left
                  · (intro w hSw; (try dsimp only at hSw); first | (go_simp; done) | (go_simp; with_reducible rfl))
                  simp only [Act.put, List.setIfInBounds_toArray, List.set_cons_zero, List.set_cons_succ]
                  refine takeH (i := 7) (v := ?_) rfl rfl (by as_aux_lemma => kernel_rfl) (by as_aux_lemma => kernel_rfl) (by as_aux_lemma => kernel_rfl) (fun _ _ _ h => h) (by rfl) ?_ hHeld ?_
                  rotate_left
                  · (intro w hSw; (try dsimp only at hSw); first | (go_simp; done) | (go_simp; with_reducible rfl))
                  simp only [Act.put, List.setIfInBounds_toArray, List.set_cons_zero, List.set_cons_succ]
                  refine wpAnyH_ready (rs := [9]) (by as_aux_lemma => kernel_rfl) (by simp) ?_
                  refine AllReadyH.cons rfl (fun K hK => ?_) AllReadyH.nil
                  refine store_box_step rfl 26 (.tmp 14) (.tmp 59) rfl rfl y3.heap.size _ _ rfl rfl HZ.out.z rfl (by as_aux_lemma => kernel_rfl) two_one ?_
                  intro z9 hg9 hc9 hs9
                  have HBX := Lib.hid (TBox.of_store HO.out fit_zero hg9 hc9)
                  have HB99 := Lib.hid (HB5.out.trans (hc9.bel.mono hgw))
                  clear hg9 hc9 hs9
                  refine hK.out _ _ ?_ (fun hHeld => ?_)
                  · exact ⟨(HT.out.on HB99.out).c0, (HT.out.on HB99.out).c1⟩
                  clear hK K
                  refine takeH (i := 10) (v := ?_) rfl rfl (by as_aux_lemma => kernel_rfl) (by as_aux_lemma => kernel_rfl) (by as_aux_lemma => kernel_rfl) (fun _ _ _ h => h) (by rfl) ?_ hHeld ?_
                  rotate_left
                  · (intro w hSw; (try dsimp only at hSw); first | (go_simp; done) | (go_simp; with_reducible rfl))
                  simp only [Act.put, List.setIfInBounds_toArray, List.set_cons_zero, List.set_cons_succ]
                  refine takeH (i := 11) (v := ?_) rfl rfl (by as_aux_lemma => kernel_rfl) (by as_aux_lemma => kernel_rfl) (by as_aux_lemma => kernel_rfl) (fun _ _ _ h => h) (by rfl) ?_ hHeld ?_
                  rotate_left
                  · (intro w hSw; (try dsimp only at hSw); first | (go_simp; done) | (go_simp; with_reducible rfl))
                  simp only [Act.put, List.setIfInBounds_toArray, List.set_cons_zero, List.set_cons_succ]
                  refine wpAnyH_done (by as_aux_lemma => kernel_rfl) ?_ _
                  go_wp2
                  go_meet
                  case rel =>
                    exact ⟨rfl, HT.out.on HB99.out, HU.out.on HB99.out, HV.out.on HB99.out, HBY.out.trans (HB99.out.mono HBY.out.size)⟩
              · go_simp
                have hb3 := below_new y2 (.cells #[.slice none 0 0, .slice none 0 0] 26)
                have HZ := Lib.hid (ZBx.new y2)
                have HB3 := Lib.hid (HB2.out.trans (hb3.mono HB2.out.size))
                replace HI := Lib.hid (HI.out.on hb3)
                obtain ⟨y3, hy3⟩ : ∃ u, u = y2.alloc (.cells #[.slice none 0 0, .slice none 0 0] 26) := ⟨_, rfl⟩
                replace HZ : Hid (ZBx y3 y2.heap.size) := by rw [hy3]; exact HZ.out
                have hgw : y0.heap.size ≤ y2.heap.size := HB2.out.size
                rw [← hy3] at HB3 HI ⊢
                clear hy3 hb3
                refine hK.out _ _ ?_ (fun hHeld => ?_)
                · exact ⟨(HT.out.on HB3.out).c0, (HT.out.on HB3.out).c1⟩
                clear hK K
                refine wpAnyH_ready (rs := [0]) (by as_aux_lemma => kernel_rfl) (by simp) ?_
                refine AllReadyH.cons rfl (fun K hK => ?_) AllReadyH.nil
                go_simp
                refine (words_any _).mono ?_
                rintro e y4 ⟨A4, rfl, hs4, hb4⟩
                have HB4 := Lib.hid (HB3.out.trans (hb4.mono HB3.out.size))
                replace HI := Lib.hid (HI.out.on hb4)
                replace HZ := Lib.hid (HZ.out.on hb4)
                have HS := Lib.hid hs4
                clear hs4 hb4
                go_wp2_with fail
                refine hK.out _ _ ?_ (fun hHeld => ?_)
                · exact ⟨(HT.out.on HB4.out).c0, (HT.out.on HB4.out).c1⟩
                clear hK K
                refine wpAnyH_ready (rs := [3]) (by as_aux_lemma => kernel_rfl) (by simp) ?_
                refine AllReadyH.cons rfl (fun K hK => ?_) AllReadyH.nil
                go_simp
                refine (put_fact A4 _ 7 7 2 2 wordsL x1 newT [5, -1] ⟨[], []⟩ false 1100 aw_put2 y4 HS.out len7 (Nat.le_refl _) (HT.out.on HB4.out).tb HI.out len2 (Nat.le_refl _)).mono ?_
                rintro e y5 ⟨v, rfl, hv, hb5⟩
                obtain ⟨D, d, F, f, rfl⟩ := hv.parts
                have HO := Lib.hid hv
                have HB5 := Lib.hid (HB4.out.trans (hb5.mono HB4.out.size))
                replace HI := Lib.hid (HI.out.on hb5)
                replace HZ := Lib.hid (HZ.out.on hb5)
                replace HS := Lib.hid (HS.out.on hb5)
                clear hv hb5 HS HI
                go_wp2_with fail
                refine hK.out _ _ ?_ (fun hHeld => ?_)
                · exact ⟨(HT.out.on HB5.out).c0, (HT.out.on HB5.out).c1⟩
                clear hK K
                refine takeH (i := 4) (v := ?_) rfl rfl (by as_aux_lemma => kernel_rfl) (by as_aux_lemma => kernel_rfl) (by as_aux_lemma => kernel_rfl) (fun _ _ _ h => h) (by rfl) ?_ hHeld ?_
                rotate_left
                · (intro w hSw; (try dsimp only at hSw); first | (go_simp; done) | (go_simp; with_reducible rfl))
                simp only [Act.put, List.setIfInBounds_toArray, List.set_cons_zero, List.set_cons_succ]
                refine takeH (i := 5) (v := ?_) rfl rfl (by as_aux_lemma => kernel_rfl) (by as_aux_lemma => kernel_rfl) (by as_aux_lemma => kernel_rfl) (fun _ _ _ h => h) (by rfl) ?_ hHeld ?_
                rotate_left
                · (intro w hSw; (try dsimp only at hSw); first | (go_simp; done) | (go_simp; with_reducible rfl))
                simp only [Act.put, List.setIfInBounds_toArray, List.set_cons_zero, List.set_cons_succ]
                refine takeH (i := 6) (v := ?_) rfl rfl (by as_aux_lemma => kernel_rfl) (by as_aux_lemma => kernel_rfl) (by as_aux_lemma => kernel_rfl) (fun _ _ _ h => h) (by rfl) ?_ hHeld ?_
                rotate_left
                · (intro w hSw; (try dsimp only at hSw); first | (go_simp; done) | (go_simp; with_reducible rfl))
                simp only [Act.put, List.setIfInBounds_toArray, List.set_cons_zero, List.set_cons_succ]
                refine takeH (i := 7) (v := ?_) rfl rfl (by as_aux_lemma => kernel_rfl) (by as_aux_lemma => kernel_rfl) (by as_aux_lemma => kernel_rfl) (fun _ _ _ h => h) (by rfl) ?_ hHeld ?_
                rotate_left
                · (intro w hSw; (try dsimp only at hSw); first | (go_simp; done) | (go_simp; with_reducible rfl))
                simp only [Act.put, List.setIfInBounds_toArray, List.set_cons_zero, List.set_cons_succ]
                refine wpAnyH_ready (rs := [9]) (by as_aux_lemma => kernel_rfl) (by simp) ?_
                refine AllReadyH.cons rfl (fun K hK => ?_) AllReadyH.nil
                refine store_box_step rfl 26 (.tmp 14) (.tmp 59) rfl rfl y2.heap.size _ _ rfl rfl HZ.out.z rfl (by as_aux_lemma => kernel_rfl) two_one ?_
                intro z9 hg9 hc9 hs9
                have HBX := Lib.hid (TBox.of_store HO.out fit_zero hg9 hc9)
                have HB99 := Lib.hid (HB5.out.trans (hc9.bel.mono hgw))
                clear hg9 hc9 hs9
                refine hK.out _ _ ?_ (fun hHeld => ?_)
                · exact ⟨(HT.out.on HB99.out).c0, (HT.out.on HB99.out).c1⟩
                clear hK K
                refine takeH (i := 10) (v := ?_) rfl rfl (by as_aux_lemma => kernel_rfl) (by as_aux_lemma => kernel_rfl) (by as_aux_lemma => kernel_rfl) (fun _ _ _ h => h) (by rfl) ?_ hHeld ?_
                rotate_left
                · (intro w hSw; (try dsimp only at hSw); first | (go_simp; done) | (go_simp; with_reducible rfl))
                simp only [Act.put, List.setIfInBounds_toArray, List.set_cons_zero, List.set_cons_succ]
                refine takeH (i := 11) (v := ?_) rfl rfl (by as_aux_lemma => kernel_rfl) (by as_aux_lemma => kernel_rfl) (by as_aux_lemma => kernel_rfl) (fun _ _ _ h => h) (by rfl) ?_ hHeld ?_
                rotate_left
                · (intro w hSw; (try dsimp only at hSw); first | (go_simp; done) | (go_simp; with_reducible rfl))
                simp only [Act.put, List.setIfInBounds_toArray, List.set_cons_zero, List.set_cons_succ]
                refine wpAnyH_done (by as_aux_lemma => kernel_rfl) ?_ _
                go_wp2
                go_meet
                case rel =>
                  exact ⟨rfl, HT.out.on HB99.out, HU.out.on HB99.out, HV.out.on HB99.out, HBY.out.trans (HB99.out.mono HBY.out.size)⟩
            · go_simp
              have hb2 := below_new y1 (.cells #[.slice none 0 0, .slice none 0 0] 26)
              have HZ := Lib.hid (ZBx.new y1)
              have HB2 := Lib.hid (HB1.out.trans (hb2.mono HB1.out.size))
              obtain ⟨y2, hy2⟩ : ∃ u, u = y1.alloc (.cells #[.slice none 0 0, .slice none 0 0] 26) := ⟨_, rfl⟩
              replace HZ : Hid (ZBx y2 y1.heap.size) := by rw [hy2]; exact HZ.out
              have hgw : y0.heap.size ≤ y1.heap.size := HB1.out.size
              rw [← hy2] at HB2  ⊢
              clear hy2 hb2
              refine hK.out _ _ ?_ (fun hHeld => ?_)
              · exact ⟨(HT.out.on HB2.out).c0, (HT.out.on HB2.out).c1⟩
              clear hK K
              refine wpAnyH_ready (rs := [0, 2]) (by as_aux_lemma => kernel_rfl) (by simp) ?_
              refine AllReadyH.cons rfl (fun K hK => ?_) (AllReadyH.cons rfl (fun K hK => ?_) AllReadyH.nil)
              · go_simp
                refine (words_any _).mono ?_
                rintro e y3 ⟨A3, rfl, hs3, hb3⟩
                have HB3 := Lib.hid (HB2.out.trans (hb3.mono HB2.out.size))
                replace HZ := Lib.hid (HZ.out.on hb3)
                have HS := Lib.hid hs3
                clear hs3 hb3
                go_wp2_with fail
                refine hK.out _ _ ?_ (fun hHeld => ?_)
                · exact ⟨(HT.out.on HB3.out).c0, (HT.out.on HB3.out).c1⟩
                clear hK K
                refine wpAnyH_ready (rs := [2]) (by as_aux_lemma => kernel_rfl) (by simp) ?_
                refine AllReadyH.cons rfl (fun K hK => ?_) AllReadyH.nil
                go_simp
                have hb4 := below_new y3 (.cells #[.int .i64 5, .int .i64 (-1)] 3)
                have HI := Lib.hid (IntsAt.news y3 [5, -1])
                have HB4 := Lib.hid (HB3.out.trans (hb4.mono HB3.out.size))
                replace HZ := Lib.hid (HZ.out.on hb4)
                replace HS := Lib.hid (HS.out.on hb4)
                obtain ⟨y4, hy4⟩ : ∃ u, u = y3.alloc (.cells #[.int .i64 5, .int .i64 (-1)] 3) := ⟨_, rfl⟩
                replace HI : Hid (IntsAt y4 y4.heap.size (some ⟨y3.heap.size, 0, none⟩) 2 [5, -1]) := by rw [hy4]; exact HI.out
                rw [← hy4] at HB4 HZ HS ⊢
                clear hy4 hb4
                refine hK.out _ _ ?_ (fun hHeld => ?_)
                · exact ⟨(HT.out.on HB4.out).c0, (HT.out.on HB4.out).c1⟩
                clear hK K
                refine wpAnyH_ready (rs := [3]) (by as_aux_lemma => kernel_rfl) (by simp) ?_
                refine AllReadyH.cons rfl (fun K hK => ?_) AllReadyH.nil
                go_simp
                refine (put_fact A3 _ 7 7 2 2 wordsL x1 newT [5, -1] ⟨[], []⟩ false 1100 aw_put2 y4 HS.out len7 (Nat.le_refl _) (HT.out.on HB4.out).tb HI.out len2 (Nat.le_refl _)).mono ?_
                rintro e y5 ⟨v, rfl, hv, hb5⟩
                obtain ⟨D, d, F, f, rfl⟩ := hv.parts
                have HO := Lib.hid hv
                have HB5 := Lib.hid (HB4.out.trans (hb5.mono HB4.out.size))
                replace HZ := Lib.hid (HZ.out.on hb5)
                replace HS := Lib.hid (HS.out.on hb5)
                replace HI := Lib.hid (HI.out.on hb5)
                clear hv hb5 HS HI
                go_wp2_with fail
                refine hK.out _ _ ?_ (fun hHeld => ?_)
                · exact ⟨(HT.out.on HB5.out).c0, (HT.out.on HB5.out).c1⟩
                clear hK K
                refine takeH (i := 4) (v := ?_) rfl rfl (by as_aux_lemma => kernel_rfl) (by as_aux_lemma => kernel_rfl) (by as_aux_lemma => kernel_rfl) (fun _ _ _ h => h) (by rfl) ?_ hHeld ?_
                rotate_left
                · (intro w hSw; (try dsimp only at hSw); first | (go_simp; done) | (go_simp; with_reducible rfl))
                simp only [Act.put, List.setIfInBounds_toArray, List.set_cons_zero, List.set_cons_succ]
                refine takeH (i := 5) (v := ?_) rfl rfl (by as_aux_lemma => kernel_rfl) (by as_aux_lemma => kernel_rfl) (by as_aux_lemma => kernel_rfl) (fun _ _ _ h => h) (by rfl) ?_ hHeld ?_
                rotate_left
                · (intro w hSw; (try dsimp only at hSw); first | (go_simp; done) | (go_simp; with_reducible rfl))
                simp only [Act.put, List.setIfInBounds_toArray, List.set_cons_zero, List.set_cons_succ]
                refine takeH (i := 6) (v := ?_) rfl rfl (by as_aux_lemma => kernel_rfl) (by as_aux_lemma => kernel_rfl) (by as_aux_lemma => kernel_rfl) (fun _ _ _ h => h) (by rfl) ?_ hHeld ?_
                rotate_left
                · (intro w hSw; (try dsimp only at hSw); first | (go_simp; done) | (go_simp; with_reducible rfl))
                simp only [Act.put, List.setIfInBounds_toArray, List.set_cons_zero, List.set_cons_succ]
                refine takeH (i := 7) (v := ?_) rfl rfl (by as_aux_lemma => kernel_rfl) (by as_aux_lemma => kernel_rfl) (by as_aux_lemma => kernel_rfl) (fun _ _ _ h => h) (by rfl) ?_ hHeld ?_
                rotate_left
                · (intro w hSw; (try dsimp only at hSw); first | (go_simp; done) | (go_simp; with_reducible rfl))
                simp only [Act.put, List.setIfInBounds_toArray, List.set_cons_zero, List.set_cons_succ]
                refine wpAnyH_ready (rs := [9]) (by as_aux_lemma => kernel_rfl) (by simp) ?_
                refine AllReadyH.cons rfl (fun K hK => ?_) AllReadyH.nil
                refine store_box_step rfl 26 (.tmp 14) (.tmp 59) rfl rfl y1.heap.size _ _ rfl rfl HZ.out.z rfl (by as_aux_lemma => kernel_rfl) two_one ?_
                intro z9 hg9 hc9 hs9
                have HBX := Lib.hid (TBox.of_store HO.out fit_zero hg9 hc9)
                have HB99 := Lib.hid (HB5.out.trans (hc9.bel.mono hgw))
                clear hg9 hc9 hs9
                refine hK.out _ _ ?_ (fun hHeld => ?_)
                · exact ⟨(HT.out.on HB99.out).c0, (HT.out.on HB99.out).c1⟩
                clear hK K
                refine takeH (i := 10) (v := ?_) rfl rfl (by as_aux_lemma => kernel_rfl) (by as_aux_lemma => kernel_rfl) (by as_aux_lemma => kernel_rfl) (fun _ _ _ h => h) (by rfl) ?_ hHeld ?_
                rotate_left
                · (intro w hSw; (try dsimp only at hSw); first | (go_simp; done) | (go_simp; with_reducible rfl))
                simp only [Act.put, List.setIfInBounds_toArray, List.set_cons_zero, List.set_cons_succ]
                refine takeH (i := 11) (v := ?_) rfl rfl (by as_aux_lemma => kernel_rfl) (by as_aux_lemma => kernel_rfl) (by as_aux_lemma => kernel_rfl) (fun _ _ _ h => h) (by rfl) ?_ hHeld ?_
                rotate_left
                · (intro w hSw; (try dsimp only at hSw); first | (go_simp; done) | (go_simp; with_reducible rfl))
                simp only [Act.put, List.setIfInBounds_toArray, List.set_cons_zero, List.set_cons_succ]
                refine wpAnyH_done (by as_aux_lemma => kernel_rfl) ?_ _
                go_wp2
                go_meet
                case rel =>
                  exact ⟨rfl, HT.out.on HB99.out, HU.out.on HB99.out, HV.out.on HB99.out, HBY.out.trans (HB99.out.mono HBY.out.size)⟩
              · go_simp
                have hb3 := below_new y2 (.cells #[.int .i64 5, .int .i64 (-1)] 3)
                have HI := Lib.hid (IntsAt.news y2 [5, -1])
                have HB3 := Lib.hid (HB2.out.trans (hb3.mono HB2.out.size))
                replace HZ := Lib.hid (HZ.out.on hb3)
                obtain ⟨y3, hy3⟩ : ∃ u, u = y2.alloc (.cells #[.int .i64 5, .int .i64 (-1)] 3) := ⟨_, rfl⟩
                replace HI : Hid (IntsAt y3 y3.heap.size (some ⟨y2.heap.size, 0, none⟩) 2 [5, -1]) := by rw [hy3]; exact HI.out
                rw [← hy3] at HB3 HZ ⊢
                clear hy3 hb3
                refine hK.out _ _ ?_ (fun hHeld => ?_)
                · exact ⟨(HT.out.on HB3.out).c0, (HT.out.on HB3.out).c1⟩
                clear hK K
                refine wpAnyH_ready (rs := [0]) (by as_aux_lemma => kernel_rfl) (by simp) ?_
                refine AllReadyH.cons rfl (fun K hK => ?_) AllReadyH.nil
                go_simp
                refine (words_any _).mono ?_
                rintro e y4 ⟨A4, rfl, hs4, hb4⟩
                have HB4 := Lib.hid (HB3.out.trans (hb4.mono HB3.out.size))
                replace HZ := Lib.hid (HZ.out.on hb4)
                replace HI := Lib.hid (HI.out.on hb4)
                have HS := Lib.hid hs4
                clear hs4 hb4
                go_wp2_with fail
                refine hK.out _ _ ?_ (fun hHeld => ?_)
                · exact ⟨(HT.out.on HB4.out).c0, (HT.out.on HB4.out).c1⟩
                clear hK K
                refine wpAnyH_ready (rs := [3]) (by as_aux_lemma => kernel_rfl) (by simp) ?_
                refine AllReadyH.cons rfl (fun K hK => ?_) AllReadyH.nil
                go_simp
                refine (put_fact A4 _ 7 7 2 2 wordsL x1 newT [5, -1] ⟨[], []⟩ false 1100 aw_put2 y4 HS.out len7 (Nat.le_refl _) (HT.out.on HB4.out).tb HI.out len2 (Nat.le_refl _)).mono ?_
                rintro e y5 ⟨v, rfl, hv, hb5⟩
                obtain ⟨D, d, F, f, rfl⟩ := hv.parts
                have HO := Lib.hid hv
                have HB5 := Lib.hid (HB4.out.trans (hb5.mono HB4.out.size))
                replace HZ := Lib.hid (HZ.out.on hb5)
                replace HI := Lib.hid (HI.out.on hb5)
                replace HS := Lib.hid (HS.out.on hb5)
                clear hv hb5 HS HI
                go_wp2_with fail
                refine hK.out _ _ ?_ (fun hHeld => ?_)
                · exact ⟨(HT.out.on HB5.out).c0, (HT.out.on HB5.out).c1⟩
                clear hK K
                refine takeH (i := 4) (v := ?_) rfl rfl (by as_aux_lemma => kernel_rfl) (by as_aux_lemma => kernel_rfl) (by as_aux_lemma => kernel_rfl) (fun _ _ _ h => h) (by rfl) ?_ hHeld ?_
                rotate_left
                · (intro w hSw; (try dsimp only at hSw); first | (go_simp; done) | (go_simp; with_reducible rfl))
                simp only [Act.put, List.setIfInBounds_toArray, List.set_cons_zero, List.set_cons_succ]
                refine takeH (i := 5) (v := ?_) rfl rfl (by as_aux_lemma => kernel_rfl) (by as_aux_lemma => kernel_rfl) (by as_aux_lemma => kernel_rfl) (fun _ _ _ h => h) (by rfl) ?_ hHeld ?_
                rotate_left
                · (intro w hSw; (try dsimp only at hSw); first | (go_simp; done) | (go_simp; with_reducible rfl))
                simp only [Act.put, List.setIfInBounds_toArray, List.set_cons_zero, List.set_cons_succ]
                refine takeH (i := 6) (v := ?_) rfl rfl (by as_aux_lemma => kernel_rfl) (by as_aux_lemma => kernel_rfl) (by as_aux_lemma => kernel_rfl) (fun _ _ _ h => h) (by rfl) ?_ hHeld ?_
                rotate_left
                · (intro w hSw; (try dsimp only at hSw); first | (go_simp; done) | (go_simp; with_reducible rfl))
                simp only [Act.put, List.setIfInBounds_toArray, List.set_cons_zero, List.set_cons_succ]
                refine takeH (i := 7) (v := ?_) rfl rfl (by as_aux_lemma => kernel_rfl) (by as_aux_lemma => kernel_rfl) (by as_aux_lemma => kernel_rfl) (fun _ _ _ h => h) (by rfl) ?_ hHeld ?_
                rotate_left
                · (intro w hSw; (try dsimp only at hSw); first | (go_simp; done) | (go_simp; with_reducible rfl))
                simp only [Act.put, List.setIfInBounds_toArray, List.set_cons_zero, List.set_cons_succ]
                refine wpAnyH_ready (rs := [9]) (by as_aux_lemma => kernel_rfl) (by simp) ?_
                refine AllReadyH.cons rfl (fun K hK => ?_) AllReadyH.nil
                refine store_box_step rfl 26 (.tmp 14) (.tmp 59) rfl rfl y1.heap.size _ _ rfl rfl HZ.out.z rfl (by as_aux_lemma => kernel_rfl) two_one ?_
                intro z9 hg9 hc9 hs9
                have HBX := Lib.hid (TBox.of_store HO.out fit_zero hg9 hc9)
                have HB99 := Lib.hid (HB5.out.trans (hc9.bel.mono hgw))
                clear hg9 hc9 hs9
                refine hK.out _ _ ?_ (fun hHeld => ?_)
                · exact ⟨(HT.out.on HB99.out).c0, (HT.out.on HB99.out).c1⟩
                clear hK K
                refine takeH (i := 10) (v := ?_) rfl rfl (by as_aux_lemma => kernel_rfl) (by as_aux_lemma => kernel_rfl) (by as_aux_lemma => kernel_rfl) (fun _ _ _ h => h) (by rfl) ?_ hHeld ?_
                rotate_left
                · (intro w hSw; (try dsimp only at hSw); first | (go_simp; done) | (go_simp; with_reducible rfl))
                simp only [Act.put, List.setIfInBounds_toArray, List.set_cons_zero, List.set_cons_succ]
                refine takeH (i := 11) (v := ?_) rfl rfl (by as_aux_lemma => kernel_rfl) (by as_aux_lemma => kernel_rfl) (by as_aux_lemma => kernel_rfl) (fun _ _ _ h => h) (by rfl) ?_ hHeld ?_
                rotate_left
                · (intro w hSw; (try dsimp only at hSw); first | (go_simp; done) | (go_simp; with_reducible rfl))
                simp only [Act.put, List.setIfInBounds_toArray, List.set_cons_zero, List.set_cons_succ]
                refine wpAnyH_done (by as_aux_lemma => kernel_rfl) ?_ _
                go_wp2
                go_meet
                case rel =>
                  exact ⟨rfl, HT.out.on HB99.out, HU.out.on HB99.out, HV.out.on HB99.out, HBY.out.trans (HB99.out.mono HBY.out.size)⟩
          case rest =>
            obtain ⟨rfl, ht, hu, hv, hbx⟩ := hcut
            replace HV := Lib.hid hv
            replace HU := Lib.hid hu
            replace HT := Lib.hid ht
            replace HBY := Lib.hid hbx
            obtain ⟨y0, hy0⟩ : ∃ y0, y0 = wc := ⟨_, rfl⟩
            subst hy0
            clear hv hu ht hbx
            have n2 : Hid (x2.n2 = 1) := by show _ = _; rw [← HU.out.tb.fc.len, aw_facts]; rfl
            have n3 : Hid (x3.n2 = 0) := by show _ = _; rw [← HV.out.tb.fc.len, aw_facts2]; rfl
            have HELD : Hid (∀ y, Below y0.heap.size y0 y → y.cell? ⟨g1, 0, none⟩ = some (.slice x1.A1 x1.n1 x1.c1) ∧ y.cell? ⟨g1, 1, none⟩ = some (.slice x1.A2 x1.n2 x1.c2) ∧ y.cell? ⟨g2, 0, none⟩ = some (.slice x2.A1 x2.n1 x2.c1) ∧ y.cell? ⟨g2, 1, none⟩ = some (.slice x2.A2 1 x2.c2) ∧ y.cell? ⟨g3, 1, none⟩ = some (.slice x3.A2 0 x3.c2)) := fun y h => ⟨(HT.out.on h).c0, (HT.out.on h).c1, (HU.out.on h).c0, by have := (HU.out.on h).c1; rw [n2.out] at this; exact this, by have := (HV.out.on h).c1; rw [n3.out] at this; exact this⟩
            go_wp2_with fail
            have hd : Below y0.heap.size y0 y0.drew := (Below.refl y0.heap.size y0).drew
            have hS := HELD.out _ hd
            refine wp_region_held_drew (S := (fun w' => w'.cell? ⟨g1, 0, none⟩ = some (.slice x1.A1 x1.n1 x1.c1) ∧ w'.cell? ⟨g1, 1, none⟩ = some (.slice x1.A2 x1.n2 x1.c2) ∧ w'.cell? ⟨g2, 0, none⟩ = some (.slice x2.A1 x2.n1 x2.c1) ∧ w'.cell? ⟨g2, 1, none⟩ = some (.slice x2.A2 1 x2.c2) ∧ w'.cell? ⟨g3, 1, none⟩ = some (.slice x3.A2 0 x3.c2))) (by as_aux_lemma => kernel_rfl) hS (fun hHeld => ?_)
            clear hS
            obtain ⟨y1, hy1⟩ : ∃ y1, y1 = y0.drew := ⟨_, rfl⟩
            rw [← hy1] at hd hHeld ⊢
            have HB1 := Lib.hid hd
            clear hy1 hd
            refine takeH (i := 0) (v := ?_) rfl rfl (by as_aux_lemma => kernel_rfl) (by as_aux_lemma => kernel_rfl) (by as_aux_lemma => kernel_rfl) (fun _ _ _ h => h) (by rfl) ?_ hHeld ?_
            rotate_left
            · (intro w hSw; (try dsimp only at hSw); first | (go_simp; done) | (go_simp; with_reducible rfl))
            simp only [Act.put, List.setIfInBounds_toArray, List.set_cons_zero, List.set_cons_succ]
            refine takeH (i := 1) (v := ?_) rfl rfl (by as_aux_lemma => kernel_rfl) (by as_aux_lemma => kernel_rfl) (by as_aux_lemma => kernel_rfl) (fun _ _ _ h => h) (by rfl) ?_ hHeld ?_
            rotate_left
            · (intro w hSw; (try dsimp only at hSw); first | (go_simp; done) | (go_simp; with_reducible rfl))
            simp only [Act.put, List.setIfInBounds_toArray, List.set_cons_zero, List.set_cons_succ]
            refine takeH (i := 2) (v := ?_) rfl rfl (by as_aux_lemma => kernel_rfl) (by as_aux_lemma => kernel_rfl) (by as_aux_lemma => kernel_rfl) (fun _ _ _ h => h) (by rfl) ?_ hHeld ?_
            rotate_left
            · (intro w hSw; (try dsimp only at hSw); first | (go_simp; done) | (go_simp; with_reducible rfl))
            simp only [Act.put, List.setIfInBounds_toArray, List.set_cons_zero, List.set_cons_succ]
            refine takeH (i := 3) (v := ?_) rfl rfl (by as_aux_lemma => kernel_rfl) (by as_aux_lemma => kernel_rfl) (by as_aux_lemma => kernel_rfl) (fun _ _ _ h => h) (by rfl) ?_ hHeld ?_
            rotate_left
            · (intro w hSw; (try dsimp only at hSw); first | (go_simp; done) | (go_simp; with_reducible rfl))
            simp only [Act.put, List.setIfInBounds_toArray, List.set_cons_zero, List.set_cons_succ]
            refine wpAnyH_ready (rs := [4]) (by as_aux_lemma => kernel_rfl) (by simp) ?_
            refine AllReadyH.cons rfl (fun K hK => ?_) AllReadyH.nil
            go_simp
            refine (num_any _ _).mono ?_
            rintro e w' ⟨rfl, rfl⟩
            go_wp2_with fail
            refine hK.out _ _ ?_ (fun hHeld => ?_)
            · exact HELD.out _ HB1.out
            clear hK K
            refine takeH (i := 5) (v := ?_) rfl rfl (by as_aux_lemma => kernel_rfl) (by as_aux_lemma => kernel_rfl) (by as_aux_lemma => kernel_rfl) (fun _ _ _ h => h) (by rfl) ?_ hHeld ?_
            rotate_left
            · (intro w hSw; (try dsimp only at hSw); first | (go_simp; done) | (go_simp; with_reducible rfl))
            simp only [Act.put, List.setIfInBounds_toArray, List.set_cons_zero, List.set_cons_succ]
            refine takeH (i := 6) (v := ?_) rfl rfl (by as_aux_lemma => kernel_rfl) (by as_aux_lemma => kernel_rfl) (by as_aux_lemma => kernel_rfl) (fun _ _ _ h => h) (by rfl) ?_ hHeld ?_
            rotate_left
            · (intro w hSw; (try dsimp only at hSw); first | (go_simp; done) | (go_simp; with_reducible rfl))
            simp only [Act.put, List.setIfInBounds_toArray, List.set_cons_zero, List.set_cons_succ]
            refine takeH (i := 7) (v := ?_) rfl rfl (by as_aux_lemma => kernel_rfl) (by as_aux_lemma => kernel_rfl) (by as_aux_lemma => kernel_rfl) (fun _ _ _ h => h) (by rfl) ?_ hHeld ?_
            rotate_left
            · (intro w hSw; (try dsimp only at hSw); first | (go_simp; done) | (go_simp; with_reducible rfl))
            simp only [Act.put, List.setIfInBounds_toArray, List.set_cons_zero, List.set_cons_succ]
            refine takeH (i := 8) (v := ?_) rfl rfl (by as_aux_lemma => kernel_rfl) (by as_aux_lemma => kernel_rfl) (by as_aux_lemma => kernel_rfl) (fun _ _ _ h => h) (by rfl) ?_ hHeld ?_
            rotate_left
            · (intro w hSw; (try dsimp only at hSw); first | (go_simp; done) | (go_simp; with_reducible rfl))
            simp only [Act.put, List.setIfInBounds_toArray, List.set_cons_zero, List.set_cons_succ]
            refine takeH (i := 9) (v := ?_) rfl rfl (by as_aux_lemma => kernel_rfl) (by as_aux_lemma => kernel_rfl) (by as_aux_lemma => kernel_rfl) (fun _ _ _ h => h) (by rfl) ?_ hHeld ?_
            rotate_left
            · (intro w hSw; (try dsimp only at hSw); first | (go_simp; done) | (go_simp; with_reducible rfl))
            simp only [Act.put, List.setIfInBounds_toArray, List.set_cons_zero, List.set_cons_succ]
            refine takeH (i := 10) (v := ?_) rfl rfl (by as_aux_lemma => kernel_rfl) (by as_aux_lemma => kernel_rfl) (by as_aux_lemma => kernel_rfl) (fun _ _ _ h => h) (by rfl) ?_ hHeld ?_
            rotate_left
            · (intro w hSw; (try dsimp only at hSw); first | (go_simp; done) | (go_simp; with_reducible rfl))
            simp only [Act.put, List.setIfInBounds_toArray, List.set_cons_zero, List.set_cons_succ]
            refine takeH (i := 11) (v := ?_) rfl rfl (by as_aux_lemma => kernel_rfl) (by as_aux_lemma => kernel_rfl) (by as_aux_lemma => kernel_rfl) (fun _ _ _ h => h) (by rfl) ?_ hHeld ?_
            rotate_left
            · (intro w hSw; (try dsimp only at hSw); first | (go_simp; done) | (go_simp; with_reducible rfl))
            simp only [Act.put, List.setIfInBounds_toArray, List.set_cons_zero, List.set_cons_succ]
            refine wpAnyH_ready (rs := [12]) (by as_aux_lemma => kernel_rfl) (by simp) ?_
            refine AllReadyH.cons rfl (fun K hK => ?_) AllReadyH.nil
            go_simp
            refine (num_any _ _).mono ?_
            rintro e w' ⟨rfl, rfl⟩
            go_wp2_with fail
            refine hK.out _ _ ?_ (fun hHeld => ?_)
            · exact HELD.out _ HB1.out
            clear hK K
            refine takeH (i := 13) (v := ?_) rfl rfl (by as_aux_lemma => kernel_rfl) (by as_aux_lemma => kernel_rfl) (by as_aux_lemma => kernel_rfl) (fun _ _ _ h => h) (by rfl) ?_ hHeld ?_
            rotate_left
            · (intro w hSw; (try dsimp only at hSw); first | (go_simp; done) | (go_simp; with_reducible rfl))
            simp only [Act.put, List.setIfInBounds_toArray, List.set_cons_zero, List.set_cons_succ]
            refine takeH (i := 14) (v := ?_) rfl rfl (by as_aux_lemma => kernel_rfl) (by as_aux_lemma => kernel_rfl) (by as_aux_lemma => kernel_rfl) (fun _ _ _ h => h) (by rfl) ?_ hHeld ?_
            rotate_left
            · (intro w hSw; (try dsimp only at hSw); first | (go_simp; done) | (go_simp; with_reducible rfl))
            simp only [Act.put, List.setIfInBounds_toArray, List.set_cons_zero, List.set_cons_succ]
            refine takeH (i := 15) (v := ?_) rfl rfl (by as_aux_lemma => kernel_rfl) (by as_aux_lemma => kernel_rfl) (by as_aux_lemma => kernel_rfl) (fun _ _ _ h => h) (by rfl) ?_ hHeld ?_
            rotate_left
            · (intro w hSw; (try dsimp only at hSw); first | (go_simp; done) | (go_simp; with_reducible rfl))
            simp only [Act.put, List.setIfInBounds_toArray, List.set_cons_zero, List.set_cons_succ]
            refine takeH (i := 16) (v := ?_) rfl rfl (by as_aux_lemma => kernel_rfl) (by as_aux_lemma => kernel_rfl) (by as_aux_lemma => kernel_rfl) (fun _ _ _ h => h) (by rfl) ?_ hHeld ?_
            rotate_left
            · (intro w hSw; (try dsimp only at hSw); first | (go_simp; done) | (go_simp; with_reducible rfl))
            simp only [Act.put, List.setIfInBounds_toArray, List.set_cons_zero, List.set_cons_succ]
            refine takeH (i := 17) (v := ?_) rfl rfl (by as_aux_lemma => kernel_rfl) (by as_aux_lemma => kernel_rfl) (by as_aux_lemma => kernel_rfl) (fun _ _ _ h => h) (by rfl) ?_ hHeld ?_
            rotate_left
            · (intro w hSw; (try dsimp only at hSw); first | (go_simp; done) | (go_simp; with_reducible rfl))
            simp only [Act.put, List.setIfInBounds_toArray, List.set_cons_zero, List.set_cons_succ]
            refine takeH (i := 18) (v := ?_) rfl rfl (by as_aux_lemma => kernel_rfl) (by as_aux_lemma => kernel_rfl) (by as_aux_lemma => kernel_rfl) (fun _ _ _ h => h) (by rfl) ?_ hHeld ?_
            rotate_left
            · (intro w hSw; (try dsimp only at hSw); first | (go_simp; done) | (go_simp; with_reducible rfl))
            simp only [Act.put, List.setIfInBounds_toArray, List.set_cons_zero, List.set_cons_succ]
            refine takeH (i := 19) (v := ?_) rfl rfl (by as_aux_lemma => kernel_rfl) (by as_aux_lemma => kernel_rfl) (by as_aux_lemma => kernel_rfl) (fun _ _ _ h => h) (by rfl) ?_ hHeld ?_
            rotate_left
            · (intro w hSw; (try dsimp only at hSw); first | (go_simp; done) | (go_simp; with_reducible rfl))
            simp only [Act.put, List.setIfInBounds_toArray, List.set_cons_zero, List.set_cons_succ]
            refine takeH (i := 20) (v := ?_) rfl rfl (by as_aux_lemma => kernel_rfl) (by as_aux_lemma => kernel_rfl) (by as_aux_lemma => kernel_rfl) (fun _ _ _ h => h) (by rfl) ?_ hHeld ?_
            rotate_left
            · (intro w hSw; (try dsimp only at hSw); first | (go_simp; done) | (go_simp; with_reducible rfl))
            simp only [Act.put, List.setIfInBounds_toArray, List.set_cons_zero, List.set_cons_succ]
            refine takeH (i := 21) (v := ?_) rfl rfl (by as_aux_lemma => kernel_rfl) (by as_aux_lemma => kernel_rfl) (by as_aux_lemma => kernel_rfl) (fun _ _ _ h => h) (by rfl) ?_ hHeld ?_
            rotate_left
            · (intro w hSw; (try dsimp only at hSw); first | (go_simp; done) | (go_simp; with_reducible rfl))
            simp only [Act.put, List.setIfInBounds_toArray, List.set_cons_zero, List.set_cons_succ]
            refine takeH (i := 22) (v := ?_) rfl rfl (by as_aux_lemma => kernel_rfl) (by as_aux_lemma => kernel_rfl) (by as_aux_lemma => kernel_rfl) (fun _ _ _ h => h) (by rfl) ?_ hHeld ?_
            rotate_left
            · (intro w hSw; (try dsimp only at hSw); first | (go_simp; done) | (go_simp; with_reducible rfl))
            simp only [Act.put, List.setIfInBounds_toArray, List.set_cons_zero, List.set_cons_succ]
            refine takeH (i := 23) (v := ?_) rfl rfl (by as_aux_lemma => kernel_rfl) (by as_aux_lemma => kernel_rfl) (by as_aux_lemma => kernel_rfl) (fun _ _ _ h => h) (by rfl) ?_ hHeld ?_
            rotate_left
            · (intro w hSw; (try dsimp only at hSw); first | (go_simp; done) | (go_simp; with_reducible rfl))
            simp only [Act.put, List.setIfInBounds_toArray, List.set_cons_zero, List.set_cons_succ]
            refine takeH (i := 24) (v := ?_) rfl rfl (by as_aux_lemma => kernel_rfl) (by as_aux_lemma => kernel_rfl) (by as_aux_lemma => kernel_rfl) (fun _ _ _ h => h) (by rfl) ?_ hHeld ?_
            rotate_left
            · (intro w hSw; (try dsimp only at hSw); first | (go_simp; done) | (go_simp; with_reducible rfl))
            simp only [Act.put, List.setIfInBounds_toArray, List.set_cons_zero, List.set_cons_succ]
            refine takeH (i := 25) (v := ?_) rfl rfl (by as_aux_lemma => kernel_rfl) (by as_aux_lemma => kernel_rfl) (by as_aux_lemma => kernel_rfl) (fun _ _ _ h => h) (by rfl) ?_ hHeld ?_
            rotate_left
            · (intro w hSw; (try dsimp only at hSw); first | (go_simp; done) | (go_simp; with_reducible rfl))
            simp only [Act.put, List.setIfInBounds_toArray, List.set_cons_zero, List.set_cons_succ]
            refine wpAnyH_ready (rs := [26]) (by as_aux_lemma => kernel_rfl) (by simp) ?_
            refine AllReadyH.cons rfl (fun K hK => ?_) AllReadyH.nil
            go_simp
            refine (num_any _ _).mono ?_
            rintro e w' ⟨rfl, rfl⟩
            go_wp2_with fail
            refine hK.out _ _ ?_ (fun hHeld => ?_)
            · exact HELD.out _ HB1.out
            clear hK K
            refine takeH (i := 27) (v := ?_) rfl rfl (by as_aux_lemma => kernel_rfl) (by as_aux_lemma => kernel_rfl) (by as_aux_lemma => kernel_rfl) (fun _ _ _ h => h) (by rfl) ?_ hHeld ?_
            rotate_left
            · (intro w hSw; (try dsimp only at hSw); first | (go_simp; done) | (go_simp; with_reducible rfl))
            simp only [Act.put, List.setIfInBounds_toArray, List.set_cons_zero, List.set_cons_succ]
            refine takeH (i := 28) (v := ?_) rfl rfl (by as_aux_lemma => kernel_rfl) (by as_aux_lemma => kernel_rfl) (by as_aux_lemma => kernel_rfl) (fun _ _ _ h => h) (by rfl) ?_ hHeld ?_
            rotate_left
            · (intro w hSw; (try dsimp only at hSw); first | (go_simp; done) | (go_simp; with_reducible rfl))
            simp only [Act.put, List.setIfInBounds_toArray, List.set_cons_zero, List.set_cons_succ]
            refine takeH (i := 29) (v := ?_) rfl rfl (by as_aux_lemma => kernel_rfl) (by as_aux_lemma => kernel_rfl) (by as_aux_lemma => kernel_rfl) (fun _ _ _ h => h) (by rfl) ?_ hHeld ?_
            rotate_left
            · (intro w hSw; (try dsimp only at hSw); first | (go_simp; done) | (go_simp; with_reducible rfl))
            simp only [Act.put, List.setIfInBounds_toArray, List.set_cons_zero, List.set_cons_succ]
            refine takeH (i := 30) (v := ?_) rfl rfl (by as_aux_lemma => kernel_rfl) (by as_aux_lemma => kernel_rfl) (by as_aux_lemma => kernel_rfl) (fun _ _ _ h => h) (by rfl) ?_ hHeld ?_
            rotate_left
            · (intro w hSw; (try dsimp only at hSw); first | (go_simp; done) | (go_simp; with_reducible rfl))
            simp only [Act.put, List.setIfInBounds_toArray, List.set_cons_zero, List.set_cons_succ]
            refine takeH (i := 31) (v := ?_) rfl rfl (by as_aux_lemma => kernel_rfl) (by as_aux_lemma => kernel_rfl) (by as_aux_lemma => kernel_rfl) (fun _ _ _ h => h) (by rfl) ?_ hHeld ?_
            rotate_left
            · (intro w hSw; (try dsimp only at hSw); first | (go_simp; done) | (go_simp; with_reducible rfl))
            simp only [Act.put, List.setIfInBounds_toArray, List.set_cons_zero, List.set_cons_succ]
            refine takeH (i := 32) (v := ?_) rfl rfl (by as_aux_lemma => kernel_rfl) (by as_aux_lemma => kernel_rfl) (by as_aux_lemma => kernel_rfl) (fun _ _ _ h => h) (by rfl) ?_ hHeld ?_
            rotate_left
            · (intro w hSw; (try dsimp only at hSw); first | (go_simp; done) | (go_simp; with_reducible rfl))
            simp only [Act.put, List.setIfInBounds_toArray, List.set_cons_zero, List.set_cons_succ]
            refine takeH (i := 33) (v := ?_) rfl rfl (by as_aux_lemma => kernel_rfl) (by as_aux_lemma => kernel_rfl) (by as_aux_lemma => kernel_rfl) (fun _ _ _ h => h) (by rfl) ?_ hHeld ?_
            rotate_left
            · (intro w hSw; (try dsimp only at hSw); first | (go_simp; done) | (go_simp; with_reducible rfl))
            simp only [Act.put, List.setIfInBounds_toArray, List.set_cons_zero, List.set_cons_succ]
            refine wpAnyH_ready (rs := [34]) (by as_aux_lemma => kernel_rfl) (by simp) ?_
            refine AllReadyH.cons rfl (fun K hK => ?_) AllReadyH.nil
            go_simp
            refine (num_any _ _).mono ?_
            rintro e w' ⟨rfl, rfl⟩
            go_wp2_with fail
            refine hK.out _ _ ?_ (fun hHeld => ?_)
            · exact HELD.out _ HB1.out
            clear hK K
            refine takeH (i := 35) (v := ?_) rfl rfl (by as_aux_lemma => kernel_rfl) (by as_aux_lemma => kernel_rfl) (by as_aux_lemma => kernel_rfl) (fun _ _ _ h => h) (by rfl) ?_ hHeld ?_
            rotate_left
            · (intro w hSw; (try dsimp only at hSw); first | (go_simp; done) | (go_simp; with_reducible rfl))
            simp only [Act.put, List.setIfInBounds_toArray, List.set_cons_zero, List.set_cons_succ]
            refine takeH (i := 36) (v := ?_) rfl rfl (by as_aux_lemma => kernel_rfl) (by as_aux_lemma => kernel_rfl) (by as_aux_lemma => kernel_rfl) (fun _ _ _ h => h) (by rfl) ?_ hHeld ?_
            rotate_left
            · (intro w hSw; (try dsimp only at hSw); first | (go_simp; done) | (go_simp; with_reducible rfl))
            simp only [Act.put, List.setIfInBounds_toArray, List.set_cons_zero, List.set_cons_succ]
            refine takeH (i := 37) (v := ?_) rfl rfl (by as_aux_lemma => kernel_rfl) (by as_aux_lemma => kernel_rfl) (by as_aux_lemma => kernel_rfl) (fun _ _ _ h => h) (by rfl) ?_ hHeld ?_
            rotate_left
            · (intro w hSw; (try dsimp only at hSw); first | (go_simp; done) | (go_simp; with_reducible rfl))
            simp only [Act.put, List.setIfInBounds_toArray, List.set_cons_zero, List.set_cons_succ]
            refine takeH (i := 38) (v := ?_) rfl rfl (by as_aux_lemma => kernel_rfl) (by as_aux_lemma => kernel_rfl) (by as_aux_lemma => kernel_rfl) (fun _ _ _ h => h) (by rfl) ?_ hHeld ?_
            rotate_left
            · (intro w hSw; (try dsimp only at hSw); first | (go_simp; done) | (go_simp; with_reducible rfl))
            simp only [Act.put, List.setIfInBounds_toArray, List.set_cons_zero, List.set_cons_succ]
            refine takeH (i := 39) (v := ?_) rfl rfl (by as_aux_lemma => kernel_rfl) (by as_aux_lemma => kernel_rfl) (by as_aux_lemma => kernel_rfl) (fun _ _ _ h => h) (by rfl) ?_ hHeld ?_
            rotate_left
            · (intro w hSw; (try dsimp only at hSw); first | (go_simp; done) | (go_simp; with_reducible rfl))
            simp only [Act.put, List.setIfInBounds_toArray, List.set_cons_zero, List.set_cons_succ]
            refine takeH (i := 40) (v := ?_) rfl rfl (by as_aux_lemma => kernel_rfl) (by as_aux_lemma => kernel_rfl) (by as_aux_lemma => kernel_rfl) (fun _ _ _ h => h) (by rfl) ?_ hHeld ?_
            rotate_left
            · (intro w hSw; (try dsimp only at hSw); first | (go_simp; done) | (go_simp; with_reducible rfl))
            simp only [Act.put, List.setIfInBounds_toArray, List.set_cons_zero, List.set_cons_succ]
            refine takeH (i := 41) (v := ?_) rfl rfl (by as_aux_lemma => kernel_rfl) (by as_aux_lemma => kernel_rfl) (by as_aux_lemma => kernel_rfl) (fun _ _ _ h => h) (by rfl) ?_ hHeld ?_
            rotate_left
            · (intro w hSw; (try dsimp only at hSw); first | (go_simp; done) | (go_simp; with_reducible rfl))
            simp only [Act.put, List.setIfInBounds_toArray, List.set_cons_zero, List.set_cons_succ]
            refine takeH (i := 42) (v := ?_) rfl rfl (by as_aux_lemma => kernel_rfl) (by as_aux_lemma => kernel_rfl) (by as_aux_lemma => kernel_rfl) (fun _ _ _ h => h) (by rfl) ?_ hHeld ?_
            rotate_left
            · (intro w hSw; (try dsimp only at hSw); first | (go_simp; done) | (go_simp; with_reducible rfl))
            simp only [Act.put, List.setIfInBounds_toArray, List.set_cons_zero, List.set_cons_succ]
            refine takeH (i := 43) (v := ?_) rfl rfl (by as_aux_lemma => kernel_rfl) (by as_aux_lemma => kernel_rfl) (by as_aux_lemma => kernel_rfl) (fun _ _ _ h => h) (by rfl) ?_ hHeld ?_
            rotate_left
            · (intro w hSw; (try dsimp only at hSw); first | (go_simp; done) | (go_simp; with_reducible rfl))
            simp only [Act.put, List.setIfInBounds_toArray, List.set_cons_zero, List.set_cons_succ]
            refine takeH (i := 44) (v := ?_) rfl rfl (by as_aux_lemma => kernel_rfl) (by as_aux_lemma => kernel_rfl) (by as_aux_lemma => kernel_rfl) (fun _ _ _ h => h) (by rfl) ?_ hHeld ?_
            rotate_left
            · (intro w hSw; (try dsimp only at hSw); first | (go_simp; done) | (go_simp; with_reducible rfl))
            simp only [Act.put, List.setIfInBounds_toArray, List.set_cons_zero, List.set_cons_succ]
            refine takeH (i := 45) (v := ?_) rfl rfl (by as_aux_lemma => kernel_rfl) (by as_aux_lemma => kernel_rfl) (by as_aux_lemma => kernel_rfl) (fun _ _ _ h => h) (by rfl) ?_ hHeld ?_
            rotate_left
            · (intro w hSw; (try dsimp only at hSw); first | (go_simp; done) | (go_simp; with_reducible rfl))
            simp only [Act.put, List.setIfInBounds_toArray, List.set_cons_zero, List.set_cons_succ]
            refine takeH (i := 46) (v := ?_) rfl rfl (by as_aux_lemma => kernel_rfl) (by as_aux_lemma => kernel_rfl) (by as_aux_lemma => kernel_rfl) (fun _ _ _ h => h) (by rfl) ?_ hHeld ?_
            rotate_left
            · (intro w hSw; (try dsimp only at hSw); first | (go_simp; done) | (go_simp; with_reducible rfl))
            simp only [Act.put, List.setIfInBounds_toArray, List.set_cons_zero, List.set_cons_succ]
            refine takeH (i := 47) (v := ?_) rfl rfl (by as_aux_lemma => kernel_rfl) (by as_aux_lemma => kernel_rfl) (by as_aux_lemma => kernel_rfl) (fun _ _ _ h => h) (by rfl) ?_ hHeld ?_
            rotate_left
            · (intro w hSw; (try dsimp only at hSw); first | (go_simp; done) | (go_simp; with_reducible rfl))
            simp only [Act.put, List.setIfInBounds_toArray, List.set_cons_zero, List.set_cons_succ]
            refine takeH (i := 48) (v := ?_) rfl rfl (by as_aux_lemma => kernel_rfl) (by as_aux_lemma => kernel_rfl) (by as_aux_lemma => kernel_rfl) (fun _ _ _ h => h) (by rfl) ?_ hHeld ?_
            rotate_left
            · (intro w hSw; (try dsimp only at hSw); first | (go_simp; done) | (go_simp; with_reducible rfl))
            simp only [Act.put, List.setIfInBounds_toArray, List.set_cons_zero, List.set_cons_succ]
            refine wpAnyH_ready (rs := [49]) (by as_aux_lemma => kernel_rfl) (by simp) ?_
            refine AllReadyH.cons rfl (fun K hK => ?_) AllReadyH.nil
            go_simp
            refine (num_any _ _).mono ?_
            rintro e w' ⟨rfl, rfl⟩
            go_wp2_with fail
            refine hK.out _ _ ?_ (fun hHeld => ?_)
            · exact HELD.out _ HB1.out
            clear hK K
            refine takeH (i := 50) (v := ?_) rfl rfl (by as_aux_lemma => kernel_rfl) (by as_aux_lemma => kernel_rfl) (by as_aux_lemma => kernel_rfl) (fun _ _ _ h => h) (by rfl) ?_ hHeld ?_
            rotate_left
            · (intro w hSw; (try dsimp only at hSw); first | (go_simp; done) | (go_simp; with_reducible rfl))
            simp only [Act.put, List.setIfInBounds_toArray, List.set_cons_zero, List.set_cons_succ]
            refine takeH (i := 51) (v := ?_) rfl rfl (by as_aux_lemma => kernel_rfl) (by as_aux_lemma => kernel_rfl) (by as_aux_lemma => kernel_rfl) (fun _ _ _ h => h) (by rfl) ?_ hHeld ?_
            rotate_left
            · (intro w hSw; (try dsimp only at hSw); first | (go_simp; done) | (go_simp; with_reducible rfl))
            simp only [Act.put, List.setIfInBounds_toArray, List.set_cons_zero, List.set_cons_succ]
            refine takeH (i := 52) (v := ?_) rfl rfl (by as_aux_lemma => kernel_rfl) (by as_aux_lemma => kernel_rfl) (by as_aux_lemma => kernel_rfl) (fun _ _ _ h => h) (by rfl) ?_ hHeld ?_
            rotate_left
            · (intro w hSw; (try dsimp only at hSw); first | (go_simp; done) | (go_simp; with_reducible rfl))
            simp only [Act.put, List.setIfInBounds_toArray, List.set_cons_zero, List.set_cons_succ]
            refine takeH (i := 53) (v := ?_) rfl rfl (by as_aux_lemma => kernel_rfl) (by as_aux_lemma => kernel_rfl) (by as_aux_lemma => kernel_rfl) (fun _ _ _ h => h) (by rfl) ?_ hHeld ?_
            rotate_left
            · (intro w hSw; (try dsimp only at hSw); first | (go_simp; done) | (go_simp; with_reducible rfl))
            simp only [Act.put, List.setIfInBounds_toArray, List.set_cons_zero, List.set_cons_succ]
            refine wpAnyH_ready (rs := [54]) (by as_aux_lemma => kernel_rfl) (by simp) ?_
            refine AllReadyH.cons rfl (fun K hK => ?_) AllReadyH.nil
            go_simp
            refine (num_any _ _).mono ?_
            rintro e w' ⟨rfl, rfl⟩
            go_wp2_with fail
            refine hK.out _ _ ?_ (fun hHeld => ?_)
            · exact HELD.out _ HB1.out
            clear hK K
            refine takeH (i := 55) (v := ?_) rfl rfl (by as_aux_lemma => kernel_rfl) (by as_aux_lemma => kernel_rfl) (by as_aux_lemma => kernel_rfl) (fun _ _ _ h => h) (by rfl) ?_ hHeld ?_
            rotate_left
            · (intro w hSw; (try dsimp only at hSw); first | (go_simp; done) | (go_simp; with_reducible rfl))
            simp only [Act.put, List.setIfInBounds_toArray, List.set_cons_zero, List.set_cons_succ]
            refine takeH (i := 56) (v := ?_) rfl rfl (by as_aux_lemma => kernel_rfl) (by as_aux_lemma => kernel_rfl) (by as_aux_lemma => kernel_rfl) (fun _ _ _ h => h) (by rfl) ?_ hHeld ?_
            rotate_left
            · (intro w hSw; (try dsimp only at hSw); first | (go_simp; done) | (go_simp; with_reducible rfl))
            simp only [Act.put, List.setIfInBounds_toArray, List.set_cons_zero, List.set_cons_succ]
            refine takeH (i := 57) (v := ?_) rfl rfl (by as_aux_lemma => kernel_rfl) (by as_aux_lemma => kernel_rfl) (by as_aux_lemma => kernel_rfl) (fun _ _ _ h => h) (by rfl) ?_ hHeld ?_
            rotate_left
            · (intro w hSw; (try dsimp only at hSw); first | (go_simp; done) | (go_simp; with_reducible rfl))
            simp only [Act.put, List.setIfInBounds_toArray, List.set_cons_zero, List.set_cons_succ]
            refine takeH (i := 59) (v := ?_) rfl rfl (by as_aux_lemma => kernel_rfl) (by as_aux_lemma => kernel_rfl) (by as_aux_lemma => kernel_rfl) (fun _ _ _ h => h) (by rfl) ?_ hHeld ?_
            rotate_left
            · (intro w hSw; (try dsimp only at hSw); first | (go_simp; done) | (go_simp; with_reducible rfl))
            simp only [Act.put, List.setIfInBounds_toArray, List.set_cons_zero, List.set_cons_succ]
            refine wpAnyH_ready (rs := [58]) (by as_aux_lemma => kernel_rfl) (by simp) ?_
            refine AllReadyH.cons rfl (fun K hK => ?_) AllReadyH.nil
            go_simp
            refine (words_any _).mono ?_
            rintro e y2 ⟨A2, rfl, hs, hb⟩
            have HB2 := Lib.hid (HB1.out.trans (hb.mono HB1.out.size))
            have HS := Lib.hid hs
            clear hs hb
            go_wp2_with fail
            refine hK.out _ _ ?_ (fun hHeld => ?_)
            · exact HELD.out _ HB2.out
            clear hK K
            refine wpAnyH_ready (rs := [60]) (by as_aux_lemma => kernel_rfl) (by simp) ?_
            refine AllReadyH.cons rfl (fun K hK => ?_) AllReadyH.nil
            go_simp
            refine (mayF_any A2 7 7 wordsL x1 newT _ HS.out len7 (Nat.le_refl _) (HT.out.on HB2.out).tb).mono ?_
            rintro e y3 ⟨rfl, hb⟩
            rw [aw_tab1]
            have HB3 := Lib.hid (HB2.out.trans (hb.mono HB2.out.size))
            clear HS hb
            go_wp2_with fail
            refine hK.out _ _ ?_ (fun hHeld => ?_)
            · exact HELD.out _ HB3.out
            clear hK K
            refine takeH (i := 61) (v := ?_) rfl rfl (by as_aux_lemma => kernel_rfl) (by as_aux_lemma => kernel_rfl) (by as_aux_lemma => kernel_rfl) (fun _ _ _ h => h) (by rfl) ?_ hHeld ?_
            rotate_left
            · (intro w hSw; (try dsimp only at hSw); first | (go_simp; done) | (go_simp; with_reducible rfl))
            simp only [Act.put, List.setIfInBounds_toArray, List.set_cons_zero, List.set_cons_succ]
            refine takeH (i := 62) (v := ?_) rfl rfl (by as_aux_lemma => kernel_rfl) (by as_aux_lemma => kernel_rfl) (by as_aux_lemma => kernel_rfl) (fun _ _ _ h => h) (by rfl) ?_ hHeld ?_
            rotate_left
            · (intro w hSw; (try dsimp only at hSw); first | (go_simp; done) | (go_simp; with_reducible rfl))
            simp only [Act.put, List.setIfInBounds_toArray, List.set_cons_zero, List.set_cons_succ]
            refine takeH (i := 64) (v := ?_) rfl rfl (by as_aux_lemma => kernel_rfl) (by as_aux_lemma => kernel_rfl) (by as_aux_lemma => kernel_rfl) (fun _ _ _ h => h) (by rfl) ?_ hHeld ?_
            rotate_left
            · (intro w hSw; (try dsimp only at hSw); first | (go_simp; done) | (go_simp; with_reducible rfl))
            simp only [Act.put, List.setIfInBounds_toArray, List.set_cons_zero, List.set_cons_succ]
            refine wpAnyH_ready (rs := [63]) (by as_aux_lemma => kernel_rfl) (by simp) ?_
            refine AllReadyH.cons rfl (fun K hK => ?_) AllReadyH.nil
            go_simp
            refine (words_any _).mono ?_
            rintro e y4 ⟨A4, rfl, hs, hb⟩
            have HB4 := Lib.hid (HB3.out.trans (hb.mono HB3.out.size))
            have HS := Lib.hid hs
            clear hs hb
            go_wp2_with fail
            refine hK.out _ _ ?_ (fun hHeld => ?_)
            · exact HELD.out _ HB4.out
            clear hK K
            refine wpAnyH_ready (rs := [65]) (by as_aux_lemma => kernel_rfl) (by simp) ?_
            refine AllReadyH.cons rfl (fun K hK => ?_) AllReadyH.nil
            go_simp
            have hcall := mayF_any A4 7 7 wordsL x2 awT _ HS.out len7 (Nat.le_refl _) (HU.out.on HB4.out).tb
            rw [Tv.val_eq, n2.out] at hcall
            refine hcall.mono ?_
            rintro e y5 ⟨rfl, hb⟩
            rw [aw_tab2]
            have HB5 := Lib.hid (HB4.out.trans (hb.mono HB4.out.size))
            clear HS hb hcall
            go_wp2_with fail
            refine hK.out _ _ ?_ (fun hHeld => ?_)
            · exact HELD.out _ HB5.out
            clear hK K
            refine takeH (i := 66) (v := ?_) rfl rfl (by as_aux_lemma => kernel_rfl) (by as_aux_lemma => kernel_rfl) (by as_aux_lemma => kernel_rfl) (fun _ _ _ h => h) (by rfl) ?_ hHeld ?_
            rotate_left
            · (intro w hSw; (try dsimp only at hSw); first | (go_simp; done) | (go_simp; with_reducible rfl))
            simp only [Act.put, List.setIfInBounds_toArray, List.set_cons_zero, List.set_cons_succ]
            refine takeH (i := 67) (v := ?_) rfl rfl (by as_aux_lemma => kernel_rfl) (by as_aux_lemma => kernel_rfl) (by as_aux_lemma => kernel_rfl) (fun _ _ _ h => h) (by rfl) ?_ hHeld ?_
            rotate_left
            · (intro w hSw; (try dsimp only at hSw); first | (go_simp; done) | (go_simp; with_reducible rfl))
            simp only [Act.put, List.setIfInBounds_toArray, List.set_cons_zero, List.set_cons_succ]
            refine wpAnyH_done (by as_aux_lemma => kernel_rfl) ?_ _
            go_wp2
            go_ret
            exact ⟨rfl, HBY.out.trans (HB5.out.mono HBY.out.size)⟩
          end Go.Proofs.Ythnjpkghjkhjdaa
