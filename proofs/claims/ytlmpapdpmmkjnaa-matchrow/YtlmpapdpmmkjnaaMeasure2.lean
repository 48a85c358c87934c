/-
  Contract: term.measure.
-/
import Derived.Test.YtlmpapdpmmkjnaaMeasure
namespace Go.Proofs.Ytlmpapdpmmkjnaa
open Go.RowKit
set_option linter.unusedSimpArgs false
set_option linter.unusedVariables false

set_option maxHeartbeats 2000000 in
set_option maxRecDepth 100000 in
theorem measure_any (A A' : Option Addr) (n c m c' : Nat) (ss : List Sym) (r : List Int) (w : World) (h : SymsAt w w.heap.size A n ss) (hn : n ≤ maxLen) (hnc : n ≤ c) (hr : IntsAt w w.heap.size A' m r) (hm0 : m ≤ maxLen) :
    Calls Try.prog 59 #[.slice A n c, .slice A' m c'] w (MeasPost ss r w) := by
  obtain ⟨hz, hzs⟩ := zero_of_info shape_info
  have HL := Lib.hid hr.len
  have hn' := hn
  unfold maxLen at hn hm0
  cases hm : mayB ss
  · have H : Hid (rowB ss r = false) := by show rowB ss r = false; unfold rowB; rw [hm]; simp
    by_cases h48 : m ≤ 48
    · go_enter Try.func59, Try.ntmps59
      go_wp2
      go_step3
      go_wp2_with fail
      refine (may_any A n c ss _ (h.new2 _ _) hn' hnc).mono ?_
      rintro e w1 ⟨rfl, hb1⟩
      rw [hm]
      have ho : w1.heap[w.heap.size]? = some (.cells zeroC 91 (0, 0)) := by rw [hb1.block _ (by simp; omega)]; exact heap_alloc2_old _ _ _
      have hsc := run_storeC (P := Try.prog) w1 w.heap.size _ zeroC zeroC ho rfl (shapeF_one _ _)
      have HO := Lib.hid ho
      clear ho
      go_wp2
      clear hsc
      refine meas_ret (cs := zeroC) rfl rfl rfl ?_ (shapeF_size _ _) ?_
      · exact setRow_heap _ _ _ _ _ _ HO.out
      · exact .no H.out rfl (below_setRow ((below_alloc2 w _ _).trans (hb1.mono (by simp; omega))) (Nat.le_refl _) _)
    · have hsc := run_storeC (P := Try.prog) ((w.alloc (.cells zeroC 91)).alloc (.cells zeroC 91)) w.heap.size _ zeroC zeroC (heap_alloc2_old _ _ _) rfl (shapeF_one _ _)
      go_enter Try.func59, Try.ntmps59
      go_wp2
      go_step3
      go_wp2
      clear hsc
      refine meas_ret (cs := zeroC) rfl rfl rfl ?_ (shapeF_size _ _) ?_
      · exact setRow_heap _ _ _ _ _ _ (heap_alloc2_old _ _ _)
      · exact .no H.out rfl (below_setRow (below_alloc2 w _ _) (Nat.le_refl _) _)
  have HM := Lib.hid hm
  by_cases h48 : m ≤ 48
  · go_enter Try.func59, Try.ntmps59
    go_wp2
    refine wp_scope3 (X0 := ?X0) (X1 := ?X1) (X2 := ?X2) (J0 A A' n c m c' ss r w) (J1 A A' n c m c' ss r w) (J2 A A' n c m c' ss r w) 1000 ?h0 ?h1 ?h2 ?_ ?_ ?_ ?_
    case h0 => exact rfl
    case h1 => exact rfl
    case h2 => exact rfl
    · rintro g a w1 ⟨k, en, dn, u, rfl, rfl, hk, hd, hms, hen, hdn, hst⟩
      have HEN := Lib.hid hen
      have HDN := Lib.hid hdn
      have HMS := Lib.hid hms
      have HST := Lib.hid hst
      have hc1 := hst.cell k
      have hc2 := hst.cell (48 + k)
      rw [shapeC_end0 (by omega)] at hc1
      rw [shapeC_deep0 (by omega)] at hc2
      have hf1 := hst.frozen k
      have hf2 := hst.frozen (48 + k)
      clear hen hdn hms hst
      go_wp2
      go_step3
      refine ⟨10 * k, by omega, J0.mk k rfl rfl (by omega) HMS.out ?_⟩
      exact HST.out.step (by rw [HL.out]; exact hk) (by rw [HL.out]; exact h48) (by rw [HEN.out]) (by have := HDN.out; omega)
    · rintro g a w1 ⟨k, en, dn, left, u, rfl, rfl, hk, hleft, hms, hst⟩
      have HMS := Lib.hid hms
      have HST := Lib.hid hst
      clear hms
      by_cases hl0 : left = 0
      · subst hl0
        clear hst
        go_wp2
        go_step3
        refine ⟨10 * k + 1, by omega, J1.mk k en dn rfl rfl hk ?_ ?_ ?_ ?_ HST.out⟩
        · have := (HMS.out.done (by rw [HL.out]; exact hk)).2.2.2; rw [HL.out] at this; exact this
        · exact (HMS.out.done (by rw [HL.out]; exact hk)).1
        · exact (HMS.out.done (by rw [HL.out]; exact hk)).2.1
        · exact (HMS.out.done (by rw [HL.out]; exact hk)).2.2.1
      · obtain ⟨l, rfl⟩ : ∃ l, left = l + 1 := ⟨left - 1, by omega⟩
        obtain ⟨b1, b2, b3⟩ := HMS.out.le (by rw [HL.out]; exact hk)
        rw [HL.out] at b2 b3
        clear hl0
        by_cases he : en = m
        · subst he
          have H := Lib.hid (row_false (Left.cut (by have := HMS.out; rw [← HL.out] at this; exact this) (by rw [HL.out]; exact hk) (by omega)))
          have hsc := run_storeC (P := Try.prog) w1 w.heap.size _ zeroC zeroC hst.out rfl (shapeF_one _ _)
          clear hst
          go_wp2
          clear hsc
          refine meas_ret (cs := zeroC) rfl rfl rfl ?_ (shapeF_size _ _) ?_
          · exact setRow_heap _ _ _ _ _ _ HST.out.out
          · exact .no H.out rfl (below_setRow HST.out.bel (Nat.le_refl _) _)
        · have HN := Lib.hid (HMS.out.next (by rw [HL.out]; exact hk) (by rw [HL.out]; omega))
          have hc1 := hst.cell en
          have hc2 := hst.cell (48 + en)
          rw [shapeC_end (by omega) (by rw [HL.out]; omega) (by rw [HL.out]; exact h48)] at hc1
          rw [shapeC_deep (by omega) (by rw [HL.out]; omega) (by rw [HL.out]; exact h48)] at hc2
          have he' : ¬ (en : Int) = (m : Int) := by omega
          clear hst he
          by_cases hmx : dn < depAt ss r en
          · go_wp2
            go_step3
            exact ⟨_, by omega, J2.mk k (endAt ss r en) (depAt ss r en) l rfl rfl hk (by omega) (by have := HN.out; rw [Nat.max_eq_right (by omega)] at this; exact this) HST.out⟩
          · go_wp2
            go_step3
            exact ⟨_, by omega, J2.mk k (endAt ss r en) dn l rfl rfl hk (by omega) (by have := HN.out; rw [Nat.max_eq_left (by omega)] at this; exact this) HST.out⟩
    · intro P2
      have HP := Lib.hid P2
      clear P2
      rintro g a w1 ⟨k, u, rfl, rfl, hk, hms, hst⟩
      have HST := Lib.hid hst
      obtain ⟨ms, hms⟩ := hms
      have HMS := Lib.hid hms
      clear hms
      by_cases hk0 : k = 0
      · subst hk0
        have H : Hid (rowB ss r = true) := row_true HM.out (by rw [HL.out]; exact h48) HMS.out
        have hsc := run_storeC (P := Try.prog) w1 w.heap.size _ zeroC (shapeC ss r 0) hst.out (by rw [shapeC_size]; exact shapeF_size _ _) (shapeC_one _ _ _)
        clear hst
        go_wp2_with (with_reducible refine wpList_load_row rfl 91 (.tmp 6) rfl (w.heap.size + 1) rfl 91 (shapeC ss r 0) (0, 0) _ HST.out.sh Try.underlying91 rfl (by rw [shapeC_size]; exact hzs) ?_)
        clear hsc
        refine meas_ret (cs := shapeC ss r 0) rfl rfl rfl ?_ (shapeC_size _ _ _) ?_
        · exact setRow_heap _ _ _ _ _ _ HST.out.out
        · exact .yes H.out rfl (below_setRow HST.out.bel (Nat.le_refl _) _)
      · obtain ⟨j, rfl⟩ : ∃ j, k = j + 1 := ⟨k - 1, by omega⟩
        clear hk0
        have hlr : j < r.length := by rw [HL.out]; omega
        have hx := intAt_get hlr
        have HX := Lib.hid hx
        have hsy := h.below hst.bel
        obtain ⟨b', off', rfl, hb', hc'⟩ := (hr.below hst.bel).at_ (by omega)
        have hcx : w1.cell? ⟨b', off' + j, none⟩ = some (.int .i64 (intAt r j)) := hc' j (by omega)
        clear hx hc' hlr
        cases ha : arOf ss (intAt r j)
        · have H := Lib.hid (row_false (tl_at_bad (by rw [HL.out]; omega) HX.out ha))
          have hsc := run_storeC (P := Try.prog) w1 w.heap.size _ zeroC zeroC hst.out rfl (shapeF_one _ _)
          clear hst
          go_wp2_with fail
          refine (arity_no A n c w.heap.size ss _ _ hsy hn' ha).mono ?_
          rintro e w2 ⟨rfl, rfl⟩
          clear ha
          go_wp2
          clear hsc
          refine meas_ret (cs := zeroC) rfl rfl rfl ?_ (shapeF_size _ _) ?_
          · exact setRow_heap _ _ _ _ _ _ HST.out.out
          · exact .no H.out rfl (below_setRow HST.out.bel (Nat.le_refl _) _)
        · rename_i a
          have HA := Lib.hid ha
          have ha3 := ar_le HM.out ha
          clear hst
          go_wp2_with fail
          refine (arity_yes A n c w.heap.size ss _ a _ hsy hn' HM.out ha).mono ?_
          rintro e w2 ⟨rfl, rfl⟩
          clear ha
          go_wp2_with fail
          go_step3
          rename_i hK
          refine hK _ _ (HP.out _ _ _ _ ?_ (J2.mk j (j + 1) 0 a rfl rfl (by omega) ha3 ?_ HST.out))
          · omega
          · exact Left.start HMS.out HX.out HA.out
    · intro P0
      have HP := Lib.hid P0
      clear P0
      go_wp2_with fail
      refine (may_any A n c ss _ (h.new2 _ _) hn' hnc).mono ?_
      rintro e w1 ⟨rfl, hb1⟩
      rw [hm]
      go_wp2_with fail
      go_step3
      rename_i hK
      refine hK _ _ (HP.out _ _ _ ?_ (J0.mk m rfl rfl (by omega) ?_ ?_))
      · omega
      · exact ⟨[], by rw [← HL.out]; simp [tl]⟩
      · refine ⟨(below_alloc2 w _ _).trans (hb1.mono (by simp; omega)), ?_, ?_⟩
        · rw [hb1.block _ (by simp; omega)]; exact heap_alloc2_old _ _ _
        · rw [hb1.block _ (by simp), ← HL.out, shapeC_zero]; exact heap_alloc2_new _ _ _
  · have H : Hid (rowB ss r = false) := by show rowB ss r = false; unfold rowB; have := HL.out; simp; intro _ hh; omega
    have hsc := run_storeC (P := Try.prog) ((w.alloc (.cells zeroC 91)).alloc (.cells zeroC 91)) w.heap.size _ zeroC zeroC (heap_alloc2_old _ _ _) rfl (shapeF_one _ _)
    go_enter Try.func59, Try.ntmps59
    go_wp2
    go_step3
    go_wp2
    clear hsc
    refine meas_ret (cs := zeroC) rfl rfl rfl ?_ (shapeF_size _ _) ?_
    · exact setRow_heap _ _ _ _ _ _ (heap_alloc2_old _ _ _)
    · exact .no H.out rfl (below_setRow (below_alloc2 w _ _) (Nat.le_refl _) _)

end Go.Proofs.Ytlmpapdpmmkjnaa
