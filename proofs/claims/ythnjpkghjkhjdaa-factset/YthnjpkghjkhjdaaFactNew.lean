/-
  Contracts: package fact's New, the reference's New.
-/
import Derived.Test.YthnjpkghjkhjdaaFactN
namespace Go.Proofs.Ythnjpkghjkhjdaa
open Go.RowKit Go.Deep
set_option linter.unusedSimpArgs false
set_option linter.unusedVariables false
set_option maxRecDepth 100000

set_option maxHeartbeats 2000000 in
theorem newT_any (w : World) : Calls Try.prog 18 #[] w (TabRet newT w) := by
  have hb0 := below_new2 w (.cells #[.slice none 0 0, .slice none 0 0] 26) (.cells #[.int .i64 (-1)] 3)
  have hg0 : ((w.alloc (.cells #[.slice none 0 0, .slice none 0 0] 26)).alloc (.cells #[.int .i64 (-1)] 3)).heap[w.heap.size]? = some (.cells #[.slice none 0 0, .slice none 0 0] 26 (0, 0)) := by
    rw [(below_new _ _).block w.heap.size (by simp)]; exact heap_alloc_new _ _
  have hc0 : ((w.alloc (.cells #[.slice none 0 0, .slice none 0 0] 26)).alloc (.cells #[.int .i64 (-1)] 3)).cell? ⟨w.heap.size + 1, 0, none⟩ = some (.int .i64 (-1)) := by
    have := heap_alloc_new (w.alloc (.cells #[.slice none 0 0, .slice none 0 0] 26)) (.cells #[.int .i64 (-1)] 3)
    rw [show (w.alloc (.cells #[.slice none 0 0, .slice none 0 0] 26)).heap.size = w.heap.size + 1 by simp] at this
    rw [cell_of_row _ _ 0 _ _ _ this]; rfl
  have hs0 : ((w.alloc (.cells #[.slice none 0 0, .slice none 0 0] 26)).alloc (.cells #[.int .i64 (-1)] 3)).heap.size = w.heap.size + 2 := by simp
  obtain ⟨R, hR⟩ : ∃ R : List Int, R = List.replicate 32 (-1) := ⟨_, rfl⟩
  have HR := Lib.hid hR
  have HB0 := Lib.hid hb0
  have HG0 := Lib.hid hg0
  have HC0 := Lib.hid hc0
  have HS0 := Lib.hid hs0
  clear hb0 hg0 hc0 hs0 hR
  go_enter Try.func18, Try.ntmps18
  go_wp2_with fail
  obtain ⟨w0, hw0⟩ : ∃ w0, w0 = (w.alloc (.cells #[.slice none 0 0, .slice none 0 0] 26)).alloc (.cells #[.int .i64 (-1)] 3) := ⟨_, rfl⟩
  rw [← hw0] at HB0 HG0 HC0 HS0 ⊢
  clear hw0
  refine (repeat_any (w.heap.size + 1) w0 HC0.out (by rw [HS0.out]; omega) R HR.out).mono ?_
  rintro e w1 ⟨v1, rfl, hv1, hb1⟩
  have hl : R.length = 32 := by rw [HR.out]; simp
  obtain ⟨D1, d1, e1⟩ := hv1.value
  rw [hl] at e1
  subst e1
  have HV1 := Lib.hid hv1
  have HG1 : Hid (w1.heap[w.heap.size]? = some (.cells #[.slice none 0 0, .slice none 0 0] 26 (0, 0))) := by show _ = _; rw [hb1.block w.heap.size (by rw [HS0.out]; omega)]; exact HG0.out
  have HB1 := Lib.hid (HB0.out.trans (hb1.mono HB0.out.size))
  clear hv1 hb1 hl
  go_wp2_with (refine store_box rfl 26 (.tmp 0) (.tmp 3) rfl rfl w.heap.size _ _ rfl rfl HG1.out rfl (by kernel_rfl) two_one ?_
               intro w2 hg2 hc2 hs2
               have HG2 := Lib.hid hg2
               have HC2 := Lib.hid hc2
               clear hg2 hc2 hs2)
  refine bodyPost_ret (results_cell_row rfl _ _ w.heap.size _ _ _ _ rfl HG2.out Try.underlying26 rfl (by kernel_rfl)) rfl ?_
  have o : OwnI w2 w.heap.size (.slice D1 32 d1) newT.slots := by
    have := HC2.out.own (by decide) (HV1.out.lower (show w.heap.size ≤ w0.heap.size by rw [HS0.out]; omega))
    rw [HR.out] at this
    exact this
  exact ⟨_, rfl, ⟨w2.heap.size, _, _, rfl, (HB1.out.trans HC2.out.bel).size, Nat.le_refl _, o, fun b hb => (o.blk hb).2, OwnT.nil_⟩, HB1.out.trans HC2.out.bel⟩
/-- 'x = append(x, y)' of integers, x made by the call: but for blocks of integers nothing turns. -/
theorem app_intc {w : World} {ops : Array Oper} {rest : List Oper} {o : Oper} {a : Act} {Q : Exit → Act → World → Prop} (hgd : o.guard = none) (s x : Operand)
    (ho : o.op = .call { callee := .builtin .append, args := #[s, x], argTypes := #[23, 23] })
    (base : Nat) (v : Value) (xs : List Int) (y : Int) (hs : a.eval s = v) (hown : OwnI w base v xs) (hx : a.eval x = .slice (some ⟨w.heap.size, 0, none⟩) 1 1)
    (hlen : xs.length + 1 ≤ 17592186044416) (hbase : base ≤ w.heap.size)
    (h : ∀ v' w', OwnI w' base v' (xs ++ [y]) → Chg [3] base w w' → wpList Try.prog ops Q rest (a.put o.dst v') w') : wpList Try.prog ops Q (o :: rest) a (w.alloc (.cells #[.int .i64 y] 3)) := by
  obtain ⟨i0, hi0, hz0, hz1, hz2⟩ := info_parts int_info
  have hown' := hown.alloc (.cells #[.int .i64 y] 3)
  refine wpList_append_own _ hgd s x 23 ho base 3 i0 _ 1 8 Try.underlying23 hi0 hz0 hz1 hz2 rfl (by omega) v xs.length (intCells xs) hs hown' ⟨w.heap.size, 0, none⟩ 1 1 (intCells [y]) hx rfl
    (World.news_of_block (cs := #[.int .i64 y]) (t := 3) (fr := (0, 0)) (heap_alloc_new w _)) (intCells_oneCell _) (by unfold maxLen; omega) (by omega) (by simp; omega) ?_
  intro v' w' h1 h2 _
  refine h v' w' ?_ ((Chg.of_below (below_new w _) hbase).trans (Chg.grown h2 hown' (by simp; omega)))
  unfold OwnI
  rw [intCells_append]
  simpa using h1
set_option maxHeartbeats 2000000 in
theorem refNewT_any (w : World) : Calls Try.prog 19 #[] w (TabRet newT w) := by
  obtain ⟨w0, hw0, b1, b2, hbb, hsz⟩ := two_tabs w (.cells #[.slice none 0 0, .slice none 0 0] 26) (.cells #[.slice none 0 0, .slice none 0 0] 26)
  go_enter Try.func19, Try.ntmps19
  go_upto_region 2 with (fail)
  rw [← hw0]
  have HB1 := Lib.hid b1
  have HBB := Lib.hid hbb
  have HSZ := Lib.hid hsz
  have hF0 : Hid (w0.heap[w.heap.size + 1]? = some (.cells #[.slice none 0 0, .slice none 0 0] 26 (0, 0))) := b2
  clear hw0 b1 b2 hbb hsz
  go_wp2_with fail
  go_loopw [2] (fun i wr => ∃ (k : Nat) (D : Option Addr) (L c : Nat), i = .int .i64 k ∧ k ≤ 32 ∧ Hid (wr.heap[w.heap.size + 1]? = some (.cells #[.slice D L c, .slice none 0 0] 26 (0, 0))) ∧ Hid (OwnI wr w.heap.size (.slice D L c) (List.replicate k (-1))) ∧ KeepT (w.heap.size + 1) w0 wr ∧ Below w.heap.size w wr) (fun i _ => 32 - (intOf i).toNat)
  case atStart => exact ⟨0, none, 0, 0, rfl, by omega, hF0, Lib.hid OwnI.nil_, KeepT.refl, HBB.out⟩
  case round =>
    clear hF0
    obtain ⟨k, D, L, c, rfl, hk, HF, HO, hkk, hbw⟩ := hrel
    have HK := Lib.hid hkk
    have HBW := Lib.hid hbw
    clear hkk hbw
    have hlt9 := (Array.getElem?_eq_some_iff.1 HF.out).1
    have u0 : wr.cell? ⟨w.heap.size + 1, 0, none⟩ = some (.slice D L c) := by rw [cell_of_row _ _ 0 _ _ _ HF.out]; rfl
    have u1 : wr.cell? ⟨w.heap.size + 1, 1, none⟩ = some (.slice none 0 0) := by rw [cell_of_row _ _ 1 _ _ _ HF.out]; rfl
    by_cases hlt : k < 32
    · have q1 : (k : Int) < 32 := by omega
      have HL : Hid ((List.replicate k (-1 : Int)).length + 1 ≤ 17592186044416) := by show _ ≤ _; rw [List.length_replicate]; omega
      go_wp2_with (first
        | (at_builtin
           refine app_intc rfl (.tmp 8) (.tmp 9) rfl w.heap.size _ (List.replicate k (-1)) (-1) rfl HO.out rfl HL.out HBW.out.size ?_
           intro v2 w2 hown2 hc2
           obtain ⟨D2, c2, e2⟩ := hown2.value
           obtain ⟨L2, hL2⟩ : ∃ L2, L2 = (List.replicate k (-1 : Int) ++ [-1]).length := ⟨_, rfl⟩
           rw [← hL2] at e2
           subst e2
           have HO2 := Lib.hid hown2
           have HC2 := Lib.hid hc2
           have hF2 := hc2.blk _ _ _ _ HF.out (by decide)
           have HF2 := Lib.hid hF2
           have y0 : w2.cell? ⟨w.heap.size + 1, 0, none⟩ = some (.slice D L c) := by rw [cell_of_row _ _ 0 _ _ _ hF2]; rfl
           have y1 : w2.frozen? ⟨w.heap.size + 1, 0, none⟩ = false := frozen_of_row _ _ _ _ _ hF2
           clear hown2 hc2 hF2 hL2)
        | (refine put_cell rfl 23 (.tmp 11) (.tmp 10) rfl rfl (w.heap.size + 1) 0 _ _ rfl rfl rfl rfl y0 y1 (by kernel_rfl) ?_))
      have cs : Chg [26] w.heap.size w2 (w2.setCell ⟨w.heap.size + 1, 0, none⟩ (.slice D2 L2 c2)) := Chg.set HF2.out (Nat.le_succ _) _
      have h1 := heap_setCell_same _ _ 0 _ _ (.slice D2 L2 c2) HF2.out
      have HX1 := Lib.hid h1
      have HX2 := Lib.hid (cs.own (by decide) HO2.out)
      have HX3 := Lib.hid ((HK.out.trans (KeepT.of_chg HC2.out (by decide))).trans (KeepT.of_set (g := w.heap.size + 1) (wr := w2) (i := 0) (.slice D2 L2 c2)))
      have HX4 := Lib.hid ((HBW.out.trans HC2.out.bel).trans cs.bel)
      clear cs h1 y0 y1
      go_roundw
      case rel => exact ⟨k + 1, D2, L2, c2, by go_num, by omega, HX1.out, by rw [List.replicate_succ']; exact HX2, HX3.out, HX4.out⟩
      case measure => simp [intOf]; omega
    · obtain rfl : k = 32 := by omega
      have HR2 := Lib.hid (HK.out.box (k := w.heap.size) (v := ⟨none, 0, 0, none, 0, 0⟩) (by omega) HB1.out)
      go_wp2_with (refine store_box rfl 26 (.tmp 0) (.tmp 12) rfl rfl w.heap.size _ _ rfl rfl HR2.out rfl (by kernel_rfl) two_one ?_
                   intro w9 hg9 hc9 hs9
                   have HG9 := Lib.hid hg9
                   have HC9 := Lib.hid hc9
                   clear hg9 hc9 hs9)
      refine bodyPost_ret (results_cell_row rfl _ _ w.heap.size _ _ _ _ rfl HG9.out Try.underlying26 rfl (by kernel_rfl)) rfl ?_
      have o : OwnI w9 w.heap.size (.slice D L c) newT.slots := HC9.out.own (by decide) HO.out
      exact ⟨_, rfl, ⟨w9.heap.size, _, _, rfl, (HBW.out.trans HC9.out.bel).size, Nat.le_refl _, o, fun b hb => (o.blk hb).2, OwnT.nil_⟩, HBW.out.trans HC9.out.bel⟩
end Go.Proofs.Ythnjpkghjkhjdaa
