/-
  Contract: slices.Delete of the last row of rows that the call has made.
-/
import Derived.Test.YthnjpkghjkhjdaaFactCl
namespace Go.Proofs.Ythnjpkghjkhjdaa
open Go.RowKit Go.Deep
set_option linter.unusedSimpArgs false
set_option linter.unusedVariables false
set_option maxRecDepth 100000

/-- 'x = append(x, nothing...)'. -/
theorem app_none_step {w : World} {ops : Array Oper} {o : Oper} {a : Act} {K : Act → World → Prop} {Q : Exit → Act → World → Prop} {E : Prop} (hgd : o.guard = none) (s x : Operand)
    (ho : o.op = .call { callee := .builtin .append, args := #[s, x], argTypes := #[24, 24] })
    (g k cap : Nat) (cur : Array Value) (hg : w.heap[g]? = some (.cells cur 23 (0, 0))) (hk : k ≤ cap) (hc : cap ≤ cur.size) (ad : Addr) (c : Nat) (hs : a.eval s = .slice (some ⟨g, 0, none⟩) k cap) (hx : a.eval x = .slice (some ad) 0 c)
    (h : K (a.put o.dst (.slice (some ⟨g, 0, none⟩) k cap)) w) : if Region.wanted o (yielded ops a.tmps) = true then Oper.wp Try.prog o a w K Q else E := by
  have hw : Region.wanted o (yielded ops a.tmps) = true := by simp [Region.wanted, hgd]
  rw [if_pos hw]
  obtain ⟨i0, hi0, hz0, hz1, hz2⟩ := info_parts rows_info
  have hr := run_append_room (P := Try.prog) w 24 o.type 23 i0 Try.underlying24 hi0 g k cap cur hg ad 0 c [] (by simp) (by simp) (by simp) (by omega) (by rw [hz1]; simp; omega)
  simp only [List.append_nil, List.length_nil, Nat.add_zero, List.take_append_drop, Array.toArray_toList] at hr
  rw [setRow_self w g cur _ _ hg] at hr
  unfold Oper.wp
  simp [execOp, ho, resolve, invoke, builtin, hs, hx, hr, Result.andThen]
  exact h
theorem dropLast_cells {cur : Array Value} {vs : List Value} {k : Nat} {z : Value} (h : cur.toList.take (k + 1) = vs) (hn : vs.length = k + 1) : (cur.setIfInBounds k z).toList.take k = vs.dropLast := by
  rw [Array.toList_setIfInBounds, List.take_set_of_le (Nat.le_refl _), ← h, List.dropLast_eq_take, List.take_take, List.length_take]
  have : (List.take (k + 1) cur.toList).length = k + 1 := by rw [h]; exact hn
  rw [List.length_take] at this
  rw [this]
  congr 1
  omega
set_option maxHeartbeats 1000000 in
theorem delete_any (base k : Nat) (v : Value) (vs : List Value) (w : World) (h : OwnR w base v vs) (hn : vs.length = k + 1) (hk9 : k ≤ 1000) :
    Calls Try.prog 48 #[v, .int .i64 (k : Int), .int .i64 ((k : Int) + 1)] w fun e w' => ∃ v', e = .returned v' ∧ OwnR w' base v' vs.dropLast ∧ Chg [23] base w w' := by
  obtain ⟨hl, hh⟩ := h
  rcases hh with ⟨_, q⟩ | ⟨g, cap, cur, hv, hg, hb, hc1, hc2, hc3, hc4⟩
  · omega
  rw [hn] at hv hc1 hc4
  subst hv
  rw [Nat.mul_one] at hc3 hc4
  have HG := Lib.hid hg
  have HBk := Lib.hid hb
  have HC3 := Lib.hid hc3
  have HC4 := Lib.hid hc4
  have HN := Lib.hid hn
  clear hb hc3 hc4 hl hn hg
  unfold maxLen at hc2
  have a1 : (k : Int) + 1 ≤ (cap : Int) := by omega
  have a2 : (0 : Int) ≤ (k : Int) := by omega
  have a3 : (k : Int) ≤ (cap : Int) := by omega
  have a4 : k ≤ cap := by omega
  have a5 : ¬ cap = k := by omega
  have a6 : ¬ k = cap := by omega
  have a7 : (k : Int) ≤ (k : Int) + 1 := by omega
  have a8 : k ≤ k + 1 := by omega
  have a9 : ((k : Int) == (k : Int) + 1) = false := by rw [beq_eq_false_iff_ne]; omega
  have a10 : ¬ (k : Int) = (k : Int) + 1 := by omega
  go_enter Try.func48, Try.ntmps48
  go_upto_region 5 with (fail)
  have hzero : ∀ w, (zeroValue 23).run Try.prog w = .ok (.slice none 0 0) w := (zero_of_info (P := Try.prog) (t := 23) (v := .slice none 0 0) (n := 1) (by kernel_rfl)).1
  have HFIN : Hid (∀ w4, w4.heap[g]? = some (.cells cur 23 (0, 0)) → Below w.heap.size w w4 → OwnR (w4.setCells g k (List.replicate 1 (.slice none 0 0))) base (.slice (some ⟨g, 0, none⟩) k cap) vs.dropLast ∧ Chg [23] base w (w4.setCells g k (List.replicate 1 (.slice none 0 0)))) := fun w4 hb hbel => by
    have h1 := heap_setCell_same w4 g k cur 23 (.slice none 0 0) hb
    have e : w4.setCells g k (List.replicate 1 (.slice none 0 0)) = w4.setCell ⟨g, k, none⟩ (.slice none 0 0) := rfl
    rw [e]
    have hdl := dropLast_cells (z := .slice none 0 0) HC4.out HN.out
    refine ⟨⟨by rw [Nat.mul_one], .inr ⟨g, cap, _, by rw [List.length_dropLast, HN.out]; rfl, HG.out, h1, by rw [List.length_dropLast, HN.out]; omega, by unfold maxLen; omega, by rw [Nat.mul_one]; simpa using HC3.out, ?_⟩⟩, (Chg.of_below hbel (Nat.le_of_lt (Nat.lt_of_le_of_lt HG.out (Array.getElem?_eq_some_iff.1 HBk.out).1))).trans (Chg.set hb HG.out _)⟩
    rw [Nat.mul_one, List.length_dropLast, HN.out]
    exact hdl
  have a12 : 0 ≤ (k : Int) + 1 := by omega
  by_cases hcap : cap = k + 1
  · subst hcap
    refine wp_region_held_drew (S := (fun _ => True)) (by kernel_rfl) trivial (fun hHeld => ?_)
    have HB4 : Hid (w.drew.heap[g]? = some (.cells cur 23 (0, 0))) := HBk.out
    have hd : Below w.heap.size w w.drew := (Below.refl w.heap.size w).drew
    have HD4 := Lib.hid hd
    obtain ⟨w4, hw4⟩ : ∃ w4, w4 = w.drew := ⟨_, rfl⟩
    rw [← hw4] at HB4 HD4 ⊢
    clear hw4 hd
    refine takeH (i := 0) (v := ?_) rfl rfl (by kernel_rfl) (by kernel_rfl) (by kernel_rfl) (fun _ _ _ h => h) (by rfl) ?_ hHeld ?_
    rotate_left
    · (intro w hSw; (try dsimp only at hSw); first | (go_simp; done) | (go_simp; with_reducible rfl))
    simp only [Act.put, List.setIfInBounds_toArray, List.set_cons_zero, List.set_cons_succ]
    refine takeH (i := 1) (v := ?_) rfl rfl (by kernel_rfl) (by kernel_rfl) (by kernel_rfl) (fun _ _ _ h => h) (by rfl) ?_ hHeld ?_
    rotate_left
    · (intro w hSw; (try dsimp only at hSw); first | (go_simp; done) | (go_simp; with_reducible rfl))
    simp only [Act.put, List.setIfInBounds_toArray, List.set_cons_zero, List.set_cons_succ]
    refine takeH (i := 2) (v := ?_) rfl rfl (by kernel_rfl) (by kernel_rfl) (by kernel_rfl) (fun _ _ _ h => h) (by rfl) ?_ hHeld ?_
    rotate_left
    · (intro w hSw; (try dsimp only at hSw); first | (go_simp; done) | (go_simp; with_reducible rfl))
    simp only [Act.put, List.setIfInBounds_toArray, List.set_cons_zero, List.set_cons_succ]
    refine takeH (i := 3) (v := ?_) rfl rfl (by kernel_rfl) (by kernel_rfl) (by kernel_rfl) (fun _ _ _ h => h) (by rfl) ?_ hHeld ?_
    rotate_left
    · (intro w hSw; (try dsimp only at hSw); first | (go_simp; done) | (go_simp; with_reducible rfl))
    simp only [Act.put, List.setIfInBounds_toArray, List.set_cons_zero, List.set_cons_succ]
    refine takeH (i := 4) (v := ?_) rfl rfl (by kernel_rfl) (by kernel_rfl) (by kernel_rfl) (fun _ _ _ h => h) (by rfl) ?_ hHeld ?_
    rotate_left
    · (intro w hSw; (try dsimp only at hSw); first | (go_simp; done) | (go_simp; with_reducible rfl))
    simp only [Act.put, List.setIfInBounds_toArray, List.set_cons_zero, List.set_cons_succ]
    refine takeH (i := 5) (v := ?_) rfl rfl (by kernel_rfl) (by kernel_rfl) (by kernel_rfl) (fun _ _ _ h => h) (by rfl) ?_ hHeld ?_
    rotate_left
    · (intro w hSw; (try dsimp only at hSw); first | (go_simp; done) | (go_simp; with_reducible rfl))
    simp only [Act.put, List.setIfInBounds_toArray, List.set_cons_zero, List.set_cons_succ]
    refine wpAnyH_ready (rs := [6]) (by kernel_rfl) (by simp) ?_
    refine AllReadyH.cons rfl (fun K hK => ?_) AllReadyH.nil
    refine app_none_step rfl (.tmp 22) (.tmp 25) rfl g k (k + 1) cur HB4.out (by omega) (by rw [HC3.out]; exact Nat.le_refl _) _ _ rfl rfl ?_
    go_simp
    refine hK.out _ _ ?_ (fun hHeld => ?_)
    · trivial
    clear hK K
    refine takeH (i := 7) (v := ?_) rfl rfl (by kernel_rfl) (by kernel_rfl) (by kernel_rfl) (fun _ _ _ h => h) (by rfl) ?_ hHeld ?_
    rotate_left
    · (intro w hSw; (try dsimp only at hSw); first | (go_simp; done) | (go_simp; with_reducible rfl))
    simp only [Act.put, List.setIfInBounds_toArray, List.set_cons_zero, List.set_cons_succ]
    refine wpAnyH_done (by kernel_rfl) ?_ _
    have hclr : ∀ ty c, (Builtin.clear_ #[24] ty #[.slice (some ⟨g, k, none⟩) 1 c]).run Try.prog w4 = .ok (.tuple #[]) (w4.setCells g k (List.replicate 1 (.slice none 0 0))) := fun ty c =>
      Lib.run_clear_slice w4 24 23 ty (.slice none 0 0) Try.underlying24 hzero rfl rfl g k 1 c (by omega)
        (fun j hj => by rw [cell_of_row _ _ _ _ _ _ HB4.out, Array.getElem?_eq_getElem (by rw [HC3.out]; omega)]; rfl) (fun j hj => frozen_of_row _ _ _ _ _ HB4.out)
    go_wp2
    go_ret
    obtain ⟨o1, o2⟩ := HFIN.out w4 HB4.out HD4.out
    exact ⟨_, rfl, o1, o2⟩
  · have b1 : ¬ k + 1 = cap := fun q => hcap q.symm
    refine wp_region_held_drew (S := (fun _ => True)) (by kernel_rfl) trivial (fun hHeld => ?_)
    have HB4 : Hid (w.drew.heap[g]? = some (.cells cur 23 (0, 0))) := HBk.out
    have hd : Below w.heap.size w w.drew := (Below.refl w.heap.size w).drew
    have HD4 := Lib.hid hd
    obtain ⟨w4, hw4⟩ : ∃ w4, w4 = w.drew := ⟨_, rfl⟩
    rw [← hw4] at HB4 HD4 ⊢
    clear hw4 hd
    refine takeH (i := 0) (v := ?_) rfl rfl (by kernel_rfl) (by kernel_rfl) (by kernel_rfl) (fun _ _ _ h => h) (by rfl) ?_ hHeld ?_
    rotate_left
    · (intro w hSw; (try dsimp only at hSw); first | (go_simp; done) | (go_simp; with_reducible rfl))
    simp only [Act.put, List.setIfInBounds_toArray, List.set_cons_zero, List.set_cons_succ]
    refine takeH (i := 1) (v := ?_) rfl rfl (by kernel_rfl) (by kernel_rfl) (by kernel_rfl) (fun _ _ _ h => h) (by rfl) ?_ hHeld ?_
    rotate_left
    · (intro w hSw; (try dsimp only at hSw); first | (go_simp; done) | (go_simp; with_reducible rfl))
    simp only [Act.put, List.setIfInBounds_toArray, List.set_cons_zero, List.set_cons_succ]
    refine takeH (i := 2) (v := ?_) rfl rfl (by kernel_rfl) (by kernel_rfl) (by kernel_rfl) (fun _ _ _ h => h) (by rfl) ?_ hHeld ?_
    rotate_left
    · (intro w hSw; (try dsimp only at hSw); first | (go_simp; done) | (go_simp; with_reducible rfl))
    simp only [Act.put, List.setIfInBounds_toArray, List.set_cons_zero, List.set_cons_succ]
    refine takeH (i := 3) (v := ?_) rfl rfl (by kernel_rfl) (by kernel_rfl) (by kernel_rfl) (fun _ _ _ h => h) (by rfl) ?_ hHeld ?_
    rotate_left
    · (intro w hSw; (try dsimp only at hSw); first | (go_simp; done) | (go_simp; with_reducible rfl))
    simp only [Act.put, List.setIfInBounds_toArray, List.set_cons_zero, List.set_cons_succ]
    refine takeH (i := 4) (v := ?_) rfl rfl (by kernel_rfl) (by kernel_rfl) (by kernel_rfl) (fun _ _ _ h => h) (by rfl) ?_ hHeld ?_
    rotate_left
    · (intro w hSw; (try dsimp only at hSw); first | (go_simp; done) | (go_simp; with_reducible rfl))
    simp only [Act.put, List.setIfInBounds_toArray, List.set_cons_zero, List.set_cons_succ]
    refine takeH (i := 5) (v := ?_) rfl rfl (by kernel_rfl) (by kernel_rfl) (by kernel_rfl) (fun _ _ _ h => h) (by rfl) ?_ hHeld ?_
    rotate_left
    · (intro w hSw; (try dsimp only at hSw); first | (go_simp; done) | (go_simp; with_reducible rfl))
    simp only [Act.put, List.setIfInBounds_toArray, List.set_cons_zero, List.set_cons_succ]
    refine wpAnyH_ready (rs := [6]) (by kernel_rfl) (by simp) ?_
    refine AllReadyH.cons rfl (fun K hK => ?_) AllReadyH.nil
    refine app_none_step rfl (.tmp 22) (.tmp 25) rfl g k cap cur HB4.out (by omega) (by rw [HC3.out]; exact Nat.le_refl _) _ _ rfl rfl ?_
    go_simp
    refine hK.out _ _ ?_ (fun hHeld => ?_)
    · trivial
    clear hK K
    refine takeH (i := 7) (v := ?_) rfl rfl (by kernel_rfl) (by kernel_rfl) (by kernel_rfl) (fun _ _ _ h => h) (by rfl) ?_ hHeld ?_
    rotate_left
    · (intro w hSw; (try dsimp only at hSw); first | (go_simp; done) | (go_simp; with_reducible rfl))
    simp only [Act.put, List.setIfInBounds_toArray, List.set_cons_zero, List.set_cons_succ]
    refine wpAnyH_done (by kernel_rfl) ?_ _
    have hclr : ∀ ty c, (Builtin.clear_ #[24] ty #[.slice (some ⟨g, k, none⟩) 1 c]).run Try.prog w4 = .ok (.tuple #[]) (w4.setCells g k (List.replicate 1 (.slice none 0 0))) := fun ty c =>
      Lib.run_clear_slice w4 24 23 ty (.slice none 0 0) Try.underlying24 hzero rfl rfl g k 1 c (by omega)
        (fun j hj => by rw [cell_of_row _ _ _ _ _ _ HB4.out, Array.getElem?_eq_getElem (by rw [HC3.out]; omega)]; rfl) (fun j hj => frozen_of_row _ _ _ _ _ HB4.out)
    go_wp2
    go_ret
    obtain ⟨o1, o2⟩ := HFIN.out w4 HB4.out HD4.out
    exact ⟨_, rfl, o1, o2⟩
end Go.Proofs.Ythnjpkghjkhjdaa
