/-
  Contracts: slices.Repeat of one number 32 times, package fact's New, the reference's New.
-/
import Derived.Test.YthnjpkghjkhjdaaFactCl
import Derived.Laws.CopyOwn
namespace Go.Proofs.Ythnjpkghjkhjdaa
open Go.RowKit Go.Deep
set_option linter.unusedSimpArgs false
set_option linter.unusedVariables false
set_option maxRecDepth 100000

theorem mul_32 (w : World) : Calls Try.prog 62 #[.int .u64 1, .int .u64 32] w fun e w' => e = .returned (.tuple #[.int .u64 0, .int .u64 32]) ∧ w = w' := by
  go_enter Try.func62, Try.ntmps62
  go_wp2
  go_ret2
  exact ⟨rfl, rfl⟩
/-- What the row holds: k numbers written, the others not. -/
def repV (k : Nat) : List Value := List.replicate k (.int .i64 (-1)) ++ List.replicate (32 - k) (.int .i64 0)
theorem repV_length {k : Nat} (h : k ≤ 32) : (repV k).length = 32 := by unfold repV; simp; omega
theorem repV_splice {k m : Nat} (h : k + m ≤ 32) : splice (repV k) k (List.replicate m (Value.int .i64 (-1))) = repV (k + m) := by
  unfold splice repV
  rw [List.take_append_of_le_length (by simp), List.take_of_length_le (by simp), List.length_replicate, List.drop_append, List.drop_of_length_le (by simp), List.nil_append, List.length_replicate, List.drop_replicate, ← List.append_assoc, List.replicate_append_replicate]
  congr 2
  omega
theorem repV_get {k j : Nat} (h : j < k) : (repV k)[j]? = some (.int .i64 (-1)) := by
  unfold repV
  rw [List.getElem?_append_left (by simpa using h), List.getElem?_replicate, if_pos h]
theorem repV_all : repV 32 = intCells (List.replicate 32 (-1)) := by kernel_rfl
set_option maxHeartbeats 2000000 in
theorem repeat_any (b : Nat) (w : World) (h : w.cell? ⟨b, 0, none⟩ = some (.int .i64 (-1))) (hbw : b < w.heap.size) (R : List Int) (hR : R = List.replicate 32 (-1)) :
    Calls Try.prog 42 #[.slice (some ⟨b, 0, none⟩) 1 1, .int .i64 32] w (IntsRet R w) := by
  have HR := Lib.hid hR
  have hmk : (Instr.makeSlice 23 (.int .i64 32) (.int .i64 32)).run Try.prog w = .ok (.slice (some ⟨w.heap.size, 0, none⟩) 32 32) (w.alloc (.cells (madeCells #[.int .i64 0] 32) 3)) := run_make_row' (P := Try.prog) 23 3 (.int .i64 0) 8 Try.underlying23 int_info rfl .i64 .i64 32 (by omega) (by omega) w
  have hmc : madeCells #[.int .i64 0] 32 = (repV 0).toArray := by kernel_rfl
  rw [hmc] at hmk
  obtain ⟨V0, hV0⟩ : ∃ V0, V0 = repV 0 := ⟨_, rfl⟩
  rw [← hV0] at hmk
  have HV0 := Lib.hid hV0
  clear hmc hR hV0
  go_enter Try.func42, Try.ntmps42
  go_wp2_with fail
  refine (mul_32 _).mono ?_
  rintro e w1 ⟨rfl, rfl⟩
  go_upto_region 7 with (fail)
  have hb0 := below_new w (.cells V0.toArray 3)
  have hg0 := heap_alloc_new w (.cells V0.toArray 3)
  have h0 : (w.alloc (.cells V0.toArray 3)).cell? ⟨b, 0, none⟩ = some (.int .i64 (-1)) := by rw [hb0.cell (p := ⟨b, 0, none⟩) hbw]; exact h
  obtain ⟨wA, hwA⟩ : ∃ wA, wA = w.alloc (.cells V0.toArray 3) := ⟨_, rfl⟩
  rw [← hwA] at hb0 hg0 h0 ⊢
  have HB0 := Lib.hid hb0
  have HG0 := Lib.hid hg0
  have H0 := Lib.hid h0
  clear hmk hwA h hb0 hg0 h0
  obtain ⟨g, hg⟩ : ∃ g, g = w.heap.size := ⟨_, rfl⟩
  have HGG := Lib.hid hg
  clear hg
  have hsrc : ∀ j v, ([Value.int .i64 (-1)] : List Value)[j]? = some v → wA.cell? ((⟨b, 0, none⟩ : Addr).add j) = some v := fun j v hj => by
    cases j with
    | zero => simp at hj; subst hj; rw [addr_plus]; exact H0.out
    | succ j => simp at hj
  have HSRC := Lib.hid hsrc
  have HL0 : Hid (0 + ([Value.int .i64 (-1)] : List Value).length ≤ V0.length) := by show _ ≤ _; rw [HV0.out, repV_length (by omega)]; simp
  have H1C : Hid (∀ v ∈ ([Value.int .i64 (-1)] : List Value), v.oneCell' = true) := fun v hv => by simp at hv; subst hv; rfl
  clear hsrc
  go_wp2_with (refine wpList_copy_splice rfl (.tmp 31) (.tmp 32) 23 23 rfl 3 Try.underlying23 (by kernel_rfl) (some ⟨w.heap.size, 0, none⟩) (some ⟨b, 0, none⟩) 32 32 1 1 rfl rfl w.heap.size 0 V0 3 HG0.out [.int .i64 (-1)] rfl (fun _ => ⟨rfl, ⟨b, 0, none⟩, rfl, HSRC.out⟩) HL0.out H1C.out w.heap.size w HB0.out (Nat.le_refl _) ?_
               intro w2 HG2 hB2
               have HB2 := Lib.hid hB2
               clear hB2)
  have hF : w2.heap[g]? = some (.cells (repV 1).toArray 3 (0, 0)) := by rw [HGG.out, HG2.out, HV0.out]; rfl
  rw [← HGG.out]
  have HB2' : Hid (Below g w w2) := by rw [HGG.out]; exact HB2.out
  clear HB0 HG0 H0 HB2 HG2 HV0
  go_loopw [8] (fun n wr => ∃ k : Nat, n = .int .i64 k ∧ 1 ≤ k ∧ k ≤ 32 ∧ Hid (wr.heap[g]? = some (.cells (repV k).toArray 3 (0, 0))) ∧ Below g w wr) (fun n _ => 32 - (intOf n).toNat)
  case atStart => exact ⟨1, rfl, by omega, by omega, hF, HB2'.out⟩
  case round =>
    clear hF
    obtain ⟨k, rfl, hk1, hk, HF, hbw2⟩ := hrel
    have HBW := Lib.hid hbw2
    clear hbw2
    by_cases hlt : k < 32
    · have q1 : (k : Int) < 32 := by omega
      have q2 : (k : Int) ≤ 32 := by omega
      have q3 : ¬ k = 32 := by omega
      have q4 : (0 : Int) ≤ (k : Int) := by omega
      have q5 : ¬ (k : Int) = 32 := by omega
      have q6 : ¬ 32 = k := by omega
      go_wp2_with fail
      refine wp_region_held_drew (S := (fun _ => True)) (by kernel_rfl) trivial (fun hHeld => ?_)
      have hd : Below wr.heap.size wr wr.drew := (Below.refl wr.heap.size wr).drew
      have HF4 : Hid (wr.drew.heap[g]? = some (.cells (repV k).toArray 3 (0, 0))) := HF.out
      have HB4 : Hid (Below g w wr.drew) := HBW.out.drew
      obtain ⟨w4, hw4⟩ : ∃ w4, w4 = wr.drew := ⟨_, rfl⟩
      rw [← hw4] at HF4 HB4 ⊢
      clear hw4 hd HF HBW
      refine takeH (i := 0) (v := ?_) rfl rfl (by kernel_rfl) (by kernel_rfl) (by kernel_rfl) (fun _ _ _ h => h) (by rfl) ?_ hHeld ?_
      rotate_left
      · (intro w hSw; (try dsimp only at hSw); first | (go_simp; done) | (go_simp; with_reducible rfl))
      simp only [Act.put, List.setIfInBounds_toArray, List.set_cons_zero, List.set_cons_succ]
      refine takeH (i := 1) (v := ?_) rfl rfl (by kernel_rfl) (by kernel_rfl) (by kernel_rfl) (fun _ _ _ h => h) (by rfl) ?_ hHeld ?_
      rotate_left
      · (intro w hSw; (try dsimp only at hSw); first | (go_simp; done) | (go_simp; with_reducible rfl))
      simp only [Act.put, List.setIfInBounds_toArray, List.set_cons_zero, List.set_cons_succ]
      refine takeH (i := 2) (v := ?_) rfl rfl (by kernel_rfl) (by kernel_rfl) (by kernel_rfl) (fun _ _ _ h => h) (by rfl) ?_ hHeld ?_
      rotate_left
      · (intro w hSw; (try dsimp only at hSw); first | (go_simp; done) | (go_simp; with_reducible rfl))
      simp only [Act.put, List.setIfInBounds_toArray, List.set_cons_zero, List.set_cons_succ]
      refine takeH (i := 3) (v := ?_) rfl rfl (by kernel_rfl) (by kernel_rfl) (by kernel_rfl) (fun _ _ _ h => h) (by rfl) ?_ hHeld ?_
      rotate_left
      · (intro w hSw; (try dsimp only at hSw); first | (go_simp; done) | (go_simp; with_reducible rfl))
      simp only [Act.put, List.setIfInBounds_toArray, List.set_cons_zero, List.set_cons_succ]
      refine takeH (i := 4) (v := ?_) rfl rfl (by kernel_rfl) (by kernel_rfl) (by kernel_rfl) (fun _ _ _ h => h) (by rfl) ?_ hHeld ?_
      rotate_left
      · (intro w hSw; (try dsimp only at hSw); first | (go_simp; done) | (go_simp; with_reducible rfl))
      simp only [Act.put, List.setIfInBounds_toArray, List.set_cons_zero, List.set_cons_succ]
      refine takeH (i := 5) (v := ?_) rfl rfl (by kernel_rfl) (by kernel_rfl) (by kernel_rfl) (fun _ _ _ h => h) (by rfl) ?_ hHeld ?_
      rotate_left
      · (intro w hSw; (try dsimp only at hSw); first | (go_simp; done) | (go_simp; with_reducible rfl))
      simp only [Act.put, List.setIfInBounds_toArray, List.set_cons_zero, List.set_cons_succ]
      refine takeH (i := 6) (v := ?_) rfl rfl (by kernel_rfl) (by kernel_rfl) (by kernel_rfl) (fun _ _ _ h => h) (by rfl) ?_ hHeld ?_
      rotate_left
      · (intro w hSw; (try dsimp only at hSw); first | (go_simp; done) | (go_simp; with_reducible rfl))
      simp only [Act.put, List.setIfInBounds_toArray, List.set_cons_zero, List.set_cons_succ]
      obtain ⟨m, hm⟩ : ∃ m, m = Nat.min k (32 - k) := ⟨_, rfl⟩
      have hm1 : m ≤ k := by rw [hm]; exact Nat.min_le_left _ _
      have hm2 : k + m ≤ 32 := by have : m ≤ 32 - k := by rw [hm]; exact Nat.min_le_right _ _
                                  omega
      have hm3 : 1 ≤ m := by rw [hm]; simp only [Nat.min_def]; split <;> omega
      have HSRC : Hid (∀ j v, (List.replicate m (Value.int .i64 (-1)))[j]? = some v → w4.cell? ((⟨g, 0, none⟩ : Addr).add j) = some v) := fun j v hj => by
        rw [List.getElem?_replicate] at hj
        split at hj
        · rename_i hjm
          injection hj with hj
          subst hj
          rw [addr_plus, Nat.zero_add, cell_of_row _ _ j _ _ _ HF4.out, List.getElem?_toArray]
          exact repV_get (by omega)
        · cases hj
      have HL1 : Hid ((List.replicate m (Value.int .i64 (-1))).length = Nat.min k (32 - k)) := by show _ = _; rw [List.length_replicate]; exact hm
      have HL2 : Hid (k + (List.replicate m (Value.int .i64 (-1))).length ≤ (repV k).length) := by show _ ≤ _; rw [List.length_replicate, repV_length hk]; exact hm2
      have H1C : Hid (∀ v ∈ List.replicate m (Value.int .i64 (-1)), v.oneCell' = true) := fun v hv => by rw [List.eq_of_mem_replicate hv]; rfl
      have HLM : Hid ((List.replicate m (Value.int .i64 (-1))).length = m) := List.length_replicate
      clear hm
      have hm4 : (m : Int) ≤ 32 := by omega
      have hm5 : (0 : Int) ≤ (m : Int) := by omega
      have hm6 : (k : Int) + (m : Int) ≤ 32 := by omega
      have hm7 : IntKind.i64.wrap ((k : Int) + (m : Int)) = (k : Int) + (m : Int) := by rw [IntKind.wrap_i64]; omega
      refine wpAnyH_ready (rs := [7]) (by kernel_rfl) (by simp) ?_
      refine AllReadyH.cons rfl (fun K hK => ?_) AllReadyH.nil
      refine step_copy_splice rfl (.tmp 41) (.tmp 44) 23 23 rfl 3 Try.underlying23 (by kernel_rfl) (some ⟨g, k, none⟩) (some ⟨g, 0, none⟩) (32 - k) (32 - k) k 32 rfl rfl g k (repV k) 3 HF4.out (List.replicate m (.int .i64 (-1))) HL1.out (fun _ => ⟨rfl, ⟨g, 0, none⟩, rfl, HSRC.out⟩) HL2.out H1C.out g w HB4.out (Nat.le_refl _) ?_
      intro w5 HG5 hB5
      rw [repV_splice hm2] at HG5
      rw [HLM.out]
      have HB5 := Lib.hid hB5
      clear hB5 HSRC HL1 HL2 H1C HLM
      go_simp
      refine hK.out _ _ ?_ (fun hHeld => ?_)
      · trivial
      clear hK K
      refine takeH (i := 8) (v := ?_) rfl rfl (by kernel_rfl) (by kernel_rfl) (by kernel_rfl) (fun _ _ _ h => h) (by rfl) ?_ hHeld ?_
      rotate_left
      · (intro w hSw; (try dsimp only at hSw); first | (go_simp; done) | (go_simp; with_reducible rfl))
      simp only [Act.put, List.setIfInBounds_toArray, List.set_cons_zero, List.set_cons_succ]
      refine takeH (i := 9) (v := ?_) rfl rfl (by kernel_rfl) (by kernel_rfl) (by kernel_rfl) (fun _ _ _ h => h) (by rfl) ?_ hHeld ?_
      rotate_left
      · (intro w hSw; (try dsimp only at hSw); first | (go_simp; done) | (go_simp; with_reducible rfl))
      simp only [Act.put, List.setIfInBounds_toArray, List.set_cons_zero, List.set_cons_succ]
      refine wpAnyH_done (by kernel_rfl) ?_ _
      go_wp2
      go_roundw
      case rel => exact ⟨k + m, by go_num, by omega, hm2, HG5, HB5.out⟩
      case measure => simp [intOf]; omega
    · obtain rfl : k = 32 := by omega
      go_wp2
      go_ret
      refine ⟨_, rfl, ?_, by rw [← HGG.out]; exact HBW.out⟩
      rw [HR.out]
      refine ⟨rfl, .inr ⟨g, 32, (repV 32).toArray, rfl, by rw [HGG.out]; exact Nat.le_refl _, HF.out, Nat.le_refl _, by unfold maxLen; omega, rfl, ?_⟩⟩
      rw [repV_all]; rfl
end Go.Proofs.Ythnjpkghjkhjdaa
