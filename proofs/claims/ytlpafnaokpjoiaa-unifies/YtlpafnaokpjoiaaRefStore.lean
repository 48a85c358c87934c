/-
  Contracts of the reference: walk, inside, full, pair1.
-/
import Derived.Test.YtlpafnaokpjoiaaMemStore
import Derived.Test.YtlpafnaokpjoiaaPartsR2
namespace Go.Proofs.Ytlpafnaokpjoiaa
open Go.RowKit
set_option linter.unusedSimpArgs false
set_option linter.unusedVariables false
set_option maxRecDepth 100000

/-- How far the variable that a row is of one code is from a free one. -/
def headRk (rk : Nat → Nat) (q : Value) (w : World) : Nat :=
  match q with
  | .slice (some p) 1 _ => match w.cell? p with
    | some (.int _ x) => if x < 0 then rk (-1 - x).toNat + 1 else 0
    | _ => 0
  | _ => 0
theorem headRk_var {rk : Nat → Nat} {w : World} {p : Addr} {c v : Nat} (h : w.cell? p = some (.int .i64 (-1 - (v : Int)))) : headRk rk (.slice (some p) 1 c) w = rk v + 1 := by
  unfold headRk
  simp only [h]
  have e : (-1 - (-1 - (v : Int))).toNat = v := by omega
  rw [if_pos (by omega), e]
theorem headRk_le {V : Nat} {ss : List Sym} {rk : Nat → Nat} {w : World} {base : Nat} {A : Option Addr} {n c d : Nat} {r : List Int} (ht : trm V ss r 1) (h : RowAt w base A n c r) (hd : ∀ x ∈ r, x < 0 → rk (-1 - x).toNat < d) : headRk rk (.slice A n c) w ≤ d := by
  rcases trm_one ht with ⟨v, hv, hv'⟩ | ⟨x, ar, s, hx, hx0, _, _⟩
  · subst hv'
    obtain ⟨rfl, b, off, rfl, _, hc⟩ := h.var
    rw [headRk_var hc]
    have := hd (-1 - (v : Int)) (by simp) (by omega)
    have e : (-1 - (-1 - (v : Int))).toNat = v := by omega
    rw [e] at this
    omega
  · subst hx
    obtain ⟨b, off, rfl, _, hc, hn⟩ := h.head
    unfold headRk
    by_cases e : n = 1
    · subst e
      simp only [hc]
      rw [if_neg (by omega)]; omega
    · split
      · rename_i q1 q2
        simp only [Value.slice.injEq] at q2
        exact absurd q2.2.1 e
      · omega
/-- What walk tells. -/
def WalkPost (V : Nat) (ss : List Sym) (T σ : Nat → List Int) (base : Nat) (a : List Int) (w : World) (e : Ending) (w' : World) : Prop :=
  ∃ A n c a', e = .returned (.slice A n c) ∧ RowAt w' base A n c a' ∧ Wlk V ss T σ a a' ∧ ((∃ v, v < V ∧ a' = [-1 - (v : Int)] ∧ T v = []) ∨ ∃ x s, a' = x :: s ∧ 0 ≤ x) ∧ Below w.heap.size w w'

set_option maxHeartbeats 400000 in
theorem refWalk_any (V : Nat) (ss : List Sym) (T σ : Nat → List Int) (rk : Nat → Nat) (A : Option Addr) (n c base sb : Nat) (a : List Int) (w : World) (hst : StoreAt w base sb T) (hs : Sto V ss T σ rk) (hV : V ≤ 48) (hr : RowAt w base A n c a) (ht : trm V ss a 1) :
    Calls Try.prog 66 #[.pointer (some ⟨sb, 0, none⟩), .slice A n c] w (WalkPost V ss T σ base a w) := by
  have HST := Lib.hid hst
  have HS := Lib.hid hs
  have HB0 : Hid (base ≤ w.heap.size) := by have := hst.lt; have := hst.le; show base ≤ w.heap.size; omega
  have HR := Lib.hid hr
  have HT := Lib.hid ht
  clear hst hs hr ht
  go_enter Try.func66, Try.ntmps66
  go_wp2
  go_loopw [1] (fun q wr => ∃ (A' : Option Addr) (n' c' : Nat) (a' : List Int), q = .slice A' n' c' ∧ RowAt wr base A' n' c' a' ∧ Wlk V ss T σ a a' ∧ Below w.heap.size w wr) (fun q wr => headRk rk q wr)
  case atStart => exact ⟨A, n, c, a, rfl, HR.out, Wlk.refl HT.out, Below.refl _ _⟩
  case round =>
    obtain ⟨A', n', c', a', rfl, hr', hw', hb'⟩ := hrel
    have HR' := Lib.hid hr'
    have HW' := Lib.hid hw'
    have HB' := Lib.hid hb'
    have HSB := Lib.hid (HST.out.on hb')
    clear hb'
    rcases trm_one hw'.one with ⟨v, hv, hv'⟩ | ⟨x, ar, s, hx, hx0, har, htr⟩
    · subst hv'
      obtain ⟨hn1, b, off, hA, hbb, hcx⟩ := hr'.var
      subst hn1; subst hA
      obtain ⟨A2, n2, c2, hc2, hr2⟩ := HSB.out.cell (v := v) (by omega)
      have HR2 := Lib.hid hr2
      have HL2 := Lib.hid hr2.at_.len
      have hv0 : (0 : Int) ≤ (v : Int) := by omega
      have hv1 : (v : Int) < 48 := by omega
      have hxv : -1 - (-1 - (v : Int)) = (v : Int) := by omega
      have hx0 : -1 - (v : Int) < 0 := by omega
      have HRK := Lib.hid (headRk_var (rk := rk) (c := c') hcx)
      clear hr' hw' hr2
      by_cases hn2 : n2 = 0
      · subst hn2
        have HTE : Hid (T v = []) := List.eq_nil_of_length_eq_zero HL2.out
        go_wp2_with fail
        go_quiet (fail)
        go_wp2
        go_ret
        exact ⟨_, _, _, _, rfl, HR'.out.below (below_drewN _ _), HW'.out, .inl ⟨v, hv, rfl, HTE.out⟩, HB'.out.trans (below_drewN _ _)⟩
      · have hn2' : 0 < n2 := by omega
        have hn2i : (0 : Int) < (n2 : Int) := by omega
        have HTN : Hid (T v ≠ []) := fun e => hn2 (by rw [← HL2.out, e]; rfl)
        clear hn2
        go_wp2_with fail
        go_quiet (fail)
        go_wp2_with fail
        go_quiet (fail)
        go_wp2
        go_roundw
        case rel => exact ⟨A2, n2, c2, T v, rfl, HR2.out.below ((below_drewN _ _).trans (below_drewN _ _)), HW'.out.step HS.out HTN.out hv, (HB'.out.trans (below_drewN _ _)).trans (below_drewN _ _)⟩
        case measure =>
          rw [HRK.out]
          exact Nat.lt_succ_of_le (headRk_le (HS.out.one v hv HTN.out) (HR2.out.below ((below_drewN _ _).trans (below_drewN _ _))) (HS.out.down v hv HTN.out))
    · subst hx
      obtain ⟨b, off, hA, hbb, hcx, hn'⟩ := hr'.head
      subst hA
      have HX := Lib.hid hx0
      have hx0' : ¬ x < 0 := by omega
      clear hr' hw' htr har hn'
      by_cases hn1 : n' = 1
      · subst hn1
        go_wp2_with fail
        have gdx : decide (x < 0) = false := decide_eq_false (by omega)
        refine wp_region_held_drew (S := (fun w' => w'.cell? ⟨b, off, none⟩ = some (.int .i64 x))) (by kernel_rfl) hcx (fun hHeld => ?_)
        refine takeH (i := 0) (v := ?_) rfl rfl (by kernel_rfl) (by kernel_rfl) (by kernel_rfl) (fun _ _ _ h => h) (by rfl) ?_ hHeld ?_
        rotate_left
        · (intro w hSw; (try dsimp only at hSw); first | (go_simp; done) | (go_simp; with_reducible rfl))
        simp only [Act.put, List.setIfInBounds_toArray, List.set_cons_zero, List.set_cons_succ]
        refine takeH (i := 1) (v := ?_) rfl rfl (by kernel_rfl) (by kernel_rfl) (by kernel_rfl) (fun _ _ _ h => h) (by rfl) ?_ hHeld ?_
        rotate_left
        · (intro w hSw; (try dsimp only at hSw); first | (go_simp; done) | (go_simp; with_reducible rfl))
        simp only [Act.put, List.setIfInBounds_toArray, List.set_cons_zero, List.set_cons_succ]
        refine takeH (i := 2) (v := ?_) rfl rfl (by kernel_rfl) (by kernel_rfl) (by kernel_rfl) (fun _ _ _ h => h) (by rfl) ?_ hHeld ?_
        rotate_left
        · (intro w hSw; (try dsimp only at hSw); first | (go_simp; done) | (go_simp; with_reducible rfl))
        simp only [Act.put, List.setIfInBounds_toArray, List.set_cons_zero, List.set_cons_succ]
        refine takeH (i := 3) (v := ?_) rfl rfl (by kernel_rfl) (by kernel_rfl) (by kernel_rfl) (fun _ _ _ h => h) (by rfl) ?_ hHeld ?_
        rotate_left
        · (intro w hSw; (try dsimp only at hSw); first | (go_simp; done) | (go_simp; with_reducible rfl))
        simp only [Act.put, List.setIfInBounds_toArray, List.set_cons_zero, List.set_cons_succ]
        refine takeH (i := 4) (v := ?_) rfl rfl (by kernel_rfl) (by kernel_rfl) (by kernel_rfl) (fun _ _ _ h => h) (by rfl) ?_ hHeld ?_
        rotate_left
        · (intro w hSw; (try dsimp only at hSw); first | (go_simp; done) | (go_simp; with_reducible rfl))
        simp only [Act.put, List.setIfInBounds_toArray, List.set_cons_zero, List.set_cons_succ]
        refine takeH (i := 5) (v := ?_) rfl rfl (by kernel_rfl) (by kernel_rfl) (by kernel_rfl) (fun _ _ _ h => h) (by rfl) ?_ hHeld ?_
        rotate_left
        · (intro w hSw; (try dsimp only at hSw); first | (go_simp; done) | (go_simp; with_reducible rfl))
        simp only [Act.put, List.setIfInBounds_toArray, List.set_cons_zero, List.set_cons_succ]
        refine takeH (i := 6) (v := ?_) rfl rfl (by kernel_rfl) (by kernel_rfl) (by kernel_rfl) (fun _ _ _ h => h) (by rfl) ?_ hHeld ?_
        rotate_left
        · (intro w hSw; (try dsimp only at hSw); first | (go_simp; done) | (go_simp; with_reducible rfl))
        simp only [Act.put, List.setIfInBounds_toArray, List.set_cons_zero, List.set_cons_succ]
        refine takeH (i := 7) (v := ?_) rfl rfl (by kernel_rfl) (by kernel_rfl) (by kernel_rfl) (fun _ _ _ h => h) (by rfl) ?_ hHeld ?_
        rotate_left
        · (intro w hSw; (try dsimp only at hSw); first | (go_simp; done) | (go_simp; with_reducible rfl))
        simp only [Act.put, List.setIfInBounds_toArray, List.set_cons_zero, List.set_cons_succ]
        refine takeH (i := 8) (v := ?_) rfl rfl (by kernel_rfl) (by kernel_rfl) (by kernel_rfl) (fun _ _ _ h => h) (by rfl) ?_ hHeld ?_
        rotate_left
        · (intro w hSw; (try dsimp only at hSw); first | (go_simp; done) | (go_simp; with_reducible rfl))
        simp only [Act.put, List.setIfInBounds_toArray, List.set_cons_zero, List.set_cons_succ]
        refine takeH (i := 9) (v := ?_) rfl rfl (by kernel_rfl) (by kernel_rfl) (by kernel_rfl) (fun _ _ _ h => h) (by rfl) ?_ hHeld ?_
        rotate_left
        · (intro w hSw; (try dsimp only at hSw); first | (go_simp; done) | (go_simp; with_reducible rfl))
        simp only [Act.put, List.setIfInBounds_toArray, List.set_cons_zero, List.set_cons_succ]
        refine passH (i := 10) rfl rfl (by kernel_rfl) (by kernel_rfl) (by kernel_rfl) (fun _ _ _ h => h) (by rfl) hHeld ?_
        simp only [Act.put, List.setIfInBounds_toArray, List.set_cons_zero, List.set_cons_succ]
        refine passH (i := 11) rfl rfl (by kernel_rfl) (by kernel_rfl) (by kernel_rfl) (fun _ _ _ h => h) (by rfl) hHeld ?_
        simp only [Act.put, List.setIfInBounds_toArray, List.set_cons_zero, List.set_cons_succ]
        refine passH (i := 12) rfl rfl (by kernel_rfl) (by kernel_rfl) (by kernel_rfl) (fun _ _ _ h => h) (by rfl) hHeld ?_
        simp only [Act.put, List.setIfInBounds_toArray, List.set_cons_zero, List.set_cons_succ]
        refine passH (i := 13) rfl rfl (by kernel_rfl) (by kernel_rfl) (by kernel_rfl) (fun _ _ _ h => h) (by rfl) hHeld ?_
        simp only [Act.put, List.setIfInBounds_toArray, List.set_cons_zero, List.set_cons_succ]
        refine passH (i := 14) rfl rfl (by kernel_rfl) (by kernel_rfl) (by kernel_rfl) (fun _ _ _ h => h) (by rfl) hHeld ?_
        simp only [Act.put, List.setIfInBounds_toArray, List.set_cons_zero, List.set_cons_succ]
        refine passH (i := 15) rfl rfl (by kernel_rfl) (by kernel_rfl) (by kernel_rfl) (fun _ _ _ h => h) (by rfl) hHeld ?_
        simp only [Act.put, List.setIfInBounds_toArray, List.set_cons_zero, List.set_cons_succ]
        refine passH (i := 16) rfl rfl (by kernel_rfl) (by kernel_rfl) (by kernel_rfl) (fun _ _ _ h => h) (by rfl) hHeld ?_
        simp only [Act.put, List.setIfInBounds_toArray, List.set_cons_zero, List.set_cons_succ]
        refine passH (i := 17) rfl rfl (by kernel_rfl) (by kernel_rfl) (by kernel_rfl) (fun _ _ _ h => h) (by rfl) hHeld ?_
        simp only [Act.put, List.setIfInBounds_toArray, List.set_cons_zero, List.set_cons_succ]
        refine passH (i := 18) rfl rfl (by kernel_rfl) (by kernel_rfl) (by kernel_rfl) (fun _ _ _ h => h) (by rfl) hHeld ?_
        simp only [Act.put, List.setIfInBounds_toArray, List.set_cons_zero, List.set_cons_succ]
        refine passH (i := 19) rfl rfl (by kernel_rfl) (by kernel_rfl) (by kernel_rfl) (fun _ _ _ h => h) (by rfl) hHeld ?_
        simp only [Act.put, List.setIfInBounds_toArray, List.set_cons_zero, List.set_cons_succ]
        refine passH (i := 20) rfl rfl (by kernel_rfl) (by kernel_rfl) (by kernel_rfl) (fun _ _ _ h => h) (by rfl) hHeld ?_
        simp only [Act.put, List.setIfInBounds_toArray, List.set_cons_zero, List.set_cons_succ]
        refine takeH (i := 21) (v := ?_) rfl rfl (by kernel_rfl) (by kernel_rfl) (by kernel_rfl) (fun _ _ _ h => h) (by rfl) ?_ hHeld ?_
        rotate_left
        · (intro w hSw; (try dsimp only at hSw); first | (go_simp; done) | (go_simp; with_reducible rfl))
        simp only [Act.put, List.setIfInBounds_toArray, List.set_cons_zero, List.set_cons_succ]
        refine wpAnyH_done (by kernel_rfl) ?_ _
        go_wp2
        go_ret
        exact ⟨_, _, _, _, rfl, HR'.out.below (Below.refl _ _).drew, HW'.out, .inr ⟨x, s, rfl, HX.out⟩, HB'.out.drew⟩
      · have hn1' : ¬ (n' : Int) = 1 := by omega
        go_wp2_with fail
        have gd1 : decide ((n' : Int) = 1) = false := decide_eq_false (by omega)
        have gd2 : decide (n' = 1) = false := decide_eq_false (by omega)
        have gd3 : ((n' : Int) == 1) = false := by simp; omega
        refine wp_region_held_drew (S := (fun w' => True)) (by kernel_rfl) trivial (fun hHeld => ?_)
        refine takeH (i := 0) (v := ?_) rfl rfl (by kernel_rfl) (by kernel_rfl) (by kernel_rfl) (fun _ _ _ h => h) (by rfl) ?_ hHeld ?_
        rotate_left
        · (intro w hSw; (try dsimp only at hSw); first | (go_simp; done) | (go_simp; with_reducible rfl))
        simp only [Act.put, List.setIfInBounds_toArray, List.set_cons_zero, List.set_cons_succ]
        refine takeH (i := 1) (v := ?_) rfl rfl (by kernel_rfl) (by kernel_rfl) (by kernel_rfl) (fun _ _ _ h => h) (by rfl) ?_ hHeld ?_
        rotate_left
        · (intro w hSw; (try dsimp only at hSw); first | (go_simp; done) | (go_simp; with_reducible rfl))
        simp only [Act.put, List.setIfInBounds_toArray, List.set_cons_zero, List.set_cons_succ]
        refine takeH (i := 2) (v := ?_) rfl rfl (by kernel_rfl) (by kernel_rfl) (by kernel_rfl) (fun _ _ _ h => h) (by rfl) ?_ hHeld ?_
        rotate_left
        · (intro w hSw; (try dsimp only at hSw); first | (go_simp; done) | (go_simp; with_reducible rfl))
        simp only [Act.put, List.setIfInBounds_toArray, List.set_cons_zero, List.set_cons_succ]
        refine takeH (i := 3) (v := ?_) rfl rfl (by kernel_rfl) (by kernel_rfl) (by kernel_rfl) (fun _ _ _ h => h) (by rfl) ?_ hHeld ?_
        rotate_left
        · (intro w hSw; (try dsimp only at hSw); first | (go_simp; done) | (go_simp; with_reducible rfl))
        simp only [Act.put, List.setIfInBounds_toArray, List.set_cons_zero, List.set_cons_succ]
        refine passH (i := 4) rfl rfl (by kernel_rfl) (by kernel_rfl) (by kernel_rfl) (fun _ _ _ h => h) (by rfl) hHeld ?_
        simp only [Act.put, List.setIfInBounds_toArray, List.set_cons_zero, List.set_cons_succ]
        refine passH (i := 5) rfl rfl (by kernel_rfl) (by kernel_rfl) (by kernel_rfl) (fun _ _ _ h => h) (by rfl) hHeld ?_
        simp only [Act.put, List.setIfInBounds_toArray, List.set_cons_zero, List.set_cons_succ]
        refine passH (i := 6) rfl rfl (by kernel_rfl) (by kernel_rfl) (by kernel_rfl) (fun _ _ _ h => h) (by rfl) hHeld ?_
        simp only [Act.put, List.setIfInBounds_toArray, List.set_cons_zero, List.set_cons_succ]
        refine passH (i := 7) rfl rfl (by kernel_rfl) (by kernel_rfl) (by kernel_rfl) (fun _ _ _ h => h) (by rfl) hHeld ?_
        simp only [Act.put, List.setIfInBounds_toArray, List.set_cons_zero, List.set_cons_succ]
        refine takeH (i := 8) (v := ?_) rfl rfl (by kernel_rfl) (by kernel_rfl) (by kernel_rfl) (fun _ _ _ h => h) (by rfl) ?_ hHeld ?_
        rotate_left
        · (intro w hSw; (try dsimp only at hSw); first | (go_simp; done) | (go_simp; with_reducible rfl))
        simp only [Act.put, List.setIfInBounds_toArray, List.set_cons_zero, List.set_cons_succ]
        refine takeH (i := 9) (v := ?_) rfl rfl (by kernel_rfl) (by kernel_rfl) (by kernel_rfl) (fun _ _ _ h => h) (by rfl) ?_ hHeld ?_
        rotate_left
        · (intro w hSw; (try dsimp only at hSw); first | (go_simp; done) | (go_simp; with_reducible rfl))
        simp only [Act.put, List.setIfInBounds_toArray, List.set_cons_zero, List.set_cons_succ]
        refine passH (i := 10) rfl rfl (by kernel_rfl) (by kernel_rfl) (by kernel_rfl) (fun _ _ _ h => h) (by rfl) hHeld ?_
        simp only [Act.put, List.setIfInBounds_toArray, List.set_cons_zero, List.set_cons_succ]
        refine passH (i := 11) rfl rfl (by kernel_rfl) (by kernel_rfl) (by kernel_rfl) (fun _ _ _ h => h) (by rfl) hHeld ?_
        simp only [Act.put, List.setIfInBounds_toArray, List.set_cons_zero, List.set_cons_succ]
        refine passH (i := 12) rfl rfl (by kernel_rfl) (by kernel_rfl) (by kernel_rfl) (fun _ _ _ h => h) (by rfl) hHeld ?_
        simp only [Act.put, List.setIfInBounds_toArray, List.set_cons_zero, List.set_cons_succ]
        refine passH (i := 13) rfl rfl (by kernel_rfl) (by kernel_rfl) (by kernel_rfl) (fun _ _ _ h => h) (by rfl) hHeld ?_
        simp only [Act.put, List.setIfInBounds_toArray, List.set_cons_zero, List.set_cons_succ]
        refine passH (i := 14) rfl rfl (by kernel_rfl) (by kernel_rfl) (by kernel_rfl) (fun _ _ _ h => h) (by rfl) hHeld ?_
        simp only [Act.put, List.setIfInBounds_toArray, List.set_cons_zero, List.set_cons_succ]
        refine passH (i := 15) rfl rfl (by kernel_rfl) (by kernel_rfl) (by kernel_rfl) (fun _ _ _ h => h) (by rfl) hHeld ?_
        simp only [Act.put, List.setIfInBounds_toArray, List.set_cons_zero, List.set_cons_succ]
        refine passH (i := 16) rfl rfl (by kernel_rfl) (by kernel_rfl) (by kernel_rfl) (fun _ _ _ h => h) (by rfl) hHeld ?_
        simp only [Act.put, List.setIfInBounds_toArray, List.set_cons_zero, List.set_cons_succ]
        refine passH (i := 17) rfl rfl (by kernel_rfl) (by kernel_rfl) (by kernel_rfl) (fun _ _ _ h => h) (by rfl) hHeld ?_
        simp only [Act.put, List.setIfInBounds_toArray, List.set_cons_zero, List.set_cons_succ]
        refine passH (i := 18) rfl rfl (by kernel_rfl) (by kernel_rfl) (by kernel_rfl) (fun _ _ _ h => h) (by rfl) hHeld ?_
        simp only [Act.put, List.setIfInBounds_toArray, List.set_cons_zero, List.set_cons_succ]
        refine passH (i := 19) rfl rfl (by kernel_rfl) (by kernel_rfl) (by kernel_rfl) (fun _ _ _ h => h) (by rfl) hHeld ?_
        simp only [Act.put, List.setIfInBounds_toArray, List.set_cons_zero, List.set_cons_succ]
        refine passH (i := 20) rfl rfl (by kernel_rfl) (by kernel_rfl) (by kernel_rfl) (fun _ _ _ h => h) (by rfl) hHeld ?_
        simp only [Act.put, List.setIfInBounds_toArray, List.set_cons_zero, List.set_cons_succ]
        refine takeH (i := 21) (v := ?_) rfl rfl (by kernel_rfl) (by kernel_rfl) (by kernel_rfl) (fun _ _ _ h => h) (by rfl) ?_ hHeld ?_
        rotate_left
        · (intro w hSw; (try dsimp only at hSw); first | (go_simp; done) | (go_simp; with_reducible rfl))
        simp only [Act.put, List.setIfInBounds_toArray, List.set_cons_zero, List.set_cons_succ]
        refine wpAnyH_done (by kernel_rfl) ?_ _
        go_wp2
        go_ret
        exact ⟨_, _, _, _, rfl, HR'.out.below (Below.refl _ _).drew, HW'.out, .inr ⟨x, s, rfl, HX.out⟩, HB'.out.drew⟩

/-- What inside tells. -/
def InPost (σ : Nat → List Int) (v : Nat) (t : List Int) (w : World) (e : Ending) (w' : World) : Prop := (∃ b, e = .returned (.bool b) ∧ (b = true ↔ -1 - (v : Int) ∈ ap σ t)) ∧ w = w'
set_option maxHeartbeats 400000 in
theorem refInside_any (V : Nat) (ss : List Sym) (T σ : Nat → List Int) (rk : Nat → Nat) (base sb v : Nat) (w : World) (hst : StoreAt w base sb T) (hs : Sto V ss T σ rk) (hV : V ≤ 48) (hv : v < V) (hf : T v = []) :
    ∀ (R : Nat) (A : Option Addr) (n c k : Nat) (t : List Int), RowAt w base A n c t → trm V ss t k → (∀ x ∈ t, x < 0 → rk (-1 - x).toNat < R) →
    Calls Try.prog 71 #[.pointer (some ⟨sb, 0, none⟩), .int .i64 (v : Int), .slice A n c] w (InPost σ v t w) := by
  have HST := Lib.hid hst
  have HS := Lib.hid hs
  have HF := Lib.hid hf
  clear hst hs hf
  intro R
  induction R using Nat.strongRecOn with
  | _ R ih =>
    intro A n c k t hr ht hrk
    have HIH := Lib.hid ih
    have HR := Lib.hid hr
    have HT := Lib.hid ht
    have HRK := Lib.hid hrk
    have HL := Lib.hid hr.at_.len
    have hn48 := hr.few
    clear ih hr ht hrk
    go_enter Try.func71, Try.ntmps71
    go_wp2
    go_loop [7] (fun i => ∃ j : Nat, i = .int .i64 (j : Int) ∧ j ≤ n ∧ -1 - (v : Int) ∉ ap σ (t.take j)) (fun i => n - (intOf i).toNat)
    case atStart => exact ⟨0, rfl, by omega, by simp [ap]⟩
    case round =>
      obtain ⟨j, rfl, hj, hno⟩ := hrel
      have HNO := Lib.hid hno
      clear hno
      by_cases hlt : j < n
      · have hjl : j < t.length := by rw [HL.out]; exact hlt
        have HMEM := Lib.hid (List.mem_of_getElem? (intAt_get hjl))
        have HTK : Hid (t.take (j + 1) = t.take j ++ [intAt t j]) := by show t.take (j + 1) = _; rw [List.take_add_one, intAt_get hjl]; rfl
        obtain ⟨b, off, hA, hb, hc⟩ := HR.out.at_.at_ (by omega)
        have hcx : w.cell? ⟨b, off + j, none⟩ = some (.int .i64 (intAt t j)) := hc j hlt
        subst hA
        obtain ⟨x, hx⟩ : ∃ x, x = intAt t j := ⟨_, rfl⟩
        rw [← hx] at hcx HMEM HTK
        clear hc hx hjl
        have i0 : (0 : Int) ≤ (j : Int) := by omega
        have i1 : (j : Int) < (n : Int) := by omega
        have HSTEP : Hid (-1 - (v : Int) ∉ ap1 σ x → -1 - (v : Int) ∉ ap σ (t.take (j + 1))) := by
          intro h1 h2
          rw [HTK.out, ap_append, ap_one] at h2
          rcases List.mem_append.1 h2 with h' | h'
          · exact HNO.out h'
          · exact h1 h'
        have HIN : Hid (-1 - (v : Int) ∈ ap1 σ x → -1 - (v : Int) ∈ ap σ t) := fun h1 => mem_ap.2 ⟨x, HMEM.out, h1⟩
        by_cases hx0 : x < 0
        · obtain ⟨hu1, hu2⟩ := vnum HT.out HMEM.out hx0
          have HRU := Lib.hid (HRK.out x HMEM.out hx0)
          obtain ⟨u, hu⟩ : ∃ u, u = (-1 - x).toNat := ⟨_, rfl⟩
          rw [← hu] at hu1 hu2 HRU
          subst hu2
          clear hu
          have hxu : -1 - (-1 - (u : Int)) = (u : Int) := by omega
          have u0 : (0 : Int) ≤ (u : Int) := by omega
          have u1 : (u : Int) < 48 := by omega
          have nx : ¬ (0 : Int) ≤ -1 - (u : Int) := by omega
          rw [ap1_var] at HSTEP HIN
          by_cases huv : u = v
          · subst huv
            have HYES : Hid (-1 - (u : Int) ∈ ap σ t) := HIN.out (by rw [HS.out.free u hu1 HF.out]; simp)
            have guu : ((u : Int) == (u : Int)) = true := by simp
            go_wp2
            go_ret
            exact ⟨⟨true, rfl, fun _ => HYES.out, fun _ => rfl⟩, rfl⟩
          · have huv' : ¬ (u : Int) = (v : Int) := by omega
            obtain ⟨A2, n2, c2, hc2, hr2⟩ := HST.out.cell (v := u) (by omega)
            have HR2 := Lib.hid hr2
            have HL2 := Lib.hid hr2.at_.len
            clear hr2
            by_cases hn2 : n2 = 0
            · subst hn2
              have HTE : Hid (T u = []) := List.eq_nil_of_length_eq_zero HL2.out
              have HN2 : Hid (-1 - (v : Int) ∉ ap σ (t.take (j + 1))) := HSTEP.out (by rw [HS.out.free u hu1 HTE.out]; simp; omega)
              clear huv
              go_wp2
              go_round
              case rel => exact ⟨j + 1, by go_num, by omega, HN2.out⟩
              case measure => simp [intOf]; omega
            · have hn2' : 0 < n2 := by omega
              have hn2i : (0 : Int) < (n2 : Int) := by omega
              have HTN : Hid (T u ≠ []) := fun e => hn2 (by rw [← HL2.out, e]; rfl)
              have HDN : Hid (∀ x ∈ T u, x < 0 → rk (-1 - x).toNat < rk u) := HS.out.down u hu1 HTN.out
              clear hn2 huv
              go_wp2_with fail
              refine (HIH.out (rk u) HRU.out A2 n2 c2 1 (T u) HR2.out (HS.out.one u hu1 HTN.out) HDN.out).mono ?_
              rintro e w1 ⟨⟨bb, rfl, hbb⟩, rfl⟩
              have HBB := Lib.hid hbb
              clear hbb
              cases bb
              · have HN2 : Hid (-1 - (v : Int) ∉ ap σ (t.take (j + 1))) := HSTEP.out (by
                  rw [HS.out.bnd u hu1 HTN.out]
                  intro h
                  have := HBB.out.2 h
                  cases this)
                go_wp2
                go_round
                case rel => exact ⟨j + 1, by go_num, by omega, HN2.out⟩
                case measure => simp [intOf]; omega
              · have HYES : Hid (-1 - (v : Int) ∈ ap σ t) := HIN.out (by rw [HS.out.bnd u hu1 HTN.out]; exact HBB.out.1 rfl)
                go_wp2
                go_ret
                exact ⟨⟨true, rfl, fun _ => HYES.out, fun _ => rfl⟩, rfl⟩
        · have HN2 : Hid (-1 - (v : Int) ∉ ap σ (t.take (j + 1))) := HSTEP.out (by rw [ap1_sym (by omega)]; simp; omega)
          have hx1 : (0 : Int) ≤ x := by omega
          clear hx0
          go_wp2
          go_round
          case rel => exact ⟨j + 1, by go_num, by omega, HN2.out⟩
          case measure => simp [intOf]; omega
      · obtain rfl : j = n := by omega
        have HNN : Hid (-1 - (v : Int) ∉ ap σ t) := by
          have := HNO.out
          rw [List.take_of_length_le (by rw [HL.out]; omega)] at this
          exact this
        go_wp2
        go_ret
        exact ⟨⟨false, rfl, ⟨fun h => absurd h (by decide), fun h => absurd h HNN.out⟩⟩, rfl⟩
end Go.Proofs.Ytlpafnaokpjoiaa

namespace Go.Proofs.Ytlpafnaokpjoiaa
open Go.RowKit
set_option linter.unusedSimpArgs false
set_option linter.unusedVariables false
set_option maxRecDepth 100000

/-- Behind what stood there the row as it becomes, as far as there is room. -/
def fits (xs ys zs : List Int) : Prop := ((xs ++ ys).length ≤ 48 → zs = xs ++ ys) ∧ (48 < (xs ++ ys).length → 48 < zs.length) ∧ zs.length ≤ 49
theorem fits_nil {xs : List Int} (h : xs.length ≤ 49) : fits xs [] xs := by
  unfold fits; rw [List.append_nil]; exact ⟨fun _ => rfl, fun h => h, h⟩
theorem fits_more {xs ys zs us vs : List Int} (h : fits xs ys zs) (hz : zs.length ≤ 48) (k : fits zs us vs) : fits xs (ys ++ us) vs := by
  have e : zs = xs ++ ys := h.1 (by
    rcases Nat.lt_or_ge 48 (xs ++ ys).length with q | q
    · have := h.2.1 q; omega
    · exact q)
  subst e
  unfold fits at *
  rw [List.append_assoc] at k
  exact k
theorem fits_full {xs ys zs us : List Int} (h : fits xs ys zs) (hz : 48 < zs.length) : fits xs (ys ++ us) zs := by
  have hl : 48 < (xs ++ ys).length := by
    rcases Nat.lt_or_ge 48 (xs ++ ys).length with q | q
    · exact q
    · have := h.1 q; rw [this] at hz; omega
  refine ⟨fun q => ?_, fun _ => hz, h.2.2⟩
  simp only [List.length_append] at q hl
  omega
def FullPost (B : Nat) (xs ys : List Int) (w : World) (e : Ending) (w' : World) : Prop := ∃ v zs, e = .returned v ∧ OwnI w' B v zs ∧ fits xs ys zs ∧ Below B w w'

set_option maxHeartbeats 600000 in
theorem refFull_any (V : Nat) (ss : List Sym) (T σ : Nat → List Int) (rk : Nat → Nat) (base sb : Nat) (w0 : World) (hst : StoreAt w0 base sb T) (hs : Sto V ss T σ rk) (hV : V ≤ 48) :
    ∀ (R : Nat) (A : Option Addr) (n c k : Nat) (t : List Int) (v : Value) (xs : List Int) (w : World), RowAt w0 base A n c t → trm V ss t k → (∀ x ∈ t, x < 0 → rk (-1 - x).toNat < R) → Below w0.heap.size w0 w → OwnI w w0.heap.size v xs → xs.length ≤ 49 →
    Calls Try.prog 43 #[.pointer (some ⟨sb, 0, none⟩), v, .slice A n c] w (FullPost w0.heap.size xs (ap σ t) w) := by
  have hsb := hst.lt
  have hbs := hst.le
  have HST := Lib.hid hst
  have HS := Lib.hid hs
  clear hst hs
  intro R
  induction R using Nat.strongRecOn with
  | _ R ih =>
    intro A n c k t v xs w hr ht hrk hbel hown hxl
    have HIH := Lib.hid ih
    have HR := Lib.hid hr
    have HT := Lib.hid ht
    have HRK := Lib.hid hrk
    have HL := Lib.hid hr.at_.len
    have hn48 := hr.few
    have HBEL := Lib.hid hbel
    have HOWN := Lib.hid hown
    have HXL := Lib.hid hxl
    have hsz := hbel.size
    clear ih hr ht hrk hbel hown hxl
    go_enter Try.func43, Try.ntmps43
    go_wp2
    go_loopw [1, 7] (fun q i wr => ∃ (j : Nat) (zs : List Int), i = .int .i64 (j : Int) ∧ j ≤ n ∧ OwnI wr w0.heap.size q zs ∧ fits xs (ap σ (t.take j)) zs ∧ Below w0.heap.size w wr) (fun _ i _ => n - (intOf i).toNat)
    case atStart => exact ⟨0, xs, rfl, by omega, HOWN.out, fits_nil HXL.out, Below.refl _ _⟩
    case round =>
      obtain ⟨j, zs, rfl, hj, hown, hfit, hbw⟩ := hrel
      have HO := Lib.hid hown
      have HFIT := Lib.hid hfit
      have HBW := Lib.hid hbw
      have hz49 := hfit.2.2
      obtain ⟨Az, cz, hq, _, _⟩ := hown.intsAt
      have HBWR := Lib.hid (HBEL.out.trans hbw)
      have hszr := HBWR.out.size
      obtain ⟨L, hL⟩ : ∃ L, L = zs.length := ⟨_, rfl⟩
      rw [← hL] at hq hz49
      have HLZ := Lib.hid hL
      subst hq
      clear hown hfit hbw hL
      by_cases hlt : j < n
      · by_cases hz : L ≤ 48
        · have hjl : j < t.length := by rw [HL.out]; exact hlt
          have HMEM := Lib.hid (List.mem_of_getElem? (intAt_get hjl))
          have HTK : Hid (ap σ (t.take (j + 1)) = ap σ (t.take j) ++ ap1 σ (intAt t j)) := by
            have : t.take (j + 1) = t.take j ++ [intAt t j] := by rw [List.take_add_one, intAt_get hjl]; rfl
            show _ = _
            rw [this, ap_append, ap_one]
          obtain ⟨b, off, hA, hb, hc⟩ := HR.out.at_.at_ (by omega)
          have hcx : wr.cell? ⟨b, off + j, none⟩ = some (.int .i64 (intAt t j)) := (HBWR.out.cell (p := ⟨b, off + j, none⟩) (by show b < _; omega)).trans (hc j hlt)
          subst hA
          obtain ⟨x, hx⟩ : ∃ x, x = intAt t j := ⟨_, rfl⟩
          rw [← hx] at hcx HMEM HTK
          clear hc hx hjl
          have i0 : (0 : Int) ≤ (j : Int) := by omega
          have i1 : (j : Int) < (n : Int) := by omega
          have i2 : (L : Int) ≤ 48 := by omega
          have HZ48 : Hid (zs.length ≤ 48) := by show zs.length ≤ 48; rw [← HLZ.out]; exact hz
          have HLAP : Hid (zs.length + 1 ≤ 17592186044416) := by show _ ≤ _; rw [← HLZ.out]; omega
          by_cases hx0 : x < 0
          · obtain ⟨hu1, hu2⟩ := vnum HT.out HMEM.out hx0
            have HRU := Lib.hid (HRK.out x HMEM.out hx0)
            obtain ⟨u, hu⟩ : ∃ u, u = (-1 - x).toNat := ⟨_, rfl⟩
            rw [← hu] at hu1 hu2 HRU
            subst hu2
            clear hu
            have hxu : -1 - (-1 - (u : Int)) = (u : Int) := by omega
            have u0 : (0 : Int) ≤ (u : Int) := by omega
            have u1 : (u : Int) < 48 := by omega
            rw [ap1_var] at HTK
            obtain ⟨A2, n2, c2, hc2', hr2⟩ := HST.out.cell (v := u) (by omega)
            have hc2 := (HBWR.out.cell (p := ⟨sb, u, none⟩) hsb).trans hc2'
            have HR2 := Lib.hid hr2
            have HL2 := Lib.hid hr2.at_.len
            clear hr2 hc2'
            by_cases hn2 : n2 = 0
            · subst hn2
              have HTE : Hid (T u = []) := List.eq_nil_of_length_eq_zero HL2.out
              have HSU := Lib.hid (HS.out.free u hu1 HTE.out)
              go_wp2_with fail
              go_quiet (fail)
              go_wp2_with (at_builtin
                           refine app_int1 rfl (.tmp 51) (.tmp 56) rfl w0.heap.size _ _ (-1 - (u : Int)) rfl (HO.out.on (below_drewN _ _)) rfl HLAP.out hszr ?_
                           intro v2 w2 hown2 hb2
                           have HO2 := Lib.hid hown2
                           have HB2 := Lib.hid (HBW.out.trans ((below_drewN _ _).trans hb2))
                           clear hown2 hb2)
              go_roundw
              case rel =>
                refine ⟨j + 1, _, by go_num, by omega, HO2.out, ?_, HB2.out⟩
                rw [HTK.out, HSU.out]
                refine fits_more HFIT.out HZ48.out ⟨fun _ => rfl, fun h => h, ?_⟩
                rw [List.length_append]; have := HZ48.out; simp; omega
              case measure => simp [intOf]; omega
            · have hn2' : 0 < n2 := by omega
              have hn2i : (0 : Int) < (n2 : Int) := by omega
              have HTN : Hid (T u ≠ []) := fun e => hn2 (by rw [← HL2.out, e]; rfl)
              have HSU := Lib.hid (HS.out.bnd u hu1 HTN.out)
              clear hn2
              go_wp2_with fail
              go_quiet (fail)
              go_wp2_with fail
              obtain ⟨w3, hw3⟩ : ∃ w3, w3 = wr.drewN nq := ⟨_, rfl⟩
              rw [← hw3]
              have hb3 : Below wr.heap.size wr w3 := by rw [hw3]; exact below_drewN wr _
              have hcx3 : w3.cell? ⟨b, off + j, none⟩ = some (.int .i64 (-1 - (u : Int))) := by rw [hw3]; exact hcx
              have hc23 : w3.cell? ⟨sb, u, none⟩ = some (.slice A2 n2 c2) := by rw [hw3]; exact hc2
              have HO3 := Lib.hid (HO.out.on hb3)
              have HB3 := Lib.hid (HBWR.out.trans (hb3.mono hszr))
              have HBW3 := Lib.hid (HBW.out.trans (hb3.mono hszr))
              have hbl : b < w0.heap.size := by omega
              have hwu : IntKind.i64.wrap (u : Int) = (u : Int) := IntWalk.i64_in _ ⟨by omega, by omega⟩
              clear hw3 hb3 hcx hc2
              refine wp_region_held_drew (S := (fun w' => w'.cell? ⟨b, off + j, none⟩ = some (.int .i64 (-1 - (u : Int))) ∧ w'.cell? ⟨sb, u, none⟩ = some (.slice A2 n2 c2))) (by kernel_rfl) ⟨hcx3, hc23⟩ (fun hHeld => ?_)
              refine takeH (i := 0) (v := ?_) rfl rfl (by kernel_rfl) (by kernel_rfl) (by kernel_rfl) (fun _ _ _ h => h) (by rfl) ?_ hHeld ?_
              rotate_left
              · (intro w hSw; (try dsimp only at hSw); first | (go_simp; done) | (go_simp; with_reducible rfl))
              simp only [Act.put, List.setIfInBounds_toArray, List.set_cons_zero, List.set_cons_succ]
              refine takeH (i := 1) (v := ?_) rfl rfl (by kernel_rfl) (by kernel_rfl) (by kernel_rfl) (fun _ _ _ h => h) (by rfl) ?_ hHeld ?_
              rotate_left
              · (intro w hSw; (try dsimp only at hSw); first | (go_simp; done) | (go_simp; with_reducible rfl))
              simp only [Act.put, List.setIfInBounds_toArray, List.set_cons_zero, List.set_cons_succ]
              refine takeH (i := 2) (v := ?_) rfl rfl (by kernel_rfl) (by kernel_rfl) (by kernel_rfl) (fun _ _ _ h => h) (by rfl) ?_ hHeld ?_
              rotate_left
              · (intro w hSw; (try dsimp only at hSw); first | (go_simp; done) | (go_simp; with_reducible rfl))
              simp only [Act.put, List.setIfInBounds_toArray, List.set_cons_zero, List.set_cons_succ]
              refine takeH (i := 3) (v := ?_) rfl rfl (by kernel_rfl) (by kernel_rfl) (by kernel_rfl) (fun _ _ _ h => h) (by rfl) ?_ hHeld ?_
              rotate_left
              · (intro w hSw; (try dsimp only at hSw); first | (go_simp; done) | (go_simp; with_reducible rfl))
              simp only [Act.put, List.setIfInBounds_toArray, List.set_cons_zero, List.set_cons_succ]
              refine takeH (i := 4) (v := ?_) rfl rfl (by kernel_rfl) (by kernel_rfl) (by kernel_rfl) (fun _ _ _ h => h) (by rfl) ?_ hHeld ?_
              rotate_left
              · (intro w hSw; (try dsimp only at hSw); first | (go_simp; done) | (go_simp; with_reducible rfl))
              simp only [Act.put, List.setIfInBounds_toArray, List.set_cons_zero, List.set_cons_succ]
              refine takeH (i := 5) (v := ?_) rfl rfl (by kernel_rfl) (by kernel_rfl) (by kernel_rfl) (fun _ _ _ h => h) (by rfl) ?_ hHeld ?_
              rotate_left
              · (intro w hSw; (try dsimp only at hSw); first | (go_simp; done) | (go_simp; with_reducible rfl))
              simp only [Act.put, List.setIfInBounds_toArray, List.set_cons_zero, List.set_cons_succ]
              refine takeH (i := 6) (v := ?_) rfl rfl (by kernel_rfl) (by kernel_rfl) (by kernel_rfl) (fun _ _ _ h => h) (by rfl) ?_ hHeld ?_
              rotate_left
              · (intro w hSw; (try dsimp only at hSw); first | (go_simp; done) | (go_simp; with_reducible rfl))
              simp only [Act.put, List.setIfInBounds_toArray, List.set_cons_zero, List.set_cons_succ]
              refine takeH (i := 7) (v := ?_) rfl rfl (by kernel_rfl) (by kernel_rfl) (by kernel_rfl) (fun _ _ _ h => h) (by rfl) ?_ hHeld ?_
              rotate_left
              · (intro w hSw; (try dsimp only at hSw); first | (go_simp; done) | (go_simp; with_reducible rfl))
              simp only [Act.put, List.setIfInBounds_toArray, List.set_cons_zero, List.set_cons_succ]
              refine takeH (i := 8) (v := ?_) rfl rfl (by kernel_rfl) (by kernel_rfl) (by kernel_rfl) (fun _ _ _ h => h) (by rfl) ?_ hHeld ?_
              rotate_left
              · (intro w hSw; (try dsimp only at hSw); first | (go_simp; done) | (go_simp; with_reducible rfl))
              simp only [Act.put, List.setIfInBounds_toArray, List.set_cons_zero, List.set_cons_succ]
              refine takeH (i := 9) (v := ?_) rfl rfl (by kernel_rfl) (by kernel_rfl) (by kernel_rfl) (fun _ _ _ h => h) (by rfl) ?_ hHeld ?_
              rotate_left
              · (intro w hSw; (try dsimp only at hSw); first | (go_simp; done) | (go_simp; with_reducible rfl))
              simp only [Act.put, List.setIfInBounds_toArray, List.set_cons_zero, List.set_cons_succ]
              refine takeH (i := 10) (v := ?_) rfl rfl (by kernel_rfl) (by kernel_rfl) (by kernel_rfl) (fun _ _ _ h => h) (by rfl) ?_ hHeld ?_
              rotate_left
              · (intro w hSw; (try dsimp only at hSw); first | (go_simp; done) | (go_simp; with_reducible rfl))
              simp only [Act.put, List.setIfInBounds_toArray, List.set_cons_zero, List.set_cons_succ]
              refine takeH (i := 11) (v := ?_) rfl rfl (by kernel_rfl) (by kernel_rfl) (by kernel_rfl) (fun _ _ _ h => h) (by rfl) ?_ hHeld ?_
              rotate_left
              · (intro w hSw; (try dsimp only at hSw); first | (go_simp; done) | (go_simp; with_reducible rfl))
              simp only [Act.put, List.setIfInBounds_toArray, List.set_cons_zero, List.set_cons_succ]
              refine wpAnyH_ready (rs := [12]) (by kernel_rfl) (by simp) ?_
              refine AllReadyH.cons rfl (fun K hK => ?_) AllReadyH.nil
              go_simp
              refine (HIH.out (rk u) HRU.out A2 n2 c2 1 (T u) _ zs w3.drew HR2.out (HS.out.one u hu1 HTN.out) (HS.out.down u hu1 HTN.out) HB3.out.drew (HO3.out.on (Below.refl _ _).drew) (by have := HZ48.out; omega)).mono ?_
              rintro e w4 ⟨v4, zs4, rfl, hv4, hf4, hb4⟩
              have HO4 := Lib.hid hv4
              have HF4 := Lib.hid hf4
              have hb4' : Below w0.heap.size w3 w4 := (Below.refl _ _).drew.trans hb4
              have HB4 := Lib.hid (HBW3.out.trans hb4')
              have e1 := (hb4'.cell (p := ⟨b, off + j, none⟩) hbl).trans hcx3
              have e2 := (hb4'.cell (p := ⟨sb, u, none⟩) hsb).trans hc23
              clear hv4 hf4 hb4 hb4'
              go_wp2_with fail
              refine hK.out _ _ ?_ (fun hHeld => ?_)
              · exact ⟨e1, e2⟩
              clear hK K
              refine takeH (i := 13) (v := ?_) rfl rfl (by kernel_rfl) (by kernel_rfl) (by kernel_rfl) (fun _ _ _ h => h) (by rfl) ?_ hHeld ?_
              rotate_left
              · (intro w hSw; (try dsimp only at hSw); first | (go_simp; done) | (go_simp; with_reducible rfl))
              simp only [Act.put, List.setIfInBounds_toArray, List.set_cons_zero, List.set_cons_succ]
              refine wpAnyH_done (by kernel_rfl) ?_ _
              go_wp2
              go_roundw
              case rel =>
                refine ⟨j + 1, zs4, by go_num, by omega, HO4.out, ?_, HB4.out⟩
                rw [HTK.out, HSU.out]
                exact fits_more HFIT.out HZ48.out HF4.out
              case measure => simp [intOf]; omega
          · have HSX : Hid (ap1 σ x = [x]) := ap1_sym (by omega)
            go_wp2_with fail
            have gdx : decide (x < 0) = false := decide_eq_false (by omega)
            refine wp_region_held_drew (S := (fun w' => w'.cell? ⟨b, off + j, none⟩ = some (.int .i64 x))) (by kernel_rfl) hcx (fun hHeld => ?_)
            refine takeH (i := 0) (v := ?_) rfl rfl (by kernel_rfl) (by kernel_rfl) (by kernel_rfl) (fun _ _ _ h => h) (by rfl) ?_ hHeld ?_
            rotate_left
            · (intro w hSw; (try dsimp only at hSw); first | (go_simp; done) | (go_simp; with_reducible rfl))
            simp only [Act.put, List.setIfInBounds_toArray, List.set_cons_zero, List.set_cons_succ]
            refine takeH (i := 1) (v := ?_) rfl rfl (by kernel_rfl) (by kernel_rfl) (by kernel_rfl) (fun _ _ _ h => h) (by rfl) ?_ hHeld ?_
            rotate_left
            · (intro w hSw; (try dsimp only at hSw); first | (go_simp; done) | (go_simp; with_reducible rfl))
            simp only [Act.put, List.setIfInBounds_toArray, List.set_cons_zero, List.set_cons_succ]
            refine takeH (i := 2) (v := ?_) rfl rfl (by kernel_rfl) (by kernel_rfl) (by kernel_rfl) (fun _ _ _ h => h) (by rfl) ?_ hHeld ?_
            rotate_left
            · (intro w hSw; (try dsimp only at hSw); first | (go_simp; done) | (go_simp; with_reducible rfl))
            simp only [Act.put, List.setIfInBounds_toArray, List.set_cons_zero, List.set_cons_succ]
            refine takeH (i := 3) (v := ?_) rfl rfl (by kernel_rfl) (by kernel_rfl) (by kernel_rfl) (fun _ _ _ h => h) (by rfl) ?_ hHeld ?_
            rotate_left
            · (intro w hSw; (try dsimp only at hSw); first | (go_simp; done) | (go_simp; with_reducible rfl))
            simp only [Act.put, List.setIfInBounds_toArray, List.set_cons_zero, List.set_cons_succ]
            refine takeH (i := 4) (v := ?_) rfl rfl (by kernel_rfl) (by kernel_rfl) (by kernel_rfl) (fun _ _ _ h => h) (by rfl) ?_ hHeld ?_
            rotate_left
            · (intro w hSw; (try dsimp only at hSw); first | (go_simp; done) | (go_simp; with_reducible rfl))
            simp only [Act.put, List.setIfInBounds_toArray, List.set_cons_zero, List.set_cons_succ]
            refine takeH (i := 5) (v := ?_) rfl rfl (by kernel_rfl) (by kernel_rfl) (by kernel_rfl) (fun _ _ _ h => h) (by rfl) ?_ hHeld ?_
            rotate_left
            · (intro w hSw; (try dsimp only at hSw); first | (go_simp; done) | (go_simp; with_reducible rfl))
            simp only [Act.put, List.setIfInBounds_toArray, List.set_cons_zero, List.set_cons_succ]
            refine passH (i := 6) rfl rfl (by kernel_rfl) (by kernel_rfl) (by kernel_rfl) (fun _ _ _ h => h) (by rfl) hHeld ?_
            simp only [Act.put, List.setIfInBounds_toArray, List.set_cons_zero, List.set_cons_succ]
            refine passH (i := 7) rfl rfl (by kernel_rfl) (by kernel_rfl) (by kernel_rfl) (fun _ _ _ h => h) (by rfl) hHeld ?_
            simp only [Act.put, List.setIfInBounds_toArray, List.set_cons_zero, List.set_cons_succ]
            refine passH (i := 8) rfl rfl (by kernel_rfl) (by kernel_rfl) (by kernel_rfl) (fun _ _ _ h => h) (by rfl) hHeld ?_
            simp only [Act.put, List.setIfInBounds_toArray, List.set_cons_zero, List.set_cons_succ]
            refine passH (i := 9) rfl rfl (by kernel_rfl) (by kernel_rfl) (by kernel_rfl) (fun _ _ _ h => h) (by rfl) hHeld ?_
            simp only [Act.put, List.setIfInBounds_toArray, List.set_cons_zero, List.set_cons_succ]
            refine passH (i := 10) rfl rfl (by kernel_rfl) (by kernel_rfl) (by kernel_rfl) (fun _ _ _ h => h) (by rfl) hHeld ?_
            simp only [Act.put, List.setIfInBounds_toArray, List.set_cons_zero, List.set_cons_succ]
            refine passH (i := 11) rfl rfl (by kernel_rfl) (by kernel_rfl) (by kernel_rfl) (fun _ _ _ h => h) (by rfl) hHeld ?_
            simp only [Act.put, List.setIfInBounds_toArray, List.set_cons_zero, List.set_cons_succ]
            refine passH (i := 12) rfl rfl (by kernel_rfl) (by kernel_rfl) (by kernel_rfl) (fun _ _ _ h => h) (by rfl) hHeld ?_
            simp only [Act.put, List.setIfInBounds_toArray, List.set_cons_zero, List.set_cons_succ]
            refine passH (i := 13) rfl rfl (by kernel_rfl) (by kernel_rfl) (by kernel_rfl) (fun _ _ _ h => h) (by rfl) hHeld ?_
            simp only [Act.put, List.setIfInBounds_toArray, List.set_cons_zero, List.set_cons_succ]
            refine passH (i := 14) rfl rfl (by kernel_rfl) (by kernel_rfl) (by kernel_rfl) (fun _ _ _ h => h) (by rfl) hHeld ?_
            simp only [Act.put, List.setIfInBounds_toArray, List.set_cons_zero, List.set_cons_succ]
            refine passH (i := 15) rfl rfl (by kernel_rfl) (by kernel_rfl) (by kernel_rfl) (fun _ _ _ h => h) (by rfl) hHeld ?_
            simp only [Act.put, List.setIfInBounds_toArray, List.set_cons_zero, List.set_cons_succ]
            refine passH (i := 16) rfl rfl (by kernel_rfl) (by kernel_rfl) (by kernel_rfl) (fun _ _ _ h => h) (by rfl) hHeld ?_
            simp only [Act.put, List.setIfInBounds_toArray, List.set_cons_zero, List.set_cons_succ]
            refine passH (i := 17) rfl rfl (by kernel_rfl) (by kernel_rfl) (by kernel_rfl) (fun _ _ _ h => h) (by rfl) hHeld ?_
            simp only [Act.put, List.setIfInBounds_toArray, List.set_cons_zero, List.set_cons_succ]
            refine takeH (i := 18) (v := ?_) rfl rfl (by kernel_rfl) (by kernel_rfl) (by kernel_rfl) (fun _ _ _ h => h) (by rfl) ?_ hHeld ?_
            rotate_left
            · (intro w hSw; (try dsimp only at hSw); first | (go_simp; done) | (go_simp; with_reducible rfl))
            simp only [Act.put, List.setIfInBounds_toArray, List.set_cons_zero, List.set_cons_succ]
            refine wpAnyH_done (by kernel_rfl) ?_ _
            have hcx3 : wr.drew.cell? ⟨b, off + j, none⟩ = some (.int .i64 x) := hcx
            have HO3 := Lib.hid (HO.out.on (w' := wr.drew) (Below.refl _ _).drew)
            have HB3 : Hid (Below w0.heap.size w wr.drew) := HBW.out.drew
            obtain ⟨w3, hw3⟩ : ∃ w3, w3 = wr.drew := ⟨_, rfl⟩
            have hsz3 : w0.heap.size ≤ w3.heap.size := by rw [hw3]; exact hszr
            rw [← hw3] at hcx3 HO3 HB3 ⊢
            clear hw3 hcx gdx
            go_wp2_with (at_builtin
                         refine app_int1 rfl (.tmp 51) (.tmp 56) rfl w0.heap.size _ _ x rfl HO3.out rfl HLAP.out hsz3 ?_
                         intro v2 w2 hown2 hb2
                         have HO2 := Lib.hid hown2
                         have HB2 := Lib.hid (HB3.out.trans hb2)
                         clear hown2 hb2)
            go_roundw
            case rel =>
              refine ⟨j + 1, _, by go_num, by omega, HO2.out, ?_, HB2.out⟩
              rw [HTK.out, HSX.out]
              refine fits_more HFIT.out HZ48.out ⟨fun _ => rfl, fun h => h, ?_⟩
              rw [List.length_append]; have := HZ48.out; simp; omega
            case measure => simp [intOf]; omega
        · have hz' : ¬ (L : Int) ≤ 48 := by omega
          have i0 : (0 : Int) ≤ (j : Int) := by omega
          have i1 : (j : Int) < (n : Int) := by omega
          have HEND : Hid (fits xs (ap σ t) zs) := by
            have e : ap σ t = ap σ (t.take j) ++ ap σ (t.drop j) := by rw [← ap_append, List.take_append_drop]
            show fits _ _ _
            rw [e]
            exact fits_full HFIT.out (by rw [← HLZ.out]; omega)
          clear hz
          go_wp2
          go_ret
          exact ⟨_, zs, rfl, HO.out, HEND.out, HBW.out⟩
      · obtain rfl : j = n := by omega
        have HEND : Hid (fits xs (ap σ t) zs) := by
          have := HFIT.out
          rw [List.take_of_length_le (by rw [HL.out]; omega)] at this
          exact this
        go_wp2
        go_ret
        exact ⟨_, zs, rfl, HO.out, HEND.out, HBW.out⟩

/-- What pair, all tell. -/
def PairPost (V : Nat) (ss : List Sym) (T : Nat → List Int) (base sb : Nat) (a b : List Int) (w : World) (e : Ending) (w' : World) : Prop :=
  ((e = .returned (.bool true) ∧ ∃ T', StoreAt w' base sb T' ∧ PairOk V ss T a b T') ∨ (e = .returned (.bool false) ∧ PairNo V ss T a b)) ∧ w.grownBy w' (some sb)

set_option maxHeartbeats 600000 in
/-- pair1 of two variables: the greater one becomes the lesser one. -/
theorem refPair1_both (V : Nat) (ss : List Sym) (T σ : Nat → List Int) (rk : Nat → Nat) (A1 A2 : Option Addr) (n1 c1 n2 c2 base sb v u : Nat) (w : World) (hst : StoreAt w base sb T) (hs : Sto V ss T σ rk) (hV : V ≤ 48) (hv : v < V) (hu : u < V) (h1 : RowAt w base A1 n1 c1 [-1 - (v : Int)]) (h2 : RowAt w base A2 n2 c2 [-1 - (u : Int)]) (hvu : v < u) (hfv : T v = []) (hfu : T u = []) :
    Calls Try.prog 68 #[.pointer (some ⟨sb, 0, none⟩), .slice A1 n1 c1, .slice A2 n2 c2, .bool true] w (PairPost V ss T base sb [-1 - (u : Int)] [-1 - (v : Int)] w) := by
  have HST := Lib.hid hst
  have HR1 := Lib.hid h1
  have HOK : Hid (PairOk V ss T [-1 - (u : Int)] [-1 - (v : Int)] (bindV T u [-1 - (v : Int)])) := PairOk.bind hs hu hfu (trm_var hv) (by rw [ap_var, hs.free v hv hfv]; simp; omega) (fun x e => by injection e with e; omega)
  obtain ⟨hn1, b1, o1, hA1, hb1, hc1⟩ := h1.var
  obtain ⟨hn2, b2, o2, hA2, hb2, hc2⟩ := h2.var
  subst hn1; subst hn2; subst hA1; subst hA2
  obtain ⟨A3, n3, c3, hc3, _⟩ := hst.cell (v := u) (by omega)
  have hfz := hst.frozen u
  obtain ⟨hput, hgr⟩ := hst.put (v := u) (by omega) h1
  have HPUT := Lib.hid hput
  have HGR := Lib.hid hgr
  have hxv : -1 - (-1 - (v : Int)) = (v : Int) := by omega
  have hxu : -1 - (-1 - (u : Int)) = (u : Int) := by omega
  have u0 : (0 : Int) ≤ (u : Int) := by omega
  have u1 : (u : Int) < 48 := by omega
  have hwu : IntKind.i64.wrap (u : Int) = (u : Int) := IntWalk.i64_in _ ⟨by omega, by omega⟩
  clear hst hs h1 h2 hput hgr
  go_enter Try.func68, Try.ntmps68
  go_wp2_with fail
  go_region
  go_wp2
  go_ret
  exact ⟨.inl ⟨rfl, _, HPUT.out.on (Below.refl _ _).drew, HOK.out⟩, grown_trans HGR.out (grown_of_below (Below.refl _ _).drew)⟩

set_option maxHeartbeats 600000 in
/-- pair1 of a variable and a term. -/
theorem refPair1_one (V : Nat) (ss : List Sym) (T σ : Nat → List Int) (rk : Nat → Nat) (A1 A2 : Option Addr) (n1 c1 n2 c2 base sb v : Nat) (x : Int) (s : List Int) (w : World) (hst : StoreAt w base sb T) (hs : Sto V ss T σ rk) (hV : V ≤ 48) (hv : v < V) (h1 : RowAt w base A1 n1 c1 [-1 - (v : Int)]) (h2 : RowAt w base A2 n2 c2 (x :: s)) (hx : 0 ≤ x) (ht : trm V ss (x :: s) 1) (hfv : T v = []) :
    Calls Try.prog 68 #[.pointer (some ⟨sb, 0, none⟩), .slice A1 n1 c1, .slice A2 n2 c2, .bool false] w (PairPost V ss T base sb [-1 - (v : Int)] (x :: s) w) := by
  have HST := Lib.hid hst
  have HS := Lib.hid hs
  have HR2 := Lib.hid h2
  have HT := Lib.hid ht
  have HFV := Lib.hid hfv
  have HOK : Hid (-1 - (v : Int) ∉ ap σ (x :: s) → PairOk V ss T [-1 - (v : Int)] (x :: s) (bindV T v (x :: s))) := fun h => PairOk.bind hs hv hfv ht h (fun u e => by injection e with e; omega)
  have HNO : Hid (-1 - (v : Int) ∈ ap σ (x :: s) → PairNo V ss T [-1 - (v : Int)] (x :: s)) := fun h => PairNo.occurs hs ht hx h
  have HRK : Hid (∀ y ∈ (x :: s), y < 0 → rk (-1 - y).toNat < sumN rk (List.range V) + 1) := fun y hy h0 => by
    have := sumN_ge (F := rk) (xs := List.range V) (List.mem_range.2 (vnum ht hy h0).1)
    omega
  obtain ⟨hn1, b1, o1, hA1, hb1, hc1⟩ := h1.var
  subst hn1; subst hA1
  obtain ⟨A3, n3, c3, hc3, _⟩ := hst.cell (v := v) (by omega)
  have hfz := hst.frozen v
  obtain ⟨hput, hgr⟩ := hst.put (v := v) (by omega) h2
  have HPUT := Lib.hid hput
  have HGR := Lib.hid hgr
  have hxv : -1 - (-1 - (v : Int)) = (v : Int) := by omega
  have u0 : (0 : Int) ≤ (v : Int) := by omega
  have u1 : (v : Int) < 48 := by omega
  clear hst hs h1 h2 hput hgr ht hfv
  go_enter Try.func68, Try.ntmps68
  go_wp2_with fail
  refine (refInside_any V ss T σ rk base sb v w HST.out HS.out hV hv HFV.out _ A2 n2 c2 1 (x :: s) HR2.out HT.out HRK.out).mono ?_
  rintro e w1 ⟨⟨bb, rfl, hbb⟩, rfl⟩
  have HBB := Lib.hid hbb
  clear hbb
  cases bb
  · have HO := Lib.hid (HOK.out (fun h => by have := HBB.out.2 h; cases this))
    go_wp2
    go_ret
    exact ⟨.inl ⟨rfl, _, HPUT.out, HO.out⟩, HGR.out⟩
  · have HN := Lib.hid (HNO.out (HBB.out.1 rfl))
    go_wp2
    go_ret
    exact ⟨.inr ⟨rfl, HN.out⟩, grown_refl⟩
end Go.Proofs.Ytlpafnaokpjoiaa
