/-
  Contract: sign.May.
-/
import Derived.Test.YtlmpapdpmmkjnaaMay
import Derived.Test.YtlmpapdpmmkjnaaHeld
import Derived.Deep.RegionWith
import Derived.Deep.DrawnRows
namespace Go.Proofs.Ytlmpapdpmmkjnaa
open Go.RowKit
set_option linter.unusedSimpArgs false
set_option linter.unusedVariables false
attribute [local go_sem ↓] Go.wp_at_zero Go.wp_at_succ

theorem validSym_is (r : Bool) (n : ByteArray) (k a g : Int) (w : World) (hs : n.size ≤ maxLen) (hr : symB ⟨n, k, a, g⟩ = r) :
    Calls Try.prog 51 #[.agg #[.string n, .int .i64 k, .int .i64 a, .int .i64 g]] w fun e w' => e = .returned (.bool r) ∧ Below w.heap.size w w' :=
  (validSym_any n k a g w hs).mono fun _ _ ⟨he, hb⟩ => ⟨by rw [he, hr], hb⟩

set_option maxHeartbeats 1000000 in
theorem may_any (A : Option Addr) (n c : Nat) (ss : List Sym) (w : World) (h : SymsAt w w.heap.size A n ss) (hn : n ≤ maxLen) (hnc : n ≤ c) :
    Calls Try.prog 32 #[.slice A n c] w fun e w' => e = .returned (.bool (mayB ss)) ∧ Below w.heap.size w w' := by
  have HL := Lib.hid h.len
  have hn' := hn
  unfold maxLen at hn
  by_cases h1 : 1 ≤ n
  · by_cases h20 : n ≤ 20
    · obtain ⟨b, off, rfl, hb, hc⟩ := h.at_ (by omega)
      obtain ⟨c0, c1, c2, c3⟩ := hc 0 (by omega)
      simp only [Nat.zero_mul, Nat.add_zero] at c0 c1 c2 c3
      have HC := Lib.hid hc
      clear hc
      cases he : eqB (symAt ss 0)
      · have H := Lib.hid (mayB_false (ss := ss) fun hh => by rw [hh.2.2.1] at he; cases he)
        have he' : eqB ⟨(symAt ss 0).name, (symAt ss 0).kind, (symAt ss 0).arity, (symAt ss 0).weight⟩ = false := he
        clear he
        go_enter Try.func32, Try.ntmps32
        go_wp2_with fail
        refine (isEquality_any _ _ _ _ _).mono ?_
        rintro e w1 ⟨rfl, hb1⟩
        rw [he']
        go_wp2
        go_ret
        exact ⟨ret_bool H.out.symm, hb1⟩
      · have HE := Lib.hid he
        have he' : eqB ⟨(symAt ss 0).name, (symAt ss 0).kind, (symAt ss 0).arity, (symAt ss 0).weight⟩ = true := he
        clear he
        go_enter Try.func32, Try.ntmps32
        go_wp2_with fail
        refine (isEquality_any _ _ _ _ _).mono ?_
        rintro e w0 ⟨rfl, hb0⟩
        rw [he']
        clear he' c0 c1 c2 c3
        go_wp2_with fail
        go_loopw [3] (fun i wr => ∃ k : Nat, 1 ≤ k ∧ k ≤ n ∧ i = .int .i64 k ∧ goodTo ss k ∧ Below w.heap.size w wr) (fun i _ => n - (intOf i).toNat)
        case atStart => exact ⟨1, by omega, by omega, rfl, goodTo_one ss, hb0⟩
        case round =>
          obtain ⟨k, hk1, hk, rfl, hok, hbw⟩ := hrel
          have HOK := Lib.hid hok
          clear hok hb0
          by_cases hlt : k < n
          · obtain ⟨c0, c1, c2, c3⟩ := HC.out k hlt
            rw [← hbw.cell (p := ⟨b, _, none⟩) hb] at c0 c1 c2 c3
            have hfit := h.fit k hlt
            have hsz := hbw.size
            have hi0 : (0 : Int) ≤ (k : Int) := by omega
            have hi1 : (k : Int) ≤ (c : Int) := by omega
            have hi2 : (k : Int) < (n : Int) := by omega
            cases hv : symB (symAt ss k)
            · have H := Lib.hid (mayB_false (ss := ss) fun hh => by have := (hh.2.2.2 k (by rw [HL.out]; exact hlt) hk1).1; rw [hv] at this; cases this)
              have hv' : symB ⟨(symAt ss k).name, (symAt ss k).kind, (symAt ss k).arity, (symAt ss k).weight⟩ = false := hv
              go_wp2_with fail
              refine wp_region_held_drew (S := (fun w' => w'.cell? ⟨b, off + k * 4, none⟩ = some (.string (symAt ss k).name) ∧ w'.cell? ⟨b, off + k * 4 + 1, none⟩ = some (.int .i64 (symAt ss k).kind) ∧
                  w'.cell? ⟨b, off + k * 4 + 2, none⟩ = some (.int .i64 (symAt ss k).arity) ∧ w'.cell? ⟨b, off + k * 4 + 3, none⟩ = some (.int .i64 (symAt ss k).weight) ∧ Below w.heap.size w w')) (by kernel_rfl) ⟨c0, c1, c2, c3, hbw.drew⟩ (fun hHeld => ?_)
              refine takeH (i := 0) (v := ?_) rfl rfl (by kernel_rfl) (by kernel_rfl) (by kernel_rfl) (fun _ _ _ h => h) (by rfl) ?_ hHeld ?_
              rotate_left
              · (intro w hSw; (try dsimp only at hSw); first | (go_simp; done) | (go_simp; with_reducible rfl))
              simp only [Act.put, List.setIfInBounds_toArray, List.set_cons_zero, List.set_cons_succ]
              refine takeH (i := 1) (v := ?_) rfl rfl (by kernel_rfl) (by kernel_rfl) (by kernel_rfl) (fun _ _ _ h => h) (by rfl) ?_ hHeld ?_
              rotate_left
              · (intro w hSw; (try dsimp only at hSw); first | (go_simp; done) | (go_simp; with_reducible rfl))
              simp only [Act.put, List.setIfInBounds_toArray, List.set_cons_zero, List.set_cons_succ]
              refine takeH (i := 2) (v := ?_) rfl rfl (by kernel_rfl) (by kernel_rfl) (by kernel_rfl) (fun _ _ _ h => h) (by rfl) ?_ hHeld ?_
              rotate_left
              · (intro w hSw; (try dsimp only at hSw); first | (go_simp; done) | (go_simp; with_reducible rfl))
              simp only [Act.put, List.setIfInBounds_toArray, List.set_cons_zero, List.set_cons_succ]
              refine takeH (i := 3) (v := ?_) rfl rfl (by kernel_rfl) (by kernel_rfl) (by kernel_rfl) (fun _ _ _ h => h) (by rfl) ?_ hHeld ?_
              rotate_left
              · (intro w hSw; (try dsimp only at hSw); first | (go_simp; done) | (go_simp; with_reducible rfl))
              simp only [Act.put, List.setIfInBounds_toArray, List.set_cons_zero, List.set_cons_succ]
              refine wpAnyH_ready (rs := [4]) (by kernel_rfl) (by simp) ?_
              refine AllReadyH.cons rfl (fun K hK => ?_) AllReadyH.nil
              go_simp
              refine (validSym_is false _ _ _ _ _ hfit hv').mono ?_
              rintro e w1 ⟨rfl, hb1⟩
              go_wp2_with fail
              refine hK.out _ _ ?_ (fun hHeld => ?_)
              · refine ⟨?_, ?_, ?_, ?_, hbw.drew.trans (hb1.mono hsz)⟩
                · (rw [hb1.cell (p := ⟨b, _, none⟩) (by simp; omega)]; exact c0)
                · (rw [hb1.cell (p := ⟨b, _, none⟩) (by simp; omega)]; exact c1)
                · (rw [hb1.cell (p := ⟨b, _, none⟩) (by simp; omega)]; exact c2)
                · (rw [hb1.cell (p := ⟨b, _, none⟩) (by simp; omega)]; exact c3)
              clear hK K
              refine takeH (i := 5) (v := ?_) rfl rfl (by kernel_rfl) (by kernel_rfl) (by kernel_rfl) (fun _ _ _ h => h) (by rfl) ?_ hHeld ?_
              rotate_left
              · (intro w hSw; (try dsimp only at hSw); first | (go_simp; done) | (go_simp; with_reducible rfl))
              simp only [Act.put, List.setIfInBounds_toArray, List.set_cons_zero, List.set_cons_succ]
              refine takeH (i := 6) (v := ?_) rfl rfl (by kernel_rfl) (by kernel_rfl) (by kernel_rfl) (fun _ _ _ h => h) (by rfl) ?_ hHeld ?_
              rotate_left
              · (intro w hSw; (try dsimp only at hSw); first | (go_simp; done) | (go_simp; with_reducible rfl))
              simp only [Act.put, List.setIfInBounds_toArray, List.set_cons_zero, List.set_cons_succ]
              refine passH (i := 7) rfl rfl (by kernel_rfl) (by kernel_rfl) (by kernel_rfl) (fun _ _ _ h => h) (by rfl) hHeld ?_
              simp only [Act.put, List.setIfInBounds_toArray, List.set_cons_zero, List.set_cons_succ]
              refine passH (i := 8) rfl rfl (by kernel_rfl) (by kernel_rfl) (by kernel_rfl) (fun _ _ _ h => h) (by rfl) hHeld ?_
              simp only [Act.put, List.setIfInBounds_toArray, List.set_cons_zero, List.set_cons_succ]
              refine passH (i := 9) rfl rfl (by kernel_rfl) (by kernel_rfl) (by kernel_rfl) (fun _ _ _ h => h) (by rfl) hHeld ?_
              simp only [Act.put, List.setIfInBounds_toArray, List.set_cons_zero, List.set_cons_succ]
              refine passH (i := 10) rfl rfl (by kernel_rfl) (by kernel_rfl) (by kernel_rfl) (fun _ _ _ h => h) (by rfl) hHeld ?_
              simp only [Act.put, List.setIfInBounds_toArray, List.set_cons_zero, List.set_cons_succ]
              refine passH (i := 11) rfl rfl (by kernel_rfl) (by kernel_rfl) (by kernel_rfl) (fun _ _ _ h => h) (by rfl) hHeld ?_
              simp only [Act.put, List.setIfInBounds_toArray, List.set_cons_zero, List.set_cons_succ]
              refine passH (i := 12) rfl rfl (by kernel_rfl) (by kernel_rfl) (by kernel_rfl) (fun _ _ _ h => h) (by rfl) hHeld ?_
              simp only [Act.put, List.setIfInBounds_toArray, List.set_cons_zero, List.set_cons_succ]
              refine passH (i := 13) rfl rfl (by kernel_rfl) (by kernel_rfl) (by kernel_rfl) (fun _ _ _ h => h) (by rfl) hHeld ?_
              simp only [Act.put, List.setIfInBounds_toArray, List.set_cons_zero, List.set_cons_succ]
              refine passH (i := 14) rfl rfl (by kernel_rfl) (by kernel_rfl) (by kernel_rfl) (fun _ _ _ h => h) (by rfl) hHeld ?_
              simp only [Act.put, List.setIfInBounds_toArray, List.set_cons_zero, List.set_cons_succ]
              refine passH (i := 15) rfl rfl (by kernel_rfl) (by kernel_rfl) (by kernel_rfl) (fun _ _ _ h => h) (by rfl) hHeld ?_
              simp only [Act.put, List.setIfInBounds_toArray, List.set_cons_zero, List.set_cons_succ]
              refine passH (i := 16) rfl rfl (by kernel_rfl) (by kernel_rfl) (by kernel_rfl) (fun _ _ _ h => h) (by rfl) hHeld ?_
              simp only [Act.put, List.setIfInBounds_toArray, List.set_cons_zero, List.set_cons_succ]
              refine takeH (i := 17) (v := ?_) rfl rfl (by kernel_rfl) (by kernel_rfl) (by kernel_rfl) (fun _ _ _ h => h) (by rfl) ?_ hHeld ?_
              rotate_left
              · (intro w hSw; (try dsimp only at hSw); first | (go_simp; done) | (go_simp; with_reducible rfl))
              simp only [Act.put, List.setIfInBounds_toArray, List.set_cons_zero, List.set_cons_succ]
              refine wpAnyH_done (by kernel_rfl) ?_ _
              go_wp2
              go_ret
              exact ⟨ret_bool H.out.symm, hbw.drew.trans (hb1.mono hsz)⟩
            · have HV := Lib.hid hv
              have hv' : symB ⟨(symAt ss k).name, (symAt ss k).kind, (symAt ss k).arity, (symAt ss k).weight⟩ = true := hv
              clear hv
              go_wp2_with fail
              go_region_held3 (fun w' => w'.cell? ⟨b, off + k * 4, none⟩ = some (.string (symAt ss k).name) ∧ w'.cell? ⟨b, off + k * 4 + 1, none⟩ = some (.int .i64 (symAt ss k).kind) ∧
                  w'.cell? ⟨b, off + k * 4 + 2, none⟩ = some (.int .i64 (symAt ss k).arity) ∧ w'.cell? ⟨b, off + k * 4 + 3, none⟩ = some (.int .i64 (symAt ss k).weight) ∧ Below w.heap.size w w')
                (first
                  | exact ⟨c0, c1, c2, c3, hbw⟩
                  | exact ⟨c0, c1, c2, c3, hbw.drew⟩
                  | (go_split_ands
                     refine ⟨?_, ?_, ?_, ?_, ?_⟩
                     · (rw [hb1.cell (p := ⟨b, _, none⟩) (by simp; omega)]; assumption)
                     · (rw [hb1.cell (p := ⟨b, _, none⟩) (by simp; omega)]; assumption)
                     · (rw [hb1.cell (p := ⟨b, _, none⟩) (by simp; omega)]; assumption)
                     · (rw [hb1.cell (p := ⟨b, _, none⟩) (by simp; omega)]; assumption)
                     · exact hbw.drew.trans (hb1.mono hsz)))
                (first
                  | (go_at_call 51; refine (validSym_is true _ _ _ _ _ hfit hv').mono ?_; rintro e w1 ⟨rfl, hb1⟩)
                  | (go_at_call 52; refine (codeOf_any _ k c w.heap.size (ss.take k) _ _ ((h.take hk).below (hbw.drew.trans (hb1.mono hsz))) (by omega)).mono ?_; rintro e w2 ⟨rfl, rfl⟩))
              have HS := Lib.hid (code_take (ss := ss) (n := (symAt ss k).name) (i := k) (by rw [HL.out]; exact hk))
              by_cases hq : none_ ss (symAt ss k).name k
              · have hq' : code (ss.take k) (symAt ss k).name < 0 := by
                  have := HS.out; rw [decide_eq_true hq] at this; simp at this; omega
                have HQ := Lib.hid hq
                clear hq
                go_wp2
                go_roundw
                case rel => exact ⟨k + 1, by omega, by omega, by go_num, goodTo_step HOK.out HV.out HQ.out, hbw.drew.trans (hb1.mono hsz)⟩
                case measure => simp [intOf]; omega
              · have hq' : 0 ≤ code (ss.take k) (symAt ss k).name := by
                  have := HS.out; rw [decide_eq_false hq] at this; simpa using this
                have H := Lib.hid (mayB_false (ss := ss) fun hh => hq (hh.2.2.2 k (by rw [HL.out]; exact hlt) hk1).2)
                clear hq
                go_wp2
                go_ret
                exact ⟨ret_bool H.out.symm, hbw.drew.trans (hb1.mono hsz)⟩
          · obtain rfl : k = n := by omega
            have H := Lib.hid (mayB_true (ss := ss) ⟨by rw [HL.out]; exact h1, by rw [HL.out]; exact h20, HE.out, by rw [HL.out]; exact HOK.out⟩)
            go_wp2
            go_ret
            exact ⟨ret_bool H.out.symm, hbw⟩
    · have H := Lib.hid (mayB_false (ss := ss) fun hh => by have := hh.2.1; rw [HL.out] at this; omega)
      go_enter Try.func32, Try.ntmps32
      go_wp2
      go_ret
      exact ⟨ret_bool H.out.symm, Below.refl _ _⟩
  · have H := Lib.hid (mayB_false (ss := ss) fun hh => by have := hh.1; rw [HL.out] at this; omega)
    go_enter Try.func32, Try.ntmps32
    go_wp2
    go_ret
    exact ⟨ret_bool H.out.symm, Below.refl _ _⟩

end Go.Proofs.Ytlmpapdpmmkjnaa
