/-
  Contracts: sign.May and the reference's SignMay.
-/
import Derived.Test.YtlmpapdpmmkjnaaCodeOf
import Derived.Deep.RegionHeld3
import Derived.Deep.QuietTactic
import Derived.BigQuiet
namespace Go.Proofs.Ytlmpapdpmmkjnaa
open Go.RowKit
set_option linter.unusedSimpArgs false
set_option linter.unusedVariables false

theorem eqB_true {s : Sym} (h : eqB s = true) : s.name.toList = [61] ∧ s.kind = 0 ∧ s.arity = 2 ∧ s.weight = 1 := by
  unfold eqB at h; simp at h; exact ⟨h.1.1.1, h.1.1.2, h.1.2, h.2⟩
theorem eqB_contra {s : Sym} (h1 : s.name.toList = [61]) (h2 : s.kind = 0) (h3 : s.arity = 2) (h4 : s.weight = 1) (h : eqB s = false) : False := by
  unfold eqB at h; simp [h1, h2, h3, h4] at h

set_option maxHeartbeats 1000000 in
theorem signMay_any (A : Option Addr) (n c : Nat) (ss : List Sym) (w : World) (h : SymsAt w w.heap.size A n ss) (hn : n ≤ maxLen) :
    Calls Try.prog 25 #[.slice A n c] w fun e w' => e = .returned (.bool (mayB ss)) ∧ Below w.heap.size w w' := by
  have HL := Lib.hid h.len
  have hn' := hn
  unfold maxLen at hn
  by_cases h1 : 1 ≤ n
  · by_cases h20 : n ≤ 20
    · obtain ⟨b, off, rfl, hb, hc⟩ := h.at_ (by omega)
      obtain ⟨c0, c1, c2, c3⟩ := hc 0 (by omega)
      simp only [Nat.zero_mul, Nat.add_zero] at c0 c1 c2 c3
      have HC := Lib.hid hc
      clear hc
      cases he : eqB (symAt ss 0)
      · have HE := Lib.hid he
        have H := Lib.hid (mayB_false (ss := ss) fun hh => by rw [hh.2.2.1] at he; cases he)
        clear he
        go_enter Try.func25, Try.ntmps25
        go_wp2_with fail
        all_goals first
          | (exfalso; exact eqB_contra ‹_› ‹_› ‹_› ‹_› HE.out)
          | (go_ret; exact ⟨ret_bool H.out.symm, Below.refl _ _⟩)
      · have HE := Lib.hid he
        obtain ⟨e1, e2, e3, e4⟩ := eqB_true he
        clear he
        rw [e2] at c1
        rw [e3] at c2
        rw [e4] at c3
        go_enter Try.func25, Try.ntmps25
        go_wp2_with fail
        clear e1 e2 e3 e4 c0 c1 c2 c3
        go_loopw [3] (fun i wr => ∃ k : Nat, 1 ≤ k ∧ k ≤ n ∧ i = .int .i64 k ∧ goodTo ss k ∧ Below w.heap.size w wr) (fun i _ => n - (intOf i).toNat)
        case atStart => exact ⟨1, by omega, by omega, rfl, goodTo_one ss, Below.refl _ _⟩
        case round =>
          obtain ⟨k, hk1, hk, rfl, hok, hbw⟩ := hrel
          have HOK := Lib.hid hok
          clear hok
          by_cases hlt : k < n
          · obtain ⟨c0, c1, c2, c3⟩ := HC.out k hlt
            rw [← hbw.cell (p := ⟨b, _, none⟩) hb] at c0 c1 c2 c3
            have hfit := h.fit k hlt
            have hsz := hbw.size
            cases hv : symB (symAt ss k)
            · have H := Lib.hid (mayB_false (ss := ss) fun hh => by have := (hh.2.2.2 k (by rw [HL.out]; exact hlt) hk1).1; rw [hv] at this; cases this)
              have hv' : symB ⟨(symAt ss k).name, (symAt ss k).kind, (symAt ss k).arity, (symAt ss k).weight⟩ = false := hv
              go_wp2_with fail
              refine (symMay_any _ _ _ _ _ hfit).mono ?_
              rintro e w1 ⟨rfl, hb1⟩
              rw [hv']
              go_wp2
              go_ret
              exact ⟨ret_bool H.out.symm, hbw.trans (hb1.mono hsz)⟩
            · have HV := Lib.hid hv
              have hv' : symB ⟨(symAt ss k).name, (symAt ss k).kind, (symAt ss k).arity, (symAt ss k).weight⟩ = true := hv
              clear hv
              go_wp2_with fail
              refine (symMay_any _ _ _ _ _ hfit).mono ?_
              rintro e w1 ⟨rfl, hb1⟩
              rw [hv']
              have hbw1 : Below w.heap.size w w1 := hbw.trans (hb1.mono hsz)
              rw [← hb1.cell (p := ⟨b, _, none⟩) (by simp; omega)] at c0
              clear c1 c2 c3
              have HS := Lib.hid (code_self (ss := ss) (i := k) (by rw [HL.out]; exact hlt))
              go_wp2_with fail
              refine (refCode_any _ n c w.heap.size ss _ _ (h.below hbw1) hn').mono ?_
              rintro e w1 ⟨rfl, rfl⟩
              by_cases hq : none_ ss (symAt ss k).name k
              · have hq' : (code ss (symAt ss k).name == (k : Int)) = true := by rw [HS.out]; exact decide_eq_true hq
                have HQ := Lib.hid hq
                clear hq
                go_wp2
                go_roundw
                case rel => exact ⟨k + 1, by omega, by omega, by go_num, goodTo_step HOK.out HV.out HQ.out, hbw1⟩
                case measure => simp [intOf]; omega
              · have hq' : (code ss (symAt ss k).name == (k : Int)) = false := by rw [HS.out]; exact decide_eq_false hq
                have H := Lib.hid (mayB_false (ss := ss) fun hh => hq (hh.2.2.2 k (by rw [HL.out]; exact hlt) hk1).2)
                clear hq
                go_wp2
                go_ret
                exact ⟨ret_bool H.out.symm, hbw1⟩
          · obtain rfl : k = n := by omega
            have H := Lib.hid (mayB_true (ss := ss) ⟨by rw [HL.out]; exact h1, by rw [HL.out]; exact h20, HE.out, by rw [HL.out]; exact HOK.out⟩)
            go_wp2
            go_ret
            exact ⟨ret_bool H.out.symm, hbw⟩
    · have H := Lib.hid (mayB_false (ss := ss) fun hh => by have := hh.2.1; rw [HL.out] at this; omega)
      go_enter Try.func25, Try.ntmps25
      go_wp2
      go_ret
      exact ⟨ret_bool H.out.symm, Below.refl _ _⟩
  · have H := Lib.hid (mayB_false (ss := ss) fun hh => by have := hh.1; rw [HL.out] at this; omega)
    go_enter Try.func25, Try.ntmps25
    go_wp2
    go_ret
    exact ⟨ret_bool H.out.symm, Below.refl _ _⟩

end Go.Proofs.Ytlmpapdpmmkjnaa
