/-
  Contracts of the reference: IsTerm, IsAtom, Which, Compare.
-/
import Derived.Test.YtcjpopjcpgipjaaDoorRefMore
namespace Go.Proofs.YtcjpopjcpgipjaaDoor
open Go.RowKit
set_option linter.unusedSimpArgs false
set_option linter.unusedVariables false
set_option maxRecDepth 100000

theorem termsK_eq {ss : List Sym} {r : List Int} (hm : mayB ss = true) {ar : Int} (har : 0 ≤ ar) : (termsK ss r == ar) = (rowB ss r && decide (((tlD ss r).length : Int) = ar)) := by
  unfold termsK rowB
  rw [hm, Bool.true_and]
  cases h : (decide (r.length ≤ 48) && rowP ss r)
  · simp; omega
  · rw [if_pos rfl, Bool.true_and]; rfl
set_option maxHeartbeats 2000000 in
theorem refIsAtom_any (A A' : Option Addr) (n c m c' : Nat) (ss : List Sym) (r : List Int) (w : World) (h : SymsAt w w.heap.size A n ss) (hn : n ≤ maxLen) (hr : IntsAt w w.heap.size A' m r) (hm : m ≤ maxLen) (hmc : m ≤ c') (hmay : mayB ss = true) :
    Calls Tryd.prog 84 #[.slice A n c, .slice A' m c'] w fun e w' => e = .returned (.bool (atomB ss r)) ∧ Below w.heap.size w w' := by
  have hm0 := hm
  have hn0 := hn
  unfold maxLen at hm hn
  cases r with
  | nil =>
    have hl := hr.len
    obtain rfl : m = 0 := by rw [← hl]; rfl
    go_enter Tryd.func84, Tryd.ntmps84
    go_wp2_with fail
    go_quiet (fail)
    go_wp2
    go_ret
    exact ⟨rfl, below_drewN _ _⟩
  | cons x r =>
    have hl := hr.len
    have hml : m = r.length + 1 := by rw [← hl]; rfl
    obtain ⟨b, off, rfl, hb, hc⟩ := hr.at_ (by omega)
    have hcx : w.cell? ⟨b, off, none⟩ = some (.int .i64 x) := by have := hc 0 (by omega); rw [Nat.add_zero] at this; exact this
    have HR := Lib.hid hr
    have HS := Lib.hid h
    have HL := Lib.hid h.len
    have HM := Lib.hid hmay
    have HMC := Lib.hid hmc
    have z1 : 1 ≤ m := by omega
    have z2 : 1 ≤ c' := by omega
    have z3 : decide ((0 : Int) < (m : Int)) = true := by simp; omega
    have z4 : (0 : Int) < (m : Int) := by omega
    have z7 : decide (0 < m) = true := by simp; omega
    have z5 : (1 : Int) ≤ (m : Int) := by omega
    have z6 : (m : Int) ≤ (c' : Int) := by omega
    clear hc hr hl hml hmay
    by_cases hx : x < 0
    · have H : Hid (atomB ss (x :: r) = false) := by show atomB ss (x :: r) = false; rw [atomB_cons, decide_eq_false (by omega)]; simp
      have g : decide (0 ≤ x) = false := by simp; omega
      go_enter Tryd.func84, Tryd.ntmps84
      go_wp2_with fail
      go_quiet (fail)
      go_wp2
      go_ret
      exact ⟨ret_b H.out.symm, below_drewN _ _⟩
    · obtain ⟨q, hq⟩ : ∃ q : Nat, x = (q : Int) := ⟨x.toNat, by omega⟩
      subst hq
      have g : decide ((0 : Int) ≤ (q : Int)) = true := by simp
      by_cases hqn : n ≤ q
      · have H : Hid (atomB ss ((q : Int) :: r) = false) := by
          show atomB ss ((q : Int) :: r) = false
          have : decide ((q : Int).toNat < ss.length) = false := decide_eq_false (by rw [HL.out, Int.toNat_natCast]; omega)
          rw [atomB_cons, this]; simp
        have y1 : decide ((q : Int) < (n : Int)) = false := by simp; omega
        have y1' : decide (q < n) = false := by simp; omega
        clear hx
        go_enter Tryd.func84, Tryd.ntmps84
        go_wp2_with fail
        go_quiet (fail)
        go_wp2
        go_ret
        exact ⟨ret_b H.out.symm, below_drewN _ _⟩
      · obtain ⟨b2, off2, rfl, hb2, hc2⟩ := h.at_ (by omega)
        obtain ⟨_, k1, k2, _⟩ := hc2 q (by omega)
        have y1 : decide ((q : Int) < (n : Int)) = true := by simp; omega
        have y1' : decide (q < n) = true := by simp; omega
        have y2 : q < n := by omega
        have y3 : (q : Int) < (n : Int) := by omega
        have y4 : (0 : Int) ≤ (q : Int) := by omega
        clear hc2 hqn hx h
        by_cases hk : (symAt ss q).kind = 0
        · have HKD := Lib.hid hk
          rw [hk] at k1
          clear hk
          have HT := Lib.hid (HR.out.tail1 HMC.out)
          obtain ⟨At, hAt⟩ : ∃ At, (if c' = 1 then some ⟨b, off, none⟩ else some ⟨b, off + 1, none⟩ : Option Addr) = At := ⟨_, rfl⟩
          rw [hAt] at HT
          obtain ⟨R, hR⟩ : ∃ R : Int, R = (symAt ss q).arity := ⟨_, rfl⟩
          obtain ⟨K, hK⟩ : ∃ K : Int, K = termsK ss r := ⟨_, rfl⟩
          have HK := Lib.hid hK.symm
          have H : Hid (atomB ss ((q : Int) :: r) = (K == R)) := by
            show atomB ss ((q : Int) :: r) = _
            rw [hK, hR, termsK_eq HM.out (may_bd HM.out (by rw [HL.out]; exact y2)).2.2.1, atomB_cons, Int.toNat_natCast, decide_eq_true HKD.out, decide_eq_true (by omega : (0 : Int) ≤ (q : Int)), decide_eq_true (by rw [HL.out]; exact y2)]
            simp
          rw [← hR] at k2
          clear hR hK
          go_enter Tryd.func84, Tryd.ntmps84
          go_wp2_with fail
          go_quiet ((go_at_call 59; exact Calls.quiet_of_same (refTerms_quiet _ At n c (m - 1) (c' - 1) _ _ ss r _ (HS.out.drewN _) hn0 (HT.out.drewN _) (by unfold maxLen; omega) HM.out HK.out)))
          go_wp2
          go_ret
          exact ⟨ret_b (by rw [H.out]), below_drewN _ _⟩
        · have H : Hid (atomB ss ((q : Int) :: r) = false) := by
            show atomB ss ((q : Int) :: r) = false
            have : decide ((symAt ss (q : Int).toNat).kind = 0) = false := decide_eq_false (by rw [Int.toNat_natCast]; exact hk)
            rw [atomB_cons, this]; simp
          have hk' : ((symAt ss q).kind == 0) = false := by simpa using hk
          go_enter Tryd.func84, Tryd.ntmps84
          go_wp2_with fail
          go_quiet (fail)
          go_wp2
          go_ret
          exact ⟨ret_b H.out.symm, below_drewN _ _⟩
/-- What Which answers, of two terms or two atoms. -/
def WhichPost (ss : List Sym) (a b : List Int) (w : World) (e : Ending) (w' : World) : Prop := ∃ k : Int, e = .returned (.int .i64 k) ∧ CmpR ss a b 0 k ∧ Below w.heap.size w w'
end Go.Proofs.YtcjpopjcpgipjaaDoor
