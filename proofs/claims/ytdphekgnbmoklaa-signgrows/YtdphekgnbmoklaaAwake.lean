/-
  Contracts: Num, base, awake.
-/
import Derived.Test.YtdphekgnbmoklaaFindAdd
namespace Go.Proofs.Ytdphekgnbmoklaa
open Go.RowKit
set_option linter.unusedSimpArgs false
set_option linter.unusedVariables false

theorem num_any (n : Int) (w : World) : Calls Try.prog 12 #[.int .i64 n] w fun e w' => e = .returned (.int .i64 n) ∧ w = w' := by
  go_enter Try.func12, Try.ntmps12
  go_wp2
  go_ret
  exact ⟨rfl, rfl⟩

def eqS : Sym := ⟨⟨#[61]⟩, 0, 2, 1⟩
def fS : Sym := ⟨⟨#[102]⟩, 1, 1, 2⟩

theorem base_any (w : World) : Calls Try.prog 18 #[] w fun e w' =>
    e = .returned (.slice (some ⟨w.heap.size, 0, none⟩) 1 1) ∧ w'.ownsRow w.heap.size 33 4 (.slice (some ⟨w.heap.size, 0, none⟩) 1 1) 1 (cellsOf [eqS]) ∧ Below w.heap.size w w' := by
  go_enter Try.func18, Try.ntmps18
  go_wp2
  go_ret
  refine ⟨rfl, ?_, below_new w _⟩
  exact World.ownsRow_lit w #[.string ⟨#[61]⟩, .int .i64 0, .int .i64 2, .int .i64 1] 1 (Nat.le_refl _) (by unfold maxLen; omega) rfl

theorem may_eq : mayB [eqS] = true := by decide +kernel
theorem sym_f : symB fS = true := by decide +kernel
theorem code_f : code [eqS] fS.name < 0 := by decide +kernel
theorem may_ef : mayB [eqS, fS] = true := by decide +kernel
theorem may_f : mayB [fS] = false := by decide +kernel
theorem find_f : findK [eqS, fS] ⟨#[102]⟩ = 1 := by decide +kernel
theorem find_g : findK [eqS, fS] ⟨#[103]⟩ = -1 := by decide +kernel
theorem find_e : findE [eqS, fS] = 0 := by decide +kernel

theorem sym_f0 : symB ⟨⟨#[102]⟩, 0, 0, 1⟩ = true := by decide +kernel
theorem code_f0 : 0 ≤ code [eqS, fS] ⟨#[102]⟩ := by decide +kernel
theorem find_nil : findK [] ⟨#[102]⟩ = 0 := by decide +kernel
theorem find_nilE : findE [] = 100 := by decide +kernel
theorem fit_ef : ∀ i, i < 2 → (symAt [eqS, fS] i).name.size ≤ maxLen := by
  intro i hi
  match i, hi with
  | 0, _ => show (1 : Nat) ≤ maxLen; unfold maxLen; omega
  | 1, _ => show (1 : Nat) ≤ maxLen; unfold maxLen; omega
theorem fit_e : ∀ i, i < 1 → (symAt [eqS] i).name.size ≤ maxLen := fun i hi => by
  have := fit_ef 0 (by omega)
  obtain rfl : i = 0 := by omega
  exact this
theorem len1 : (1 : Nat) ≤ maxLen := by unfold maxLen; omega
theorem len2 : (2 : Nat) ≤ maxLen := by unfold maxLen; omega

set_option maxHeartbeats 2000000 in
theorem awake_any (w : World) : Calls Try.prog 13 #[] w fun e w' => e = .returned (.bool true) ∧ Below w.heap.size w w' := by
  go_enter Try.func13, Try.ntmps13
  go_wp2_with fail
  refine (base_any _).mono ?_
  rintro e w1 ⟨rfl, hown1, hb1⟩
  have hs1 := SymsAt.of_own hown1 fit_e
  go_wp2_with fail
  refine (add_ok _ 1 1 [eqS] ⟨#[102]⟩ 1 1 2 _ hs1 len1 (Nat.le_refl _) len1 may_eq sym_f code_f (by omega)).mono ?_
  rintro e w2 ⟨g2, cap2, rfl, hown2, hb2⟩
  have hs2 := SymsAt.of_own hown2 fit_ef
  have hcap : 2 ≤ cap2 := by
    rcases hown2.2 with ⟨h, _⟩ | ⟨_, _, _, hv, _, _, hc, _⟩
    · cases h
    · injection hv with _ _ h3; omega
  go_wp2_with fail
  refine (num_any _ _).mono ?_
  rintro e w2 ⟨rfl, rfl⟩
  go_wp2_with fail
  refine (find_any _ 2 cap2 [eqS, fS] ⟨#[102]⟩ _ hs2 len2 hcap).mono ?_
  rintro e w3 ⟨rfl, hb3⟩
  rw [find_f, find_e]
  have hs3 := hs2.on hb3
  go_wp2_with fail
  refine (find_any _ 2 cap2 [eqS, fS] ⟨#[103]⟩ _ hs3 len2 hcap).mono ?_
  rintro e w4 ⟨rfl, hb4⟩
  rw [find_g, find_e]
  have hs4 := hs3.on hb4
  go_wp2_with fail
  refine (add_twice _ 2 cap2 [eqS, fS] ⟨#[102]⟩ 0 0 1 _ hs4 len2 hcap len1 may_ef sym_f0 code_f0).mono ?_
  rintro e w5 ⟨rfl, hb5⟩
  have hs5 := hs4.on hb5
  go_wp2_with fail
  refine (find_any _ 0 0 [] ⟨#[102]⟩ _ SymsAt.nil_ (by unfold maxLen; omega) (Nat.le_refl _)).mono ?_
  rintro e w6 ⟨rfl, hb6⟩
  rw [find_nil, find_nilE]
  have hs6 := hs5.on hb6
  obtain ⟨_, _, e0, _, hc⟩ := hs6.at_ (by omega)
  injection e0 with e0
  injection e0 with e1 e2
  subst e1; subst e2
  obtain ⟨_, _, c2, _⟩ := hc 1 (by omega)
  simp at c2
  clear hc
  have c2' : w6.cell? ⟨g2, 6, none⟩ = some (.int .i64 1) := c2
  clear c2
  go_wp2_with (go_at_call 12; refine (num_any _ _).mono ?_; rintro e w' ⟨rfl, rfl⟩)
  refine (may_any _ 2 cap2 [eqS, fS] _ hs6 len2 hcap).mono ?_
  rintro e w7 ⟨rfl, hb7⟩
  rw [may_ef]
  have hs7 := (hs6.on hb7).drop (k := 1) (by omega)
  have hc1 : ¬ cap2 = 1 := by omega
  go_wp2_with fail
  refine (may_any _ 1 (cap2 - 1) [fS] _ hs7 len1 (by omega)).mono ?_
  rintro e w8 ⟨rfl, hb8⟩
  rw [may_f]
  go_wp2
  go_ret
  have hb12 := hb1.trans (hb2.mono hb1.size)
  have hb13 := hb12.trans (hb3.mono hb12.size)
  have hb14 := hb13.trans (hb4.mono hb13.size)
  have hb15 := hb14.trans (hb5.mono hb14.size)
  have hb16 := hb15.trans (hb6.mono hb15.size)
  have hb17 := hb16.trans (hb7.mono hb16.size)
  exact ⟨rfl, hb17.trans (hb8.mono hb17.size)⟩

end Go.Proofs.Ytdphekgnbmoklaa
