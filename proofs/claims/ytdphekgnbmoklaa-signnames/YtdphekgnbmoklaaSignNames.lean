/-
  SignNames: the walk.
-/
import Derived.Test.YtdphekgnbmoklaaAwake
namespace Go.Proofs.Ytdphekgnbmoklaa
open Go.RowKit
set_option linter.unusedSimpArgs false
set_option linter.unusedVariables false

/-- The byte at a place may stand there in a name. -/
def mayAt (s : ByteArray) (j : Nat) : Bool := letterB (byteAt s j) || (decide (0 < j) && digitB (byteAt s j))
def isTo (s : ByteArray) (k : Nat) : Bool := decide (1 ≤ s.size ∧ s.size ≤ 8 ∧ ∀ j, j < k → mayAt s j = true)
theorem isTo_succ (s : ByteArray) (k : Nat) : isTo s (k + 1) = (isTo s k && mayAt s k) := by
  unfold isTo
  rw [Bool.eq_iff_iff]
  simp only [decide_eq_true_eq, Bool.and_eq_true]
  constructor
  · rintro ⟨h1, h2, h3⟩
    exact ⟨⟨h1, h2, fun j hj => h3 j (by omega)⟩, h3 k (by omega)⟩
  · rintro ⟨⟨h1, h2, h3⟩, h4⟩
    refine ⟨h1, h2, fun j hj => ?_⟩
    by_cases e : j = k
    · subst e; exact h4
    · exact h3 j (by omega)
theorem isTo_name (s : ByteArray) : isTo s s.size = nameB s := by
  unfold isTo nameB
  rw [Bool.eq_iff_iff]
  simp only [decide_eq_true_eq]
  constructor
  · rintro ⟨h1, h2, h3⟩
    refine ⟨h1, h2, ?_, fun j _ hj => ?_⟩
    · have := h3 0 (by omega); simpa [mayAt] using this
    · have := h3 j hj
      unfold mayAt at this
      unfold okB
      rcases Bool.or_eq_true_iff.1 this with h | h
      · simp [h]
      · simp only [Bool.and_eq_true] at h; simp [h.2]
  · rintro ⟨h1, h2, h3, h4⟩
    refine ⟨h1, h2, fun j hj => ?_⟩
    unfold mayAt
    by_cases e : j = 0
    · subst e; simp [h3]
    · have := h4 j (by omega) hj
      unfold okB at this
      rcases Bool.or_eq_true_iff.1 this with h | h
      · simp [h]
      · simp [h]; omega

theorem mayAt_eq (s : ByteArray) (k : Nat) (h : k < s.size) : mayAt s k = ((decide (97 ≤ ((s[k]).toNat : Int)) && decide (((s[k]).toNat : Int) ≤ 122)) || (decide (0 < (k : Int)) && (decide (48 ≤ ((s[k]).toNat : Int)) && decide (((s[k]).toNat : Int) ≤ 57)))) := by
  unfold mayAt letterB digitB
  rw [byteAt_eq s k h]
  simp
theorem val_bool {a b : Bool} (h : a = b) : Value.bool a = Value.bool b := by rw [h]

theorem code_name {s : ByteArray} (h : nameB s = true) : code [eqS] s < 0 := by
  have hs : sameB eqS.name s = false := by
    cases hh : sameB eqS.name s with
    | false => rfl
    | true =>
      unfold sameB at hh
      have e : s.toList = [61] := by
        have h1 : eqS.name.toList = s.toList := by simpa using hh
        rw [← h1]; decide +kernel
      rw [ByteArray.toList_eq] at e
      have hl : letterB (byteAt s 0) = true := by
        unfold nameB at h; exact (of_decide_eq_true h).2.2.1
      unfold byteAt at hl
      rw [e] at hl
      exact absurd hl (by decide)
  unfold code codeFrom codeFrom
  rw [hs]; decide
theorem fit_es {s : ByteArray} (h : s.size ≤ maxLen) : ∀ i, i < 2 → (symAt [eqS, ⟨s, 1, 0, 1⟩] i).name.size ≤ maxLen := by
  intro i hi
  match i, hi with
  | 0, _ => exact len1
  | 1, _ => exact h

set_option maxHeartbeats 4000000 in
theorem signNames_walk (s : ByteArray) (w : World) (hs : s.size ≤ maxLen) :
    Calls Try.prog 6 #[.string s] w fun e w' => e = .returned (.bool true) ∧ Below w.heap.size w w' := by
  have hs' := hs
  unfold maxLen at hs
  have H0 := Lib.hid (show isTo s 0 = decide (1 ≤ s.size ∧ s.size ≤ 8) by unfold isTo; simp)
  have h3 : (1 ≤ s.size ∧ s.size ≤ 8) ∨ 8 < s.size ∨ s.size < 1 := by omega
  rcases h3 with ⟨h1, h8⟩ | h8 | h1
  all_goals
    go_enter Try.func6, Try.ntmps6
    go_wp2_with (go_at_call 13; refine (awake_any _).mono ?_; rintro e w1 ⟨rfl, hb1⟩)
    go_loop [3, 4, 5] (fun is i _ => ∃ k : Nat, k ≤ s.size ∧ i = .int .i64 k ∧ is = .bool (isTo s k)) (fun _ i _ => s.size - (intOf i).toNat)
    case atStart => exact ⟨0, by omega, rfl, val_bool (by rw [H0.out, Bool.eq_iff_iff]; simp; try omega)⟩
    case round =>
      obtain ⟨k, hk, rfl, rfl⟩ := hrel
      by_cases hlt : k < s.size
      · have HM := Lib.hid (mayAt_eq s k hlt)
        have HS := Lib.hid (isTo_succ s k)
        cases hI : isTo s k
        all_goals
          have HI := Lib.hid hI
          go_wp2
        all_goals
          go_round
          case rel => exact ⟨k + 1, by omega, by go_num, val_bool (by rw [HS.out, HI.out, HM.out, Bool.eq_iff_iff]; simp; try omega)⟩
          case measure => simp [intOf]; omega
      · obtain rfl : k = s.size := by omega
        cases hN : nameB s
        · have hI : isTo s s.size = false := by rw [isTo_name, hN]
          have hv : symB ⟨s, 1, 0, 1⟩ = false := symB_name hN
          go_wp2_with fail
          refine (base_any _).mono ?_
          rintro e w2 ⟨rfl, hown2, hb2⟩
          have hs2 := SymsAt.of_own hown2 fit_e
          go_wp2_with fail
          refine (add_sym _ 1 1 [eqS] s 1 0 1 _ hs2 len1 (Nat.le_refl _) hs' may_eq hv).mono ?_
          rintro e w3 ⟨rfl, hb3⟩
          go_wp2_with (go_at_call 12; refine (num_any _ _).mono ?_; rintro e w' ⟨rfl, rfl⟩)
          go_ret
          have hb12 := hb1.trans (hb2.mono hb1.size)
          exact ⟨rfl, hb12.trans (hb3.mono hb12.size)⟩
        · have hI : isTo s s.size = true := by rw [isTo_name, hN]
          have hv : symB ⟨s, 1, 0, 1⟩ = true := by rw [symB_split hN]; rfl
          go_wp2_with fail
          refine (base_any _).mono ?_
          rintro e w2 ⟨rfl, hown2, hb2⟩
          have hs2 := SymsAt.of_own hown2 fit_e
          go_wp2_with fail
          refine (add_ok _ 1 1 [eqS] s 1 0 1 _ hs2 len1 (Nat.le_refl _) hs' may_eq hv (code_name hN) (by omega)).mono ?_
          rintro e w3 ⟨g3, cap3, rfl, hown3, hb3⟩
          have hs3 := SymsAt.of_own (ss := [eqS, ⟨s, 1, 0, 1⟩]) hown3 (fit_es hs')
          obtain ⟨_, _, e0, _, hc⟩ := hs3.at_ (by omega)
          injection e0 with e0
          injection e0 with e1 e2
          subst e1; subst e2
          have c0 : w3.cell? ⟨g3, 4, none⟩ = some (.string s) := (hc 1 (by omega)).1
          clear hc
          go_wp2_with (go_at_call 12; refine (num_any _ _).mono ?_; rintro e w' ⟨rfl, rfl⟩)
          go_ret
          have hb12 := hb1.trans (hb2.mono hb1.size)
          exact ⟨rfl, hb12.trans (hb3.mono hb12.size)⟩

end Go.Proofs.Ytdphekgnbmoklaa
