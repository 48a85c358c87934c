/-
  Plain words: what makes one row the other (matching).
-/
import Derived.Test.YtmdajmdjmdbonaaPlainUni
namespace Go.Proofs.Ytmdajmdjmdbonaa
open Go.RowKit
set_option linter.unusedSimpArgs false
set_option linter.unusedVariables false
set_option maxRecDepth 100000

/-- The term that begins at place j. -/
def pieceAt (ss : List Sym) (b : List Int) (j : Nat) : List Int := (b.drop j).take (endAt ss b j - j)
/-- What stands for the variables of a, so that it becomes what stands in b from place j on; none: nothing does. -/
def mt (ss : List Sym) (b : List Int) : (Nat → List Int) → Nat → List Int → Option (Nat → List Int)
  | T, j, [] => if b.length ≤ j then some T else none
  | T, j, c :: a => if b.length ≤ j then none else
      if c < 0 then (if T (-1 - c).toNat = [] ∨ T (-1 - c).toNat = pieceAt ss b j then mt ss b (bindV T (-1 - c).toNat (pieceAt ss b j)) (endAt ss b j) a else none)
      else if c = intAt b j then mt ss b T (j + 1) a else none
def noT : Nat → List Int := fun _ => []
/-- A variable that nothing stands for stays. -/
def stT (T : Nat → List Int) (v : Nat) : List Int := if T v = [] then [-1 - (v : Int)] else T v
def mtE (ss : List Sym) (a b : List Int) : Int := if rowB ss a && rowB ss b then 0 else 500
def mtO (ss : List Sym) (a b : List Int) : Option (Nat → List Int) := if rowB ss a && rowB ss b then mt ss b noT 0 a else none
def mtIs (ss : List Sym) (a b : List Int) : Bool := (mtO ss a b).isSome
def mtB (ss : List Sym) (a b : List Int) : List Bd := match mtO ss a b with
  | some T => bdsOf (stT T) 24
  | none => []
/-- What stands for variables are terms, not too long. -/
def TOk (ss : List Sym) (T : Nat → List Int) : Prop := ∀ v, T v = [] ∨ (trm 24 ss (T v) 1 ∧ (T v).length ≤ 48)
section
variable {ss : List Sym} {a b : List Int} {T T' θ : Nat → List Int} {j : Nat}
theorem TOk.no : TOk ss noT := fun _ => .inl rfl
theorem TOk.put (h : TOk ss T) {v : Nat} {t : List Int} (h1 : trm 24 ss t 1) (h2 : t.length ≤ 48) : TOk ss (bindV T v t) := by
  intro x
  by_cases e : x = v
  · subst e; rw [bindV_at]; exact .inr ⟨h1, h2⟩
  · rw [bindV_ne _ _ e]; exact h x
theorem piece_facts (hb : rowB ss b = true) (hj : j < b.length) : trm 24 ss (pieceAt ss b j) 1 ∧ b.drop j = pieceAt ss b j ++ b.drop (endAt ss b j) ∧ j < endAt ss b j ∧ endAt ss b j ≤ b.length ∧ (pieceAt ss b j).length = endAt ss b j - j := by
  obtain ⟨_, _, hr⟩ := row_parts hb
  obtain ⟨ms, hms⟩ := tl_drop_some hr j
  have hne : ms ≠ [] := fun e => by have := (tl_nil_iff hms).1 e; simp at this; omega
  have hl : 0 < ms.length := List.length_pos_iff.2 hne
  obtain ⟨t1, t2, t3⟩ := tl_at (r := b) j 0 hms (by omega) (Nat.zero_le _)
  simp only [List.take_zero, sumL, Nat.add_zero] at t3
  obtain ⟨q1, q2, _⟩ := t3 hl
  rw [Nat.zero_add] at q2
  have ht := tl_take _ hms 1 hl
  have e1 : endAt ss b j - j = sumL (ms.take 1) := by omega
  have hle := (tl_at (r := b) j 1 hms (by omega) hl).1
  have hlt : j < endAt ss b j := by unfold endAt; omega
  refine ⟨?_, ?_, hlt, by omega, ?_⟩
  · unfold pieceAt
    rw [e1]
    have := trm_of_tl ht
    rw [List.length_take, Nat.min_eq_left hl] at this
    exact this
  · unfold pieceAt
    have : b.drop (endAt ss b j) = (b.drop j).drop (endAt ss b j - j) := by rw [List.drop_drop]; congr 1; omega
    rw [this, List.take_append_drop]
  · unfold pieceAt
    simp; omega
theorem piece_ne (hb : rowB ss b = true) (hj : j < b.length) : pieceAt ss b j ≠ [] := by
  have := piece_facts hb hj
  intro e
  rw [e] at this
  simp at this
  omega
theorem piece_few (hb : rowB ss b = true) (hj : j < b.length) : (pieceAt ss b j).length ≤ 48 := by
  have := piece_facts hb hj
  have := (row_parts hb).2.1
  omega
/-- What is found makes a what it must be. -/
theorem mt_sound (hb : rowB ss b = true) (h : mt ss b T j a = some T') (hT : TOk ss T) : (∀ v, T v ≠ [] → T' v = T v) ∧ (∀ c ∈ a, c < 0 → T' (-1 - c).toNat ≠ []) ∧ ap T' a = b.drop j ∧ TOk ss T' ∧ (∀ v, T' v ≠ [] → T v ≠ [] ∨ -1 - (v : Int) ∈ a) := by
  induction a generalizing T j with
  | nil =>
    unfold mt at h
    split at h
    · injection h with h
      subst h
      exact ⟨fun _ _ => rfl, by simp, by rw [ap_nil]; symm; simp; assumption, hT, fun v hv => .inl hv⟩
    · cases h
  | cons c a ih =>
    unfold mt at h
    split at h
    · cases h
    rename_i hj
    have hj : j < b.length := by omega
    split at h
    · rename_i hc
      split at h
      · rename_i ho
        obtain ⟨p1, p2, p3, p4, p5⟩ := piece_facts hb hj
        have hne := piece_ne hb hj
        obtain ⟨i1, i2, i3, i4, i5⟩ := ih h (hT.put p1 (piece_few hb hj))
        have hv : T' (-1 - c).toNat = pieceAt ss b j := by
          rw [i1 _ (by rw [bindV_at]; exact hne), bindV_at]
        refine ⟨fun v hv' => ?_, fun x hx hx0 => ?_, ?_, i4, fun v hv' => ?_⟩
        · by_cases e : v = (-1 - c).toNat
          · subst e
            rw [hv]
            rcases ho with ho | ho
            · exact absurd ho hv'
            · exact ho.symm
          · have := i1 v (by rw [bindV_ne _ _ e]; exact hv')
            rw [this, bindV_ne _ _ e]
        · rcases List.mem_cons.1 hx with rfl | hx
          · rw [hv]; exact hne
          · exact i2 x hx hx0
        · rw [ap_cons, i3, p2]
          unfold ap1
          rw [if_pos hc, hv]
        · rcases i5 v hv' with k | k
          · by_cases e : v = (-1 - c).toNat
            · right
              have : -1 - (v : Int) = c := by omega
              rw [this]; simp
            · rw [bindV_ne _ _ e] at k; exact .inl k
          · exact .inr (by simp [k])
      · cases h
    · rename_i hc
      split at h
      · rename_i he
        obtain ⟨i1, i2, i3, i4, i5⟩ := ih h hT
        refine ⟨i1, fun x hx hx0 => ?_, ?_, i4, fun v hv' => ?_⟩
        · rcases List.mem_cons.1 hx with rfl | hx
          · omega
          · exact i2 x hx hx0
        · rw [ap_sym (by omega), i3, drop_get hj (intAt_get hj), he]
        · rcases i5 v hv' with k | k
          · exact .inl k
          · exact .inr (by simp [k])
      · cases h
/-- If there is something that makes a what it must be, it is found. -/
theorem mt_complete (hb : rowB ss b = true) (hθ : Sub 24 ss θ) (ha : ∀ c ∈ a, -24 ≤ c) (h : ap θ a = b.drop j) (hj : j ≤ b.length) (hT : ∀ v, T v = [] ∨ T v = θ v) : ∃ T', mt ss b T j a = some T' ∧ ∀ v, T' v = [] ∨ T' v = θ v := by
  induction a generalizing T j with
  | nil =>
    rw [ap_nil] at h
    have : b.length ≤ j := by have := congrArg List.length h; simp at this; omega
    refine ⟨T, ?_, hT⟩
    unfold mt
    rw [if_pos this]
  | cons c a ih =>
    rw [ap_cons] at h
    have hpos := ap1_pos hθ (ha c (by simp))
    have hlt : j < b.length := by
      have := congrArg List.length h
      simp at this; omega
    obtain ⟨p1, p2, p3, p4, p5⟩ := piece_facts hb hlt
    unfold mt
    rw [if_neg (by omega)]
    by_cases hc : c < 0
    · rw [if_pos hc]
      have e1 : ap1 θ c = θ (-1 - c).toNat := by unfold ap1; rw [if_pos hc]
      have hv := hθ (-1 - c).toNat (by have := ha c (by simp); omega)
      rw [e1, p2] at h
      obtain ⟨q1, q2⟩ := trm_uniq hv p1 h
      rw [if_pos (by rw [← q1]; exact hT _)]
      refine ih (fun x hx => ha x (by simp [hx])) q2 p4 fun v => ?_
      by_cases e : v = (-1 - c).toNat
      · subst e; rw [bindV_at]; exact .inr q1.symm
      · rw [bindV_ne _ _ e]; exact hT v
    · rw [if_neg hc]
      have e1 : ap1 θ c = [c] := ap1_sym (by omega)
      rw [e1, drop_get hlt (intAt_get hlt)] at h
      injection h with h1 h2
      rw [if_pos h1]
      exact ih (fun x hx => ha x (by simp [hx])) h2 (by omega) hT
theorem st_ok (hT : TOk ss T) {v : Nat} (hv : v < 24) : trm 24 ss (stT T v) 1 ∧ (stT T v).length ≤ 48 := by
  unfold stT
  split
  · exact ⟨trm_var hv, by simp⟩
  · rename_i h
    rcases hT v with e | e
    · exact absurd e h
    · exact e
/-- What Match tells, said by what it does. -/
theorem mtO_yes (h : mtO ss a b = some T) : rowB ss a = true ∧ rowB ss b = true ∧ TOk ss T ∧ Sub 24 ss (stT T) ∧ (∀ v, v < 24 → (stT T v).length ≤ 48) ∧ ap (stT T) a = b ∧ (∀ v, T v ≠ [] → -1 - (v : Int) ∈ a) ∧ (∀ c ∈ a, c < 0 → T (-1 - c).toNat ≠ []) := by
  unfold mtO at h
  split at h
  · rename_i h0
    obtain ⟨r1, r2⟩ := Bool.and_eq_true_iff.1 h0
    obtain ⟨i1, i2, i3, i4, i5⟩ := mt_sound r2 h TOk.no
    refine ⟨r1, r2, i4, fun v hv => (st_ok i4 hv).1, fun v hv => (st_ok i4 hv).2, ?_, fun v hv => ?_, i2⟩
    · rw [List.drop_zero] at i3
      rw [← i3]
      apply ap_on
      intro c hc h0
      unfold stT
      rw [if_neg (i2 c hc h0)]
    · rcases i5 v hv with k | k
      · exact absurd rfl k
      · exact k
  · cases h
theorem mtO_there (ha : rowB ss a = true) (hb : rowB ss b = true) (hθ : Sub 24 ss θ) (h : ap θ a = b) : ∃ T, mtO ss a b = some T ∧ ∀ v, T v = [] ∨ T v = θ v := by
  unfold mtO
  rw [ha, hb]
  exact mt_complete hb hθ (row_ge ha) (by rw [List.drop_zero]; exact h) (Nat.zero_le _) (fun _ => .inl rfl)
theorem mtB_few : (mtB ss a b).length ≤ 24 ∧ ∀ i, i < (mtB ss a b).length → (bdAt (mtB ss a b) i).t.length ≤ 48 := by
  unfold mtB
  split
  · rename_i T h
    obtain ⟨_, _, _, _, h48, _⟩ := mtO_yes h
    refine ⟨bdsOf_len _ 24, fun i hi => ?_⟩
    obtain ⟨v, hv, e, _⟩ := bdsOf_mem (bdAt_mem hi)
    rw [e]; exact h48 v hv
  · exact ⟨by simp, by simp⟩
theorem mtB_fit : ∀ i, i < (mtB ss a b).length → (bdAt (mtB ss a b) i).t.length * 8 ≤ 140737488351232 := fun i hi => by have := mtB_few.2 i hi; omega
theorem mtIs_yes (h : mtIs ss a b = true) : ∃ T, mtO ss a b = some T := Option.isSome_iff_exists.1 h
theorem mtE_yes (h : mtIs ss a b = true) : mtE ss a b = 0 := by
  obtain ⟨T, h⟩ := mtIs_yes h
  obtain ⟨h1, h2, _⟩ := mtO_yes h
  unfold mtE; rw [h1, h2]; rfl
theorem mtB_no (h : mtIs ss a b = false) : mtB ss a b = [] := by
  unfold mtIs at h
  unfold mtB
  split
  · rename_i e; rw [e] at h; cases h
  · rfl
theorem mtB_yes (h : mtO ss a b = some T) : mtB ss a b = bdsOf (stT T) 24 := by unfold mtB; rw [h]
theorem mtE_bad (h : (rowB ss a && rowB ss b) = false) : mtE ss a b = 500 ∧ mtIs ss a b = false ∧ mtB ss a b = [] := by
  unfold mtE mtIs mtB mtO; rw [h]; exact ⟨rfl, rfl, rfl⟩
end
end Go.Proofs.Ytmdajmdjmdbonaa
