/-
  Plain words: which clause says more (subsumption): places, the least row of them, what stands for variables. No program.
-/
import Derived.Test.YtcjpopjcpgipjaaDoorPlainMatch
import Derived.Test.YtcjpopjcpgipjaaDoorPlainMayC
namespace Go.Proofs.YtcjpopjcpgipjaaDoor
open Go.RowKit
set_option linter.unusedSimpArgs false
set_option linter.unusedVariables false
set_option maxRecDepth 100000

section
variable {ss : List Sym} {a b s r : List Int} {T T' θ : Nat → List Int} {p q : Int} {j : Nat}
theorem endAt_cons : endAt ss (q :: r) (j + 1) = endAt ss r j + 1 := by
  show j + 1 + (hd ss (q :: r) (j + 1)).1 = j + (hd ss r j).1 + 1
  have : hd ss (q :: r) (j + 1) = hd ss r j := rfl
  rw [this]; omega
theorem pieceAt_cons : pieceAt ss (q :: r) (j + 1) = pieceAt ss r j := by
  unfold pieceAt
  rw [endAt_cons, List.drop_succ_cons, Nat.add_sub_add_right]
theorem mt_cons : mt ss (q :: r) T (j + 1) a = mt ss r T j a := by
  induction a generalizing T j with
  | nil =>
    unfold mt
    rw [List.length_cons]
    by_cases h : r.length ≤ j
    · rw [if_pos h, if_pos (by omega)]
    · rw [if_neg h, if_neg (by omega)]
  | cons c a ih =>
    unfold mt
    rw [List.length_cons, pieceAt_cons, endAt_cons, ih, ih]
    have e : intAt (q :: r) (j + 1) = intAt r j := rfl
    rw [e]
    by_cases h : r.length ≤ j
    · rw [if_pos h, if_pos (by omega)]
    · rw [if_neg h, if_neg (by omega)]
theorem mt_atom (hp : 0 ≤ p) : mt ss (q :: r) T 0 (p :: s) = if p = q then mt ss r T 0 s else none := by
  show (if (q :: r).length ≤ 0 then none else if p < 0 then _ else if p = intAt (q :: r) 0 then mt ss (q :: r) T (0 + 1) s else none) = _
  rw [if_neg (by simp), if_neg (by omega), mt_cons]
  rfl
/-- What can be changed into what: rows, or atoms. -/
def Pat (ss : List Sym) (a b : List Int) : Prop := (rowB ss a = true ∧ rowB ss b = true) ∨ (atomB ss a = true ∧ atomB ss b = true)
theorem Pat.sound (h : Pat ss a b) (hm : mt ss b T 0 a = some T') (hT : TOk ss T) : (∀ v, T v ≠ [] → T' v = T v) ∧ (∀ c ∈ a, c < 0 → T' (-1 - c).toNat ≠ []) ∧ ap T' a = b ∧ TOk ss T' := by
  rcases h with ⟨_, hb⟩ | ⟨ha, hb⟩
  · obtain ⟨i1, i2, i3, i4, _⟩ := mt_sound hb hm hT
    exact ⟨i1, i2, by rw [i3, List.drop_zero], i4⟩
  · obtain ⟨p, s, rfl, hp, _, _, hs, _⟩ := atom_parts ha
    obtain ⟨q, r, rfl, hq, _, _, hr, _⟩ := atom_parts hb
    rw [mt_atom hp] at hm
    split at hm
    · rename_i e
      subst e
      obtain ⟨i1, i2, i3, i4, _⟩ := mt_sound hr hm hT
      refine ⟨i1, fun c hc h0 => ?_, ?_, i4⟩
      · rcases List.mem_cons.1 hc with rfl | hc
        · omega
        · exact i2 c hc h0
      · rw [ap_sym hp, i3, List.drop_zero]
    · cases hm
theorem Pat.complete (h : Pat ss a b) (hθ : Sub 24 ss θ) (he : ap θ a = b) (hT : ∀ v, T v = [] ∨ T v = θ v) : ∃ T', mt ss b T 0 a = some T' ∧ ∀ v, T' v = [] ∨ T' v = θ v := by
  rcases h with ⟨ha, hb⟩ | ⟨ha, hb⟩
  · exact mt_complete hb hθ (row_ge ha) (by rw [List.drop_zero]; exact he) (Nat.zero_le _) hT
  · obtain ⟨p, s, rfl, hp, _, _, hs, _⟩ := atom_parts ha
    obtain ⟨q, r, rfl, hq, _, _, hr, _⟩ := atom_parts hb
    rw [ap_sym hp] at he
    injection he with e1 e2
    rw [mt_atom hp, if_pos e1]
    exact mt_complete hr hθ (row_ge hs) (by rw [List.drop_zero]; exact e2) (Nat.zero_le _) hT
end
/-- The first place from j on, of k, at which something is told. -/
def fstFrom (f : Nat → Option (List Nat)) : Nat → Nat → Option (List Nat)
  | 0, _ => none
  | k + 1, j => match f j with
    | some r => some (j :: r)
    | none => fstFrom f k (j + 1)
theorem fstFrom_some {f : Nat → Option (List Nat)} {k j0 : Nat} {ps : List Nat} (h : fstFrom f k j0 = some ps) : ∃ j r, ps = j :: r ∧ j0 ≤ j ∧ j < j0 + k ∧ f j = some r := by
  induction k generalizing j0 with
  | zero => cases h
  | succ k ih =>
    unfold fstFrom at h
    split at h
    · rename_i r e
      injection h with h
      exact ⟨j0, r, h.symm, Nat.le_refl _, by omega, e⟩
    · obtain ⟨j, r, h1, h2, h3, h4⟩ := ih h
      exact ⟨j, r, h1, by omega, by omega, h4⟩
theorem fstFrom_least {f : Nat → Option (List Nat)} {k j0 j : Nat} {r : List Nat} (h : f j = some r) (h1 : j0 ≤ j) (h2 : j < j0 + k) : ∃ j' r', fstFrom f k j0 = some (j' :: r') ∧ (j' < j ∨ (j' = j ∧ r' = r)) := by
  induction k generalizing j0 with
  | zero => omega
  | succ k ih =>
    unfold fstFrom
    cases e : f j0 with
    | some r0 =>
      refine ⟨j0, r0, rfl, ?_⟩
      by_cases q : j0 = j
      · subst q; rw [h] at e; injection e with e; exact .inr ⟨rfl, e.symm⟩
      · exact .inl (by omega)
    | none =>
      have hne : j0 ≠ j := by rintro rfl; rw [h] at e; cases e
      exact ih (by omega) (by omega)
/-- The least row of places, beside what stands for variables already. -/
def fitP (ss : List Sym) : List Lt → List (List Lt) → (Nat → List Int) → Option (List Nat)
  | [], _, _ => some []
  | _ :: _, [], _ => none
  | x :: xs, y :: ys, T => fstFrom (fun j => if (ltAt y j).neg = x.neg then (match mt ss (ltAt y j).atom T 0 x.atom with | some T' => fitP ss xs ys T' | none => none) else none) y.length 0
/-- These places fit, if this stands for variables. -/
def FitR (θ : Nat → List Int) : List Lt → List (List Lt) → List Nat → Prop
  | [], _, [] => True
  | x :: xs, y :: ys, j :: ps => j < y.length ∧ (ltAt y j).neg = x.neg ∧ ap θ x.atom = (ltAt y j).atom ∧ FitR θ xs ys ps
  | _, _, _ => False
/-- One row of numbers is not behind another one. -/
def leL : List Nat → List Nat → Prop
  | [], _ => True
  | _ :: _, [] => False
  | x :: xs, y :: ys => x < y ∨ (x = y ∧ leL xs ys)
theorem leL.antisymm : ∀ {a b : List Nat}, a.length = b.length → leL a b → leL b a → a = b
  | [], [], _, _, _ => rfl
  | [], _ :: _, h, _, _ => by simp at h
  | _ :: _, [], h, _, _ => by simp at h
  | x :: xs, y :: ys, h, h1, h2 => by
    rcases h1 with h1 | ⟨rfl, h1⟩
    · rcases h2 with h2 | ⟨rfl, h2⟩ <;> omega
    · rcases h2 with h2 | ⟨_, h2⟩
      · omega
      · rw [leL.antisymm (by simpa using h) h1 h2]
/-- Each of these may be changed into each of those. -/
def PatAll (ss : List Sym) : List Lt → List (List Lt) → Prop
  | [], _ => True
  | _ :: _, [] => True
  | x :: xs, y :: ys => (∀ j, j < y.length → Pat ss x.atom (ltAt y j).atom) ∧ PatAll ss xs ys
section
variable {ss : List Sym} {xs : List Lt} {ys : List (List Lt)} {T θ : Nat → List Int} {ps qs : List Nat}
theorem FitR.length : ∀ {xs : List Lt} {ys : List (List Lt)} {ps : List Nat}, FitR θ xs ys ps → ps.length = xs.length
  | [], _, [], _ => rfl
  | x :: xs, y :: ys, j :: ps, h => by rw [List.length_cons, List.length_cons, FitR.length h.2.2.2]
theorem fitP_sound (hp : PatAll ss xs ys) (hT : TOk ss T) (h : fitP ss xs ys T = some ps) :
    ∃ T', TOk ss T' ∧ (∀ v, T v ≠ [] → T' v = T v) ∧ ∀ θ : Nat → List Int, (∀ v, T' v ≠ [] → θ v = T' v) → FitR θ xs ys ps := by
  induction xs generalizing ys T ps with
  | nil =>
    unfold fitP at h
    injection h with h
    subst h
    exact ⟨T, hT, fun _ _ => rfl, fun _ _ => by unfold FitR; trivial⟩
  | cons x xs ih =>
    cases ys with
    | nil => cases h
    | cons y ys =>
      unfold fitP at h
      obtain ⟨j, r, rfl, _, hj, hf⟩ := fstFrom_some h
      rw [Nat.zero_add] at hj
      split at hf
      · rename_i hn
        split at hf
        · rename_i T1 hm
          obtain ⟨i1, i2, i3, i4⟩ := (hp.1 j hj).sound hm hT
          obtain ⟨T2, t1, t2, t3⟩ := ih hp.2 i4 hf
          refine ⟨T2, t1, fun v hv => ?_, fun θ hθ => ⟨hj, hn, ?_, t3 θ hθ⟩⟩
          · have e := i1 v hv
            rw [t2 v (by rw [e]; exact hv), e]
          · rw [← i3]
            refine ap_on fun c hc h0 => ?_
            have h1 := i2 c hc h0
            have h2 := t2 _ h1
            rw [hθ _ (by rw [h2]; exact h1), h2]
        · cases hf
      · cases hf
theorem fitP_least (hp : PatAll ss xs ys) (hθ : Sub 24 ss θ) (hT : ∀ v, T v = [] ∨ T v = θ v) (h : FitR θ xs ys qs) : ∃ ps, fitP ss xs ys T = some ps ∧ leL ps qs := by
  induction xs generalizing ys T qs with
  | nil => exact ⟨[], rfl, by unfold leL; trivial⟩
  | cons x xs ih =>
    cases ys with
    | nil => cases h
    | cons y ys =>
      cases qs with
      | nil => cases h
      | cons j qs =>
        obtain ⟨hj, hn, ha, hr⟩ := h
        obtain ⟨T1, hm, hT1⟩ := (hp.1 j hj).complete hθ ha hT
        obtain ⟨ps, h1, h2⟩ := ih hp.2 hT1 hr
        have hf : (fun j => if (ltAt y j).neg = x.neg then (match mt ss (ltAt y j).atom T 0 x.atom with | some T' => fitP ss xs ys T' | none => none) else none) j = some ps := by
          show (if (ltAt y j).neg = x.neg then (match mt ss (ltAt y j).atom T 0 x.atom with | some T' => fitP ss xs ys T' | none => none) else none) = some ps
          rw [if_pos hn, hm]; exact h1
        obtain ⟨j', r', e1, e2⟩ := fstFrom_least (f := fun j => if (ltAt y j).neg = x.neg then (match mt ss (ltAt y j).atom T 0 x.atom with | some T' => fitP ss xs ys T' | none => none) else none) hf (Nat.zero_le _) (by omega : j < 0 + y.length)
        refine ⟨j' :: r', e1, ?_⟩
        rcases e2 with e2 | ⟨rfl, rfl⟩
        · exact .inl e2
        · exact .inr ⟨rfl, h2⟩
/-- What stands for variables, made whole. -/
theorem sub_st {T : Nat → List Int} (h : TOk ss T) : Sub 24 ss (stT T) := fun v hv => (st_ok h hv).1
theorem st_same {T : Nat → List Int} {v : Nat} (h : T v ≠ []) : stT T v = T v := by unfold stT; rw [if_neg h]
/-- A row of places that fits and is the least one is the one that is told. -/
theorem fitP_unique (hp : PatAll ss xs ys) (hθ : Sub 24 ss θ) (h : FitR θ xs ys qs) (hl : ∀ θ' ps, Sub 24 ss θ' → FitR θ' xs ys ps → leL qs ps) : fitP ss xs ys noT = some qs := by
  obtain ⟨ps, h1, h2⟩ := fitP_least (T := noT) hp hθ (fun _ => .inl rfl) h
  obtain ⟨T', t1, _, t3⟩ := fitP_sound hp TOk.no h1
  have hf := t3 (stT T') (fun v hv => st_same hv)
  rw [h1, leL.antisymm (by rw [hf.length, h.length]) h2 (hl _ _ (sub_st t1) hf)]
theorem fitP_none (hp : PatAll ss xs ys) (h : fitP ss xs ys noT = none) (hθ : Sub 24 ss θ) : ¬ FitR θ xs ys qs := by
  intro hf
  obtain ⟨ps, h1, _⟩ := fitP_least (T := noT) hp hθ (fun _ => .inl rfl) hf
  rw [h] at h1; cases h1
end
end Go.Proofs.YtcjpopjcpgipjaaDoor
