/-
  Plain words: one variable and one term; what Unify answers of them, and of the small rows that the laws ask first.
  Plain words: what follows of what Unify answers.
-/
import Derived.Test.YtlmpapdpmmkjnaaPlainUni
import Derived.Test.YtlmpapdpmmkjnaaWordsL
import Derived.Test.YtlmpapdpmmkjnaaBindPut
namespace Go.Proofs.Ytlmpapdpmmkjnaa
open Go.RowKit
set_option linter.unusedSimpArgs false
set_option linter.unusedVariables false
set_option maxRecDepth 100000

/-- Only the variable v is replaced. -/
def only (v : Nat) (t : List Int) : Nat → List Int := fun x => if x = v then t else [-1 - (x : Int)]
theorem only_at (v : Nat) (t : List Int) : only v t v = t := by unfold only; rw [if_pos rfl]
theorem only_ne {v x : Nat} (t : List Int) (h : x ≠ v) : only v t x = [-1 - (x : Int)] := by unfold only; rw [if_neg h]
theorem ap_only_free {V : Nat} {ss : List Sym} {r : List Int} {k v : Nat} {t : List Int} (hr : trm V ss r k) (h : -1 - (v : Int) ∉ r) : ap (only v t) r = r := by
  apply ap_id
  intro c hc h0
  obtain ⟨h1, h2⟩ := vnum hr hc h0
  rw [only_ne t (fun e => h (by rw [← e, ← h2]; exact hc)), ← h2]
theorem Canon.one {ss : List Sym} {v : Nat} {t : List Int} (hv : v < 24) (ht : trm 24 ss t 1) (hno : -1 - (v : Int) ∉ t) (hl : ∀ w : Nat, t = [-1 - (w : Int)] → w < v) : Canon 24 ss [-1 - (v : Int)] t (only v t) := by
  refine ⟨fun x hx => ?_, ?_, fun θ hθ e x hx => ?_, fun x w hx e => ?_⟩
  · by_cases e : x = v
    · subst e; rw [only_at]; exact ht
    · rw [only_ne t e]; exact trm_var hx
  · rw [ap_var, only_at, ap_only_free ht hno]
  · by_cases e' : x = v
    · subst e'; rw [only_at, ← e, ap_var]
    · rw [only_ne t e', ap_var]
  · by_cases e' : x = v
    · subst e'; rw [only_at] at e; have := hl w e; omega
    · rw [only_ne t e'] at e; injection e with e; omega
theorem Canon.symm {V : Nat} {ss : List Sym} {a b : List Int} {σ : Nat → List Int} (h : Canon V ss a b σ) : Canon V ss b a σ := ⟨h.sub, h.uni.symm, fun θ hθ e => h.mgu θ hθ e.symm, h.least⟩
theorem UniR.symm {ss : List Sym} {a b : List Int} {E : Int} {is : Bool} {bs : List Bd} (h : UniR ss a b E is bs) : UniR ss b a E is bs := by
  rcases h with ⟨h0, h⟩ | ⟨h0, h⟩
  · exact .inl ⟨by rw [Bool.and_comm]; exact h0, h⟩
  · refine .inr ⟨by rw [Bool.and_comm]; exact h0, ?_⟩
    rcases h with ⟨h1, h⟩ | ⟨σ, h1, h⟩
    · exact .inl ⟨fun θ hθ e => h1 θ hθ e.symm, h⟩
    · exact .inr ⟨σ, h1.symm, h⟩
theorem no_occurs {V : Nat} {ss : List Sym} {v k : Nat} {t : List Int} (ht : trm V ss t k) (hin : -1 - (v : Int) ∈ t) (h2 : 2 ≤ t.length) : ∀ θ, Sub V ss θ → ap θ [-1 - (v : Int)] ≠ ap θ t := by
  intro θ hθ e
  have h1 := ap_part hθ (trm_codes ht) hin
  rw [← e, ap_var, ap1_var] at h1
  omega
/-- The binds of what replaces one variable. -/
theorem bdsOf_only {v : Nat} {t : List Int} (hne : t ≠ [-1 - (v : Int)]) : ∀ n, bdsOf (only v t) n = if v < n then [⟨v, t⟩] else []
  | 0 => rfl
  | n + 1 => by
    rw [bdsOf_succ, bdsOf_only hne n]
    by_cases e : n = v
    · subst e
      rw [only_at, isV_not.2 hne]
      simp
    · have : isV (only v t n) n = true := by rw [only_ne t e]; exact isV_iff.2 rfl
      rw [this]
      by_cases h : v < n
      · have h' : v < n + 1 := by omega
        simp [h, h']
      · have h' : ¬ v < n + 1 := by omega
        simp [h, h']

theorem rowW (r : List Int) (h : rowB wordsL r = true) : ∃ ms, tl wordsL r = some ms := ⟨_, (row_parts h).2.2⟩
theorem au1 {E : Int} {is : Bool} {bs : List Bd} (h : UniR wordsL [4, -1, -2] [4, 3, -2, 1] E is bs) : E = 0 ∧ is = true ∧ bs = [⟨0, [3, 1]⟩, ⟨1, [1]⟩] := by
  let σ : Nat → List Int := fun x => if x = 0 then [3, 1] else if x = 1 then [1] else [-1 - (x : Int)]
  have s0 : σ 0 = [3, 1] := rfl
  have s1 : σ 1 = [1] := rfl
  have s2 : ∀ x, x ≠ 0 → x ≠ 1 → σ x = [-1 - (x : Int)] := fun x h0 h1 => by show (if x = 0 then _ else _) = _; rw [if_neg h0, if_neg h1]
  have t31 : trm 24 wordsL [3, 1] 1 := trm_of_tl (ms := [(2, 2)]) (by decide +kernel)
  have t1 : trm 24 wordsL [1] 1 := trm_of_tl (ms := [(1, 1)]) (by decide +kernel)
  have hc : Canon 24 wordsL [4, -1, -2] [4, 3, -2, 1] σ := by
    refine ⟨fun x hx => ?_, by rfl, fun θ hθ e x hx => ?_, fun x w hx e => ?_⟩
    · by_cases h0 : x = 0
      · subst h0; exact t31
      · by_cases h1 : x = 1
        · subst h1; exact t1
        · rw [s2 x h0 h1]; exact trm_var hx
    · have ea : ap θ [4, -1, -2] = 4 :: (θ 0 ++ (θ 1 ++ [])) := rfl
      have eb : ap θ [4, 3, -2, 1] = 4 :: ((3 :: θ 1) ++ [1]) := by show 4 :: (3 :: (θ 1 ++ [1])) = _; rfl
      rw [ea, eb] at e
      injection e with _ e
      have t3 : trm 24 wordsL (3 :: θ 1) 1 := trm_sym (a := 1) (by omega) (by decide +kernel) (hθ 1 (by omega)) (by omega)
      obtain ⟨e1, e2⟩ := trm_uniq (hθ 0 (by omega)) t3 e
      rw [List.append_nil] at e2
      by_cases h0 : x = 0
      · subst h0; rw [s0, e1, e2]; rfl
      · by_cases h1 : x = 1
        · subst h1; rw [s1, e2]; rfl
        · rw [s2 x h0 h1, ap_var]
    · by_cases h0 : x = 0
      · subst h0; rw [s0] at e; have := congrArg List.length e; simp at this
      · by_cases h1 : x = 1
        · subst h1; rw [s1] at e; injection e with e; omega
        · rw [s2 x h0 h1] at e; injection e with e; omega
  have k : UniR wordsL [4, -1, -2] [4, 3, -2, 1] 0 true (bdsOf σ 24) := .inr ⟨by decide +kernel, .inr ⟨σ, hc, .inl ⟨fun x hx => by
    by_cases h0 : x = 0
    · subst h0; decide
    · by_cases h1 : x = 1
      · subst h1; decide
      · rw [s2 x h0 h1]; simp, rfl, rfl, rfl⟩⟩⟩
  obtain ⟨e1, e2, e3⟩ := h.unique k
  exact ⟨e1, e2, by rw [e3]; rfl⟩
theorem au2 {E : Int} {is : Bool} {bs : List Bd} (h : UniR wordsL [-4] [-2] E is bs) : E = 0 ∧ is = true ∧ bs = [⟨3, [-2]⟩] := by
  have hc : Canon 24 wordsL [-4] [-2] (only 3 [-2]) := Canon.one (v := 3) (by omega) (trm_var (v := 1) (by omega)) (by decide) (fun w e => by injection e with e; omega)
  have k : UniR wordsL [-4] [-2] 0 true (bdsOf (only 3 [-2]) 24) := .inr ⟨by decide +kernel, .inr ⟨_, hc, .inl ⟨fun x hx => by
    by_cases h0 : x = 3
    · subst h0; decide
    · rw [only_ne _ h0]; simp, rfl, rfl, rfl⟩⟩⟩
  obtain ⟨e1, e2, e3⟩ := h.unique k
  exact ⟨e1, e2, by rw [e3]; rfl⟩
theorem au3 {E : Int} {is : Bool} {bs : List Bd} (h : UniR wordsL [-1] [3, -1] E is bs) : E = 0 ∧ is = false ∧ bs = [] :=
  h.unique (.inr ⟨by decide +kernel, .inl ⟨no_occurs (v := 0) (trm_of_tl (ms := [(2, 2)]) (by decide +kernel)) (by decide) (by decide), rfl, rfl, rfl⟩⟩)
theorem au4 {E : Int} {is : Bool} {bs : List Bd} (h : UniR wordsL [1] [2] E is bs) : E = 0 ∧ is = false ∧ bs = [] :=
  h.unique (.inr ⟨by decide +kernel, .inl ⟨fun θ hθ e => (by revert e; show ([1] : List Int) ≠ [2]; decide), rfl, rfl, rfl⟩⟩)
theorem au5 {E : Int} {is : Bool} {bs : List Bd} (h : UniR wordsL [3] [1] E is bs) : E = 400 ∧ is = false ∧ bs = [] :=
  h.unique (.inl ⟨by decide +kernel, rfl, rfl, rfl⟩)
end Go.Proofs.Ytlmpapdpmmkjnaa

namespace Go.Proofs.Ytlmpapdpmmkjnaa
open Go.RowKit
set_option linter.unusedSimpArgs false
set_option linter.unusedVariables false
set_option maxRecDepth 100000

section
variable {ss : List Sym} {a b : List Int} {E : Int} {is : Bool} {bs us : List Bd} {σ : Nat → List Int} {r : List Int}
theorem bdsOf_mem {n : Nat} {x : Bd} (h : x ∈ bdsOf σ n) : ∃ v : Nat, v < n ∧ x = ⟨v, σ v⟩ ∧ σ v ≠ [-1 - (v : Int)] := by
  unfold bdsOf at h
  obtain ⟨v, hv, he⟩ := List.mem_filterMap.1 h
  unfold bdOf at he
  cases hi : isV (σ v) v
  · rw [hi] at he
    simp at he
    exact ⟨v, by simpa using hv, he.symm, isV_not.1 hi⟩
  · rw [hi] at he; simp at he
theorem bdsOf_valid' (hm : mayB ss = true) (hs : Sub 24 ss σ) (hl : ∀ v, v < 24 → (σ v).length ≤ 48) (n k : Nat) (lo : Int) (h1 : lo ≤ (k : Int)) (h2 : k + n ≤ 24) : bdsB ss lo ((List.range' k n).filterMap (bdOf σ)) = true := by
  induction n generalizing k lo with
  | zero => rfl
  | succ n ih =>
    rw [List.range'_succ, List.filterMap_cons]
    cases hi : isV (σ k) k
    · have hf : bdOf σ k = some ⟨k, σ k⟩ := by unfold bdOf; rw [hi]; rfl
      rw [hf]
      show (bdB ss lo _ && bdsB ss _ _) = true
      rw [ih (k + 1) ((k : Int) + 1) (by omega) (by omega), Bool.and_true, bdB_iff]
      obtain ⟨ns, q1, q2⟩ := tl_of_trm (hs k (by omega))
      exact ⟨h1, by show (k : Int) ≤ 23; omega, one_of hm (hl k (by omega)) q1 q2, isV_not.1 hi⟩
    · have hf : bdOf σ k = none := by unfold bdOf; rw [hi]; rfl
      rw [hf]
      exact ih (k + 1) lo (by omega) (by omega)
theorem bdsOf_valid (hm : mayB ss = true) (hs : Sub 24 ss σ) (hl : ∀ v, v < 24 → (σ v).length ≤ 48) : bindB ss (bdsOf σ 24) = true := by
  unfold bindB bdsOf
  rw [hm, range_eq, bdsOf_valid' hm hs hl 24 0 0 (by omega) (by omega)]
  rfl
theorem UniR.yes (h : UniR ss a b E true bs) : E = 0 ∧ rowB ss a = true ∧ rowB ss b = true ∧ ∃ σ, Canon 24 ss a b σ ∧ (∀ v, v < 24 → (σ v).length ≤ 48) ∧ bs = bdsOf σ 24 := by
  rcases h with ⟨_, _, h, _⟩ | ⟨h0, h⟩
  · cases h
  · obtain ⟨r1, r2⟩ := Bool.and_eq_true_iff.1 h0
    rcases h with ⟨_, _, h, _⟩ | ⟨σ, hc, ⟨h1, h2, _, h3⟩ | ⟨_, _, h, _⟩⟩
    · cases h
    · exact ⟨h2, r1, r2, σ, hc, h1, h3⟩
    · cases h
theorem UniR.no (h : UniR ss a b E false bs) : bs = [] := by
  rcases h with ⟨_, _, _, h⟩ | ⟨h0, ⟨_, _, _, h⟩ | ⟨σ, hc, ⟨_, _, h, _⟩ | ⟨_, _, _, h⟩⟩⟩
  · exact h
  · exact h
  · cases h
  · exact h
theorem UniR.few (h : UniR ss a b E is bs) : bs.length ≤ 24 ∧ ∀ i, i < bs.length → (bdAt bs i).t.length ≤ 48 := by
  cases is
  · rw [h.no]; simp
  · obtain ⟨_, _, _, σ, _, hl, rfl⟩ := h.yes
    refine ⟨bdsOf_len σ 24, fun i hi => ?_⟩
    obtain ⟨v, hv, e, _⟩ := bdsOf_mem (bdAt_mem hi)
    rw [e]; exact hl v hv
theorem UniR.fit (h : UniR ss a b E is bs) : ∀ i, i < bs.length → (bdAt bs i).t.length * 8 ≤ 140737488351232 := fun i hi => by have := h.few.2 i hi; omega
/-- If something makes them the same, with terms that are not too long, Unify tells it. -/
theorem UniR.there (h : UniR ss a b E is bs) (h0 : rowB ss a = true) (h1 : rowB ss b = true) {θ : Nat → List Int} (hθ : Sub 24 ss θ) (he : ap θ a = ap θ b) (hl : ∀ v, v < 24 → (θ v).length ≤ 48) : is = true := by
  rcases h with ⟨h, _⟩ | ⟨_, ⟨h, _⟩ | ⟨σ, hc, ⟨_, _, h, _⟩ | ⟨⟨v, hv, h⟩, _⟩⟩⟩
  · rw [h0, h1] at h; cases h
  · exact absurd he (h θ hθ)
  · exact h
  · have e := hc.mgu θ hθ he v hv
    have g := ap_grows hθ (trm_codes (hc.sub v hv))
    rw [e] at g
    have := hl v hv
    omega
/-- The function that binds are. -/
def fnB (us : List Bd) (v : Nat) : List Int := put1 us (-1 - (v : Int))
theorem put_fn (r : List Int) : put us r = ap (fnB us) r := by
  induction r with
  | nil => rfl
  | cons c r ih =>
    rw [put_cons, ap_cons, ih]
    congr 1
    by_cases hc : c < 0
    · unfold ap1 fnB; rw [if_pos hc]; congr 1; omega
    · rw [put1_sym hc, ap1_sym (by omega)]
theorem fn_term (hu : bindB ss us = true) {v : Nat} (hv : v < 24) : trm 24 ss (fnB us v) 1 ∧ (fnB us v).length ≤ 48 := by
  unfold bindB at hu
  simp only [Bool.and_eq_true] at hu
  unfold fnB
  cases ho : ofB us (-1 - (-1 - (v : Int))) with
  | none => rw [put1_free ho]; exact ⟨trm_var hv, by simp⟩
  | some t =>
    rw [put1_var (by omega) ho]
    obtain ⟨x, hx, _, rfl⟩ := ofB_some ho
    obtain ⟨_, _, h5, _⟩ := bdsB_mem hu.2 x hx
    obtain ⟨_, ⟨m, hm⟩, _, h48⟩ := one_parts h5
    exact ⟨trm_of_tl hm, h48⟩
theorem fn_sub (hu : bindB ss us = true) : Sub 24 ss (fnB us) := fun v hv => (fn_term hu hv).1
theorem row_trm (h : rowB ss r = true) : ∃ k, trm 24 ss r k := ⟨_, trm_of_tl (row_parts h).2.2⟩
theorem row_ge (h : rowB ss r = true) : ∀ c ∈ r, -24 ≤ c := row_codes (row_parts h).2.2
theorem Canon.put (hc : Canon 24 ss a b σ) (h : ∀ c ∈ r, -24 ≤ c) : put (bdsOf σ 24) r = ap σ r := put_bdsOf h
/-- What is told makes both the same; the errors are the same. -/
theorem told_same (hs : Canon 24 ss a b σ) (ha : rowB ss a = true) (hb : rowB ss b = true) (hl : ∀ v, v < 24 → (σ v).length ≤ 48) :
    applyE ss (bdsOf σ 24) a = applyE ss (bdsOf σ 24) b ∧ applyR ss (bdsOf σ 24) a = applyR ss (bdsOf σ 24) b ∧ bindB ss (bdsOf σ 24) = true := by
  have hv := bdsOf_valid (row_parts ha).1 hs.sub hl
  have e : put (bdsOf σ 24) a = put (bdsOf σ 24) b := by rw [put_bdsOf (row_ge ha), put_bdsOf (row_ge hb)]; exact hs.uni
  unfold applyE applyR
  rw [ha, hb, e]
  exact ⟨rfl, rfl, hv⟩
/-- Its terms are not changed by itself. -/
theorem told_idem (hs : Canon 24 ss a b σ) (hm : mayB ss = true) (hl : ∀ v, v < 24 → (σ v).length ≤ 48) {i : Nat} (hi : i < (bdsOf σ 24).length) :
    applyE ss (bdsOf σ 24) (bdAt (bdsOf σ 24) i).t = 0 ∧ applyR ss (bdsOf σ 24) (bdAt (bdsOf σ 24) i).t = (bdAt (bdsOf σ 24) i).t := by
  have hv := bdsOf_valid hm hs.sub hl
  obtain ⟨v, hv24, e, _⟩ := bdsOf_mem (bdAt_mem hi)
  rw [e]
  show applyE ss _ (σ v) = 0 ∧ applyR ss _ (σ v) = σ v
  obtain ⟨ns, q1, _⟩ := tl_of_trm (hs.sub v hv24)
  have hr : rowB ss (σ v) = true := one_row hm (hl v hv24) q1
  have ep : put (bdsOf σ 24) (σ v) = σ v := by rw [put_bdsOf (row_ge hr)]; exact hs.idem hv24
  have h48 := hl v hv24
  unfold applyE applyR
  rw [hv, hr, ep]
  simp [h48]
theorem applyR_len (ss : List Sym) (bs : List Bd) (r : List Int) : (applyR ss bs r).length ≤ 48 := by
  unfold applyR
  split
  · rename_i h
    simp only [Bool.and_eq_true, decide_eq_true_eq] at h
    exact h.2
  · simp
theorem ap_zero (h : applyE ss bs r = 0) : bindB ss bs = true ∧ rowB ss r = true ∧ (put bs r).length ≤ 48 ∧ applyR ss bs r = put bs r := by
  unfold applyE at h
  cases h1 : bindB ss bs && rowB ss r
  · rw [h1] at h; simp at h
  · rw [h1] at h
    obtain ⟨q1, q2⟩ := Bool.and_eq_true_iff.1 h1
    by_cases h2 : (put bs r).length ≤ 48
    · refine ⟨q1, q2, h2, ?_⟩
      unfold applyR; rw [h1]; simp [h2]
    · simp [h2] at h
end
end Go.Proofs.Ytlmpapdpmmkjnaa
