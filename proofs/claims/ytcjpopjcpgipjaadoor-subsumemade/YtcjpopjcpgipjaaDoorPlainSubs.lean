/-
  Plain words: which clause says more (subsumption): places, the least row of them, what stands for variables. No program.
  Plain words: a clause that says as much as another one; such clauses in a row; the normal clause.
  Plain words: parts of a clause and what they may become, one behind the other.
  Plain words: pairs of parts, sets of pairs, a choice of pairs that agree; the least choice is the least row of places. No program.
  Plain words: clauses that say as much as one another: in a row; the normal clause; weights.
-/
import Derived.Test.YtcjpopjcpgipjaaDoorPlainMatch
import Derived.Test.YtcjpopjcpgipjaaDoorPlainCl
import Derived.Test.YtcjpopjcpgipjaaDoorPlainOrder
namespace Go.Proofs.YtcjpopjcpgipjaaDoor
open Go.RowKit
set_option linter.unusedSimpArgs false
set_option linter.unusedVariables false
set_option maxRecDepth 100000

section
variable {ss : List Sym} {a b s r : List Int} {T T' θ : Nat → List Int} {p q : Int} {j : Nat}
theorem endAt_cons : endAt ss (q :: r) (j + 1) = endAt ss r j + 1 := by
  show j + 1 + (hd ss (q :: r) (j + 1)).1 = j + (hd ss r j).1 + 1
  have : hd ss (q :: r) (j + 1) = hd ss r j := rfl
  rw [this]; omega
theorem pieceAt_cons : pieceAt ss (q :: r) (j + 1) = pieceAt ss r j := by
  unfold pieceAt
  rw [endAt_cons, List.drop_succ_cons, Nat.add_sub_add_right]
theorem mt_cons : mt ss (q :: r) T (j + 1) a = mt ss r T j a := by
  induction a generalizing T j with
  | nil =>
    unfold mt
    rw [List.length_cons]
    by_cases h : r.length ≤ j
    · rw [if_pos h, if_pos (by omega)]
    · rw [if_neg h, if_neg (by omega)]
  | cons c a ih =>
    unfold mt
    rw [List.length_cons, pieceAt_cons, endAt_cons, ih, ih]
    have e : intAt (q :: r) (j + 1) = intAt r j := rfl
    rw [e]
    by_cases h : r.length ≤ j
    · rw [if_pos h, if_pos (by omega)]
    · rw [if_neg h, if_neg (by omega)]
theorem mt_atom (hp : 0 ≤ p) : mt ss (q :: r) T 0 (p :: s) = if p = q then mt ss r T 0 s else none := by
  show (if (q :: r).length ≤ 0 then none else if p < 0 then _ else if p = intAt (q :: r) 0 then mt ss (q :: r) T (0 + 1) s else none) = _
  rw [if_neg (by simp), if_neg (by omega), mt_cons]
  rfl
/-- What can be changed into what: rows, or atoms. -/
def Pat (ss : List Sym) (a b : List Int) : Prop := (rowB ss a = true ∧ rowB ss b = true) ∨ (atomB ss a = true ∧ atomB ss b = true)
theorem Pat.sound (h : Pat ss a b) (hm : mt ss b T 0 a = some T') (hT : TOk ss T) : (∀ v, T v ≠ [] → T' v = T v) ∧ (∀ c ∈ a, c < 0 → T' (-1 - c).toNat ≠ []) ∧ ap T' a = b ∧ TOk ss T' := by
  rcases h with ⟨_, hb⟩ | ⟨ha, hb⟩
  · obtain ⟨i1, i2, i3, i4, _⟩ := mt_sound hb hm hT
    exact ⟨i1, i2, by rw [i3, List.drop_zero], i4⟩
  · obtain ⟨p, s, rfl, hp, _, _, hs, _⟩ := atom_parts ha
    obtain ⟨q, r, rfl, hq, _, _, hr, _⟩ := atom_parts hb
    rw [mt_atom hp] at hm
    split at hm
    · rename_i e
      subst e
      obtain ⟨i1, i2, i3, i4, _⟩ := mt_sound hr hm hT
      refine ⟨i1, fun c hc h0 => ?_, ?_, i4⟩
      · rcases List.mem_cons.1 hc with rfl | hc
        · omega
        · exact i2 c hc h0
      · rw [ap_sym hp, i3, List.drop_zero]
    · cases hm
theorem Pat.complete (h : Pat ss a b) (hθ : Sub 24 ss θ) (he : ap θ a = b) (hT : ∀ v, T v = [] ∨ T v = θ v) : ∃ T', mt ss b T 0 a = some T' ∧ ∀ v, T' v = [] ∨ T' v = θ v := by
  rcases h with ⟨ha, hb⟩ | ⟨ha, hb⟩
  · exact mt_complete hb hθ (row_ge ha) (by rw [List.drop_zero]; exact he) (Nat.zero_le _) hT
  · obtain ⟨p, s, rfl, hp, _, _, hs, _⟩ := atom_parts ha
    obtain ⟨q, r, rfl, hq, _, _, hr, _⟩ := atom_parts hb
    rw [ap_sym hp] at he
    injection he with e1 e2
    rw [mt_atom hp, if_pos e1]
    exact mt_complete hr hθ (row_ge hs) (by rw [List.drop_zero]; exact e2) (Nat.zero_le _) hT
end
/-- The first place from j on, of k, at which something is told. -/
def fstFrom (f : Nat → Option (List Nat)) : Nat → Nat → Option (List Nat)
  | 0, _ => none
  | k + 1, j => match f j with
    | some r => some (j :: r)
    | none => fstFrom f k (j + 1)
theorem fstFrom_some {f : Nat → Option (List Nat)} {k j0 : Nat} {ps : List Nat} (h : fstFrom f k j0 = some ps) : ∃ j r, ps = j :: r ∧ j0 ≤ j ∧ j < j0 + k ∧ f j = some r := by
  induction k generalizing j0 with
  | zero => cases h
  | succ k ih =>
    unfold fstFrom at h
    split at h
    · rename_i r e
      injection h with h
      exact ⟨j0, r, h.symm, Nat.le_refl _, by omega, e⟩
    · obtain ⟨j, r, h1, h2, h3, h4⟩ := ih h
      exact ⟨j, r, h1, by omega, by omega, h4⟩
theorem fstFrom_least {f : Nat → Option (List Nat)} {k j0 j : Nat} {r : List Nat} (h : f j = some r) (h1 : j0 ≤ j) (h2 : j < j0 + k) : ∃ j' r', fstFrom f k j0 = some (j' :: r') ∧ (j' < j ∨ (j' = j ∧ r' = r)) := by
  induction k generalizing j0 with
  | zero => omega
  | succ k ih =>
    unfold fstFrom
    cases e : f j0 with
    | some r0 =>
      refine ⟨j0, r0, rfl, ?_⟩
      by_cases q : j0 = j
      · subst q; rw [h] at e; injection e with e; exact .inr ⟨rfl, e.symm⟩
      · exact .inl (by omega)
    | none =>
      have hne : j0 ≠ j := by rintro rfl; rw [h] at e; cases e
      exact ih (by omega) (by omega)
/-- The least row of places, beside what stands for variables already. -/
def fitP (ss : List Sym) : List Lt → List (List Lt) → (Nat → List Int) → Option (List Nat)
  | [], _, _ => some []
  | _ :: _, [], _ => none
  | x :: xs, y :: ys, T => fstFrom (fun j => if (ltAt y j).neg = x.neg then (match mt ss (ltAt y j).atom T 0 x.atom with | some T' => fitP ss xs ys T' | none => none) else none) y.length 0
/-- These places fit, if this stands for variables. -/
def FitR (θ : Nat → List Int) : List Lt → List (List Lt) → List Nat → Prop
  | [], _, [] => True
  | x :: xs, y :: ys, j :: ps => j < y.length ∧ (ltAt y j).neg = x.neg ∧ ap θ x.atom = (ltAt y j).atom ∧ FitR θ xs ys ps
  | _, _, _ => False
/-- One row of numbers is not behind another one. -/
def leL : List Nat → List Nat → Prop
  | [], _ => True
  | _ :: _, [] => False
  | x :: xs, y :: ys => x < y ∨ (x = y ∧ leL xs ys)
theorem leL.antisymm : ∀ {a b : List Nat}, a.length = b.length → leL a b → leL b a → a = b
  | [], [], _, _, _ => rfl
  | [], _ :: _, h, _, _ => by simp at h
  | _ :: _, [], h, _, _ => by simp at h
  | x :: xs, y :: ys, h, h1, h2 => by
    rcases h1 with h1 | ⟨rfl, h1⟩
    · rcases h2 with h2 | ⟨rfl, h2⟩ <;> omega
    · rcases h2 with h2 | ⟨_, h2⟩
      · omega
      · rw [leL.antisymm (by simpa using h) h1 h2]
/-- Each of these may be changed into each of those. -/
def PatAll (ss : List Sym) : List Lt → List (List Lt) → Prop
  | [], _ => True
  | _ :: _, [] => True
  | x :: xs, y :: ys => (∀ j, j < y.length → Pat ss x.atom (ltAt y j).atom) ∧ PatAll ss xs ys
section
variable {ss : List Sym} {xs : List Lt} {ys : List (List Lt)} {T θ : Nat → List Int} {ps qs : List Nat}
theorem FitR.length : ∀ {xs : List Lt} {ys : List (List Lt)} {ps : List Nat}, FitR θ xs ys ps → ps.length = xs.length
  | [], _, [], _ => rfl
  | x :: xs, y :: ys, j :: ps, h => by rw [List.length_cons, List.length_cons, FitR.length h.2.2.2]
theorem fitP_sound (hp : PatAll ss xs ys) (hT : TOk ss T) (h : fitP ss xs ys T = some ps) :
    ∃ T', TOk ss T' ∧ (∀ v, T v ≠ [] → T' v = T v) ∧ ∀ θ : Nat → List Int, (∀ v, T' v ≠ [] → θ v = T' v) → FitR θ xs ys ps := by
  induction xs generalizing ys T ps with
  | nil =>
    unfold fitP at h
    injection h with h
    subst h
    exact ⟨T, hT, fun _ _ => rfl, fun _ _ => by unfold FitR; trivial⟩
  | cons x xs ih =>
    cases ys with
    | nil => cases h
    | cons y ys =>
      unfold fitP at h
      obtain ⟨j, r, rfl, _, hj, hf⟩ := fstFrom_some h
      rw [Nat.zero_add] at hj
      split at hf
      · rename_i hn
        split at hf
        · rename_i T1 hm
          obtain ⟨i1, i2, i3, i4⟩ := (hp.1 j hj).sound hm hT
          obtain ⟨T2, t1, t2, t3⟩ := ih hp.2 i4 hf
          refine ⟨T2, t1, fun v hv => ?_, fun θ hθ => ⟨hj, hn, ?_, t3 θ hθ⟩⟩
          · have e := i1 v hv
            rw [t2 v (by rw [e]; exact hv), e]
          · rw [← i3]
            refine ap_on fun c hc h0 => ?_
            have h1 := i2 c hc h0
            have h2 := t2 _ h1
            rw [hθ _ (by rw [h2]; exact h1), h2]
        · cases hf
      · cases hf
theorem fitP_least (hp : PatAll ss xs ys) (hθ : Sub 24 ss θ) (hT : ∀ v, T v = [] ∨ T v = θ v) (h : FitR θ xs ys qs) : ∃ ps, fitP ss xs ys T = some ps ∧ leL ps qs := by
  induction xs generalizing ys T qs with
  | nil => exact ⟨[], rfl, by unfold leL; trivial⟩
  | cons x xs ih =>
    cases ys with
    | nil => cases h
    | cons y ys =>
      cases qs with
      | nil => cases h
      | cons j qs =>
        obtain ⟨hj, hn, ha, hr⟩ := h
        obtain ⟨T1, hm, hT1⟩ := (hp.1 j hj).complete hθ ha hT
        obtain ⟨ps, h1, h2⟩ := ih hp.2 hT1 hr
        have hf : (fun j => if (ltAt y j).neg = x.neg then (match mt ss (ltAt y j).atom T 0 x.atom with | some T' => fitP ss xs ys T' | none => none) else none) j = some ps := by
          show (if (ltAt y j).neg = x.neg then (match mt ss (ltAt y j).atom T 0 x.atom with | some T' => fitP ss xs ys T' | none => none) else none) = some ps
          rw [if_pos hn, hm]; exact h1
        obtain ⟨j', r', e1, e2⟩ := fstFrom_least (f := fun j => if (ltAt y j).neg = x.neg then (match mt ss (ltAt y j).atom T 0 x.atom with | some T' => fitP ss xs ys T' | none => none) else none) hf (Nat.zero_le _) (by omega : j < 0 + y.length)
        refine ⟨j' :: r', e1, ?_⟩
        rcases e2 with e2 | ⟨rfl, rfl⟩
        · exact .inl e2
        · exact .inr ⟨rfl, h2⟩
/-- What stands for variables, made whole. -/
theorem sub_st {T : Nat → List Int} (h : TOk ss T) : Sub 24 ss (stT T) := fun v hv => (st_ok h hv).1
theorem st_same {T : Nat → List Int} {v : Nat} (h : T v ≠ []) : stT T v = T v := by unfold stT; rw [if_neg h]
/-- A row of places that fits and is the least one is the one that is told. -/
theorem fitP_unique (hp : PatAll ss xs ys) (hθ : Sub 24 ss θ) (h : FitR θ xs ys qs) (hl : ∀ θ' ps, Sub 24 ss θ' → FitR θ' xs ys ps → leL qs ps) : fitP ss xs ys noT = some qs := by
  obtain ⟨ps, h1, h2⟩ := fitP_least (T := noT) hp hθ (fun _ => .inl rfl) h
  obtain ⟨T', t1, _, t3⟩ := fitP_sound hp TOk.no h1
  have hf := t3 (stT T') (fun v hv => st_same hv)
  rw [h1, leL.antisymm (by rw [hf.length, h.length]) h2 (hl _ _ (sub_st t1) hf)]
theorem fitP_none (hp : PatAll ss xs ys) (h : fitP ss xs ys noT = none) (hθ : Sub 24 ss θ) : ¬ FitR θ xs ys qs := by
  intro hf
  obtain ⟨ps, h1, _⟩ := fitP_least (T := noT) hp hθ (fun _ => .inl rfl) hf
  rw [h] at h1; cases h1
end
end Go.Proofs.YtcjpopjcpgipjaaDoor

namespace Go.Proofs.YtcjpopjcpgipjaaDoor
open Go.RowKit
set_option linter.unusedSimpArgs false
set_option linter.unusedVariables false
set_option maxRecDepth 100000

def apL (θ : Nat → List Int) (l : Lt) : Lt := ⟨l.neg, ap θ l.atom⟩
/-- With this for its variables a clause's parts are among the other one's. -/
structure SaysW (ss : List Sym) (c d : Cl) (θ : Nat → List Int) : Prop where
  sub : Sub 24 ss θ
  lits : ∀ l ∈ c.lits, apL θ l ∈ d.lits
  tups : ∀ t ∈ c.tups, ap θ t ∈ d.tups
  conds : ∀ l ∈ c.conds, apL θ l ∈ d.conds
def Says (ss : List Sym) (c d : Cl) : Prop := ∃ θ, SaysW ss c d θ
def mkT (t : List Int) : Lt := ⟨false, t⟩
/-- What has to become one of which, in a row. -/
def itemsC (c : Cl) : List Lt := c.lits ++ (c.tups.map mkT ++ c.conds)
def targC (c d : Cl) : List (List Lt) := List.replicate c.lits.length d.lits ++ (List.replicate c.tups.length (d.tups.map mkT) ++ List.replicate c.conds.length d.conds)
/-- The places. -/
def subO (ss : List Sym) (c d : Cl) : Option (List Nat) := fitP ss (itemsC c) (targC c d) noT
section
variable {ss : List Sym} {θ : Nat → List Int} {xs xs' : List Lt} {ys ys' : List (List Lt)} {y : List Lt} {c d : Cl}
theorem FitR.append : ∀ {xs : List Lt} {ys : List (List Lt)} {p : List Nat} {p' : List Nat}, FitR θ xs ys p → FitR θ xs' ys' p' → ys.length = xs.length → FitR θ (xs ++ xs') (ys ++ ys') (p ++ p')
  | [], [], [], _, _, h', _ => h'
  | [], _ :: _, _, _, _, _, hl => by simp at hl
  | x :: xs, [], _, _, h, _, _ => by cases h
  | x :: xs, y :: ys, [], _, h, _, _ => by cases h
  | x :: xs, y :: ys, j :: p, _, h, h', hl => ⟨h.1, h.2.1, h.2.2.1, FitR.append h.2.2.2 h' (by simpa using hl)⟩
theorem FitR.parts : ∀ {xs : List Lt} {ys : List (List Lt)} {ps : List Nat}, FitR θ (xs ++ xs') (ys ++ ys') ps → ys.length = xs.length → ∃ p p', ps = p ++ p' ∧ FitR θ xs ys p ∧ FitR θ xs' ys' p'
  | [], [], ps, h, _ => ⟨[], ps, rfl, by unfold FitR; trivial, h⟩
  | [], _ :: _, _, _, hl => by simp at hl
  | x :: xs, [], _, _, hl => by simp at hl
  | x :: xs, y :: ys, [], h, _ => by cases h
  | x :: xs, y :: ys, j :: ps, h, hl => by
    obtain ⟨p, p', e, h1, h2⟩ := FitR.parts (xs := xs) (ys := ys) (ps := ps) h.2.2.2 (by simpa using hl)
    exact ⟨j :: p, p', by rw [e]; rfl, ⟨h.1, h.2.1, h.2.2.1, h1⟩, h2⟩
theorem ltAt_apL {x : Lt} (h : apL θ x ∈ y) : ∃ j, j < y.length ∧ (ltAt y j).neg = x.neg ∧ ap θ x.atom = (ltAt y j).atom := by
  obtain ⟨j, hj, e⟩ := mem_ltAt h
  exact ⟨j, hj, by rw [e]; rfl, by rw [e]; rfl⟩
theorem FitR.rep (h : ∀ x ∈ xs, apL θ x ∈ y) : ∃ ps, FitR θ xs (List.replicate xs.length y) ps := by
  induction xs with
  | nil => exact ⟨[], by unfold FitR; trivial⟩
  | cons x xs ih =>
    obtain ⟨ps, hps⟩ := ih fun z hz => h z (List.mem_cons_of_mem _ hz)
    obtain ⟨j, h1, h2, h3⟩ := ltAt_apL (h x (List.mem_cons_self ..))
    exact ⟨j :: ps, h1, h2, h3, hps⟩
theorem FitR.of_rep : ∀ {xs : List Lt} {n : Nat} {ps : List Nat}, FitR θ xs (List.replicate n y) ps → n = xs.length → ∀ x ∈ xs, apL θ x ∈ y
  | [], _, _, _, _, x, hx => by cases hx
  | x :: xs, 0, _, _, hn, _, _ => by simp at hn
  | x :: xs, n + 1, [], h, _, _, _ => by cases h
  | x :: xs, n + 1, j :: ps, h, hn, z, hz => by
    obtain ⟨h1, h2, h3, h4⟩ := h
    rcases List.mem_cons.1 hz with rfl | hz
    · have : apL θ z = ltAt y j := by
        unfold apL; rw [h3, ← h2]
      rw [this]; exact ltAt_mem h1
    · exact FitR.of_rep (n := n) h4 (by simpa using hn) z hz
theorem PatAll.append : ∀ {xs : List Lt} {ys : List (List Lt)}, PatAll ss xs ys → PatAll ss xs' ys' → ys.length = xs.length → PatAll ss (xs ++ xs') (ys ++ ys')
  | [], [], _, h', _ => h'
  | [], _ :: _, _, _, hl => by simp at hl
  | x :: xs, [], _, _, hl => by simp at hl
  | x :: xs, y :: ys, h, h', hl => ⟨h.1, PatAll.append h.2 h' (by simpa using hl)⟩
theorem PatAll.rep (h : ∀ x ∈ xs, ∀ z ∈ y, Pat ss x.atom z.atom) : PatAll ss xs (List.replicate xs.length y) := by
  induction xs with
  | nil => unfold PatAll; trivial
  | cons x xs ih => exact ⟨fun j hj => h x (List.mem_cons_self ..) _ (ltAt_mem hj), ih fun z hz => h z (List.mem_cons_of_mem _ hz)⟩
theorem pat_all (hc : MayC ss c) (hd : MayC ss d) : PatAll ss (itemsC c) (targC c d) := by
  refine PatAll.append (PatAll.rep fun x hx z hz => .inr ⟨hc.lits x hx, hd.lits z hz⟩) (PatAll.append ?_ (PatAll.rep fun x hx z hz => .inr ⟨hc.conds x hx, hd.conds z hz⟩) (by simp)) (by simp)
  have := PatAll.rep (ss := ss) (xs := c.tups.map mkT) (y := d.tups.map mkT) fun x hx z hz => by
    obtain ⟨t, ht, rfl⟩ := List.mem_map.1 hx
    obtain ⟨u, hu, rfl⟩ := List.mem_map.1 hz
    exact .inl ⟨(hc.tups t ht).1, (hd.tups u hu).1⟩
  rwa [List.length_map] at this
theorem fit_says (h : SaysW ss c d θ) : ∃ ps, FitR θ (itemsC c) (targC c d) ps := by
  obtain ⟨p1, h1⟩ := FitR.rep h.lits
  obtain ⟨p2, h2⟩ := FitR.rep (θ := θ) (xs := c.tups.map mkT) (y := d.tups.map mkT) fun x hx => by
    obtain ⟨t, ht, rfl⟩ := List.mem_map.1 hx
    exact List.mem_map.2 ⟨ap θ t, h.tups t ht, rfl⟩
  obtain ⟨p3, h3⟩ := FitR.rep h.conds
  rw [List.length_map] at h2
  exact ⟨_, FitR.append h1 (FitR.append h2 h3 (by simp)) (by simp)⟩
theorem says_fit {ps : List Nat} (hs : Sub 24 ss θ) (h : FitR θ (itemsC c) (targC c d) ps) : SaysW ss c d θ := by
  obtain ⟨p1, q, _, h1, h2⟩ := FitR.parts h (by simp)
  obtain ⟨p2, p3, _, h2, h3⟩ := FitR.parts h2 (by simp)
  refine ⟨hs, FitR.of_rep h1 rfl, fun t ht => ?_, FitR.of_rep h3 rfl⟩
  have := FitR.of_rep h2 (by simp) (mkT t) (List.mem_map_of_mem ht)
  obtain ⟨u, hu, e⟩ := List.mem_map.1 this
  have : u = ap θ t := by
    have := congrArg Lt.atom e
    exact this
  rw [← this]; exact hu
theorem subO_some {ps : List Nat} (hc : MayC ss c) (hd : MayC ss d) (h : subO ss c d = some ps) : Says ss c d := by
  obtain ⟨T, t1, _, t3⟩ := fitP_sound (pat_all hc hd) TOk.no h
  exact ⟨stT T, says_fit (sub_st t1) (t3 _ fun v hv => st_same hv)⟩
theorem subO_there (hc : MayC ss c) (hd : MayC ss d) (h : Says ss c d) : ∃ ps, subO ss c d = some ps := by
  obtain ⟨θ, h⟩ := h
  obtain ⟨qs, hq⟩ := fit_says h
  obtain ⟨ps, h1, _⟩ := fitP_least (T := noT) (pat_all hc hd) h.sub (fun _ => .inl rfl) hq
  exact ⟨ps, h1⟩
theorem subO_none (hc : MayC ss c) (hd : MayC ss d) (h : subO ss c d = none) : ¬ Says ss c d := fun q => by
  obtain ⟨ps, e⟩ := subO_there hc hd q
  rw [h] at e; cases e
end
end Go.Proofs.YtcjpopjcpgipjaaDoor

namespace Go.Proofs.YtcjpopjcpgipjaaDoor
open Go.RowKit
set_option linter.unusedSimpArgs false
set_option linter.unusedVariables false
set_option maxRecDepth 100000

def itAt (L : List (List Lt)) (i : Nat) : List Lt := L.getD i []
theorem itAt_get {L : List (List Lt)} {i : Nat} (h : i < L.length) : L[i]? = some (itAt L i) := by
  unfold itAt; rw [List.getD_eq_getElem?_getD, List.getElem?_eq_getElem h]; rfl
def natsJ (ps : List Nat) : List Int := ps.map Int.ofNat
theorem PatAll.at_ {ss : List Sym} : ∀ {xs : List Lt} {ys : List (List Lt)}, PatAll ss xs ys → ∀ i, i < xs.length → i < ys.length → ∀ j, j < (itAt ys i).length → Pat ss (ltAt xs i).atom (ltAt (itAt ys i) j).atom
  | x :: xs, y :: ys, h, 0, _, _, j, hj => h.1 j hj
  | x :: xs, y :: ys, h, i + 1, h1, h2, j, hj => PatAll.at_ h.2 i (by simpa using h1) (by simpa using h2) j hj
theorem targ_lits {c d : Cl} {i : Nat} (h : i < c.lits.length) : itAt (targC c d) i = d.lits := by
  unfold itAt targC
  rw [List.getD_eq_getElem?_getD, List.getElem?_append_left (by rw [List.length_replicate]; exact h), List.getElem?_replicate, if_pos h]; rfl
theorem targ_tups {c d : Cl} {i : Nat} (h1 : ¬ i < c.lits.length) (h : i < c.lits.length + c.tups.length) : itAt (targC c d) i = d.tups.map mkT := by
  unfold itAt targC
  rw [List.getD_eq_getElem?_getD, List.getElem?_append_right (by rw [List.length_replicate]; omega), List.length_replicate, List.getElem?_append_left (by rw [List.length_replicate]; omega), List.getElem?_replicate, if_pos (by omega)]; rfl
theorem targ_conds {c d : Cl} {i : Nat} (h1 : ¬ i < c.lits.length + c.tups.length) (h : i < c.lits.length + c.tups.length + c.conds.length) : itAt (targC c d) i = d.conds := by
  unfold itAt targC
  rw [List.getD_eq_getElem?_getD, List.getElem?_append_right (by rw [List.length_replicate]; omega), List.length_replicate, List.getElem?_append_right (by rw [List.length_replicate]; omega), List.length_replicate, List.getElem?_replicate, if_pos (by omega)]; rfl
theorem targ_len {c d : Cl} : (targC c d).length = c.lits.length + c.tups.length + c.conds.length := by unfold targC; simp; omega
theorem items_len {c : Cl} : (itemsC c).length = c.lits.length + c.tups.length + c.conds.length := by unfold itemsC; simp; omega
end Go.Proofs.YtcjpopjcpgipjaaDoor

namespace Go.Proofs.YtcjpopjcpgipjaaDoor
open Go.RowKit
set_option linter.unusedSimpArgs false
set_option linter.unusedVariables false
set_option maxRecDepth 100000

/-- A part of one clause, its number; a part of the other one that it can become; what stands for variables then. -/
structure Pr where
  part : Nat
  idx : Nat
  pcs : Nat → List Int
def agrB (P Q : Nat → List Int) : Bool := (List.range 24).all fun v => decide (P v = [] ∨ Q v = [] ∨ P v = Q v)
theorem agr_iff {P Q : Nat → List Int} : agrB P Q = true ↔ ∀ v, v < 24 → P v = [] ∨ Q v = [] ∨ P v = Q v := by
  unfold agrB
  rw [List.all_eq_true]
  constructor
  · intro h v hv
    exact of_decide_eq_true (h v (List.mem_range.2 hv))
  · intro h v hv
    exact decide_eq_true (h v (List.mem_range.1 hv))
def onePr (ss : List Sym) (k : Nat) (x z : Lt) (i : Nat) : List Pr :=
  if z.neg = x.neg then (match mt ss z.atom noT 0 x.atom with | some P => [⟨k, i, P⟩] | none => []) else []
def rowPr (ss : List Sym) (k : Nat) (x : Lt) (y : List Lt) (n : Nat) : List Pr := (List.range n).flatMap fun i => onePr ss k x (ltAt y i) i
def allPr (ss : List Sym) (xs : List Lt) (ys : List (List Lt)) (n : Nat) : List Pr := (List.range n).flatMap fun k => rowPr ss k (ltAt xs k) (itAt ys k) (itAt ys k).length
section
variable {ss : List Sym} {xs : List Lt} {ys : List (List Lt)} {x z : Lt} {y : List Lt} {k i n : Nat} {p : Pr}
theorem rowPr_succ : rowPr ss k x y (n + 1) = rowPr ss k x y n ++ onePr ss k x (ltAt y n) n := by unfold rowPr; rw [List.range_succ, List.flatMap_append]; simp
theorem allPr_succ : allPr ss xs ys (n + 1) = allPr ss xs ys n ++ rowPr ss n (ltAt xs n) (itAt ys n) (itAt ys n).length := by unfold allPr; rw [List.range_succ, List.flatMap_append]; simp
theorem rowPr_zero : rowPr ss k x y 0 = [] := rfl
theorem allPr_zero : allPr ss xs ys 0 = [] := rfl
theorem mem_onePr : p ∈ onePr ss k x z i ↔ p.part = k ∧ p.idx = i ∧ z.neg = x.neg ∧ mt ss z.atom noT 0 x.atom = some p.pcs := by
  unfold onePr
  by_cases h : z.neg = x.neg
  · rw [if_pos h]
    cases hm : mt ss z.atom noT 0 x.atom with
    | none => simp
    | some P =>
      obtain ⟨a, b, c⟩ := p
      rw [List.mem_singleton, Pr.mk.injEq]
      show a = k ∧ b = i ∧ c = P ↔ a = k ∧ b = i ∧ z.neg = x.neg ∧ some P = some c
      rw [Option.some.injEq]
      exact ⟨fun ⟨h1, h2, h3⟩ => ⟨h1, h2, h, h3.symm⟩, fun ⟨h1, h2, _, h3⟩ => ⟨h1, h2, h3.symm⟩⟩
  · rw [if_neg h]; simp [h]
theorem onePr_length : (onePr ss k x z i).length ≤ 1 := by
  unfold onePr
  split
  · split <;> simp
  · simp
theorem rowPr_length : (rowPr ss k x y n).length ≤ n := by
  induction n with
  | zero => simp [rowPr_zero]
  | succ n ih =>
    rw [rowPr_succ, List.length_append]
    have := onePr_length (ss := ss) (k := k) (x := x) (z := ltAt y n) (i := n)
    omega
theorem mem_rowPr : p ∈ rowPr ss k x y n ↔ p.part = k ∧ p.idx < n ∧ (ltAt y p.idx).neg = x.neg ∧ mt ss (ltAt y p.idx).atom noT 0 x.atom = some p.pcs := by
  unfold rowPr
  rw [List.mem_flatMap]
  constructor
  · rintro ⟨i, hi, h⟩
    obtain ⟨h1, h2, h3, h4⟩ := mem_onePr.1 h
    rw [h2]
    exact ⟨h1, List.mem_range.1 hi, h3, h4⟩
  · rintro ⟨h1, h2, h3, h4⟩
    exact ⟨p.idx, List.mem_range.2 h2, mem_onePr.2 ⟨h1, rfl, h3, h4⟩⟩
theorem mem_allPr : p ∈ allPr ss xs ys n ↔ p.part < n ∧ p.idx < (itAt ys p.part).length ∧ (ltAt (itAt ys p.part) p.idx).neg = (ltAt xs p.part).neg ∧ mt ss (ltAt (itAt ys p.part) p.idx).atom noT 0 (ltAt xs p.part).atom = some p.pcs := by
  unfold allPr
  rw [List.mem_flatMap]
  constructor
  · rintro ⟨k, hk, h⟩
    obtain ⟨h1, h2, h3, h4⟩ := mem_rowPr.1 h
    rw [h1]
    exact ⟨List.mem_range.1 hk, h2, h3, h4⟩
  · rintro ⟨h1, h2, h3, h4⟩
    exact ⟨p.part, List.mem_range.2 h1, mem_rowPr.2 ⟨rfl, h2, h3, h4⟩⟩
def ltPr (p q : Pr) : Prop := p.part < q.part ∨ (p.part = q.part ∧ p.idx < q.idx)
theorem rowPr_up : (rowPr ss k x y n).Pairwise ltPr := by
  unfold rowPr
  rw [List.pairwise_flatMap]
  constructor
  · intro i hi
    unfold onePr
    split
    · split <;> simp
    · simp
  · refine List.Pairwise.imp ?_ List.pairwise_lt_range
    intro i j hij p hp q hq
    have h1 := mem_onePr.1 hp
    have h2 := mem_onePr.1 hq
    exact .inr ⟨by rw [h1.1, h2.1], by rw [h1.2.1, h2.2.1]; exact hij⟩
theorem allPr_up : (allPr ss xs ys n).Pairwise ltPr := by
  unfold allPr
  rw [List.pairwise_flatMap]
  constructor
  · intro i hi; exact rowPr_up
  · refine List.Pairwise.imp ?_ List.pairwise_lt_range
    intro i j hij p hp q hq
    have h1 := mem_rowPr.1 hp
    have h2 := mem_rowPr.1 hq
    exact .inl (by rw [h1.1, h2.1]; exact hij)
end
/-- What is in the one set and not in the other one. -/
def dif (a b : Nat) : Nat := a ^^^ (a &&& b)
theorem dif_bit {a b j : Nat} : (dif a b).testBit j = (a.testBit j && !b.testBit j) := by
  unfold dif
  rw [Nat.testBit_xor, Nat.testBit_and]
  cases a.testBit j <;> cases b.testBit j <;> rfl
def wAt (os : List Nat) (k : Nat) : Nat := os.getD k 0
def restW (os fs : List Nat) (k S j : Nat) : Nat := dif (S &&& wAt fs j) (wAt os k)
/-- A choice of pairs of the set S, for the parts from the k-th on. -/
def Sel (os fs : List Nat) (K : Nat) : Nat → Nat → List Nat → Prop
  | k, _, [] => k = K
  | k, S, j :: js => k < K ∧ S.testBit j = true ∧ (wAt os k).testBit j = true ∧ Sel os fs K (k + 1) (restW os fs k S j) js
section
variable {os fs : List Nat} {K k S S' j : Nat} {js : List Nat}
theorem restW_bit {i : Nat} : (restW os fs k S j).testBit i = (S.testBit i && (wAt fs j).testBit i && !(wAt os k).testBit i) := by
  unfold restW; rw [dif_bit, Nat.testBit_and]
theorem Sel.mono : ∀ {js : List Nat} {k S S' : Nat}, Sel os fs K k S js → (∀ i, S.testBit i = true → S'.testBit i = true) → Sel os fs K k S' js
  | [], _, _, _, h, _ => h
  | j :: js, k, S, S', h, hs => ⟨h.1, hs j h.2.1, h.2.2.1, Sel.mono h.2.2.2 fun i hi => by
      rw [restW_bit] at hi ⊢
      simp only [Bool.and_eq_true] at hi ⊢
      exact ⟨⟨hs i hi.1.1, hi.1.2⟩, hi.2⟩⟩
theorem Sel.open_ : ∀ {js : List Nat} {k S : Nat}, Sel os fs K k S js → ∀ m, k ≤ m → m < K → S &&& wAt os m ≠ 0
  | [], k, S, h, m, h1, h2 => by have : k = K := h; omega
  | j :: js, k, S, h, m, h1, h2 => by
    rcases Nat.eq_or_lt_of_le h1 with rfl | h1
    · intro e
      have := congrArg (fun x => Nat.testBit x j) e
      rw [show Nat.testBit (S &&& wAt os k) j = (S.testBit j && (wAt os k).testBit j) from Nat.testBit_and .., h.2.1, h.2.2.1] at this
      simp at this
    · have := Sel.open_ h.2.2.2 m (by omega) h2
      intro e
      apply this
      apply Nat.eq_of_testBit_eq
      intro i
      have := congrArg (fun x => Nat.testBit x i) e
      simp only [Nat.testBit_and, Nat.zero_testBit] at this ⊢
      rw [restW_bit]
      cases q : S.testBit i <;> cases q2 : (wAt os m).testBit i <;> simp_all
theorem Sel.length : ∀ {js : List Nat} {k S : Nat}, Sel os fs K k S js → k + js.length = K
  | [], k, S, h => h
  | j :: js, k, S, h => by have := Sel.length h.2.2.2; rw [List.length_cons]; omega
end
/-- The pairs, which of them belong to a part, which agree. -/
structure Prs (ss : List Sym) (xs : List Lt) (ys : List (List Lt)) (PS : List Pr) (os fs : List Nat) : Prop where
  all_ : PS = allPr ss xs ys xs.length
  of_ : ∀ k, k < xs.length → ∀ j, (wAt os k).testBit j = true ↔ ∃ p, PS[j]? = some p ∧ p.part = k
  fit : ∀ j j', j < PS.length → ((wAt fs j).testBit j' = true ↔ j < j' ∧ ∃ p q, PS[j]? = some p ∧ PS[j']? = some q ∧ agrB q.pcs p.pcs = true)
section
variable {ss : List Sym} {xs : List Lt} {ys : List (List Lt)} {PS : List Pr} {os fs : List Nat} {θ T : Nat → List Int}
def idxAt (PS : List Pr) (j : Nat) : Nat := (PS.getD j ⟨0, 0, noT⟩).idx
theorem idxAt_get {j : Nat} {p : Pr} (h : PS[j]? = some p) : idxAt PS j = p.idx := by unfold idxAt; rw [List.getD_eq_getElem?_getD, h]; rfl
theorem drop_lt {k : Nat} (h : k < xs.length) : xs.drop k = ltAt xs k :: xs.drop (k + 1) := by
  rw [List.drop_eq_getElem_cons h]
  congr 1
  unfold ltAt
  rw [List.getD_eq_getElem?_getD, List.getElem?_eq_getElem h]; rfl
theorem drop_it {k : Nat} (h : k < ys.length) : ys.drop k = itAt ys k :: ys.drop (k + 1) := by
  rw [List.drop_eq_getElem_cons h]
  congr 1
  unfold itAt
  rw [List.getD_eq_getElem?_getD, List.getElem?_eq_getElem h]; rfl
theorem pat_codes {a b : List Int} (h : Pat ss a b) : ∀ c ∈ a, -24 ≤ c := by
  rcases h with ⟨h, _⟩ | ⟨h, _⟩
  · exact row_ge h
  · obtain ⟨p, s, rfl, hp, _, _, hs, _⟩ := atom_parts h
    intro c hc
    rcases List.mem_cons.1 hc with rfl | hc
    · omega
    · exact row_ge hs c hc
theorem Prs.ok (h : Prs ss xs ys PS os fs) (hp : PatAll ss xs ys) (hl : ys.length = xs.length) {j : Nat} {p : Pr} (hj : PS[j]? = some p) :
    p.part < xs.length ∧ p.idx < (itAt ys p.part).length ∧ (ltAt (itAt ys p.part) p.idx).neg = (ltAt xs p.part).neg ∧ TOk ss p.pcs ∧
    (∀ c ∈ (ltAt xs p.part).atom, c < 0 → p.pcs (-1 - c).toNat ≠ []) ∧ ap p.pcs (ltAt xs p.part).atom = (ltAt (itAt ys p.part) p.idx).atom ∧ (∀ c ∈ (ltAt xs p.part).atom, -24 ≤ c) := by
  have hm : p ∈ PS := List.mem_of_getElem? hj
  rw [h.all_, mem_allPr] at hm
  obtain ⟨h1, h2, h3, h4⟩ := hm
  have hpt := hp.at_ p.part h1 (by omega) p.idx h2
  obtain ⟨_, s2, s3, s4⟩ := hpt.sound h4 TOk.no
  exact ⟨h1, h2, h3, s4, s2, s3, pat_codes hpt⟩
/-- A choice of pairs that agree makes places that fit. -/
theorem Prs.sound (h : Prs ss xs ys PS os fs) (hp : PatAll ss xs ys) (hl : ys.length = xs.length) : ∀ {js : List Nat} {k S : Nat} {T : Nat → List Int}, Sel os fs xs.length k S js → TOk ss T →
    (∀ j p, S.testBit j = true → PS[j]? = some p → ∀ v, v < 24 → T v = [] ∨ p.pcs v = [] ∨ p.pcs v = T v) →
    ∃ T', TOk ss T' ∧ (∀ v, T v ≠ [] → T' v = T v) ∧ ∀ θ : Nat → List Int, (∀ v, T' v ≠ [] → θ v = T' v) → FitR θ (xs.drop k) (ys.drop k) (js.map (idxAt PS))
  | [], k, S, T, hs, hT, _ => by
    have : k = xs.length := hs
    subst this
    rw [List.drop_length, List.drop_eq_nil_of_le (by omega)]
    exact ⟨T, hT, fun _ _ => rfl, fun _ _ => by simp [FitR]⟩
  | j :: js, k, S, T, hs, hT, hag => by
    obtain ⟨hk, hS, hof, hr⟩ := hs
    obtain ⟨p, hj, hpk⟩ := (h.of_ k hk j).1 hof
    have hok := h.ok hp hl hj
    rw [hpk] at hok
    obtain ⟨_, o2, o3, o4, o5, o6, o7⟩ := hok
    have hjl : j < PS.length := (List.getElem?_eq_some_iff.1 hj).1
    let T1 : Nat → List Int := fun v => if T v = [] then p.pcs v else T v
    have hT1 : TOk ss T1 := fun v => by
      show (if T v = [] then p.pcs v else T v) = [] ∨ _
      by_cases e : T v = []
      · simp only [T1, if_pos e]; exact o4 v
      · simp only [T1, if_neg e]; exact hT v
    have hp1 : ∀ v, v < 24 → p.pcs v ≠ [] → T1 v = p.pcs v := fun v hv hne => by
      show (if T v = [] then p.pcs v else T v) = _
      by_cases e : T v = []
      · rw [if_pos e]
      · rw [if_neg e]
        rcases hag j p hS hj v hv with q | q | q
        · exact absurd q e
        · exact absurd q hne
        · exact q.symm
    obtain ⟨T', t1, t2, t3⟩ := h.sound hp hl (T := T1) hr hT1 fun i q hi hq v hv => by
      rw [restW_bit] at hi
      simp only [Bool.and_eq_true] at hi
      obtain ⟨_, p', q', e1, e2, hagr⟩ := (h.fit j i hjl).1 hi.1.2
      rw [hj] at e1; injection e1 with e1; subst e1
      rw [hq] at e2; injection e2 with e2; subst e2
      have hb := agr_iff.1 hagr v hv
      show (if T v = [] then p.pcs v else T v) = [] ∨ q.pcs v = [] ∨ q.pcs v = (if T v = [] then p.pcs v else T v)
      by_cases e : T v = []
      · rw [if_pos e]
        rcases hb with hb | hb | hb
        · exact .inr (.inl hb)
        · exact .inl hb
        · exact .inr (.inr hb)
      · rw [if_neg e]
        exact hag i q hi.1.1 hq v hv
    refine ⟨T', t1, fun v hv => ?_, fun θ hθ => ?_⟩
    · have : T1 v = T v := by
        show (if T v = [] then p.pcs v else T v) = T v
        rw [if_neg hv]
      rw [t2 v (by rw [this]; exact hv), this]
    · rw [drop_lt hk, drop_it (by omega), List.map_cons, idxAt_get hj]
      refine ⟨o2, o3, ?_, t3 θ hθ⟩
      rw [← o6]
      refine ap_on fun c hc h0 => ?_
      have h1 := o5 c hc h0
      have h2 := o7 c hc
      have h3 := hp1 _ (by omega : (-1 - c).toNat < 24) h1
      have h4 := t2 _ (by rw [h3]; exact h1)
      rw [hθ _ (by rw [h4, h3]; exact h1), h4, h3]
/-- Places that fit are those of a choice of pairs. -/
theorem Prs.there (h : Prs ss xs ys PS os fs) (hp : PatAll ss xs ys) (hl : ys.length = xs.length) (hθ : Sub 24 ss θ) : ∀ {ps : List Nat} {k S : Nat}, FitR θ (xs.drop k) (ys.drop k) ps → k ≤ xs.length →
    (∀ j p, PS[j]? = some p → k ≤ p.part → (∀ v, p.pcs v = [] ∨ p.pcs v = θ v) → S.testBit j = true) → ∃ js, Sel os fs xs.length k S js ∧ js.map (idxAt PS) = ps := by
  intro ps
  induction ps with
  | nil =>
    intro k S hf hk hs
    by_cases e : k = xs.length
    · exact ⟨[], e, rfl⟩
    · rw [drop_lt (by omega), drop_it (by omega)] at hf; cases hf
  | cons i ps ih =>
    intro k S hf hk hs
    by_cases e : k = xs.length
    · subst e; rw [List.drop_length] at hf; cases hf
    · have hk' : k < xs.length := by omega
      rw [drop_lt hk', drop_it (by omega)] at hf
      obtain ⟨f1, f2, f3, f4⟩ := hf
      have hpt := hp.at_ k hk' (by omega) i f1
      obtain ⟨P, hm, hP⟩ := hpt.complete hθ f3 (T := noT) (fun _ => .inl rfl)
      have hmem : (⟨k, i, P⟩ : Pr) ∈ PS := by
        rw [h.all_, mem_allPr]
        exact ⟨hk', f1, f2, hm⟩
      obtain ⟨j, hjl, hj⟩ := List.mem_iff_getElem.1 hmem
      have hj' : PS[j]? = some ⟨k, i, P⟩ := by rw [List.getElem?_eq_getElem hjl, hj]
      obtain ⟨js, s1, s2⟩ := ih (S := restW os fs k S j) f4 (by omega) fun j' p' hj2 hpart hP2 => by
        have hj2l : j' < PS.length := (List.getElem?_eq_some_iff.1 hj2).1
        rw [restW_bit, hs j' p' hj2 (by omega) hP2]
        have hlt : j < j' := by
          rcases Nat.lt_or_ge j j' with q | q
          · exact q
          · exfalso
            rcases Nat.eq_or_lt_of_le q with q | q
            · subst q; rw [hj'] at hj2; injection hj2 with e2; rw [← e2] at hpart; simp at hpart; omega
            · have hup := allPr_up (ss := ss) (xs := xs) (ys := ys) (n := xs.length)
              rw [← h.all_] at hup
              have := List.pairwise_iff_getElem.1 hup j' j hj2l hjl q
              rw [hj] at this
              have e3 : PS[j'] = p' := by
                rw [List.getElem?_eq_getElem hj2l] at hj2; injection hj2
              rw [e3] at this
              rcases this with this | this
              · have : p'.part < k := this; omega
              · have : p'.part = k := this.1; omega
        have hfit : (wAt fs j).testBit j' = true := (h.fit j j' hjl).2 ⟨hlt, _, _, hj', hj2, agr_iff.2 fun v hv => by
          rcases hP2 v with a | a
          · exact .inl a
          · rcases hP v with b | b
            · exact .inr (.inl b)
            · exact .inr (.inr (by rw [a]; exact b.symm))⟩
        have hnof : (wAt os k).testBit j' = false := by
          cases q : (wAt os k).testBit j' with
          | false => rfl
          | true =>
            obtain ⟨p2, e2, e3⟩ := (h.of_ k hk' j').1 q
            rw [hj2] at e2; injection e2 with e2; subst e2; omega
        rw [hfit, hnof]; rfl
      exact ⟨j :: js, ⟨hk', hs j _ hj' (Nat.le_refl _) hP, (h.of_ k hk' j).2 ⟨_, hj', rfl⟩, s1⟩, by rw [List.map_cons, idxAt_get hj', s2]⟩
/-- A choice that is less has places that are less. -/
theorem Prs.less (h : Prs ss xs ys PS os fs) : ∀ {js is : List Nat} {k S S' : Nat}, Sel os fs xs.length k S js → Sel os fs xs.length k S' is → leL js is → leL (js.map (idxAt PS)) (is.map (idxAt PS))
  | [], _, _, _, _, _, _, _ => by simp [leL]
  | j :: js, [], _, _, _, _, _, hle => by cases hle
  | j :: js, i :: is, k, S, S', hj, hi, hle => by
    obtain ⟨hk, _, j2, j3⟩ := hj
    obtain ⟨_, _, i2, i3⟩ := hi
    obtain ⟨p, p1, p2⟩ := (h.of_ k hk j).1 j2
    obtain ⟨q, q1, q2⟩ := (h.of_ k hk i).1 i2
    rw [List.map_cons, List.map_cons, idxAt_get p1, idxAt_get q1]
    rcases hle with hle | ⟨rfl, hle⟩
    · have hjl : j < PS.length := (List.getElem?_eq_some_iff.1 p1).1
      have hil : i < PS.length := (List.getElem?_eq_some_iff.1 q1).1
      have hup := allPr_up (ss := ss) (xs := xs) (ys := ys) (n := xs.length)
      rw [← h.all_] at hup
      have := List.pairwise_iff_getElem.1 hup j i hjl hil hle
      rw [List.getElem?_eq_getElem hjl] at p1; injection p1 with p1
      rw [List.getElem?_eq_getElem hil] at q1; injection q1 with q1
      rw [p1, q1] at this
      rcases this with this | this
      · omega
      · exact .inl this.2
    · rw [p1] at q1; injection q1 with q1; subst q1
      exact .inr ⟨rfl, Prs.less h j3 i3 hle⟩
/-- The least choice tells the places. -/
theorem Prs.some_ (h : Prs ss xs ys PS os fs) (hp : PatAll ss xs ys) (hl : ys.length = xs.length) {S : Nat} {js : List Nat} (hS : ∀ j, S.testBit j = true ↔ j < PS.length) (hs : Sel os fs xs.length 0 S js)
    (hm : ∀ is, Sel os fs xs.length 0 S is → leL js is) : fitP ss xs ys noT = some (js.map (idxAt PS)) := by
  obtain ⟨T, t1, _, t3⟩ := h.sound hp hl (T := noT) hs TOk.no fun _ _ _ _ _ _ => .inl rfl
  have hf := t3 (stT T) fun v hv => st_same hv
  rw [List.drop_zero, List.drop_zero] at hf
  refine fitP_unique hp (sub_st t1) hf fun θ' ps hθ' hps => ?_
  obtain ⟨is, i1, i2⟩ := h.there hp hl hθ' (ps := ps) (k := 0) (S := S) (by rw [List.drop_zero, List.drop_zero]; exact hps) (Nat.zero_le _) fun j p hj _ _ => (hS j).2 (List.getElem?_eq_some_iff.1 hj).1
  rw [← i2]
  exact h.less hs i1 (hm _ i1)
theorem Prs.none_ (h : Prs ss xs ys PS os fs) (hp : PatAll ss xs ys) (hl : ys.length = xs.length) {S : Nat} (hS : ∀ j, S.testBit j = true ↔ j < PS.length) (hs : ∀ js, ¬ Sel os fs xs.length 0 S js) : fitP ss xs ys noT = none := by
  cases hf : fitP ss xs ys noT with
  | none => rfl
  | some ps =>
    obtain ⟨T, t1, _, t3⟩ := fitP_sound hp TOk.no hf
    obtain ⟨is, i1, _⟩ := h.there hp hl (sub_st t1) (ps := ps) (k := 0) (S := S) (by rw [List.drop_zero, List.drop_zero]; exact t3 _ fun v hv => st_same hv) (Nat.zero_le _) fun j p hj _ _ => (hS j).2 (List.getElem?_eq_some_iff.1 hj).1
    exact absurd i1 (hs is)
end
end Go.Proofs.YtcjpopjcpgipjaaDoor

namespace Go.Proofs.YtcjpopjcpgipjaaDoor
open Go.RowKit
set_option linter.unusedSimpArgs false
set_option linter.unusedVariables false
set_option maxRecDepth 100000

section
variable {ss : List Sym} {θ θ2 : Nat → List Int} {c d e : Cl}
def varT : Nat → List Int := fun v => [-1 - (v : Int)]
theorem ap_varT (r : List Int) : ap varT r = r := ap_id fun c hc h0 => by
  show [-1 - (((-1 - c).toNat : Nat) : Int)] = [c]
  have : -1 - (((-1 - c).toNat : Nat) : Int) = c := by omega
  rw [this]
theorem Says.refl : Says ss c c :=
  ⟨varT, fun v hv => trm_var hv, fun l hl => by unfold apL; rw [ap_varT]; exact hl, fun t ht => by rw [ap_varT]; exact ht, fun l hl => by unfold apL; rw [ap_varT]; exact hl⟩
theorem apL_apL (l : Lt) : apL θ2 (apL θ l) = apL (fun v => ap θ2 (θ v)) l := by unfold apL; rw [ap_ap]
theorem Says.trans (h : Says ss c d) (k : Says ss d e) : Says ss c e := by
  obtain ⟨a, h⟩ := h
  obtain ⟨b, k⟩ := k
  refine ⟨fun v => ap b (a v), fun v hv => trm_ap k.sub (h.sub v hv), fun l hl => ?_, fun t ht => ?_, fun l hl => ?_⟩
  · rw [← apL_apL]; exact k.lits _ (h.lits l hl)
  · rw [← ap_ap]; exact k.tups _ (h.tups t ht)
  · rw [← apL_apL]; exact k.conds _ (h.conds l hl)
theorem ap_ren {f : Nat → Nat} {r : List Int} (h : ∀ v ∈ vrs r, θ v = [-1 - (f v : Int)]) : ap θ r = renR f r := by
  induction r with
  | nil => rfl
  | cons x r ih =>
    have ih' := ih fun v hv => h v (mem_vrs.2 (List.mem_cons_of_mem _ (mem_vrs.1 hv)))
    rw [ap_cons, ih']
    unfold ap1
    by_cases hx : x < 0
    · have hv : (-1 - x).toNat ∈ vrs (x :: r) := mem_vrs.2 (by
        have : -1 - (((-1 - x).toNat : Nat) : Int) = x := by omega
        rw [this]; exact List.mem_cons_self ..)
      rw [if_pos hx, h _ hv]
      show [_] ++ _ = ren f x :: renR f r
      rw [show ren f x = -1 - (f (-1 - x).toNat : Int) from by unfold ren; rw [if_pos hx]]
      rfl
    · rw [if_neg hx]
      show [x] ++ _ = ren f x :: renR f r
      rw [show ren f x = x from by unfold ren; rw [if_neg hx]]
      rfl
theorem apL_ren {f : Nat → Nat} {l : Lt} (h : ∀ v ∈ vrs l.atom, θ v = [-1 - (f v : Int)]) : apL θ l = renL f l := by unfold apL renL; rw [ap_ren h]
/-- A clause says as much as its normal one. -/
theorem MayC.says_norm (hc : MayC ss c) : Says ss c (norm c) := by
  have hT : ∀ v ∈ vrs (codesC c), (fun v => if v ∈ vrs (codesC c) then [-1 - (plc c v : Int)] else [-1 - (v : Int)]) v = [-1 - (plc c v : Int)] := fun v hv => by
    show (if v ∈ vrs (codesC c) then _ else _) = _
    rw [if_pos hv]
  refine ⟨fun v => if v ∈ vrs (codesC c) then [-1 - (plc c v : Int)] else [-1 - (v : Int)], fun v hv => ?_, fun l hl => ?_, fun t ht => ?_, fun l hl => ?_⟩
  · show trm 24 ss (if _ then _ else _) 1
    by_cases q : v ∈ vrs (codesC c)
    · rw [if_pos q]; exact trm_var (hc.plc_ok q)
    · rw [if_neg q]; exact trm_var hv
  · rw [apL_ren (f := plc c) fun v hv => hT v (row_vrs (lit_row hl) hv), norm_eq]
    exact List.mem_map_of_mem (mem_once.2 hl)
  · rw [ap_ren (f := plc c) fun v hv => hT v (row_vrs (tup_row ht) hv), norm_eq]
    exact List.mem_map_of_mem (mem_once.2 ht)
  · rw [apL_ren (f := plc c) fun v hv => hT v (row_vrs (cond_row hl) hv), norm_eq]
    exact List.mem_map_of_mem (mem_once.2 hl)
/-- Back from a normal clause's variables. -/
def unplc (c : Cl) (i : Nat) : Nat := (firsts (codesC (onceC c))).getD i 0
theorem unplc_plc {v : Nat} (hv : v ∈ vrs (codesC c)) : unplc c (plc c v) = v := by
  have hm : v ∈ firsts (codesC (onceC c)) := mem_once.2 (vrs_once.2 hv)
  unfold unplc plc
  have hl := List.idxOf_lt_length_of_mem hm
  rw [List.getD_eq_getElem?_getD, List.getElem?_eq_getElem hl]
  exact List.getElem_idxOf hl
theorem MayC.unplc_ok (hc : MayC ss c) (i : Nat) : unplc c i < 24 := by
  unfold unplc
  rw [List.getD_eq_getElem?_getD]
  cases q : (firsts (codesC (onceC c)))[i]? with
  | none => show 0 < 24; omega
  | some v => exact hc.var (vrs_once.1 (mem_once.1 (List.mem_of_getElem? q)))
theorem ren_back {r : List Int} (h : ∀ v ∈ vrs r, v ∈ vrs (codesC c)) : renR (unplc c) (renR (plc c) r) = r := by
  rw [renR_renR, renR_on (g := fun v => v) fun v hv => unplc_plc (h v hv), renR_id]
/-- The normal clause says as much as the clause. -/
theorem MayC.norm_says (hc : MayC ss c) : Says ss (norm c) c := by
  have hT : ∀ (r : List Int), ap (fun i => [-1 - (unplc c i : Int)]) r = renR (unplc c) r := fun r => ap_ren fun v _ => rfl
  refine ⟨fun i => [-1 - (unplc c i : Int)], fun v _ => trm_var (hc.unplc_ok v), fun l hl => ?_, fun t ht => ?_, fun l hl => ?_⟩
  · rw [norm_eq] at hl
    obtain ⟨k, hk, rfl⟩ := List.mem_map.1 hl
    have hk' := mem_once.1 hk
    have : apL (fun i => [-1 - (unplc c i : Int)]) (renL (plc c) k) = k := by
      unfold apL renL
      rw [hT, ren_back fun v hv => row_vrs (lit_row hk') hv]
    rw [this]; exact hk'
  · rw [norm_eq] at ht
    obtain ⟨k, hk, rfl⟩ := List.mem_map.1 ht
    have hk' := mem_once.1 hk
    rw [hT, ren_back fun v hv => row_vrs (tup_row hk') hv]; exact hk'
  · rw [norm_eq] at hl
    obtain ⟨k, hk, rfl⟩ := List.mem_map.1 hl
    have hk' := mem_once.1 hk
    have : apL (fun i => [-1 - (unplc c i : Int)]) (renL (plc c) k) = k := by
      unfold apL renL
      rw [hT, ren_back fun v hv => row_vrs (cond_row hk') hv]
    rw [this]; exact hk'
/-- What stands for variables makes a row no lighter. -/
theorem wt_ap_le (hm : mayB ss = true) (hs : Sub 24 ss θ) {r : List Int} (hr : ∀ x ∈ r, -24 ≤ x) : wtSum ss r ≤ wtSum ss (ap θ r) := by
  rw [wtSum_ap]
  have := sumVars_nonneg (g := fun c => wtSum ss (θ (-1 - c).toNat) - 1) (a := r) fun c hc h0 => by
    have h24 : (-1 - c).toNat < 24 := by have := hr c hc; omega
    have ht := hs _ h24
    have h1 := wt_len (trm_wp hm ht)
    have h2 := trm_pos ht
    show 0 ≤ wtSum ss (θ (-1 - c).toNat) - 1
    omega
  omega
end
end Go.Proofs.YtcjpopjcpgipjaaDoor
