/-
  Plain words: structures of a few things, what holds in them; a clause holds just where its normal one does: no program.
  Plain words: trivial clauses hold; all things for some variables, one after the other; weights of clauses: no program.
-/
import Derived.Test.YtcjpopjcpgipjaaDoorPlainCl
namespace Go.Proofs.YtcjpopjcpgipjaaDoor
open Go.RowKit
set_option linter.unusedSimpArgs false
set_option linter.unusedVariables false
set_option maxRecDepth 100000

/-- A structure: how many things there are, and what a symbol tells of things. -/
structure Md where
  size : Int
  look : Int → List Int → Int
section
variable {ss : List Sym} {m : Md} {env : Nat → Int} {f : Nat → Nat} {c : Cl}
/-- The values of the first k terms of a row, and what is left of it. -/
def ev (ss : List Sym) (m : Md) (env : Nat → Int) : Nat → Nat → List Int → List Int × List Int
  | 0, _, r => ([], r)
  | _ + 1, 0, r => ([], r)
  | _ + 1, _ + 1, [] => ([], [])
  | n + 1, k + 1, c :: r =>
    if c < 0 then ((env (-1 - c).toNat) :: (ev ss m env n k r).1, (ev ss m env n k r).2)
    else ((m.look c (ev ss m env n (symAt ss c.toNat).arity.toNat r).1 % m.size) :: (ev ss m env n k (ev ss m env n (symAt ss c.toNat).arity.toNat r).2).1, (ev ss m env n k (ev ss m env n (symAt ss c.toNat).arity.toNat r).2).2)
theorem ren_neg {x : Int} (h : x < 0) : ren f x = -1 - (f (-1 - x).toNat : Int) := by unfold ren; rw [if_pos h]
theorem ren_pos {x : Int} (h : ¬ x < 0) : ren f x = x := by unfold ren; rw [if_neg h]
theorem ev_ren (n k : Nat) (r : List Int) : ev ss m env n k (renR f r) = ((ev ss m (fun v => env (f v)) n k r).1, renR f (ev ss m (fun v => env (f v)) n k r).2) := by
  induction n generalizing k r with
  | zero => rfl
  | succ n ih =>
    cases k with
    | zero => rfl
    | succ k =>
      cases r with
      | nil => rfl
      | cons x r =>
        show ev ss m env (n + 1) (k + 1) (ren f x :: renR f r) = _
        by_cases hx : x < 0
        · rw [ren_neg hx]
          unfold ev
          have e : (-1 - (-1 - (f (-1 - x).toNat : Int))).toNat = f (-1 - x).toNat := by omega
          rw [if_pos (by omega), if_pos hx, ih, e]
        · rw [ren_pos hx]
          unfold ev
          rw [if_neg hx, if_neg hx, ih, ih]
theorem ev_on {env' : Nat → Int} (n k : Nat) (r : List Int) (h : ∀ v ∈ vrs r, env v = env' v) : ev ss m env n k r = ev ss m env' n k r ∧ ∀ x ∈ (ev ss m env' n k r).2, x ∈ r := by
  induction n generalizing k r with
  | zero => exact ⟨rfl, fun x hx => hx⟩
  | succ n ih =>
    cases k with
    | zero => exact ⟨rfl, fun x hx => hx⟩
    | succ k =>
      cases r with
      | nil => exact ⟨rfl, fun x hx => hx⟩
      | cons x r =>
        have hr : ∀ v ∈ vrs r, env v = env' v := fun v hv => h v (mem_vrs.2 (List.mem_cons_of_mem _ (mem_vrs.1 hv)))
        unfold ev
        by_cases hx : x < 0
        · rw [if_pos hx, if_pos hx]
          obtain ⟨h1, h2⟩ := ih k r hr
          rw [h1, h _ (mem_vrs.2 (by rw [neg_var hx]; exact List.mem_cons_self ..))]
          exact ⟨rfl, fun y hy => List.mem_cons_of_mem _ (h2 y hy)⟩
        · rw [if_neg hx, if_neg hx]
          obtain ⟨h1, h2⟩ := ih (symAt ss x.toNat).arity.toNat r hr
          rw [h1]
          obtain ⟨h3, h4⟩ := ih k (ev ss m env' n (symAt ss x.toNat).arity.toNat r).2 fun v hv => hr v (mem_vrs.2 (h2 _ (mem_vrs.1 hv)))
          rw [h3]
          exact ⟨rfl, fun y hy => List.mem_cons_of_mem _ (h2 y (h4 y hy))⟩
/-- The values of a row. -/
def vals (ss : List Sym) (m : Md) (env : Nat → Int) (r : List Int) : List Int := (ev ss m env (r.length + 1) r.length r).1
theorem vals_ren (r : List Int) : vals ss m env (renR f r) = vals ss m (fun v => env (f v)) r := by unfold vals; rw [renR_length, ev_ren]
theorem vals_on {env' : Nat → Int} {r : List Int} (h : ∀ v ∈ vrs r, env v = env' v) : vals ss m env r = vals ss m env' r := by unfold vals; rw [(ev_on _ _ r h).1]
/-- Does an atom hold? -/
def atomH (ss : List Sym) (m : Md) (env : Nat → Int) (a : List Int) : Bool :=
  if intAt a 0 = 0 then decide (intAt (vals ss m env a.tail) 0 = intAt (vals ss m env a.tail) 1) else decide (m.look (intAt a 0) (vals ss m env a.tail) % 2 = 1)
def litH (ss : List Sym) (m : Md) (env : Nat → Int) (l : Lt) : Bool := atomH ss m env l.atom != l.neg
/-- Does what is asked hold of a tuple? -/
def tupH (ss : List Sym) (m : Md) (env : Nat → Int) (t : List Int) : Bool := decide (m.look 101 (vals ss m env t) / 2 % 2 = 1)
def hereC (ss : List Sym) (m : Md) (env : Nat → Int) (c : Cl) : Bool := c.conds.any (fun l => !litH ss m env l) || (c.lits.any (litH ss m env) || c.tups.any (tupH ss m env))
theorem atomH_ren {a : List Int} (h : ∀ c ∈ a.head?, 0 ≤ c) : atomH ss m env (renR f a) = atomH ss m (fun v => env (f v)) a := by
  cases a with
  | nil => rfl
  | cons x r =>
    have hx : ¬ x < 0 := by have := h x rfl; omega
    have e : renR f (x :: r) = x :: renR f r := by unfold renR; rw [List.map_cons, ren_pos hx]
    rw [e]
    unfold atomH
    show (if x = 0 then decide (intAt (vals ss m env (renR f r)) 0 = intAt (vals ss m env (renR f r)) 1) else decide (m.look x (vals ss m env (renR f r)) % 2 = 1)) = _
    rw [vals_ren]; rfl
theorem lit_head {l : Lt} (h : litB ss l = true) : ∀ c ∈ l.atom.head?, 0 ≤ c := by
  obtain ⟨x, a⟩ := l
  cases a with
  | nil => intro c hc; cases hc
  | cons c0 r =>
    intro c hc
    simp only [List.head?_cons, Option.mem_def, Option.some.injEq] at hc
    subst hc
    have h' : atomB ss (c0 :: r) = true := h
    unfold atomB at h'
    simp only [Bool.and_eq_true, decide_eq_true_eq] at h'
    exact h'.1.1.1.1
theorem litH_ren {l : Lt} (h : litB ss l = true) : litH ss m env (renL f l) = litH ss m (fun v => env (f v)) l := by
  unfold litH renL
  show (atomH ss m env (renR f l.atom) != l.neg) = _
  rw [atomH_ren (lit_head h)]
theorem tail_vrs {a : List Int} {v : Nat} (h : v ∈ vrs a.tail) : v ∈ vrs a := mem_vrs.2 (List.mem_of_mem_tail (mem_vrs.1 h))
theorem litH_on {env' : Nat → Int} {l : Lt} (h : ∀ v ∈ vrs l.atom, env v = env' v) : litH ss m env l = litH ss m env' l := by
  unfold litH atomH
  rw [vals_on (env' := env') fun v hv => h v (tail_vrs hv)]
theorem tupH_ren (t : List Int) : tupH ss m env (renR f t) = tupH ss m (fun v => env (f v)) t := by unfold tupH; rw [vals_ren]
theorem tupH_on {env' : Nat → Int} {t : List Int} (h : ∀ v ∈ vrs t, env v = env' v) : tupH ss m env t = tupH ss m env' t := by unfold tupH; rw [vals_on h]
theorem any_mem_congr {α : Type} {s t : List α} (p : α → Bool) (h : ∀ x, x ∈ s ↔ x ∈ t) : s.any p = t.any p := by
  rw [Bool.eq_iff_iff, List.any_eq_true, List.any_eq_true]
  exact ⟨fun ⟨x, hx, q⟩ => ⟨x, (h x).1 hx, q⟩, fun ⟨x, hx, q⟩ => ⟨x, (h x).2 hx, q⟩⟩
theorem any_congr_on {α : Type} {s : List α} {p q : α → Bool} (h : ∀ x ∈ s, p x = q x) : s.any p = s.any q := by
  rw [Bool.eq_iff_iff, List.any_eq_true, List.any_eq_true]
  exact ⟨fun ⟨x, hx, e⟩ => ⟨x, hx, by rw [← h x hx]; exact e⟩, fun ⟨x, hx, e⟩ => ⟨x, hx, by rw [h x hx]; exact e⟩⟩
theorem hereC_once : hereC ss m env (onceC c) = hereC ss m env c := by
  unfold hereC
  show ((once c.conds).any _ || ((once c.lits).any _ || (once c.tups).any _)) = _
  rw [any_mem_congr _ (fun x => mem_once (xs := c.conds)), any_mem_congr _ (fun x => mem_once (xs := c.lits)), any_mem_congr _ (fun x => mem_once (xs := c.tups))]
theorem hereC_on {env' : Nat → Int} (h : ∀ v ∈ vrs (codesC c), env v = env' v) : hereC ss m env c = hereC ss m env' c := by
  unfold hereC
  rw [any_congr_on (fun l hl => by rw [litH_on (fun v hv => h v (row_vrs (cond_row hl) hv))]), any_congr_on (fun l hl => litH_on (fun v hv => h v (row_vrs (lit_row hl) hv))), any_congr_on (fun t ht => tupH_on (fun v hv => h v (row_vrs (tup_row ht) hv)))]
theorem hereC_ren (hl : ∀ l ∈ c.lits, litB ss l = true) (hc : ∀ l ∈ c.conds, litB ss l = true) : hereC ss m env (renC f c) = hereC ss m (fun v => env (f v)) c := by
  unfold hereC
  show ((c.conds.map (renL f)).any _ || ((c.lits.map (renL f)).any _ || (c.tups.map (renR f)).any _)) = _
  rw [List.any_map, List.any_map, List.any_map]
  have e1 : c.conds.any ((fun l => !litH ss m env l) ∘ renL f) = c.conds.any (fun l => !litH ss m (fun v => env (f v)) l) := any_congr_on (fun l h => by show (!litH ss m env (renL f l)) = _; rw [litH_ren (hc l h)])
  have e2 : c.lits.any (litH ss m env ∘ renL f) = c.lits.any (litH ss m fun v => env (f v)) := any_congr_on (fun l h => litH_ren (hl l h))
  have e3 : c.tups.any (tupH ss m env ∘ renR f) = c.tups.any (tupH ss m fun v => env (f v)) := any_congr_on (fun t h => tupH_ren t)
  rw [e1, e2, e3]
/-- A clause holds, whatever stands for variables. -/
def holdsC (ss : List Sym) (m : Md) (c : Cl) : Prop := ∀ env : Nat → Int, (∀ v, 0 ≤ env v ∧ env v < m.size) → hereC ss m env c = true
theorem MayC.here_norm (h : MayC ss c) : hereC ss m env (norm c) = hereC ss m (fun v => env (plc c v)) c := by
  rw [norm_eq, hereC_ren (fun l hl => h.lits l (mem_once.1 hl)) (fun l hl => h.conds l (mem_once.1 hl)), hereC_once]
theorem MayC.holds_norm (h : MayC ss c) : holdsC ss m (norm c) ↔ holdsC ss m c := by
  constructor
  · intro q env he
    have h1 := q (fun i => env ((firsts (codesC (onceC c))).getD i 0)) fun v => he _
    rw [h.here_norm] at h1
    rw [← h1]
    refine hereC_on fun v hv => ?_
    have hm : v ∈ firsts (codesC (onceC c)) := firsts_mem.2 hv
    show env v = env ((firsts (codesC (onceC c))).getD (plc c v) 0)
    congr 1
    unfold plc
    rw [List.getD_eq_getElem?_getD, List.getElem?_eq_getElem (List.idxOf_lt_length_of_mem hm), List.getElem_idxOf]
    rfl
  · intro q env he
    rw [h.here_norm]
    exact q _ fun v => he _
theorem ev_len (n k : Nat) (r : List Int) : (ev ss m env n k r).2.length ≤ r.length := by
  induction n generalizing k r with
  | zero => exact Nat.le_refl _
  | succ n ih =>
    cases k with
    | zero => exact Nat.le_refl _
    | succ k =>
      cases r with
      | nil => exact Nat.le_refl _
      | cons x r =>
        unfold ev
        by_cases hx : x < 0
        · rw [if_pos hx]; exact Nat.le_trans (ih k r) (by simp)
        · rw [if_neg hx]
          exact Nat.le_trans (ih k _) (Nat.le_trans (ih _ r) (by simp))
theorem ev_fuel (n : Nat) : ∀ (n' k : Nat) (r : List Int), r.length < n → r.length < n' → ev ss m env n k r = ev ss m env n' k r := by
  induction n with
  | zero => intro n' k r h; omega
  | succ n ih =>
    intro n' k r h h'
    cases n' with
    | zero => omega
    | succ n' =>
      cases k with
      | zero => rfl
      | succ k =>
        cases r with
        | nil => rfl
        | cons x r =>
          simp only [List.length_cons] at h h'
          unfold ev
          have h1 := ih n' k r (by omega) (by omega)
          have h2 := ih n' (symAt ss x.toNat).arity.toNat r (by omega) (by omega)
          have hl := ev_len (ss := ss) (m := m) (env := env) n' (symAt ss x.toNat).arity.toNat r
          have h3 := ih n' k (ev ss m env n' (symAt ss x.toNat).arity.toNat r).2 (by omega) (by omega)
          rw [h1, h2, h3]
/-- The values of the first k terms, and what is left: no number of steps. -/
def evs (ss : List Sym) (m : Md) (env : Nat → Int) (k : Nat) (r : List Int) : List Int × List Int := ev ss m env (r.length + 1) k r
theorem evs_zero (r : List Int) : evs ss m env 0 r = ([], r) := rfl
theorem evs_nil (k : Nat) : evs ss m env k [] = ([], []) := by cases k <;> rfl
theorem evs_var (k : Nat) {x : Int} (hx : x < 0) (r : List Int) : evs ss m env (k + 1) (x :: r) = (env (-1 - x).toNat :: (evs ss m env k r).1, (evs ss m env k r).2) := by
  show ev ss m env (r.length + 1 + 1) (k + 1) (x :: r) = _
  rw [ev, if_pos hx]; rfl
theorem evs_sym (k : Nat) {x : Int} (hx : ¬ x < 0) (r : List Int) : evs ss m env (k + 1) (x :: r) =
    ((m.look x (evs ss m env (symAt ss x.toNat).arity.toNat r).1 % m.size) :: (evs ss m env k (evs ss m env (symAt ss x.toNat).arity.toNat r).2).1, (evs ss m env k (evs ss m env (symAt ss x.toNat).arity.toNat r).2).2) := by
  show ev ss m env (r.length + 1 + 1) (k + 1) (x :: r) = _
  have hl := ev_len (ss := ss) (m := m) (env := env) (r.length + 1) (symAt ss x.toNat).arity.toNat r
  rw [ev, if_neg hx, ev_fuel (r.length + 1) ((ev ss m env (r.length + 1) (symAt ss x.toNat).arity.toNat r).2.length + 1) k _ (by omega) (by omega)]
  rfl
/-- A row, with more behind it: k of its terms. -/
theorem evs_cut (L : Nat) : ∀ (r : List Int) (ms : List (Nat × Nat)) (k : Nat), r.length ≤ L → mayB ss = true → tl ss r = some ms → k ≤ ms.length →
    ∃ vs r1, vs.length = k ∧ r1.length ≤ r.length ∧ tl ss r1 = some (ms.drop k) ∧ ∀ s, evs ss m env k (r ++ s) = (vs, r1 ++ s) := by
  induction L with
  | zero =>
    intro r ms k hL hm h hk
    obtain rfl : r = [] := List.length_eq_zero_iff.1 (by omega)
    have : ms = [] := by simp [tl] at h; exact h
    subst this
    obtain rfl : k = 0 := by simpa using hk
    exact ⟨[], [], rfl, Nat.le_refl _, h, fun s => rfl⟩
  | succ L ih =>
    intro r ms k hL hm h hk
    cases k with
    | zero => exact ⟨[], r, rfl, Nat.le_refl _, h, fun s => rfl⟩
    | succ k =>
      cases r with
      | nil =>
        have : ms = [] := by simp [tl] at h; exact h
        subst this
        simp at hk
      | cons x r =>
        simp only [List.length_cons] at hL
        obtain ⟨qs, a, h1, h2, h3, rfl⟩ := tl_cons_inv h
        simp only [List.length_cons, List.length_drop] at hk
        by_cases hx : x < 0
        · have ha : a = 0 := by
            unfold arOf at h2
            rw [if_pos hx] at h2
            split at h2
            · simp only [Option.some.injEq] at h2; exact h2.symm
            · cases h2
          subst ha
          obtain ⟨vs, r1, e1, e2, e3, e4⟩ := ih r qs k (by omega) hm h1 (by omega)
          refine ⟨env (-1 - x).toNat :: vs, r1, by simp [e1], by simp; omega, by simpa using e3, fun s => ?_⟩
          rw [List.cons_append, evs_var k hx, e4]
        · obtain ⟨_, _, h5, _⟩ := ar_sym hm (by omega) h2
          have har : (symAt ss x.toNat).arity.toNat = a := by omega
          obtain ⟨us, r1, e1, e2, e3, e4⟩ := ih r qs a (by omega) hm h1 h3
          obtain ⟨vs, r2, f1, f2, f3, f4⟩ := ih r1 (qs.drop a) k (by omega) hm e3 (by simp; omega)
          refine ⟨(m.look x us % m.size) :: vs, r2, by simp [f1], by simp; omega, by simpa using f3, fun s => ?_⟩
          rw [List.cons_append, evs_sym k hx, har, e4, f4]
theorem tl_nil_inv {r : List Int} (h : tl ss r = some []) : r = [] := by
  cases r with
  | nil => rfl
  | cons x r => obtain ⟨qs, a, _, _, _, h5⟩ := tl_cons_inv h; cases h5
theorem evs_row {r : List Int} {ms : List (Nat × Nat)} (hm : mayB ss = true) (h : tl ss r = some ms) : ∃ vs, vs.length = ms.length ∧ ∀ s, evs ss m env ms.length (r ++ s) = (vs, s) := by
  obtain ⟨vs, r1, h1, _, h3, h4⟩ := evs_cut (m := m) (env := env) r.length r ms ms.length (Nat.le_refl _) hm h (Nat.le_refl _)
  rw [List.drop_length] at h3
  rw [tl_nil_inv h3] at h4
  exact ⟨vs, h1, h4⟩
theorem evs_more {k : Nat} {r vs : List Int} (h : evs ss m env k r = (vs, [])) (j : Nat) : evs ss m env (k + j) r = (vs, []) := by
  have key : ∀ (L : Nat) (r : List Int) (k j : Nat) (vs : List Int), r.length ≤ L → evs ss m env k r = (vs, []) → evs ss m env (k + j) r = (vs, []) := by
    intro L
    induction L with
    | zero =>
      intro r k j vs hL h
      obtain rfl : r = [] := List.length_eq_zero_iff.1 (by omega)
      rw [evs_nil] at h ⊢; exact h
    | succ L ih =>
      intro r k j vs hL h
      cases k with
      | zero =>
        rw [evs_zero] at h
        injection h with h1 h2
        subst h1 h2
        rw [evs_nil]
      | succ k =>
        cases r with
        | nil => rw [evs_nil] at h ⊢; exact h
        | cons x r =>
          simp only [List.length_cons] at hL
          have e : k + 1 + j = (k + j) + 1 := by omega
          rw [e]
          by_cases hx : x < 0
          · rw [evs_var k hx] at h
            injection h with h1 h2
            subst h1
            rw [evs_var _ hx, ih r k j _ (by omega) (by rw [← h2])]
          · rw [evs_sym k hx] at h
            injection h with h1 h2
            subst h1
            have hl := ev_len (ss := ss) (m := m) (env := env) (r.length + 1) (symAt ss x.toNat).arity.toNat r
            rw [evs_sym _ hx, ih (evs ss m env (symAt ss x.toNat).arity.toNat r).2 k j _ (by show (ev ss m env (r.length + 1) _ r).2.length ≤ L; omega) (by rw [← h2])]
  exact key r.length r k j vs (Nat.le_refl _) h
theorem tl_le (r : List Int) {ms : List (Nat × Nat)} (h : tl ss r = some ms) : ms.length ≤ r.length := by
  induction r generalizing ms with
  | nil => simp [tl] at h; rw [h]; exact Nat.le_refl _
  | cons x r ih =>
    obtain ⟨qs, a, h1, h2, h3, rfl⟩ := tl_cons_inv h
    have := ih h1
    simp; omega
/-- The values of a row are those of its terms, one by one. -/
theorem vals_row {r : List Int} {ms : List (Nat × Nat)} (hm : mayB ss = true) (h : tl ss r = some ms) : evs ss m env ms.length r = (vals ss m env r, []) ∧ (vals ss m env r).length = ms.length := by
  obtain ⟨vs, h1, h2⟩ := evs_row (m := m) (env := env) hm h
  have h3 := h2 []
  rw [List.append_nil] at h3
  have h4 := evs_more h3 (r.length - ms.length)
  have hle := tl_le r h
  rw [show ms.length + (r.length - ms.length) = r.length by omega] at h4
  have h5 : vals ss m env r = vs := by show (evs ss m env r.length r).1 = vs; rw [h4]
  rw [h5]
  exact ⟨h3, h1⟩
/-- Two terms, one behind the other. -/
theorem vals_two {a b : List Int} {x y : Nat × Nat} (hm : mayB ss = true) (ha : tl ss a = some [x]) (hb : tl ss b = some [y]) : ∃ u v, vals ss m env (a ++ b) = [u, v] ∧ vals ss m env a = [u] ∧ vals ss m env b = [v] := by
  have hab : tl ss (a ++ b) = some ([x] ++ [y]) := tl_append _ _ ha hb
  obtain ⟨us, h1, h2⟩ := evs_row (m := m) (env := env) hm ha
  obtain ⟨hb1, hb2⟩ := vals_row (m := m) (env := env) hm hb
  obtain ⟨ha1, ha2⟩ := vals_row (m := m) (env := env) hm ha
  obtain ⟨h3, h4⟩ := vals_row (m := m) (env := env) hm hab
  obtain ⟨u, hu⟩ : ∃ u, us = [u] := List.length_eq_one_iff.1 h1
  obtain ⟨v, hv⟩ : ∃ v, vals ss m env b = [v] := List.length_eq_one_iff.1 hb2
  have e1 := h2 []
  rw [List.append_nil, ha1] at e1
  injection e1 with e1 _
  refine ⟨u, v, ?_, by rw [e1, hu], hv⟩
  cases a with
  | nil => simp [tl] at ha
  | cons z a =>
    have hz := h2 b
    rw [List.cons_append] at hz
    have h3' : evs ss m env (1 + 1) (z :: (a ++ b)) = (vals ss m env (z :: (a ++ b)), []) := h3
    clear h3
    by_cases hx : z < 0
    · have hz' := hz
      rw [show ([x] : List (Nat × Nat)).length = 0 + 1 from rfl, evs_var 0 hx] at hz'
      rw [evs_var 1 hx] at h3'
      rw [evs_zero] at hz'
      injection hz' with q1 q2
      replace q2 : a ++ b = b := q2
      rw [q2, show evs ss m env 1 b = (vals ss m env b, []) from hb1, hv] at h3'
      injection h3' with h3' _
      rw [List.cons_append, q2, ← h3']
      rw [hu] at q1
      injection q1 with q1 _
      rw [q1]
    · have hz' := hz
      rw [show ([x] : List (Nat × Nat)).length = 0 + 1 from rfl, evs_sym 0 hx] at hz'
      rw [evs_sym 1 hx] at h3'
      rw [evs_zero] at hz'
      injection hz' with q1 q2
      rw [q2, show evs ss m env 1 b = (vals ss m env b, []) from hb1, hv] at h3'
      injection h3' with h3' _
      rw [List.cons_append, ← h3']
      rw [hu] at q1
      injection q1 with q1 _
      rw [q1]
end
end Go.Proofs.YtcjpopjcpgipjaaDoor

namespace Go.Proofs.YtcjpopjcpgipjaaDoor
open Go.RowKit
set_option linter.unusedSimpArgs false
set_option linter.unusedVariables false
set_option maxRecDepth 100000

section
variable {ss : List Sym} {m : Md} {c : Cl}
/-- A Lit and its opposite, or a term that is equal to itself. -/
def DullP (ss : List Sym) (c : Cl) : Prop :=
  (∃ l ∈ c.lits, l.neg = false ∧ ∃ t x, l.atom = 0 :: (t ++ t) ∧ tl ss t = some [x]) ∨ (∃ l ∈ c.lits, ∃ k ∈ c.lits, l.atom = k.atom ∧ l.neg ≠ k.neg)
noncomputable def dullB (ss : List Sym) (c : Cl) : Bool := @decide (DullP ss c) (Classical.propDecidable _)
theorem dullB_iff : dullB ss c = true ↔ DullP ss c := by unfold dullB; exact @decide_eq_true_iff _ (Classical.propDecidable _)
theorem MayC.dull_holds (h : MayC ss c) (hd : DullP ss c) : holdsC ss m c := by
  intro env _
  have hl : c.lits.any (litH ss m env) = true := by
    rw [List.any_eq_true]
    rcases hd with ⟨l, hl, hn, t, x, ha, ht⟩ | ⟨l, hl, k, hk, ha, hn⟩
    · refine ⟨l, hl, ?_⟩
      obtain ⟨u, v, h1, h2, h3⟩ := vals_two (m := m) (env := env) h.may ht ht
      have e : u = v := by rw [h2] at h3; injection h3
      unfold litH atomH
      rw [ha, hn]
      show ((if (0 : Int) = 0 then decide (intAt (vals ss m env (t ++ t)) 0 = intAt (vals ss m env (t ++ t)) 1) else _) != false) = true
      rw [if_pos rfl, h1, e]
      show (decide (v = v) != false) = true
      simp
    · cases hq : litH ss m env l
      · refine ⟨k, hk, ?_⟩
        unfold litH at hq ⊢
        rw [← ha]
        revert hq
        cases atomH ss m env l.atom <;> cases e1 : l.neg <;> cases e2 : k.neg <;> simp_all
      · exact ⟨l, hl, hq⟩
  unfold hereC
  rw [hl]; simp
theorem wtSum_nonneg (hm : mayB ss = true) (r : List Int) : 0 ≤ wtSum ss r := by
  induction r with
  | nil => exact Int.le_refl _
  | cons x r ih =>
    show 0 ≤ wtOf ss x + wtSum ss r
    have : 0 ≤ wtOf ss x := by
      unfold wtOf
      split
      · omega
      · by_cases hx : x.toNat < ss.length
        · have := may_bd hm hx; omega
        · have e : symAt ss x.toNat = ⟨ByteArray.empty, 0, 0, 0⟩ := by
            unfold symAt
            rw [List.getD_eq_getElem?_getD, List.getElem?_eq_none (by omega)]; rfl
          rw [e]; exact Int.le_refl _
    omega
/-- The normal clause weighs no more. -/
theorem wtC_norm (hm : mayB ss = true) : wtC ss (norm c) ≤ wtC ss c := by
  unfold wtC
  rw [norm_eq]
  show (((once c.lits).map (renL (plc c))).map fun l => wtSum ss l.atom).sum ≤ _
  rw [List.map_map]
  have e : ((fun l : Lt => wtSum ss l.atom) ∘ renL (plc c)) = fun l => wtSum ss l.atom := by
    funext l; exact wtSum_ren _
  rw [e]
  exact sum_sub _ (once_sub _) fun l _ => wtSum_nonneg hm _
end
/-! ### All things for some variables -/
def upd (env : Nat → Int) (v : Nat) (x : Int) : Nat → Int := fun u => if u = v then x else env u
theorem upd_same (env : Nat → Int) (v : Nat) (x : Int) : upd env v x v = x := by unfold upd; rw [if_pos rfl]
theorem upd_other (env : Nat → Int) {v u : Nat} (x : Int) (h : u ≠ v) : upd env v x u = env u := by unfold upd; rw [if_neg h]
/-- The next things; false: these were the last ones. -/
def nextE (sz : Int) : List Nat → (Nat → Int) → (Nat → Int) × Bool
  | [], env => (env, false)
  | v :: vs, env => if env v + 1 < sz then (upd env v (env v + 1), true) else nextE sz vs (upd env v 0)
/-- Which things these are, as one number. -/
def numE (sz : Int) : List Nat → (Nat → Int) → Int
  | [], _ => 0
  | v :: vs, env => env v + sz * numE sz vs env
section
variable {sz : Int} {vs : List Nat} {a b env : Nat → Int}
theorem numE_on (h : ∀ v ∈ vs, a v = b v) : numE sz vs a = numE sz vs b := by
  induction vs with
  | nil => rfl
  | cons v vs ih => unfold numE; rw [h v (List.mem_cons_self ..), ih fun u hu => h u (List.mem_cons_of_mem _ hu)]
theorem numE_upd {v : Nat} {x : Int} (h : v ∉ vs) : numE sz vs (upd a v x) = numE sz vs a := numE_on fun u hu => upd_other _ _ (fun e => h (by rw [← e]; exact hu))
theorem next_yes (hd : vs.Nodup) (hok : ∀ v ∈ vs, 0 ≤ env v ∧ env v < sz) {env' : Nat → Int} (h : nextE sz vs env = (env', true)) :
    numE sz vs env' = numE sz vs env + 1 ∧ (∀ v ∈ vs, 0 ≤ env' v ∧ env' v < sz) ∧ ∀ v, v ∉ vs → env' v = env v := by
  induction vs generalizing env with
  | nil => cases h
  | cons v vs ih =>
    rw [List.nodup_cons] at hd
    have hv := hok v (List.mem_cons_self ..)
    unfold nextE at h
    by_cases hl : env v + 1 < sz
    · rw [if_pos hl] at h
      injection h with h _
      subst h
      refine ⟨?_, fun u hu => ?_, fun u hu => upd_other _ _ (fun e => hu (by rw [e]; exact List.mem_cons_self ..))⟩
      · unfold numE; rw [upd_same, numE_upd hd.1]; omega
      · by_cases e : u = v
        · rw [e, upd_same]; omega
        · rw [upd_other _ _ e]; exact hok u hu
    · rw [if_neg hl] at h
      have hok' : ∀ u ∈ vs, 0 ≤ upd env v 0 u ∧ upd env v 0 u < sz := fun u hu => by
        rw [upd_other _ _ (fun e => hd.1 (by rw [← e]; exact hu))]; exact hok u (List.mem_cons_of_mem _ hu)
      obtain ⟨h1, h2, h3⟩ := ih hd.2 hok' h
      have e0 : env' v = 0 := by rw [h3 v hd.1, upd_same]
      refine ⟨?_, fun u hu => ?_, fun u hu => ?_⟩
      · unfold numE
        rw [e0, h1, numE_upd hd.1, Int.mul_add, Int.mul_one]
        omega
      · rcases List.mem_cons.1 hu with e | hu
        · rw [e, e0]; omega
        · exact h2 u hu
      · have hne : u ≠ v := fun e => hu (by rw [e]; exact List.mem_cons_self ..)
        rw [h3 u (fun q => hu (List.mem_cons_of_mem _ q)), upd_other _ _ hne]
theorem next_no (hd : vs.Nodup) (hok : ∀ v ∈ vs, 0 ≤ env v ∧ env v < sz) {env' : Nat → Int} (h : nextE sz vs env = (env', false)) : ∀ v ∈ vs, env v = sz - 1 := by
  induction vs generalizing env with
  | nil => intro v hv; cases hv
  | cons v vs ih =>
    rw [List.nodup_cons] at hd
    have hv := hok v (List.mem_cons_self ..)
    unfold nextE at h
    by_cases hl : env v + 1 < sz
    · rw [if_pos hl] at h; injection h with _ h; cases h
    · rw [if_neg hl] at h
      have hoth : ∀ u ∈ vs, upd env v 0 u = env u := fun u hu => upd_other _ _ (fun e => hd.1 (by rw [← e]; exact hu))
      have := ih hd.2 (fun u hu => by rw [hoth u hu]; exact hok u (List.mem_cons_of_mem _ hu)) h
      intro u hu
      rcases List.mem_cons.1 hu with e | hu
      · rw [e]; omega
      · rw [← hoth u hu]; exact this u hu
theorem numE_nonneg (ha : ∀ v ∈ vs, 0 ≤ a v ∧ a v < sz) : 0 ≤ numE sz vs a := by
  induction vs with
  | nil => exact Int.le_refl _
  | cons v vs ih =>
    have h1 := ha v (List.mem_cons_self ..)
    have h2 := ih fun u hu => ha u (List.mem_cons_of_mem _ hu)
    unfold numE
    have := Int.mul_nonneg (by omega : 0 ≤ sz) h2
    omega
theorem numE_inj (ha : ∀ v ∈ vs, 0 ≤ a v ∧ a v < sz) (hb : ∀ v ∈ vs, 0 ≤ b v ∧ b v < sz) (h : numE sz vs a = numE sz vs b) : ∀ v ∈ vs, a v = b v := by
  induction vs with
  | nil => intro v hv; cases hv
  | cons v vs ih =>
    have h1 := ha v (List.mem_cons_self ..)
    have h2 := hb v (List.mem_cons_self ..)
    unfold numE at h
    have e1 : a v = (a v + sz * numE sz vs a) % sz := by rw [Int.add_mul_emod_self_left, Int.emod_eq_of_lt h1.1 h1.2]
    have e2 : b v = (b v + sz * numE sz vs b) % sz := by rw [Int.add_mul_emod_self_left, Int.emod_eq_of_lt h2.1 h2.2]
    have e3 : a v = b v := by rw [e1, e2, h]
    have e4 : sz * numE sz vs a = sz * numE sz vs b := by omega
    have e5 := Int.eq_of_mul_eq_mul_left (by omega : sz ≠ 0) e4
    intro u hu
    rcases List.mem_cons.1 hu with e | hu
    · rw [e]; exact e3
    · exact ih (fun u hu => ha u (List.mem_cons_of_mem _ hu)) (fun u hu => hb u (List.mem_cons_of_mem _ hu)) e5 u hu
theorem numE_le (hsz : 1 ≤ sz) (ha : ∀ v ∈ vs, 0 ≤ a v ∧ a v < sz) (hb : ∀ v ∈ vs, b v = sz - 1) : numE sz vs a ≤ numE sz vs b := by
  induction vs with
  | nil => exact Int.le_refl _
  | cons v vs ih =>
    have h1 := ha v (List.mem_cons_self ..)
    have h2 := hb v (List.mem_cons_self ..)
    have h3 := ih (fun u hu => ha u (List.mem_cons_of_mem _ hu)) (fun u hu => hb u (List.mem_cons_of_mem _ hu))
    unfold numE
    have := Int.mul_le_mul_of_nonneg_left h3 (by omega : 0 ≤ sz)
    omega
end
section
variable {ss : List Sym} {m : Md} {c : Cl} {vs : List Nat} {env : Nat → Int}
/-- All things up to these have been looked at. -/
def DoneE (ss : List Sym) (m : Md) (c : Cl) (vs : List Nat) (env : Nat → Int) : Prop :=
  ∀ a : Nat → Int, (∀ v ∈ vs, 0 ≤ a v ∧ a v < m.size) → numE m.size vs a < numE m.size vs env → hereC ss m a c = true
theorem DoneE.start (hz : ∀ v ∈ vs, env v = 0) (hsz : 1 ≤ m.size) : DoneE ss m c vs env := by
  intro a ha h
  have h0 := numE_nonneg ha
  have : numE m.size vs env = 0 := by
    clear h ha h0
    induction vs with
    | nil => rfl
    | cons v vs ih => unfold numE; rw [hz v (List.mem_cons_self ..), ih fun u hu => hz u (List.mem_cons_of_mem _ hu)]; simp
  omega
theorem DoneE.next (hd : vs.Nodup) (hvs : ∀ v ∈ vrs (codesC c), v ∈ vs) (hok : ∀ v ∈ vs, 0 ≤ env v ∧ env v < m.size) (h : DoneE ss m c vs env) (hh : hereC ss m env c = true) {env' : Nat → Int} (hn : nextE m.size vs env = (env', true)) : DoneE ss m c vs env' := by
  obtain ⟨h1, _, _⟩ := next_yes hd hok hn
  intro a ha q
  by_cases e : numE m.size vs a = numE m.size vs env
  · rw [hereC_on (env' := env) fun v hv => numE_inj ha hok e v (hvs v hv)]; exact hh
  · exact h a ha (by omega)
theorem DoneE.all (hd : vs.Nodup) (hvs : ∀ v ∈ vrs (codesC c), v ∈ vs) (hsz : 1 ≤ m.size) (hok : ∀ v ∈ vs, 0 ≤ env v ∧ env v < m.size) (h : DoneE ss m c vs env) (hh : hereC ss m env c = true) {env' : Nat → Int} (hn : nextE m.size vs env = (env', false)) : holdsC ss m c := by
  have hmax := next_no hd hok hn
  intro a ha
  have hle := numE_le hsz (a := a) (fun v _ => ha v) hmax
  by_cases e : numE m.size vs a = numE m.size vs env
  · rw [hereC_on (env' := env) fun v hv => numE_inj (fun v _ => ha v) hok e v (hvs v hv)]; exact hh
  · exact h a (fun v _ => ha v) (by omega)
end
end Go.Proofs.YtcjpopjcpgipjaaDoor
