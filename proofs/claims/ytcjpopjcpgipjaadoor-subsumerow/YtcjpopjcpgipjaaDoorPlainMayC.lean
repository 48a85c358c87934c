/-
  Plain words: valid clauses, their weights and variables; what becomes of them in the normal clause: no program.
-/
import Derived.Test.YtcjpopjcpgipjaaDoorPlainClause
import Derived.Test.YtcjpopjcpgipjaaDoorPlainVars
namespace Go.Proofs.YtcjpopjcpgipjaaDoor
open Go.RowKit
set_option linter.unusedSimpArgs false
set_option linter.unusedVariables false
set_option maxRecDepth 100000

theorem nodup_sub_length {s t : List Nat} (hs : s.Nodup) (h : ∀ v ∈ s, v ∈ t) : s.length ≤ t.length := by
  induction s generalizing t with
  | nil => simp
  | cons x s ih =>
    rw [List.nodup_cons] at hs
    have hx := h x (List.mem_cons_self ..)
    have := ih hs.2 (t := t.erase x) fun v hv => (List.mem_erase_of_ne (fun e => hs.1 (by rw [← e]; exact hv))).2 (h v (List.mem_cons_of_mem _ hv))
    rw [List.length_erase_of_mem hx] at this
    have hp : 0 < t.length := List.length_pos_of_mem hx
    rw [List.length_cons]; omega
theorem nodup_lt_length {s : List Nat} {n : Nat} (hs : s.Nodup) (h : ∀ v ∈ s, v < n) : s.length ≤ n := by
  have := nodup_sub_length hs (t := List.range n) fun v hv => List.mem_range.2 (h v hv)
  simpa using this
theorem nodup_same_length {s t : List Nat} (hs : s.Nodup) (ht : t.Nodup) (h : ∀ v, v ∈ s ↔ v ∈ t) : s.length = t.length :=
  Nat.le_antisymm (nodup_sub_length hs fun v hv => (h v).1 hv) (nodup_sub_length ht fun v hv => (h v).2 hv)
/-- Tuples: rows of as many terms as the first. -/
def tupsB (ss : List Sym) (ts : List (List Int)) : Bool := ts.all fun t => rowB ss t && decide ((tlD ss t).length = (tlD ss (ts.headD [])).length)
/-- A valid clause, of a valid signature. -/
def mayC (ss : List Sym) (c : Cl) : Bool :=
  mayB ss && decide (c.lits.length ≤ 5) && decide (c.tups.length ≤ 3) && decide (c.conds.length ≤ 3) && c.lits.all (litB ss) && c.conds.all (litB ss) && tupsB ss c.tups && decide ((codesC c).length ≤ 240)
structure MayC (ss : List Sym) (c : Cl) : Prop where
  may : mayB ss = true
  nl : c.lits.length ≤ 5
  nt : c.tups.length ≤ 3
  nc : c.conds.length ≤ 3
  lits : ∀ l ∈ c.lits, litB ss l = true
  conds : ∀ l ∈ c.conds, litB ss l = true
  tups : ∀ t ∈ c.tups, rowB ss t = true ∧ (tlD ss t).length = (tlD ss (c.tups.headD [])).length
  codes : (codesC c).length ≤ 240
section
variable {ss : List Sym} {c : Cl} {f : Nat → Nat}
theorem mayC_iff : mayC ss c = true ↔ MayC ss c := by
  unfold mayC tupsB
  simp only [Bool.and_eq_true, decide_eq_true_eq, List.all_eq_true]
  constructor
  · rintro ⟨⟨⟨⟨⟨⟨⟨h1, h2⟩, h3⟩, h4⟩, h5⟩, h6⟩, h7⟩, h8⟩
    exact ⟨h1, h2, h3, h4, h5, h6, h7, h8⟩
  · intro h
    exact ⟨⟨⟨⟨⟨⟨⟨h.may, h.nl⟩, h.nt⟩, h.nc⟩, h.lits⟩, h.conds⟩, h.tups⟩, h.codes⟩
theorem arOf_ren {x : Int} {a : Nat} (h : arOf ss x = some a) (hf : x < 0 → f (-1 - x).toNat < 24) : arOf ss (ren f x) = some a := by
  unfold ren
  by_cases hx : x < 0
  · rw [if_pos hx]
    have := hf hx
    unfold arOf at h ⊢
    rw [if_pos hx] at h
    rw [if_pos (by omega), if_pos (by omega)]
    by_cases hb : -24 ≤ x
    · rw [if_pos hb] at h; exact h
    · rw [if_neg hb] at h; cases h
  · rw [if_neg hx]; exact h
theorem neg_var {x : Int} (hx : x < 0) : -1 - (((-1 - x).toNat : Nat) : Int) = x := by omega
theorem tl_ren {r : List Int} {ms : List (Nat × Nat)} (h : tl ss r = some ms) (hf : ∀ v ∈ vrs r, f v < 24) : tl ss (renR f r) = some ms := by
  induction r generalizing ms with
  | nil => exact h
  | cons x r ih =>
    obtain ⟨qs, a, h1, h2, h3, rfl⟩ := tl_cons_inv h
    have hr : ∀ v ∈ vrs r, f v < 24 := fun v hv => hf v (mem_vrs.2 (List.mem_cons_of_mem _ (mem_vrs.1 hv)))
    exact tl_cons (ih h1 hr) (arOf_ren h2 (fun hx => hf _ (mem_vrs.2 (by rw [neg_var hx]; exact List.mem_cons_self ..)))) h3
theorem renR_length (r : List Int) : (renR f r).length = r.length := by unfold renR; simp
theorem rowB_ren {r : List Int} (h : rowB ss r = true) (hf : ∀ v ∈ vrs r, f v < 24) : rowB ss (renR f r) = true ∧ tlD ss (renR f r) = tlD ss r := by
  obtain ⟨h1, h2, h3⟩ := row_parts h
  have h4 := tl_ren h3 hf
  constructor
  · unfold rowB rowP
    rw [h1, renR_length, h4, decide_eq_true h2]; rfl
  · show (tl ss (renR f r)).getD [] = _
    rw [h4]; rfl
theorem litB_ren {l : Lt} (h : litB ss l = true) (hf : ∀ v ∈ vrs l.atom, f v < 24) : litB ss (renL f l) = true := by
  obtain ⟨x, a⟩ := l
  unfold litB renL at *
  cases a with
  | nil => cases h
  | cons c0 r =>
    have h' : atomB ss (c0 :: r) = true := h
    unfold atomB at h'
    simp only [Bool.and_eq_true, decide_eq_true_eq] at h'
    obtain ⟨⟨⟨⟨h1, h2⟩, h3⟩, h4⟩, h5⟩ := h'
    have e0 : ren f c0 = c0 := by unfold ren; rw [if_neg (by omega)]
    have hr := rowB_ren h4 (f := f) fun v hv => hf v (mem_vrs.2 (List.mem_cons_of_mem _ (mem_vrs.1 hv)))
    show atomB ss (renR f (c0 :: r)) = true
    have e1 : renR f (c0 :: r) = c0 :: renR f r := by unfold renR; rw [List.map_cons, e0]
    rw [e1]
    unfold atomB
    simp only [Bool.and_eq_true, decide_eq_true_eq]
    exact ⟨⟨⟨⟨h1, h2⟩, h3⟩, hr.1⟩, by rw [hr.2]; exact h5⟩
theorem row_var {r : List Int} (h : rowB ss r = true) : ∀ v ∈ vrs r, v < 24 := by
  intro v hv
  have := row_codes (row_parts h).2.2 _ (mem_vrs.1 hv)
  omega
theorem lit_var {l : Lt} (h : litB ss l = true) : ∀ v ∈ vrs l.atom, v < 24 := by
  intro v hv
  obtain ⟨x, a⟩ := l
  cases a with
  | nil => cases h
  | cons c0 r =>
    have h' : atomB ss (c0 :: r) = true := h
    unfold atomB at h'
    simp only [Bool.and_eq_true, decide_eq_true_eq] at h'
    obtain ⟨⟨⟨⟨h1, h2⟩, h3⟩, h4⟩, h5⟩ := h'
    rcases List.mem_cons.1 (mem_vrs.1 hv) with e | e
    · omega
    · exact row_var h4 v (mem_vrs.2 e)
theorem MayC.row (h : MayC ss c) {r : List Int} (hr : r ∈ rowsC c) : ∀ v ∈ vrs r, v < 24 := by
  unfold rowsC at hr
  rcases List.mem_append.1 hr with hr | hr
  · obtain ⟨l, hl, rfl⟩ := List.mem_map.1 hr
    exact lit_var (h.lits l hl)
  · rcases List.mem_append.1 hr with hr | hr
    · exact row_var (h.tups r hr).1
    · obtain ⟨l, hl, rfl⟩ := List.mem_map.1 hr
      exact lit_var (h.conds l hl)
theorem MayC.var (h : MayC ss c) {v : Nat} (hv : v ∈ vrs (codesC c)) : v < 24 := by
  obtain ⟨r, hr, hx⟩ := List.mem_flatten.1 (mem_vrs.1 hv)
  exact h.row hr v (mem_vrs.2 hx)
/-- How many variables there are. -/
def nV (c : Cl) : Nat := (firsts (codesC (onceC c))).length
theorem MayC.few (h : MayC ss c) : nV c ≤ 24 := nodup_lt_length (once_nodup _) fun v hv => h.var (vrs_once.1 (mem_once.1 hv))
theorem MayC.plc_ok (h : MayC ss c) {v : Nat} (hv : v ∈ vrs (codesC c)) : plc c v < 24 := by
  have := plc_lt hv
  have := h.few
  unfold nV at this
  omega
theorem flat_sub {s t : List (List Int)} (h : s.Sublist t) : s.flatten.length ≤ t.flatten.length := by
  induction h with
  | slnil => simp
  | cons a _ ih => simp only [List.flatten_cons, List.length_append]; omega
  | cons_cons a _ ih => simp only [List.flatten_cons, List.length_append]; omega
theorem onceC_sub : (rowsC (onceC c)).Sublist (rowsC c) := List.Sublist.append ((once_sub _).map _) (List.Sublist.append (once_sub _) ((once_sub _).map _))
theorem flat_ren (rs : List (List Int)) : (rs.map (renR f)).flatten.length = rs.flatten.length := by
  induction rs with
  | nil => rfl
  | cons r rs ih => simp only [List.map_cons, List.flatten_cons, List.length_append, ih, renR_length]
theorem once_head (ts : List (List Int)) : (once ts).headD [] = ts.headD [] := by
  refine snoc_ind (P := fun ts => (once ts).headD [] = ts.headD []) rfl (fun xs y ih => ?_) ts
  rw [once_snoc]
  unfold put1st
  cases xs with
  | nil => rfl
  | cons x xs =>
    by_cases h : y ∈ once (x :: xs)
    · rw [if_pos h, ih]; rfl
    · rw [if_neg h]
      have : once (x :: xs) ≠ [] := by
        intro e
        have : x ∈ once (x :: xs) := mem_once.2 (List.mem_cons_self ..)
        rw [e] at this; cases this
      cases e : once (x :: xs) with
      | nil => exact absurd e this
      | cons z zs => rw [e] at ih; exact ih
/-- A normal clause is valid. -/
theorem MayC.normal (h : MayC ss c) : MayC ss (norm c) := by
  have hp : ∀ r ∈ rowsC (onceC c), ∀ v ∈ vrs r, plc c v < 24 := fun r hr v hv => h.plc_ok (row_vrs (once_rows hr) hv)
  rw [norm_eq]
  refine ⟨h.may, ?_, ?_, ?_, ?_, ?_, ?_, ?_⟩
  · show ((once c.lits).map _).length ≤ 5
    rw [List.length_map]; exact Nat.le_trans (once_length _) h.nl
  · show ((once c.tups).map _).length ≤ 3
    rw [List.length_map]; exact Nat.le_trans (once_length _) h.nt
  · show ((once c.conds).map _).length ≤ 3
    rw [List.length_map]; exact Nat.le_trans (once_length _) h.nc
  · intro l hl
    obtain ⟨l0, hl0, rfl⟩ := List.mem_map.1 hl
    exact litB_ren (h.lits l0 (mem_once.1 hl0)) (hp _ (lit_row hl0))
  · intro l hl
    obtain ⟨l0, hl0, rfl⟩ := List.mem_map.1 hl
    exact litB_ren (h.conds l0 (mem_once.1 hl0)) (hp _ (cond_row hl0))
  · intro t ht
    obtain ⟨t0, ht0, rfl⟩ := List.mem_map.1 ht
    have h0 := h.tups t0 (mem_once.1 ht0)
    have h1 := rowB_ren h0.1 (hp _ (tup_row ht0))
    refine ⟨h1.1, ?_⟩
    rw [h1.2, h0.2]
    show _ = (tlD ss (((once c.tups).map (renR (plc c))).headD [])).length
    rw [← once_head]
    cases e : once c.tups with
    | nil => rfl
    | cons z zs =>
      have hz : z ∈ once c.tups := by rw [e]; exact List.mem_cons_self ..
      show (tlD ss z).length = (tlD ss (renR (plc c) z)).length
      rw [(rowB_ren (h.tups z (mem_once.1 hz)).1 (hp _ (tup_row (c := onceC c) hz))).2]
  · unfold codesC
    rw [rowsC_ren, flat_ren]
    exact Nat.le_trans (flat_sub onceC_sub) h.codes
/-- The Weights of the Lits. -/
def wtC (ss : List Sym) (c : Cl) : Int := (c.lits.map fun l => wtSum ss l.atom).sum
theorem wtSum_ren (r : List Int) : wtSum ss (renR f r) = wtSum ss r := by
  induction r with
  | nil => rfl
  | cons x r ih =>
    show wtOf ss (ren f x) + wtSum ss (renR f r) = wtOf ss x + wtSum ss r
    rw [ih]
    congr 1
    unfold wtOf ren
    by_cases hx : x < 0
    · rw [if_pos hx, if_pos hx, if_pos (by omega)]
    · rw [if_neg hx]
theorem sum_sub {α : Type} (g : α → Int) {s t : List α} (h : s.Sublist t) (h0 : ∀ x ∈ t, 0 ≤ g x) : (s.map g).sum ≤ (t.map g).sum := by
  induction h with
  | slnil => simp
  | cons a _ ih =>
    have := ih fun x hx => h0 x (List.mem_cons_of_mem _ hx)
    have := h0 a (List.mem_cons_self ..)
    simp only [List.map_cons, List.sum_cons]; omega
  | cons_cons a _ ih =>
    have := ih fun x hx => h0 x (List.mem_cons_of_mem _ hx)
    simp only [List.map_cons, List.sum_cons]; omega
/-- The variables of a clause, ascending. -/
def varsC (c : Cl) : List Int := varsN (codesC c) 24
theorem hasV_iff {r : List Int} {v : Nat} : hasV r v = true ↔ v ∈ vrs r := by
  unfold hasV
  rw [List.any_eq_true, mem_vrs]
  constructor
  · rintro ⟨x, hx, e⟩; rw [beq_iff_eq] at e; rw [← e]; exact hx
  · intro h; exact ⟨_, h, by simp⟩
theorem firsts_mem {v : Nat} : v ∈ firsts (codesC (onceC c)) ↔ v ∈ vrs (codesC c) := by unfold firsts; rw [mem_once, vrs_once]
theorem MayC.varsC_length (h : MayC ss c) : (varsC c).length = nV c := by
  unfold varsC varsN nV
  rw [List.length_map]
  refine nodup_same_length (List.nodup_range.sublist List.filter_sublist) (once_nodup _) fun v => ?_
  rw [List.mem_filter, List.mem_range, hasV_iff, firsts_mem]
  exact ⟨fun q => q.2, fun q => ⟨h.var q, q⟩⟩
theorem vrs_norm {v : Nat} : v ∈ vrs (codesC (norm c)) ↔ v < nV c := by
  have : v ∈ firsts (codesC (norm c)) ↔ v < nV c := by rw [firsts_norm, List.mem_range]; rfl
  rw [← this]
  unfold firsts; rw [mem_once]
theorem nV_norm : nV (norm c) = nV c := by
  unfold nV
  rw [once_norm, firsts_norm, List.length_range]
theorem filter_lt (n : Nat) : ∀ m, n ≤ m → (List.range m).filter (fun v => decide (v < n)) = List.range n
  | 0, h => by have : n = 0 := by omega
               subst this; rfl
  | m + 1, h => by
    rw [List.range_succ, List.filter_append]
    by_cases e : n = m + 1
    · subst e
      have h1 : (List.range m).filter (fun v => decide (v < m + 1)) = List.range m := List.filter_eq_self.2 fun v hv => by
        have := List.mem_range.1 hv
        exact decide_eq_true (by omega)
      rw [h1, List.range_succ]; simp
    · rw [filter_lt n m (by omega)]
      have : decide (m < n) = false := decide_eq_false (by omega)
      simp [this]
theorem MayC.vars_norm (h : MayC ss c) : varsC (norm c) = (List.range (nV c)).map Int.ofNat := by
  unfold varsC varsN
  congr 1
  rw [← filter_lt (nV c) 24 h.few]
  refine List.filter_congr fun v hv => ?_
  rw [Bool.eq_iff_iff, hasV_iff, vrs_norm, decide_eq_true_iff]
end
end Go.Proofs.YtcjpopjcpgipjaaDoor
