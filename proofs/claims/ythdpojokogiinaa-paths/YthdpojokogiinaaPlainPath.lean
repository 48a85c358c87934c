/-
  The paths of an expression in plain words (no program): code for code with a stack; one term behind another; the places of one expression are all different; what is put into an expression keeps its symbols where they are.
-/
import Derived.Test.YthdpojokogiinaaPlainUni
import Derived.Test.YthdpojokogiinaaPlainOrder
namespace Go.Proofs.Ythdpojokogiinaa
open Go.RowKit
set_option linter.unusedSimpArgs false
set_option linter.unusedVariables false

/-- How many arguments a code has. -/
def arc (ss : List Sym) (c : Int) : Nat := if c < 0 then 0 else (symAt ss c.toNat).arity.toNat
def wayL (st : List (Nat × Nat)) : List Int := (st.map fun p => (p.1 : Int)).reverse
def lefL (st : List (Nat × Nat)) : List Int := (st.map fun p => (p.2 : Int)).reverse
def sumS : List (Nat × Nat) → Nat
  | [] => 0
  | p :: s => p.2 + sumS s
/-- The stack behind a term. -/
def pops : List (Nat × Nat) → List (Nat × Nat)
  | [] => []
  | (_, 0) :: s => pops s
  | (k, m + 1) :: s => (k + 1, m) :: s
/-- The stack behind a code. -/
def nxt (a : Nat) (st : List (Nat × Nat)) : List (Nat × Nat) := if 0 < a then (0, a - 1) :: st else pops st
def popN : Nat → List (Nat × Nat) → List (Nat × Nat)
  | 0, st => st
  | n + 1, st => popN n (pops st)
/-- The places of a row's codes, and the codes. -/
def wk (ss : List Sym) : List Int → List (Nat × Nat) → List (List Int × Int)
  | [], _ => []
  | c :: r, st => (wayL st, c) :: wk ss r (nxt (arc ss c) st)
def pth (p : List Int × Int) : List Int := p.1 ++ [max p.2 (-1)]
def pths (ss : List Sym) (r : List Int) (st : List (Nat × Nat)) : List (List Int) := (wk ss r st).map pth
/-- An expression: a code with its terms. -/
def xpr (V : Nat) (ss : List Sym) (t : List Int) : Prop := ∃ c r, t = c :: r ∧ -(V : Int) ≤ c ∧ trm V ss r (arc ss c)

section
variable {V : Nat} {ss : List Sym} {r s x y t rest : List Int} {st : List (Nat × Nat)} {a k m n : Nat} {c : Int} {θ : Nat → List Int}
theorem wayL_cons (p : Nat × Nat) : wayL (p :: st) = wayL st ++ [(p.1 : Int)] := by simp [wayL]
theorem lefL_cons (p : Nat × Nat) : lefL (p :: st) = lefL st ++ [(p.2 : Int)] := by simp [lefL]
theorem wayL_length : (wayL st).length = st.length := by simp [wayL]
theorem lefL_length : (lefL st).length = st.length := by simp [lefL]
theorem pops_zero (k : Nat) : pops ((k, 0) :: st) = pops st := rfl
theorem pops_succ (k m : Nat) : pops ((k, m + 1) :: st) = (k + 1, m) :: st := rfl
theorem nxt_zero : nxt 0 st = pops st := rfl
theorem nxt_pos (h : 0 < a) : nxt a st = (0, a - 1) :: st := by unfold nxt; rw [if_pos h]
theorem wk_nil : wk ss [] st = [] := rfl
theorem wk_cons : wk ss (c :: r) st = (wayL st, c) :: wk ss r (nxt (arc ss c) st) := rfl
theorem pths_nil : pths ss [] st = [] := rfl
theorem pths_cons : pths ss (c :: r) st = (wayL st ++ [max c (-1)]) :: pths ss r (nxt (arc ss c) st) := rfl
theorem wk_length : ∀ (r : List Int) (st : List (Nat × Nat)), (wk ss r st).length = r.length
  | [], _ => rfl
  | c :: r, st => by rw [wk_cons, List.length_cons, List.length_cons, wk_length r]
theorem pths_length : (pths ss r st).length = r.length := by unfold pths; rw [List.length_map, wk_length]
theorem wk_codes : ∀ (r : List Int) (st : List (Nat × Nat)), (wk ss r st).map (·.2) = r
  | [], _ => rfl
  | c :: r, st => by rw [wk_cons, List.map_cons, wk_codes r]
theorem arc_of (h : arOf ss c = some a) : arc ss c = a := by
  unfold arc
  by_cases hc : c < 0
  · rw [if_pos hc]; exact (ar_var hc h).2.symm
  · rw [if_neg hc]
    unfold arOf at h
    rw [if_neg hc] at h
    split at h
    · injection h
    · cases h
theorem arc_neg (h : c < 0) : arc ss c = 0 := by unfold arc; rw [if_pos h]
/-- A row's first code and what is behind it. -/
theorem trm_head (h : trm V ss (c :: r) k) : ∃ i, k = i + 1 ∧ -(V : Int) ≤ c ∧ trm V ss r (arc ss c + i) := by
  rcases trm_cons h with ⟨h1, h2, i, h3, h4⟩ | ⟨h1, a, i, h2, h3, h4⟩
  · exact ⟨i, h3, h2, by rw [arc_neg h1, Nat.zero_add]; exact h4⟩
  · exact ⟨i, h3, by omega, by rw [arc_of h2]; exact h4⟩
theorem xpr_of_trm (h : trm V ss t 1) : xpr V ss t := by
  cases t with
  | nil => have := trm_pos h; simp at this
  | cons c r =>
    obtain ⟨i, h1, h2, h3⟩ := trm_head h
    obtain rfl : i = 0 := by omega
    exact ⟨c, r, rfl, h2, h3⟩
theorem popN_add (m n : Nat) (st : List (Nat × Nat)) : popN (m + n) st = popN n (popN m st) := by
  induction m generalizing st with
  | zero => rw [Nat.zero_add]; rfl
  | succ m ih => rw [Nat.succ_add]; exact ih _
theorem popN_run (m k : Nat) (st : List (Nat × Nat)) : popN (m + 1) ((k, m) :: st) = pops st := by
  induction m generalizing k with
  | zero => rfl
  | succ m ih =>
    show popN (m + 1) (pops ((k, m + 1) :: st)) = _
    rw [pops_succ]; exact ih _
theorem popN_part (i k m : Nat) (h : i ≤ m) (st : List (Nat × Nat)) : popN i ((k, m) :: st) = (k + i, m - i) :: st := by
  induction i generalizing k m with
  | zero => rfl
  | succ i ih =>
    obtain ⟨q, rfl⟩ : ∃ q, m = q + 1 := ⟨m - 1, by omega⟩
    show popN i (pops ((k, q + 1) :: st)) = _
    rw [pops_succ, ih _ _ (by omega)]
    congr 2 <;> omega
theorem popN_nxt (a i : Nat) (st : List (Nat × Nat)) : popN (a + i) (nxt a st) = popN (i + 1) st := by
  rw [popN_add]
  have : popN a (nxt a st) = pops st := by
    cases a with
    | zero => rfl
    | succ a => rw [nxt_pos (by omega)]; exact popN_run a 0 st
  rw [this]; rfl
/-- One row behind another. -/
theorem wk_append : ∀ (r : List Int) (k : Nat) (st : List (Nat × Nat)), trm V ss r k → wk ss (r ++ rest) st = wk ss r st ++ wk ss rest (popN k st)
  | [], k, st, h => by
    have : k = 0 := trm_uniq' h trm_nil rfl
    subst this; rfl
  | c :: r, k, st, h => by
    obtain ⟨i, rfl, _, h1⟩ := trm_head h
    rw [List.cons_append, wk_cons, wk_cons, wk_append r _ _ h1, popN_nxt]; rfl
theorem pths_append (h : trm V ss r k) (st : List (Nat × Nat)) : pths ss (r ++ rest) st = pths ss r st ++ pths ss rest (popN k st) := by
  unfold pths; rw [wk_append r k st h, List.map_append]

/-- One list of positions stands ahead of another one. -/
def lx : List Int → List Int → Prop
  | [], [] => False
  | [], _ :: _ => True
  | _ :: _, [] => False
  | a :: x, b :: y => a < b ∨ (a = b ∧ lx x y)
theorem lx_irr : ∀ x : List Int, ¬ lx x x
  | [], h => h
  | a :: x, h => by
    rcases h with h | ⟨_, h⟩
    · omega
    · exact lx_irr x h
theorem lx_trans : ∀ {x y z : List Int}, lx x y → lx y z → lx x z
  | [], [], _, h, _ => h.elim
  | [], _ :: _, [], _, h => h.elim
  | [], _ :: _, _ :: _, _, _ => trivial
  | _ :: _, [], _, h, _ => h.elim
  | _ :: _, _ :: _, [], _, h => h.elim
  | a :: x, b :: y, c :: z, h, k => by
    rcases h with h | ⟨rfl, h⟩
    · rcases k with k | ⟨rfl, k⟩
      · exact .inl (by omega)
      · exact .inl h
    · rcases k with k | ⟨rfl, k⟩
      · exact .inl k
      · exact .inr ⟨rfl, lx_trans h k⟩
theorem lx_more (x : List Int) (a : Int) (u : List Int) : lx x (x ++ a :: u) := by
  induction x with
  | nil => trivial
  | cons b x ih => exact .inr ⟨rfl, ih⟩
theorem lx_diff (p : List Int) {a b : Int} (u v : List Int) (h : a < b) : lx (p ++ a :: u) (p ++ b :: v) := by
  induction p with
  | nil => exact .inl h
  | cons c p ih => exact .inr ⟨rfl, ih⟩
theorem pops_diff : ∀ {st : List (Nat × Nat)}, 0 < sumS st → ∃ p a b u v, wayL st = p ++ a :: u ∧ wayL (pops st) = p ++ b :: v ∧ a < b
  | [], h => by simp [sumS] at h
  | (k, 0) :: s, h => by
    obtain ⟨p, a, b, u, v, h1, h2, h3⟩ := pops_diff (st := s) (by simpa [sumS] using h)
    refine ⟨p, a, b, u ++ [(k : Int)], v, ?_, h2, h3⟩
    rw [wayL_cons, h1, List.append_assoc]; rfl
  | (k, m + 1) :: s, h => by
    refine ⟨wayL s, (k : Int), ((k + 1 : Nat) : Int), [], [], wayL_cons _, ?_, by omega⟩
    rw [pops_succ, wayL_cons]
theorem sum_pops : ∀ {st : List (Nat × Nat)}, sumS (pops st) = sumS st - 1
  | [] => rfl
  | (k, 0) :: s => by rw [pops_zero, sum_pops]; simp only [sumS, Nat.zero_add]
  | (k, m + 1) :: s => by rw [pops_succ]; simp only [sumS]; omega
theorem nxt_sum (a : Nat) (st : List (Nat × Nat)) : sumS (nxt a st) = a + sumS st - 1 := by
  cases a with
  | zero => rw [nxt_zero, sum_pops]; omega
  | succ a => rw [nxt_pos (by omega)]; simp only [sumS]; omega
theorem nxt_lx (a : Nat) (h : 0 < a + sumS st) : lx (wayL st) (wayL (nxt a st)) := by
  cases a with
  | zero =>
    obtain ⟨p, a, b, u, v, h1, h2, h3⟩ := pops_diff (st := st) (by omega)
    rw [nxt_zero, h1, h2]; exact lx_diff p u v h3
  | succ a => rw [nxt_pos (by omega), wayL_cons]; exact lx_more _ _ _
/-- Behind a code the places come in their order. -/
theorem wk_ordered : ∀ (r : List Int) (c : Int) (st : List (Nat × Nat)), trm V ss r (arc ss c + sumS st) →
    (∀ q ∈ wk ss r (nxt (arc ss c) st), lx (wayL st) q.1) ∧ (wk ss r (nxt (arc ss c) st)).Pairwise fun p q => lx p.1 q.1
  | [], c, st, _ => ⟨fun q hq => absurd hq List.not_mem_nil, List.Pairwise.nil⟩
  | d :: r, c, st, h => by
    obtain ⟨i, h1, _, h2⟩ := trm_head h
    have hs : sumS (nxt (arc ss c) st) = i := by rw [nxt_sum]; omega
    have hl := nxt_lx (st := st) (arc ss c) (by omega)
    obtain ⟨k1, k2⟩ := wk_ordered r d (nxt (arc ss c) st) (by rw [hs]; exact h2)
    rw [wk_cons]
    refine ⟨fun q hq => ?_, List.Pairwise.cons (fun q hq => k1 q hq) k2⟩
    rcases List.mem_cons.1 hq with rfl | hq
    · exact hl
    · exact lx_trans hl (k1 q hq)
theorem xpr_ordered (h : xpr V ss t) : (wk ss t []).Pairwise fun p q => lx p.1 q.1 := by
  obtain ⟨c, r, rfl, _, h1⟩ := h
  obtain ⟨k1, k2⟩ := wk_ordered r c [] (by simpa [sumS] using h1)
  exact List.Pairwise.cons k1 k2
/-- At one place stands one code. -/
theorem pair_one {L : List (List Int × Int)} (h : L.Pairwise fun p q => lx p.1 q.1) {q : List Int} {c d : Int} (h1 : (q, c) ∈ L) (h2 : (q, d) ∈ L) : c = d := by
  induction L with
  | nil => cases h1
  | cons p L ih =>
    obtain ⟨k1, k2⟩ := List.pairwise_cons.1 h
    rcases List.mem_cons.1 h1 with e1 | m1
    · rcases List.mem_cons.1 h2 with e2 | m2
      · rw [← e1] at e2; injection e2 with _ e2; exact e2.symm
      · have := k1 _ m2; rw [← e1] at this; exact absurd this (lx_irr _)
    · rcases List.mem_cons.1 h2 with e2 | m2
      · have := k1 _ m1; rw [← e2] at this; exact absurd this (lx_irr _)
      · exact ih k2 m1 m2
/-- What is put in for the variables leaves the symbols where they are. -/
theorem wk_ap (hθ : Sub V ss θ) : ∀ (r : List Int) (k : Nat) (st : List (Nat × Nat)), trm V ss r k → ∀ q c, 0 ≤ c → (q, c) ∈ wk ss r st → (q, c) ∈ wk ss (ap θ r) st
  | [], _, _, _, q, c, _, h => by cases h
  | d :: r, k, st, h, q, c, hc, hm => by
    obtain ⟨i, rfl, hd, h1⟩ := trm_head h
    rw [wk_cons] at hm
    by_cases hn : d < 0
    · rw [arc_neg hn, Nat.zero_add] at h1
      rw [arc_neg hn, nxt_zero] at hm
      have hv : ap1 θ d = θ (-1 - d).toNat := by unfold ap1; rw [if_pos hn]
      rw [ap_cons, hv, wk_append _ 1 _ (hθ _ (by omega))]
      rcases List.mem_cons.1 hm with e | hm
      · injection e with _ e; omega
      · exact List.mem_append_right _ (wk_ap hθ r i _ h1 q c hc hm)
    · rw [ap_sym (by omega), wk_cons]
      rcases List.mem_cons.1 hm with e | hm
      · rw [e]; exact List.mem_cons_self ..
      · exact List.mem_cons_of_mem _ (wk_ap hθ r _ _ h1 q c hc hm)
theorem xpr_ap (hθ : Sub V ss θ) (h : xpr V ss t) : xpr V ss (ap θ t) := by
  obtain ⟨c, r, rfl, h1, h2⟩ := h
  by_cases hc : c < 0
  · rw [arc_neg hc] at h2
    rw [trm_zero h2]
    have hv : ap θ [c] = θ (-1 - c).toNat := by rw [ap_one]; unfold ap1; rw [if_pos hc]
    rw [hv]
    exact xpr_of_trm (hθ _ (by omega))
  · rw [ap_sym (by omega)]
    exact ⟨c, _, rfl, h1, trm_ap hθ h2⟩
theorem xpr_wk_ap (hθ : Sub V ss θ) (h : xpr V ss t) {q : List Int} {c : Int} (hc : 0 ≤ c) (hm : (q, c) ∈ wk ss t []) : (q, c) ∈ wk ss (ap θ t) [] := by
  obtain ⟨d, r, rfl, h1, h2⟩ := h
  rw [wk_cons] at hm
  by_cases hd : d < 0
  · rw [arc_neg hd] at h2
    rw [trm_zero h2, wk_nil] at hm
    simp at hm
    omega
  · rw [ap_sym (by omega), wk_cons]
    rcases List.mem_cons.1 hm with e | hm
    · rw [e]; exact List.mem_cons_self ..
    · exact List.mem_cons_of_mem _ (wk_ap hθ r _ _ h2 q c hc hm)
/-- Two that become the same have no two symbols at one place. -/
theorem xpr_apart {t u : List Int} (hθ : Sub V ss θ) (h : xpr V ss t) (k : xpr V ss u) (he : ap θ t = ap θ u) {q : List Int} {c d : Int} (hc : 0 ≤ c) (hd : 0 ≤ d) (h1 : (q, c) ∈ wk ss t []) (h2 : (q, d) ∈ wk ss u []) : c = d := by
  have k1 := xpr_wk_ap hθ h hc h1
  have k2 := xpr_wk_ap hθ k hd h2
  rw [← he] at k2
  exact pair_one (xpr_ordered (xpr_ap hθ h)) k1 k2
/-- Raised variables stand where they stood. -/
theorem wk_farR {y : Nat} : ∀ (r : List Int) (st : List (Nat × Nat)), ∀ q c, 0 ≤ c → ((q, c) ∈ wk ss (farR y r) st ↔ (q, c) ∈ wk ss r st)
  | [], _, q, c, _ => by rw [farR_nil]
  | d :: r, st, q, c, hc => by
    rw [farR_cons, wk_cons, wk_cons]
    by_cases hd : d < 0
    · rw [if_pos hd, arc_neg (by omega : d - (y : Int) < 0), arc_neg hd]
      have ih := wk_farR (y := y) r (nxt 0 st) q c hc
      simp only [List.mem_cons, ih, Prod.mk.injEq]
      constructor <;> rintro (⟨_, h⟩ | h) <;> first | omega | exact .inr h
    · rw [if_neg hd]
      have ih := wk_farR (y := y) r (nxt (arc ss d) st) q c hc
      simp only [List.mem_cons, ih]
end
/-- A term or an atom. -/
def exprB (ss : List Sym) (t : List Int) : Bool := atomB ss t || oneB ss t
section
variable {ss : List Sym} {t : List Int}
theorem expr_may (h : exprB ss t = true) : mayB ss = true := by
  unfold exprB at h
  rcases Bool.or_eq_true_iff.1 h with h | h
  · exact (atom_ex h).1
  · exact (one_trm h).1
theorem expr_xpr (h : exprB ss t = true) : xpr 24 ss t := by
  unfold exprB at h
  rcases Bool.or_eq_true_iff.1 h with h | h
  · obtain ⟨c, r, rfl, h1, _, _, _, h2⟩ := atom_parts h
    exact ⟨c, r, rfl, by omega, by unfold arc; rw [if_neg (by omega)]; exact h2⟩
  · exact xpr_of_trm (one_trm h).2
theorem expr_len (h : exprB ss t = true) : 0 < t.length ∧ t.length ≤ 49 := by
  unfold exprB at h
  rcases Bool.or_eq_true_iff.1 h with h | h
  · obtain ⟨c, r, rfl, _, _, _, h1, _⟩ := atom_parts h
    have := (row_parts h1).2.1
    simp; omega
  · have := one_parts h; omega
/-- What code stands at a place of an expression. -/
theorem expr_code (h : exprB ss t = true) {i : Nat} (hi : i < t.length) : intAt t i < 0 ∨ ((intAt t i).toNat < ss.length ∧ (symAt ss (intAt t i).toNat).arity = (arc ss (intAt t i) : Int) ∧ arc ss (intAt t i) ≤ 3) := by
  have hm := expr_may h
  by_cases hneg : intAt t i < 0
  · exact .inl hneg
  have h0 : 0 ≤ intAt t i := by omega
  right
  have hlt : (intAt t i).toNat < ss.length := by
    unfold exprB at h
    have one : ∀ {r : List Int} {j : Nat}, rowB ss r = true → j < r.length → 0 ≤ intAt r j → (intAt r j).toNat < ss.length := by
      intro r j hr hj h0
      obtain ⟨_, _, ht⟩ := row_parts hr
      obtain ⟨ns, hn⟩ := tl_drop_some ht j
      rw [drop_get hj (intAt_get hj)] at hn
      obtain ⟨qs, a, h1, h2, h3, _⟩ := tl_cons_inv hn
      exact (ar_sym hm h0 h2).1
    rcases Bool.or_eq_true_iff.1 h with h | h
    · obtain ⟨c, r, rfl, h1, h2, _, h3, _⟩ := atom_parts h
      cases i with
      | zero => exact h2
      | succ i => exact one (r := r) h3 (by simpa using hi) h0
    · exact one (one_parts h).1 hi h0
  have hb := may_bd hm hlt
  refine ⟨hlt, ?_, ?_⟩ <;> unfold arc <;> rw [if_neg (by omega)] <;> omega
end
end Go.Proofs.Ythdpojokogiinaa
