/-
  Plain words: which of two expressions is more (Knuth-Bendix), and what follows: no program.
-/
import Derived.Test.YtlpafnaokpjoiaaPlainUni
import Derived.Test.YtlpafnaokpjoiaaTermMore
namespace Go.Proofs.Ytlpafnaokpjoiaa
open Go.RowKit
set_option linter.unusedSimpArgs false
set_option linter.unusedVariables false
set_option maxRecDepth 100000

/-- Each variable stands in a at least as often as in b. -/
def Often (a b : List Int) : Prop := ∀ c : Int, c < 0 → b.count c ≤ a.count c
/-- a is more than b. -/
inductive Mor (ss : List Sym) : List Int → List Int → Prop
  | heavy {a b : List Int} : Often a b → wtSum ss b < wtSum ss a → Mor ss a b
  | code {c d : Int} {r s : List Int} : Often (c :: r) (d :: s) → wtSum ss (d :: s) = wtSum ss (c :: r) → d < c → Mor ss (c :: r) (d :: s)
  | args {c : Int} {k : Nat} {p x y s t : List Int} : Often (c :: (p ++ (x ++ s))) (c :: (p ++ (y ++ t))) → wtSum ss (c :: (p ++ (y ++ t))) = wtSum ss (c :: (p ++ (x ++ s))) → trm 24 ss p k → trm 24 ss x 1 → trm 24 ss y 1 → x ≠ y → Mor ss x y → Mor ss (c :: (p ++ (x ++ s))) (c :: (p ++ (y ++ t)))
section
variable {ss : List Sym} {a b e : List Int}
theorem Often.refl : Often a a := fun _ _ => Nat.le_refl _
theorem Often.trans (h : Often a b) (k : Often b e) : Often a e := fun c hc => Nat.le_trans (k c hc) (h c hc)
theorem Mor.often (h : Mor ss a b) : Often a b := by cases h <;> assumption
theorem Mor.wt (h : Mor ss a b) : wtSum ss b ≤ wtSum ss a := by
  cases h with
  | heavy _ h => omega
  | code _ h _ => omega
  | args _ h => omega
theorem Mor.inv (h : Mor ss a b) : Often a b ∧ (wtSum ss b < wtSum ss a ∨ (wtSum ss b = wtSum ss a ∧ ((∃ c r d s, a = c :: r ∧ b = d :: s ∧ d < c) ∨
    ∃ c k p x y s t, a = c :: (p ++ (x ++ s)) ∧ b = c :: (p ++ (y ++ t)) ∧ trm 24 ss p k ∧ trm 24 ss x 1 ∧ trm 24 ss y 1 ∧ x ≠ y ∧ Mor ss x y))) := by
  cases h with
  | heavy h1 h2 => exact ⟨h1, .inl h2⟩
  | code h1 h2 h3 => exact ⟨h1, .inr ⟨h2, .inl ⟨_, _, _, _, rfl, rfl, h3⟩⟩⟩
  | args h1 h2 h3 h4 h5 h6 h7 => exact ⟨h1, .inr ⟨h2, .inr ⟨_, _, _, _, _, _, _, rfl, rfl, h3, h4, h5, h6, h7⟩⟩⟩
theorem Mor.ne (h : Mor ss a b) : a ≠ b := by
  intro e
  obtain ⟨_, h | ⟨_, ⟨c, r, d, s, h1, h2, h3⟩ | ⟨c, k, p, x, y, s, t, h1, h2, h3, h4, h5, h6, _⟩⟩⟩ := h.inv
  · rw [e] at h; omega
  · rw [e, h2] at h1; injection h1 with h1; omega
  · rw [h1, h2] at e
    injection e with _ e
    have e := List.append_cancel_left e
    exact h6 (trm_uniq h4 h5 e).1
theorem Mor.irrefl : ¬ Mor ss a a := fun h => h.ne rfl
/-- Two rows of terms that lie one within the other's front. -/
theorem trm_longer {V : Nat} {p q u v : List Int} {j k : Nat} (hp : trm V ss p j) (hq : trm V ss q k) (h : p ++ u = q ++ v) (hjk : j ≤ k) : ∃ m, q = p ++ m ∧ u = m ++ v ∧ trm V ss m (k - j) := by
  obtain ⟨i, rfl⟩ : ∃ i, k = j + i := ⟨k - j, by omega⟩
  obtain ⟨x, y, rfl, h1, h2⟩ := trm_split hq
  rw [List.append_assoc] at h
  obtain ⟨e1, e2⟩ := trm_uniq hp h1 h
  subst e1
  refine ⟨y, rfl, e2, ?_⟩
  have : j + i - j = i := by omega
  rw [this]; exact h2
theorem Mor.trans (h : Mor ss a b) : ∀ {e : List Int}, Mor ss b e → Mor ss a e := by
  induction h with
  | heavy h1 h2 =>
    intro e k
    exact .heavy (h1.trans k.often) (by have := k.wt; omega)
  | code h1 h2 h3 =>
    intro e k
    have ko := h1.trans k.often
    obtain ⟨_, k1 | ⟨k1, ⟨c', r', d', s', q1, q2, q3⟩ | ⟨c', kk, p', x', y', s', t', q1, q2, _⟩⟩⟩ := k.inv
    · exact .heavy ko (by omega)
    · injection q1 with q1 _
      subst q2
      exact .code ko (by omega) (by omega)
    · injection q1 with q1 _
      subst q2
      exact .code ko (by omega) (by omega)
  | @args c k p x y s t h1 h2 h3 h4 h5 h6 h7 ih =>
    intro e m
    have mo := h1.trans m.often
    obtain ⟨_, k1 | ⟨k1, ⟨c', r', d', s', q1, q2, q3⟩ | ⟨c', kk, p', x', y', s', t', q1, q2, q3, q4, q5, q6, q7⟩⟩⟩ := m.inv
    · exact .heavy mo (by omega)
    · injection q1 with q1 _
      subst q2
      exact .code mo (by omega) (by omega)
    · injection q1 with q0 q1
      subst q0
      subst q2
      rcases Nat.lt_trichotomy k kk with hk | hk | hk
      · obtain ⟨m1, e1, e2, e3⟩ := trm_longer h3 q3 q1 (by omega)
        have e3' : trm 24 ss m1 (1 + (kk - k - 1)) := by rw [show 1 + (kk - k - 1) = kk - k by omega]; exact e3
        obtain ⟨y1, m2, e4, f1, f2⟩ := trm_split e3'
        subst e4
        rw [List.append_assoc] at e2
        obtain ⟨g1, g2⟩ := trm_uniq h5 f1 e2
        subst g1
        subst e1
        have e5 : p ++ (y ++ m2) ++ (y' ++ t') = p ++ (y ++ (m2 ++ (y' ++ t'))) := by simp
        rw [e5] at mo k1 ⊢
        exact .args mo (by omega) h3 h4 h5 h6 h7
      · subst hk
        obtain ⟨g1, g2⟩ := trm_uniq h3 q3 q1
        obtain ⟨g3, g4⟩ := trm_uniq h5 q4 g2
        subst g1; subst g3
        have hm := ih q7
        exact .args mo (by omega) h3 h4 q5 hm.ne hm
      · obtain ⟨m1, e1, e2, e3⟩ := trm_longer q3 h3 q1.symm (by omega)
        have e3' : trm 24 ss m1 (1 + (k - kk - 1)) := by rw [show 1 + (k - kk - 1) = k - kk by omega]; exact e3
        obtain ⟨y1, m2, e4, f1, f2⟩ := trm_split e3'
        subst e4
        rw [List.append_assoc] at e2
        obtain ⟨g1, g2⟩ := trm_uniq q4 f1 e2
        subst g1
        subst e1
        have e5 : p' ++ (x' ++ m2) ++ (x ++ s) = p' ++ (x' ++ (m2 ++ (x ++ s))) := by simp
        rw [e5] at mo h2 ⊢
        exact .args mo (by omega) q3 q4 q5 q6 q7
theorem Mor.asymm (h : Mor ss a b) (k : Mor ss b a) : False := Mor.irrefl (h.trans k)
/-- Two unlike rows of as many terms: the first two terms that are unlike. -/
theorem trm_diff {V k : Nat} {r s : List Int} (hr : trm V ss r k) (hs : trm V ss s k) (h : r ≠ s) : ∃ j p x y u v, r = p ++ (x ++ u) ∧ s = p ++ (y ++ v) ∧ trm V ss p j ∧ trm V ss x 1 ∧ trm V ss y 1 ∧ x ≠ y := by
  induction k generalizing r s with
  | zero => exact absurd (by rw [trm_zero hr, trm_zero hs]) h
  | succ k ih =>
    rw [Nat.add_comm] at hr hs
    obtain ⟨x, u, rfl, h1, h2⟩ := trm_split hr
    obtain ⟨y, v, rfl, k1, k2⟩ := trm_split hs
    by_cases e : x = y
    · subst e
      obtain ⟨j, p, x', y', u', v', e1, e2, q1, q2, q3, q4⟩ := ih h2 k2 (fun e => h (by rw [e]))
      subst e1; subst e2
      exact ⟨1 + j, x ++ p, x', y', u', v', by simp, by simp, trm_append h1 q1, q2, q3, q4⟩
    · exact ⟨0, [], x, y, u, v, rfl, rfl, trm_nil, h1, k1, e⟩
/-- A sum over the variables of a row. -/
def sumVars (g : Int → Int) : List Int → Int
  | [] => 0
  | c :: r => (if c < 0 then g c else 0) + sumVars g r
theorem sumVars_erase {g : Int → Int} {c : Int} (hc : c < 0) : ∀ {a : List Int}, c ∈ a → sumVars g a = g c + sumVars g (a.erase c)
  | [], h => by simp at h
  | x :: a, h => by
    by_cases e : x = c
    · subst e
      rw [List.erase_cons_head]
      show (if x < 0 then g x else 0) + _ = _
      rw [if_pos hc]
    · rw [List.erase_cons_tail (by simpa using e)]
      have := sumVars_erase (g := g) hc (a := a) (by rcases List.mem_cons.1 h with h | h; exact absurd h.symm e; exact h)
      show (if x < 0 then g x else 0) + sumVars g a = g c + ((if x < 0 then g x else 0) + sumVars g (a.erase c))
      omega
theorem sumVars_nonneg {g : Int → Int} : ∀ {a : List Int}, (∀ c ∈ a, c < 0 → 0 ≤ g c) → 0 ≤ sumVars g a
  | [], _ => Int.le_refl _
  | c :: a, hg => by
    have ih := sumVars_nonneg (g := g) (a := a) (fun x hx => hg x (by simp [hx]))
    show 0 ≤ (if c < 0 then g c else 0) + sumVars g a
    by_cases hc : c < 0
    · rw [if_pos hc]; have := hg c (by simp) hc; omega
    · rw [if_neg hc]; omega
theorem often_sum {g : Int → Int} : ∀ {b a : List Int}, (∀ c ∈ a, c < 0 → 0 ≤ g c) → Often a b → sumVars g b ≤ sumVars g a
  | [], a, hg, h => sumVars_nonneg hg
  | c :: b, a, hg, h => by
    show (if c < 0 then g c else 0) + sumVars g b ≤ sumVars g a
    by_cases hc : c < 0
    · rw [if_pos hc]
      have hin : c ∈ a := by
        have := h c hc
        rw [List.count_cons_self] at this
        exact List.count_pos_iff.1 (by omega)
      rw [sumVars_erase hc hin]
      have ho : Often (a.erase c) b := by
        intro d hd
        have := h d hd
        by_cases e : d = c
        · subst e
          rw [List.count_cons_self] at this
          rw [List.count_erase_self]
          omega
        · rw [List.count_cons_of_ne (fun q => e q.symm)] at this
          rw [List.count_erase_of_ne e]
          exact this
      have := often_sum (fun x hx => hg x (List.mem_of_mem_erase hx)) ho
      omega
    · rw [if_neg hc]
      have ho : Often a b := by
        intro d hd
        have := h d hd
        rw [List.count_cons_of_ne (by omega)] at this
        exact this
      have := often_sum hg ho
      omega
theorem wtSum_ap {σ : Nat → List Int} (r : List Int) : wtSum ss (ap σ r) = wtSum ss r + sumVars (fun c => wtSum ss (σ (-1 - c).toNat) - 1) r := by
  induction r with
  | nil => rfl
  | cons c r ih =>
    rw [ap_cons, wtSum_append, ih]
    show _ = (wtOf ss c + wtSum ss r) + ((if c < 0 then wtSum ss (σ (-1 - c).toNat) - 1 else 0) + _)
    by_cases hc : c < 0
    · have e1 : ap1 σ c = σ (-1 - c).toNat := by unfold ap1; rw [if_pos hc]
      have e2 : wtOf ss c = 1 := by unfold wtOf; rw [if_pos hc]
      rw [e1, e2, if_pos hc]; omega
    · rw [ap1_sym (by omega), if_neg hc]
      show wtOf ss c + 0 + _ = _
      omega
theorem count_ap {σ : Nat → List Int} {d : Int} (hd : d < 0) (r : List Int) : (((ap σ r).count d : Nat) : Int) = sumVars (fun c => (((σ (-1 - c).toNat).count d : Nat) : Int)) r := by
  induction r with
  | nil => rfl
  | cons c r ih =>
    rw [ap_cons, List.count_append]
    show _ = (if c < 0 then (((σ (-1 - c).toNat).count d : Nat) : Int) else 0) + _
    rw [← ih]
    by_cases hc : c < 0
    · have e1 : ap1 σ c = σ (-1 - c).toNat := by unfold ap1; rw [if_pos hc]
      rw [e1, if_pos hc]; omega
    · rw [ap1_sym (by omega), if_neg hc]
      have : ([c] : List Int).count d = 0 := by rw [List.count_eq_zero]; simp; omega
      omega
theorem Often.put {σ : Nat → List Int} (h : Often a b) : Often (ap σ a) (ap σ b) := by
  intro d hd
  have := often_sum (g := fun c => (((σ (-1 - c).toNat).count d : Nat) : Int)) (fun c _ _ => by omega) h
  have e1 := count_ap (σ := σ) hd a
  have e2 := count_ap (σ := σ) hd b
  omega
/-- An expression: a term, or a predicate and its terms. -/
def Ex (ss : List Sym) (a : List Int) : Prop := trm 24 ss a 1 ∨ ∃ c r, a = c :: r ∧ 0 ≤ c ∧ c.toNat < ss.length ∧ (symAt ss c.toNat).kind = 0 ∧ trm 24 ss r (symAt ss c.toNat).arity.toNat
theorem Ex.shape (hm : mayB ss = true) (h : Ex ss a) : (∃ v : Nat, v < 24 ∧ a = [-1 - (v : Int)]) ∨ ∃ c r, a = c :: r ∧ 0 ≤ c ∧ c.toNat < ss.length ∧ trm 24 ss r (symAt ss c.toNat).arity.toNat := by
  rcases h with h | ⟨c, r, h1, h2, h3, _, h4⟩
  · rcases trm_one h with h | ⟨c, ar, s, h1, h2, h3, h4⟩
    · exact .inl h
    · obtain ⟨q1, _, q3, _⟩ := ar_sym hm h2 h3
      refine .inr ⟨c, s, h1, h2, q1, ?_⟩
      rw [q3, Int.toNat_natCast]
      exact h4
  · exact .inr ⟨c, r, h1, h2, h3, h4⟩
theorem wtOf_pos (hm : mayB ss = true) {c : Int} (h : c < 0 ∨ c.toNat < ss.length) : 1 ≤ wtOf ss c := by
  unfold wtOf
  split
  · omega
  · have := may_bd hm (i := c.toNat) (by omega)
    omega
theorem trm_wp (hm : mayB ss = true) {r : List Int} {k : Nat} (h : trm 24 ss r k) : ∀ c ∈ r, 1 ≤ wtOf ss c := by
  obtain ⟨ms, h1, _⟩ := tl_of_trm h
  intro c hc
  obtain ⟨ar, har⟩ := tl_codes r h1 c hc
  by_cases h0 : c < 0
  · exact wtOf_pos hm (.inl h0)
  · exact wtOf_pos hm (.inr (ar_sym hm (by omega) har).1)
theorem Ex.wp (hm : mayB ss = true) (h : Ex ss a) : ∀ c ∈ a, 1 ≤ wtOf ss c := by
  rcases h with h | ⟨c, r, rfl, h2, h3, _, h4⟩
  · exact trm_wp hm h
  · intro x hx
    rcases List.mem_cons.1 hx with rfl | hx
    · exact wtOf_pos hm (.inr h3)
    · exact trm_wp hm h4 x hx
theorem Ex.ge (h : Ex ss a) : ∀ c ∈ a, -24 ≤ c := by
  rcases h with h | ⟨c, r, rfl, h2, h3, _, h4⟩
  · exact trm_codes h
  · intro x hx
    rcases List.mem_cons.1 hx with rfl | hx
    · omega
    · exact trm_codes h4 x hx
theorem wt_len {r : List Int} (h : ∀ c ∈ r, 1 ≤ wtOf ss c) : (r.length : Int) ≤ wtSum ss r := by
  induction r with
  | nil => exact Int.le_refl _
  | cons c r ih =>
    have h1 := ih (fun x hx => h x (by simp [hx]))
    have h2 := h c (by simp)
    show ((r.length + 1 : Nat) : Int) ≤ wtOf ss c + wtSum ss r
    omega
theorem wt_mono {σ : Nat → List Int} (hm : mayB ss = true) (hs : Sub 24 ss σ) (ho : Often a b) (hg : ∀ c ∈ a, -24 ≤ c) : wtSum ss (ap σ b) - wtSum ss b ≤ wtSum ss (ap σ a) - wtSum ss a := by
  have := often_sum (g := fun c => wtSum ss (σ (-1 - c).toNat) - 1) (fun c hc h0 => by
    have ht := hs (-1 - c).toNat (by have := hg c hc; omega)
    have h1 := wt_len (trm_wp hm ht)
    have h2 := trm_pos ht
    show 0 ≤ wtSum ss (σ (-1 - c).toNat) - 1
    omega) ho
  rw [wtSum_ap, wtSum_ap]
  omega
/-- What is more stays so, whatever stands for variables. -/
theorem Mor.stays {σ : Nat → List Int} (hm : mayB ss = true) (hs : Sub 24 ss σ) (h : Mor ss a b) : Ex ss a → Ex ss b → Mor ss (ap σ a) (ap σ b) := by
  induction h with
  | heavy h1 h2 =>
    intro ha hb
    have := wt_mono hm hs h1 ha.ge
    exact .heavy h1.put (by omega)
  | @code c d r s h1 h2 h3 =>
    intro ha hb
    have hw := wt_mono hm hs h1 ha.ge
    rcases hb.shape hm with ⟨v, hv, e⟩ | ⟨c', r', e, h0, _, _⟩
    · have hl := wt_len (ha.wp hm)
      have e1 : wtSum ss (d :: s) = 1 := by
        rw [e]
        show wtOf ss (-1 - (v : Int)) + 0 = 1
        unfold wtOf; rw [if_pos (by omega)]; rfl
      have hr : r = [] := by
        rw [← h2, e1] at hl
        exact List.length_eq_zero_iff.1 (by simp at hl; omega)
      injection e with e _
      have := h1 d (by omega)
      rw [List.count_cons_self, hr] at this
      have hc : d ∈ ([c] : List Int) := List.count_pos_iff.1 (by omega)
      simp at hc
      omega
    · injection e with e _
      have e1 : ap σ (c :: r) = c :: ap σ r := ap_sym (by omega) r
      have e2 : ap σ (d :: s) = d :: ap σ s := ap_sym (by omega) s
      have ho := h1.put (σ := σ)
      by_cases hlt : wtSum ss (ap σ (d :: s)) < wtSum ss (ap σ (c :: r))
      · exact .heavy ho hlt
      · have heq : wtSum ss (ap σ (d :: s)) = wtSum ss (ap σ (c :: r)) := by omega
        rw [e1, e2] at heq ho ⊢
        exact .code ho heq h3
  | @args c k p x y s t h1 h2 h3 h4 h5 h6 h7 ih =>
    intro ha hb
    have hw := wt_mono hm hs h1 ha.ge
    have hx := ih (.inl h4) (.inl h5)
    rcases hb.shape hm with ⟨v, hv, e⟩ | ⟨c', r', e, h0, _, _⟩
    · injection e with _ e
      have hp := trm_pos h5
      have := congrArg List.length e
      rw [List.length_append, List.length_append, List.length_nil] at this
      omega
    · injection e with e _
      have e1 : ap σ (c :: (p ++ (x ++ s))) = c :: (ap σ p ++ (ap σ x ++ ap σ s)) := by rw [ap_sym (by omega), ap_append, ap_append]
      have e2 : ap σ (c :: (p ++ (y ++ t))) = c :: (ap σ p ++ (ap σ y ++ ap σ t)) := by rw [ap_sym (by omega), ap_append, ap_append]
      have ho := h1.put (σ := σ)
      by_cases hlt : wtSum ss (ap σ (c :: (p ++ (y ++ t)))) < wtSum ss (ap σ (c :: (p ++ (x ++ s))))
      · exact .heavy ho hlt
      · have heq : wtSum ss (ap σ (c :: (p ++ (y ++ t)))) = wtSum ss (ap σ (c :: (p ++ (x ++ s)))) := by omega
        rw [e1, e2] at heq ho ⊢
        exact .args ho heq (trm_ap hs h3) (trm_ap hs h4) (trm_ap hs h5) hx.ne hx
theorem often_ground {a b : List Int} (hb : ∀ c ∈ b, 0 ≤ c) : Often a b := by
  intro c hc
  have : b.count c = 0 := List.count_eq_zero.2 (fun h => absurd (hb c h) (by omega))
  omega
/-- Of two unlike expressions without variables the one is more. -/
theorem Mor.total (hm : mayB ss = true) : ∀ (n : Nat) {a b : List Int}, a.length ≤ n → Ex ss a → Ex ss b → (∀ c ∈ a, 0 ≤ c) → (∀ c ∈ b, 0 ≤ c) → a ≠ b → Mor ss a b ∨ Mor ss b a
  | 0, a, b, hn, ha, hb, ga, gb, hne => by
    rcases ha.shape hm with ⟨v, _, e⟩ | ⟨c, r, e, _⟩
    · rw [e] at hn; simp at hn
    · rw [e] at hn; simp at hn
  | n + 1, a, b, hn, ha, hb, ga, gb, hne => by
    rcases ha.shape hm with ⟨v, _, e⟩ | ⟨c, r, e, h0, h1, h2⟩
    · have := ga (-1 - (v : Int)) (by rw [e]; simp); omega
    rcases hb.shape hm with ⟨v, _, e'⟩ | ⟨d, s, e', k0, k1, k2⟩
    · have := gb (-1 - (v : Int)) (by rw [e']; simp); omega
    have ho := often_ground (a := a) gb
    have ho' := often_ground (a := b) ga
    subst e; subst e'
    rcases Int.lt_trichotomy (wtSum ss (c :: r)) (wtSum ss (d :: s)) with q | q | q
    · exact .inr (.heavy ho' q)
    · rcases Int.lt_trichotomy c d with q' | q' | q'
      · exact .inr (.code ho' q q')
      · subst q'
        obtain ⟨j, p, x, y, u, v, e1, e2, q1, q2, q3, q4⟩ := trm_diff h2 k2 (fun e => hne (by rw [e]))
        subst e1; subst e2
        have hx : ∀ z ∈ x, 0 ≤ z := fun z hz => ga z (by simp [hz])
        have hy : ∀ z ∈ y, 0 ≤ z := fun z hz => gb z (by simp [hz])
        rcases Mor.total hm n (a := x) (b := y) (by simp at hn; omega) (.inl q2) (.inl q3) hx hy q4 with m | m
        · exact .inl (.args ho q.symm q1 q2 q3 q4 m)
        · exact .inr (.args ho' q q1 q3 q2 (fun e => q4 e.symm) m)
      · exact .inl (.code ho q.symm q')
    · exact .inl (.heavy ho q)
/-- The second of two arguments decides, where the first ones are the same. -/
theorem Mor.within {f : Int} {c : List Int} (hf : 0 ≤ f) (hc : trm 24 ss c 1) (ha : trm 24 ss a 1) (hb : trm 24 ss b 1) : Mor ss (f :: (c ++ a)) (f :: (c ++ b)) ↔ Mor ss a b := by
  have hcnt : ∀ d : Int, d < 0 → ∀ z : List Int, (f :: (c ++ z)).count d = c.count d + z.count d := fun d hd z => by
    rw [List.count_cons_of_ne (by omega), List.count_append]
  have hwt : ∀ z : List Int, wtSum ss (f :: (c ++ z)) = wtOf ss f + wtSum ss c + wtSum ss z := fun z => by
    show wtOf ss f + wtSum ss (c ++ z) = _
    rw [wtSum_append]; omega
  have hoft : Often (f :: (c ++ a)) (f :: (c ++ b)) ↔ Often a b := by
    constructor
    · intro h d hd
      have := h d hd
      rw [hcnt d hd, hcnt d hd] at this
      omega
    · intro h d hd
      have := h d hd
      rw [hcnt d hd, hcnt d hd]
      omega
  constructor
  · intro h
    obtain ⟨ho, h | ⟨hw, ⟨c', r', d', s', q1, q2, q3⟩ | ⟨c', kk, p', x', y', s', t', q1, q2, q3, q4, q5, q6, q7⟩⟩⟩ := h.inv
    · rw [hwt, hwt] at h
      exact .heavy (hoft.1 ho) (by omega)
    · injection q1 with q1 _
      injection q2 with q2 _
      omega
    · injection q1 with _ q1
      injection q2 with _ q2
      rcases Nat.lt_trichotomy kk 1 with hk | hk | hk
      · have hk0 : kk = 0 := by omega
        subst hk0
        have hp : p' = [] := trm_zero q3
        subst hp
        have g1 := (trm_uniq hc q4 q1).1
        have g2 := (trm_uniq hc q5 q2).1
        exact absurd (g1.symm.trans g2) q6
      · subst hk
        obtain ⟨g1, g2⟩ := trm_uniq hc q3 q1
        obtain ⟨g3, g4⟩ := trm_uniq hc q3 q2
        have e1 := (trm_uniq ha q4 (p := []) (by rw [List.append_nil]; exact g2)).1
        have e2 := (trm_uniq hb q5 (p := []) (by rw [List.append_nil]; exact g4)).1
        rw [e1, e2]; exact q7
      · obtain ⟨m, e1, e2, e3⟩ := trm_longer (trm_append hc ha) q3 (u := []) (by rw [List.append_nil]; exact q1) (by omega)
        have hp := trm_pos q4
        have := congrArg List.length e2
        simp at this
        omega
  · intro h
    have ho := hoft.2 h.often
    by_cases q : wtSum ss b < wtSum ss a
    · exact .heavy ho (by rw [hwt, hwt]; omega)
    · have hle := h.wt
      have e1 : f :: (c ++ a) = f :: (c ++ (a ++ [])) := by rw [List.append_nil]
      have e2 : f :: (c ++ b) = f :: (c ++ (b ++ [])) := by rw [List.append_nil]
      have hw : wtSum ss (f :: (c ++ b)) = wtSum ss (f :: (c ++ a)) := by rw [hwt, hwt]; omega
      rw [e1, e2] at ho hw ⊢
      exact .args ho hw hc ha hb h.ne h
/-- A term is more than its parts. -/
theorem Mor.part {f : Int} {c : List Int} (hm : mayB ss = true) (hf : 0 ≤ f) (hfl : f.toNat < ss.length) (hc : trm 24 ss c 1) (ha : trm 24 ss a 1) : Mor ss (f :: (c ++ a)) a ∧ Mor ss (f :: (c ++ a)) c := by
  have h1 := wtOf_pos hm (c := f) (.inr hfl)
  have h2 := wt_len (trm_wp hm hc)
  have h3 := wt_len (trm_wp hm ha)
  have hw : wtSum ss (f :: (c ++ a)) = wtOf ss f + (wtSum ss c + wtSum ss a) := by
    show wtOf ss f + wtSum ss (c ++ a) = _
    rw [wtSum_append]
  refine ⟨.heavy (fun d hd => ?_) (by omega), .heavy (fun d hd => ?_) (by omega)⟩
  · rw [List.count_cons_of_ne (by omega), List.count_append]; omega
  · rw [List.count_cons_of_ne (by omega), List.count_append]; omega
/-- An atom. -/
def atomB (ss : List Sym) : List Int → Bool
  | [] => false
  | c :: r => decide (0 ≤ c) && decide (c.toNat < ss.length) && decide ((symAt ss c.toNat).kind = 0) && rowB ss r && decide (((tlD ss r).length : Int) = (symAt ss c.toNat).arity)
/-- Two terms or two atoms. -/
def exB (ss : List Sym) (a b : List Int) : Bool := (oneB ss a && oneB ss b) || (atomB ss a && atomB ss b)
theorem one_trm (h : oneB ss a = true) : mayB ss = true ∧ trm 24 ss a 1 := by
  obtain ⟨h1, ⟨m, h2⟩, _⟩ := one_parts h
  exact ⟨(row_parts h1).1, trm_of_tl h2⟩
theorem trm_oneB (hm : mayB ss = true) (h : trm 24 ss a 1) (hl : a.length ≤ 48) : oneB ss a = true := by
  obtain ⟨ms, h1, h2⟩ := tl_of_trm h
  exact one_of hm hl h1 h2
theorem atom_parts (h : atomB ss a = true) : ∃ c r, a = c :: r ∧ 0 ≤ c ∧ c.toNat < ss.length ∧ (symAt ss c.toNat).kind = 0 ∧ rowB ss r = true ∧ trm 24 ss r (symAt ss c.toNat).arity.toNat := by
  cases a with
  | nil => cases h
  | cons c r =>
    unfold atomB at h
    simp only [Bool.and_eq_true, decide_eq_true_eq] at h
    obtain ⟨⟨⟨⟨h1, h2⟩, h3⟩, h4⟩, h5⟩ := h
    refine ⟨c, r, rfl, h1, h2, h3, h4, ?_⟩
    have := trm_of_tl (row_parts h4).2.2
    rw [← h5, Int.toNat_natCast]
    exact this
theorem atom_ex (h : atomB ss a = true) : mayB ss = true ∧ Ex ss a := by
  obtain ⟨c, r, h1, h2, h3, h4, h5, h6⟩ := atom_parts h
  exact ⟨(row_parts h5).1, .inr ⟨c, r, h1, h2, h3, h4, h6⟩⟩
theorem one_atom (h : oneB ss a = true) (k : atomB ss a = true) : False := by
  obtain ⟨hm, ht⟩ := one_trm h
  obtain ⟨c, r, h1, h2, h3, h4, _⟩ := atom_parts k
  subst h1
  rcases trm_one ht with ⟨v, _, e⟩ | ⟨c', ar, s, e, _, har, _⟩
  · injection e with e _; omega
  · injection e with e _
    subst e
    exact (ar_sym hm h2 har).2.1 h4
theorem row_atom (h : rowB ss a = true) (k : atomB ss a = true) : False := by
  obtain ⟨c, r, h1, h2, h3, h4, _⟩ := atom_parts k
  subst h1
  obtain ⟨ar, har⟩ := tl_codes _ (row_parts h).2.2 c (by simp)
  exact (ar_sym (row_parts h).1 h2 har).2.1 h4
theorem exB_yes (h : exB ss a b = true) : mayB ss = true ∧ Ex ss a ∧ Ex ss b ∧ ((oneB ss a = true ∧ oneB ss b = true) ∨ (atomB ss a = true ∧ atomB ss b = true)) := by
  unfold exB at h
  simp only [Bool.or_eq_true, Bool.and_eq_true] at h
  rcases h with ⟨h1, h2⟩ | ⟨h1, h2⟩
  · exact ⟨(one_trm h1).1, .inl (one_trm h1).2, .inl (one_trm h2).2, .inl ⟨h1, h2⟩⟩
  · exact ⟨(atom_ex h1).1, (atom_ex h1).2, (atom_ex h2).2, .inr ⟨h1, h2⟩⟩
theorem exB_comm : exB ss b a = exB ss a b := by unfold exB; rw [Bool.and_comm, Bool.and_comm (atomB ss b)]
theorem exB_one (h1 : oneB ss a = true) (h2 : oneB ss b = true) : exB ss a b = true := by unfold exB; rw [h1, h2]; rfl
theorem exB_trans (h : exB ss a b = true) (k : exB ss b e = true) : exB ss a e = true := by
  obtain ⟨_, _, _, h⟩ := exB_yes h
  obtain ⟨_, _, _, k⟩ := exB_yes k
  rcases h with ⟨h1, h2⟩ | ⟨h1, h2⟩
  · rcases k with ⟨k1, k2⟩ | ⟨k1, k2⟩
    · exact exB_one h1 k2
    · exact (one_atom h2 k1).elim
  · rcases k with ⟨k1, k2⟩ | ⟨k1, k2⟩
    · exact (one_atom k1 h2).elim
    · unfold exB; rw [h1, k2]; simp
/-- What Compare answers: 0 less, 1 the same, 2 more, 3 none of these. -/
def CmpR (ss : List Sym) (a b : List Int) (E k : Int) : Prop :=
  (exB ss a b = false ∧ E = 600 ∧ k = 0) ∨
  (exB ss a b = true ∧ E = 0 ∧ ((a = b ∧ k = 1) ∨ (Mor ss a b ∧ k = 2) ∨ (Mor ss b a ∧ k = 0) ∨ (a ≠ b ∧ ¬ Mor ss a b ∧ ¬ Mor ss b a ∧ k = 3)))
variable {E E' k m : Int}
theorem CmpR.unique (h : CmpR ss a b E k) (h' : CmpR ss a b E' m) : E = E' ∧ k = m := by
  rcases h with ⟨h0, rfl, rfl⟩ | ⟨h0, rfl, h⟩
  · rcases h' with ⟨_, rfl, rfl⟩ | ⟨k0, _⟩
    · exact ⟨rfl, rfl⟩
    · rw [h0] at k0; cases k0
  · rcases h' with ⟨k0, _⟩ | ⟨_, rfl, h'⟩
    · rw [h0] at k0; cases k0
    · refine ⟨rfl, ?_⟩
      rcases h with ⟨h, rfl⟩ | ⟨h, rfl⟩ | ⟨h, rfl⟩ | ⟨h1, h2, h3, rfl⟩
      · rcases h' with ⟨_, rfl⟩ | ⟨q, rfl⟩ | ⟨q, rfl⟩ | ⟨q1, _⟩
        · rfl
        · exact absurd h q.ne
        · exact absurd h.symm q.ne
        · exact absurd h q1
      · rcases h' with ⟨q, rfl⟩ | ⟨_, rfl⟩ | ⟨q, rfl⟩ | ⟨_, q2, _⟩
        · exact absurd q h.ne
        · rfl
        · exact (h.asymm q).elim
        · exact absurd h q2
      · rcases h' with ⟨q, rfl⟩ | ⟨q, rfl⟩ | ⟨_, rfl⟩ | ⟨_, _, q3, _⟩
        · exact absurd q.symm h.ne
        · exact (h.asymm q).elim
        · rfl
        · exact absurd h q3
      · rcases h' with ⟨q, rfl⟩ | ⟨q, rfl⟩ | ⟨q, rfl⟩ | ⟨_, _, _, rfl⟩
        · exact absurd q h1
        · exact absurd q h2
        · exact absurd q h3
        · rfl
/-- The answer the other way round. -/
def turnK (k : Int) : Int := if k = 0 then 2 else if k = 2 then 0 else k
theorem CmpR.turn (h : CmpR ss a b E k) : (E = 600 ∧ k = 0 ∧ CmpR ss b a 600 0) ∨ (E = 0 ∧ CmpR ss b a 0 (turnK k)) := by
  rcases h with ⟨h0, rfl, rfl⟩ | ⟨h0, rfl, h⟩
  · exact .inl ⟨rfl, rfl, .inl ⟨by rw [exB_comm]; exact h0, rfl, rfl⟩⟩
  · refine .inr ⟨rfl, .inr ⟨by rw [exB_comm]; exact h0, rfl, ?_⟩⟩
    rcases h with ⟨h, rfl⟩ | ⟨h, rfl⟩ | ⟨h, rfl⟩ | ⟨h1, h2, h3, rfl⟩
    · exact .inl ⟨h.symm, rfl⟩
    · exact .inr (.inr (.inl ⟨h, rfl⟩))
    · exact .inr (.inl ⟨h, rfl⟩)
    · exact .inr (.inr (.inr ⟨fun e => h1 e.symm, h3, h2, rfl⟩))
theorem CmpR.zero (h : CmpR ss a b 0 k) : exB ss a b = true ∧ (k = 0 ∨ k = 1 ∨ k = 2 ∨ k = 3) ∧ (k = 1 ↔ a = b) ∧ (k = 2 ↔ Mor ss a b) ∧ (k = 0 ↔ Mor ss b a) := by
  rcases h with ⟨_, h, _⟩ | ⟨h0, _, h⟩
  · cases h
  · refine ⟨h0, ?_⟩
    rcases h with ⟨h, rfl⟩ | ⟨h, rfl⟩ | ⟨h, rfl⟩ | ⟨h1, h2, h3, rfl⟩
    · subst h
      exact ⟨by omega, by simp, ⟨fun h => by omega, fun h => (Mor.irrefl h).elim⟩, ⟨fun h => by omega, fun h => (Mor.irrefl h).elim⟩⟩
    · exact ⟨by omega, ⟨fun h => by omega, fun q => absurd q h.ne⟩, ⟨fun _ => h, fun _ => rfl⟩, ⟨fun h => by omega, fun q => (h.asymm q).elim⟩⟩
    · exact ⟨by omega, ⟨fun h => by omega, fun q => absurd q.symm h.ne⟩, ⟨fun h => by omega, fun q => (h.asymm q).elim⟩, ⟨fun _ => h, fun _ => rfl⟩⟩
    · exact ⟨by omega, ⟨fun h => by omega, fun q => absurd q h1⟩, ⟨fun h => by omega, fun q => absurd q h2⟩, ⟨fun h => by omega, fun q => absurd q h3⟩⟩
/-- What is more than what is more than a third. -/
theorem CmpR.row {q : Int} (h : CmpR ss a b 0 2) (h' : CmpR ss b e 0 2) (h'' : CmpR ss a e E q) : E = 0 ∧ q = 2 := by
  have m1 := h.zero.2.2.2.1.1 rfl
  have m2 := h'.zero.2.2.2.1.1 rfl
  exact h''.unique (.inr ⟨exB_trans h.zero.1 h'.zero.1, rfl, .inr (.inl ⟨m1.trans m2, rfl⟩)⟩)
/-- Without variables. -/
theorem CmpR.ground (ga : ∀ c ∈ a, 0 ≤ c) (gb : ∀ c ∈ b, 0 ≤ c) (h : CmpR ss a b 0 k) : (a = b ∧ k = 1) ∨ (a ≠ b ∧ (k = 2 ∨ k = 0)) := by
  obtain ⟨h0, _, h1, h2, h3⟩ := h.zero
  obtain ⟨hm, ha, hb, _⟩ := exB_yes h0
  by_cases e : a = b
  · exact .inl ⟨e, h1.2 e⟩
  · refine .inr ⟨e, ?_⟩
    rcases Mor.total hm a.length (Nat.le_refl _) ha hb ga gb e with q | q
    · exact .inl (h2.2 q)
    · exact .inr (h3.2 q)
/-- Whatever stands for variables. -/
theorem CmpR.stays {us : List Bd} (h : CmpR ss a b 0 k) (hk : k ≠ 3) (ha : applyE ss us a = 0) (hb : applyE ss us b = 0) (h' : CmpR ss (applyR ss us a) (applyR ss us b) E m) : E = 0 ∧ m = k := by
  obtain ⟨h0, hk', h1, h2, h3⟩ := h.zero
  obtain ⟨u1, a1, a2, a3⟩ := ap_zero ha
  obtain ⟨_, b1, b2, b3⟩ := ap_zero hb
  obtain ⟨hm, ea, eb, hh⟩ := exB_yes h0
  have hs := fn_sub u1
  rcases hh with ⟨o1, o2⟩ | ⟨o1, _⟩
  · have ta := (one_trm o1).2
    have tb := (one_trm o2).2
    have xa : oneB ss (put us a) = true := trm_oneB hm (by rw [put_fn]; exact trm_ap hs ta) a2
    have xb : oneB ss (put us b) = true := trm_oneB hm (by rw [put_fn]; exact trm_ap hs tb) b2
    rw [a3, b3] at h'
    have hx := exB_one xa xb
    refine h'.unique (.inr ⟨hx, rfl, ?_⟩)
    rw [put_fn, put_fn]
    rcases hk' with q | q | q | q
    · exact .inr (.inr (.inl ⟨(h3.1 q).stays hm hs eb ea, q⟩))
    · exact .inl ⟨by rw [h1.1 q], q⟩
    · exact .inr (.inl ⟨(h2.1 q).stays hm hs ea eb, q⟩)
    · exact absurd q hk
  · exact (row_atom a1 o1).elim
end
end Go.Proofs.Ytlpafnaokpjoiaa
