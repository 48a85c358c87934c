/-
  Plain words for what makes two rows the same: no program. Rows of terms, what stands for variables, the most general one, that there is only one.
  Plain words for the program's way of making two rows the same: nodes, classes of nodes, their lengths. No program.
  Plain words for the program's way of making two rows the same: classes of nodes joined, their lengths, what comes of it. No program.
  Plain words for the program's way of making two rows the same: how long what each node stands for becomes, and what comes of it. No program.
  Plain words for the reference's way of making two rows the same: a store of what stands for variables, bound one by one. No program.
  Plain words: one variable and one term; what Unify answers of them, and of the small rows that the laws ask first.
  Plain words: what follows of what Unify answers.
-/
import Derived.Test.YtmdajmdjmdbonaaBaseTerm
import Derived.Test.YtmdajmdjmdbonaaBaseMore
namespace Go.Proofs.Ytmdajmdjmdbonaa
open Go.RowKit
set_option linter.unusedSimpArgs false
set_option linter.unusedVariables false

/-- A row of k terms, its variables below V. -/
def trm (V : Nat) (ss : List Sym) (r : List Int) (k : Nat) : Prop := (∃ ms, tl ss (nrm r) = some ms ∧ ms.length = k) ∧ ∀ c ∈ r, -(V : Int) ≤ c
/-- What stands for each variable, put into a row. -/
def ap1 (θ : Nat → List Int) (c : Int) : List Int := if c < 0 then θ (-1 - c).toNat else [c]
def ap (θ : Nat → List Int) (r : List Int) : List Int := r.flatMap (ap1 θ)
def Sub (V : Nat) (ss : List Sym) (θ : Nat → List Int) : Prop := ∀ v, v < V → trm V ss (θ v) 1

section
variable {V : Nat} {ss : List Sym} {r x y p q : List Int} {j k : Nat} {θ σ τ : Nat → List Int}
theorem nrm_cons (c : Int) (r : List Int) : nrm (c :: r) = vn c :: nrm r := rfl
theorem trm_nil : trm V ss [] 0 := ⟨⟨[], rfl, rfl⟩, by simp⟩
theorem trm_append (hx : trm V ss x j) (hy : trm V ss y k) : trm V ss (x ++ y) (j + k) := by
  obtain ⟨⟨a, a1, a2⟩, a3⟩ := hx
  obtain ⟨⟨b, b1, b2⟩, b3⟩ := hy
  refine ⟨⟨a ++ b, by rw [nrm_append]; exact tl_append _ _ a1 b1, by simp [a2, b2]⟩, fun c hc => ?_⟩
  rcases List.mem_append.1 hc with h | h
  · exact a3 c h
  · exact b3 c h
theorem trm_sym {c : Int} {a : Nat} (h0 : 0 ≤ c) (ha : arOf ss c = some a) (hr : trm V ss r k) (hk : a ≤ k) : trm V ss (c :: r) (k - a + 1) := by
  obtain ⟨⟨ms, m1, m2⟩, m3⟩ := hr
  have hv : vn c = c := by unfold vn; rw [if_neg (by omega)]
  have := tl_cons m1 ha (by omega)
  refine ⟨⟨_, by rw [nrm_cons, hv]; exact this, by simp; omega⟩, fun d hd => ?_⟩
  rcases List.mem_cons.1 hd with rfl | hd
  · omega
  · exact m3 d hd
theorem trm_var {v : Nat} (h : v < V) : trm V ss [-1 - (v : Int)] 1 := by
  refine ⟨⟨[(1, 1)], ?_, rfl⟩, by simp; omega⟩
  have : nrm [-1 - (v : Int)] = [-1] := by unfold nrm vn; simp; omega
  rw [this]; exact tl_var (by omega) (by omega)
/-- A row's first code, and what is behind. -/
theorem trm_cons {c : Int} (h : trm V ss (c :: r) k) : (c < 0 ∧ -(V : Int) ≤ c ∧ ∃ i, k = i + 1 ∧ trm V ss r i) ∨ (0 ≤ c ∧ ∃ a i, arOf ss c = some a ∧ k = i + 1 ∧ trm V ss r (a + i)) := by
  obtain ⟨⟨ms, m1, m2⟩, m3⟩ := h
  rw [nrm_cons] at m1
  obtain ⟨qs, a, h1, h2, h3, rfl⟩ := tl_cons_inv m1
  have m4 : ∀ d ∈ r, -(V : Int) ≤ d := fun d hd => m3 d (List.mem_cons_of_mem _ hd)
  have m5 := m3 c (List.mem_cons_self ..)
  by_cases hc : c < 0
  · left
    have : vn c = -1 := by unfold vn; rw [if_pos hc]
    rw [this] at h2
    obtain ⟨_, rfl⟩ := ar_var (by omega) h2
    refine ⟨hc, m5, qs.length, by rw [← m2]; simp, ⟨qs, h1, rfl⟩, m4⟩
  · right
    have : vn c = c := by unfold vn; rw [if_neg hc]
    rw [this] at h2
    refine ⟨by omega, a, qs.length - a, h2, by rw [← m2]; simp, ⟨qs, h1, by omega⟩, m4⟩
theorem trm_zero (h : trm V ss r 0) : r = [] := by
  cases r with
  | nil => rfl
  | cons c r =>
    rcases trm_cons h with ⟨_, _, i, h1, _⟩ | ⟨_, a, i, _, h1, _⟩ <;> omega
theorem trm_len (h : trm V ss r k) : k ≤ r.length := by
  obtain ⟨⟨ms, m1, m2⟩, _⟩ := h
  have := tl_len _ m1
  rw [nrm_length] at this
  omega
theorem trm_pos (h : trm V ss r 1) : 1 ≤ r.length := trm_len h
theorem trm_codes (h : trm V ss r k) : ∀ c ∈ r, -(V : Int) ≤ c := h.2
/-- One term: a variable, or a symbol with its terms. -/
theorem trm_one (h : trm V ss r 1) : (∃ v, v < V ∧ r = [-1 - (v : Int)]) ∨ (∃ c a s, r = c :: s ∧ 0 ≤ c ∧ arOf ss c = some a ∧ trm V ss s a) := by
  cases r with
  | nil => have := trm_pos h; simp at this
  | cons c s =>
    rcases trm_cons h with ⟨h1, h2, i, h3, h4⟩ | ⟨h1, a, i, h2, h3, h4⟩
    · left
      have : i = 0 := by omega
      subst this
      rw [trm_zero h4]
      exact ⟨(-1 - c).toNat, by omega, by congr 1; omega⟩
    · right
      have : i = 0 := by omega
      subst this
      exact ⟨c, a, s, rfl, h1, h2, h4⟩
theorem scan_front (x p : List Int) {ms : List (Nat × Nat)} (h : tl ss x = some ms) (k : Nat) (hk : k ≤ ms.length) : scan ss (x ++ p) k = some (sumL (ms.take k)) := by
  induction x generalizing ms k with
  | nil =>
    have := (tl_nil_iff h).2 rfl
    subst this
    simp at hk
    subst hk
    rw [scan_zero]; rfl
  | cons c r ih =>
    obtain ⟨qs, a, h1, h2, h3, rfl⟩ := tl_cons_inv h
    cases k with
    | zero => rw [scan_zero]; simp [sumL]
    | succ k =>
      rw [List.cons_append, scan_succ, h2]
      show (scan ss (r ++ p) (k + a)).map (· + 1) = _
      rw [ih h1 (k + a) (by simp at hk; omega)]
      have e : k + a = a + k := by omega
      simp only [Option.map_some, List.take_succ_cons, sumL]
      rw [e, take_add', sumL_append]
      congr 1; omega
/-- Rows of as many terms at the front of the same row are the same. -/
theorem trm_uniq (hx : trm V ss x k) (hy : trm V ss y k) (h : x ++ p = y ++ q) : x = y ∧ p = q := by
  obtain ⟨⟨a, a1, a2⟩, _⟩ := hx
  obtain ⟨⟨b, b1, b2⟩, _⟩ := hy
  have e1 := scan_front _ (nrm p) a1 k (by omega)
  have e2 := scan_front _ (nrm q) b1 k (by omega)
  rw [← nrm_append] at e1 e2
  rw [h, e2, ← a2, List.take_length] at e1
  rw [a2, ← b2, List.take_length] at e1
  injection e1 with e1
  rw [tl_all _ a1, tl_all _ b1, nrm_length, nrm_length] at e1
  exact List.append_inj h e1.symm
theorem trm_uniq' (hx : trm V ss x k) (hy : trm V ss y j) (h : x = y) : k = j := by
  obtain ⟨⟨a, a1, a2⟩, _⟩ := hx
  obtain ⟨⟨b, b1, b2⟩, _⟩ := hy
  subst h
  rw [a1] at b1
  injection b1 with b1
  rw [← a2, ← b2, b1]
/-- A row of j + k terms is one of j and one of k behind it. -/
theorem trm_split (h : trm V ss r (j + k)) : ∃ x y, r = x ++ y ∧ trm V ss x j ∧ trm V ss y k := by
  obtain ⟨⟨ms, m1, m2⟩, m3⟩ := h
  refine ⟨r.take (sumL (ms.take j)), r.drop (sumL (ms.take j)), (List.take_append_drop ..).symm, ⟨⟨ms.take j, ?_, by simp; omega⟩, fun c hc => m3 c (List.mem_of_mem_take hc)⟩, ⟨ms.drop j, ?_, by simp; omega⟩, fun c hc => m3 c (List.mem_of_mem_drop hc)⟩
  · rw [← nrm_take]; exact tl_take _ m1 j (by omega)
  · rw [← nrm_drop]; exact (tl_skip _ m1 j (by omega)).1

theorem ap_nil : ap θ [] = [] := rfl
theorem ap_cons (c : Int) (r : List Int) : ap θ (c :: r) = ap1 θ c ++ ap θ r := by unfold ap; simp
theorem ap_append (x y : List Int) : ap θ (x ++ y) = ap θ x ++ ap θ y := by unfold ap; simp
theorem ap_one (c : Int) : ap θ [c] = ap1 θ c := by unfold ap; simp
theorem ap1_sym {c : Int} (h : 0 ≤ c) : ap1 θ c = [c] := by unfold ap1; rw [if_neg (by omega)]
theorem ap1_var (v : Nat) : ap1 θ (-1 - (v : Int)) = θ v := by
  unfold ap1; rw [if_pos (by omega)]; congr 1; omega
theorem ap_var (v : Nat) : ap θ [-1 - (v : Int)] = θ v := by rw [ap_one, ap1_var]
theorem ap_sym {c : Int} (h : 0 ≤ c) (r : List Int) : ap θ (c :: r) = c :: ap θ r := by rw [ap_cons, ap1_sym h]; rfl
theorem ap_ap (r : List Int) : ap θ (ap σ r) = ap (fun v => ap θ (σ v)) r := by
  induction r with
  | nil => rfl
  | cons c r ih =>
    rw [ap_cons, ap_append, ih, ap_cons]
    congr 1
    by_cases hc : c < 0
    · unfold ap1; rw [if_pos hc, if_pos hc]
    · rw [ap1_sym (by omega), ap1_sym (by omega), ap_one, ap1_sym (by omega)]
theorem ap_congr {n : Nat} (hr : ∀ c ∈ r, -(n : Int) ≤ c) (h : ∀ v, v < n → θ v = σ v) : ap θ r = ap σ r := by
  induction r with
  | nil => rfl
  | cons c r ih =>
    rw [ap_cons, ap_cons, ih fun d hd => hr d (List.mem_cons_of_mem _ hd)]
    congr 1
    have := hr c (List.mem_cons_self ..)
    by_cases hc : c < 0
    · unfold ap1; rw [if_pos hc, if_pos hc, h _ (by omega)]
    · rw [ap1_sym (by omega), ap1_sym (by omega)]
theorem ap_on (h : ∀ c ∈ r, c < 0 → θ (-1 - c).toNat = σ (-1 - c).toNat) : ap θ r = ap σ r := by
  induction r with
  | nil => rfl
  | cons c r ih =>
    rw [ap_cons, ap_cons, ih fun d hd => h d (List.mem_cons_of_mem _ hd)]
    congr 1
    by_cases hc : c < 0
    · unfold ap1; rw [if_pos hc, if_pos hc, h c (List.mem_cons_self ..) hc]
    · rw [ap1_sym (by omega), ap1_sym (by omega)]
theorem ap_id (h : ∀ c ∈ r, c < 0 → θ (-1 - c).toNat = [c]) : ap θ r = r := by
  induction r with
  | nil => rfl
  | cons c r ih =>
    rw [ap_cons, ih fun d hd => h d (List.mem_cons_of_mem _ hd)]
    by_cases hc : c < 0
    · unfold ap1; rw [if_pos hc, h c (List.mem_cons_self ..) hc]; rfl
    · rw [ap1_sym (by omega)]; rfl
theorem trm_ap (hs : Sub V ss θ) : ∀ {r : List Int} {k : Nat}, trm V ss r k → trm V ss (ap θ r) k
  | [], k, h => by
    have : k = 0 := trm_uniq' h trm_nil rfl
    subst this
    exact trm_nil
  | c :: r, k, h => by
    rw [ap_cons]
    rcases trm_cons h with ⟨h1, h2, i, rfl, h4⟩ | ⟨h1, a, i, h2, rfl, h4⟩
    · have e : c = -1 - (((-1 - c).toNat : Nat) : Int) := by omega
      rw [e, ap1_var]
      have := trm_append (hs (-1 - c).toNat (by omega)) (trm_ap hs h4)
      rw [Nat.add_comm 1 i] at this
      exact this
    · rw [ap1_sym h1]
      have := trm_sym h1 h2 (trm_ap hs h4) (by omega)
      rw [Nat.add_sub_cancel_left] at this
      exact this
theorem ap1_pos (hs : Sub V ss θ) {c : Int} (hc : -(V : Int) ≤ c) : 1 ≤ (ap1 θ c).length := by
  by_cases h : c < 0
  · unfold ap1; rw [if_pos h]; exact trm_pos (hs _ (by omega))
  · rw [ap1_sym (by omega)]; simp
theorem ap_grows (hs : Sub V ss θ) (hr : ∀ c ∈ r, -(V : Int) ≤ c) : r.length ≤ (ap θ r).length := by
  induction r with
  | nil => simp
  | cons c r ih =>
    rw [ap_cons, List.length_append, List.length_cons]
    have := ap1_pos hs (hr c (List.mem_cons_self ..))
    have := ih fun d hd => hr d (List.mem_cons_of_mem _ hd)
    omega
/-- What a code becomes is no longer than what the row becomes; and shorter, if there is another code. -/
theorem ap_part (hs : Sub V ss θ) (hr : ∀ c ∈ r, -(V : Int) ≤ c) {c : Int} (hc : c ∈ r) : (ap1 θ c).length + r.length ≤ (ap θ r).length + 1 := by
  induction r with
  | nil => cases hc
  | cons d r ih =>
    rw [ap_cons, List.length_append, List.length_cons]
    have h1 := ap1_pos hs (hr d (List.mem_cons_self ..))
    have h2 : ∀ e ∈ r, -(V : Int) ≤ e := fun e he => hr e (List.mem_cons_of_mem _ he)
    have h3 := ap_grows hs h2
    rcases List.mem_cons.1 hc with rfl | hc
    · omega
    · have := ih h2 hc; omega
theorem ap_fixed (hs : Sub V ss θ) (hr : ∀ c ∈ r, -(V : Int) ≤ c) (h : ap θ r = r) : ∀ c ∈ r, c < 0 → θ (-1 - c).toNat = [c] := by
  induction r with
  | nil => intro c hc; cases hc
  | cons d r ih =>
    have h1 := ap1_pos hs (hr d (List.mem_cons_self ..))
    have h2 : ∀ e ∈ r, -(V : Int) ≤ e := fun e he => hr e (List.mem_cons_of_mem _ he)
    have h3 := ap_grows hs h2
    have hl := congrArg List.length h
    rw [ap_cons, List.length_append, List.length_cons] at hl
    rw [ap_cons] at h
    have hd : (ap1 θ d).length = [d].length := by simp; omega
    obtain ⟨e1, e2⟩ := List.append_inj (s₁ := ap1 θ d) (s₂ := [d]) (t₁ := ap θ r) (t₂ := r) h hd
    intro c hc hneg
    rcases List.mem_cons.1 hc with rfl | hc
    · unfold ap1 at e1; rw [if_pos hneg] at e1; exact e1
    · exact ih h2 e2 c hc hneg

/-- The most general one that makes a and b the same, of variables that stand for one another the least stays. -/
structure Canon (V : Nat) (ss : List Sym) (a b : List Int) (σ : Nat → List Int) : Prop where
  sub : Sub V ss σ
  uni : ap σ a = ap σ b
  mgu : ∀ θ, Sub V ss θ → ap θ a = ap θ b → ∀ v, v < V → ap θ (σ v) = θ v
  least : ∀ v w : Nat, v < V → σ v = [-1 - (w : Int)] → w ≤ v
section
variable {a b : List Int}
theorem Canon.idem (h : Canon V ss a b σ) {v : Nat} (hv : v < V) : ap σ (σ v) = σ v := h.mgu σ h.sub h.uni v hv
theorem Canon.fixed (h : Canon V ss a b σ) {v : Nat} (hv : v < V) : ∀ c ∈ σ v, c < 0 → σ (-1 - c).toNat = [c] :=
  ap_fixed h.sub (trm_codes (h.sub v hv)) (h.idem hv)
theorem Canon.stays (h : Canon V ss a b σ) (k : Canon V ss a b τ) {x : Nat} (hx : x < V) (hs : σ x = [-1 - (x : Int)]) : τ x = [-1 - (x : Int)] := by
  have e := k.mgu σ h.sub h.uni x hx
  rw [hs] at e
  have g := ap_grows h.sub (trm_codes (k.sub x hx))
  rw [e] at g
  rcases trm_one (k.sub x hx) with ⟨y, hy, hy'⟩ | ⟨c, ar, s, hc, h0, _, _⟩
  · rw [hy', ap_var] at e
    have h1 := h.least y x hy e
    have h2 := k.least x y hx hy'
    have : y = x := by omega
    rw [hy', this]
  · rw [hc, ap_sym h0] at e
    injection e with e
    omega
/-- There is only one. -/
theorem Canon.unique (h : Canon V ss a b σ) (k : Canon V ss a b τ) {v : Nat} (hv : v < V) : σ v = τ v := by
  have e := h.mgu τ k.sub k.uni v hv
  rw [← e]
  symm
  apply ap_id
  intro c hc hneg
  have hf := h.fixed hv c hc hneg
  have hV := trm_codes (h.sub v hv) c hc
  have e2 : c = -1 - (((-1 - c).toNat : Nat) : Int) := by omega
  have := h.stays k (x := (-1 - c).toNat) (by omega) (by rw [hf]; rw [← e2])
  rw [this, ← e2]
end

/-- The binds of what stands for variables. -/
def bdOf (σ : Nat → List Int) (v : Nat) : Option Bd := if isV (σ v) v then none else some ⟨v, σ v⟩
def bdsOf (σ : Nat → List Int) (n : Nat) : List Bd := (List.range n).filterMap (bdOf σ)
theorem bdsOf_succ (σ : Nat → List Int) (n : Nat) : bdsOf σ (n + 1) = bdsOf σ n ++ (if isV (σ n) n then [] else [⟨n, σ n⟩]) := by
  unfold bdsOf
  rw [List.range_succ, List.filterMap_append]
  congr 1
  cases h : isV (σ n) n <;> simp [bdOf, h]
theorem bdsOf_congr {n : Nat} (h : ∀ v, v < n → σ v = τ v) : bdsOf σ n = bdsOf τ n := by
  induction n with
  | zero => rfl
  | succ n ih => rw [bdsOf_succ, bdsOf_succ, ih fun v hv => h v (by omega), h n (by omega)]
theorem bdsOf_len (σ : Nat → List Int) (n : Nat) : (bdsOf σ n).length ≤ n := by
  unfold bdsOf
  have := List.length_filterMap_le (bdOf σ) (List.range n)
  simpa using this
theorem ofB_app (l m : List Bd) (v : Int) : ofB (l ++ m) v = match ofB l v with | some t => some t | none => ofB m v := by
  induction l with
  | nil => rfl
  | cons b l ihl =>
    rw [List.cons_append, ofB_cons, ofB_cons, ihl]
    by_cases e : b.v = v <;> simp [e]
theorem bdsOf_none (n : Nat) {v : Int} (h : v < 0 ∨ (n : Int) ≤ v) : ofB (bdsOf σ n) v = none := by
  induction n with
  | zero => rfl
  | succ n ih =>
    rw [bdsOf_succ, ofB_app, ih (by omega)]
    have hn : ¬ (n : Int) = v := by omega
    cases isV (σ n) n <;> simp [ofB, hn]
theorem bdsOf_of (n : Nat) {v : Nat} (h : v < n) : ofB (bdsOf σ n) (v : Int) = if isV (σ v) v then none else some (σ v) := by
  induction n with
  | zero => omega
  | succ n ih =>
    rw [bdsOf_succ, ofB_app]
    by_cases e : v = n
    · subst e
      rw [bdsOf_none v (by omega)]
      cases hi : isV (σ v) v <;> simp [ofB]
    · rw [ih (by omega)]
      have hn : ¬ (n : Int) = (v : Int) := by omega
      cases hi : isV (σ v) v <;> simp
      cases isV (σ n) n <;> simp [ofB, hn]
/-- The binds put into a row make what the function makes. -/
theorem put_bdsOf (hr : ∀ c ∈ r, -24 ≤ c) : put (bdsOf σ 24) r = ap σ r := by
  induction r with
  | nil => rfl
  | cons c r ih =>
    rw [put_cons, ap_cons, ih fun d hd => hr d (List.mem_cons_of_mem _ hd)]
    congr 1
    have h24 := hr c (List.mem_cons_self ..)
    by_cases hc : c < 0
    · obtain ⟨v, hv⟩ : ∃ v : Nat, c = -1 - (v : Int) := ⟨(-1 - c).toNat, by omega⟩
      have hv' : -1 - c = (v : Int) := by omega
      have ho := bdsOf_of (σ := σ) 24 (v := v) (by omega)
      rw [hv, ap1_var, ← hv]
      cases hi : isV (σ v) v
      · rw [hi, ← hv'] at ho; exact put1_var hc ho
      · rw [hi, ← hv'] at ho
        rw [put1_free ho, isV_iff.1 hi, hv]
    · rw [put1_sym hc, ap1_sym (by omega)]
end
theorem trm_of_tl {ss : List Sym} {r : List Int} {ms : List (Nat × Nat)} (h : tl ss r = some ms) : trm 24 ss r ms.length :=
  ⟨⟨ms, tl_nrm _ h, rfl⟩, fun c hc => row_codes h c hc⟩
theorem tl_of_nrm {ss : List Sym} (r : List Int) {ms : List (Nat × Nat)} (h : tl ss (nrm r) = some ms) (hr : ∀ c ∈ r, -24 ≤ c) : tl ss r = some ms := by
  induction r generalizing ms with
  | nil => exact h
  | cons c r ih =>
    rw [nrm_cons] at h
    obtain ⟨qs, a, h1, h2, h3, rfl⟩ := tl_cons_inv h
    refine tl_cons (ih h1 fun d hd => hr d (List.mem_cons_of_mem _ hd)) ?_ h3
    have h24 := hr c (List.mem_cons_self ..)
    unfold vn at h2
    by_cases hc : c < 0
    · rw [if_pos hc] at h2
      obtain ⟨_, rfl⟩ := ar_var (by omega) h2
      unfold arOf; rw [if_pos hc, if_pos h24]
    · rw [if_neg hc] at h2; exact h2
theorem tl_of_trm {ss : List Sym} {r : List Int} {k : Nat} (h : trm 24 ss r k) : ∃ ms, tl ss r = some ms ∧ ms.length = k := by
  obtain ⟨⟨ms, h1, h2⟩, h3⟩ := h
  exact ⟨ms, tl_of_nrm _ h1 h3, h2⟩

/-- A row with its variables' numbers raised. -/
def farR (y : Nat) (r : List Int) : List Int := r.map fun c => if c < 0 then c - (y : Int) else c
section
variable {V y : Nat} {ss : List Sym} {r s : List Int} {k : Nat} {θ : Nat → List Int}
theorem farR_length : (farR y r).length = r.length := by simp [farR]
theorem farR_nil : farR y [] = [] := rfl
theorem farR_cons (c : Int) : farR y (c :: r) = (if c < 0 then c - (y : Int) else c) :: farR y r := rfl
theorem farR_append : farR y (r ++ s) = farR y r ++ farR y s := by simp [farR]
theorem farR_drop : (farR y r).drop k = farR y (r.drop k) := by simp [farR]
theorem farR_take : (farR y r).take k = farR y (r.take k) := by simp [farR]
theorem farR_at {j : Nat} (h : j < r.length) : intAt (farR y r) j = if intAt r j < 0 then intAt r j - (y : Int) else intAt r j := by
  have h1 := intAt_get (xs := farR y r) (i := j) (by rw [farR_length]; exact h)
  have h2 := intAt_get h
  unfold farR at h1
  rw [List.getElem?_map, h2] at h1
  injection h1 with h1
  exact h1.symm
theorem farR_zero : farR 0 r = r := by
  induction r with
  | nil => rfl
  | cons c r ih => rw [farR_cons, ih]; congr 1; split <;> omega
theorem nrm_farR : nrm (farR y r) = nrm r := by
  induction r with
  | nil => rfl
  | cons c r ih =>
    rw [farR_cons, nrm_cons, nrm_cons, ih]
    congr 1
    unfold vn
    by_cases hc : c < 0
    · rw [if_pos hc, if_pos hc, if_pos (by omega)]
    · rw [if_neg hc]
theorem trm_farR (h : trm V ss r k) : trm (y + V) ss (farR y r) k := by
  refine ⟨by rw [nrm_farR]; exact h.1, fun c hc => ?_⟩
  unfold farR at hc
  obtain ⟨d, hd, rfl⟩ := List.mem_map.1 hc
  have := h.2 d hd
  split <;> omega
theorem ap_farR : ap θ (farR y r) = ap (fun v => θ (v + y)) r := by
  induction r with
  | nil => rfl
  | cons c r ih =>
    rw [farR_cons, ap_cons, ap_cons, ih]
    congr 1
    by_cases hc : c < 0
    · unfold ap1
      rw [if_pos hc, if_pos (by omega : c - (y : Int) < 0), if_pos hc]
      congr 1; omega
    · rw [if_neg hc, ap1_sym (by omega), ap1_sym (by omega)]
end

/-- What Unify answers. -/
def UniR (ss : List Sym) (a b : List Int) (E : Int) (is : Bool) (bs : List Bd) : Prop :=
  ((rowB ss a && rowB ss b) = false ∧ E = 400 ∧ is = false ∧ bs = []) ∨
  ((rowB ss a && rowB ss b) = true ∧
    (((∀ θ, Sub 24 ss θ → ap θ a ≠ ap θ b) ∧ E = 0 ∧ is = false ∧ bs = []) ∨
     ∃ σ, Canon 24 ss a b σ ∧ (((∀ v, v < 24 → (σ v).length ≤ 48) ∧ E = 0 ∧ is = true ∧ bs = bdsOf σ 24) ∨ ((∃ v, v < 24 ∧ 48 < (σ v).length) ∧ E = 401 ∧ is = false ∧ bs = []))))
theorem UniR.unique {ss : List Sym} {a b : List Int} {E E' : Int} {is is' : Bool} {bs bs' : List Bd} (h : UniR ss a b E is bs) (k : UniR ss a b E' is' bs') : E = E' ∧ is = is' ∧ bs = bs' := by
  rcases h with ⟨h0, rfl, rfl, rfl⟩ | ⟨h0, h⟩
  · rcases k with ⟨k0, rfl, rfl, rfl⟩ | ⟨k0, k⟩
    · exact ⟨rfl, rfl, rfl⟩
    · rw [h0] at k0; cases k0
  · rcases k with ⟨k0, rfl, rfl, rfl⟩ | ⟨k0, k⟩
    · rw [h0] at k0; cases k0
    · rcases h with ⟨h1, rfl, rfl, rfl⟩ | ⟨σ, hc, h⟩
      · rcases k with ⟨k1, rfl, rfl, rfl⟩ | ⟨τ, kc, k⟩
        · exact ⟨rfl, rfl, rfl⟩
        · exact absurd kc.uni (h1 τ kc.sub)
      · rcases k with ⟨k1, rfl, rfl, rfl⟩ | ⟨τ, kc, k⟩
        · exact absurd hc.uni (k1 σ hc.sub)
        · have e : ∀ v, v < 24 → σ v = τ v := fun v hv => hc.unique kc hv
          rcases h with ⟨h1, rfl, rfl, rfl⟩ | ⟨⟨v, hv, h1⟩, rfl, rfl, rfl⟩
          · rcases k with ⟨k1, rfl, rfl, rfl⟩ | ⟨⟨v, hv, k1⟩, rfl, rfl, rfl⟩
            · exact ⟨rfl, rfl, bdsOf_congr e⟩
            · have := h1 v hv; rw [e v hv] at this; omega
          · rcases k with ⟨k1, rfl, rfl, rfl⟩ | ⟨⟨v', hv', k1⟩, rfl, rfl, rfl⟩
            · have := k1 v hv; rw [e v hv] at h1; omega
            · exact ⟨rfl, rfl, rfl⟩
end Go.Proofs.Ytmdajmdjmdbonaa

namespace Go.Proofs.Ytmdajmdjmdbonaa
open Go.RowKit
set_option linter.unusedSimpArgs false
set_option linter.unusedVariables false

structure Nd where
  code : Int
  args : List Nat
  up : Nat
  len : Nat
def ndAt (G : List Nd) (i : Nat) : Nd := G.getD i ⟨0, [], 0, 0⟩
theorem ndAt_get {G : List Nd} {i : Nat} (h : i < G.length) : G[i]? = some (ndAt G i) := by
  unfold ndAt; rw [List.getD_eq_getElem?_getD, List.getElem?_eq_getElem h]; rfl
theorem ndAt_left {G H : List Nd} {i : Nat} (h : i < G.length) : ndAt (G ++ H) i = ndAt G i := by
  unfold ndAt; rw [List.getD_eq_getElem?_getD, List.getD_eq_getElem?_getD, List.getElem?_append_left h]
theorem ndAt_right {G : List Nd} {n : Nd} : ndAt (G ++ [n]) G.length = n := by unfold ndAt; simp
theorem ndAt_set {G : List Nd} {i k : Nat} {n : Nd} (h : i < G.length) : ndAt (G.set i n) k = if k = i then n else ndAt G k := by
  unfold ndAt
  rw [List.getD_eq_getElem?_getD, List.getD_eq_getElem?_getD, List.getElem?_set]
  by_cases e : k = i
  · subst e; simp [h]
  · rw [if_neg (fun h => e h.symm), if_neg e]
/-- The upward step, the length of one node turned. -/
def setUp (G : List Nd) (i u : Nat) : List Nd := G.set i { ndAt G i with up := u }
def setLen (G : List Nd) (i l : Nat) : List Nd := G.set i { ndAt G i with len := l }
theorem setUp_length (G : List Nd) (i u : Nat) : (setUp G i u).length = G.length := by unfold setUp; simp
theorem setLen_length (G : List Nd) (i u : Nat) : (setLen G i u).length = G.length := by unfold setLen; simp
section
variable {G : List Nd} {i k u l : Nat}
theorem setUp_code (h : i < G.length) : (ndAt (setUp G i u) k).code = (ndAt G k).code := by
  unfold setUp; rw [ndAt_set h]; by_cases e : k = i
  · subst e; simp
  · simp [e]
theorem setUp_args (h : i < G.length) : (ndAt (setUp G i u) k).args = (ndAt G k).args := by
  unfold setUp; rw [ndAt_set h]; by_cases e : k = i
  · subst e; simp
  · simp [e]
theorem setUp_len (h : i < G.length) : (ndAt (setUp G i u) k).len = (ndAt G k).len := by
  unfold setUp; rw [ndAt_set h]; by_cases e : k = i
  · subst e; simp
  · simp [e]
theorem setUp_up (h : i < G.length) : (ndAt (setUp G i u) k).up = if k = i then u else (ndAt G k).up := by
  unfold setUp; rw [ndAt_set h]; by_cases e : k = i
  · subst e; simp
  · simp [e]
theorem setLen_code (h : i < G.length) : (ndAt (setLen G i l) k).code = (ndAt G k).code := by
  unfold setLen; rw [ndAt_set h]; by_cases e : k = i
  · subst e; simp
  · simp [e]
theorem setLen_args (h : i < G.length) : (ndAt (setLen G i l) k).args = (ndAt G k).args := by
  unfold setLen; rw [ndAt_set h]; by_cases e : k = i
  · subst e; simp
  · simp [e]
theorem setLen_up (h : i < G.length) : (ndAt (setLen G i l) k).up = (ndAt G k).up := by
  unfold setLen; rw [ndAt_set h]; by_cases e : k = i
  · subst e; simp
  · simp [e]
theorem setLen_len (h : i < G.length) : (ndAt (setLen G i l) k).len = if k = i then l else (ndAt G k).len := by
  unfold setLen; rw [ndAt_set h]; by_cases e : k = i
  · subst e; simp
  · simp [e]
end

/-- The nodes stand for these rows: variables first, then symbols over nodes. -/
structure Stands (V : Nat) (ss : List Sym) (G : List Nd) (D : Nat → List Int) : Prop where
  many : V ≤ G.length
  var : ∀ v, v < V → (ndAt G v).code = -1 - (v : Int) ∧ (ndAt G v).args = [] ∧ D v = [-1 - (v : Int)]
  sym : ∀ n, V ≤ n → n < G.length → 0 ≤ (ndAt G n).code ∧ arOf ss (ndAt G n).code = some (ndAt G n).args.length
  arg : ∀ n, n < G.length → ∀ x ∈ (ndAt G n).args, x < G.length
  eqn : ∀ n, n < G.length → D n = (ndAt G n).code :: (ndAt G n).args.flatMap D
  one : ∀ n, n < G.length → trm V ss (D n) 1
section
variable {V : Nat} {ss : List Sym} {G : List Nd} {D : Nat → List Int}
theorem Stands.code_var (h : Stands V ss G D) {n : Nat} (hn : n < G.length) (hc : (ndAt G n).code < 0) : n < V := by
  rcases Nat.lt_or_ge n V with h1 | h1
  · exact h1
  · have := (h.sym n h1 hn).1; omega
theorem Stands.code_ge (h : Stands V ss G D) {n : Nat} (hn : n < G.length) : -(V : Int) ≤ (ndAt G n).code := by
  rcases Nat.lt_or_ge n V with h1 | h1
  · have := (h.var n h1).1; omega
  · have := (h.sym n h1 hn).1; omega
theorem flatMap_mem_len {x : Nat} {xs : List Nat} (h : x ∈ xs) (F : Nat → List Int) : (F x).length ≤ (xs.flatMap F).length := by
  induction xs with
  | nil => cases h
  | cons a xs ih =>
    rw [List.flatMap_cons, List.length_append]
    rcases List.mem_cons.1 h with rfl | h
    · omega
    · have := ih h; omega
theorem flatMap_congr' {xs : List Nat} {F H : Nat → List Int} (h : ∀ x ∈ xs, F x = H x) : xs.flatMap F = xs.flatMap H := by
  induction xs with
  | nil => rfl
  | cons a xs ih => rw [List.flatMap_cons, List.flatMap_cons, h a (List.mem_cons_self ..), ih fun x hx => h x (List.mem_cons_of_mem _ hx)]
theorem ap_flatMap (θ : Nat → List Int) (xs : List Nat) (F : Nat → List Int) : ap θ (xs.flatMap F) = xs.flatMap (fun x => ap θ (F x)) := by
  induction xs with
  | nil => rfl
  | cons a xs ih => rw [List.flatMap_cons, List.flatMap_cons, ap_append, ih]
theorem trm_flatMap {V : Nat} {xs : List Nat} {F : Nat → List Int} (h : ∀ x ∈ xs, trm V ss (F x) 1) : trm V ss (xs.flatMap F) xs.length := by
  induction xs with
  | nil => exact trm_nil
  | cons a xs ih =>
    rw [List.flatMap_cons, List.length_cons, Nat.add_comm]
    exact trm_append (h a (List.mem_cons_self ..)) (ih fun x hx => h x (List.mem_cons_of_mem _ hx))
/-- Two rows of terms, each of a node, are the same just if the nodes' are, one by one. -/
theorem flatMap_pairs {V : Nat} {F : Nat → List Int} : ∀ {xs ys : List Nat}, xs.length = ys.length → (∀ x ∈ xs, trm V ss (F x) 1) → (∀ y ∈ ys, trm V ss (F y) 1) →
    (xs.flatMap F = ys.flatMap F ↔ ∀ p ∈ xs.zip ys, F p.1 = F p.2)
  | [], [], _, _, _ => by simp
  | x :: xs, y :: ys, hl, hx, hy => by
    have ih := flatMap_pairs (xs := xs) (ys := ys) (by simpa using hl) (fun z hz => hx z (List.mem_cons_of_mem _ hz)) (fun z hz => hy z (List.mem_cons_of_mem _ hz))
    rw [List.flatMap_cons, List.flatMap_cons, List.zip_cons_cons, List.forall_mem_cons, ← ih]
    constructor
    · intro h; exact trm_uniq (hx x (List.mem_cons_self ..)) (hy y (List.mem_cons_self ..)) h
    · rintro ⟨h1, h2⟩; rw [h1, h2]
end

/-- How many of the first n numbers are so. -/
def cnt (n : Nat) (p : Nat → Bool) : Nat := (List.range n).countP p
theorem cnt_succ (n : Nat) (p : Nat → Bool) : cnt (n + 1) p = cnt n p + if p n then 1 else 0 := by
  unfold cnt; rw [List.range_succ, List.countP_append]; simp [List.countP_cons]
theorem cnt_congr {n : Nat} {p q : Nat → Bool} (h : ∀ k, k < n → p k = q k) : cnt n p = cnt n q := by
  induction n with
  | zero => rfl
  | succ n ih => rw [cnt_succ, cnt_succ, ih fun k hk => h k (by omega), h n (by omega)]
theorem cnt_less {n i : Nat} {p q : Nat → Bool} (hi : i < n) (hp : p i = true) (hq : q i = false) (h : ∀ k, k < n → k ≠ i → p k = q k) : cnt n p = cnt n q + 1 := by
  induction n with
  | zero => omega
  | succ n ih =>
    rw [cnt_succ, cnt_succ]
    by_cases e : i = n
    · subst e
      rw [hp, hq, cnt_congr fun k hk => h k (by omega) (by omega)]; simp
    · rw [ih (by omega) fun k hk hk' => h k (by omega) hk', h n (by omega) (fun h => e h.symm)]
      omega
theorem cnt_zero {n : Nat} {p : Nat → Bool} (h : cnt n p = 0) : ∀ k, k < n → p k = false := by
  induction n with
  | zero => intro k hk; omega
  | succ n ih =>
    rw [cnt_succ] at h
    intro k hk
    by_cases e : k = n
    · subst e
      cases hp : p k
      · rfl
      · rw [hp] at h; simp at h
    · exact ih (by omega) k (by omega)
theorem cnt_pos {n : Nat} {p : Nat → Bool} (h : 0 < cnt n p) : ∃ k, k < n ∧ p k = true := by
  induction n with
  | zero => simp [cnt] at h
  | succ n ih =>
    rw [cnt_succ] at h
    cases hp : p n
    · rw [hp] at h
      obtain ⟨k, hk, h'⟩ := ih (by simpa using h)
      exact ⟨k, by omega, h'⟩
    · exact ⟨n, by omega, hp⟩
theorem cnt_le (n : Nat) (p : Nat → Bool) : cnt n p ≤ n := by
  induction n with
  | zero => simp [cnt]
  | succ n ih => rw [cnt_succ]; split <;> omega
theorem cnt_all {n : Nat} {p : Nat → Bool} (h : ∀ k, k < n → p k = true) : cnt n p = n := by
  induction n with
  | zero => rfl
  | succ n ih => rw [cnt_succ, ih fun k hk => h k (by omega), h n (by omega)]; simp

/-- Classes of nodes: rt the root of each, d how far it is. -/
structure Forest (G : List Nd) (rt d : Nat → Nat) : Prop where
  bound : ∀ n, n < G.length → (ndAt G n).up < G.length
  top : ∀ n, n < G.length → (ndAt G n).up = n → rt n = n
  low : ∀ n, n < G.length → (ndAt G n).up ≠ n → rt n = rt (ndAt G n).up ∧ d (ndAt G n).up < d n
section
variable {G : List Nd} {rt d : Nat → Nat}
theorem Forest.root (h : Forest G rt d) {n : Nat} (hn : n < G.length) : rt n < G.length ∧ (ndAt G (rt n)).up = rt n ∧ rt (rt n) = rt n := by
  suffices H : ∀ k n, d n ≤ k → n < G.length → rt n < G.length ∧ (ndAt G (rt n)).up = rt n ∧ rt (rt n) = rt n from H _ n (Nat.le_refl _) hn
  intro k
  induction k with
  | zero =>
    intro n hd hn
    by_cases e : (ndAt G n).up = n
    · have := h.top n hn e; rw [this]; exact ⟨hn, e, this⟩
    · have := (h.low n hn e).2; omega
  | succ k ih =>
    intro n hd hn
    by_cases e : (ndAt G n).up = n
    · have := h.top n hn e; rw [this]; exact ⟨hn, e, this⟩
    · obtain ⟨h1, h2⟩ := h.low n hn e
      rw [h1]; exact ih _ (by omega) (h.bound n hn)
theorem Forest.self (h : Forest G rt d) {n : Nat} (hn : n < G.length) : (ndAt G n).up = n ↔ rt n = n := by
  constructor
  · exact h.top n hn
  · intro e; have := (h.root hn).2.1; rw [e] at this; exact this
/-- One root below another. -/
theorem Forest.link (h : Forest G rt d) {x y : Nat} (hx : x < G.length) (hy : y < G.length) (hx' : rt x = x) (hy' : rt y = y) (hne : x ≠ y) :
    Forest (setUp G y x) (fun n => if rt n = y then x else rt n) (fun n => if rt n = y then d n + 1 + d x else d n) := by
  have hux : (ndAt G x).up = x := (h.self hx).2 hx'
  have huy : (ndAt G y).up = y := (h.self hy).2 hy'
  refine ⟨fun n hn => ?_, fun n hn e => ?_, fun n hn e => ?_⟩
  · rw [setUp_length] at hn ⊢
    rw [setUp_up hy]
    split
    · exact hx
    · exact h.bound n hn
  · rw [setUp_length] at hn
    rw [setUp_up hy] at e
    by_cases e' : n = y
    · rw [if_pos e'] at e; omega
    · rw [if_neg e'] at e
      have := h.top n hn e
      simp only [this, if_neg e']
  · rw [setUp_length] at hn
    rw [setUp_up hy] at e ⊢
    by_cases e' : n = y
    · subst e'
      simp only [if_true, hy', hx', if_neg hne]
      refine ⟨trivial, ?_⟩
      omega
    · rw [if_neg e'] at e ⊢
      obtain ⟨h1, h2⟩ := h.low n hn e
      simp only [h1]
      refine ⟨trivial, ?_⟩
      split <;> omega
end
end Go.Proofs.Ytmdajmdjmdbonaa

namespace Go.Proofs.Ytmdajmdjmdbonaa
open Go.RowKit
set_option linter.unusedSimpArgs false
set_option linter.unusedVariables false

/-- Where classes stand, while the pairs P are left; L and R are the nodes of the two rows' terms. -/
structure Cls (V : Nat) (ss : List Sym) (G : List Nd) (D : Nat → List Int) (rt d : Nat → Nat) (P : List (Nat × Nat)) (L R : List Nat) : Prop where
  st : Stands V ss G D
  fo : Forest G rt d
  high : ∀ n, n < G.length → (ndAt G n).code ≤ (ndAt G (rt n)).code
  same : ∀ n, n < G.length → 0 ≤ (ndAt G n).code → (ndAt G (rt n)).code = (ndAt G n).code
  cong : ∀ F : Nat → Nat, (∀ p ∈ P, F p.1 = F p.2) → (∀ n, n < G.length → F n = F (rt n)) → ∀ n, n < G.length → 0 ≤ (ndAt G n).code → (ndAt G n).args.map F = (ndAt G (rt n)).args.map F
  pin : ∀ p ∈ P, p.1 < G.length ∧ p.2 < G.length
  mean : ∀ θ, Sub V ss θ → ((∀ p ∈ L.zip R, ap θ (D p.1) = ap θ (D p.2)) ↔ (∀ n, n < G.length → ap θ (D n) = ap θ (D (rt n))) ∧ ∀ p ∈ P, ap θ (D p.1) = ap θ (D p.2))

section
variable {V : Nat} {ss : List Sym} {G G' : List Nd} {D : Nat → List Int} {rt d : Nat → Nat} {P Q : List (Nat × Nat)} {L R : List Nat} {x y : Nat}
theorem Stands.of_eq (h : Stands V ss G D) (hl : G'.length = G.length) (hc : ∀ k, (ndAt G' k).code = (ndAt G k).code) (ha : ∀ k, (ndAt G' k).args = (ndAt G k).args) : Stands V ss G' D := by
  refine ⟨by rw [hl]; exact h.many, fun v hv => ?_, fun n h1 h2 => ?_, fun n hn => ?_, fun n hn => ?_, fun n hn => ?_⟩
  · rw [hc, ha]; exact h.var v hv
  · rw [hc, ha]; exact h.sym n h1 (by omega)
  · rw [ha, hl]; exact h.arg n (by omega)
  · rw [hc, ha]; exact h.eqn n (by omega)
  · exact h.one n (by omega)
theorem Cls.of_eq (h : Cls V ss G D rt d P L R) (hl : G'.length = G.length) (hc : ∀ k, (ndAt G' k).code = (ndAt G k).code) (ha : ∀ k, (ndAt G' k).args = (ndAt G k).args) (hu : ∀ k, (ndAt G' k).up = (ndAt G k).up) : Cls V ss G' D rt d P L R := by
  refine ⟨h.st.of_eq hl hc ha, ⟨?_, ?_, ?_⟩, ?_, ?_, ?_, ?_, ?_⟩
  · intro n hn; rw [hu, hl]; exact h.fo.bound n (by omega)
  · intro n hn; rw [hu]; exact h.fo.top n (by omega)
  · intro n hn; rw [hu]; exact h.fo.low n (by omega)
  · intro n hn; rw [hc, hc]; exact h.high n (by omega)
  · intro n hn; rw [hc, hc]; exact h.same n (by omega)
  · intro F h1 h2 n hn; rw [hc, ha, ha]; exact h.cong F h1 (by rw [← hl]; exact h2) n (by omega)
  · intro p hp; rw [hl]; exact h.pin p hp
  · intro θ hθ; rw [hl]; exact h.mean θ hθ
theorem Cls.start (h : Stands V ss G D) (hu : ∀ n, n < G.length → (ndAt G n).up = n) (hL : ∀ x ∈ L, x < G.length) (hR : ∀ x ∈ R, x < G.length) : Cls V ss G D id (fun _ => 0) (L.zip R) L R := by
  refine ⟨h, ⟨?_, ?_, ?_⟩, ?_, ?_, ?_, ?_, ?_⟩
  · intro n hn; rw [hu n hn]; exact hn
  · intro n hn _; rfl
  · intro n hn e; exact absurd (hu n hn) e
  · intro n hn; exact Int.le_refl _
  · intro n hn _; rfl
  · intro F _ _ n _ _; rfl
  · intro p hp; exact ⟨hL _ (List.of_mem_zip hp).1, hR _ (List.of_mem_zip hp).2⟩
  · intro θ _
    constructor
    · intro h; exact ⟨fun _ _ => rfl, h⟩
    · exact fun h => h.2
theorem Cls.pop (h : Cls V ss G D rt d (P ++ [(x, y)]) L R) (he : rt x = rt y) : Cls V ss G D rt d P L R := by
  have hp := h.pin (x, y) (by simp)
  refine ⟨h.st, h.fo, h.high, h.same, fun F h1 h2 => h.cong F (fun p hp' => ?_) h2, fun p hp' => h.pin p (List.mem_append_left _ hp'), fun θ hθ => ?_⟩
  · rcases List.mem_append.1 hp' with h' | h'
    · exact h1 p h'
    · simp at h'; subst h'
      show F x = F y
      rw [h2 x hp.1, h2 y hp.2, he]
  · rw [h.mean θ hθ]
    constructor
    · rintro ⟨h1, h2⟩; exact ⟨h1, fun p hp' => h2 p (List.mem_append_left _ hp')⟩
    · rintro ⟨h1, h2⟩
      refine ⟨h1, fun p hp' => ?_⟩
      rcases List.mem_append.1 hp' with h' | h'
      · exact h2 p h'
      · simp at h'; subst h'
        show ap θ (D x) = ap θ (D y)
        rw [h1 x hp.1, h1 y hp.2, he]
/-- Of two roots o goes below r. -/
def lnk (rt : Nat → Nat) (o r : Nat) (n : Nat) : Nat := if rt n = o then r else rt n
def far (rt d : Nat → Nat) (o r : Nat) (n : Nat) : Nat := if rt n = o then d n + 1 + d r else d n
theorem lnk_no {o r n : Nat} (h : rt n ≠ o) : lnk rt o r n = rt n := by unfold lnk; rw [if_neg h]
theorem lnk_yes {o r n : Nat} (h : rt n = o) : lnk rt o r n = r := by unfold lnk; rw [if_pos h]
theorem Cls.link (h : Cls V ss G D rt d (P ++ [(x, y)]) L R) {o r : Nat} (hor : (rt x = r ∧ rt y = o) ∨ (rt x = o ∧ rt y = r)) (hne : r ≠ o) (hc : (ndAt G o).code ≤ (ndAt G r).code)
    (hQ : ∀ p ∈ Q, p.1 < G.length ∧ p.2 < G.length) (hcode : 0 ≤ (ndAt G o).code → (ndAt G r).code = (ndAt G o).code)
    (hargs : 0 ≤ (ndAt G o).code → ∀ F : Nat → Nat, (∀ p ∈ Q, F p.1 = F p.2) → (ndAt G r).args.map F = (ndAt G o).args.map F)
    (hmean : ∀ θ, Sub V ss θ → ap θ (D r) = ap θ (D o) → ∀ p ∈ Q, ap θ (D p.1) = ap θ (D p.2)) :
    Cls V ss (setUp G o r) D (lnk rt o r) (far rt d o r) (P ++ Q) L R := by
  have hp := h.pin (x, y) (by simp)
  obtain ⟨x1, x2, x3⟩ := h.fo.root hp.1
  obtain ⟨y1, y2, y3⟩ := h.fo.root hp.2
  have hr : r < G.length ∧ rt r = r := by rcases hor with ⟨e1, e2⟩ | ⟨e1, e2⟩ <;> subst e1 <;> subst e2 <;> exact ⟨by assumption, by assumption⟩
  have ho : o < G.length ∧ rt o = o := by rcases hor with ⟨e1, e2⟩ | ⟨e1, e2⟩ <;> subst e1 <;> subst e2 <;> exact ⟨by assumption, by assumption⟩
  have lo : lnk rt o r o = r := lnk_yes ho.2
  have lr : lnk rt o r r = r := by rw [lnk_no (by rw [hr.2]; exact hne), hr.2]
  have lx : lnk rt o r x = r := by rcases hor with ⟨e1, e2⟩ | ⟨e1, e2⟩; { rw [lnk_no (by rw [e1]; exact hne), e1] }; { exact lnk_yes e1 }
  have ly : lnk rt o r y = r := by rcases hor with ⟨e1, e2⟩ | ⟨e1, e2⟩; { exact lnk_yes e2 }; { rw [lnk_no (by rw [e2]; exact hne), e2] }
  -- a function that is one on the new classes is one on the old ones
  have back : ∀ {α : Type} (F : Nat → α), (∀ n, n < G.length → F n = F (lnk rt o r n)) → F x = F y ∧ F r = F o ∧ ∀ n, n < G.length → F n = F (rt n) := by
    intro α F hF
    have e1 := hF o ho.1
    rw [lo] at e1
    have e2 := hF x hp.1
    have e3 := hF y hp.2
    rw [lx] at e2
    rw [ly] at e3
    refine ⟨e2.trans e3.symm, e1.symm, fun n hn => ?_⟩
    have e4 := hF n hn
    by_cases e : rt n = o
    · rw [lnk_yes e] at e4; rw [e4, e, e1]
    · rw [lnk_no e] at e4; exact e4
  refine ⟨h.st.of_eq (setUp_length ..) (fun k => setUp_code ho.1) (fun k => setUp_args ho.1), h.fo.link hr.1 ho.1 hr.2 ho.2 hne, ?_, ?_, ?_, ?_, ?_⟩
  · intro n hn
    rw [setUp_length] at hn
    rw [setUp_code ho.1, setUp_code ho.1]
    have := h.high n hn
    by_cases e : rt n = o
    · rw [lnk_yes e]; rw [e] at this; omega
    · rw [lnk_no e]; exact this
  · intro n hn h0
    rw [setUp_length] at hn
    rw [setUp_code ho.1] at h0 ⊢
    rw [setUp_code ho.1]
    have := h.same n hn h0
    by_cases e : rt n = o
    · rw [lnk_yes e]; rw [e] at this; rw [← this]; exact hcode (by omega)
    · rw [lnk_no e]; exact this
  · intro F h1 h2 n hn h0
    rw [setUp_length] at hn h2
    rw [setUp_code ho.1] at h0
    rw [setUp_args ho.1, setUp_args ho.1]
    obtain ⟨b1, b2, b3⟩ := back F h2
    have key := h.cong F (fun p hp' => by
      rcases List.mem_append.1 hp' with h' | h'
      · exact h1 p (List.mem_append_left _ h')
      · simp at h'; subst h'; exact b1) b3 n hn h0
    have hsame := h.same n hn h0
    by_cases e : rt n = o
    · rw [lnk_yes e, key, e]
      rw [e] at hsame
      exact (hargs (by omega) F fun p hp' => h1 p (List.mem_append_right _ hp')).symm
    · rw [lnk_no e, key]
  · intro p hp'
    rw [setUp_length]
    rcases List.mem_append.1 hp' with h' | h'
    · exact h.pin p (List.mem_append_left _ h')
    · exact hQ p h'
  · intro θ hθ
    rw [h.mean θ hθ, setUp_length]
    constructor
    · rintro ⟨h1, h2⟩
      have exy := h2 (x, y) (by simp)
      have ero : ap θ (D r) = ap θ (D o) := by
        have ex := h1 x hp.1
        have ey := h1 y hp.2
        rcases hor with ⟨e1, e2⟩ | ⟨e1, e2⟩
        · rw [e1] at ex; rw [e2] at ey; rw [← ex, ← ey]; exact exy
        · rw [e1] at ex; rw [e2] at ey; rw [← ex, ← ey]; exact exy.symm
      refine ⟨fun n hn => ?_, fun p hp' => ?_⟩
      · have := h1 n hn
        by_cases e : rt n = o
        · rw [lnk_yes e, this, e, ero]
        · rw [lnk_no e]; exact this
      · rcases List.mem_append.1 hp' with h' | h'
        · exact h2 p (List.mem_append_left _ h')
        · exact hmean θ hθ ero p h'
    · rintro ⟨h1, h2⟩
      obtain ⟨b1, b2, b3⟩ := back (fun n => ap θ (D n)) h1
      refine ⟨b3, fun p hp' => ?_⟩
      rcases List.mem_append.1 hp' with h' | h'
      · exact h2 p (List.mem_append_left _ h')
      · simp at h'; subst h'; exact b1
theorem zip_map_eq {F : Nat → Nat} : ∀ {xs ys : List Nat}, xs.length = ys.length → (∀ p ∈ xs.zip ys, F p.1 = F p.2) → xs.map F = ys.map F
  | [], [], _, _ => rfl
  | x :: xs, y :: ys, hl, h => by
    rw [List.map_cons, List.map_cons, h (x, y) (by simp), zip_map_eq (by simpa using hl) fun p hp => h p (by simp [hp])]
theorem Stands.means (h : Stands V ss G D) {θ : Nat → List Int} (hθ : Sub V ss θ) {r o : Nat} (hr : r < G.length) (ho : o < G.length) (h0 : 0 ≤ (ndAt G o).code) (h1 : 0 ≤ (ndAt G r).code) (he : ap θ (D r) = ap θ (D o)) :
    (ndAt G r).code = (ndAt G o).code ∧ (((ndAt G r).args.length = (ndAt G o).args.length) → ∀ p ∈ (ndAt G r).args.zip (ndAt G o).args, ap θ (D p.1) = ap θ (D p.2)) := by
  rw [h.eqn r hr, h.eqn o ho, ap_sym h0, ap_sym h1, ap_flatMap, ap_flatMap] at he
  injection he with e1 e2
  refine ⟨e1, fun hl => (flatMap_pairs (F := fun x => ap θ (D x)) hl (fun x hx => trm_ap hθ (h.one x (h.arg r hr x hx))) (fun x hx => trm_ap hθ (h.one x (h.arg o ho x hx)))).1 e2⟩
/-- Below a symbol a variable goes. -/
theorem Cls.link_var (h : Cls V ss G D rt d (P ++ [(x, y)]) L R) {o r : Nat} (hor : (rt x = r ∧ rt y = o) ∨ (rt x = o ∧ rt y = r)) (hne : r ≠ o) (hc : (ndAt G o).code ≤ (ndAt G r).code) (h0 : (ndAt G o).code < 0) :
    Cls V ss (setUp G o r) D (lnk rt o r) (far rt d o r) P L R := by
  have := h.link (Q := []) hor hne hc (by simp) (fun h => by omega) (fun h => by omega) (by simp)
  rw [List.append_nil] at this
  exact this
theorem Cls.ends (h : Cls V ss G D rt d (P ++ [(x, y)]) L R) {o r : Nat} (hor : (rt x = r ∧ rt y = o) ∨ (rt x = o ∧ rt y = r)) : r < G.length ∧ o < G.length ∧ (ndAt G r).up = r ∧ (ndAt G o).up = o := by
  have hp := h.pin (x, y) (by simp)
  obtain ⟨x1, x2, x3⟩ := h.fo.root hp.1
  obtain ⟨y1, y2, y3⟩ := h.fo.root hp.2
  rcases hor with ⟨e1, e2⟩ | ⟨e1, e2⟩ <;> subst e1 <;> subst e2 <;> exact ⟨by assumption, by assumption, by assumption, by assumption⟩
theorem Cls.sym_of (h : Cls V ss G D rt d P L R) {n : Nat} (hn : n < G.length) (h0 : 0 ≤ (ndAt G n).code) : V ≤ n := by
  rcases Nat.lt_or_ge n V with h1 | h1
  · have := (h.st.var n h1).1; omega
  · exact h1
/-- Two symbols that are the same: their terms must become the same. -/
theorem Cls.link_sym (h : Cls V ss G D rt d (P ++ [(x, y)]) L R) {o r : Nat} (hor : (rt x = r ∧ rt y = o) ∨ (rt x = o ∧ rt y = r)) (hne : r ≠ o) (h0 : 0 ≤ (ndAt G o).code) (hc : (ndAt G r).code = (ndAt G o).code) :
    Cls V ss (setUp G o r) D (lnk rt o r) (far rt d o r) (P ++ (ndAt G r).args.zip (ndAt G o).args) L R ∧ (ndAt G r).args.length = (ndAt G o).args.length := by
  obtain ⟨hr, ho, _, _⟩ := h.ends hor
  have a1 := (h.st.sym r (h.sym_of hr (by omega)) hr).2
  have a2 := (h.st.sym o (h.sym_of ho h0) ho).2
  rw [hc, a2] at a1
  injection a1 with a1
  refine ⟨h.link hor hne (by omega) ?_ (fun _ => hc) (fun _ F hF => zip_map_eq a1.symm hF) ?_, a1.symm⟩
  · intro p hp; exact ⟨h.st.arg r hr _ (List.of_mem_zip hp).1, h.st.arg o ho _ (List.of_mem_zip hp).2⟩
  · intro θ hθ e; exact (h.st.means hθ hr ho h0 (by omega) e).2 a1.symm
/-- Two symbols that differ can't become the same. -/
theorem Cls.clash (h : Cls V ss G D rt d (P ++ [(x, y)]) L R) {o r : Nat} (hor : (rt x = r ∧ rt y = o) ∨ (rt x = o ∧ rt y = r)) (h0 : 0 ≤ (ndAt G o).code) (h1 : 0 ≤ (ndAt G r).code) (hc : (ndAt G r).code ≠ (ndAt G o).code) :
    ∀ θ, Sub V ss θ → ¬ ∀ p ∈ L.zip R, ap θ (D p.1) = ap θ (D p.2) := by
  intro θ hθ hall
  obtain ⟨hr, ho, _, _⟩ := h.ends hor
  have hp := h.pin (x, y) (by simp)
  obtain ⟨h2, h3⟩ := (h.mean θ hθ).1 hall
  have exy := h3 (x, y) (by simp)
  have ex := h2 x hp.1
  have ey := h2 y hp.2
  have ero : ap θ (D r) = ap θ (D o) := by
    rcases hor with ⟨e1, e2⟩ | ⟨e1, e2⟩
    · rw [e1] at ex; rw [e2] at ey; rw [← ex, ← ey]; exact exy
    · rw [e1] at ex; rw [e2] at ey; rw [← ex, ← ey]; exact exy.symm
  exact hc (h.st.means hθ hr ho h0 h1 ero).1
/-- How many roots there are. -/
def roots (G : List Nd) : Nat := cnt G.length fun n => decide ((ndAt G n).up = n)
theorem roots_link {o r : Nat} (ho : o < G.length) (hu : (ndAt G o).up = o) (hne : r ≠ o) : roots G = roots (setUp G o r) + 1 := by
  unfold roots
  rw [setUp_length]
  refine cnt_less ho (by simp [hu]) ?_ fun k hk hk' => ?_
  · rw [setUp_up ho, if_pos rfl]; simp [hne]
  · rw [setUp_up ho, if_neg hk']
end
end Go.Proofs.Ytmdajmdjmdbonaa

namespace Go.Proofs.Ytmdajmdjmdbonaa
open Go.RowKit
set_option linter.unusedSimpArgs false
set_option linter.unusedVariables false

def sumN (F : Nat → Nat) : List Nat → Nat
  | [] => 0
  | x :: xs => F x + sumN F xs
theorem sumN_append (F : Nat → Nat) (xs ys : List Nat) : sumN F (xs ++ ys) = sumN F xs + sumN F ys := by
  induction xs with
  | nil => simp [sumN]
  | cons x xs ih => simp [sumN, ih]; omega
def lenAt (G : List Nd) (n : Nat) : Nat := (ndAt G n).len
/-- What lengthOf answers. -/
def lenOf (G : List Nd) (rt : Nat → Nat) (n : Nat) : Nat :=
  if rt n ≠ n then lenAt G (rt n)
  else if ((ndAt G n).args.any fun x => decide (lenAt G x = 0)) then 0
  else min (1 + sumN (lenAt G) (ndAt G n).args) 49
/-- The nodes that have a length stand for M. -/
def Meas (G : List Nd) (rt : Nat → Nat) (M : Nat → List Int) : Prop :=
  ∀ n, n < G.length → 0 < lenAt G n → lenAt G n = min (M n).length 49 ∧
    (rt n = n → M n = (ndAt G n).code :: (ndAt G n).args.flatMap M ∧ ∀ x ∈ (ndAt G n).args, 0 < lenAt G x) ∧
    (rt n ≠ n → 0 < lenAt G (rt n) ∧ M n = M (rt n))
def left (G : List Nd) : Nat := cnt G.length fun n => decide (lenAt G n = 0)
section
variable {V : Nat} {ss : List Sym} {G : List Nd} {D M : Nat → List Int} {rt d : Nat → Nat} {L R : List Nat}
theorem setLen_at {i k l : Nat} (h : i < G.length) : lenAt (setLen G i l) k = if k = i then l else lenAt G k := setLen_len h
theorem left_set {n l : Nat} (hn : n < G.length) (h0 : lenAt G n = 0) (hl : 0 < l) : left G = left (setLen G n l) + 1 := by
  unfold left
  rw [setLen_length]
  refine cnt_less hn (by simp [h0]) ?_ fun k hk hk' => ?_
  · rw [setLen_at hn, if_pos rfl]; simp; omega
  · rw [setLen_at hn, if_neg hk']
theorem left_same {n : Nat} (hn : n < G.length) (h0 : lenAt G n = 0) : setLen G n 0 = G := by
  unfold setLen
  have e : ({ ndAt G n with len := 0 } : Nd) = ndAt G n := by
    unfold lenAt at h0
    cases h : ndAt G n with
    | mk a b c l => rw [h] at h0; simp at h0; subst h0; rfl
  rw [e]
  apply List.ext_getElem?
  intro i
  rw [List.getElem?_set]
  by_cases e : n = i
  · subst e; simp [hn, ndAt_get hn]
    have := ndAt_get hn
    rw [List.getElem?_eq_getElem hn] at this
    injection this with this
    exact this.symm
  · rw [if_neg e]
theorem sum_min (xs : List Nat) (h : ∀ x ∈ xs, lenAt G x = min (M x).length 49) : min (1 + sumN (lenAt G) xs) 49 = min (1 + (xs.flatMap M).length) 49 := by
  induction xs with
  | nil => rfl
  | cons x xs ih =>
    have h1 := h x (List.mem_cons_self ..)
    have h2 := ih fun y hy => h y (List.mem_cons_of_mem _ hy)
    simp only [sumN, List.flatMap_cons, List.length_append]
    omega
theorem lenOf_le (h : ∀ n, n < G.length → lenAt G n ≤ 49) {n : Nat} (hr : rt n < G.length) : lenOf G rt n ≤ 49 := by
  unfold lenOf
  split
  · exact h _ hr
  · split <;> omega
theorem any_zero {xs : List Nat} (h : (xs.any fun x => decide (lenAt G x = 0)) = false) : ∀ x ∈ xs, 0 < lenAt G x := by
  rw [List.any_eq_false] at h
  intro x hx
  have := h x hx
  simp at this
  omega
/-- One more length. -/
theorem Meas.step (h : Meas G rt M) (hst : Stands V ss G D) {n : Nat} (hn : n < G.length) (hr : rt n < G.length) (hrr : rt (rt n) = rt n) (h0 : lenAt G n = 0) (hp : 0 < lenOf G rt n) :
    ∃ M', Meas (setLen G n (lenOf G rt n)) rt M' := by
  have other : ∀ M' : Nat → List Int, (∀ k, k ≠ n → M' k = M k) → ∀ k, k < G.length → k ≠ n → 0 < lenAt G k → lenAt (setLen G n (lenOf G rt n)) k = min (M' k).length 49 ∧
      (rt k = k → M' k = (ndAt (setLen G n (lenOf G rt n)) k).code :: (ndAt (setLen G n (lenOf G rt n)) k).args.flatMap M' ∧ ∀ x ∈ (ndAt (setLen G n (lenOf G rt n)) k).args, 0 < lenAt (setLen G n (lenOf G rt n)) x) ∧
      (rt k ≠ k → 0 < lenAt (setLen G n (lenOf G rt n)) (rt k) ∧ M' k = M' (rt k)) := by
    intro M' hM k hk hkn hpos
    obtain ⟨a, b, c⟩ := h k hk hpos
    rw [setLen_at hn, if_neg hkn, hM k hkn, setLen_code hn, setLen_args hn]
    have hx0 : ∀ x, 0 < lenAt G x → x ≠ n := fun x hx e => by subst e; omega
    refine ⟨a, fun e => ?_, fun e => ?_⟩
    · obtain ⟨b1, b2⟩ := b e
      refine ⟨by rw [b1]; congr 1; exact flatMap_congr' fun x hx => (hM x (hx0 x (b2 x hx))).symm, fun x hx => ?_⟩
      rw [setLen_at hn, if_neg (hx0 x (b2 x hx))]; exact b2 x hx
    · obtain ⟨c1, c2⟩ := c e
      rw [setLen_at hn, if_neg (hx0 _ c1), hM _ (hx0 _ c1)]
      exact ⟨c1, c2⟩
  by_cases e : rt n = n
  · have hany : ((ndAt G n).args.any fun x => decide (lenAt G x = 0)) = false := by
      cases ha : ((ndAt G n).args.any fun x => decide (lenAt G x = 0))
      · rfl
      · unfold lenOf at hp; rw [if_neg (by simp [e]), ha] at hp; simp at hp
    have hl : lenOf G rt n = min (1 + sumN (lenAt G) (ndAt G n).args) 49 := by
      unfold lenOf; rw [if_neg (by simp [e]), hany]; simp
    have hpos := any_zero hany
    have hne : ∀ x ∈ (ndAt G n).args, x ≠ n := fun x hx e => by have := hpos x hx; subst e; omega
    refine ⟨fun k => if k = n then (ndAt G n).code :: (ndAt G n).args.flatMap M else M k, fun k hk hlk => ?_⟩
    rw [setLen_length] at hk
    by_cases ek : k = n
    · subst ek
      have hfm : (ndAt G k).args.flatMap (fun j => if j = k then (ndAt G k).code :: (ndAt G k).args.flatMap M else M j) = (ndAt G k).args.flatMap M := flatMap_congr' fun x hx => by rw [if_neg (hne x hx)]
      refine ⟨?_, fun _ => ⟨?_, fun x hx => ?_⟩, fun e' => absurd e e'⟩
      · rw [setLen_at hn, if_pos rfl, hl, sum_min (M := M) _ (fun x hx => (h x (hst.arg k hn x hx) (hpos x hx)).1)]
        simp [Nat.add_comm]
      · rw [setLen_code hn, setLen_args hn, hfm]; simp
      · rw [setLen_args hn] at hx
        rw [setLen_at hn, if_neg (hne x hx)]; exact hpos x hx
    · rw [setLen_at hn, if_neg ek] at hlk
      exact other (fun k => if k = n then (ndAt G n).code :: (ndAt G n).args.flatMap M else M k) (fun j hj => by simp [hj]) k hk ek hlk
  · have hl : lenOf G rt n = lenAt G (rt n) := by unfold lenOf; rw [if_pos e]
    refine ⟨fun k => if k = n then M (rt n) else M k, fun k hk hlk => ?_⟩
    rw [setLen_length] at hk
    by_cases ek : k = n
    · subst ek
      rw [hl] at hp
      refine ⟨?_, fun e' => absurd e' e, fun _ => ⟨?_, ?_⟩⟩
      · rw [setLen_at hn, if_pos rfl, hl]; simp; exact (h _ hr hp).1
      · rw [setLen_at hn, if_neg e]; exact hp
      · simp [e]
    · rw [setLen_at hn, if_neg ek] at hlk
      exact other (fun k => if k = n then M (rt n) else M k) (fun j hj => by simp [hj]) k hk ek hlk

/-- Where each node that has no length waits for another one, nothing makes the rows the same. -/
theorem Cls.stuck (h : Cls V ss G D rt d [] L R) (hw : ∀ n, n < G.length → lenAt G n = 0 → lenOf G rt n = 0) (hs : 0 < left G) : ∀ θ, Sub V ss θ → ¬ ∀ p ∈ L.zip R, ap θ (D p.1) = ap θ (D p.2) := by
  intro θ hθ hall
  obtain ⟨hm, _⟩ := (h.mean θ hθ).1 hall
  have key : ∀ k n, n < G.length → rt n = n → lenAt G n = 0 → (ap θ (D n)).length ≤ k → False := by
    intro k
    induction k with
    | zero =>
      intro n hn _ _ hl
      have := trm_pos (trm_ap hθ (h.st.one n hn))
      omega
    | succ k ih =>
      intro n hn hrt h0 hl
      have h1 := hw n hn h0
      unfold lenOf at h1
      rw [if_neg (by simp [hrt])] at h1
      have hany : ((ndAt G n).args.any fun x => decide (lenAt G x = 0)) = true := by
        cases ha : ((ndAt G n).args.any fun x => decide (lenAt G x = 0))
        · rw [ha] at h1; simp only [Bool.false_eq_true, if_false] at h1; omega
        · rfl
      rw [List.any_eq_true] at hany
      obtain ⟨x, hx, hx0⟩ := hany
      simp at hx0
      have hxN := h.st.arg n hn x hx
      have hpart : (ap θ (D x)).length < (ap θ (D n)).length := by
        rw [h.st.eqn n hn, ap_cons, List.length_append, ap_flatMap]
        have h2 := flatMap_mem_len hx (fun x => ap θ (D x))
        have h3 := ap1_pos hθ (c := (ndAt G n).code) (h.st.code_ge hn)
        omega
      obtain ⟨r1, r2, r3⟩ := h.fo.root hxN
      refine ih (rt x) r1 r3 ?_ (by rw [← hm x hxN]; omega)
      by_cases e : rt x = x
      · rw [e]; exact hx0
      · have := hw x hxN hx0
        unfold lenOf at this
        rw [if_pos e] at this
        exact this
  obtain ⟨n, hn, h0⟩ := cnt_pos hs
  simp at h0
  obtain ⟨r1, r2, r3⟩ := h.fo.root hn
  refine key _ (rt n) r1 r3 ?_ (Nat.le_refl _)
  by_cases e : rt n = n
  · rw [e]; exact h0
  · have := hw n hn h0
    unfold lenOf at this
    rw [if_pos e] at this
    exact this

/-- Where each node has a length. -/
structure Full (V : Nat) (ss : List Sym) (G : List Nd) (D : Nat → List Int) (rt d : Nat → Nat) (L R : List Nat) (M : Nat → List Int) : Prop where
  cls : Cls V ss G D rt d [] L R
  len : ∀ n, n < G.length → lenAt G n = min (M n).length 49
  root : ∀ n, n < G.length → rt n = n → M n = (ndAt G n).code :: (ndAt G n).args.flatMap M
  low : ∀ n, n < G.length → M n = M (rt n)
theorem Meas.full (h : Meas G rt M) (hc : Cls V ss G D rt d [] L R) (h0 : left G = 0) : Full V ss G D rt d L R M := by
  have hp : ∀ n, n < G.length → 0 < lenAt G n := fun n hn => by
    have := cnt_zero h0 n hn
    simp at this
    omega
  refine ⟨hc, fun n hn => (h n hn (hp n hn)).1, fun n hn e => ((h n hn (hp n hn)).2.1 e).1, fun n hn => ?_⟩
  by_cases e : rt n = n
  · rw [e]
  · exact ((h n hn (hp n hn)).2.2 e).2
theorem Full.at (h : Full V ss G D rt d L R M) {n : Nat} (hn : n < G.length) : M n = (ndAt G (rt n)).code :: (ndAt G (rt n)).args.flatMap M := by
  obtain ⟨r1, r2, r3⟩ := h.cls.fo.root hn
  rw [h.low n hn, ← h.root (rt n) r1 r3]
theorem Full.shorter (h : Full V ss G D rt d L R M) {n x : Nat} (hn : n < G.length) (hx : x ∈ (ndAt G (rt n)).args) : (M x).length < (M n).length := by
  rw [h.at hn]
  have := flatMap_mem_len hx M
  rw [List.length_cons]; omega
theorem Full.argN (h : Full V ss G D rt d L R M) {n x : Nat} (hn : n < G.length) (hx : x ∈ (ndAt G (rt n)).args) : x < G.length :=
  h.cls.st.arg _ (h.cls.fo.root hn).1 x hx
theorem Full.trm (h : Full V ss G D rt d L R M) {n : Nat} (hn : n < G.length) : trm V ss (M n) 1 := by
  suffices H : ∀ k n, n < G.length → (M n).length ≤ k → Go.Proofs.Ytmdajmdjmdbonaa.trm V ss (M n) 1 from H _ n hn (Nat.le_refl _)
  intro k
  induction k with
  | zero => intro n hn hl; rw [h.at hn] at hl; simp at hl
  | succ k ih =>
    intro n hn hl
    obtain ⟨r1, r2, r3⟩ := h.cls.fo.root hn
    rw [h.at hn]
    rcases Nat.lt_or_ge (rt n) V with hv | hv
    · obtain ⟨c1, c2, _⟩ := h.cls.st.var _ hv
      rw [c1, c2]
      exact trm_var hv
    · obtain ⟨c1, c2⟩ := h.cls.st.sym _ hv r1
      have := trm_sym c1 c2 (trm_flatMap (V := V) (F := M) fun x hx => ih x (h.argN hn hx) (by have := h.shorter hn hx; omega)) (Nat.le_refl _)
      rw [Nat.sub_self, Nat.zero_add] at this
      exact this
/-- What the nodes' rows become, put in. -/
theorem Full.made (h : Full V ss G D rt d L R M) {n : Nat} (hn : n < G.length) : ap M (D n) = M n := by
  suffices H : ∀ k n, n < G.length → (D n).length ≤ k → ap M (D n) = M n from H _ n hn (Nat.le_refl _)
  intro k
  induction k with
  | zero => intro n hn hl; have := trm_pos (h.cls.st.one n hn); omega
  | succ k ih =>
    intro n hn hl
    rcases Nat.lt_or_ge n V with hv | hv
    · rw [(h.cls.st.var n hv).2.2, ap_var]
    · obtain ⟨c1, c2⟩ := h.cls.st.sym n hv hn
      have e := h.cls.st.eqn n hn
      have hc := h.cls.cong rt (fun p hp => by cases hp) (fun m hm => (h.cls.fo.root hm).2.2.symm) n hn c1
      rw [e, ap_sym c1, ap_flatMap, h.at hn, h.cls.same n hn c1]
      congr 1
      have e1 : (ndAt G n).args.flatMap (fun x => ap M (D x)) = ((ndAt G n).args.map rt).flatMap M := by
        rw [List.flatMap_map]
        refine flatMap_congr' fun x hx => ?_
        have hxN := h.cls.st.arg n hn x hx
        rw [ih x hxN ?_, h.low x hxN]
        have := flatMap_mem_len hx D
        rw [e, List.length_cons] at hl
        omega
      have e2 : (ndAt G (rt n)).args.flatMap M = ((ndAt G (rt n)).args.map rt).flatMap M := by
        rw [List.flatMap_map]
        exact flatMap_congr' fun x hx => h.low x (h.argN hn hx)
      rw [e1, e2, hc]
/-- Whatever makes the rows the same makes of M what it makes of the nodes' rows. -/
theorem Full.most (h : Full V ss G D rt d L R M) {θ : Nat → List Int} (hm : ∀ n, n < G.length → ap θ (D n) = ap θ (D (rt n))) {n : Nat} (hn : n < G.length) : ap θ (M n) = ap θ (D n) := by
  suffices H : ∀ k n, n < G.length → (M n).length ≤ k → ap θ (M n) = ap θ (D n) from H _ n hn (Nat.le_refl _)
  intro k
  induction k with
  | zero => intro n hn hl; rw [h.at hn] at hl; simp at hl
  | succ k ih =>
    intro n hn hl
    obtain ⟨r1, r2, r3⟩ := h.cls.fo.root hn
    rw [hm n hn, h.at hn, h.cls.st.eqn _ r1, ap_cons, ap_cons, ap_flatMap, ap_flatMap]
    congr 1
    exact flatMap_congr' fun x hx => ih x (h.argN hn hx) (by have := h.shorter hn hx; omega)
theorem Full.isV (h : Full V ss G D rt d L R M) {v : Nat} (hv : v < V) : Go.Proofs.Ytmdajmdjmdbonaa.isV (M v) v = decide (rt v = v) := by
  have hN : v < G.length := Nat.lt_of_lt_of_le hv h.cls.st.many
  obtain ⟨r1, r2, r3⟩ := h.cls.fo.root hN
  by_cases e : rt v = v
  · rw [decide_eq_true e, isV_iff, h.at hN, e]
    obtain ⟨c1, c2, _⟩ := h.cls.st.var _ hv
    rw [c1, c2]; rfl
  · rw [decide_eq_false e, isV_not, h.at hN]
    intro hh
    injection hh with h1 h2
    have := h.cls.st.code_var r1 (by omega)
    have := (h.cls.st.var _ this).1
    omega
theorem Full.canon (h : Full V ss G D rt d L R M) {a b : List Int} (ha : a = L.flatMap D) (hb : b = R.flatMap D) (hl : L.length = R.length) (hL : ∀ x ∈ L, x < G.length) (hR : ∀ x ∈ R, x < G.length) : Canon V ss a b M := by
  have hN : ∀ v, v < V → v < G.length := fun v hv => Nat.lt_of_lt_of_le hv h.cls.st.many
  have hsub : Sub V ss M := fun v hv => h.trm (hN v hv)
  have iff : ∀ θ, Sub V ss θ → (ap θ a = ap θ b ↔ ∀ p ∈ L.zip R, ap θ (D p.1) = ap θ (D p.2)) := by
    intro θ hθ
    rw [ha, hb, ap_flatMap, ap_flatMap]
    exact flatMap_pairs (F := fun x => ap θ (D x)) hl (fun x hx => trm_ap hθ (h.cls.st.one x (hL x hx))) (fun x hx => trm_ap hθ (h.cls.st.one x (hR x hx)))
  refine ⟨hsub, ?_, ?_, ?_⟩
  · rw [iff M hsub, h.cls.mean M hsub]
    refine ⟨fun n hn => ?_, fun p hp => by cases hp⟩
    rw [h.made hn, h.made (h.cls.fo.root hn).1]; exact h.low n hn
  · intro θ hθ he v hv
    rw [iff θ hθ, h.cls.mean θ hθ] at he
    rw [h.most he.1 (hN v hv), (h.cls.st.var v hv).2.2, ap_var]
  · intro v w hv he
    rw [h.at (hN v hv)] at he
    injection he with h1 h2
    obtain ⟨r1, _, _⟩ := h.cls.fo.root (hN v hv)
    have h3 := h.cls.st.code_var r1 (by omega)
    have h4 := (h.cls.st.var _ h3).1
    have h5 := (h.cls.st.var _ hv).1
    have h6 := h.cls.high v (hN v hv)
    omega
end
theorem no_pairs {V : Nat} {ss : List Sym} {G : List Nd} {D : Nat → List Int} {L R : List Nat} (h : Stands V ss G D) {a b : List Int} (ha : a = L.flatMap D) (hb : b = R.flatMap D) (hL : ∀ x ∈ L, x < G.length) (hR : ∀ x ∈ R, x < G.length)
    (hno : L.length = R.length → ∀ θ, Sub V ss θ → ¬ ∀ p ∈ L.zip R, ap θ (D p.1) = ap θ (D p.2)) : ∀ θ, Sub V ss θ → ap θ a ≠ ap θ b := by
  intro θ hθ he
  rw [ha, hb, ap_flatMap, ap_flatMap] at he
  have h1 := trm_flatMap (V := V) (ss := ss) (F := fun x => ap θ (D x)) fun x hx => trm_ap hθ (h.one x (hL x hx))
  have h2 := trm_flatMap (V := V) (ss := ss) (F := fun x => ap θ (D x)) fun x hx => trm_ap hθ (h.one x (hR x hx))
  have hl := trm_uniq' h1 h2 he
  exact hno hl θ hθ ((flatMap_pairs (F := fun x => ap θ (D x)) hl (fun x hx => trm_ap hθ (h.one x (hL x hx))) (fun x hx => trm_ap hθ (h.one x (hR x hx)))).1 he)
end Go.Proofs.Ytmdajmdjmdbonaa

namespace Go.Proofs.Ytmdajmdjmdbonaa
open Go.RowKit
set_option linter.unusedSimpArgs false
set_option linter.unusedVariables false

/-- The store T (nothing: no codes), what comes of it (σ), how far each variable is from those that nothing stands for (rk). -/
structure Sto (V : Nat) (ss : List Sym) (T σ : Nat → List Int) (rk : Nat → Nat) : Prop where
  one : ∀ v, v < V → T v ≠ [] → trm V ss (T v) 1
  bnd : ∀ v, v < V → T v ≠ [] → σ v = ap σ (T v)
  free : ∀ v, v < V → T v = [] → σ v = [-1 - (v : Int)]
  down : ∀ v, v < V → T v ≠ [] → ∀ c ∈ T v, c < 0 → rk (-1 - c).toNat < rk v
  least : ∀ v w : Nat, v < V → T v = [-1 - (w : Int)] → w < v
/-- What keeps to the store. -/
def Mod (V : Nat) (θ T : Nat → List Int) : Prop := ∀ v, v < V → T v ≠ [] → θ v = ap θ (T v)
def unb (V : Nat) (T : Nat → List Int) : Nat := cnt V fun v => decide (T v = [])
section
variable {V : Nat} {ss : List Sym} {T T' σ θ : Nat → List Int} {rk : Nat → Nat} {r a b t : List Int} {k k1 : Nat}
theorem trm_ap_on : ∀ {r : List Int} {k : Nat}, (∀ c ∈ r, c < 0 → trm V ss (θ (-1 - c).toNat) 1) → trm V ss r k → trm V ss (ap θ r) k
  | [], k, _, h => by
    have : k = 0 := trm_uniq' h trm_nil rfl
    subst this
    exact trm_nil
  | c :: r, k, hs, h => by
    rw [ap_cons]
    have hs' : ∀ d ∈ r, d < 0 → trm V ss (θ (-1 - d).toNat) 1 := fun d hd => hs d (List.mem_cons_of_mem _ hd)
    rcases trm_cons h with ⟨h1, h2, i, rfl, h4⟩ | ⟨h1, a, i, h2, rfl, h4⟩
    · have e : ap1 θ c = θ (-1 - c).toNat := by unfold ap1; rw [if_pos h1]
      rw [e]
      have := trm_append (hs c (List.mem_cons_self ..) h1) (trm_ap_on hs' h4)
      rw [Nat.add_comm 1 i] at this
      exact this
    · rw [ap1_sym h1]
      have := trm_sym h1 h2 (trm_ap_on hs' h4) (by omega)
      rw [Nat.add_sub_cancel_left] at this
      exact this
theorem vnum {c : Int} (h : trm V ss r k) (hc : c ∈ r) (h0 : c < 0) : (-1 - c).toNat < V ∧ c = -1 - (((-1 - c).toNat : Nat) : Int) := by
  have := trm_codes h c hc; omega
theorem Sto.sub (h : Sto V ss T σ rk) : Sub V ss σ := by
  suffices H : ∀ k v, v < V → rk v ≤ k → trm V ss (σ v) 1 from fun v hv => H _ v hv (Nat.le_refl _)
  intro k
  induction k with
  | zero =>
    intro v hv hk
    by_cases e : T v = []
    · rw [h.free v hv e]; exact trm_var hv
    · rw [h.bnd v hv e]
      exact trm_ap_on (fun c hc h0 => by have := h.down v hv e c hc h0; omega) (h.one v hv e)
  | succ k ih =>
    intro v hv hk
    by_cases e : T v = []
    · rw [h.free v hv e]; exact trm_var hv
    · rw [h.bnd v hv e]
      exact trm_ap_on (fun c hc h0 => ih _ (vnum (h.one v hv e) hc h0).1 (by have := h.down v hv e c hc h0; omega)) (h.one v hv e)
theorem Sto.mod (h : Sto V ss T σ rk) (hm : Mod V θ T) {v : Nat} (hv : v < V) : ap θ (σ v) = θ v := by
  suffices H : ∀ k v, v < V → rk v ≤ k → ap θ (σ v) = θ v from H _ v hv (Nat.le_refl _)
  intro k
  induction k with
  | zero =>
    intro v hv hk
    by_cases e : T v = []
    · rw [h.free v hv e, ap_var]
    · rw [h.bnd v hv e, ap_ap, hm v hv e]
      exact ap_on fun c hc h0 => by have := h.down v hv e c hc h0; omega
  | succ k ih =>
    intro v hv hk
    by_cases e : T v = []
    · rw [h.free v hv e, ap_var]
    · rw [h.bnd v hv e, ap_ap, hm v hv e]
      exact ap_on fun c hc h0 => ih _ (vnum (h.one v hv e) hc h0).1 (by have := h.down v hv e c hc h0; omega)
theorem Sto.mod_row (h : Sto V ss T σ rk) (hm : Mod V θ T) (hr : trm V ss r k) : ap θ (ap σ r) = ap θ r := by
  rw [ap_ap]
  exact ap_on fun c hc h0 => h.mod hm (vnum hr hc h0).1
theorem Sto.self (h : Sto V ss T σ rk) : Mod V σ T := fun v hv e => h.bnd v hv e
theorem Sto.low (h : Sto V ss T σ rk) {v w : Nat} (hv : v < V) (e : σ v = [-1 - (w : Int)]) : w ≤ v := by
  suffices H : ∀ k v, v < V → rk v ≤ k → σ v = [-1 - (w : Int)] → w ≤ v from H _ v hv (Nat.le_refl _) e
  intro k
  have step : ∀ v, v < V → T v ≠ [] → σ v = [-1 - (w : Int)] → ∃ u, u < V ∧ u < v ∧ rk u < rk v ∧ σ u = [-1 - (w : Int)] := by
    intro v hv e he
    rw [h.bnd v hv e] at he
    rcases trm_one (h.one v hv e) with ⟨u, hu, hu'⟩ | ⟨c, ar, s, hc, h0, _, _⟩
    · rw [hu', ap_var] at he
      have h2 := h.down v hv e (-1 - (u : Int)) (by rw [hu']; simp) (by omega)
      have e3 : (-1 - (-1 - (u : Int))).toNat = u := by omega
      rw [e3] at h2
      exact ⟨u, hu, h.least v u hv hu', h2, he⟩
    · rw [hc, ap_sym h0] at he
      injection he with he
      omega
  induction k with
  | zero =>
    intro v hv hk he
    by_cases e : T v = []
    · rw [h.free v hv e] at he; injection he with he; omega
    · obtain ⟨u, _, _, h3, _⟩ := step v hv e he; omega
  | succ k ih =>
    intro v hv hk he
    by_cases e : T v = []
    · rw [h.free v hv e] at he; injection he with he; omega
    · obtain ⟨u, h1, h2, h3, h4⟩ := step v hv e he
      have := ih u h1 (by omega) h4
      omega
theorem mem_ap {c : Int} : c ∈ ap θ r ↔ ∃ d ∈ r, c ∈ ap1 θ d := by unfold ap; rw [List.mem_flatMap]
theorem mem_ap_var {c : Int} {v : Nat} (hv : -1 - (v : Int) ∈ r) (hc : c ∈ θ v) : c ∈ ap θ r := mem_ap.2 ⟨_, hv, by rw [ap1_var]; exact hc⟩

/-- One more variable bound. -/
def bindV (T : Nat → List Int) (v : Nat) (t : List Int) : Nat → List Int := fun x => if x = v then t else T x
theorem bindV_at (T : Nat → List Int) (v : Nat) (t : List Int) : bindV T v t v = t := by unfold bindV; rw [if_pos rfl]
theorem bindV_ne (T : Nat → List Int) {v x : Nat} (t : List Int) (h : x ≠ v) : bindV T v t x = T x := by unfold bindV; rw [if_neg h]
theorem sumN_ge {F : Nat → Nat} {xs : List Nat} {x : Nat} (h : x ∈ xs) : F x ≤ sumN F xs := by
  induction xs with
  | nil => cases h
  | cons y xs ih =>
    unfold sumN
    rcases List.mem_cons.1 h with rfl | h
    · omega
    · have := ih h; omega
theorem unb_put {v : Nat} (hv : v < V) (h0 : T v = []) (ht : t ≠ []) : unb V T = unb V (bindV T v t) + 1 := by
  unfold unb
  refine cnt_less hv (by simp [h0]) (by rw [bindV_at]; simp [ht]) fun k hk hk' => by rw [bindV_ne _ _ hk']
theorem Mod.put {v : Nat} (hv : v < V) (h0 : T v = []) (ht : t ≠ []) : Mod V θ (bindV T v t) ↔ Mod V θ T ∧ θ v = ap θ t := by
  constructor
  · intro h
    refine ⟨fun x hx e => ?_, ?_⟩
    · have hne : x ≠ v := fun e' => e (by rw [e']; exact h0)
      have := h x hx (by rw [bindV_ne _ _ hne]; exact e)
      rw [bindV_ne _ _ hne] at this; exact this
    · have := h v hv (by rw [bindV_at]; exact ht)
      rw [bindV_at] at this; exact this
  · rintro ⟨h1, h2⟩ x hx e
    by_cases hne : x = v
    · subst hne; rw [bindV_at]; exact h2
    · rw [bindV_ne _ _ hne] at e ⊢; exact h1 x hx e
theorem Sto.put (h : Sto V ss T σ rk) {v : Nat} (hv : v < V) (h0 : T v = []) (ht : trm V ss t 1) (hno : -1 - (v : Int) ∉ ap σ t) (hl : ∀ w : Nat, t = [-1 - (w : Int)] → w < v) :
    ∃ σ' rk', Sto V ss (bindV T v t) σ' rk' := by
  have ht0 : t ≠ [] := fun e => by rw [e] at ht; have := trm_pos ht; simp at this
  let δ : Nat → List Int := fun y => if y = v then ap σ t else [-1 - (y : Int)]
  have δv : δ v = ap σ t := by show (if v = v then _ else _) = _; rw [if_pos rfl]
  have δo : ∀ y, y ≠ v → δ y = [-1 - (y : Int)] := fun y hy => by show (if y = v then _ else _) = _; rw [if_neg hy]
  have δt : ap δ (ap σ t) = ap σ t := by
    apply ap_id
    intro c hc h1
    have hvn := vnum (trm_ap h.sub ht) hc h1
    rw [δo _ (fun e => hno (by rw [← e, ← hvn.2]; exact hc)), ← hvn.2]
  have sv := h.free v hv h0
  refine ⟨fun x => ap δ (σ x), fun x => if -1 - (v : Int) ∈ σ x then rk x + (1 + sumN rk (List.range V)) else rk x, ?_, ?_, ?_, ?_, ?_⟩
  · intro x hx e
    by_cases hne : x = v
    · subst hne; rw [bindV_at]; exact ht
    · rw [bindV_ne _ _ hne] at e ⊢; exact h.one x hx e
  · intro x hx e
    by_cases hne : x = v
    · subst hne
      rw [bindV_at, ← ap_ap, δt]
      show ap δ (σ x) = _
      rw [sv, ap_var, δv]
    · rw [bindV_ne _ _ hne] at e ⊢
      rw [← ap_ap]
      show ap δ (σ x) = _
      rw [← h.bnd x hx e]
  · intro x hx e
    by_cases hne : x = v
    · subst hne; rw [bindV_at] at e; exact absurd e ht0
    · rw [bindV_ne _ _ hne] at e
      show ap δ (σ x) = _
      rw [h.free x hx e, ap_var, δo x hne]
  · intro x hx e c hc h1
    by_cases hne : x = v
    · subst hne
      rw [bindV_at] at hc
      obtain ⟨n1, n2⟩ := vnum ht hc h1
      have hnot : -1 - (x : Int) ∉ σ (-1 - c).toNat := fun hh => hno (mem_ap_var (by rw [← n2]; exact hc) hh)
      have hin : -1 - (x : Int) ∈ σ x := by rw [sv]; simp
      have := sumN_ge (F := rk) (xs := List.range V) (List.mem_range.2 n1)
      simp only [if_neg hnot, if_pos hin]
      omega
    · rw [bindV_ne _ _ hne] at e hc
      have hd := h.down x hx e c hc h1
      obtain ⟨n1, n2⟩ := vnum (h.one x hx e) hc h1
      by_cases hin : -1 - (v : Int) ∈ σ x
      · simp only [if_pos hin]; split <;> omega
      · have hnot : -1 - (v : Int) ∉ σ (-1 - c).toNat := fun hh => hin (by rw [h.bnd x hx e]; exact mem_ap_var (by rw [← n2]; exact hc) hh)
        simp only [if_neg hin, if_neg hnot]; exact hd
  · intro x w hx e
    by_cases hne : x = v
    · subst hne; rw [bindV_at] at e; exact hl w e
    · rw [bindV_ne _ _ hne] at e; exact h.least x w hx e

/-- What comes of making two rows the same. -/
def PairOk (V : Nat) (ss : List Sym) (T : Nat → List Int) (a b : List Int) (T' : Nat → List Int) : Prop :=
  (∀ θ, Sub V ss θ → (Mod V θ T' ↔ Mod V θ T ∧ ap θ a = ap θ b)) ∧ (T' = T ∨ (unb V T' < unb V T ∧ ∃ σ' rk', Sto V ss T' σ' rk'))
def PairNo (V : Nat) (ss : List Sym) (T : Nat → List Int) (a b : List Int) : Prop := ∀ θ, Sub V ss θ → Mod V θ T → ap θ a ≠ ap θ b
/-- As far as variables alone are followed. -/
structure Wlk (V : Nat) (ss : List Sym) (T σ : Nat → List Int) (a a' : List Int) : Prop where
  one : trm V ss a' 1
  eq : ap σ a' = ap σ a
  mod : ∀ θ, Mod V θ T → ap θ a' = ap θ a
theorem Wlk.refl (h : trm V ss a 1) : Wlk V ss T σ a a := ⟨h, rfl, fun _ _ => rfl⟩
theorem Wlk.step {v : Nat} (hs : Sto V ss T σ rk) (h : Wlk V ss T σ a [-1 - (v : Int)]) (hb : T v ≠ []) (hv : v < V) : Wlk V ss T σ a (T v) := by
  refine ⟨hs.one v hv hb, ?_, fun θ hm => ?_⟩
  · rw [← hs.bnd v hv hb, ← ap_var (θ := σ) v]; exact h.eq
  · rw [← hm v hv hb, ← ap_var (θ := θ) v]; exact h.mod θ hm
theorem PairOk.walk {a' b' : List Int} (ha : Wlk V ss T σ a a') (hb : Wlk V ss T σ b b') (h : PairOk V ss T a' b' T') : PairOk V ss T a b T' := by
  refine ⟨fun θ hθ => ?_, h.2⟩
  rw [h.1 θ hθ]
  constructor
  · rintro ⟨h1, h2⟩; exact ⟨h1, by rw [← ha.mod θ h1, ← hb.mod θ h1]; exact h2⟩
  · rintro ⟨h1, h2⟩; exact ⟨h1, by rw [ha.mod θ h1, hb.mod θ h1]; exact h2⟩
theorem PairNo.walk {a' b' : List Int} (ha : Wlk V ss T σ a a') (hb : Wlk V ss T σ b b') (h : PairNo V ss T a' b') : PairNo V ss T a b := by
  intro θ hθ hm
  rw [← ha.mod θ hm, ← hb.mod θ hm]
  exact h θ hθ hm
theorem PairOk.rfl_ : PairOk V ss T a a T := ⟨fun θ _ => ⟨fun h => ⟨h, rfl⟩, fun h => h.1⟩, .inl rfl⟩
theorem PairOk.symm (h : PairOk V ss T a b T') : PairOk V ss T b a T' := ⟨fun θ hθ => by rw [h.1 θ hθ]; constructor <;> (rintro ⟨h1, h2⟩; exact ⟨h1, h2.symm⟩), h.2⟩
theorem PairNo.symm (h : PairNo V ss T a b) : PairNo V ss T b a := fun θ hθ hm e => h θ hθ hm e.symm
theorem PairOk.bind (h : Sto V ss T σ rk) {v : Nat} (hv : v < V) (h0 : T v = []) (ht : trm V ss t 1) (hno : -1 - (v : Int) ∉ ap σ t) (hl : ∀ w : Nat, t = [-1 - (w : Int)] → w < v) : PairOk V ss T [-1 - (v : Int)] t (bindV T v t) := by
  have ht0 : t ≠ [] := fun e => by rw [e] at ht; have := trm_pos ht; simp at this
  refine ⟨fun θ hθ => ?_, .inr ⟨?_, h.put hv h0 ht hno hl⟩⟩
  · rw [Mod.put hv h0 ht0, ap_var]
  · have := unb_put (V := V) hv h0 ht0; omega
/-- A variable within a term can't become it. -/
theorem PairNo.occurs (h : Sto V ss T σ rk) {v : Nat} {c : Int} {s : List Int} (ht : trm V ss (c :: s) 1) (h0 : 0 ≤ c) (hin : -1 - (v : Int) ∈ ap σ (c :: s)) : PairNo V ss T [-1 - (v : Int)] (c :: s) := by
  intro θ hθ hm e
  rw [ap_var, ← h.mod_row hm ht] at e
  have h1 := ap_part hθ (trm_codes (trm_ap h.sub ht)) hin
  rw [← e, ap1_var] at h1
  rw [ap_sym h0] at hin h1
  have h2 : -1 - (v : Int) ∈ ap σ s := by
    rcases List.mem_cons.1 hin with h' | h'
    · omega
    · exact h'
  have h3 : 1 ≤ (ap σ s).length := List.length_pos_of_mem h2
  rw [List.length_cons] at h1
  omega
theorem PairNo.clash {c d : Int} {s t : List Int} (h1 : 0 ≤ c) (h2 : 0 ≤ d) (hne : c ≠ d) : PairNo V ss T (c :: s) (d :: t) := by
  intro θ _ _ e
  rw [ap_sym h1, ap_sym h2] at e
  injection e with e
  exact hne e
theorem PairOk.args {c : Int} {s t : List Int} (h0 : 0 ≤ c) (h : PairOk V ss T s t T') : PairOk V ss T (c :: s) (c :: t) T' := by
  refine ⟨fun θ hθ => ?_, h.2⟩
  rw [h.1 θ hθ, ap_sym h0, ap_sym h0]
  simp
theorem PairNo.args {c : Int} {s t : List Int} (h0 : 0 ≤ c) (h : PairNo V ss T s t) : PairNo V ss T (c :: s) (c :: t) := by
  intro θ hθ hm e
  rw [ap_sym h0, ap_sym h0] at e
  injection e with _ e
  exact h θ hθ hm e
/-- Row by row, one behind the other. -/
theorem PairOk.more {T2 : Nat → List Int} {x y : List Int} (h : PairOk V ss T a b T') (k : PairOk V ss T' x y T2) (ha : trm V ss a k1) (hb : trm V ss b k1) : PairOk V ss T (a ++ x) (b ++ y) T2 := by
  refine ⟨fun θ hθ => ?_, ?_⟩
  · rw [k.1 θ hθ, h.1 θ hθ, ap_append, ap_append]
    constructor
    · rintro ⟨⟨h1, h2⟩, h3⟩; exact ⟨h1, by rw [h2, h3]⟩
    · rintro ⟨h1, h2⟩
      obtain ⟨e1, e2⟩ := trm_uniq (trm_ap hθ ha) (trm_ap hθ hb) h2
      exact ⟨⟨h1, e1⟩, e2⟩
  · rcases k.2 with rfl | ⟨k2, k3⟩
    · exact h.2
    · right
      rcases h.2 with rfl | ⟨h2, _⟩
      · exact ⟨k2, k3⟩
      · exact ⟨by omega, k3⟩
theorem PairNo.first {x y : List Int} (h : PairNo V ss T a b) (ha : trm V ss a k1) (hb : trm V ss b k1) : PairNo V ss T (a ++ x) (b ++ y) := by
  intro θ hθ hm e
  rw [ap_append, ap_append] at e
  exact h θ hθ hm (trm_uniq (trm_ap hθ ha) (trm_ap hθ hb) e).1
theorem PairNo.later {x y : List Int} (h : PairOk V ss T a b T') (k : PairNo V ss T' x y) (ha : trm V ss a k1) (hb : trm V ss b k1) : PairNo V ss T (a ++ x) (b ++ y) := by
  intro θ hθ hm e
  rw [ap_append, ap_append] at e
  obtain ⟨e1, e2⟩ := trm_uniq (trm_ap hθ ha) (trm_ap hθ hb) e
  exact k θ hθ ((h.1 θ hθ).2 ⟨hm, e1⟩) e2
/-- From the empty store: the most general one. -/
theorem Sto.empty : Sto V ss (fun _ => []) (fun v => [-1 - (v : Int)]) (fun _ => 0) :=
  ⟨fun _ _ h => absurd rfl h, fun _ _ h => absurd rfl h, fun _ _ _ => rfl, fun _ _ h => absurd rfl h, fun v w _ e => by cases e⟩
theorem Mod.empty : Mod V θ (fun _ => []) := fun _ _ h => absurd rfl h
theorem PairOk.canon (h : PairOk V ss (fun _ => []) a b T') : ∃ σ rk, Sto V ss T' σ rk ∧ Canon V ss a b σ := by
  have hs : ∃ σ rk, Sto V ss T' σ rk := by
    rcases h.2 with rfl | ⟨_, h2⟩
    · exact ⟨_, _, Sto.empty⟩
    · exact h2
  obtain ⟨σ, rk, hs⟩ := hs
  refine ⟨σ, rk, hs, hs.sub, ((h.1 σ hs.sub).1 hs.self).2, fun θ hθ e v hv => hs.mod ((h.1 θ hθ).2 ⟨Mod.empty, e⟩) hv, fun v w hv e => hs.low hv e⟩
theorem PairNo.none (h : PairNo V ss (fun _ => []) a b) : ∀ θ, Sub V ss θ → ap θ a ≠ ap θ b := fun θ hθ => h θ hθ Mod.empty
/-- Nothing stands for a variable just if it stays. -/
theorem Sto.isV (h : Sto V ss T σ rk) {v : Nat} (hv : v < V) : Go.Proofs.Ytmdajmdjmdbonaa.isV (σ v) v = decide (T v = []) := by
  by_cases e : T v = []
  · rw [decide_eq_true e, isV_iff, h.free v hv e]
  · rw [decide_eq_false e, isV_not]
    intro hh
    rw [h.bnd v hv e] at hh
    rcases trm_one (h.one v hv e) with ⟨u, hu, hu'⟩ | ⟨c, ar, s, hc, h0, _, _⟩
    · rw [hu', ap_var] at hh
      have h1 := h.least v u hv hu'
      have h2 := h.low hu hh
      omega
    · rw [hc, ap_sym h0] at hh
      injection hh with hh
      omega
end
end Go.Proofs.Ytmdajmdjmdbonaa

namespace Go.Proofs.Ytmdajmdjmdbonaa
open Go.RowKit
set_option linter.unusedSimpArgs false
set_option linter.unusedVariables false
set_option maxRecDepth 100000

/-- Only the variable v is replaced. -/
def only (v : Nat) (t : List Int) : Nat → List Int := fun x => if x = v then t else [-1 - (x : Int)]
theorem only_at (v : Nat) (t : List Int) : only v t v = t := by unfold only; rw [if_pos rfl]
theorem only_ne {v x : Nat} (t : List Int) (h : x ≠ v) : only v t x = [-1 - (x : Int)] := by unfold only; rw [if_neg h]
theorem ap_only_free {V : Nat} {ss : List Sym} {r : List Int} {k v : Nat} {t : List Int} (hr : trm V ss r k) (h : -1 - (v : Int) ∉ r) : ap (only v t) r = r := by
  apply ap_id
  intro c hc h0
  obtain ⟨h1, h2⟩ := vnum hr hc h0
  rw [only_ne t (fun e => h (by rw [← e, ← h2]; exact hc)), ← h2]
theorem Canon.one {ss : List Sym} {v : Nat} {t : List Int} (hv : v < 24) (ht : trm 24 ss t 1) (hno : -1 - (v : Int) ∉ t) (hl : ∀ w : Nat, t = [-1 - (w : Int)] → w < v) : Canon 24 ss [-1 - (v : Int)] t (only v t) := by
  refine ⟨fun x hx => ?_, ?_, fun θ hθ e x hx => ?_, fun x w hx e => ?_⟩
  · by_cases e : x = v
    · subst e; rw [only_at]; exact ht
    · rw [only_ne t e]; exact trm_var hx
  · rw [ap_var, only_at, ap_only_free ht hno]
  · by_cases e' : x = v
    · subst e'; rw [only_at, ← e, ap_var]
    · rw [only_ne t e', ap_var]
  · by_cases e' : x = v
    · subst e'; rw [only_at] at e; have := hl w e; omega
    · rw [only_ne t e'] at e; injection e with e; omega
theorem Canon.symm {V : Nat} {ss : List Sym} {a b : List Int} {σ : Nat → List Int} (h : Canon V ss a b σ) : Canon V ss b a σ := ⟨h.sub, h.uni.symm, fun θ hθ e => h.mgu θ hθ e.symm, h.least⟩
theorem UniR.symm {ss : List Sym} {a b : List Int} {E : Int} {is : Bool} {bs : List Bd} (h : UniR ss a b E is bs) : UniR ss b a E is bs := by
  rcases h with ⟨h0, h⟩ | ⟨h0, h⟩
  · exact .inl ⟨by rw [Bool.and_comm]; exact h0, h⟩
  · refine .inr ⟨by rw [Bool.and_comm]; exact h0, ?_⟩
    rcases h with ⟨h1, h⟩ | ⟨σ, h1, h⟩
    · exact .inl ⟨fun θ hθ e => h1 θ hθ e.symm, h⟩
    · exact .inr ⟨σ, h1.symm, h⟩
theorem no_occurs {V : Nat} {ss : List Sym} {v k : Nat} {t : List Int} (ht : trm V ss t k) (hin : -1 - (v : Int) ∈ t) (h2 : 2 ≤ t.length) : ∀ θ, Sub V ss θ → ap θ [-1 - (v : Int)] ≠ ap θ t := by
  intro θ hθ e
  have h1 := ap_part hθ (trm_codes ht) hin
  rw [← e, ap_var, ap1_var] at h1
  omega
/-- The binds of what replaces one variable. -/
theorem bdsOf_only {v : Nat} {t : List Int} (hne : t ≠ [-1 - (v : Int)]) : ∀ n, bdsOf (only v t) n = if v < n then [⟨v, t⟩] else []
  | 0 => rfl
  | n + 1 => by
    rw [bdsOf_succ, bdsOf_only hne n]
    by_cases e : n = v
    · subst e
      rw [only_at, isV_not.2 hne]
      simp
    · have : isV (only v t n) n = true := by rw [only_ne t e]; exact isV_iff.2 rfl
      rw [this]
      by_cases h : v < n
      · have h' : v < n + 1 := by omega
        simp [h, h']
      · have h' : ¬ v < n + 1 := by omega
        simp [h, h']

theorem rowW (r : List Int) (h : rowB wordsL r = true) : ∃ ms, tl wordsL r = some ms := ⟨_, (row_parts h).2.2⟩
theorem au1 {E : Int} {is : Bool} {bs : List Bd} (h : UniR wordsL [4, -1, -2] [4, 3, -2, 1] E is bs) : E = 0 ∧ is = true ∧ bs = [⟨0, [3, 1]⟩, ⟨1, [1]⟩] := by
  let σ : Nat → List Int := fun x => if x = 0 then [3, 1] else if x = 1 then [1] else [-1 - (x : Int)]
  have s0 : σ 0 = [3, 1] := rfl
  have s1 : σ 1 = [1] := rfl
  have s2 : ∀ x, x ≠ 0 → x ≠ 1 → σ x = [-1 - (x : Int)] := fun x h0 h1 => by show (if x = 0 then _ else _) = _; rw [if_neg h0, if_neg h1]
  have t31 : trm 24 wordsL [3, 1] 1 := trm_of_tl (ms := [(2, 2)]) (by decide +kernel)
  have t1 : trm 24 wordsL [1] 1 := trm_of_tl (ms := [(1, 1)]) (by decide +kernel)
  have hc : Canon 24 wordsL [4, -1, -2] [4, 3, -2, 1] σ := by
    refine ⟨fun x hx => ?_, by rfl, fun θ hθ e x hx => ?_, fun x w hx e => ?_⟩
    · by_cases h0 : x = 0
      · subst h0; exact t31
      · by_cases h1 : x = 1
        · subst h1; exact t1
        · rw [s2 x h0 h1]; exact trm_var hx
    · have ea : ap θ [4, -1, -2] = 4 :: (θ 0 ++ (θ 1 ++ [])) := rfl
      have eb : ap θ [4, 3, -2, 1] = 4 :: ((3 :: θ 1) ++ [1]) := by show 4 :: (3 :: (θ 1 ++ [1])) = _; rfl
      rw [ea, eb] at e
      injection e with _ e
      have t3 : trm 24 wordsL (3 :: θ 1) 1 := trm_sym (a := 1) (by omega) (by decide +kernel) (hθ 1 (by omega)) (by omega)
      obtain ⟨e1, e2⟩ := trm_uniq (hθ 0 (by omega)) t3 e
      rw [List.append_nil] at e2
      by_cases h0 : x = 0
      · subst h0; rw [s0, e1, e2]; rfl
      · by_cases h1 : x = 1
        · subst h1; rw [s1, e2]; rfl
        · rw [s2 x h0 h1, ap_var]
    · by_cases h0 : x = 0
      · subst h0; rw [s0] at e; have := congrArg List.length e; simp at this
      · by_cases h1 : x = 1
        · subst h1; rw [s1] at e; injection e with e; omega
        · rw [s2 x h0 h1] at e; injection e with e; omega
  have k : UniR wordsL [4, -1, -2] [4, 3, -2, 1] 0 true (bdsOf σ 24) := .inr ⟨by decide +kernel, .inr ⟨σ, hc, .inl ⟨fun x hx => by
    by_cases h0 : x = 0
    · subst h0; decide
    · by_cases h1 : x = 1
      · subst h1; decide
      · rw [s2 x h0 h1]; simp, rfl, rfl, rfl⟩⟩⟩
  obtain ⟨e1, e2, e3⟩ := h.unique k
  exact ⟨e1, e2, by rw [e3]; rfl⟩
theorem au2 {E : Int} {is : Bool} {bs : List Bd} (h : UniR wordsL [-4] [-2] E is bs) : E = 0 ∧ is = true ∧ bs = [⟨3, [-2]⟩] := by
  have hc : Canon 24 wordsL [-4] [-2] (only 3 [-2]) := Canon.one (v := 3) (by omega) (trm_var (v := 1) (by omega)) (by decide) (fun w e => by injection e with e; omega)
  have k : UniR wordsL [-4] [-2] 0 true (bdsOf (only 3 [-2]) 24) := .inr ⟨by decide +kernel, .inr ⟨_, hc, .inl ⟨fun x hx => by
    by_cases h0 : x = 3
    · subst h0; decide
    · rw [only_ne _ h0]; simp, rfl, rfl, rfl⟩⟩⟩
  obtain ⟨e1, e2, e3⟩ := h.unique k
  exact ⟨e1, e2, by rw [e3]; rfl⟩
theorem au3 {E : Int} {is : Bool} {bs : List Bd} (h : UniR wordsL [-1] [3, -1] E is bs) : E = 0 ∧ is = false ∧ bs = [] :=
  h.unique (.inr ⟨by decide +kernel, .inl ⟨no_occurs (v := 0) (trm_of_tl (ms := [(2, 2)]) (by decide +kernel)) (by decide) (by decide), rfl, rfl, rfl⟩⟩)
theorem au4 {E : Int} {is : Bool} {bs : List Bd} (h : UniR wordsL [1] [2] E is bs) : E = 0 ∧ is = false ∧ bs = [] :=
  h.unique (.inr ⟨by decide +kernel, .inl ⟨fun θ hθ e => (by revert e; show ([1] : List Int) ≠ [2]; decide), rfl, rfl, rfl⟩⟩)
theorem au5 {E : Int} {is : Bool} {bs : List Bd} (h : UniR wordsL [3] [1] E is bs) : E = 400 ∧ is = false ∧ bs = [] :=
  h.unique (.inl ⟨by decide +kernel, rfl, rfl, rfl⟩)
end Go.Proofs.Ytmdajmdjmdbonaa

namespace Go.Proofs.Ytmdajmdjmdbonaa
open Go.RowKit
set_option linter.unusedSimpArgs false
set_option linter.unusedVariables false
set_option maxRecDepth 100000

section
variable {ss : List Sym} {a b : List Int} {E : Int} {is : Bool} {bs us : List Bd} {σ : Nat → List Int} {r : List Int}
theorem bdsOf_mem {n : Nat} {x : Bd} (h : x ∈ bdsOf σ n) : ∃ v : Nat, v < n ∧ x = ⟨v, σ v⟩ ∧ σ v ≠ [-1 - (v : Int)] := by
  unfold bdsOf at h
  obtain ⟨v, hv, he⟩ := List.mem_filterMap.1 h
  unfold bdOf at he
  cases hi : isV (σ v) v
  · rw [hi] at he
    simp at he
    exact ⟨v, by simpa using hv, he.symm, isV_not.1 hi⟩
  · rw [hi] at he; simp at he
theorem bdsOf_valid' (hm : mayB ss = true) (hs : Sub 24 ss σ) (hl : ∀ v, v < 24 → (σ v).length ≤ 48) (n k : Nat) (lo : Int) (h1 : lo ≤ (k : Int)) (h2 : k + n ≤ 24) : bdsB ss lo ((List.range' k n).filterMap (bdOf σ)) = true := by
  induction n generalizing k lo with
  | zero => rfl
  | succ n ih =>
    rw [List.range'_succ, List.filterMap_cons]
    cases hi : isV (σ k) k
    · have hf : bdOf σ k = some ⟨k, σ k⟩ := by unfold bdOf; rw [hi]; rfl
      rw [hf]
      show (bdB ss lo _ && bdsB ss _ _) = true
      rw [ih (k + 1) ((k : Int) + 1) (by omega) (by omega), Bool.and_true, bdB_iff]
      obtain ⟨ns, q1, q2⟩ := tl_of_trm (hs k (by omega))
      exact ⟨h1, by show (k : Int) ≤ 23; omega, one_of hm (hl k (by omega)) q1 q2, isV_not.1 hi⟩
    · have hf : bdOf σ k = none := by unfold bdOf; rw [hi]; rfl
      rw [hf]
      exact ih (k + 1) lo (by omega) (by omega)
theorem bdsOf_valid (hm : mayB ss = true) (hs : Sub 24 ss σ) (hl : ∀ v, v < 24 → (σ v).length ≤ 48) : bindB ss (bdsOf σ 24) = true := by
  unfold bindB bdsOf
  rw [hm, range_eq, bdsOf_valid' hm hs hl 24 0 0 (by omega) (by omega)]
  rfl
theorem UniR.yes (h : UniR ss a b E true bs) : E = 0 ∧ rowB ss a = true ∧ rowB ss b = true ∧ ∃ σ, Canon 24 ss a b σ ∧ (∀ v, v < 24 → (σ v).length ≤ 48) ∧ bs = bdsOf σ 24 := by
  rcases h with ⟨_, _, h, _⟩ | ⟨h0, h⟩
  · cases h
  · obtain ⟨r1, r2⟩ := Bool.and_eq_true_iff.1 h0
    rcases h with ⟨_, _, h, _⟩ | ⟨σ, hc, ⟨h1, h2, _, h3⟩ | ⟨_, _, h, _⟩⟩
    · cases h
    · exact ⟨h2, r1, r2, σ, hc, h1, h3⟩
    · cases h
theorem UniR.no (h : UniR ss a b E false bs) : bs = [] := by
  rcases h with ⟨_, _, _, h⟩ | ⟨h0, ⟨_, _, _, h⟩ | ⟨σ, hc, ⟨_, _, h, _⟩ | ⟨_, _, _, h⟩⟩⟩
  · exact h
  · exact h
  · cases h
  · exact h
theorem UniR.few (h : UniR ss a b E is bs) : bs.length ≤ 24 ∧ ∀ i, i < bs.length → (bdAt bs i).t.length ≤ 48 := by
  cases is
  · rw [h.no]; simp
  · obtain ⟨_, _, _, σ, _, hl, rfl⟩ := h.yes
    refine ⟨bdsOf_len σ 24, fun i hi => ?_⟩
    obtain ⟨v, hv, e, _⟩ := bdsOf_mem (bdAt_mem hi)
    rw [e]; exact hl v hv
theorem UniR.fit (h : UniR ss a b E is bs) : ∀ i, i < bs.length → (bdAt bs i).t.length * 8 ≤ 140737488351232 := fun i hi => by have := h.few.2 i hi; omega
/-- If something makes them the same, with terms that are not too long, Unify tells it. -/
theorem UniR.there (h : UniR ss a b E is bs) (h0 : rowB ss a = true) (h1 : rowB ss b = true) {θ : Nat → List Int} (hθ : Sub 24 ss θ) (he : ap θ a = ap θ b) (hl : ∀ v, v < 24 → (θ v).length ≤ 48) : is = true := by
  rcases h with ⟨h, _⟩ | ⟨_, ⟨h, _⟩ | ⟨σ, hc, ⟨_, _, h, _⟩ | ⟨⟨v, hv, h⟩, _⟩⟩⟩
  · rw [h0, h1] at h; cases h
  · exact absurd he (h θ hθ)
  · exact h
  · have e := hc.mgu θ hθ he v hv
    have g := ap_grows hθ (trm_codes (hc.sub v hv))
    rw [e] at g
    have := hl v hv
    omega
/-- The function that binds are. -/
def fnB (us : List Bd) (v : Nat) : List Int := put1 us (-1 - (v : Int))
theorem put_fn (r : List Int) : put us r = ap (fnB us) r := by
  induction r with
  | nil => rfl
  | cons c r ih =>
    rw [put_cons, ap_cons, ih]
    congr 1
    by_cases hc : c < 0
    · unfold ap1 fnB; rw [if_pos hc]; congr 1; omega
    · rw [put1_sym hc, ap1_sym (by omega)]
theorem fn_term (hu : bindB ss us = true) {v : Nat} (hv : v < 24) : trm 24 ss (fnB us v) 1 ∧ (fnB us v).length ≤ 48 := by
  unfold bindB at hu
  simp only [Bool.and_eq_true] at hu
  unfold fnB
  cases ho : ofB us (-1 - (-1 - (v : Int))) with
  | none => rw [put1_free ho]; exact ⟨trm_var hv, by simp⟩
  | some t =>
    rw [put1_var (by omega) ho]
    obtain ⟨x, hx, _, rfl⟩ := ofB_some ho
    obtain ⟨_, _, h5, _⟩ := bdsB_mem hu.2 x hx
    obtain ⟨_, ⟨m, hm⟩, _, h48⟩ := one_parts h5
    exact ⟨trm_of_tl hm, h48⟩
theorem fn_sub (hu : bindB ss us = true) : Sub 24 ss (fnB us) := fun v hv => (fn_term hu hv).1
theorem row_trm (h : rowB ss r = true) : ∃ k, trm 24 ss r k := ⟨_, trm_of_tl (row_parts h).2.2⟩
theorem row_ge (h : rowB ss r = true) : ∀ c ∈ r, -24 ≤ c := row_codes (row_parts h).2.2
theorem Canon.put (hc : Canon 24 ss a b σ) (h : ∀ c ∈ r, -24 ≤ c) : put (bdsOf σ 24) r = ap σ r := put_bdsOf h
/-- What is told makes both the same; the errors are the same. -/
theorem told_same (hs : Canon 24 ss a b σ) (ha : rowB ss a = true) (hb : rowB ss b = true) (hl : ∀ v, v < 24 → (σ v).length ≤ 48) :
    applyE ss (bdsOf σ 24) a = applyE ss (bdsOf σ 24) b ∧ applyR ss (bdsOf σ 24) a = applyR ss (bdsOf σ 24) b ∧ bindB ss (bdsOf σ 24) = true := by
  have hv := bdsOf_valid (row_parts ha).1 hs.sub hl
  have e : put (bdsOf σ 24) a = put (bdsOf σ 24) b := by rw [put_bdsOf (row_ge ha), put_bdsOf (row_ge hb)]; exact hs.uni
  unfold applyE applyR
  rw [ha, hb, e]
  exact ⟨rfl, rfl, hv⟩
/-- Its terms are not changed by itself. -/
theorem told_idem (hs : Canon 24 ss a b σ) (hm : mayB ss = true) (hl : ∀ v, v < 24 → (σ v).length ≤ 48) {i : Nat} (hi : i < (bdsOf σ 24).length) :
    applyE ss (bdsOf σ 24) (bdAt (bdsOf σ 24) i).t = 0 ∧ applyR ss (bdsOf σ 24) (bdAt (bdsOf σ 24) i).t = (bdAt (bdsOf σ 24) i).t := by
  have hv := bdsOf_valid hm hs.sub hl
  obtain ⟨v, hv24, e, _⟩ := bdsOf_mem (bdAt_mem hi)
  rw [e]
  show applyE ss _ (σ v) = 0 ∧ applyR ss _ (σ v) = σ v
  obtain ⟨ns, q1, _⟩ := tl_of_trm (hs.sub v hv24)
  have hr : rowB ss (σ v) = true := one_row hm (hl v hv24) q1
  have ep : put (bdsOf σ 24) (σ v) = σ v := by rw [put_bdsOf (row_ge hr)]; exact hs.idem hv24
  have h48 := hl v hv24
  unfold applyE applyR
  rw [hv, hr, ep]
  simp [h48]
theorem applyR_len (ss : List Sym) (bs : List Bd) (r : List Int) : (applyR ss bs r).length ≤ 48 := by
  unfold applyR
  split
  · rename_i h
    simp only [Bool.and_eq_true, decide_eq_true_eq] at h
    exact h.2
  · simp
theorem ap_zero (h : applyE ss bs r = 0) : bindB ss bs = true ∧ rowB ss r = true ∧ (put bs r).length ≤ 48 ∧ applyR ss bs r = put bs r := by
  unfold applyE at h
  cases h1 : bindB ss bs && rowB ss r
  · rw [h1] at h; simp at h
  · rw [h1] at h
    obtain ⟨q1, q2⟩ := Bool.and_eq_true_iff.1 h1
    by_cases h2 : (put bs r).length ≤ 48
    · refine ⟨q1, q2, h2, ?_⟩
      unfold applyR; rw [h1]; simp [h2]
    · simp [h2] at h
end
end Go.Proofs.Ytmdajmdjmdbonaa
