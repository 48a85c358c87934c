/-
  Plain words for substitutions: no program. Valid binds, what they make of a row, one behind the other.
-/
import Derived.Test.YtlmpapdpmmkjnaaTermRow
import Derived.Test.YtlmpapdpmmkjnaaPlainTerm2
import Derived.Test.YtlmpapdpmmkjnaaHelpInts
namespace Go.Proofs.Ytlmpapdpmmkjnaa
open Go.RowKit
set_option linter.unusedSimpArgs false
set_option linter.unusedVariables false

structure Bd where
  v : Int
  t : List Int
def bdAt (bs : List Bd) (i : Nat) : Bd := bs.getD i ⟨0, []⟩
/-- A row of one term. -/
def oneB (ss : List Sym) (t : List Int) : Bool := rowB ss t && decide ((tlD ss t).length = 1)
/-- Just the variable v. -/
def isV (t : List Int) (v : Int) : Bool := sameI t [-1 - v]
def bdB (ss : List Sym) (lo : Int) (b : Bd) : Bool := decide (lo ≤ b.v) && decide (b.v ≤ 23) && oneB ss b.t && !isV b.t b.v
def bdsB (ss : List Sym) : Int → List Bd → Bool
  | _, [] => true
  | lo, b :: bs => bdB ss lo b && bdsB ss (b.v + 1) bs
def bindB (ss : List Sym) (bs : List Bd) : Bool := mayB ss && bdsB ss 0 bs
/-- The term of a variable; none: it has no bind. -/
def ofB : List Bd → Int → Option (List Int)
  | [], _ => none
  | b :: bs, v => if b.v = v then some b.t else ofB bs v
def put1 (bs : List Bd) (c : Int) : List Int := if c < 0 then (ofB bs (-1 - c)).getD [c] else [c]
def put (bs : List Bd) (r : List Int) : List Int := r.flatMap (put1 bs)
/-- What s and then u make of variable v. -/
def bothV (bs us : List Bd) (v : Nat) : List Int := put us (put1 bs (-1 - (v : Int)))
def bothF (bs us : List Bd) (v : Nat) : Option Bd := if isV (bothV bs us v) v then none else some ⟨v, bothV bs us v⟩
def bothB (bs us : List Bd) : Bool := (List.range 24).all fun v => decide ((bothV bs us v).length ≤ 48)
def both (bs us : List Bd) : List Bd := (List.range 24).filterMap (bothF bs us)

def applyE (ss : List Sym) (bs : List Bd) (r : List Int) : Int := if bindB ss bs && rowB ss r then (if (put bs r).length ≤ 48 then 0 else 301) else 300
def applyR (ss : List Sym) (bs : List Bd) (r : List Int) : List Int := if bindB ss bs && rowB ss r && decide ((put bs r).length ≤ 48) then put bs r else []
def thenE (ss : List Sym) (bs us : List Bd) : Int := if bindB ss bs && bindB ss us then (if bothB bs us then 0 else 301) else 300
def thenR (ss : List Sym) (bs us : List Bd) : List Bd := if bindB ss bs && bindB ss us && bothB bs us then both bs us else []
def sh1 (by_ c : Int) : Int := if c < 0 then c - by_ else c
def farB (by_ c : Int) : Bool := decide (c < 0) && (decide (by_ < 1 + c) || decide (24 + c < by_))
def shOk (by_ : Int) (r : List Int) : Bool := r.all fun c => !farB by_ c
def shiftE (ss : List Sym) (r : List Int) (by_ : Int) : Int := if rowB ss r then (if shOk by_ r then 0 else 302) else 300
def shiftR (ss : List Sym) (r : List Int) (by_ : Int) : List Int := if rowB ss r && shOk by_ r then r.map (sh1 by_) else []

section
variable {ss : List Sym} {bs us : List Bd} {b : Bd} {lo : Int} {r : List Int}
theorem isV_iff {t : List Int} {v : Int} : isV t v = true ↔ t = [-1 - v] := by unfold isV sameI; simp
theorem isV_not {t : List Int} {v : Int} : isV t v = false ↔ t ≠ [-1 - v] := by unfold isV sameI; simp
theorem bdAt_get {i : Nat} (h : i < bs.length) : bs[i]? = some (bdAt bs i) := by
  unfold bdAt; rw [List.getD_eq_getElem?_getD, List.getElem?_eq_getElem h]; rfl
theorem bd_drop {i : Nat} (h : i < bs.length) : bs.drop i = bdAt bs i :: bs.drop (i + 1) := by
  rw [List.drop_eq_getElem_cons h]
  have := bdAt_get h
  rw [List.getElem?_eq_getElem h] at this
  injection this with this
  rw [this]
theorem bdB_iff : bdB ss lo b = true ↔ lo ≤ b.v ∧ b.v ≤ 23 ∧ oneB ss b.t = true ∧ b.t ≠ [-1 - b.v] := by
  unfold bdB
  rw [← isV_not]
  simp [and_assoc]
theorem bdsB_cons : bdsB ss lo (b :: bs) = (bdB ss lo b && bdsB ss (b.v + 1) bs) := rfl
theorem bdsB_mem (h : bdsB ss lo bs = true) : ∀ b ∈ bs, lo ≤ b.v ∧ b.v ≤ 23 ∧ oneB ss b.t = true ∧ b.t ≠ [-1 - b.v] := by
  induction bs generalizing lo with
  | nil => intro b hb; cases hb
  | cons a bs ih =>
    rw [bdsB_cons] at h
    simp only [Bool.and_eq_true] at h
    intro b hb
    obtain ⟨h1, h2, h3, h4⟩ := bdB_iff.1 h.1
    rcases List.mem_cons.1 hb with rfl | hb
    · exact ⟨h1, h2, h3, h4⟩
    · obtain ⟨q1, q2⟩ := ih h.2 b hb
      exact ⟨by omega, q2⟩
theorem bdAt_mem {i : Nat} (h : i < bs.length) : bdAt bs i ∈ bs := List.mem_of_getElem? (bdAt_get h)
theorem bdsB_at (h : bdsB ss lo bs = true) {i : Nat} (hi : i < bs.length) : lo ≤ (bdAt bs i).v ∧ (bdAt bs i).v ≤ 23 ∧ oneB ss (bdAt bs i).t = true ∧ (bdAt bs i).t ≠ [-1 - (bdAt bs i).v] := bdsB_mem h _ (bdAt_mem hi)
theorem bdAt_drop {i k : Nat} : bdAt (bs.drop k) i = bdAt bs (k + i) := by
  unfold bdAt; rw [List.getD_eq_getElem?_getD, List.getD_eq_getElem?_getD, List.getElem?_drop]
theorem bdsB_asc (h : bdsB ss lo bs = true) {i j : Nat} (hij : i < j) (hj : j < bs.length) : (bdAt bs i).v < (bdAt bs j).v := by
  induction i generalizing bs lo j with
  | zero =>
    cases bs with
    | nil => simp at hj
    | cons a bs =>
      rw [bdsB_cons] at h
      simp only [Bool.and_eq_true] at h
      obtain ⟨j, rfl⟩ : ∃ q, j = q + 1 := ⟨j - 1, by omega⟩
      have := (bdsB_at h.2 (i := j) (by simpa using hj)).1
      show a.v < (bdAt bs j).v
      omega
  | succ i ih =>
    cases bs with
    | nil => simp at hj
    | cons a bs =>
      rw [bdsB_cons] at h
      simp only [Bool.and_eq_true] at h
      obtain ⟨j, rfl⟩ : ∃ q, j = q + 1 := ⟨j - 1, by omega⟩
      exact ih h.2 (by omega) (by simpa using hj)
theorem one_parts {t : List Int} (h : oneB ss t = true) : rowB ss t = true ∧ (∃ m, tl ss t = some [m]) ∧ 0 < t.length ∧ t.length ≤ 48 := by
  unfold oneB at h
  simp only [Bool.and_eq_true, decide_eq_true_eq] at h
  obtain ⟨_, h2, h3⟩ := row_parts h.1
  have hm : ∃ m, tlD ss t = [m] := by
    match tlD ss t, h.2 with
    | [m], _ => exact ⟨m, rfl⟩
  obtain ⟨m, hm⟩ := hm
  rw [hm] at h3
  refine ⟨h.1, ⟨m, h3⟩, ?_, h2⟩
  have := tl_len _ h3
  have e : [m].length = 1 := rfl
  omega
/-- A row of one term that begins with a variable is that variable. -/
theorem one_var {t : List Int} {c : Int} (h : oneB ss t = true) (h0 : intAt t 0 = c) (hc : c < 0) : t = [c] := by
  obtain ⟨_, ⟨m, hm⟩, hp, _⟩ := one_parts h
  cases t with
  | nil => simp at hp
  | cons x t =>
    have hx : x = c := h0
    subst hx
    obtain ⟨ms, a, h1, h2, h3, h4⟩ := tl_cons_inv hm
    obtain ⟨_, rfl⟩ := ar_var hc h2
    simp at h4
    have hn : ms = [] := by simpa using h4.2
    subst hn
    rw [(tl_nil_iff h1).1 rfl]
theorem ofB_cons (v : Int) : ofB (b :: bs) v = if b.v = v then some b.t else ofB bs v := rfl
theorem ofB_none_of {v : Int} (h : ∀ b ∈ bs, b.v ≠ v) : ofB bs v = none := by
  induction bs with
  | nil => rfl
  | cons a bs ih =>
    unfold ofB
    rw [if_neg (h a (List.mem_cons_self ..))]
    exact ih fun b hb => h b (List.mem_cons_of_mem _ hb)
theorem ofB_some {v : Int} {t : List Int} (h : ofB bs v = some t) : ∃ b ∈ bs, b.v = v ∧ b.t = t := by
  induction bs with
  | nil => cases h
  | cons a bs ih =>
    unfold ofB at h
    by_cases e : a.v = v
    · rw [if_pos e] at h
      injection h with h
      exact ⟨a, List.mem_cons_self .., e, h⟩
    · rw [if_neg e] at h
      obtain ⟨b, hb, q⟩ := ih h
      exact ⟨b, List.mem_cons_of_mem _ hb, q⟩
theorem ofB_at (h : bdsB ss lo bs = true) {i : Nat} (hi : i < bs.length) : ofB bs (bdAt bs i).v = some (bdAt bs i).t := by
  induction bs generalizing lo i with
  | nil => simp at hi
  | cons a bs ih =>
    rw [bdsB_cons] at h
    simp only [Bool.and_eq_true] at h
    unfold ofB
    cases i with
    | zero => show (if a.v = a.v then some a.t else _) = some a.t; rw [if_pos rfl]
    | succ i =>
      have hi' : i < bs.length := by simpa using hi
      show (if a.v = (bdAt bs i).v then some a.t else ofB bs (bdAt bs i).v) = some (bdAt bs i).t
      have := (bdsB_at h.2 hi').1
      rw [if_neg (by omega)]
      exact ih h.2 hi'
theorem put_append (a c : List Int) : put bs (a ++ c) = put bs a ++ put bs c := by unfold put; simp
theorem put_cons (c : Int) (r : List Int) : put bs (c :: r) = put1 bs c ++ put bs r := by unfold put; simp
theorem put_none (r : List Int) : put [] r = r := by
  induction r with
  | nil => rfl
  | cons c r ih =>
    rw [put_cons, ih]
    have : put1 [] c = [c] := by unfold put1 ofB; simp
    rw [this]; rfl
theorem put_one (c : Int) : put bs [c] = put1 bs c := by unfold put; simp
theorem put1_sym {c : Int} (h : ¬ c < 0) : put1 bs c = [c] := by unfold put1; rw [if_neg h]
theorem put1_var {c : Int} {t : List Int} (h : c < 0) (ho : ofB bs (-1 - c) = some t) : put1 bs c = t := by unfold put1; rw [if_pos h, ho]; rfl
theorem put1_free {c : Int} (ho : ofB bs (-1 - c) = none) : put1 bs c = [c] := by unfold put1; rw [ho]; simp
/-- What binds make of a row has as many terms. -/
theorem tl_put (hb : bdsB ss lo bs = true) (r : List Int) {ms : List (Nat × Nat)} (h : tl ss r = some ms) : ∃ ns, tl ss (put bs r) = some ns ∧ ns.length = ms.length := by
  induction r generalizing ms with
  | nil =>
    have : ms = [] := (tl_nil_iff h).2 rfl
    subst this
    exact ⟨[], rfl, rfl⟩
  | cons c r ih =>
    obtain ⟨ms', a, h1, h2, h3, h4⟩ := tl_cons_inv h
    obtain ⟨ns, hn, hl⟩ := ih h1
    rw [put_cons]
    have same : put1 bs c = [c] → ∃ ns, tl ss (put1 bs c ++ put bs r) = some ns ∧ ns.length = ms.length := fun e => by
      rw [e]
      refine ⟨_, tl_cons hn h2 (by omega), ?_⟩
      rw [h4]; simp; omega
    by_cases hc : c < 0
    · cases ho : ofB bs (-1 - c) with
      | none => exact same (put1_free ho)
      | some t =>
        obtain ⟨b, hbm, hv, rfl⟩ := ofB_some ho
        obtain ⟨_, _, h5, _⟩ := bdsB_mem hb b hbm
        obtain ⟨_, ⟨m, hm⟩, _⟩ := one_parts h5
        obtain ⟨_, rfl⟩ := ar_var hc h2
        rw [put1_var hc ho]
        refine ⟨_, tl_append _ _ hm hn, ?_⟩
        rw [h4]; simp; omega
    · exact same (put1_sym hc)
theorem tl_var {c : Int} (h1 : c < 0) (h2 : -24 ≤ c) : tl ss [c] = some [(1, 1)] := by
  unfold tl tl arOf
  simp [h1, h2, sumL, maxD]
theorem row_codes {ms : List (Nat × Nat)} (h : tl ss r = some ms) : ∀ c ∈ r, -24 ≤ c := by
  induction r generalizing ms with
  | nil => intro c hc; cases hc
  | cons x r ih =>
    obtain ⟨ms', a, h1, h2, _, _⟩ := tl_cons_inv h
    intro c hc
    rcases List.mem_cons.1 hc with rfl | hc
    · by_cases hx : c < 0
      · exact (ar_var hx h2).1
      · omega
    · exact ih h1 c hc
end

section
variable {ss : List Sym} {bs us : List Bd} {r : List Int}
theorem bothF_some {v : Nat} {b : Bd} (h : bothF bs us v = some b) : b = ⟨v, bothV bs us v⟩ ∧ bothV bs us v ≠ [-1 - (v : Int)] := by
  unfold bothF at h
  cases hi : isV (bothV bs us v) v
  · rw [hi] at h
    simp at h
    exact ⟨h.symm, isV_not.1 hi⟩
  · rw [hi] at h; simp at h
theorem both_of (k n : Nat) (v : Int) : ofB ((List.range' k n).filterMap (bothF bs us)) v = if (k : Int) ≤ v ∧ v < (k + n : Nat) then (if isV (bothV bs us v.toNat) v then none else some (bothV bs us v.toNat)) else none := by
  induction n generalizing k with
  | zero => simp [ofB]; intro h1 h2; omega
  | succ n ih =>
    rw [List.range'_succ, List.filterMap_cons]
    by_cases hk : v = (k : Int)
    · subst hk
      have e : ((k : Int) ≤ (k : Int) ∧ (k : Int) < ((k + (n + 1) : Nat) : Int)) := ⟨Int.le_refl _, by omega⟩
      rw [if_pos e, Int.toNat_natCast]
      cases hi : isV (bothV bs us k) k
      · have hf : bothF bs us k = some ⟨k, bothV bs us k⟩ := by unfold bothF; rw [hi]; rfl
        rw [hf]
        show ofB (_ :: _) _ = _
        rw [ofB_cons, if_pos rfl]
        rfl
      · have hf : bothF bs us k = none := by unfold bothF; rw [hi]; rfl
        rw [hf]
        show ofB _ _ = none
        rw [ih (k + 1), if_neg (by omega)]
    · have e : ((k : Int) ≤ v ∧ v < ((k + (n + 1) : Nat) : Int)) ↔ (((k + 1 : Nat) : Int) ≤ v ∧ v < ((k + 1 + n : Nat) : Int)) := by omega
      have e' : (if (k : Int) ≤ v ∧ v < ((k + (n + 1) : Nat) : Int) then (if isV (bothV bs us v.toNat) v then none else some (bothV bs us v.toNat)) else none) = ofB ((List.range' (k + 1) n).filterMap (bothF bs us)) v := by
        rw [ih (k + 1)]
        by_cases q : ((k : Int) ≤ v ∧ v < ((k + (n + 1) : Nat) : Int))
        · rw [if_pos q, if_pos (e.1 q)]
        · rw [if_neg q, if_neg (fun h => q (e.2 h))]
      rw [e']
      cases hf : bothF bs us k with
      | none => rfl
      | some b =>
        obtain ⟨rfl, _⟩ := bothF_some hf
        show ofB (⟨k, _⟩ :: _) v = _
        rw [ofB_cons, if_neg (fun h => hk h.symm)]
theorem range_eq (n : Nat) : List.range n = List.range' 0 n := List.range_eq_range' ..
/-- One behind the other, at once. -/
theorem put_both (hr : ∀ c ∈ r, -24 ≤ c) : put (both bs us) r = put us (put bs r) := by
  induction r with
  | nil => rfl
  | cons c r ih =>
    rw [put_cons, put_cons, put_append, ih fun x hx => hr x (List.mem_cons_of_mem _ hx)]
    congr 1
    have h24 := hr c (List.mem_cons_self ..)
    by_cases hc : c < 0
    · obtain ⟨v, hv⟩ : ∃ v : Nat, c = -1 - (v : Int) := ⟨(-1 - c).toNat, by omega⟩
      have hv' : -1 - c = (v : Int) := by omega
      unfold both
      have ho := both_of (bs := bs) (us := us) 0 24 (-1 - c)
      rw [← range_eq, if_pos (by omega), hv', Int.toNat_natCast] at ho
      have hb : put us (put1 bs c) = bothV bs us v := by unfold bothV; rw [← hv]
      rw [hb]
      cases hi : isV (bothV bs us v) v
      · rw [hi] at ho
        rw [← hv'] at ho
        exact put1_var hc ho
      · rw [hi] at ho
        rw [← hv'] at ho
        rw [put1_free ho, isV_iff.1 hi, hv]
    · rw [put1_sym hc, put1_sym hc, put_one, put1_sym hc]
theorem one_row {t : List Int} (hm : mayB ss = true) (h1 : t.length ≤ 48) {ns : List (Nat × Nat)} (h2 : tl ss t = some ns) : rowB ss t = true := by
  unfold rowB rowP; rw [hm, h2]; simp [h1]
theorem one_of {t : List Int} (hm : mayB ss = true) (h1 : t.length ≤ 48) {ns : List (Nat × Nat)} (h2 : tl ss t = some ns) (h3 : ns.length = 1) : oneB ss t = true := by
  unfold oneB; rw [one_row hm h1 h2]; unfold tlD; rw [h2]; simp [h3]
theorem tl_both (hb : bindB ss bs = true) (hu : bindB ss us = true) {v : Nat} (hv : v < 24) : (∃ ns, tl ss (bothV bs us v) = some ns ∧ ns.length = 1) ∧ (∃ ns, tl ss (put1 bs (-1 - (v : Int))) = some ns ∧ ns.length = 1) := by
  unfold bindB at hb hu
  simp only [Bool.and_eq_true] at hb hu
  obtain ⟨n1, h1, l1⟩ := tl_put (ss := ss) hb.2 [-1 - (v : Int)] (tl_var (by omega) (by omega))
  obtain ⟨n2, h2, l2⟩ := tl_put (ss := ss) hu.2 _ h1
  rw [put_one] at h1 h2
  exact ⟨⟨n2, h2, by rw [l2, l1]; rfl⟩, ⟨n1, h1, by rw [l1]; rfl⟩⟩
theorem both_valid' (hb : bindB ss bs = true) (hu : bindB ss us = true) (hl : ∀ v, v < 24 → (bothV bs us v).length ≤ 48) (n k : Nat) (lo : Int) (h1 : lo ≤ (k : Int)) (h2 : k + n ≤ 24) : bdsB ss lo ((List.range' k n).filterMap (bothF bs us)) = true := by
  induction n generalizing k lo with
  | zero => rfl
  | succ n ih =>
    rw [List.range'_succ, List.filterMap_cons]
    cases hf : bothF bs us k with
    | none => exact ih (k + 1) lo (by omega) (by omega)
    | some b =>
      obtain ⟨rfl, hne⟩ := bothF_some hf
      show (bdB ss lo _ && bdsB ss _ _) = true
      rw [ih (k + 1) ((k : Int) + 1) (by omega) (by omega), Bool.and_true, bdB_iff]
      obtain ⟨⟨ns, q1, q2⟩, _⟩ := tl_both hb hu (v := k) (by omega)
      have hm : mayB ss = true := by unfold bindB at hb; simp only [Bool.and_eq_true] at hb; exact hb.1
      exact ⟨h1, by show (k : Int) ≤ 23; omega, one_of hm (hl k (by omega)) q1 q2, hne⟩
theorem bothB_iff : bothB bs us = true ↔ ∀ v, v < 24 → (bothV bs us v).length ≤ 48 := by
  unfold bothB; simp
theorem both_valid (hb : bindB ss bs = true) (hu : bindB ss us = true) (hl : bothB bs us = true) : bindB ss (both bs us) = true := by
  have hm : mayB ss = true := by unfold bindB at hb; simp only [Bool.and_eq_true] at hb; exact hb.1
  unfold bindB both
  rw [hm, range_eq, both_valid' hb hu (bothB_iff.1 hl) 24 0 0 (by omega) (by omega)]
  rfl
end

theorem put_take {bs : List Bd} {r : List Int} {k : Nat} (hk : k < r.length) : put bs (r.take (k + 1)) = put bs (r.take k) ++ put1 bs (intAt r k) := by
  have : r.take (k + 1) = r.take k ++ [intAt r k] := by
    rw [List.take_add_one, intAt_get hk]; rfl
  rw [this, put_append, put_one]

end Go.Proofs.Ytlmpapdpmmkjnaa
