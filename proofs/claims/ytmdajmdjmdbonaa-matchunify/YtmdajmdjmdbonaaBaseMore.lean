/-
  Plain words for substitutions: no program. Valid binds, what they make of a row, one behind the other.
  Words for memory: rows of integers, written over; rows and signatures written out.
  Contracts: shape.IsRow, shape.IsTerm; of the reference: Same; of quaerelaw0: SpoilInts, SameInts; the words of a law's signature.
-/
import Derived.Test.YtmdajmdjmdbonaaBaseTerm
import Derived.Deep.OwnRows
import Derived.Test.YtmdajmdjmdbonaaBaseSym
namespace Go.Proofs.Ytmdajmdjmdbonaa
open Go.RowKit
set_option linter.unusedSimpArgs false
set_option linter.unusedVariables false
structure Bd where
  v : Int
  t : List Int
def bdAt (bs : List Bd) (i : Nat) : Bd := bs.getD i ⟨0, []⟩
/-- A row of one term. -/
def oneB (ss : List Sym) (t : List Int) : Bool := rowB ss t && decide ((tlD ss t).length = 1)
/-- Just the variable v. -/
def isV (t : List Int) (v : Int) : Bool := sameI t [-1 - v]
def bdB (ss : List Sym) (lo : Int) (b : Bd) : Bool := decide (lo ≤ b.v) && decide (b.v ≤ 23) && oneB ss b.t && !isV b.t b.v
def bdsB (ss : List Sym) : Int → List Bd → Bool
  | _, [] => true
  | lo, b :: bs => bdB ss lo b && bdsB ss (b.v + 1) bs
def bindB (ss : List Sym) (bs : List Bd) : Bool := mayB ss && bdsB ss 0 bs
/-- The term of a variable; none: it has no bind. -/
def ofB : List Bd → Int → Option (List Int)
  | [], _ => none
  | b :: bs, v => if b.v = v then some b.t else ofB bs v
def put1 (bs : List Bd) (c : Int) : List Int := if c < 0 then (ofB bs (-1 - c)).getD [c] else [c]
def put (bs : List Bd) (r : List Int) : List Int := r.flatMap (put1 bs)
/-- What s and then u make of variable v. -/
def bothV (bs us : List Bd) (v : Nat) : List Int := put us (put1 bs (-1 - (v : Int)))
def bothF (bs us : List Bd) (v : Nat) : Option Bd := if isV (bothV bs us v) v then none else some ⟨v, bothV bs us v⟩
def bothB (bs us : List Bd) : Bool := (List.range 24).all fun v => decide ((bothV bs us v).length ≤ 48)
def both (bs us : List Bd) : List Bd := (List.range 24).filterMap (bothF bs us)

def applyE (ss : List Sym) (bs : List Bd) (r : List Int) : Int := if bindB ss bs && rowB ss r then (if (put bs r).length ≤ 48 then 0 else 301) else 300
def applyR (ss : List Sym) (bs : List Bd) (r : List Int) : List Int := if bindB ss bs && rowB ss r && decide ((put bs r).length ≤ 48) then put bs r else []
def thenE (ss : List Sym) (bs us : List Bd) : Int := if bindB ss bs && bindB ss us then (if bothB bs us then 0 else 301) else 300
def thenR (ss : List Sym) (bs us : List Bd) : List Bd := if bindB ss bs && bindB ss us && bothB bs us then both bs us else []
def sh1 (by_ c : Int) : Int := if c < 0 then c - by_ else c
def farB (by_ c : Int) : Bool := decide (c < 0) && (decide (by_ < 1 + c) || decide (24 + c < by_))
def shOk (by_ : Int) (r : List Int) : Bool := r.all fun c => !farB by_ c
def shiftE (ss : List Sym) (r : List Int) (by_ : Int) : Int := if rowB ss r then (if shOk by_ r then 0 else 302) else 300
def shiftR (ss : List Sym) (r : List Int) (by_ : Int) : List Int := if rowB ss r && shOk by_ r then r.map (sh1 by_) else []

section
variable {ss : List Sym} {bs us : List Bd} {b : Bd} {lo : Int} {r : List Int}
theorem isV_iff {t : List Int} {v : Int} : isV t v = true ↔ t = [-1 - v] := by unfold isV sameI; simp
theorem isV_not {t : List Int} {v : Int} : isV t v = false ↔ t ≠ [-1 - v] := by unfold isV sameI; simp
theorem bdAt_get {i : Nat} (h : i < bs.length) : bs[i]? = some (bdAt bs i) := by
  unfold bdAt; rw [List.getD_eq_getElem?_getD, List.getElem?_eq_getElem h]; rfl
theorem bd_drop {i : Nat} (h : i < bs.length) : bs.drop i = bdAt bs i :: bs.drop (i + 1) := by
  rw [List.drop_eq_getElem_cons h]
  have := bdAt_get h
  rw [List.getElem?_eq_getElem h] at this
  injection this with this
  rw [this]
theorem bdB_iff : bdB ss lo b = true ↔ lo ≤ b.v ∧ b.v ≤ 23 ∧ oneB ss b.t = true ∧ b.t ≠ [-1 - b.v] := by
  unfold bdB
  rw [← isV_not]
  simp [and_assoc]
theorem bdsB_cons : bdsB ss lo (b :: bs) = (bdB ss lo b && bdsB ss (b.v + 1) bs) := rfl
theorem bdsB_mem (h : bdsB ss lo bs = true) : ∀ b ∈ bs, lo ≤ b.v ∧ b.v ≤ 23 ∧ oneB ss b.t = true ∧ b.t ≠ [-1 - b.v] := by
  induction bs generalizing lo with
  | nil => intro b hb; cases hb
  | cons a bs ih =>
    rw [bdsB_cons] at h
    simp only [Bool.and_eq_true] at h
    intro b hb
    obtain ⟨h1, h2, h3, h4⟩ := bdB_iff.1 h.1
    rcases List.mem_cons.1 hb with rfl | hb
    · exact ⟨h1, h2, h3, h4⟩
    · obtain ⟨q1, q2⟩ := ih h.2 b hb
      exact ⟨by omega, q2⟩
theorem bdAt_mem {i : Nat} (h : i < bs.length) : bdAt bs i ∈ bs := List.mem_of_getElem? (bdAt_get h)
theorem bdsB_at (h : bdsB ss lo bs = true) {i : Nat} (hi : i < bs.length) : lo ≤ (bdAt bs i).v ∧ (bdAt bs i).v ≤ 23 ∧ oneB ss (bdAt bs i).t = true ∧ (bdAt bs i).t ≠ [-1 - (bdAt bs i).v] := bdsB_mem h _ (bdAt_mem hi)
theorem bdAt_drop {i k : Nat} : bdAt (bs.drop k) i = bdAt bs (k + i) := by
  unfold bdAt; rw [List.getD_eq_getElem?_getD, List.getD_eq_getElem?_getD, List.getElem?_drop]
theorem bdsB_asc (h : bdsB ss lo bs = true) {i j : Nat} (hij : i < j) (hj : j < bs.length) : (bdAt bs i).v < (bdAt bs j).v := by
  induction i generalizing bs lo j with
  | zero =>
    cases bs with
    | nil => simp at hj
    | cons a bs =>
      rw [bdsB_cons] at h
      simp only [Bool.and_eq_true] at h
      obtain ⟨j, rfl⟩ : ∃ q, j = q + 1 := ⟨j - 1, by omega⟩
      have := (bdsB_at h.2 (i := j) (by simpa using hj)).1
      show a.v < (bdAt bs j).v
      omega
  | succ i ih =>
    cases bs with
    | nil => simp at hj
    | cons a bs =>
      rw [bdsB_cons] at h
      simp only [Bool.and_eq_true] at h
      obtain ⟨j, rfl⟩ : ∃ q, j = q + 1 := ⟨j - 1, by omega⟩
      exact ih h.2 (by omega) (by simpa using hj)
theorem one_parts {t : List Int} (h : oneB ss t = true) : rowB ss t = true ∧ (∃ m, tl ss t = some [m]) ∧ 0 < t.length ∧ t.length ≤ 48 := by
  unfold oneB at h
  simp only [Bool.and_eq_true, decide_eq_true_eq] at h
  obtain ⟨_, h2, h3⟩ := row_parts h.1
  have hm : ∃ m, tlD ss t = [m] := by
    match tlD ss t, h.2 with
    | [m], _ => exact ⟨m, rfl⟩
  obtain ⟨m, hm⟩ := hm
  rw [hm] at h3
  refine ⟨h.1, ⟨m, h3⟩, ?_, h2⟩
  have := tl_len _ h3
  have e : [m].length = 1 := rfl
  omega
/-- A row of one term that begins with a variable is that variable. -/
theorem one_var {t : List Int} {c : Int} (h : oneB ss t = true) (h0 : intAt t 0 = c) (hc : c < 0) : t = [c] := by
  obtain ⟨_, ⟨m, hm⟩, hp, _⟩ := one_parts h
  cases t with
  | nil => simp at hp
  | cons x t =>
    have hx : x = c := h0
    subst hx
    obtain ⟨ms, a, h1, h2, h3, h4⟩ := tl_cons_inv hm
    obtain ⟨_, rfl⟩ := ar_var hc h2
    simp at h4
    have hn : ms = [] := by simpa using h4.2
    subst hn
    rw [(tl_nil_iff h1).1 rfl]
theorem ofB_cons (v : Int) : ofB (b :: bs) v = if b.v = v then some b.t else ofB bs v := rfl
theorem ofB_none_of {v : Int} (h : ∀ b ∈ bs, b.v ≠ v) : ofB bs v = none := by
  induction bs with
  | nil => rfl
  | cons a bs ih =>
    unfold ofB
    rw [if_neg (h a (List.mem_cons_self ..))]
    exact ih fun b hb => h b (List.mem_cons_of_mem _ hb)
theorem ofB_some {v : Int} {t : List Int} (h : ofB bs v = some t) : ∃ b ∈ bs, b.v = v ∧ b.t = t := by
  induction bs with
  | nil => cases h
  | cons a bs ih =>
    unfold ofB at h
    by_cases e : a.v = v
    · rw [if_pos e] at h
      injection h with h
      exact ⟨a, List.mem_cons_self .., e, h⟩
    · rw [if_neg e] at h
      obtain ⟨b, hb, q⟩ := ih h
      exact ⟨b, List.mem_cons_of_mem _ hb, q⟩
theorem ofB_at (h : bdsB ss lo bs = true) {i : Nat} (hi : i < bs.length) : ofB bs (bdAt bs i).v = some (bdAt bs i).t := by
  induction bs generalizing lo i with
  | nil => simp at hi
  | cons a bs ih =>
    rw [bdsB_cons] at h
    simp only [Bool.and_eq_true] at h
    unfold ofB
    cases i with
    | zero => show (if a.v = a.v then some a.t else _) = some a.t; rw [if_pos rfl]
    | succ i =>
      have hi' : i < bs.length := by simpa using hi
      show (if a.v = (bdAt bs i).v then some a.t else ofB bs (bdAt bs i).v) = some (bdAt bs i).t
      have := (bdsB_at h.2 hi').1
      rw [if_neg (by omega)]
      exact ih h.2 hi'
theorem put_append (a c : List Int) : put bs (a ++ c) = put bs a ++ put bs c := by unfold put; simp
theorem put_cons (c : Int) (r : List Int) : put bs (c :: r) = put1 bs c ++ put bs r := by unfold put; simp
theorem put_none (r : List Int) : put [] r = r := by
  induction r with
  | nil => rfl
  | cons c r ih =>
    rw [put_cons, ih]
    have : put1 [] c = [c] := by unfold put1 ofB; simp
    rw [this]; rfl
theorem put_one (c : Int) : put bs [c] = put1 bs c := by unfold put; simp
theorem put1_sym {c : Int} (h : ¬ c < 0) : put1 bs c = [c] := by unfold put1; rw [if_neg h]
theorem put1_var {c : Int} {t : List Int} (h : c < 0) (ho : ofB bs (-1 - c) = some t) : put1 bs c = t := by unfold put1; rw [if_pos h, ho]; rfl
theorem put1_free {c : Int} (ho : ofB bs (-1 - c) = none) : put1 bs c = [c] := by unfold put1; rw [ho]; simp
/-- What binds make of a row has as many terms. -/
theorem tl_put (hb : bdsB ss lo bs = true) (r : List Int) {ms : List (Nat × Nat)} (h : tl ss r = some ms) : ∃ ns, tl ss (put bs r) = some ns ∧ ns.length = ms.length := by
  induction r generalizing ms with
  | nil =>
    have : ms = [] := (tl_nil_iff h).2 rfl
    subst this
    exact ⟨[], rfl, rfl⟩
  | cons c r ih =>
    obtain ⟨ms', a, h1, h2, h3, h4⟩ := tl_cons_inv h
    obtain ⟨ns, hn, hl⟩ := ih h1
    rw [put_cons]
    have same : put1 bs c = [c] → ∃ ns, tl ss (put1 bs c ++ put bs r) = some ns ∧ ns.length = ms.length := fun e => by
      rw [e]
      refine ⟨_, tl_cons hn h2 (by omega), ?_⟩
      rw [h4]; simp; omega
    by_cases hc : c < 0
    · cases ho : ofB bs (-1 - c) with
      | none => exact same (put1_free ho)
      | some t =>
        obtain ⟨b, hbm, hv, rfl⟩ := ofB_some ho
        obtain ⟨_, _, h5, _⟩ := bdsB_mem hb b hbm
        obtain ⟨_, ⟨m, hm⟩, _⟩ := one_parts h5
        obtain ⟨_, rfl⟩ := ar_var hc h2
        rw [put1_var hc ho]
        refine ⟨_, tl_append _ _ hm hn, ?_⟩
        rw [h4]; simp; omega
    · exact same (put1_sym hc)
theorem tl_var {c : Int} (h1 : c < 0) (h2 : -24 ≤ c) : tl ss [c] = some [(1, 1)] := by
  unfold tl tl arOf
  simp [h1, h2, sumL, maxD]
theorem row_codes {ms : List (Nat × Nat)} (h : tl ss r = some ms) : ∀ c ∈ r, -24 ≤ c := by
  induction r generalizing ms with
  | nil => intro c hc; cases hc
  | cons x r ih =>
    obtain ⟨ms', a, h1, h2, _, _⟩ := tl_cons_inv h
    intro c hc
    rcases List.mem_cons.1 hc with rfl | hc
    · by_cases hx : c < 0
      · exact (ar_var hx h2).1
      · omega
    · exact ih h1 c hc
end
section
variable {ss : List Sym} {bs us : List Bd} {r : List Int}
theorem bothF_some {v : Nat} {b : Bd} (h : bothF bs us v = some b) : b = ⟨v, bothV bs us v⟩ ∧ bothV bs us v ≠ [-1 - (v : Int)] := by
  unfold bothF at h
  cases hi : isV (bothV bs us v) v
  · rw [hi] at h
    simp at h
    exact ⟨h.symm, isV_not.1 hi⟩
  · rw [hi] at h; simp at h
theorem both_of (k n : Nat) (v : Int) : ofB ((List.range' k n).filterMap (bothF bs us)) v = if (k : Int) ≤ v ∧ v < (k + n : Nat) then (if isV (bothV bs us v.toNat) v then none else some (bothV bs us v.toNat)) else none := by
  induction n generalizing k with
  | zero => simp [ofB]; intro h1 h2; omega
  | succ n ih =>
    rw [List.range'_succ, List.filterMap_cons]
    by_cases hk : v = (k : Int)
    · subst hk
      have e : ((k : Int) ≤ (k : Int) ∧ (k : Int) < ((k + (n + 1) : Nat) : Int)) := ⟨Int.le_refl _, by omega⟩
      rw [if_pos e, Int.toNat_natCast]
      cases hi : isV (bothV bs us k) k
      · have hf : bothF bs us k = some ⟨k, bothV bs us k⟩ := by unfold bothF; rw [hi]; rfl
        rw [hf]
        show ofB (_ :: _) _ = _
        rw [ofB_cons, if_pos rfl]
        rfl
      · have hf : bothF bs us k = none := by unfold bothF; rw [hi]; rfl
        rw [hf]
        show ofB _ _ = none
        rw [ih (k + 1), if_neg (by omega)]
    · have e : ((k : Int) ≤ v ∧ v < ((k + (n + 1) : Nat) : Int)) ↔ (((k + 1 : Nat) : Int) ≤ v ∧ v < ((k + 1 + n : Nat) : Int)) := by omega
      have e' : (if (k : Int) ≤ v ∧ v < ((k + (n + 1) : Nat) : Int) then (if isV (bothV bs us v.toNat) v then none else some (bothV bs us v.toNat)) else none) = ofB ((List.range' (k + 1) n).filterMap (bothF bs us)) v := by
        rw [ih (k + 1)]
        by_cases q : ((k : Int) ≤ v ∧ v < ((k + (n + 1) : Nat) : Int))
        · rw [if_pos q, if_pos (e.1 q)]
        · rw [if_neg q, if_neg (fun h => q (e.2 h))]
      rw [e']
      cases hf : bothF bs us k with
      | none => rfl
      | some b =>
        obtain ⟨rfl, _⟩ := bothF_some hf
        show ofB (⟨k, _⟩ :: _) v = _
        rw [ofB_cons, if_neg (fun h => hk h.symm)]
theorem range_eq (n : Nat) : List.range n = List.range' 0 n := List.range_eq_range' ..
/-- One behind the other, at once. -/
theorem put_both (hr : ∀ c ∈ r, -24 ≤ c) : put (both bs us) r = put us (put bs r) := by
  induction r with
  | nil => rfl
  | cons c r ih =>
    rw [put_cons, put_cons, put_append, ih fun x hx => hr x (List.mem_cons_of_mem _ hx)]
    congr 1
    have h24 := hr c (List.mem_cons_self ..)
    by_cases hc : c < 0
    · obtain ⟨v, hv⟩ : ∃ v : Nat, c = -1 - (v : Int) := ⟨(-1 - c).toNat, by omega⟩
      have hv' : -1 - c = (v : Int) := by omega
      unfold both
      have ho := both_of (bs := bs) (us := us) 0 24 (-1 - c)
      rw [← range_eq, if_pos (by omega), hv', Int.toNat_natCast] at ho
      have hb : put us (put1 bs c) = bothV bs us v := by unfold bothV; rw [← hv]
      rw [hb]
      cases hi : isV (bothV bs us v) v
      · rw [hi] at ho
        rw [← hv'] at ho
        exact put1_var hc ho
      · rw [hi] at ho
        rw [← hv'] at ho
        rw [put1_free ho, isV_iff.1 hi, hv]
    · rw [put1_sym hc, put1_sym hc, put_one, put1_sym hc]
theorem one_row {t : List Int} (hm : mayB ss = true) (h1 : t.length ≤ 48) {ns : List (Nat × Nat)} (h2 : tl ss t = some ns) : rowB ss t = true := by
  unfold rowB rowP; rw [hm, h2]; simp [h1]
theorem one_of {t : List Int} (hm : mayB ss = true) (h1 : t.length ≤ 48) {ns : List (Nat × Nat)} (h2 : tl ss t = some ns) (h3 : ns.length = 1) : oneB ss t = true := by
  unfold oneB; rw [one_row hm h1 h2]; unfold tlD; rw [h2]; simp [h3]
theorem tl_both (hb : bindB ss bs = true) (hu : bindB ss us = true) {v : Nat} (hv : v < 24) : (∃ ns, tl ss (bothV bs us v) = some ns ∧ ns.length = 1) ∧ (∃ ns, tl ss (put1 bs (-1 - (v : Int))) = some ns ∧ ns.length = 1) := by
  unfold bindB at hb hu
  simp only [Bool.and_eq_true] at hb hu
  obtain ⟨n1, h1, l1⟩ := tl_put (ss := ss) hb.2 [-1 - (v : Int)] (tl_var (by omega) (by omega))
  obtain ⟨n2, h2, l2⟩ := tl_put (ss := ss) hu.2 _ h1
  rw [put_one] at h1 h2
  exact ⟨⟨n2, h2, by rw [l2, l1]; rfl⟩, ⟨n1, h1, by rw [l1]; rfl⟩⟩
theorem both_valid' (hb : bindB ss bs = true) (hu : bindB ss us = true) (hl : ∀ v, v < 24 → (bothV bs us v).length ≤ 48) (n k : Nat) (lo : Int) (h1 : lo ≤ (k : Int)) (h2 : k + n ≤ 24) : bdsB ss lo ((List.range' k n).filterMap (bothF bs us)) = true := by
  induction n generalizing k lo with
  | zero => rfl
  | succ n ih =>
    rw [List.range'_succ, List.filterMap_cons]
    cases hf : bothF bs us k with
    | none => exact ih (k + 1) lo (by omega) (by omega)
    | some b =>
      obtain ⟨rfl, hne⟩ := bothF_some hf
      show (bdB ss lo _ && bdsB ss _ _) = true
      rw [ih (k + 1) ((k : Int) + 1) (by omega) (by omega), Bool.and_true, bdB_iff]
      obtain ⟨⟨ns, q1, q2⟩, _⟩ := tl_both hb hu (v := k) (by omega)
      have hm : mayB ss = true := by unfold bindB at hb; simp only [Bool.and_eq_true] at hb; exact hb.1
      exact ⟨h1, by show (k : Int) ≤ 23; omega, one_of hm (hl k (by omega)) q1 q2, hne⟩
theorem bothB_iff : bothB bs us = true ↔ ∀ v, v < 24 → (bothV bs us v).length ≤ 48 := by
  unfold bothB; simp
theorem both_valid (hb : bindB ss bs = true) (hu : bindB ss us = true) (hl : bothB bs us = true) : bindB ss (both bs us) = true := by
  have hm : mayB ss = true := by unfold bindB at hb; simp only [Bool.and_eq_true] at hb; exact hb.1
  unfold bindB both
  rw [hm, range_eq, both_valid' hb hu (bothB_iff.1 hl) 24 0 0 (by omega) (by omega)]
  rfl
end
theorem put_take {bs : List Bd} {r : List Int} {k : Nat} (hk : k < r.length) : put bs (r.take (k + 1)) = put bs (r.take k) ++ put1 bs (intAt r k) := by
  have : r.take (k + 1) = r.take k ++ [intAt r k] := by
    rw [List.take_add_one, intAt_get hk]; rfl
  rw [this, put_append, put_one]

end Go.Proofs.Ytmdajmdjmdbonaa
namespace Go.Proofs.Ytmdajmdjmdbonaa
open Go.RowKit
set_option linter.unusedSimpArgs false
set_option linter.unusedVariables false
section
variable {w w' : World} {B B' n : Nat} {A : Option Addr} {bs : List Bd}
end
def valAt (vs : List Value) (i : Nat) : Value := vs.getD i (.slice none 0 0)
theorem bdAt_left {bs : List Bd} {b : Bd} {i : Nat} (h : i < bs.length) : bdAt (bs ++ [b]) i = bdAt bs i := by
  unfold bdAt; rw [List.getD_eq_getElem?_getD, List.getD_eq_getElem?_getD, List.getElem?_append_left h]
theorem bdAt_right {bs : List Bd} {b : Bd} : bdAt (bs ++ [b]) bs.length = b := by unfold bdAt; simp
theorem valAt_left {vs : List Value} {u : Value} {i : Nat} (h : i < vs.length) : valAt (vs ++ [u]) i = valAt vs i := by
  unfold valAt; rw [List.getD_eq_getElem?_getD, List.getD_eq_getElem?_getD, List.getElem?_append_left h]
theorem valAt_right {vs : List Value} {u : Value} : valAt (vs ++ [u]) vs.length = u := by unfold valAt; simp

section
variable {w w' : World} {base base' : Nat} {v u : Value} {bs cs : List Bd} {xs : List Int}
theorem owns_on {e : TypeId} {size n : Nat} {ys : List Value} (h : w.ownsRow base e size v n ys) (hb : Below w.heap.size w w') : w'.ownsRow base e size v n ys := by
  obtain ⟨h1, h2⟩ := h
  refine ⟨h1, ?_⟩
  rcases h2 with h2 | ⟨g, cap, cur, hv, hg, hc, r⟩
  · exact .inl h2
  · have hlt : g < w.heap.size := (Array.getElem?_eq_some_iff.1 hc).1
    exact .inr ⟨g, cap, cur, hv, hg, by rw [hb.block g hlt]; exact hc, r⟩
/-- A row of integers stands while another row, of another kind, grows. -/
theorem OwnI.grown (h : OwnI w base u xs) {e : TypeId} {size n : Nat} {ys : List Value} (hv : w.ownsRow base' e size v n ys) (he : e ≠ 3) (hg : w.grownBy w' v.ownBlock) : OwnI w' base u xs := by
  obtain ⟨h1, h2⟩ := h
  refine ⟨h1, ?_⟩
  rcases h2 with h2 | ⟨g, cap, cur, hu, hb, hc, r⟩
  · exact .inl h2
  · have hlt : g < w.heap.size := (Array.getElem?_eq_some_iff.1 hc).1
    refine .inr ⟨g, cap, cur, hu, hb, ?_, r⟩
    rw [hg.block g hlt ?_]
    · exact hc
    · intro hk
      rcases hv.2 with ⟨rfl, _⟩ | ⟨g', cap', cur', rfl, _, hc', _⟩
      · simp [Value.ownBlock] at hk
      · simp only [Value.ownBlock, Option.some.injEq] at hk
        subst hk
        rw [hc] at hc'
        injection hc' with hc'
        injection hc' with _ q
        exact he q.symm
/-- Rows of integers from base on may be written over: they are rows of as many integers still; nothing else has turned. -/
structure Spoilt (base : Nat) (w w' : World) : Prop where
  bel : Below base w w'
  ints : ∀ b v n, (∃ xs : List Int, xs.length = n ∧ OwnI w b v xs) → ∃ xs : List Int, xs.length = n ∧ OwnI w' b v xs
  rows : ∀ b (e : TypeId) size v n ys, e ≠ 3 → w.ownsRow b e size v n ys → w'.ownsRow b e size v n ys
theorem Spoilt.refl (base : Nat) (w : World) : Spoilt base w w := ⟨Below.refl _ _, fun _ _ _ h => h, fun _ _ _ _ _ _ _ h => h⟩
theorem Spoilt.trans {w1 w2 w3 : World} (h : Spoilt base w1 w2) (k : Spoilt base w2 w3) : Spoilt base w1 w3 :=
  ⟨h.bel.trans k.bel, fun b v n q => k.ints b v n (h.ints b v n q), fun b e s v n ys he q => k.rows b e s v n ys he (h.rows b e s v n ys he q)⟩
theorem Spoilt.set {g n cap i : Nat} (h : OwnI w base (.slice (some ⟨g, 0, none⟩) n cap) xs) (hg : base ≤ g) (z : Int) : Spoilt base w (w.setCell ⟨g, i, none⟩ (.int .i64 z)) := by
  have hblk : ∃ cur, w.heap[g]? = some (.cells cur 3 (0, 0)) := by
    rcases h.2 with ⟨h1, _⟩ | ⟨g', cap', cur, hv, _, hc, _⟩
    · cases h1
    · injection hv with q1
      injection q1 with q1
      injection q1 with q1
      subst q1
      exact ⟨cur, hc⟩
  obtain ⟨cur, hcur⟩ := hblk
  have other : ∀ b (e : TypeId) size v n ys, e ≠ 3 → w.ownsRow b e size v n ys → (w.setCell ⟨g, i, none⟩ (.int .i64 z)).ownsRow b e size v n ys := by
    intro b e size v n ys he hv
    obtain ⟨q1, q2⟩ := hv
    refine ⟨q1, ?_⟩
    rcases q2 with q2 | ⟨g', cap', cur', hv', hb', hc', r'⟩
    · exact .inl q2
    · refine .inr ⟨g', cap', cur', hv', hb', ?_, r'⟩
      rw [Below.heap_setCell _ _ _ _ (by
        rintro rfl
        rw [hcur] at hc'
        injection hc' with hc'
        injection hc' with _ q
        exact he q.symm)]
      exact hc'
  refine ⟨(Below.refl _ _).setCell hg _, fun b v n' ⟨ys, hl, hv⟩ => ?_, other⟩
  rcases hv.2 with ⟨rfl, h0⟩ | ⟨g', cap', cur', rfl, hb', hc', r'⟩
  · have : ys = [] := List.length_eq_zero_iff.1 h0
    subst this
    exact ⟨[], hl, OwnI.nil_⟩
  · by_cases e : g' = g
    · subst e
      have := (World.ownsRow.stored hv i (.int .i64 z)).1
      refine ⟨ys.set i z, by simp [hl], ?_⟩
      unfold OwnI
      have e2 : intCells (ys.set i z) = (intCells ys).set i (.int .i64 z) := by unfold intCells; rw [List.map_set]
      rw [e2, List.length_set]
      exact this
    · refine ⟨ys, hl, hv.1, .inr ⟨g', cap', cur', rfl, hb', ?_, r'⟩⟩
      rw [Below.heap_setCell _ _ _ _ e]
      exact hc'
end
end Go.Proofs.Ytmdajmdjmdbonaa
namespace Go.Proofs.Ytmdajmdjmdbonaa
open Go.RowKit
set_option linter.unusedSimpArgs false
set_option linter.unusedVariables false
theorem rowE_yes {ss : List Sym} {r : List Int} (h : rowB ss r = true) : rowE ss r = 0 := by unfold rowE; rw [h]; rfl
theorem rowE_no {ss : List Sym} {r : List Int} (h : rowB ss r = false) : rowE ss r = 200 := by unfold rowE; rw [h]; rfl
theorem rowK_yes {ss : List Sym} {r : List Int} (h : rowB ss r = true) : rowK ss r = ((tlD ss r).length : Int) := by unfold rowK; rw [h]; rfl

set_option maxHeartbeats 1000000 in
theorem isRow_any (A A' : Option Addr) (n c m c' : Nat) (ss : List Sym) (r : List Int) (w : World) (h : SymsAt w w.heap.size A n ss) (hn : n ≤ maxLen) (hnc : n ≤ c) (hr : IntsAt w w.heap.size A' m r) (hm : m ≤ maxLen) :
    Calls Try.prog 10 #[.slice A n c, .slice A' m c'] w fun e w' => e = .returned (.bool (rowB ss r)) ∧ Below w.heap.size w w' := by
  cases hb : rowB ss r
  all_goals
    (first | (have he := rowE_yes hb; have h0 : 1 = 1 := rfl) | have he := rowE_no hb)
    clear hb
    go_enter Try.func10, Try.ntmps10
    go_wp2_with fail
    refine (row_any A A' n c m c' ss r _ h hn hnc hr hm).mono ?_
    rintro e w1 ⟨rfl, hb1⟩
    rw [he]
    clear he
    go_wp2
    go_ret
    exact ⟨rfl, hb1⟩

theorem isV_len {t : List Int} {v : Int} (h : t.length ≠ 1) : isV t v = false := isV_not.2 fun e => h (by rw [e]; rfl)
theorem isV_yes {t : List Int} {v : Int} (h : t.length = 1) (h0 : intAt t 0 = -1 - v) : isV t v = true := isV_iff.2 (by
  match t, h with
  | [x], _ => have : x = -1 - v := h0; rw [this])
theorem isV_no {t : List Int} {v : Int} (h0 : intAt t 0 ≠ -1 - v) : isV t v = false := isV_not.2 fun e => h0 (by rw [e]; rfl)
theorem bindB_no {ss : List Sym} {bs : List Bd} (h : mayB ss = false) : bindB ss bs = false := by unfold bindB; rw [h]; rfl
theorem bindB_yes {ss : List Sym} {bs : List Bd} (h : mayB ss = true) : bindB ss bs = bdsB ss 0 bs := by unfold bindB; rw [h]; rfl
theorem bdsB_step {ss : List Sym} {bs : List Bd} {lo : Int} {k : Nat} (hk : k < bs.length) : bdsB ss lo (bs.drop k) = (bdB ss lo (bdAt bs k) && bdsB ss ((bdAt bs k).v + 1) (bs.drop (k + 1))) := by
  rw [bd_drop hk]; rfl
theorem bdB_lo {ss : List Sym} {lo : Int} {b : Bd} (h : b.v < lo) : bdB ss lo b = false := by
  cases hb : bdB ss lo b with
  | false => rfl
  | true => have := (bdB_iff.1 hb).1; omega
theorem bdB_hi {ss : List Sym} {lo : Int} {b : Bd} (h : 23 < b.v) : bdB ss lo b = false := by
  cases hb : bdB ss lo b with
  | false => rfl
  | true => have := (bdB_iff.1 hb).2.1; omega
theorem bdB_one {ss : List Sym} {lo : Int} {b : Bd} (h : oneB ss b.t = false) : bdB ss lo b = false := by
  cases hb : bdB ss lo b with
  | false => rfl
  | true => have := (bdB_iff.1 hb).2.2.1; rw [h] at this; cases this
theorem bdB_var {ss : List Sym} {lo : Int} {b : Bd} (h : isV b.t b.v = true) : bdB ss lo b = false := by
  cases hb : bdB ss lo b with
  | false => rfl
  | true => exact absurd (isV_iff.1 h) (bdB_iff.1 hb).2.2.2
theorem bdB_good {ss : List Sym} {lo : Int} {b : Bd} (h1 : lo ≤ b.v) (h2 : b.v ≤ 23) (h3 : oneB ss b.t = true) (h4 : isV b.t b.v = false) : bdB ss lo b = true := bdB_iff.2 ⟨h1, h2, h3, isV_not.1 h4⟩

end Go.Proofs.Ytmdajmdjmdbonaa
namespace Go.Proofs.Ytmdajmdjmdbonaa
open Go.RowKit Go.Deep
set_option linter.unusedSimpArgs false
set_option linter.unusedVariables false
/-- The row of terms by their variables, when the first k binds are in it. -/
structure Filled (w : World) (B : Nat) (bs : List Bd) (k : Nat) (f : Nat → Value) : Prop where
  in_ : ∀ j, j < k → ∃ A c, f (bdAt bs j).v.toNat = .slice A (bdAt bs j).t.length c ∧ IntsAt w B A (bdAt bs j).t.length (bdAt bs j).t
  out : ∀ i, (∀ j, j < k → (bdAt bs j).v.toNat ≠ i) → f i = .slice none 0 0
section
variable {ss : List Sym} {bs : List Bd} {w w' : World} {B k : Nat} {f : Nat → Value}
theorem Filled.zero : Filled w B bs 0 (fun _ => .slice none 0 0) := ⟨fun j hj => absurd hj (by omega), fun _ _ => rfl⟩
theorem Filled.step (h : Filled w B bs k f) (hv : bdsB ss 0 bs = true) (hk : k < bs.length) {A : Option Addr} {c : Nat} (hi : IntsAt w B A (bdAt bs k).t.length (bdAt bs k).t) :
    Filled w B bs (k + 1) (fun j => if j = (bdAt bs k).v.toNat then .slice A (bdAt bs k).t.length c else f j) := by
  refine ⟨fun j hj => ?_, fun i hi' => ?_⟩
  · by_cases e : j = k
    · subst e
      exact ⟨A, c, by simp, hi⟩
    · have h1 := bdsB_asc hv (i := j) (j := k) (by omega) hk
      have h2 := (bdsB_at hv (i := j) (by omega)).1
      have h3 := (bdsB_at hv (i := k) hk).1
      have ne : (bdAt bs j).v.toNat ≠ (bdAt bs k).v.toNat := by omega
      obtain ⟨A', c', q1, q2⟩ := h.in_ j (by omega)
      exact ⟨A', c', by simp only [if_neg ne]; exact q1, q2⟩
  · have := hi' k (by omega)
    rw [if_neg (fun e => this e.symm)]
    exact h.out i fun j hj => hi' j (by omega)
theorem Filled.keep (h : Filled w B bs k f) (hb : Below B w w') : Filled w' B bs k f :=
  ⟨fun j hj => by obtain ⟨A, c, q1, q2⟩ := h.in_ j hj; exact ⟨A, c, q1, q2.below hb⟩, h.out⟩
theorem Filled.look (h : Filled w B bs bs.length f) (hv : bdsB ss 0 bs = true) (i : Nat) :
    (∃ t b off c, ofB bs (i : Int) = some t ∧ 0 < t.length ∧ t.length ≤ 48 ∧ f i = .slice (some ⟨b, off, none⟩) t.length c ∧ IntsAt w B (some ⟨b, off, none⟩) t.length t) ∨ (ofB bs (i : Int) = none ∧ f i = .slice none 0 0) := by
  by_cases e : ∃ j, j < bs.length ∧ (bdAt bs j).v.toNat = i
  · obtain ⟨j, hj, rfl⟩ := e
    obtain ⟨A, c, q1, q2⟩ := h.in_ j hj
    obtain ⟨h1, _, h3, _⟩ := bdsB_at hv hj
    obtain ⟨_, _, l1, l2⟩ := one_parts h3
    obtain ⟨b, off, rfl, _⟩ := q2.at_ l1
    refine .inl ⟨_, b, off, c, ?_, l1, l2, q1, q2⟩
    have : ((bdAt bs j).v.toNat : Int) = (bdAt bs j).v := by omega
    rw [this]
    exact ofB_at hv hj
  · refine .inr ⟨ofB_none_of fun b hb he => ?_, h.out i fun j hj he => e ⟨j, hj, he⟩⟩
    obtain ⟨j, hj, rfl⟩ := List.mem_iff_getElem.1 hb
    have : bdAt bs j = bs[j] := by unfold bdAt; rw [List.getD_eq_getElem?_getD, List.getElem?_eq_getElem hj]; rfl
    exact e ⟨j, hj, by rw [this]; omega⟩
end
/-- What 'replace' hands back. -/
def putOk (bs : List Bd) (r : List Int) : Bool := decide ((put bs r).length ≤ 48)
def putR (bs : List Bd) (r : List Int) : List Int := if putOk bs r then put bs r else []
def PutPost (bs : List Bd) (r : List Int) (w : World) (e : Ending) (w' : World) : Prop :=
  ∃ v, e = .returned (.tuple #[v, .bool (putOk bs r)]) ∧ OwnI w' w.heap.size v (putR bs r) ∧ Below w.heap.size w w'
theorem ret_vb {v : Value} {a b : Bool} (h : a = b) : Ending.returned (.tuple #[v, .bool a]) = .returned (.tuple #[v, .bool b]) := by rw [h]
theorem put_take_le {bs : List Bd} {r : List Int} {k : Nat} : (put bs (r.take k)).length ≤ (put bs r).length := by
  have : put bs r = put bs (r.take k) ++ put bs (r.drop k) := by rw [← put_append, List.take_append_drop]
  rw [this]; simp

theorem BAD {bs : List Bd} {r : List Int} {j L : Nat} (h : L = (put bs (r.take j)).length) (hL : 48 < L) : putOk bs r = false := by
  have := put_take_le (bs := bs) (r := r) (k := j)
  unfold putOk
  exact decide_eq_false (by omega)
theorem badR {bs : List Bd} {r : List Int} {j L : Nat} (h : L = (put bs (r.take j)).length) (hL : 48 < L) : putR bs r = [] := by
  unfold putR; rw [BAD h hL]; rfl
theorem rows24 (w : World) : (w.alloc (.cells #[.slice none 0 0, .slice none 0 0, .slice none 0 0, .slice none 0 0, .slice none 0 0, .slice none 0 0, .slice none 0 0, .slice none 0 0, .slice none 0 0, .slice none 0 0, .slice none 0 0, .slice none 0 0, .slice none 0 0, .slice none 0 0, .slice none 0 0, .slice none 0 0, .slice none 0 0, .slice none 0 0, .slice none 0 0, .slice none 0 0, .slice none 0 0, .slice none 0 0, .slice none 0 0, .slice none 0 0] 36)).rowIs w.heap.size 36 24 (fun _ => .slice none 0 0) := by
  refine World.rowIs_alloc w _ 36 _ fun i hi => ?_
  have e : (#[.slice none 0 0, .slice none 0 0, .slice none 0 0, .slice none 0 0, .slice none 0 0, .slice none 0 0, .slice none 0 0, .slice none 0 0, .slice none 0 0, .slice none 0 0, .slice none 0 0, .slice none 0 0, .slice none 0 0, .slice none 0 0, .slice none 0 0, .slice none 0 0, .slice none 0 0, .slice none 0 0, .slice none 0 0, .slice none 0 0, .slice none 0 0, .slice none 0 0, .slice none 0 0, .slice none 0 0] : Array Value) = Array.replicate 24 (.slice none 0 0) := rfl
  rw [e] at hi ⊢
  simp at hi
  simp [hi]
end Go.Proofs.Ytmdajmdjmdbonaa
namespace Go.Proofs.Ytmdajmdjmdbonaa
open Go.RowKit Go.Deep
set_option linter.unusedSimpArgs false
set_option linter.unusedVariables false
theorem applyE_no {ss : List Sym} {bs : List Bd} {r : List Int} (h : (bindB ss bs && rowB ss r) = false) : applyE ss bs r = 300 ∧ applyR ss bs r = [] := by
  unfold applyE applyR; rw [h]; exact ⟨rfl, rfl⟩
theorem applyE_yes {ss : List Sym} {bs : List Bd} {r : List Int} (h1 : bindB ss bs = true) (h2 : rowB ss r = true) : applyE ss bs r = (if putOk bs r then 0 else 301) ∧ applyR ss bs r = putR bs r := by
  unfold applyE applyR putR putOk
  rw [h1, h2]
  by_cases h : (put bs r).length ≤ 48 <;> simp [h]
theorem bind_valid {ss : List Sym} {bs : List Bd} (h : bindB ss bs = true) : bdsB ss 0 bs = true := by unfold bindB at h; simp only [Bool.and_eq_true] at h; exact h.2
theorem bind_may {ss : List Sym} {bs : List Bd} (h : bindB ss bs = true) : mayB ss = true := by unfold bindB at h; simp only [Bool.and_eq_true] at h; exact h.1
theorem codes24 {ss : List Sym} {r : List Int} {ms : List (Nat × Nat)} (h : tl ss r = some ms) : ∀ i, i < r.length → -24 ≤ intAt r i := fun i hi => row_codes h _ (List.mem_of_getElem? (intAt_get hi))

/-- What 'follow' hands back. -/
def bothOk (bs us : List Bd) (v : Nat) : Bool := decide ((bothV bs us v).length ≤ 48)
def FollowPost (bs us : List Bd) (v : Nat) (w : World) (e : Ending) (w' : World) : Prop :=
  ∃ u, e = .returned (.tuple #[u, .bool (bothOk bs us v)]) ∧ OwnI w' w.heap.size u (if bothOk bs us v then bothV bs us v else []) ∧ Below w.heap.size w w'
theorem put1_short {ss : List Sym} {bs : List Bd} (h : bindB ss bs = true) (c : Int) : (put1 bs c).length ≤ 48 := by
  unfold put1
  by_cases hc : c < 0
  · rw [if_pos hc]
    cases ho : ofB bs (-1 - c) with
    | none => simp
    | some t =>
      obtain ⟨b, hb, _, rfl⟩ := ofB_some ho
      exact (one_parts (bdsB_mem (bind_valid h) b hb).2.2.1).2.2.2
  · rw [if_neg hc]; simp
theorem thenE_no {ss : List Sym} {bs us : List Bd} (h : (bindB ss bs && bindB ss us) = false) : thenE ss bs us = 300 ∧ thenR ss bs us = [] := by
  unfold thenE thenR; rw [h]; exact ⟨rfl, rfl⟩
theorem thenE_long {ss : List Sym} {bs us : List Bd} (h1 : bindB ss bs = true) (h2 : bindB ss us = true) {v : Nat} (hv : v < 24) (h : bothOk bs us v = false) : thenE ss bs us = 301 ∧ thenR ss bs us = [] := by
  have : bothB bs us = false := by
    cases hb : bothB bs us with
    | false => rfl
    | true =>
      have := bothB_iff.1 hb v hv
      unfold bothOk at h
      have := of_decide_eq_false h
      omega
  unfold thenE thenR; rw [h1, h2, this]; exact ⟨rfl, rfl⟩
theorem thenE_good {ss : List Sym} {bs us : List Bd} (h1 : bindB ss bs = true) (h2 : bindB ss us = true) (h : ∀ v, v < 24 → bothOk bs us v = true) : thenE ss bs us = 0 ∧ thenR ss bs us = both bs us := by
  have : bothB bs us = true := bothB_iff.2 fun v hv => of_decide_eq_true (h v hv)
  unfold thenE thenR; rw [h1, h2, this]; exact ⟨rfl, rfl⟩
theorem upTo_same {bs us : List Bd} {k : Nat} (h : isV (bothV bs us k) k = true) : (List.range (k + 1)).filterMap (bothF bs us) = (List.range k).filterMap (bothF bs us) := by
  rw [List.range_succ, List.filterMap_append]
  have : bothF bs us k = none := by unfold bothF; rw [h]; rfl
  simp [this]
theorem upTo_more {bs us : List Bd} {k : Nat} (h : isV (bothV bs us k) k = false) : (List.range (k + 1)).filterMap (bothF bs us) = (List.range k).filterMap (bothF bs us) ++ [⟨k, bothV bs us k⟩] := by
  rw [List.range_succ, List.filterMap_append]
  have : bothF bs us k = some ⟨k, bothV bs us k⟩ := by unfold bothF; rw [h]; rfl
  simp [this]
theorem upTo_len {bs us : List Bd} {k : Nat} : ((List.range k).filterMap (bothF bs us)).length ≤ k := by
  have := List.length_filterMap_le (bothF bs us) (List.range k)
  simpa using this

theorem shiftE_no {ss : List Sym} {r : List Int} {y : Int} (h : rowB ss r = false) : shiftE ss r y = 300 ∧ shiftR ss r y = [] := by
  unfold shiftE shiftR; rw [h]; exact ⟨rfl, rfl⟩
theorem shiftE_far {ss : List Sym} {r : List Int} {y : Int} (h : rowB ss r = true) {i : Nat} (hi : i < r.length) (hf : farB y (intAt r i) = true) : shiftE ss r y = 302 ∧ shiftR ss r y = [] := by
  have : shOk y r = false := by
    cases hb : shOk y r with
    | false => rfl
    | true =>
      unfold shOk at hb
      rw [List.all_eq_true] at hb
      have := hb _ (List.mem_of_getElem? (intAt_get hi))
      rw [hf] at this; cases this
  unfold shiftE shiftR; rw [h, this]; exact ⟨rfl, rfl⟩
theorem shiftE_good {ss : List Sym} {r : List Int} {y : Int} (h : rowB ss r = true) (hf : shOk y r = true) : shiftE ss r y = 0 ∧ shiftR ss r y = r.map (sh1 y) := by
  unfold shiftE shiftR; rw [h, hf]; exact ⟨rfl, rfl⟩
theorem shOk_step {r : List Int} {y : Int} {k : Nat} (h : shOk y (r.take k) = true) (hk : k < r.length) (hf : farB y (intAt r k) = false) : shOk y (r.take (k + 1)) = true := by
  have e : r.take (k + 1) = r.take k ++ [intAt r k] := by rw [List.take_add_one, intAt_get hk]; rfl
  unfold shOk at *
  rw [e, List.all_append, h]
  simp [hf]
theorem sh_step {r : List Int} {y : Int} {k : Nat} (hk : k < r.length) : (r.take (k + 1)).map (sh1 y) = (r.take k).map (sh1 y) ++ [sh1 y (intAt r k)] := by
  have e : r.take (k + 1) = r.take k ++ [intAt r k] := by rw [List.take_add_one, intAt_get hk]; rfl
  rw [e, List.map_append]; rfl

end Go.Proofs.Ytmdajmdjmdbonaa
namespace Go.Proofs.Ytmdajmdjmdbonaa
open Go.RowKit
set_option linter.unusedSimpArgs false
set_option linter.unusedVariables false
theorem ofB_first {bs : List Bd} {v : Int} {k : Nat} (hk : k < bs.length) (hv : (bdAt bs k).v = v) (h : ∀ j, j < k → (bdAt bs j).v ≠ v) : ofB bs v = some (bdAt bs k).t := by
  induction bs generalizing k with
  | nil => simp at hk
  | cons a bs ih =>
    rw [ofB_cons]
    cases k with
    | zero => have : a.v = v := hv; rw [if_pos this]; rfl
    | succ k =>
      have h0 : a.v ≠ v := h 0 (by omega)
      rw [if_neg h0]
      exact ih (k := k) (by simpa using hk) hv fun j hj => h (j + 1) (by omega)
theorem ofB_never {bs : List Bd} {v : Int} (h : ∀ j, j < bs.length → (bdAt bs j).v ≠ v) : ofB bs v = none := by
  refine ofB_none_of fun b hb he => ?_
  obtain ⟨j, hj, rfl⟩ := List.mem_iff_getElem.1 hb
  have : bdAt bs j = bs[j] := by unfold bdAt; rw [List.getD_eq_getElem?_getD, List.getElem?_eq_getElem hj]; rfl
  exact h j hj (by rw [this]; exact he)
/-- Where a variable's bind stands. -/
def OfPost (bs : List Bd) (v : Int) (w : World) (e : Ending) (w' : World) : Prop :=
  w = w' ∧ ((e = .returned (.int .i64 (-1)) ∧ ofB bs v = none) ∨ ∃ k : Nat, k < bs.length ∧ e = .returned (.int .i64 k) ∧ ofB bs v = some (bdAt bs k).t)
/-- The least variable that the next bind may have. -/
def nextLo (bs : List Bd) (k : Nat) : Int := if k = 0 then 0 else (bdAt bs (k - 1)).v + 1
theorem termsK_one {ss : List Sym} {t : List Int} (hm : mayB ss = true) : oneB ss t = decide (termsK ss t = 1) := by
  unfold oneB termsK rowB
  rw [hm, Bool.true_and]
  cases h : decide (t.length ≤ 48) && rowP ss t
  · simp
  · simp only [Bool.true_and, if_true]
    exact decide_eq_decide.2 (by omega)
theorem IntsAt.drewN {w : World} {B n : Nat} {A : Option Addr} {xs : List Int} (h : IntsAt w B A n xs) (k : Nat) : IntsAt (w.drewN k) B A n xs := ⟨h.len, h.at_⟩

end Go.Proofs.Ytmdajmdjmdbonaa
namespace Go.Proofs.Ytmdajmdjmdbonaa
open Go.RowKit Go.Deep
set_option linter.unusedSimpArgs false
set_option linter.unusedVariables false
theorem OwnI.value {w : World} {base : Nat} {v : Value} {xs : List Int} (h : OwnI w base v xs) : ∃ A cap, v = .slice A xs.length cap := by
  rcases h.shape with ⟨rfl, rfl⟩ | ⟨g, cap, rfl, _⟩ <;> exact ⟨_, _, rfl⟩
set_option maxHeartbeats 1000000 in
theorem sameInts_quiet (A B : Option Addr) (n c m d B1 B2 : Nat) (xs ys : List Int) (w : World) (hA : IntsAt w B1 A n xs) (hB : IntsAt w B2 B m ys) (hn : n ≤ maxLen) (hm : m ≤ maxLen) :
    Calls Try.prog 15 #[.slice A n c, .slice B m d] w fun e w' => e = .returned (.bool (sameI xs ys)) ∧ ∃ m, w' = w.drewN m := by
  unfold maxLen at hn hm
  have HX := Lib.hid hA.len
  have HY := Lib.hid hB.len
  by_cases hnm : n = m
  · subst hnm
    go_enter Try.func15, Try.ntmps15
    go_wp2
    go_loopw [5] (fun i wr => ∃ k q : Nat, k ≤ n ∧ i = .int .i64 k ∧ wr = w.drewN q ∧ ∀ i, i < k → intAt xs i = intAt ys i) (fun i _ => n - (intOf i).toNat)
    case atStart => exact ⟨0, 0, by omega, rfl, rfl, fun i hi => absurd hi (by omega)⟩
    case round =>
      obtain ⟨k, q, hk, rfl, rfl, hall⟩ := hrel
      have HALL := Lib.hid hall
      clear hall
      by_cases hlt : k < n
      · obtain ⟨b1, o1, rfl, _, h1⟩ := hA.at_ (by omega)
        obtain ⟨b2, o2, rfl, _, h2⟩ := hB.at_ (by omega)
        have c0 : w.cell? ⟨b1, o1 + k, none⟩ = some (.int .i64 (intAt xs k)) := h1 k hlt
        have d0 : w.cell? ⟨b2, o2 + k, none⟩ = some (.int .i64 (intAt ys k)) := h2 k hlt
        clear h1 h2
        have hi0 : (0 : Int) ≤ (k : Int) := by omega
        have hi2 : (k : Int) < (n : Int) := by omega
        by_cases he : intAt xs k = intAt ys k
        · have he' : (intAt xs k != intAt ys k) = false := by simp [he]
          have HE := Lib.hid he
          clear he
          go_wp2_with fail
          go_quiet (fail)
          go_wp2
          go_roundw
          case rel => exact ⟨k + 1, _, by omega, by go_num, rfl, fun i hi => if e : i = k then e ▸ HE.out else HALL.out i (by omega)⟩
          case measure => simp [intOf]; omega
        · have he' : (intAt xs k != intAt ys k) = true := by simp [he]
          have H := Lib.hid (sameI_not he)
          clear he
          go_wp2_with fail
          go_quiet (fail)
          go_wp2
          go_ret
          exact ⟨ret_b H.out.symm, _, World.drewN_drewN ..⟩
      · obtain rfl : k = n := by omega
        have H : Hid (sameI xs ys = true) := by
          show sameI xs ys = true
          unfold sameI
          exact decide_eq_true (list_int_ext (by rw [HX.out, HY.out]) (by rw [HX.out]; exact HALL.out))
        go_wp2
        go_ret
        exact ⟨ret_b H.out.symm, _, rfl⟩
  · have H := Lib.hid (sameI_len (xs := xs) (ys := ys) (by rw [HX.out, HY.out]; exact hnm))
    go_enter Try.func15, Try.ntmps15
    go_wp2
    go_ret
    exact ⟨ret_b H.out.symm, 0, rfl⟩

theorem sameInts_still (A B : Option Addr) (n c m d B1 B2 q : Nat) (xs ys : List Int) (w : World) (hA : IntsAt w B1 A n xs) (hB : IntsAt w B2 B m ys) (hn : n ≤ maxLen) (hm : m ≤ maxLen) {b : Bool} (hb : sameI xs ys = b) :
    Calls Try.prog 15 #[.slice A n c, .slice B m d] (w.drewN q) fun e w' => e = .returned (.bool b) ∧ ∃ m, w' = w.drewN m := by
  subst hb
  refine (sameInts_quiet A B n c m d B1 B2 xs ys _ (hA.drewN q) (hB.drewN q) hn hm).mono fun e w' ⟨h1, k, h2⟩ => ⟨h1, q + k, ?_⟩
  rw [h2]
  simp [World.drewN, Nat.add_assoc]
end Go.Proofs.Ytmdajmdjmdbonaa
namespace Go.Proofs.Ytmdajmdjmdbonaa
open Go.RowKit
set_option linter.unusedSimpArgs false
set_option linter.unusedVariables false
def wordsL : List Sym := [⟨⟨#[61]⟩, 0, 2, 1⟩, ⟨⟨#[97]⟩, 1, 0, 1⟩, ⟨⟨#[98]⟩, 1, 0, 2⟩, ⟨⟨#[102]⟩, 1, 1, 1⟩, ⟨⟨#[103]⟩, 1, 2, 3⟩, ⟨⟨#[112]⟩, 0, 1, 1⟩, ⟨⟨#[114]⟩, 0, 2, 2⟩]
theorem may_words : mayB wordsL = true := by decide +kernel
theorem fit_words : ∀ i, i < 7 → (symAt wordsL i).name.size ≤ maxLen := by
  intro i hi
  have : (symAt wordsL i).name.size = 1 := by
    match i, hi with
    | 0, _ => rfl
    | 1, _ => rfl
    | 2, _ => rfl
    | 3, _ => rfl
    | 4, _ => rfl
    | 5, _ => rfl
    | 6, _ => rfl
  rw [this]; unfold maxLen; omega
/-- The words, in a new row. -/
def WordsRet (w : World) (e : Ending) (w' : World) : Prop :=
  ∃ A, e = .returned (.slice A 7 7) ∧ SymsAt w' w'.heap.size A 7 wordsL ∧ Below w.heap.size w w'
set_option maxHeartbeats 1000000 in
theorem words_any (w : World) : Calls Try.prog 9 #[] w (WordsRet w) := by
  go_enter Try.func9, Try.ntmps9
  go_wp2
  go_ret
  refine ⟨_, rfl, ?_, below_new w _⟩
  have := World.ownsRow_lit (base := w.heap.size) (e := 49) (size := 4) w (cellsOf wordsL).toArray 7 (Nat.le_refl _) (by unfold maxLen; omega) rfl
  exact SymsAt.of_own this fit_words
theorem len_small {n : Nat} (h : n ≤ 1000000) : n ≤ maxLen := by unfold maxLen; omega
theorem len7 : (7 : Nat) ≤ maxLen := len_small (by decide)
theorem IntsAt.new {w : World} {A : Option Addr} {n : Nat} {xs : List Int} (h : IntsAt w w.heap.size A n xs) (o : Obj) : IntsAt (w.alloc o) (w.alloc o).heap.size A n xs := h.on (below_new w o)
theorem below_new2 (w : World) (o o' : Obj) : Below w.heap.size w ((w.alloc o).alloc o') := (below_new w o).trans ((below_new _ _).mono (by simp))
theorem below_new3 (w : World) (o o' o'' : Obj) : Below w.heap.size w (((w.alloc o).alloc o').alloc o'') := (below_new2 w o o').trans ((below_new _ _).mono (by simp; omega))
theorem SymsAt.two {w : World} {A : Option Addr} {n : Nat} {ss : List Sym} (h : SymsAt w w.heap.size A n ss) (o o' : Obj) : SymsAt ((w.alloc o).alloc o') ((w.alloc o).alloc o').heap.size A n ss := h.on (below_new2 w o o')

theorem lit_two (w : World) (xs ys : List Int) : IntsAt ((w.alloc (.cells (intCells xs).toArray 3)).alloc (.cells (intCells ys).toArray 3)) ((w.alloc (.cells (intCells xs).toArray 3)).alloc (.cells (intCells ys).toArray 3)).heap.size (some ⟨w.heap.size, 0, none⟩) xs.length xs ∧
    IntsAt ((w.alloc (.cells (intCells xs).toArray 3)).alloc (.cells (intCells ys).toArray 3)) ((w.alloc (.cells (intCells xs).toArray 3)).alloc (.cells (intCells ys).toArray 3)).heap.size (some ⟨w.heap.size + 1, 0, none⟩) ys.length ys := by
  refine ⟨(IntsAt.news w xs).new _, ?_⟩
  have := IntsAt.news (w.alloc (.cells (intCells xs).toArray 3)) ys
  have e : (w.alloc (.cells (intCells xs).toArray 3)).heap.size = w.heap.size + 1 := by simp
  rw [e] at this
  exact this
end Go.Proofs.Ytmdajmdjmdbonaa
