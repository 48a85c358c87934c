/-
  Plain words: the binds that name variables anew, in the order in which they come first: no program.
-/
import Derived.Test.YtpblpndlajoebaaClauseRen
import Derived.Test.YtpblpndlajoebaaBaseMore
namespace Go.Proofs.Ytpblpndlajoebaa
open Go.RowKit
set_option linter.unusedSimpArgs false
set_option linter.unusedVariables false
set_option maxRecDepth 100000

/-- Binds put into a literal, into a clause. -/
def putL (bs : List Bd) (l : Lt) : Lt := ⟨l.neg, put bs l.atom⟩
def putC (bs : List Bd) (c : Cl) : Cl := ⟨c.lits.map (putL bs), c.tups.map (put bs), c.conds.map (putL bs)⟩
theorem intAt_mem {xs : List Int} {i : Nat} (h : i < xs.length) : intAt xs i ∈ xs := List.mem_of_getElem? (intAt_get h)
/-- The variables of a list, named by their places. -/
def bdsF (s : List Nat) : List Bd := s.mapIdx fun i (v : Nat) => (⟨(v : Int), [-1 - (i : Int)]⟩ : Bd)
section
variable {s : List Nat} {v : Nat} {x : Int} {r : List Int}
theorem bdsF_nil : bdsF [] = [] := rfl
theorem bdsF_snoc (s : List Nat) (q : Nat) : bdsF (s ++ [q]) = bdsF s ++ [⟨(q : Int), [-1 - (s.length : Int)]⟩] := by unfold bdsF; rw [List.mapIdx_concat]
theorem bdsF_len (s : List Nat) : (bdsF s).length = s.length := by unfold bdsF; rw [List.length_mapIdx]
theorem bdsF_at {i : Nat} (h : i < s.length) : bdAt (bdsF s) i = ⟨(s[i] : Int), [-1 - (i : Int)]⟩ := by
  unfold bdAt bdsF
  rw [List.getD_eq_getElem?_getD, List.getElem?_mapIdx, List.getElem?_eq_getElem h]; rfl
theorem bdsF_one {i : Nat} (h : i < (bdsF s).length) : 0 < (bdAt (bdsF s) i).t.length ∧ (bdAt (bdsF s) i).t.length ≤ 48 := by
  rw [bdsF_len] at h
  rw [bdsF_at h]
  exact ⟨by show 0 < 1; omega, by show 1 ≤ 48; omega⟩
theorem ofB_in (hs : s.Nodup) (h : v ∈ s) : ofB (bdsF s) (v : Int) = some [-1 - (s.idxOf v : Int)] := by
  have hk := List.idxOf_lt_length_of_mem h
  have e := List.getElem_idxOf hk
  have := ofB_first (bs := bdsF s) (v := (v : Int)) (k := s.idxOf v) (by rw [bdsF_len]; exact hk) (by rw [bdsF_at hk, e]) (fun j hj => by
    have hj' : j < s.length := by omega
    rw [bdsF_at hj']
    intro q
    have q' : s[j] = v := by have : (s[j] : Int) = (v : Int) := q; omega
    have := List.Nodup.idxOf_getElem hs j hj'
    rw [q'] at this
    omega)
  rw [this, bdsF_at hk]
theorem ofB_out (h : v ∉ s) : ofB (bdsF s) (v : Int) = none := ofB_never fun j hj => by
  rw [bdsF_len] at hj
  rw [bdsF_at hj]
  intro q
  have q' : s[j] = v := by have : (s[j] : Int) = (v : Int) := q; omega
  exact h (q' ▸ List.getElem_mem hj)
theorem put1_F (hs : s.Nodup) (h : x < 0 → (-1 - x).toNat ∈ s) : put1 (bdsF s) x = [ren (fun v => s.idxOf v) x] := by
  unfold put1 ren
  by_cases hx : x < 0
  · rw [if_pos hx, if_pos hx]
    have e : -1 - x = (((-1 - x).toNat : Nat) : Int) := by omega
    have := ofB_in hs (h hx)
    rw [← e] at this
    rw [this]; rfl
  · rw [if_neg hx, if_neg hx]
theorem put_F (hs : s.Nodup) (h : ∀ v ∈ vrs r, v ∈ s) : put (bdsF s) r = renR (fun v => s.idxOf v) r := by
  induction r with
  | nil => rfl
  | cons x r ih =>
    have h1 : ∀ v ∈ vrs r, v ∈ s := fun v hv => h v (mem_vrs.2 (List.mem_cons_of_mem _ (mem_vrs.1 hv)))
    rw [put_cons, ih h1, put1_F hs (fun hx => h _ (mem_vrs.2 (by rw [neg_var hx]; exact List.mem_cons_self ..)))]
    rfl
theorem putC_F (c : Cl) : putC (bdsF (firsts (codesC c))) c = renC (fun v => (firsts (codesC c)).idxOf v) c := by
  have key : ∀ r ∈ rowsC c, put (bdsF (firsts (codesC c))) r = renR (fun v => (firsts (codesC c)).idxOf v) r := fun r hr =>
    put_F (once_nodup _) fun v hv => mem_once.2 (row_vrs hr hv)
  unfold putC renC
  congr 1
  · refine List.map_congr_left fun l hl => ?_
    unfold putL renL; rw [key _ (lit_row hl)]
  · exact List.map_congr_left fun t ht => key _ (tup_row ht)
  · refine List.map_congr_left fun l hl => ?_
    unfold putL renL; rw [key _ (cond_row hl)]
theorem norm_put (c : Cl) : norm c = putC (bdsF (firsts (codesC (onceC c)))) (onceC c) := (putC_F (onceC c)).symm
end
end Go.Proofs.Ytpblpndlajoebaa
