/-
  Plain words: the variables of a row.
-/
import Derived.Test.YtcjpopjcpgipjaaDoorTermMore
namespace Go.Proofs.YtcjpopjcpgipjaaDoor
open Go.RowKit
set_option linter.unusedSimpArgs false
set_option linter.unusedVariables false

/-- Does a variable stand in a row? -/
def hasV (r : List Int) (v : Nat) : Bool := r.any fun c => c == -1 - (v : Int)
/-- The variables below k of a row. -/
def varsN (r : List Int) (k : Nat) : List Int := ((List.range k).filter (hasV r)).map Int.ofNat
def varsOf (ss : List Sym) (r : List Int) : List Int := if rowB ss r then varsN r 24 else []
def boolsC (f : Nat → Bool) : Array Value := ((List.range 24).map fun i => Value.bool (f i)).toArray
theorem boolsC_size (f : Nat → Bool) : (boolsC f).size = 24 := by simp [boolsC]
theorem boolsC_at (f : Nat → Bool) (i : Nat) (h : i < 24) : (boolsC f)[i]? = some (.bool (f i)) := by simp [boolsC, h]
theorem boolsC_set (f : Nat → Bool) (k : Nat) (v : Bool) (h : k < 24) : (boolsC f).setIfInBounds k (.bool v) = boolsC (fun j => if j = k then v else f j) := by
  apply Array.ext_getElem?
  intro i
  rw [Array.getElem?_setIfInBounds]
  by_cases hi : i < 24
  · rw [boolsC_at (fun j => if j = k then v else f j) i hi]
    by_cases e : k = i
    · subst e; rw [if_pos rfl, if_pos (by rw [boolsC_size]; exact hi), if_pos rfl]
    · have e' : ¬ i = k := fun x => e x.symm
      rw [if_neg e, boolsC_at f i hi, if_neg e']
  · rw [if_neg (by omega), Array.getElem?_eq_none (by rw [boolsC_size]; omega), Array.getElem?_eq_none (by rw [boolsC_size]; omega)]
theorem boolsC_congr {f g : Nat → Bool} (h : ∀ i, i < 24 → f i = g i) : boolsC f = boolsC g := by
  apply Array.ext_getElem?
  intro i
  by_cases hi : i < 24
  · rw [boolsC_at _ i hi, boolsC_at _ i hi, h i hi]
  · rw [Array.getElem?_eq_none (by rw [boolsC_size]; omega), Array.getElem?_eq_none (by rw [boolsC_size]; omega)]
theorem hasV_take (r : List Int) (k v : Nat) (h : k < r.length) : hasV (r.take (k + 1)) v = (hasV (r.take k) v || (intAt r k == -1 - (v : Int))) := by
  unfold hasV; rw [List.take_add_one, intAt_get h, List.any_append]; simp
theorem seen_var {r : List Int} {k q : Nat} (h : k < r.length) (hq : intAt r k = -1 - (q : Int)) (hq24 : q < 24) : (boolsC (hasV (r.take k))).setIfInBounds q (.bool true) = boolsC (hasV (r.take (k + 1))) := by
  rw [boolsC_set _ q true hq24]
  apply boolsC_congr
  intro i hi
  rw [hasV_take r k i h, hq]
  by_cases e : i = q
  · subst e; simp
  · rw [if_neg e]
    have : ((-1 - (q : Int)) == (-1 - (i : Int))) = false := by simp; omega
    rw [this, Bool.or_false]
theorem seen_sym {r : List Int} {k : Nat} (h : k < r.length) (hx : 0 ≤ intAt r k) : boolsC (hasV (r.take k)) = boolsC (hasV (r.take (k + 1))) := by
  apply boolsC_congr
  intro i hi
  rw [hasV_take r k i h]
  have : (intAt r k == (-1 - (i : Int))) = false := by simp; omega
  rw [this, Bool.or_false]
theorem varsN_succ (r : List Int) (k : Nat) : varsN r (k + 1) = if hasV r k then varsN r k ++ [(k : Int)] else varsN r k := by
  unfold varsN
  rw [List.range_succ, List.filter_append]
  cases h : hasV r k <;> simp [List.filter_cons, h]
theorem varsN_length (r : List Int) (k : Nat) : (varsN r k).length ≤ k := by
  unfold varsN; rw [List.length_map]; exact Nat.le_trans (List.length_filter_le _ _) (by simp)
end Go.Proofs.YtcjpopjcpgipjaaDoor
