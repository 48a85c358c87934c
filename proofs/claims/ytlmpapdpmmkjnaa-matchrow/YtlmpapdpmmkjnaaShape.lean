/-
  Plain words for the cells of package term's shape: two arrays of 48 numbers each.
-/
import Derived.Test.YtlmpapdpmmkjnaaPlainTerm
import Derived.Deep.AppendLies
namespace Go.Proofs.Ytlmpapdpmmkjnaa
open Go.RowKit
set_option linter.unusedSimpArgs false
set_option linter.unusedVariables false

def shapeF (f g : Nat → Int) : Array Value := (((List.range 48).map fun i => Value.int .i64 (f i)) ++ ((List.range 48).map fun i => Value.int .i64 (g i))).toArray
def zeroC : Array Value := shapeF (fun _ => 0) (fun _ => 0)
theorem shapeF_size (f g : Nat → Int) : (shapeF f g).size = 96 := by simp [shapeF]
theorem shapeF_end (f g : Nat → Int) (i : Nat) (h : i < 48) : (shapeF f g)[i]? = some (.int .i64 (f i)) := by
  simp [shapeF, List.getElem?_append, h]
theorem shapeF_deep (f g : Nat → Int) (i : Nat) (h : i < 48) : (shapeF f g)[48 + i]? = some (.int .i64 (g i)) := by
  simp [shapeF, List.getElem?_append, h]
theorem shapeF_one (f g : Nat → Int) : (shapeF f g).all (·.oneCell') = true := by
  apply Array.all_eq_true_iff_forall_mem.2
  intro v hv
  simp [shapeF] at hv
  rcases hv with ⟨_, _, rfl⟩ | ⟨_, _, rfl⟩ <;> rfl
theorem shapeF_ext {f g : Nat → Int} {C : Array Value} (hs : C.size = 96) (h1 : ∀ i, i < 48 → C[i]? = some (.int .i64 (f i))) (h2 : ∀ i, i < 48 → C[48 + i]? = some (.int .i64 (g i))) : C = shapeF f g := by
  apply Array.ext_getElem?
  intro i
  by_cases h : i < 48
  · rw [h1 i h, shapeF_end f g i h]
  · by_cases h' : i < 96
    · obtain ⟨j, rfl⟩ : ∃ j, i = 48 + j := ⟨i - 48, by omega⟩
      rw [h2 j (by omega), shapeF_deep f g j (by omega)]
    · rw [Array.getElem?_eq_none (by omega), Array.getElem?_eq_none (by rw [shapeF_size]; omega)]
theorem shapeF_congr {f g f' g' : Nat → Int} (h1 : ∀ i, i < 48 → f i = f' i) (h2 : ∀ i, i < 48 → g i = g' i) : shapeF f g = shapeF f' g' :=
  shapeF_ext (shapeF_size f g) (fun i hi => by rw [shapeF_end f g i hi, h1 i hi]) (fun i hi => by rw [shapeF_deep f g i hi, h2 i hi])
theorem shapeF_set_end (f g : Nat → Int) (k : Nat) (v : Int) (h : k < 48) : (shapeF f g).setIfInBounds k (.int .i64 v) = shapeF (fun j => if j = k then v else f j) g := by
  apply shapeF_ext
  · simp [shapeF_size]
  · intro i hi
    rw [Array.getElem?_setIfInBounds]
    by_cases e : k = i
    · subst e; simp [shapeF_size]; omega
    · have e' : ¬ i = k := fun x => e x.symm
      simp [e, e', shapeF_end f g i hi]
  · intro i hi
    rw [Array.getElem?_setIfInBounds, if_neg (by omega), shapeF_deep f g i hi]
theorem shapeF_set_deep (f g : Nat → Int) (k : Nat) (v : Int) (h : k < 48) : (shapeF f g).setIfInBounds (48 + k) (.int .i64 v) = shapeF f (fun j => if j = k then v else g j) := by
  apply shapeF_ext
  · simp [shapeF_size]
  · intro i hi
    rw [Array.getElem?_setIfInBounds, if_neg (by omega), shapeF_end f g i hi]
  · intro i hi
    rw [Array.getElem?_setIfInBounds]
    by_cases e : k = i
    · subst e; simp [shapeF_size]; omega
    · have e' : ¬ i = k := fun x => e x.symm
      rw [if_neg (by omega), shapeF_deep f g i hi]; simp [e']

def endV (ss : List Sym) (r : List Int) (k i : Nat) : Int := if k ≤ i ∧ i < r.length then (endAt ss r i : Int) else 0
def depV (ss : List Sym) (r : List Int) (k i : Nat) : Int := if k ≤ i ∧ i < r.length then (depAt ss r i : Int) else 0
/-- The cells of the shape where the places from k on are measured. -/
def shapeC (ss : List Sym) (r : List Int) (k : Nat) : Array Value := shapeF (endV ss r k) (depV ss r k)
theorem shapeC_size (ss : List Sym) (r : List Int) (k : Nat) : (shapeC ss r k).size = 96 := shapeF_size _ _
theorem shapeC_one (ss : List Sym) (r : List Int) (k : Nat) : (shapeC ss r k).all (·.oneCell') = true := shapeF_one _ _
theorem shapeC_zero (ss : List Sym) (r : List Int) : shapeC ss r r.length = zeroC :=
  shapeF_congr (fun i _ => by unfold endV; rw [if_neg (by omega)]) (fun i _ => by unfold depV; rw [if_neg (by omega)])
theorem shapeC_end {ss : List Sym} {r : List Int} {k j : Nat} (h1 : k ≤ j) (h2 : j < r.length) (h3 : r.length ≤ 48) : (shapeC ss r k)[j]? = some (.int .i64 (endAt ss r j)) := by
  unfold shapeC; rw [shapeF_end _ _ j (by omega)]; unfold endV; rw [if_pos ⟨h1, h2⟩]
theorem shapeC_deep {ss : List Sym} {r : List Int} {k j : Nat} (h1 : k ≤ j) (h2 : j < r.length) (h3 : r.length ≤ 48) : (shapeC ss r k)[48 + j]? = some (.int .i64 (depAt ss r j)) := by
  unfold shapeC; rw [shapeF_deep _ _ j (by omega)]; unfold depV; rw [if_pos ⟨h1, h2⟩]
theorem shapeC_end0 {ss : List Sym} {r : List Int} {k : Nat} (h : k < 48) : (shapeC ss r (k + 1))[k]? = some (.int .i64 0) := by
  unfold shapeC; rw [shapeF_end _ _ k h]; unfold endV; rw [if_neg (by omega)]
theorem shapeC_deep0 {ss : List Sym} {r : List Int} {k : Nat} (h : k < 48) : (shapeC ss r (k + 1))[48 + k]? = some (.int .i64 0) := by
  unfold shapeC; rw [shapeF_deep _ _ k h]; unfold depV; rw [if_neg (by omega)]
theorem shapeC_step {ss : List Sym} {r : List Int} {k : Nat} {x y : Int} (h2 : k < r.length) (h3 : r.length ≤ 48) (hx : x = endAt ss r k) (hy : y = depAt ss r k) :
    ((shapeC ss r (k + 1)).setIfInBounds k (.int .i64 x)).setIfInBounds (48 + k) (.int .i64 y) = shapeC ss r k := by
  unfold shapeC
  rw [shapeF_set_end _ _ k _ (by omega), shapeF_set_deep _ _ k _ (by omega)]
  apply shapeF_congr
  · intro i hi
    unfold endV
    by_cases e : i = k
    · subst e; rw [if_pos rfl, if_pos ⟨Nat.le_refl _, h2⟩, hx]
    · rw [if_neg e]
      by_cases e2 : k ≤ i ∧ i < r.length
      · rw [if_pos e2, if_pos ⟨by omega, e2.2⟩]
      · rw [if_neg e2, if_neg (by omega)]
  · intro i hi
    unfold depV
    by_cases e : i = k
    · subst e; rw [if_pos rfl, if_pos ⟨Nat.le_refl _, h2⟩, hy]
    · rw [if_neg e]
      by_cases e2 : k ≤ i ∧ i < r.length
      · rw [if_pos e2, if_pos ⟨by omega, e2.2⟩]
      · rw [if_neg e2, if_neg (by omega)]

end Go.Proofs.Ytlmpapdpmmkjnaa
