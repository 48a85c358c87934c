/-
  Contracts: slices.EqualFunc of literals and of rows, clause.sameRow, same, Variant.
-/
import Derived.Test.YtcjpopjcpgipjaaDoorClauseNorm
namespace Go.Proofs.YtcjpopjcpgipjaaDoor
open Go.RowKit Go.Deep
set_option linter.unusedSimpArgs false
set_option linter.unusedVariables false
set_option maxRecDepth 100000

theorem sameL_iff' {p q : Lt} : sameL p q = true ↔ p = q := by
  unfold sameL sameI
  rw [Bool.and_eq_true, beq_iff_eq, decide_eq_true_iff]
  exact ⟨fun h => Lt.ext_ h.1 h.2, fun h => by rw [h]; exact ⟨rfl, rfl⟩⟩
theorem lits_same {ls ms : List Lt} {n : Nat} (h1 : ls.length = n) (h2 : ms.length = n) (h : ∀ j, j < n → sameL (ltAt ls j) (ltAt ms j) = true) : ls = ms := by
  apply List.ext_getElem?
  intro i
  by_cases hi : i < n
  · rw [ltAt_get (by omega), ltAt_get (by omega), sameL_iff'.1 (h i hi)]
  · rw [List.getElem?_eq_none (by omega), List.getElem?_eq_none (by omega)]
theorem rows_same {ls ms : List (List Int)} {n : Nat} (h1 : ls.length = n) (h2 : ms.length = n) (h : ∀ j, j < n → sameI (rowOf ls j) (rowOf ms j) = true) : ls = ms := by
  apply List.ext_getElem?
  intro i
  by_cases hi : i < n
  · have := h i hi
    unfold sameI at this
    rw [decide_eq_true_iff] at this
    rw [rowOf_get (by omega), rowOf_get (by omega), this]
  · rw [List.getElem?_eq_none (by omega), List.getElem?_eq_none (by omega)]
theorem lits_not {ls ms : List Lt} {k : Nat} (h : sameL (ltAt ls k) (ltAt ms k) = false) : ¬ ls = ms := by
  intro e
  rw [e, sameL_iff'.2 rfl] at h
  cases h
theorem rows_not {ls ms : List (List Int)} {k : Nat} (h : sameI (rowOf ls k) (rowOf ms k) = false) : ¬ ls = ms := by
  intro e
  rw [e] at h
  unfold sameI at h
  simp at h
instance : DecidableEq Cl := fun p q => decidable_of_iff (p.lits = q.lits ∧ p.tups = q.tups ∧ p.conds = q.conds) ⟨fun h => by cases p; cases q; simp_all, fun h => by rw [h]; exact ⟨rfl, rfl, rfl⟩⟩
def sameC (c d : Cl) : Bool := decide (c = d)
theorem sameC_parts (c d : Cl) : sameC c d = (decide (c.lits = d.lits) && (decide (c.tups = d.tups) && decide (c.conds = d.conds))) := by
  unfold sameC
  rw [Bool.eq_iff_iff]
  simp only [Bool.and_eq_true, decide_eq_true_iff]
  cases c; cases d; simp

theorem MayC.fit {ss : List Sym} {c : Cl} (h : MayC ss c) : Fit c where
  l := by have := h.nl; omega
  t := by have := h.nt; omega
  d := by have := h.nc; omega
  r := fun r hr => by have := h.small.r r hr; omega
def varB (ss : List Sym) (c d : Cl) : Bool := mayC ss c && (mayC ss d && sameC (norm c) (norm d))
def clE2 (ss : List Sym) (c d : Cl) : Int := if mayC ss c && mayC ss d then 0 else 800
def BoolPost (x : Bool) (E : Int) (w : World) (e : Ending) (w' : World) : Prop := e = .returned (.tuple #[.bool x, .int .i64 E]) ∧ Below w.heap.size w w'
theorem ret_bi {x y : Bool} {a b : Int} (h : x = y) (k : a = b) : Ending.returned (.tuple #[.bool x, .int .i64 a]) = .returned (.tuple #[.bool y, .int .i64 b]) := by rw [h, k]

end Go.Proofs.YtcjpopjcpgipjaaDoor
