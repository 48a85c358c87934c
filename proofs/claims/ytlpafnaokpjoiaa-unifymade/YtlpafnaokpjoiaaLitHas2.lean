/-
  Words for memory: a row of literals that the call has made, whose atoms lie below it; an append in its place, and one that may grow.
  Contracts: lit.allMay, shape.SameLit, shape.HasLit and what it calls (its function literal, slices.IndexFunc, slices.ContainsFunc).
-/
import Derived.Test.YtlpafnaokpjoiaaLitAll
import Derived.Test.YtlpafnaokpjoiaaPlainCl
import Derived.Test.YtlpafnaokpjoiaaRefLits
namespace Go.Proofs.Ytlpafnaokpjoiaa
open Go.RowKit Go.Deep
set_option linter.unusedSimpArgs false
set_option linter.unusedVariables false
set_option maxRecDepth 100000

/-- Two cells of a row stand for a literal; its atom lies below base. -/
def LCell (w : World) (base : Nat) (cur : Array Value) (i : Nat) (p : Lt) : Prop :=
  cur[i * 2]? = some (.bool p.neg) ∧ ∃ A c, cur[i * 2 + 1]? = some (.slice A p.atom.length c) ∧ LitAt w base A p.atom.length c p
section
variable {w w' : World} {base g cap : Nat} {v u : Value} {ls gs : List Lt} {p : Lt} {cur : Array Value} {i k : Nat}
theorem LCell.on (h : LCell w base cur i p) (hb : Below base w w') : LCell w' base cur i p := by
  obtain ⟨h1, A, c, h2, h3⟩ := h
  exact ⟨h1, A, c, h2, h3.below hb⟩
theorem splice2_get (xs : List Value) (m : Nat) (a b : Value) (h : m + 2 ≤ xs.length) (j : Nat) : (xs.take m ++ [a, b] ++ xs.drop (m + 2))[j]? = if j = m then some a else if j = m + 1 then some b else xs[j]? := by
  have hm : (xs.take m).length = m := by rw [List.length_take]; omega
  rw [List.append_assoc]
  by_cases h1 : j < m
  · rw [List.getElem?_append_left (by omega), List.getElem?_take_of_lt h1, if_neg (by omega), if_neg (by omega)]
  · rw [List.getElem?_append_right (by omega), hm]
    by_cases h2 : j = m
    · subst h2; simp
    · rw [if_neg h2]
      by_cases h3 : j = m + 1
      · subst h3
        rw [if_pos rfl]
        have e : m + 1 - m = 1 := by omega
        rw [e]; rfl
      · rw [if_neg h3]
        obtain ⟨t, rfl⟩ : ∃ t, j = m + 2 + t := ⟨j - (m + 2), by omega⟩
        have e : m + 2 + t - m = t + 2 := by omega
        rw [e, List.getElem?_append_right (by simp), List.getElem?_drop]
        simp
end
end Go.Proofs.Ytlpafnaokpjoiaa

namespace Go.Proofs.Ytlpafnaokpjoiaa
open Go.RowKit Go.Deep
set_option linter.unusedSimpArgs false
set_option linter.unusedVariables false
set_option maxRecDepth 100000

def IdxPost (p : Lt) (ls : List Lt) (w : World) (e : Ending) (w' : World) : Prop := ∃ r : Int, e = .returned (.int .i64 r) ∧ decide (0 ≤ r) = hasL p ls ∧ Below w.heap.size w w'
end Go.Proofs.Ytlpafnaokpjoiaa
