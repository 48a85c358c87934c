/-
  Contracts: term.Starts, term.Weight, term.Deep.
-/
import Derived.Test.YtlpafnaokpjoiaaBaseTerm
namespace Go.Proofs.Ytlpafnaokpjoiaa
open Go.RowKit
set_option linter.unusedSimpArgs false
set_option linter.unusedVariables false

/-- Where the first p terms of a row begin. -/
def stN (ss : List Sym) (r : List Int) (p : Nat) : List Int := (List.range p).map fun q => (sumL ((tlD ss r).take q) : Int)
def startsOf (ss : List Sym) (r : List Int) : List Int := if rowB ss r then stN ss r (tlD ss r).length else []
theorem stN_zero (ss : List Sym) (r : List Int) : stN ss r 0 = [] := rfl
theorem stN_succ (ss : List Sym) (r : List Int) (p : Nat) : stN ss r (p + 1) = stN ss r p ++ [(sumL ((tlD ss r).take p) : Int)] := by
  unfold stN; rw [List.range_succ, List.map_append]; rfl
theorem stN_length (ss : List Sym) (r : List Int) (p : Nat) : (stN ss r p).length = p := by unfold stN; simp
/-- The weight of a code, of some codes. -/
def wtOf (ss : List Sym) (c : Int) : Int := if c < 0 then 1 else (symAt ss c.toNat).weight
def wtSum (ss : List Sym) : List Int → Int
  | [] => 0
  | c :: r => wtOf ss c + wtSum ss r
def weightK (ss : List Sym) (r : List Int) : Int := if rowB ss r then wtSum ss r else 0
def deepK (ss : List Sym) (r : List Int) : Int := if rowB ss r then (maxD (tlD ss r) : Int) else 0
theorem wtSum_append (ss : List Sym) (a b : List Int) : wtSum ss (a ++ b) = wtSum ss a + wtSum ss b := by
  induction a with
  | nil => simp [wtSum]
  | cons c a ih => simp only [List.cons_append, wtSum, ih]; omega
theorem wtSum_take (ss : List Sym) (r : List Int) (k : Nat) (h : k < r.length) : wtSum ss (r.take (k + 1)) = wtSum ss (r.take k) + wtOf ss (intAt r k) := by
  rw [List.take_add_one, intAt_get h, wtSum_append]; simp [wtSum]
theorem tl_codes {ss : List Sym} (r : List Int) {ms : List (Nat × Nat)} (h : tl ss r = some ms) : ∀ c ∈ r, ∃ a, arOf ss c = some a := by
  induction r generalizing ms with
  | nil => intro c hc; cases hc
  | cons c r ih =>
    obtain ⟨qs, a, h1, h2, _, _⟩ := tl_cons_inv h
    intro x hx
    rcases List.mem_cons.1 hx with rfl | hx
    · exact ⟨a, h2⟩
    · exact ih h1 x hx
/-- The codes of a row: a variable's, or a symbol's that is there. -/
theorem row_code {ss : List Sym} {r : List Int} (h : rowB ss r = true) {k : Nat} (hk : k < r.length) : -24 ≤ intAt r k ∧ intAt r k < ss.length ∧ (0 ≤ intAt r k → (symAt ss (intAt r k).toNat).kind ≠ 0) := by
  obtain ⟨h1, h2, h3⟩ := row_parts h
  obtain ⟨a, ha⟩ := tl_codes r h3 (intAt r k) (List.mem_iff_getElem?.2 ⟨k, intAt_get hk⟩)
  have hl := may_len h1
  by_cases hx : intAt r k < 0
  · have := ar_var hx ha
    exact ⟨this.1, by omega, fun h => absurd h (by omega)⟩
  · have := ar_sym h1 (by omega) ha
    exact ⟨by omega, by omega, fun _ => this.2.1⟩
theorem wtOf_bd {ss : List Sym} {r : List Int} (h : rowB ss r = true) {k : Nat} (hk : k < r.length) : 1 ≤ wtOf ss (intAt r k) ∧ wtOf ss (intAt r k) ≤ 20 := by
  obtain ⟨h1, h2, _⟩ := row_code h hk
  unfold wtOf
  split
  · omega
  · have := may_bd (row_parts h).1 (i := (intAt r k).toNat) (by omega); omega
theorem wtSum_bd {ss : List Sym} {r : List Int} (h : rowB ss r = true) (k : Nat) (hk : k ≤ r.length) : 0 ≤ wtSum ss (r.take k) ∧ wtSum ss (r.take k) ≤ 20 * k := by
  induction k with
  | zero => simp [wtSum]
  | succ k ih =>
    have := ih (by omega)
    rw [wtSum_take ss r k (by omega)]
    have := wtOf_bd h (k := k) (by omega)
    omega

end Go.Proofs.Ytlpafnaokpjoiaa
