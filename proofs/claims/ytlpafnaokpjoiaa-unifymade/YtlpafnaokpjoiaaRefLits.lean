/-
  Contracts of the reference: Heavy of an expression, often, More, IsTerm, IsAtom, Which, Compare.
  Contracts of the reference: More, IsTerm, IsAtom, Which, Compare.
  Contracts of the reference: IsTerm, IsAtom, Which, Compare.
  Contracts of quaereref8: LitMay, LitWeight, which, LitCompare.
  Contracts of quaereref8: Top, Tops.
-/
import Derived.Test.YtlpafnaokpjoiaaOrderAll2
import Derived.Test.YtlpafnaokpjoiaaPartsR2
import Derived.Test.YtlpafnaokpjoiaaLitAll
import Derived.Test.YtlpafnaokpjoiaaPlainCl
namespace Go.Proofs.Ytlpafnaokpjoiaa
open Go.RowKit
set_option linter.unusedSimpArgs false
set_option linter.unusedVariables false
set_option maxRecDepth 100000

end Go.Proofs.Ytlpafnaokpjoiaa

namespace Go.Proofs.Ytlpafnaokpjoiaa
open Go.RowKit
set_option linter.unusedSimpArgs false
set_option linter.unusedVariables false
set_option maxRecDepth 100000

/-- The first parts that are unlike, of two rows of parts. -/
theorem parts_mor {ss : List Sym} {c : Int} {L M : List (List Int)} {j : Nat} (hj : j < L.length) (hl : L.length = M.length) (tL : ∀ x ∈ L, trm 24 ss x 1) (tM : ∀ x ∈ M, trm 24 ss x 1) (hs : ∀ i, i < j → rowOf L i = rowOf M i) (hne : rowOf L j ≠ rowOf M j)
    (ho : Often (c :: L.flatten) (c :: M.flatten)) (hw : wtSum ss (c :: L.flatten) = wtSum ss (c :: M.flatten)) : morB ss (c :: L.flatten) (c :: M.flatten) = morB ss (rowOf L j) (rowOf M j) := by
  have e1 := rowOf_drop hj
  have e2 := rowOf_drop (L := M) (i := j) (by omega)
  have key : ∀ i, i ≤ j → (L.take i).flatten = (M.take i).flatten := by
    intro i
    induction i with
    | zero => intro _; rfl
    | succ i ih =>
      intro hi
      rw [rowOf_take (by omega), rowOf_take (by omega), ih (by omega), hs i (by omega)]
  have hp : trm 24 ss (L.take j).flatten (L.take j).length := trm_flatten fun x hx => tL x (List.mem_of_mem_take hx)
  rw [e1, e2, ← key j (Nat.le_refl _)] at ho hw ⊢
  exact mor_args ho hw hp (tL _ (rowOf_mem hj)) (tM _ (rowOf_mem (by omega))) hne
theorem parts_some {L M : List (List Int)} (hl : L.length = M.length) (hne : L.flatten ≠ M.flatten) (h : ∀ i, i < L.length → rowOf L i = rowOf M i) : False := by
  apply hne
  have : L = M := by
    apply List.ext_getElem? 
    intro i
    by_cases hi : i < L.length
    · rw [rowOf_get hi, rowOf_get (by omega), h i hi]
    · rw [List.getElem?_eq_none (by omega), List.getElem?_eq_none (by omega)]
  rw [this]

end Go.Proofs.Ytlpafnaokpjoiaa

namespace Go.Proofs.Ytlpafnaokpjoiaa
open Go.RowKit
set_option linter.unusedSimpArgs false
set_option linter.unusedVariables false
set_option maxRecDepth 100000

theorem termsK_eq {ss : List Sym} {r : List Int} (hm : mayB ss = true) {ar : Int} (har : 0 ≤ ar) : (termsK ss r == ar) = (rowB ss r && decide (((tlD ss r).length : Int) = ar)) := by
  unfold termsK rowB
  rw [hm, Bool.true_and]
  cases h : (decide (r.length ≤ 48) && rowP ss r)
  · simp; omega
  · rw [if_pos rfl, Bool.true_and]; rfl
/-- What Which answers, of two terms or two atoms. -/
def WhichPost (ss : List Sym) (a b : List Int) (w : World) (e : Ending) (w' : World) : Prop := ∃ k : Int, e = .returned (.int .i64 k) ∧ CmpR ss a b 0 k ∧ Below w.heap.size w w'
end Go.Proofs.Ytlpafnaokpjoiaa

namespace Go.Proofs.Ytlpafnaokpjoiaa
open Go.RowKit
set_option linter.unusedSimpArgs false
set_option linter.unusedVariables false
set_option maxRecDepth 100000

end Go.Proofs.Ytlpafnaokpjoiaa

namespace Go.Proofs.Ytlpafnaokpjoiaa
open Go.RowKit Go.Deep
set_option linter.unusedSimpArgs false
set_option linter.unusedVariables false
set_option maxRecDepth 100000

/-- The literal number i of a slice of literals, as a value. -/
theorem LitsAt.one {w : World} {B n i : Nat} {A : Option Addr} {ls : List Lt} (h : LitsAt w B A n ls) (hi : i < n) :
    ∃ b off A' c, A = some ⟨b, off, none⟩ ∧ b < B ∧ w.cell? ⟨b, off + i * 2, none⟩ = some (.bool (ltAt ls i).neg) ∧ w.cell? ⟨b, off + i * 2 + 1, none⟩ = some (.slice A' (ltAt ls i).atom.length c) ∧ LitAt w B A' (ltAt ls i).atom.length c (ltAt ls i) := by
  obtain ⟨b, off, e, hb, hc⟩ := h.at_ (by omega)
  obtain ⟨h1, A', c, h2, h3, h4⟩ := hc i hi
  exact ⟨b, off, A', c, e, hb, h1, h2, h4, h3, h.fit i hi⟩
theorem LMor.of_k {ss : List Sym} {p q : Lt} {k : Int} (h : LitKR ss p q k) : k = 2 ↔ LMor ss p q := by
  rcases h with ⟨h, rfl⟩ | ⟨h, rfl⟩ | ⟨h, rfl⟩ | ⟨h1, h2, h3, rfl⟩
  · exact ⟨fun x => by omega, fun x => absurd h x.ne⟩
  · exact ⟨fun _ => h, fun _ => rfl⟩
  · exact ⟨fun x => by omega, fun x => (x.asymm h).elim⟩
  · exact ⟨fun x => by omega, fun x => absurd x h2⟩

theorem topsOk_not {ss : List Sym} {ls : List Lt} {k : Nat} (hk : k < ls.length) (h : litB ss (ltAt ls k) = false) : topsOk ss ls = false := by
  unfold topsOk
  rw [Bool.and_eq_false_iff]
  right
  rw [List.all_eq_false]
  exact ⟨_, ltAt_mem hk, by rw [h]; simp⟩
theorem topsOk_yes {ss : List Sym} {ls : List Lt} (hm : mayB ss = true) (h : ∀ j, j < ls.length → litB ss (ltAt ls j) = true) : topsOk ss ls = true := by
  unfold topsOk
  rw [hm, Bool.true_and, List.all_eq_true]
  intro p hp
  obtain ⟨j, hj, rfl⟩ := mem_ltAt hp
  exact h j hj
theorem topsR_no {ss : List Sym} {ls : List Lt} (h : topsOk ss ls = false) : topsR ss ls = [] := by unfold topsR; rw [h]; rfl
theorem topsE_no {ss : List Sym} {ls : List Lt} (h : topsOk ss ls = false) : topsE ss ls = 700 := by unfold topsE; rw [h]; rfl
theorem topsR_yes {ss : List Sym} {ls : List Lt} (h : topsOk ss ls = true) : topsR ss ls = topsN ss ls ls.length := by unfold topsR; rw [h]; rfl
theorem topsE_yes {ss : List Sym} {ls : List Lt} (h : topsOk ss ls = true) : topsE ss ls = 0 := by unfold topsE; rw [h]; rfl
def TopsPost (ss : List Sym) (ls : List Lt) (w : World) (e : Ending) (w' : World) : Prop := IntsPost (topsR ss ls) (topsE ss ls) w e w'
theorem TopsPost.bad {ss : List Sym} {ls : List Lt} {w w' : World} (h : topsOk ss ls = false) (hb : Below w.heap.size w w') : TopsPost ss ls w (.returned (.tuple #[.slice none 0 0, .int .i64 700])) w' :=
  ⟨_, by rw [topsE_no h], by rw [topsR_no h]; exact OwnI.nil_, hb⟩

end Go.Proofs.Ytlpafnaokpjoiaa
