/-
  Words for memory: the reference's store.
-/
import Derived.Test.YtlpafnaokpjoiaaShape
import Derived.Test.YtlpafnaokpjoiaaPlainUni
import Derived.Test.YtlpafnaokpjoiaaBaseBind
import Derived.Test.YtlpafnaokpjoiaaBaseTerm
import Derived.Test.YtlpafnaokpjoiaaBaseSym
import Derived.BigQuiet
namespace Go.Proofs.Ytlpafnaokpjoiaa
open Go.RowKit
set_option linter.unusedSimpArgs false
set_option linter.unusedVariables false
set_option maxRecDepth 100000

/-- The store in block sb: what stands for each variable; its rows lie below base. -/
structure StoreAt (w : World) (base sb : Nat) (T : Nat → List Int) : Prop where
  blk : ∃ cs : Array Value, w.heap[sb]? = some (.cells cs 80 (0, 0)) ∧ cs.size = 48 ∧ ∀ v, v < 48 → ∃ u, cs[v]? = some u ∧ RowV w base u (T v)
  le : base ≤ sb
section
variable {w w' : World} {base sb : Nat} {T : Nat → List Int} {A : Option Addr} {n c : Nat} {r : List Int} {u : Value}
theorem StoreAt.lt (h : StoreAt w base sb T) : sb < w.heap.size := by
  obtain ⟨cs, h1, _⟩ := h.blk
  exact (Array.getElem?_eq_some_iff.1 h1).1
theorem StoreAt.on (h : StoreAt w base sb T) (hb : Below w.heap.size w w') : StoreAt w' base sb T := by
  have hlt := h.lt
  have hle := h.le
  obtain ⟨cs, h1, h2, h3⟩ := h.blk
  refine ⟨⟨cs, by rw [hb.block sb hlt]; exact h1, h2, fun v hv => ?_⟩, hle⟩
  obtain ⟨u, e, hu⟩ := h3 v hv
  exact ⟨u, e, hu.keep fun p hp => hb.cell (by omega)⟩
theorem StoreAt.cell (h : StoreAt w base sb T) {v : Nat} (hv : v < 48) : ∃ A n c, w.cell? ⟨sb, v, none⟩ = some (.slice A n c) ∧ RowAt w base A n c (T v) := by
  obtain ⟨cs, h1, h2, h3⟩ := h.blk
  obtain ⟨u, e, A, n, c, rfl, hr⟩ := h3 v hv
  exact ⟨A, n, c, by rw [cell_of_row _ _ v _ _ _ h1]; exact e, hr⟩
theorem StoreAt.frozen (h : StoreAt w base sb T) (v : Nat) : w.frozen? ⟨sb, v, none⟩ = false := by
  obtain ⟨cs, h1, _⟩ := h.blk
  exact frozen_of_row _ _ _ _ _ h1
theorem StoreAt.put (h : StoreAt w base sb T) {v : Nat} (hv : v < 48) (hr : RowAt w base A n c r) : StoreAt (w.setCell ⟨sb, v, none⟩ (.slice A n c)) base sb (bindV T v r) ∧ w.grownBy (w.setCell ⟨sb, v, none⟩ (.slice A n c)) (some sb) := by
  have hle := h.le
  obtain ⟨cs, h1, h2, h3⟩ := h.blk
  have hk : ∀ p : Addr, p.block < base → (w.setCell ⟨sb, v, none⟩ (.slice A n c)).cell? p = w.cell? p := fun p hp => World.cell?_of_block (w := w) (Below.heap_setCell _ _ _ _ (by show p.block ≠ sb; omega))
  refine ⟨⟨⟨_, heap_setCell_same w sb v cs _ (.slice A n c) h1, by simp [h2], fun x hx => ?_⟩, hle⟩, ⟨rfl, rfl, rfl, by simp, fun k _ hk => heap_setCell_other w ⟨sb, v, none⟩ k _ (fun e => hk (by simp [e]))⟩⟩
  by_cases e : x = v
  · subst e
    refine ⟨.slice A n c, by rw [Array.getElem?_setIfInBounds]; simp [h2, hv], ?_⟩
    rw [bindV_at]
    exact ⟨A, n, c, rfl, hr.keep hk⟩
  · obtain ⟨u, e1, hu⟩ := h3 x hx
    refine ⟨u, by rw [Array.getElem?_setIfInBounds, if_neg (fun h => e h.symm)]; exact e1, ?_⟩
    rw [bindV_ne _ _ e]
    exact hu.keep hk
end
def noneC : Array Value := (List.replicate 48 (Value.slice none 0 0)).toArray
theorem noneC_lit : noneC = #[.slice none 0 0, .slice none 0 0, .slice none 0 0, .slice none 0 0, .slice none 0 0, .slice none 0 0, .slice none 0 0, .slice none 0 0, .slice none 0 0, .slice none 0 0, .slice none 0 0, .slice none 0 0, .slice none 0 0, .slice none 0 0, .slice none 0 0, .slice none 0 0, .slice none 0 0, .slice none 0 0, .slice none 0 0, .slice none 0 0, .slice none 0 0, .slice none 0 0, .slice none 0 0, .slice none 0 0, .slice none 0 0, .slice none 0 0, .slice none 0 0, .slice none 0 0, .slice none 0 0, .slice none 0 0, .slice none 0 0, .slice none 0 0, .slice none 0 0, .slice none 0 0, .slice none 0 0, .slice none 0 0, .slice none 0 0, .slice none 0 0, .slice none 0 0, .slice none 0 0, .slice none 0 0, .slice none 0 0, .slice none 0 0, .slice none 0 0, .slice none 0 0, .slice none 0 0, .slice none 0 0, .slice none 0 0] := rfl
theorem StoreAt.empty (w : World) (base : Nat) (hb : base ≤ w.heap.size) : StoreAt (w.alloc (.cells noneC 80)) base w.heap.size (fun _ => []) := by
  refine ⟨⟨noneC, heap_alloc_new _ _, by simp [noneC], fun v hv => ⟨.slice none 0 0, by show (List.replicate 48 (Value.slice none 0 0)).toArray[v]? = _; rw [List.getElem?_toArray, List.getElem?_replicate, if_pos hv], none, 0, 0, rfl, IntsAt.nil_, Nat.le_refl _, by omega⟩⟩, hb⟩
theorem tK_no {ss : List Sym} {r : List Int} (hm : mayB ss = true) (h : rowB ss r = false) : termsK ss r = -1 := by
  unfold rowB at h; rw [hm, Bool.true_and] at h; unfold termsK; rw [h]; rfl
theorem tK_yes {ss : List Sym} {r : List Int} (h : rowB ss r = true) : 0 ≤ termsK ss r := by
  unfold termsK; split <;> simp_all [rowB]
end Go.Proofs.Ytlpafnaokpjoiaa
