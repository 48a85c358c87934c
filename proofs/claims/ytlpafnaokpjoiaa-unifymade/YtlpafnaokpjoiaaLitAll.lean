/-
  Contracts: lit.May, lit.Weight, lit.compare, lit.Compare.
-/
import Derived.Test.YtlpafnaokpjoiaaOrderAll2
import Derived.Test.YtlpafnaokpjoiaaMemLits
namespace Go.Proofs.Ytlpafnaokpjoiaa
open Go.RowKit
set_option linter.unusedSimpArgs false
set_option linter.unusedVariables false
set_option maxRecDepth 100000

/-- Which of two literals is more, told by a number. -/
def LitKR (ss : List Sym) (p q : Lt) (k : Int) : Prop := (p = q ∧ k = 1) ∨ (LMor ss p q ∧ k = 2) ∨ (LMor ss q p ∧ k = 0) ∨ (p.atom ≠ q.atom ∧ ¬ LMor ss p q ∧ ¬ LMor ss q p ∧ k = 3)
theorem LitKR.litR {ss : List Sym} {p q : Lt} {k : Int} (h : LitKR ss p q k) (hp : litB ss p = true) (hq : litB ss q = true) : LitR ss p q 0 k := .inr ⟨by rw [hp, hq]; rfl, rfl, h⟩
theorem LitR.kr {ss : List Sym} {p q : Lt} {k : Int} (h : LitR ss p q 0 k) : LitKR ss p q k := by
  rcases h with ⟨_, h, _⟩ | ⟨_, _, h⟩
  · cases h
  · exact h
def LitKPost (ss : List Sym) (p q : Lt) (w : World) (e : Ending) (w' : World) : Prop := ∃ k : Int, e = .returned (.int .i64 k) ∧ LitKR ss p q k ∧ Below w.heap.size w w'
def LitCPost (ss : List Sym) (p q : Lt) (w : World) (e : Ending) (w' : World) : Prop := ∃ k E : Int, e = .returned (.tuple #[.int .i64 k, .int .i64 E]) ∧ LitR ss p q E k ∧ Below w.heap.size w w'
def litW (ss : List Sym) (p : Lt) : Int := if litB ss p then wtSum ss p.atom else 0
def litE (ss : List Sym) (p : Lt) : Int := if litB ss p then 0 else 700
/-- A literal as a value: its atom in memory. -/
structure LitAt (w : World) (B : Nat) (A : Option Addr) (m c : Nat) (p : Lt) : Prop where
  at_ : IntsAt w B A m p.atom
  cap : m ≤ c
  fit : m * 8 ≤ 140737488351232
section
variable {w w' : World} {B B' m c : Nat} {A : Option Addr} {p : Lt} {ss : List Sym}
theorem LitAt.on (h : LitAt w w.heap.size A m c p) (hb : Below w.heap.size w w') : LitAt w' w'.heap.size A m c p := ⟨h.at_.on hb, h.cap, h.fit⟩
theorem LitAt.new (h : LitAt w w.heap.size A m c p) (o : Obj) : LitAt (w.alloc o) (w.alloc o).heap.size A m c p := h.on (below_new w o)
theorem LitAt.more (h : LitAt w B A m c p) (hB : B ≤ B') : LitAt w B' A m c p := ⟨h.at_.more hB, h.cap, h.fit⟩
theorem LitAt.below (h : LitAt w B A m c p) (hb : Below B w w') : LitAt w' B A m c p := ⟨h.at_.below hb, h.cap, h.fit⟩
theorem LitAt.big (h : LitAt w B A m c p) : m ≤ maxLen := by have := h.fit; unfold maxLen; omega
theorem LitAt.ex (h : LitAt w B A m c p) (hp : litB ss p = true) : ExAt w B A m c p.atom := ExAt.of_atom h.at_ h.cap hp
theorem two_boxes (w : World) (a b : Array Value) (t : TypeId) : (∀ i, i < a.size → ((w.alloc (.cells a t)).alloc (.cells b t)).cell? ⟨w.heap.size, i, none⟩ = a[i]?) ∧ (∀ i, ((w.alloc (.cells a t)).alloc (.cells b t)).cell? ⟨w.heap.size + 1, i, none⟩ = b[i]?) ∧ ((w.alloc (.cells a t)).alloc (.cells b t)).heap.size = w.heap.size + 2 := by
  refine ⟨fun i hi => ?_, fun i => ?_, by simp⟩
  · rw [(below_new (w.alloc (.cells a t)) _).cell (p := ⟨w.heap.size, i, none⟩) (by simp), World.cell?_alloc_new]
  · have e : (w.alloc (.cells a t)).heap.size = w.heap.size + 1 := by simp
    rw [← e, World.cell?_alloc_new]
theorem LitAt.few (h : LitAt w B A m c p) (hp : litB ss p = true) : m ≤ 49 := (h.ex hp).few
end
end Go.Proofs.Ytlpafnaokpjoiaa
