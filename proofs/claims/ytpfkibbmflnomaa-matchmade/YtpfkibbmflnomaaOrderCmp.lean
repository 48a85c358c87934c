/-
  Contracts: shape.IsAtom, rank.Compare, order.Compare.
-/
import Derived.Test.YtpfkibbmflnomaaOrderMore
namespace Go.Proofs.Ytpfkibbmflnomaa
open Go.RowKit
set_option linter.unusedSimpArgs false
set_option linter.unusedVariables false
set_option maxRecDepth 100000

theorem atomB_cons {ss : List Sym} {c : Int} {r : List Int} : atomB ss (c :: r) = (decide (0 ≤ c) && decide (c.toNat < ss.length) && decide ((symAt ss c.toNat).kind = 0) && rowB ss r && decide (((tlD ss r).length : Int) = (symAt ss c.toNat).arity)) := rfl
/-- A row behind its first code. -/
theorem IntsAt.tail1 {w : World} {B b off n c : Nat} {x : Int} {r : List Int} (h : IntsAt w B (some ⟨b, off, none⟩) n (x :: r)) (hc : n ≤ c) :
    IntsAt w B (if c = 1 then some ⟨b, off, none⟩ else some ⟨b, off + 1, none⟩) (n - 1) r := by
  have hl := h.len
  have hn : n = r.length + 1 := by rw [← hl]; rfl
  by_cases e : c = 1
  · rw [if_pos e]
    have hr : r = [] := List.length_eq_zero_iff.1 (by omega)
    subst hr
    exact ⟨by simp; omega, fun hp => absurd hp (by simp at hn; omega)⟩
  · rw [if_neg e]
    exact h.drop (k := 1) (by omega)

/-- What Compare answers. -/
def OrdPost (ss : List Sym) (a b : List Int) (w : World) (e : Ending) (w' : World) : Prop :=
  ∃ k E : Int, e = .returned (.tuple #[.int .i64 k, .int .i64 E]) ∧ CmpR ss a b E k ∧ Below w.heap.size w w'
theorem ExAt.on {w w' : World} {A : Option Addr} {n c : Nat} {a : List Int} (h : ExAt w w.heap.size A n c a) (hb : Below w.heap.size w w') : ExAt w' w'.heap.size A n c a := ⟨h.at_.on hb, h.cap, h.few⟩
theorem ExAt.of_one {w : World} {base : Nat} {A : Option Addr} {n c : Nat} {a : List Int} {ss : List Sym} (h : IntsAt w base A n a) (hc : n ≤ c) (ho : oneB ss a = true) : ExAt w base A n c a := by
  have hl := h.len
  have := (row_parts (one_parts ho).1).2.1
  exact ⟨h, hc, by omega⟩
theorem ExAt.of_atom {w : World} {base : Nat} {A : Option Addr} {n c : Nat} {a : List Int} {ss : List Sym} (h : IntsAt w base A n a) (hc : n ≤ c) (ho : atomB ss a = true) : ExAt w base A n c a := by
  have hl := h.len
  obtain ⟨c0, r, rfl, _, _, _, h5, _⟩ := atom_parts ho
  have := (row_parts h5).2.1
  simp at hl
  exact ⟨h, hc, by omega⟩
theorem OrdPost.bad {ss : List Sym} {a b : List Int} {w w' : World} (h : exB ss a b = false) (hb : Below w.heap.size w w') : OrdPost ss a b w (.returned (.tuple #[.int .i64 0, .int .i64 600])) w' :=
  ⟨0, 600, rfl, .inl ⟨h, rfl, rfl⟩, hb⟩
theorem exB_no {ss : List Sym} {a b : List Int} (h1 : (oneB ss a && oneB ss b) = false) (h2 : (atomB ss a && atomB ss b) = false) : exB ss a b = false := by unfold exB; rw [h1, h2]; rfl

/-- Of two expressions: which is more. -/
def CmpK (ss : List Sym) (a b : List Int) (k : Int) : Prop := (a = b ∧ k = 1) ∨ (Mor ss a b ∧ k = 2) ∨ (Mor ss b a ∧ k = 0) ∨ (a ≠ b ∧ ¬ Mor ss a b ∧ ¬ Mor ss b a ∧ k = 3)
def RankPost (ss : List Sym) (a b : List Int) (w : World) (e : Ending) (w' : World) : Prop := ∃ k : Int, e = .returned (.int .i64 k) ∧ CmpK ss a b k ∧ Below w.heap.size w w'
theorem CmpK.cmpR {ss : List Sym} {a b : List Int} {k : Int} (h : CmpK ss a b k) (he : exB ss a b = true) : CmpR ss a b 0 k := .inr ⟨he, rfl, h⟩

end Go.Proofs.Ytpfkibbmflnomaa
