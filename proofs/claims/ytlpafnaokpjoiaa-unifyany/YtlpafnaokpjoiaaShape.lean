/-
  Words for memory: a row. Contracts: shape.FirstTerm, and slices.Equal for rows of integers.
-/
import Derived.Test.YtlpafnaokpjoiaaPlainUni
import Derived.Test.YtlpafnaokpjoiaaBaseMore
import Derived.Test.YtlpafnaokpjoiaaBaseTerm
import Derived.Test.YtlpafnaokpjoiaaBaseSym
import Derived.BigQuiet
import Derived.Lib.SliceRun
namespace Go.Proofs.Ytlpafnaokpjoiaa
open Go.RowKit
set_option linter.unusedSimpArgs false
set_option linter.unusedVariables false
set_option maxRecDepth 100000

/-- The slice value '.slice A n c' holds the row r, below block base. -/
structure RowAt (w : World) (base : Nat) (A : Option Addr) (n c : Nat) (r : List Int) : Prop where
  at_ : IntsAt w base A n r
  cap : n ≤ c
  few : n ≤ 48
def RowV (w : World) (base : Nat) (v : Value) (r : List Int) : Prop := ∃ A n c, v = .slice A n c ∧ RowAt w base A n c r
section
variable {w w' : World} {base sb : Nat} {A : Option Addr} {n c : Nat} {r : List Int} {u : Value}
theorem RowAt.keep (h : RowAt w base A n c r) (hk : ∀ p : Addr, p.block < base → w'.cell? p = w.cell? p) : RowAt w' base A n c r := ⟨h.at_.keep hk, h.cap, h.few⟩
theorem RowV.keep (h : RowV w base u r) (hk : ∀ p : Addr, p.block < base → w'.cell? p = w.cell? p) : RowV w' base u r := by
  obtain ⟨A, n, c, e, h⟩ := h
  exact ⟨A, n, c, e, h.keep hk⟩
theorem RowAt.below (h : RowAt w base A n c r) (hb : Below base w w') : RowAt w' base A n c r := h.keep fun _ hp => hb.cell hp
theorem grown_of_below {row : Option Nat} (h : Below w.heap.size w w') : w.grownBy w' row := ⟨h.os, h.tape, h.output, h.size, fun k hk _ => h.block k hk⟩
theorem grown_trans {row : Option Nat} {w2 : World} (h : w.grownBy w' row) (k : w'.grownBy w2 row) : w.grownBy w2 row :=
  ⟨k.os.trans h.os, k.tape.trans h.tape, k.output.trans h.output, Nat.le_trans h.size k.size, fun i hi hr => (k.block i (Nat.lt_of_lt_of_le hi h.size) hr).trans (h.block i hi hr)⟩
theorem grown_refl {row : Option Nat} : w.grownBy w row := ⟨rfl, rfl, rfl, Nat.le_refl _, fun _ _ _ => rfl⟩
theorem RowAt.grown (h : RowAt w base A n c r) (hg : w.grownBy w' (some sb)) (hle : base ≤ sb) (hw : base ≤ w.heap.size) : RowAt w' base A n c r :=
  h.keep fun p hp => World.cell?_of_block (w := w) (hg.block p.block (by omega) (by simp; omega))
theorem RowAt.var {v : Nat} (h : RowAt w base A n c [-1 - (v : Int)]) : n = 1 ∧ ∃ b off, A = some ⟨b, off, none⟩ ∧ b < base ∧ w.cell? ⟨b, off, none⟩ = some (.int .i64 (-1 - (v : Int))) := by
  have hl := h.at_.len
  have hn : n = 1 := by rw [← hl]; rfl
  subst hn
  obtain ⟨b, off, e, hb, hc⟩ := h.at_.at_ (by omega)
  refine ⟨rfl, b, off, e, hb, ?_⟩
  have := hc 0 (by omega)
  rw [Nat.add_zero] at this
  exact this
theorem RowAt.head {x : Int} {s : List Int} (h : RowAt w base A n c (x :: s)) : ∃ b off, A = some ⟨b, off, none⟩ ∧ b < base ∧ w.cell? ⟨b, off, none⟩ = some (.int .i64 x) ∧ n = s.length + 1 := by
  have hl := h.at_.len
  have hn : n = s.length + 1 := by rw [← hl]; rfl
  obtain ⟨b, off, e, hb, hc⟩ := h.at_.at_ (by omega)
  refine ⟨b, off, e, hb, ?_, hn⟩
  have := hc 0 (by omega)
  rw [Nat.add_zero] at this
  exact this
end

end Go.Proofs.Ytlpafnaokpjoiaa
