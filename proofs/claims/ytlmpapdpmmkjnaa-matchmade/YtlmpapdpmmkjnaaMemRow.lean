/-
  Words for memory: a slice of one-cell elements (integers, strings) that reads as a list, nil let in.
-/
import Derived.Below
import Derived.Laws.OwnMore
import Derived.Deep.AppendLies
import Derived.Deep.Draws
import Derived.WalkKit
namespace Go.Proofs.Ytlmpapdpmmkjnaa
open Go.RowKit
set_option linter.unusedSimpArgs false
set_option linter.unusedVariables false

/-- The string, the integer at a place of a list; an empty one, 0 behind the end. -/
def strAt (xs : List ByteArray) (i : Nat) : ByteArray := xs.getD i ByteArray.empty
def intAt (xs : List Int) (i : Nat) : Int := xs.getD i 0
/-- The slice value '.slice A n _' holds the one-cell values 'f 0, .., f (n - 1)'; its cells lie below block B. -/
def ValsAt (w : World) (B : Nat) (A : Option Addr) (n : Nat) (f : Nat → Value) : Prop :=
  0 < n → ∃ b off, A = some ⟨b, off, none⟩ ∧ b < B ∧ ∀ i, i < n → w.cell? ⟨b, off + i, none⟩ = some (f i)
section
variable {w w' : World} {B B' n : Nat} {A : Option Addr} {f : Nat → Value}
theorem ValsAt.keep (h : ValsAt w B A n f) (hk : ∀ p : Addr, p.block < B → w'.cell? p = w.cell? p) : ValsAt w' B A n f := fun hn => by
  obtain ⟨b, off, e, hb, hc⟩ := h hn
  exact ⟨b, off, e, hb, fun i hi => by rw [hk ⟨b, _, none⟩ hb]; exact hc i hi⟩
theorem ValsAt.below (h : ValsAt w B A n f) (hb : Below B w w') : ValsAt w' B A n f := h.keep fun _ hp => hb.cell hp
theorem ValsAt.more (h : ValsAt w B A n f) (hB : B ≤ B') : ValsAt w B' A n f := fun hn => by
  obtain ⟨b, off, e, hb, hc⟩ := h hn
  exact ⟨b, off, e, by omega, hc⟩
theorem ValsAt.on (h : ValsAt w w.heap.size A n f) (hb : Below w.heap.size w w') : ValsAt w' w'.heap.size A n f := (h.below hb).more hb.size
theorem ValsAt.drewN (h : ValsAt w B A n f) (k : Nat) : ValsAt (w.drewN k) B A n f := h
theorem ValsAt.nil_ : ValsAt w B A 0 f := fun h => absurd h (by omega)
end
theorem addr_plus (b off j : Nat) : ((⟨b, off, none⟩ : Addr).add j) = ⟨b, off + j, none⟩ := by
  unfold Addr.add; by_cases e0 : j = 0 <;> simp [e0]
theorem own_get {w : World} {base g n cap : Nat} {e : TypeId} {xs : List Value} (h : w.ownsRow base e 1 (.slice (some ⟨g, 0, none⟩) n cap) n xs) (i : Nat) (hi : i < n) : w.cell? ⟨g, i, none⟩ = xs[i]? :=
  h.cellAt i (by omega)

end Go.Proofs.Ytlmpapdpmmkjnaa
