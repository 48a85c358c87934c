/-
  Words for memory: a slice of symbols that reads as a list of symbols (nil let in), kept below a block.
-/
import Derived.Below
import Derived.Laws.OwnMore
import Derived.Deep.AppendLies
import Derived.Deep.Draws
import Derived.Test.YtlmpapdpmmkjnaaPlainSym
namespace Go.Proofs.Ytlmpapdpmmkjnaa
open Go.RowKit
set_option linter.unusedSimpArgs false
set_option linter.unusedVariables false

/-- The slice value '.slice A n _' holds the symbols ss; its cells lie below block B. -/
structure SymsAt (w : World) (B : Nat) (A : Option Addr) (n : Nat) (ss : List Sym) : Prop where
  len : ss.length = n
  at_ : 0 < n → ∃ b off, A = some ⟨b, off, none⟩ ∧ b < B ∧ ∀ i, i < n →
    w.cell? ⟨b, off + i * 4, none⟩ = some (.string (symAt ss i).name) ∧
    w.cell? ⟨b, off + i * 4 + 1, none⟩ = some (.int .i64 (symAt ss i).kind) ∧
    w.cell? ⟨b, off + i * 4 + 2, none⟩ = some (.int .i64 (symAt ss i).arity) ∧
    w.cell? ⟨b, off + i * 4 + 3, none⟩ = some (.int .i64 (symAt ss i).weight)
  fit : ∀ i, i < n → (symAt ss i).name.size ≤ maxLen

section
variable {w w' : World} {B B' n : Nat} {A : Option Addr} {ss : List Sym}
theorem SymsAt.keep (h : SymsAt w B A n ss) (hk : ∀ p : Addr, p.block < B → w'.cell? p = w.cell? p) : SymsAt w' B A n ss :=
  ⟨h.len, fun hn => by
    obtain ⟨b, off, e, hb, hc⟩ := h.at_ hn
    refine ⟨b, off, e, hb, fun i hi => ?_⟩
    rw [hk ⟨b, _, none⟩ hb, hk ⟨b, _, none⟩ hb, hk ⟨b, _, none⟩ hb, hk ⟨b, _, none⟩ hb]
    exact hc i hi, h.fit⟩
theorem SymsAt.below (h : SymsAt w B A n ss) (hb : Below B w w') : SymsAt w' B A n ss := h.keep fun _ hp => hb.cell hp
theorem SymsAt.more (h : SymsAt w B A n ss) (hB : B ≤ B') : SymsAt w B' A n ss :=
  ⟨h.len, fun hn => by
    obtain ⟨b, off, e, hb, hc⟩ := h.at_ hn
    exact ⟨b, off, e, by omega, hc⟩, h.fit⟩
theorem SymsAt.drewN (h : SymsAt w B A n ss) (k : Nat) : SymsAt (w.drewN k) B A n ss := ⟨h.len, h.at_, h.fit⟩
theorem SymsAt.drew (h : SymsAt w B A n ss) : SymsAt w.drew B A n ss := ⟨h.len, h.at_, h.fit⟩
theorem SymsAt.nil_ : SymsAt w B A 0 [] := ⟨rfl, fun h => absurd h (by omega), fun _ h => absurd h (by omega)⟩
theorem SymsAt.take {i : Nat} (h : SymsAt w B A n ss) (hi : i ≤ n) : SymsAt w B A i (ss.take i) :=
  ⟨by have := h.len; simp; omega, fun hp => by
    obtain ⟨b, off, e, hb, hc⟩ := h.at_ (by omega)
    exact ⟨b, off, e, hb, fun j hj => by rw [symAt_take hj]; exact hc j (by omega)⟩,
   fun j hj => by rw [symAt_take hj]; exact h.fit j (by omega)⟩
theorem symAt_drop {k i : Nat} : symAt (ss.drop k) i = symAt ss (k + i) := by
  unfold symAt; rw [List.getD_eq_getElem?_getD, List.getD_eq_getElem?_getD, List.getElem?_drop]
theorem SymsAt.drop {b off k : Nat} (h : SymsAt w B (some ⟨b, off, none⟩) n ss) (hk : k ≤ n) : SymsAt w B (some ⟨b, off + k * 4, none⟩) (n - k) (ss.drop k) :=
  ⟨by have := h.len; simp; omega, fun hp => by
    obtain ⟨b', off', e, hb, hc⟩ := h.at_ (by omega)
    injection e with e
    injection e with e1 e2
    subst e1; subst e2
    refine ⟨b, off + k * 4, rfl, hb, fun j hj => ?_⟩
    rw [symAt_drop]
    have := hc (k + j) (by omega)
    have e : off + k * 4 + j * 4 = off + (k + j) * 4 := by omega
    rw [e]; exact this,
   fun j hj => by rw [symAt_drop]; exact h.fit _ (by omega)⟩
end

theorem below_new (w : World) (o : Obj) : Below w.heap.size w (w.alloc o) := (Below.refl _ _).alloc (Nat.le_refl _) o
theorem SymsAt.new {w : World} {A : Option Addr} {n : Nat} {ss : List Sym} (h : SymsAt w w.heap.size A n ss) (o : Obj) : SymsAt (w.alloc o) (w.alloc o).heap.size A n ss :=
  (h.below (below_new w o)).more (by simp)
theorem SymsAt.on {w w' : World} {A : Option Addr} {n : Nat} {ss : List Sym} (h : SymsAt w w.heap.size A n ss) (hb : Below w.heap.size w w') : SymsAt w' w'.heap.size A n ss :=
  (h.below hb).more hb.size

end Go.Proofs.Ytlmpapdpmmkjnaa
