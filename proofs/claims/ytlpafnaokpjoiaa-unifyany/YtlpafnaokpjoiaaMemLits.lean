/-
  Words for memory: a slice of literals that reads as a list of literals, and one that a call has made; an append of one literal.
  Contracts of quaerelaw0: SpoilLits, SameLits, CopyLits; literals written out, in memory.
-/
import Derived.Test.YtlpafnaokpjoiaaBaseMore
import Derived.Test.YtlpafnaokpjoiaaPlainCl
namespace Go.Proofs.Ytlpafnaokpjoiaa
open Go.RowKit Go.Deep
set_option linter.unusedSimpArgs false
set_option linter.unusedVariables false
set_option maxRecDepth 100000

theorem ltAt_left {bs : List Lt} {b : Lt} {i : Nat} (h : i < bs.length) : ltAt (bs ++ [b]) i = ltAt bs i := by
  unfold ltAt; rw [List.getD_eq_getElem?_getD, List.getD_eq_getElem?_getD, List.getElem?_append_left h]
theorem ltAt_right {bs : List Lt} {b : Lt} : ltAt (bs ++ [b]) bs.length = b := by unfold ltAt; simp
set_option linter.unusedSimpArgs false
set_option linter.unusedVariables false
/-- The slice value '.slice A n _' holds the literals bs; its cells, and those of the terms, lie below block B. -/
structure LitsAt (w : World) (B : Nat) (A : Option Addr) (n : Nat) (bs : List Lt) : Prop where
  len : bs.length = n
  at_ : 0 < n → ∃ b off, A = some ⟨b, off, none⟩ ∧ b < B ∧ ∀ i, i < n →
    w.cell? ⟨b, off + i * 2, none⟩ = some (.bool (ltAt bs i).neg) ∧
    ∃ A' c, w.cell? ⟨b, off + i * 2 + 1, none⟩ = some (.slice A' (ltAt bs i).atom.length c) ∧ (ltAt bs i).atom.length ≤ c ∧ IntsAt w B A' (ltAt bs i).atom.length (ltAt bs i).atom
  fit : ∀ i, i < n → (ltAt bs i).atom.length * 8 ≤ 140737488351232
section
variable {w w' : World} {B B' n : Nat} {A : Option Addr} {bs : List Lt}
theorem LitsAt.keep (h : LitsAt w B A n bs) (hk : ∀ p : Addr, p.block < B → w'.cell? p = w.cell? p) : LitsAt w' B A n bs :=
  ⟨h.len, fun hn => by
    obtain ⟨b, off, e, hb, hc⟩ := h.at_ hn
    refine ⟨b, off, e, hb, fun i hi => ?_⟩
    obtain ⟨h1, A', c, h2, h3, h4⟩ := hc i hi
    exact ⟨by rw [hk ⟨b, _, none⟩ hb]; exact h1, A', c, by rw [hk ⟨b, _, none⟩ hb]; exact h2, h3, h4.keep hk⟩, h.fit⟩
theorem LitsAt.below (h : LitsAt w B A n bs) (hb : Below B w w') : LitsAt w' B A n bs := h.keep fun _ hp => hb.cell hp
theorem LitsAt.more (h : LitsAt w B A n bs) (hB : B ≤ B') : LitsAt w B' A n bs :=
  ⟨h.len, fun hn => by
    obtain ⟨b, off, e, hb, hc⟩ := h.at_ hn
    refine ⟨b, off, e, by omega, fun i hi => ?_⟩
    obtain ⟨h1, A', c, h2, h3, h4⟩ := hc i hi
    exact ⟨h1, A', c, h2, h3, h4.more hB⟩, h.fit⟩
theorem LitsAt.on (h : LitsAt w w.heap.size A n bs) (hb : Below w.heap.size w w') : LitsAt w' w'.heap.size A n bs := (h.below hb).more hb.size
theorem LitsAt.drew (h : LitsAt w B A n bs) : LitsAt w.drew B A n bs := h.keep fun _ _ => rfl
theorem LitsAt.nil_ : LitsAt w B A 0 [] := ⟨rfl, fun h => absurd h (by omega), fun _ h => absurd h (by omega)⟩
end
def litCells (bs : List Lt) (vs : List Value) : List Value := (bs.zip vs).flatMap fun p => [.bool p.1.neg, p.2]
theorem litCells_nil : litCells [] [] = [] := rfl
theorem litCells_cons (b : Lt) (bs : List Lt) (u : Value) (vs : List Value) : litCells (b :: bs) (u :: vs) = .bool b.neg :: u :: litCells bs vs := by unfold litCells; simp
theorem litCells_length : ∀ (bs : List Lt) (vs : List Value), vs.length = bs.length → (litCells bs vs).length = bs.length * 2
  | [], [], _ => rfl
  | b :: bs, u :: vs, h => by
    rw [litCells_cons, List.length_cons, List.length_cons, List.length_cons, litCells_length bs vs (by simpa using h)]; omega
theorem litCells_snoc : ∀ (bs : List Lt) (vs : List Value) (b : Lt) (u : Value), vs.length = bs.length → litCells (bs ++ [b]) (vs ++ [u]) = litCells bs vs ++ [.bool b.neg, u]
  | [], [], b, u, _ => rfl
  | a :: bs, x :: vs, b, u, h => by
    rw [List.cons_append, List.cons_append, litCells_cons, litCells_cons, litCells_snoc bs vs b u (by simpa using h)]; rfl
theorem litCells_get : ∀ (bs : List Lt) (vs : List Value), vs.length = bs.length → ∀ i, i < bs.length → (litCells bs vs)[i * 2]? = some (.bool (ltAt bs i).neg) ∧ (litCells bs vs)[i * 2 + 1]? = some (valAt vs i)
  | b :: bs, u :: vs, h, 0, _ => by rw [litCells_cons]; exact ⟨rfl, rfl⟩
  | b :: bs, u :: vs, h, i + 1, hi => by
    rw [litCells_cons]
    have := litCells_get bs vs (by simpa using h) i (by simpa using hi)
    have e : (i + 1) * 2 = i * 2 + 1 + 1 := by omega
    rw [e, List.getElem?_cons_succ, List.getElem?_cons_succ, List.getElem?_cons_succ, List.getElem?_cons_succ]
    exact this
section
variable {w w' : World} {base base' : Nat} {v u : Value} {bs cs : List Lt} {xs : List Int}
end
theorem LitsAt.drewN {w : World} {B n : Nat} {A : Option Addr} {bs : List Lt} (h : LitsAt w B A n bs) (k : Nat) : LitsAt (w.drewN k) B A n bs := h.keep fun _ _ => rfl
set_option linter.unusedSimpArgs false
set_option linter.unusedVariables false
set_option linter.unusedSimpArgs false
set_option linter.unusedVariables false
theorem LitsAt.new {w : World} {A : Option Addr} {n : Nat} {bs : List Lt} (h : LitsAt w w.heap.size A n bs) (o : Obj) : LitsAt (w.alloc o) (w.alloc o).heap.size A n bs := h.on (below_new w o)

end Go.Proofs.Ytlpafnaokpjoiaa
