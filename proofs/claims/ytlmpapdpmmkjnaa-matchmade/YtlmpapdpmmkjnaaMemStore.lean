/-
  Words for memory: the reference's store.
-/
import Derived.Test.YtlmpapdpmmkjnaaPlainUni
import Derived.Test.YtlmpapdpmmkjnaaMemBinds
import Derived.Test.YtlmpapdpmmkjnaaHelpInts
import Derived.Test.YtlmpapdpmmkjnaaHeld
import Derived.Test.YtlmpapdpmmkjnaaRefEnd
import Derived.BigQuiet
namespace Go.Proofs.Ytlmpapdpmmkjnaa
open Go.RowKit
set_option linter.unusedSimpArgs false
set_option linter.unusedVariables false
set_option maxRecDepth 100000

/-- The slice value '.slice A n c' holds the row r, below block base. -/
structure RowAt (w : World) (base : Nat) (A : Option Addr) (n c : Nat) (r : List Int) : Prop where
  at_ : IntsAt w base A n r
  cap : n ≤ c
  few : n ≤ 48
def RowV (w : World) (base : Nat) (v : Value) (r : List Int) : Prop := ∃ A n c, v = .slice A n c ∧ RowAt w base A n c r
/-- The store in block sb: what stands for each variable; its rows lie below base. -/
structure StoreAt (w : World) (base sb : Nat) (T : Nat → List Int) : Prop where
  blk : ∃ cs : Array Value, w.heap[sb]? = some (.cells cs 77 (0, 0)) ∧ cs.size = 48 ∧ ∀ v, v < 48 → ∃ u, cs[v]? = some u ∧ RowV w base u (T v)
  le : base ≤ sb
section
variable {w w' : World} {base sb : Nat} {T : Nat → List Int} {A : Option Addr} {n c : Nat} {r : List Int} {u : Value}
theorem RowAt.keep (h : RowAt w base A n c r) (hk : ∀ p : Addr, p.block < base → w'.cell? p = w.cell? p) : RowAt w' base A n c r := ⟨h.at_.keep hk, h.cap, h.few⟩
theorem RowV.keep (h : RowV w base u r) (hk : ∀ p : Addr, p.block < base → w'.cell? p = w.cell? p) : RowV w' base u r := by
  obtain ⟨A, n, c, e, h⟩ := h
  exact ⟨A, n, c, e, h.keep hk⟩
theorem RowAt.below (h : RowAt w base A n c r) (hb : Below base w w') : RowAt w' base A n c r := h.keep fun _ hp => hb.cell hp
theorem StoreAt.lt (h : StoreAt w base sb T) : sb < w.heap.size := by
  obtain ⟨cs, h1, _⟩ := h.blk
  exact (Array.getElem?_eq_some_iff.1 h1).1
theorem StoreAt.on (h : StoreAt w base sb T) (hb : Below w.heap.size w w') : StoreAt w' base sb T := by
  have hlt := h.lt
  have hle := h.le
  obtain ⟨cs, h1, h2, h3⟩ := h.blk
  refine ⟨⟨cs, by rw [hb.block sb hlt]; exact h1, h2, fun v hv => ?_⟩, hle⟩
  obtain ⟨u, e, hu⟩ := h3 v hv
  exact ⟨u, e, hu.keep fun p hp => hb.cell (by omega)⟩
theorem StoreAt.cell (h : StoreAt w base sb T) {v : Nat} (hv : v < 48) : ∃ A n c, w.cell? ⟨sb, v, none⟩ = some (.slice A n c) ∧ RowAt w base A n c (T v) := by
  obtain ⟨cs, h1, h2, h3⟩ := h.blk
  obtain ⟨u, e, A, n, c, rfl, hr⟩ := h3 v hv
  exact ⟨A, n, c, by rw [cell_of_row _ _ v _ _ _ h1]; exact e, hr⟩
theorem StoreAt.frozen (h : StoreAt w base sb T) (v : Nat) : w.frozen? ⟨sb, v, none⟩ = false := by
  obtain ⟨cs, h1, _⟩ := h.blk
  exact frozen_of_row _ _ _ _ _ h1
theorem StoreAt.put (h : StoreAt w base sb T) {v : Nat} (hv : v < 48) (hr : RowAt w base A n c r) : StoreAt (w.setCell ⟨sb, v, none⟩ (.slice A n c)) base sb (bindV T v r) ∧ w.grownBy (w.setCell ⟨sb, v, none⟩ (.slice A n c)) (some sb) := by
  have hle := h.le
  obtain ⟨cs, h1, h2, h3⟩ := h.blk
  have hk : ∀ p : Addr, p.block < base → (w.setCell ⟨sb, v, none⟩ (.slice A n c)).cell? p = w.cell? p := fun p hp => World.cell?_of_block (w := w) (Below.heap_setCell _ _ _ _ (by show p.block ≠ sb; omega))
  refine ⟨⟨⟨_, heap_setCell_same w sb v cs _ (.slice A n c) h1, by simp [h2], fun x hx => ?_⟩, hle⟩, ⟨rfl, rfl, rfl, by simp, fun k _ hk => heap_setCell_other w ⟨sb, v, none⟩ k _ (fun e => hk (by simp [e]))⟩⟩
  by_cases e : x = v
  · subst e
    refine ⟨.slice A n c, by rw [Array.getElem?_setIfInBounds]; simp [h2, hv], ?_⟩
    rw [bindV_at]
    exact ⟨A, n, c, rfl, hr.keep hk⟩
  · obtain ⟨u, e1, hu⟩ := h3 x hx
    refine ⟨u, by rw [Array.getElem?_setIfInBounds, if_neg (fun h => e h.symm)]; exact e1, ?_⟩
    rw [bindV_ne _ _ e]
    exact hu.keep hk
theorem grown_of_below {row : Option Nat} (h : Below w.heap.size w w') : w.grownBy w' row := ⟨h.os, h.tape, h.output, h.size, fun k hk _ => h.block k hk⟩
theorem grown_trans {row : Option Nat} {w2 : World} (h : w.grownBy w' row) (k : w'.grownBy w2 row) : w.grownBy w2 row :=
  ⟨k.os.trans h.os, k.tape.trans h.tape, k.output.trans h.output, Nat.le_trans h.size k.size, fun i hi hr => (k.block i (Nat.lt_of_lt_of_le hi h.size) hr).trans (h.block i hi hr)⟩
theorem grown_refl {row : Option Nat} : w.grownBy w row := ⟨rfl, rfl, rfl, Nat.le_refl _, fun _ _ _ => rfl⟩
theorem RowAt.grown (h : RowAt w base A n c r) (hg : w.grownBy w' (some sb)) (hle : base ≤ sb) (hw : base ≤ w.heap.size) : RowAt w' base A n c r :=
  h.keep fun p hp => World.cell?_of_block (w := w) (hg.block p.block (by omega) (by simp; omega))
theorem RowAt.var {v : Nat} (h : RowAt w base A n c [-1 - (v : Int)]) : n = 1 ∧ ∃ b off, A = some ⟨b, off, none⟩ ∧ b < base ∧ w.cell? ⟨b, off, none⟩ = some (.int .i64 (-1 - (v : Int))) := by
  have hl := h.at_.len
  have hn : n = 1 := by rw [← hl]; rfl
  subst hn
  obtain ⟨b, off, e, hb, hc⟩ := h.at_.at_ (by omega)
  refine ⟨rfl, b, off, e, hb, ?_⟩
  have := hc 0 (by omega)
  rw [Nat.add_zero] at this
  exact this
theorem RowAt.head {x : Int} {s : List Int} (h : RowAt w base A n c (x :: s)) : ∃ b off, A = some ⟨b, off, none⟩ ∧ b < base ∧ w.cell? ⟨b, off, none⟩ = some (.int .i64 x) ∧ n = s.length + 1 := by
  have hl := h.at_.len
  have hn : n = s.length + 1 := by rw [← hl]; rfl
  obtain ⟨b, off, e, hb, hc⟩ := h.at_.at_ (by omega)
  refine ⟨b, off, e, hb, ?_, hn⟩
  have := hc 0 (by omega)
  rw [Nat.add_zero] at this
  exact this
end
def noneC : Array Value := (List.replicate 48 (Value.slice none 0 0)).toArray
theorem noneC_lit : noneC = #[.slice none 0 0, .slice none 0 0, .slice none 0 0, .slice none 0 0, .slice none 0 0, .slice none 0 0, .slice none 0 0, .slice none 0 0, .slice none 0 0, .slice none 0 0, .slice none 0 0, .slice none 0 0, .slice none 0 0, .slice none 0 0, .slice none 0 0, .slice none 0 0, .slice none 0 0, .slice none 0 0, .slice none 0 0, .slice none 0 0, .slice none 0 0, .slice none 0 0, .slice none 0 0, .slice none 0 0, .slice none 0 0, .slice none 0 0, .slice none 0 0, .slice none 0 0, .slice none 0 0, .slice none 0 0, .slice none 0 0, .slice none 0 0, .slice none 0 0, .slice none 0 0, .slice none 0 0, .slice none 0 0, .slice none 0 0, .slice none 0 0, .slice none 0 0, .slice none 0 0, .slice none 0 0, .slice none 0 0, .slice none 0 0, .slice none 0 0, .slice none 0 0, .slice none 0 0, .slice none 0 0, .slice none 0 0] := rfl
theorem StoreAt.empty (w : World) (base : Nat) (hb : base ≤ w.heap.size) : StoreAt (w.alloc (.cells noneC 77)) base w.heap.size (fun _ => []) := by
  refine ⟨⟨noneC, heap_alloc_new _ _, by simp [noneC], fun v hv => ⟨.slice none 0 0, by show (List.replicate 48 (Value.slice none 0 0)).toArray[v]? = _; rw [List.getElem?_toArray, List.getElem?_replicate, if_pos hv], none, 0, 0, rfl, IntsAt.nil_, Nat.le_refl _, by omega⟩⟩, hb⟩
theorem tK_no {ss : List Sym} {r : List Int} (hm : mayB ss = true) (h : rowB ss r = false) : termsK ss r = -1 := by
  unfold rowB at h; rw [hm, Bool.true_and] at h; unfold termsK; rw [h]; rfl
theorem tK_yes {ss : List Sym} {r : List Int} (h : rowB ss r = true) : 0 ≤ termsK ss r := by
  unfold termsK; split <;> simp_all [rowB]
end Go.Proofs.Ytlmpapdpmmkjnaa
