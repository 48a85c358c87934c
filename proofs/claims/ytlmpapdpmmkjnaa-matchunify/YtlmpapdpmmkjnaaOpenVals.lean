/-
  An argument that is a slice of integers, opened.
-/
import Derived.Test.YtlmpapdpmmkjnaaRow
import Derived.Test.YtlmpapdpmmkjnaaMemRow
import Derived.Deep.Slices
namespace Go.Proofs.Ytlmpapdpmmkjnaa
open Go.ChangeShapes Go.WideShapes Go.ChangeAt Go.RowKit Go.Deep
set_option linter.unusedSimpArgs false
set_option linter.unusedVariables false
set_option maxRecDepth 100000

section
variable {H : Type} {enc : TypeId × Value → H} {w : World} {held : Bool}
/-- A slice of elements of one cell, each read by 'ok'. -/
theorem open_vals {t e : TypeId} {α : Type} (mk : α → Value) (ok : α → Prop) (x0 : α) (by_ : Nat) (hu : Try.prog.underlying t = some (.slice e)) (hc1 : Try.prog.cellsOf e = 1) (hb1 : Try.prog.bytesOf e = by_)
    (hread : ∀ (fuel : Nat) (cs : List Value) (x : DataW H × List MemPlace), DataW.trod enc Try.prog w 0 (fun _ => true) held fuel e cs = some x → ∃ a, cs = [mk a] ∧ ok a)
    {r : Reach} {b0 : Nat} {v : Value} {d : DataW H} {p : List MemPlace} (hv : Value.okWide Try.prog w r b0 t v) (h : DataW.Trod enc Try.prog w 0 (fun _ => true) held t v d p)
    (hsz : ∀ elems spare, d = .slice elems spare → (elems.length + spare.length) * Try.prog.bytesOf e ≤ reachBytes) :
    ∃ (A : Option Addr) (n c : Nat) (xs : List α), v = .slice A n c ∧ (xs.length = n ∧ (∀ i, i < n → ok (xs.getD i x0)) ∧ ValsAt w w.heap.size A n (fun i => mk (xs.getD i x0))) ∧ n ≤ c ∧ c * by_ ≤ 140737488351232 := by
  obtain ⟨A, n, c, rfl⟩ := okWide_slice hu hv
  obtain ⟨fuel, hf⟩ := h
  rcases open_slice hu hf with ⟨hcs, _⟩ | ⟨a, len, cap, m, k, D, Pl, hcs, _, hl, hm, hmm, hx, hi⟩
  · simp [Value.cells] at hcs
    obtain ⟨rfl, rfl, rfl⟩ := hcs
    exact ⟨_, _, _, [], rfl, ⟨rfl, fun i hi => absurd hi (by omega), ValsAt.nil_⟩, Nat.le_refl _, by omega⟩
  · simp [Value.cells] at hcs
    obtain ⟨rfl, rfl, rfl⟩ := hcs
    simp only [if_true] at hmm
    obtain rfl : c = m := hmm.symm
    simp only [Prod.mk.injEq] at hx
    have hb := hsz _ _ hx.1
    rw [hb1] at hb
    simp [reachBytes] at hb
    have hcb : c * by_ ≤ 140737488351232 := by
      have e : n + (c - n) = c := by omega
      rw [e] at hb; exact hb
    have hex : ∀ i, ∃ s : α, i < c → (w.cell? ((a.add (i * 1)).add 0) = some (mk s)) ∧ ok s := by
      intro i
      by_cases hic : i < c
      · obtain ⟨cs', hc, ht⟩ := hi i hic
        rw [hc1] at hc
        obtain ⟨s, rfl, hs⟩ := hread _ _ _ ht
        obtain ⟨_, _, hat⟩ := World.cells?_some hc
        exact ⟨s, fun _ => ⟨by rw [hat 0 (by omega)]; rfl, hs⟩⟩
      · exact ⟨x0, fun h => absurd h hic⟩
    obtain ⟨f, hf'⟩ := Classical.axiomOfChoice hex
    have hg : ∀ i, i < n → ((List.range n).map f).getD i x0 = f i := fun i hi' => by
      rw [List.getD_eq_getElem?_getD]; simp [hi']
    refine ⟨_, _, _, (List.range n).map f, rfl, ⟨by simp, fun i hi' => ?_, fun hp => ?_⟩, hl, hcb⟩
    · rw [hg i hi']; exact ((hf' i) (by omega)).2
    · obtain ⟨b, off, spot⟩ := a
      have h0 := ((hf' 0) (by omega)).1
      have hspot : spot = none := by simpa [Addr.add] using World.cell?_spot h0
      subst hspot
      have hlt := World.block_lt_of_cell? _ _ h0
      refine ⟨b, off, rfl, by simpa [Addr.add] using hlt, fun i hi' => ?_⟩
      have := ((hf' i) (by omega)).1
      simp only [addr_plus, Nat.mul_one, Nat.add_zero] at this
      show w.cell? _ = some (mk _)
      rw [hg i hi']; exact this

/-- A slice that is nil has no length and no room. -/
theorem slice_nil {t e : TypeId} (hu : Try.prog.underlying t = some (.slice e)) {A : Option Addr} {n c : Nat} {d : DataW H} {p : List MemPlace} (h : DataW.Trod enc Try.prog w 0 (fun _ => true) held t (.slice A n c) d p) : A = none → n = 0 ∧ c = 0 := by
  intro hA
  obtain ⟨fuel, hf⟩ := h
  rcases open_slice hu hf with ⟨hcs, _⟩ | ⟨a, len, cap, m, k, D, Pl, hcs, _⟩
  · simp [Value.cells] at hcs; exact ⟨hcs.2.1, hcs.2.2⟩
  · simp [Value.cells] at hcs; rw [hcs.1] at hA; cases hA
theorem ints_nil {A : Option Addr} {n c : Nat} {d : DataW H} {p : List MemPlace} (h : DataW.Trod enc Try.prog w 0 (fun _ => true) held 23 (.slice A n c) d p) : A = none → n = 0 ∧ c = 0 := slice_nil Try.underlying23 h
theorem read_int {fuel : Nat} {cs : List Value} {x : DataW H × List MemPlace} (h : DataW.trod enc Try.prog w 0 (fun _ => true) held fuel 3 cs = some x) : ∃ z : Int, cs = [.int .i64 z] ∧ (Lit.int .i64 z).wf = true := by
  obtain ⟨z, h1, _, h2⟩ := DataW.trod_int Try.underlying3 h
  exact ⟨z, h1, h2⟩
theorem open_intsAt {r : Reach} {b0 : Nat} {v : Value} {d : DataW H} {p : List MemPlace} (hv : Value.okWide Try.prog w r b0 23 v) (h : DataW.Trod enc Try.prog w 0 (fun _ => true) held 23 v d p)
    (hsz : ∀ elems spare, d = .slice elems spare → (elems.length + spare.length) * Try.prog.bytesOf 3 ≤ reachBytes) :
    ∃ (A : Option Addr) (n c : Nat) (xs : List Int), v = .slice A n c ∧ (xs.length = n ∧ (∀ i, i < n → (Lit.int .i64 (intAt xs i)).wf = true) ∧ ValsAt w w.heap.size A n (fun i => .int .i64 (intAt xs i))) ∧ n ≤ c ∧ c * 8 ≤ 140737488351232 :=
  open_vals (Value.int .i64) (fun z => (Lit.int .i64 z).wf = true) 0 8 Try.underlying23 (by kernel_rfl) (by kernel_rfl) (fun _ _ _ h => read_int h) hv h hsz
end
end Go.Proofs.Ytlmpapdpmmkjnaa
