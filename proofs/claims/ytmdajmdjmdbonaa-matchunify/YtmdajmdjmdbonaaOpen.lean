/-
  Words for the last step of a law's proof: what a row asks of the program as a whole.
  An argument that is a slice of symbols, or a symbol, opened: the value's shape and what its cells hold.
  An argument that is a slice of integers, opened.
-/
import Derived.Test.YtmdajmdjmdbonaaRows
import Derived.WalkKit
import Derived.ProofKit
import Derived.OpenShut
import Derived.ShutString
import Derived.ChangeOld
import Derived.Below
import Derived.SizedLaws
import Derived.Test.YtmdajmdjmdbonaaBaseSym
import Derived.Deep.Slices
namespace Go.Proofs.Ytmdajmdjmdbonaa
open Go.ChangeShapes Go.WideShapes Go.ChangeAt Go.RowKit
theorem row_own : ownKnob Try.prog.godebug = none := by kernel_rfl
theorem row_laidOut : laidOutB Try.prog = true := by kernel_rfl
end Go.Proofs.Ytmdajmdjmdbonaa

namespace Go.Proofs.Ytmdajmdjmdbonaa
open Go.ChangeShapes Go.WideShapes Go.ChangeAt Go.RowKit Go.Deep
set_option linter.unusedSimpArgs false
set_option linter.unusedVariables false
set_option maxRecDepth 100000

theorem cells_sym : Try.prog.cellsOf 49 = 4 := by kernel_rfl
theorem cells_str : Try.prog.cellsOf 9 = 1 := by kernel_rfl
theorem cells_int : Try.prog.cellsOf 3 = 1 := by kernel_rfl
theorem bytes_sym : Try.prog.bytesOf 49 = 40 := by kernel_rfl

section
variable {H : Type} {enc : TypeId × Value → H} {w : World} {base : Nat} {spare : Nat → Bool} {held : Bool}

theorem four_of {l : List Value} (h : l.length = 4) : ∃ a b c d, l = [a, b, c, d] := by
  match l, h with
  | [a, b, c, d], _ => exact ⟨a, b, c, d, rfl⟩

theorem read_sym {fuel : Nat} {cs : List Value} {x : DataW H × List MemPlace} (h : DataW.trod enc Try.prog w base spare held fuel 49 cs = some x) :
    ∃ s : Sym, cs = [.string s.name, .int .i64 s.kind, .int .i64 s.arity, .int .i64 s.weight] ∧ s.name.size ≤ maxLen := by
  obtain ⟨xs, n, _, _, hlen, hxl, hf⟩ := DataW.trod_struct Try.underlying49 h
  rw [cells_sym] at hlen
  obtain ⟨a, b, c, d, rfl⟩ := four_of hlen
  have hx : ∀ i, i < 4 → ∃ y, xs[i]? = some y := fun i hi => ⟨xs[i]'(by rw [hxl]; exact hi), List.getElem?_eq_getElem _⟩
  obtain ⟨y0, e0⟩ := hx 0 (by omega)
  obtain ⟨y1, e1⟩ := hx 1 (by omega)
  obtain ⟨y2, e2⟩ := hx 2 (by omega)
  obtain ⟨y3, e3⟩ := hx 3 (by omega)
  have f0 : DataW.trod enc Try.prog w base spare held n 9 (([a, b, c, d].drop 0).take (Try.prog.cellsOf 9)) = xs[0]? := hf 0 _ rfl
  have f1 : DataW.trod enc Try.prog w base spare held n 3 (([a, b, c, d].drop 1).take (Try.prog.cellsOf 3)) = xs[1]? := hf 1 _ rfl
  have f2 : DataW.trod enc Try.prog w base spare held n 3 (([a, b, c, d].drop 2).take (Try.prog.cellsOf 3)) = xs[2]? := hf 2 _ rfl
  have f3 : DataW.trod enc Try.prog w base spare held n 3 (([a, b, c, d].drop 3).take (Try.prog.cellsOf 3)) = xs[3]? := hf 3 _ rfl
  rw [e0] at f0; rw [e1] at f1; rw [e2] at f2; rw [e3] at f3
  rw [cells_str] at f0; rw [cells_int] at f1 f2 f3
  obtain ⟨s, h0, _, hs⟩ := DataW.trod_string Try.underlying9 f0
  obtain ⟨k, h1, _, _⟩ := DataW.trod_int Try.underlying3 f1
  obtain ⟨r, h2, _, _⟩ := DataW.trod_int Try.underlying3 f2
  obtain ⟨g, h3, _, _⟩ := DataW.trod_int Try.underlying3 f3
  simp at h0 h1 h2 h3
  subst h0 h1 h2 h3
  exact ⟨⟨s, k, r, g⟩, rfl, hs⟩

theorem open_sym {r : Reach} {b0 : Nat} {v : Value} {d : DataW H} {p : List MemPlace} (hv : Value.okWide Try.prog w r b0 49 v) (h : DataW.Trod enc Try.prog w base spare held 49 v d p) :
    ∃ (nm : ByteArray) (k a g : Int), v = .agg #[.string nm, .int .i64 k, .int .i64 a, .int .i64 g] ∧ nm.size ≤ maxLen := by
  obtain ⟨cs, rfl, _⟩ := okWide_struct Try.underlying49 hv
  obtain ⟨fuel, hf⟩ := h
  obtain ⟨s, hs, hl⟩ := read_sym hf
  obtain ⟨l⟩ := cs
  simp [Value.cells] at hs
  subst hs
  exact ⟨s.name, s.kind, s.arity, s.weight, rfl, hl⟩

theorem addr_add0 (b off j : Nat) : ((⟨b, off, none⟩ : Addr).add j) = ⟨b, off + j, none⟩ := by
  unfold Addr.add; by_cases e0 : j = 0 <;> simp [e0]
theorem symAt_range (f : Nat → Sym) (n i : Nat) (h : i < n) : symAt ((List.range n).map f) i = f i := by
  unfold symAt
  rw [List.getD_eq_getElem?_getD]
  simp [h]

theorem open_syms {r : Reach} {b0 : Nat} {v : Value} {d : DataW H} {p : List MemPlace} (hv : Value.okWide Try.prog w r b0 22 v) (h : DataW.Trod enc Try.prog w 0 (fun _ => true) held 22 v d p)
    (hsz : ∀ elems spare, d = .slice elems spare → (elems.length + spare.length) * Try.prog.bytesOf 49 ≤ reachBytes) :
    ∃ (A : Option Addr) (n c : Nat) (ss : List Sym), v = .slice A n c ∧ SymsAt w w.heap.size A n ss ∧ n ≤ c ∧ c * 40 ≤ 140737488351232 := by
  obtain ⟨A, n, c, rfl⟩ := okWide_slice Try.underlying22 hv
  obtain ⟨fuel, hf⟩ := h
  rcases open_slice Try.underlying22 hf with ⟨hcs, _⟩ | ⟨a, len, cap, m, k, D, Pl, hcs, _, hl, hm, hmm, hx, hi⟩
  · simp [Value.cells] at hcs
    obtain ⟨rfl, rfl, rfl⟩ := hcs
    exact ⟨_, _, _, [], rfl, SymsAt.nil_, Nat.le_refl _, by omega⟩
  · simp [Value.cells] at hcs
    obtain ⟨rfl, rfl, rfl⟩ := hcs
    simp only [if_true] at hmm
    obtain rfl : c = m := hmm.symm
    simp only [Prod.mk.injEq] at hx
    have hb := hsz _ _ hx.1
    rw [bytes_sym] at hb
    simp [reachBytes] at hb
    have hcb : c * 40 ≤ 140737488351232 := by omega
    have hex : ∀ i, ∃ s : Sym, i < c → (w.cell? ((a.add (i * 4)).add 0) = some (.string s.name) ∧ w.cell? ((a.add (i * 4)).add 1) = some (.int .i64 s.kind) ∧ w.cell? ((a.add (i * 4)).add 2) = some (.int .i64 s.arity) ∧ w.cell? ((a.add (i * 4)).add 3) = some (.int .i64 s.weight)) ∧ s.name.size ≤ maxLen := by
      intro i
      by_cases hic : i < c
      · obtain ⟨cs', hc, ht⟩ := hi i hic
        rw [cells_sym] at hc
        obtain ⟨s, rfl, hs⟩ := read_sym ht
        obtain ⟨_, _, hat⟩ := World.cells?_some hc
        exact ⟨s, fun _ => ⟨⟨by rw [hat 0 (by omega)]; rfl, by rw [hat 1 (by omega)]; rfl, by rw [hat 2 (by omega)]; rfl, by rw [hat 3 (by omega)]; rfl⟩, hs⟩⟩
      · exact ⟨⟨ByteArray.empty, 0, 0, 0⟩, fun h => absurd h hic⟩
    obtain ⟨f, hf'⟩ := Classical.axiomOfChoice hex
    refine ⟨_, _, _, (List.range n).map f, rfl, ⟨by simp, fun hp => ?_, fun i hi' => ?_⟩, hl, hcb⟩
    · obtain ⟨b, off, spot⟩ := a
      have h0 := ((hf' 0) (by omega)).1.1
      have hspot : spot = none := by simpa [Addr.add] using World.cell?_spot h0
      subst hspot
      have hlt := World.block_lt_of_cell? _ _ h0
      refine ⟨b, off, rfl, by simpa [Addr.add] using hlt, fun i hi' => ?_⟩
      rw [symAt_range f n i hi']
      have := ((hf' i) (by omega)).1
      simp only [addr_add0] at this
      exact this
    · rw [symAt_range f n i hi']
      exact ((hf' i) (by omega)).2
end

theorem sized_of {H : Type} {ts : List TypeId} {ds : List (DataW H)} (h : (DataW.weightsEach Try.prog ts ds).all (· ≤ reachBytes) = true) {j : Nat} {t e : TypeId} {d : DataW H} (ht : ts[j]? = some t) (hd : ds[j]? = some d) (hu : Try.prog.underlying t = some (.slice e)) :
    ∀ elems spare, d = .slice elems spare → (elems.length + spare.length) * Try.prog.bytesOf e ≤ reachBytes :=
  fun elems spare hs => sized_slice h ht (by rw [hd, hs]) hu

end Go.Proofs.Ytmdajmdjmdbonaa

namespace Go.Proofs.Ytmdajmdjmdbonaa
open Go.ChangeShapes Go.WideShapes Go.ChangeAt Go.RowKit Go.Deep
set_option linter.unusedSimpArgs false
set_option linter.unusedVariables false
set_option maxRecDepth 100000

section
variable {H : Type} {enc : TypeId × Value → H} {w : World} {held : Bool}
/-- A slice of elements of one cell, each read by 'ok'. -/
theorem open_vals {t e : TypeId} {α : Type} (mk : α → Value) (ok : α → Prop) (x0 : α) (by_ : Nat) (hu : Try.prog.underlying t = some (.slice e)) (hc1 : Try.prog.cellsOf e = 1) (hb1 : Try.prog.bytesOf e = by_)
    (hread : ∀ (fuel : Nat) (cs : List Value) (x : DataW H × List MemPlace), DataW.trod enc Try.prog w 0 (fun _ => true) held fuel e cs = some x → ∃ a, cs = [mk a] ∧ ok a)
    {r : Reach} {b0 : Nat} {v : Value} {d : DataW H} {p : List MemPlace} (hv : Value.okWide Try.prog w r b0 t v) (h : DataW.Trod enc Try.prog w 0 (fun _ => true) held t v d p)
    (hsz : ∀ elems spare, d = .slice elems spare → (elems.length + spare.length) * Try.prog.bytesOf e ≤ reachBytes) :
    ∃ (A : Option Addr) (n c : Nat) (xs : List α), v = .slice A n c ∧ (xs.length = n ∧ (∀ i, i < n → ok (xs.getD i x0)) ∧ ValsAt w w.heap.size A n (fun i => mk (xs.getD i x0))) ∧ n ≤ c ∧ c * by_ ≤ 140737488351232 := by
  obtain ⟨A, n, c, rfl⟩ := okWide_slice hu hv
  obtain ⟨fuel, hf⟩ := h
  rcases open_slice hu hf with ⟨hcs, _⟩ | ⟨a, len, cap, m, k, D, Pl, hcs, _, hl, hm, hmm, hx, hi⟩
  · simp [Value.cells] at hcs
    obtain ⟨rfl, rfl, rfl⟩ := hcs
    exact ⟨_, _, _, [], rfl, ⟨rfl, fun i hi => absurd hi (by omega), ValsAt.nil_⟩, Nat.le_refl _, by omega⟩
  · simp [Value.cells] at hcs
    obtain ⟨rfl, rfl, rfl⟩ := hcs
    simp only [if_true] at hmm
    obtain rfl : c = m := hmm.symm
    simp only [Prod.mk.injEq] at hx
    have hb := hsz _ _ hx.1
    rw [hb1] at hb
    simp [reachBytes] at hb
    have hcb : c * by_ ≤ 140737488351232 := by
      have e : n + (c - n) = c := by omega
      rw [e] at hb; exact hb
    have hex : ∀ i, ∃ s : α, i < c → (w.cell? ((a.add (i * 1)).add 0) = some (mk s)) ∧ ok s := by
      intro i
      by_cases hic : i < c
      · obtain ⟨cs', hc, ht⟩ := hi i hic
        rw [hc1] at hc
        obtain ⟨s, rfl, hs⟩ := hread _ _ _ ht
        obtain ⟨_, _, hat⟩ := World.cells?_some hc
        exact ⟨s, fun _ => ⟨by rw [hat 0 (by omega)]; rfl, hs⟩⟩
      · exact ⟨x0, fun h => absurd h hic⟩
    obtain ⟨f, hf'⟩ := Classical.axiomOfChoice hex
    have hg : ∀ i, i < n → ((List.range n).map f).getD i x0 = f i := fun i hi' => by
      rw [List.getD_eq_getElem?_getD]; simp [hi']
    refine ⟨_, _, _, (List.range n).map f, rfl, ⟨by simp, fun i hi' => ?_, fun hp => ?_⟩, hl, hcb⟩
    · rw [hg i hi']; exact ((hf' i) (by omega)).2
    · obtain ⟨b, off, spot⟩ := a
      have h0 := ((hf' 0) (by omega)).1
      have hspot : spot = none := by simpa [Addr.add] using World.cell?_spot h0
      subst hspot
      have hlt := World.block_lt_of_cell? _ _ h0
      refine ⟨b, off, rfl, by simpa [Addr.add] using hlt, fun i hi' => ?_⟩
      have := ((hf' i) (by omega)).1
      simp only [addr_plus, Nat.mul_one, Nat.add_zero] at this
      show w.cell? _ = some (mk _)
      rw [hg i hi']; exact this

/-- A slice that is nil has no length and no room. -/
theorem slice_nil {t e : TypeId} (hu : Try.prog.underlying t = some (.slice e)) {A : Option Addr} {n c : Nat} {d : DataW H} {p : List MemPlace} (h : DataW.Trod enc Try.prog w 0 (fun _ => true) held t (.slice A n c) d p) : A = none → n = 0 ∧ c = 0 := by
  intro hA
  obtain ⟨fuel, hf⟩ := h
  rcases open_slice hu hf with ⟨hcs, _⟩ | ⟨a, len, cap, m, k, D, Pl, hcs, _⟩
  · simp [Value.cells] at hcs; exact ⟨hcs.2.1, hcs.2.2⟩
  · simp [Value.cells] at hcs; rw [hcs.1] at hA; cases hA
theorem ints_nil {A : Option Addr} {n c : Nat} {d : DataW H} {p : List MemPlace} (h : DataW.Trod enc Try.prog w 0 (fun _ => true) held 23 (.slice A n c) d p) : A = none → n = 0 ∧ c = 0 := slice_nil Try.underlying23 h
theorem read_int {fuel : Nat} {cs : List Value} {x : DataW H × List MemPlace} (h : DataW.trod enc Try.prog w 0 (fun _ => true) held fuel 3 cs = some x) : ∃ z : Int, cs = [.int .i64 z] ∧ (Lit.int .i64 z).wf = true := by
  obtain ⟨z, h1, _, h2⟩ := DataW.trod_int Try.underlying3 h
  exact ⟨z, h1, h2⟩
theorem open_intsAt {r : Reach} {b0 : Nat} {v : Value} {d : DataW H} {p : List MemPlace} (hv : Value.okWide Try.prog w r b0 23 v) (h : DataW.Trod enc Try.prog w 0 (fun _ => true) held 23 v d p)
    (hsz : ∀ elems spare, d = .slice elems spare → (elems.length + spare.length) * Try.prog.bytesOf 3 ≤ reachBytes) :
    ∃ (A : Option Addr) (n c : Nat) (xs : List Int), v = .slice A n c ∧ (xs.length = n ∧ (∀ i, i < n → (Lit.int .i64 (intAt xs i)).wf = true) ∧ ValsAt w w.heap.size A n (fun i => .int .i64 (intAt xs i))) ∧ n ≤ c ∧ c * 8 ≤ 140737488351232 :=
  open_vals (Value.int .i64) (fun z => (Lit.int .i64 z).wf = true) 0 8 Try.underlying23 (by kernel_rfl) (by kernel_rfl) (fun _ _ _ h => read_int h) hv h hsz
end
end Go.Proofs.Ytmdajmdjmdbonaa
