/-
  Arguments that hold slices within slices, read in one way.
  Arguments that are literals, or slices of literals, opened.
  An argument that is a clause, opened.
-/
import Derived.Test.YtlpafnaokpjoiaaOpen
import Derived.Test.YtlpafnaokpjoiaaBaseMore
import Derived.Deep.Slices
import Derived.Test.YtlpafnaokpjoiaaMemLits
import Derived.Test.YtlpafnaokpjoiaaMemClause
namespace Go.Proofs.Ytlpafnaokpjoiaa
open Go.ChangeShapes Go.WideShapes Go.ChangeAt Go.RowKit Go.Deep
set_option linter.unusedSimpArgs false
set_option linter.unusedVariables false
set_option maxRecDepth 100000

section
variable {H : Type} {enc : TypeId × Value → H} {w : World} {held : Bool}
/-- A datum none of whose parts is too large for a machine. -/
def Sized (t : TypeId) (d : DataW H) : Prop := ∀ x ∈ d.weights Try.prog t, x ≤ reachBytes
theorem mem_weightsAll {e : TypeId} : ∀ {ds : List (DataW H)} {d : DataW H}, d ∈ ds → ∀ x ∈ d.weights Try.prog e, x ∈ DataW.weightsAll Try.prog e ds
  | a :: r, d, h, x, hx => by
    unfold DataW.weightsAll
    rcases List.mem_cons.1 h with rfl | h
    · exact List.mem_append_left _ hx
    · exact List.mem_append_right _ (mem_weightsAll h x hx)
theorem Sized.slice {t e : TypeId} {elems spare : List (DataW H)} (hu : Try.prog.underlying t = some (.slice e)) (h : Sized t (.slice elems spare)) :
    (elems.length + spare.length) * Try.prog.bytesOf e ≤ reachBytes ∧ (∀ d ∈ elems, Sized e d) ∧ ∀ d ∈ spare, Sized e d := by
  unfold Sized DataW.weights at h
  rw [hu] at h
  refine ⟨h _ (List.mem_cons_self ..), fun d hd x hx => h x (List.mem_cons_of_mem _ (List.mem_append_left _ (mem_weightsAll hd x hx))), fun d hd x hx => h x (List.mem_cons_of_mem _ (List.mem_append_right _ (mem_weightsAll hd x hx)))⟩
theorem Sized.field {t : TypeId} {fs : Array Field} {parts : List (DataW H)} (hu : Try.prog.underlying t = some (.struct fs)) (h : Sized t (.agg parts)) {i : Nat} {f : Field} {d : DataW H} (hf : fs[i]? = some f) (hd : parts[i]? = some d) : Sized f.type d := by
  unfold Sized DataW.weights at h
  rw [hu] at h
  intro x hx
  refine h x (DataW.weights_mem_each (j := i) ?_ hd x hx)
  rw [List.getElem?_map, Array.getElem?_toList, hf]; rfl
theorem sizedAll_of {ts : List TypeId} {ds : List (DataW H)} (h : (DataW.weightsEach Try.prog ts ds).all (· ≤ reachBytes) = true) {j : Nat} {t : TypeId} {d : DataW H} (ht : ts[j]? = some t) (hd : ds[j]? = some d) : Sized t d := fun x hx => by
  have := List.all_eq_true.1 h x (DataW.weights_mem_each ht hd x hx)
  simpa using this
/-- A slice, each element of which is read by R. -/
theorem read_list {t e : TypeId} {α : Type} (R : α → List Value → Prop) (a0 : α) (k by_ : Nat) (hu : Try.prog.underlying t = some (.slice e)) (hc1 : Try.prog.cellsOf e = k) (hk : 0 < k) (hb1 : Try.prog.bytesOf e = by_)
    (hread : ∀ (fuel : Nat) (cs : List Value) (x : DataW H × List MemPlace), DataW.trod enc Try.prog w 0 (fun _ => true) held fuel e cs = some x → Sized e x.1 → ∃ a, R a cs)
    {fuel : Nat} {cs : List Value} {x : DataW H × List MemPlace} (hf : DataW.trod enc Try.prog w 0 (fun _ => true) held fuel t cs = some x) (hs : Sized t x.1) :
    ∃ (A : Option Addr) (n c : Nat) (es : List α), cs = [.slice A n c] ∧ es.length = n ∧ (0 < n → ∃ b off, A = some ⟨b, off, none⟩ ∧ b < w.heap.size ∧ ∀ i, i < n → ∃ cs, R (es.getD i a0) cs ∧ ∀ j, j < k → w.cell? ⟨b, off + i * k + j, none⟩ = cs[j]?) ∧ n ≤ c ∧ c * by_ ≤ 140737488351232 := by
  rcases open_slice hu hf with ⟨hcs, _⟩ | ⟨a, len, cap, m, q, D, Pl, hcs, _, hl, hm, hmm, hx, hi⟩
  · exact ⟨none, 0, 0, [], hcs, rfl, fun h => absurd h (by omega), Nat.le_refl _, by omega⟩
  · simp only [if_true] at hmm
    obtain rfl : cap = m := hmm.symm
    rw [hx] at hs
    obtain ⟨hb, he, _⟩ := Sized.slice hu hs
    rw [hb1] at hb
    simp [reachBytes] at hb
    have hcb : cap * by_ ≤ 140737488351232 := by
      have e : len + (cap - len) = cap := by omega
      rw [e] at hb; exact hb
    have hex : ∀ i, ∃ s : α, i < len → ∃ cs, R s cs ∧ cs.length = k ∧ ∀ j, j < k → w.cell? ((a.add (i * k)).add j) = cs[j]? := by
      intro i
      by_cases hic : i < len
      · obtain ⟨cs', hc, ht⟩ := hi i (by omega)
        rw [hc1] at hc
        obtain ⟨s, hR⟩ := hread _ _ _ ht (he _ (List.mem_map.2 ⟨i, by simpa using hic, rfl⟩))
        obtain ⟨_, hln, hat⟩ := World.cells?_some hc
        exact ⟨s, fun _ => ⟨cs', hR, hln, fun j hj => by rw [hat j hj]⟩⟩
      · exact ⟨a0, fun h => absurd h hic⟩
    obtain ⟨f, hf'⟩ := Classical.axiomOfChoice hex
    have hg : ∀ i, i < len → ((List.range len).map f).getD i a0 = f i := fun i hi' => by
      rw [List.getD_eq_getElem?_getD]; simp [hi']
    refine ⟨_, _, _, (List.range len).map f, hcs, by simp, fun hp => ?_, hl, hcb⟩
    obtain ⟨b, off, spot⟩ := a
    obtain ⟨cs0, _, hl0, h0⟩ := hf' 0 hp
    have h0' := h0 0 hk
    have hsome : ∃ u, cs0[0]? = some u := ⟨cs0[0]'(by omega), List.getElem?_eq_getElem _⟩
    obtain ⟨u, hu0⟩ := hsome
    rw [hu0] at h0'
    have hspot : spot = none := by simpa [Addr.add] using World.cell?_spot h0'
    subst hspot
    have hlt := World.block_lt_of_cell? _ _ h0'
    refine ⟨b, off, rfl, by simpa [Addr.add] using hlt, fun i hi' => ?_⟩
    obtain ⟨cs', h1, _, h2⟩ := hf' i hi'
    refine ⟨cs', by rw [hg i hi']; exact h1, fun j hj => ?_⟩
    have := h2 j hj
    rw [addr_plus, addr_plus] at this
    exact this

theorem read_ints {fuel : Nat} {cs : List Value} {x : DataW H × List MemPlace} (hf : DataW.trod enc Try.prog w 0 (fun _ => true) held fuel 23 cs = some x) (hs : Sized 23 x.1) :
    ∃ (A : Option Addr) (c : Nat) (xs : List Int), cs = [.slice A xs.length c] ∧ xs.length ≤ c ∧ IntsAt w w.heap.size A xs.length xs ∧ c * 8 ≤ 140737488351232 := by
  obtain ⟨A, n, c, xs, h1, rfl, h3, h4, h5⟩ := read_list (fun (z : Int) cs => cs = [.int .i64 z]) 0 1 8 Try.underlying23 (by kernel_rfl) (by omega) (by kernel_rfl)
    (fun _ _ _ h _ => by obtain ⟨z, h, _⟩ := read_int h; exact ⟨z, h⟩) hf hs
  refine ⟨A, c, xs, h1, h4, ⟨rfl, fun hn => ?_⟩, h5⟩
  obtain ⟨b, off, e, hb, hc⟩ := h3 hn
  refine ⟨b, off, e, hb, fun i hi => ?_⟩
  obtain ⟨cs', hcs, hj⟩ := hc i hi
  have := hj 0 (by omega)
  rw [hcs, Nat.mul_one, Nat.add_zero] at this
  exact this
theorem cells_ints : Try.prog.cellsOf 23 = 1 := by kernel_rfl
end
end Go.Proofs.Ytlpafnaokpjoiaa

namespace Go.Proofs.Ytlpafnaokpjoiaa
open Go.ChangeShapes Go.WideShapes Go.ChangeAt Go.RowKit Go.Deep
set_option linter.unusedSimpArgs false
set_option linter.unusedVariables false
set_option maxRecDepth 100000

section
variable {H : Type} {enc : TypeId × Value → H} {w : World} {held : Bool}
theorem cells_bool : Try.prog.cellsOf 4 = 1 := by kernel_rfl
end
end Go.Proofs.Ytlpafnaokpjoiaa

namespace Go.Proofs.Ytlpafnaokpjoiaa
open Go.ChangeShapes Go.WideShapes Go.ChangeAt Go.RowKit Go.Deep
set_option linter.unusedSimpArgs false
set_option linter.unusedVariables false
set_option maxRecDepth 100000

section
variable {H : Type} {enc : TypeId × Value → H} {w : World} {held : Bool}
theorem read_nil {t e : TypeId} (hu : Try.prog.underlying t = some (.slice e)) {fuel : Nat} {cs : List Value} {x : DataW H × List MemPlace} (hf : DataW.trod enc Try.prog w 0 (fun _ => true) held fuel t cs = some x) {A : Option Addr} {n c : Nat} (h : cs = [.slice A n c]) : A = none → c = 0 := by
  rcases open_slice hu hf with ⟨hcs, _⟩ | ⟨a, len, cap, m, q, D, Pl, hcs, _⟩
  · rw [h] at hcs
    simp at hcs
    exact fun _ => hcs.2.2
  · rw [h] at hcs
    simp at hcs
    intro e
    rw [e] at hcs
    cases hcs.1
theorem read_row {fuel : Nat} {cs : List Value} {x : DataW H × List MemPlace} (hf : DataW.trod enc Try.prog w 0 (fun _ => true) held fuel 23 cs = some x) (hs : Sized 23 x.1) :
    ∃ (xs : List Int), ∃ A c, cs = [.slice A xs.length c] ∧ RowIn w w.heap.size A xs.length c xs ∧ (A = none → c = 0) := by
  obtain ⟨A, c, xs, h1, h2, h3, h4⟩ := read_ints hf hs
  exact ⟨xs, A, c, h1, ⟨h3, h2, by omega⟩, read_nil Try.underlying23 hf h1⟩
theorem read_rows {fuel : Nat} {cs : List Value} {x : DataW H × List MemPlace} (hf : DataW.trod enc Try.prog w 0 (fun _ => true) held fuel 75 cs = some x) (hs : Sized 75 x.1) :
    ∃ (A : Option Addr) (n c : Nat) (ts : List (List Int)), cs = [.slice A n c] ∧ TupsAt w w.heap.size A n ts ∧ n ≤ c ∧ c * 24 ≤ 140737488351232 ∧ (A = none → c = 0) := by
  obtain ⟨A, n, c, ts, h1, rfl, h3, h4, h5⟩ := read_list (fun (r : List Int) cs => ∃ A c, cs = [.slice A r.length c] ∧ RowIn w w.heap.size A r.length c r ∧ (A = none → c = 0)) [] 1 24 Try.underlying75 cells_ints (by omega) (by kernel_rfl)
    (fun _ _ _ h hs => read_row h hs) hf hs
  refine ⟨_, _, _, ts, h1, ⟨rfl, fun hn => ?_⟩, h4, h5, read_nil Try.underlying75 hf h1⟩
  obtain ⟨b, off, e, hb, hc⟩ := h3 hn
  refine ⟨b, off, e, hb, fun i hi => ?_⟩
  obtain ⟨cs', ⟨A2, c2, rfl, q2, q3⟩, hj⟩ := hc i hi
  have := hj 0 (by omega)
  rw [Nat.mul_one, Nat.add_zero] at this
  exact ⟨A2, c2, this, q2, q3⟩
theorem cells_rows : Try.prog.cellsOf 75 = 1 := by kernel_rfl
end
end Go.Proofs.Ytlpafnaokpjoiaa
