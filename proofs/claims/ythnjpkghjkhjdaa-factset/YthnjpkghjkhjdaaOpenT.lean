/-
  An argument that is a table, or a slice of rows, opened.
-/
import Derived.Test.YthnjpkghjkhjdaaOpenC
import Derived.Test.YthnjpkghjkhjdaaMemTab
namespace Go.Proofs.Ythnjpkghjkhjdaa
open Go.ChangeShapes Go.WideShapes Go.ChangeAt Go.RowKit Go.Deep
set_option linter.unusedSimpArgs false
set_option linter.unusedVariables false
set_option maxRecDepth 100000

section
variable {H : Type} {enc : TypeId × Value → H} {w : World} {held : Bool}
theorem cells_table : Try.prog.cellsOf 26 = 2 := by kernel_rfl
theorem read_table {fuel : Nat} {cs : List Value} {x : DataW H × List MemPlace} (h : DataW.trod enc Try.prog w 0 (fun _ => true) held fuel 26 cs = some x) (hs : Sized 26 x.1) :
    ∃ (v : Tv) (t : Tb), cs = [.slice v.A1 v.n1 v.c1, .slice v.A2 v.n2 v.c2] ∧ TabAt w w.heap.size v t := by
  obtain ⟨xs, n, _, hx, hlen, hxl, hf⟩ := DataW.trod_struct Try.underlying26 h
  rw [cells_table] at hlen
  obtain ⟨a, b, rfl⟩ : ∃ a b, cs = [a, b] := by
    match cs, hlen with
    | [a, b], _ => exact ⟨a, b, rfl⟩
  have hxi : ∀ i, i < 2 → ∃ y, xs[i]? = some y := fun i hi => ⟨xs[i]'(by rw [hxl]; exact hi), List.getElem?_eq_getElem _⟩
  obtain ⟨y0, e0⟩ := hxi 0 (by omega)
  obtain ⟨y1, e1⟩ := hxi 1 (by omega)
  have f0 : DataW.trod enc Try.prog w 0 (fun _ => true) held n 23 (([a, b].drop 0).take (Try.prog.cellsOf 23)) = xs[0]? := hf 0 _ rfl
  have f1 : DataW.trod enc Try.prog w 0 (fun _ => true) held n 24 (([a, b].drop 1).take (Try.prog.cellsOf 24)) = xs[1]? := hf 1 _ rfl
  rw [e0] at f0; rw [e1] at f1
  rw [cells_ints] at f0; rw [cells_rows] at f1
  rw [hx] at hs
  have s0 : Sized 23 y0.1 := Sized.field Try.underlying26 hs (i := 0) rfl (by rw [List.getElem?_map, e0]; rfl)
  have s1 : Sized 24 y1.1 := Sized.field Try.underlying26 hs (i := 1) rfl (by rw [List.getElem?_map, e1]; rfl)
  obtain ⟨A1, c1, ls, h1, m1, k1, b1⟩ := read_ints f0 s0
  have z1 := read_nil Try.underlying23 f0 h1
  obtain ⟨A2, n2, c2, ts, h2, k2, m2, b2, z2⟩ := read_rows f1 s1
  simp at h1 h2
  subst h1 h2
  exact ⟨⟨A1, ls.length, c1, A2, n2, c2⟩, ⟨ls, ts⟩, rfl, k1, k2, m1, m2, fun q => ⟨by have := z1 q; show ls.length = 0; omega, z1 q⟩, z2, by show ls.length * 8 ≤ _; omega, by show n2 * 24 ≤ _; omega⟩
theorem open_table {r : Reach} {b0 : Nat} {v : Value} {d : DataW H} {p : List MemPlace} (hv : Value.okWide Try.prog w r b0 26 v) (h : DataW.Trod enc Try.prog w 0 (fun _ => true) held 26 v d p) (hs : Sized 26 d) :
    ∃ (u : Tv) (c : Tb), v = u.val ∧ TabAt w w.heap.size u c := by
  obtain ⟨cs, rfl, _⟩ := okWide_struct Try.underlying26 hv
  obtain ⟨fuel, hf⟩ := h
  obtain ⟨u, c, h1, h2⟩ := read_table hf hs
  obtain ⟨l⟩ := cs
  simp [Value.cells] at h1
  subst h1
  exact ⟨u, c, rfl, h2⟩
theorem open_rowsAt {r : Reach} {b0 : Nat} {v : Value} {d : DataW H} {p : List MemPlace} (hv : Value.okWide Try.prog w r b0 24 v) (h : DataW.Trod enc Try.prog w 0 (fun _ => true) held 24 v d p) (hs : Sized 24 d) :
    ∃ (A : Option Addr) (n c : Nat) (ts : List (List Int)), v = .slice A n c ∧ TupsAt w w.heap.size A n ts ∧ n ≤ c ∧ c * 24 ≤ 140737488351232 ∧ (A = none → c = 0) := by
  obtain ⟨A', n', c', rfl⟩ := okWide_slice Try.underlying24 hv
  obtain ⟨fuel, hf⟩ := h
  obtain ⟨A, n, c, ts, h1, h2, h3, h4, h5⟩ := read_rows hf hs
  simp [Value.cells] at h1
  obtain ⟨rfl, rfl, rfl⟩ := h1
  exact ⟨A', n', c', ts, rfl, h2, h3, h4, h5⟩
end
end Go.Proofs.Ythnjpkghjkhjdaa
