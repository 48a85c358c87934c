/-
  An argument that is a slice of binds, opened.
-/
import Derived.Test.YtlpafnaokpjoiaaOpenC
import Derived.Test.YtlpafnaokpjoiaaBaseBind
namespace Go.Proofs.Ytlpafnaokpjoiaa
open Go.ChangeShapes Go.WideShapes Go.ChangeAt Go.RowKit Go.Deep
set_option linter.unusedSimpArgs false
set_option linter.unusedVariables false
set_option maxRecDepth 100000

section
variable {H : Type} {enc : TypeId × Value → H} {w : World} {held : Bool}
theorem cells_bind : Try.prog.cellsOf 41 = 2 := by kernel_rfl
theorem read_bind {fuel : Nat} {cs : List Value} {x : DataW H × List MemPlace} (h : DataW.trod enc Try.prog w 0 (fun _ => true) held fuel 41 cs = some x) (hs : Sized 41 x.1) :
    ∃ b : Bd, ∃ A c, cs = [.int .i64 b.v, .slice A b.t.length c] ∧ b.t.length ≤ c ∧ IntsAt w w.heap.size A b.t.length b.t ∧ c * 8 ≤ 140737488351232 := by
  obtain ⟨xs, n, _, hx, hlen, hxl, hf⟩ := DataW.trod_struct Try.underlying41 h
  rw [cells_bind] at hlen
  obtain ⟨a, b, rfl⟩ : ∃ a b, cs = [a, b] := by
    match cs, hlen with
    | [a, b], _ => exact ⟨a, b, rfl⟩
  have hxi : ∀ i, i < 2 → ∃ y, xs[i]? = some y := fun i hi => ⟨xs[i]'(by rw [hxl]; exact hi), List.getElem?_eq_getElem _⟩
  obtain ⟨y0, e0⟩ := hxi 0 (by omega)
  obtain ⟨y1, e1⟩ := hxi 1 (by omega)
  have f0 : DataW.trod enc Try.prog w 0 (fun _ => true) held n 3 (([a, b].drop 0).take (Try.prog.cellsOf 3)) = xs[0]? := hf 0 _ rfl
  have f1 : DataW.trod enc Try.prog w 0 (fun _ => true) held n 23 (([a, b].drop 1).take (Try.prog.cellsOf 23)) = xs[1]? := hf 1 _ rfl
  rw [e0] at f0; rw [e1] at f1
  rw [cells_int] at f0; rw [cells_ints] at f1
  rw [hx] at hs
  have s1 : Sized 23 y1.1 := Sized.field Try.underlying41 hs (i := 1) rfl (by rw [List.getElem?_map, e1]; rfl)
  obtain ⟨z, h0, _, _⟩ := DataW.trod_int Try.underlying3 f0
  obtain ⟨A, c, ts, h1, h2, h3, h4⟩ := read_ints f1 s1
  simp at h0 h1
  subst h0 h1
  exact ⟨⟨z, ts⟩, A, c, rfl, h2, h3, h4⟩
theorem open_binds {r : Reach} {b0 : Nat} {v : Value} {d : DataW H} {p : List MemPlace} (hv : Value.okWide Try.prog w r b0 25 v) (h : DataW.Trod enc Try.prog w 0 (fun _ => true) held 25 v d p) (hs : Sized 25 d) :
    ∃ (A : Option Addr) (n c : Nat) (bs : List Bd), v = .slice A n c ∧ BindsAt w w.heap.size A n bs ∧ n ≤ c ∧ c * 32 ≤ 140737488351232 := by
  obtain ⟨A', n', c', rfl⟩ := okWide_slice Try.underlying25 hv
  obtain ⟨fuel, hf⟩ := h
  obtain ⟨A, n, c, bs, h1, rfl, h3, h4, h5⟩ := read_list (fun (b : Bd) cs => ∃ A c, cs = [.int .i64 b.v, .slice A b.t.length c] ∧ b.t.length ≤ c ∧ IntsAt w w.heap.size A b.t.length b.t ∧ c * 8 ≤ 140737488351232) ⟨0, []⟩ 2 32 Try.underlying25 cells_bind (by omega) (by kernel_rfl)
    (fun _ _ _ h hs => read_bind h hs) hf hs
  simp [Value.cells] at h1
  obtain ⟨rfl, rfl, rfl⟩ := h1
  refine ⟨_, _, _, bs, rfl, ⟨rfl, fun hn => ?_, fun i hi => ?_⟩, h4, h5⟩
  · obtain ⟨b, off, e, hb, hc⟩ := h3 hn
    refine ⟨b, off, e, hb, fun i hi => ?_⟩
    obtain ⟨cs', ⟨A2, c2, rfl, q2, q3, q4⟩, hj⟩ := hc i hi
    exact ⟨hj 0 (by omega), A2, c2, hj 1 (by omega), q2, q3⟩
  · obtain ⟨b, off, e, hb, hc⟩ := h3 (by omega)
    obtain ⟨cs', ⟨A2, c2, rfl, q2, q3, q4⟩, hj⟩ := hc i hi
    have : (bdAt bs i).t.length ≤ c2 := q2
    omega
end
end Go.Proofs.Ytlpafnaokpjoiaa
