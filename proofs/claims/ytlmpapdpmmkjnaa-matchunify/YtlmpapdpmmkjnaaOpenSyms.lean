/-
  An argument that is a slice of symbols, or a symbol, opened: the value's shape and what its cells hold.
-/
import Derived.Test.YtlmpapdpmmkjnaaRow
import Derived.Test.YtlmpapdpmmkjnaaMem
import Derived.Deep.Slices
namespace Go.Proofs.Ytlmpapdpmmkjnaa
open Go.ChangeShapes Go.WideShapes Go.ChangeAt Go.RowKit Go.Deep
set_option linter.unusedSimpArgs false
set_option linter.unusedVariables false
set_option maxRecDepth 100000

theorem cells_sym : Try.prog.cellsOf 70 = 4 := by kernel_rfl
theorem cells_str : Try.prog.cellsOf 9 = 1 := by kernel_rfl
theorem cells_int : Try.prog.cellsOf 3 = 1 := by kernel_rfl
theorem bytes_sym : Try.prog.bytesOf 70 = 40 := by kernel_rfl

section
variable {H : Type} {enc : TypeId × Value → H} {w : World} {base : Nat} {spare : Nat → Bool} {held : Bool}

theorem four_of {l : List Value} (h : l.length = 4) : ∃ a b c d, l = [a, b, c, d] := by
  match l, h with
  | [a, b, c, d], _ => exact ⟨a, b, c, d, rfl⟩

theorem read_sym {fuel : Nat} {cs : List Value} {x : DataW H × List MemPlace} (h : DataW.trod enc Try.prog w base spare held fuel 70 cs = some x) :
    ∃ s : Sym, cs = [.string s.name, .int .i64 s.kind, .int .i64 s.arity, .int .i64 s.weight] ∧ s.name.size ≤ maxLen := by
  obtain ⟨xs, n, _, _, hlen, hxl, hf⟩ := DataW.trod_struct Try.underlying70 h
  rw [cells_sym] at hlen
  obtain ⟨a, b, c, d, rfl⟩ := four_of hlen
  have hx : ∀ i, i < 4 → ∃ y, xs[i]? = some y := fun i hi => ⟨xs[i]'(by rw [hxl]; exact hi), List.getElem?_eq_getElem _⟩
  obtain ⟨y0, e0⟩ := hx 0 (by omega)
  obtain ⟨y1, e1⟩ := hx 1 (by omega)
  obtain ⟨y2, e2⟩ := hx 2 (by omega)
  obtain ⟨y3, e3⟩ := hx 3 (by omega)
  have f0 : DataW.trod enc Try.prog w base spare held n 9 (([a, b, c, d].drop 0).take (Try.prog.cellsOf 9)) = xs[0]? := hf 0 _ rfl
  have f1 : DataW.trod enc Try.prog w base spare held n 3 (([a, b, c, d].drop 1).take (Try.prog.cellsOf 3)) = xs[1]? := hf 1 _ rfl
  have f2 : DataW.trod enc Try.prog w base spare held n 3 (([a, b, c, d].drop 2).take (Try.prog.cellsOf 3)) = xs[2]? := hf 2 _ rfl
  have f3 : DataW.trod enc Try.prog w base spare held n 3 (([a, b, c, d].drop 3).take (Try.prog.cellsOf 3)) = xs[3]? := hf 3 _ rfl
  rw [e0] at f0; rw [e1] at f1; rw [e2] at f2; rw [e3] at f3
  rw [cells_str] at f0; rw [cells_int] at f1 f2 f3
  obtain ⟨s, h0, _, hs⟩ := DataW.trod_string Try.underlying9 f0
  obtain ⟨k, h1, _, _⟩ := DataW.trod_int Try.underlying3 f1
  obtain ⟨r, h2, _, _⟩ := DataW.trod_int Try.underlying3 f2
  obtain ⟨g, h3, _, _⟩ := DataW.trod_int Try.underlying3 f3
  simp at h0 h1 h2 h3
  subst h0 h1 h2 h3
  exact ⟨⟨s, k, r, g⟩, rfl, hs⟩

theorem open_sym {r : Reach} {b0 : Nat} {v : Value} {d : DataW H} {p : List MemPlace} (hv : Value.okWide Try.prog w r b0 70 v) (h : DataW.Trod enc Try.prog w base spare held 70 v d p) :
    ∃ (nm : ByteArray) (k a g : Int), v = .agg #[.string nm, .int .i64 k, .int .i64 a, .int .i64 g] ∧ nm.size ≤ maxLen := by
  obtain ⟨cs, rfl, _⟩ := okWide_struct Try.underlying70 hv
  obtain ⟨fuel, hf⟩ := h
  obtain ⟨s, hs, hl⟩ := read_sym hf
  obtain ⟨l⟩ := cs
  simp [Value.cells] at hs
  subst hs
  exact ⟨s.name, s.kind, s.arity, s.weight, rfl, hl⟩

theorem addr_add0 (b off j : Nat) : ((⟨b, off, none⟩ : Addr).add j) = ⟨b, off + j, none⟩ := by
  unfold Addr.add; by_cases e0 : j = 0 <;> simp [e0]
theorem symAt_range (f : Nat → Sym) (n i : Nat) (h : i < n) : symAt ((List.range n).map f) i = f i := by
  unfold symAt
  rw [List.getD_eq_getElem?_getD]
  simp [h]

theorem open_syms {r : Reach} {b0 : Nat} {v : Value} {d : DataW H} {p : List MemPlace} (hv : Value.okWide Try.prog w r b0 22 v) (h : DataW.Trod enc Try.prog w 0 (fun _ => true) held 22 v d p)
    (hsz : ∀ elems spare, d = .slice elems spare → (elems.length + spare.length) * Try.prog.bytesOf 70 ≤ reachBytes) :
    ∃ (A : Option Addr) (n c : Nat) (ss : List Sym), v = .slice A n c ∧ SymsAt w w.heap.size A n ss ∧ n ≤ c ∧ c * 40 ≤ 140737488351232 := by
  obtain ⟨A, n, c, rfl⟩ := okWide_slice Try.underlying22 hv
  obtain ⟨fuel, hf⟩ := h
  rcases open_slice Try.underlying22 hf with ⟨hcs, _⟩ | ⟨a, len, cap, m, k, D, Pl, hcs, _, hl, hm, hmm, hx, hi⟩
  · simp [Value.cells] at hcs
    obtain ⟨rfl, rfl, rfl⟩ := hcs
    exact ⟨_, _, _, [], rfl, SymsAt.nil_, Nat.le_refl _, by omega⟩
  · simp [Value.cells] at hcs
    obtain ⟨rfl, rfl, rfl⟩ := hcs
    simp only [if_true] at hmm
    obtain rfl : c = m := hmm.symm
    simp only [Prod.mk.injEq] at hx
    have hb := hsz _ _ hx.1
    rw [bytes_sym] at hb
    simp [reachBytes] at hb
    have hcb : c * 40 ≤ 140737488351232 := by omega
    have hex : ∀ i, ∃ s : Sym, i < c → (w.cell? ((a.add (i * 4)).add 0) = some (.string s.name) ∧ w.cell? ((a.add (i * 4)).add 1) = some (.int .i64 s.kind) ∧ w.cell? ((a.add (i * 4)).add 2) = some (.int .i64 s.arity) ∧ w.cell? ((a.add (i * 4)).add 3) = some (.int .i64 s.weight)) ∧ s.name.size ≤ maxLen := by
      intro i
      by_cases hic : i < c
      · obtain ⟨cs', hc, ht⟩ := hi i hic
        rw [cells_sym] at hc
        obtain ⟨s, rfl, hs⟩ := read_sym ht
        obtain ⟨_, _, hat⟩ := World.cells?_some hc
        exact ⟨s, fun _ => ⟨⟨by rw [hat 0 (by omega)]; rfl, by rw [hat 1 (by omega)]; rfl, by rw [hat 2 (by omega)]; rfl, by rw [hat 3 (by omega)]; rfl⟩, hs⟩⟩
      · exact ⟨⟨ByteArray.empty, 0, 0, 0⟩, fun h => absurd h hic⟩
    obtain ⟨f, hf'⟩ := Classical.axiomOfChoice hex
    refine ⟨_, _, _, (List.range n).map f, rfl, ⟨by simp, fun hp => ?_, fun i hi' => ?_⟩, hl, hcb⟩
    · obtain ⟨b, off, spot⟩ := a
      have h0 := ((hf' 0) (by omega)).1.1
      have hspot : spot = none := by simpa [Addr.add] using World.cell?_spot h0
      subst hspot
      have hlt := World.block_lt_of_cell? _ _ h0
      refine ⟨b, off, rfl, by simpa [Addr.add] using hlt, fun i hi' => ?_⟩
      rw [symAt_range f n i hi']
      have := ((hf' i) (by omega)).1
      simp only [addr_add0] at this
      exact this
    · rw [symAt_range f n i hi']
      exact ((hf' i) (by omega)).2
end

theorem sized_of {H : Type} {ts : List TypeId} {ds : List (DataW H)} (h : (DataW.weightsEach Try.prog ts ds).all (· ≤ reachBytes) = true) {j : Nat} {t e : TypeId} {d : DataW H} (ht : ts[j]? = some t) (hd : ds[j]? = some d) (hu : Try.prog.underlying t = some (.slice e)) :
    ∀ elems spare, d = .slice elems spare → (elems.length + spare.length) * Try.prog.bytesOf e ≤ reachBytes :=
  fun elems spare hs => sized_slice h ht (by rw [hd, hs]) hu

end Go.Proofs.Ytlmpapdpmmkjnaa
