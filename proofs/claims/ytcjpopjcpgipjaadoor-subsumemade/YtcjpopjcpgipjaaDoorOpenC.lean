/-
  Arguments that hold slices within slices, read in one way.
  Arguments that are literals, or slices of literals, opened.
  An argument that is a clause, opened.
-/
import Derived.Test.YtcjpopjcpgipjaaDoorOpen
import Derived.Test.YtcjpopjcpgipjaaDoorBaseMore
import Derived.Deep.Slices
import Derived.Test.YtcjpopjcpgipjaaDoorMemLits
import Derived.Test.YtcjpopjcpgipjaaDoorMemClause
namespace Go.Proofs.YtcjpopjcpgipjaaDoor
open Go.ChangeShapes Go.WideShapes Go.ChangeAt Go.RowKit Go.Deep
set_option linter.unusedSimpArgs false
set_option linter.unusedVariables false
set_option maxRecDepth 100000

section
variable {H : Type} {enc : TypeId × Value → H} {w : World} {held : Bool}
/-- A datum none of whose parts is too large for a machine. -/
def Sized (t : TypeId) (d : DataW H) : Prop := ∀ x ∈ d.weights Tryd.prog t, x ≤ reachBytes
theorem mem_weightsAll {e : TypeId} : ∀ {ds : List (DataW H)} {d : DataW H}, d ∈ ds → ∀ x ∈ d.weights Tryd.prog e, x ∈ DataW.weightsAll Tryd.prog e ds
  | a :: r, d, h, x, hx => by
    unfold DataW.weightsAll
    rcases List.mem_cons.1 h with rfl | h
    · exact List.mem_append_left _ hx
    · exact List.mem_append_right _ (mem_weightsAll h x hx)
theorem Sized.slice {t e : TypeId} {elems spare : List (DataW H)} (hu : Tryd.prog.underlying t = some (.slice e)) (h : Sized t (.slice elems spare)) :
    (elems.length + spare.length) * Tryd.prog.bytesOf e ≤ reachBytes ∧ (∀ d ∈ elems, Sized e d) ∧ ∀ d ∈ spare, Sized e d := by
  unfold Sized DataW.weights at h
  rw [hu] at h
  refine ⟨h _ (List.mem_cons_self ..), fun d hd x hx => h x (List.mem_cons_of_mem _ (List.mem_append_left _ (mem_weightsAll hd x hx))), fun d hd x hx => h x (List.mem_cons_of_mem _ (List.mem_append_right _ (mem_weightsAll hd x hx)))⟩
theorem Sized.field {t : TypeId} {fs : Array Field} {parts : List (DataW H)} (hu : Tryd.prog.underlying t = some (.struct fs)) (h : Sized t (.agg parts)) {i : Nat} {f : Field} {d : DataW H} (hf : fs[i]? = some f) (hd : parts[i]? = some d) : Sized f.type d := by
  unfold Sized DataW.weights at h
  rw [hu] at h
  intro x hx
  refine h x (DataW.weights_mem_each (j := i) ?_ hd x hx)
  rw [List.getElem?_map, Array.getElem?_toList, hf]; rfl
theorem sizedAll_of {ts : List TypeId} {ds : List (DataW H)} (h : (DataW.weightsEach Tryd.prog ts ds).all (· ≤ reachBytes) = true) {j : Nat} {t : TypeId} {d : DataW H} (ht : ts[j]? = some t) (hd : ds[j]? = some d) : Sized t d := fun x hx => by
  have := List.all_eq_true.1 h x (DataW.weights_mem_each ht hd x hx)
  simpa using this
/-- A slice, each element of which is read by R. -/
theorem read_list {t e : TypeId} {α : Type} (R : α → List Value → Prop) (a0 : α) (k by_ : Nat) (hu : Tryd.prog.underlying t = some (.slice e)) (hc1 : Tryd.prog.cellsOf e = k) (hk : 0 < k) (hb1 : Tryd.prog.bytesOf e = by_)
    (hread : ∀ (fuel : Nat) (cs : List Value) (x : DataW H × List MemPlace), DataW.trod enc Tryd.prog w 0 (fun _ => true) held fuel e cs = some x → Sized e x.1 → ∃ a, R a cs)
    {fuel : Nat} {cs : List Value} {x : DataW H × List MemPlace} (hf : DataW.trod enc Tryd.prog w 0 (fun _ => true) held fuel t cs = some x) (hs : Sized t x.1) :
    ∃ (A : Option Addr) (n c : Nat) (es : List α), cs = [.slice A n c] ∧ es.length = n ∧ (0 < n → ∃ b off, A = some ⟨b, off, none⟩ ∧ b < w.heap.size ∧ ∀ i, i < n → ∃ cs, R (es.getD i a0) cs ∧ ∀ j, j < k → w.cell? ⟨b, off + i * k + j, none⟩ = cs[j]?) ∧ n ≤ c ∧ c * by_ ≤ 140737488351232 := by
  rcases open_slice hu hf with ⟨hcs, _⟩ | ⟨a, len, cap, m, q, D, Pl, hcs, _, hl, hm, hmm, hx, hi⟩
  · exact ⟨none, 0, 0, [], hcs, rfl, fun h => absurd h (by omega), Nat.le_refl _, by omega⟩
  · simp only [if_true] at hmm
    obtain rfl : cap = m := hmm.symm
    rw [hx] at hs
    obtain ⟨hb, he, _⟩ := Sized.slice hu hs
    rw [hb1] at hb
    simp [reachBytes] at hb
    have hcb : cap * by_ ≤ 140737488351232 := by
      have e : len + (cap - len) = cap := by omega
      rw [e] at hb; exact hb
    have hex : ∀ i, ∃ s : α, i < len → ∃ cs, R s cs ∧ cs.length = k ∧ ∀ j, j < k → w.cell? ((a.add (i * k)).add j) = cs[j]? := by
      intro i
      by_cases hic : i < len
      · obtain ⟨cs', hc, ht⟩ := hi i (by omega)
        rw [hc1] at hc
        obtain ⟨s, hR⟩ := hread _ _ _ ht (he _ (List.mem_map.2 ⟨i, by simpa using hic, rfl⟩))
        obtain ⟨_, hln, hat⟩ := World.cells?_some hc
        exact ⟨s, fun _ => ⟨cs', hR, hln, fun j hj => by rw [hat j hj]⟩⟩
      · exact ⟨a0, fun h => absurd h hic⟩
    obtain ⟨f, hf'⟩ := Classical.axiomOfChoice hex
    have hg : ∀ i, i < len → ((List.range len).map f).getD i a0 = f i := fun i hi' => by
      rw [List.getD_eq_getElem?_getD]; simp [hi']
    refine ⟨_, _, _, (List.range len).map f, hcs, by simp, fun hp => ?_, hl, hcb⟩
    obtain ⟨b, off, spot⟩ := a
    obtain ⟨cs0, _, hl0, h0⟩ := hf' 0 hp
    have h0' := h0 0 hk
    have hsome : ∃ u, cs0[0]? = some u := ⟨cs0[0]'(by omega), List.getElem?_eq_getElem _⟩
    obtain ⟨u, hu0⟩ := hsome
    rw [hu0] at h0'
    have hspot : spot = none := by simpa [Addr.add] using World.cell?_spot h0'
    subst hspot
    have hlt := World.block_lt_of_cell? _ _ h0'
    refine ⟨b, off, rfl, by simpa [Addr.add] using hlt, fun i hi' => ?_⟩
    obtain ⟨cs', h1, _, h2⟩ := hf' i hi'
    refine ⟨cs', by rw [hg i hi']; exact h1, fun j hj => ?_⟩
    have := h2 j hj
    rw [addr_plus, addr_plus] at this
    exact this

theorem read_ints {fuel : Nat} {cs : List Value} {x : DataW H × List MemPlace} (hf : DataW.trod enc Tryd.prog w 0 (fun _ => true) held fuel 28 cs = some x) (hs : Sized 28 x.1) :
    ∃ (A : Option Addr) (c : Nat) (xs : List Int), cs = [.slice A xs.length c] ∧ xs.length ≤ c ∧ IntsAt w w.heap.size A xs.length xs ∧ c * 8 ≤ 140737488351232 := by
  obtain ⟨A, n, c, xs, h1, rfl, h3, h4, h5⟩ := read_list (fun (z : Int) cs => cs = [.int .i64 z]) 0 1 8 Tryd.underlying28 (by kernel_rfl) (by omega) (by kernel_rfl)
    (fun _ _ _ h _ => by obtain ⟨z, h, _⟩ := read_int h; exact ⟨z, h⟩) hf hs
  refine ⟨A, c, xs, h1, h4, ⟨rfl, fun hn => ?_⟩, h5⟩
  obtain ⟨b, off, e, hb, hc⟩ := h3 hn
  refine ⟨b, off, e, hb, fun i hi => ?_⟩
  obtain ⟨cs', hcs, hj⟩ := hc i hi
  have := hj 0 (by omega)
  rw [hcs, Nat.mul_one, Nat.add_zero] at this
  exact this
theorem cells_ints : Tryd.prog.cellsOf 28 = 1 := by kernel_rfl
end
end Go.Proofs.YtcjpopjcpgipjaaDoor

namespace Go.Proofs.YtcjpopjcpgipjaaDoor
open Go.ChangeShapes Go.WideShapes Go.ChangeAt Go.RowKit Go.Deep
set_option linter.unusedSimpArgs false
set_option linter.unusedVariables false
set_option maxRecDepth 100000

section
variable {H : Type} {enc : TypeId × Value → H} {w : World} {held : Bool}
theorem cells_bool : Tryd.prog.cellsOf 4 = 1 := by kernel_rfl
theorem cells_lit : Tryd.prog.cellsOf 75 = 2 := by kernel_rfl
theorem read_lit {fuel : Nat} {cs : List Value} {x : DataW H × List MemPlace} (h : DataW.trod enc Tryd.prog w 0 (fun _ => true) held fuel 75 cs = some x) (hs : Sized 75 x.1) :
    ∃ b : Lt, ∃ A c, cs = [.bool b.neg, .slice A b.atom.length c] ∧ b.atom.length ≤ c ∧ IntsAt w w.heap.size A b.atom.length b.atom ∧ c * 8 ≤ 140737488351232 := by
  obtain ⟨xs, n, _, hx, hlen, hxl, hf⟩ := DataW.trod_struct Tryd.underlying75 h
  rw [cells_lit] at hlen
  obtain ⟨a, b, rfl⟩ : ∃ a b, cs = [a, b] := by
    match cs, hlen with
    | [a, b], _ => exact ⟨a, b, rfl⟩
  have hxi : ∀ i, i < 2 → ∃ y, xs[i]? = some y := fun i hi => ⟨xs[i]'(by rw [hxl]; exact hi), List.getElem?_eq_getElem _⟩
  obtain ⟨y0, e0⟩ := hxi 0 (by omega)
  obtain ⟨y1, e1⟩ := hxi 1 (by omega)
  have f0 : DataW.trod enc Tryd.prog w 0 (fun _ => true) held n 4 (([a, b].drop 0).take (Tryd.prog.cellsOf 4)) = xs[0]? := hf 0 _ rfl
  have f1 : DataW.trod enc Tryd.prog w 0 (fun _ => true) held n 28 (([a, b].drop 1).take (Tryd.prog.cellsOf 28)) = xs[1]? := hf 1 _ rfl
  rw [e0] at f0; rw [e1] at f1
  rw [cells_bool] at f0; rw [cells_ints] at f1
  rw [hx] at hs
  have s1 : Sized 28 y1.1 := Sized.field Tryd.underlying75 hs (i := 1) rfl (by rw [List.getElem?_map, e1]; rfl)
  obtain ⟨z, h0, _⟩ := DataW.trod_bool Tryd.underlying4 f0
  obtain ⟨A, c, ts, h1, h2, h3, h4⟩ := read_ints f1 s1
  simp at h0 h1
  subst h0 h1
  exact ⟨⟨z, ts⟩, A, c, rfl, h2, h3, h4⟩
theorem open_lit {r : Reach} {b0 : Nat} {v : Value} {d : DataW H} {p : List MemPlace} (hv : Value.okWide Tryd.prog w r b0 75 v) (h : DataW.Trod enc Tryd.prog w 0 (fun _ => true) held 75 v d p) (hs : Sized 75 d) :
    ∃ (b : Lt) (A : Option Addr) (c : Nat), v = .agg #[.bool b.neg, .slice A b.atom.length c] ∧ b.atom.length ≤ c ∧ IntsAt w w.heap.size A b.atom.length b.atom ∧ c * 8 ≤ 140737488351232 := by
  obtain ⟨cs, rfl, _⟩ := okWide_struct Tryd.underlying75 hv
  obtain ⟨fuel, hf⟩ := h
  obtain ⟨b, A, c, h1, h2, h3, h4⟩ := read_lit hf hs
  obtain ⟨l⟩ := cs
  simp [Value.cells] at h1
  subst h1
  exact ⟨b, A, c, rfl, h2, h3, h4⟩
theorem open_lits {r : Reach} {b0 : Nat} {v : Value} {d : DataW H} {p : List MemPlace} (hv : Value.okWide Tryd.prog w r b0 23 v) (h : DataW.Trod enc Tryd.prog w 0 (fun _ => true) held 23 v d p) (hs : Sized 23 d) :
    ∃ (A : Option Addr) (n c : Nat) (bs : List Lt), v = .slice A n c ∧ LitsAt w w.heap.size A n bs ∧ n ≤ c ∧ c * 32 ≤ 140737488351232 := by
  obtain ⟨A', n', c', rfl⟩ := okWide_slice Tryd.underlying23 hv
  obtain ⟨fuel, hf⟩ := h
  obtain ⟨A, n, c, bs, h1, rfl, h3, h4, h5⟩ := read_list (fun (b : Lt) cs => ∃ A c, cs = [.bool b.neg, .slice A b.atom.length c] ∧ b.atom.length ≤ c ∧ IntsAt w w.heap.size A b.atom.length b.atom ∧ c * 8 ≤ 140737488351232) ⟨false, []⟩ 2 32 Tryd.underlying23 cells_lit (by omega) (by kernel_rfl)
    (fun _ _ _ h hs => read_lit h hs) hf hs
  simp [Value.cells] at h1
  obtain ⟨rfl, rfl, rfl⟩ := h1
  refine ⟨_, _, _, bs, rfl, ⟨rfl, fun hn => ?_, fun i hi => ?_⟩, h4, h5⟩
  · obtain ⟨b, off, e, hb, hc⟩ := h3 hn
    refine ⟨b, off, e, hb, fun i hi => ?_⟩
    obtain ⟨cs', ⟨A2, c2, rfl, q2, q3, q4⟩, hj⟩ := hc i hi
    exact ⟨hj 0 (by omega), A2, c2, hj 1 (by omega), q2, q3⟩
  · obtain ⟨b, off, e, hb, hc⟩ := h3 (by omega)
    obtain ⟨cs', ⟨A2, c2, rfl, q2, q3, q4⟩, hj⟩ := hc i hi
    have : (ltAt bs i).atom.length ≤ c2 := q2
    omega
end
end Go.Proofs.YtcjpopjcpgipjaaDoor

namespace Go.Proofs.YtcjpopjcpgipjaaDoor
open Go.ChangeShapes Go.WideShapes Go.ChangeAt Go.RowKit Go.Deep
set_option linter.unusedSimpArgs false
set_option linter.unusedVariables false
set_option maxRecDepth 100000

section
variable {H : Type} {enc : TypeId × Value → H} {w : World} {held : Bool}
theorem read_nil {t e : TypeId} (hu : Tryd.prog.underlying t = some (.slice e)) {fuel : Nat} {cs : List Value} {x : DataW H × List MemPlace} (hf : DataW.trod enc Tryd.prog w 0 (fun _ => true) held fuel t cs = some x) {A : Option Addr} {n c : Nat} (h : cs = [.slice A n c]) : A = none → c = 0 := by
  rcases open_slice hu hf with ⟨hcs, _⟩ | ⟨a, len, cap, m, q, D, Pl, hcs, _⟩
  · rw [h] at hcs
    simp at hcs
    exact fun _ => hcs.2.2
  · rw [h] at hcs
    simp at hcs
    intro e
    rw [e] at hcs
    cases hcs.1
theorem read_lits {fuel : Nat} {cs : List Value} {x : DataW H × List MemPlace} (hf : DataW.trod enc Tryd.prog w 0 (fun _ => true) held fuel 23 cs = some x) (hs : Sized 23 x.1) :
    ∃ (A : Option Addr) (n c : Nat) (bs : List Lt), cs = [.slice A n c] ∧ LitsAt w w.heap.size A n bs ∧ n ≤ c ∧ c * 32 ≤ 140737488351232 := by
  obtain ⟨A, n, c, bs, h1, rfl, h3, h4, h5⟩ := read_list (fun (b : Lt) cs => ∃ A c, cs = [.bool b.neg, .slice A b.atom.length c] ∧ b.atom.length ≤ c ∧ IntsAt w w.heap.size A b.atom.length b.atom ∧ c * 8 ≤ 140737488351232) ⟨false, []⟩ 2 32 Tryd.underlying23 cells_lit (by omega) (by kernel_rfl)
    (fun _ _ _ h hs => read_lit h hs) hf hs
  refine ⟨_, _, _, bs, h1, ⟨rfl, fun hn => ?_, fun i hi => ?_⟩, h4, h5⟩
  · obtain ⟨b, off, e, hb, hc⟩ := h3 hn
    refine ⟨b, off, e, hb, fun i hi => ?_⟩
    obtain ⟨cs', ⟨A2, c2, rfl, q2, q3, q4⟩, hj⟩ := hc i hi
    exact ⟨hj 0 (by omega), A2, c2, hj 1 (by omega), q2, q3⟩
  · obtain ⟨b, off, e, hb, hc⟩ := h3 (by omega)
    obtain ⟨cs', ⟨A2, c2, rfl, q2, q3, q4⟩, hj⟩ := hc i hi
    have : (ltAt bs i).atom.length ≤ c2 := q2
    omega
theorem read_row {fuel : Nat} {cs : List Value} {x : DataW H × List MemPlace} (hf : DataW.trod enc Tryd.prog w 0 (fun _ => true) held fuel 28 cs = some x) (hs : Sized 28 x.1) :
    ∃ (xs : List Int), ∃ A c, cs = [.slice A xs.length c] ∧ RowIn w w.heap.size A xs.length c xs ∧ (A = none → c = 0) := by
  obtain ⟨A, c, xs, h1, h2, h3, h4⟩ := read_ints hf hs
  exact ⟨xs, A, c, h1, ⟨h3, h2, by omega⟩, read_nil Tryd.underlying28 hf h1⟩
theorem read_rows {fuel : Nat} {cs : List Value} {x : DataW H × List MemPlace} (hf : DataW.trod enc Tryd.prog w 0 (fun _ => true) held fuel 24 cs = some x) (hs : Sized 24 x.1) :
    ∃ (A : Option Addr) (n c : Nat) (ts : List (List Int)), cs = [.slice A n c] ∧ TupsAt w w.heap.size A n ts ∧ n ≤ c ∧ c * 24 ≤ 140737488351232 ∧ (A = none → c = 0) := by
  obtain ⟨A, n, c, ts, h1, rfl, h3, h4, h5⟩ := read_list (fun (r : List Int) cs => ∃ A c, cs = [.slice A r.length c] ∧ RowIn w w.heap.size A r.length c r ∧ (A = none → c = 0)) [] 1 24 Tryd.underlying24 cells_ints (by omega) (by kernel_rfl)
    (fun _ _ _ h hs => read_row h hs) hf hs
  refine ⟨_, _, _, ts, h1, ⟨rfl, fun hn => ?_⟩, h4, h5, read_nil Tryd.underlying24 hf h1⟩
  obtain ⟨b, off, e, hb, hc⟩ := h3 hn
  refine ⟨b, off, e, hb, fun i hi => ?_⟩
  obtain ⟨cs', ⟨A2, c2, rfl, q2, q3⟩, hj⟩ := hc i hi
  have := hj 0 (by omega)
  rw [Nat.mul_one, Nat.add_zero] at this
  exact ⟨A2, c2, this, q2, q3⟩
theorem cells_lits : Tryd.prog.cellsOf 23 = 1 := by kernel_rfl
theorem cells_rows : Tryd.prog.cellsOf 24 = 1 := by kernel_rfl
theorem cells_clause : Tryd.prog.cellsOf 26 = 3 := by kernel_rfl
theorem read_clause {fuel : Nat} {cs : List Value} {x : DataW H × List MemPlace} (h : DataW.trod enc Tryd.prog w 0 (fun _ => true) held fuel 26 cs = some x) (hs : Sized 26 x.1) :
    ∃ (v : Cv) (c : Cl), cs = [.slice v.A1 v.n1 v.c1, .slice v.A2 v.n2 v.c2, .slice v.A3 v.n3 v.c3] ∧ ClAt w w.heap.size v c := by
  obtain ⟨xs, n, _, hx, hlen, hxl, hf⟩ := DataW.trod_struct Tryd.underlying26 h
  rw [cells_clause] at hlen
  obtain ⟨a, b, d, rfl⟩ : ∃ a b d, cs = [a, b, d] := by
    match cs, hlen with
    | [a, b, d], _ => exact ⟨a, b, d, rfl⟩
  have hxi : ∀ i, i < 3 → ∃ y, xs[i]? = some y := fun i hi => ⟨xs[i]'(by rw [hxl]; exact hi), List.getElem?_eq_getElem _⟩
  obtain ⟨y0, e0⟩ := hxi 0 (by omega)
  obtain ⟨y1, e1⟩ := hxi 1 (by omega)
  obtain ⟨y2, e2⟩ := hxi 2 (by omega)
  have f0 : DataW.trod enc Tryd.prog w 0 (fun _ => true) held n 23 (([a, b, d].drop 0).take (Tryd.prog.cellsOf 23)) = xs[0]? := hf 0 _ rfl
  have f1 : DataW.trod enc Tryd.prog w 0 (fun _ => true) held n 24 (([a, b, d].drop 1).take (Tryd.prog.cellsOf 24)) = xs[1]? := hf 1 _ rfl
  have f2 : DataW.trod enc Tryd.prog w 0 (fun _ => true) held n 23 (([a, b, d].drop 2).take (Tryd.prog.cellsOf 23)) = xs[2]? := hf 2 _ rfl
  rw [e0] at f0; rw [e1] at f1; rw [e2] at f2
  rw [cells_lits] at f0 f2; rw [cells_rows] at f1
  rw [hx] at hs
  have s0 : Sized 23 y0.1 := Sized.field Tryd.underlying26 hs (i := 0) rfl (by rw [List.getElem?_map, e0]; rfl)
  have s1 : Sized 24 y1.1 := Sized.field Tryd.underlying26 hs (i := 1) rfl (by rw [List.getElem?_map, e1]; rfl)
  have s2 : Sized 23 y2.1 := Sized.field Tryd.underlying26 hs (i := 2) rfl (by rw [List.getElem?_map, e2]; rfl)
  obtain ⟨A1, n1, c1, ls, h1, k1, m1, b1⟩ := read_lits f0 s0
  obtain ⟨A2, n2, c2, ts, h2, k2, m2, b2, z2⟩ := read_rows f1 s1
  obtain ⟨A3, n3, c3, ms, h3, k3, m3, b3⟩ := read_lits f2 s2
  simp at h1 h2 h3
  subst h1 h2 h3
  exact ⟨⟨A1, n1, c1, A2, n2, c2, A3, n3, c3⟩, ⟨ls, ts, ms⟩, rfl, k1, k2, k3, m1, m2, m3, z2, by show n1 * 32 ≤ _; omega, by show n2 * 24 ≤ _; omega, by show n3 * 32 ≤ _; omega⟩
theorem open_clause {r : Reach} {b0 : Nat} {v : Value} {d : DataW H} {p : List MemPlace} (hv : Value.okWide Tryd.prog w r b0 26 v) (h : DataW.Trod enc Tryd.prog w 0 (fun _ => true) held 26 v d p) (hs : Sized 26 d) :
    ∃ (u : Cv) (c : Cl), v = u.val ∧ ClAt w w.heap.size u c := by
  obtain ⟨cs, rfl, _⟩ := okWide_struct Tryd.underlying26 hv
  obtain ⟨fuel, hf⟩ := h
  obtain ⟨u, c, h1, h2⟩ := read_clause hf hs
  obtain ⟨l⟩ := cs
  simp [Value.cells] at h1
  subst h1
  exact ⟨u, c, rfl, h2⟩
end
end Go.Proofs.YtcjpopjcpgipjaaDoor
