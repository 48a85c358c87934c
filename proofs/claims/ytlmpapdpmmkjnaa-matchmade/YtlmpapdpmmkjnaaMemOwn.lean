/-
  Words for memory, more: a row of symbols that the call itself has made.
-/
import Derived.Test.YtlmpapdpmmkjnaaMem
import Derived.Maps.AppendAt
import Derived.OwnWalk
namespace Go.Proofs.Ytlmpapdpmmkjnaa
open Go.RowKit
set_option linter.unusedSimpArgs false
set_option linter.unusedVariables false

def symCells (s : Sym) : List Value := [.string s.name, .int .i64 s.kind, .int .i64 s.arity, .int .i64 s.weight]
def cellsOf (ss : List Sym) : List Value := ss.flatMap symCells

theorem cellsOf_length (ss : List Sym) : (cellsOf ss).length = ss.length * 4 := by
  induction ss with
  | nil => rfl
  | cons s r ih => unfold cellsOf at *; simp [List.flatMap_cons, ih, symCells]; omega
theorem cellsOf_append (a b : List Sym) : cellsOf (a ++ b) = cellsOf a ++ cellsOf b := by unfold cellsOf; simp
theorem cellsOf_one (s : Sym) : cellsOf [s] = symCells s := by unfold cellsOf; simp
theorem cellsOf_get (ss : List Sym) (i : Nat) (hi : i < ss.length) : (cellsOf ss)[i * 4]? = some (.string (symAt ss i).name) ∧ (cellsOf ss)[i * 4 + 1]? = some (.int .i64 (symAt ss i).kind) ∧
    (cellsOf ss)[i * 4 + 2]? = some (.int .i64 (symAt ss i).arity) ∧ (cellsOf ss)[i * 4 + 3]? = some (.int .i64 (symAt ss i).weight) := by
  induction ss generalizing i with
  | nil => simp at hi
  | cons s r ih =>
    have e : cellsOf (s :: r) = .string s.name :: .int .i64 s.kind :: .int .i64 s.arity :: .int .i64 s.weight :: cellsOf r := by unfold cellsOf; simp [List.flatMap_cons, symCells]
    rw [e]
    cases i with
    | zero => simp [symAt]
    | succ i =>
      have := ih i (by simpa using hi)
      have k : (i + 1) * 4 = i * 4 + 4 := by omega
      rw [k]
      exact this
theorem cellsOf_oneCell (ss : List Sym) : ∀ u ∈ cellsOf ss, u.oneCell' = true := by
  intro u hu
  unfold cellsOf at hu
  obtain ⟨s, _, hs⟩ := List.mem_flatMap.1 hu
  simp [symCells] at hs
  rcases hs with rfl | rfl | rfl | rfl <;> rfl
theorem cellsOf_split (ss : List Sym) (j : Nat) (u : Value) (h : (cellsOf ss)[j]? = some u) : ∃ i r, j = i * 4 + r ∧ r < 4 ∧ i < ss.length := by
  have hl := cellsOf_length ss
  have : j < (cellsOf ss).length := by
    rcases Nat.lt_or_ge j (cellsOf ss).length with h1 | h1
    · exact h1
    · rw [List.getElem?_eq_none h1] at h; cases h
  exact ⟨j / 4, j % 4, by omega, by omega, by omega⟩

theorem addr_add (b off j : Nat) : ((⟨b, off, none⟩ : Addr).add j) = ⟨b, off + j, none⟩ := by
  unfold Addr.add; by_cases e0 : j = 0 <;> simp [e0]
theorem SymsAt.news {w : World} {B n b off : Nat} {ss : List Sym} (h : SymsAt w B (some ⟨b, off, none⟩) n ss) : ∀ j u, (cellsOf ss)[j]? = some u → w.cell? ((⟨b, off, none⟩ : Addr).add j) = some u := by
  intro j u hu
  obtain ⟨i, r, rfl, hr, hi⟩ := cellsOf_split ss j u hu
  have hn : i < n := by have := h.len; omega
  obtain ⟨b', off', e, _, hc⟩ := h.at_ (by omega)
  injection e with e
  injection e with e1 e2
  subst e1; subst e2
  obtain ⟨c0, c1, c2, c3⟩ := hc i hn
  obtain ⟨d0, d1, d2, d3⟩ := cellsOf_get ss i hi
  rw [addr_add, ← Nat.add_assoc]
  match r, hr with
  | 0, _ => rw [Nat.add_zero] at hu; rw [d0] at hu; rw [Nat.add_zero, c0]; exact hu
  | 1, _ => rw [d1] at hu; rw [c1]; exact hu
  | 2, _ => rw [d2] at hu; rw [c2]; exact hu
  | 3, _ => rw [d3] at hu; rw [c3]; exact hu

/-- A row of symbols that the call owns reads as its symbols. -/
theorem SymsAt.of_own {w : World} {base g n c : Nat} {e : TypeId} {ss : List Sym} (h : w.ownsRow base e 4 (.slice (some ⟨g, 0, none⟩) n c) n (cellsOf ss)) (hf : ∀ i, i < n → (symAt ss i).name.size ≤ maxLen) :
    SymsAt w w.heap.size (some ⟨g, 0, none⟩) n ss := by
  have hl : ss.length = n := by have := h.1; rw [cellsOf_length] at this; omega
  refine ⟨hl, fun hn => ?_, hf⟩
  obtain ⟨g', cap, hv, _, hlt⟩ := h.form hn
  have hg : g' = g := by injection hv with h1; injection h1 with h1; injection h1 with h1; exact h1.symm
  subst hg
  refine ⟨g', 0, rfl, hlt, fun i hi => ?_⟩
  obtain ⟨d0, d1, d2, d3⟩ := cellsOf_get ss i (by omega)
  have hc := h.cells (g := g') rfl
  refine ⟨?_, ?_, ?_, ?_⟩
  · rw [← addr_add]; exact hc _ _ d0
  · rw [Nat.add_assoc, ← addr_add]; exact hc _ _ d1
  · rw [Nat.add_assoc, ← addr_add]; exact hc _ _ d2
  · rw [Nat.add_assoc, ← addr_add]; exact hc _ _ d3

theorem own_base {w : World} {base base' size n : Nat} {e : TypeId} {v : Value} {xs : List Value} (h : w.ownsRow base e size v n xs) (hb : base' ≤ base) : w.ownsRow base' e size v n xs := by
  obtain ⟨h1, h2⟩ := h
  refine ⟨h1, ?_⟩
  rcases h2 with h2 | ⟨g, cap, cur, hv, hg, r⟩
  · exact .inl h2
  · exact .inr ⟨g, cap, cur, hv, Nat.le_trans hb hg, r⟩
theorem own_cap {w : World} {base g n cap size : Nat} {e : TypeId} {xs : List Value} (h : w.ownsRow base e size (.slice (some ⟨g, 0, none⟩) n cap) n xs) : n ≤ cap := by
  rcases h.2 with ⟨h, _⟩ | ⟨_, _, _, hv, _, _, hc, _⟩
  · cases h
  · injection hv with _ _ h3; omega
theorem symAt_append_left {ss : List Sym} {s : Sym} {i : Nat} (h : i < ss.length) : symAt (ss ++ [s]) i = symAt ss i := by
  unfold symAt; rw [List.getD_eq_getElem?_getD, List.getD_eq_getElem?_getD, List.getElem?_append_left h]
theorem symAt_append_right {ss : List Sym} {s : Sym} : symAt (ss ++ [s]) ss.length = s := by
  unfold symAt; simp

end Go.Proofs.Ytlmpapdpmmkjnaa
