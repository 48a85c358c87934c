/-
  Contracts of the reference: behind, Parts, depth, Deep.
-/
import Derived.Test.YtcjpopjcpgipjaaDoorBaseTerm
namespace Go.Proofs.YtcjpopjcpgipjaaDoor
open Go.RowKit
set_option linter.unusedSimpArgs false
set_option linter.unusedVariables false

theorem scan_part {ss : List Sym} {r : List Int} {ms : List (Nat × Nat)} (h : tl ss r = some ms) {q : Nat} (hq : q < ms.length) : scanAt ss r 1 (sumL (ms.take q)) = ((sumL (ms.take (q + 1)) : Nat) : Int) := by
  obtain ⟨h1, h2⟩ := tl_skip r h q (by omega)
  obtain ⟨m, _, _, hd, hs, _⟩ := part_of h hq
  unfold scanAt
  rw [scan_tl _ h1 1, if_pos (by simp; omega), hd]
  show ((sumL (ms.take q) + sumL [m] : Nat) : Int) = _
  rw [hs]; simp [sumL]

/-- The first p parts of a row that lies at an address, as slices. -/
def partsV (b off cap : Nat) (ms : List (Nat × Nat)) (p : Nat) : List Value :=
  (List.range p).map fun q => .slice (some ⟨b, off + sumL (ms.take q), none⟩) (sumL (ms.take (q + 1)) - sumL (ms.take q)) (cap - sumL (ms.take q))
theorem partsV_succ (b off cap : Nat) (ms : List (Nat × Nat)) (p : Nat) : partsV b off cap ms (p + 1) = partsV b off cap ms p ++ [.slice (some ⟨b, off + sumL (ms.take p), none⟩) (sumL (ms.take (p + 1)) - sumL (ms.take p)) (cap - sumL (ms.take p))] := by
  unfold partsV; rw [List.range_succ, List.map_append]; rfl
theorem partsV_length (b off cap : Nat) (ms : List (Nat × Nat)) (p : Nat) : (partsV b off cap ms p).length = p := by unfold partsV; simp
theorem partsV_get (b off cap : Nat) (ms : List (Nat × Nat)) (p q : Nat) (h : q < p) : (partsV b off cap ms p)[q]? = some (.slice (some ⟨b, off + sumL (ms.take q), none⟩) (sumL (ms.take (q + 1)) - sumL (ms.take q)) (cap - sumL (ms.take q))) := by
  unfold partsV; simp [h]
theorem rows_info : (Tryd.prog.info? 28).map (fun i => (i.zero, i.size, i.bytes)) = some (some (.slice none 0 0), 1, 24) := by kernel_rfl
/-- The value is a row of these values (rows of integers), in a block from base on (or nil). -/
def OwnR (w : World) (base : Nat) (v : Value) (xs : List Value) : Prop := w.ownsRow base 28 1 v xs.length xs
theorem OwnR.nil_ {w : World} {base : Nat} : OwnR w base (.slice none 0 0) [] := ⟨rfl, .inl ⟨rfl, rfl⟩⟩
theorem OwnR.lower {w : World} {base base' : Nat} {v : Value} {xs : List Value} (h : OwnR w base v xs) (hb : base' ≤ base) : OwnR w base' v xs := own_base h hb
theorem OwnR.cast {w : World} {base : Nat} {v : Value} {xs ys : List Value} (h : OwnR w base v xs) (e : xs = ys) : OwnR w base v ys := e ▸ h
theorem OwnR.shape {w : World} {base : Nat} {v : Value} {xs : List Value} (h : OwnR w base v xs) : (v = .slice none 0 0 ∧ xs = []) ∨ ∃ g cap, v = .slice (some ⟨g, 0, none⟩) xs.length cap ∧ base ≤ g ∧ g < w.heap.size ∧ xs.length ≤ cap := by
  rcases h.2 with ⟨h1, h2⟩ | ⟨g, cap, cur, hv, hg, hc, hn, _⟩
  · exact .inl ⟨h1, List.length_eq_zero_iff.1 h2⟩
  · exact .inr ⟨g, cap, hv, hg, (Array.getElem?_eq_some_iff.1 hc).1, hn⟩
/-- 'x = append(x, y)' of rows, x made by the call. -/
theorem app_row1 {w : World} {ops : Array Oper} {rest : List Oper} {o : Oper} {a : Act} {Q : Exit → Act → World → Prop} (hgd : o.guard = none) (s x : Operand)
    (ho : o.op = .call { callee := .builtin .append, args := #[s, x], argTypes := #[24, 24] })
    (base : Nat) (v : Value) (xs : List Value) (y : Value) (hs : a.eval s = v) (hown : OwnR w base v xs) (hx : a.eval x = .slice (some ⟨w.heap.size, 0, none⟩) 1 1) (hy : y.oneCell' = true)
    (hlen : xs.length + 1 ≤ 5000000000000) (hbase : base ≤ w.heap.size)
    (h : ∀ v' w', OwnR w' base v' (xs ++ [y]) → Below base w w' → wpList Tryd.prog ops Q rest (a.put o.dst v') w') : wpList Tryd.prog ops Q (o :: rest) a (w.alloc (.cells #[y] 28)) := by
  obtain ⟨i0, hi0, hz0, hz1, hz2⟩ := info_parts rows_info
  have hown' : OwnR (w.alloc (.cells #[y] 28)) base v xs := World.ownsRow.alloc hown _
  refine wpList_append_own _ hgd s x 24 ho base 28 i0 _ 1 24 Tryd.underlying24 hi0 hz0 hz1 hz2 rfl (by omega) v xs.length xs hs hown' ⟨w.heap.size, 0, none⟩ 1 1 [y] hx rfl
    (World.news_of_block (cs := #[y]) (t := 28) (fr := (0, 0)) (heap_alloc_new w _)) (by simpa using hy) (by unfold maxLen; omega) (by omega) (by simp; omega) ?_
  intro v' w' h1 h2 _
  refine h v' w' ?_ (below_un_new (o := .cells #[y] 28) ?_ hbase)
  · unfold OwnR; simpa using h1
  · exact (Below.refl base _).grown h2 (by simp; omega) (fun k hk => by
      rcases hown'.shape with ⟨rfl, _⟩ | ⟨g, cap, rfl, hg, _⟩
      · simp [Value.ownBlock] at hk
      · simp [Value.ownBlock] at hk; omega)
/-- The parts of a row, in a new row. -/
def PartsRet (b off cap : Nat) (ms : List (Nat × Nat)) (w : World) (e : Ending) (w' : World) : Prop :=
  ∃ v, e = .returned v ∧ OwnR w' w.heap.size v (partsV b off cap ms ms.length) ∧ Below w.heap.size w w'

end Go.Proofs.YtcjpopjcpgipjaaDoor
