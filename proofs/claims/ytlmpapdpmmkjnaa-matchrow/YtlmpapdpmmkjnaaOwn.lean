/-
  Rows of integers that a call has made: an append in plain words.
-/
import Derived.Test.YtlmpapdpmmkjnaaRows
import Derived.Test.YtlmpapdpmmkjnaaMemInts
import Derived.Laws.AppendOwnNone
import Derived.Lib.Hide
import Derived.Laws.OwnMore
namespace Go.Proofs.Ytlmpapdpmmkjnaa
open Go.RowKit
set_option linter.unusedSimpArgs false
set_option linter.unusedVariables false

theorem int_info : (Try.prog.info? 3).map (fun i => (i.zero, i.size, i.bytes)) = some (some (.int .i64 0), 1, 8) := by kernel_rfl
/-- The value is a row of these integers, in a block from base on (or nil). -/
def OwnI (w : World) (base : Nat) (v : Value) (xs : List Int) : Prop := w.ownsRow base 3 1 v xs.length (intCells xs)
/-- A call that hands back such a row, and a number. -/
def IntsPost (xs : List Int) (E : Int) (w : World) (e : Ending) (w' : World) : Prop :=
  ∃ v, e = .returned (.tuple #[v, .int .i64 E]) ∧ OwnI w' w.heap.size v xs ∧ Below w.heap.size w w'
/-- A call that hands back such a row. -/
def IntsRet (xs : List Int) (w : World) (e : Ending) (w' : World) : Prop :=
  ∃ v, e = .returned v ∧ OwnI w' w.heap.size v xs ∧ Below w.heap.size w w'
theorem ret_vi {v : Value} {a b : Int} (h : a = b) : Ending.returned (.tuple #[v, .int .i64 a]) = .returned (.tuple #[v, .int .i64 b]) := by rw [h]
section
variable {w w' : World} {base base' : Nat} {v : Value} {xs ys : List Int}
theorem OwnI.nil_ : OwnI w base (.slice none 0 0) [] := ⟨rfl, .inl ⟨rfl, rfl⟩⟩
theorem OwnI.lower (h : OwnI w base v xs) (hb : base' ≤ base) : OwnI w base' v xs := own_base h hb
theorem OwnI.cast (h : OwnI w base v xs) (e : xs = ys) : OwnI w base v ys := e ▸ h
theorem OwnI.alloc (h : OwnI w base v xs) (o : Obj) : OwnI (w.alloc o) base v xs := World.ownsRow.alloc h o
theorem OwnI.below (h : OwnI w base v xs) (hb : Below w.heap.size w w') : OwnI w' base v xs := by
  obtain ⟨h1, h2⟩ := h
  refine ⟨h1, ?_⟩
  rcases h2 with h2 | ⟨g, cap, cur, hv, hg, hc, r⟩
  · exact .inl h2
  · have hlt : g < w.heap.size := (Array.getElem?_eq_some_iff.1 hc).1
    exact .inr ⟨g, cap, cur, hv, hg, by rw [hb.block g hlt]; exact hc, r⟩
theorem OwnI.on (h : OwnI w base v xs) (hb : Below w.heap.size w w') : OwnI w' base v xs := h.below hb
theorem OwnI.intsAt (h : OwnI w base v xs) : ∃ A cap, v = .slice A xs.length cap ∧ xs.length ≤ cap ∧ IntsAt w w.heap.size A xs.length xs := IntsAt.of_own (cap := 0) h
theorem OwnI.shape (h : OwnI w base v xs) : (v = .slice none 0 0 ∧ xs = []) ∨ ∃ g cap, v = .slice (some ⟨g, 0, none⟩) xs.length cap ∧ base ≤ g ∧ g < w.heap.size ∧ xs.length ≤ cap := by
  rcases h.2 with ⟨h1, h2⟩ | ⟨g, cap, cur, hv, hg, hc, hn, _⟩
  · exact .inl ⟨h1, List.length_eq_zero_iff.1 h2⟩
  · exact .inr ⟨g, cap, hv, hg, (Array.getElem?_eq_some_iff.1 hc).1, hn⟩
theorem grown_below (h : w.grownBy w' v.ownBlock) (ho : OwnI w base v xs) (hb : base ≤ w.heap.size) : Below base w w' :=
  (Below.refl base w).grown h hb (fun k hk => by
    rcases ho.shape with ⟨rfl, _⟩ | ⟨g, cap, rfl, hg, _⟩
    · simp [Value.ownBlock] at hk
    · simp [Value.ownBlock] at hk; omega)
theorem below_un_new {B : Nat} {o : Obj} (h : Below B (w.alloc o) w') (hB : B ≤ w.heap.size) : Below B w w' := ((below_new w o).mono hB).trans h

/-- 'x = append(x, y)' of integers, x made by the call. -/
theorem app_int1 {ops : Array Oper} {rest : List Oper} {o : Oper} {a : Act} {Q : Exit → Act → World → Prop} (hgd : o.guard = none) (s x : Operand)
    (ho : o.op = .call { callee := .builtin .append, args := #[s, x], argTypes := #[23, 23] })
    (base : Nat) (v : Value) (xs : List Int) (y : Int) (hs : a.eval s = v) (hown : OwnI w base v xs) (hx : a.eval x = .slice (some ⟨w.heap.size, 0, none⟩) 1 1)
    (hlen : xs.length + 1 ≤ 17592186044416) (hbase : base ≤ w.heap.size)
    (h : ∀ v' w', OwnI w' base v' (xs ++ [y]) → Below base w w' → wpList Try.prog ops Q rest (a.put o.dst v') w') : wpList Try.prog ops Q (o :: rest) a (w.alloc (.cells #[.int .i64 y] 3)) := by
  obtain ⟨i0, hi0, hz0, hz1, hz2⟩ := info_parts int_info
  have hown' := hown.alloc (.cells #[.int .i64 y] 3)
  refine wpList_append_own _ hgd s x 23 ho base 3 i0 _ 1 8 Try.underlying23 hi0 hz0 hz1 hz2 rfl (by omega) v xs.length (intCells xs) hs hown' ⟨w.heap.size, 0, none⟩ 1 1 (intCells [y]) hx rfl
    (World.news_of_block (cs := #[.int .i64 y]) (t := 3) (fr := (0, 0)) (heap_alloc_new w _)) (intCells_oneCell _) (by unfold maxLen; omega) (by omega) (by simp; omega) ?_
  intro v' w' h1 h2 _
  refine h v' w' ?_ (below_un_new (grown_below h2 hown' (by simp; omega)) hbase)
  unfold OwnI
  rw [intCells_append]
  simpa using h1
end
theorem intCells_news {w : World} {B n b off : Nat} {xs : List Int} (h : IntsAt w B (some ⟨b, off, none⟩) n xs) : ∀ j u, (intCells xs)[j]? = some u → w.cell? ((⟨b, off, none⟩ : Addr).add j) = some u := by
  intro j u hu
  have hj : j < xs.length := by
    rcases Nat.lt_or_ge j xs.length with h1 | h1
    · exact h1
    · rw [List.getElem?_eq_none (by rw [intCells_length]; omega)] at hu; cases hu
  have hl := h.len
  obtain ⟨b', off', e, _, hc⟩ := h.at_ (by omega)
  injection e with e
  injection e with e1 e2
  subst e1; subst e2
  rw [addr_plus, ← hu, intCells_get xs j hj]
  exact hc j (by omega)
set_option maxRecDepth 100000 in
/-- A row of integers behind another, x made by the call. -/
theorem app_ints_op {w : World} {o : Oper} {a : Act} {K : Act → World → Prop} {Q : Exit → Act → World → Prop} (s x : Operand)
    (ho : o.op = .call { callee := .builtin .append, args := #[s, x], argTypes := #[23, 23] })
    (base : Nat) (v : Value) (xs : List Int) (hs : a.eval s = v) (hown : OwnI w base v xs) (A : Option Addr) (n c B : Nat) (ys : List Int) (hx : a.eval x = .slice A n c) (hnil : A = none → n = 0 ∧ c = 0) (hat : IntsAt w B A n ys)
    (hlen : xs.length + n ≤ 17592186044416) (hbase : base ≤ w.heap.size)
    (h : ∀ v' w', OwnI w' base v' (xs ++ ys) → Below base w w' → K (a.put o.dst v') w') : o.wp Try.prog a w K Q := by
  obtain ⟨i0, hi0, hz0, hz1, hz2⟩ := info_parts int_info
  cases A with
  | none =>
    obtain ⟨rfl, rfl⟩ := hnil rfl
    have hy : ys = [] := List.length_eq_zero_iff.1 hat.len
    subst hy
    have hrun := run_append_owned_none (P := Try.prog) (w := w) base 23 o.type 3 i0 1 Try.underlying23 hi0 v xs.length (intCells xs) hown
    have hK := h v w (hown.cast (by simp)) (Below.refl _ _)
    unfold Oper.wp
    simp [execOp, ho, resolve, invoke, builtin, hs, hx, hrun, Result.andThen]
    exact hK
  | some ad =>
    have key : (∀ j u, (intCells ys)[j]? = some u → w.cell? (ad.add j) = some u) := by
      intro j u hu
      have hl := hat.len
      have hj : j < ys.length := by
        rcases Nat.lt_or_ge j ys.length with h1 | h1
        · exact h1
        · rw [List.getElem?_eq_none (by rw [intCells_length]; omega)] at hu; cases hu
      obtain ⟨b', off', e, _, hc⟩ := hat.at_ (by omega)
      injection e with e
      subst e
      exact intCells_news hat j u hu
    refine wp_append_own _ s x 23 ho base 3 i0 _ 1 8 Try.underlying23 hi0 hz0 hz1 hz2 rfl (by omega) v xs.length (intCells xs) hs hown ad n c (intCells ys) hx (by rw [intCells_length, hat.len, Nat.mul_one])
      key (intCells_oneCell _) (by unfold maxLen; omega) (by omega) hbase ?_
    intro v' w' h1 h2 _
    refine h v' w' ?_ (grown_below h2 hown hbase)
    unfold OwnI
    rw [intCells_append, List.length_append, hat.len]
    exact h1
theorem app_ints {w : World} {ops : Array Oper} {rest : List Oper} {o : Oper} {a : Act} {Q : Exit → Act → World → Prop} (hgd : o.guard = none) (s x : Operand)
    (ho : o.op = .call { callee := .builtin .append, args := #[s, x], argTypes := #[23, 23] })
    (base : Nat) (v : Value) (xs : List Int) (hs : a.eval s = v) (hown : OwnI w base v xs) (A : Option Addr) (n c B : Nat) (ys : List Int) (hx : a.eval x = .slice A n c) (hnil : A = none → n = 0 ∧ c = 0) (hat : IntsAt w B A n ys)
    (hlen : xs.length + n ≤ 17592186044416) (hbase : base ≤ w.heap.size)
    (h : ∀ v' w', OwnI w' base v' (xs ++ ys) → Below base w w' → wpList Try.prog ops Q rest (a.put o.dst v') w') : wpList Try.prog ops Q (o :: rest) a w :=
  wpList_plain hgd fun _ hK => app_ints_op s x ho base v xs hs hown A n c B ys hx hnil hat hlen hbase fun v' w' h1 h2 => hK _ _ (h v' w' h1 h2)
/-- The same where the operation is guarded, and the guard says yes. -/
theorem app_ints_want {w : World} {ops : Array Oper} {rest : List Oper} {o : Oper} {a : Act} {Q : Exit → Act → World → Prop} (hw : Region.wanted o (yielded ops a.tmps) = true) (s x : Operand)
    (ho : o.op = .call { callee := .builtin .append, args := #[s, x], argTypes := #[23, 23] })
    (base : Nat) (v : Value) (xs : List Int) (hs : a.eval s = v) (hown : OwnI w base v xs) (A : Option Addr) (n c B : Nat) (ys : List Int) (hx : a.eval x = .slice A n c) (hnil : A = none → n = 0 ∧ c = 0) (hat : IntsAt w B A n ys)
    (hlen : xs.length + n ≤ 17592186044416) (hbase : base ≤ w.heap.size)
    (h : ∀ v' w', OwnI w' base v' (xs ++ ys) → Below base w w' → wpList Try.prog ops Q rest (a.put o.dst v') w') : wpList Try.prog ops Q (o :: rest) a w :=
  wpList_step fun K hK => by
    rw [if_pos hw]
    exact app_ints_op s x ho base v xs hs hown A n c B ys hx hnil hat hlen hbase fun v' w' h1 h2 => hK _ _ (h v' w' h1 h2)

end Go.Proofs.Ytlmpapdpmmkjnaa
