/-
  Laws for a struct in a box: it is stored as a whole, in a region that draws its order, too.
-/
import Derived.Test.YthdpojokogiinaaMemChg
import Derived.Test.YthdpojokogiinaaBaseTerm
import Derived.Laws.Rows
namespace Go.Proofs.Ythdpojokogiinaa
open Go.RowKit
set_option linter.unusedSimpArgs false
set_option linter.unusedVariables false
set_option maxRecDepth 100000

theorem setRow_chg {w : World} {g : Nat} {t : TypeId} {old cells : Array Value} (hg : w.heap[g]? = some (.cells old t (0, 0))) :
    (w.setRow g cells).heap[g]? = some (.cells cells t (0, 0)) ∧ Chg [t] g w (w.setRow g cells) ∧ (w.setRow g cells).heap.size = w.heap.size := by
  have hsz : (w.setRow g cells).heap.size = w.heap.size := by unfold World.setRow; simp
  have hne : ∀ k, k ≠ g → (w.setRow g cells).heap[k]? = w.heap[k]? := by
    intro k hk
    unfold World.setRow
    simp only [Array.getElem?_modify]
    rw [if_neg (fun q => hk q.symm)]
  refine ⟨?_, ⟨⟨rfl, rfl, rfl, by rw [hsz]; exact Nat.le_refl _, fun k hk => hne k (by omega)⟩, fun k cs e fr hk he => ?_⟩, hsz⟩
  · unfold World.setRow
    simp only [Array.getElem?_modify]
    rw [if_pos trivial, hg]; rfl
  · rw [hne k, hk]
    rintro rfl
    rw [hg] at hk
    injection hk with hk
    injection hk with _ q
    exact he (by rw [q]; simp)
theorem store_box_op {w : World} {o : Oper} {a : Act} {K : Act → World → Prop} {Q : Exit → Act → World → Prop} (t : TypeId) (p x : Operand) (ho : o.op = .store t p x) (hdst : o.dst = none)
    (g : Nat) (old cells : Array Value) (hp : a.eval p = .pointer (some ⟨g, 0, none⟩)) (hx : a.eval x = .agg cells) (hg : w.heap[g]? = some (.cells old t (0, 0))) (hs : old.size = cells.size) (hi : (Try.prog.info? t).map (·.size) = some cells.size) (h1 : cells.all (·.oneCell') = true)
    (h : ∀ w', w'.heap[g]? = some (.cells cells t (0, 0)) → Chg [t] g w w' → w'.heap.size = w.heap.size → K a w') : o.wp Try.prog a w K Q := by
  obtain ⟨k1, k2, k3⟩ := setRow_chg (cells := cells) hg
  have hK := h _ k1 k2 k3
  have hst : (Instr.storeAt t (.pointer (some ⟨g, 0, none⟩)) (.agg cells)).run Try.prog w = .ok () (w.setRow g cells) := by
    simp only [Instr.storeAt, Instr.sureAddr, Sem.run_bind, Sem.run_pure, Result.andThen]
    exact run_storeVar_row _ _ t t old cells hg hi hs h1
  unfold Oper.wp
  simp only [execOp, ho, hp, hx, Sem.run_bind, hst, Result.andThen]
  simp [Oper.upon, hdst, Act.put, hK]
theorem store_box_step {w : World} {ops : Array Oper} {o : Oper} {a : Act} {K : Act → World → Prop} {Q : Exit → Act → World → Prop} {E : Prop} (hgd : o.guard = none) (t : TypeId) (p x : Operand) (ho : o.op = .store t p x) (hdst : o.dst = none)
    (g : Nat) (old cells : Array Value) (hp : a.eval p = .pointer (some ⟨g, 0, none⟩)) (hx : a.eval x = .agg cells) (hg : w.heap[g]? = some (.cells old t (0, 0))) (hs : old.size = cells.size) (hi : (Try.prog.info? t).map (·.size) = some cells.size) (h1 : cells.all (·.oneCell') = true)
    (h : ∀ w', w'.heap[g]? = some (.cells cells t (0, 0)) → Chg [t] g w w' → w'.heap.size = w.heap.size → K a w') : if Region.wanted o (yielded ops a.tmps) = true then Oper.wp Try.prog o a w K Q else E := by
  have hw : Region.wanted o (yielded ops a.tmps) = true := by simp [Region.wanted, hgd]
  rw [if_pos hw]
  exact store_box_op t p x ho hdst g old cells hp hx hg hs hi h1 h
theorem store_box {w : World} {ops : Array Oper} {rest : List Oper} {o : Oper} {a : Act} {Q : Exit → Act → World → Prop} (hgd : o.guard = none) (t : TypeId) (p x : Operand) (ho : o.op = .store t p x) (hdst : o.dst = none)
    (g : Nat) (old cells : Array Value) (hp : a.eval p = .pointer (some ⟨g, 0, none⟩)) (hx : a.eval x = .agg cells) (hg : w.heap[g]? = some (.cells old t (0, 0))) (hs : old.size = cells.size) (hi : (Try.prog.info? t).map (·.size) = some cells.size) (h1 : cells.all (·.oneCell') = true)
    (h : ∀ w', w'.heap[g]? = some (.cells cells t (0, 0)) → Chg [t] g w w' → w'.heap.size = w.heap.size → wpList Try.prog ops Q rest a w') : wpList Try.prog ops Q (o :: rest) a w :=
  wpList_plain hgd fun _ hK => store_box_op t p x ho hdst g old cells hp hx hg hs hi h1 fun w' q1 q2 q3 => hK _ _ (h w' q1 q2 q3)
end Go.Proofs.Ythdpojokogiinaa
