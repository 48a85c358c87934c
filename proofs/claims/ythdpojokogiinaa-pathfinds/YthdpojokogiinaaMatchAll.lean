/-
  Contracts: match.binds, shape.IsRow, match.Match.
-/
import Derived.Test.YthdpojokogiinaaChange
namespace Go.Proofs.Ythdpojokogiinaa
open Go.RowKit
set_option linter.unusedSimpArgs false
set_option linter.unusedVariables false
set_option maxRecDepth 100000

theorem run_neq_nil {P : Program} (w : World) (t e : TypeId) (a : Option Addr) (n c n' c' : Nat) (h : P.underlying t = some (.slice e)) :
    (binOp .neq t (.slice a n c) (.slice none n' c')).run P w = .ok (.bool (!a.isNone)) w := by
  simp only [binOp]
  simp [Op.equal, Op.maxDepth, Lib.run_equalIn_slice_nil w 9999 t e a n c n' c' h]
theorem head_isV {ss : List Sym} {t : List Int} {v : Nat} (h : trm 24 ss t 1) : isV t v = decide (intAt t 0 = -1 - (v : Int)) := by
  rcases trm_one h with ⟨x, hx, e⟩ | ⟨c, ar, s, e, h0, _, _⟩
  · subst e
    unfold isV sameI
    by_cases q : x = v
    · subst q; simp [intAt]
    · have q' : ¬ (-1 - (x : Int)) = -1 - (v : Int) := by omega
      simp [intAt]
  · subst e
    unfold isV sameI
    have q' : ¬ c = -1 - (v : Int) := by omega
    simp [intAt, q']

theorem index_pcs {w : World} {cs : Array Value} {k : Nat} {u : Value} (hk : k < 24) (hc : cs[k]? = some u) : (Instr.index 67 (.agg cs) (.int .i64 (k : Int))).run Try.prog w = .ok u w := by
  have h1 : ∀ w, (isAgg 23).run Try.prog w = .ok false w := fun w => by kernel_rfl
  have h2 : ∀ w, (sizeOf 23).run Try.prog w = .ok 1 w := fun w => by kernel_rfl
  have h3 : ∀ w, (underlying 67).run Try.prog w = .ok (.array 24 23) w := fun w => by kernel_rfl
  have z0 : (0 : Int) ≤ (k : Int) := by omega
  have z1 : (k : Int) < 24 := by omega
  unfold Instr.index part
  simp only [asIntOf, Sem.run_bind, Sem.run_pure, Result.andThen_ok, h3]
  simp [z0, z1, Sem.run_bind, Result.andThen, h1, h2, hc, Sem.run_pure]
set_option maxHeartbeats 1000000 in
theorem isRowM_any (A A' : Option Addr) (n c m c' : Nat) (ss : List Sym) (r : List Int) (w : World) (h : SymsAt w w.heap.size A n ss) (hn : n ≤ maxLen) (hnc : n ≤ c) (hr : IntsAt w w.heap.size A' m r) (hm : m ≤ maxLen) :
    Calls Try.prog 36 #[.slice A n c, .slice A' m c'] w fun e w' => e = .returned (.bool (rowB ss r)) ∧ Below w.heap.size w w' := by
  cases hb : rowB ss r
  all_goals
    (first | (have he := rowE_yes hb; have h0 : 1 = 1 := rfl) | have he := rowE_no hb)
    clear hb
    go_enter Try.func36, Try.ntmps36
    go_wp2_with fail
    refine (row_any A A' n c m c' ss r _ h hn hnc hr hm).mono ?_
    rintro e w1 ⟨rfl, hb1⟩
    rw [he]
    clear he
    go_wp2
    go_ret
    exact ⟨rfl, hb1⟩

/-- What Match hands back. -/
def MatPost (ss : List Sym) (a b : List Int) (w : World) (e : Ending) (w' : World) : Prop :=
  ∃ v, e = .returned (.tuple #[v, .bool (mtIs ss a b), .int .i64 (mtE ss a b)]) ∧ OwnB w' w.heap.size v (mtB ss a b) ∧ Below w.heap.size w w'
theorem MatPost.no {ss : List Sym} {a b : List Int} {w w' : World} {e : Ending} {E : Int} (he : e = .returned (.tuple #[.slice none 0 0, .bool false, .int .i64 E])) (h1 : mtIs ss a b = false) (h2 : mtE ss a b = E) (hb : Below w.heap.size w w') : MatPost ss a b w e w' :=
  ⟨_, by rw [h1, h2]; exact he, by rw [mtB_no h1]; exact OwnB.nil_, hb⟩
theorem MatPost.yes {ss : List Sym} {a b : List Int} {w w' : World} {e : Ending} {v : Value} {T : Nat → List Int} (he : e = .returned (.tuple #[v, .bool true, .int .i64 0])) (h1 : mtO ss a b = some T) (hv : OwnB w' w.heap.size v (bdsOf (stT T) 24)) (hb : Below w.heap.size w w') : MatPost ss a b w e w' := by
  have h2 : mtIs ss a b = true := by unfold mtIs; rw [h1]; rfl
  exact ⟨v, by rw [h2, mtE_yes h2]; exact he, by rw [mtB_yes h1]; exact hv, hb⟩

end Go.Proofs.Ythdpojokogiinaa
