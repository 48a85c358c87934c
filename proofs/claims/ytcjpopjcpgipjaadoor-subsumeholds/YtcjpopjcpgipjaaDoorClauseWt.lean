/-
  Contracts: clause.Weight, clause.Vars.
-/
import Derived.Test.YtcjpopjcpgipjaaDoorClauseNorm
import Derived.Test.YtcjpopjcpgipjaaDoorTermVars
import Derived.Test.YtcjpopjcpgipjaaDoorPlainMd
namespace Go.Proofs.YtcjpopjcpgipjaaDoor
open Go.RowKit Go.Deep
set_option linter.unusedSimpArgs false
set_option linter.unusedVariables false
set_option maxRecDepth 100000

def wtL (ss : List Sym) (ls : List Lt) : Int := (ls.map fun l => wtSum ss l.atom).sum
theorem wtL_next {ss : List Sym} {ls : List Lt} {k : Nat} (h : k < ls.length) : wtL ss (ls.take (k + 1)) = wtL ss (ls.take k) + wtSum ss (ltAt ls k).atom := by
  unfold wtL
  rw [List.take_add_one, ltAt_get h]
  simp [List.sum_append]
theorem lit_wt {ss : List Sym} {l : Lt} (h : litB ss l = true) : 0 ≤ wtSum ss l.atom ∧ wtSum ss l.atom ≤ 980 := by
  have hx := atom_ex (show atomB ss l.atom = true from h)
  have := wtSum_ok hx.1 (hx.2.codes hx.1) l.atom.length (Nat.le_refl _)
  rw [List.take_length] at this
  have := (lit_pos h).2
  omega
theorem wtL_bd {ss : List Sym} {ls : List Lt} (h : ∀ l ∈ ls, litB ss l = true) : 0 ≤ wtL ss ls ∧ wtL ss ls ≤ 980 * ls.length := by
  induction ls with
  | nil => exact ⟨Int.le_refl _, by simp [wtL]⟩
  | cons l ls ih =>
    have h1 := ih fun x hx => h x (List.mem_cons_of_mem _ hx)
    have h2 := lit_wt (h l (List.mem_cons_self ..))
    have e : wtL ss (l :: ls) = wtSum ss l.atom + wtL ss ls := by unfold wtL; simp
    rw [e, List.length_cons]
    omega
def wtO (ss : List Sym) (c : Cl) : Int := if mayC ss c then wtC ss c else 0
def varsO (ss : List Sym) (c : Cl) : List Int := if mayC ss c then varsC c else []
def IntPost (x E : Int) (w : World) (e : Ending) (w' : World) : Prop := e = .returned (.tuple #[.int .i64 x, .int .i64 E]) ∧ Below w.heap.size w w'

end Go.Proofs.YtcjpopjcpgipjaaDoor
