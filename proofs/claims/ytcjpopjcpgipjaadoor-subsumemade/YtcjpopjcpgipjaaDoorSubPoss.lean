/-
  Contract of package subsume: isPossible.
-/
import Derived.Test.YtcjpopjcpgipjaaDoorPointB
namespace Go.Proofs.YtcjpopjcpgipjaaDoor
open Go.RowKit Go.Deep
set_option linter.unusedSimpArgs false
set_option linter.unusedVariables false
set_option maxRecDepth 100000

def posB (a b c d : Int) : Bool := decide (a ≤ c) && decide (b ≤ d)
set_option maxHeartbeats 4000000 in
theorem isPossible_any (a b c d : Int) (w : World) (k1 : -1000000 ≤ a ∧ a ≤ 1000000) (k2 : -1000000 ≤ b ∧ b ≤ 1000000) (k3 : -1000000 ≤ c ∧ c ≤ 1000000) (k4 : -1000000 ≤ d ∧ d ≤ 1000000) :
    Calls Tryd.prog 28 #[.agg #[.int .i64 a, .int .i64 b], .agg #[.int .i64 c, .int .i64 d]] w fun e w' => e = .returned (.bool (posB a b c d)) ∧ Below w.heap.size w w' := by
  obtain ⟨re, im, f1, f2, hbin⟩ := c_sub (FI.near k3) (FI.near k4) (FI.near k1) (FI.near k2) (by omega) (by omega)
  have F1 := Lib.hid f1
  have F2 := Lib.hid f2
  have HBW : Hid (Below w.heap.size w ((w.alloc (.cells #[.int .i64 a, .int .i64 b] 56)).alloc (.cells #[.int .i64 c, .int .i64 d] 56))) := below_alloc2 w _ _
  clear f1 f2 k1 k2 k3 k4
  by_cases g1 : a ≤ c
  · have G1 := Lib.hid (decide_eq_true g1)
    have o1 := geq_yes F1.out (by omega)
    by_cases g2 : b ≤ d
    · have G2 := Lib.hid (decide_eq_true g2)
      have o2 := geq_yes F2.out (by omega)
      clear g1 g2
      go_enter Tryd.func28, Tryd.ntmps28
      go_wp2
      go_ret
      exact ⟨ret_b (by unfold posB; rw [G1.out, G2.out]; rfl), HBW.out⟩
    · have G2 := Lib.hid (decide_eq_false g2)
      have o2 := geq_no F2.out (by omega)
      clear g1 g2
      go_enter Tryd.func28, Tryd.ntmps28
      go_wp2
      go_ret
      exact ⟨ret_b (by unfold posB; rw [G1.out, G2.out]; rfl), HBW.out⟩
  · have G1 := Lib.hid (decide_eq_false g1)
    have o1 := geq_no F1.out (by omega)
    clear g1
    go_enter Tryd.func28, Tryd.ntmps28
    go_wp2
    go_ret
    exact ⟨ret_b (by unfold posB; rw [G1.out]; rfl), HBW.out⟩
end Go.Proofs.YtcjpopjcpgipjaaDoor
