/-
  Contracts: lit.allMay, shape.SameLit, shape.HasLit and what it calls (its function literal, slices.IndexFunc, slices.ContainsFunc).
-/
import Derived.Test.YtpfkibbmflnomaaMemGrt
import Derived.Test.YtpfkibbmflnomaaRefTops
namespace Go.Proofs.Ytpfkibbmflnomaa
open Go.RowKit Go.Deep
set_option linter.unusedSimpArgs false
set_option linter.unusedVariables false
set_option maxRecDepth 100000

def IdxPost (p : Lt) (ls : List Lt) (w : World) (e : Ending) (w' : World) : Prop := ∃ r : Int, e = .returned (.int .i64 r) ∧ decide (0 ≤ r) = hasL p ls ∧ Below w.heap.size w w'
end Go.Proofs.Ytpfkibbmflnomaa
