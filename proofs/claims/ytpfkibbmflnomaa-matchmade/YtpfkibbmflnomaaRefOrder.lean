/-
  Contracts of the reference: Heavy of an expression, often, More, IsTerm, IsAtom, Which, Compare.
-/
import Derived.Test.YtpfkibbmflnomaaOrderCmp
import Derived.Test.YtpfkibbmflnomaaPartsR
namespace Go.Proofs.Ytpfkibbmflnomaa
open Go.RowKit
set_option linter.unusedSimpArgs false
set_option linter.unusedVariables false
set_option maxRecDepth 100000

end Go.Proofs.Ytpfkibbmflnomaa
