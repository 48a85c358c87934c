/-
  Contracts of the reference: Heavy of an expression, often, More, IsTerm, IsAtom, Which, Compare.
-/
import Derived.Test.YtcjpopjcpgipjaaDoorOrderCmp
import Derived.Test.YtcjpopjcpgipjaaDoorPartsR
namespace Go.Proofs.YtcjpopjcpgipjaaDoor
open Go.RowKit
set_option linter.unusedSimpArgs false
set_option linter.unusedVariables false
set_option maxRecDepth 100000

end Go.Proofs.YtcjpopjcpgipjaaDoor
