/-
  Contracts: point.ifNear; PointMay and point of quaereref8.
-/
import Derived.Test.YtcjpopjcpgipjaaDoorPointBase
namespace Go.Proofs.YtcjpopjcpgipjaaDoor
open Go.RowKit Go.Deep
set_option linter.unusedSimpArgs false
set_option linter.unusedVariables false
set_option maxRecDepth 100000

end Go.Proofs.YtcjpopjcpgipjaaDoor
