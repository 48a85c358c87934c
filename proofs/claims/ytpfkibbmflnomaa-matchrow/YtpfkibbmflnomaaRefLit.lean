/-
  Contracts of quaereref8: LitMay, LitWeight, which, LitCompare.
-/
import Derived.Test.YtpfkibbmflnomaaLitAll
import Derived.Test.YtpfkibbmflnomaaRefWhich
namespace Go.Proofs.Ytpfkibbmflnomaa
open Go.RowKit
set_option linter.unusedSimpArgs false
set_option linter.unusedVariables false
set_option maxRecDepth 100000

end Go.Proofs.Ytpfkibbmflnomaa
