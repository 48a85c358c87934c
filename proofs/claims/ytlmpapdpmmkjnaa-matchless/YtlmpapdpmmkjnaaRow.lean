/-
  Words for the last step of a law's proof: what a row asks of the program as a whole.
-/
import Derived.Test.YtlmpapdpmmkjnaaRows
import Derived.WalkKit
import Derived.ProofKit
import Derived.OpenShut
import Derived.ShutString
import Derived.ChangeOld
import Derived.Below
import Derived.SizedLaws
namespace Go.Proofs.Ytlmpapdpmmkjnaa
open Go.ChangeShapes Go.WideShapes Go.ChangeAt Go.RowKit
theorem row_own : ownKnob Try.prog.godebug = none := by kernel_rfl
theorem row_laidOut : laidOutB Try.prog = true := by kernel_rfl
end Go.Proofs.Ytlmpapdpmmkjnaa
