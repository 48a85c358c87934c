/-
  No cell of these rows narrows 'for every input' (looked for: loops, veiled, ifaces, maps, wideKeys, modest, calm, conditions, laid).
  DERIVED. THE GIVEN ROWS OF THIS SEAT. 6 by the template 'for every input the law returns true; each argument reads behind the call as it read before'; 0 by the template 'total and deterministic' (their statements: YtpblpndlajoebaaTotals.lean).
  GIVEN WITH THE SEED: the statements are not yours to turn. If you find one false, say at which input.
  Laid BY PROGRAM, IN A SANDBOX (cutbox-rows.mjs): the forced cells as the released guide's own fill.sh prints them over the translation b2f97e8414d420d7… (all of the seat's roots in one cut). By AI agents, Wed Nov 11 2026. No macro, syntax, notation, axiom, sorry.
-/
import Derived.Test.YtpblpndlajoebaaChecked
import GoSem.Claim
import GoSem.ClaimJoined
import GoSem.ClaimMapViews
import Derived.JoinedTies
import Derived.KernelRfl
namespace Go.Proofs.Ytpblpndlajoebaa
/- THE CELL 'sum', in the pinned program and in every row, IS THE sha256 OF THE DUMP (.gsa) THAT YtpblpndlajoebaaProg.lean LOADS. Nothing in Lean hashes anything: it is a label: what it is worth is what the hold of that sum in a sandbox is worth. -/
noncomputable def Try.pinned : Pinned := { name := "ytpblpndlajoebaa", sum := "b2f97e8414d420d7552d25481610a662d7a8422279b6dcf22ca202cdac6d0fb5", checked := Try.checked }
namespace Rows
def none {H : Type} : Left H := { results := [], args := [] }

/-- 'quaerelaw8.Clauses': WHATEVER THE INPUT: true; the input reads as it did. -/
def clausesSpec : ChangeSpec := { name := "clauses", fn := fun _ => fun
  | [d1, d2, d3] => { results := [.lit (.bool true)], args := [d1, d2, d3] }
  | _ => none }
def clausesRow : OpenClaim := { program := "ytpblpndlajoebaa", sum := "b2f97e8414d420d7552d25481610a662d7a8422279b6dcf22ca202cdac6d0fb5", func := "quaere/quaerelaw8.Clauses", spec := "clauses", unfollowed := true, recurses := true, apart := false }
def ClausesSaid : Prop := clausesRow.holds Try.pinned (OpenSpec.ofChange clausesSpec)

/-- ITS FALSE NEIGHBOUR: 'it returns false'. Refute it at one input. -/
def clausesWrong : ChangeSpec := { name := "clauses", fn := fun _ => fun
  | [d1, d2, d3] => { results := [.lit (.bool false)], args := [d1, d2, d3] }
  | _ => none }
def ClausesWrongFalsely : Prop := clausesRow.holds Try.pinned (OpenSpec.ofChange clausesWrong)

/-- 'quaerelaw8.ClauseNormals': WHATEVER THE INPUT: true; the input reads as it did. -/
def clauseNormalsSpec : ChangeSpec := { name := "clauseNormals", fn := fun _ => fun
  | [d1, d2] => { results := [.lit (.bool true)], args := [d1, d2] }
  | _ => none }
def clauseNormalsRow : OpenClaim := { program := "ytpblpndlajoebaa", sum := "b2f97e8414d420d7552d25481610a662d7a8422279b6dcf22ca202cdac6d0fb5", func := "quaere/quaerelaw8.ClauseNormals", spec := "clauseNormals", unfollowed := true, recurses := true, apart := false }
def ClauseNormalsSaid : Prop := clauseNormalsRow.holds Try.pinned (OpenSpec.ofChange clauseNormalsSpec)

/-- ITS FALSE NEIGHBOUR: 'it returns false'. Refute it at one input. -/
def clauseNormalsWrong : ChangeSpec := { name := "clauseNormals", fn := fun _ => fun
  | [d1, d2] => { results := [.lit (.bool false)], args := [d1, d2] }
  | _ => none }
def ClauseNormalsWrongFalsely : Prop := clauseNormalsRow.holds Try.pinned (OpenSpec.ofChange clauseNormalsWrong)

/-- 'quaerelaw8.ClauseAgain': WHATEVER THE INPUT: true; the input reads as it did. -/
def clauseAgainSpec : ChangeSpec := { name := "clauseAgain", fn := fun _ => fun
  | [d1, d2] => { results := [.lit (.bool true)], args := [d1, d2] }
  | _ => none }
def clauseAgainRow : OpenClaim := { program := "ytpblpndlajoebaa", sum := "b2f97e8414d420d7552d25481610a662d7a8422279b6dcf22ca202cdac6d0fb5", func := "quaere/quaerelaw8.ClauseAgain", spec := "clauseAgain", unfollowed := true, recurses := true, apart := false }
def ClauseAgainSaid : Prop := clauseAgainRow.holds Try.pinned (OpenSpec.ofChange clauseAgainSpec)

/-- ITS FALSE NEIGHBOUR: 'it returns false'. Refute it at one input. -/
def clauseAgainWrong : ChangeSpec := { name := "clauseAgain", fn := fun _ => fun
  | [d1, d2] => { results := [.lit (.bool false)], args := [d1, d2] }
  | _ => none }
def ClauseAgainWrongFalsely : Prop := clauseAgainRow.holds Try.pinned (OpenSpec.ofChange clauseAgainWrong)

/-- 'quaerelaw8.ClauseNames': WHATEVER THE INPUT: true; the input reads as it did. -/
def clauseNamesSpec : ChangeSpec := { name := "clauseNames", fn := fun _ => fun
  | [d1, d2, d3, d4] => { results := [.lit (.bool true)], args := [d1, d2, d3, d4] }
  | _ => none }
def clauseNamesRow : OpenClaim := { program := "ytpblpndlajoebaa", sum := "b2f97e8414d420d7552d25481610a662d7a8422279b6dcf22ca202cdac6d0fb5", func := "quaere/quaerelaw8.ClauseNames", spec := "clauseNames", unfollowed := true, recurses := true, apart := false }
def ClauseNamesSaid : Prop := clauseNamesRow.holds Try.pinned (OpenSpec.ofChange clauseNamesSpec)

/-- ITS FALSE NEIGHBOUR: 'it returns false'. Refute it at one input. -/
def clauseNamesWrong : ChangeSpec := { name := "clauseNames", fn := fun _ => fun
  | [d1, d2, d3, d4] => { results := [.lit (.bool false)], args := [d1, d2, d3, d4] }
  | _ => none }
def ClauseNamesWrongFalsely : Prop := clauseNamesRow.holds Try.pinned (OpenSpec.ofChange clauseNamesWrong)

/-- 'quaerelaw8.ClauseHolds': WHATEVER THE INPUT: true; the input reads as it did. -/
def clauseHoldsSpec : ChangeSpec := { name := "clauseHolds", fn := fun _ => fun
  | [d1, d2, d3, d4] => { results := [.lit (.bool true)], args := [d1, d2, d3, d4] }
  | _ => none }
def clauseHoldsRow : OpenClaim := { program := "ytpblpndlajoebaa", sum := "b2f97e8414d420d7552d25481610a662d7a8422279b6dcf22ca202cdac6d0fb5", func := "quaere/quaerelaw8.ClauseHolds", spec := "clauseHolds", unfollowed := true, recurses := true, apart := false }
def ClauseHoldsSaid : Prop := clauseHoldsRow.holds Try.pinned (OpenSpec.ofChange clauseHoldsSpec)

/-- ITS FALSE NEIGHBOUR: 'it returns false'. Refute it at one input. -/
def clauseHoldsWrong : ChangeSpec := { name := "clauseHolds", fn := fun _ => fun
  | [d1, d2, d3, d4] => { results := [.lit (.bool false)], args := [d1, d2, d3, d4] }
  | _ => none }
def ClauseHoldsWrongFalsely : Prop := clauseHoldsRow.holds Try.pinned (OpenSpec.ofChange clauseHoldsWrong)

/-- 'quaerelaw8.ClauseFull': WHATEVER THE INPUT: true; the input reads as it did. -/
def clauseFullSpec : ChangeSpec := { name := "clauseFull", fn := fun _ => fun
  | [d1, d2, d3] => { results := [.lit (.bool true)], args := [d1, d2, d3] }
  | _ => none }
def clauseFullRow : OpenClaim := { program := "ytpblpndlajoebaa", sum := "b2f97e8414d420d7552d25481610a662d7a8422279b6dcf22ca202cdac6d0fb5", func := "quaere/quaerelaw8.ClauseFull", spec := "clauseFull", unfollowed := true, recurses := true, apart := false }
def ClauseFullSaid : Prop := clauseFullRow.holds Try.pinned (OpenSpec.ofChange clauseFullSpec)

/-- ITS FALSE NEIGHBOUR: 'it returns false'. Refute it at one input. -/
def clauseFullWrong : ChangeSpec := { name := "clauseFull", fn := fun _ => fun
  | [d1, d2, d3] => { results := [.lit (.bool false)], args := [d1, d2, d3] }
  | _ => none }
def ClauseFullWrongFalsely : Prop := clauseFullRow.holds Try.pinned (OpenSpec.ofChange clauseFullWrong)

/- THE SECOND FORM. 'bulk': how many values and letters a reading holds, each counted each time it is reached (what is shared counts as often as it is met; a slice's spare places count too). A statement '..UptoSaid' is the law's where the arguments, and the package variables that the reading takes, are together of bulk at most 1048576: NARROWER than '..Said'. Prove '..Said' where nothing that the law and all that it calls make is longer than what came in: it says more and counts as full. Else prove '..UptoSaid'. A law counts once. -/
mutual
def uptoBulk {H : Type} : DataW H → Nat
  | .lit (.string bytes) => bytes.length + 1
  | .lit _ => 1
  | .nil => 1
  | .ptr d => uptoBulk d + 1
  | .slice elems spare => uptoBulkAll elems + uptoBulkAll spare + 1
  | .agg parts => uptoBulkAll parts + 1
  | .iface _ d => uptoBulk d + 1
  | .map entries => uptoBulkEntries entries + 1
  | .held _ => 1
def uptoBulkAll {H : Type} : List (DataW H) → Nat
  | [] => 0
  | d :: r => uptoBulk d + uptoBulkAll r
def uptoBulkEntries {H : Type} : List (Lit × DataW H) → Nat
  | [] => 0
  | x :: r => uptoBulkEntry x + uptoBulkEntries r
def uptoBulkEntry {H : Type} : Lit × DataW H → Nat
  | (.string bytes, d) => bytes.length + uptoBulk d + 1
  | (_, d) => uptoBulk d + 1
 end
def uptoSmall : (H : Type) → List (DataW H) → Bool := fun _ ds => decide (uptoBulkAll ds ≤ 1048576)
def OpenSpec.upto (s : _root_.Go.ChangeSpec) : _root_.Go.OpenSpec := { _root_.Go.OpenSpec.ofChange s with cond := some uptoSmall }

/-- 'quaerelaw8.Clauses', WHERE WHAT IT READS IS OF BULK AT MOST 1048576: true; the input reads as it did. -/
def clausesUptoRow : OpenClaim := { program := "ytpblpndlajoebaa", sum := "b2f97e8414d420d7552d25481610a662d7a8422279b6dcf22ca202cdac6d0fb5", func := "quaere/quaerelaw8.Clauses", spec := "clauses", unfollowed := true, recurses := true, apart := false, narrowed := true }
def ClausesUptoSaid : Prop := clausesUptoRow.holds Try.pinned (OpenSpec.upto clausesSpec)

/-- 'quaerelaw8.ClauseNormals', WHERE WHAT IT READS IS OF BULK AT MOST 1048576: true; the input reads as it did. -/
def clauseNormalsUptoRow : OpenClaim := { program := "ytpblpndlajoebaa", sum := "b2f97e8414d420d7552d25481610a662d7a8422279b6dcf22ca202cdac6d0fb5", func := "quaere/quaerelaw8.ClauseNormals", spec := "clauseNormals", unfollowed := true, recurses := true, apart := false, narrowed := true }
def ClauseNormalsUptoSaid : Prop := clauseNormalsUptoRow.holds Try.pinned (OpenSpec.upto clauseNormalsSpec)

/-- 'quaerelaw8.ClauseAgain', WHERE WHAT IT READS IS OF BULK AT MOST 1048576: true; the input reads as it did. -/
def clauseAgainUptoRow : OpenClaim := { program := "ytpblpndlajoebaa", sum := "b2f97e8414d420d7552d25481610a662d7a8422279b6dcf22ca202cdac6d0fb5", func := "quaere/quaerelaw8.ClauseAgain", spec := "clauseAgain", unfollowed := true, recurses := true, apart := false, narrowed := true }
def ClauseAgainUptoSaid : Prop := clauseAgainUptoRow.holds Try.pinned (OpenSpec.upto clauseAgainSpec)

/-- 'quaerelaw8.ClauseNames', WHERE WHAT IT READS IS OF BULK AT MOST 1048576: true; the input reads as it did. -/
def clauseNamesUptoRow : OpenClaim := { program := "ytpblpndlajoebaa", sum := "b2f97e8414d420d7552d25481610a662d7a8422279b6dcf22ca202cdac6d0fb5", func := "quaere/quaerelaw8.ClauseNames", spec := "clauseNames", unfollowed := true, recurses := true, apart := false, narrowed := true }
def ClauseNamesUptoSaid : Prop := clauseNamesUptoRow.holds Try.pinned (OpenSpec.upto clauseNamesSpec)

/-- 'quaerelaw8.ClauseHolds', WHERE WHAT IT READS IS OF BULK AT MOST 1048576: true; the input reads as it did. -/
def clauseHoldsUptoRow : OpenClaim := { program := "ytpblpndlajoebaa", sum := "b2f97e8414d420d7552d25481610a662d7a8422279b6dcf22ca202cdac6d0fb5", func := "quaere/quaerelaw8.ClauseHolds", spec := "clauseHolds", unfollowed := true, recurses := true, apart := false, narrowed := true }
def ClauseHoldsUptoSaid : Prop := clauseHoldsUptoRow.holds Try.pinned (OpenSpec.upto clauseHoldsSpec)

/-- 'quaerelaw8.ClauseFull', WHERE WHAT IT READS IS OF BULK AT MOST 1048576: true; the input reads as it did. -/
def clauseFullUptoRow : OpenClaim := { program := "ytpblpndlajoebaa", sum := "b2f97e8414d420d7552d25481610a662d7a8422279b6dcf22ca202cdac6d0fb5", func := "quaere/quaerelaw8.ClauseFull", spec := "clauseFull", unfollowed := true, recurses := true, apart := false, narrowed := true }
def ClauseFullUptoSaid : Prop := clauseFullUptoRow.holds Try.pinned (OpenSpec.upto clauseFullSpec)

end Rows
end Go.Proofs.Ytpblpndlajoebaa
