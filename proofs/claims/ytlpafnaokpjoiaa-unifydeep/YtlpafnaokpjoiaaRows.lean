/-
  No cell of these rows narrows 'for every input' (looked for: loops, veiled, ifaces, maps, wideKeys, modest, calm, conditions, laid).
  DERIVED. THE GIVEN ROWS OF THIS SEAT. 6 by the template 'for every input the law returns true; each argument reads behind the call as it read before'; 0 by the template 'total and deterministic' (their statements: YtlpafnaokpjoiaaTotals.lean).
  GIVEN WITH THE SEED: the statements are not yours to turn. If you find one false, say at which input.
  Laid BY PROGRAM, IN A SANDBOX (cutbox-rows.mjs): the forced cells as the released guide's own fill.sh prints them over the translation 831d83b9011c5261… (all of the seat's roots in one cut). By AI agents, Wed Nov 11 2026. No macro, syntax, notation, axiom, sorry.
-/
import Derived.Test.YtlpafnaokpjoiaaChecked
import GoSem.Claim
import GoSem.ClaimJoined
import GoSem.ClaimMapViews
import Derived.JoinedTies
import Derived.KernelRfl
namespace Go.Proofs.Ytlpafnaokpjoiaa
/- THE CELL 'sum', in the pinned program and in every row, IS THE sha256 OF THE DUMP (.gsa) THAT YtlpafnaokpjoiaaProg.lean LOADS. Nothing in Lean hashes anything: it is a label: what it is worth is what the hold of that sum in a sandbox is worth. -/
noncomputable def Try.pinned : Pinned := { name := "ytlpafnaokpjoiaa", sum := "831d83b9011c5261cb681de8dd2d4e0e44e77a32341792351aaf0fbca6c254d3", checked := Try.checked }
namespace Rows
def none {H : Type} : Left H := { results := [], args := [] }

/-- 'quaerelaw4.Unifies': WHATEVER THE INPUT: true; the input reads as it did. -/
def unifiesSpec : ChangeSpec := { name := "unifies", fn := fun _ => fun
  | [d1, d2, d3] => { results := [.lit (.bool true)], args := [d1, d2, d3] }
  | _ => none }
def unifiesRow : OpenClaim := { program := "ytlpafnaokpjoiaa", sum := "831d83b9011c5261cb681de8dd2d4e0e44e77a32341792351aaf0fbca6c254d3", func := "quaere/quaerelaw4.Unifies", spec := "unifies", recurses := true, apart := false }
def UnifiesSaid : Prop := unifiesRow.holds Try.pinned (OpenSpec.ofChange unifiesSpec)

/-- ITS FALSE NEIGHBOUR: 'it returns false'. Refute it at one input. -/
def unifiesWrong : ChangeSpec := { name := "unifies", fn := fun _ => fun
  | [d1, d2, d3] => { results := [.lit (.bool false)], args := [d1, d2, d3] }
  | _ => none }
def UnifiesWrongFalsely : Prop := unifiesRow.holds Try.pinned (OpenSpec.ofChange unifiesWrong)

/-- 'quaerelaw4.UnifySames': WHATEVER THE INPUT: true; the input reads as it did. -/
def unifySamesSpec : ChangeSpec := { name := "unifySames", fn := fun _ => fun
  | [d1, d2, d3] => { results := [.lit (.bool true)], args := [d1, d2, d3] }
  | _ => none }
def unifySamesRow : OpenClaim := { program := "ytlpafnaokpjoiaa", sum := "831d83b9011c5261cb681de8dd2d4e0e44e77a32341792351aaf0fbca6c254d3", func := "quaere/quaerelaw4.UnifySames", spec := "unifySames", recurses := true, apart := false }
def UnifySamesSaid : Prop := unifySamesRow.holds Try.pinned (OpenSpec.ofChange unifySamesSpec)

/-- ITS FALSE NEIGHBOUR: 'it returns false'. Refute it at one input. -/
def unifySamesWrong : ChangeSpec := { name := "unifySames", fn := fun _ => fun
  | [d1, d2, d3] => { results := [.lit (.bool false)], args := [d1, d2, d3] }
  | _ => none }
def UnifySamesWrongFalsely : Prop := unifySamesRow.holds Try.pinned (OpenSpec.ofChange unifySamesWrong)

/-- 'quaerelaw4.UnifyAny': WHATEVER THE INPUT: true; the input reads as it did. -/
def unifyAnySpec : ChangeSpec := { name := "unifyAny", fn := fun _ => fun
  | [d1, d2, d3, d4] => { results := [.lit (.bool true)], args := [d1, d2, d3, d4] }
  | _ => none }
def unifyAnyRow : OpenClaim := { program := "ytlpafnaokpjoiaa", sum := "831d83b9011c5261cb681de8dd2d4e0e44e77a32341792351aaf0fbca6c254d3", func := "quaere/quaerelaw4.UnifyAny", spec := "unifyAny", recurses := true, apart := false }
def UnifyAnySaid : Prop := unifyAnyRow.holds Try.pinned (OpenSpec.ofChange unifyAnySpec)

/-- ITS FALSE NEIGHBOUR: 'it returns false'. Refute it at one input. -/
def unifyAnyWrong : ChangeSpec := { name := "unifyAny", fn := fun _ => fun
  | [d1, d2, d3, d4] => { results := [.lit (.bool false)], args := [d1, d2, d3, d4] }
  | _ => none }
def UnifyAnyWrongFalsely : Prop := unifyAnyRow.holds Try.pinned (OpenSpec.ofChange unifyAnyWrong)

/-- 'quaerelaw4.UnifyMade': WHATEVER THE INPUT: true; the input reads as it did. -/
def unifyMadeSpec : ChangeSpec := { name := "unifyMade", fn := fun _ => fun
  | [d1, d2, d3] => { results := [.lit (.bool true)], args := [d1, d2, d3] }
  | _ => none }
def unifyMadeRow : OpenClaim := { program := "ytlpafnaokpjoiaa", sum := "831d83b9011c5261cb681de8dd2d4e0e44e77a32341792351aaf0fbca6c254d3", func := "quaere/quaerelaw4.UnifyMade", spec := "unifyMade", recurses := true, apart := false }
def UnifyMadeSaid : Prop := unifyMadeRow.holds Try.pinned (OpenSpec.ofChange unifyMadeSpec)

/-- ITS FALSE NEIGHBOUR: 'it returns false'. Refute it at one input. -/
def unifyMadeWrong : ChangeSpec := { name := "unifyMade", fn := fun _ => fun
  | [d1, d2, d3] => { results := [.lit (.bool false)], args := [d1, d2, d3] }
  | _ => none }
def UnifyMadeWrongFalsely : Prop := unifyMadeRow.holds Try.pinned (OpenSpec.ofChange unifyMadeWrong)

/-- 'quaerelaw4.UnifyVars': WHATEVER THE INPUT: true; the input reads as it did. -/
def unifyVarsSpec : ChangeSpec := { name := "unifyVars", fn := fun _ => fun
  | [d1, d2] => { results := [.lit (.bool true)], args := [d1, d2] }
  | _ => none }
def unifyVarsRow : OpenClaim := { program := "ytlpafnaokpjoiaa", sum := "831d83b9011c5261cb681de8dd2d4e0e44e77a32341792351aaf0fbca6c254d3", func := "quaere/quaerelaw4.UnifyVars", spec := "unifyVars", recurses := true, apart := false }
def UnifyVarsSaid : Prop := unifyVarsRow.holds Try.pinned (OpenSpec.ofChange unifyVarsSpec)

/-- ITS FALSE NEIGHBOUR: 'it returns false'. Refute it at one input. -/
def unifyVarsWrong : ChangeSpec := { name := "unifyVars", fn := fun _ => fun
  | [d1, d2] => { results := [.lit (.bool false)], args := [d1, d2] }
  | _ => none }
def UnifyVarsWrongFalsely : Prop := unifyVarsRow.holds Try.pinned (OpenSpec.ofChange unifyVarsWrong)

/-- 'quaerelaw4.UnifyDeep': WHATEVER THE INPUT: true; the input reads as it did. -/
def unifyDeepSpec : ChangeSpec := { name := "unifyDeep", fn := fun _ => fun
  | [d1, d2, d3] => { results := [.lit (.bool true)], args := [d1, d2, d3] }
  | _ => none }
def unifyDeepRow : OpenClaim := { program := "ytlpafnaokpjoiaa", sum := "831d83b9011c5261cb681de8dd2d4e0e44e77a32341792351aaf0fbca6c254d3", func := "quaere/quaerelaw4.UnifyDeep", spec := "unifyDeep", recurses := true, apart := false }
def UnifyDeepSaid : Prop := unifyDeepRow.holds Try.pinned (OpenSpec.ofChange unifyDeepSpec)

/-- ITS FALSE NEIGHBOUR: 'it returns false'. Refute it at one input. -/
def unifyDeepWrong : ChangeSpec := { name := "unifyDeep", fn := fun _ => fun
  | [d1, d2, d3] => { results := [.lit (.bool false)], args := [d1, d2, d3] }
  | _ => none }
def UnifyDeepWrongFalsely : Prop := unifyDeepRow.holds Try.pinned (OpenSpec.ofChange unifyDeepWrong)

/- THE SECOND FORM. 'bulk': how many values and letters a reading holds, each counted each time it is reached (what is shared counts as often as it is met; a slice's spare places count too). A statement '..UptoSaid' is the law's where the arguments, and the package variables that the reading takes, are together of bulk at most 1048576: NARROWER than '..Said'. Prove '..Said' where nothing that the law and all that it calls make is longer than what came in: it says more and counts as full. Else prove '..UptoSaid'. A law counts once. -/
mutual
def uptoBulk {H : Type} : DataW H → Nat
  | .lit (.string bytes) => bytes.length + 1
  | .lit _ => 1
  | .nil => 1
  | .ptr d => uptoBulk d + 1
  | .slice elems spare => uptoBulkAll elems + uptoBulkAll spare + 1
  | .agg parts => uptoBulkAll parts + 1
  | .iface _ d => uptoBulk d + 1
  | .map entries => uptoBulkEntries entries + 1
  | .held _ => 1
def uptoBulkAll {H : Type} : List (DataW H) → Nat
  | [] => 0
  | d :: r => uptoBulk d + uptoBulkAll r
def uptoBulkEntries {H : Type} : List (Lit × DataW H) → Nat
  | [] => 0
  | x :: r => uptoBulkEntry x + uptoBulkEntries r
def uptoBulkEntry {H : Type} : Lit × DataW H → Nat
  | (.string bytes, d) => bytes.length + uptoBulk d + 1
  | (_, d) => uptoBulk d + 1
 end
def uptoSmall : (H : Type) → List (DataW H) → Bool := fun _ ds => decide (uptoBulkAll ds ≤ 1048576)
def OpenSpec.upto (s : _root_.Go.ChangeSpec) : _root_.Go.OpenSpec := { _root_.Go.OpenSpec.ofChange s with cond := some uptoSmall }

/-- 'quaerelaw4.Unifies', WHERE WHAT IT READS IS OF BULK AT MOST 1048576: true; the input reads as it did. -/
def unifiesUptoRow : OpenClaim := { program := "ytlpafnaokpjoiaa", sum := "831d83b9011c5261cb681de8dd2d4e0e44e77a32341792351aaf0fbca6c254d3", func := "quaere/quaerelaw4.Unifies", spec := "unifies", recurses := true, apart := false, narrowed := true }
def UnifiesUptoSaid : Prop := unifiesUptoRow.holds Try.pinned (OpenSpec.upto unifiesSpec)

/-- 'quaerelaw4.UnifySames', WHERE WHAT IT READS IS OF BULK AT MOST 1048576: true; the input reads as it did. -/
def unifySamesUptoRow : OpenClaim := { program := "ytlpafnaokpjoiaa", sum := "831d83b9011c5261cb681de8dd2d4e0e44e77a32341792351aaf0fbca6c254d3", func := "quaere/quaerelaw4.UnifySames", spec := "unifySames", recurses := true, apart := false, narrowed := true }
def UnifySamesUptoSaid : Prop := unifySamesUptoRow.holds Try.pinned (OpenSpec.upto unifySamesSpec)

/-- 'quaerelaw4.UnifyAny', WHERE WHAT IT READS IS OF BULK AT MOST 1048576: true; the input reads as it did. -/
def unifyAnyUptoRow : OpenClaim := { program := "ytlpafnaokpjoiaa", sum := "831d83b9011c5261cb681de8dd2d4e0e44e77a32341792351aaf0fbca6c254d3", func := "quaere/quaerelaw4.UnifyAny", spec := "unifyAny", recurses := true, apart := false, narrowed := true }
def UnifyAnyUptoSaid : Prop := unifyAnyUptoRow.holds Try.pinned (OpenSpec.upto unifyAnySpec)

/-- 'quaerelaw4.UnifyMade', WHERE WHAT IT READS IS OF BULK AT MOST 1048576: true; the input reads as it did. -/
def unifyMadeUptoRow : OpenClaim := { program := "ytlpafnaokpjoiaa", sum := "831d83b9011c5261cb681de8dd2d4e0e44e77a32341792351aaf0fbca6c254d3", func := "quaere/quaerelaw4.UnifyMade", spec := "unifyMade", recurses := true, apart := false, narrowed := true }
def UnifyMadeUptoSaid : Prop := unifyMadeUptoRow.holds Try.pinned (OpenSpec.upto unifyMadeSpec)

/-- 'quaerelaw4.UnifyVars', WHERE WHAT IT READS IS OF BULK AT MOST 1048576: true; the input reads as it did. -/
def unifyVarsUptoRow : OpenClaim := { program := "ytlpafnaokpjoiaa", sum := "831d83b9011c5261cb681de8dd2d4e0e44e77a32341792351aaf0fbca6c254d3", func := "quaere/quaerelaw4.UnifyVars", spec := "unifyVars", recurses := true, apart := false, narrowed := true }
def UnifyVarsUptoSaid : Prop := unifyVarsUptoRow.holds Try.pinned (OpenSpec.upto unifyVarsSpec)

/-- 'quaerelaw4.UnifyDeep', WHERE WHAT IT READS IS OF BULK AT MOST 1048576: true; the input reads as it did. -/
def unifyDeepUptoRow : OpenClaim := { program := "ytlpafnaokpjoiaa", sum := "831d83b9011c5261cb681de8dd2d4e0e44e77a32341792351aaf0fbca6c254d3", func := "quaere/quaerelaw4.UnifyDeep", spec := "unifyDeep", recurses := true, apart := false, narrowed := true }
def UnifyDeepUptoSaid : Prop := unifyDeepUptoRow.holds Try.pinned (OpenSpec.upto unifyDeepSpec)

end Rows
end Go.Proofs.Ytlpafnaokpjoiaa
