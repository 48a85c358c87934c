/-
  No cell of these rows narrows 'for every input' (looked for: loops, veiled, ifaces, maps, wideKeys, modest, calm, conditions, laid).
  DERIVED. THE GIVEN ROWS OF THIS SEAT. 6 by the template 'for every input the law returns true; each argument reads behind the call as it read before'; 0 by the template 'total and deterministic' (their statements: YthnjpkghjkhjdaaTotals.lean).
  GIVEN WITH THE SEED: the statements are not yours to turn. If you find one false, say at which input.
  Laid BY PROGRAM, IN A SANDBOX (cutbox-rows.mjs): the forced cells as the released guide's own fill.sh prints them over the translation 7eaace3a1140783f… (all of the seat's roots in one cut). By AI agents, Wed Nov 11 2026. No macro, syntax, notation, axiom, sorry.
-/
import Derived.Test.YthnjpkghjkhjdaaChecked
import GoSem.Claim
import GoSem.ClaimJoined
import GoSem.ClaimMapViews
import Derived.JoinedTies
import Derived.KernelRfl
namespace Go.Proofs.Ythnjpkghjkhjdaa
/- THE CELL 'sum', in the pinned program and in every row, IS THE sha256 OF THE DUMP (.gsa) THAT YthnjpkghjkhjdaaProg.lean LOADS. Nothing in Lean hashes anything: it is a label: what it is worth is what the hold of that sum in a sandbox is worth. -/
noncomputable def Try.pinned : Pinned := { name := "ythnjpkghjkhjdaa", sum := "7eaace3a1140783f8bbc312ca25a334f3d7c729f1c1a9f24112199ea117951a5", checked := Try.checked }
namespace Rows
def none {H : Type} : Left H := { results := [], args := [] }

/-- 'quaerelaw11.Facts': WHATEVER THE INPUT: true; the input reads as it did. -/
def factsSpec : ChangeSpec := { name := "facts", fn := fun _ => fun
  | [d1, d2, d3] => { results := [.lit (.bool true)], args := [d1, d2, d3] }
  | _ => none }
def factsRow : OpenClaim := { program := "ythnjpkghjkhjdaa", sum := "7eaace3a1140783f8bbc312ca25a334f3d7c729f1c1a9f24112199ea117951a5", func := "quaere/quaerelaw11.Facts", spec := "facts", apart := false }
def FactsSaid : Prop := factsRow.holds Try.pinned (OpenSpec.ofChange factsSpec)

/-- ITS FALSE NEIGHBOUR: 'it returns false'. Refute it at one input. -/
def factsWrong : ChangeSpec := { name := "facts", fn := fun _ => fun
  | [d1, d2, d3] => { results := [.lit (.bool false)], args := [d1, d2, d3] }
  | _ => none }
def FactsWrongFalsely : Prop := factsRow.holds Try.pinned (OpenSpec.ofChange factsWrong)

/-- 'quaerelaw11.FactTurns': WHATEVER THE INPUT: true; the input reads as it did. -/
def factTurnsSpec : ChangeSpec := { name := "factTurns", fn := fun _ => fun
  | [d1, d2, d3] => { results := [.lit (.bool true)], args := [d1, d2, d3] }
  | _ => none }
def factTurnsRow : OpenClaim := { program := "ythnjpkghjkhjdaa", sum := "7eaace3a1140783f8bbc312ca25a334f3d7c729f1c1a9f24112199ea117951a5", func := "quaere/quaerelaw11.FactTurns", spec := "factTurns", apart := false }
def FactTurnsSaid : Prop := factTurnsRow.holds Try.pinned (OpenSpec.ofChange factTurnsSpec)

/-- ITS FALSE NEIGHBOUR: 'it returns false'. Refute it at one input. -/
def factTurnsWrong : ChangeSpec := { name := "factTurns", fn := fun _ => fun
  | [d1, d2, d3] => { results := [.lit (.bool false)], args := [d1, d2, d3] }
  | _ => none }
def FactTurnsWrongFalsely : Prop := factTurnsRow.holds Try.pinned (OpenSpec.ofChange factTurnsWrong)

/-- 'quaerelaw11.FactSet': WHATEVER THE INPUT: true; the input reads as it did. -/
def factSetSpec : ChangeSpec := { name := "factSet", fn := fun _ => fun
  | [d1, d2, d3] => { results := [.lit (.bool true)], args := [d1, d2, d3] }
  | _ => none }
def factSetRow : OpenClaim := { program := "ythnjpkghjkhjdaa", sum := "7eaace3a1140783f8bbc312ca25a334f3d7c729f1c1a9f24112199ea117951a5", func := "quaere/quaerelaw11.FactSet", spec := "factSet", apart := false }
def FactSetSaid : Prop := factSetRow.holds Try.pinned (OpenSpec.ofChange factSetSpec)

/-- ITS FALSE NEIGHBOUR: 'it returns false'. Refute it at one input. -/
def factSetWrong : ChangeSpec := { name := "factSet", fn := fun _ => fun
  | [d1, d2, d3] => { results := [.lit (.bool false)], args := [d1, d2, d3] }
  | _ => none }
def FactSetWrongFalsely : Prop := factSetRow.holds Try.pinned (OpenSpec.ofChange factSetWrong)

/-- 'quaerelaw11.FactBack': WHATEVER THE INPUT: true; the input reads as it did. -/
def factBackSpec : ChangeSpec := { name := "factBack", fn := fun _ => fun
  | [d1, d2, d3] => { results := [.lit (.bool true)], args := [d1, d2, d3] }
  | _ => none }
def factBackRow : OpenClaim := { program := "ythnjpkghjkhjdaa", sum := "7eaace3a1140783f8bbc312ca25a334f3d7c729f1c1a9f24112199ea117951a5", func := "quaere/quaerelaw11.FactBack", spec := "factBack", apart := false }
def FactBackSaid : Prop := factBackRow.holds Try.pinned (OpenSpec.ofChange factBackSpec)

/-- ITS FALSE NEIGHBOUR: 'it returns false'. Refute it at one input. -/
def factBackWrong : ChangeSpec := { name := "factBack", fn := fun _ => fun
  | [d1, d2, d3] => { results := [.lit (.bool false)], args := [d1, d2, d3] }
  | _ => none }
def FactBackWrongFalsely : Prop := factBackRow.holds Try.pinned (OpenSpec.ofChange factBackWrong)

/-- 'quaerelaw11.FactFinds': WHATEVER THE INPUT: true; the input reads as it did. -/
def factFindsSpec : ChangeSpec := { name := "factFinds", fn := fun _ => fun
  | [d1, d2, d3] => { results := [.lit (.bool true)], args := [d1, d2, d3] }
  | _ => none }
def factFindsRow : OpenClaim := { program := "ythnjpkghjkhjdaa", sum := "7eaace3a1140783f8bbc312ca25a334f3d7c729f1c1a9f24112199ea117951a5", func := "quaere/quaerelaw11.FactFinds", spec := "factFinds", apart := false }
def FactFindsSaid : Prop := factFindsRow.holds Try.pinned (OpenSpec.ofChange factFindsSpec)

/-- ITS FALSE NEIGHBOUR: 'it returns false'. Refute it at one input. -/
def factFindsWrong : ChangeSpec := { name := "factFinds", fn := fun _ => fun
  | [d1, d2, d3] => { results := [.lit (.bool false)], args := [d1, d2, d3] }
  | _ => none }
def FactFindsWrongFalsely : Prop := factFindsRow.holds Try.pinned (OpenSpec.ofChange factFindsWrong)

/-- 'quaerelaw11.FactSpoilt': WHATEVER THE INPUT: true; the input reads as it did. -/
def factSpoiltSpec : ChangeSpec := { name := "factSpoilt", fn := fun _ => fun
  | [d1, d2, d3, d4] => { results := [.lit (.bool true)], args := [d1, d2, d3, d4] }
  | _ => none }
def factSpoiltRow : OpenClaim := { program := "ythnjpkghjkhjdaa", sum := "7eaace3a1140783f8bbc312ca25a334f3d7c729f1c1a9f24112199ea117951a5", func := "quaere/quaerelaw11.FactSpoilt", spec := "factSpoilt", apart := false }
def FactSpoiltSaid : Prop := factSpoiltRow.holds Try.pinned (OpenSpec.ofChange factSpoiltSpec)

/-- ITS FALSE NEIGHBOUR: 'it returns false'. Refute it at one input. -/
def factSpoiltWrong : ChangeSpec := { name := "factSpoilt", fn := fun _ => fun
  | [d1, d2, d3, d4] => { results := [.lit (.bool false)], args := [d1, d2, d3, d4] }
  | _ => none }
def FactSpoiltWrongFalsely : Prop := factSpoiltRow.holds Try.pinned (OpenSpec.ofChange factSpoiltWrong)

/- THE SECOND FORM. 'bulk': how many values and letters a reading holds, each counted each time it is reached (what is shared counts as often as it is met; a slice's spare places count too). A statement '..UptoSaid' is the law's where the arguments, and the package variables that the reading takes, are together of bulk at most 1048576: NARROWER than '..Said'. Prove '..Said' where nothing that the law and all that it calls make is longer than what came in: it says more and counts as full. Else prove '..UptoSaid'. A law counts once. -/
mutual
def uptoBulk {H : Type} : DataW H → Nat
  | .lit (.string bytes) => bytes.length + 1
  | .lit _ => 1
  | .nil => 1
  | .ptr d => uptoBulk d + 1
  | .slice elems spare => uptoBulkAll elems + uptoBulkAll spare + 1
  | .agg parts => uptoBulkAll parts + 1
  | .iface _ d => uptoBulk d + 1
  | .map entries => uptoBulkEntries entries + 1
  | .held _ => 1
def uptoBulkAll {H : Type} : List (DataW H) → Nat
  | [] => 0
  | d :: r => uptoBulk d + uptoBulkAll r
def uptoBulkEntries {H : Type} : List (Lit × DataW H) → Nat
  | [] => 0
  | x :: r => uptoBulkEntry x + uptoBulkEntries r
def uptoBulkEntry {H : Type} : Lit × DataW H → Nat
  | (.string bytes, d) => bytes.length + uptoBulk d + 1
  | (_, d) => uptoBulk d + 1
 end
def uptoSmall : (H : Type) → List (DataW H) → Bool := fun _ ds => decide (uptoBulkAll ds ≤ 1048576)
def OpenSpec.upto (s : _root_.Go.ChangeSpec) : _root_.Go.OpenSpec := { _root_.Go.OpenSpec.ofChange s with cond := some uptoSmall }

/-- 'quaerelaw11.Facts', WHERE WHAT IT READS IS OF BULK AT MOST 1048576: true; the input reads as it did. -/
def factsUptoRow : OpenClaim := { program := "ythnjpkghjkhjdaa", sum := "7eaace3a1140783f8bbc312ca25a334f3d7c729f1c1a9f24112199ea117951a5", func := "quaere/quaerelaw11.Facts", spec := "facts", apart := false, narrowed := true }
def FactsUptoSaid : Prop := factsUptoRow.holds Try.pinned (OpenSpec.upto factsSpec)

/-- 'quaerelaw11.FactTurns', WHERE WHAT IT READS IS OF BULK AT MOST 1048576: true; the input reads as it did. -/
def factTurnsUptoRow : OpenClaim := { program := "ythnjpkghjkhjdaa", sum := "7eaace3a1140783f8bbc312ca25a334f3d7c729f1c1a9f24112199ea117951a5", func := "quaere/quaerelaw11.FactTurns", spec := "factTurns", apart := false, narrowed := true }
def FactTurnsUptoSaid : Prop := factTurnsUptoRow.holds Try.pinned (OpenSpec.upto factTurnsSpec)

/-- 'quaerelaw11.FactSet', WHERE WHAT IT READS IS OF BULK AT MOST 1048576: true; the input reads as it did. -/
def factSetUptoRow : OpenClaim := { program := "ythnjpkghjkhjdaa", sum := "7eaace3a1140783f8bbc312ca25a334f3d7c729f1c1a9f24112199ea117951a5", func := "quaere/quaerelaw11.FactSet", spec := "factSet", apart := false, narrowed := true }
def FactSetUptoSaid : Prop := factSetUptoRow.holds Try.pinned (OpenSpec.upto factSetSpec)

/-- 'quaerelaw11.FactBack', WHERE WHAT IT READS IS OF BULK AT MOST 1048576: true; the input reads as it did. -/
def factBackUptoRow : OpenClaim := { program := "ythnjpkghjkhjdaa", sum := "7eaace3a1140783f8bbc312ca25a334f3d7c729f1c1a9f24112199ea117951a5", func := "quaere/quaerelaw11.FactBack", spec := "factBack", apart := false, narrowed := true }
def FactBackUptoSaid : Prop := factBackUptoRow.holds Try.pinned (OpenSpec.upto factBackSpec)

/-- 'quaerelaw11.FactFinds', WHERE WHAT IT READS IS OF BULK AT MOST 1048576: true; the input reads as it did. -/
def factFindsUptoRow : OpenClaim := { program := "ythnjpkghjkhjdaa", sum := "7eaace3a1140783f8bbc312ca25a334f3d7c729f1c1a9f24112199ea117951a5", func := "quaere/quaerelaw11.FactFinds", spec := "factFinds", apart := false, narrowed := true }
def FactFindsUptoSaid : Prop := factFindsUptoRow.holds Try.pinned (OpenSpec.upto factFindsSpec)

/-- 'quaerelaw11.FactSpoilt', WHERE WHAT IT READS IS OF BULK AT MOST 1048576: true; the input reads as it did. -/
def factSpoiltUptoRow : OpenClaim := { program := "ythnjpkghjkhjdaa", sum := "7eaace3a1140783f8bbc312ca25a334f3d7c729f1c1a9f24112199ea117951a5", func := "quaere/quaerelaw11.FactSpoilt", spec := "factSpoilt", apart := false, narrowed := true }
def FactSpoiltUptoSaid : Prop := factSpoiltUptoRow.holds Try.pinned (OpenSpec.upto factSpoiltSpec)

end Rows
end Go.Proofs.Ythnjpkghjkhjdaa
