/-
  No cell of these rows narrows 'for every input' (looked for: loops, veiled, ifaces, maps, wideKeys, modest, calm, conditions, laid).
  DERIVED. THE GIVEN ROWS OF THIS SEAT. 6 by the template 'for every input the law returns true; each argument reads behind the call as it read before'; 0 by the template 'total and deterministic' (their statements: YtmjopiobahaggaaTotals.lean).
  GIVEN WITH THE SEED: the statements are not yours to turn. If you find one false, say at which input.
  Laid BY PROGRAM, IN A SANDBOX (cutbox-rows.mjs): the forced cells as the released guide's own fill.sh prints them over the translation 65c7bf8db8b837c7… (all of the seat's roots in one cut). By AI agents, Wed Nov 11 2026. No macro, syntax, notation, axiom, sorry.
-/
import Derived.Test.YtmjopiobahaggaaChecked
import GoSem.Claim
import GoSem.ClaimJoined
import GoSem.ClaimMapViews
import Derived.JoinedTies
import Derived.KernelRfl
namespace Go.Proofs.Ytmjopiobahaggaa
/- THE CELL 'sum', in the pinned program and in every row, IS THE sha256 OF THE DUMP (.gsa) THAT YtmjopiobahaggaaProg.lean LOADS. Nothing in Lean hashes anything: it is a label: what it is worth is what the hold of that sum in a sandbox is worth. -/
noncomputable def Try.pinned : Pinned := { name := "ytmjopiobahaggaa", sum := "65c7bf8db8b837c7753c9513d5c30f40056293f840bf3d1f04101955ca468624", checked := Try.checked }
namespace Rows
def none {H : Type} : Left H := { results := [], args := [] }

/-- 'quaerelaw2.TermRows': WHATEVER THE INPUT: true; the input reads as it did. -/
def termRowsSpec : ChangeSpec := { name := "termRows", fn := fun _ => fun
  | [d1, d2, d3] => { results := [.lit (.bool true)], args := [d1, d2, d3] }
  | _ => none }
def termRowsRow : OpenClaim := { program := "ytmjopiobahaggaa", sum := "65c7bf8db8b837c7753c9513d5c30f40056293f840bf3d1f04101955ca468624", func := "quaere/quaerelaw2.TermRows", spec := "termRows", apart := false }
def TermRowsSaid : Prop := termRowsRow.holds Try.pinned (OpenSpec.ofChange termRowsSpec)

/-- ITS FALSE NEIGHBOUR: 'it returns false'. Refute it at one input. -/
def termRowsWrong : ChangeSpec := { name := "termRows", fn := fun _ => fun
  | [d1, d2, d3] => { results := [.lit (.bool false)], args := [d1, d2, d3] }
  | _ => none }
def TermRowsWrongFalsely : Prop := termRowsRow.holds Try.pinned (OpenSpec.ofChange termRowsWrong)

/-- 'quaerelaw2.TermTells': WHATEVER THE INPUT: true; the input reads as it did. -/
def termTellsSpec : ChangeSpec := { name := "termTells", fn := fun _ => fun
  | [d1, d2] => { results := [.lit (.bool true)], args := [d1, d2] }
  | _ => none }
def termTellsRow : OpenClaim := { program := "ytmjopiobahaggaa", sum := "65c7bf8db8b837c7753c9513d5c30f40056293f840bf3d1f04101955ca468624", func := "quaere/quaerelaw2.TermTells", spec := "termTells", recurses := true, apart := false }
def TermTellsSaid : Prop := termTellsRow.holds Try.pinned (OpenSpec.ofChange termTellsSpec)

/-- ITS FALSE NEIGHBOUR: 'it returns false'. Refute it at one input. -/
def termTellsWrong : ChangeSpec := { name := "termTells", fn := fun _ => fun
  | [d1, d2] => { results := [.lit (.bool false)], args := [d1, d2] }
  | _ => none }
def TermTellsWrongFalsely : Prop := termTellsRow.holds Try.pinned (OpenSpec.ofChange termTellsWrong)

/-- 'quaerelaw2.TermJoins': WHATEVER THE INPUT: true; the input reads as it did. -/
def termJoinsSpec : ChangeSpec := { name := "termJoins", fn := fun _ => fun
  | [d1, d2, d3] => { results := [.lit (.bool true)], args := [d1, d2, d3] }
  | _ => none }
def termJoinsRow : OpenClaim := { program := "ytmjopiobahaggaa", sum := "65c7bf8db8b837c7753c9513d5c30f40056293f840bf3d1f04101955ca468624", func := "quaere/quaerelaw2.TermJoins", spec := "termJoins", apart := false }
def TermJoinsSaid : Prop := termJoinsRow.holds Try.pinned (OpenSpec.ofChange termJoinsSpec)

/-- ITS FALSE NEIGHBOUR: 'it returns false'. Refute it at one input. -/
def termJoinsWrong : ChangeSpec := { name := "termJoins", fn := fun _ => fun
  | [d1, d2, d3] => { results := [.lit (.bool false)], args := [d1, d2, d3] }
  | _ => none }
def TermJoinsWrongFalsely : Prop := termJoinsRow.holds Try.pinned (OpenSpec.ofChange termJoinsWrong)

/-- 'quaerelaw2.TermNests': WHATEVER THE INPUT: true; the input reads as it did. -/
def termNestsSpec : ChangeSpec := { name := "termNests", fn := fun _ => fun
  | [d1, d2] => { results := [.lit (.bool true)], args := [d1, d2] }
  | _ => none }
def termNestsRow : OpenClaim := { program := "ytmjopiobahaggaa", sum := "65c7bf8db8b837c7753c9513d5c30f40056293f840bf3d1f04101955ca468624", func := "quaere/quaerelaw2.TermNests", spec := "termNests", apart := false }
def TermNestsSaid : Prop := termNestsRow.holds Try.pinned (OpenSpec.ofChange termNestsSpec)

/-- ITS FALSE NEIGHBOUR: 'it returns false'. Refute it at one input. -/
def termNestsWrong : ChangeSpec := { name := "termNests", fn := fun _ => fun
  | [d1, d2] => { results := [.lit (.bool false)], args := [d1, d2] }
  | _ => none }
def TermNestsWrongFalsely : Prop := termNestsRow.holds Try.pinned (OpenSpec.ofChange termNestsWrong)

/-- 'quaerelaw2.TermCut': WHATEVER THE INPUT: true; the input reads as it did. -/
def termCutSpec : ChangeSpec := { name := "termCut", fn := fun _ => fun
  | [d1, d2] => { results := [.lit (.bool true)], args := [d1, d2] }
  | _ => none }
def termCutRow : OpenClaim := { program := "ytmjopiobahaggaa", sum := "65c7bf8db8b837c7753c9513d5c30f40056293f840bf3d1f04101955ca468624", func := "quaere/quaerelaw2.TermCut", spec := "termCut", apart := false }
def TermCutSaid : Prop := termCutRow.holds Try.pinned (OpenSpec.ofChange termCutSpec)

/-- ITS FALSE NEIGHBOUR: 'it returns false'. Refute it at one input. -/
def termCutWrong : ChangeSpec := { name := "termCut", fn := fun _ => fun
  | [d1, d2] => { results := [.lit (.bool false)], args := [d1, d2] }
  | _ => none }
def TermCutWrongFalsely : Prop := termCutRow.holds Try.pinned (OpenSpec.ofChange termCutWrong)

/-- 'quaerelaw2.TermForms': WHATEVER THE INPUT: true; the input reads as it did. -/
def termFormsSpec : ChangeSpec := { name := "termForms", fn := fun _ => fun
  | [d1, d2] => { results := [.lit (.bool true)], args := [d1, d2] }
  | _ => none }
def termFormsRow : OpenClaim := { program := "ytmjopiobahaggaa", sum := "65c7bf8db8b837c7753c9513d5c30f40056293f840bf3d1f04101955ca468624", func := "quaere/quaerelaw2.TermForms", spec := "termForms", apart := false }
def TermFormsSaid : Prop := termFormsRow.holds Try.pinned (OpenSpec.ofChange termFormsSpec)

/-- ITS FALSE NEIGHBOUR: 'it returns false'. Refute it at one input. -/
def termFormsWrong : ChangeSpec := { name := "termForms", fn := fun _ => fun
  | [d1, d2] => { results := [.lit (.bool false)], args := [d1, d2] }
  | _ => none }
def TermFormsWrongFalsely : Prop := termFormsRow.holds Try.pinned (OpenSpec.ofChange termFormsWrong)

/- THE SECOND FORM. 'bulk': how many values and letters a reading holds, each counted each time it is reached (what is shared counts as often as it is met; a slice's spare places count too). A statement '..UptoSaid' is the law's where the arguments, and the package variables that the reading takes, are together of bulk at most 1048576: NARROWER than '..Said'. Prove '..Said' where nothing that the law and all that it calls make is longer than what came in: it says more and counts as full. Else prove '..UptoSaid'. A law counts once. -/
mutual
def uptoBulk {H : Type} : DataW H → Nat
  | .lit (.string bytes) => bytes.length + 1
  | .lit _ => 1
  | .nil => 1
  | .ptr d => uptoBulk d + 1
  | .slice elems spare => uptoBulkAll elems + uptoBulkAll spare + 1
  | .agg parts => uptoBulkAll parts + 1
  | .iface _ d => uptoBulk d + 1
  | .map entries => uptoBulkEntries entries + 1
  | .held _ => 1
def uptoBulkAll {H : Type} : List (DataW H) → Nat
  | [] => 0
  | d :: r => uptoBulk d + uptoBulkAll r
def uptoBulkEntries {H : Type} : List (Lit × DataW H) → Nat
  | [] => 0
  | x :: r => uptoBulkEntry x + uptoBulkEntries r
def uptoBulkEntry {H : Type} : Lit × DataW H → Nat
  | (.string bytes, d) => bytes.length + uptoBulk d + 1
  | (_, d) => uptoBulk d + 1
 end
def uptoSmall : (H : Type) → List (DataW H) → Bool := fun _ ds => decide (uptoBulkAll ds ≤ 1048576)
def OpenSpec.upto (s : _root_.Go.ChangeSpec) : _root_.Go.OpenSpec := { _root_.Go.OpenSpec.ofChange s with cond := some uptoSmall }

/-- 'quaerelaw2.TermRows', WHERE WHAT IT READS IS OF BULK AT MOST 1048576: true; the input reads as it did. -/
def termRowsUptoRow : OpenClaim := { program := "ytmjopiobahaggaa", sum := "65c7bf8db8b837c7753c9513d5c30f40056293f840bf3d1f04101955ca468624", func := "quaere/quaerelaw2.TermRows", spec := "termRows", apart := false, narrowed := true }
def TermRowsUptoSaid : Prop := termRowsUptoRow.holds Try.pinned (OpenSpec.upto termRowsSpec)

/-- 'quaerelaw2.TermTells', WHERE WHAT IT READS IS OF BULK AT MOST 1048576: true; the input reads as it did. -/
def termTellsUptoRow : OpenClaim := { program := "ytmjopiobahaggaa", sum := "65c7bf8db8b837c7753c9513d5c30f40056293f840bf3d1f04101955ca468624", func := "quaere/quaerelaw2.TermTells", spec := "termTells", recurses := true, apart := false, narrowed := true }
def TermTellsUptoSaid : Prop := termTellsUptoRow.holds Try.pinned (OpenSpec.upto termTellsSpec)

/-- 'quaerelaw2.TermJoins', WHERE WHAT IT READS IS OF BULK AT MOST 1048576: true; the input reads as it did. -/
def termJoinsUptoRow : OpenClaim := { program := "ytmjopiobahaggaa", sum := "65c7bf8db8b837c7753c9513d5c30f40056293f840bf3d1f04101955ca468624", func := "quaere/quaerelaw2.TermJoins", spec := "termJoins", apart := false, narrowed := true }
def TermJoinsUptoSaid : Prop := termJoinsUptoRow.holds Try.pinned (OpenSpec.upto termJoinsSpec)

/-- 'quaerelaw2.TermNests', WHERE WHAT IT READS IS OF BULK AT MOST 1048576: true; the input reads as it did. -/
def termNestsUptoRow : OpenClaim := { program := "ytmjopiobahaggaa", sum := "65c7bf8db8b837c7753c9513d5c30f40056293f840bf3d1f04101955ca468624", func := "quaere/quaerelaw2.TermNests", spec := "termNests", apart := false, narrowed := true }
def TermNestsUptoSaid : Prop := termNestsUptoRow.holds Try.pinned (OpenSpec.upto termNestsSpec)

/-- 'quaerelaw2.TermCut', WHERE WHAT IT READS IS OF BULK AT MOST 1048576: true; the input reads as it did. -/
def termCutUptoRow : OpenClaim := { program := "ytmjopiobahaggaa", sum := "65c7bf8db8b837c7753c9513d5c30f40056293f840bf3d1f04101955ca468624", func := "quaere/quaerelaw2.TermCut", spec := "termCut", apart := false, narrowed := true }
def TermCutUptoSaid : Prop := termCutUptoRow.holds Try.pinned (OpenSpec.upto termCutSpec)

/-- 'quaerelaw2.TermForms', WHERE WHAT IT READS IS OF BULK AT MOST 1048576: true; the input reads as it did. -/
def termFormsUptoRow : OpenClaim := { program := "ytmjopiobahaggaa", sum := "65c7bf8db8b837c7753c9513d5c30f40056293f840bf3d1f04101955ca468624", func := "quaere/quaerelaw2.TermForms", spec := "termForms", apart := false, narrowed := true }
def TermFormsUptoSaid : Prop := termFormsUptoRow.holds Try.pinned (OpenSpec.upto termFormsSpec)

end Rows
end Go.Proofs.Ytmjopiobahaggaa
