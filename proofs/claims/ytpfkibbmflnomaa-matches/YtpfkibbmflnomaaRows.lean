/-
  No cell of these rows narrows 'for every input' (looked for: loops, veiled, ifaces, maps, wideKeys, modest, calm, conditions, laid).
  DERIVED. THE GIVEN ROWS OF THIS SEAT. 6 by the template 'for every input the law returns true; each argument reads behind the call as it read before'; 0 by the template 'total and deterministic' (their statements: YtpfkibbmflnomaaTotals.lean).
  GIVEN WITH THE SEED: the statements are not yours to turn. If you find one false, say at which input.
  Laid BY PROGRAM, IN A SANDBOX (cutbox-rows.mjs): the forced cells as the released guide's own fill.sh prints them over the translation 9c71918d06ffffbd… (all of the seat's roots in one cut). By AI agents, Wed Nov 11 2026. No macro, syntax, notation, axiom, sorry.
-/
import Derived.Test.YtpfkibbmflnomaaChecked
import GoSem.Claim
import GoSem.ClaimJoined
import GoSem.ClaimMapViews
import Derived.JoinedTies
import Derived.KernelRfl
namespace Go.Proofs.Ytpfkibbmflnomaa
/- THE CELL 'sum', in the pinned program and in every row, IS THE sha256 OF THE DUMP (.gsa) THAT YtpfkibbmflnomaaProg.lean LOADS. Nothing in Lean hashes anything: it is a label: what it is worth is what the hold of that sum in a sandbox is worth. -/
noncomputable def Try.pinned : Pinned := { name := "ytpfkibbmflnomaa", sum := "9c71918d06ffffbddb4f696e2d2c62ad56fefca28debfeb0263af3448edbc568", checked := Try.checked }
namespace Rows
def none {H : Type} : Left H := { results := [], args := [] }

/-- 'quaerelaw5.Matches': WHATEVER THE INPUT: true; the input reads as it did. -/
def matchesSpec : ChangeSpec := { name := "matches", fn := fun _ => fun
  | [d1, d2, d3] => { results := [.lit (.bool true)], args := [d1, d2, d3] }
  | _ => none }
def matchesRow : OpenClaim := { program := "ytpfkibbmflnomaa", sum := "9c71918d06ffffbddb4f696e2d2c62ad56fefca28debfeb0263af3448edbc568", func := "quaere/quaerelaw5.Matches", spec := "matches", apart := false }
def MatchesSaid : Prop := matchesRow.holds Try.pinned (OpenSpec.ofChange matchesSpec)

/-- ITS FALSE NEIGHBOUR: 'it returns false'. Refute it at one input. -/
def matchesWrong : ChangeSpec := { name := "matches", fn := fun _ => fun
  | [d1, d2, d3] => { results := [.lit (.bool false)], args := [d1, d2, d3] }
  | _ => none }
def MatchesWrongFalsely : Prop := matchesRow.holds Try.pinned (OpenSpec.ofChange matchesWrong)

/-- 'quaerelaw5.MatchMade': WHATEVER THE INPUT: true; the input reads as it did. -/
def matchMadeSpec : ChangeSpec := { name := "matchMade", fn := fun _ => fun
  | [d1, d2, d3] => { results := [.lit (.bool true)], args := [d1, d2, d3] }
  | _ => none }
def matchMadeRow : OpenClaim := { program := "ytpfkibbmflnomaa", sum := "9c71918d06ffffbddb4f696e2d2c62ad56fefca28debfeb0263af3448edbc568", func := "quaere/quaerelaw5.MatchMade", spec := "matchMade", apart := false }
def MatchMadeSaid : Prop := matchMadeRow.holds Try.pinned (OpenSpec.ofChange matchMadeSpec)

/-- ITS FALSE NEIGHBOUR: 'it returns false'. Refute it at one input. -/
def matchMadeWrong : ChangeSpec := { name := "matchMade", fn := fun _ => fun
  | [d1, d2, d3] => { results := [.lit (.bool false)], args := [d1, d2, d3] }
  | _ => none }
def MatchMadeWrongFalsely : Prop := matchMadeRow.holds Try.pinned (OpenSpec.ofChange matchMadeWrong)

/-- 'quaerelaw5.MatchRow': WHATEVER THE INPUT: true; the input reads as it did. -/
def matchRowSpec : ChangeSpec := { name := "matchRow", fn := fun _ => fun
  | [d1, d2, d3, d4] => { results := [.lit (.bool true)], args := [d1, d2, d3, d4] }
  | _ => none }
def matchRowRow : OpenClaim := { program := "ytpfkibbmflnomaa", sum := "9c71918d06ffffbddb4f696e2d2c62ad56fefca28debfeb0263af3448edbc568", func := "quaere/quaerelaw5.MatchRow", spec := "matchRow", apart := false }
def MatchRowSaid : Prop := matchRowRow.holds Try.pinned (OpenSpec.ofChange matchRowSpec)

/-- ITS FALSE NEIGHBOUR: 'it returns false'. Refute it at one input. -/
def matchRowWrong : ChangeSpec := { name := "matchRow", fn := fun _ => fun
  | [d1, d2, d3, d4] => { results := [.lit (.bool false)], args := [d1, d2, d3, d4] }
  | _ => none }
def MatchRowWrongFalsely : Prop := matchRowRow.holds Try.pinned (OpenSpec.ofChange matchRowWrong)

/-- 'quaerelaw5.MatchBoth': WHATEVER THE INPUT: true; the input reads as it did. -/
def matchBothSpec : ChangeSpec := { name := "matchBoth", fn := fun _ => fun
  | [d1, d2, d3] => { results := [.lit (.bool true)], args := [d1, d2, d3] }
  | _ => none }
def matchBothRow : OpenClaim := { program := "ytpfkibbmflnomaa", sum := "9c71918d06ffffbddb4f696e2d2c62ad56fefca28debfeb0263af3448edbc568", func := "quaere/quaerelaw5.MatchBoth", spec := "matchBoth", apart := false }
def MatchBothSaid : Prop := matchBothRow.holds Try.pinned (OpenSpec.ofChange matchBothSpec)

/-- ITS FALSE NEIGHBOUR: 'it returns false'. Refute it at one input. -/
def matchBothWrong : ChangeSpec := { name := "matchBoth", fn := fun _ => fun
  | [d1, d2, d3] => { results := [.lit (.bool false)], args := [d1, d2, d3] }
  | _ => none }
def MatchBothWrongFalsely : Prop := matchBothRow.holds Try.pinned (OpenSpec.ofChange matchBothWrong)

/-- 'quaerelaw5.MatchUnify': WHATEVER THE INPUT: true; the input reads as it did. -/
def matchUnifySpec : ChangeSpec := { name := "matchUnify", fn := fun _ => fun
  | [d1, d2, d3] => { results := [.lit (.bool true)], args := [d1, d2, d3] }
  | _ => none }
def matchUnifyRow : OpenClaim := { program := "ytpfkibbmflnomaa", sum := "9c71918d06ffffbddb4f696e2d2c62ad56fefca28debfeb0263af3448edbc568", func := "quaere/quaerelaw5.MatchUnify", spec := "matchUnify", recurses := true, apart := false }
def MatchUnifySaid : Prop := matchUnifyRow.holds Try.pinned (OpenSpec.ofChange matchUnifySpec)

/-- ITS FALSE NEIGHBOUR: 'it returns false'. Refute it at one input. -/
def matchUnifyWrong : ChangeSpec := { name := "matchUnify", fn := fun _ => fun
  | [d1, d2, d3] => { results := [.lit (.bool false)], args := [d1, d2, d3] }
  | _ => none }
def MatchUnifyWrongFalsely : Prop := matchUnifyRow.holds Try.pinned (OpenSpec.ofChange matchUnifyWrong)

/-- 'quaerelaw5.MatchLess': WHATEVER THE INPUT: true; the input reads as it did. -/
def matchLessSpec : ChangeSpec := { name := "matchLess", fn := fun _ => fun
  | [d1, d2, d3] => { results := [.lit (.bool true)], args := [d1, d2, d3] }
  | _ => none }
def matchLessRow : OpenClaim := { program := "ytpfkibbmflnomaa", sum := "9c71918d06ffffbddb4f696e2d2c62ad56fefca28debfeb0263af3448edbc568", func := "quaere/quaerelaw5.MatchLess", spec := "matchLess", apart := false }
def MatchLessSaid : Prop := matchLessRow.holds Try.pinned (OpenSpec.ofChange matchLessSpec)

/-- ITS FALSE NEIGHBOUR: 'it returns false'. Refute it at one input. -/
def matchLessWrong : ChangeSpec := { name := "matchLess", fn := fun _ => fun
  | [d1, d2, d3] => { results := [.lit (.bool false)], args := [d1, d2, d3] }
  | _ => none }
def MatchLessWrongFalsely : Prop := matchLessRow.holds Try.pinned (OpenSpec.ofChange matchLessWrong)

/- THE SECOND FORM. 'bulk': how many values and letters a reading holds, each counted each time it is reached (what is shared counts as often as it is met; a slice's spare places count too). A statement '..UptoSaid' is the law's where the arguments, and the package variables that the reading takes, are together of bulk at most 1048576: NARROWER than '..Said'. Prove '..Said' where nothing that the law and all that it calls make is longer than what came in: it says more and counts as full. Else prove '..UptoSaid'. A law counts once. -/
mutual
def uptoBulk {H : Type} : DataW H → Nat
  | .lit (.string bytes) => bytes.length + 1
  | .lit _ => 1
  | .nil => 1
  | .ptr d => uptoBulk d + 1
  | .slice elems spare => uptoBulkAll elems + uptoBulkAll spare + 1
  | .agg parts => uptoBulkAll parts + 1
  | .iface _ d => uptoBulk d + 1
  | .map entries => uptoBulkEntries entries + 1
  | .held _ => 1
def uptoBulkAll {H : Type} : List (DataW H) → Nat
  | [] => 0
  | d :: r => uptoBulk d + uptoBulkAll r
def uptoBulkEntries {H : Type} : List (Lit × DataW H) → Nat
  | [] => 0
  | x :: r => uptoBulkEntry x + uptoBulkEntries r
def uptoBulkEntry {H : Type} : Lit × DataW H → Nat
  | (.string bytes, d) => bytes.length + uptoBulk d + 1
  | (_, d) => uptoBulk d + 1
 end
def uptoSmall : (H : Type) → List (DataW H) → Bool := fun _ ds => decide (uptoBulkAll ds ≤ 1048576)
def OpenSpec.upto (s : _root_.Go.ChangeSpec) : _root_.Go.OpenSpec := { _root_.Go.OpenSpec.ofChange s with cond := some uptoSmall }

/-- 'quaerelaw5.Matches', WHERE WHAT IT READS IS OF BULK AT MOST 1048576: true; the input reads as it did. -/
def matchesUptoRow : OpenClaim := { program := "ytpfkibbmflnomaa", sum := "9c71918d06ffffbddb4f696e2d2c62ad56fefca28debfeb0263af3448edbc568", func := "quaere/quaerelaw5.Matches", spec := "matches", apart := false, narrowed := true }
def MatchesUptoSaid : Prop := matchesUptoRow.holds Try.pinned (OpenSpec.upto matchesSpec)

/-- 'quaerelaw5.MatchMade', WHERE WHAT IT READS IS OF BULK AT MOST 1048576: true; the input reads as it did. -/
def matchMadeUptoRow : OpenClaim := { program := "ytpfkibbmflnomaa", sum := "9c71918d06ffffbddb4f696e2d2c62ad56fefca28debfeb0263af3448edbc568", func := "quaere/quaerelaw5.MatchMade", spec := "matchMade", apart := false, narrowed := true }
def MatchMadeUptoSaid : Prop := matchMadeUptoRow.holds Try.pinned (OpenSpec.upto matchMadeSpec)

/-- 'quaerelaw5.MatchRow', WHERE WHAT IT READS IS OF BULK AT MOST 1048576: true; the input reads as it did. -/
def matchRowUptoRow : OpenClaim := { program := "ytpfkibbmflnomaa", sum := "9c71918d06ffffbddb4f696e2d2c62ad56fefca28debfeb0263af3448edbc568", func := "quaere/quaerelaw5.MatchRow", spec := "matchRow", apart := false, narrowed := true }
def MatchRowUptoSaid : Prop := matchRowUptoRow.holds Try.pinned (OpenSpec.upto matchRowSpec)

/-- 'quaerelaw5.MatchBoth', WHERE WHAT IT READS IS OF BULK AT MOST 1048576: true; the input reads as it did. -/
def matchBothUptoRow : OpenClaim := { program := "ytpfkibbmflnomaa", sum := "9c71918d06ffffbddb4f696e2d2c62ad56fefca28debfeb0263af3448edbc568", func := "quaere/quaerelaw5.MatchBoth", spec := "matchBoth", apart := false, narrowed := true }
def MatchBothUptoSaid : Prop := matchBothUptoRow.holds Try.pinned (OpenSpec.upto matchBothSpec)

/-- 'quaerelaw5.MatchUnify', WHERE WHAT IT READS IS OF BULK AT MOST 1048576: true; the input reads as it did. -/
def matchUnifyUptoRow : OpenClaim := { program := "ytpfkibbmflnomaa", sum := "9c71918d06ffffbddb4f696e2d2c62ad56fefca28debfeb0263af3448edbc568", func := "quaere/quaerelaw5.MatchUnify", spec := "matchUnify", recurses := true, apart := false, narrowed := true }
def MatchUnifyUptoSaid : Prop := matchUnifyUptoRow.holds Try.pinned (OpenSpec.upto matchUnifySpec)

/-- 'quaerelaw5.MatchLess', WHERE WHAT IT READS IS OF BULK AT MOST 1048576: true; the input reads as it did. -/
def matchLessUptoRow : OpenClaim := { program := "ytpfkibbmflnomaa", sum := "9c71918d06ffffbddb4f696e2d2c62ad56fefca28debfeb0263af3448edbc568", func := "quaere/quaerelaw5.MatchLess", spec := "matchLess", apart := false, narrowed := true }
def MatchLessUptoSaid : Prop := matchLessUptoRow.holds Try.pinned (OpenSpec.upto matchLessSpec)

end Rows
end Go.Proofs.Ytpfkibbmflnomaa
