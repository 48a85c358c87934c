/-
  No cell of these rows narrows 'for every input' (looked for: loops, veiled, ifaces, maps, wideKeys, modest, calm, conditions, laid).
  DERIVED. THE GIVEN ROWS OF THIS SEAT. 6 by the template 'for every input the law returns true; each argument reads behind the call as it read before'; 0 by the template 'total and deterministic' (their statements: YtiekgdohanahlaaTotals.lean).
  GIVEN WITH THE SEED: the statements are not yours to turn. If you find one false, say at which input.
  Laid BY PROGRAM, IN A SANDBOX (cutbox-rows.mjs): the forced cells as the released guide's own fill.sh prints them over the translation b92bf1ecd37e150c… (all of the seat's roots in one cut). By AI agents, Wed Nov 11 2026. No macro, syntax, notation, axiom, sorry.
-/
import Derived.Test.YtiekgdohanahlaaChecked
import GoSem.Claim
import GoSem.ClaimJoined
import GoSem.ClaimMapViews
import Derived.JoinedTies
import Derived.KernelRfl
namespace Go.Proofs.Ytiekgdohanahlaa
/- THE CELL 'sum', in the pinned program and in every row, IS THE sha256 OF THE DUMP (.gsa) THAT YtiekgdohanahlaaProg.lean LOADS. Nothing in Lean hashes anything: it is a label: what it is worth is what the hold of that sum in a sandbox is worth. -/
noncomputable def Try.pinned : Pinned := { name := "ytiekgdohanahlaa", sum := "b92bf1ecd37e150c610d4e3cd7f1a2003feca439665c84473d874720121300f3", checked := Try.checked }
namespace Rows
def none {H : Type} : Left H := { results := [], args := [] }

/-- 'quaerelaw7.Lits': WHATEVER THE INPUT: true; the input reads as it did. -/
def litsSpec : ChangeSpec := { name := "lits", fn := fun _ => fun
  | [d1, d2, d3] => { results := [.lit (.bool true)], args := [d1, d2, d3] }
  | _ => none }
def litsRow : OpenClaim := { program := "ytiekgdohanahlaa", sum := "b92bf1ecd37e150c610d4e3cd7f1a2003feca439665c84473d874720121300f3", func := "quaere/quaerelaw7.Lits", spec := "lits", unfollowed := true, recurses := true, apart := false }
def LitsSaid : Prop := litsRow.holds Try.pinned (OpenSpec.ofChange litsSpec)

/-- ITS FALSE NEIGHBOUR: 'it returns false'. Refute it at one input. -/
def litsWrong : ChangeSpec := { name := "lits", fn := fun _ => fun
  | [d1, d2, d3] => { results := [.lit (.bool false)], args := [d1, d2, d3] }
  | _ => none }
def LitsWrongFalsely : Prop := litsRow.holds Try.pinned (OpenSpec.ofChange litsWrong)

/-- 'quaerelaw7.LitTops': WHATEVER THE INPUT: true; the input reads as it did. -/
def litTopsSpec : ChangeSpec := { name := "litTops", fn := fun _ => fun
  | [d1, d2] => { results := [.lit (.bool true)], args := [d1, d2] }
  | _ => none }
def litTopsRow : OpenClaim := { program := "ytiekgdohanahlaa", sum := "b92bf1ecd37e150c610d4e3cd7f1a2003feca439665c84473d874720121300f3", func := "quaere/quaerelaw7.LitTops", spec := "litTops", unfollowed := true, recurses := true, apart := false }
def LitTopsSaid : Prop := litTopsRow.holds Try.pinned (OpenSpec.ofChange litTopsSpec)

/-- ITS FALSE NEIGHBOUR: 'it returns false'. Refute it at one input. -/
def litTopsWrong : ChangeSpec := { name := "litTops", fn := fun _ => fun
  | [d1, d2] => { results := [.lit (.bool false)], args := [d1, d2] }
  | _ => none }
def LitTopsWrongFalsely : Prop := litTopsRow.holds Try.pinned (OpenSpec.ofChange litTopsWrong)

/-- 'quaerelaw7.LitOpposite': WHATEVER THE INPUT: true; the input reads as it did. -/
def litOppositeSpec : ChangeSpec := { name := "litOpposite", fn := fun _ => fun
  | [d1, d2] => { results := [.lit (.bool true)], args := [d1, d2] }
  | _ => none }
def litOppositeRow : OpenClaim := { program := "ytiekgdohanahlaa", sum := "b92bf1ecd37e150c610d4e3cd7f1a2003feca439665c84473d874720121300f3", func := "quaere/quaerelaw7.LitOpposite", spec := "litOpposite", unfollowed := true, recurses := true, apart := false }
def LitOppositeSaid : Prop := litOppositeRow.holds Try.pinned (OpenSpec.ofChange litOppositeSpec)

/-- ITS FALSE NEIGHBOUR: 'it returns false'. Refute it at one input. -/
def litOppositeWrong : ChangeSpec := { name := "litOpposite", fn := fun _ => fun
  | [d1, d2] => { results := [.lit (.bool false)], args := [d1, d2] }
  | _ => none }
def LitOppositeWrongFalsely : Prop := litOppositeRow.holds Try.pinned (OpenSpec.ofChange litOppositeWrong)

/-- 'quaerelaw7.LitOrder': WHATEVER THE INPUT: true; the input reads as it did. -/
def litOrderSpec : ChangeSpec := { name := "litOrder", fn := fun _ => fun
  | [d1, d2, d3] => { results := [.lit (.bool true)], args := [d1, d2, d3] }
  | _ => none }
def litOrderRow : OpenClaim := { program := "ytiekgdohanahlaa", sum := "b92bf1ecd37e150c610d4e3cd7f1a2003feca439665c84473d874720121300f3", func := "quaere/quaerelaw7.LitOrder", spec := "litOrder", unfollowed := true, recurses := true, apart := false }
def LitOrderSaid : Prop := litOrderRow.holds Try.pinned (OpenSpec.ofChange litOrderSpec)

/-- ITS FALSE NEIGHBOUR: 'it returns false'. Refute it at one input. -/
def litOrderWrong : ChangeSpec := { name := "litOrder", fn := fun _ => fun
  | [d1, d2, d3] => { results := [.lit (.bool false)], args := [d1, d2, d3] }
  | _ => none }
def LitOrderWrongFalsely : Prop := litOrderRow.holds Try.pinned (OpenSpec.ofChange litOrderWrong)

/-- 'quaerelaw7.LitTopThere': WHATEVER THE INPUT: true; the input reads as it did. -/
def litTopThereSpec : ChangeSpec := { name := "litTopThere", fn := fun _ => fun
  | [d1, d2] => { results := [.lit (.bool true)], args := [d1, d2] }
  | _ => none }
def litTopThereRow : OpenClaim := { program := "ytiekgdohanahlaa", sum := "b92bf1ecd37e150c610d4e3cd7f1a2003feca439665c84473d874720121300f3", func := "quaere/quaerelaw7.LitTopThere", spec := "litTopThere", unfollowed := true, recurses := true, apart := false }
def LitTopThereSaid : Prop := litTopThereRow.holds Try.pinned (OpenSpec.ofChange litTopThereSpec)

/-- ITS FALSE NEIGHBOUR: 'it returns false'. Refute it at one input. -/
def litTopThereWrong : ChangeSpec := { name := "litTopThere", fn := fun _ => fun
  | [d1, d2] => { results := [.lit (.bool false)], args := [d1, d2] }
  | _ => none }
def LitTopThereWrongFalsely : Prop := litTopThereRow.holds Try.pinned (OpenSpec.ofChange litTopThereWrong)

/-- 'quaerelaw7.LitAlone': WHATEVER THE INPUT: true; the input reads as it did. -/
def litAloneSpec : ChangeSpec := { name := "litAlone", fn := fun _ => fun
  | [d1, d2] => { results := [.lit (.bool true)], args := [d1, d2] }
  | _ => none }
def litAloneRow : OpenClaim := { program := "ytiekgdohanahlaa", sum := "b92bf1ecd37e150c610d4e3cd7f1a2003feca439665c84473d874720121300f3", func := "quaere/quaerelaw7.LitAlone", spec := "litAlone", unfollowed := true, recurses := true, apart := false }
def LitAloneSaid : Prop := litAloneRow.holds Try.pinned (OpenSpec.ofChange litAloneSpec)

/-- ITS FALSE NEIGHBOUR: 'it returns false'. Refute it at one input. -/
def litAloneWrong : ChangeSpec := { name := "litAlone", fn := fun _ => fun
  | [d1, d2] => { results := [.lit (.bool false)], args := [d1, d2] }
  | _ => none }
def LitAloneWrongFalsely : Prop := litAloneRow.holds Try.pinned (OpenSpec.ofChange litAloneWrong)

/- THE SECOND FORM. 'bulk': how many values and letters a reading holds, each counted each time it is reached (what is shared counts as often as it is met; a slice's spare places count too). A statement '..UptoSaid' is the law's where the arguments, and the package variables that the reading takes, are together of bulk at most 1048576: NARROWER than '..Said'. Prove '..Said' where nothing that the law and all that it calls make is longer than what came in: it says more and counts as full. Else prove '..UptoSaid'. A law counts once. -/
mutual
def uptoBulk {H : Type} : DataW H → Nat
  | .lit (.string bytes) => bytes.length + 1
  | .lit _ => 1
  | .nil => 1
  | .ptr d => uptoBulk d + 1
  | .slice elems spare => uptoBulkAll elems + uptoBulkAll spare + 1
  | .agg parts => uptoBulkAll parts + 1
  | .iface _ d => uptoBulk d + 1
  | .map entries => uptoBulkEntries entries + 1
  | .held _ => 1
def uptoBulkAll {H : Type} : List (DataW H) → Nat
  | [] => 0
  | d :: r => uptoBulk d + uptoBulkAll r
def uptoBulkEntries {H : Type} : List (Lit × DataW H) → Nat
  | [] => 0
  | x :: r => uptoBulkEntry x + uptoBulkEntries r
def uptoBulkEntry {H : Type} : Lit × DataW H → Nat
  | (.string bytes, d) => bytes.length + uptoBulk d + 1
  | (_, d) => uptoBulk d + 1
 end
def uptoSmall : (H : Type) → List (DataW H) → Bool := fun _ ds => decide (uptoBulkAll ds ≤ 1048576)
def OpenSpec.upto (s : _root_.Go.ChangeSpec) : _root_.Go.OpenSpec := { _root_.Go.OpenSpec.ofChange s with cond := some uptoSmall }

/-- 'quaerelaw7.Lits', WHERE WHAT IT READS IS OF BULK AT MOST 1048576: true; the input reads as it did. -/
def litsUptoRow : OpenClaim := { program := "ytiekgdohanahlaa", sum := "b92bf1ecd37e150c610d4e3cd7f1a2003feca439665c84473d874720121300f3", func := "quaere/quaerelaw7.Lits", spec := "lits", unfollowed := true, recurses := true, apart := false, narrowed := true }
def LitsUptoSaid : Prop := litsUptoRow.holds Try.pinned (OpenSpec.upto litsSpec)

/-- 'quaerelaw7.LitTops', WHERE WHAT IT READS IS OF BULK AT MOST 1048576: true; the input reads as it did. -/
def litTopsUptoRow : OpenClaim := { program := "ytiekgdohanahlaa", sum := "b92bf1ecd37e150c610d4e3cd7f1a2003feca439665c84473d874720121300f3", func := "quaere/quaerelaw7.LitTops", spec := "litTops", unfollowed := true, recurses := true, apart := false, narrowed := true }
def LitTopsUptoSaid : Prop := litTopsUptoRow.holds Try.pinned (OpenSpec.upto litTopsSpec)

/-- 'quaerelaw7.LitOpposite', WHERE WHAT IT READS IS OF BULK AT MOST 1048576: true; the input reads as it did. -/
def litOppositeUptoRow : OpenClaim := { program := "ytiekgdohanahlaa", sum := "b92bf1ecd37e150c610d4e3cd7f1a2003feca439665c84473d874720121300f3", func := "quaere/quaerelaw7.LitOpposite", spec := "litOpposite", unfollowed := true, recurses := true, apart := false, narrowed := true }
def LitOppositeUptoSaid : Prop := litOppositeUptoRow.holds Try.pinned (OpenSpec.upto litOppositeSpec)

/-- 'quaerelaw7.LitOrder', WHERE WHAT IT READS IS OF BULK AT MOST 1048576: true; the input reads as it did. -/
def litOrderUptoRow : OpenClaim := { program := "ytiekgdohanahlaa", sum := "b92bf1ecd37e150c610d4e3cd7f1a2003feca439665c84473d874720121300f3", func := "quaere/quaerelaw7.LitOrder", spec := "litOrder", unfollowed := true, recurses := true, apart := false, narrowed := true }
def LitOrderUptoSaid : Prop := litOrderUptoRow.holds Try.pinned (OpenSpec.upto litOrderSpec)

/-- 'quaerelaw7.LitTopThere', WHERE WHAT IT READS IS OF BULK AT MOST 1048576: true; the input reads as it did. -/
def litTopThereUptoRow : OpenClaim := { program := "ytiekgdohanahlaa", sum := "b92bf1ecd37e150c610d4e3cd7f1a2003feca439665c84473d874720121300f3", func := "quaere/quaerelaw7.LitTopThere", spec := "litTopThere", unfollowed := true, recurses := true, apart := false, narrowed := true }
def LitTopThereUptoSaid : Prop := litTopThereUptoRow.holds Try.pinned (OpenSpec.upto litTopThereSpec)

/-- 'quaerelaw7.LitAlone', WHERE WHAT IT READS IS OF BULK AT MOST 1048576: true; the input reads as it did. -/
def litAloneUptoRow : OpenClaim := { program := "ytiekgdohanahlaa", sum := "b92bf1ecd37e150c610d4e3cd7f1a2003feca439665c84473d874720121300f3", func := "quaere/quaerelaw7.LitAlone", spec := "litAlone", unfollowed := true, recurses := true, apart := false, narrowed := true }
def LitAloneUptoSaid : Prop := litAloneUptoRow.holds Try.pinned (OpenSpec.upto litAloneSpec)

end Rows
end Go.Proofs.Ytiekgdohanahlaa
