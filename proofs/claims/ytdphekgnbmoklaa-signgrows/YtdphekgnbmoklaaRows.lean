/-
  No cell of these rows narrows 'for every input' (looked for: loops, veiled, ifaces, maps, wideKeys, modest, calm, conditions, laid).
  DERIVED. THE GIVEN ROWS OF THIS SEAT. 5 by the template 'for every input the law returns true; each argument reads behind the call as it read before'; 0 by the template 'total and deterministic' (their statements: YtdphekgnbmoklaaTotals.lean).
  GIVEN WITH THE SEED: the statements are not yours to turn. If you find one false, say at which input.
  Laid BY PROGRAM, IN A SANDBOX (cutbox-rows.mjs): the forced cells as the released guide's own fill.sh prints them over the translation 534f4197fd474fbb… (all of the seat's roots in one cut). By AI agents, Wed Nov 11 2026. No macro, syntax, notation, axiom, sorry.
-/
import Derived.Test.YtdphekgnbmoklaaChecked
import GoSem.Claim
import GoSem.ClaimJoined
import GoSem.ClaimMapViews
import Derived.JoinedTies
import Derived.KernelRfl
namespace Go.Proofs.Ytdphekgnbmoklaa
/- THE CELL 'sum', in the pinned program and in every row, IS THE sha256 OF THE DUMP (.gsa) THAT YtdphekgnbmoklaaProg.lean LOADS. Nothing in Lean hashes anything: it is a label: what it is worth is what the hold of that sum in a sandbox is worth. -/
noncomputable def Try.pinned : Pinned := { name := "ytdphekgnbmoklaa", sum := "534f4197fd474fbb4f18bdf968ea1eaca3e413eb55de39636f8dd63f47a60727", checked := Try.checked }
namespace Rows
def none {H : Type} : Left H := { results := [], args := [] }

/-- 'quaerelaw1.Signs': WHATEVER THE INPUT: true; the input reads as it did. -/
def signsSpec : ChangeSpec := { name := "signs", fn := fun _ => fun
  | [d1, d2] => { results := [.lit (.bool true)], args := [d1, d2] }
  | _ => none }
def signsRow : OpenClaim := { program := "ytdphekgnbmoklaa", sum := "534f4197fd474fbb4f18bdf968ea1eaca3e413eb55de39636f8dd63f47a60727", func := "quaere/quaerelaw1.Signs", spec := "signs", apart := false }
def SignsSaid : Prop := signsRow.holds Try.pinned (OpenSpec.ofChange signsSpec)

/-- ITS FALSE NEIGHBOUR: 'it returns false'. Refute it at one input. -/
def signsWrong : ChangeSpec := { name := "signs", fn := fun _ => fun
  | [d1, d2] => { results := [.lit (.bool false)], args := [d1, d2] }
  | _ => none }
def SignsWrongFalsely : Prop := signsRow.holds Try.pinned (OpenSpec.ofChange signsWrong)

/-- 'quaerelaw1.SignAdds': WHATEVER THE INPUT: true; the input reads as it did. -/
def signAddsSpec : ChangeSpec := { name := "signAdds", fn := fun _ => fun
  | [d1, d2] => { results := [.lit (.bool true)], args := [d1, d2] }
  | _ => none }
def signAddsRow : OpenClaim := { program := "ytdphekgnbmoklaa", sum := "534f4197fd474fbb4f18bdf968ea1eaca3e413eb55de39636f8dd63f47a60727", func := "quaere/quaerelaw1.SignAdds", spec := "signAdds", apart := false }
def SignAddsSaid : Prop := signAddsRow.holds Try.pinned (OpenSpec.ofChange signAddsSpec)

/-- ITS FALSE NEIGHBOUR: 'it returns false'. Refute it at one input. -/
def signAddsWrong : ChangeSpec := { name := "signAdds", fn := fun _ => fun
  | [d1, d2] => { results := [.lit (.bool false)], args := [d1, d2] }
  | _ => none }
def SignAddsWrongFalsely : Prop := signAddsRow.holds Try.pinned (OpenSpec.ofChange signAddsWrong)

/-- 'quaerelaw1.SignGrows': WHATEVER THE INPUT: true; the input reads as it did. -/
def signGrowsSpec : ChangeSpec := { name := "signGrows", fn := fun _ => fun
  | [d1, d2] => { results := [.lit (.bool true)], args := [d1, d2] }
  | _ => none }
def signGrowsRow : OpenClaim := { program := "ytdphekgnbmoklaa", sum := "534f4197fd474fbb4f18bdf968ea1eaca3e413eb55de39636f8dd63f47a60727", func := "quaere/quaerelaw1.SignGrows", spec := "signGrows", apart := false }
def SignGrowsSaid : Prop := signGrowsRow.holds Try.pinned (OpenSpec.ofChange signGrowsSpec)

/-- ITS FALSE NEIGHBOUR: 'it returns false'. Refute it at one input. -/
def signGrowsWrong : ChangeSpec := { name := "signGrows", fn := fun _ => fun
  | [d1, d2] => { results := [.lit (.bool false)], args := [d1, d2] }
  | _ => none }
def SignGrowsWrongFalsely : Prop := signGrowsRow.holds Try.pinned (OpenSpec.ofChange signGrowsWrong)

/-- 'quaerelaw1.SignNames': WHATEVER THE INPUT: true; the input reads as it did. -/
def signNamesSpec : ChangeSpec := { name := "signNames", fn := fun _ => fun
  | [d] => { results := [.lit (.bool true)], args := [d] }
  | _ => none }
def signNamesRow : OpenClaim := { program := "ytdphekgnbmoklaa", sum := "534f4197fd474fbb4f18bdf968ea1eaca3e413eb55de39636f8dd63f47a60727", func := "quaere/quaerelaw1.SignNames", spec := "signNames", apart := false }
def SignNamesSaid : Prop := signNamesRow.holds Try.pinned (OpenSpec.ofChange signNamesSpec)

/-- ITS FALSE NEIGHBOUR: 'it returns false'. Refute it at one input. -/
def signNamesWrong : ChangeSpec := { name := "signNames", fn := fun _ => fun
  | [d] => { results := [.lit (.bool false)], args := [d] }
  | _ => none }
def SignNamesWrongFalsely : Prop := signNamesRow.holds Try.pinned (OpenSpec.ofChange signNamesWrong)

/-- 'quaerelaw1.SignFull': WHATEVER THE INPUT: true; the input reads as it did. -/
def signFullSpec : ChangeSpec := { name := "signFull", fn := fun _ => fun
  | [d] => { results := [.lit (.bool true)], args := [d] }
  | _ => none }
def signFullRow : OpenClaim := { program := "ytdphekgnbmoklaa", sum := "534f4197fd474fbb4f18bdf968ea1eaca3e413eb55de39636f8dd63f47a60727", func := "quaere/quaerelaw1.SignFull", spec := "signFull", apart := false }
def SignFullSaid : Prop := signFullRow.holds Try.pinned (OpenSpec.ofChange signFullSpec)

/-- ITS FALSE NEIGHBOUR: 'it returns false'. Refute it at one input. -/
def signFullWrong : ChangeSpec := { name := "signFull", fn := fun _ => fun
  | [d] => { results := [.lit (.bool false)], args := [d] }
  | _ => none }
def SignFullWrongFalsely : Prop := signFullRow.holds Try.pinned (OpenSpec.ofChange signFullWrong)

/- THE SECOND FORM. 'bulk': how many values and letters a reading holds, each counted each time it is reached (what is shared counts as often as it is met; a slice's spare places count too). A statement '..UptoSaid' is the law's where the arguments, and the package variables that the reading takes, are together of bulk at most 1048576: NARROWER than '..Said'. Prove '..Said' where nothing that the law and all that it calls make is longer than what came in: it says more and counts as full. Else prove '..UptoSaid'. A law counts once. -/
mutual
def uptoBulk {H : Type} : DataW H → Nat
  | .lit (.string bytes) => bytes.length + 1
  | .lit _ => 1
  | .nil => 1
  | .ptr d => uptoBulk d + 1
  | .slice elems spare => uptoBulkAll elems + uptoBulkAll spare + 1
  | .agg parts => uptoBulkAll parts + 1
  | .iface _ d => uptoBulk d + 1
  | .map entries => uptoBulkEntries entries + 1
  | .held _ => 1
def uptoBulkAll {H : Type} : List (DataW H) → Nat
  | [] => 0
  | d :: r => uptoBulk d + uptoBulkAll r
def uptoBulkEntries {H : Type} : List (Lit × DataW H) → Nat
  | [] => 0
  | x :: r => uptoBulkEntry x + uptoBulkEntries r
def uptoBulkEntry {H : Type} : Lit × DataW H → Nat
  | (.string bytes, d) => bytes.length + uptoBulk d + 1
  | (_, d) => uptoBulk d + 1
 end
def uptoSmall : (H : Type) → List (DataW H) → Bool := fun _ ds => decide (uptoBulkAll ds ≤ 1048576)
def OpenSpec.upto (s : _root_.Go.ChangeSpec) : _root_.Go.OpenSpec := { _root_.Go.OpenSpec.ofChange s with cond := some uptoSmall }

/-- 'quaerelaw1.Signs', WHERE WHAT IT READS IS OF BULK AT MOST 1048576: true; the input reads as it did. -/
def signsUptoRow : OpenClaim := { program := "ytdphekgnbmoklaa", sum := "534f4197fd474fbb4f18bdf968ea1eaca3e413eb55de39636f8dd63f47a60727", func := "quaere/quaerelaw1.Signs", spec := "signs", apart := false, narrowed := true }
def SignsUptoSaid : Prop := signsUptoRow.holds Try.pinned (OpenSpec.upto signsSpec)

/-- 'quaerelaw1.SignAdds', WHERE WHAT IT READS IS OF BULK AT MOST 1048576: true; the input reads as it did. -/
def signAddsUptoRow : OpenClaim := { program := "ytdphekgnbmoklaa", sum := "534f4197fd474fbb4f18bdf968ea1eaca3e413eb55de39636f8dd63f47a60727", func := "quaere/quaerelaw1.SignAdds", spec := "signAdds", apart := false, narrowed := true }
def SignAddsUptoSaid : Prop := signAddsUptoRow.holds Try.pinned (OpenSpec.upto signAddsSpec)

/-- 'quaerelaw1.SignGrows', WHERE WHAT IT READS IS OF BULK AT MOST 1048576: true; the input reads as it did. -/
def signGrowsUptoRow : OpenClaim := { program := "ytdphekgnbmoklaa", sum := "534f4197fd474fbb4f18bdf968ea1eaca3e413eb55de39636f8dd63f47a60727", func := "quaere/quaerelaw1.SignGrows", spec := "signGrows", apart := false, narrowed := true }
def SignGrowsUptoSaid : Prop := signGrowsUptoRow.holds Try.pinned (OpenSpec.upto signGrowsSpec)

/-- 'quaerelaw1.SignNames', WHERE WHAT IT READS IS OF BULK AT MOST 1048576: true; the input reads as it did. -/
def signNamesUptoRow : OpenClaim := { program := "ytdphekgnbmoklaa", sum := "534f4197fd474fbb4f18bdf968ea1eaca3e413eb55de39636f8dd63f47a60727", func := "quaere/quaerelaw1.SignNames", spec := "signNames", apart := false, narrowed := true }
def SignNamesUptoSaid : Prop := signNamesUptoRow.holds Try.pinned (OpenSpec.upto signNamesSpec)

/-- 'quaerelaw1.SignFull', WHERE WHAT IT READS IS OF BULK AT MOST 1048576: true; the input reads as it did. -/
def signFullUptoRow : OpenClaim := { program := "ytdphekgnbmoklaa", sum := "534f4197fd474fbb4f18bdf968ea1eaca3e413eb55de39636f8dd63f47a60727", func := "quaere/quaerelaw1.SignFull", spec := "signFull", apart := false, narrowed := true }
def SignFullUptoSaid : Prop := signFullUptoRow.holds Try.pinned (OpenSpec.upto signFullSpec)

end Rows
end Go.Proofs.Ytdphekgnbmoklaa
