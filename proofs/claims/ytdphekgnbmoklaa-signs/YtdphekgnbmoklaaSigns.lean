/-
  Signs: the walk.
-/
import Derived.Test.YtdphekgnbmoklaaAwake
import Derived.Test.YtdphekgnbmoklaaRefAdd
namespace Go.Proofs.Ytdphekgnbmoklaa
open Go.RowKit
set_option linter.unusedSimpArgs false
set_option linter.unusedVariables false

set_option maxHeartbeats 2000000 in
theorem signs_walk (A : Option Addr) (n c : Nat) (ss : List Sym) (nm : ByteArray) (w : World) (h : SymsAt w w.heap.size A n ss) (hn : n ≤ maxLen) (hnc : n ≤ c) :
    Calls Try.prog 3 #[.slice A n c, .string nm] w fun e w' => e = .returned (.bool true) ∧ Below w.heap.size w w' := by
  go_enter Try.func3, Try.ntmps3
  go_wp2_with fail
  refine (find_any _ n c ss nm _ h hn hnc).mono ?_
  rintro e w1 ⟨rfl, hb1⟩
  go_wp2_with fail
  refine (refFind_any _ n c ss nm _ (h.on hb1) hn hnc).mono ?_
  rintro e w2 ⟨rfl, hb2⟩
  have hb12 := hb1.trans (hb2.mono hb1.size)
  go_wp2_with fail
  refine (may_any _ n c ss _ (h.on hb12) hn hnc).mono ?_
  rintro e w3 ⟨rfl, hb3⟩
  have hb13 := hb12.trans (hb3.mono hb12.size)
  go_wp2_with fail
  refine (signMay_any _ n c ss _ (h.on hb13) hn).mono ?_
  rintro e w4 ⟨rfl, hb4⟩
  have hb14 := hb13.trans (hb4.mono hb13.size)
  have e1 : (mayB ss == mayB ss) = true := by simp
  have e2 : (findK ss nm == findK ss nm) = true := by simp
  have e3 : (findE ss == findE ss) = true := by simp
  go_wp2_with (go_at_call 12; refine (num_any _ _).mono ?_; rintro e w' ⟨rfl, rfl⟩)
  refine (awake_any _).mono ?_
  rintro e w5 ⟨rfl, hb5⟩
  go_wp2
  go_ret
  exact ⟨rfl, hb14.trans (hb5.mono hb14.size)⟩

end Go.Proofs.Ytdphekgnbmoklaa
