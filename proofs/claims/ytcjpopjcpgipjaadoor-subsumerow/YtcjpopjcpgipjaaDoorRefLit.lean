/-
  Contracts of quaereref8: LitMay, LitWeight, which, LitCompare.
-/
import Derived.Test.YtcjpopjcpgipjaaDoorLitAll
import Derived.Test.YtcjpopjcpgipjaaDoorRefWhich
namespace Go.Proofs.YtcjpopjcpgipjaaDoor
open Go.RowKit
set_option linter.unusedSimpArgs false
set_option linter.unusedVariables false
set_option maxRecDepth 100000

set_option maxHeartbeats 1000000 in
theorem refLitMay_any (A A' : Option Addr) (n c m c' : Nat) (ss : List Sym) (p : Lt) (w : World) (h : SymsAt w w.heap.size A n ss) (hn : n ≤ maxLen) (hnc : n ≤ c) (hr : LitAt w w.heap.size A' m c' p) :
    Calls Tryd.prog 58 #[.slice A n c, .agg #[.bool p.neg, .slice A' m c']] w fun e w' => e = .returned (.bool (litB ss p)) ∧ Below w.heap.size w w' := by
  have HR := Lib.hid hr
  have HS := Lib.hid h
  clear h hr
  go_enter Tryd.func58, Tryd.ntmps58
  go_wp2_with fail
  have hb0 := below_new w (.cells #[.bool p.neg, .slice A' m c'] 75)
  have hc0 : (w.alloc (.cells #[.bool p.neg, .slice A' m c'] 75)).cell? ⟨w.heap.size, 1, none⟩ = some (.slice A' m c') := by rw [World.cell?_alloc_new]; rfl
  refine (signMay_any A n c ss _ (HS.out.on hb0) hn).mono ?_
  rintro e w1 ⟨rfl, hb1⟩
  have hc1 : w1.cell? ⟨w.heap.size, 1, none⟩ = some (.slice A' m c') := by rw [hb1.cell (p := ⟨w.heap.size, 1, none⟩) (by simp)]; exact hc0
  have hb2 := hb0.trans (hb1.mono hb0.size)
  have HS1 := Lib.hid (HS.out.on hb2)
  have HR1 := Lib.hid (HR.out.on hb2)
  have HB1 := Lib.hid hb2
  clear hb0 hb1 hb2 hc0
  cases hp : mayB ss
  · have H1 : Hid (litB ss p = false) := by
      show litB ss p = false
      cases hl : litB ss p
      · rfl
      · have := (atom_ex hl).1; rw [hp] at this; cases this
    clear hp
    go_wp2
    go_ret
    exact ⟨ret_b H1.out.symm, HB1.out⟩
  · have HP := Lib.hid hp
    clear hp
    go_wp2_with fail
    refine (refIsAtom_any A A' n c m c' ss p.atom w1 HS1.out hn HR1.out.at_ HR1.out.big HR1.out.cap HP.out).mono ?_
    rintro e w2 ⟨rfl, hb2⟩
    have HB2 := Lib.hid (HB1.out.trans (hb2.mono HB1.out.size))
    clear hb2
    go_wp2
    go_ret
    exact ⟨rfl, HB2.out⟩

end Go.Proofs.YtcjpopjcpgipjaaDoor
