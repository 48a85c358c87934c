/-
  Words for the laws of tables: what was made, in a box of its own.
-/
import Derived.Test.YthnjpkghjkhjdaaFactP0
namespace Go.Proofs.Ythnjpkghjkhjdaa
open Go.RowKit Go.Deep
set_option linter.unusedSimpArgs false
set_option linter.unusedVariables false
set_option maxRecDepth 100000

section
variable {w w2 : World} {base : Nat} {u : Value} {t : Tb} {x : Tv} {o : Obj}
theorem OwnTs.tab (h : OwnTs w base u t) (hs : TFit t) : ∃ x : Tv, u = .agg #[.slice x.A1 x.n1 x.c1, .slice x.A2 x.n2 x.c2] ∧ TabAt w w.heap.size x t := h.own.tabAt hs
theorem TBox.made (h : TabAt w w.heap.size x t) (hg : w2.heap[w.heap.size]? = some (.cells #[.slice x.A1 x.n1 x.c1, .slice x.A2 x.n2 x.c2] 26 (0, 0))) (hc : Chg [26] w.heap.size (w.alloc o) w2) :
    TBox w2 w.heap.size x t ∧ Below w.heap.size w w2 := by
  have hb := (below_new w o).trans hc.bel
  exact ⟨⟨(Array.getElem?_eq_some_iff.1 hg).1, by rw [cell_of_row _ _ 0 _ _ _ hg]; rfl, by rw [cell_of_row _ _ 1 _ _ _ hg]; rfl, h.on hb⟩, hb⟩
end
end Go.Proofs.Ythnjpkghjkhjdaa
