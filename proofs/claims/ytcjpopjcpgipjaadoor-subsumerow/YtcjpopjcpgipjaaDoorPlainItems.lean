/-
  Plain words: parts of a clause and what they may become, one behind the other.
-/
import Derived.Test.YtcjpopjcpgipjaaDoorPlainSub2
namespace Go.Proofs.YtcjpopjcpgipjaaDoor
open Go.RowKit
set_option linter.unusedSimpArgs false
set_option linter.unusedVariables false
set_option maxRecDepth 100000

def itAt (L : List (List Lt)) (i : Nat) : List Lt := L.getD i []
theorem itAt_get {L : List (List Lt)} {i : Nat} (h : i < L.length) : L[i]? = some (itAt L i) := by
  unfold itAt; rw [List.getD_eq_getElem?_getD, List.getElem?_eq_getElem h]; rfl
def natsJ (ps : List Nat) : List Int := ps.map Int.ofNat
theorem PatAll.at_ {ss : List Sym} : ∀ {xs : List Lt} {ys : List (List Lt)}, PatAll ss xs ys → ∀ i, i < xs.length → i < ys.length → ∀ j, j < (itAt ys i).length → Pat ss (ltAt xs i).atom (ltAt (itAt ys i) j).atom
  | x :: xs, y :: ys, h, 0, _, _, j, hj => h.1 j hj
  | x :: xs, y :: ys, h, i + 1, h1, h2, j, hj => PatAll.at_ h.2 i (by simpa using h1) (by simpa using h2) j hj
theorem targ_lits {c d : Cl} {i : Nat} (h : i < c.lits.length) : itAt (targC c d) i = d.lits := by
  unfold itAt targC
  rw [List.getD_eq_getElem?_getD, List.getElem?_append_left (by rw [List.length_replicate]; exact h), List.getElem?_replicate, if_pos h]; rfl
theorem targ_tups {c d : Cl} {i : Nat} (h1 : ¬ i < c.lits.length) (h : i < c.lits.length + c.tups.length) : itAt (targC c d) i = d.tups.map mkT := by
  unfold itAt targC
  rw [List.getD_eq_getElem?_getD, List.getElem?_append_right (by rw [List.length_replicate]; omega), List.length_replicate, List.getElem?_append_left (by rw [List.length_replicate]; omega), List.getElem?_replicate, if_pos (by omega)]; rfl
theorem targ_conds {c d : Cl} {i : Nat} (h1 : ¬ i < c.lits.length + c.tups.length) (h : i < c.lits.length + c.tups.length + c.conds.length) : itAt (targC c d) i = d.conds := by
  unfold itAt targC
  rw [List.getD_eq_getElem?_getD, List.getElem?_append_right (by rw [List.length_replicate]; omega), List.length_replicate, List.getElem?_append_right (by rw [List.length_replicate]; omega), List.length_replicate, List.getElem?_replicate, if_pos (by omega)]; rfl
theorem targ_len {c d : Cl} : (targC c d).length = c.lits.length + c.tups.length + c.conds.length := by unfold targC; simp; omega
theorem items_len {c : Cl} : (itemsC c).length = c.lits.length + c.tups.length + c.conds.length := by unfold itemsC; simp; omega
end Go.Proofs.YtcjpopjcpgipjaaDoor
