/-
  Plain words: a clause that says as much as another one has a point under the other one's (P10.3).
-/
import Derived.Test.YtcjpopjcpgipjaaDoorPlainSubs
import Derived.Test.YtcjpopjcpgipjaaDoorPointOfC
namespace Go.Proofs.YtcjpopjcpgipjaaDoor
open Go.RowKit
set_option linter.unusedSimpArgs false
set_option linter.unusedVariables false
set_option maxRecDepth 100000

section
variable {ss : List Sym} {g : Bool} {ls ks : List Lt} {c d : Cl}
def stepW (ss : List Sym) (g : Bool) (m : Int) (l : Lt) : Int := if (l.neg == g) = true then mx m (wtSum ss l.atom) else m
theorem mx_le {x y B : Int} (h1 : x ≤ B) (h2 : y ≤ B) : mx x y ≤ B := by unfold mx; split <;> assumption
theorem mx_l (x y : Int) : x ≤ mx x y := by unfold mx; split <;> omega
theorem mx_r (x y : Int) : y ≤ mx x y := by unfold mx; split <;> omega
theorem fold_up (B : Int) : ∀ (ls : List Lt) (m : Int), m ≤ B → (∀ l ∈ ls, l.neg = g → wtSum ss l.atom ≤ B) → ls.foldl (stepW ss g) m ≤ B
  | [], _, h, _ => h
  | l :: ls, m, h, hl => by
    refine fold_up B ls _ ?_ fun x hx => hl x (List.mem_cons_of_mem _ hx)
    unfold stepW
    split
    · rename_i e; exact mx_le h (hl l (List.mem_cons_self ..) (by simpa using e))
    · exact h
theorem fold_ge : ∀ (ls : List Lt) (m : Int), m ≤ ls.foldl (stepW ss g) m
  | [], _ => Int.le_refl _
  | l :: ls, m => by
    refine Int.le_trans ?_ (fold_ge ls _)
    unfold stepW
    split
    · exact mx_l _ _
    · exact Int.le_refl _
theorem fold_mem : ∀ (ls : List Lt) (m : Int) {l : Lt}, l ∈ ls → l.neg = g → wtSum ss l.atom ≤ ls.foldl (stepW ss g) m
  | l :: ls, m, k, hk, hn => by
    rcases List.mem_cons.1 hk with rfl | hk
    · refine Int.le_trans ?_ (fold_ge ls _)
      unfold stepW
      rw [if_pos (by simpa using hn)]
      exact mx_r _ _
    · exact fold_mem ls _ hk hn
theorem topW_le (h : ∀ l ∈ ls, ∃ k ∈ ks, k.neg = l.neg ∧ wtSum ss l.atom ≤ wtSum ss k.atom) : topW ss g ls ≤ topW ss g ks := by
  refine fold_up _ ls 0 (fold_ge ks 0) fun l hl hn => ?_
  obtain ⟨k, hk, e, hw⟩ := h l hl
  exact Int.le_trans hw (fold_mem ks 0 hk (e.trans hn))
theorem Says.under (hc : MayC ss c) (hd : MayC ss d) (h : Says ss c d) : ofX ss c ≤ ofX ss d ∧ ofY ss c ≤ ofY ss d := by
  obtain ⟨θ, h⟩ := h
  have hl : ∀ l ∈ c.lits, ∃ k ∈ d.lits, k.neg = l.neg ∧ wtSum ss l.atom ≤ wtSum ss k.atom := fun l hl => by
    refine ⟨apL θ l, h.lits l hl, rfl, ?_⟩
    have hb := hc.lits l hl
    obtain ⟨p, s, ha, hp, _, _, _, ht⟩ := atom_parts (show atomB ss l.atom = true from hb)
    exact wt_ap_le hc.may h.sub fun x hx => by
      rw [ha] at hx
      rcases List.mem_cons.1 hx with rfl | hx
      · omega
      · exact trm_codes ht x hx
  obtain ⟨e1, e2, _⟩ := of_yes (mayC_iff.2 hc)
  obtain ⟨f1, f2, _⟩ := of_yes (mayC_iff.2 hd)
  rw [e1, e2, f1, f2]
  exact ⟨topW_le hl, topW_le hl⟩
end
end Go.Proofs.YtcjpopjcpgipjaaDoor
