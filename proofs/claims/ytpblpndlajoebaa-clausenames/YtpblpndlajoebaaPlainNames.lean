/-
  Plain words: the greatest variable of a clause; variables further up; atoms, conditions, tuples in this row: no program.
-/
import Derived.Test.YtpblpndlajoebaaClauseNorm
namespace Go.Proofs.Ytpblpndlajoebaa
open Go.RowKit
set_option linter.unusedSimpArgs false
set_option linter.unusedVariables false
set_option maxRecDepth 100000

theorem vars_last {ss : List Sym} {c : Cl} (h : MayC ss c) {u : Nat} (hu : u ∈ vrs (codesC c)) : 0 < (varsC c).length ∧ (u : Int) ≤ intAt (varsC c) ((varsC c).length - 1) := by
  have hm : u ∈ (List.range 24).filter (hasV (codesC c)) := by
    rw [List.mem_filter]
    exact ⟨List.mem_range.2 (h.var hu), hasV_iff.2 hu⟩
  obtain ⟨xs, hxs⟩ : ∃ xs, xs = (List.range 24).filter (hasV (codesC c)) := ⟨_, rfl⟩
  have hp : xs.Pairwise (· < ·) := by rw [hxs]; exact List.Pairwise.filter _ List.pairwise_lt_range
  have hv : varsC c = xs.map Int.ofNat := by rw [hxs]; rfl
  rw [← hxs] at hm
  obtain ⟨i, hi, e⟩ := List.getElem_of_mem hm
  have hl : (varsC c).length = xs.length := by rw [hv, List.length_map]
  refine ⟨by omega, ?_⟩
  have hlast : intAt (varsC c) ((varsC c).length - 1) = (xs[xs.length - 1]'(by omega) : Nat) := by
    rw [hl, hv]
    unfold intAt
    rw [List.getD_eq_getElem?_getD, List.getElem?_map, List.getElem?_eq_getElem (by omega)]; rfl
  rw [hlast]
  by_cases q : i = xs.length - 1
  · subst q; rw [e]; exact Int.le_refl _
  · have := (List.pairwise_iff_getElem.1 hp) i (xs.length - 1) hi (by omega) (by omega)
    rw [e] at this
    omega
/-- Variables further up. -/
def upF (s u : Nat) : Nat := u + s
theorem upF_inj {s a b : Nat} (h : upF s a = upF s b) : a = b := by unfold upF at h; omega
theorem ren_up {s : Nat} {x : Int} (h : x < 0) : ren (upF s) x = x - (s : Int) := by
  unfold ren upF
  rw [if_pos h]; omega
/-- Atoms, conditions, tuples. -/
def rowsP (c : Cl) : List (List Int) := c.lits.map Lt.atom ++ c.conds.map Lt.atom ++ c.tups
theorem rowsP_mem {c : Cl} {r : List Int} (h : r ∈ rowsP c) : r ∈ rowsC c := by
  unfold rowsP at h
  unfold rowsC
  rw [List.append_assoc, List.mem_append, List.mem_append] at h
  rw [List.mem_append, List.mem_append]
  rcases h with h | h | h
  · exact .inl h
  · exact .inr (.inr h)
  · exact .inr (.inl h)
theorem rowsP_ren {f : Nat → Nat} {c : Cl} : (rowsP c).map (renR f) = rowsP (renC f c) := by
  unfold rowsP renC
  simp only [List.map_append, List.map_map]
  rfl
theorem norm_up {s : Nat} {c : Cl} {l : Lt} (h : l ∈ (renC (upF s) c).lits) : norm ⟨(renC (upF s) c).lits ++ [l], (renC (upF s) c).tups, (renC (upF s) c).conds⟩ = norm c := by
  rw [norm_twice (c := renC (upF s) c) h]
  exact norm_names fun v _ u _ q => upF_inj q
theorem up_var {ss : List Sym} {c : Cl} {s : Nat} (h : MayC ss c) (hs : 0 < (varsC c).length → intAt (varsC c) ((varsC c).length - 1) + (s : Int) ≤ 23) : ∀ r ∈ rowsC (renC (upF s) c), ∀ x ∈ r, -24 ≤ x := by
  intro r hr x hx
  rw [rowsC_ren] at hr
  obtain ⟨r0, hr0, rfl⟩ := List.mem_map.1 hr
  obtain ⟨y, hy, rfl⟩ := List.mem_map.1 hx
  by_cases hy0 : y < 0
  · rw [ren_up hy0]
    obtain ⟨h1, h2⟩ := vars_last h (u := (-1 - y).toNat) (mem_vrs.2 (by rw [neg_var hy0]; exact rowC_codes hr0 _ hy))
    have := hs h1
    omega
  · unfold ren; rw [if_neg hy0]; omega
theorem up_fit {ss : List Sym} {c : Cl} {s : Nat} {l : Lt} (h : MayC ss c) (hl : l ∈ (renC (upF s) c).lits) : Fit ⟨(renC (upF s) c).lits ++ [l], (renC (upF s) c).tups, (renC (upF s) c).conds⟩ where
  l := by have := h.nl; simp [renC]; omega
  t := by have := h.nt; simp [renC]; omega
  d := by have := h.nc; simp [renC]; omega
  r := fun r hr => by
    have hr' : r ∈ rowsC (renC (upF s) c) := by
      unfold rowsC at hr ⊢
      rw [List.map_append, List.append_assoc] at hr
      rcases List.mem_append.1 hr with q | q
      · exact List.mem_append_left _ q
      · rcases List.mem_append.1 q with q | q
        · exact List.mem_append_left _ (by
            rw [List.map_singleton, List.mem_singleton] at q
            rw [q]; exact List.mem_map_of_mem hl)
        · exact List.mem_append_right _ q
    rw [rowsC_ren] at hr'
    obtain ⟨r0, hr0, rfl⟩ := List.mem_map.1 hr'
    rw [renR_length]
    have := h.small.r r0 hr0
    omega
theorem apart_iff {vs : List Value} : Apart vs ↔ vs.Pairwise (fun u v => ∀ g, u.ownBlock = some g → v.ownBlock ≠ some g) := by
  rw [List.pairwise_iff_getElem]
  constructor
  · intro h i j hi hj hij g
    have := h i j hij hj g
    unfold valAt at this
    rw [List.getD_eq_getElem?_getD, List.getD_eq_getElem?_getD, List.getElem?_eq_getElem hi, List.getElem?_eq_getElem hj] at this
    exact this
  · intro h i j hij hj g
    have := h i j (by omega) hj hij g
    unfold valAt
    rw [List.getD_eq_getElem?_getD, List.getD_eq_getElem?_getD, List.getElem?_eq_getElem (by omega), List.getElem?_eq_getElem hj]
    exact this
theorem Apart.turn {a b c : List Value} (h : Apart (a ++ b ++ c)) : Apart (a ++ c ++ b) := by
  rw [apart_iff] at h ⊢
  refine (List.Perm.pairwise_iff (fun {x y} q g hy hx => q g hx hy) ?_).1 h
  rw [List.append_assoc, List.append_assoc]
  exact List.Perm.append_left _ List.perm_append_comm
end Go.Proofs.Ytpblpndlajoebaa
