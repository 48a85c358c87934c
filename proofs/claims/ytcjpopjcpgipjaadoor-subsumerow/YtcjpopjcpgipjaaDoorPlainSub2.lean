/-
  Plain words: a clause that says as much as another one; such clauses in a row; the normal clause.
-/
import Derived.Test.YtcjpopjcpgipjaaDoorPlainSub
namespace Go.Proofs.YtcjpopjcpgipjaaDoor
open Go.RowKit
set_option linter.unusedSimpArgs false
set_option linter.unusedVariables false
set_option maxRecDepth 100000

def apL (θ : Nat → List Int) (l : Lt) : Lt := ⟨l.neg, ap θ l.atom⟩
/-- With this for its variables a clause's parts are among the other one's. -/
structure SaysW (ss : List Sym) (c d : Cl) (θ : Nat → List Int) : Prop where
  sub : Sub 24 ss θ
  lits : ∀ l ∈ c.lits, apL θ l ∈ d.lits
  tups : ∀ t ∈ c.tups, ap θ t ∈ d.tups
  conds : ∀ l ∈ c.conds, apL θ l ∈ d.conds
def Says (ss : List Sym) (c d : Cl) : Prop := ∃ θ, SaysW ss c d θ
def mkT (t : List Int) : Lt := ⟨false, t⟩
/-- What has to become one of which, in a row. -/
def itemsC (c : Cl) : List Lt := c.lits ++ (c.tups.map mkT ++ c.conds)
def targC (c d : Cl) : List (List Lt) := List.replicate c.lits.length d.lits ++ (List.replicate c.tups.length (d.tups.map mkT) ++ List.replicate c.conds.length d.conds)
/-- The places. -/
def subO (ss : List Sym) (c d : Cl) : Option (List Nat) := fitP ss (itemsC c) (targC c d) noT
section
variable {ss : List Sym} {θ : Nat → List Int} {xs xs' : List Lt} {ys ys' : List (List Lt)} {y : List Lt} {c d : Cl}
theorem FitR.append : ∀ {xs : List Lt} {ys : List (List Lt)} {p : List Nat} {p' : List Nat}, FitR θ xs ys p → FitR θ xs' ys' p' → ys.length = xs.length → FitR θ (xs ++ xs') (ys ++ ys') (p ++ p')
  | [], [], [], _, _, h', _ => h'
  | [], _ :: _, _, _, _, _, hl => by simp at hl
  | x :: xs, [], _, _, h, _, _ => by cases h
  | x :: xs, y :: ys, [], _, h, _, _ => by cases h
  | x :: xs, y :: ys, j :: p, _, h, h', hl => ⟨h.1, h.2.1, h.2.2.1, FitR.append h.2.2.2 h' (by simpa using hl)⟩
theorem FitR.parts : ∀ {xs : List Lt} {ys : List (List Lt)} {ps : List Nat}, FitR θ (xs ++ xs') (ys ++ ys') ps → ys.length = xs.length → ∃ p p', ps = p ++ p' ∧ FitR θ xs ys p ∧ FitR θ xs' ys' p'
  | [], [], ps, h, _ => ⟨[], ps, rfl, by unfold FitR; trivial, h⟩
  | [], _ :: _, _, _, hl => by simp at hl
  | x :: xs, [], _, _, hl => by simp at hl
  | x :: xs, y :: ys, [], h, _ => by cases h
  | x :: xs, y :: ys, j :: ps, h, hl => by
    obtain ⟨p, p', e, h1, h2⟩ := FitR.parts (xs := xs) (ys := ys) (ps := ps) h.2.2.2 (by simpa using hl)
    exact ⟨j :: p, p', by rw [e]; rfl, ⟨h.1, h.2.1, h.2.2.1, h1⟩, h2⟩
theorem ltAt_apL {x : Lt} (h : apL θ x ∈ y) : ∃ j, j < y.length ∧ (ltAt y j).neg = x.neg ∧ ap θ x.atom = (ltAt y j).atom := by
  obtain ⟨j, hj, e⟩ := mem_ltAt h
  exact ⟨j, hj, by rw [e]; rfl, by rw [e]; rfl⟩
theorem FitR.rep (h : ∀ x ∈ xs, apL θ x ∈ y) : ∃ ps, FitR θ xs (List.replicate xs.length y) ps := by
  induction xs with
  | nil => exact ⟨[], by unfold FitR; trivial⟩
  | cons x xs ih =>
    obtain ⟨ps, hps⟩ := ih fun z hz => h z (List.mem_cons_of_mem _ hz)
    obtain ⟨j, h1, h2, h3⟩ := ltAt_apL (h x (List.mem_cons_self ..))
    exact ⟨j :: ps, h1, h2, h3, hps⟩
theorem FitR.of_rep : ∀ {xs : List Lt} {n : Nat} {ps : List Nat}, FitR θ xs (List.replicate n y) ps → n = xs.length → ∀ x ∈ xs, apL θ x ∈ y
  | [], _, _, _, _, x, hx => by cases hx
  | x :: xs, 0, _, _, hn, _, _ => by simp at hn
  | x :: xs, n + 1, [], h, _, _, _ => by cases h
  | x :: xs, n + 1, j :: ps, h, hn, z, hz => by
    obtain ⟨h1, h2, h3, h4⟩ := h
    rcases List.mem_cons.1 hz with rfl | hz
    · have : apL θ z = ltAt y j := by
        unfold apL; rw [h3, ← h2]
      rw [this]; exact ltAt_mem h1
    · exact FitR.of_rep (n := n) h4 (by simpa using hn) z hz
theorem PatAll.append : ∀ {xs : List Lt} {ys : List (List Lt)}, PatAll ss xs ys → PatAll ss xs' ys' → ys.length = xs.length → PatAll ss (xs ++ xs') (ys ++ ys')
  | [], [], _, h', _ => h'
  | [], _ :: _, _, _, hl => by simp at hl
  | x :: xs, [], _, _, hl => by simp at hl
  | x :: xs, y :: ys, h, h', hl => ⟨h.1, PatAll.append h.2 h' (by simpa using hl)⟩
theorem PatAll.rep (h : ∀ x ∈ xs, ∀ z ∈ y, Pat ss x.atom z.atom) : PatAll ss xs (List.replicate xs.length y) := by
  induction xs with
  | nil => unfold PatAll; trivial
  | cons x xs ih => exact ⟨fun j hj => h x (List.mem_cons_self ..) _ (ltAt_mem hj), ih fun z hz => h z (List.mem_cons_of_mem _ hz)⟩
theorem pat_all (hc : MayC ss c) (hd : MayC ss d) : PatAll ss (itemsC c) (targC c d) := by
  refine PatAll.append (PatAll.rep fun x hx z hz => .inr ⟨hc.lits x hx, hd.lits z hz⟩) (PatAll.append ?_ (PatAll.rep fun x hx z hz => .inr ⟨hc.conds x hx, hd.conds z hz⟩) (by simp)) (by simp)
  have := PatAll.rep (ss := ss) (xs := c.tups.map mkT) (y := d.tups.map mkT) fun x hx z hz => by
    obtain ⟨t, ht, rfl⟩ := List.mem_map.1 hx
    obtain ⟨u, hu, rfl⟩ := List.mem_map.1 hz
    exact .inl ⟨(hc.tups t ht).1, (hd.tups u hu).1⟩
  rwa [List.length_map] at this
theorem fit_says (h : SaysW ss c d θ) : ∃ ps, FitR θ (itemsC c) (targC c d) ps := by
  obtain ⟨p1, h1⟩ := FitR.rep h.lits
  obtain ⟨p2, h2⟩ := FitR.rep (θ := θ) (xs := c.tups.map mkT) (y := d.tups.map mkT) fun x hx => by
    obtain ⟨t, ht, rfl⟩ := List.mem_map.1 hx
    exact List.mem_map.2 ⟨ap θ t, h.tups t ht, rfl⟩
  obtain ⟨p3, h3⟩ := FitR.rep h.conds
  rw [List.length_map] at h2
  exact ⟨_, FitR.append h1 (FitR.append h2 h3 (by simp)) (by simp)⟩
theorem says_fit {ps : List Nat} (hs : Sub 24 ss θ) (h : FitR θ (itemsC c) (targC c d) ps) : SaysW ss c d θ := by
  obtain ⟨p1, q, _, h1, h2⟩ := FitR.parts h (by simp)
  obtain ⟨p2, p3, _, h2, h3⟩ := FitR.parts h2 (by simp)
  refine ⟨hs, FitR.of_rep h1 rfl, fun t ht => ?_, FitR.of_rep h3 rfl⟩
  have := FitR.of_rep h2 (by simp) (mkT t) (List.mem_map_of_mem ht)
  obtain ⟨u, hu, e⟩ := List.mem_map.1 this
  have : u = ap θ t := by
    have := congrArg Lt.atom e
    exact this
  rw [← this]; exact hu
theorem subO_some {ps : List Nat} (hc : MayC ss c) (hd : MayC ss d) (h : subO ss c d = some ps) : Says ss c d := by
  obtain ⟨T, t1, _, t3⟩ := fitP_sound (pat_all hc hd) TOk.no h
  exact ⟨stT T, says_fit (sub_st t1) (t3 _ fun v hv => st_same hv)⟩
theorem subO_there (hc : MayC ss c) (hd : MayC ss d) (h : Says ss c d) : ∃ ps, subO ss c d = some ps := by
  obtain ⟨θ, h⟩ := h
  obtain ⟨qs, hq⟩ := fit_says h
  obtain ⟨ps, h1, _⟩ := fitP_least (T := noT) (pat_all hc hd) h.sub (fun _ => .inl rfl) hq
  exact ⟨ps, h1⟩
theorem subO_none (hc : MayC ss c) (hd : MayC ss d) (h : subO ss c d = none) : ¬ Says ss c d := fun q => by
  obtain ⟨ps, e⟩ := subO_there hc hd q
  rw [h] at e; cases e
end
end Go.Proofs.YtcjpopjcpgipjaaDoor
