/-
  Plain words: clauses, each Lit once, variables in the order in which they come first: no program.
-/
import Derived.Test.YtcjpopjcpgipjaaDoorPlainTop
namespace Go.Proofs.YtcjpopjcpgipjaaDoor
open Go.RowKit
set_option linter.unusedSimpArgs false
set_option linter.unusedVariables false
set_option maxRecDepth 100000

instance : DecidableEq Lt := fun p q => decidable_of_iff (p.neg = q.neg ∧ p.atom = q.atom) ⟨fun h => Lt.ext_ h.1 h.2, fun h => by rw [h]; exact ⟨rfl, rfl⟩⟩
/-- A clause. -/
structure Cl where
  lits : List Lt
  tups : List (List Int)
  conds : List Lt
def rowsC (c : Cl) : List (List Int) := c.lits.map Lt.atom ++ (c.tups ++ c.conds.map Lt.atom)
def codesC (c : Cl) : List Int := (rowsC c).flatten
theorem snoc_ind {α : Type} {P : List α → Prop} (h0 : P []) (h1 : ∀ xs x, P xs → P (xs ++ [x])) (xs : List α) : P xs := by
  have : ∀ ys : List α, P ys.reverse := by
    intro ys
    induction ys with
    | nil => exact h0
    | cons y ys ih => rw [List.reverse_cons]; exact h1 _ _ ih
  have h := this xs.reverse
  rwa [List.reverse_reverse] at h
section once
variable {α β : Type} [DecidableEq α] [DecidableEq β]
/-- x behind those that are there, if it is not among them. -/
def put1st (out : List α) (x : α) : List α := if x ∈ out then out else out ++ [x]
/-- Each once, where it stands first. -/
def once (xs : List α) : List α := xs.foldl put1st []
theorem once_snoc (xs : List α) (x : α) : once (xs ++ [x]) = put1st (once xs) x := by unfold once; rw [List.foldl_append]; rfl
theorem once_nil : once ([] : List α) = [] := rfl
theorem mem_once {xs : List α} {x : α} : x ∈ once xs ↔ x ∈ xs := by
  refine snoc_ind (P := fun xs => ∀ x, x ∈ once xs ↔ x ∈ xs) (fun x => by rw [once_nil]) (fun xs y ih x => ?_) xs x
  rw [once_snoc]
  unfold put1st
  by_cases h : y ∈ once xs
  · rw [if_pos h, ih]
    constructor
    · intro q; exact List.mem_append_left _ q
    · intro q
      rcases List.mem_append.1 q with q | q
      · exact q
      · rw [List.mem_singleton] at q; rw [q]; exact (ih y).1 h
  · rw [if_neg h, List.mem_append, List.mem_append, ih]
theorem once_nodup (xs : List α) : (once xs).Nodup := by
  refine snoc_ind (P := fun xs => (once xs).Nodup) List.nodup_nil (fun xs y ih => ?_) xs
  rw [once_snoc]
  unfold put1st
  by_cases h : y ∈ once xs
  · rw [if_pos h]; exact ih
  · rw [if_neg h, List.nodup_append]
    refine ⟨ih, by simp, fun a ha b hb => ?_⟩
    rw [List.mem_singleton] at hb
    subst hb
    intro e
    subst e
    exact h ha
theorem once_of_nodup {xs : List α} (h : xs.Nodup) : once xs = xs := by
  refine snoc_ind (P := fun xs => xs.Nodup → once xs = xs) (fun _ => rfl) (fun xs y ih h => ?_) xs h
  rw [List.nodup_append] at h
  rw [once_snoc, ih h.1]
  unfold put1st
  rw [if_neg (fun q => h.2.2 y q y (by simp) rfl)]
theorem once_once (xs : List α) : once (once xs) = once xs := once_of_nodup (once_nodup xs)
theorem once_again {xs : List α} {x : α} (h : x ∈ xs) : once (xs ++ [x]) = once xs := by
  rw [once_snoc]; unfold put1st; rw [if_pos (mem_once.2 h)]
theorem once_sub (xs : List α) : (once xs).Sublist xs := by
  refine snoc_ind (P := fun xs => (once xs).Sublist xs) (List.Sublist.refl _) (fun xs y ih => ?_) xs
  rw [once_snoc]
  unfold put1st
  by_cases h : y ∈ once xs
  · rw [if_pos h]; exact ih.trans (List.sublist_append_left _ _)
  · rw [if_neg h]; exact List.Sublist.append ih (List.Sublist.refl _)
theorem once_length (xs : List α) : (once xs).length ≤ xs.length := (once_sub xs).length_le
/-- A function under which no two of them fall together. -/
theorem once_map (f : α → β) (xs : List α) (hf : ∀ x ∈ xs, ∀ y ∈ xs, f x = f y → x = y) : once (xs.map f) = (once xs).map f := by
  refine snoc_ind (P := fun xs => (∀ x ∈ xs, ∀ y ∈ xs, f x = f y → x = y) → once (xs.map f) = (once xs).map f) (fun _ => rfl) (fun xs y ih hf => ?_) xs hf
  have ih' := ih fun a ha b hb => hf a (List.mem_append_left _ ha) b (List.mem_append_left _ hb)
  rw [List.map_append]
  show once (xs.map f ++ [f y]) = _
  rw [once_snoc, once_snoc, ih']
  unfold put1st
  by_cases h : y ∈ once xs
  · rw [if_pos h, if_pos (List.mem_map_of_mem h)]
  · rw [if_neg h, if_neg, List.map_append]; rfl
    intro q
    obtain ⟨z, hz, e⟩ := List.mem_map.1 q
    have hz' := mem_once.1 hz
    have := hf z (List.mem_append_left _ hz') y (List.mem_append_right _ (by simp)) e
    rw [this] at hz
    exact h hz
end once
/-- The variables of a list of codes, as they stand. -/
def vrs (cs : List Int) : List Nat := cs.filterMap fun x => if x < 0 then some (-1 - x).toNat else none
theorem mem_vrs {cs : List Int} {v : Nat} : v ∈ vrs cs ↔ (-1 - (v : Int)) ∈ cs := by
  unfold vrs
  rw [List.mem_filterMap]
  constructor
  · rintro ⟨x, hx, h⟩
    by_cases hx0 : x < 0
    · rw [if_pos hx0] at h
      simp only [Option.some.injEq] at h
      have : -1 - (v : Int) = x := by omega
      rw [this]; exact hx
    · rw [if_neg hx0] at h; cases h
  · intro h
    refine ⟨_, h, ?_⟩
    rw [if_pos (by omega)]
    simp only [Option.some.injEq]
    omega
/-- The variables in the order in which they come first. -/
def firsts (cs : List Int) : List Nat := once (vrs cs)
/-- Other names of variables. -/
def ren (f : Nat → Nat) (x : Int) : Int := if x < 0 then -1 - (f (-1 - x).toNat : Int) else x
def renR (f : Nat → Nat) (r : List Int) : List Int := r.map (ren f)
def renL (f : Nat → Nat) (l : Lt) : Lt := ⟨l.neg, renR f l.atom⟩
def renC (f : Nat → Nat) (c : Cl) : Cl := ⟨c.lits.map (renL f), c.tups.map (renR f), c.conds.map (renL f)⟩
def onceC (c : Cl) : Cl := ⟨once c.lits, once c.tups, once c.conds⟩
/-- The normal clause. -/
def norm (c : Cl) : Cl := renC (fun v => (firsts (codesC (onceC c))).idxOf v) (onceC c)
section
variable {f g : Nat → Nat} {c d : Cl} {cs : List Int}
theorem ren_ren (x : Int) : ren g (ren f x) = ren (fun v => g (f v)) x := by
  unfold ren
  by_cases h : x < 0
  · rw [if_pos h, if_pos h, if_pos (by omega)]
    congr 2
    congr 1
    omega
  · rw [if_neg h, if_neg h, if_neg h]
theorem renR_renR (r : List Int) : renR g (renR f r) = renR (fun v => g (f v)) r := by
  unfold renR; rw [List.map_map]; congr 1; funext x; exact ren_ren x
theorem renL_renL (l : Lt) : renL g (renL f l) = renL (fun v => g (f v)) l := by unfold renL; rw [renR_renR]
theorem renC_renC : renC g (renC f c) = renC (fun v => g (f v)) c := by
  unfold renC
  simp only [List.map_map]
  congr 1
  · congr 1; funext l; exact renL_renL l
  · congr 1; funext l; exact renR_renR l
  · congr 1; funext l; exact renL_renL l
theorem renR_on {r : List Int} (h : ∀ v ∈ vrs r, f v = g v) : renR f r = renR g r := by
  unfold renR
  refine List.map_congr_left fun x hx => ?_
  unfold ren
  by_cases h0 : x < 0
  · have e : -1 - (((-1 - x).toNat : Nat) : Int) = x := by omega
    rw [if_pos h0, if_pos h0, h _ (mem_vrs.2 (by rw [e]; exact hx))]
  · rw [if_neg h0, if_neg h0]
theorem rowsC_ren : rowsC (renC f c) = (rowsC c).map (renR f) := by
  unfold rowsC renC
  simp only [List.map_append, List.map_map]
  rfl
theorem codesC_ren : codesC (renC f c) = renR f (codesC c) := by
  unfold codesC renR; rw [rowsC_ren, List.map_flatten]; rfl
theorem vrs_ren (cs : List Int) : vrs (renR f cs) = (vrs cs).map f := by
  unfold vrs renR
  rw [List.filterMap_map, List.map_filterMap]
  congr 1
  funext x
  simp only [Function.comp]
  unfold ren
  by_cases h : x < 0
  · rw [if_pos h, if_pos (by omega), if_pos h]
    simp only [Option.map_some, Option.some.injEq]
    omega
  · rw [if_neg h, if_neg h]; rfl
/-- Rows of a clause: what holds of their codes. -/
theorem rowC_codes {r : List Int} (h : r ∈ rowsC c) : ∀ x ∈ r, x ∈ codesC c := fun x hx => List.mem_flatten.2 ⟨r, h, hx⟩
theorem lit_row {l : Lt} (h : l ∈ c.lits) : l.atom ∈ rowsC c := List.mem_append_left _ (List.mem_map_of_mem h)
theorem tup_row {t : List Int} (h : t ∈ c.tups) : t ∈ rowsC c := List.mem_append_right _ (List.mem_append_left _ h)
theorem cond_row {l : Lt} (h : l ∈ c.conds) : l.atom ∈ rowsC c := List.mem_append_right _ (List.mem_append_right _ (List.mem_map_of_mem h))
theorem row_vrs {r : List Int} (h : r ∈ rowsC c) {v : Nat} (hv : v ∈ vrs r) : v ∈ vrs (codesC c) := mem_vrs.2 (rowC_codes h _ (mem_vrs.1 hv))
theorem renC_on (h : ∀ v ∈ vrs (codesC c), f v = g v) : renC f c = renC g c := by
  unfold renC
  congr 1
  · refine List.map_congr_left fun l hl => ?_
    unfold renL; rw [renR_on fun v hv => h v (row_vrs (lit_row hl) hv)]
  · exact List.map_congr_left fun t ht => renR_on fun v hv => h v (row_vrs (tup_row ht) hv)
  · refine List.map_congr_left fun l hl => ?_
    unfold renL; rw [renR_on fun v hv => h v (row_vrs (cond_row hl) hv)]
theorem renR_id (r : List Int) : renR (fun v => v) r = r := by
  unfold renR
  rw [List.map_congr_left (g := id), List.map_id]
  intro x _
  unfold ren
  by_cases h : x < 0
  · rw [if_pos h]; show -1 - (((-1 - x).toNat : Nat) : Int) = x; omega
  · rw [if_neg h]; rfl
theorem renC_id : renC (fun v => v) c = c := by
  unfold renC
  have h1 : renL (fun v => v) = id := by funext l; unfold renL; rw [renR_id]; rfl
  have h2 : renR (fun v => v) = id := by funext r; rw [renR_id]; rfl
  rw [h1, h2, List.map_id, List.map_id, List.map_id]
/-- Names under which no two variables fall together keep rows apart. -/
theorem renR_inj {r s : List Int} (hi : ∀ v ∈ vrs r, ∀ u ∈ vrs s, f v = f u → v = u) (h : renR f r = renR f s) : r = s := by
  induction r generalizing s with
  | nil => cases s with
    | nil => rfl
    | cons y s => cases h
  | cons x r ih => cases s with
    | nil => cases h
    | cons y s =>
      unfold renR at h
      rw [List.map_cons, List.map_cons] at h
      injection h with h1 h2
      have hr : ∀ v ∈ vrs r, v ∈ vrs (x :: r) := fun v hv => mem_vrs.2 (List.mem_cons_of_mem _ (mem_vrs.1 hv))
      have hs : ∀ v ∈ vrs s, v ∈ vrs (y :: s) := fun v hv => mem_vrs.2 (List.mem_cons_of_mem _ (mem_vrs.1 hv))
      rw [ih (fun v hv u hu => hi v (hr v hv) u (hs u hu)) h2]
      congr 1
      unfold ren at h1
      by_cases hx : x < 0
      · rw [if_pos hx] at h1
        by_cases hy : y < 0
        · rw [if_pos hy] at h1
          have hxx : -1 - (((-1 - x).toNat : Nat) : Int) = x := by omega
          have hyy : -1 - (((-1 - y).toNat : Nat) : Int) = y := by omega
          have := hi (-1 - x).toNat (mem_vrs.2 (by rw [hxx]; exact List.mem_cons_self ..)) (-1 - y).toNat (mem_vrs.2 (by rw [hyy]; exact List.mem_cons_self ..)) (by omega)
          omega
        · rw [if_neg hy] at h1; omega
      · rw [if_neg hx] at h1
        by_cases hy : y < 0
        · rw [if_pos hy] at h1; omega
        · rw [if_neg hy] at h1; exact h1
theorem onceC_ren (hi : ∀ v ∈ vrs (codesC c), ∀ u ∈ vrs (codesC c), f v = f u → v = u) : onceC (renC f c) = renC f (onceC c) := by
  have hL : ∀ a b : Lt, a.atom ∈ rowsC c → b.atom ∈ rowsC c → renL f a = renL f b → a = b := by
    intro a b ha hb h
    unfold renL at h
    injection h with h1 h2
    exact Lt.ext_ h1 (renR_inj (fun v hv u hu => hi v (row_vrs ha hv) u (row_vrs hb hu)) h2)
  unfold onceC
  show Cl.mk (once (c.lits.map (renL f))) (once (c.tups.map (renR f))) (once (c.conds.map (renL f))) = _
  rw [once_map _ _ (fun a ha b hb h => hL a b (lit_row ha) (lit_row hb) h), once_map _ _ (fun a ha b hb h => hL a b (cond_row ha) (cond_row hb) h),
    once_map _ _ (fun a ha b hb h => renR_inj (fun v hv u hu => hi v (row_vrs (tup_row ha) hv) u (row_vrs (tup_row hb) hu)) h)]
  rfl
theorem onceC_once : onceC (onceC c) = onceC c := by unfold onceC; simp only [once_once]
theorem once_rows {r : List Int} (h : r ∈ rowsC (onceC c)) : r ∈ rowsC c := by
  unfold rowsC onceC at *
  rcases List.mem_append.1 h with h | h
  · obtain ⟨l, hl, e⟩ := List.mem_map.1 h
    exact List.mem_append_left _ (List.mem_map.2 ⟨l, mem_once.1 hl, e⟩)
  · rcases List.mem_append.1 h with h | h
    · exact List.mem_append_right _ (List.mem_append_left _ (mem_once.1 h))
    · obtain ⟨l, hl, e⟩ := List.mem_map.1 h
      exact List.mem_append_right _ (List.mem_append_right _ (List.mem_map.2 ⟨l, mem_once.1 hl, e⟩))
theorem rows_once {r : List Int} (h : r ∈ rowsC c) : r ∈ rowsC (onceC c) := by
  unfold rowsC onceC at *
  rcases List.mem_append.1 h with h | h
  · obtain ⟨l, hl, e⟩ := List.mem_map.1 h
    exact List.mem_append_left _ (List.mem_map.2 ⟨l, mem_once.2 hl, e⟩)
  · rcases List.mem_append.1 h with h | h
    · exact List.mem_append_right _ (List.mem_append_left _ (mem_once.2 h))
    · obtain ⟨l, hl, e⟩ := List.mem_map.1 h
      exact List.mem_append_right _ (List.mem_append_right _ (List.mem_map.2 ⟨l, mem_once.2 hl, e⟩))
theorem codes_once {x : Int} : x ∈ codesC (onceC c) ↔ x ∈ codesC c := by
  unfold codesC
  rw [List.mem_flatten, List.mem_flatten]
  exact ⟨fun ⟨r, h, hx⟩ => ⟨r, once_rows h, hx⟩, fun ⟨r, h, hx⟩ => ⟨r, rows_once h, hx⟩⟩
theorem vrs_once {v : Nat} : v ∈ vrs (codesC (onceC c)) ↔ v ∈ vrs (codesC c) := by rw [mem_vrs, mem_vrs, codes_once]
/-- The place of a variable in the order. -/
def plc (c : Cl) (v : Nat) : Nat := (firsts (codesC (onceC c))).idxOf v
theorem plc_inj {v u : Nat} (hv : v ∈ vrs (codesC c)) (hu : u ∈ vrs (codesC c)) (h : plc c v = plc c u) : v = u := by
  have hv' : v ∈ firsts (codesC (onceC c)) := mem_once.2 (vrs_once.2 hv)
  have hu' : u ∈ firsts (codesC (onceC c)) := mem_once.2 (vrs_once.2 hu)
  unfold plc at h
  have h1 := List.getElem_idxOf (List.idxOf_lt_length_of_mem hv')
  have h2 := List.getElem_idxOf (List.idxOf_lt_length_of_mem hu')
  rw [← h1, ← h2]
  congr 1
theorem plc_lt {v : Nat} (hv : v ∈ vrs (codesC c)) : plc c v < (firsts (codesC (onceC c))).length := List.idxOf_lt_length_of_mem (mem_once.2 (vrs_once.2 hv))
theorem norm_eq : norm c = renC (plc c) (onceC c) := rfl
theorem once_norm : onceC (norm c) = norm c := by
  rw [norm_eq, onceC_ren (fun v hv u hu h => plc_inj (vrs_once.1 hv) (vrs_once.1 hu) h), onceC_once]
theorem idx_range : ∀ (s : List Nat), s.Nodup → s.map (fun v => s.idxOf v) = List.range s.length := by
  intro s hs
  apply List.ext_getElem?
  intro i
  rw [List.getElem?_map]
  by_cases hi : i < s.length
  · rw [List.getElem?_eq_getElem hi, List.getElem?_range hi]
    simp only [Option.map_some, Option.some.injEq]
    exact List.Nodup.idxOf_getElem hs i hi
  · rw [List.getElem?_eq_none (by omega), List.getElem?_eq_none (by simp; omega)]; rfl
theorem firsts_norm : firsts (codesC (norm c)) = List.range (firsts (codesC (onceC c))).length := by
  rw [norm_eq, codesC_ren]
  unfold firsts
  rw [vrs_ren, once_map _ _ (fun v hv u hu h => plc_inj (vrs_once.1 hv) (vrs_once.1 hu) h)]
  exact idx_range _ (once_nodup _)
theorem idx_of_range {n v : Nat} (h : v < n) : (List.range n).idxOf v = v := by
  have := List.Nodup.idxOf_getElem (List.nodup_range (n := n)) v (by simpa using h)
  simpa using this
/-- A normal clause is its own normal one. -/
theorem norm_norm : norm (norm c) = norm c := by
  rw [norm_eq, once_norm]
  have : renC (plc (norm c)) (norm c) = renC (fun v => v) (norm c) := by
    refine renC_on fun v hv => ?_
    unfold plc
    rw [once_norm, firsts_norm]
    refine idx_of_range ?_
    have h1 : v ∈ firsts (codesC (norm c)) := mem_once.2 hv
    rw [firsts_norm] at h1
    simpa using h1
  rw [this, renC_id]
theorem idx_map (f : Nat → Nat) (s : List Nat) {v : Nat} (hv : v ∈ s) (hi : ∀ u ∈ s, f u = f v → u = v) : (s.map f).idxOf (f v) = s.idxOf v := by
  induction s with
  | nil => cases hv
  | cons u s ih =>
    rw [List.map_cons, List.idxOf_cons, List.idxOf_cons]
    by_cases e : u = v
    · subst e; simp
    · have e' : f u ≠ f v := fun q => e (hi u (List.mem_cons_self ..) q)
      have hv' : v ∈ s := by
        rcases List.mem_cons.1 hv with h | h
        · exact absurd h.symm e
        · exact h
      have b1 : (f u == f v) = false := by simpa using e'
      have b2 : (u == v) = false := by simpa using e
      rw [b1, b2, ih hv' (fun x hx => hi x (List.mem_cons_of_mem _ hx))]
/-- Other names of variables leave the normal clause as it is. -/
theorem norm_names (hi : ∀ v ∈ vrs (codesC c), ∀ u ∈ vrs (codesC c), f v = f u → v = u) : norm (renC f c) = norm c := by
  rw [norm_eq, norm_eq, onceC_ren hi, renC_renC]
  refine renC_on fun v hv => ?_
  have hv0 := vrs_once.1 hv
  unfold plc
  rw [onceC_ren hi, codesC_ren]
  unfold firsts
  rw [vrs_ren, once_map _ _ (fun a ha b hb h => hi a (vrs_once.1 ha) b (vrs_once.1 hb) h)]
  exact idx_map f _ (mem_once.2 hv) (fun u hu h => hi u (vrs_once.1 (mem_once.1 hu)) v hv0 h)
/-- A Lit that stands twice leaves it, too. -/
theorem norm_twice {l : Lt} (h : l ∈ c.lits) : norm ⟨c.lits ++ [l], c.tups, c.conds⟩ = norm c := by
  have e : onceC ⟨c.lits ++ [l], c.tups, c.conds⟩ = onceC c := by unfold onceC; rw [once_again h]
  unfold norm
  rw [e]
end
end Go.Proofs.YtcjpopjcpgipjaaDoor
