/-
  Plain words: a hash table of facts with linear probing; Put and Cut keep it valid. No program.
-/
import Derived.Test.YthnjpkghjkhjdaaPlainCl
namespace Go.Proofs.Ythnjpkghjkhjdaa
set_option linter.unusedSimpArgs false
set_option linter.unusedVariables false

structure Tb where
  slots : List Int
  facts : List (List Int)
def hashF (a : List Int) : Nat := a.foldl (fun h c => (h * 31 + c.toNat + 1) % 1009) 7
/-- What slot i tells. -/
def slAt (t : Tb) (i : Nat) : Int := t.slots.getD i 0
def fcAt (t : Tb) (k : Nat) : List Int := t.facts.getD k []
/-- The slot d steps behind the one that a fact's Hash names. -/
def atF (a : List Int) (d : Nat) : Nat := (hashF a + d) % 32
/-- A valid table (F: what is a fact). -/
structure TabOk (F : List Int → Bool) (t : Tb) : Prop where
  len : t.slots.length = 32
  few : t.facts.length ≤ 24
  fact : ∀ a ∈ t.facts, F a = true
  one : t.facts.Nodup
  rng : ∀ i, i < 32 → -2 ≤ slAt t i ∧ slAt t i < t.facts.length
  some_ : ∀ k, k < t.facts.length → ∃ i, i < 32 ∧ slAt t i = k
  only : ∀ i j, i < 32 → j < 32 → slAt t i = slAt t j → 0 ≤ slAt t i → i = j
  way : ∀ k i, k < t.facts.length → i < 32 → slAt t i = k → ∀ d, (∀ e, e ≤ d → atF (fcAt t k) e ≠ i) → slAt t (atF (fcAt t k) d) ≠ -1
def newT : Tb := ⟨List.replicate 32 (-1), []⟩
theorem atF_lt {a : List Int} {d : Nat} : atF a d < 32 := Nat.mod_lt _ (by omega)
theorem slAt_set {t : Tb} {i j : Nat} {v : Int} {fs : List (List Int)} (hl : t.slots.length = 32) (hi : i < 32) : slAt ⟨t.slots.set i v, fs⟩ j = if i = j then v else slAt t j := by
  unfold slAt
  show (t.slots.set i v).getD j 0 = _
  rw [List.getD_eq_getElem?_getD, List.getElem?_set]
  by_cases h : i = j
  · rw [if_pos h, if_pos (by omega), if_pos h]; rfl
  · rw [if_neg h, if_neg h, List.getD_eq_getElem?_getD]
theorem newT_ok {F : List Int → Bool} : TabOk F newT := by
  have h : ∀ i, i < 32 → slAt newT i = -1 := fun i hi => by
    unfold slAt newT
    rw [List.getD_eq_getElem?_getD, List.getElem?_replicate, if_pos hi]; rfl
  refine ⟨rfl, by show 0 ≤ 24; omega, fun a h => (by cases h), List.nodup_nil, fun i hi => ?_, fun k hk => absurd hk (Nat.not_lt_zero _), fun i j hi hj _ h0 => ?_, fun k i hk => absurd hk (Nat.not_lt_zero _)⟩
  · rw [h i hi]; constructor
    · omega
    · show (-1 : Int) < ((0 : Nat) : Int); omega
  · rw [h i hi] at h0; omega
section
variable {F : List Int → Bool} {t : Tb} {a : List Int} {k d : Nat}
/-- a is put into the slot d steps behind its Hash. -/
def putT (t : Tb) (a : List Int) (d : Nat) : Tb := ⟨t.slots.set (atF a d) t.facts.length, t.facts ++ [a]⟩
theorem fcAt_put (h : k < t.facts.length) : fcAt (putT t a d) k = fcAt t k := by
  unfold fcAt putT
  rw [List.getD_eq_getElem?_getD, List.getD_eq_getElem?_getD, List.getElem?_append_left h]
theorem fcAt_put_last : fcAt (putT t a d) t.facts.length = a := by
  unfold fcAt putT
  rw [List.getD_eq_getElem?_getD, List.getElem?_append_right (Nat.le_refl _), Nat.sub_self]; rfl
theorem slAt_put {j : Nat} (hl : t.slots.length = 32) : slAt (putT t a d) j = if atF a d = j then (t.facts.length : Int) else slAt t j := slAt_set hl atF_lt
/-- Put keeps a table valid. -/
theorem TabOk.put (h : TabOk F t) (ha : F a = true) (hn : a ∉ t.facts) (hf : t.facts.length < 24) (hd : slAt t (atF a d) < 0) (hb : ∀ e, e < d → 0 ≤ slAt t (atF a e)) : TabOk F (putT t a d) := by
  have hlen : (putT t a d).facts.length = t.facts.length + 1 := by unfold putT; simp
  refine ⟨by unfold putT; simp [h.len], by rw [hlen]; omega, fun b hb => ?_, ?_, fun i hi => ?_, fun k hk => ?_, fun i j hi hj e h0 => ?_, fun k i hk hi e d' hw => ?_⟩
  · unfold putT at hb
    rcases List.mem_append.1 hb with q | q
    · exact h.fact b q
    · rw [List.mem_singleton.1 q]; exact ha
  · unfold putT
    refine List.nodup_append.2 ⟨h.one, by simp, fun x hx y hy e => ?_⟩
    rw [List.mem_singleton.1 hy] at e
    exact hn (e ▸ hx)
  · rw [slAt_put h.len, hlen]
    have := h.rng i hi
    split <;> omega
  · rw [hlen] at hk
    by_cases q : k = t.facts.length
    · exact ⟨_, atF_lt, by rw [slAt_put h.len, if_pos rfl, q]⟩
    · obtain ⟨i, hi, e⟩ := h.some_ k (by omega)
      refine ⟨i, hi, ?_⟩
      rw [slAt_put h.len, if_neg (fun z => ?_), e]
      rw [z, e] at hd; omega
  · rw [slAt_put h.len] at e h0
    rw [slAt_put h.len] at e
    have ri := h.rng i hi
    have rj := h.rng j hj
    by_cases q1 : atF a d = i
    · by_cases q2 : atF a d = j
      · rw [← q1, ← q2]
      · rw [if_pos q1, if_neg q2] at e; omega
    · by_cases q2 : atF a d = j
      · rw [if_neg q1, if_pos q2] at e; omega
      · rw [if_neg q1, if_neg q2] at e
        rw [if_neg q1] at h0
        exact h.only i j hi hj e h0
  · rw [slAt_put h.len] at e
    rw [hlen] at hk
    by_cases q : k = t.facts.length
    · rw [q, fcAt_put_last] at hw ⊢
      rw [slAt_put h.len]
      have hi2 : atF a d = i := by
        by_cases z : atF a d = i
        · exact z
        · rw [if_neg z] at e
          have := h.rng i hi
          omega
      have hlt : d' < d := by
        rcases Nat.lt_or_ge d' d with z | z
        · exact z
        · exact absurd hi2 (hw d z)
      have := hb d' hlt
      split <;> omega
    · have hk' : k < t.facts.length := by omega
      rw [fcAt_put hk'] at hw ⊢
      have e2 : slAt t i = k := by
        by_cases z : atF a d = i
        · rw [if_pos z] at e; omega
        · rwa [if_neg z] at e
      have := h.way k i hk' hi e2 d' hw
      rw [slAt_put h.len]
      split
      · omega
      · exact this
theorem atF_inv (a : List Int) {i : Nat} (hi : i < 32) : ∃ d, d < 32 ∧ atF a d = i := by
  refine ⟨(i + 32 - hashF a % 32) % 32, by omega, ?_⟩
  unfold atF
  omega
theorem least_nat {P : Nat → Prop} (h : ∃ d, P d) : ∃ d, P d ∧ ∀ e, e < d → ¬ P e := by
  obtain ⟨d, hd⟩ := h
  induction d using Nat.strongRecOn with
  | ind d ih =>
    by_cases q : ∃ e, e < d ∧ P e
    · obtain ⟨e, he, hp⟩ := q
      exact ih e he hp
    · exact ⟨d, hd, fun e he hp => q ⟨e, he, hp⟩⟩
/-- There is always a slot for one more. -/
theorem TabOk.there (h : TabOk F t) (a : List Int) : ∃ d, d < 32 ∧ slAt t (atF a d) < 0 ∧ ∀ e, e < d → 0 ≤ slAt t (atF a e) := by
  have hex : ∃ d, slAt t (atF a d) < 0 := by
    apply Classical.byContradiction
    intro q
    have hall : ∀ i, i < 32 → 0 ≤ slAt t i := fun i hi => by
      obtain ⟨d, _, e⟩ := atF_inv a hi
      rcases Int.lt_or_le (slAt t i) 0 with z | z
      · exact absurd ⟨d, by rw [e]; exact z⟩ q
      · exact z
    have hnd : ((List.range 32).map fun i => (slAt t i).toNat).Nodup := by
      refine List.pairwise_iff_getElem.2 fun i j hi hj hij e => ?_
      simp only [List.length_map, List.length_range] at hi hj
      simp only [List.getElem_map, List.getElem_range] at e
      have h1 := hall i hi
      have h2 := hall j hj
      have := h.only i j hi hj (by omega) h1
      omega
    have := nodup_lt_length (n := t.facts.length) hnd (fun v hv => by
      obtain ⟨i, hi, rfl⟩ := List.mem_map.1 hv
      have h0 := hall i (List.mem_range.1 hi)
      have := (h.rng i (List.mem_range.1 hi)).2
      omega)
    rw [List.length_map, List.length_range] at this
    have := h.few
    omega
  obtain ⟨d, hd, hb⟩ := least_nat hex
  have hb' : ∀ e, e < d → 0 ≤ slAt t (atF a e) := fun e he => by
    rcases Int.lt_or_le (slAt t (atF a e)) 0 with z | z
    · exact absurd z (hb e he)
    · exact z
  refine ⟨d, ?_, hd, hb'⟩
  rcases Nat.lt_or_ge d 32 with z | z
  · exact z
  · have := hb' (d - 32) (by omega)
    have e : atF a (d - 32) = atF a d := by unfold atF; omega
    rw [e] at this
    omega
/-- Of fact k the slot is p, of the last one q: k is taken out. -/
def cutT (t : Tb) (k p q : Nat) : Tb := ⟨(t.slots.set q (k : Int)).set p (-2), (t.facts.set k (fcAt t (t.facts.length - 1))).dropLast⟩
theorem slAt_cut {p q j : Nat} (hl : t.slots.length = 32) (hp : p < 32) (hq : q < 32) : slAt (cutT t k p q) j = if p = j then -2 else if q = j then (k : Int) else slAt t j := by
  have h1 := slAt_set (t := ⟨t.slots.set q (k : Int), []⟩) (i := p) (j := j) (v := -2) (fs := (cutT t k p q).facts) (by simp [hl]) hp
  have h2 := slAt_set (t := t) (i := q) (j := j) (v := (k : Int)) (fs := []) hl hq
  rw [h2] at h1
  exact h1
theorem fcAt_cut {p q j : Nat} (hj : j < t.facts.length - 1) : fcAt (cutT t k p q) j = if j = k then fcAt t (t.facts.length - 1) else fcAt t j := by
  unfold fcAt cutT
  rw [List.getD_eq_getElem?_getD, List.getElem?_dropLast, if_pos (by simpa using hj), List.getElem?_set]
  by_cases e : k = j
  · rw [if_pos e, if_pos e.symm, if_pos (by omega)]; rfl
  · rw [if_neg e, if_neg (fun z => e z.symm), List.getD_eq_getElem?_getD]
theorem cut_len {p q : Nat} : (cutT t k p q).facts.length = t.facts.length - 1 := by unfold cutT; simp
theorem fcAt_mem (h : k < t.facts.length) : fcAt t k ∈ t.facts := by
  unfold fcAt
  rw [List.getD_eq_getElem?_getD, List.getElem?_eq_getElem h]
  exact List.getElem_mem h
theorem mem_fcAt (h : a ∈ t.facts) : ∃ k, k < t.facts.length ∧ fcAt t k = a := by
  obtain ⟨k, hk, e⟩ := List.mem_iff_getElem.1 h
  refine ⟨k, hk, ?_⟩
  unfold fcAt
  rw [List.getD_eq_getElem?_getD, List.getElem?_eq_getElem hk]
  exact e
theorem nodup_fc : t.facts.Nodup ↔ ∀ i j, i < t.facts.length → j < t.facts.length → fcAt t i = fcAt t j → i = j := by
  have g : ∀ i (hi : i < t.facts.length), t.facts[i] = fcAt t i := fun i hi => by
    unfold fcAt
    rw [List.getD_eq_getElem?_getD, List.getElem?_eq_getElem hi]; rfl
  constructor
  · intro h i j hi hj e
    have hp := List.pairwise_iff_getElem.1 h
    rcases Nat.lt_trichotomy i j with q | q | q
    · exact absurd (by rw [g i hi, g j hj, e]) (hp i j hi hj q)
    · exact q
    · exact absurd (by rw [g i hi, g j hj, e]) (hp j i hj hi q)
  · intro h
    refine List.pairwise_iff_getElem.2 fun i j hi hj hij e => ?_
    have := h i j hi hj (by rw [← g i hi, ← g j hj, e])
    omega
/-- Cut keeps a table valid. -/
theorem TabOk.cut {p q : Nat} (h : TabOk F t) (hk : k < t.facts.length) (hp : p < 32) (hq : q < 32) (ep : slAt t p = k) (eq : slAt t q = (t.facts.length - 1 : Nat)) : TabOk F (cutT t k p q) := by
  have hlen := cut_len (t := t) (k := k) (p := p) (q := q)
  have one := nodup_fc.1 h.one
  refine ⟨by unfold cutT; simp [h.len], by rw [hlen]; have := h.few; omega, fun b hb => ?_, nodup_fc.2 fun i j hi hj e => ?_, fun i hi => ?_, fun j hj => ?_, fun i j hi hj e h0 => ?_, fun j i hj hi e d' hw => ?_⟩
  · obtain ⟨j, hj, rfl⟩ := mem_fcAt hb
    rw [hlen] at hj
    rw [fcAt_cut hj]
    split
    · exact h.fact _ (fcAt_mem (by omega))
    · exact h.fact _ (fcAt_mem (by omega))
  · rw [hlen] at hi hj
    rw [fcAt_cut hi, fcAt_cut hj] at e
    by_cases z1 : i = k
    · by_cases z2 : j = k
      · omega
      · rw [if_pos z1, if_neg z2] at e
        have := one _ _ (by omega) (by omega) e
        omega
    · by_cases z2 : j = k
      · rw [if_neg z1, if_pos z2] at e
        have := one _ _ (by omega) (by omega) e
        omega
      · rw [if_neg z1, if_neg z2] at e
        exact one _ _ (by omega) (by omega) e
  · rw [slAt_cut h.len hp hq, hlen]
    have := h.rng i hi
    by_cases z1 : p = i
    · rw [if_pos z1]; omega
    · rw [if_neg z1]
      by_cases z2 : q = i
      · rw [if_pos z2]
        have : k ≠ t.facts.length - 1 := fun w => z1 (by
          have := h.only p q hp hq (by rw [ep, eq, w]) (by rw [ep]; omega)
          omega)
        omega
      · rw [if_neg z2]
        have : slAt t i ≠ (t.facts.length - 1 : Nat) := fun w => z2 (h.only q i hq hi (by rw [eq, w]) (by rw [eq]; omega))
        omega
  · rw [hlen] at hj
    by_cases z : j = k
    · refine ⟨q, hq, ?_⟩
      rw [slAt_cut h.len hp hq, if_neg (fun w => ?_), if_pos rfl, z]
      rw [w, eq] at ep; omega
    · obtain ⟨i, hi, e⟩ := h.some_ j (by omega)
      refine ⟨i, hi, ?_⟩
      rw [slAt_cut h.len hp hq, if_neg (fun w => ?_), if_neg (fun w => ?_), e]
      all_goals first
        | (rw [w, e] at ep; omega)
        | (rw [w, e] at eq; omega)
  · rw [slAt_cut h.len hp hq] at e h0
    rw [slAt_cut h.len hp hq] at e
    by_cases z1 : p = i
    · rw [if_pos z1] at h0; omega
    · rw [if_neg z1] at h0 e
      by_cases z2 : p = j
      · rw [if_pos z2] at e
        omega
      · rw [if_neg z2] at e
        by_cases z3 : q = i
        · by_cases z4 : q = j
          · omega
          · rw [if_pos z3, if_neg z4] at e
            exact absurd (h.only p j hp hj (by rw [ep, e]) (by rw [ep]; omega)) z2
        · by_cases z4 : q = j
          · rw [if_neg z3, if_pos z4] at e
            exact absurd (h.only p i hp hi (by rw [ep, e]) (by rw [ep]; omega)) z1
          · rw [if_neg z3, if_neg z4] at e
            rw [if_neg z3] at h0
            exact h.only i j hi hj e h0
  · rw [hlen] at hj
    rw [slAt_cut h.len hp hq] at e
    rw [fcAt_cut hj] at hw ⊢
    rw [slAt_cut h.len hp hq]
    have key : slAt t (atF (if j = k then fcAt t (t.facts.length - 1) else fcAt t j) d') ≠ -1 := by
      by_cases z : j = k
      · rw [if_pos z] at hw ⊢
        have hi2 : q = i := by
          apply Classical.byContradiction
          intro w
          rw [if_neg w] at e
          by_cases w2 : p = i
          · rw [if_pos w2] at e; omega
          · rw [if_neg w2] at e
            exact w2 (h.only p i hp hi (by rw [ep, e, z]) (by rw [ep]; omega))
        exact h.way _ i (by omega) hi (by rw [← hi2, eq]) d' hw
      · rw [if_neg z] at hw ⊢
        have e2 : slAt t i = j := by
          by_cases w2 : p = i
          · rw [if_pos w2] at e; omega
          · rw [if_neg w2] at e
            by_cases w : q = i
            · rw [if_pos w] at e; omega
            · rwa [if_neg w] at e
        exact h.way j i (by omega) hi e2 d' hw
    revert key
    generalize atF (if j = k then fcAt t (t.facts.length - 1) else fcAt t j) d' = m
    intro key
    split
    · omega
    · split
      · omega
      · exact key
end
/-- The slots that tell of a fact. -/
def takenT (t : Tb) : List Nat := (List.range 32).filter fun i => decide (0 ≤ slAt t i)
section
variable {t : Tb}
theorem taken_mem {i : Nat} : i ∈ takenT t ↔ i < 32 ∧ 0 ≤ slAt t i := by
  unfold takenT
  rw [List.mem_filter, List.mem_range, decide_eq_true_eq]
theorem taken_nodup : (takenT t).Nodup := by
  unfold takenT
  exact List.Pairwise.sublist List.filter_sublist List.nodup_range
/-- Each index is told of once just if as many slots as there are facts tell of one. -/
theorem taken_iff (hr : ∀ i, i < 32 → -2 ≤ slAt t i ∧ slAt t i < t.facts.length) (hs : ∀ k, k < t.facts.length → ∃ i, i < 32 ∧ slAt t i = k) :
    (takenT t).length = t.facts.length ↔ ∀ i j, i < 32 → j < 32 → slAt t i = slAt t j → 0 ≤ slAt t i → i = j := by
  have hcover : t.facts.length ≤ (takenT t).length := by
    have := nodup_sub_length (s := List.range t.facts.length) (t := (takenT t).map fun i => (slAt t i).toNat) List.nodup_range (fun k hk => by
      obtain ⟨i, hi, e⟩ := hs k (List.mem_range.1 hk)
      exact List.mem_map.2 ⟨i, taken_mem.2 ⟨hi, by omega⟩, by omega⟩)
    rwa [List.length_range, List.length_map] at this
  constructor
  · intro hl i j hi hj e h0
    apply Classical.byContradiction
    intro hne
    have hj' : j ∈ takenT t := taken_mem.2 ⟨hj, by omega⟩
    have := nodup_sub_length (s := List.range t.facts.length) (t := ((takenT t).erase j).map fun i => (slAt t i).toNat) List.nodup_range (fun k hk => by
      obtain ⟨m, hm, em⟩ := hs k (List.mem_range.1 hk)
      by_cases q : m = j
      · refine List.mem_map.2 ⟨i, (List.mem_erase_of_ne hne).2 (taken_mem.2 ⟨hi, h0⟩), ?_⟩
        show (slAt t i).toNat = k
        rw [q] at em
        omega
      · exact List.mem_map.2 ⟨m, (List.mem_erase_of_ne q).2 (taken_mem.2 ⟨hm, by omega⟩), by show (slAt t m).toNat = k; omega⟩)
    rw [List.length_range, List.length_map, List.length_erase_of_mem hj'] at this
    have hp : 0 < (takenT t).length := List.length_pos_of_mem hj'
    omega
  · intro ho
    have hnd : ((takenT t).map fun i => (slAt t i).toNat).Nodup := by
      refine List.pairwise_map.2 (List.Pairwise.imp_of_mem ?_ taken_nodup)
      intro i j hi hj hne e
      obtain ⟨i1, i2⟩ := taken_mem.1 hi
      obtain ⟨j1, j2⟩ := taken_mem.1 hj
      exact hne (ho i j i1 j1 (by omega) i2)
    have := nodup_lt_length (n := t.facts.length) hnd (fun v hv => by
      obtain ⟨i, hi, rfl⟩ := List.mem_map.1 hv
      obtain ⟨i1, i2⟩ := taken_mem.1 hi
      have := (hr i i1).2
      omega)
    rw [List.length_map] at this
    omega
end
section
variable {F : List Int → Bool} {t : Tb} {a : List Int} {k d p q : Nat}
/-- A table with one slot told otherwise is none. -/
theorem TabOk.spoilt {m : Nat} {v : Int} (h : TabOk F t) (hm : m < 32) (hv : v ≠ slAt t m) (hn : ¬ (v < 0 ∧ slAt t m < 0)) : ¬ TabOk F ⟨t.slots.set m v, t.facts⟩ := by
  intro h'
  have hs : ∀ j, slAt ⟨t.slots.set m v, t.facts⟩ j = if m = j then v else slAt t j := fun j => slAt_set h.len hm
  have rm := h.rng m hm
  by_cases h0 : 0 ≤ slAt t m
  · obtain ⟨i, hi, e⟩ := h'.some_ (slAt t m).toNat (by show _ < t.facts.length; omega)
    rw [hs] at e
    by_cases z : m = i
    · rw [if_pos z] at e; omega
    · rw [if_neg z] at e
      exact z (h.only m i hm hi (by omega) h0)
  · have hv0 : 0 ≤ v := by
      rcases Int.lt_or_le v 0 with z | z
      · exact absurd ⟨z, by omega⟩ hn
      · exact z
    have rv := h'.rng m hm
    rw [hs, if_pos rfl] at rv
    have rv2 : v < (t.facts.length : Int) := rv.2
    obtain ⟨i, hi, e⟩ := h.some_ v.toNat (by omega)
    have hne : m ≠ i := fun z => by rw [← z] at e; omega
    have := h'.only m i hm hi (by rw [hs, hs, if_pos rfl, if_neg hne]; omega) (by rw [hs, if_pos rfl]; exact hv0)
    exact hne this
/-- What is put in and taken out again leaves the facts that were. -/
theorem cut_put : (cutT (putT t a d) t.facts.length p q).facts = t.facts := by
  unfold cutT putT
  show ((t.facts ++ [a]).set t.facts.length _).dropLast = t.facts
  rw [List.set_append_right _ _ (Nat.le_refl _), Nat.sub_self]
  simp
theorem mem_put {b : List Int} : b ∈ (putT t a d).facts ↔ b ∈ t.facts ∨ b = a := by
  unfold putT
  simp
/-- What is left when fact k is taken out: all the others. -/
theorem TabOk.mem_cut {b : List Int} (h : TabOk F t) (hk : k < t.facts.length) : b ∈ (cutT t k p q).facts ↔ b ∈ t.facts ∧ b ≠ fcAt t k := by
  have one := nodup_fc.1 h.one
  constructor
  · intro hb
    obtain ⟨j, hj, rfl⟩ := mem_fcAt hb
    rw [cut_len] at hj
    rw [fcAt_cut hj]
    split
    · rename_i z
      exact ⟨fcAt_mem (by omega), fun e => by have := one _ _ (by omega) hk e; omega⟩
    · rename_i z
      exact ⟨fcAt_mem (by omega), fun e => z (one _ _ (by omega) hk e)⟩
  · rintro ⟨hb, hne⟩
    obtain ⟨j, hj, rfl⟩ := mem_fcAt hb
    have hjk : j ≠ k := fun e => hne (by rw [e])
    have hl := cut_len (t := t) (k := k) (p := p) (q := q)
    by_cases z : j = t.facts.length - 1
    · have hk2 : k < t.facts.length - 1 := by omega
      have e := fcAt_cut (t := t) (k := k) (p := p) (q := q) hk2
      rw [if_pos rfl, ← z] at e
      rw [← e]
      exact fcAt_mem (by rw [hl]; exact hk2)
    · have hj2 : j < t.facts.length - 1 := by omega
      have e := fcAt_cut (t := t) (k := k) (p := p) (q := q) hj2
      rw [if_neg hjk] at e
      rw [← e]
      exact fcAt_mem (by rw [hl]; exact hj2)
end
section
variable {F : List Int → Bool} {t : Tb} {a : List Int}
/-- What the rounds of May have to see. -/
theorem TabOk.of (h1 : t.slots.length = 32) (h2 : t.facts.length ≤ 24) (h3 : ∀ i, i < 32 → -2 ≤ slAt t i ∧ slAt t i < t.facts.length) (h4 : (takenT t).length = t.facts.length)
    (h5 : ∀ k, k < t.facts.length → F (fcAt t k) = true ∧ (∀ j, j < k → fcAt t j ≠ fcAt t k) ∧ ∃ i, i < 32 ∧ slAt t i = k ∧ ∀ d, (∀ e, e ≤ d → atF (fcAt t k) e ≠ i) → slAt t (atF (fcAt t k) d) ≠ -1) : TabOk F t := by
  have hs : ∀ k, k < t.facts.length → ∃ i, i < 32 ∧ slAt t i = k := fun k hk => by
    obtain ⟨-, -, i, hi, e, -⟩ := h5 k hk
    exact ⟨i, hi, e⟩
  have ho := (taken_iff h3 hs).1 h4
  refine ⟨h1, h2, fun b hb => ?_, nodup_fc.2 fun i j hi hj e => ?_, h3, hs, ho, fun k i hk hi e d hw => ?_⟩
  · obtain ⟨k, hk, rfl⟩ := mem_fcAt hb
    exact (h5 k hk).1
  · rcases Nat.lt_trichotomy i j with q | q | q
    · exact absurd e ((h5 j hj).2.1 i q)
    · exact q
    · exact absurd e.symm ((h5 i hi).2.1 j q)
  · obtain ⟨-, -, m, hm, em, hd⟩ := h5 k hk
    have : m = i := ho m i hm hi (by rw [em, e]) (by rw [em]; omega)
    rw [this] at hd
    exact hd d hw
theorem TabOk.first (h : TabOk F t) {j k : Nat} (hj : j < k) (hk : k < t.facts.length) : fcAt t j ≠ fcAt t k := fun e => by
  have := nodup_fc.1 h.one j k (by omega) hk e
  omega
theorem TabOk.taken (h : TabOk F t) : (takenT t).length = t.facts.length := (taken_iff h.rng h.some_).2 h.only
/-- How many of the first n slots tell of a fact. -/
def takenN (t : Tb) (n : Nat) : Nat := ((List.range n).filter fun i => decide (0 ≤ slAt t i)).length
theorem takenN_zero : takenN t 0 = 0 := rfl
theorem takenN_next {n : Nat} : takenN t (n + 1) = takenN t n + if 0 ≤ slAt t n then 1 else 0 := by
  unfold takenN
  rw [List.range_succ, List.filter_append, List.length_append]
  by_cases q : 0 ≤ slAt t n
  · simp [q]
  · simp [q]
theorem takenN_all : takenN t 32 = (takenT t).length := rfl
/-- A walk from a Hash on meets each slot within 32 steps, and the one that it seeks once. -/
theorem walk_meets (a : List Int) {i : Nat} (hi : i < 32) : ∃ d, d < 32 ∧ atF a d = i ∧ ∀ e, e < d → atF a e ≠ i := by
  obtain ⟨d, hd, e⟩ := atF_inv a hi
  refine ⟨d, hd, e, fun c hc q => ?_⟩
  unfold atF at e q
  omega
/-- May's walk for fact k, which goes d steps to its slot i, sees no free one just if 'way' holds there. -/
theorem way_steps {i d : Nat} (hd : d < 32) (e : atF a d = i) (hn : ∀ c, c < d → atF a c ≠ i) : (∀ c, (∀ b, b ≤ c → atF a b ≠ i) → slAt t (atF a c) ≠ -1) ↔ ∀ c, c < d → slAt t (atF a c) ≠ -1 := by
  constructor
  · intro h c hc
    exact h c fun b hb => hn b (by omega)
  · intro h c hc
    refine h c ?_
    rcases Nat.lt_or_ge c d with q | q
    · exact q
    · exact absurd e (hc d q)
theorem atF_next {d : Nat} : atF a (d + 1) = (atF a d + 1) % 32 := by unfold atF; omega
theorem atF_zero : atF a 0 = hashF a % 32 := by unfold atF; rfl
/-- The sum of the first codes. -/
theorem hashF_next {i : Nat} (h : i < a.length) : hashF (a.take (i + 1)) = (hashF (a.take i) * 31 + (intAt a i).toNat + 1) % 1009 := by
  unfold hashF
  rw [List.take_add_one, intAt_get h, List.foldl_append]; rfl
end
end Go.Proofs.Ythnjpkghjkhjdaa
