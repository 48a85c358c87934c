/-
  Plain words: what package fact and the reference find in a hash table; what Put and Cut answer. No program.
-/
import Derived.Test.YthnjpkghjkhjdaaPlainFact
import Derived.Test.YthnjpkghjkhjdaaOrderAll2
namespace Go.Proofs.Ythnjpkghjkhjdaa
set_option linter.unusedSimpArgs false
set_option linter.unusedVariables false

/-- A Bool that says whether something is so. -/
noncomputable def propB (P : Prop) : Bool := @decide P (Classical.propDecidable P)
theorem propB_yes {P : Prop} (h : P) : propB P = true := by unfold propB; exact @decide_eq_true _ (Classical.propDecidable P) h
theorem propB_no {P : Prop} (h : ¬ P) : propB P = false := by unfold propB; exact @decide_eq_false _ (Classical.propDecidable P) h
theorem propB_true {P : Prop} (h : propB P = true) : P := by unfold propB at h; exact @of_decide_eq_true _ (Classical.propDecidable P) h
theorem propB_false {P : Prop} (h : propB P = false) : ¬ P := by unfold propB at h; exact @of_decide_eq_false _ (Classical.propDecidable P) h

/-- A fact: an atom without variables. -/
def factB (ss : List Sym) (a : List Int) : Bool := atomB ss a && a.all fun c => decide (0 ≤ c)
/-- The bounds of a fact's codes. -/
structure FactC (a : List Int) : Prop where
  len : a.length ≤ 49
  pos : 0 < a.length
  lo : ∀ k, k < a.length → 0 ≤ intAt a k
  hi : ∀ k, k < a.length → intAt a k ≤ 20
theorem factB_c {ss : List Sym} {a : List Int} (h : factB ss a = true) : FactC a := by
  unfold factB at h
  rw [Bool.and_eq_true] at h
  obtain ⟨h1, h2⟩ := h
  obtain ⟨hm, hx⟩ := atom_ex h1
  have hc := hx.codes hm
  obtain ⟨c, r, e, _, _, _, hr, _⟩ := atom_parts h1
  have hl := (row_parts hr).2.1
  refine ⟨by rw [e]; simp; omega, by rw [e]; simp, fun k hk => ?_, fun k hk => ?_⟩
  · have := List.all_eq_true.1 h2 _ (List.mem_of_getElem? (intAt_get hk))
    exact of_decide_eq_true this
  · have := (code_at hc hk).2
    have := (may_len hm).2
    omega
theorem hashF_lt (a : List Int) : hashF a < 1009 := by
  rcases List.eq_nil_or_concat a with rfl | ⟨xs, x, rfl⟩
  · unfold hashF; decide
  · unfold hashF
    rw [List.concat_eq_append, List.foldl_append]
    exact Nat.mod_lt _ (by omega)
section
variable {F : List Int → Bool} {t : Tb} {a : List Int} {k : Nat}
/-- The search for a fact, n slots before its end. -/
def slotGo (t : Tb) (a : List Int) : Nat → Int
  | 0 => -1
  | n + 1 => if slAt t (atF a (31 - n)) = -1 then -1 else if 0 ≤ slAt t (atF a (31 - n)) ∧ fcAt t (slAt t (atF a (31 - n))).toNat = a then (atF a (31 - n) : Nat) else slotGo t a n
def slotR (t : Tb) (a : List Int) : Int := slotGo t a 32
theorem slotGo_step {i : Nat} (h : i < 32) : slotGo t a (32 - i) = if slAt t (atF a i) = -1 then (-1 : Int) else if 0 ≤ slAt t (atF a i) ∧ fcAt t (slAt t (atF a i)).toNat = a then ((atF a i : Nat) : Int) else slotGo t a (32 - (i + 1)) := by
  have e : 32 - i = (31 - i) + 1 := by omega
  have e2 : 31 - (31 - i) = i := by omega
  have e3 : 32 - (i + 1) = 31 - i := by omega
  rw [e, e3]
  show (if slAt t (atF a (31 - (31 - i))) = -1 then _ else _) = _
  rw [e2]
theorem slotGo_found {d : Nat} (hd : d < 32) (h0 : 0 ≤ slAt t (atF a d)) (hf : fcAt t (slAt t (atF a d)).toNat = a) : ∀ n i, d - i = n → i ≤ d → (∀ e, i ≤ e → e < d → slAt t (atF a e) ≠ -1 ∧ ¬ (0 ≤ slAt t (atF a e) ∧ fcAt t (slAt t (atF a e)).toNat = a)) → slotGo t a (32 - i) = (atF a d : Nat) := by
  intro n
  induction n with
  | zero =>
    intro i hn hi _
    obtain rfl : i = d := by omega
    rw [slotGo_step hd, if_neg (by omega), if_pos ⟨h0, hf⟩]
  | succ n ih =>
    intro i hn hi hw
    rw [slotGo_step (by omega)]
    have := hw i (Nat.le_refl _) (by omega)
    rw [if_neg this.1, if_neg this.2]
    exact ih (i + 1) (by omega) (by omega) fun e h1 h2 => hw e (by omega) h2
theorem slotGo_none (h : ∀ e, e < 32 → ¬ (0 ≤ slAt t (atF a e) ∧ fcAt t (slAt t (atF a e)).toNat = a)) : ∀ n, n ≤ 32 → slotGo t a n = -1 := by
  intro n
  induction n with
  | zero => intro _; rfl
  | succ n ih =>
    intro hn
    show (if slAt t (atF a (31 - n)) = -1 then _ else _) = _
    split
    · rfl
    · rw [if_neg (h _ (by omega))]
      exact ih (by omega)
theorem slotGo_is : ∀ n i, 32 - i = n → i ≤ 32 → 0 ≤ slotGo t a n → ∃ d, i ≤ d ∧ d < 32 ∧ slotGo t a n = (atF a d : Nat) ∧ 0 ≤ slAt t (atF a d) ∧ fcAt t (slAt t (atF a d)).toNat = a ∧ ∀ e, i ≤ e → e < d → slAt t (atF a e) ≠ -1 := by
  intro n
  induction n with
  | zero => intro i _ _ h; exact absurd h (by show ¬ (0 : Int) ≤ -1; omega)
  | succ n ih =>
    intro i hn hi h
    have hi' : i < 32 := by omega
    have hs := slotGo_step (t := t) (a := a) hi'
    rw [hn] at hs
    rw [hs] at h ⊢
    by_cases q1 : slAt t (atF a i) = -1
    · rw [if_pos q1] at h; omega
    · rw [if_neg q1] at h ⊢
      by_cases q2 : 0 ≤ slAt t (atF a i) ∧ fcAt t (slAt t (atF a i)).toNat = a
      · rw [if_pos q2]
        exact ⟨i, Nat.le_refl _, hi', rfl, q2.1, q2.2, fun e h1 h2 => absurd h1 (by omega)⟩
      · rw [if_neg q2] at h ⊢
        have e2 : 32 - (i + 1) = n := by omega
        rw [e2] at h ⊢
        obtain ⟨d, g1, g2, g3, g4, g5, g6⟩ := ih (i + 1) e2 (by omega) h
        refine ⟨d, by omega, g2, g3, g4, g5, fun e h1 h2 => ?_⟩
        by_cases z : e = i
        · rw [z]; exact q1
        · exact g6 e (by omega) h2
theorem slotR_is (h : 0 ≤ slotR t a) : ∃ d, d < 32 ∧ slotR t a = (atF a d : Nat) ∧ 0 ≤ slAt t (atF a d) ∧ fcAt t (slAt t (atF a d)).toNat = a ∧ ∀ e, e < d → slAt t (atF a e) ≠ -1 := by
  obtain ⟨d, _, h1, h2, h3, h4, h5⟩ := slotGo_is 32 0 rfl (by omega) h
  exact ⟨d, h1, h2, h3, h4, fun e he => h5 e (by omega) he⟩
theorem slotR_lt : slotR t a < 32 ∧ -1 ≤ slotR t a := by
  by_cases h : 0 ≤ slotR t a
  · obtain ⟨d, _, e, _⟩ := slotR_is h
    have := atF_lt (a := a) (d := d)
    omega
  · have key : ∀ n, n ≤ 32 → -1 ≤ slotGo t a n := by
      intro n
      induction n with
      | zero => intro _; show (-1 : Int) ≤ -1; omega
      | succ n ih =>
        intro hn
        show -1 ≤ (if slAt t (atF a (31 - n)) = -1 then (-1 : Int) else _)
        split
        · omega
        · split
          · omega
          · exact ih (by omega)
    have := key 32 (Nat.le_refl _)
    have e : slotR t a = slotGo t a 32 := rfl
    omega
theorem TabOk.slot (h : TabOk F t) (hk : k < t.facts.length) : ∃ p, p < 32 ∧ slotR t (fcAt t k) = (p : Nat) ∧ slAt t p = k := by
  obtain ⟨p, hp, e⟩ := h.some_ k hk
  obtain ⟨d, hd, ed, hn⟩ := walk_meets (fcAt t k) hp
  have key := slotGo_found (t := t) (a := fcAt t k) hd (by rw [ed, e]; omega) (by rw [ed, e]; rfl) d 0 rfl (Nat.zero_le _) (fun c _ hc => ⟨h.way k p hk hp e c (fun b hb => hn b (by omega)), fun q => ?_⟩)
  · exact ⟨p, hp, by rw [← ed]; exact key, e⟩
  · have hr := h.rng (atF (fcAt t k) c) atF_lt
    have := nodup_fc.1 h.one _ k (by omega) hk q.2
    exact hn c hc (h.only _ p atF_lt hp (by rw [e]; omega) q.1)
theorem TabOk.slot_none (h : TabOk F t) (hn : a ∉ t.facts) : slotR t a = -1 :=
  slotGo_none (fun e _ q => by
    have hr := h.rng (atF a e) atF_lt
    exact hn (q.2 ▸ fcAt_mem (by omega))) 32 (Nat.le_refl _)
theorem TabOk.slot_mem (h : TabOk F t) : 0 ≤ slotR t a ↔ a ∈ t.facts := by
  constructor
  · intro q
    apply Classical.byContradiction
    intro hn
    rw [h.slot_none hn] at q; omega
  · intro q
    obtain ⟨k, hk, rfl⟩ := mem_fcAt q
    obtain ⟨p, _, e, _⟩ := h.slot hk
    omega
/-- Each slot's number is a fact's, or below 0. -/
def Range (t : Tb) : Prop := ∀ i, i < 32 → -2 ≤ slAt t i ∧ slAt t i < t.facts.length
/-- As many slots as facts are taken, and each fact is found where its number stands. -/
def Place (t : Tb) : Prop := takenN t 32 = t.facts.length ∧ ∀ k, k < t.facts.length → 0 ≤ slotR t (fcAt t k) ∧ slAt t (slotR t (fcAt t k)).toNat = k
theorem TabOk.place (h : TabOk F t) : Place t :=
  ⟨by rw [takenN_all]; exact h.taken, fun k hk => by
    obtain ⟨p, hp, e, e2⟩ := h.slot hk
    rw [e]
    exact ⟨by omega, by rw [Int.toNat_natCast]; exact e2⟩⟩
theorem Place.ok (h : Place t) (h1 : t.slots.length = 32) (h2 : t.facts.length ≤ 24) (h3 : Range t) (h4 : ∀ k, k < t.facts.length → F (fcAt t k) = true) : TabOk F t := by
  refine TabOk.of h1 h2 h3 (by rw [← takenN_all]; exact h.1) fun k hk => ⟨h4 k hk, fun j hj e => ?_, ?_⟩
  · have e1 := (h.2 k hk).2
    have e2 := (h.2 j (by omega)).2
    rw [e, e1] at e2
    omega
  · obtain ⟨d, hd, e, _, _, hw⟩ := slotR_is (h.2 k hk).1
    have e1 := (h.2 k hk).2
    rw [e, Int.toNat_natCast] at e1
    refine ⟨atF (fcAt t k) d, atF_lt, e1, fun c hc => hw c ?_⟩
    rcases Nat.lt_or_ge c d with q | q
    · exact q
    · exact absurd rfl (hc d q)
/-- A valid table over a valid signature. -/
noncomputable def tabB (ss : List Sym) (t : Tb) : Bool := propB (mayB ss = true ∧ TabOk (factB ss) t)
theorem tabB_yes {ss : List Sym} (hm : mayB ss = true) (h : TabOk (factB ss) t) : tabB ss t = true := propB_yes ⟨hm, h⟩
theorem tabB_no {ss : List Sym} (h : mayB ss = true → ¬ TabOk (factB ss) t) : tabB ss t = false := propB_no fun q => h q.1 q.2
theorem tabB_true {ss : List Sym} (h : tabB ss t = true) : mayB ss = true ∧ TabOk (factB ss) t := propB_true h
/-- The reference's slot: the last one that tells of k. -/
def lastN (t : Tb) (k : Int) : Nat → Int
  | 0 => -1
  | n + 1 => if slAt t n = k then (n : Nat) else lastN t k n
theorem lastN_is {z : Int} : ∀ n, (lastN t z n = -1 ∧ ∀ i, i < n → slAt t i ≠ z) ∨ ∃ p, p < n ∧ lastN t z n = (p : Nat) ∧ slAt t p = z := by
  intro n
  induction n with
  | zero => exact .inl ⟨rfl, fun i h => absurd h (Nat.not_lt_zero _)⟩
  | succ n ih =>
    by_cases q : slAt t n = z
    · exact .inr ⟨n, by omega, by show (if slAt t n = z then _ else _) = _; rw [if_pos q], q⟩
    · have e : lastN t z (n + 1) = lastN t z n := by show (if slAt t n = z then _ else _) = _; rw [if_neg q]
      rw [e]
      rcases ih with ⟨h1, h2⟩ | ⟨p, h1, h2, h3⟩
      · refine .inl ⟨h1, fun i hi => ?_⟩
        by_cases w : i = n
        · rw [w]; exact q
        · exact h2 i (by omega)
      · exact .inr ⟨p, by omega, h2, h3⟩
theorem lastN_bd {z : Int} (n : Nat) : -1 ≤ lastN t z n ∧ lastN t z n < n ∨ lastN t z n = -1 := by
  rcases lastN_is (t := t) (z := z) n with ⟨h, _⟩ | ⟨p, h1, h2, _⟩
  · exact .inr h
  · exact .inl ⟨by omega, by omega⟩
theorem TabOk.last (h : TabOk F t) {p : Nat} (hp : p < 32) (e : slAt t p = k) : lastN t k 32 = (p : Nat) := by
  rcases lastN_is (t := t) (z := (k : Int)) 32 with ⟨_, h2⟩ | ⟨q, h1, h2, h3⟩
  · exact absurd e (h2 p hp)
  · have : q = p := h.only q p h1 hp (by rw [h3, e]) (by rw [h3]; omega)
    rw [h2, this]
/-- The reference's where: the first place of a fact, k places from the front on. -/
def firstGo (t : Tb) (a : List Int) : Nat → Int
  | 0 => -1
  | n + 1 => if fcAt t (t.facts.length - (n + 1)) = a then (t.facts.length - (n + 1) : Nat) else firstGo t a n
def whereR (t : Tb) (a : List Int) : Int := firstGo t a t.facts.length
theorem firstGo_step {i : Nat} (h : i < t.facts.length) : firstGo t a (t.facts.length - i) = if fcAt t i = a then ((i : Nat) : Int) else firstGo t a (t.facts.length - (i + 1)) := by
  obtain ⟨n, hn⟩ : ∃ n, t.facts.length - i = n + 1 := ⟨t.facts.length - i - 1, by omega⟩
  have e : t.facts.length - (n + 1) = i := by omega
  have e2 : t.facts.length - (i + 1) = n := by omega
  rw [hn, e2]
  show (if fcAt t (t.facts.length - (n + 1)) = a then _ else _) = _
  rw [e]
theorem firstGo_found (hk : k < t.facts.length) (hf : fcAt t k = a) : ∀ n i, k - i = n → i ≤ k → (∀ j, i ≤ j → j < k → fcAt t j ≠ a) → firstGo t a (t.facts.length - i) = (k : Nat) := by
  intro n
  induction n with
  | zero =>
    intro i hn hi _
    obtain rfl : i = k := by omega
    rw [firstGo_step hk, if_pos hf]
  | succ n ih =>
    intro i hn hi h
    rw [firstGo_step (by omega), if_neg (h i (Nat.le_refl _) (by omega))]
    exact ih (i + 1) (by omega) (by omega) fun j h1 h2 => h j (by omega) h2
theorem firstGo_none (h : a ∉ t.facts) : ∀ n, n ≤ t.facts.length → firstGo t a n = -1 := by
  intro n
  induction n with
  | zero => intro _; rfl
  | succ n ih =>
    intro hn
    show (if fcAt t (t.facts.length - (n + 1)) = a then _ else _) = _
    rw [if_neg (fun (e : fcAt t (t.facts.length - (n + 1)) = a) => h (by rw [← e]; exact fcAt_mem (by omega)))]
    exact ih (by omega)
theorem where_none (h : a ∉ t.facts) : whereR t a = -1 := firstGo_none h _ (Nat.le_refl _)
theorem where_iff (hk : k < t.facts.length) : whereR t (fcAt t k) = (k : Nat) ↔ ∀ j, j < k → fcAt t j ≠ fcAt t k := by
  have hex : ∃ j, j ≤ k ∧ fcAt t j = fcAt t k := ⟨k, Nat.le_refl _, rfl⟩
  obtain ⟨m, ⟨hm, em⟩, hl⟩ := least_nat hex
  have e := firstGo_found (t := t) (a := fcAt t k) (k := m) (by omega) em m 0 rfl (Nat.zero_le _) (fun j _ hj q => hl j hj ⟨by omega, q⟩)
  rw [Nat.sub_zero] at e
  have e' : whereR t (fcAt t k) = (m : Nat) := e
  rw [e']
  constructor
  · intro q j hj z
    exact hl j (by omega) ⟨by omega, z⟩
  · intro q
    have : ¬ m < k := fun z => q m z em
    have : m = k := by omega
    rw [this]
theorem TabOk.where_ (h : TabOk F t) (hk : k < t.facts.length) : whereR t (fcAt t k) = (k : Nat) := (where_iff hk).2 fun j hj => h.first hj hk
theorem where_bd : whereR t a < t.facts.length ∧ -1 ≤ whereR t a := by
  by_cases h : a ∈ t.facts
  · obtain ⟨k, hk, rfl⟩ := mem_fcAt h
    have hex : ∃ j, j ≤ k ∧ fcAt t j = fcAt t k := ⟨k, Nat.le_refl _, rfl⟩
    obtain ⟨m, ⟨hm, em⟩, hl⟩ := least_nat hex
    have e := firstGo_found (t := t) (a := fcAt t k) (k := m) (by omega) em m 0 rfl (Nat.zero_le _) (fun j _ hj q => hl j hj ⟨by omega, q⟩)
    rw [Nat.sub_zero] at e
    have e' : whereR t (fcAt t k) = (m : Nat) := e
    omega
  · rw [where_none h]; omega
theorem TabOk.where_mem (h : TabOk F t) : 0 ≤ whereR t a ↔ a ∈ t.facts := by
  constructor
  · intro q
    apply Classical.byContradiction
    intro hn
    rw [where_none hn] at q; omega
  · intro q
    obtain ⟨k, hk, rfl⟩ := mem_fcAt q
    rw [h.where_ hk]; omega
/-- What the reference's May asks of fact k. -/
structure RefAt (F : List Int → Bool) (t : Tb) (k : Nat) : Prop where
  fact : F (fcAt t k) = true
  first : whereR t (fcAt t k) = (k : Nat)
  there : 0 ≤ lastN t k 32
  way : ∀ d, (∀ e, e ≤ d → (atF (fcAt t k) e : Nat) ≠ (lastN t k 32).toNat) → slAt t (atF (fcAt t k) d) ≠ -1
theorem TabOk.refAt (h : TabOk F t) (hk : k < t.facts.length) : RefAt F t k := by
  obtain ⟨p, hp, e⟩ := h.some_ k hk
  have el := h.last hp e
  refine ⟨h.fact _ (fcAt_mem hk), h.where_ hk, by rw [el]; omega, fun d hd => ?_⟩
  rw [el, Int.toNat_natCast] at hd
  exact h.way k p hk hp e d hd
theorem TabOk.ofRef (h1 : t.slots.length = 32) (h2 : t.facts.length ≤ 24) (h3 : Range t) (h4 : takenN t 32 = t.facts.length) (h5 : ∀ k, k < t.facts.length → RefAt F t k) : TabOk F t := by
  refine TabOk.of h1 h2 h3 (by rw [← takenN_all]; exact h4) fun k hk => ⟨(h5 k hk).fact, (where_iff hk).1 (h5 k hk).first, ?_⟩
  have h := h5 k hk
  rcases lastN_is (t := t) (z := (k : Int)) 32 with ⟨e, _⟩ | ⟨p, hp, e, e2⟩
  · have := h.there; omega
  · refine ⟨p, hp, e2, fun d hd => h.way d fun c hc => ?_⟩
    rw [e, Int.toNat_natCast]
    exact hd c hc
end
/-- A table that is small enough to be held. -/
structure TSmall (t : Tb) : Prop where
  s : t.slots.length ≤ 32
  f : t.facts.length ≤ 24
  r : ∀ a ∈ t.facts, a.length ≤ 49
theorem TSmall.zero : TSmall ⟨[], []⟩ := ⟨by simp, by simp, fun a h => by cases h⟩
theorem TabOk.small {ss : List Sym} {t : Tb} (h : TabOk (factB ss) t) : TSmall t := ⟨by rw [h.len]; omega, h.few, fun a ha => (factB_c (h.fact a ha)).len⟩
/-- What Has, Put and Cut ask first. -/
noncomputable def okT (ss : List Sym) (t : Tb) (a : List Int) : Bool := tabB ss t && factB ss a
theorem okT_true {ss : List Sym} {t : Tb} {a : List Int} (h : okT ss t a = true) : mayB ss = true ∧ TabOk (factB ss) t ∧ factB ss a = true := by
  unfold okT at h
  rw [Bool.and_eq_true] at h
  obtain ⟨h1, h2⟩ := tabB_true h.1
  exact ⟨h1, h2, h.2⟩
/-- What Put answers: a table, whether it was put in, an error. -/
inductive PutX (ss : List Sym) (t : Tb) (a : List Int) : Tb → Bool → Int → Prop
  | bad (h : okT ss t a = false) : PutX ss t a ⟨[], []⟩ false 1100
  | there (h : okT ss t a = true) (hm : a ∈ t.facts) : PutX ss t a t false 0
  | full (h : okT ss t a = true) (hm : a ∉ t.facts) (hf : t.facts.length = 24) : PutX ss t a ⟨[], []⟩ false 1101
  | done (h : okT ss t a = true) (hm : a ∉ t.facts) (hf : t.facts.length < 24) (d : Nat) (hd : slAt t (atF a d) < 0) (hb : ∀ e, e < d → 0 ≤ slAt t (atF a e)) : PutX ss t a (putT t a d) true 0
/-- What Cut answers. -/
inductive CutX (ss : List Sym) (t : Tb) (a : List Int) : Tb → Bool → Int → Prop
  | bad (h : okT ss t a = false) : CutX ss t a ⟨[], []⟩ false 1100
  | gone (h : okT ss t a = true) (hm : a ∉ t.facts) : CutX ss t a t false 0
  | done (h : okT ss t a = true) (k p q : Nat) (hk : k < t.facts.length) (ha : fcAt t k = a) (hp : p < 32) (hq : q < 32) (ep : slAt t p = k) (eq : slAt t q = (t.facts.length - 1 : Nat)) : CutX ss t a (cutT t k p q) true 0
theorem put_ex (ss : List Sym) (t : Tb) (a : List Int) : ∃ T b E, PutX ss t a T b E := by
  cases h : okT ss t a
  · exact ⟨_, _, _, .bad h⟩
  · obtain ⟨_, ht, _⟩ := okT_true h
    by_cases hm : a ∈ t.facts
    · exact ⟨_, _, _, .there h hm⟩
    · by_cases hf : t.facts.length = 24
      · exact ⟨_, _, _, .full h hm hf⟩
      · obtain ⟨d, _, hd, hb⟩ := ht.there a
        exact ⟨_, _, _, .done h hm (by have := ht.few; omega) d hd hb⟩
theorem cut_ex (ss : List Sym) (t : Tb) (a : List Int) : ∃ T b E, CutX ss t a T b E := by
  cases h : okT ss t a
  · exact ⟨_, _, _, .bad h⟩
  · obtain ⟨_, ht, _⟩ := okT_true h
    by_cases hm : a ∈ t.facts
    · obtain ⟨k, hk, ha⟩ := mem_fcAt hm
      obtain ⟨p, hp, ep⟩ := ht.some_ k hk
      obtain ⟨q, hq, eq⟩ := ht.some_ (t.facts.length - 1) (by omega)
      exact ⟨_, _, _, .done h k p q hk ha hp hq ep eq⟩
    · exact ⟨_, _, _, .gone h hm⟩
section
variable {ss : List Sym} {t T : Tb} {a : List Int} {b : Bool} {E : Int}
theorem PutX.small (h : PutX ss t a T b E) : TSmall T := by
  cases h with
  | bad h => exact TSmall.zero
  | there h hm => exact (okT_true h).2.1.small
  | full h hm hf => exact TSmall.zero
  | done h hm hf d hd hb => exact ((okT_true h).2.1.put (okT_true h).2.2 hm hf hd hb).small
theorem CutX.small (h : CutX ss t a T b E) : TSmall T := by
  cases h with
  | bad h => exact TSmall.zero
  | gone h hm => exact (okT_true h).2.1.small
  | done h k p q hk ha hp hq ep eq => exact ((okT_true h).2.1.cut hk hp hq ep eq).small
end
end Go.Proofs.Ythnjpkghjkhjdaa
