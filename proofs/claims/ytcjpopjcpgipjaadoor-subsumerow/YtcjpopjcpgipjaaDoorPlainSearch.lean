/-
  Plain words: pairs of parts, sets of pairs, a choice of pairs that agree; the least choice is the least row of places. No program.
-/
import Derived.Test.YtcjpopjcpgipjaaDoorPlainItems
namespace Go.Proofs.YtcjpopjcpgipjaaDoor
open Go.RowKit
set_option linter.unusedSimpArgs false
set_option linter.unusedVariables false
set_option maxRecDepth 100000

/-- A part of one clause, its number; a part of the other one that it can become; what stands for variables then. -/
structure Pr where
  part : Nat
  idx : Nat
  pcs : Nat → List Int
def agrB (P Q : Nat → List Int) : Bool := (List.range 24).all fun v => decide (P v = [] ∨ Q v = [] ∨ P v = Q v)
theorem agr_iff {P Q : Nat → List Int} : agrB P Q = true ↔ ∀ v, v < 24 → P v = [] ∨ Q v = [] ∨ P v = Q v := by
  unfold agrB
  rw [List.all_eq_true]
  constructor
  · intro h v hv
    exact of_decide_eq_true (h v (List.mem_range.2 hv))
  · intro h v hv
    exact decide_eq_true (h v (List.mem_range.1 hv))
def onePr (ss : List Sym) (k : Nat) (x z : Lt) (i : Nat) : List Pr :=
  if z.neg = x.neg then (match mt ss z.atom noT 0 x.atom with | some P => [⟨k, i, P⟩] | none => []) else []
def rowPr (ss : List Sym) (k : Nat) (x : Lt) (y : List Lt) (n : Nat) : List Pr := (List.range n).flatMap fun i => onePr ss k x (ltAt y i) i
def allPr (ss : List Sym) (xs : List Lt) (ys : List (List Lt)) (n : Nat) : List Pr := (List.range n).flatMap fun k => rowPr ss k (ltAt xs k) (itAt ys k) (itAt ys k).length
section
variable {ss : List Sym} {xs : List Lt} {ys : List (List Lt)} {x z : Lt} {y : List Lt} {k i n : Nat} {p : Pr}
theorem rowPr_succ : rowPr ss k x y (n + 1) = rowPr ss k x y n ++ onePr ss k x (ltAt y n) n := by unfold rowPr; rw [List.range_succ, List.flatMap_append]; simp
theorem allPr_succ : allPr ss xs ys (n + 1) = allPr ss xs ys n ++ rowPr ss n (ltAt xs n) (itAt ys n) (itAt ys n).length := by unfold allPr; rw [List.range_succ, List.flatMap_append]; simp
theorem rowPr_zero : rowPr ss k x y 0 = [] := rfl
theorem allPr_zero : allPr ss xs ys 0 = [] := rfl
theorem mem_onePr : p ∈ onePr ss k x z i ↔ p.part = k ∧ p.idx = i ∧ z.neg = x.neg ∧ mt ss z.atom noT 0 x.atom = some p.pcs := by
  unfold onePr
  by_cases h : z.neg = x.neg
  · rw [if_pos h]
    cases hm : mt ss z.atom noT 0 x.atom with
    | none => simp
    | some P =>
      obtain ⟨a, b, c⟩ := p
      rw [List.mem_singleton, Pr.mk.injEq]
      show a = k ∧ b = i ∧ c = P ↔ a = k ∧ b = i ∧ z.neg = x.neg ∧ some P = some c
      rw [Option.some.injEq]
      exact ⟨fun ⟨h1, h2, h3⟩ => ⟨h1, h2, h, h3.symm⟩, fun ⟨h1, h2, _, h3⟩ => ⟨h1, h2, h3.symm⟩⟩
  · rw [if_neg h]; simp [h]
theorem onePr_length : (onePr ss k x z i).length ≤ 1 := by
  unfold onePr
  split
  · split <;> simp
  · simp
theorem rowPr_length : (rowPr ss k x y n).length ≤ n := by
  induction n with
  | zero => simp [rowPr_zero]
  | succ n ih =>
    rw [rowPr_succ, List.length_append]
    have := onePr_length (ss := ss) (k := k) (x := x) (z := ltAt y n) (i := n)
    omega
theorem mem_rowPr : p ∈ rowPr ss k x y n ↔ p.part = k ∧ p.idx < n ∧ (ltAt y p.idx).neg = x.neg ∧ mt ss (ltAt y p.idx).atom noT 0 x.atom = some p.pcs := by
  unfold rowPr
  rw [List.mem_flatMap]
  constructor
  · rintro ⟨i, hi, h⟩
    obtain ⟨h1, h2, h3, h4⟩ := mem_onePr.1 h
    rw [h2]
    exact ⟨h1, List.mem_range.1 hi, h3, h4⟩
  · rintro ⟨h1, h2, h3, h4⟩
    exact ⟨p.idx, List.mem_range.2 h2, mem_onePr.2 ⟨h1, rfl, h3, h4⟩⟩
theorem mem_allPr : p ∈ allPr ss xs ys n ↔ p.part < n ∧ p.idx < (itAt ys p.part).length ∧ (ltAt (itAt ys p.part) p.idx).neg = (ltAt xs p.part).neg ∧ mt ss (ltAt (itAt ys p.part) p.idx).atom noT 0 (ltAt xs p.part).atom = some p.pcs := by
  unfold allPr
  rw [List.mem_flatMap]
  constructor
  · rintro ⟨k, hk, h⟩
    obtain ⟨h1, h2, h3, h4⟩ := mem_rowPr.1 h
    rw [h1]
    exact ⟨List.mem_range.1 hk, h2, h3, h4⟩
  · rintro ⟨h1, h2, h3, h4⟩
    exact ⟨p.part, List.mem_range.2 h1, mem_rowPr.2 ⟨rfl, h2, h3, h4⟩⟩
def ltPr (p q : Pr) : Prop := p.part < q.part ∨ (p.part = q.part ∧ p.idx < q.idx)
theorem rowPr_up : (rowPr ss k x y n).Pairwise ltPr := by
  unfold rowPr
  rw [List.pairwise_flatMap]
  constructor
  · intro i hi
    unfold onePr
    split
    · split <;> simp
    · simp
  · refine List.Pairwise.imp ?_ List.pairwise_lt_range
    intro i j hij p hp q hq
    have h1 := mem_onePr.1 hp
    have h2 := mem_onePr.1 hq
    exact .inr ⟨by rw [h1.1, h2.1], by rw [h1.2.1, h2.2.1]; exact hij⟩
theorem allPr_up : (allPr ss xs ys n).Pairwise ltPr := by
  unfold allPr
  rw [List.pairwise_flatMap]
  constructor
  · intro i hi; exact rowPr_up
  · refine List.Pairwise.imp ?_ List.pairwise_lt_range
    intro i j hij p hp q hq
    have h1 := mem_rowPr.1 hp
    have h2 := mem_rowPr.1 hq
    exact .inl (by rw [h1.1, h2.1]; exact hij)
end
/-- What is in the one set and not in the other one. -/
def dif (a b : Nat) : Nat := a ^^^ (a &&& b)
theorem dif_bit {a b j : Nat} : (dif a b).testBit j = (a.testBit j && !b.testBit j) := by
  unfold dif
  rw [Nat.testBit_xor, Nat.testBit_and]
  cases a.testBit j <;> cases b.testBit j <;> rfl
def wAt (os : List Nat) (k : Nat) : Nat := os.getD k 0
def restW (os fs : List Nat) (k S j : Nat) : Nat := dif (S &&& wAt fs j) (wAt os k)
/-- A choice of pairs of the set S, for the parts from the k-th on. -/
def Sel (os fs : List Nat) (K : Nat) : Nat → Nat → List Nat → Prop
  | k, _, [] => k = K
  | k, S, j :: js => k < K ∧ S.testBit j = true ∧ (wAt os k).testBit j = true ∧ Sel os fs K (k + 1) (restW os fs k S j) js
section
variable {os fs : List Nat} {K k S S' j : Nat} {js : List Nat}
theorem restW_bit {i : Nat} : (restW os fs k S j).testBit i = (S.testBit i && (wAt fs j).testBit i && !(wAt os k).testBit i) := by
  unfold restW; rw [dif_bit, Nat.testBit_and]
theorem Sel.mono : ∀ {js : List Nat} {k S S' : Nat}, Sel os fs K k S js → (∀ i, S.testBit i = true → S'.testBit i = true) → Sel os fs K k S' js
  | [], _, _, _, h, _ => h
  | j :: js, k, S, S', h, hs => ⟨h.1, hs j h.2.1, h.2.2.1, Sel.mono h.2.2.2 fun i hi => by
      rw [restW_bit] at hi ⊢
      simp only [Bool.and_eq_true] at hi ⊢
      exact ⟨⟨hs i hi.1.1, hi.1.2⟩, hi.2⟩⟩
theorem Sel.open_ : ∀ {js : List Nat} {k S : Nat}, Sel os fs K k S js → ∀ m, k ≤ m → m < K → S &&& wAt os m ≠ 0
  | [], k, S, h, m, h1, h2 => by have : k = K := h; omega
  | j :: js, k, S, h, m, h1, h2 => by
    rcases Nat.eq_or_lt_of_le h1 with rfl | h1
    · intro e
      have := congrArg (fun x => Nat.testBit x j) e
      rw [show Nat.testBit (S &&& wAt os k) j = (S.testBit j && (wAt os k).testBit j) from Nat.testBit_and .., h.2.1, h.2.2.1] at this
      simp at this
    · have := Sel.open_ h.2.2.2 m (by omega) h2
      intro e
      apply this
      apply Nat.eq_of_testBit_eq
      intro i
      have := congrArg (fun x => Nat.testBit x i) e
      simp only [Nat.testBit_and, Nat.zero_testBit] at this ⊢
      rw [restW_bit]
      cases q : S.testBit i <;> cases q2 : (wAt os m).testBit i <;> simp_all
theorem Sel.length : ∀ {js : List Nat} {k S : Nat}, Sel os fs K k S js → k + js.length = K
  | [], k, S, h => h
  | j :: js, k, S, h => by have := Sel.length h.2.2.2; rw [List.length_cons]; omega
end
/-- The pairs, which of them belong to a part, which agree. -/
structure Prs (ss : List Sym) (xs : List Lt) (ys : List (List Lt)) (PS : List Pr) (os fs : List Nat) : Prop where
  all_ : PS = allPr ss xs ys xs.length
  of_ : ∀ k, k < xs.length → ∀ j, (wAt os k).testBit j = true ↔ ∃ p, PS[j]? = some p ∧ p.part = k
  fit : ∀ j j', j < PS.length → ((wAt fs j).testBit j' = true ↔ j < j' ∧ ∃ p q, PS[j]? = some p ∧ PS[j']? = some q ∧ agrB q.pcs p.pcs = true)
section
variable {ss : List Sym} {xs : List Lt} {ys : List (List Lt)} {PS : List Pr} {os fs : List Nat} {θ T : Nat → List Int}
def idxAt (PS : List Pr) (j : Nat) : Nat := (PS.getD j ⟨0, 0, noT⟩).idx
theorem idxAt_get {j : Nat} {p : Pr} (h : PS[j]? = some p) : idxAt PS j = p.idx := by unfold idxAt; rw [List.getD_eq_getElem?_getD, h]; rfl
theorem drop_lt {k : Nat} (h : k < xs.length) : xs.drop k = ltAt xs k :: xs.drop (k + 1) := by
  rw [List.drop_eq_getElem_cons h]
  congr 1
  unfold ltAt
  rw [List.getD_eq_getElem?_getD, List.getElem?_eq_getElem h]; rfl
theorem drop_it {k : Nat} (h : k < ys.length) : ys.drop k = itAt ys k :: ys.drop (k + 1) := by
  rw [List.drop_eq_getElem_cons h]
  congr 1
  unfold itAt
  rw [List.getD_eq_getElem?_getD, List.getElem?_eq_getElem h]; rfl
theorem pat_codes {a b : List Int} (h : Pat ss a b) : ∀ c ∈ a, -24 ≤ c := by
  rcases h with ⟨h, _⟩ | ⟨h, _⟩
  · exact row_ge h
  · obtain ⟨p, s, rfl, hp, _, _, hs, _⟩ := atom_parts h
    intro c hc
    rcases List.mem_cons.1 hc with rfl | hc
    · omega
    · exact row_ge hs c hc
theorem Prs.ok (h : Prs ss xs ys PS os fs) (hp : PatAll ss xs ys) (hl : ys.length = xs.length) {j : Nat} {p : Pr} (hj : PS[j]? = some p) :
    p.part < xs.length ∧ p.idx < (itAt ys p.part).length ∧ (ltAt (itAt ys p.part) p.idx).neg = (ltAt xs p.part).neg ∧ TOk ss p.pcs ∧
    (∀ c ∈ (ltAt xs p.part).atom, c < 0 → p.pcs (-1 - c).toNat ≠ []) ∧ ap p.pcs (ltAt xs p.part).atom = (ltAt (itAt ys p.part) p.idx).atom ∧ (∀ c ∈ (ltAt xs p.part).atom, -24 ≤ c) := by
  have hm : p ∈ PS := List.mem_of_getElem? hj
  rw [h.all_, mem_allPr] at hm
  obtain ⟨h1, h2, h3, h4⟩ := hm
  have hpt := hp.at_ p.part h1 (by omega) p.idx h2
  obtain ⟨_, s2, s3, s4⟩ := hpt.sound h4 TOk.no
  exact ⟨h1, h2, h3, s4, s2, s3, pat_codes hpt⟩
/-- A choice of pairs that agree makes places that fit. -/
theorem Prs.sound (h : Prs ss xs ys PS os fs) (hp : PatAll ss xs ys) (hl : ys.length = xs.length) : ∀ {js : List Nat} {k S : Nat} {T : Nat → List Int}, Sel os fs xs.length k S js → TOk ss T →
    (∀ j p, S.testBit j = true → PS[j]? = some p → ∀ v, v < 24 → T v = [] ∨ p.pcs v = [] ∨ p.pcs v = T v) →
    ∃ T', TOk ss T' ∧ (∀ v, T v ≠ [] → T' v = T v) ∧ ∀ θ : Nat → List Int, (∀ v, T' v ≠ [] → θ v = T' v) → FitR θ (xs.drop k) (ys.drop k) (js.map (idxAt PS))
  | [], k, S, T, hs, hT, _ => by
    have : k = xs.length := hs
    subst this
    rw [List.drop_length, List.drop_eq_nil_of_le (by omega)]
    exact ⟨T, hT, fun _ _ => rfl, fun _ _ => by simp [FitR]⟩
  | j :: js, k, S, T, hs, hT, hag => by
    obtain ⟨hk, hS, hof, hr⟩ := hs
    obtain ⟨p, hj, hpk⟩ := (h.of_ k hk j).1 hof
    have hok := h.ok hp hl hj
    rw [hpk] at hok
    obtain ⟨_, o2, o3, o4, o5, o6, o7⟩ := hok
    have hjl : j < PS.length := (List.getElem?_eq_some_iff.1 hj).1
    let T1 : Nat → List Int := fun v => if T v = [] then p.pcs v else T v
    have hT1 : TOk ss T1 := fun v => by
      show (if T v = [] then p.pcs v else T v) = [] ∨ _
      by_cases e : T v = []
      · simp only [T1, if_pos e]; exact o4 v
      · simp only [T1, if_neg e]; exact hT v
    have hp1 : ∀ v, v < 24 → p.pcs v ≠ [] → T1 v = p.pcs v := fun v hv hne => by
      show (if T v = [] then p.pcs v else T v) = _
      by_cases e : T v = []
      · rw [if_pos e]
      · rw [if_neg e]
        rcases hag j p hS hj v hv with q | q | q
        · exact absurd q e
        · exact absurd q hne
        · exact q.symm
    obtain ⟨T', t1, t2, t3⟩ := h.sound hp hl (T := T1) hr hT1 fun i q hi hq v hv => by
      rw [restW_bit] at hi
      simp only [Bool.and_eq_true] at hi
      obtain ⟨_, p', q', e1, e2, hagr⟩ := (h.fit j i hjl).1 hi.1.2
      rw [hj] at e1; injection e1 with e1; subst e1
      rw [hq] at e2; injection e2 with e2; subst e2
      have hb := agr_iff.1 hagr v hv
      show (if T v = [] then p.pcs v else T v) = [] ∨ q.pcs v = [] ∨ q.pcs v = (if T v = [] then p.pcs v else T v)
      by_cases e : T v = []
      · rw [if_pos e]
        rcases hb with hb | hb | hb
        · exact .inr (.inl hb)
        · exact .inl hb
        · exact .inr (.inr hb)
      · rw [if_neg e]
        exact hag i q hi.1.1 hq v hv
    refine ⟨T', t1, fun v hv => ?_, fun θ hθ => ?_⟩
    · have : T1 v = T v := by
        show (if T v = [] then p.pcs v else T v) = T v
        rw [if_neg hv]
      rw [t2 v (by rw [this]; exact hv), this]
    · rw [drop_lt hk, drop_it (by omega), List.map_cons, idxAt_get hj]
      refine ⟨o2, o3, ?_, t3 θ hθ⟩
      rw [← o6]
      refine ap_on fun c hc h0 => ?_
      have h1 := o5 c hc h0
      have h2 := o7 c hc
      have h3 := hp1 _ (by omega : (-1 - c).toNat < 24) h1
      have h4 := t2 _ (by rw [h3]; exact h1)
      rw [hθ _ (by rw [h4, h3]; exact h1), h4, h3]
/-- Places that fit are those of a choice of pairs. -/
theorem Prs.there (h : Prs ss xs ys PS os fs) (hp : PatAll ss xs ys) (hl : ys.length = xs.length) (hθ : Sub 24 ss θ) : ∀ {ps : List Nat} {k S : Nat}, FitR θ (xs.drop k) (ys.drop k) ps → k ≤ xs.length →
    (∀ j p, PS[j]? = some p → k ≤ p.part → (∀ v, p.pcs v = [] ∨ p.pcs v = θ v) → S.testBit j = true) → ∃ js, Sel os fs xs.length k S js ∧ js.map (idxAt PS) = ps := by
  intro ps
  induction ps with
  | nil =>
    intro k S hf hk hs
    by_cases e : k = xs.length
    · exact ⟨[], e, rfl⟩
    · rw [drop_lt (by omega), drop_it (by omega)] at hf; cases hf
  | cons i ps ih =>
    intro k S hf hk hs
    by_cases e : k = xs.length
    · subst e; rw [List.drop_length] at hf; cases hf
    · have hk' : k < xs.length := by omega
      rw [drop_lt hk', drop_it (by omega)] at hf
      obtain ⟨f1, f2, f3, f4⟩ := hf
      have hpt := hp.at_ k hk' (by omega) i f1
      obtain ⟨P, hm, hP⟩ := hpt.complete hθ f3 (T := noT) (fun _ => .inl rfl)
      have hmem : (⟨k, i, P⟩ : Pr) ∈ PS := by
        rw [h.all_, mem_allPr]
        exact ⟨hk', f1, f2, hm⟩
      obtain ⟨j, hjl, hj⟩ := List.mem_iff_getElem.1 hmem
      have hj' : PS[j]? = some ⟨k, i, P⟩ := by rw [List.getElem?_eq_getElem hjl, hj]
      obtain ⟨js, s1, s2⟩ := ih (S := restW os fs k S j) f4 (by omega) fun j' p' hj2 hpart hP2 => by
        have hj2l : j' < PS.length := (List.getElem?_eq_some_iff.1 hj2).1
        rw [restW_bit, hs j' p' hj2 (by omega) hP2]
        have hlt : j < j' := by
          rcases Nat.lt_or_ge j j' with q | q
          · exact q
          · exfalso
            rcases Nat.eq_or_lt_of_le q with q | q
            · subst q; rw [hj'] at hj2; injection hj2 with e2; rw [← e2] at hpart; simp at hpart; omega
            · have hup := allPr_up (ss := ss) (xs := xs) (ys := ys) (n := xs.length)
              rw [← h.all_] at hup
              have := List.pairwise_iff_getElem.1 hup j' j hj2l hjl q
              rw [hj] at this
              have e3 : PS[j'] = p' := by
                rw [List.getElem?_eq_getElem hj2l] at hj2; injection hj2
              rw [e3] at this
              rcases this with this | this
              · have : p'.part < k := this; omega
              · have : p'.part = k := this.1; omega
        have hfit : (wAt fs j).testBit j' = true := (h.fit j j' hjl).2 ⟨hlt, _, _, hj', hj2, agr_iff.2 fun v hv => by
          rcases hP2 v with a | a
          · exact .inl a
          · rcases hP v with b | b
            · exact .inr (.inl b)
            · exact .inr (.inr (by rw [a]; exact b.symm))⟩
        have hnof : (wAt os k).testBit j' = false := by
          cases q : (wAt os k).testBit j' with
          | false => rfl
          | true =>
            obtain ⟨p2, e2, e3⟩ := (h.of_ k hk' j').1 q
            rw [hj2] at e2; injection e2 with e2; subst e2; omega
        rw [hfit, hnof]; rfl
      exact ⟨j :: js, ⟨hk', hs j _ hj' (Nat.le_refl _) hP, (h.of_ k hk' j).2 ⟨_, hj', rfl⟩, s1⟩, by rw [List.map_cons, idxAt_get hj', s2]⟩
/-- A choice that is less has places that are less. -/
theorem Prs.less (h : Prs ss xs ys PS os fs) : ∀ {js is : List Nat} {k S S' : Nat}, Sel os fs xs.length k S js → Sel os fs xs.length k S' is → leL js is → leL (js.map (idxAt PS)) (is.map (idxAt PS))
  | [], _, _, _, _, _, _, _ => by simp [leL]
  | j :: js, [], _, _, _, _, _, hle => by cases hle
  | j :: js, i :: is, k, S, S', hj, hi, hle => by
    obtain ⟨hk, _, j2, j3⟩ := hj
    obtain ⟨_, _, i2, i3⟩ := hi
    obtain ⟨p, p1, p2⟩ := (h.of_ k hk j).1 j2
    obtain ⟨q, q1, q2⟩ := (h.of_ k hk i).1 i2
    rw [List.map_cons, List.map_cons, idxAt_get p1, idxAt_get q1]
    rcases hle with hle | ⟨rfl, hle⟩
    · have hjl : j < PS.length := (List.getElem?_eq_some_iff.1 p1).1
      have hil : i < PS.length := (List.getElem?_eq_some_iff.1 q1).1
      have hup := allPr_up (ss := ss) (xs := xs) (ys := ys) (n := xs.length)
      rw [← h.all_] at hup
      have := List.pairwise_iff_getElem.1 hup j i hjl hil hle
      rw [List.getElem?_eq_getElem hjl] at p1; injection p1 with p1
      rw [List.getElem?_eq_getElem hil] at q1; injection q1 with q1
      rw [p1, q1] at this
      rcases this with this | this
      · omega
      · exact .inl this.2
    · rw [p1] at q1; injection q1 with q1; subst q1
      exact .inr ⟨rfl, Prs.less h j3 i3 hle⟩
/-- The least choice tells the places. -/
theorem Prs.some_ (h : Prs ss xs ys PS os fs) (hp : PatAll ss xs ys) (hl : ys.length = xs.length) {S : Nat} {js : List Nat} (hS : ∀ j, S.testBit j = true ↔ j < PS.length) (hs : Sel os fs xs.length 0 S js)
    (hm : ∀ is, Sel os fs xs.length 0 S is → leL js is) : fitP ss xs ys noT = some (js.map (idxAt PS)) := by
  obtain ⟨T, t1, _, t3⟩ := h.sound hp hl (T := noT) hs TOk.no fun _ _ _ _ _ _ => .inl rfl
  have hf := t3 (stT T) fun v hv => st_same hv
  rw [List.drop_zero, List.drop_zero] at hf
  refine fitP_unique hp (sub_st t1) hf fun θ' ps hθ' hps => ?_
  obtain ⟨is, i1, i2⟩ := h.there hp hl hθ' (ps := ps) (k := 0) (S := S) (by rw [List.drop_zero, List.drop_zero]; exact hps) (Nat.zero_le _) fun j p hj _ _ => (hS j).2 (List.getElem?_eq_some_iff.1 hj).1
  rw [← i2]
  exact h.less hs i1 (hm _ i1)
theorem Prs.none_ (h : Prs ss xs ys PS os fs) (hp : PatAll ss xs ys) (hl : ys.length = xs.length) {S : Nat} (hS : ∀ j, S.testBit j = true ↔ j < PS.length) (hs : ∀ js, ¬ Sel os fs xs.length 0 S js) : fitP ss xs ys noT = none := by
  cases hf : fitP ss xs ys noT with
  | none => rfl
  | some ps =>
    obtain ⟨T, t1, _, t3⟩ := fitP_sound hp TOk.no hf
    obtain ⟨is, i1, _⟩ := h.there hp hl (sub_st t1) (ps := ps) (k := 0) (S := S) (by rw [List.drop_zero, List.drop_zero]; exact t3 _ fun v hv => st_same hv) (Nat.zero_le _) fun j p hj _ _ => (hS j).2 (List.getElem?_eq_some_iff.1 hj).1
    exact absurd i1 (hs is)
end
end Go.Proofs.YtcjpopjcpgipjaaDoor
