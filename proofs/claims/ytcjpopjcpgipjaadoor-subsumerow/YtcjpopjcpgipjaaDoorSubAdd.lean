/-
  Contracts of package subsume: addPart, addPair.
-/
import Derived.Test.YtcjpopjcpgipjaaDoorSubAgr
import Derived.Deep.DeepCutAuto
namespace Go.Proofs.YtcjpopjcpgipjaaDoor
open Go.RowKit Go.Deep
set_option linter.unusedSimpArgs false
set_option linter.unusedVariables false
set_option maxRecDepth 100000

/-- Which pairs belong to which part. -/
structure Good (PS : List Pr) (os : List Nat) : Prop where
  of_ : ∀ k, k < os.length → ∀ j, (wAt os k).testBit j = true ↔ ∃ p, PS[j]? = some p ∧ p.part = k
  lt : ∀ p ∈ PS, p.part < os.length
theorem Good.nil_ : Good [] [] := ⟨fun k hk => absurd hk (by simp), fun p hp => by cases hp⟩
theorem Good.bit {PS : List Pr} {os : List Nat} (h : Good PS os) {k j : Nat} (hk : k < os.length) (hj : (wAt os k).testBit j = true) : j < PS.length := by
  obtain ⟨p, e, _⟩ := (h.of_ k hk j).1 hj
  exact (List.getElem?_eq_some_iff.1 e).1
theorem lt_of_bits {x n : Nat} (h : ∀ j, x.testBit j = true → j < n) : x < 2 ^ n := by
  apply Nat.lt_pow_two_of_testBit
  intro i hi
  cases q : x.testBit i with
  | false => rfl
  | true => have := h i q; omega
theorem Good.few {PS : List Pr} {os : List Nat} (h : Good PS os) {k : Nat} (hk : k < os.length) : wAt os k < 2 ^ PS.length := lt_of_bits fun j hj => h.bit hk hj
theorem Good.part {PS : List Pr} {os : List Nat} (h : Good PS os) : Good PS (os ++ [0]) := by
  refine ⟨fun k hk j => ?_, fun p hp => by have := h.lt p hp; rw [List.length_append]; omega⟩
  rw [List.length_append] at hk
  simp only [List.length_cons, List.length_nil] at hk
  by_cases q : k < os.length
  · have e : wAt (os ++ [0]) k = wAt os k := by unfold wAt; rw [List.getD_eq_getElem?_getD, List.getD_eq_getElem?_getD, List.getElem?_append_left q]
    rw [e]; exact h.of_ k q j
  · have q : k = os.length := by omega
    subst q
    have e : wAt (os ++ [0]) os.length = 0 := by unfold wAt; simp
    rw [e, Nat.zero_testBit]
    refine ⟨fun h => (by cases h), fun ⟨p, hp, hq⟩ => ?_⟩
    have := h.lt p (List.mem_of_getElem? hp)
    omega
theorem Good.pair {PS : List Pr} {os : List Nat} {k i : Nat} {P : Nat → List Int} (h : Good PS os) (hk : os.length = k + 1) : Good (PS ++ [⟨k, i, P⟩]) (os.set k (wAt os k ||| 2 ^ PS.length)) := by
  refine ⟨fun m hm j => ?_, fun p hp => ?_⟩
  · rw [List.length_set] at hm
    have hj : (∃ p, (PS ++ [⟨k, i, P⟩])[j]? = some p ∧ p.part = m) ↔ (∃ p, PS[j]? = some p ∧ p.part = m) ∨ (j = PS.length ∧ m = k) := by
      constructor
      · rintro ⟨p, e, q⟩
        by_cases c : j < PS.length
        · rw [List.getElem?_append_left c] at e; exact .inl ⟨p, e, q⟩
        · rw [List.getElem?_append_right (by omega)] at e
          have c2 : j - PS.length = 0 := by
            have := (List.getElem?_eq_some_iff.1 e).1
            simp at this; omega
          rw [c2] at e
          simp at e
          subst e
          exact .inr ⟨by omega, q.symm⟩
      · rintro (⟨p, e, q⟩ | ⟨rfl, rfl⟩)
        · exact ⟨p, by rw [List.getElem?_append_left (List.getElem?_eq_some_iff.1 e).1]; exact e, q⟩
        · exact ⟨_, by rw [List.getElem?_append_right (Nat.le_refl _), Nat.sub_self]; rfl, rfl⟩
    rw [hj, ← h.of_ m hm j]
    by_cases e : m = k
    · subst e
      have e1 : wAt (os.set m (wAt os m ||| 2 ^ PS.length)) m = wAt os m ||| 2 ^ PS.length := by
        unfold wAt
        rw [List.getD_eq_getElem?_getD, List.getElem?_set_self hm]; rfl
      rw [e1, Nat.testBit_or, Nat.testBit_two_pow, Bool.or_eq_true, decide_eq_true_eq]
      exact ⟨fun h => h.elim .inl fun h => .inr ⟨h.symm, rfl⟩, fun h => h.elim .inl fun h => .inr h.1.symm⟩
    · have e1 : wAt (os.set k (wAt os k ||| 2 ^ PS.length)) m = wAt os m := by
        unfold wAt
        rw [List.getD_eq_getElem?_getD, List.getElem?_set_ne (fun h => e h.symm), List.getD_eq_getElem?_getD]
      rw [e1]
      exact ⟨.inl, fun h => h.elim id fun h => absurd h.2 e⟩
  · rw [List.length_set]
    rcases List.mem_append.1 hp with hp | hp
    · exact h.lt p hp
    · rw [List.mem_singleton] at hp
      subst hp
      show k < _
      omega
/-- A search while its pairs are gathered. -/
structure Bld (w : World) (sb B : Nat) (PS : List Pr) (os : List Nat) : Prop where
  ex : ∃ v0 v1, SB w sb v0 v1 (.slice none 0 0) (.slice none 0 0) (.slice none 0 0) ∧ OwnP w (sb + 1) B v0 PS ∧ OwnW w (sb + 1) v1 os
  le : B ≤ sb
  good : Good PS os
theorem Bld.lt {w : World} {sb B : Nat} {PS : List Pr} {os : List Nat} (h : Bld w sb B PS os) : sb < w.heap.size := by
  obtain ⟨_, _, h, _⟩ := h.ex; exact h.lt
theorem Bld.on {w w' : World} {sb B : Nat} {PS : List Pr} {os : List Nat} (h : Bld w sb B PS os) (hb : Below w.heap.size w w') : Bld w' sb B PS os := by
  have hlt := h.lt
  obtain ⟨v0, v1, h1, h2, h3⟩ := h.ex
  have := h.le
  exact ⟨⟨v0, v1, h1.on hb, h2.on hb (by omega), h3.on hb⟩, h.le, h.good⟩
def SK : List TypeId := [97, 123, 69]
set_option maxHeartbeats 1000000 in
theorem addPart_any (sb B : Nat) (PS : List Pr) (os : List Nat) (w : World) (h : Bld w sb B PS os) (hl : os.length ≤ 1000) :
    Calls Tryd.prog 52 #[.pointer (some ⟨sb, 0, none⟩)] w fun e w' => e = .returned (.tuple #[]) ∧ Bld w' sb B PS (os ++ [0]) ∧ Chg SK sb w w' := by
  have HLT := Lib.hid h.lt
  have HLE := Lib.hid h.le
  have HG := Lib.hid h.good
  obtain ⟨v0, v1, h1, h2, h3⟩ := h.ex
  have HSB := Lib.hid h1
  have HP := Lib.hid h2
  have HW := Lib.hid h3
  have hc1 := h1.c1
  have hbase : sb + 1 ≤ w.heap.size := h1.lt
  clear h h1 h2 h3
  go_enter Tryd.func52, Tryd.ntmps52
  go_wp2_with (at_builtin
               refine app_w rfl (.tmp 6) (.tmp 7) rfl (sb + 1) _ os 0 rfl HW.out rfl rfl (by omega) hbase ?_
               intro v5 w5 hown5 hc5
               obtain ⟨A5, n5, c5, rfl⟩ := hown5.slice_
               have HO5 := Lib.hid hown5
               have HC5 := Lib.hid hc5
               have hfz5 := (HSB.out.chg hc5 (by decide)).frozen 1
               have hcc5 := (HSB.out.chg hc5 (by decide)).c1
               clear hown5 hc5)
  (first | go_end0 | refine bodyPost_ret (results_none rfl _ _ _) rfl ?_)
  have hS5 := HSB.out.chg HC5.out (by decide)
  have hset := hS5.set_chg 1 (.slice A5 n5 c5)
  refine ⟨rfl, ⟨⟨v0, _, hS5.set1 _, ?_, HO5.out.chg hset (by decide)⟩, HLE.out, HG.out.part⟩, ?_⟩
  · exact (HP.out.chg HC5.out (by decide) (by have := HLE.out; omega)).chg hset (by decide) HLE.out
  · exact ((HC5.out.lower (by omega)).wide (by decide)).trans (hset.wide (by decide))
end Go.Proofs.YtcjpopjcpgipjaaDoor
