/-
  Contracts: bind.Apply, bind.follow, bind.Then, bind.Shift.
-/
import Derived.Test.YtlmpapdpmmkjnaaBindPut
namespace Go.Proofs.Ytlmpapdpmmkjnaa
open Go.RowKit Go.Deep
set_option linter.unusedSimpArgs false
set_option linter.unusedVariables false

theorem applyE_no {ss : List Sym} {bs : List Bd} {r : List Int} (h : (bindB ss bs && rowB ss r) = false) : applyE ss bs r = 300 ∧ applyR ss bs r = [] := by
  unfold applyE applyR; rw [h]; exact ⟨rfl, rfl⟩
theorem applyE_yes {ss : List Sym} {bs : List Bd} {r : List Int} (h1 : bindB ss bs = true) (h2 : rowB ss r = true) : applyE ss bs r = (if putOk bs r then 0 else 301) ∧ applyR ss bs r = putR bs r := by
  unfold applyE applyR putR putOk
  rw [h1, h2]
  by_cases h : (put bs r).length ≤ 48 <;> simp [h]
theorem bind_valid {ss : List Sym} {bs : List Bd} (h : bindB ss bs = true) : bdsB ss 0 bs = true := by unfold bindB at h; simp only [Bool.and_eq_true] at h; exact h.2
theorem bind_may {ss : List Sym} {bs : List Bd} (h : bindB ss bs = true) : mayB ss = true := by unfold bindB at h; simp only [Bool.and_eq_true] at h; exact h.1
theorem codes24 {ss : List Sym} {r : List Int} {ms : List (Nat × Nat)} (h : tl ss r = some ms) : ∀ i, i < r.length → -24 ≤ intAt r i := fun i hi => row_codes h _ (List.mem_of_getElem? (intAt_get hi))

set_option maxHeartbeats 1000000 in
theorem apply_any (A A1 A2 : Option Addr) (n c n1 c1 n2 c2 : Nat) (ss : List Sym) (bs : List Bd) (r : List Int) (w : World) (h : SymsAt w w.heap.size A n ss) (hn : n ≤ maxLen) (hnc : n ≤ c) (hb : BindsAt w w.heap.size A1 n1 bs) (hn1 : n1 ≤ 4398046511104) (hr : IntsAt w w.heap.size A2 n2 r) (hn2 : n2 ≤ maxLen) :
    Calls Try.prog 17 #[.slice A n c, .slice A1 n1 c1, .slice A2 n2 c2] w (IntsPost (applyR ss bs r) (applyE ss bs r) w) := by
  have HS := Lib.hid h
  have HB := Lib.hid hb
  have HR := Lib.hid hr
  have HL := Lib.hid hr.len
  clear hb hr
  cases h1 : bindB ss bs
  · obtain ⟨q1, q2⟩ := applyE_no (ss := ss) (bs := bs) (r := r) (by rw [h1]; rfl)
    have Q1 := Lib.hid q1
    have Q2 := Lib.hid q2
    clear q1 q2
    go_enter Try.func17, Try.ntmps17
    go_wp2_with fail
    refine (bindMay_any A A1 n c n1 c1 ss bs _ HS.out hn hnc HB.out hn1).mono ?_
    rintro e w1 ⟨rfl, hb1⟩
    rw [h1]
    clear h1
    go_wp2
    go_ret2
    exact ⟨_, ret_vi Q1.out.symm, OwnI.nil_.cast Q2.out.symm, hb1⟩
  · have H1 := Lib.hid h1
    cases h2 : rowB ss r
    · obtain ⟨q1, q2⟩ := applyE_no (ss := ss) (bs := bs) (r := r) (by rw [h1, h2]; rfl)
      have Q1 := Lib.hid q1
      have Q2 := Lib.hid q2
      clear q1 q2
      go_enter Try.func17, Try.ntmps17
      go_wp2_with fail
      refine (bindMay_any A A1 n c n1 c1 ss bs _ HS.out hn hnc HB.out hn1).mono ?_
      rintro e w1 ⟨rfl, hb1⟩
      rw [h1]
      clear h1
      go_wp2_with fail
      refine (isRow_any A A2 n c n2 c2 ss r _ (HS.out.on hb1) hn hnc (HR.out.on hb1) hn2).mono ?_
      rintro e w2 ⟨rfl, hb2⟩
      rw [h2]
      clear h2
      go_wp2
      go_ret2
      exact ⟨_, ret_vi Q1.out.symm, OwnI.nil_.cast Q2.out.symm, hb1.trans (hb2.mono hb1.size)⟩
    · obtain ⟨q1, q2⟩ := applyE_yes h1 h2
      have Q1 := Lib.hid q1
      have Q2 := Lib.hid q2
      obtain ⟨_, hl48, hms⟩ := row_parts h2
      rw [HL.out] at hl48
      have H24 := Lib.hid (codes24 hms)
      rw [HL.out] at H24
      clear q1 q2 hms
      cases h3 : putOk bs r
      all_goals
        go_enter Try.func17, Try.ntmps17
        go_wp2_with fail
        refine (bindMay_any A A1 n c n1 c1 ss bs _ HS.out hn hnc HB.out hn1).mono ?_
        rintro e w1 ⟨rfl, hb1⟩
        rw [h1]
        go_wp2_with fail
        refine (isRow_any A A2 n c n2 c2 ss r _ (HS.out.on hb1) hn hnc (HR.out.on hb1) hn2).mono ?_
        rintro e w2 ⟨rfl, hb2⟩
        rw [h2]
        have hb12 := hb1.trans (hb2.mono hb1.size)
        have HB12 := Lib.hid hb12
        clear h2 hb1 hb2
        go_wp2_with fail
        refine (replace_any A1 A2 n1 c1 n2 c2 ss bs r _ (HB.out.on HB12.out) hn1 (bind_valid h1) (HR.out.on HB12.out) hl48 H24.out).mono ?_
        rintro e w3 ⟨v3, rfl, hv3, hb3⟩
        rw [h3]
        have HV3 := Lib.hid (hv3.lower HB12.out.size)
        have HB3 := Lib.hid (HB12.out.trans (hb3.mono HB12.out.size))
        clear h1 hb3 hv3 hb12
        go_wp2
        go_ret2
      · exact ⟨_, ret_vi (by rw [Q1.out, h3]; rfl), OwnI.nil_.cast (by rw [Q2.out]; unfold putR; rw [h3]; rfl), HB3.out⟩
      · exact ⟨_, ret_vi (by rw [Q1.out, h3]; rfl), HV3.out.cast Q2.out.symm, HB3.out⟩

/-- What 'follow' hands back. -/
def bothOk (bs us : List Bd) (v : Nat) : Bool := decide ((bothV bs us v).length ≤ 48)
def FollowPost (bs us : List Bd) (v : Nat) (w : World) (e : Ending) (w' : World) : Prop :=
  ∃ u, e = .returned (.tuple #[u, .bool (bothOk bs us v)]) ∧ OwnI w' w.heap.size u (if bothOk bs us v then bothV bs us v else []) ∧ Below w.heap.size w w'
theorem put1_short {ss : List Sym} {bs : List Bd} (h : bindB ss bs = true) (c : Int) : (put1 bs c).length ≤ 48 := by
  unfold put1
  by_cases hc : c < 0
  · rw [if_pos hc]
    cases ho : ofB bs (-1 - c) with
    | none => simp
    | some t =>
      obtain ⟨b, hb, _, rfl⟩ := ofB_some ho
      exact (one_parts (bdsB_mem (bind_valid h) b hb).2.2.1).2.2.2
  · rw [if_neg hc]; simp
theorem thenE_no {ss : List Sym} {bs us : List Bd} (h : (bindB ss bs && bindB ss us) = false) : thenE ss bs us = 300 ∧ thenR ss bs us = [] := by
  unfold thenE thenR; rw [h]; exact ⟨rfl, rfl⟩
theorem thenE_long {ss : List Sym} {bs us : List Bd} (h1 : bindB ss bs = true) (h2 : bindB ss us = true) {v : Nat} (hv : v < 24) (h : bothOk bs us v = false) : thenE ss bs us = 301 ∧ thenR ss bs us = [] := by
  have : bothB bs us = false := by
    cases hb : bothB bs us with
    | false => rfl
    | true =>
      have := bothB_iff.1 hb v hv
      unfold bothOk at h
      have := of_decide_eq_false h
      omega
  unfold thenE thenR; rw [h1, h2, this]; exact ⟨rfl, rfl⟩
theorem thenE_good {ss : List Sym} {bs us : List Bd} (h1 : bindB ss bs = true) (h2 : bindB ss us = true) (h : ∀ v, v < 24 → bothOk bs us v = true) : thenE ss bs us = 0 ∧ thenR ss bs us = both bs us := by
  have : bothB bs us = true := bothB_iff.2 fun v hv => of_decide_eq_true (h v hv)
  unfold thenE thenR; rw [h1, h2, this]; exact ⟨rfl, rfl⟩
theorem upTo_same {bs us : List Bd} {k : Nat} (h : isV (bothV bs us k) k = true) : (List.range (k + 1)).filterMap (bothF bs us) = (List.range k).filterMap (bothF bs us) := by
  rw [List.range_succ, List.filterMap_append]
  have : bothF bs us k = none := by unfold bothF; rw [h]; rfl
  simp [this]
theorem upTo_more {bs us : List Bd} {k : Nat} (h : isV (bothV bs us k) k = false) : (List.range (k + 1)).filterMap (bothF bs us) = (List.range k).filterMap (bothF bs us) ++ [⟨k, bothV bs us k⟩] := by
  rw [List.range_succ, List.filterMap_append]
  have : bothF bs us k = some ⟨k, bothV bs us k⟩ := by unfold bothF; rw [h]; rfl
  simp [this]
theorem upTo_len {bs us : List Bd} {k : Nat} : ((List.range k).filterMap (bothF bs us)).length ≤ k := by
  have := List.length_filterMap_le (bothF bs us) (List.range k)
  simpa using this

theorem shiftE_no {ss : List Sym} {r : List Int} {y : Int} (h : rowB ss r = false) : shiftE ss r y = 300 ∧ shiftR ss r y = [] := by
  unfold shiftE shiftR; rw [h]; exact ⟨rfl, rfl⟩
theorem shiftE_far {ss : List Sym} {r : List Int} {y : Int} (h : rowB ss r = true) {i : Nat} (hi : i < r.length) (hf : farB y (intAt r i) = true) : shiftE ss r y = 302 ∧ shiftR ss r y = [] := by
  have : shOk y r = false := by
    cases hb : shOk y r with
    | false => rfl
    | true =>
      unfold shOk at hb
      rw [List.all_eq_true] at hb
      have := hb _ (List.mem_of_getElem? (intAt_get hi))
      rw [hf] at this; cases this
  unfold shiftE shiftR; rw [h, this]; exact ⟨rfl, rfl⟩
theorem shiftE_good {ss : List Sym} {r : List Int} {y : Int} (h : rowB ss r = true) (hf : shOk y r = true) : shiftE ss r y = 0 ∧ shiftR ss r y = r.map (sh1 y) := by
  unfold shiftE shiftR; rw [h, hf]; exact ⟨rfl, rfl⟩
theorem shOk_step {r : List Int} {y : Int} {k : Nat} (h : shOk y (r.take k) = true) (hk : k < r.length) (hf : farB y (intAt r k) = false) : shOk y (r.take (k + 1)) = true := by
  have e : r.take (k + 1) = r.take k ++ [intAt r k] := by rw [List.take_add_one, intAt_get hk]; rfl
  unfold shOk at *
  rw [e, List.all_append, h]
  simp [hf]
theorem sh_step {r : List Int} {y : Int} {k : Nat} (hk : k < r.length) : (r.take (k + 1)).map (sh1 y) = (r.take k).map (sh1 y) ++ [sh1 y (intAt r k)] := by
  have e : r.take (k + 1) = r.take k ++ [intAt r k] := by rw [List.take_add_one, intAt_get hk]; rfl
  rw [e, List.map_append]; rfl

end Go.Proofs.Ytlmpapdpmmkjnaa
