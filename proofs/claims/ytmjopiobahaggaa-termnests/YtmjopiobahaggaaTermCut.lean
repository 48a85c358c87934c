/-
  The walk of the law TermCut.
-/
import Derived.Test.YtmjopiobahaggaaWords
import Derived.Test.YtmjopiobahaggaaPlainTerm2
namespace Go.Proofs.Ytmjopiobahaggaa
open Go.RowKit
set_option linter.unusedSimpArgs false
set_option linter.unusedVariables false

theorem rowK_no {ss : List Sym} {r : List Int} (h : rowB ss r = false) : rowK ss r = 0 ∧ rowE ss r = 200 := by unfold rowK rowE; rw [h]; exact ⟨rfl, rfl⟩
theorem rowK_yes {ss : List Sym} {r : List Int} (h : rowB ss r = true) : rowK ss r = ((tlD ss r).length : Int) ∧ rowE ss r = 0 := by unfold rowK rowE; rw [h]; exact ⟨rfl, rfl⟩
theorem stN_get (ss : List Sym) (r : List Int) (p q : Nat) (h : q < p) : intAt (stN ss r p) q = (sumL ((tlD ss r).take q) : Int) := by
  unfold intAt stN; rw [List.getD_eq_getElem?_getD]; simp [h]
/-- What is left of a row where its last code is taken off: the last term goes, if it was that code alone; else it is no row. -/
theorem cut_last {ss : List Sym} {r : List Int} {j : Nat} (h : rowB ss r = true) (hj : (tlD ss r).length = j + 1) :
    sumL ((tlD ss r).take j) < r.length ∧
    (sumL ((tlD ss r).take j) + 1 = r.length → rowK ss (r.take (r.length - 1)) = (j : Int) ∧ rowE ss (r.take (r.length - 1)) = 0) ∧
    (sumL ((tlD ss r).take j) + 1 ≠ r.length → rowK ss (r.take (r.length - 1)) = 0 ∧ rowE ss (r.take (r.length - 1)) = 200) := by
  obtain ⟨h1, h2, h3⟩ := row_parts h
  have hall := tl_all r h3
  cases hq : (tlD ss r).drop j with
  | nil => simp at hq; omega
  | cons m ms' =>
    have hlen : ((tlD ss r).drop j).length = 1 := by simp; omega
    rw [hq] at hlen
    have hms : ms' = [] := by simpa using hlen
    subst hms
    have hs : (tlD ss r).take j ++ [m] = tlD ss r := by rw [← hq]; exact List.take_append_drop _ _
    have hsum : sumL ((tlD ss r).take j) + m.1 = r.length := by
      have e : sumL (tlD ss r) = sumL ((tlD ss r).take j ++ [m]) := by rw [hs]
      rw [← hall, e, sumL_append]; simp [sumL]
    have hpos := (tl_pos r h3 m (by rw [← hs]; simp)).1
    refine ⟨by omega, ?_, ?_⟩
    · intro e
      have := tl_take r h3 j (by omega)
      have e2 : sumL ((tlD ss r).take j) = r.length - 1 := by omega
      rw [e2] at this
      have hb : rowB ss (r.take (r.length - 1)) = true := row_true h1 (by simp; omega) this
      obtain ⟨k1, k2⟩ := rowK_yes hb
      refine ⟨?_, k2⟩
      have e6 : tlD ss (r.take (r.length - 1)) = (tlD ss r).take j := by show (tl ss _).getD [] = _; rw [this]; rfl
      rw [k1, e6]; simp; omega
    · intro e
      apply rowK_no
      apply row_false
      cases ht : tl ss (r.take (r.length - 1)) with
      | none => rfl
      | some a =>
        exfalso
        have hr : r.length - 1 < r.length := by omega
        have e3 : r.take (r.length - 1) ++ [r[r.length - 1]] = r := by
          have := List.take_append_drop (r.length - 1) r
          rw [List.drop_eq_getElem_cons hr] at this
          have e5 : r.length - 1 + 1 = r.length := by omega
          rw [e5, List.drop_length] at this
          exact this
        have h3' := h3
        rw [← e3] at h3'
        have := tl_snoc ht h3'
        rw [e3] at this
        rw [← hs] at this
        have e4 := (List.append_inj' this (by simp)).2
        injection e4 with e4
        rw [e4] at hsum
        exact e hsum

set_option maxHeartbeats 2000000 in
set_option maxRecDepth 100000 in
theorem termCut_walk (A A' : Option Addr) (n c m c' : Nat) (ss : List Sym) (r : List Int) (w : World) (h : SymsAt w w.heap.size A n ss) (hn : n ≤ maxLen) (hnc : n ≤ c) (hr : IntsAt w w.heap.size A' m r) (hm : m ≤ maxLen) (hmc : m ≤ c') :
    Calls Try.prog 7 #[.slice A n c, .slice A' m c'] w fun e w' => e = .returned (.bool true) ∧ Below w.heap.size w w' := by
  have HB0 : Hid (Below w.heap.size w w) := Below.refl _ _
  have HS := Lib.hid h
  have HR := Lib.hid hr
  have HL := Lib.hid hr.len
  have hm' := hm
  unfold maxLen at hm
  clear h hr
  go_enter Try.func7, Try.ntmps7
  go_wp2_with fail
  refine (awake_any _).mono ?_
  rintro e w1 ⟨rfl, hb1⟩
  have HB1 := Lib.hid (HB0.out.trans (hb1.mono HB0.out.size))
  replace HS := Lib.hid (HS.out.on hb1)
  replace HR := Lib.hid (HR.out.on hb1)
  clear hb1
  go_wp2_with fail
  refine (row_any A A' n c m c' ss r _ HS.out hn hnc HR.out hm').mono ?_
  rintro e w2 ⟨rfl, hb2⟩
  have HB2 := Lib.hid (HB1.out.trans (hb2.mono HB1.out.size))
  replace HS := Lib.hid (HS.out.on hb2)
  replace HR := Lib.hid (HR.out.on hb2)
  clear hb2
  cases hb : rowB ss r
  · rw [(rowK_no hb).1, (rowK_no hb).2]
    go_wp2_with (go_at_call 16; refine (num_any _ _).mono ?_; rintro e w' ⟨rfl, rfl⟩)
    go_ret
    exact ⟨rfl, HB2.out⟩
  · obtain ⟨h1, h2, h3⟩ := row_parts hb
    by_cases hm0 : m = 0
    · subst hm0
      have e : tlD ss r = [] := (tl_nil_iff h3).2 (List.length_eq_zero_iff.1 HL.out)
      rw [(rowK_yes hb).1, (rowK_yes hb).2, e]
      go_wp2_with (go_at_call 16; refine (num_any _ _).mono ?_; rintro e w' ⟨rfl, rfl⟩)
      go_ret
      exact ⟨rfl, HB2.out⟩
    · obtain ⟨j, hj⟩ : ∃ j, (tlD ss r).length = j + 1 := by
        refine ⟨(tlD ss r).length - 1, ?_⟩
        have : tlD ss r ≠ [] := fun e => hm0 (by rw [← HL.out, (tl_nil_iff h3).1 e]; rfl)
        have := List.length_pos_iff.2 this
        omega
      have hK : rowK ss r = (j : Int) + 1 := by rw [(rowK_yes hb).1, hj]; rfl
      have hE := (rowK_yes hb).2
      have hjl : j + 1 ≤ m := by have := tl_len r h3; rw [HL.out, hj] at this; exact this
      have hst : startsOf ss r = stN ss r (j + 1) := by unfold startsOf; rw [hb, hj]; rfl
      obtain ⟨t, ht⟩ : ∃ t, t = sumL ((tlD ss r).take j) := ⟨_, rfl⟩
      obtain ⟨c1, c2, c3⟩ := cut_last hb hj
      rw [← ht] at c1 c2 c3
      rw [HL.out] at c1 c2 c3 h2
      have C2 := Lib.hid c2
      have C3 := Lib.hid c3
      have HT := Lib.hid ht
      rw [hK, hE]
      have HE := Lib.hid hE
      have HST := Lib.hid hst
      clear hb h1 h3 hj hK hE hst c2 c3 ht hm0
      have hmz : ((m : Int) == 0) = false := by simp; omega
      go_wp2_with (go_at_call 16; refine (num_any _ _).mono ?_; rintro e w' ⟨rfl, rfl⟩)
      refine (starts_any A A' n c m c' ss r _ HS.out hn hnc HR.out hm').mono ?_
      rintro e w3 ⟨v3, rfl, hv3, hb3⟩
      rw [HE.out]
      rw [HST.out] at hv3
      have hv3' := hv3.intsAt
      rw [stN_length] at hv3'
      obtain ⟨C, cap3, rfl, hcap, hi3⟩ := hv3'
      have HI := Lib.hid hi3
      have HB3 := Lib.hid (HB2.out.trans (hb3.mono HB2.out.size))
      replace HS := Lib.hid (HS.out.on hb3)
      replace HR := Lib.hid (HR.out.on hb3)
      clear hv3 hi3 hb3
      have hm1 : (m : Int) - 1 = ((m - 1 : Nat) : Int) := by omega
      have HM1 := Lib.hid hm1
      clear hm1
      have g1 : 0 ≤ (m : Int) - 1 := by omega
      have g2 : (m : Int) - 1 ≤ (c' : Int) := by omega
      have g3 : ((m : Int) - 1).toNat = m - 1 := by omega
      go_wp2_with (go_at_call 16; refine (num_any _ _).mono ?_; rintro e w' ⟨rfl, rfl⟩)
      refine (row_any A A' n c (m - 1) c' ss (r.take (m - 1)) _ HS.out hn hnc (HR.out.take (by omega)) (by unfold maxLen; omega)).mono ?_
      rintro e w4 ⟨rfl, hb4⟩
      have HB4 := Lib.hid (HB3.out.trans (hb4.mono HB3.out.size))
      replace HI := Lib.hid (HI.out.on hb4)
      clear hb4 g3
      obtain ⟨b, off, rfl, hbb, hcc⟩ := HI.out.at_ (by omega)
      have k0 : w4.cell? ⟨b, off, none⟩ = some (.int .i64 0) := by
        have : w4.cell? ⟨b, off + 0, none⟩ = some (.int .i64 (intAt (stN ss r (j + 1)) 0)) := hcc 0 (by omega)
        rw [stN_get ss r (j + 1) 0 (by omega)] at this
        simpa [sumL] using this
      have k1 : w4.cell? ⟨b, off + j, none⟩ = some (.int .i64 t) := by
        have : w4.cell? ⟨b, off + j, none⟩ = some (.int .i64 (intAt (stN ss r (j + 1)) j)) := hcc j (by omega)
        rw [stN_get ss r (j + 1) j (by omega), ← HT.out] at this
        exact this
      clear hcc
      by_cases hl : t + 1 = m
      · obtain ⟨e1, e2⟩ := C2.out hl
        rw [e1, e2]
        subst hl
        clear e1 e2
        go_wp2_with (go_at_call 16; refine (num_any _ _).mono ?_; rintro e w' ⟨rfl, rfl⟩)
        go_ret
        exact ⟨rfl, HB4.out⟩
      · obtain ⟨e1, e2⟩ := C3.out hl
        rw [e1, e2]
        have hl' : ((t : Int) == (m : Int) - 1) = false := by simp; omega
        clear e1 e2
        go_wp2_with (go_at_call 16; refine (num_any _ _).mono ?_; rintro e w' ⟨rfl, rfl⟩)
        go_ret
        exact ⟨rfl, HB4.out⟩

end Go.Proofs.Ytmjopiobahaggaa
