/-
  Contracts: bind.isRow, bind.isTerm, bind.isVar, bind.May.
-/
import Derived.Test.YtlmpapdpmmkjnaaMemBinds
namespace Go.Proofs.Ytlmpapdpmmkjnaa
open Go.RowKit
set_option linter.unusedSimpArgs false
set_option linter.unusedVariables false

theorem rowE_yes {ss : List Sym} {r : List Int} (h : rowB ss r = true) : rowE ss r = 0 := by unfold rowE; rw [h]; rfl
theorem rowE_no {ss : List Sym} {r : List Int} (h : rowB ss r = false) : rowE ss r = 200 := by unfold rowE; rw [h]; rfl
theorem rowK_yes {ss : List Sym} {r : List Int} (h : rowB ss r = true) : rowK ss r = ((tlD ss r).length : Int) := by unfold rowK; rw [h]; rfl

set_option maxHeartbeats 1000000 in
theorem isRow_any (A A' : Option Addr) (n c m c' : Nat) (ss : List Sym) (r : List Int) (w : World) (h : SymsAt w w.heap.size A n ss) (hn : n ≤ maxLen) (hnc : n ≤ c) (hr : IntsAt w w.heap.size A' m r) (hm : m ≤ maxLen) :
    Calls Try.prog 30 #[.slice A n c, .slice A' m c'] w fun e w' => e = .returned (.bool (rowB ss r)) ∧ Below w.heap.size w w' := by
  cases hb : rowB ss r
  all_goals
    (first | (have he := rowE_yes hb; have h0 : 1 = 1 := rfl) | have he := rowE_no hb)
    clear hb
    go_enter Try.func30, Try.ntmps30
    go_wp2_with fail
    refine (row_any A A' n c m c' ss r _ h hn hnc hr hm).mono ?_
    rintro e w1 ⟨rfl, hb1⟩
    rw [he]
    clear he
    go_wp2
    go_ret
    exact ⟨rfl, hb1⟩

set_option maxHeartbeats 1000000 in
theorem isTerm_any (A A' : Option Addr) (n c m c' : Nat) (ss : List Sym) (r : List Int) (w : World) (h : SymsAt w w.heap.size A n ss) (hn : n ≤ maxLen) (hnc : n ≤ c) (hr : IntsAt w w.heap.size A' m r) (hm : m ≤ maxLen) :
    Calls Try.prog 33 #[.slice A n c, .slice A' m c'] w fun e w' => e = .returned (.bool (oneB ss r)) ∧ Below w.heap.size w w' := by
  cases hb : rowB ss r
  · have he := rowE_no hb
    have H : Hid (oneB ss r = false) := by show oneB ss r = false; unfold oneB; rw [hb]; rfl
    clear hb
    go_enter Try.func33, Try.ntmps33
    go_wp2_with fail
    refine (row_any A A' n c m c' ss r _ h hn hnc hr hm).mono ?_
    rintro e w1 ⟨rfl, hb1⟩
    rw [he]
    clear he
    go_wp2
    go_ret
    exact ⟨ret_b H.out.symm, hb1⟩
  · have he := rowE_yes hb
    have hk := rowK_yes hb
    by_cases h1 : (tlD ss r).length = 1
    · have H : Hid (oneB ss r = true) := by show oneB ss r = true; unfold oneB; rw [hb]; simp [h1]
      rw [h1] at hk
      clear hb h1
      go_enter Try.func33, Try.ntmps33
      go_wp2_with fail
      refine (row_any A A' n c m c' ss r _ h hn hnc hr hm).mono ?_
      rintro e w1 ⟨rfl, hb1⟩
      rw [he, hk]
      clear he hk
      go_wp2
      go_ret
      exact ⟨ret_b H.out.symm, hb1⟩
    · have H : Hid (oneB ss r = false) := by show oneB ss r = false; unfold oneB; rw [hb]; simp [h1]
      have h1' : ¬ rowK ss r = 1 := by rw [hk]; omega
      clear hb h1 hk
      go_enter Try.func33, Try.ntmps33
      go_wp2_with fail
      refine (row_any A A' n c m c' ss r _ h hn hnc hr hm).mono ?_
      rintro e w1 ⟨rfl, hb1⟩
      rw [he]
      clear he
      go_wp2
      go_ret
      exact ⟨ret_b (by rw [H.out]; simpa using h1'), hb1⟩

theorem isV_len {t : List Int} {v : Int} (h : t.length ≠ 1) : isV t v = false := isV_not.2 fun e => h (by rw [e]; rfl)
theorem isV_yes {t : List Int} {v : Int} (h : t.length = 1) (h0 : intAt t 0 = -1 - v) : isV t v = true := isV_iff.2 (by
  match t, h with
  | [x], _ => have : x = -1 - v := h0; rw [this])
theorem isV_no {t : List Int} {v : Int} (h0 : intAt t 0 ≠ -1 - v) : isV t v = false := isV_not.2 fun e => h0 (by rw [e]; rfl)
set_option maxHeartbeats 1000000 in
theorem isVar_any (A : Option Addr) (m c B : Nat) (t : List Int) (v : Int) (w : World) (h : IntsAt w B A m t) (hm : m ≤ maxLen) (hv0 : 0 ≤ v) (hv1 : v ≤ 23) :
    Calls Try.prog 34 #[.slice A m c, .int .i64 v] w fun e w' => e = .returned (.bool (isV t v)) ∧ w = w' := by
  unfold maxLen at hm
  have HL := Lib.hid h.len
  by_cases h1 : m = 1
  · subst h1
    obtain ⟨b, off, rfl, _, hc⟩ := h.at_ (by omega)
    have c0 : w.cell? ⟨b, off + 0, none⟩ = some (.int .i64 (intAt t 0)) := hc 0 (by omega)
    rw [Nat.add_zero] at c0
    clear hc
    by_cases h0 : intAt t 0 = -1 - v
    · have H := Lib.hid (isV_yes HL.out h0)
      rw [h0] at c0
      clear h0
      go_enter Try.func34, Try.ntmps34
      go_wp2
      go_ret
      exact ⟨ret_b H.out.symm, rfl⟩
    · have H := Lib.hid (isV_no h0)
      go_enter Try.func34, Try.ntmps34
      go_wp2
      go_ret
      exact ⟨ret_b (by rw [H.out]; simpa using h0), rfl⟩
  · have H := Lib.hid (isV_len (v := v) (by rw [HL.out]; exact h1))
    go_enter Try.func34, Try.ntmps34
    go_wp2
    go_ret
    exact ⟨ret_b H.out.symm, rfl⟩

theorem bindB_no {ss : List Sym} {bs : List Bd} (h : mayB ss = false) : bindB ss bs = false := by unfold bindB; rw [h]; rfl
theorem bindB_yes {ss : List Sym} {bs : List Bd} (h : mayB ss = true) : bindB ss bs = bdsB ss 0 bs := by unfold bindB; rw [h]; rfl
theorem bdsB_step {ss : List Sym} {bs : List Bd} {lo : Int} {k : Nat} (hk : k < bs.length) : bdsB ss lo (bs.drop k) = (bdB ss lo (bdAt bs k) && bdsB ss ((bdAt bs k).v + 1) (bs.drop (k + 1))) := by
  rw [bd_drop hk]; rfl
theorem bdB_lo {ss : List Sym} {lo : Int} {b : Bd} (h : b.v < lo) : bdB ss lo b = false := by
  cases hb : bdB ss lo b with
  | false => rfl
  | true => have := (bdB_iff.1 hb).1; omega
theorem bdB_hi {ss : List Sym} {lo : Int} {b : Bd} (h : 23 < b.v) : bdB ss lo b = false := by
  cases hb : bdB ss lo b with
  | false => rfl
  | true => have := (bdB_iff.1 hb).2.1; omega
theorem bdB_one {ss : List Sym} {lo : Int} {b : Bd} (h : oneB ss b.t = false) : bdB ss lo b = false := by
  cases hb : bdB ss lo b with
  | false => rfl
  | true => have := (bdB_iff.1 hb).2.2.1; rw [h] at this; cases this
theorem bdB_var {ss : List Sym} {lo : Int} {b : Bd} (h : isV b.t b.v = true) : bdB ss lo b = false := by
  cases hb : bdB ss lo b with
  | false => rfl
  | true => exact absurd (isV_iff.1 h) (bdB_iff.1 hb).2.2.2
theorem bdB_good {ss : List Sym} {lo : Int} {b : Bd} (h1 : lo ≤ b.v) (h2 : b.v ≤ 23) (h3 : oneB ss b.t = true) (h4 : isV b.t b.v = false) : bdB ss lo b = true := bdB_iff.2 ⟨h1, h2, h3, isV_not.1 h4⟩

set_option maxHeartbeats 2000000 in
theorem bindMay_any (A A' : Option Addr) (n c m c' : Nat) (ss : List Sym) (bs : List Bd) (w : World) (h : SymsAt w w.heap.size A n ss) (hn : n ≤ maxLen) (hnc : n ≤ c) (hr : BindsAt w w.heap.size A' m bs) (hm : m ≤ 4398046511104) :
    Calls Try.prog 18 #[.slice A n c, .slice A' m c'] w fun e w' => e = .returned (.bool (bindB ss bs)) ∧ Below w.heap.size w w' := by
  have HL := Lib.hid hr.len
  have HS := Lib.hid h
  have HR := Lib.hid hr
  cases hmay : mayB ss
  · have H := Lib.hid (bindB_no (bs := bs) hmay)
    clear hr
    go_enter Try.func18, Try.ntmps18
    go_wp2_with fail
    refine (may_any A n c ss _ h hn hnc).mono ?_
    rintro e w1 ⟨rfl, hb1⟩
    rw [hmay]
    clear hmay h
    go_wp2
    go_ret
    exact ⟨ret_b H.out.symm, hb1⟩
  · have H := Lib.hid (bindB_yes (bs := bs) hmay)
    clear hr
    go_enter Try.func18, Try.ntmps18
    go_wp2_with fail
    refine (may_any A n c ss _ h hn hnc).mono ?_
    rintro e w1 ⟨rfl, hb1⟩
    rw [hmay]
    have HB1 := Lib.hid hb1
    clear hmay h hb1
    go_wp2
    go_loopw [5, 13] (fun q i wr => ∃ (k : Nat) (lo : Int), q = .int .i64 lo ∧ i = .int .i64 k ∧ k ≤ m ∧ 0 ≤ lo ∧ lo ≤ 24 ∧ bdsB ss 0 bs = bdsB ss lo (bs.drop k) ∧ Below w.heap.size w wr) (fun _ i _ => m - (intOf i).toNat)
    case atStart => exact ⟨0, 0, rfl, rfl, by omega, by omega, by omega, rfl, HB1.out⟩
    case round =>
      obtain ⟨k, lo, rfl, rfl, hk, hl0, hl1, heq, hbw⟩ := hrel
      have HEQ := Lib.hid heq
      have HBW := Lib.hid hbw
      clear heq hbw
      by_cases hlt : k < m
      · have hkl : k < bs.length := by rw [HL.out]; exact hlt
        have HST := Lib.hid (bdsB_step (ss := ss) (lo := lo) hkl)
        obtain ⟨b, off, rfl, hb, hc⟩ := (HR.out.on HBW.out).at_ (by omega)
        obtain ⟨c0, A2, c2, c1, hc2, hi2⟩ := hc k hlt
        have hfit := HR.out.fit k hlt
        clear hc hkl
        obtain ⟨bd, hbd⟩ : ∃ bd, bd = bdAt bs k := ⟨_, rfl⟩
        rw [← hbd] at c0 c1 hc2 hi2 hfit HST
        clear hbd
        have HI := Lib.hid hi2
        clear hi2
        have no (hF : bdB ss lo bd = false) : bindB ss bs = false := by rw [H.out, HEQ.out, HST.out, hF]; rfl
        have NO := Lib.hid no
        clear no
        have hi0 : (0 : Int) ≤ (k : Int) := by omega
        have hi3 : (k : Int) < (m : Int) := by omega
        by_cases h1 : bd.v < lo
        · have HN := Lib.hid (NO.out (bdB_lo h1))
          go_wp2
          go_ret
          exact ⟨ret_b HN.out.symm, HBW.out.trans ((below_new _ _).mono HBW.out.size)⟩
        · by_cases h2 : 23 < bd.v
          · have HN := Lib.hid (NO.out (bdB_hi h2))
            go_wp2
            go_ret
            exact ⟨ret_b HN.out.symm, HBW.out.trans ((below_new _ _).mono HBW.out.size)⟩
          · cases h3 : oneB ss bd.t
            · have HN := Lib.hid (NO.out (bdB_one h3))
              go_wp2_with fail
              refine (isTerm_any A A2 n c _ c2 ss bd.t _ (HS.out.on (HBW.out.trans ((below_new _ _).mono HBW.out.size))) hn hnc (HI.out.on (below_new _ _)) (by unfold maxLen; omega)).mono ?_
              rintro e w2 ⟨rfl, hb2⟩
              rw [h3]
              have HB2 := Lib.hid ((HBW.out.trans ((below_new _ _).mono HBW.out.size)).trans (hb2.mono (HBW.out.trans ((below_new _ _).mono HBW.out.size)).size))
              clear h3 hb2
              go_wp2
              go_ret
              exact ⟨ret_b HN.out.symm, HB2.out⟩
            · have H3 := Lib.hid h3
              have hv0 : 0 ≤ bd.v := by omega
              have hv1 : bd.v ≤ 23 := by omega
              cases h4 : isV bd.t bd.v
              all_goals
                go_wp2_with fail
                refine (isTerm_any A A2 n c _ c2 ss bd.t _ (HS.out.on (HBW.out.trans ((below_new _ _).mono HBW.out.size))) hn hnc (HI.out.on (below_new _ _)) (by unfold maxLen; omega)).mono ?_
                rintro e w2 ⟨rfl, hb2⟩
                rw [h3]
                have HI2 := Lib.hid ((HI.out.on (below_new _ _)).on hb2)
                have HB2 := Lib.hid ((HBW.out.trans ((below_new _ _).mono HBW.out.size)).trans (hb2.mono (HBW.out.trans ((below_new _ _).mono HBW.out.size)).size))
                have e0 : w2.cell? ⟨wr.heap.size, 0, none⟩ = some (.int .i64 bd.v) := by rw [hb2.cell (p := ⟨wr.heap.size, 0, none⟩) (by simp)]; rw [World.cell?_alloc_new]; rfl
                have e1 : w2.cell? ⟨wr.heap.size, 1, none⟩ = some (.slice A2 bd.t.length c2) := by rw [hb2.cell (p := ⟨wr.heap.size, 1, none⟩) (by simp)]; rw [World.cell?_alloc_new]; rfl
                clear h3 hb2
                go_wp2_with fail
                refine (isVar_any A2 _ c2 _ bd.t bd.v _ HI2.out (by unfold maxLen; omega) hv0 hv1).mono ?_
                rintro e w3 ⟨rfl, rfl⟩
                rw [h4]
                go_wp2
              · go_roundw
                case rel => exact ⟨k + 1, bd.v + 1, by go_num, by go_num, by omega, by omega, by omega, by rw [HEQ.out, HST.out, bdB_good (by omega) hv1 H3.out h4]; rfl, HB2.out⟩
                case measure => simp [intOf]; omega
              · have HN := Lib.hid (NO.out (bdB_var h4))
                go_ret
                exact ⟨ret_b HN.out.symm, HB2.out⟩
      · obtain rfl : k = m := by omega
        have HN : Hid (bindB ss bs = true) := by show bindB ss bs = true; rw [H.out, HEQ.out, List.drop_of_length_le (by rw [HL.out]; omega)]; rfl
        go_wp2
        go_ret
        exact ⟨ret_b HN.out.symm, HBW.out⟩

end Go.Proofs.Ytlmpapdpmmkjnaa
