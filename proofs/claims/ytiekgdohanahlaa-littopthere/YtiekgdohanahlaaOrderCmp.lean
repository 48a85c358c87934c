/-
  Contracts: shape.IsAtom, rank.Compare, order.Compare.
-/
import Derived.Test.YtiekgdohanahlaaOrderMore
namespace Go.Proofs.Ytiekgdohanahlaa
open Go.RowKit
set_option linter.unusedSimpArgs false
set_option linter.unusedVariables false
set_option maxRecDepth 100000

theorem atomB_cons {ss : List Sym} {c : Int} {r : List Int} : atomB ss (c :: r) = (decide (0 ≤ c) && decide (c.toNat < ss.length) && decide ((symAt ss c.toNat).kind = 0) && rowB ss r && decide (((tlD ss r).length : Int) = (symAt ss c.toNat).arity)) := rfl
/-- A row behind its first code. -/
theorem IntsAt.tail1 {w : World} {B b off n c : Nat} {x : Int} {r : List Int} (h : IntsAt w B (some ⟨b, off, none⟩) n (x :: r)) (hc : n ≤ c) :
    IntsAt w B (if c = 1 then some ⟨b, off, none⟩ else some ⟨b, off + 1, none⟩) (n - 1) r := by
  have hl := h.len
  have hn : n = r.length + 1 := by rw [← hl]; rfl
  by_cases e : c = 1
  · rw [if_pos e]
    have hr : r = [] := List.length_eq_zero_iff.1 (by omega)
    subst hr
    exact ⟨by simp; omega, fun hp => absurd hp (by simp at hn; omega)⟩
  · rw [if_neg e]
    exact h.drop (k := 1) (by omega)

set_option maxHeartbeats 1000000 in
theorem isAtom_any (A A' : Option Addr) (n c m c' : Nat) (ss : List Sym) (r : List Int) (w : World) (h : SymsAt w w.heap.size A n ss) (hn : n ≤ maxLen) (hnc : n ≤ c) (hr : IntsAt w w.heap.size A' m r) (hm : m ≤ maxLen) (hmc : m ≤ c') :
    Calls Try.prog 28 #[.slice A n c, .slice A' m c'] w fun e w' => e = .returned (.bool (atomB ss r)) ∧ Below w.heap.size w w' := by
  have hm0 := hm
  have hn0 := hn
  unfold maxLen at hm hn
  cases r with
  | nil =>
    have hl := hr.len
    obtain rfl : m = 0 := by rw [← hl]; rfl
    go_enter Try.func28, Try.ntmps28
    go_wp2
    go_ret
    exact ⟨rfl, Below.refl _ _⟩
  | cons x r =>
    have hl := hr.len
    have hml : m = r.length + 1 := by rw [← hl]; rfl
    obtain ⟨b, off, rfl, hb, hc⟩ := hr.at_ (by omega)
    have hcx : w.cell? ⟨b, off, none⟩ = some (.int .i64 x) := by have := hc 0 (by omega); rw [Nat.add_zero] at this; exact this
    have HR := Lib.hid hr
    have HS := Lib.hid h
    have HL := Lib.hid h.len
    have HMC := Lib.hid hmc
    have z0 : ¬ m = 0 := by omega
    have z1 : 1 ≤ m := by omega
    have z2 : 1 ≤ c' := by omega
    clear hc hr hl hml
    by_cases hx : x < 0
    · have H : Hid (atomB ss (x :: r) = false) := by show atomB ss (x :: r) = false; rw [atomB_cons, decide_eq_false (by omega)]; simp
      go_enter Try.func28, Try.ntmps28
      go_wp2
      go_ret
      exact ⟨ret_b H.out.symm, Below.refl _ _⟩
    · obtain ⟨q, hq⟩ : ∃ q : Nat, x = (q : Int) := ⟨x.toNat, by omega⟩
      subst hq
      by_cases hqn : n ≤ q
      · have H : Hid (atomB ss ((q : Int) :: r) = false) := by
          show atomB ss ((q : Int) :: r) = false
          have : decide ((q : Int).toNat < ss.length) = false := decide_eq_false (by rw [HL.out, Int.toNat_natCast]; omega)
          rw [atomB_cons, this]; simp
        have y1 : (n : Int) ≤ (q : Int) := by omega
        clear hx
        go_enter Try.func28, Try.ntmps28
        go_wp2
        go_ret
        exact ⟨ret_b H.out.symm, Below.refl _ _⟩
      · obtain ⟨b2, off2, rfl, hb2, hc2⟩ := h.at_ (by omega)
        obtain ⟨_, k1, k2, _⟩ := hc2 q (by omega)
        have HK2 := Lib.hid k2
        have y1 : ¬ (n : Int) ≤ (q : Int) := by omega
        have y2 : q < n := by omega
        have y3 : (q : Int) < (n : Int) := by omega
        have y4 : ((m : Int) == 0) = false := by simp; omega
        have y5 : decide ((q : Int) < 0) = false := by simp
        have y6 : decide ((n : Int) ≤ (q : Int)) = false := by simp; omega
        clear hc2 k2 hqn hx h
        by_cases hk : (symAt ss q).kind = 0
        · have hk' : ((symAt ss q).kind != 0) = false := by simp [hk]
          have HKD := Lib.hid hk
          rw [hk] at k1
          clear hk hk'
          have HT := Lib.hid (HR.out.tail1 HMC.out)
          obtain ⟨At, hAt⟩ : ∃ At, (if c' = 1 then some ⟨b, off, none⟩ else some ⟨b, off + 1, none⟩ : Option Addr) = At := ⟨_, rfl⟩
          rw [hAt] at HT
          go_enter Try.func28, Try.ntmps28
          go_wp2_with fail
          refine (row_any _ At n c (m - 1) (c' - 1) ss r _ HS.out hn0 hnc HT.out (by unfold maxLen; omega)).mono ?_
          rintro e w1 ⟨rfl, hb1⟩
          have HB1 := Lib.hid hb1
          have j1 : w1.cell? ⟨b, off, none⟩ = some (.int .i64 (q : Int)) := by rw [hb1.cell (p := ⟨b, off, none⟩) hb]; exact hcx
          have j2 : w1.cell? ⟨b2, off2 + q * 4 + 2, none⟩ = some (.int .i64 (symAt ss q).arity) := by rw [hb1.cell (p := ⟨b2, off2 + q * 4 + 2, none⟩) hb2]; exact HK2.out
          clear hb1 hcx k1 hAt
          cases hrb : rowB ss r
          · have he := rowE_no hrb
            have H : Hid (atomB ss ((q : Int) :: r) = false) := by show atomB ss ((q : Int) :: r) = false; rw [atomB_cons, hrb]; simp
            rw [he]
            clear he hrb
            go_wp2
            go_ret
            exact ⟨ret_b H.out.symm, HB1.out⟩
          · have he := rowE_yes hrb
            have hkk := rowK_yes hrb
            have H : Hid (atomB ss ((q : Int) :: r) = decide (((tlD ss r).length : Int) = (symAt ss q).arity)) := by
              show atomB ss ((q : Int) :: r) = _
              rw [atomB_cons, hrb, Int.toNat_natCast, decide_eq_true HKD.out, decide_eq_true (by omega : (0 : Int) ≤ (q : Int)), decide_eq_true (by rw [HL.out]; exact y2)]
              simp
            obtain ⟨K, hK⟩ : ∃ K : Int, K = ((tlD ss r).length : Int) := ⟨_, rfl⟩
            obtain ⟨R, hR⟩ : ∃ R : Int, R = (symAt ss q).arity := ⟨_, rfl⟩
            rw [← hK, ← hR] at H
            rw [← hK] at hkk
            rw [← hR] at j2
            rw [he, hkk]
            clear he hkk hrb hK hR
            go_wp2
            go_ret
            exact ⟨ret_b (by rw [H.out]; rfl), HB1.out⟩
        · have H : Hid (atomB ss ((q : Int) :: r) = false) := by
            show atomB ss ((q : Int) :: r) = false
            have : decide ((symAt ss (q : Int).toNat).kind = 0) = false := decide_eq_false (by rw [Int.toNat_natCast]; exact hk)
            rw [atomB_cons, this]; simp
          have hk' : ((symAt ss q).kind != 0) = true := by simpa using hk
          go_enter Try.func28, Try.ntmps28
          go_wp2
          go_ret
          exact ⟨ret_b H.out.symm, Below.refl _ _⟩

/-- What Compare answers. -/
def OrdPost (ss : List Sym) (a b : List Int) (w : World) (e : Ending) (w' : World) : Prop :=
  ∃ k E : Int, e = .returned (.tuple #[.int .i64 k, .int .i64 E]) ∧ CmpR ss a b E k ∧ Below w.heap.size w w'
theorem ExAt.on {w w' : World} {A : Option Addr} {n c : Nat} {a : List Int} (h : ExAt w w.heap.size A n c a) (hb : Below w.heap.size w w') : ExAt w' w'.heap.size A n c a := ⟨h.at_.on hb, h.cap, h.few⟩
theorem ExAt.of_one {w : World} {base : Nat} {A : Option Addr} {n c : Nat} {a : List Int} {ss : List Sym} (h : IntsAt w base A n a) (hc : n ≤ c) (ho : oneB ss a = true) : ExAt w base A n c a := by
  have hl := h.len
  have := (row_parts (one_parts ho).1).2.1
  exact ⟨h, hc, by omega⟩
theorem ExAt.of_atom {w : World} {base : Nat} {A : Option Addr} {n c : Nat} {a : List Int} {ss : List Sym} (h : IntsAt w base A n a) (hc : n ≤ c) (ho : atomB ss a = true) : ExAt w base A n c a := by
  have hl := h.len
  obtain ⟨c0, r, rfl, _, _, _, h5, _⟩ := atom_parts ho
  have := (row_parts h5).2.1
  simp at hl
  exact ⟨h, hc, by omega⟩
theorem OrdPost.bad {ss : List Sym} {a b : List Int} {w w' : World} (h : exB ss a b = false) (hb : Below w.heap.size w w') : OrdPost ss a b w (.returned (.tuple #[.int .i64 0, .int .i64 600])) w' :=
  ⟨0, 600, rfl, .inl ⟨h, rfl, rfl⟩, hb⟩
theorem exB_no {ss : List Sym} {a b : List Int} (h1 : (oneB ss a && oneB ss b) = false) (h2 : (atomB ss a && atomB ss b) = false) : exB ss a b = false := by unfold exB; rw [h1, h2]; rfl

/-- Of two expressions: which is more. -/
def CmpK (ss : List Sym) (a b : List Int) (k : Int) : Prop := (a = b ∧ k = 1) ∨ (Mor ss a b ∧ k = 2) ∨ (Mor ss b a ∧ k = 0) ∨ (a ≠ b ∧ ¬ Mor ss a b ∧ ¬ Mor ss b a ∧ k = 3)
def RankPost (ss : List Sym) (a b : List Int) (w : World) (e : Ending) (w' : World) : Prop := ∃ k : Int, e = .returned (.int .i64 k) ∧ CmpK ss a b k ∧ Below w.heap.size w w'
theorem CmpK.cmpR {ss : List Sym} {a b : List Int} {k : Int} (h : CmpK ss a b k) (he : exB ss a b = true) : CmpR ss a b 0 k := .inr ⟨he, rfl, h⟩

set_option maxHeartbeats 1000000 in
theorem rankCmp_any (A A1 A2 : Option Addr) (n c n1 c1 n2 c2 : Nat) (ss : List Sym) (a b : List Int) (w : World) (h : SymsAt w w.heap.size A n ss) (hn : n ≤ maxLen) (hmay : mayB ss = true) (ha : ExAt w w.heap.size A1 n1 c1 a) (hm1 : n1 ≤ maxLen) (hb : ExAt w w.heap.size A2 n2 c2 b) (hm2 : n2 ≤ maxLen) (exa : Ex ss a) (exb : Ex ss b) :
    Calls Try.prog 37 #[.slice A n c, .slice A1 n1 c1, .slice A2 n2 c2] w (RankPost ss a b w) := by
  have HMAY := Lib.hid hmay
  have HXA := Lib.hid exa
  have HXB := Lib.hid exb
  have HS3 := Lib.hid h
  have HA3 := Lib.hid ha
  have HB3 := Lib.hid hb
  clear hmay exa exb h ha hb
  go_enter Try.func37, Try.ntmps37
  go_wp2_with fail
  refine (equal_any A1 A2 n1 c1 n2 c2 _ _ a b _ HA3.out.at_ HB3.out.at_ hm1 hm2).mono ?_
  rintro e w4 ⟨rfl, hb4⟩
  have HS4 := Lib.hid (HS3.out.on hb4)
  have HA4 := Lib.hid (HA3.out.on hb4)
  have HB4 := Lib.hid (HB3.out.on hb4)
  have HW4 := Lib.hid hb4
  clear HS3 HA3 HB3 hb4
  cases hsm : sameI a b
  · have HNE : Hid (a ≠ b) := by intro e; rw [e, sameI_self] at hsm; cases hsm
    clear hsm
    go_wp2_with fail
    refine (more_any A A1 A2 n c n1 c1 n2 c2 ss a b w4 HS4.out hn HMAY.out HA4.out HB4.out HXA.out HXB.out HNE.out).mono ?_
    rintro e w5 ⟨rfl, hb5⟩
    have HS5 := Lib.hid (HS4.out.on hb5)
    have HA5 := Lib.hid (HA4.out.on hb5)
    have HB5 := Lib.hid (HB4.out.on hb5)
    have HW5 := Lib.hid (HW4.out.trans (hb5.mono HW4.out.size))
    clear HS4 HA4 HB4 HW4 hb5
    cases hm1' : morB ss a b
    · have HM1 := Lib.hid (morB_not hm1')
      clear hm1'
      go_wp2_with fail
      refine (more_any A A2 A1 n c n2 c2 n1 c1 ss b a w5 HS5.out hn HMAY.out HB5.out HA5.out HXB.out HXA.out (fun e => HNE.out e.symm)).mono ?_
      rintro e w6 ⟨rfl, hb6⟩
      have HW6 := Lib.hid (HW5.out.trans (hb6.mono HW5.out.size))
      clear HS5 HA5 HB5 HW5 hb6
      cases hm2' : morB ss b a
      · have HM2 := Lib.hid (morB_not hm2')
        clear hm2'
        go_wp2
        go_ret
        exact ⟨3, rfl, .inr (.inr (.inr ⟨HNE.out, HM1.out, HM2.out, rfl⟩)), HW6.out⟩
      · have HM2 := Lib.hid (morB_iff.1 hm2')
        clear hm2'
        go_wp2
        go_ret
        exact ⟨0, rfl, .inr (.inr (.inl ⟨HM2.out, rfl⟩)), HW6.out⟩
    · have HM1 := Lib.hid (morB_iff.1 hm1')
      clear hm1'
      go_wp2
      go_ret
      exact ⟨2, rfl, .inr (.inl ⟨HM1.out, rfl⟩), HW5.out⟩
  · have HE : Hid (a = b) := by show a = b; unfold sameI at hsm; exact of_decide_eq_true hsm
    clear hsm
    go_wp2
    go_ret
    exact ⟨1, rfl, .inl ⟨HE.out, rfl⟩, HW4.out⟩

set_option maxHeartbeats 1000000 in
theorem compareO_any (A A1 A2 : Option Addr) (n c n1 c1 n2 c2 : Nat) (ss : List Sym) (a b : List Int) (w : World) (h : SymsAt w w.heap.size A n ss) (hn : n ≤ maxLen) (hnc : n ≤ c) (ha : IntsAt w w.heap.size A1 n1 a) (hm1 : n1 ≤ maxLen) (hc1 : n1 ≤ c1) (hb : IntsAt w w.heap.size A2 n2 b) (hm2 : n2 ≤ maxLen) (hc2 : n2 ≤ c2) :
    Calls Try.prog 22 #[.slice A n c, .slice A1 n1 c1, .slice A2 n2 c2] w (OrdPost ss a b w) := by
  go_enter Try.func22, Try.ntmps22
  go_wp2_with fail
  refine (isTerm_any A A1 n c n1 c1 ss a w h hn hnc ha hm1).mono ?_
  rintro e w1 ⟨rfl, hb1⟩
  have HS1 := Lib.hid (h.on hb1)
  have HA1 := Lib.hid (ha.on hb1)
  have HB1 := Lib.hid (hb.on hb1)
  have HW1 := Lib.hid hb1
  clear h ha hb hb1
  cases ho1 : oneB ss a
  · have H1 := Lib.hid ho1
    clear ho1
    go_wp2_with fail
    refine (isAtom_any A A1 n c n1 c1 ss a w1 HS1.out hn hnc HA1.out hm1 hc1).mono ?_
    rintro e w2 ⟨rfl, hb2⟩
    have HS2 := Lib.hid (HS1.out.on hb2)
    have HA2 := Lib.hid (HA1.out.on hb2)
    have HB2 := Lib.hid (HB1.out.on hb2)
    have HW2 := Lib.hid (HW1.out.trans (hb2.mono HW1.out.size))
    clear HS1 HA1 HB1 HW1 hb2
    cases ha1 : atomB ss a
    · have HNO : Hid (exB ss a b = false) := exB_no (by rw [H1.out]; rfl) (by rw [ha1]; rfl)
      clear ha1
      go_wp2
      go_ret2
      exact OrdPost.bad HNO.out HW2.out
    · have H2 := Lib.hid ha1
      clear ha1
      go_wp2_with fail
      refine (isAtom_any A A2 n c n2 c2 ss b w2 HS2.out hn hnc HB2.out hm2 hc2).mono ?_
      rintro e w3 ⟨rfl, hb3⟩
      have HS3 := Lib.hid (HS2.out.on hb3)
      have HA3 := Lib.hid (HA2.out.on hb3)
      have HB3 := Lib.hid (HB2.out.on hb3)
      have HW3 := Lib.hid (HW2.out.trans (hb3.mono HW2.out.size))
      clear HS2 HA2 HB2 HW2 hb3
      cases ha2 : atomB ss b
      · have HNO : Hid (exB ss a b = false) := exB_no (by rw [H1.out]; rfl) (by rw [ha2, Bool.and_false])
        clear ha2
        go_wp2
        go_ret2
        exact OrdPost.bad HNO.out HW3.out
      · have H3 := Lib.hid ha2
        clear ha2
        have HEX : Hid (exB ss a b = true) := by show exB ss a b = true; unfold exB; rw [H2.out, H3.out]; simp
        have HMAY := Lib.hid (atom_ex H2.out).1
        have HXA := Lib.hid (atom_ex H2.out).2
        have HXB := Lib.hid (atom_ex H3.out).2
        replace HA3 := Lib.hid (ExAt.of_atom HA3.out hc1 H2.out)
        replace HB3 := Lib.hid (ExAt.of_atom HB3.out hc2 H3.out)
        go_wp2_with fail
        refine (rankCmp_any A A1 A2 n c n1 c1 n2 c2 ss a b w3 HS3.out hn HMAY.out HA3.out hm1 HB3.out hm2 HXA.out HXB.out).mono ?_
        rintro e w4 ⟨k, rfl, hk, hb4⟩
        have HK := Lib.hid (hk.cmpR HEX.out)
        have HW4 := Lib.hid (HW3.out.trans (hb4.mono HW3.out.size))
        clear HS3 HA3 HB3 HW3 hb4 hk
        go_wp2
        go_ret2
        exact ⟨k, 0, rfl, HK.out, HW4.out⟩
  · have H1 := Lib.hid ho1
    clear ho1
    go_wp2_with fail
    refine (isTerm_any A A2 n c n2 c2 ss b w1 HS1.out hn hnc HB1.out hm2).mono ?_
    rintro e w3 ⟨rfl, hb3⟩
    have HS3 := Lib.hid (HS1.out.on hb3)
    have HA3 := Lib.hid (HA1.out.on hb3)
    have HB3 := Lib.hid (HB1.out.on hb3)
    have HW3 := Lib.hid (HW1.out.trans (hb3.mono HW1.out.size))
    clear HS1 HA1 HB1 HW1 hb3
    cases ho2 : oneB ss b
    · have HAT : Hid (atomB ss a = false) := by
        cases hat : atomB ss a
        · rfl
        · exact (one_atom H1.out hat).elim
      have HNO : Hid (exB ss a b = false) := exB_no (by rw [ho2, Bool.and_false]) (by rw [HAT.out]; rfl)
      clear ho2
      go_wp2_with fail
      refine (isAtom_any A A1 n c n1 c1 ss a w3 HS3.out hn hnc HA3.out hm1 hc1).mono ?_
      rintro e w4 ⟨rfl, hb4⟩
      have HW4 := Lib.hid (HW3.out.trans (hb4.mono HW3.out.size))
      rw [HAT.out]
      clear HS3 HA3 HB3 HW3 hb4
      go_wp2
      go_ret2
      exact OrdPost.bad HNO.out HW4.out
    · have H3 := Lib.hid ho2
      clear ho2
      have HEX : Hid (exB ss a b = true) := exB_one H1.out H3.out
      have HMAY := Lib.hid (one_trm H1.out).1
      have HXA : Hid (Ex ss a) := .inl (one_trm H1.out).2
      have HXB : Hid (Ex ss b) := .inl (one_trm H3.out).2
      replace HA3 := Lib.hid (ExAt.of_one HA3.out hc1 H1.out)
      replace HB3 := Lib.hid (ExAt.of_one HB3.out hc2 H3.out)
      go_wp2_with fail
      refine (rankCmp_any A A1 A2 n c n1 c1 n2 c2 ss a b w3 HS3.out hn HMAY.out HA3.out hm1 HB3.out hm2 HXA.out HXB.out).mono ?_
      rintro e w4 ⟨k, rfl, hk, hb4⟩
      have HK := Lib.hid (hk.cmpR HEX.out)
      have HW4 := Lib.hid (HW3.out.trans (hb4.mono HW3.out.size))
      clear HS3 HA3 HB3 HW3 hb4 hk
      go_wp2
      go_ret2
      exact ⟨k, 0, rfl, HK.out, HW4.out⟩
end Go.Proofs.Ytiekgdohanahlaa
