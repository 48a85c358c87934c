/-
  Contracts: shape.IsAtom, rank.Compare, order.Compare.
-/
import Derived.Test.YtcjpopjcpgipjaaDoorOrderMore
namespace Go.Proofs.YtcjpopjcpgipjaaDoor
open Go.RowKit
set_option linter.unusedSimpArgs false
set_option linter.unusedVariables false
set_option maxRecDepth 100000

theorem atomB_cons {ss : List Sym} {c : Int} {r : List Int} : atomB ss (c :: r) = (decide (0 ≤ c) && decide (c.toNat < ss.length) && decide ((symAt ss c.toNat).kind = 0) && rowB ss r && decide (((tlD ss r).length : Int) = (symAt ss c.toNat).arity)) := rfl
/-- A row behind its first code. -/
theorem IntsAt.tail1 {w : World} {B b off n c : Nat} {x : Int} {r : List Int} (h : IntsAt w B (some ⟨b, off, none⟩) n (x :: r)) (hc : n ≤ c) :
    IntsAt w B (if c = 1 then some ⟨b, off, none⟩ else some ⟨b, off + 1, none⟩) (n - 1) r := by
  have hl := h.len
  have hn : n = r.length + 1 := by rw [← hl]; rfl
  by_cases e : c = 1
  · rw [if_pos e]
    have hr : r = [] := List.length_eq_zero_iff.1 (by omega)
    subst hr
    exact ⟨by simp; omega, fun hp => absurd hp (by simp at hn; omega)⟩
  · rw [if_neg e]
    exact h.drop (k := 1) (by omega)

set_option maxHeartbeats 1000000 in
theorem isAtom_any (A A' : Option Addr) (n c m c' : Nat) (ss : List Sym) (r : List Int) (w : World) (h : SymsAt w w.heap.size A n ss) (hn : n ≤ maxLen) (hnc : n ≤ c) (hr : IntsAt w w.heap.size A' m r) (hm : m ≤ maxLen) (hmc : m ≤ c') :
    Calls Tryd.prog 92 #[.slice A n c, .slice A' m c'] w fun e w' => e = .returned (.bool (atomB ss r)) ∧ Below w.heap.size w w' := by
  have hm0 := hm
  have hn0 := hn
  unfold maxLen at hm hn
  cases r with
  | nil =>
    have hl := hr.len
    obtain rfl : m = 0 := by rw [← hl]; rfl
    go_enter Tryd.func92, Tryd.ntmps92
    go_wp2
    go_ret
    exact ⟨rfl, Below.refl _ _⟩
  | cons x r =>
    have hl := hr.len
    have hml : m = r.length + 1 := by rw [← hl]; rfl
    obtain ⟨b, off, rfl, hb, hc⟩ := hr.at_ (by omega)
    have hcx : w.cell? ⟨b, off, none⟩ = some (.int .i64 x) := by have := hc 0 (by omega); rw [Nat.add_zero] at this; exact this
    have HR := Lib.hid hr
    have HS := Lib.hid h
    have HL := Lib.hid h.len
    have HMC := Lib.hid hmc
    have z0 : ¬ m = 0 := by omega
    have z1 : 1 ≤ m := by omega
    have z2 : 1 ≤ c' := by omega
    clear hc hr hl hml
    by_cases hx : x < 0
    · have H : Hid (atomB ss (x :: r) = false) := by show atomB ss (x :: r) = false; rw [atomB_cons, decide_eq_false (by omega)]; simp
      go_enter Tryd.func92, Tryd.ntmps92
      go_wp2
      go_ret
      exact ⟨ret_b H.out.symm, Below.refl _ _⟩
    · obtain ⟨q, hq⟩ : ∃ q : Nat, x = (q : Int) := ⟨x.toNat, by omega⟩
      subst hq
      by_cases hqn : n ≤ q
      · have H : Hid (atomB ss ((q : Int) :: r) = false) := by
          show atomB ss ((q : Int) :: r) = false
          have : decide ((q : Int).toNat < ss.length) = false := decide_eq_false (by rw [HL.out, Int.toNat_natCast]; omega)
          rw [atomB_cons, this]; simp
        have y1 : (n : Int) ≤ (q : Int) := by omega
        clear hx
        go_enter Tryd.func92, Tryd.ntmps92
        go_wp2
        go_ret
        exact ⟨ret_b H.out.symm, Below.refl _ _⟩
      · obtain ⟨b2, off2, rfl, hb2, hc2⟩ := h.at_ (by omega)
        obtain ⟨_, k1, k2, _⟩ := hc2 q (by omega)
        have HK2 := Lib.hid k2
        have y1 : ¬ (n : Int) ≤ (q : Int) := by omega
        have y2 : q < n := by omega
        have y3 : (q : Int) < (n : Int) := by omega
        have y4 : ((m : Int) == 0) = false := by simp; omega
        have y5 : decide ((q : Int) < 0) = false := by simp
        have y6 : decide ((n : Int) ≤ (q : Int)) = false := by simp; omega
        clear hc2 k2 hqn hx h
        by_cases hk : (symAt ss q).kind = 0
        · have hk' : ((symAt ss q).kind != 0) = false := by simp [hk]
          have HKD := Lib.hid hk
          rw [hk] at k1
          clear hk hk'
          have HT := Lib.hid (HR.out.tail1 HMC.out)
          obtain ⟨At, hAt⟩ : ∃ At, (if c' = 1 then some ⟨b, off, none⟩ else some ⟨b, off + 1, none⟩ : Option Addr) = At := ⟨_, rfl⟩
          rw [hAt] at HT
          go_enter Tryd.func92, Tryd.ntmps92
          go_wp2_with fail
          refine (row_any _ At n c (m - 1) (c' - 1) ss r _ HS.out hn0 hnc HT.out (by unfold maxLen; omega)).mono ?_
          rintro e w1 ⟨rfl, hb1⟩
          have HB1 := Lib.hid hb1
          have j1 : w1.cell? ⟨b, off, none⟩ = some (.int .i64 (q : Int)) := by rw [hb1.cell (p := ⟨b, off, none⟩) hb]; exact hcx
          have j2 : w1.cell? ⟨b2, off2 + q * 4 + 2, none⟩ = some (.int .i64 (symAt ss q).arity) := by rw [hb1.cell (p := ⟨b2, off2 + q * 4 + 2, none⟩) hb2]; exact HK2.out
          clear hb1 hcx k1 hAt
          cases hrb : rowB ss r
          · have he := rowE_no hrb
            have H : Hid (atomB ss ((q : Int) :: r) = false) := by show atomB ss ((q : Int) :: r) = false; rw [atomB_cons, hrb]; simp
            rw [he]
            clear he hrb
            go_wp2
            go_ret
            exact ⟨ret_b H.out.symm, HB1.out⟩
          · have he := rowE_yes hrb
            have hkk := rowK_yes hrb
            have H : Hid (atomB ss ((q : Int) :: r) = decide (((tlD ss r).length : Int) = (symAt ss q).arity)) := by
              show atomB ss ((q : Int) :: r) = _
              rw [atomB_cons, hrb, Int.toNat_natCast, decide_eq_true HKD.out, decide_eq_true (by omega : (0 : Int) ≤ (q : Int)), decide_eq_true (by rw [HL.out]; exact y2)]
              simp
            obtain ⟨K, hK⟩ : ∃ K : Int, K = ((tlD ss r).length : Int) := ⟨_, rfl⟩
            obtain ⟨R, hR⟩ : ∃ R : Int, R = (symAt ss q).arity := ⟨_, rfl⟩
            rw [← hK, ← hR] at H
            rw [← hK] at hkk
            rw [← hR] at j2
            rw [he, hkk]
            clear he hkk hrb hK hR
            go_wp2
            go_ret
            exact ⟨ret_b (by rw [H.out]; rfl), HB1.out⟩
        · have H : Hid (atomB ss ((q : Int) :: r) = false) := by
            show atomB ss ((q : Int) :: r) = false
            have : decide ((symAt ss (q : Int).toNat).kind = 0) = false := decide_eq_false (by rw [Int.toNat_natCast]; exact hk)
            rw [atomB_cons, this]; simp
          have hk' : ((symAt ss q).kind != 0) = true := by simpa using hk
          go_enter Tryd.func92, Tryd.ntmps92
          go_wp2
          go_ret
          exact ⟨ret_b H.out.symm, Below.refl _ _⟩

/-- What Compare answers. -/
def OrdPost (ss : List Sym) (a b : List Int) (w : World) (e : Ending) (w' : World) : Prop :=
  ∃ k E : Int, e = .returned (.tuple #[.int .i64 k, .int .i64 E]) ∧ CmpR ss a b E k ∧ Below w.heap.size w w'
theorem ExAt.on {w w' : World} {A : Option Addr} {n c : Nat} {a : List Int} (h : ExAt w w.heap.size A n c a) (hb : Below w.heap.size w w') : ExAt w' w'.heap.size A n c a := ⟨h.at_.on hb, h.cap, h.few⟩
theorem ExAt.of_one {w : World} {base : Nat} {A : Option Addr} {n c : Nat} {a : List Int} {ss : List Sym} (h : IntsAt w base A n a) (hc : n ≤ c) (ho : oneB ss a = true) : ExAt w base A n c a := by
  have hl := h.len
  have := (row_parts (one_parts ho).1).2.1
  exact ⟨h, hc, by omega⟩
theorem ExAt.of_atom {w : World} {base : Nat} {A : Option Addr} {n c : Nat} {a : List Int} {ss : List Sym} (h : IntsAt w base A n a) (hc : n ≤ c) (ho : atomB ss a = true) : ExAt w base A n c a := by
  have hl := h.len
  obtain ⟨c0, r, rfl, _, _, _, h5, _⟩ := atom_parts ho
  have := (row_parts h5).2.1
  simp at hl
  exact ⟨h, hc, by omega⟩
theorem OrdPost.bad {ss : List Sym} {a b : List Int} {w w' : World} (h : exB ss a b = false) (hb : Below w.heap.size w w') : OrdPost ss a b w (.returned (.tuple #[.int .i64 0, .int .i64 600])) w' :=
  ⟨0, 600, rfl, .inl ⟨h, rfl, rfl⟩, hb⟩
theorem exB_no {ss : List Sym} {a b : List Int} (h1 : (oneB ss a && oneB ss b) = false) (h2 : (atomB ss a && atomB ss b) = false) : exB ss a b = false := by unfold exB; rw [h1, h2]; rfl

/-- Of two expressions: which is more. -/
def CmpK (ss : List Sym) (a b : List Int) (k : Int) : Prop := (a = b ∧ k = 1) ∨ (Mor ss a b ∧ k = 2) ∨ (Mor ss b a ∧ k = 0) ∨ (a ≠ b ∧ ¬ Mor ss a b ∧ ¬ Mor ss b a ∧ k = 3)
def RankPost (ss : List Sym) (a b : List Int) (w : World) (e : Ending) (w' : World) : Prop := ∃ k : Int, e = .returned (.int .i64 k) ∧ CmpK ss a b k ∧ Below w.heap.size w w'
theorem CmpK.cmpR {ss : List Sym} {a b : List Int} {k : Int} (h : CmpK ss a b k) (he : exB ss a b = true) : CmpR ss a b 0 k := .inr ⟨he, rfl, h⟩

end Go.Proofs.YtcjpopjcpgipjaaDoor
