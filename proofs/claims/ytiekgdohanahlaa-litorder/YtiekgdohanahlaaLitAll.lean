/-
  Contracts: lit.May, lit.Weight, lit.compare, lit.Compare.
-/
import Derived.Test.YtiekgdohanahlaaOrderCmp
import Derived.Test.YtiekgdohanahlaaMemLits
namespace Go.Proofs.Ytiekgdohanahlaa
open Go.RowKit
set_option linter.unusedSimpArgs false
set_option linter.unusedVariables false
set_option maxRecDepth 100000

/-- Which of two literals is more, told by a number. -/
def LitKR (ss : List Sym) (p q : Lt) (k : Int) : Prop := (p = q ∧ k = 1) ∨ (LMor ss p q ∧ k = 2) ∨ (LMor ss q p ∧ k = 0) ∨ (p.atom ≠ q.atom ∧ ¬ LMor ss p q ∧ ¬ LMor ss q p ∧ k = 3)
theorem LitKR.litR {ss : List Sym} {p q : Lt} {k : Int} (h : LitKR ss p q k) (hp : litB ss p = true) (hq : litB ss q = true) : LitR ss p q 0 k := .inr ⟨by rw [hp, hq]; rfl, rfl, h⟩
theorem LitR.kr {ss : List Sym} {p q : Lt} {k : Int} (h : LitR ss p q 0 k) : LitKR ss p q k := by
  rcases h with ⟨_, h, _⟩ | ⟨_, _, h⟩
  · cases h
  · exact h
def LitKPost (ss : List Sym) (p q : Lt) (w : World) (e : Ending) (w' : World) : Prop := ∃ k : Int, e = .returned (.int .i64 k) ∧ LitKR ss p q k ∧ Below w.heap.size w w'
def LitCPost (ss : List Sym) (p q : Lt) (w : World) (e : Ending) (w' : World) : Prop := ∃ k E : Int, e = .returned (.tuple #[.int .i64 k, .int .i64 E]) ∧ LitR ss p q E k ∧ Below w.heap.size w w'
def litW (ss : List Sym) (p : Lt) : Int := if litB ss p then wtSum ss p.atom else 0
def litE (ss : List Sym) (p : Lt) : Int := if litB ss p then 0 else 700
/-- A literal as a value: its atom in memory. -/
structure LitAt (w : World) (B : Nat) (A : Option Addr) (m c : Nat) (p : Lt) : Prop where
  at_ : IntsAt w B A m p.atom
  cap : m ≤ c
  fit : m * 8 ≤ 140737488351232
section
variable {w w' : World} {B B' m c : Nat} {A : Option Addr} {p : Lt} {ss : List Sym}
theorem LitAt.on (h : LitAt w w.heap.size A m c p) (hb : Below w.heap.size w w') : LitAt w' w'.heap.size A m c p := ⟨h.at_.on hb, h.cap, h.fit⟩
theorem LitAt.new (h : LitAt w w.heap.size A m c p) (o : Obj) : LitAt (w.alloc o) (w.alloc o).heap.size A m c p := h.on (below_new w o)
theorem LitAt.more (h : LitAt w B A m c p) (hB : B ≤ B') : LitAt w B' A m c p := ⟨h.at_.more hB, h.cap, h.fit⟩
theorem LitAt.below (h : LitAt w B A m c p) (hb : Below B w w') : LitAt w' B A m c p := ⟨h.at_.below hb, h.cap, h.fit⟩
theorem LitAt.big (h : LitAt w B A m c p) : m ≤ maxLen := by have := h.fit; unfold maxLen; omega
theorem LitAt.ex (h : LitAt w B A m c p) (hp : litB ss p = true) : ExAt w B A m c p.atom := ExAt.of_atom h.at_ h.cap hp
theorem two_boxes (w : World) (a b : Array Value) (t : TypeId) : (∀ i, i < a.size → ((w.alloc (.cells a t)).alloc (.cells b t)).cell? ⟨w.heap.size, i, none⟩ = a[i]?) ∧ (∀ i, ((w.alloc (.cells a t)).alloc (.cells b t)).cell? ⟨w.heap.size + 1, i, none⟩ = b[i]?) ∧ ((w.alloc (.cells a t)).alloc (.cells b t)).heap.size = w.heap.size + 2 := by
  refine ⟨fun i hi => ?_, fun i => ?_, by simp⟩
  · rw [(below_new (w.alloc (.cells a t)) _).cell (p := ⟨w.heap.size, i, none⟩) (by simp), World.cell?_alloc_new]
  · have e : (w.alloc (.cells a t)).heap.size = w.heap.size + 1 := by simp
    rw [← e, World.cell?_alloc_new]
theorem LitAt.few (h : LitAt w B A m c p) (hp : litB ss p = true) : m ≤ 49 := (h.ex hp).few
end
set_option maxHeartbeats 1000000 in
theorem litMay_any (A A' : Option Addr) (n c m c' : Nat) (ss : List Sym) (p : Lt) (w : World) (h : SymsAt w w.heap.size A n ss) (hn : n ≤ maxLen) (hnc : n ≤ c) (hr : LitAt w w.heap.size A' m c' p) :
    Calls Try.prog 14 #[.slice A n c, .agg #[.bool p.neg, .slice A' m c']] w fun e w' => e = .returned (.bool (litB ss p)) ∧ Below w.heap.size w w' := by
  have HR := Lib.hid hr
  have HS := Lib.hid h
  clear h hr
  go_enter Try.func14, Try.ntmps14
  go_wp2_with fail
  have hb0 := below_new w (.cells #[.bool p.neg, .slice A' m c'] 25)
  refine (isAtom_any A A' n c m c' ss p.atom _ (HS.out.on hb0) hn hnc (HR.out.at_.on hb0) HR.out.big HR.out.cap).mono ?_
  rintro e w1 ⟨rfl, hb1⟩
  have HB1 := Lib.hid (hb0.trans (hb1.mono hb0.size))
  clear hb1 hb0
  go_wp2
  go_ret
  exact ⟨rfl, HB1.out⟩

set_option maxHeartbeats 1000000 in
theorem litWeight_any (A A' : Option Addr) (n c m c' : Nat) (ss : List Sym) (p : Lt) (w : World) (h : SymsAt w w.heap.size A n ss) (hn : n ≤ maxLen) (hnc : n ≤ c) (hr : LitAt w w.heap.size A' m c' p) :
    Calls Try.prog 10 #[.slice A n c, .agg #[.bool p.neg, .slice A' m c']] w fun e w' => e = .returned (.tuple #[.int .i64 (litW ss p), .int .i64 (litE ss p)]) ∧ Below w.heap.size w w' := by
  have HR := Lib.hid hr
  have HS := Lib.hid h
  clear h hr
  go_enter Try.func10, Try.ntmps10
  go_wp2_with fail
  have hb0 := below_new w (.cells #[.bool p.neg, .slice A' m c'] 25)
  have hc0 : (w.alloc (.cells #[.bool p.neg, .slice A' m c'] 25)).cell? ⟨w.heap.size, 1, none⟩ = some (.slice A' m c') := by rw [World.cell?_alloc_new]; rfl
  refine (litMay_any A A' n c m c' ss p _ (HS.out.on hb0) hn hnc (HR.out.on hb0)).mono ?_
  rintro e w1 ⟨rfl, hb1⟩
  have hc1 : w1.cell? ⟨w.heap.size, 1, none⟩ = some (.slice A' m c') := by rw [hb1.cell (p := ⟨w.heap.size, 1, none⟩) (by simp)]; exact hc0
  have hb2 := hb0.trans (hb1.mono hb0.size)
  have HS1 := Lib.hid (HS.out.on hb2)
  have HR1 := Lib.hid (HR.out.on hb2)
  have HB1 := Lib.hid hb2
  clear hb0 hb1 hb2 hc0
  cases hp : litB ss p
  · have H1 : Hid (litW ss p = 0) := by show litW ss p = 0; unfold litW; rw [hp]; rfl
    have H2 : Hid (litE ss p = 700) := by show litE ss p = 700; unfold litE; rw [hp]; rfl
    clear hp
    go_wp2
    go_ret2
    exact ⟨by rw [H1.out, H2.out]; rfl, HB1.out⟩
  · have H1 : Hid (litW ss p = wtSum ss p.atom) := by show litW ss p = _; unfold litW; rw [hp]; rfl
    have H2 : Hid (litE ss p = 0) := by show litE ss p = 0; unfold litE; rw [hp]; rfl
    have HP := Lib.hid hp
    clear hp
    go_wp2_with fail
    refine (weightO_any A A' n c m c' _ _ ss p.atom w1 HS1.out HR1.out.at_ (atom_ex HP.out).1 ((atom_ex HP.out).2.codes (atom_ex HP.out).1) (HR1.out.few HP.out)).mono ?_
    rintro e w2 ⟨rfl, rfl⟩
    go_wp2
    go_ret2
    exact ⟨by rw [H1.out, H2.out]; rfl, HB1.out⟩

set_option maxHeartbeats 1000000 in
theorem litcompare_any (A A1 A2 : Option Addr) (n c n1 c1 n2 c2 : Nat) (ss : List Sym) (p q : Lt) (w : World) (h : SymsAt w w.heap.size A n ss) (hn : n ≤ maxLen) (h1 : LitAt w w.heap.size A1 n1 c1 p) (h2 : LitAt w w.heap.size A2 n2 c2 q) (hp : litB ss p = true) (hq : litB ss q = true) :
    Calls Try.prog 26 #[.slice A n c, .agg #[.bool p.neg, .slice A1 n1 c1], .agg #[.bool q.neg, .slice A2 n2 c2]] w (LitKPost ss p q w) := by
  have H1 := Lib.hid h1
  have H2 := Lib.hid h2
  have HP := Lib.hid hp
  have HQ := Lib.hid hq
  have HS := Lib.hid h
  clear h h1 h2 hp hq
  go_enter Try.func26, Try.ntmps26
  go_wp2_with fail
  have hb0 := (below_new w (.cells #[.bool p.neg, .slice A1 n1 c1] 25)).trans ((below_new (w.alloc (.cells #[.bool p.neg, .slice A1 n1 c1] 25)) (.cells #[.bool q.neg, .slice A2 n2 c2] 25)).mono (by simp))
  obtain ⟨w0, hw0⟩ : ∃ w0, w0 = (w.alloc (.cells #[.bool p.neg, .slice A1 n1 c1] 25)).alloc (.cells #[.bool q.neg, .slice A2 n2 c2] 25) := ⟨_, rfl⟩
  have k0 : w0.cell? ⟨w.heap.size, 0, none⟩ = some (.bool p.neg) := by
    rw [hw0, (below_new (w.alloc (.cells #[.bool p.neg, .slice A1 n1 c1] 25)) _).cell (p := ⟨w.heap.size, 0, none⟩) (by simp), World.cell?_alloc_new]; rfl
  have k1 : w0.cell? ⟨w.heap.size + 1, 0, none⟩ = some (.bool q.neg) := by
    have e : (w.alloc (.cells #[.bool p.neg, .slice A1 n1 c1] 25)).heap.size = w.heap.size + 1 := by simp
    rw [hw0, ← e, World.cell?_alloc_new]; rfl
  have ks : w0.heap.size = w.heap.size + 2 := by rw [hw0]; simp
  rw [← hw0] at hb0 ⊢
  refine (rankCmp_any A A1 A2 n c n1 c1 n2 c2 ss p.atom q.atom w0 (HS.out.on hb0) hn (atom_ex HP.out).1 ((H1.out.on hb0).ex HP.out) H1.out.big ((H2.out.on hb0).ex HQ.out) H2.out.big (atom_ex HP.out).2 (atom_ex HQ.out).2).mono ?_
  rintro e w1 ⟨k, rfl, hk, hb1⟩
  have c0 : w1.cell? ⟨w.heap.size, 0, none⟩ = some (.bool p.neg) := by rw [hb1.cell (p := ⟨w.heap.size, 0, none⟩) (by show w.heap.size < _; omega)]; exact k0
  have c1 : w1.cell? ⟨w.heap.size + 1, 0, none⟩ = some (.bool q.neg) := by rw [hb1.cell (p := ⟨w.heap.size + 1, 0, none⟩) (by show w.heap.size + 1 < _; omega)]; exact k1
  have HK := Lib.hid (LitR.of_cmp HP.out HQ.out (hk.cmpR (exB_atoms HP.out HQ.out))).kr
  have HB1 := Lib.hid (hb0.trans (hb1.mono hb0.size))
  clear hb0 hb1 k0 k1 ks hw0 hk
  by_cases hk1 : k = 1
  · subst hk1
    obtain ⟨np, hnp⟩ : ∃ np, np = p.neg := ⟨_, rfl⟩
    obtain ⟨nq, hnq⟩ : ∃ nq, nq = q.neg := ⟨_, rfl⟩
    have HNP := Lib.hid hnp
    have HNQ := Lib.hid hnq
    rw [← hnp] at c0
    rw [← hnq] at c1
    have HE : Hid (litK p q 1 = if np ≠ nq then (if np = true then 2 else 0) else 1) := by show litK p q 1 = _; unfold litK; rw [hnp, hnq]; simp
    clear hnp hnq
    cases np <;> cases nq <;> go_wp2 <;> go_ret
    all_goals exact ⟨_, rfl, by have := HK.out; rw [HE.out] at this; exact this, HB1.out⟩
  · have HE : Hid (litK p q k = k) := by show litK p q k = k; unfold litK; rw [if_neg (fun x => hk1 x.1)]
    have hk2 : (k != 1) = true := by simpa using hk1
    clear hk1
    go_wp2
    go_ret
    exact ⟨_, rfl, by have := HK.out; rw [HE.out] at this; exact this, HB1.out⟩

set_option maxHeartbeats 1000000 in
theorem litCompare_any (A A1 A2 : Option Addr) (n c n1 c1 n2 c2 : Nat) (ss : List Sym) (p q : Lt) (w : World) (h : SymsAt w w.heap.size A n ss) (hn : n ≤ maxLen) (hnc : n ≤ c) (h1 : LitAt w w.heap.size A1 n1 c1 p) (h2 : LitAt w w.heap.size A2 n2 c2 q) :
    Calls Try.prog 12 #[.slice A n c, .agg #[.bool p.neg, .slice A1 n1 c1], .agg #[.bool q.neg, .slice A2 n2 c2]] w (LitCPost ss p q w) := by
  have H1 := Lib.hid h1
  have H2 := Lib.hid h2
  have HS := Lib.hid h
  clear h h1 h2
  go_enter Try.func12, Try.ntmps12
  go_wp2_with fail
  have hb0 := (below_new w (.cells #[.bool p.neg, .slice A1 n1 c1] 25)).trans ((below_new (w.alloc (.cells #[.bool p.neg, .slice A1 n1 c1] 25)) (.cells #[.bool q.neg, .slice A2 n2 c2] 25)).mono (by simp))
  obtain ⟨w0, hw0⟩ : ∃ w0, w0 = (w.alloc (.cells #[.bool p.neg, .slice A1 n1 c1] 25)).alloc (.cells #[.bool q.neg, .slice A2 n2 c2] 25) := ⟨_, rfl⟩
  have HBX := Lib.hid (two_boxes w #[.bool p.neg, .slice A1 n1 c1] #[.bool q.neg, .slice A2 n2 c2] 25)
  rw [← hw0] at hb0 HBX ⊢
  clear hw0
  refine (litMay_any A A1 n c n1 c1 ss p w0 (HS.out.on hb0) hn hnc (H1.out.on hb0)).mono ?_
  rintro e w1 ⟨rfl, hb1⟩
  have hz : w0.heap.size = w.heap.size + 2 := HBX.out.2.2
  have HX1 : Hid (w1.cell? ⟨w.heap.size, 0, none⟩ = some (.bool p.neg) ∧ w1.cell? ⟨w.heap.size, 1, none⟩ = some (.slice A1 n1 c1)) := by
    constructor
    · rw [hb1.cell (p := ⟨w.heap.size, 0, none⟩) (by show w.heap.size < _; omega), HBX.out.1 0 (by simp)]; rfl
    · rw [hb1.cell (p := ⟨w.heap.size, 1, none⟩) (by show w.heap.size < _; omega), HBX.out.1 1 (by simp)]; rfl
  have y0 : w1.cell? ⟨w.heap.size + 1, 0, none⟩ = some (.bool q.neg) := by rw [hb1.cell (p := ⟨w.heap.size + 1, 0, none⟩) (by show w.heap.size + 1 < _; omega), HBX.out.2.1 0]; rfl
  have y1 : w1.cell? ⟨w.heap.size + 1, 1, none⟩ = some (.slice A2 n2 c2) := by rw [hb1.cell (p := ⟨w.heap.size + 1, 1, none⟩) (by show w.heap.size + 1 < _; omega), HBX.out.2.1 1]; rfl
  have hb2 := hb0.trans (hb1.mono hb0.size)
  have HZ1 : Hid (w.heap.size + 2 ≤ w1.heap.size) := by have := hb1.size; show _ ≤ _; omega
  have HS1 := Lib.hid (HS.out.on hb2)
  have HP1 := Lib.hid (H1.out.on hb2)
  have HQ1 := Lib.hid (H2.out.on hb2)
  have HB1 := Lib.hid hb2
  clear hb0 hb1 hb2 HBX hz
  cases hp : litB ss p
  · have HNO : Hid (LitR ss p q 700 0) := .inl ⟨by rw [hp]; rfl, rfl, rfl⟩
    clear hp
    go_wp2
    go_ret2
    exact ⟨0, 700, rfl, HNO.out, HB1.out⟩
  · have HP := Lib.hid hp
    clear hp
    go_wp2_with fail
    refine (litMay_any A A2 n c n2 c2 ss q w1 HS1.out hn hnc HQ1.out).mono ?_
    rintro e w2 ⟨rfl, hb2⟩
    have u0 : w2.cell? ⟨w.heap.size, 0, none⟩ = some (.bool p.neg) := by rw [hb2.cell (p := ⟨w.heap.size, 0, none⟩) (by have := HZ1.out; show w.heap.size < _; omega)]; exact HX1.out.1
    have u1 : w2.cell? ⟨w.heap.size, 1, none⟩ = some (.slice A1 n1 c1) := by rw [hb2.cell (p := ⟨w.heap.size, 1, none⟩) (by have := HZ1.out; show w.heap.size < _; omega)]; exact HX1.out.2
    have v0 : w2.cell? ⟨w.heap.size + 1, 0, none⟩ = some (.bool q.neg) := by rw [hb2.cell (p := ⟨w.heap.size + 1, 0, none⟩) (by have := HZ1.out; show w.heap.size + 1 < _; omega)]; exact y0
    have v1 : w2.cell? ⟨w.heap.size + 1, 1, none⟩ = some (.slice A2 n2 c2) := by rw [hb2.cell (p := ⟨w.heap.size + 1, 1, none⟩) (by have := HZ1.out; show w.heap.size + 1 < _; omega)]; exact y1
    have HS2 := Lib.hid (HS1.out.on hb2)
    have HP2 := Lib.hid (HP1.out.on hb2)
    have HQ2 := Lib.hid (HQ1.out.on hb2)
    have HB2 := Lib.hid (HB1.out.trans (hb2.mono HB1.out.size))
    clear hb2 y0 y1 HX1
    cases hq : litB ss q
    · have HNO : Hid (LitR ss p q 700 0) := .inl ⟨by rw [hq, Bool.and_false], rfl, rfl⟩
      clear hq
      go_wp2
      go_ret2
      exact ⟨0, 700, rfl, HNO.out, HB2.out⟩
    · have HQ := Lib.hid hq
      clear hq
      go_wp2_with fail
      refine (litcompare_any A A1 A2 n c n1 c1 n2 c2 ss p q w2 HS2.out hn HP2.out HQ2.out HP.out HQ.out).mono ?_
      rintro e w3 ⟨k, rfl, hk, hb3⟩
      have HK := Lib.hid (hk.litR HP.out HQ.out)
      have HB3 := Lib.hid (HB2.out.trans (hb3.mono HB2.out.size))
      clear hk hb3
      go_wp2
      go_ret2
      exact ⟨k, 0, rfl, HK.out, HB3.out⟩
end Go.Proofs.Ytiekgdohanahlaa
