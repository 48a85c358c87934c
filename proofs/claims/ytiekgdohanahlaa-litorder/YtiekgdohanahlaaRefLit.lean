/-
  Contracts of quaereref8: LitMay, LitWeight, which, LitCompare.
-/
import Derived.Test.YtiekgdohanahlaaLitAll
import Derived.Test.YtiekgdohanahlaaRefWhich
namespace Go.Proofs.Ytiekgdohanahlaa
open Go.RowKit
set_option linter.unusedSimpArgs false
set_option linter.unusedVariables false
set_option maxRecDepth 100000

set_option maxHeartbeats 1000000 in
theorem refLitMay_any (A A' : Option Addr) (n c m c' : Nat) (ss : List Sym) (p : Lt) (w : World) (h : SymsAt w w.heap.size A n ss) (hn : n ≤ maxLen) (hnc : n ≤ c) (hr : LitAt w w.heap.size A' m c' p) :
    Calls Try.prog 15 #[.slice A n c, .agg #[.bool p.neg, .slice A' m c']] w fun e w' => e = .returned (.bool (litB ss p)) ∧ Below w.heap.size w w' := by
  have HR := Lib.hid hr
  have HS := Lib.hid h
  clear h hr
  go_enter Try.func15, Try.ntmps15
  go_wp2_with fail
  have hb0 := below_new w (.cells #[.bool p.neg, .slice A' m c'] 25)
  have hc0 : (w.alloc (.cells #[.bool p.neg, .slice A' m c'] 25)).cell? ⟨w.heap.size, 1, none⟩ = some (.slice A' m c') := by rw [World.cell?_alloc_new]; rfl
  refine (signMay_any A n c ss _ (HS.out.on hb0) hn).mono ?_
  rintro e w1 ⟨rfl, hb1⟩
  have hc1 : w1.cell? ⟨w.heap.size, 1, none⟩ = some (.slice A' m c') := by rw [hb1.cell (p := ⟨w.heap.size, 1, none⟩) (by simp)]; exact hc0
  have hb2 := hb0.trans (hb1.mono hb0.size)
  have HS1 := Lib.hid (HS.out.on hb2)
  have HR1 := Lib.hid (HR.out.on hb2)
  have HB1 := Lib.hid hb2
  clear hb0 hb1 hb2 hc0
  cases hp : mayB ss
  · have H1 : Hid (litB ss p = false) := by
      show litB ss p = false
      cases hl : litB ss p
      · rfl
      · have := (atom_ex hl).1; rw [hp] at this; cases this
    clear hp
    go_wp2
    go_ret
    exact ⟨ret_b H1.out.symm, HB1.out⟩
  · have HP := Lib.hid hp
    clear hp
    go_wp2_with fail
    refine (refIsAtom_any A A' n c m c' ss p.atom w1 HS1.out hn HR1.out.at_ HR1.out.big HR1.out.cap HP.out).mono ?_
    rintro e w2 ⟨rfl, hb2⟩
    have HB2 := Lib.hid (HB1.out.trans (hb2.mono HB1.out.size))
    clear hb2
    go_wp2
    go_ret
    exact ⟨rfl, HB2.out⟩

set_option maxHeartbeats 1000000 in
theorem refLitWeight_any (A A' : Option Addr) (n c m c' : Nat) (ss : List Sym) (p : Lt) (w : World) (h : SymsAt w w.heap.size A n ss) (hn : n ≤ maxLen) (hnc : n ≤ c) (hr : LitAt w w.heap.size A' m c' p) :
    Calls Try.prog 11 #[.slice A n c, .agg #[.bool p.neg, .slice A' m c']] w fun e w' => e = .returned (.tuple #[.int .i64 (litW ss p), .int .i64 (litE ss p)]) ∧ Below w.heap.size w w' := by
  have HR := Lib.hid hr
  have HS := Lib.hid h
  clear h hr
  go_enter Try.func11, Try.ntmps11
  go_wp2_with fail
  have hb0 := below_new w (.cells #[.bool p.neg, .slice A' m c'] 25)
  have hc0 : (w.alloc (.cells #[.bool p.neg, .slice A' m c'] 25)).cell? ⟨w.heap.size, 1, none⟩ = some (.slice A' m c') := by rw [World.cell?_alloc_new]; rfl
  refine (refLitMay_any A A' n c m c' ss p _ (HS.out.on hb0) hn hnc (HR.out.on hb0)).mono ?_
  rintro e w1 ⟨rfl, hb1⟩
  have hc1 : w1.cell? ⟨w.heap.size, 1, none⟩ = some (.slice A' m c') := by rw [hb1.cell (p := ⟨w.heap.size, 1, none⟩) (by simp)]; exact hc0
  have hb2 := hb0.trans (hb1.mono hb0.size)
  have HS1 := Lib.hid (HS.out.on hb2)
  have HR1 := Lib.hid (HR.out.on hb2)
  have HB1 := Lib.hid hb2
  clear hb0 hb1 hb2 hc0
  cases hp : litB ss p
  · have H1 : Hid (litW ss p = 0) := by show litW ss p = 0; unfold litW; rw [hp]; rfl
    have H2 : Hid (litE ss p = 700) := by show litE ss p = 700; unfold litE; rw [hp]; rfl
    clear hp
    go_wp2
    go_ret2
    exact ⟨by rw [H1.out, H2.out]; rfl, HB1.out⟩
  · have H1 : Hid (litW ss p = wtSum ss p.atom) := by show litW ss p = _; unfold litW; rw [hp]; rfl
    have H2 : Hid (litE ss p = 0) := by show litE ss p = 0; unfold litE; rw [hp]; rfl
    have HP := Lib.hid hp
    clear hp
    go_wp2_with fail
    refine (refHeavyO_any A A' n c m c' _ _ ss p.atom w1 HS1.out HR1.out.at_ (atom_ex HP.out).1 ((atom_ex HP.out).2.codes (atom_ex HP.out).1) (HR1.out.few HP.out)).mono ?_
    rintro e w2 ⟨rfl, rfl⟩
    go_wp2
    go_ret2
    exact ⟨by rw [H1.out, H2.out]; rfl, HB1.out⟩

set_option maxHeartbeats 1000000 in
theorem refwhich_any (A A1 A2 : Option Addr) (n c n1 c1 n2 c2 : Nat) (ss : List Sym) (p q : Lt) (w : World) (h : SymsAt w w.heap.size A n ss) (hn : n ≤ maxLen) (h1 : LitAt w w.heap.size A1 n1 c1 p) (h2 : LitAt w w.heap.size A2 n2 c2 q) (hp : litB ss p = true) (hq : litB ss q = true) :
    Calls Try.prog 27 #[.slice A n c, .agg #[.bool p.neg, .slice A1 n1 c1], .agg #[.bool q.neg, .slice A2 n2 c2]] w (LitKPost ss p q w) := by
  have H1 := Lib.hid h1
  have H2 := Lib.hid h2
  have HP := Lib.hid hp
  have HQ := Lib.hid hq
  have HS := Lib.hid h
  clear h h1 h2 hp hq
  go_enter Try.func27, Try.ntmps27
  go_wp2_with fail
  have hb0 := (below_new w (.cells #[.bool p.neg, .slice A1 n1 c1] 25)).trans ((below_new (w.alloc (.cells #[.bool p.neg, .slice A1 n1 c1] 25)) (.cells #[.bool q.neg, .slice A2 n2 c2] 25)).mono (by simp))
  obtain ⟨w0, hw0⟩ : ∃ w0, w0 = (w.alloc (.cells #[.bool p.neg, .slice A1 n1 c1] 25)).alloc (.cells #[.bool q.neg, .slice A2 n2 c2] 25) := ⟨_, rfl⟩
  have k0 : w0.cell? ⟨w.heap.size, 0, none⟩ = some (.bool p.neg) := by
    rw [hw0, (below_new (w.alloc (.cells #[.bool p.neg, .slice A1 n1 c1] 25)) _).cell (p := ⟨w.heap.size, 0, none⟩) (by simp), World.cell?_alloc_new]; rfl
  have k1 : w0.cell? ⟨w.heap.size + 1, 0, none⟩ = some (.bool q.neg) := by
    have e : (w.alloc (.cells #[.bool p.neg, .slice A1 n1 c1] 25)).heap.size = w.heap.size + 1 := by simp
    rw [hw0, ← e, World.cell?_alloc_new]; rfl
  have ks : w0.heap.size = w.heap.size + 2 := by rw [hw0]; simp
  rw [← hw0] at hb0 ⊢
  refine (refWhich_any A A1 A2 n c n1 c1 n2 c2 ss p.atom q.atom w0 (HS.out.on hb0) hn (atom_ex HP.out).1 ((H1.out.on hb0).ex HP.out) ((H2.out.on hb0).ex HQ.out) (atom_ex HP.out).2 (atom_ex HQ.out).2 (exB_atoms HP.out HQ.out)).mono ?_
  rintro e w1 ⟨k, rfl, hk, hb1⟩
  have c0 : w1.cell? ⟨w.heap.size, 0, none⟩ = some (.bool p.neg) := by rw [hb1.cell (p := ⟨w.heap.size, 0, none⟩) (by show w.heap.size < _; omega)]; exact k0
  have c1 : w1.cell? ⟨w.heap.size + 1, 0, none⟩ = some (.bool q.neg) := by rw [hb1.cell (p := ⟨w.heap.size + 1, 0, none⟩) (by show w.heap.size + 1 < _; omega)]; exact k1
  have HK := Lib.hid (LitR.of_cmp HP.out HQ.out hk).kr
  have HB1 := Lib.hid (hb0.trans (hb1.mono hb0.size))
  clear hb0 hb1 k0 k1 ks hw0 hk
  by_cases hk1 : k = 1
  · subst hk1
    obtain ⟨np, hnp⟩ : ∃ np, np = p.neg := ⟨_, rfl⟩
    obtain ⟨nq, hnq⟩ : ∃ nq, nq = q.neg := ⟨_, rfl⟩
    have HNP := Lib.hid hnp
    have HNQ := Lib.hid hnq
    rw [← hnp] at c0
    rw [← hnq] at c1
    have HE : Hid (litK p q 1 = if np ≠ nq then (if np = true then 2 else 0) else 1) := by show litK p q 1 = _; unfold litK; rw [hnp, hnq]; simp
    clear hnp hnq
    cases np <;> cases nq <;> go_wp2 <;> go_ret
    all_goals exact ⟨_, rfl, by have := HK.out; rw [HE.out] at this; exact this, HB1.out⟩
  · have HE : Hid (litK p q k = k) := by show litK p q k = k; unfold litK; rw [if_neg (fun x => hk1 x.1)]
    have hk2 : (k != 1) = true := by simpa using hk1
    clear hk1
    go_wp2
    go_ret
    exact ⟨_, rfl, by have := HK.out; rw [HE.out] at this; exact this, HB1.out⟩

set_option maxHeartbeats 1000000 in
theorem refLitCompare_any (A A1 A2 : Option Addr) (n c n1 c1 n2 c2 : Nat) (ss : List Sym) (p q : Lt) (w : World) (h : SymsAt w w.heap.size A n ss) (hn : n ≤ maxLen) (hnc : n ≤ c) (h1 : LitAt w w.heap.size A1 n1 c1 p) (h2 : LitAt w w.heap.size A2 n2 c2 q) :
    Calls Try.prog 13 #[.slice A n c, .agg #[.bool p.neg, .slice A1 n1 c1], .agg #[.bool q.neg, .slice A2 n2 c2]] w (LitCPost ss p q w) := by
  have H1 := Lib.hid h1
  have H2 := Lib.hid h2
  have HS := Lib.hid h
  clear h h1 h2
  go_enter Try.func13, Try.ntmps13
  go_wp2_with fail
  have hb0 := (below_new w (.cells #[.bool p.neg, .slice A1 n1 c1] 25)).trans ((below_new (w.alloc (.cells #[.bool p.neg, .slice A1 n1 c1] 25)) (.cells #[.bool q.neg, .slice A2 n2 c2] 25)).mono (by simp))
  obtain ⟨w0, hw0⟩ : ∃ w0, w0 = (w.alloc (.cells #[.bool p.neg, .slice A1 n1 c1] 25)).alloc (.cells #[.bool q.neg, .slice A2 n2 c2] 25) := ⟨_, rfl⟩
  have HBX := Lib.hid (two_boxes w #[.bool p.neg, .slice A1 n1 c1] #[.bool q.neg, .slice A2 n2 c2] 25)
  rw [← hw0] at hb0 HBX ⊢
  clear hw0
  refine (refLitMay_any A A1 n c n1 c1 ss p w0 (HS.out.on hb0) hn hnc (H1.out.on hb0)).mono ?_
  rintro e w1 ⟨rfl, hb1⟩
  have hz : w0.heap.size = w.heap.size + 2 := HBX.out.2.2
  have HX1 : Hid (w1.cell? ⟨w.heap.size, 0, none⟩ = some (.bool p.neg) ∧ w1.cell? ⟨w.heap.size, 1, none⟩ = some (.slice A1 n1 c1)) := by
    constructor
    · rw [hb1.cell (p := ⟨w.heap.size, 0, none⟩) (by show w.heap.size < _; omega), HBX.out.1 0 (by simp)]; rfl
    · rw [hb1.cell (p := ⟨w.heap.size, 1, none⟩) (by show w.heap.size < _; omega), HBX.out.1 1 (by simp)]; rfl
  have y0 : w1.cell? ⟨w.heap.size + 1, 0, none⟩ = some (.bool q.neg) := by rw [hb1.cell (p := ⟨w.heap.size + 1, 0, none⟩) (by show w.heap.size + 1 < _; omega), HBX.out.2.1 0]; rfl
  have y1 : w1.cell? ⟨w.heap.size + 1, 1, none⟩ = some (.slice A2 n2 c2) := by rw [hb1.cell (p := ⟨w.heap.size + 1, 1, none⟩) (by show w.heap.size + 1 < _; omega), HBX.out.2.1 1]; rfl
  have hb2 := hb0.trans (hb1.mono hb0.size)
  have HZ1 : Hid (w.heap.size + 2 ≤ w1.heap.size) := by have := hb1.size; show _ ≤ _; omega
  have HS1 := Lib.hid (HS.out.on hb2)
  have HP1 := Lib.hid (H1.out.on hb2)
  have HQ1 := Lib.hid (H2.out.on hb2)
  have HB1 := Lib.hid hb2
  clear hb0 hb1 hb2 HBX hz
  cases hp : litB ss p
  · have HNO : Hid (LitR ss p q 700 0) := .inl ⟨by rw [hp]; rfl, rfl, rfl⟩
    clear hp
    go_wp2
    go_ret2
    exact ⟨0, 700, rfl, HNO.out, HB1.out⟩
  · have HP := Lib.hid hp
    clear hp
    go_wp2_with fail
    refine (refLitMay_any A A2 n c n2 c2 ss q w1 HS1.out hn hnc HQ1.out).mono ?_
    rintro e w2 ⟨rfl, hb2⟩
    have u0 : w2.cell? ⟨w.heap.size, 0, none⟩ = some (.bool p.neg) := by rw [hb2.cell (p := ⟨w.heap.size, 0, none⟩) (by have := HZ1.out; show w.heap.size < _; omega)]; exact HX1.out.1
    have u1 : w2.cell? ⟨w.heap.size, 1, none⟩ = some (.slice A1 n1 c1) := by rw [hb2.cell (p := ⟨w.heap.size, 1, none⟩) (by have := HZ1.out; show w.heap.size < _; omega)]; exact HX1.out.2
    have v0 : w2.cell? ⟨w.heap.size + 1, 0, none⟩ = some (.bool q.neg) := by rw [hb2.cell (p := ⟨w.heap.size + 1, 0, none⟩) (by have := HZ1.out; show w.heap.size + 1 < _; omega)]; exact y0
    have v1 : w2.cell? ⟨w.heap.size + 1, 1, none⟩ = some (.slice A2 n2 c2) := by rw [hb2.cell (p := ⟨w.heap.size + 1, 1, none⟩) (by have := HZ1.out; show w.heap.size + 1 < _; omega)]; exact y1
    have HS2 := Lib.hid (HS1.out.on hb2)
    have HP2 := Lib.hid (HP1.out.on hb2)
    have HQ2 := Lib.hid (HQ1.out.on hb2)
    have HB2 := Lib.hid (HB1.out.trans (hb2.mono HB1.out.size))
    clear hb2 y0 y1 HX1
    cases hq : litB ss q
    · have HNO : Hid (LitR ss p q 700 0) := .inl ⟨by rw [hq, Bool.and_false], rfl, rfl⟩
      clear hq
      go_wp2
      go_ret2
      exact ⟨0, 700, rfl, HNO.out, HB2.out⟩
    · have HQ := Lib.hid hq
      clear hq
      go_wp2_with fail
      refine (refwhich_any A A1 A2 n c n1 c1 n2 c2 ss p q w2 HS2.out hn HP2.out HQ2.out HP.out HQ.out).mono ?_
      rintro e w3 ⟨k, rfl, hk, hb3⟩
      have HK := Lib.hid (hk.litR HP.out HQ.out)
      have HB3 := Lib.hid (HB2.out.trans (hb3.mono HB2.out.size))
      clear hk hb3
      go_wp2
      go_ret2
      exact ⟨k, 0, rfl, HK.out, HB3.out⟩

end Go.Proofs.Ytiekgdohanahlaa
