/-
  Contract: change.Pieces.Agrees.
-/
import Derived.Test.YtcjpopjcpgipjaaDoorMemSearch
import Derived.Test.YtcjpopjcpgipjaaDoorShape
namespace Go.Proofs.YtcjpopjcpgipjaaDoor
open Go.RowKit
set_option linter.unusedSimpArgs false
set_option linter.unusedVariables false
set_option maxRecDepth 100000

theorem run_neq_nilS {P : Program} (w : World) (t e : TypeId) (a : Option Addr) (n c n' c' : Nat) (h : P.underlying t = some (.slice e)) :
    (binOp .neq t (.slice a n c) (.slice none n' c')).run P w = .ok (.bool (!a.isNone)) w := by
  simp only [binOp]
  simp [Op.equal, Op.maxDepth, Lib.run_equalIn_slice_nil w 9999 t e a n c n' c' h]
/-- Twenty-four pieces, from a cell on. -/
def PcsAt (w : World) (B g o : Nat) (T : Nat → List Int) : Prop := ∀ x, x < 24 → ∃ u, w.cell? ⟨g, o + x, none⟩ = some u ∧ PieceV w B u (T x)
theorem PcsAt.on {w w' : World} {B g o : Nat} {T : Nat → List Int} (h : PcsAt w B g o T) (hg : g < w.heap.size) (hB : B ≤ w.heap.size) (hb : Below w.heap.size w w') : PcsAt w' B g o T := fun x hx => by
  obtain ⟨u, e, hu⟩ := h x hx
  exact ⟨u, by rw [hb.cell (p := ⟨g, o + x, none⟩) hg]; exact e, hu.keep fun p hp => hb.cell (Nat.lt_of_lt_of_le hp hB)⟩
theorem PairAt.pcs {w : World} {B g o : Nat} {p : Pr} (h : PairAt w B g o p) : PcsAt w B g (o + 1) p.pcs := fun x hx => by
  obtain ⟨u, e, hu⟩ := h.2 x hx
  exact ⟨u, by rw [show o + 1 + x = o + (x + 1) by omega]; exact e, hu⟩
def AgrK (P Q : Nat → List Int) (k : Nat) : Prop := ∀ v, v < k → P v = [] ∨ Q v = [] ∨ P v = Q v
theorem agr_no {P Q : Nat → List Int} {k : Nat} (hk : k < 24) (h1 : P k ≠ []) (h2 : Q k ≠ []) (h3 : P k ≠ Q k) : agrB P Q = false := by
  cases h : agrB P Q with
  | false => rfl
  | true =>
    rcases agr_iff.1 h k hk with q | q | q
    · exact absurd q h1
    · exact absurd q h2
    · exact absurd q h3
theorem AgrK.step {P Q : Nat → List Int} {k : Nat} (h : AgrK P Q k) (hk : P k = [] ∨ Q k = [] ∨ P k = Q k) : AgrK P Q (k + 1) := fun v hv => by
  rcases Nat.lt_or_ge v k with q | q
  · exact h v q
  · obtain rfl : v = k := by omega
    exact hk
set_option maxHeartbeats 1000000 in
theorem agrees_any (B g o g2 o2 : Nat) (P Q : Nat → List Int) (w : World) (hP : PcsAt w B g o P) (hQ : PcsAt w B g2 o2 Q) (hg : g < w.heap.size) (hg2 : g2 < w.heap.size) (hB : B ≤ w.heap.size) :
    Calls Tryd.prog 80 #[.pointer (some ⟨g, o, none⟩), .pointer (some ⟨g2, o2, none⟩)] w fun e w' => e = .returned (.bool (agrB P Q)) ∧ Below w.heap.size w w' := by
  have HP := Lib.hid hP
  have HQ := Lib.hid hQ
  have HB := Lib.hid hB
  have HG := Lib.hid hg
  have HG2 := Lib.hid hg2
  clear hP hQ hB hg hg2
  go_enter Tryd.func80, Tryd.ntmps80
  go_wp2
  go_loopw [9] (fun i wr => ∃ k : Nat, i = .int .i64 k ∧ k ≤ 24 ∧ Hid (AgrK P Q k) ∧ Below w.heap.size w wr) (fun i _ => 24 - (intOf i).toNat)
  case atStart => exact ⟨0, rfl, by omega, Lib.hid (p := AgrK P Q 0) (fun v hv => absurd hv (by omega)), Below.refl _ _⟩
  case round =>
    obtain ⟨k, rfl, hk, HA, hbw⟩ := hrel
    have HBW := Lib.hid hbw
    have HPW := Lib.hid (HP.out.on HG.out HB.out hbw)
    have HQW := Lib.hid (HQ.out.on HG2.out HB.out hbw)
    have HBz := Lib.hid (Nat.le_trans HB.out hbw.size)
    clear hbw
    by_cases hlt : k < 24
    · obtain ⟨u, hc, hu⟩ := HPW.out k hlt
      obtain ⟨u2, hc2, hu2⟩ := HQW.out k hlt
      have z0 : (0 : Int) ≤ (k : Int) := by omega
      have z1 : (k : Int) < 24 := by omega
      rcases hu with ⟨rfl, he⟩ | ⟨b, off, n', c', rfl, hr, hn'⟩
      · have HS := Lib.hid (HA.out.step (.inl he))
        clear he hu2
        go_wp2_with fail
        go_quiet (fail)
        have hq := run_neq_nilS (P := Tryd.prog) (wr.drewN nq) 28 3 none 0 0 0 0 Tryd.underlying28
        go_wp2
        go_roundw
        case rel => exact ⟨k + 1, by go_num, by omega, HS, HBW.out.trans (below_drewN _ _)⟩
        case measure => simp [intOf]; omega
      · have HNE : Hid (P k ≠ []) := by
          intro e
          have hl := hr.at_.len
          rw [e] at hl
          simp at hl
          omega
        have HR := Lib.hid hr
        clear hr
        rcases hu2 with ⟨rfl, he⟩ | ⟨b2, off2, n2, c2, rfl, hr2, hn2⟩
        · have HS := Lib.hid (HA.out.step (.inr (.inl he)))
          clear he
          go_wp2_with fail
          go_quiet (fail)
          have hq := run_neq_nilS (P := Tryd.prog) (wr.drewN nq) 28 3 (some ⟨b, off, none⟩) n' c' 0 0 Tryd.underlying28
          have hq2 := run_neq_nilS (P := Tryd.prog) (wr.drewN nq) 28 3 none 0 0 0 0 Tryd.underlying28
          go_wp2
          go_roundw
          case rel => exact ⟨k + 1, by go_num, by omega, HS, HBW.out.trans (below_drewN _ _)⟩
          case measure => simp [intOf]; omega
        · have HNE2 : Hid (Q k ≠ []) := by
            intro e
            have hl := hr2.at_.len
            rw [e] at hl
            simp at hl
            omega
          have HR2 := Lib.hid hr2
          clear hr2
          go_wp2_with fail
          go_quiet (fail)
          have hq := run_neq_nilS (P := Tryd.prog) (wr.drewN nq) 28 3 (some ⟨b, off, none⟩) n' c' 0 0 Tryd.underlying28
          have hq2 := run_neq_nilS (P := Tryd.prog) (wr.drewN nq) 28 3 (some ⟨b2, off2, none⟩) n2 c2 0 0 Tryd.underlying28
          have HBN := Lib.hid (below_drewN (B := wr.heap.size) wr nq)
          go_wp2_with fail
          refine (equal_any _ _ n' c' n2 c2 B B (P k) (Q k) _ (HR.out.at_.below (HBN.out.mono HBz.out)) (HR2.out.at_.below (HBN.out.mono HBz.out)) (by have := HR.out.few; unfold maxLen; omega) (by have := HR2.out.few; unfold maxLen; omega)).mono ?_
          rintro e w1 ⟨rfl, hb1⟩
          have HB1 := Lib.hid (HBW.out.trans ((HBN.out.mono HBW.out.size).trans (hb1.mono HBW.out.size)))
          clear hb1 hq hq2
          cases hs : sameI (P k) (Q k)
          · have H : Hid (agrB P Q = false) := agr_no hlt HNE.out HNE2.out (by intro e; unfold sameI at hs; simp [e] at hs)
            clear hs
            go_wp2
            go_ret
            exact ⟨ret_b H.out.symm, HB1.out⟩
          · have HS := Lib.hid (HA.out.step (.inr (.inr (by unfold sameI at hs; exact of_decide_eq_true hs))))
            clear hs
            go_wp2
            go_roundw
            case rel => exact ⟨k + 1, by go_num, by omega, HS, HB1.out⟩
            case measure => simp [intOf]; omega
    · obtain rfl : k = 24 := by omega
      have H : Hid (agrB P Q = true) := agr_iff.2 HA.out
      go_wp2
      go_ret
      exact ⟨ret_b H.out.symm, HBW.out⟩
end Go.Proofs.YtcjpopjcpgipjaaDoor
