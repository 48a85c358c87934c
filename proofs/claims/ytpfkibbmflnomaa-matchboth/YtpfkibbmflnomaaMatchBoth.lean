/-
  The walk of the law MatchBoth.
-/
import Derived.Test.YtpfkibbmflnomaaAwakeM
import Derived.BigQuiet
namespace Go.Proofs.Ytpfkibbmflnomaa
open Go.RowKit
set_option linter.unusedSimpArgs false
set_option linter.unusedVariables false
set_option maxRecDepth 100000

/-- What makes a row as long as it was makes a code of each code. -/
theorem ap_letters {ss : List Sym} {θ : Nat → List Int} (hθ : Sub 24 ss θ) {a : List Int} (ha : ∀ c ∈ a, -24 ≤ c) (h : (ap θ a).length = a.length) : ∀ i, i < a.length → ap1 θ (intAt a i) = [intAt (ap θ a) i] := by
  induction a with
  | nil => intro i hi; simp at hi
  | cons c r ih =>
    have h1 := ap1_pos hθ (ha c (by simp))
    have h2 := ap_grows hθ (r := r) (fun x hx => ha x (by simp [hx]))
    rw [ap_cons] at h ⊢
    simp at h
    obtain ⟨x, hx⟩ := List.length_eq_one_iff.1 (show (ap1 θ c).length = 1 by omega)
    have h3 : (ap θ r).length = r.length := by omega
    rw [hx]
    intro i hi
    cases i with
    | zero => show ap1 θ c = [x]; exact hx
    | succ i =>
      have := ih (fun x hx => ha x (by simp [hx])) h3 i (by simpa using hi)
      show ap1 θ (intAt r i) = [intAt (ap θ r) i]
      exact this
theorem both_told {ss : List Sym} {a b : List Int} (h1 : mtIs ss a b = true) (h2 : mtIs ss b a = true) : a.length = b.length ∧ a.length ≤ 48 ∧ (∀ i, i < a.length → (0 ≤ intAt a i → intAt b i = intAt a i) ∧ (0 ≤ intAt b i → intAt b i = intAt a i)) ∧ ∀ i k, i < a.length → k < a.length → (intAt a i = intAt a k ↔ intAt b i = intAt b k) := by
  obtain ⟨T, hT⟩ := mtIs_yes h1
  obtain ⟨S, hS⟩ := mtIs_yes h2
  obtain ⟨r1, r2, _, hs, _, he, _⟩ := mtO_yes hT
  obtain ⟨_, _, _, ks, _, ke, _⟩ := mtO_yes hS
  have g1 := ap_grows hs (fun c hc => row_ge r1 c hc)
  have g2 := ap_grows ks (fun c hc => row_ge r2 c hc)
  rw [he] at g1
  rw [ke] at g2
  have hl : a.length = b.length := by omega
  have p1 := ap_letters hs (fun c hc => row_ge r1 c hc) (by rw [he, hl])
  have p2 := ap_letters ks (fun c hc => row_ge r2 c hc) (by rw [ke, hl])
  rw [he] at p1
  rw [ke] at p2
  refine ⟨hl, (row_parts r1).2.1, fun i hi => ⟨fun h => ?_, fun h => ?_⟩, fun i k hi hk => ⟨fun h => ?_, fun h => ?_⟩⟩
  · have := p1 i hi
    rw [ap1_sym h] at this
    injection this with this
    exact this.symm
  · have := p2 i (by omega)
    rw [ap1_sym h] at this
    injection this with this
  · have e1 := p1 i hi
    rw [h, p1 k hk] at e1
    injection e1 with e1
    exact e1.symm
  · have e1 := p2 i (by omega)
    rw [h, p2 k (by omega)] at e1
    injection e1 with e1
    exact e1.symm
theorem mtE_symm {ss : List Sym} {a b : List Int} : mtE ss b a = mtE ss a b := by unfold mtE; rw [Bool.and_comm]

set_option maxHeartbeats 1000000 in
theorem matchBoth_walk (A0 A1 A2 : Option Addr) (n0 c0 n1 c1 n2 c2 : Nat) (ss : List Sym) (a b : List Int) (w : World) (hs : SymsAt w w.heap.size A0 n0 ss) (hn0 : n0 ≤ maxLen) (hnc : n0 ≤ c0) (ha : IntsAt w w.heap.size A1 n1 a) (hn1 : n1 ≤ maxLen) (hc1 : n1 ≤ c1) (hb : IntsAt w w.heap.size A2 n2 b) (hn2 : n2 ≤ maxLen) (hc2 : n2 ≤ c2) :
    Calls Try.prog 6 #[.slice A0 n0 c0, .slice A1 n1 c1, .slice A2 n2 c2] w fun e w' => e = .returned (.bool true) ∧ Below w.heap.size w w' := by
  have HS := Lib.hid hs
  have HA := Lib.hid ha
  have HBB := Lib.hid hb
  have HLA := Lib.hid ha.len
  have HLB := Lib.hid hb.len
  have HB0 := Lib.hid (Below.refl w.heap.size w)
  clear hs ha hb
  go_enter Try.func6, Try.ntmps6
  go_wp2_with fail
  refine (awakeM_any _).mono ?_
  rintro e w1 ⟨rfl, hb1⟩
  have HB1 := Lib.hid (HB0.out.trans (hb1.mono HB0.out.size))
  replace HS := Lib.hid (HS.out.on hb1)
  replace HA := Lib.hid (HA.out.on hb1)
  replace HBB := Lib.hid (HBB.out.on hb1)
  clear hb1
  go_wp2_with fail
  refine (match_any A0 A1 A2 n0 c0 n1 c1 n2 c2 ss a b _ HS.out hn0 hnc HA.out hn1 HBB.out hn2 hc2).mono ?_
  rintro e w2 ⟨v2, rfl, hv2, hb2⟩
  have HB2 := Lib.hid (HB1.out.trans (hb2.mono HB1.out.size))
  replace HS := Lib.hid (HS.out.on hb2)
  replace HA := Lib.hid (HA.out.on hb2)
  replace HBB := Lib.hid (HBB.out.on hb2)
  clear hb2
  clear hv2
  go_wp2_with fail
  refine (match_any A0 A2 A1 n0 c0 n2 c2 n1 c1 ss b a _ HS.out hn0 hnc HBB.out hn2 HA.out hn1 hc1).mono ?_
  rintro e w3 ⟨v3, rfl, hv3, hb3⟩
  have HB3 := Lib.hid (HB2.out.trans (hb3.mono HB2.out.size))
  replace HS := Lib.hid (HS.out.on hb3)
  replace HA := Lib.hid (HA.out.on hb3)
  replace HBB := Lib.hid (HBB.out.on hb3)
  clear hb3
  clear hv3
  rw [mtE_symm]
  obtain ⟨E, hE⟩ : ∃ E, E = mtE ss a b := ⟨_, rfl⟩
  obtain ⟨i2, hi2⟩ : ∃ i2, i2 = mtIs ss a b := ⟨_, rfl⟩
  obtain ⟨i3, hi3⟩ : ∃ i3, i3 = mtIs ss b a := ⟨_, rfl⟩
  rw [← hE, ← hi2, ← hi3]
  have HI2 := Lib.hid hi2
  have HI3 := Lib.hid hi3
  clear hE hi2 hi3
  by_cases z : E = 0
  · subst z
    have z0 : ((0 : Int) == 0) = true := rfl
    cases i2
    · go_wp2_with (go_at_call 13; refine (num_any _ _).mono ?_; rintro e w' ⟨rfl, rfl⟩)
      go_ret
      exact ⟨rfl, HB3.out⟩
    cases i3
    · go_wp2_with (go_at_call 13; refine (num_any _ _).mono ?_; rintro e w' ⟨rfl, rfl⟩)
      go_ret
      exact ⟨rfl, HB3.out⟩
    obtain ⟨f1, f2, f3, f4⟩ := both_told HI2.out.symm HI3.out.symm
    rw [HLA.out] at f1 f2 f3 f4
    rw [HLB.out] at f1
    subst f1
    have F3 := Lib.hid f3
    have F4 := Lib.hid f4
    clear f3 f4 HI2 HI3 z0
    go_wp2_with (go_at_call 13; refine (num_any _ _).mono ?_; rintro e w' ⟨rfl, rfl⟩)
    go_loopw [13] (fun i wr => ∃ k : Nat, i = .int .i64 (k : Int) ∧ k ≤ n1 ∧ Below w3.heap.size w3 wr) (fun i _ => n1 - (intOf i).toNat)
    case atStart => exact ⟨0, rfl, by omega, Below.refl _ _⟩
    case round =>
      obtain ⟨k, rfl, hk, hbw⟩ := hrel
      have HBW := Lib.hid hbw
      clear hbw
      obtain ⟨wA, hwA⟩ : ∃ wA, wA = wr := ⟨_, rfl⟩
      subst hwA
      by_cases hlt : k < n1
      · obtain ⟨b1, o1, hA1, _, q1⟩ := (HA.out.on HBW.out).at_ (by omega)
        obtain ⟨b2, o2, hA2, _, q2⟩ := (HBB.out.on HBW.out).at_ (by omega)
        subst hA1; subst hA2
        have d1 : wA.cell? ⟨b1, o1 + k, none⟩ = some (.int .i64 (intAt a k)) := q1 k hlt
        have d2 : wA.cell? ⟨b2, o2 + k, none⟩ = some (.int .i64 (intAt b k)) := q2 k hlt
        have z0 : (0 : Int) ≤ (k : Int) := by omega
        have z1 : (k : Int) < (n1 : Int) := by omega
        obtain ⟨g1, g2⟩ := F3.out k hlt
        obtain ⟨x, hx⟩ : ∃ x, x = intAt a k := ⟨_, rfl⟩
        obtain ⟨y, hy⟩ : ∃ y, y = intAt b k := ⟨_, rfl⟩
        rw [← hx] at d1 g1 g2
        rw [← hy] at d2 g1 g2
        have HX := Lib.hid hx
        have HY := Lib.hid hy
        have HQ : Hid (∃ nq, (x = y ∨ (x ≠ y ∧ x < 0 ∧ y < 0)) ∧ nq = 0) := by
          refine ⟨0, ?_, rfl⟩
          by_cases e : x = y
          · exact .inl e
          · exact .inr ⟨e, by rcases Int.lt_or_le x 0 with q | q; exact q; exact absurd (g1 q).symm e, by rcases Int.lt_or_le y 0 with q | q; exact q; exact absurd (g2 q).symm e⟩
        obtain ⟨_, hxy, _⟩ := HQ.out
        clear HQ g1 g2 q1 q2 hx hy
        go_wp2_with fail
        rcases hxy with e | ⟨e, e1, e2⟩
        case' inl =>
          have e' : (x != y) = false := by simp [e]
          clear e
          go_quiet (fail)
        case' inr =>
          have e' : (x != y) = true := by simpa using e
          have e1' : decide (0 ≤ x) = false := by simpa using e1
          have e2' : decide (0 ≤ y) = false := by simpa using e2
          clear e e1 e2
          go_quiet (fail)
        all_goals
          go_wp2
          go_loopw [14] (fun i wr => ∃ q : Nat, i = .int .i64 (q : Int) ∧ q ≤ k ∧ Below w3.heap.size w3 wr) (fun i _ => k - (intOf i).toNat)
          case atStart => exact ⟨0, rfl, by omega, HBW.out.trans (below_drewN _ _)⟩
          case round =>
            obtain ⟨q, rfl, hq, hbq⟩ := hrel
            have HBQ := Lib.hid hbq
            clear hbq
            by_cases hql : q < k
            · obtain ⟨b3, o3, hA1, _, q1⟩ := (HA.out.on HBQ.out).at_ (by omega)
              obtain ⟨b4, o4, hA2, _, q2⟩ := (HBB.out.on HBQ.out).at_ (by omega)
              injection hA1 with hA1
              injection hA1 with hA1 hA1'
              injection hA2 with hA2
              injection hA2 with hA2 hA2'
              subst hA1; subst hA2; subst hA1'; subst hA2'
              have t1 : wr.cell? ⟨b1, o1 + k, none⟩ = some (.int .i64 x) := by rw [HX.out]; exact q1 k hlt
              have t2 : wr.cell? ⟨b2, o2 + k, none⟩ = some (.int .i64 y) := by rw [HY.out]; exact q2 k hlt
              have t3 : wr.cell? ⟨b1, o1 + q, none⟩ = some (.int .i64 (intAt a q)) := q1 q (by omega)
              have t4 : wr.cell? ⟨b2, o2 + q, none⟩ = some (.int .i64 (intAt b q)) := q2 q (by omega)
              have hiff := F4.out k q hlt (by omega)
              rw [← HX.out, ← HY.out] at hiff
              obtain ⟨x', hx'⟩ : ∃ x', x' = intAt a q := ⟨_, rfl⟩
              obtain ⟨y', hy'⟩ : ∃ y', y' = intAt b q := ⟨_, rfl⟩
              rw [← hx'] at t3 hiff
              rw [← hy'] at t4 hiff
              have z2 : (0 : Int) ≤ (q : Int) := by omega
              have z3 : (q : Int) < (n1 : Int) := by omega
              obtain ⟨bb, hbb⟩ : ∃ bb, bb = (x == x') := ⟨_, rfl⟩
              have hbb2 : (y == y') = bb := by
                rw [hbb]
                by_cases e : x = x'
                · have := hiff.1 e; subst this; subst e; simp
                · have : ¬ y = y' := fun h => e (hiff.2 h)
                  rw [beq_eq_false_iff_ne.2 e, beq_eq_false_iff_ne.2 this]
              replace hbb := hbb.symm
              clear q1 q2 hx' hy' hiff d1 d2
              cases bb
              all_goals
                go_wp2_with fail
                go_quiet (fail)
                go_wp2
                go_roundw
                case rel => exact ⟨q + 1, by go_num, by omega, HBQ.out.trans (below_drewN _ _)⟩
                case measure => simp [intOf]; omega
            · obtain rfl : q = k := by omega
              go_wp2
              go_roundw
              case rel => exact ⟨q + 1, by go_num, by omega, HBQ.out⟩
              case measure => simp [intOf]; omega
      · obtain rfl : k = n1 := by omega
        go_wp2
        go_ret
        exact ⟨rfl, HB3.out.trans (HBW.out.mono HB3.out.size)⟩
  · have g1 : (E != 0) = true := by simpa using z
    have g2 : (E == E) = true := by simp
    clear z
    go_wp2_with (go_at_call 13; refine (num_any _ _).mono ?_; rintro e w' ⟨rfl, rfl⟩)
    go_ret
    exact ⟨rfl, HB3.out⟩
end Go.Proofs.Ytpfkibbmflnomaa
