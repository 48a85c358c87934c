/-
  Contracts of the reference over a table that only read: slot, where.
-/
import Derived.Test.YthnjpkghjkhjdaaFactA
namespace Go.Proofs.Ythnjpkghjkhjdaa
open Go.RowKit Go.Deep
set_option linter.unusedSimpArgs false
set_option linter.unusedVariables false
set_option maxRecDepth 100000

set_option maxHeartbeats 1000000 in
theorem refSlot_any (v : Tv) (t : Tb) (z : Int) (w : World) (hc : TabAt w w.heap.size v t) (h32 : v.n1 = 32) :
    Calls Try.prog 40 #[v.val, .int .i64 z] w fun e w' => e = .returned (.int .i64 (lastN t z 32)) ∧ Below w.heap.size w w' := by
  have hb0 := below_new w v.obj
  have hx := TBox.new hc
  rw [Tv.val_eq]
  unfold Tv.obj at hx hb0
  obtain ⟨A1, n1, c1, A2, n2, c2⟩ := v
  dsimp only at h32 hx hb0 ⊢
  subst h32
  have HX := Lib.hid hx
  have HB0 := Lib.hid hb0
  have p0 := hx.c0
  have p1 := hx.c1
  dsimp only at p0 p1
  clear hc hb0 hx
  go_enter Try.func40, Try.ntmps40
  go_wp2
  go_loop [5, 6] (fun q i => ∃ k : Nat, q = .int .i64 (lastN t z k) ∧ i = .int .i64 k ∧ k ≤ 32) (fun _ i => 32 - (intOf i).toNat)
  case atStart => exact ⟨0, rfl, rfl, by omega⟩
  case round =>
    obtain ⟨k, rfl, rfl, hk⟩ := hrel
    obtain ⟨y, hy⟩ : ∃ y, y = lastN t z k := ⟨_, rfl⟩
    rw [← hy]
    have HY := Lib.hid hy
    clear hy
    by_cases hlt : k < 32
    · obtain ⟨b, off, hA, _, hcl⟩ := HX.out.tb.sl.at_ (show 0 < 32 by omega)
      dsimp only at hA
      subst hA
      have hcx := hcl k hlt
      obtain ⟨x, hx⟩ : ∃ x, x = slAt t k := ⟨_, rfl⟩
      replace hcx : (w.alloc (.cells #[.slice (some ⟨b, off, none⟩) 32 c1, .slice A2 n2 c2] 26)).cell? ⟨b, off + k, none⟩ = some (.int .i64 x) := by rw [hx]; exact hcx
      have HT : Hid (lastN t z (k + 1) = if x = z then ((k : Nat) : Int) else y) := by rw [hx, HY.out]; rfl
      have k1 : (k : Int) < 32 := by omega
      clear hcl hx
      by_cases g : x = z
      · have HN : Hid (lastN t z (k + 1) = k) := by show _ = _; rw [HT.out, if_pos g]
        have g1 : (x == z) = true := by simp [g]
        subst g
        go_wp2
        go_round
        case rel => exact ⟨k + 1, by rw [HN.out], by go_num, by omega⟩
        case measure => simp [intOf]; omega
      · have HN : Hid (lastN t z (k + 1) = y) := by show _ = _; rw [HT.out, if_neg g]
        have g1 : (x == z) = false := by simp [g]
        go_wp2
        go_round
        case rel => exact ⟨k + 1, by rw [HN.out], by go_num, by omega⟩
        case measure => simp [intOf]; omega
    · obtain rfl : k = 32 := by omega
      go_wp2
      go_ret
      exact ⟨by rw [← HY.out]; rfl, HB0.out⟩
set_option maxHeartbeats 1000000 in
theorem refWhere_any (A' : Option Addr) (m c' : Nat) (v : Tv) (t : Tb) (a : List Int) (w : World) (hc : TabAt w w.heap.size v t) (ha : IntsAt w w.heap.size A' m a) (hm : m ≤ maxLen) :
    Calls Try.prog 35 #[v.val, .slice A' m c'] w fun e w' => e = .returned (.int .i64 (whereR t a)) ∧ Below w.heap.size w w' := by
  have hb0 := below_new w v.obj
  have hx := TBox.new hc
  have h2 := hc.fc.len
  have ha0 := ha.on hb0
  rw [Tv.val_eq]
  unfold Tv.obj at hx hb0 ha0
  obtain ⟨A1, n1, c1, A2, n2, c2⟩ := v
  dsimp only at h2 hx hb0 ha0 ⊢
  have HX := Lib.hid hx
  have HB0 := Lib.hid hb0
  have HA := Lib.hid ha0
  have H2 := Lib.hid h2
  have f2 := hx.tb.f2
  dsimp only at f2
  have p0 := hx.c0
  have p1 := hx.c1
  dsimp only at p0 p1
  clear hc hb0 hx h2 ha ha0
  go_enter Try.func35, Try.ntmps35
  go_wp2
  obtain ⟨w0, hw0⟩ : ∃ w0, w0 = w.alloc (.cells #[.slice A1 n1 c1, .slice A2 n2 c2] 26) := ⟨_, rfl⟩
  rw [← hw0] at HX HB0 HA p0 p1 ⊢
  clear hw0
  go_loopw [5] (fun i wr => ∃ k : Nat, i = .int .i64 k ∧ k ≤ n2 ∧ Hid (whereR t a = firstGo t a (t.facts.length - k)) ∧ Below w0.heap.size w0 wr) (fun i _ => n2 - (intOf i).toNat)
  case atStart => exact ⟨0, rfl, by omega, Lib.hid (p := whereR t a = firstGo t a (t.facts.length - 0)) rfl, Below.refl _ _⟩
  case round =>
    obtain ⟨k, rfl, hk, HS, hbw⟩ := hrel
    have HBW := Lib.hid hbw
    have HXR := Lib.hid (HX.out.on hbw)
    have HAR := Lib.hid (HA.out.on hbw)
    have HBB := Lib.hid (HB0.out.trans (hbw.mono HB0.out.size))
    clear hbw p0 p1
    have p0 := HXR.out.c0
    have p1 := HXR.out.c1
    dsimp only at p0 p1
    by_cases hlt : k < n2
    · obtain ⟨b2, o2, A3, c3, hA2, _, d0, hri, _⟩ := HXR.out.tb.fc.one (i := k) hlt
      dsimp only at hA2
      subst hA2
      have hkl : k < t.facts.length := by rw [H2.out]; exact hlt
      have HST := Lib.hid (firstGo_step (t := t) (a := a) hkl)
      obtain ⟨r, hrr⟩ : ∃ r, r = rowOf t.facts k := ⟨_, rfl⟩
      rw [← hrr] at d0 hri
      have HRI := Lib.hid hri
      have HRR : Hid (fcAt t k = r) := hrr.symm
      have q1 : (k : Int) < (n2 : Int) := by omega
      clear hri hrr hkl
      go_wp2_with fail
      refine (refSame_any A3 A' r.length c3 m c' _ _ r a _ HRI.out.at_ HAR.out HRI.out.big hm).mono ?_
      rintro e w2 ⟨rfl, hb2⟩
      have HB2 := Lib.hid hb2
      have HBF := Lib.hid (HBB.out.trans (hb2.mono HBB.out.size))
      clear hb2
      cases hsm : sameI r a
      · have HN : Hid (whereR t a = firstGo t a (t.facts.length - (k + 1))) := by
          show _ = _
          rw [HS.out, HST.out, if_neg]
          intro z
          rw [HRR.out] at z
          rw [z, sameI_self] at hsm; cases hsm
        clear hsm
        go_wp2
        go_roundw
        case rel => exact ⟨k + 1, by go_num, by omega, HN, HBW.out.trans (HB2.out.mono HBW.out.size)⟩
        case measure => simp [intOf]; omega
      · have HN : Hid (whereR t a = k) := by
          show _ = _
          rw [HS.out, HST.out, if_pos (by rw [HRR.out]; exact of_decide_eq_true hsm)]
        clear hsm
        go_wp2
        go_ret
        exact ⟨by rw [HN.out]; rfl, HBF.out⟩
    · obtain rfl : k = n2 := by omega
      have HN : Hid (whereR t a = -1) := by show _ = _; rw [HS.out, H2.out, Nat.sub_self]; rfl
      go_wp2
      go_ret
      exact ⟨by rw [HN.out]; rfl, HBB.out⟩
end Go.Proofs.Ythnjpkghjkhjdaa
