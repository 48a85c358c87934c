/-
  Contracts: clause.parts, and rows of quaereref8: all atoms and tuples of a clause, as they lie.
  Contracts: clause.size, mayLits, mayTuples, May.
  Contracts: clause.May, and May of quaereref8.
-/
import Derived.Test.YtcjpopjcpgipjaaDoorHelpCl
namespace Go.Proofs.YtcjpopjcpgipjaaDoor
open Go.RowKit Go.Deep
set_option linter.unusedSimpArgs false
set_option linter.unusedVariables false
set_option maxRecDepth 100000

theorem exists_vals {P : Nat → Value → Prop} : ∀ n, (∀ i, i < n → ∃ u, P i u) → ∃ vs : List Value, vs.length = n ∧ ∀ i, i < n → P i (valAt vs i)
  | 0, _ => ⟨[], rfl, fun i h => absurd h (by omega)⟩
  | n + 1, h => by
    obtain ⟨vs, h1, h2⟩ := exists_vals n fun i hi => h i (by omega)
    obtain ⟨u, hu⟩ := h n (by omega)
    refine ⟨vs ++ [u], by simp [h1], fun i hi => ?_⟩
    by_cases e : i = n
    · subst e
      rw [valAt_rights (by omega), h1, Nat.sub_self]; exact hu
    · rw [valAt_lefts (by omega)]; exact h2 i (by omega)
/-- A slice of literals whose atoms are these values. -/
structure LVals (w : World) (B : Nat) (A : Option Addr) (n : Nat) (vs : List Value) : Prop where
  len : vs.length = n
  at_ : 0 < n → ∃ b off, A = some ⟨b, off, none⟩ ∧ b < B ∧ ∀ i, i < n → ∃ x A' m c, w.cell? ⟨b, off + i * 2, none⟩ = some (.bool x) ∧ w.cell? ⟨b, off + i * 2 + 1, none⟩ = some (.slice A' m c) ∧ valAt vs i = .slice A' m c
/-- A slice of these values. -/
structure TVals (w : World) (B : Nat) (A : Option Addr) (n : Nat) (vs : List Value) : Prop where
  len : vs.length = n
  at_ : 0 < n → ∃ b off, A = some ⟨b, off, none⟩ ∧ b < B ∧ ∀ i, i < n → ∃ A' m c, w.cell? ⟨b, off + i, none⟩ = some (.slice A' m c) ∧ valAt vs i = .slice A' m c
section
variable {w w' : World} {B n : Nat} {A : Option Addr} {vs : List Value}
theorem LVals.on (h : LVals w w.heap.size A n vs) (hb : Below w.heap.size w w') : LVals w' w'.heap.size A n vs :=
  ⟨h.len, fun hn => by
    obtain ⟨b, off, e, hlt, hc⟩ := h.at_ hn
    refine ⟨b, off, e, by have := hb.size; omega, fun i hi => ?_⟩
    obtain ⟨x, A', m, c, h1, h2, h3⟩ := hc i hi
    exact ⟨x, A', m, c, by rw [hb.cell (p := ⟨b, _, none⟩) hlt]; exact h1, by rw [hb.cell (p := ⟨b, _, none⟩) hlt]; exact h2, h3⟩⟩
theorem TVals.on (h : TVals w w.heap.size A n vs) (hb : Below w.heap.size w w') : TVals w' w'.heap.size A n vs :=
  ⟨h.len, fun hn => by
    obtain ⟨b, off, e, hlt, hc⟩ := h.at_ hn
    refine ⟨b, off, e, by have := hb.size; omega, fun i hi => ?_⟩
    obtain ⟨A', m, c, h1, h3⟩ := hc i hi
    exact ⟨A', m, c, by rw [hb.cell (p := ⟨b, _, none⟩) hlt]; exact h1, h3⟩⟩
theorem LVals.one {i : Nat} (h : LVals w B A n vs) (hi : i < n) : ∃ b off x A' m c, A = some ⟨b, off, none⟩ ∧ b < B ∧ w.cell? ⟨b, off + i * 2, none⟩ = some (.bool x) ∧ w.cell? ⟨b, off + i * 2 + 1, none⟩ = some (.slice A' m c) ∧ vs.take (i + 1) = vs.take i ++ [.slice A' m c] := by
  obtain ⟨b, off, e, hlt, hc⟩ := h.at_ (by omega)
  obtain ⟨x, A', m, c, h1, h2, h3⟩ := hc i hi
  refine ⟨b, off, x, A', m, c, e, hlt, h1, h2, ?_⟩
  have hl := h.len
  unfold valAt at h3
  rw [List.getD_eq_getElem?_getD, List.getElem?_eq_getElem (by omega)] at h3
  rw [List.take_add_one, List.getElem?_eq_getElem (by omega), ← h3]; rfl
theorem TVals.one {i : Nat} (h : TVals w B A n vs) (hi : i < n) : ∃ b off A' m c, A = some ⟨b, off, none⟩ ∧ b < B ∧ w.cell? ⟨b, off + i, none⟩ = some (.slice A' m c) ∧ vs.take (i + 1) = vs.take i ++ [.slice A' m c] := by
  obtain ⟨b, off, e, hlt, hc⟩ := h.at_ (by omega)
  obtain ⟨A', m, c, h1, h3⟩ := hc i hi
  refine ⟨b, off, A', m, c, e, hlt, h1, ?_⟩
  have hl := h.len
  unfold valAt at h3
  rw [List.getD_eq_getElem?_getD, List.getElem?_eq_getElem (by omega)] at h3
  rw [List.take_add_one, List.getElem?_eq_getElem (by omega), ← h3]; rfl
end
/-- The cells of a box of a clause. -/
structure BoxV (w : World) (b : Nat) (v : Cv) : Prop where
  lt : b < w.heap.size
  c0 : w.cell? ⟨b, 0, none⟩ = some (.slice v.A1 v.n1 v.c1)
  c1 : w.cell? ⟨b, 1, none⟩ = some (.slice v.A2 v.n2 v.c2)
  c2 : w.cell? ⟨b, 2, none⟩ = some (.slice v.A3 v.n3 v.c3)
theorem BoxV.on {w w' : World} {b : Nat} {v : Cv} (h : BoxV w b v) (hb : Below w.heap.size w w') : BoxV w' b v :=
  ⟨by have := h.lt; have := hb.size; omega, by rw [hb.cell (p := ⟨b, 0, none⟩) h.lt]; exact h.c0, by rw [hb.cell (p := ⟨b, 1, none⟩) h.lt]; exact h.c1, by rw [hb.cell (p := ⟨b, 2, none⟩) h.lt]; exact h.c2⟩
theorem BoxV.new (w : World) (v : Cv) : BoxV (w.alloc v.obj) w.heap.size v :=
  ⟨by simp, by rw [Cv.obj, World.cell?_alloc_new]; rfl, by rw [Cv.obj, World.cell?_alloc_new]; rfl, by rw [Cv.obj, World.cell?_alloc_new]; rfl⟩
theorem CBox.box {w : World} {b : Nat} {v : Cv} {c : Cl} (h : CBox w b v c) : BoxV w b v := ⟨h.lt, h.c0, h.c1, h.c2⟩
/-- The values of a clause's atoms and tuples. -/
structure CVals (w : World) (v : Cv) (vs1 vs2 vs3 : List Value) : Prop where
  l : LVals w w.heap.size v.A1 v.n1 vs1
  t : TVals w w.heap.size v.A2 v.n2 vs2
  d : LVals w w.heap.size v.A3 v.n3 vs3
  z : v.A2 = none → v.c2 = 0
  few : v.n1 ≤ 6 ∧ v.n2 ≤ 6 ∧ v.n3 ≤ 6
theorem CVals.on {w w' : World} {v : Cv} {vs1 vs2 vs3 : List Value} (h : CVals w v vs1 vs2 vs3) (hb : Below w.heap.size w w') : CVals w' v vs1 vs2 vs3 := ⟨h.l.on hb, h.t.on hb, h.d.on hb, h.z, h.few⟩
def ValsPost (vs : List Value) (w : World) (e : Ending) (w' : World) : Prop := ∃ v, e = .returned v ∧ OwnR w' w.heap.size v vs ∧ Below w.heap.size w w'

set_option maxHeartbeats 2000000 in
theorem parts_any (v : Cv) (vs1 vs2 vs3 : List Value) (w : World) (h : CVals w v vs1 vs2 vs3) :
    Calls Tryd.prog 42 #[v.val] w (ValsPost (vs1 ++ vs2 ++ vs3) w) := by
  have hx := BoxV.new w v
  have hb0 := below_new w v.obj
  have hv := h.on hb0
  obtain ⟨f1, f2, f3⟩ := h.few
  simp only [Cv.val]
  unfold Cv.obj at hx hv hb0
  have HX := Lib.hid hx
  have HV := Lib.hid hv
  have HB0 := Lib.hid hb0
  have HL1 := Lib.hid h.l.len
  have HL2 := Lib.hid h.t.len
  have HL3 := Lib.hid h.d.len
  clear hx hv hb0 h
  go_enter Tryd.func42, Tryd.ntmps42
  go_wp2
  obtain ⟨w0, hw0⟩ : ∃ w0, w0 = w.alloc (.cells #[.slice v.A1 v.n1 v.c1, .slice v.A2 v.n2 v.c2, .slice v.A3 v.n3 v.c3] 26) := ⟨_, rfl⟩
  rw [← hw0] at HX HV HB0 ⊢
  obtain ⟨B, hB⟩ : ∃ B, B = w.heap.size := ⟨_, rfl⟩
  rw [← hB] at HX ⊢
  have HBB := Lib.hid hB
  clear hw0 hB
  go_loopw [3, 11] (fun q i wr => ∃ k : Nat, i = .int .i64 k ∧ k ≤ v.n1 ∧ OwnR wr w0.heap.size q (vs1.take k) ∧ Below w0.heap.size w0 wr) (fun _ i _ => v.n1 - (intOf i).toNat)
  case atStart => exact ⟨0, rfl, by omega, OwnR.nil_, Below.refl _ _⟩
  case round =>
    obtain ⟨k, rfl, hk, hown, hbw⟩ := hrel
    have HBW := Lib.hid hbw
    have HOWN := Lib.hid hown
    have hsz := hbw.size
    clear hbw hown
    by_cases hlt : k < v.n1
    · obtain ⟨b, off, x, A3, m3, c3, hA, hb, d0, d1, hnx⟩ := (HV.out.on HBW.out).l.one hlt
      rw [hA]
      have HNX := Lib.hid hnx
      have HA := Lib.hid hA
      have hi0 : (0 : Int) ≤ (k : Int) := by omega
      have hi3 : (k : Int) < (v.n1 : Int) := by omega
      have hvl : (vs1.take k).length + 1 ≤ 5864062014634 := by have := HL1.out; rw [List.length_take]; omega
      clear hnx hA
      go_wp2_with (at_builtin
                   have hbn := below_new wr (.cells #[.bool x, .slice A3 m3 c3] 75)
                   refine app_rowv rfl (.tmp 15) (.tmp 18) rfl w0.heap.size _ (vs1.take k) _ rfl (HOWN.out.on hbn) rfl rfl (by simp) hvl (by simp; omega) ?_
                   intro v2 w2 hown2 hc2
                   have HO2 := Lib.hid hown2
                   have HB2 := Lib.hid (HBW.out.trans ((hbn.mono hsz).trans hc2.bel))
                   clear hown2 hc2 hbn)
      go_roundw
      case rel => exact ⟨k + 1, by go_num, by omega, by rw [HNX.out]; exact HO2.out, HB2.out⟩
      case measure => simp [intOf]; omega
    · obtain rfl : k = v.n1 := by omega
      obtain ⟨wA, hwA⟩ : ∃ wA, wA = wr := ⟨_, rfl⟩
      subst hwA
      have hxa := HX.out.on HBW.out
      have p0 := hxa.c0
      have p1 := hxa.c1
      have p2 := hxa.c2
      have HOA : Hid (OwnR wA w0.heap.size u3 vs1) := HOWN.out.cast (List.take_of_length_le (by rw [HL1.out]; omega))
      have HTA := Lib.hid (HV.out.on HBW.out).t
      clear hxa
      go_wp2_with (at_builtin
                   refine app_rows rfl (.tmp 21) (.tmp 23) rfl w0.heap.size _ vs1 vs2 v.A2 v.n2 v.c2 rfl HOA.out rfl HTA.out.len HV.out.z (fun hn => ?_) (fun i hi => ?_) (by rw [HL1.out, HL2.out]; omega) hsz ?_
                   · obtain ⟨b, off, e, _, hc⟩ := HTA.out.at_ hn
                     refine ⟨b, off, e, fun i hi => ?_⟩
                     obtain ⟨A', m, c, q1, q2⟩ := hc i hi
                     rw [q2]; exact q1
                   · obtain ⟨b, off, e, _, hc⟩ := HTA.out.at_ (by omega)
                     obtain ⟨A', m, c, q1, q2⟩ := hc i hi
                     rw [q2]; rfl
                   intro v2 w2 hown2 hc2
                   have HO2 := Lib.hid hown2
                   have HB2 := Lib.hid (HBW.out.trans hc2.bel)
                   have r2 : w2.cell? ⟨B, 2, none⟩ = some (.slice v.A3 v.n3 v.c3) := by rw [hc2.bel.cell (p := ⟨B, 2, none⟩) HX.out.lt]; exact p2
                   clear hown2 hc2)
      go_loopw [3, 28] (fun q i wr => ∃ k : Nat, i = .int .i64 k ∧ k ≤ v.n3 ∧ OwnR wr w0.heap.size q (vs1 ++ vs2 ++ vs3.take k) ∧ Below w0.heap.size w0 wr) (fun _ i _ => v.n3 - (intOf i).toNat)
      case atStart => exact ⟨0, rfl, by omega, by simpa using HO2.out, HB2.out⟩
      case round =>
        obtain ⟨k, rfl, hk, hown, hbw⟩ := hrel
        have HBW3 := Lib.hid hbw
        have HOWN3 := Lib.hid hown
        have hsz3 := hbw.size
        clear hbw hown
        by_cases hlt : k < v.n3
        · obtain ⟨b, off, x, A3, m3, c3, hA, hb, d0, d1, hnx⟩ := (HV.out.on HBW3.out).d.one hlt
          rw [hA]
          have HNX := Lib.hid hnx
          have HA := Lib.hid hA
          have hi0 : (0 : Int) ≤ (k : Int) := by omega
          have hi3 : (k : Int) < (v.n3 : Int) := by omega
          have hvl : (vs1 ++ vs2 ++ vs3.take k).length + 1 ≤ 5864062014634 := by have := HL1.out; have := HL2.out; have := HL3.out; rw [List.length_append, List.length_append, List.length_take]; omega
          clear hnx hA
          go_wp2_with (at_builtin
                       have hbn := below_new wr (.cells #[.bool x, .slice A3 m3 c3] 75)
                       refine app_rowv rfl (.tmp 32) (.tmp 35) rfl w0.heap.size _ (vs1 ++ vs2 ++ vs3.take k) _ rfl (HOWN3.out.on hbn) rfl rfl (by simp) hvl (by simp; omega) ?_
                       intro v4 w4 hown4 hc4
                       have HO4 := Lib.hid hown4
                       have HB4 := Lib.hid (HBW3.out.trans ((hbn.mono hsz3).trans hc4.bel))
                       clear hown4 hc4 hbn)
          go_roundw
          case rel => exact ⟨k + 1, by go_num, by omega, by rw [HNX.out, ← List.append_assoc]; exact HO4.out, HB4.out⟩
          case measure => simp [intOf]; omega
        · obtain rfl : k = v.n3 := by omega
          go_wp2
          go_ret
          refine ⟨_, rfl, (HOWN3.out.cast (by rw [List.take_of_length_le (by rw [HL3.out]; omega)])).lower ?_, HB0.out.trans (HBW3.out.mono HB0.out.size)⟩
          exact HB0.out.size

set_option maxHeartbeats 2000000 in
theorem refRows_any (v : Cv) (vs1 vs2 vs3 : List Value) (w : World) (h : CVals w v vs1 vs2 vs3) :
    Calls Tryd.prog 60 #[v.val] w (ValsPost (vs1 ++ vs2 ++ vs3) w) := by
  have hx := BoxV.new w v
  have hb0 := below_new w v.obj
  have hv := h.on hb0
  obtain ⟨f1, f2, f3⟩ := h.few
  simp only [Cv.val]
  unfold Cv.obj at hx hv hb0
  have HX := Lib.hid hx
  have HV := Lib.hid hv
  have HB0 := Lib.hid hb0
  have HL1 := Lib.hid h.l.len
  have HL2 := Lib.hid h.t.len
  have HL3 := Lib.hid h.d.len
  clear hx hv hb0 h
  go_enter Tryd.func60, Tryd.ntmps60
  go_wp2
  obtain ⟨w0, hw0⟩ : ∃ w0, w0 = w.alloc (.cells #[.slice v.A1 v.n1 v.c1, .slice v.A2 v.n2 v.c2, .slice v.A3 v.n3 v.c3] 26) := ⟨_, rfl⟩
  rw [← hw0] at HX HV HB0 ⊢
  obtain ⟨B, hB⟩ : ∃ B, B = w.heap.size := ⟨_, rfl⟩
  rw [← hB] at HX ⊢
  have HBB := Lib.hid hB
  clear hw0 hB
  go_loopw [3, 4] (fun q i wr => ∃ k : Nat, i = .int .i64 k ∧ k ≤ v.n1 ∧ OwnR wr w0.heap.size q (vs1.take k) ∧ Below w0.heap.size w0 wr) (fun _ i _ => v.n1 - (intOf i).toNat)
  case atStart => exact ⟨0, rfl, by omega, OwnR.nil_, Below.refl _ _⟩
  case round =>
    obtain ⟨k, rfl, hk, hown, hbw⟩ := hrel
    have HBW := Lib.hid hbw
    have HOWN := Lib.hid hown
    have hsz := hbw.size
    have hxw := HX.out.on hbw
    have p0 := hxw.c0
    have p1 := hxw.c1
    have p2 := hxw.c2
    clear hbw hown hxw
    by_cases hlt : k < v.n1
    · obtain ⟨b, off, x, A3, m3, c3, hA, hb, d0, d1, hnx⟩ := (HV.out.on HBW.out).l.one hlt
      rw [hA] at p0 ⊢
      have HNX := Lib.hid hnx
      have hi0 : (0 : Int) ≤ (k : Int) := by omega
      have hi3 : (k : Int) < (v.n1 : Int) := by omega
      have hvl : (vs1.take k).length + 1 ≤ 5864062014634 := by have := HL1.out; have := HL2.out; have := HL3.out; simp only [List.length_append, List.length_take]; omega
      clear hnx hA
      go_wp2_with (at_builtin
                   refine app_rowv rfl (.tmp 14) (.tmp 21) rfl w0.heap.size _ (vs1.take k) _ rfl HOWN.out rfl rfl rfl hvl hsz ?_
                   intro v2 w2 hown2 hc2
                   have HO2 := Lib.hid hown2
                   have HB2 := Lib.hid (HBW.out.trans hc2.bel)
                   clear hown2 hc2)
      go_roundw
      case rel => exact ⟨k + 1, by go_num, by omega, by rw [HNX.out]; exact HO2.out, HB2.out⟩
      case measure => simp [intOf]; omega
    · obtain rfl : k = v.n1 := by omega
      obtain ⟨wA, hwA⟩ : ∃ wA, wA = wr := ⟨_, rfl⟩
      subst hwA
      have HOA : Hid (OwnR wA w0.heap.size u3 vs1) := HOWN.out.cast (List.take_of_length_le (by rw [HL1.out]; omega))
      have HBA := Lib.hid HBW.out
      clear HOWN HBW
      go_wp2
      go_loopw [3, 5] (fun q i wr => ∃ k : Nat, i = .int .i64 k ∧ k ≤ v.n2 ∧ OwnR wr w0.heap.size q (vs1 ++ vs2.take k) ∧ Below w0.heap.size w0 wr) (fun _ i _ => v.n2 - (intOf i).toNat)
      case atStart => exact ⟨0, rfl, by omega, by simpa using HOA.out, HBA.out⟩
      case round =>
        obtain ⟨k, rfl, hk, hown, hbw⟩ := hrel
        have HBW := Lib.hid hbw
        have HOWN := Lib.hid hown
        have hsz := hbw.size
        have hxw := HX.out.on hbw
        have p0 := hxw.c0
        have p1 := hxw.c1
        have p2 := hxw.c2
        clear hbw hown hxw
        by_cases hlt : k < v.n2
        · obtain ⟨b, off, A3, m3, c3, hA, hb, d0, hnx⟩ := (HV.out.on HBW.out).t.one hlt
          rw [hA] at p1 ⊢
          have HNX := Lib.hid hnx
          have hi0 : (0 : Int) ≤ (k : Int) := by omega
          have hi3 : (k : Int) < (v.n2 : Int) := by omega
          have hvl : (vs1 ++ vs2.take k).length + 1 ≤ 5864062014634 := by have := HL1.out; have := HL2.out; have := HL3.out; simp only [List.length_append, List.length_take]; omega
          clear hnx hA
          go_wp2_with (at_builtin
                       refine app_rowv rfl (.tmp 30) (.tmp 36) rfl w0.heap.size _ (vs1 ++ vs2.take k) _ rfl HOWN.out rfl rfl rfl hvl hsz ?_
                       intro v2 w2 hown2 hc2
                       have HO2 := Lib.hid hown2
                       have HB2 := Lib.hid (HBW.out.trans hc2.bel)
                       clear hown2 hc2)
          go_roundw
          case rel => exact ⟨k + 1, by go_num, by omega, by rw [HNX.out, ← List.append_assoc]; exact HO2.out, HB2.out⟩
          case measure => simp [intOf]; omega
        · obtain rfl : k = v.n2 := by omega
          obtain ⟨wB, hwB⟩ : ∃ wB, wB = wr := ⟨_, rfl⟩
          subst hwB
          have HOB : Hid (OwnR wB w0.heap.size u3 (vs1 ++ vs2)) := HOWN.out.cast (by rw [List.take_of_length_le (by rw [HL2.out]; omega)])
          have HBB2 := Lib.hid HBW.out
          clear HOWN HBW
          go_wp2
          go_loopw [3, 6] (fun q i wr => ∃ k : Nat, i = .int .i64 k ∧ k ≤ v.n3 ∧ OwnR wr w0.heap.size q (vs1 ++ vs2 ++ vs3.take k) ∧ Below w0.heap.size w0 wr) (fun _ i _ => v.n3 - (intOf i).toNat)
          case atStart => exact ⟨0, rfl, by omega, by simpa using HOB.out, HBB2.out⟩
          case round =>
            obtain ⟨k, rfl, hk, hown, hbw⟩ := hrel
            have HBW := Lib.hid hbw
            have HOWN := Lib.hid hown
            have hsz := hbw.size
            have hxw := HX.out.on hbw
            have p0 := hxw.c0
            have p1 := hxw.c1
            have p2 := hxw.c2
            clear hbw hown hxw
            by_cases hlt : k < v.n3
            · obtain ⟨b, off, x, A3, m3, c3, hA, hb, d0, d1, hnx⟩ := (HV.out.on HBW.out).d.one hlt
              rw [hA] at p2 ⊢
              have HNX := Lib.hid hnx
              have hi0 : (0 : Int) ≤ (k : Int) := by omega
              have hi3 : (k : Int) < (v.n3 : Int) := by omega
              have hvl : (vs1 ++ vs2 ++ vs3.take k).length + 1 ≤ 5864062014634 := by have := HL1.out; have := HL2.out; have := HL3.out; simp only [List.length_append, List.length_take]; omega
              clear hnx hA
              go_wp2_with (at_builtin
                           refine app_rowv rfl (.tmp 45) (.tmp 52) rfl w0.heap.size _ (vs1 ++ vs2 ++ vs3.take k) _ rfl HOWN.out rfl rfl rfl hvl hsz ?_
                           intro v2 w2 hown2 hc2
                           have HO2 := Lib.hid hown2
                           have HB2 := Lib.hid (HBW.out.trans hc2.bel)
                           clear hown2 hc2)
              go_roundw
              case rel => exact ⟨k + 1, by go_num, by omega, by rw [HNX.out, ← List.append_assoc]; exact HO2.out, HB2.out⟩
              case measure => simp [intOf]; omega
            · obtain rfl : k = v.n3 := by omega
              go_wp2
              go_ret
              exact ⟨_, rfl, (HOWN.out.cast (by rw [List.take_of_length_le (by rw [HL3.out]; omega)])).lower HB0.out.size, HB0.out.trans (HBW.out.mono HB0.out.size)⟩
end Go.Proofs.YtcjpopjcpgipjaaDoor

namespace Go.Proofs.YtcjpopjcpgipjaaDoor
open Go.RowKit Go.Deep
set_option linter.unusedSimpArgs false
set_option linter.unusedVariables false
set_option maxRecDepth 100000

section
variable {w w' : World} {B n : Nat} {A : Option Addr} {ls : List Lt} {ts : List (List Int)} {v : Cv} {c : Cl}
theorem LitsAt.vals (h : LitsAt w B A n ls) : ∃ vs, LVals w B A n vs ∧ ∀ i, i < n → ∃ A' c, valAt vs i = .slice A' (ltAt ls i).atom.length c ∧ LitAt w B A' (ltAt ls i).atom.length c (ltAt ls i) := by
  by_cases hn : 0 < n
  · obtain ⟨b, off, e, hb, hc⟩ := h.at_ hn
    obtain ⟨vs, h1, h2⟩ := exists_vals (P := fun i u => ∃ A' c, u = .slice A' (ltAt ls i).atom.length c ∧ w.cell? ⟨b, off + i * 2 + 1, none⟩ = some u ∧ LitAt w B A' (ltAt ls i).atom.length c (ltAt ls i)) n (fun i hi => by
      obtain ⟨_, A', c, k1, k2, k3⟩ := hc i hi
      exact ⟨_, A', c, rfl, k1, k3, k2, h.fit i hi⟩)
    refine ⟨vs, ⟨h1, fun _ => ⟨b, off, e, hb, fun i hi => ?_⟩⟩, fun i hi => ?_⟩
    · obtain ⟨A', c, k1, k2, k3⟩ := h2 i hi
      rw [k1] at k2
      exact ⟨_, A', _, c, (hc i hi).1, k2, k1⟩
    · obtain ⟨A', c, k1, k2, k3⟩ := h2 i hi
      exact ⟨A', c, k1, k3⟩
  · obtain rfl : n = 0 := by omega
    exact ⟨[], ⟨rfl, fun h => absurd h (by omega)⟩, fun i hi => absurd hi (by omega)⟩
theorem TupsAt.vals (h : TupsAt w B A n ts) : ∃ vs, TVals w B A n vs ∧ ∀ i, i < n → ∃ A' c, valAt vs i = .slice A' (rowOf ts i).length c ∧ RowIn w B A' (rowOf ts i).length c (rowOf ts i) ∧ (A' = none → c = 0) := by
  by_cases hn : 0 < n
  · obtain ⟨b, off, e, hb, hc⟩ := h.at_ hn
    obtain ⟨vs, h1, h2⟩ := exists_vals (P := fun i u => ∃ A' c, u = .slice A' (rowOf ts i).length c ∧ w.cell? ⟨b, off + i, none⟩ = some u ∧ RowIn w B A' (rowOf ts i).length c (rowOf ts i) ∧ (A' = none → c = 0)) n (fun i hi => by
      obtain ⟨A', c, k1, k2, k3⟩ := hc i hi
      exact ⟨_, A', c, rfl, k1, k2, k3⟩)
    refine ⟨vs, ⟨h1, fun _ => ⟨b, off, e, hb, fun i hi => ?_⟩⟩, fun i hi => ?_⟩
    · obtain ⟨A', c, k1, k2, k3⟩ := h2 i hi
      rw [k1] at k2
      exact ⟨A', _, c, k2, k1⟩
    · obtain ⟨A', c, k1, k2, k3⟩ := h2 i hi
      exact ⟨A', c, k1, k3⟩
  · obtain rfl : n = 0 := by omega
    exact ⟨[], ⟨rfl, fun h => absurd h (by omega)⟩, fun i hi => absurd hi (by omega)⟩
/-- A clause of few parts, none of whose atoms is empty. -/
structure Small (c : Cl) : Prop where
  l : c.lits.length ≤ 5
  t : c.tups.length ≤ 3
  d : c.conds.length ≤ 3
  al : ∀ l ∈ c.lits, 0 < l.atom.length
  ad : ∀ l ∈ c.conds, 0 < l.atom.length
  r : ∀ r ∈ rowsC c, r.length ≤ 49
theorem lit_pos {ss : List Sym} {l : Lt} (h : litB ss l = true) : 0 < l.atom.length ∧ l.atom.length ≤ 49 := by
  obtain ⟨x, a⟩ := l
  cases a with
  | nil => cases h
  | cons c0 r =>
    have h' : atomB ss (c0 :: r) = true := h
    unfold atomB at h'
    simp only [Bool.and_eq_true, decide_eq_true_eq] at h'
    obtain ⟨⟨⟨⟨h1, h2⟩, h3⟩, h4⟩, h5⟩ := h'
    have := (row_parts h4).2.1
    simp only [List.length_cons]
    omega
theorem small_of {ss : List Sym} (h1 : c.lits.length ≤ 5) (h2 : c.tups.length ≤ 3) (h3 : c.conds.length ≤ 3) (k1 : c.lits.all (litB ss) = true) (k2 : c.conds.all (litB ss) = true) (k3 : tupsB ss c.tups = true) : Small c := by
  rw [List.all_eq_true] at k1 k2
  unfold tupsB at k3
  rw [List.all_eq_true] at k3
  refine ⟨h1, h2, h3, fun l hl => (lit_pos (k1 l hl)).1, fun l hl => (lit_pos (k2 l hl)).1, fun r hr => ?_⟩
  unfold rowsC at hr
  rcases List.mem_append.1 hr with hr | hr
  · obtain ⟨l, hl, rfl⟩ := List.mem_map.1 hr
    exact (lit_pos (k1 l hl)).2
  · rcases List.mem_append.1 hr with hr | hr
    · have := k3 r hr
      rw [Bool.and_eq_true] at this
      have := (row_parts this.1).2.1
      omega
    · obtain ⟨l, hl, rfl⟩ := List.mem_map.1 hr
      exact (lit_pos (k2 l hl)).2
theorem MayC.small {ss : List Sym} (h : MayC ss c) : Small c :=
  small_of (ss := ss) h.nl h.nt h.nc (List.all_eq_true.2 h.lits) (List.all_eq_true.2 h.conds) (by unfold tupsB; rw [List.all_eq_true]; intro t ht; rw [(h.tups t ht).1, Bool.true_and, decide_eq_true_iff]; exact (h.tups t ht).2)
theorem IntsAt.some_ {r : List Int} (h : IntsAt w B A n r) (hp : 0 < n) : A ≠ none := by
  obtain ⟨b, off, e, _⟩ := h.at_ hp
  rw [e]; exact fun q => by cases q
theorem ClAt.vals (h : ClAt w w.heap.size v c) (hs : Small c) : ∃ vs1 vs2 vs3, CVals w v vs1 vs2 vs3 ∧ (vs1 ++ vs2 ++ vs3).length = (rowsC c).length ∧
    ∀ i, i < (rowsC c).length → ∃ A c', valAt (vs1 ++ vs2 ++ vs3) i = .slice A (rowOf (rowsC c) i).length c' ∧ RowIn w w.heap.size A (rowOf (rowsC c) i).length c' (rowOf (rowsC c) i) ∧ (A = none → c' = 0) := by
  obtain ⟨vs1, a1, a2⟩ := h.lits.vals
  obtain ⟨vs2, b1, b2⟩ := h.tups.vals
  obtain ⟨vs3, d1, d2⟩ := h.conds.vals
  have l1 := h.lits.len
  have l2 := h.tups.len
  have l3 := h.conds.len
  have m1 := a1.len
  have m2 := b1.len
  have m3 := d1.len
  have q1 := hs.l
  have q2 := hs.t
  have q3 := hs.d
  have e : (rowsC c).length = c.lits.length + (c.tups.length + c.conds.length) := by unfold rowsC; simp
  refine ⟨vs1, vs2, vs3, ⟨a1, b1, d1, h.z2, by omega, by omega, by omega⟩, by rw [e]; simp; omega, fun i hi => ?_⟩
  rw [e] at hi
  rw [List.append_assoc]
  unfold rowsC
  by_cases i1 : i < c.lits.length
  · rw [valAt_lefts (by omega), rowOf_left (by simpa using i1), rowOf_atoms i1]
    obtain ⟨A', c', k1, k2⟩ := a2 i (by omega)
    refine ⟨A', c', k1, k2.row, fun q => absurd q (k2.at_.some_ (hs.al _ (ltAt_mem i1)))⟩
  · rw [valAt_rights (by omega), rowOf_right (by simp; omega), m1, ← l1]
    simp only [List.length_map]
    by_cases i2 : i - c.lits.length < c.tups.length
    · rw [valAt_lefts (by omega), rowOf_left i2]
      exact b2 _ (by omega)
    · rw [valAt_rights (by omega), rowOf_right (by omega), m2, ← l2]
      have i3 : i - c.lits.length - c.tups.length < c.conds.length := by omega
      rw [rowOf_atoms i3]
      obtain ⟨A', c', k1, k2⟩ := d2 _ (show i - c.lits.length - c.tups.length < v.n3 by omega)
      exact ⟨A', c', k1, k2.row, fun q => absurd q (k2.at_.some_ (hs.ad _ (ltAt_mem i3)))⟩
end
def RowsPost (L : List (List Int)) (w : World) (e : Ending) (w' : World) : Prop := ∃ A cap, e = .returned (.slice A L.length cap) ∧ L.length ≤ cap ∧ TupsAt w' w'.heap.size A L.length L ∧ Below w.heap.size w w'
theorem rows_post {w w' : World} {e : Ending} {vs : List Value} {L : List (List Int)} (h : ValsPost vs w e w') (hl : vs.length = L.length) (hr : ∀ i, i < L.length → ∃ A c', valAt vs i = .slice A (rowOf L i).length c' ∧ RowIn w w.heap.size A (rowOf L i).length c' (rowOf L i) ∧ (A = none → c' = 0)) : RowsPost L w e w' := by
  obtain ⟨v, rfl, hv, hb⟩ := h
  obtain ⟨A, cap, rfl, h1, h2, _⟩ := TupsAt.of_own hv hl fun i hi => by
    obtain ⟨A, c', k1, k2, k3⟩ := hr i hi
    exact ⟨A, c', k1, k2.on hb, k3⟩
  exact ⟨A, cap, rfl, h1, h2, hb⟩
theorem partsR_any (v : Cv) (c : Cl) (w : World) (h : ClAt w w.heap.size v c) (hs : Small c) : Calls Tryd.prog 42 #[v.val] w (RowsPost (rowsC c) w) := by
  obtain ⟨vs1, vs2, vs3, h1, h2, h3⟩ := h.vals hs
  exact (parts_any v vs1 vs2 vs3 w h1).mono fun e w' q => rows_post q h2 h3
theorem refRowsR_any (v : Cv) (c : Cl) (w : World) (h : ClAt w w.heap.size v c) (hs : Small c) : Calls Tryd.prog 60 #[v.val] w (RowsPost (rowsC c) w) := by
  obtain ⟨vs1, vs2, vs3, h1, h2, h3⟩ := h.vals hs
  exact (refRows_any v vs1 vs2 vs3 w h1).mono fun e w' q => rows_post q h2 h3
theorem Small.rows {c : Cl} (h : Small c) : (rowsC c).length ≤ 11 := by
  have := h.l
  have := h.t
  have := h.d
  unfold rowsC; simp; omega
theorem flat_few {L : List (List Int)} (h : ∀ r ∈ L, r.length ≤ 49) : L.flatten.length ≤ 49 * L.length := by
  induction L with
  | nil => simp
  | cons r L ih =>
    have := ih fun x hx => h x (List.mem_cons_of_mem _ hx)
    have := h r (List.mem_cons_self ..)
    simp only [List.flatten_cons, List.length_append, List.length_cons]; omega

set_option maxHeartbeats 1000000 in
theorem size_any (v : Cv) (c : Cl) (w : World) (h : ClAt w w.heap.size v c) (hs : Small c) :
    Calls Tryd.prog 40 #[v.val] w fun e w' => e = .returned (.int .i64 (codesC c).length) ∧ Below w.heap.size w w' := by
  have hb0 := below_new w v.obj
  have hv := h.on hb0
  have HSM := Lib.hid hs
  have HR : Hid (∀ k, ((rowsC c).take k).flatten.length ≤ 49 * 11) := fun k => Nat.le_trans (flat_few fun r hr => hs.r r (List.mem_of_mem_take hr)) (by have := hs.rows; rw [List.length_take]; omega)
  have hrl := hs.rows
  have hv0 : v.val = .agg #[.slice v.A1 v.n1 v.c1, .slice v.A2 v.n2 v.c2, .slice v.A3 v.n3 v.c3] := rfl
  rw [hv0]
  have HV0 := Lib.hid hv0
  unfold Cv.obj at hv hb0
  have HV := Lib.hid hv
  have HB0 := Lib.hid hb0
  clear h hs hb0 hv hv0
  obtain ⟨L, hL⟩ : ∃ L, L = rowsC c := ⟨_, rfl⟩
  have HE : Hid ((codesC c).length = L.flatten.length) := by show _ = _; rw [hL]; rfl
  have HPA := Lib.hid (partsR_any v c)
  rw [← hL] at HR hrl HPA
  clear hL
  go_enter Tryd.func40, Tryd.ntmps40
  go_wp2_with fail
  rw [← HV0.out]
  refine (HPA.out _ HV.out HSM.out).mono ?_
  rintro e w1 ⟨A, cap, rfl, hcap, ht, hb1⟩
  have HT := Lib.hid ht
  have HB1 := Lib.hid (HB0.out.trans (hb1.mono HB0.out.size))
  obtain ⟨n, hn⟩ : ∃ n, n = L.length := ⟨_, rfl⟩
  rw [← hn] at HT hcap hrl ⊢
  have HN := Lib.hid hn
  clear ht hb1 hn
  go_wp2
  go_loopw [3, 9] (fun q i wr => ∃ k s : Nat, q = .int .i64 s ∧ i = .int .i64 k ∧ k ≤ n ∧ s = (L.take k).flatten.length ∧ wr = w1) (fun _ i _ => n - (intOf i).toNat)
  case atStart => exact ⟨0, 0, rfl, rfl, by omega, rfl, rfl⟩
  case round =>
    obtain ⟨k, s, rfl, rfl, hk, hs, rfl⟩ := hrel
    have HS := Lib.hid hs
    have hs2 : s ≤ 49 * 11 := by rw [hs]; exact HR.out k
    clear hs
    by_cases hlt : k < n
    · obtain ⟨b, off, A2, c2, rfl, hb, d0, hr, -⟩ := HT.out.one hlt
      have HX : Hid ((L.take (k + 1)).flatten.length = s + (rowOf L k).length) := by
        show _ = _
        rw [rowOf_take (by rw [← HN.out]; exact hlt), List.length_append, ← HS.out]
      have hs3 := HR.out (k + 1)
      rw [HX.out] at hs3
      obtain ⟨m, hm⟩ : ∃ m, m = (rowOf L k).length := ⟨_, rfl⟩
      rw [← hm] at d0 HX hs3
      have hi0 : (0 : Int) ≤ (k : Int) := by omega
      have hi3 : (k : Int) < (n : Int) := by omega
      clear hr hm
      go_wp2
      go_roundw
      case rel => exact ⟨k + 1, s + m, by go_num, by go_num, by omega, HX.out.symm, trivial⟩
      case measure => simp [intOf]; omega
    · obtain rfl : k = n := by omega
      go_wp2
      go_ret
      have e2 : (codesC c).length = s := by rw [HE.out, HS.out, List.take_of_length_le (by have := HN.out; omega)]
      exact ⟨ret_int (by rw [e2]), HB1.out⟩

theorem all_not {ss : List Sym} {ls : List Lt} {k : Nat} (hk : k < ls.length) (h : litB ss (ltAt ls k) = false) : ls.all (litB ss) = false := by
  rw [List.all_eq_false]
  exact ⟨_, ltAt_mem hk, by rw [h]; simp⟩
theorem all_yes {ss : List Sym} {ls : List Lt} (h : ∀ j, j < ls.length → litB ss (ltAt ls j) = true) : ls.all (litB ss) = true := by
  rw [List.all_eq_true]
  intro p hp
  obtain ⟨j, hj, rfl⟩ := mem_ltAt hp
  exact h j hj
set_option maxHeartbeats 1000000 in
theorem mayLits_any (A A1 : Option Addr) (n c n1 c1 : Nat) (ss : List Sym) (ls : List Lt) (w : World) (h : SymsAt w w.heap.size A n ss) (hn : n ≤ maxLen) (hnc : n ≤ c) (hl : LitsAt w w.heap.size A1 n1 ls) (hn1 : n1 ≤ 4398046511104) :
    Calls Tryd.prog 38 #[.slice A n c, .slice A1 n1 c1] w fun e w' => e = .returned (.bool (ls.all (litB ss))) ∧ Below w.heap.size w w' := by
  have HS := Lib.hid h
  have HL := Lib.hid hl
  have HN := Lib.hid hl.len
  clear h hl
  go_enter Tryd.func38, Tryd.ntmps38
  go_wp2
  go_loopw [9] (fun j wr => ∃ k : Nat, j = .int .i64 k ∧ k ≤ n1 ∧ (∀ j, j < k → litB ss (ltAt ls j) = true) ∧ Below w.heap.size w wr) (fun j _ => n1 - (intOf j).toNat)
  case atStart => exact ⟨0, rfl, by omega, fun j hj => absurd hj (by omega), Below.refl _ _⟩
  case round =>
    obtain ⟨k, rfl, hk, hyes, hbw⟩ := hrel
    have HBW := Lib.hid hbw
    have HY := Lib.hid hyes
    clear hbw hyes
    by_cases hlt : k < n1
    · obtain ⟨b, off, A2, c2, rfl, hb, d0, d1, hk1⟩ := (HL.out.on HBW.out).one hlt
      have HNX : Hid (litB ss (ltAt ls k) = true → ∀ j, j < k + 1 → litB ss (ltAt ls j) = true) := by
        intro q j hj
        by_cases e : j = k
        · rw [e]; exact q
        · exact HY.out j (by omega)
      have HNO : Hid (litB ss (ltAt ls k) = false → ls.all (litB ss) = false) := fun q => all_not (by rw [HN.out]; exact hlt) q
      obtain ⟨p, hp⟩ : ∃ p, p = ltAt ls k := ⟨_, rfl⟩
      rw [← hp] at d0 d1 hk1 HNX HNO
      have HK1 := Lib.hid hk1
      have HS1 := Lib.hid (HS.out.on HBW.out)
      have hi0 : (0 : Int) ≤ (k : Int) := by omega
      have hi3 : (k : Int) < (n1 : Int) := by omega
      clear hk1 hp
      go_wp2_with fail
      have hb0 := below_new wr (.cells #[.bool p.neg, .slice A2 p.atom.length c2] 75)
      refine (litMay_any A A2 n c _ c2 ss p _ (HS1.out.on hb0) hn hnc (HK1.out.on hb0)).mono ?_
      rintro e w1 ⟨rfl, hb1⟩
      have HB1 := Lib.hid (HBW.out.trans ((hb0.trans (hb1.mono hb0.size)).mono HBW.out.size))
      clear hb1 hb0
      cases hpb : litB ss p
      · have HX := Lib.hid (HNO.out hpb)
        clear hpb
        go_wp2
        go_ret
        exact ⟨ret_b HX.out.symm, HB1.out⟩
      · have HX := Lib.hid (HNX.out hpb)
        clear hpb
        go_wp2
        go_roundw
        case rel => exact ⟨k + 1, by go_num, by omega, HX.out, HB1.out⟩
        case measure => simp [intOf]; omega
    · obtain rfl : k = n1 := by omega
      have HX : Hid (ls.all (litB ss) = true) := all_yes fun j hj => HY.out j (by rw [HN.out] at hj; exact hj)
      go_wp2
      go_ret
      exact ⟨ret_b HX.out.symm, HBW.out⟩
/-- One tuple as it should be, beside the first one. -/
def tupB (ss : List Sym) (ts : List (List Int)) (i : Nat) : Bool := rowB ss (rowOf ts i) && decide ((tlD ss (rowOf ts i)).length = (tlD ss (rowOf ts 0)).length)
theorem headD_rowOf (ts : List (List Int)) : ts.headD [] = rowOf ts 0 := by cases ts <;> rfl
theorem mem_rowOf {ts : List (List Int)} {t : List Int} (h : t ∈ ts) : ∃ i, i < ts.length ∧ rowOf ts i = t := by
  obtain ⟨i, hi, e⟩ := List.getElem_of_mem h
  exact ⟨i, hi, by unfold rowOf; rw [List.getD_eq_getElem?_getD, List.getElem?_eq_getElem hi]; exact e⟩
theorem tups_not {ss : List Sym} {ts : List (List Int)} {k : Nat} (hk : k < ts.length) (h : tupB ss ts k = false) : tupsB ss ts = false := by
  unfold tupsB
  rw [List.all_eq_false]
  refine ⟨_, rowOf_mem hk, ?_⟩
  rw [headD_rowOf]
  unfold tupB at h
  rw [h]; simp
theorem tups_yes {ss : List Sym} {ts : List (List Int)} (h : ∀ j, j < ts.length → tupB ss ts j = true) : tupsB ss ts = true := by
  unfold tupsB
  rw [List.all_eq_true]
  intro t ht
  obtain ⟨j, hj, rfl⟩ := mem_rowOf ht
  rw [headD_rowOf]
  exact h j hj
theorem tupB_rowK {ss : List Sym} {ts : List (List Int)} {k : Nat} (h0 : 0 < k → rowB ss (rowOf ts 0) = true) (hk : rowB ss (rowOf ts k) = true) : (rowK ss (rowOf ts k) = rowK ss (rowOf ts 0)) ↔ tupB ss ts k = true := by
  unfold tupB rowK
  rw [hk]
  have h0' : rowB ss (rowOf ts 0) = true := by
    rcases Nat.eq_zero_or_pos k with e | e
    · subst e; exact hk
    · exact h0 e
  rw [h0']
  simp
  omega
set_option maxHeartbeats 1000000 in
theorem mayTuples_any (A A1 : Option Addr) (n c n1 c1 : Nat) (ss : List Sym) (ts : List (List Int)) (w : World) (h : SymsAt w w.heap.size A n ss) (hn : n ≤ maxLen) (hnc : n ≤ c) (hl : TupsAt w w.heap.size A1 n1 ts) (hn1 : n1 ≤ 4398046511104) :
    Calls Tryd.prog 39 #[.slice A n c, .slice A1 n1 c1] w fun e w' => e = .returned (.bool (tupsB ss ts)) ∧ Below w.heap.size w w' := by
  have HS := Lib.hid h
  have HL := Lib.hid hl
  have HN := Lib.hid hl.len
  clear h hl
  go_enter Tryd.func39, Tryd.ntmps39
  go_wp2
  go_loopw [5, 12] (fun q j wr => ∃ (k : Nat) (f : Int), q = .int .i64 f ∧ j = .int .i64 k ∧ k ≤ n1 ∧ (∀ j, j < k → tupB ss ts j = true) ∧ (0 < k → f = rowK ss (rowOf ts 0)) ∧ Below w.heap.size w wr) (fun _ j _ => n1 - (intOf j).toNat)
  case atStart => exact ⟨0, 0, rfl, rfl, by omega, fun j hj => absurd hj (by omega), fun h => absurd h (by omega), Below.refl _ _⟩
  case round =>
    obtain ⟨k, f, rfl, rfl, hk, hyes, hf, hbw⟩ := hrel
    have HBW := Lib.hid hbw
    have HY := Lib.hid hyes
    have HF := Lib.hid hf
    clear hbw hyes hf
    by_cases hlt : k < n1
    · obtain ⟨b, off, A2, c2, rfl, hb, d0, hk1, -⟩ := (HL.out.on HBW.out).one hlt
      have HR0 : Hid (0 < k → rowB ss (rowOf ts 0) = true) := fun q => by
        have := HY.out 0 q
        unfold tupB at this
        rw [Bool.and_eq_true] at this
        exact this.1
      have HNX : Hid (tupB ss ts k = true → ∀ j, j < k + 1 → tupB ss ts j = true) := by
        intro q j hj
        by_cases e : j = k
        · rw [e]; exact q
        · exact HY.out j (by omega)
      have HNO : Hid (tupB ss ts k = false → tupsB ss ts = false) := fun q => tups_not (by rw [HN.out]; exact hlt) q
      have HBK : Hid (rowB ss (rowOf ts k) = false → tupB ss ts k = false) := fun q => by unfold tupB; rw [q]; rfl
      have HKK : Hid (rowB ss (rowOf ts k) = true → ((rowK ss (rowOf ts k) = rowK ss (rowOf ts 0)) ↔ tupB ss ts k = true)) := fun q => tupB_rowK HR0.out q
      have HZ : Hid (k = 0 → rowOf ts k = rowOf ts 0) := fun q => by rw [q]
      obtain ⟨r, hr⟩ : ∃ r, r = rowOf ts k := ⟨_, rfl⟩
      rw [← hr] at d0 hk1 HBK HKK HZ
      obtain ⟨f0, hf0⟩ : ∃ f0, f0 = rowK ss (rowOf ts 0) := ⟨_, rfl⟩
      rw [← hf0] at HF HKK
      have HF0 := Lib.hid hf0
      have HK1 := Lib.hid hk1
      have HS1 := Lib.hid (HS.out.on HBW.out)
      have hi0 : (0 : Int) ≤ (k : Int) := by omega
      have hi3 : (k : Int) < (n1 : Int) := by omega
      clear hk1 hr hf0
      go_wp2_with fail
      refine (row_any A A2 n c _ c2 ss r _ HS1.out hn hnc HK1.out.at_ HK1.out.big).mono ?_
      rintro e w1 ⟨rfl, hb1⟩
      have HB1 := Lib.hid (HBW.out.trans (hb1.mono HBW.out.size))
      clear hb1
      obtain ⟨kk, hkk⟩ : ∃ kk, kk = rowK ss r := ⟨_, rfl⟩
      obtain ⟨ee, hee⟩ : ∃ ee, ee = rowE ss r := ⟨_, rfl⟩
      rw [← hkk, ← hee]
      rw [← hkk] at HKK
      have HE : Hid (rowB ss r = true ∧ ee = 0 ∨ rowB ss r = false ∧ ee = 200) := by
        show _ ∨ _
        rw [hee]; unfold rowE
        cases rowB ss r
        · exact .inr ⟨rfl, rfl⟩
        · exact .inl ⟨rfl, rfl⟩
      have HZ2 : Hid (k = 0 → kk = f0) := fun q => by rw [hkk, HZ.out q, HF0.out]
      clear hee hkk
      rcases HE.out with ⟨hb2, rfl⟩ | ⟨hb2, rfl⟩
      · have HKI := Lib.hid (HKK.out hb2)
        clear hb2
        by_cases hk0 : k = 0
        · have hkf := HZ2.out hk0
          have HX := Lib.hid (HNX.out (HKI.out.1 hkf))
          have hk2 : (kk != kk) = false := by simp
          subst hk0
          have HKF := Lib.hid hkf
          clear hkf
          go_wp2
          go_roundw
          case rel => exact ⟨1, kk, by go_num, by go_num, by omega, HX.out, fun _ => by rw [HKF.out, HF0.out], HB1.out⟩
          case measure => simp [intOf]; omega
        · have hff := HF.out (by omega)
          subst hff
          have hk0' : ((k : Int) == 0) = false := by simp; omega
          by_cases hkf : kk = f
          · have HX := Lib.hid (HNX.out (HKI.out.1 hkf))
            have hk2 : (kk != f) = false := by simp [hkf]
            clear hkf
            go_wp2
            go_roundw
            case rel => exact ⟨k + 1, f, by go_num, by go_num, by omega, HX.out, fun _ => HF0.out, HB1.out⟩
            case measure => simp [intOf]; omega
          · have HX : Hid (tupsB ss ts = false) := HNO.out (by
              cases q : tupB ss ts k
              · rfl
              · exact absurd (HKI.out.2 q) hkf)
            have hk2 : (kk != f) = true := by simp [hkf]
            clear hkf
            go_wp2
            go_ret
            exact ⟨ret_b HX.out.symm, HB1.out⟩
      · have HX := Lib.hid (HNO.out (HBK.out hb2))
        clear hb2
        by_cases hk0 : k = 0
        · subst hk0
          go_wp2
          go_ret
          exact ⟨ret_b HX.out.symm, HB1.out⟩
        · have hk0' : ((k : Int) == 0) = false := by simp; omega
          go_wp2
          go_ret
          exact ⟨ret_b HX.out.symm, HB1.out⟩
    · obtain rfl : k = n1 := by omega
      have HX : Hid (tupsB ss ts = true) := tups_yes fun j hj => HY.out j (by rw [HN.out] at hj; exact hj)
      go_wp2
      go_ret
      exact ⟨ret_b HX.out.symm, HBW.out⟩
end Go.Proofs.YtcjpopjcpgipjaaDoor

namespace Go.Proofs.YtcjpopjcpgipjaaDoor
open Go.RowKit Go.Deep
set_option linter.unusedSimpArgs false
set_option linter.unusedVariables false
set_option maxRecDepth 100000

section
variable {ss : List Sym} {c : Cl}
theorem mayC_n1 (h : ¬ c.lits.length ≤ 5) : mayC ss c = false := by unfold mayC; simp [h]
theorem mayC_n2 (h : ¬ c.tups.length ≤ 3) : mayC ss c = false := by unfold mayC; simp [h]
theorem mayC_n3 (h : ¬ c.conds.length ≤ 3) : mayC ss c = false := by unfold mayC; simp [h]
theorem mayC_n4 (h : mayB ss = false) : mayC ss c = false := by unfold mayC; simp [h]
theorem mayC_n5 (h : c.lits.all (litB ss) = false) : mayC ss c = false := by unfold mayC; rw [h]; simp
theorem mayC_n6 (h : tupsB ss c.tups = false) : mayC ss c = false := by unfold mayC; rw [h]; simp
theorem mayC_n7 (h : c.conds.all (litB ss) = false) : mayC ss c = false := by unfold mayC; rw [h]; simp
theorem mayC_all (h1 : c.lits.length ≤ 5) (h2 : c.tups.length ≤ 3) (h3 : c.conds.length ≤ 3) (h4 : mayB ss = true) (h5 : c.lits.all (litB ss) = true) (h6 : tupsB ss c.tups = true) (h7 : c.conds.all (litB ss) = true) : mayC ss c = decide ((codesC c).length ≤ 240) := by
  unfold mayC; rw [h4, h5, h6, h7, decide_eq_true h1, decide_eq_true h2, decide_eq_true h3]; simp
end
/-- A box of a clause and the symbols: what a walk over a clause carries. -/
theorem Cv.val_eq (v : Cv) : v.val = .agg #[.slice v.A1 v.n1 v.c1, .slice v.A2 v.n2 v.c2, .slice v.A3 v.n3 v.c3] := rfl

set_option maxHeartbeats 2000000 in
theorem mayC_any (A : Option Addr) (n cp : Nat) (ss : List Sym) (v : Cv) (c : Cl) (w : World) (h : SymsAt w w.heap.size A n ss) (hn : n ≤ maxLen) (hnc : n ≤ cp) (hc : ClAt w w.heap.size v c) :
    Calls Tryd.prog 18 #[.slice A n cp, v.val] w fun e w' => e = .returned (.bool (mayC ss c)) ∧ Below w.heap.size w w' := by
  have hb0 := below_new w v.obj
  have hx := CBox.new hc
  have hs := h.on hb0
  have L1 := hc.lits.len
  have L2 := hc.tups.len
  have L3 := hc.conds.len
  rw [Cv.val_eq]
  have HVE := Lib.hid v.val_eq
  unfold Cv.obj at hx hb0 hs
  have HX := Lib.hid hx
  have HS := Lib.hid hs
  have HB0 := Lib.hid hb0
  clear h hc hb0 hx hs
  by_cases g1 : v.n1 ≤ 5
  case neg =>
    have HX1 := Lib.hid (mayC_n1 (ss := ss) (c := c) (by omega))
    have g1' : (5 : Int) < (v.n1 : Int) := by omega
    clear g1 L1 L2 L3
    go_enter Tryd.func18, Tryd.ntmps18
    go_wp2
    go_ret
    exact ⟨ret_b HX1.out.symm, HB0.out⟩
  by_cases g2 : v.n2 ≤ 3
  case neg =>
    have HX1 := Lib.hid (mayC_n2 (ss := ss) (c := c) (by omega))
    have g1' : ¬ (5 : Int) < (v.n1 : Int) := by omega
    have g2' : (3 : Int) < (v.n2 : Int) := by omega
    clear g1 g2 L1 L2 L3
    go_enter Tryd.func18, Tryd.ntmps18
    go_wp2
    go_ret
    exact ⟨ret_b HX1.out.symm, HB0.out⟩
  by_cases g3 : v.n3 ≤ 3
  case neg =>
    have HX1 := Lib.hid (mayC_n3 (ss := ss) (c := c) (by omega))
    have g1' : ¬ (5 : Int) < (v.n1 : Int) := by omega
    have g2' : ¬ (3 : Int) < (v.n2 : Int) := by omega
    have g3' : (3 : Int) < (v.n3 : Int) := by omega
    clear g1 g2 g3 L1 L2 L3
    go_enter Tryd.func18, Tryd.ntmps18
    go_wp2
    go_ret
    exact ⟨ret_b HX1.out.symm, HB0.out⟩
  have G1 : Hid (c.lits.length ≤ 5) := by show _ ≤ _; omega
  have G2 : Hid (c.tups.length ≤ 3) := by show _ ≤ _; omega
  have G3 : Hid (c.conds.length ≤ 3) := by show _ ≤ _; omega
  have g1' : ¬ (5 : Int) < (v.n1 : Int) := by omega
  have g2' : ¬ (3 : Int) < (v.n2 : Int) := by omega
  have g3' : ¬ (3 : Int) < (v.n3 : Int) := by omega
  have k1 : Hid (v.n1 ≤ 5) := g1
  have k2 : Hid (v.n2 ≤ 3) := g2
  have k3 : Hid (v.n3 ≤ 3) := g3
  clear g1 g2 g3 L1 L2 L3
  go_enter Tryd.func18, Tryd.ntmps18
  go_wp2_with fail
  refine (may_any A n cp ss _ HS.out hn hnc).mono ?_
  rintro e w1 ⟨rfl, hb1⟩
  have HB1 := Lib.hid (HB0.out.trans (hb1.mono HB0.out.size))
  replace HS := Lib.hid (HS.out.on hb1)
  replace HX := Lib.hid (HX.out.on hb1)
  clear hb1
  have p0 := HX.out.c0
  have p1 := HX.out.c1
  have p2 := HX.out.c2
  cases hm : mayB ss
  case false =>
    have HX1 := Lib.hid (mayC_n4 (ss := ss) (c := c) hm)
    clear hm
    go_wp2
    go_ret
    exact ⟨ret_b HX1.out.symm, HB1.out⟩
  have HM := Lib.hid hm
  clear hm
  go_wp2_with fail
  refine (mayLits_any A v.A1 n cp v.n1 v.c1 ss c.lits _ HS.out hn hnc HX.out.cl.lits (by have := k1.out; omega)).mono ?_
  rintro e w2 ⟨rfl, hb2⟩
  have HB2 := Lib.hid (HB1.out.trans (hb2.mono HB1.out.size))
  replace HS := Lib.hid (HS.out.on hb2)
  replace HX := Lib.hid (HX.out.on hb2)
  clear hb2
  clear p0 p1 p2
  have p0 := HX.out.c0
  have p1 := HX.out.c1
  have p2 := HX.out.c2
  cases hm : c.lits.all (litB ss)
  case false =>
    have HX1 := Lib.hid (mayC_n5 (ss := ss) (c := c) hm)
    clear hm
    go_wp2
    go_ret
    exact ⟨ret_b HX1.out.symm, HB2.out⟩
  have HM1 := Lib.hid hm
  clear hm
  go_wp2_with fail
  refine (mayTuples_any A v.A2 n cp v.n2 v.c2 ss c.tups _ HS.out hn hnc HX.out.cl.tups (by have := k2.out; omega)).mono ?_
  rintro e w3 ⟨rfl, hb3⟩
  have HB3 := Lib.hid (HB2.out.trans (hb3.mono HB2.out.size))
  replace HS := Lib.hid (HS.out.on hb3)
  replace HX := Lib.hid (HX.out.on hb3)
  clear hb3
  clear p0 p1 p2
  have p0 := HX.out.c0
  have p1 := HX.out.c1
  have p2 := HX.out.c2
  cases hm : tupsB ss c.tups
  case false =>
    have HX1 := Lib.hid (mayC_n6 (ss := ss) (c := c) hm)
    clear hm
    go_wp2
    go_ret
    exact ⟨ret_b HX1.out.symm, HB3.out⟩
  have HM2 := Lib.hid hm
  clear hm
  go_wp2_with fail
  refine (mayLits_any A v.A3 n cp v.n3 v.c3 ss c.conds _ HS.out hn hnc HX.out.cl.conds (by have := k3.out; omega)).mono ?_
  rintro e w4 ⟨rfl, hb4⟩
  have HB4 := Lib.hid (HB3.out.trans (hb4.mono HB3.out.size))
  replace HS := Lib.hid (HS.out.on hb4)
  replace HX := Lib.hid (HX.out.on hb4)
  clear hb4
  clear p0 p1 p2
  have p0 := HX.out.c0
  have p1 := HX.out.c1
  have p2 := HX.out.c2
  cases hm : c.conds.all (litB ss)
  case false =>
    have HX1 := Lib.hid (mayC_n7 (ss := ss) (c := c) hm)
    clear hm
    go_wp2
    go_ret
    exact ⟨ret_b HX1.out.symm, HB4.out⟩
  have HM3 := Lib.hid hm
  clear hm
  have HALL := Lib.hid (mayC_all G1.out G2.out G3.out HM.out HM1.out HM2.out HM3.out)
  have HSM := Lib.hid (small_of G1.out G2.out G3.out HM1.out HM3.out HM2.out)
  go_wp2_with fail
  rw [← HVE.out]
  refine (size_any v c _ HX.out.cl HSM.out).mono ?_
  rintro e w5 ⟨rfl, hb5⟩
  have HB5 := Lib.hid (HB4.out.trans (hb5.mono HB4.out.size))
  clear hb5
  obtain ⟨s, hs⟩ : ∃ s, s = (codesC c).length := ⟨_, rfl⟩
  rw [← hs] at HALL ⊢
  clear hs
  go_wp2
  go_ret
  refine ⟨ret_b ?_, HB5.out⟩
  rw [HALL.out]
  exact decide_eq_decide.2 (by omega)

theorem termsK_no {ss : List Sym} {r : List Int} (hm : mayB ss = true) (h : rowB ss r = false) : termsK ss r = -1 := by
  unfold termsK
  unfold rowB at h
  rw [hm, Bool.true_and] at h
  rw [h]; rfl
theorem termsK_yes {ss : List Sym} {r : List Int} (h : rowB ss r = true) : termsK ss r = ((tlD ss r).length : Int) := by
  unfold termsK
  unfold rowB at h
  simp only [Bool.and_eq_true] at h
  rw [h.1.2, h.2]; rfl
theorem termsK_pos {ss : List Sym} {r : List Int} (h : rowB ss r = true) : 0 ≤ termsK ss r := by rw [termsK_yes h]; omega
theorem tupB_termsK {ss : List Sym} {ts : List (List Int)} {k : Nat} (h0 : 0 < k → rowB ss (rowOf ts 0) = true) (hk : rowB ss (rowOf ts k) = true) : (termsK ss (rowOf ts k) = termsK ss (rowOf ts 0)) ↔ tupB ss ts k = true := by
  have h0' : rowB ss (rowOf ts 0) = true := by
    rcases Nat.eq_zero_or_pos k with e | e
    · subst e; exact hk
    · exact h0 e
  rw [termsK_yes hk, termsK_yes h0']
  unfold tupB
  rw [hk]
  simp
  omega
set_option maxHeartbeats 4000000 in
theorem refMayC_any (A : Option Addr) (n cp : Nat) (ss : List Sym) (v : Cv) (c : Cl) (w : World) (h : SymsAt w w.heap.size A n ss) (hn : n ≤ maxLen) (hnc : n ≤ cp) (hc : ClAt w w.heap.size v c) :
    Calls Tryd.prog 31 #[.slice A n cp, v.val] w fun e w' => e = .returned (.bool (mayC ss c)) ∧ Below w.heap.size w w' := by
  have hb0 := below_new w v.obj
  have hx := CBox.new hc
  have hs := h.on hb0
  have L1 := hc.lits.len
  have L2 := hc.tups.len
  have L3 := hc.conds.len
  rw [Cv.val_eq]
  have HVE := Lib.hid v.val_eq
  unfold Cv.obj at hx hb0 hs
  have HX := Lib.hid hx
  have HS := Lib.hid hs
  have HB0 := Lib.hid hb0
  clear h hc hb0 hx hs
  go_enter Tryd.func31, Tryd.ntmps31
  go_wp2_with fail
  refine (signMay_any A n cp ss _ HS.out hn).mono ?_
  rintro e w1 ⟨rfl, hb1⟩
  have HB1 := Lib.hid (HB0.out.trans (hb1.mono HB0.out.size))
  replace HS := Lib.hid (HS.out.on hb1)
  replace HX := Lib.hid (HX.out.on hb1)
  clear hb1
  have p0 := HX.out.c0
  have p1 := HX.out.c1
  have p2 := HX.out.c2
  obtain ⟨B, hB⟩ : ∃ B, B = w.heap.size := ⟨_, rfl⟩
  rw [← hB] at HX p0 p1 p2 ⊢
  have HBH := Lib.hid hB
  clear hB
  cases hm : mayB ss
  case false =>
    have HZ := Lib.hid (mayC_n4 (ss := ss) (c := c) hm)
    clear hm L1 L2 L3
    go_wp2
    go_ret
    exact ⟨ret_b HZ.out.symm, HB1.out⟩
  have HM := Lib.hid hm
  clear hm
  by_cases g1 : v.n1 ≤ 5
  case neg =>
    have HZ := Lib.hid (mayC_n1 (ss := ss) (c := c) (by omega))
    have g1' : (5 : Int) < (v.n1 : Int) := by omega
    clear g1 L1 L2 L3
    go_wp2
    go_ret
    exact ⟨ret_b HZ.out.symm, HB1.out⟩
  by_cases g3 : v.n3 ≤ 3
  case neg =>
    have HZ := Lib.hid (mayC_n3 (ss := ss) (c := c) (by omega))
    have g1' : ¬ (5 : Int) < (v.n1 : Int) := by omega
    have g3' : (3 : Int) < (v.n3 : Int) := by omega
    clear g1 g3 L1 L2 L3
    go_wp2
    go_ret
    exact ⟨ret_b HZ.out.symm, HB1.out⟩
  by_cases g2 : v.n2 ≤ 3
  case neg =>
    have HZ := Lib.hid (mayC_n2 (ss := ss) (c := c) (by omega))
    have g1' : ¬ (5 : Int) < (v.n1 : Int) := by omega
    have g3' : ¬ (3 : Int) < (v.n3 : Int) := by omega
    have g2' : (3 : Int) < (v.n2 : Int) := by omega
    clear g1 g2 g3 L1 L2 L3
    go_wp2
    go_ret
    exact ⟨ret_b HZ.out.symm, HB1.out⟩
  have G1 : Hid (c.lits.length ≤ 5) := by show _ ≤ _; omega
  have G2 : Hid (c.tups.length ≤ 3) := by show _ ≤ _; omega
  have G3 : Hid (c.conds.length ≤ 3) := by show _ ≤ _; omega
  have g1' : ¬ (5 : Int) < (v.n1 : Int) := by omega
  have g2' : ¬ (3 : Int) < (v.n2 : Int) := by omega
  have g3' : ¬ (3 : Int) < (v.n3 : Int) := by omega
  clear L1 L2 L3
  have HBF := HB1
  obtain ⟨w0, hw0⟩ : ∃ w0, w0 = w1 := ⟨_, rfl⟩
  subst hw0
  go_wp2
  clear p0 p1 p2 HB0 HB1
  go_loopw [5] (fun j wr => ∃ k : Nat, j = .int .i64 k ∧ k ≤ v.n1 ∧ (∀ j, j < k → litB ss (ltAt c.lits j) = true) ∧ Below w0.heap.size w0 wr) (fun j _ => v.n1 - (intOf j).toNat)
  case atStart => exact ⟨0, rfl, by omega, fun j hj => absurd hj (by omega), Below.refl _ _⟩
  case round =>
    obtain ⟨k, rfl, hk, hyes, hbw⟩ := hrel
    have HBW := Lib.hid hbw
    have HY := Lib.hid hyes
    have hxw := HX.out.on hbw
    have p0 := hxw.c0
    have p1 := hxw.c1
    have p2 := hxw.c2
    clear hbw hyes hxw
    by_cases hlt : k < v.n1
    · obtain ⟨b, off, A2, c2, hA, hb, d0, d1, hk1⟩ := (HX.out.cl.lits.on HBW.out).one hlt
      rw [hA] at p0
      have HNX : Hid (litB ss (ltAt c.lits k) = true → ∀ j, j < k + 1 → litB ss (ltAt c.lits j) = true) := by
        intro q j hj
        by_cases e : j = k
        · rw [e]; exact q
        · exact HY.out j (by omega)
      have HNO : Hid (litB ss (ltAt c.lits k) = false → mayC ss c = false) := fun q => mayC_n5 (all_not (by rw [HX.out.cl.lits.len]; exact hlt) q)
      obtain ⟨p, hp⟩ : ∃ p, p = ltAt c.lits k := ⟨_, rfl⟩
      rw [← hp] at d0 d1 hk1 HNX HNO
      have HK1 := Lib.hid hk1
      have HS1 := Lib.hid (HS.out.on HBW.out)
      have hi0 : (0 : Int) ≤ (k : Int) := by omega
      have hi3 : (k : Int) < (v.n1 : Int) := by omega
      clear hk1 hp hA
      go_wp2_with fail
      refine (refLitMay_any A A2 n cp _ c2 ss p _ HS1.out hn hnc HK1.out).mono ?_
      rintro e w1 ⟨rfl, hb1⟩
      have HB1 := Lib.hid (HBW.out.trans (hb1.mono HBW.out.size))
      clear hb1 p0 p1 p2 d0 d1
      cases hpb : litB ss p
      · have HZ := Lib.hid (HNO.out hpb)
        clear hpb
        go_wp2
        go_ret
        exact ⟨ret_b HZ.out.symm, HBF.out.trans (HB1.out.mono HBF.out.size)⟩
      · have HZ := Lib.hid (HNX.out hpb)
        clear hpb
        go_wp2
        go_roundw
        case rel => exact ⟨k + 1, by go_num, by omega, HZ.out, HB1.out⟩
        case measure => simp [intOf]; omega
    · obtain rfl : k = v.n1 := by omega
      obtain ⟨w1a, hwA⟩ : ∃ w1a, w1a = wr := ⟨_, rfl⟩
      subst hwA
      have HM1 : Hid (c.lits.all (litB ss) = true) := all_yes fun j hj => HY.out j (by rw [HX.out.cl.lits.len] at hj; exact hj)
      have HBF := Lib.hid (HBF.out.trans (HBW.out.mono HBF.out.size))
      have HX := Lib.hid (HX.out.on HBW.out)
      have HS := Lib.hid (HS.out.on HBW.out)
      clear HY HBW
      go_wp2
      clear p0 p1 p2
      go_loopw [6] (fun j wr => ∃ k : Nat, j = .int .i64 k ∧ k ≤ v.n3 ∧ (∀ j, j < k → litB ss (ltAt c.conds j) = true) ∧ Below w1a.heap.size w1a wr) (fun j _ => v.n3 - (intOf j).toNat)
      case atStart => exact ⟨0, rfl, by omega, fun j hj => absurd hj (by omega), Below.refl _ _⟩
      case round =>
        obtain ⟨k, rfl, hk, hyes, hbw⟩ := hrel
        have HBW := Lib.hid hbw
        have HY := Lib.hid hyes
        have hxw := HX.out.on hbw
        have p0 := hxw.c0
        have p1 := hxw.c1
        have p2 := hxw.c2
        clear hbw hyes hxw
        by_cases hlt : k < v.n3
        · obtain ⟨b, off, A2, c2, hA, hb, d0, d1, hk1⟩ := (HX.out.cl.conds.on HBW.out).one hlt
          rw [hA] at p2
          have HNX : Hid (litB ss (ltAt c.conds k) = true → ∀ j, j < k + 1 → litB ss (ltAt c.conds j) = true) := by
            intro q j hj
            by_cases e : j = k
            · rw [e]; exact q
            · exact HY.out j (by omega)
          have HNO : Hid (litB ss (ltAt c.conds k) = false → mayC ss c = false) := fun q => mayC_n7 (all_not (by rw [HX.out.cl.conds.len]; exact hlt) q)
          obtain ⟨p, hp⟩ : ∃ p, p = ltAt c.conds k := ⟨_, rfl⟩
          rw [← hp] at d0 d1 hk1 HNX HNO
          have HK1 := Lib.hid hk1
          have HS1 := Lib.hid (HS.out.on HBW.out)
          have hi0 : (0 : Int) ≤ (k : Int) := by omega
          have hi3 : (k : Int) < (v.n3 : Int) := by omega
          clear hk1 hp hA
          go_wp2_with fail
          refine (refLitMay_any A A2 n cp _ c2 ss p _ HS1.out hn hnc HK1.out).mono ?_
          rintro e w1 ⟨rfl, hb1⟩
          have HB1 := Lib.hid (HBW.out.trans (hb1.mono HBW.out.size))
          clear hb1 p0 p1 p2 d0 d1
          cases hpb : litB ss p
          · have HZ := Lib.hid (HNO.out hpb)
            clear hpb
            go_wp2
            go_ret
            exact ⟨ret_b HZ.out.symm, HBF.out.trans (HB1.out.mono HBF.out.size)⟩
          · have HZ := Lib.hid (HNX.out hpb)
            clear hpb
            go_wp2
            go_roundw
            case rel => exact ⟨k + 1, by go_num, by omega, HZ.out, HB1.out⟩
            case measure => simp [intOf]; omega
        · obtain rfl : k = v.n3 := by omega
          obtain ⟨w3a, hwA⟩ : ∃ w3a, w3a = wr := ⟨_, rfl⟩
          subst hwA
          have HM3 : Hid (c.conds.all (litB ss) = true) := all_yes fun j hj => HY.out j (by rw [HX.out.cl.conds.len] at hj; exact hj)
          have HBF := Lib.hid (HBF.out.trans (HBW.out.mono HBF.out.size))
          have HX := Lib.hid (HX.out.on HBW.out)
          have HS := Lib.hid (HS.out.on HBW.out)
          clear HY HBW
          go_wp2
          clear p0 p1 p2
          go_loopw [7] (fun j wr => ∃ k : Nat, j = .int .i64 k ∧ k ≤ v.n2 ∧ (∀ j, j < k → tupB ss c.tups j = true) ∧ wr = w3a) (fun j _ => v.n2 - (intOf j).toNat)
          case atStart => exact ⟨0, rfl, by omega, fun j hj => absurd hj (by omega), rfl⟩
          case round =>
            obtain ⟨k, rfl, hk, hyes, rfl⟩ := hrel
            have HY := Lib.hid hyes
            have p0 := HX.out.c0
            have p1 := HX.out.c1
            have p2 := HX.out.c2
            clear hyes
            by_cases hlt : k < v.n2
            · obtain ⟨b, off, A2, c2, hA, hb, d0, hk1, -⟩ := HX.out.cl.tups.one hlt
              obtain ⟨b', off', A4, c4, hA', -, f0, hk4, -⟩ := HX.out.cl.tups.one (i := 0) (by omega)
              rw [hA] at hA' p1
              simp only [Option.some.injEq, Addr.mk.injEq] at hA'
              obtain ⟨rfl, rfl, -⟩ := hA'
              rw [Nat.add_zero] at f0
              have HR0 : Hid (0 < k → rowB ss (rowOf c.tups 0) = true) := fun q => by
                have := HY.out 0 q
                unfold tupB at this
                rw [Bool.and_eq_true] at this
                exact this.1
              have HNX : Hid (tupB ss c.tups k = true → ∀ j, j < k + 1 → tupB ss c.tups j = true) := by
                intro q j hj
                by_cases e : j = k
                · rw [e]; exact q
                · exact HY.out j (by omega)
              have HNO : Hid (tupB ss c.tups k = false → mayC ss c = false) := fun q => mayC_n6 (tups_not (by rw [HX.out.cl.tups.len]; exact hlt) q)
              have HBK : Hid (rowB ss (rowOf c.tups k) = false → tupB ss c.tups k = false) := fun q => by unfold tupB; rw [q]; rfl
              have HKK : Hid (rowB ss (rowOf c.tups k) = true → ((termsK ss (rowOf c.tups k) = termsK ss (rowOf c.tups 0)) ↔ tupB ss c.tups k = true)) := fun q => tupB_termsK HR0.out q
              obtain ⟨r, hr⟩ : ∃ r, r = rowOf c.tups k := ⟨_, rfl⟩
              obtain ⟨r0, hr0⟩ : ∃ r0, r0 = rowOf c.tups 0 := ⟨_, rfl⟩
              rw [← hr] at d0 hk1 HBK HKK
              rw [← hr0] at f0 hk4 HKK
              have HK1 := Lib.hid hk1
              have HK4 := Lib.hid hk4
              have hi0 : (0 : Int) ≤ (k : Int) := by omega
              have hi3 : (k : Int) < (v.n2 : Int) := by omega
              have hi4 : (0 : Int) < (v.n2 : Int) := by omega
              clear hk1 hk4 hr hr0 hA
              go_wp2_with fail
              refine (refTerms_any A A2 n cp _ c2 _ _ ss r _ HS.out hn HK1.out.at_ HK1.out.big HM.out).mono ?_
              rintro e w7 ⟨rfl, rfl⟩
              cases hrb : rowB ss r
              · have HZ := Lib.hid (HNO.out (HBK.out hrb))
                have ht := termsK_no HM.out hrb
                rw [ht]
                clear hrb ht
                go_wp2
                go_ret
                exact ⟨ret_b HZ.out.symm, HBF.out⟩
              · have HKI := Lib.hid (HKK.out hrb)
                have ht := termsK_pos hrb
                obtain ⟨kk, hkk⟩ : ∃ kk, kk = termsK ss r := ⟨_, rfl⟩
                rw [← hkk] at HKI ht ⊢
                have ht' : ¬ kk < 0 := by omega
                clear hrb hkk ht
                go_wp2_with fail
                refine (refTerms_any A A4 n cp _ c4 _ _ ss r0 _ HS.out hn HK4.out.at_ HK4.out.big HM.out).mono ?_
                rintro e w8 ⟨rfl, rfl⟩
                obtain ⟨k0, hk0⟩ : ∃ k0, k0 = termsK ss r0 := ⟨_, rfl⟩
                rw [← hk0] at HKI ⊢
                clear hk0
                by_cases hkf : kk = k0
                · have HZ := Lib.hid (HNX.out (HKI.out.1 hkf))
                  have hk2 : (kk != k0) = false := by simp [hkf]
                  clear hkf
                  go_wp2
                  go_roundw
                  case rel => exact ⟨k + 1, by go_num, by omega, HZ.out, trivial⟩
                  case measure => simp [intOf]; omega
                · have HZ : Hid (mayC ss c = false) := HNO.out (by
                    cases q : tupB ss c.tups k
                    · rfl
                    · exact absurd (HKI.out.2 q) hkf)
                  have hk2 : (kk != k0) = true := by simp [hkf]
                  clear hkf
                  go_wp2
                  go_ret
                  exact ⟨ret_b HZ.out.symm, HBF.out⟩
            · obtain rfl : k = v.n2 := by omega
              have HM2 : Hid (tupsB ss c.tups = true) := tups_yes fun j hj => HY.out j (by rw [HX.out.cl.tups.len] at hj; exact hj)
              clear HY
              have HALL := Lib.hid (mayC_all G1.out G2.out G3.out HM.out HM1.out HM2.out HM3.out)
              have HSM := Lib.hid (small_of G1.out G2.out G3.out HM1.out HM3.out HM2.out)
              have HR : Hid (∀ k, ((rowsC c).take k).flatten.length ≤ 49 * 11) := fun k => Nat.le_trans (flat_few fun r hr => HSM.out.r r (List.mem_of_mem_take hr)) (by have := HSM.out.rows; rw [List.length_take]; omega)
              have hrl := HSM.out.rows
              obtain ⟨L, hL⟩ : ∃ L, L = rowsC c := ⟨_, rfl⟩
              have HE : Hid ((codesC c).length = L.flatten.length) := by show _ = _; rw [hL]; rfl
              have HPA := Lib.hid (refRowsR_any v c)
              rw [← hL] at HR hrl HPA
              clear hL
              go_wp2_with fail
              rw [← HVE.out]
              refine (HPA.out _ HX.out.cl HSM.out).mono ?_
              rintro e w5 ⟨A5, cap, rfl, hcap, ht, hb1⟩
              have HT := Lib.hid ht
              have HB5 := Lib.hid (HBF.out.trans (hb1.mono HBF.out.size))
              obtain ⟨n5, hn5⟩ : ∃ n5, n5 = L.length := ⟨_, rfl⟩
              rw [← hn5] at HT hcap hrl ⊢
              have HN := Lib.hid hn5
              clear ht hb1 hn5 p0 p1 p2
              go_wp2
              go_loopw [10, 11] (fun q i wr => ∃ k s : Nat, q = .int .i64 s ∧ i = .int .i64 k ∧ k ≤ n5 ∧ s = (L.take k).flatten.length ∧ wr = w5) (fun _ i _ => n5 - (intOf i).toNat)
              case atStart => exact ⟨0, 0, rfl, rfl, by omega, rfl, rfl⟩
              case round =>
                obtain ⟨k, s, rfl, rfl, hk, hs, rfl⟩ := hrel
                have HSU := Lib.hid hs
                have hs2 : s ≤ 49 * 11 := by rw [hs]; exact HR.out k
                clear hs
                by_cases hlt : k < n5
                · obtain ⟨b, off, A2, c2, rfl, hb, d0, hr, -⟩ := HT.out.one hlt
                  have HNX : Hid ((L.take (k + 1)).flatten.length = s + (rowOf L k).length) := by
                    show _ = _
                    rw [rowOf_take (by rw [← HN.out]; exact hlt), List.length_append, ← HSU.out]
                  have hs3 := HR.out (k + 1)
                  rw [HNX.out] at hs3
                  obtain ⟨m, hm⟩ : ∃ m, m = (rowOf L k).length := ⟨_, rfl⟩
                  rw [← hm] at d0 HNX hs3
                  have hi0 : (0 : Int) ≤ (k : Int) := by omega
                  have hi3 : (k : Int) < (n5 : Int) := by omega
                  clear hr hm
                  go_wp2
                  go_roundw
                  case rel => exact ⟨k + 1, s + m, by go_num, by go_num, by omega, HNX.out.symm, trivial⟩
                  case measure => simp [intOf]; omega
                · obtain rfl : k = n5 := by omega
                  have e2 : Hid ((codesC c).length = s) := by show _ = _; rw [HE.out, HSU.out, List.take_of_length_le (by have := HN.out; omega)]
                  go_wp2
                  go_ret
                  refine ⟨ret_b ?_, HB5.out⟩
                  rw [HALL.out, e2.out]
                  exact decide_eq_decide.2 (by omega)
end Go.Proofs.YtcjpopjcpgipjaaDoor
