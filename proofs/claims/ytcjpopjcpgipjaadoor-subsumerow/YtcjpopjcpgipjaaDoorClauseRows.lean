/-
  Contracts: clause.parts, and rows of quaereref8: all atoms and tuples of a clause, as they lie.
-/
import Derived.Test.YtcjpopjcpgipjaaDoorHelpClause
namespace Go.Proofs.YtcjpopjcpgipjaaDoor
open Go.RowKit Go.Deep
set_option linter.unusedSimpArgs false
set_option linter.unusedVariables false
set_option maxRecDepth 100000

theorem exists_vals {P : Nat → Value → Prop} : ∀ n, (∀ i, i < n → ∃ u, P i u) → ∃ vs : List Value, vs.length = n ∧ ∀ i, i < n → P i (valAt vs i)
  | 0, _ => ⟨[], rfl, fun i h => absurd h (by omega)⟩
  | n + 1, h => by
    obtain ⟨vs, h1, h2⟩ := exists_vals n fun i hi => h i (by omega)
    obtain ⟨u, hu⟩ := h n (by omega)
    refine ⟨vs ++ [u], by simp [h1], fun i hi => ?_⟩
    by_cases e : i = n
    · subst e
      rw [valAt_rights (by omega), h1, Nat.sub_self]; exact hu
    · rw [valAt_lefts (by omega)]; exact h2 i (by omega)
/-- A slice of literals whose atoms are these values. -/
structure LVals (w : World) (B : Nat) (A : Option Addr) (n : Nat) (vs : List Value) : Prop where
  len : vs.length = n
  at_ : 0 < n → ∃ b off, A = some ⟨b, off, none⟩ ∧ b < B ∧ ∀ i, i < n → ∃ x A' m c, w.cell? ⟨b, off + i * 2, none⟩ = some (.bool x) ∧ w.cell? ⟨b, off + i * 2 + 1, none⟩ = some (.slice A' m c) ∧ valAt vs i = .slice A' m c
/-- A slice of these values. -/
structure TVals (w : World) (B : Nat) (A : Option Addr) (n : Nat) (vs : List Value) : Prop where
  len : vs.length = n
  at_ : 0 < n → ∃ b off, A = some ⟨b, off, none⟩ ∧ b < B ∧ ∀ i, i < n → ∃ A' m c, w.cell? ⟨b, off + i, none⟩ = some (.slice A' m c) ∧ valAt vs i = .slice A' m c
section
variable {w w' : World} {B n : Nat} {A : Option Addr} {vs : List Value}
theorem LVals.on (h : LVals w w.heap.size A n vs) (hb : Below w.heap.size w w') : LVals w' w'.heap.size A n vs :=
  ⟨h.len, fun hn => by
    obtain ⟨b, off, e, hlt, hc⟩ := h.at_ hn
    refine ⟨b, off, e, by have := hb.size; omega, fun i hi => ?_⟩
    obtain ⟨x, A', m, c, h1, h2, h3⟩ := hc i hi
    exact ⟨x, A', m, c, by rw [hb.cell (p := ⟨b, _, none⟩) hlt]; exact h1, by rw [hb.cell (p := ⟨b, _, none⟩) hlt]; exact h2, h3⟩⟩
theorem TVals.on (h : TVals w w.heap.size A n vs) (hb : Below w.heap.size w w') : TVals w' w'.heap.size A n vs :=
  ⟨h.len, fun hn => by
    obtain ⟨b, off, e, hlt, hc⟩ := h.at_ hn
    refine ⟨b, off, e, by have := hb.size; omega, fun i hi => ?_⟩
    obtain ⟨A', m, c, h1, h3⟩ := hc i hi
    exact ⟨A', m, c, by rw [hb.cell (p := ⟨b, _, none⟩) hlt]; exact h1, h3⟩⟩
theorem LVals.one {i : Nat} (h : LVals w B A n vs) (hi : i < n) : ∃ b off x A' m c, A = some ⟨b, off, none⟩ ∧ b < B ∧ w.cell? ⟨b, off + i * 2, none⟩ = some (.bool x) ∧ w.cell? ⟨b, off + i * 2 + 1, none⟩ = some (.slice A' m c) ∧ vs.take (i + 1) = vs.take i ++ [.slice A' m c] := by
  obtain ⟨b, off, e, hlt, hc⟩ := h.at_ (by omega)
  obtain ⟨x, A', m, c, h1, h2, h3⟩ := hc i hi
  refine ⟨b, off, x, A', m, c, e, hlt, h1, h2, ?_⟩
  have hl := h.len
  unfold valAt at h3
  rw [List.getD_eq_getElem?_getD, List.getElem?_eq_getElem (by omega)] at h3
  rw [List.take_add_one, List.getElem?_eq_getElem (by omega), ← h3]; rfl
theorem TVals.one {i : Nat} (h : TVals w B A n vs) (hi : i < n) : ∃ b off A' m c, A = some ⟨b, off, none⟩ ∧ b < B ∧ w.cell? ⟨b, off + i, none⟩ = some (.slice A' m c) ∧ vs.take (i + 1) = vs.take i ++ [.slice A' m c] := by
  obtain ⟨b, off, e, hlt, hc⟩ := h.at_ (by omega)
  obtain ⟨A', m, c, h1, h3⟩ := hc i hi
  refine ⟨b, off, A', m, c, e, hlt, h1, ?_⟩
  have hl := h.len
  unfold valAt at h3
  rw [List.getD_eq_getElem?_getD, List.getElem?_eq_getElem (by omega)] at h3
  rw [List.take_add_one, List.getElem?_eq_getElem (by omega), ← h3]; rfl
end
/-- The cells of a box of a clause. -/
structure BoxV (w : World) (b : Nat) (v : Cv) : Prop where
  lt : b < w.heap.size
  c0 : w.cell? ⟨b, 0, none⟩ = some (.slice v.A1 v.n1 v.c1)
  c1 : w.cell? ⟨b, 1, none⟩ = some (.slice v.A2 v.n2 v.c2)
  c2 : w.cell? ⟨b, 2, none⟩ = some (.slice v.A3 v.n3 v.c3)
theorem BoxV.on {w w' : World} {b : Nat} {v : Cv} (h : BoxV w b v) (hb : Below w.heap.size w w') : BoxV w' b v :=
  ⟨by have := h.lt; have := hb.size; omega, by rw [hb.cell (p := ⟨b, 0, none⟩) h.lt]; exact h.c0, by rw [hb.cell (p := ⟨b, 1, none⟩) h.lt]; exact h.c1, by rw [hb.cell (p := ⟨b, 2, none⟩) h.lt]; exact h.c2⟩
theorem BoxV.new (w : World) (v : Cv) : BoxV (w.alloc v.obj) w.heap.size v :=
  ⟨by simp, by rw [Cv.obj, World.cell?_alloc_new]; rfl, by rw [Cv.obj, World.cell?_alloc_new]; rfl, by rw [Cv.obj, World.cell?_alloc_new]; rfl⟩
theorem CBox.box {w : World} {b : Nat} {v : Cv} {c : Cl} (h : CBox w b v c) : BoxV w b v := ⟨h.lt, h.c0, h.c1, h.c2⟩
/-- The values of a clause's atoms and tuples. -/
structure CVals (w : World) (v : Cv) (vs1 vs2 vs3 : List Value) : Prop where
  l : LVals w w.heap.size v.A1 v.n1 vs1
  t : TVals w w.heap.size v.A2 v.n2 vs2
  d : LVals w w.heap.size v.A3 v.n3 vs3
  z : v.A2 = none → v.c2 = 0
  few : v.n1 ≤ 6 ∧ v.n2 ≤ 6 ∧ v.n3 ≤ 6
theorem CVals.on {w w' : World} {v : Cv} {vs1 vs2 vs3 : List Value} (h : CVals w v vs1 vs2 vs3) (hb : Below w.heap.size w w') : CVals w' v vs1 vs2 vs3 := ⟨h.l.on hb, h.t.on hb, h.d.on hb, h.z, h.few⟩
def ValsPost (vs : List Value) (w : World) (e : Ending) (w' : World) : Prop := ∃ v, e = .returned v ∧ OwnR w' w.heap.size v vs ∧ Below w.heap.size w w'

set_option maxHeartbeats 2000000 in
theorem parts_any (v : Cv) (vs1 vs2 vs3 : List Value) (w : World) (h : CVals w v vs1 vs2 vs3) :
    Calls Tryd.prog 42 #[v.val] w (ValsPost (vs1 ++ vs2 ++ vs3) w) := by
  have hx := BoxV.new w v
  have hb0 := below_new w v.obj
  have hv := h.on hb0
  obtain ⟨f1, f2, f3⟩ := h.few
  simp only [Cv.val]
  unfold Cv.obj at hx hv hb0
  have HX := Lib.hid hx
  have HV := Lib.hid hv
  have HB0 := Lib.hid hb0
  have HL1 := Lib.hid h.l.len
  have HL2 := Lib.hid h.t.len
  have HL3 := Lib.hid h.d.len
  clear hx hv hb0 h
  go_enter Tryd.func42, Tryd.ntmps42
  go_wp2
  obtain ⟨w0, hw0⟩ : ∃ w0, w0 = w.alloc (.cells #[.slice v.A1 v.n1 v.c1, .slice v.A2 v.n2 v.c2, .slice v.A3 v.n3 v.c3] 26) := ⟨_, rfl⟩
  rw [← hw0] at HX HV HB0 ⊢
  obtain ⟨B, hB⟩ : ∃ B, B = w.heap.size := ⟨_, rfl⟩
  rw [← hB] at HX ⊢
  have HBB := Lib.hid hB
  clear hw0 hB
  go_loopw [3, 11] (fun q i wr => ∃ k : Nat, i = .int .i64 k ∧ k ≤ v.n1 ∧ OwnR wr w0.heap.size q (vs1.take k) ∧ Below w0.heap.size w0 wr) (fun _ i _ => v.n1 - (intOf i).toNat)
  case atStart => exact ⟨0, rfl, by omega, OwnR.nil_, Below.refl _ _⟩
  case round =>
    obtain ⟨k, rfl, hk, hown, hbw⟩ := hrel
    have HBW := Lib.hid hbw
    have HOWN := Lib.hid hown
    have hsz := hbw.size
    clear hbw hown
    by_cases hlt : k < v.n1
    · obtain ⟨b, off, x, A3, m3, c3, hA, hb, d0, d1, hnx⟩ := (HV.out.on HBW.out).l.one hlt
      rw [hA]
      have HNX := Lib.hid hnx
      have HA := Lib.hid hA
      have hi0 : (0 : Int) ≤ (k : Int) := by omega
      have hi3 : (k : Int) < (v.n1 : Int) := by omega
      have hvl : (vs1.take k).length + 1 ≤ 5864062014634 := by have := HL1.out; rw [List.length_take]; omega
      clear hnx hA
      go_wp2_with (at_builtin
                   have hbn := below_new wr (.cells #[.bool x, .slice A3 m3 c3] 75)
                   refine app_rowv rfl (.tmp 15) (.tmp 18) rfl w0.heap.size _ (vs1.take k) _ rfl (HOWN.out.on hbn) rfl rfl (by simp) hvl (by simp; omega) ?_
                   intro v2 w2 hown2 hc2
                   have HO2 := Lib.hid hown2
                   have HB2 := Lib.hid (HBW.out.trans ((hbn.mono hsz).trans hc2.bel))
                   clear hown2 hc2 hbn)
      go_roundw
      case rel => exact ⟨k + 1, by go_num, by omega, by rw [HNX.out]; exact HO2.out, HB2.out⟩
      case measure => simp [intOf]; omega
    · obtain rfl : k = v.n1 := by omega
      obtain ⟨wA, hwA⟩ : ∃ wA, wA = wr := ⟨_, rfl⟩
      subst hwA
      have hxa := HX.out.on HBW.out
      have p0 := hxa.c0
      have p1 := hxa.c1
      have p2 := hxa.c2
      have HOA : Hid (OwnR wA w0.heap.size u3 vs1) := HOWN.out.cast (List.take_of_length_le (by rw [HL1.out]; omega))
      have HTA := Lib.hid (HV.out.on HBW.out).t
      clear hxa
      go_wp2_with (at_builtin
                   refine app_rows rfl (.tmp 21) (.tmp 23) rfl w0.heap.size _ vs1 vs2 v.A2 v.n2 v.c2 rfl HOA.out rfl HTA.out.len HV.out.z (fun hn => ?_) (fun i hi => ?_) (by rw [HL1.out, HL2.out]; omega) hsz ?_
                   · obtain ⟨b, off, e, _, hc⟩ := HTA.out.at_ hn
                     refine ⟨b, off, e, fun i hi => ?_⟩
                     obtain ⟨A', m, c, q1, q2⟩ := hc i hi
                     rw [q2]; exact q1
                   · obtain ⟨b, off, e, _, hc⟩ := HTA.out.at_ (by omega)
                     obtain ⟨A', m, c, q1, q2⟩ := hc i hi
                     rw [q2]; rfl
                   intro v2 w2 hown2 hc2
                   have HO2 := Lib.hid hown2
                   have HB2 := Lib.hid (HBW.out.trans hc2.bel)
                   have r2 : w2.cell? ⟨B, 2, none⟩ = some (.slice v.A3 v.n3 v.c3) := by rw [hc2.bel.cell (p := ⟨B, 2, none⟩) HX.out.lt]; exact p2
                   clear hown2 hc2)
      go_loopw [3, 28] (fun q i wr => ∃ k : Nat, i = .int .i64 k ∧ k ≤ v.n3 ∧ OwnR wr w0.heap.size q (vs1 ++ vs2 ++ vs3.take k) ∧ Below w0.heap.size w0 wr) (fun _ i _ => v.n3 - (intOf i).toNat)
      case atStart => exact ⟨0, rfl, by omega, by simpa using HO2.out, HB2.out⟩
      case round =>
        obtain ⟨k, rfl, hk, hown, hbw⟩ := hrel
        have HBW3 := Lib.hid hbw
        have HOWN3 := Lib.hid hown
        have hsz3 := hbw.size
        clear hbw hown
        by_cases hlt : k < v.n3
        · obtain ⟨b, off, x, A3, m3, c3, hA, hb, d0, d1, hnx⟩ := (HV.out.on HBW3.out).d.one hlt
          rw [hA]
          have HNX := Lib.hid hnx
          have HA := Lib.hid hA
          have hi0 : (0 : Int) ≤ (k : Int) := by omega
          have hi3 : (k : Int) < (v.n3 : Int) := by omega
          have hvl : (vs1 ++ vs2 ++ vs3.take k).length + 1 ≤ 5864062014634 := by have := HL1.out; have := HL2.out; have := HL3.out; rw [List.length_append, List.length_append, List.length_take]; omega
          clear hnx hA
          go_wp2_with (at_builtin
                       have hbn := below_new wr (.cells #[.bool x, .slice A3 m3 c3] 75)
                       refine app_rowv rfl (.tmp 32) (.tmp 35) rfl w0.heap.size _ (vs1 ++ vs2 ++ vs3.take k) _ rfl (HOWN3.out.on hbn) rfl rfl (by simp) hvl (by simp; omega) ?_
                       intro v4 w4 hown4 hc4
                       have HO4 := Lib.hid hown4
                       have HB4 := Lib.hid (HBW3.out.trans ((hbn.mono hsz3).trans hc4.bel))
                       clear hown4 hc4 hbn)
          go_roundw
          case rel => exact ⟨k + 1, by go_num, by omega, by rw [HNX.out, ← List.append_assoc]; exact HO4.out, HB4.out⟩
          case measure => simp [intOf]; omega
        · obtain rfl : k = v.n3 := by omega
          go_wp2
          go_ret
          refine ⟨_, rfl, (HOWN3.out.cast (by rw [List.take_of_length_le (by rw [HL3.out]; omega)])).lower ?_, HB0.out.trans (HBW3.out.mono HB0.out.size)⟩
          exact HB0.out.size

set_option maxHeartbeats 2000000 in
theorem refRows_any (v : Cv) (vs1 vs2 vs3 : List Value) (w : World) (h : CVals w v vs1 vs2 vs3) :
    Calls Tryd.prog 60 #[v.val] w (ValsPost (vs1 ++ vs2 ++ vs3) w) := by
  have hx := BoxV.new w v
  have hb0 := below_new w v.obj
  have hv := h.on hb0
  obtain ⟨f1, f2, f3⟩ := h.few
  simp only [Cv.val]
  unfold Cv.obj at hx hv hb0
  have HX := Lib.hid hx
  have HV := Lib.hid hv
  have HB0 := Lib.hid hb0
  have HL1 := Lib.hid h.l.len
  have HL2 := Lib.hid h.t.len
  have HL3 := Lib.hid h.d.len
  clear hx hv hb0 h
  go_enter Tryd.func60, Tryd.ntmps60
  go_wp2
  obtain ⟨w0, hw0⟩ : ∃ w0, w0 = w.alloc (.cells #[.slice v.A1 v.n1 v.c1, .slice v.A2 v.n2 v.c2, .slice v.A3 v.n3 v.c3] 26) := ⟨_, rfl⟩
  rw [← hw0] at HX HV HB0 ⊢
  obtain ⟨B, hB⟩ : ∃ B, B = w.heap.size := ⟨_, rfl⟩
  rw [← hB] at HX ⊢
  have HBB := Lib.hid hB
  clear hw0 hB
  go_loopw [3, 4] (fun q i wr => ∃ k : Nat, i = .int .i64 k ∧ k ≤ v.n1 ∧ OwnR wr w0.heap.size q (vs1.take k) ∧ Below w0.heap.size w0 wr) (fun _ i _ => v.n1 - (intOf i).toNat)
  case atStart => exact ⟨0, rfl, by omega, OwnR.nil_, Below.refl _ _⟩
  case round =>
    obtain ⟨k, rfl, hk, hown, hbw⟩ := hrel
    have HBW := Lib.hid hbw
    have HOWN := Lib.hid hown
    have hsz := hbw.size
    have hxw := HX.out.on hbw
    have p0 := hxw.c0
    have p1 := hxw.c1
    have p2 := hxw.c2
    clear hbw hown hxw
    by_cases hlt : k < v.n1
    · obtain ⟨b, off, x, A3, m3, c3, hA, hb, d0, d1, hnx⟩ := (HV.out.on HBW.out).l.one hlt
      rw [hA] at p0 ⊢
      have HNX := Lib.hid hnx
      have hi0 : (0 : Int) ≤ (k : Int) := by omega
      have hi3 : (k : Int) < (v.n1 : Int) := by omega
      have hvl : (vs1.take k).length + 1 ≤ 5864062014634 := by have := HL1.out; have := HL2.out; have := HL3.out; simp only [List.length_append, List.length_take]; omega
      clear hnx hA
      go_wp2_with (at_builtin
                   refine app_rowv rfl (.tmp 14) (.tmp 21) rfl w0.heap.size _ (vs1.take k) _ rfl HOWN.out rfl rfl rfl hvl hsz ?_
                   intro v2 w2 hown2 hc2
                   have HO2 := Lib.hid hown2
                   have HB2 := Lib.hid (HBW.out.trans hc2.bel)
                   clear hown2 hc2)
      go_roundw
      case rel => exact ⟨k + 1, by go_num, by omega, by rw [HNX.out]; exact HO2.out, HB2.out⟩
      case measure => simp [intOf]; omega
    · obtain rfl : k = v.n1 := by omega
      obtain ⟨wA, hwA⟩ : ∃ wA, wA = wr := ⟨_, rfl⟩
      subst hwA
      have HOA : Hid (OwnR wA w0.heap.size u3 vs1) := HOWN.out.cast (List.take_of_length_le (by rw [HL1.out]; omega))
      have HBA := Lib.hid HBW.out
      clear HOWN HBW
      go_wp2
      go_loopw [3, 5] (fun q i wr => ∃ k : Nat, i = .int .i64 k ∧ k ≤ v.n2 ∧ OwnR wr w0.heap.size q (vs1 ++ vs2.take k) ∧ Below w0.heap.size w0 wr) (fun _ i _ => v.n2 - (intOf i).toNat)
      case atStart => exact ⟨0, rfl, by omega, by simpa using HOA.out, HBA.out⟩
      case round =>
        obtain ⟨k, rfl, hk, hown, hbw⟩ := hrel
        have HBW := Lib.hid hbw
        have HOWN := Lib.hid hown
        have hsz := hbw.size
        have hxw := HX.out.on hbw
        have p0 := hxw.c0
        have p1 := hxw.c1
        have p2 := hxw.c2
        clear hbw hown hxw
        by_cases hlt : k < v.n2
        · obtain ⟨b, off, A3, m3, c3, hA, hb, d0, hnx⟩ := (HV.out.on HBW.out).t.one hlt
          rw [hA] at p1 ⊢
          have HNX := Lib.hid hnx
          have hi0 : (0 : Int) ≤ (k : Int) := by omega
          have hi3 : (k : Int) < (v.n2 : Int) := by omega
          have hvl : (vs1 ++ vs2.take k).length + 1 ≤ 5864062014634 := by have := HL1.out; have := HL2.out; have := HL3.out; simp only [List.length_append, List.length_take]; omega
          clear hnx hA
          go_wp2_with (at_builtin
                       refine app_rowv rfl (.tmp 30) (.tmp 36) rfl w0.heap.size _ (vs1 ++ vs2.take k) _ rfl HOWN.out rfl rfl rfl hvl hsz ?_
                       intro v2 w2 hown2 hc2
                       have HO2 := Lib.hid hown2
                       have HB2 := Lib.hid (HBW.out.trans hc2.bel)
                       clear hown2 hc2)
          go_roundw
          case rel => exact ⟨k + 1, by go_num, by omega, by rw [HNX.out, ← List.append_assoc]; exact HO2.out, HB2.out⟩
          case measure => simp [intOf]; omega
        · obtain rfl : k = v.n2 := by omega
          obtain ⟨wB, hwB⟩ : ∃ wB, wB = wr := ⟨_, rfl⟩
          subst hwB
          have HOB : Hid (OwnR wB w0.heap.size u3 (vs1 ++ vs2)) := HOWN.out.cast (by rw [List.take_of_length_le (by rw [HL2.out]; omega)])
          have HBB2 := Lib.hid HBW.out
          clear HOWN HBW
          go_wp2
          go_loopw [3, 6] (fun q i wr => ∃ k : Nat, i = .int .i64 k ∧ k ≤ v.n3 ∧ OwnR wr w0.heap.size q (vs1 ++ vs2 ++ vs3.take k) ∧ Below w0.heap.size w0 wr) (fun _ i _ => v.n3 - (intOf i).toNat)
          case atStart => exact ⟨0, rfl, by omega, by simpa using HOB.out, HBB2.out⟩
          case round =>
            obtain ⟨k, rfl, hk, hown, hbw⟩ := hrel
            have HBW := Lib.hid hbw
            have HOWN := Lib.hid hown
            have hsz := hbw.size
            have hxw := HX.out.on hbw
            have p0 := hxw.c0
            have p1 := hxw.c1
            have p2 := hxw.c2
            clear hbw hown hxw
            by_cases hlt : k < v.n3
            · obtain ⟨b, off, x, A3, m3, c3, hA, hb, d0, d1, hnx⟩ := (HV.out.on HBW.out).d.one hlt
              rw [hA] at p2 ⊢
              have HNX := Lib.hid hnx
              have hi0 : (0 : Int) ≤ (k : Int) := by omega
              have hi3 : (k : Int) < (v.n3 : Int) := by omega
              have hvl : (vs1 ++ vs2 ++ vs3.take k).length + 1 ≤ 5864062014634 := by have := HL1.out; have := HL2.out; have := HL3.out; simp only [List.length_append, List.length_take]; omega
              clear hnx hA
              go_wp2_with (at_builtin
                           refine app_rowv rfl (.tmp 45) (.tmp 52) rfl w0.heap.size _ (vs1 ++ vs2 ++ vs3.take k) _ rfl HOWN.out rfl rfl rfl hvl hsz ?_
                           intro v2 w2 hown2 hc2
                           have HO2 := Lib.hid hown2
                           have HB2 := Lib.hid (HBW.out.trans hc2.bel)
                           clear hown2 hc2)
              go_roundw
              case rel => exact ⟨k + 1, by go_num, by omega, by rw [HNX.out, ← List.append_assoc]; exact HO2.out, HB2.out⟩
              case measure => simp [intOf]; omega
            · obtain rfl : k = v.n3 := by omega
              go_wp2
              go_ret
              exact ⟨_, rfl, (HOWN.out.cast (by rw [List.take_of_length_le (by rw [HL3.out]; omega)])).lower HB0.out.size, HB0.out.trans (HBW.out.mono HB0.out.size)⟩
end Go.Proofs.YtcjpopjcpgipjaaDoor
