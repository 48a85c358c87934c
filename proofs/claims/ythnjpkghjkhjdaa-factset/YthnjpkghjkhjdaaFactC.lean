/-
  Contracts of package fact over a table that only read: openSlot, inPlace, May, Hash, Has.
-/
import Derived.Test.YthnjpkghjkhjdaaFactB
namespace Go.Proofs.Ythnjpkghjkhjdaa
open Go.RowKit Go.Deep
set_option linter.unusedSimpArgs false
set_option linter.unusedVariables false
set_option maxRecDepth 100000

set_option maxHeartbeats 1000000 in
theorem openSlot_any (A' : Option Addr) (m c' : Nat) (v : Tv) (t : Tb) (a : List Int) (d : Nat) (w : World) (hc : TabAt w w.heap.size v t) (h32 : v.n1 = 32) (ha : IntsAt w w.heap.size A' m a) (hf : FactC a) (hd32 : d < 32) (hd : slAt t (atF a d) < 0) (hb : ∀ e, e < d → 0 ≤ slAt t (atF a e)) :
    Calls Try.prog 45 #[v.val, .slice A' m c'] w fun e w' => e = .returned (.int .i64 (atF a d : Nat)) ∧ Below w.heap.size w w' := by
  have HA := Lib.hid (ha.on (below_new w v.obj))
  unfold Tv.obj at HA
  have HF := Lib.hid hf
  have HD := Lib.hid hd
  have HBD := Lib.hid hb
  clear ha hf hd hb
  have hb0 := below_new w v.obj
  have hx := TBox.new hc
  have h1 := hc.sl.len
  have h2 := hc.fc.len
  rw [Tv.val_eq]
  unfold Tv.obj at hx hb0
  obtain ⟨A1, n1, c1, A2, n2, c2⟩ := v
  dsimp only at h32 h1 h2 hx hb0 ⊢
  subst h32
  have HX := Lib.hid hx
  have HB0 := Lib.hid hb0
  have H1 := Lib.hid h1
  have H2 := Lib.hid h2
  have f2 := hx.tb.f2
  dsimp only at f2
  clear hc hb0 hx h1 h2
  dsimp only at HA
  go_enter Try.func45, Try.ntmps45
  go_wp2_with fail
  obtain ⟨w0, hw0⟩ : ∃ w0, w0 = w.alloc (.cells #[.slice A1 32 c1, .slice A2 n2 c2] 26) := ⟨_, rfl⟩
  rw [← hw0] at HX HB0 HA ⊢
  clear hw0
  refine (hash_any A' m c' _ a _ HA.out HF.out).mono ?_
  rintro e w1 ⟨rfl, rfl⟩
  obtain ⟨h, hh⟩ : ∃ h, h = hashF a := ⟨_, rfl⟩
  have hlt9 : h < 1009 := by rw [hh]; exact hashF_lt a
  have HH : Hid (∀ e, atF a e = (h + e) % 32) := fun e => by rw [hh]; rfl
  rw [← hh]
  clear hh
  have p0 := HX.out.c0
  have p1 := HX.out.c1
  dsimp only at p0 p1
  go_wp2
  go_loop [5] (fun i => ∃ k p : Nat, i = .int .i64 p ∧ k ≤ d ∧ Hid (p = (h + k) % 32)) (fun i => ((h + d) % 32 + 32 - (intOf i).toNat) % 32)
  case atStart => exact ⟨0, h % 32, by go_num, by omega, Lib.hid (p := h % 32 = (h + 0) % 32) rfl⟩
  case round =>
    obtain ⟨k, p, rfl, hk, HP⟩ := hrel
    have hp32 : p < 32 := by have := HP.out; omega
    obtain ⟨b, off, hA, _, hcl⟩ := HX.out.tb.sl.at_ (show 0 < 32 by omega)
    dsimp only at hA
    subst hA
    have hcx := hcl p hp32
    obtain ⟨x, hx⟩ : ∃ x, x = slAt t p := ⟨_, rfl⟩
    replace hcx : w0.cell? ⟨b, off + p, none⟩ = some (.int .i64 x) := by rw [hx]; exact hcx
    have HXX : Hid (x = slAt t (atF a k)) := by show _ = _; rw [HH.out, ← HP.out, hx]
    have k1 : (p : Int) < 32 := by omega
    clear hcl hx
    by_cases hkd : k = d
    · subst hkd
      have g1 : ¬ 0 ≤ x := by have := HD.out; rw [← HXX.out] at this; omega
      go_wp2
      go_ret
      refine ⟨?_, HB0.out⟩
      rw [HH.out, ← HP.out]; rfl
    · have g1 : 0 ≤ x := by rw [HXX.out]; exact HBD.out k (by omega)
      go_wp2
      go_round
      case rel => exact ⟨k + 1, (p + 1) % 32, by go_num, by omega, by show _ = _; have := HP.out; omega⟩
      case measure => simp [intOf]; have := HP.out; omega
set_option maxHeartbeats 2000000 in
theorem inPlace_any (v : Tv) (t : Tb) (w : World) (hc : TabAt w w.heap.size v t) (h32 : v.n1 = 32) (hr : Range t) (hf : ∀ k, k < t.facts.length → FactC (fcAt t k)) :
    Calls Try.prog 38 #[v.val] w fun e w' => e = .returned (.bool (propB (Place t))) ∧ Below w.heap.size w w' := by
  have HF := Lib.hid hf
  have HR := Lib.hid hr
  clear hf hr
  have hb0 := below_new w v.obj
  have hx := TBox.new hc
  have h1 := hc.sl.len
  have h2 := hc.fc.len
  rw [Tv.val_eq]
  unfold Tv.obj at hx hb0
  obtain ⟨A1, n1, c1, A2, n2, c2⟩ := v
  dsimp only at h32 h1 h2 hx hb0 ⊢
  subst h32
  have HX := Lib.hid hx
  have HB0 := Lib.hid hb0
  have H1 := Lib.hid h1
  have H2 := Lib.hid h2
  have f2 := hx.tb.f2
  dsimp only at f2
  clear hc hb0 hx h1 h2
  have p0 := HX.out.c0
  have p1 := HX.out.c1
  dsimp only at p0 p1
  go_enter Try.func38, Try.ntmps38
  go_wp2
  go_loop [3, 12] (fun q i => ∃ k : Nat, q = .int .i64 (takenN t k : Nat) ∧ i = .int .i64 k ∧ k ≤ 32 ∧ takenN t k ≤ k) (fun _ i => 32 - (intOf i).toNat)
  case atStart => exact ⟨0, rfl, rfl, by omega, by rw [takenN_zero]; omega⟩
  case round =>
    obtain ⟨k, rfl, rfl, hk, htk⟩ := hrel
    obtain ⟨y, hy⟩ : ∃ y, y = takenN t k := ⟨_, rfl⟩
    rw [← hy] at htk ⊢
    have HY := Lib.hid hy
    clear hy
    by_cases hlt : k < 32
    · obtain ⟨b, off, hA, _, hcl⟩ := HX.out.tb.sl.at_ (show 0 < 32 by omega)
      dsimp only at hA
      subst hA
      have hcx := hcl k hlt
      obtain ⟨x, hx⟩ : ∃ x, x = slAt t k := ⟨_, rfl⟩
      replace hcx : (w.alloc (.cells #[.slice (some ⟨b, off, none⟩) 32 c1, .slice A2 n2 c2] 26)).cell? ⟨b, off + k, none⟩ = some (.int .i64 x) := by rw [hx]; exact hcx
      have HXX := Lib.hid hx
      have HT := Lib.hid (takenN_next (t := t) (n := k))
      rw [← HXX.out, ← HY.out] at HT
      have k1 : (k : Int) < 32 := by omega
      clear hcl hx
      by_cases g1 : 0 ≤ x
      · have HN : Hid (takenN t (k + 1) = y + 1) := by show _ = _; rw [HT.out, if_pos g1]
        go_wp2
        go_round
        case rel => exact ⟨k + 1, by rw [HN.out]; go_num, by go_num, by omega, by rw [HN.out]; omega⟩
        case measure => simp [intOf]; omega
      · have HN : Hid (takenN t (k + 1) = y) := by show _ = _; rw [HT.out, if_neg g1]; rfl
        go_wp2
        go_round
        case rel => exact ⟨k + 1, by rw [HN.out], by go_num, by omega, by rw [HN.out]; omega⟩
        case measure => simp [intOf]; omega
    · obtain rfl : k = 32 := by omega
      by_cases g1 : y = n2
      · subst g1
        go_wp2
        obtain ⟨w0, hw0⟩ : ∃ w0, w0 = w.alloc (.cells #[.slice A1 32 c1, .slice A2 y c2] 26) := ⟨_, rfl⟩
        rw [← hw0] at HX HB0 ⊢
        clear hw0 p0 p1
        go_loopw [29] (fun i wr => ∃ k : Nat, i = .int .i64 k ∧ k ≤ y ∧ Hid (∀ j, j < k → 0 ≤ slotR t (fcAt t j) ∧ slAt t (slotR t (fcAt t j)).toNat = j) ∧ Below w0.heap.size w0 wr) (fun i _ => y - (intOf i).toNat)
        case atStart => exact ⟨0, rfl, by omega, fun j hj => absurd hj (Nat.not_lt_zero _), Below.refl _ _⟩
        case round =>
          obtain ⟨k, rfl, hk, HS, hbw⟩ := hrel
          have HBW := Lib.hid hbw
          have HXR := Lib.hid (HX.out.on hbw)
          have HBB := Lib.hid (HB0.out.trans (hbw.mono HB0.out.size))
          clear hbw
          have p0 := HXR.out.c0
          have p1 := HXR.out.c1
          dsimp only at p0 p1
          by_cases hlt : k < y
          · obtain ⟨b2, o2, A3, c3, hA2, _, d0, hri, _⟩ := HXR.out.tb.fc.one (i := k) hlt
            dsimp only at hA2
            subst hA2
            have hkl : k < t.facts.length := by rw [H2.out]; exact hlt
            obtain ⟨r, hrr⟩ : ∃ r, r = rowOf t.facts k := ⟨_, rfl⟩
            rw [← hrr] at d0 hri
            have HRI := Lib.hid hri
            have HRR : Hid (fcAt t k = r) := hrr.symm
            have q1 : (k : Int) < (y : Int) := by omega
            clear hri hrr
            go_wp2_with fail
            refine (slotOf_any A3 r.length c3 ⟨A1, 32, c1, some ⟨b2, o2, none⟩, y, c2⟩ t r _ HXR.out.tb rfl HR.out HRI.out.at_ (by rw [← HRR.out]; exact HF.out k hkl)).mono ?_
            rintro e w2 ⟨rfl, hb2⟩
            have HB2 := Lib.hid hb2
            have HX2 := Lib.hid (HXR.out.on hb2)
            have HBF := Lib.hid (HBB.out.trans (hb2.mono HBB.out.size))
            clear hb2 p0 p1 d0
            have p0 := HX2.out.c0
            have p1 := HX2.out.c1
            dsimp only at p0 p1
            have hsl := slotR_lt (t := t) (a := r)
            obtain ⟨s, hs⟩ : ∃ s, s = slotR t r := ⟨_, rfl⟩
            rw [← hs] at hsl ⊢
            have HSS : Hid (slotR t (fcAt t k) = s) := by show _ = _; rw [HRR.out]; exact hs.symm
            clear hs
            by_cases g2 : s < 0
            · have HN : Hid (¬ Place t) := fun q => by have := (q.2 k hkl).1; rw [HSS.out] at this; omega
              have HP := Lib.hid (propB_no HN.out)
              go_wp2
              go_ret
              exact ⟨ret_b HP.out.symm, HBF.out⟩
            · obtain ⟨p, hp⟩ : ∃ p : Nat, s = (p : Int) := ⟨s.toNat, by omega⟩
              subst hp
              obtain ⟨b, off, hA, _, hcl⟩ := HX2.out.tb.sl.at_ (show 0 < 32 by omega)
              dsimp only at hA
              subst hA
              have hcx := hcl p (show p < 32 by omega)
              obtain ⟨x, hx⟩ : ∃ x, x = slAt t p := ⟨_, rfl⟩
              replace hcx : w2.cell? ⟨b, off + p, none⟩ = some (.int .i64 x) := by rw [hx]; exact hcx
              have HXX := Lib.hid hx
              have k1 : (p : Int) < 32 := by omega
              have k2 : (0 : Int) ≤ (p : Int) := by omega
              clear hcl hx g2
              by_cases g3 : x = (k : Int)
              · have HN : Hid (0 ≤ slotR t (fcAt t k) ∧ slAt t (slotR t (fcAt t k)).toNat = k) := by
                  show _ ∧ _
                  rw [HSS.out, Int.toNat_natCast, ← HXX.out]
                  exact ⟨k2, g3⟩
                have g4 : (x != (k : Int)) = false := by simp [g3]
                subst g3
                go_wp2
                go_roundw
                case rel => exact ⟨k + 1, by go_num, by omega, fun j hj => if z : j = k then z ▸ HN.out else HS.out j (by omega), HBW.out.trans (HB2.out.mono HBW.out.size)⟩
                case measure => simp [intOf]; omega
              · have HN : Hid (¬ Place t) := fun q => by
                  have := (q.2 k hkl).2
                  rw [HSS.out, Int.toNat_natCast, ← HXX.out] at this
                  exact g3 this
                have HP := Lib.hid (propB_no HN.out)
                have g4 : (x != (k : Int)) = true := by simp [g3]
                go_wp2
                go_ret
                exact ⟨ret_b HP.out.symm, HBF.out⟩
          · obtain rfl : k = y := by omega
            have HP := Lib.hid (propB_yes (P := Place t) ⟨by rw [← HY.out, H2.out], fun j hj => HS.out j (by rw [← H2.out]; exact hj)⟩)
            go_wp2
            go_ret
            exact ⟨ret_b HP.out.symm, HBB.out⟩
      · have HN : Hid (¬ Place t) := fun q => g1 (by rw [HY.out, q.1, H2.out])
        have HP := Lib.hid (propB_no HN.out)
        have g2 : ((y : Int) != (n2 : Int)) = true := by simp; omega
        go_wp2
        go_ret
        exact ⟨ret_b HP.out.symm, HB0.out⟩
end Go.Proofs.Ythnjpkghjkhjdaa
