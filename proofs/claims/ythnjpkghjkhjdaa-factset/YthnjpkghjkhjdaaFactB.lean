/-
  Contracts of package fact over a table that only read: inRange, slotOf, openSlot.
-/
import Derived.Test.YthnjpkghjkhjdaaFactA
namespace Go.Proofs.Ythnjpkghjkhjdaa
open Go.RowKit Go.Deep
set_option linter.unusedSimpArgs false
set_option linter.unusedVariables false
set_option maxRecDepth 100000

theorem takeRow_at {t : Tb} {k : Nat} (h : k < t.facts.length) : rowOf t.facts k = fcAt t k := rfl
set_option maxHeartbeats 1000000 in
theorem inRange_any (v : Tv) (t : Tb) (w : World) (hc : TabAt w w.heap.size v t) (h32 : v.n1 = 32) :
    Calls Try.prog 37 #[v.val] w fun e w' => e = .returned (.bool (propB (Range t))) ∧ Below w.heap.size w w' := by
  have hb0 := below_new w v.obj
  have hx := TBox.new hc
  have h1 := hc.sl.len
  have h2 := hc.fc.len
  rw [Tv.val_eq]
  unfold Tv.obj at hx hb0
  obtain ⟨A1, n1, c1, A2, n2, c2⟩ := v
  dsimp only at h32 h1 h2 hx hb0 ⊢
  subst h32
  have HX := Lib.hid hx
  have HB0 := Lib.hid hb0
  have H1 := Lib.hid h1
  have H2 := Lib.hid h2
  have p0 := hx.c0
  have p1 := hx.c1
  have p2 := hx.tb.f2
  dsimp only at p0 p1 p2
  clear hc hb0 hx h1 h2
  go_enter Try.func37, Try.ntmps37
  go_wp2
  go_loop [8] (fun i => ∃ k : Nat, i = .int .i64 k ∧ k ≤ 32 ∧ Hid (∀ j, j < k → -2 ≤ slAt t j ∧ slAt t j < t.facts.length)) (fun i => 32 - (intOf i).toNat)
  case atStart => exact ⟨0, rfl, by omega, fun j hj => absurd hj (Nat.not_lt_zero _)⟩
  case round =>
    obtain ⟨k, rfl, hk, HR⟩ := hrel
    by_cases hlt : k < 32
    · obtain ⟨b, off, hA, _, hcl⟩ := HX.out.tb.sl.at_ (show 0 < 32 by omega)
      dsimp only at hA
      subst hA
      have hcx := hcl k hlt
      obtain ⟨x, hx⟩ : ∃ x, x = slAt t k := ⟨_, rfl⟩
      replace hcx : (w.alloc (.cells #[.slice (some ⟨b, off, none⟩) 32 c1, .slice A2 n2 c2] 26)).cell? ⟨b, off + k, none⟩ = some (.int .i64 x) := by rw [hx]; exact hcx
      have HXX := Lib.hid hx
      have k1 : (k : Int) < 32 := by omega
      clear hcl hx
      by_cases g1 : x < -2
      · have HN : Hid (¬ Range t) := fun q => by have := (q k hlt).1; rw [← HXX.out] at this; omega
        have HP := Lib.hid (propB_no HN.out)
        go_wp2
        go_ret
        exact ⟨ret_b HP.out.symm, HB0.out⟩
      · by_cases g2 : (n2 : Int) ≤ x
        · have HN : Hid (¬ Range t) := fun q => by have := (q k hlt).2; rw [← HXX.out, H2.out] at this; omega
          have HP := Lib.hid (propB_no HN.out)
          go_wp2
          go_ret
          exact ⟨ret_b HP.out.symm, HB0.out⟩
        · have HN : Hid (-2 ≤ slAt t k ∧ slAt t k < t.facts.length) := by show _ ∧ _; rw [← HXX.out, H2.out]; omega
          go_wp2
          go_round
          case rel => exact ⟨k + 1, by go_num, by omega, fun j hj => if z : j = k then z ▸ HN.out else HR.out j (by omega)⟩
          case measure => simp [intOf]; omega
    · obtain rfl : k = 32 := by omega
      have HP := Lib.hid (propB_yes (P := Range t) HR.out)
      go_wp2
      go_ret
      exact ⟨ret_b HP.out.symm, HB0.out⟩
set_option maxHeartbeats 2000000 in
theorem slotOf_any (A' : Option Addr) (m c' : Nat) (v : Tv) (t : Tb) (a : List Int) (w : World) (hc : TabAt w w.heap.size v t) (h32 : v.n1 = 32) (hr : Range t) (ha : IntsAt w w.heap.size A' m a) (hf : FactC a) :
    Calls Try.prog 34 #[v.val, .slice A' m c'] w fun e w' => e = .returned (.int .i64 (slotR t a)) ∧ Below w.heap.size w w' := by
  have hb0 := below_new w v.obj
  have hx := TBox.new hc
  have h1 := hc.sl.len
  have h2 := hc.fc.len
  have ha0 := ha.on hb0
  have hm : m ≤ maxLen := by rw [← ha.len]; have := hf.len; unfold maxLen; omega
  rw [Tv.val_eq]
  unfold Tv.obj at hx hb0 ha0
  obtain ⟨A1, n1, c1, A2, n2, c2⟩ := v
  dsimp only at h32 h1 h2 hx hb0 ha0 ⊢
  subst h32
  have HX := Lib.hid hx
  have HB0 := Lib.hid hb0
  have HA := Lib.hid ha0
  have HF := Lib.hid hf
  have HR := Lib.hid hr
  have H2 := Lib.hid h2
  have f2 := hx.tb.f2
  dsimp only at f2
  clear hc hb0 hx h1 h2 ha ha0 hf hr
  go_enter Try.func34, Try.ntmps34
  go_wp2_with fail
  obtain ⟨w0, hw0⟩ : ∃ w0, w0 = w.alloc (.cells #[.slice A1 32 c1, .slice A2 n2 c2] 26) := ⟨_, rfl⟩
  rw [← hw0] at HX HB0 HA ⊢
  clear hw0
  refine (hash_any A' m c' _ a _ HA.out HF.out).mono ?_
  rintro e w1 ⟨rfl, rfl⟩
  obtain ⟨h, hh⟩ : ∃ h, h = hashF a := ⟨_, rfl⟩
  have hlt9 : h < 1009 := by rw [hh]; exact hashF_lt a
  have HH := Lib.hid hh
  rw [← hh]
  clear hh
  go_wp2
  go_loopw [11] (fun i wr => ∃ k : Nat, i = .int .i64 k ∧ k ≤ 32 ∧ Hid (slotR t a = slotGo t a (32 - k)) ∧ Below w0.heap.size w0 wr) (fun i _ => 32 - (intOf i).toNat)
  case atStart => exact ⟨0, rfl, by omega, Lib.hid (p := slotR t a = slotGo t a (32 - 0)) rfl, Below.refl _ _⟩
  case round =>
    obtain ⟨k, rfl, hk, HS, hbw⟩ := hrel
    have HBW := Lib.hid hbw
    have HXR := Lib.hid (HX.out.on hbw)
    have HAR := Lib.hid (HA.out.on hbw)
    have HBB := Lib.hid (HB0.out.trans (hbw.mono HB0.out.size))
    clear hbw
    by_cases hlt : k < 32
    · obtain ⟨b, off, hA, _, hcl⟩ := HXR.out.tb.sl.at_ (show 0 < 32 by omega)
      dsimp only at hA
      subst hA
      have hcx := hcl (atF a k) atF_lt
      have HST := Lib.hid (slotGo_step (t := t) (a := a) hlt)
      obtain ⟨x, hx⟩ : ∃ x, x = slAt t (atF a k) := ⟨_, rfl⟩
      replace hcx : wr.cell? ⟨b, off + atF a k, none⟩ = some (.int .i64 x) := by rw [hx]; exact hcx
      have HXX := Lib.hid hx
      have hpp : atF a k = (h + k) % 32 := by rw [HH.out]; rfl
      rw [← hx, hpp] at HST
      rw [hpp] at hcx
      have hp32 : (h + k) % 32 < 32 := by omega
      have hp33 : ((h : Int) + (k : Int)) % 32 < 32 := by omega
      have hp34 : 0 ≤ ((h : Int) + (k : Int)) % 32 := by omega
      have k1 : (k : Int) < 32 := by omega
      have p0 := HXR.out.c0
      have p1 := HXR.out.c1
      dsimp only at p0 p1
      have HRG := Lib.hid (HR.out _ (atF_lt (a := a) (d := k)))
      rw [← hx, H2.out] at HRG
      clear hcl hx hpp
      by_cases e1 : x = -1
      · have HN : Hid (slotR t a = -1) := by show _ = _; rw [HS.out, HST.out, if_pos e1]
        subst e1
        go_wp2
        go_ret
        exact ⟨by rw [HN.out]; rfl, HBB.out⟩
      by_cases e2 : 0 ≤ x
      · obtain ⟨q, hq⟩ : ∃ q : Nat, x = (q : Int) := ⟨x.toNat, by omega⟩
        have hqn : q < n2 := by have := HRG.out.2; omega
        subst hq
        rw [if_neg e1, Int.toNat_natCast] at HST
        obtain ⟨b2, o2, A3, c3, hA2, _, d0, hri, _⟩ := HXR.out.tb.fc.one (i := q) hqn
        dsimp only at hA2
        subst hA2
        obtain ⟨r, hrr⟩ : ∃ r, r = rowOf t.facts q := ⟨_, rfl⟩
        rw [← hrr] at d0 hri
        have HRI := Lib.hid hri
        have HRR : Hid (fcAt t q = r) := hrr.symm
        have q1 : (q : Int) < (n2 : Int) := by omega
        have q2 : (0 : Int) ≤ (q : Int) := by omega
        clear hri hrr e1 e2
        go_wp2_with fail
        refine (equal_any A3 A' r.length c3 m c' _ _ r a _ HRI.out.at_ HAR.out HRI.out.big hm).mono ?_
        rintro e w2 ⟨rfl, hb2⟩
        have HBX := Lib.hid hb2
        have HBF := Lib.hid (HBB.out.trans (hb2.mono HBB.out.size))
        clear hb2
        cases hsm : sameI r a
        · have HN : Hid (slotR t a = slotGo t a (32 - (k + 1))) := by
            show _ = _
            rw [HS.out, HST.out, if_neg]
            rintro ⟨-, z⟩
            rw [HRR.out] at z
            rw [z, sameI_self] at hsm; cases hsm
          clear hsm
          go_wp2
          go_roundw
          case rel => exact ⟨k + 1, by go_num, by omega, HN, HBW.out.trans (HBX.out.mono HBW.out.size)⟩
          case measure => simp [intOf]; omega
        · have HN : Hid (slotR t a = ((h : Int) + (k : Int)) % 32) := by
            show _ = _
            rw [HS.out, HST.out, if_pos ⟨by omega, by rw [HRR.out]; exact of_decide_eq_true hsm⟩]
            omega
          clear hsm
          go_wp2
          go_ret
          exact ⟨by rw [HN.out]; rfl, HBF.out⟩
      · have HN : Hid (slotR t a = slotGo t a (32 - (k + 1))) := by
          show _ = _
          rw [HS.out, HST.out, if_neg e1, if_neg (fun z => e2 z.1)]
        go_wp2
        go_roundw
        case rel => exact ⟨k + 1, by go_num, by omega, HN, HBW.out⟩
        case measure => simp [intOf]; omega
    · obtain rfl : k = 32 := by omega
      go_wp2
      go_ret
      exact ⟨by rw [HS.out]; rfl, HBB.out⟩
end Go.Proofs.Ythnjpkghjkhjdaa
