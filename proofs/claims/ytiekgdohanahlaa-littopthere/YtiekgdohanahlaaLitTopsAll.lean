/-
  Contract: lit.Tops.
-/
import Derived.Test.YtiekgdohanahlaaLitEnter
namespace Go.Proofs.Ytiekgdohanahlaa
open Go.RowKit Go.Deep
set_option linter.unusedSimpArgs false
set_option linter.unusedVariables false
set_option maxRecDepth 100000

set_option maxHeartbeats 1000000 in
theorem litTops_any (A A1 : Option Addr) (n c n1 c1 : Nat) (ss : List Sym) (ls : List Lt) (w : World) (h : SymsAt w w.heap.size A n ss) (hn : n ≤ maxLen) (hnc : n ≤ c) (hl : LitsAt w w.heap.size A1 n1 ls) (hn1 : n1 + 1 ≤ 4398046511104) :
    Calls Try.prog 19 #[.slice A n c, .slice A1 n1 c1] w (TopsPost ss ls w) := by
  have HS := Lib.hid h
  have HL := Lib.hid hl
  have HN := Lib.hid hl.len
  clear h hl
  go_enter Try.func19, Try.ntmps19
  go_wp2_with fail
  refine (allMay_any A A1 n c n1 c1 ss ls w HS.out hn hnc HL.out (by omega)).mono ?_
  rintro e w0 ⟨rfl, hb0⟩
  have HB0 := Lib.hid hb0
  clear hb0
  cases hok : topsOk ss ls
  · have HNO := Lib.hid hok
    clear hok
    go_wp2
    go_ret2
    exact TopsPost.bad HNO.out HB0.out
  · have HOK := Lib.hid hok
    have HV : Hid (∀ j, j < n1 → litB ss (ltAt ls j) = true) := by
      intro j hj
      unfold topsOk at hok
      rw [Bool.and_eq_true, List.all_eq_true] at hok
      exact hok.2 _ (ltAt_mem (by rw [HN.out]; exact hj))
    clear hok
    go_wp2
    go_loopw [6, 18] (fun q j wr => ∃ (k : Nat) (gs : List Lt), j = .int .i64 k ∧ k ≤ n1 ∧ Grt ss (ls.take k) gs ∧ OwnG wr w.heap.size q gs ∧ Below w.heap.size w wr) (fun _ j _ => n1 - (intOf j).toNat)
    case atStart => exact ⟨0, [], rfl, by omega, Grt.nil, OwnG.nil_, HB0.out⟩
    case round =>
      obtain ⟨k, gs, rfl, hk, hgr, hown, hbw⟩ := hrel
      have HBW := Lib.hid hbw
      have HGR := Lib.hid hgr
      have HOW := Lib.hid hown
      have hsz := hbw.size
      have hgl : gs.length ≤ k := by have := hgr.few; rw [List.length_take] at this; omega
      clear hbw hgr hown
      by_cases hlt : k < n1
      · have hkl : k < ls.length := by rw [HN.out]; exact hlt
        obtain ⟨b, off, A2, c2, rfl, hb, d0, d1, hk1⟩ := (HL.out.below HBW.out).one hlt
        have HVK := Lib.hid (HV.out k hlt)
        have HNX := Lib.hid (HGR.out.step (ltAt ls k))
        have HTK : Hid (ls.take k ++ [ltAt ls k] = ls.take (k + 1)) := (take_succ hkl).symm
        have HVG : Hid (∀ j, j < gs.length → litB ss (ltAt gs j) = true) := by
          intro j hj
          obtain ⟨i, hi, e⟩ := mem_ltAt (List.mem_of_mem_take (HGR.out.sub _ (ltAt_mem hj)))
          rw [← e]
          exact HV.out i (by rw [HN.out] at hi; exact hi)
        obtain ⟨p, hp⟩ : ∃ p, p = ltAt ls k := ⟨_, rfl⟩
        rw [← hp] at d0 d1 hk1 HVK HNX HTK
        have HK2 := Lib.hid hk1
        have hi0 : (0 : Int) ≤ (k : Int) := by omega
        have hi3 : (k : Int) < (n1 : Int) := by omega
        clear hk1 hp hkl
        go_wp2_with fail
        have hb1 := below_new wr (.cells #[.bool p.neg, .slice A2 p.atom.length c2] 25)
        refine (enter_any A A2 n c c2 w.heap.size _ ss gs p _ (by simp; omega) ((HS.out.below HBW.out).below (hb1.mono hsz)) hn (HK2.out.below (hb1.mono hsz)) HVK.out (HOW.out.on hb1) HVG.out HGR.out.apart (by omega)).mono ?_
        rintro e w1 ⟨v1, rfl, hv1, hb2⟩
        have HO1 := Lib.hid hv1
        have HB1 := Lib.hid (HBW.out.trans ((hb1.mono hsz).trans hb2))
        clear hb1 hv1 hb2
        go_wp2
        go_roundw
        case rel => exact ⟨k + 1, entL ss gs p, by go_num, by omega, by rw [← HTK.out]; exact HNX.out, HO1.out, HB1.out⟩
        case measure => simp [intOf]; omega
      · obtain rfl : k = n1 := by omega
        obtain ⟨wA, hwA⟩ : ∃ wA, wA = wr := ⟨_, rfl⟩
        subst hwA
        have HGA : Hid (Grt ss ls gs) := by have := HGR.out; rw [List.take_of_length_le (by rw [HN.out]; omega)] at this; exact this
        obtain ⟨Ag, capg, hvg, hcg, hlg⟩ := HOW.out.litsAt hsz
        obtain ⟨ng, hng⟩ : ∃ ng, gs.length = ng := ⟨_, rfl⟩
        rw [hng] at hvg hcg hlg hgl
        have HLG := Lib.hid hlg
        have HVA := Lib.hid hvg
        clear hlg HOW
        obtain rfl := HVA.out
        clear hvg HVA
        go_wp2
        go_loopw [9, 29] (fun q j wr => ∃ i : Nat, j = .int .i64 i ∧ i ≤ k ∧ OwnI wr wA.heap.size q (topsN ss ls i) ∧ Below w.heap.size w wr ∧ Below wA.heap.size wA wr) (fun _ j _ => k - (intOf j).toNat)
        case atStart => exact ⟨0, rfl, by omega, OwnI.nil_, HBW.out, Below.refl _ _⟩
        case round =>
          obtain ⟨i, rfl, hi, hown, hbw, hbA⟩ := hrel
          have HBW2 := Lib.hid hbw
          have HBA := Lib.hid hbA
          have HOWN := Lib.hid hown
          have hsz2 := hbw.size
          have hszA := hbA.size
          clear hbw hown hbA
          by_cases hlt : i < k
          · have hil : i < ls.length := by rw [HN.out]; exact hlt
            obtain ⟨b, off, A2, c2, rfl, hb, d0, d1, hk1⟩ := (HL.out.on HBW2.out).one hlt
            have HHAS := Lib.hid (HGA.out.has hil)
            have HTN := Lib.hid (topsN_succ (ss := ss) (ls := ls) i)
            have hxl : (topsN ss ls i).length + 1 ≤ 17592186044416 := by have := topsN_length (ss := ss) (ls := ls) i; omega
            obtain ⟨p, hp⟩ : ∃ p, p = ltAt ls i := ⟨_, rfl⟩
            rw [← hp] at d0 d1 hk1 HHAS
            have HK2 := Lib.hid hk1
            have hi0 : (0 : Int) ≤ (i : Int) := by omega
            have hi3 : (i : Int) < (k : Int) := by omega
            clear hk1 hp hil
            go_wp2_with fail
            have hb1 := below_new wr (.cells #[.bool p.neg, .slice A2 p.atom.length c2] 25)
            have hbx := HBA.out.trans (hb1.mono hszA)
            refine (has_any Ag A2 _ capg _ c2 p gs _ (HLG.out.on hbx) (by omega) (HK2.out.on hb1)).mono ?_
            rintro e w1 ⟨rfl, hb2⟩
            have hb3 := hb1.trans (hb2.mono hb1.size)
            have HO1 := Lib.hid (HOWN.out.on hb3)
            have HB1 := Lib.hid (HBW2.out.trans (hb3.mono hsz2))
            have HBA1 := Lib.hid (HBA.out.trans (hb3.mono hszA))
            have hsz3 : w.heap.size ≤ w1.heap.size := HB1.out.size
            have hsz4 : wA.heap.size ≤ w1.heap.size := HBA1.out.size
            rw [HHAS.out]
            clear hb1 hb2 hb3 hbx HHAS
            cases htb : topB ss ls i
            · have HT : Hid (topsN ss ls (i + 1) = topsN ss ls i) := by show topsN ss ls (i + 1) = _; rw [HTN.out, htb]; rfl
              clear htb
              go_wp2
              go_roundw
              case rel => exact ⟨i + 1, by go_num, by omega, HO1.out.cast HT.out.symm, HB1.out, HBA1.out⟩
              case measure => simp [intOf]; omega
            · have HT : Hid (topsN ss ls (i + 1) = topsN ss ls i ++ [(i : Int)]) := by show topsN ss ls (i + 1) = _; rw [HTN.out, htb]; rfl
              clear htb
              go_wp2_with (at_builtin
                           refine app_int1 rfl (.tmp 37) (.tmp 39) rfl wA.heap.size _ _ (i : Int) rfl HO1.out rfl hxl hsz4 ?_
                           intro v2 w2 hown2 hb2
                           have HO2 := Lib.hid (hown2.cast HT.out.symm)
                           have HB2 := Lib.hid (HB1.out.trans (hb2.mono hsz))
                           have HBA2 := Lib.hid (HBA1.out.trans hb2)
                           clear hown2 hb2)
              go_roundw
              case rel => exact ⟨i + 1, by go_num, by omega, HO2.out, HB2.out, HBA2.out⟩
              case measure => simp [intOf]; omega
          · obtain rfl : i = k := by omega
            go_wp2
            go_ret2
            exact ⟨_, ret_vi (topsE_yes HOK.out).symm, (HOWN.out.lower hsz).cast (by rw [topsR_yes HOK.out, HN.out]), HBW2.out⟩
end Go.Proofs.Ytiekgdohanahlaa
