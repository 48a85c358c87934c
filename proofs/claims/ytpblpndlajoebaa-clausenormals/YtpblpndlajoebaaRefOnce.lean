/-
  Contract of quaereref8: lits.
-/
import Derived.Test.YtpblpndlajoebaaRefClause
import Derived.Test.YtpblpndlajoebaaClauseOnce
namespace Go.Proofs.Ytpblpndlajoebaa
open Go.RowKit Go.Deep
set_option linter.unusedSimpArgs false
set_option linter.unusedVariables false
set_option maxRecDepth 100000

theorem sameL_comm (p q : Lt) : sameL p q = sameL q p := by
  rw [Bool.eq_iff_iff, sameL_iff', sameL_iff']
  exact ⟨fun h => h.symm, fun h => h.symm⟩
theorem hasL_next {p : Lt} {ls : List Lt} {m : Nat} (h : m < ls.length) : hasL p (ls.take (m + 1)) = (hasL p (ls.take m) || sameL (ltAt ls m) p) := by
  rw [List.take_add_one, ltAt_get h, sameL_comm]
  unfold hasL
  rw [List.any_append]
  simp
theorem hasL_zero {p : Lt} {ls : List Lt} : hasL p (ls.take 0) = false := by simp [hasL]

set_option maxHeartbeats 4000000 in
theorem refLits_any (A : Option Addr) (n c : Nat) (ls : List Lt) (w : World) (h : LitsAt w w.heap.size A n ls) (hn : n ≤ 6) :
    Calls Try.prog 74 #[.slice A n c] w fun e w' => ∃ v, e = .returned v ∧ OwnG w' w.heap.size v (once ls) ∧ Below w.heap.size w w' := by
  have HS := Lib.hid h
  have HL := Lib.hid h.len
  clear h
  go_enter Try.func74, Try.ntmps74
  go_wp2
  go_loopw [3, 4] (fun q i wr => ∃ k : Nat, i = .int .i64 k ∧ k ≤ n ∧ OwnG wr w.heap.size q (once (ls.take k)) ∧ Below w.heap.size w wr) (fun _ i _ => n - (intOf i).toNat)
  case atStart => exact ⟨0, rfl, by omega, OwnG.nil_, Below.refl _ _⟩
  case round =>
    obtain ⟨k, rfl, hk, hown, hbw⟩ := hrel
    have HBW := Lib.hid hbw
    have HOWN := Lib.hid hown
    have hsz := hbw.size
    have hol : (once (ls.take k)).length ≤ 6 := by have := once_few (xs := ls) (k := k); have := HL.out; omega
    clear hbw hown
    by_cases hlt : k < n
    · have hkl : k < ls.length := by rw [HL.out]; exact hlt
      have HYES := Lib.hid (fun q => once_has hkl q)
      have HNO := Lib.hid (fun q => once_new hkl q)
      obtain ⟨b, off, A3, c3, rfl, hb, d0, d1, hr⟩ := HS.out.one hlt
      obtain ⟨p, hp⟩ : ∃ p, p = ltAt ls k := ⟨_, rfl⟩
      rw [← hp] at d0 d1 hr HYES HNO
      have HR := Lib.hid (show LitAt w w.heap.size A3 p.atom.length c3 p from hr)
      have D0 := Lib.hid d0
      have D1 := Lib.hid d1
      have HLT := Lib.hid hb
      obtain ⟨Am, cm, hvm, _, htm⟩ := HOWN.out.litsAt hsz
      obtain ⟨O, hO⟩ : ∃ O, O = once (ls.take k) := ⟨_, rfl⟩
      rw [← hO] at hvm htm hol HOWN HYES HNO
      obtain ⟨M, hM⟩ : ∃ M, O.length = M := ⟨_, rfl⟩
      rw [hM] at hvm htm hol
      have HM := Lib.hid hM
      have HOL := Lib.hid htm
      subst hvm
      have hi0 : (0 : Int) ≤ (k : Int) := by omega
      have hi3 : (k : Int) < (n : Int) := by omega
      obtain ⟨wA, hwA⟩ : ∃ wA, wA = wr := ⟨_, rfl⟩
      subst hwA
      clear hr hp hkl htm hM hO d0 d1
      go_wp2_with fail
      go_loopw [5, 6] (fun s j wr => ∃ m : Nat, j = .int .i64 m ∧ m ≤ M ∧ s = .bool (hasL p (O.take m)) ∧ Below wA.heap.size wA wr) (fun _ j _ => M - (intOf j).toNat)
      case atStart => exact ⟨0, rfl, by omega, by rw [hasL_zero], Below.refl _ _⟩
      case round =>
        obtain ⟨m, rfl, hm, rfl, hbm⟩ := hrel
        have HBM := Lib.hid hbm
        have HBA := Lib.hid (HBW.out.trans (hbm.mono hsz))
        clear hbm
        have d0 : wr.cell? ⟨b, off + k * 2, none⟩ = some (.bool p.neg) := by rw [HBA.out.cell (p := ⟨b, off + k * 2, none⟩) HLT.out]; exact D0.out
        have d1 : wr.cell? ⟨b, off + k * 2 + 1, none⟩ = some (.slice A3 p.atom.length c3) := by rw [HBA.out.cell (p := ⟨b, off + k * 2 + 1, none⟩) HLT.out]; exact D1.out
        by_cases hmt : m < M
        · have hml : m < O.length := by rw [HM.out]; exact hmt
          obtain ⟨b', off', A4, c4, hA', hb', e0, e1, hr4⟩ := (HOL.out.on HBM.out).one hmt
          subst hA'
          have HNX := Lib.hid (hasL_next (p := p) hml)
          obtain ⟨q, hq⟩ : ∃ q, q = ltAt O m := ⟨_, rfl⟩
          rw [← hq] at e0 e1 hr4 HNX
          have HR4 := Lib.hid hr4
          have E0 := Lib.hid e0
          have E1 := Lib.hid e1
          have HLT4 := Lib.hid hb'
          have HR3 := Lib.hid (HR.out.on HBA.out)
          have hj0 : (0 : Int) ≤ (m : Int) := by omega
          have hj3 : (m : Int) < (M : Int) := by omega
          clear hr4 hq hb' hml
          cases hpb : hasL p (O.take m)
          case true =>
            rw [hpb] at HNX
            have HZ : Hid (hasL p (O.take (m + 1)) = true) := HNX.out
            clear hpb
            go_wp2_with fail
            refine wp_region_held_drew (S := (fun w' => True)) (by kernel_rfl) trivial (fun hHeld => ?_)
            refine takeH (i := 0) (v := ?_) rfl rfl (by kernel_rfl) (by kernel_rfl) (by kernel_rfl) (fun _ _ _ h => h) (by rfl) ?_ hHeld ?_
            rotate_left
            · (intro w hSw; (try dsimp only at hSw); first | (go_simp; done) | (go_simp; with_reducible rfl))
            simp only [Act.put, List.setIfInBounds_toArray, List.set_cons_zero, List.set_cons_succ]
            refine takeH (i := 1) (v := ?_) rfl rfl (by kernel_rfl) (by kernel_rfl) (by kernel_rfl) (fun _ _ _ h => h) (by rfl) ?_ hHeld ?_
            rotate_left
            · (intro w hSw; (try dsimp only at hSw); first | (go_simp; done) | (go_simp; with_reducible rfl))
            simp only [Act.put, List.setIfInBounds_toArray, List.set_cons_zero, List.set_cons_succ]
            refine passH (i := 2) rfl rfl (by kernel_rfl) (by kernel_rfl) (by kernel_rfl) (fun _ _ _ h => h) (by rfl) hHeld ?_
            simp only [Act.put, List.setIfInBounds_toArray, List.set_cons_zero, List.set_cons_succ]
            refine passH (i := 3) rfl rfl (by kernel_rfl) (by kernel_rfl) (by kernel_rfl) (fun _ _ _ h => h) (by rfl) hHeld ?_
            simp only [Act.put, List.setIfInBounds_toArray, List.set_cons_zero, List.set_cons_succ]
            refine passH (i := 4) rfl rfl (by kernel_rfl) (by kernel_rfl) (by kernel_rfl) (fun _ _ _ h => h) (by rfl) hHeld ?_
            simp only [Act.put, List.setIfInBounds_toArray, List.set_cons_zero, List.set_cons_succ]
            refine passH (i := 5) rfl rfl (by kernel_rfl) (by kernel_rfl) (by kernel_rfl) (fun _ _ _ h => h) (by rfl) hHeld ?_
            simp only [Act.put, List.setIfInBounds_toArray, List.set_cons_zero, List.set_cons_succ]
            refine passH (i := 6) rfl rfl (by kernel_rfl) (by kernel_rfl) (by kernel_rfl) (fun _ _ _ h => h) (by rfl) hHeld ?_
            simp only [Act.put, List.setIfInBounds_toArray, List.set_cons_zero, List.set_cons_succ]
            refine passH (i := 7) rfl rfl (by kernel_rfl) (by kernel_rfl) (by kernel_rfl) (fun _ _ _ h => h) (by rfl) hHeld ?_
            simp only [Act.put, List.setIfInBounds_toArray, List.set_cons_zero, List.set_cons_succ]
            refine passH (i := 8) rfl rfl (by kernel_rfl) (by kernel_rfl) (by kernel_rfl) (fun _ _ _ h => h) (by rfl) hHeld ?_
            simp only [Act.put, List.setIfInBounds_toArray, List.set_cons_zero, List.set_cons_succ]
            refine passH (i := 9) rfl rfl (by kernel_rfl) (by kernel_rfl) (by kernel_rfl) (fun _ _ _ h => h) (by rfl) hHeld ?_
            simp only [Act.put, List.setIfInBounds_toArray, List.set_cons_zero, List.set_cons_succ]
            refine passH (i := 10) rfl rfl (by kernel_rfl) (by kernel_rfl) (by kernel_rfl) (fun _ _ _ h => h) (by rfl) hHeld ?_
            simp only [Act.put, List.setIfInBounds_toArray, List.set_cons_zero, List.set_cons_succ]
            refine takeH (i := 11) (v := ?_) rfl rfl (by kernel_rfl) (by kernel_rfl) (by kernel_rfl) (fun _ _ _ h => h) (by rfl) ?_ hHeld ?_
            rotate_left
            · (intro w hSw; (try dsimp only at hSw); first | (go_simp; done) | (go_simp; with_reducible rfl))
            simp only [Act.put, List.setIfInBounds_toArray, List.set_cons_zero, List.set_cons_succ]
            refine takeH (i := 12) (v := ?_) rfl rfl (by kernel_rfl) (by kernel_rfl) (by kernel_rfl) (fun _ _ _ h => h) (by rfl) ?_ hHeld ?_
            rotate_left
            · (intro w hSw; (try dsimp only at hSw); first | (go_simp; done) | (go_simp; with_reducible rfl))
            simp only [Act.put, List.setIfInBounds_toArray, List.set_cons_zero, List.set_cons_succ]
            refine wpAnyH_done (by kernel_rfl) ?_ _
            go_wp2
            go_roundw
            case rel => exact ⟨m + 1, by go_num, by omega, by rw [HZ.out], HBM.out.drew⟩
            case measure => simp [intOf]; omega
          rw [hpb] at HNX
          clear hpb
          go_wp2_with fail
          refine wp_region_held_drew (S := (fun w' => w'.cell? ⟨b, off + k * 2, none⟩ = some (.bool p.neg) ∧ w'.cell? ⟨b, off + k * 2 + 1, none⟩ = some (.slice A3 p.atom.length c3) ∧ w'.cell? ⟨b', off' + m * 2, none⟩ = some (.bool q.neg) ∧ w'.cell? ⟨b', off' + m * 2 + 1, none⟩ = some (.slice A4 q.atom.length c4))) (by kernel_rfl) ⟨d0, d1, e0, e1⟩ (fun hHeld => ?_)
          have hd : Below wr.heap.size wr wr.drew := (Below.refl wr.heap.size wr).drew
          refine takeH (i := 0) (v := ?_) rfl rfl (by kernel_rfl) (by kernel_rfl) (by kernel_rfl) (fun _ _ _ h => h) (by rfl) ?_ hHeld ?_
          rotate_left
          · (intro w hSw; (try dsimp only at hSw); first | (go_simp; done) | (go_simp; with_reducible rfl))
          simp only [Act.put, List.setIfInBounds_toArray, List.set_cons_zero, List.set_cons_succ]
          refine takeH (i := 1) (v := ?_) rfl rfl (by kernel_rfl) (by kernel_rfl) (by kernel_rfl) (fun _ _ _ h => h) (by rfl) ?_ hHeld ?_
          rotate_left
          · (intro w hSw; (try dsimp only at hSw); first | (go_simp; done) | (go_simp; with_reducible rfl))
          simp only [Act.put, List.setIfInBounds_toArray, List.set_cons_zero, List.set_cons_succ]
          refine takeH (i := 2) (v := ?_) rfl rfl (by kernel_rfl) (by kernel_rfl) (by kernel_rfl) (fun _ _ _ h => h) (by rfl) ?_ hHeld ?_
          rotate_left
          · (intro w hSw; (try dsimp only at hSw); first | (go_simp; done) | (go_simp; with_reducible rfl))
          simp only [Act.put, List.setIfInBounds_toArray, List.set_cons_zero, List.set_cons_succ]
          refine takeH (i := 3) (v := ?_) rfl rfl (by kernel_rfl) (by kernel_rfl) (by kernel_rfl) (fun _ _ _ h => h) (by rfl) ?_ hHeld ?_
          rotate_left
          · (intro w hSw; (try dsimp only at hSw); first | (go_simp; done) | (go_simp; with_reducible rfl))
          simp only [Act.put, List.setIfInBounds_toArray, List.set_cons_zero, List.set_cons_succ]
          refine takeH (i := 4) (v := ?_) rfl rfl (by kernel_rfl) (by kernel_rfl) (by kernel_rfl) (fun _ _ _ h => h) (by rfl) ?_ hHeld ?_
          rotate_left
          · (intro w hSw; (try dsimp only at hSw); first | (go_simp; done) | (go_simp; with_reducible rfl))
          simp only [Act.put, List.setIfInBounds_toArray, List.set_cons_zero, List.set_cons_succ]
          refine takeH (i := 5) (v := ?_) rfl rfl (by kernel_rfl) (by kernel_rfl) (by kernel_rfl) (fun _ _ _ h => h) (by rfl) ?_ hHeld ?_
          rotate_left
          · (intro w hSw; (try dsimp only at hSw); first | (go_simp; done) | (go_simp; with_reducible rfl))
          simp only [Act.put, List.setIfInBounds_toArray, List.set_cons_zero, List.set_cons_succ]
          refine takeH (i := 6) (v := ?_) rfl rfl (by kernel_rfl) (by kernel_rfl) (by kernel_rfl) (fun _ _ _ h => h) (by rfl) ?_ hHeld ?_
          rotate_left
          · (intro w hSw; (try dsimp only at hSw); first | (go_simp; done) | (go_simp; with_reducible rfl))
          simp only [Act.put, List.setIfInBounds_toArray, List.set_cons_zero, List.set_cons_succ]
          refine takeH (i := 7) (v := ?_) rfl rfl (by kernel_rfl) (by kernel_rfl) (by kernel_rfl) (fun _ _ _ h => h) (by rfl) ?_ hHeld ?_
          rotate_left
          · (intro w hSw; (try dsimp only at hSw); first | (go_simp; done) | (go_simp; with_reducible rfl))
          simp only [Act.put, List.setIfInBounds_toArray, List.set_cons_zero, List.set_cons_succ]
          refine takeH (i := 8) (v := ?_) rfl rfl (by kernel_rfl) (by kernel_rfl) (by kernel_rfl) (fun _ _ _ h => h) (by rfl) ?_ hHeld ?_
          rotate_left
          · (intro w hSw; (try dsimp only at hSw); first | (go_simp; done) | (go_simp; with_reducible rfl))
          simp only [Act.put, List.setIfInBounds_toArray, List.set_cons_zero, List.set_cons_succ]
          refine takeH (i := 9) (v := ?_) rfl rfl (by kernel_rfl) (by kernel_rfl) (by kernel_rfl) (fun _ _ _ h => h) (by rfl) ?_ hHeld ?_
          rotate_left
          · (intro w hSw; (try dsimp only at hSw); first | (go_simp; done) | (go_simp; with_reducible rfl))
          simp only [Act.put, List.setIfInBounds_toArray, List.set_cons_zero, List.set_cons_succ]
          refine wpAnyH_ready (rs := [10]) (by kernel_rfl) (by simp) ?_
          refine AllReadyH.cons rfl (fun K hK => ?_) AllReadyH.nil
          go_simp
          refine (refSameLit_any A4 A3 _ c4 _ c3 q p _ (HR4.out.on hd) (HR3.out.on hd)).mono ?_
          rintro e w5 ⟨rfl, hb5⟩
          have hb5' := hd.trans (hb5.mono hd.size)
          have HB5 := Lib.hid (HBM.out.trans (hb5'.mono HBM.out.size))
          have d0' : w5.cell? ⟨b, off + k * 2, none⟩ = some (.bool p.neg) := by rw [hb5'.cell (p := ⟨b, off + k * 2, none⟩) (Nat.lt_of_lt_of_le HLT.out HBA.out.size)]; exact d0
          have d1' : w5.cell? ⟨b, off + k * 2 + 1, none⟩ = some (.slice A3 p.atom.length c3) := by rw [hb5'.cell (p := ⟨b, off + k * 2 + 1, none⟩) (Nat.lt_of_lt_of_le HLT.out HBA.out.size)]; exact d1
          have e0' : w5.cell? ⟨b', off' + m * 2, none⟩ = some (.bool q.neg) := by rw [hb5'.cell (p := ⟨b', off' + m * 2, none⟩) HLT4.out]; exact E0.out
          have e1' : w5.cell? ⟨b', off' + m * 2 + 1, none⟩ = some (.slice A4 q.atom.length c4) := by rw [hb5'.cell (p := ⟨b', off' + m * 2 + 1, none⟩) HLT4.out]; exact E1.out
          clear hb5 hb5' hd d0 d1 e0 e1
          obtain ⟨sb, hsb⟩ : ∃ sb, sb = sameL q p := ⟨_, rfl⟩
          rw [← hsb] at HNX ⊢
          have HZ : Hid (hasL p (O.take (m + 1)) = sb) := by show _ = _; rw [HNX.out]; rfl
          clear hsb
          go_wp2_with fail
          refine hK.out _ _ ?_ (fun hHeld => ?_)
          · exact ⟨d0', d1', e0', e1'⟩
          clear hK K
          refine takeH (i := 11) (v := ?_) rfl rfl (by kernel_rfl) (by kernel_rfl) (by kernel_rfl) (fun _ _ _ h => h) (by rfl) ?_ hHeld ?_
          rotate_left
          · (intro w hSw; (try dsimp only at hSw); first | (go_simp; done) | (go_simp; with_reducible rfl))
          simp only [Act.put, List.setIfInBounds_toArray, List.set_cons_zero, List.set_cons_succ]
          refine takeH (i := 12) (v := ?_) rfl rfl (by kernel_rfl) (by kernel_rfl) (by kernel_rfl) (fun _ _ _ h => h) (by rfl) ?_ hHeld ?_
          rotate_left
          · (intro w hSw; (try dsimp only at hSw); first | (go_simp; done) | (go_simp; with_reducible rfl))
          simp only [Act.put, List.setIfInBounds_toArray, List.set_cons_zero, List.set_cons_succ]
          refine wpAnyH_done (by kernel_rfl) ?_ _
          go_wp2
          go_roundw
          case rel => exact ⟨m + 1, by go_num, by omega, by rw [HZ.out], HB5.out⟩
          case measure => simp [intOf]; omega
        · obtain rfl : m = M := by omega
          have HT : Hid (O.take m = O) := List.take_of_length_le (by rw [HM.out]; exact Nat.le_refl _)
          rw [HT.out]
          have hsz2 := HBA.out.size
          cases hpb : hasL p O
          · have HX := Lib.hid (HNO.out hpb)
            have HOW := Lib.hid (HOWN.out.on HBM.out)
            have HLR : Hid (LitAt wr w.heap.size A3 p.atom.length c3 p) := HR.out.below HBA.out
            have hlen : O.length + 1 ≤ 4398046511104 := by rw [HM.out]; omega
            clear hpb
            go_wp2_with (at_builtin
                         refine app_grt rfl (.tmp 33) (.tmp 38) rfl w.heap.size _ O p A3 c3 rfl HOW.out HLR.out rfl hlen hsz2 ?_
                         intro v2 w2 hg2 hb2
                         have HG2 := Lib.hid hg2
                         have HB2 := Lib.hid (HBA.out.trans hb2)
                         clear hg2 hb2)
            go_roundw
            case rel => exact ⟨k + 1, by go_num, by omega, by rw [HX.out]; exact HG2.out, HB2.out⟩
            case measure => simp [intOf]; omega
          · have HX := Lib.hid (HYES.out hpb)
            have HOW := Lib.hid (HOWN.out.on HBM.out)
            clear hpb
            go_wp2
            go_roundw
            case rel => exact ⟨k + 1, by go_num, by omega, by rw [HX.out]; exact HOW.out, HBA.out⟩
            case measure => simp [intOf]; omega
    · obtain rfl : k = n := by omega
      go_wp2
      go_ret
      have e0 : ls.take k = ls := List.take_of_length_le (by rw [HL.out]; omega)
      have how := HOWN.out
      rw [e0] at how
      exact ⟨_, rfl, how, HBW.out⟩
end Go.Proofs.Ytpblpndlajoebaa
