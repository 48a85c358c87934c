/-
  Contracts of quaereref8: Top, Tops.
-/
import Derived.Test.YtiekgdohanahlaaRefLit
import Derived.Test.YtiekgdohanahlaaPlainTop
namespace Go.Proofs.Ytiekgdohanahlaa
open Go.RowKit Go.Deep
set_option linter.unusedSimpArgs false
set_option linter.unusedVariables false
set_option maxRecDepth 100000

/-- The literal number i of a slice of literals, as a value. -/
theorem LitsAt.one {w : World} {B n i : Nat} {A : Option Addr} {ls : List Lt} (h : LitsAt w B A n ls) (hi : i < n) :
    ∃ b off A' c, A = some ⟨b, off, none⟩ ∧ b < B ∧ w.cell? ⟨b, off + i * 2, none⟩ = some (.bool (ltAt ls i).neg) ∧ w.cell? ⟨b, off + i * 2 + 1, none⟩ = some (.slice A' (ltAt ls i).atom.length c) ∧ LitAt w B A' (ltAt ls i).atom.length c (ltAt ls i) := by
  obtain ⟨b, off, e, hb, hc⟩ := h.at_ (by omega)
  obtain ⟨h1, A', c, h2, h3, h4⟩ := hc i hi
  exact ⟨b, off, A', c, e, hb, h1, h2, h4, h3, h.fit i hi⟩
theorem LMor.of_k {ss : List Sym} {p q : Lt} {k : Int} (h : LitKR ss p q k) : k = 2 ↔ LMor ss p q := by
  rcases h with ⟨h, rfl⟩ | ⟨h, rfl⟩ | ⟨h, rfl⟩ | ⟨h1, h2, h3, rfl⟩
  · exact ⟨fun x => by omega, fun x => absurd h x.ne⟩
  · exact ⟨fun _ => h, fun _ => rfl⟩
  · exact ⟨fun x => by omega, fun x => (x.asymm h).elim⟩
  · exact ⟨fun x => by omega, fun x => absurd x h2⟩

set_option maxHeartbeats 1000000 in
theorem refTop_any (A A1 : Option Addr) (n c n1 c1 i : Nat) (ss : List Sym) (ls : List Lt) (w : World) (h : SymsAt w w.heap.size A n ss) (hn : n ≤ maxLen) (hl : LitsAt w w.heap.size A1 n1 ls) (hn1 : n1 ≤ 4398046511104) (hv : ∀ j, j < n1 → litB ss (ltAt ls j) = true) (hi : i < n1) :
    Calls Try.prog 35 #[.slice A n c, .slice A1 n1 c1, .int .i64 i] w fun e w' => e = .returned (.bool (topB ss ls i)) ∧ Below w.heap.size w w' := by
  have HS := Lib.hid h
  have HL := Lib.hid hl
  have HV := Lib.hid hv
  have HN := Lib.hid hl.len
  clear h hl hv
  go_enter Try.func35, Try.ntmps35
  go_wp2
  go_loopw [7] (fun j wr => ∃ k : Nat, j = .int .i64 k ∧ k ≤ n1 ∧ (∀ j, j < k → ¬ LMor ss (ltAt ls j) (ltAt ls i)) ∧ Below w.heap.size w wr) (fun j _ => n1 - (intOf j).toNat)
  case atStart => exact ⟨0, rfl, by omega, fun j hj => absurd hj (by omega), Below.refl _ _⟩
  case round =>
    obtain ⟨k, rfl, hk, hno, hbw⟩ := hrel
    have HBW := Lib.hid hbw
    have HNO := Lib.hid hno
    clear hbw hno
    by_cases hlt : k < n1
    · obtain ⟨b, off, A2, c2, rfl, hb, d0, d1, hk1⟩ := (HL.out.on HBW.out).one hlt
      obtain ⟨b', off', A3, c3, e', -, e0, e1, hk2⟩ := (HL.out.on HBW.out).one hi
      simp only [Option.some.injEq, Addr.mk.injEq] at e'
      obtain ⟨rfl, rfl, -⟩ := e'
      have HV1 := Lib.hid (HV.out k hlt)
      have HV2 := Lib.hid (HV.out i hi)
      have HTOP : Hid (LMor ss (ltAt ls k) (ltAt ls i) → topB ss ls i = false) := fun q => topB_no (by rw [HN.out]; exact hlt) q
      have HNX : Hid (¬ LMor ss (ltAt ls k) (ltAt ls i) → ∀ j, j < k + 1 → ¬ LMor ss (ltAt ls j) (ltAt ls i)) := by
        intro q j hj
        by_cases e : j = k
        · rw [e]; exact q
        · exact HNO.out j (by omega)
      obtain ⟨p, hp⟩ : ∃ p, p = ltAt ls k := ⟨_, rfl⟩
      obtain ⟨q, hq⟩ : ∃ q, q = ltAt ls i := ⟨_, rfl⟩
      rw [← hp] at d0 d1 hk1 HV1 HTOP HNX
      rw [← hq] at e0 e1 hk2 HV2 HTOP
      have HK1 := Lib.hid hk1
      have HK2 := Lib.hid hk2
      have HS1 := Lib.hid (HS.out.on HBW.out)
      have HQ := Lib.hid hq
      have hi0 : (0 : Int) ≤ (k : Int) := by omega
      have hi3 : (k : Int) < (n1 : Int) := by omega
      have hj0 : (0 : Int) ≤ (i : Int) := by omega
      have hj3 : (i : Int) < (n1 : Int) := by omega
      clear hk1 hk2 hp hq
      go_wp2_with fail
      refine wp_region_held_drew (S := (fun w' => w'.cell? ⟨b, off + k * 2, none⟩ = some (.bool p.neg) ∧ w'.cell? ⟨b, off + k * 2 + 1, none⟩ = some (.slice A2 p.atom.length c2) ∧ w'.cell? ⟨b, off + i * 2, none⟩ = some (.bool q.neg) ∧ w'.cell? ⟨b, off + i * 2 + 1, none⟩ = some (.slice A3 q.atom.length c3))) (by kernel_rfl) ⟨d0, d1, e0, e1⟩ (fun hHeld => ?_)
      refine takeH (i := 0) (v := ?_) rfl rfl (by kernel_rfl) (by kernel_rfl) (by kernel_rfl) (fun _ _ _ h => h) (by rfl) ?_ hHeld ?_
      rotate_left
      · (intro w hSw; (try dsimp only at hSw); first | (go_simp; done) | (go_simp; with_reducible rfl))
      simp only [Act.put, List.setIfInBounds_toArray, List.set_cons_zero, List.set_cons_succ]
      refine takeH (i := 1) (v := ?_) rfl rfl (by kernel_rfl) (by kernel_rfl) (by kernel_rfl) (fun _ _ _ h => h) (by rfl) ?_ hHeld ?_
      rotate_left
      · (intro w hSw; (try dsimp only at hSw); first | (go_simp; done) | (go_simp; with_reducible rfl))
      simp only [Act.put, List.setIfInBounds_toArray, List.set_cons_zero, List.set_cons_succ]
      refine takeH (i := 2) (v := ?_) rfl rfl (by kernel_rfl) (by kernel_rfl) (by kernel_rfl) (fun _ _ _ h => h) (by rfl) ?_ hHeld ?_
      rotate_left
      · (intro w hSw; (try dsimp only at hSw); first | (go_simp; done) | (go_simp; with_reducible rfl))
      simp only [Act.put, List.setIfInBounds_toArray, List.set_cons_zero, List.set_cons_succ]
      refine takeH (i := 3) (v := ?_) rfl rfl (by kernel_rfl) (by kernel_rfl) (by kernel_rfl) (fun _ _ _ h => h) (by rfl) ?_ hHeld ?_
      rotate_left
      · (intro w hSw; (try dsimp only at hSw); first | (go_simp; done) | (go_simp; with_reducible rfl))
      simp only [Act.put, List.setIfInBounds_toArray, List.set_cons_zero, List.set_cons_succ]
      refine takeH (i := 4) (v := ?_) rfl rfl (by kernel_rfl) (by kernel_rfl) (by kernel_rfl) (fun _ _ _ h => h) (by rfl) ?_ hHeld ?_
      rotate_left
      · (intro w hSw; (try dsimp only at hSw); first | (go_simp; done) | (go_simp; with_reducible rfl))
      simp only [Act.put, List.setIfInBounds_toArray, List.set_cons_zero, List.set_cons_succ]
      refine takeH (i := 5) (v := ?_) rfl rfl (by kernel_rfl) (by kernel_rfl) (by kernel_rfl) (fun _ _ _ h => h) (by rfl) ?_ hHeld ?_
      rotate_left
      · (intro w hSw; (try dsimp only at hSw); first | (go_simp; done) | (go_simp; with_reducible rfl))
      simp only [Act.put, List.setIfInBounds_toArray, List.set_cons_zero, List.set_cons_succ]
      refine takeH (i := 6) (v := ?_) rfl rfl (by kernel_rfl) (by kernel_rfl) (by kernel_rfl) (fun _ _ _ h => h) (by rfl) ?_ hHeld ?_
      rotate_left
      · (intro w hSw; (try dsimp only at hSw); first | (go_simp; done) | (go_simp; with_reducible rfl))
      simp only [Act.put, List.setIfInBounds_toArray, List.set_cons_zero, List.set_cons_succ]
      refine takeH (i := 7) (v := ?_) rfl rfl (by kernel_rfl) (by kernel_rfl) (by kernel_rfl) (fun _ _ _ h => h) (by rfl) ?_ hHeld ?_
      rotate_left
      · (intro w hSw; (try dsimp only at hSw); first | (go_simp; done) | (go_simp; with_reducible rfl))
      simp only [Act.put, List.setIfInBounds_toArray, List.set_cons_zero, List.set_cons_succ]
      refine takeH (i := 8) (v := ?_) rfl rfl (by kernel_rfl) (by kernel_rfl) (by kernel_rfl) (fun _ _ _ h => h) (by rfl) ?_ hHeld ?_
      rotate_left
      · (intro w hSw; (try dsimp only at hSw); first | (go_simp; done) | (go_simp; with_reducible rfl))
      simp only [Act.put, List.setIfInBounds_toArray, List.set_cons_zero, List.set_cons_succ]
      refine wpAnyH_ready (rs := [9]) (by kernel_rfl) (by simp) ?_
      refine AllReadyH.cons rfl (fun K hK => ?_) AllReadyH.nil
      go_simp
      have hd : Below wr.heap.size wr wr.drew := (Below.refl wr.heap.size wr).drew
      refine (refwhich_any A A2 A3 n c _ c2 _ c3 ss p q wr.drew (HS1.out.on hd) hn (HK1.out.on hd) (HK2.out.on hd) HV1.out HV2.out).mono ?_
      rintro e w1 ⟨kk, rfl, hkk, hb1⟩
      have hb1' : Below wr.heap.size wr w1 := hd.trans (hb1.mono hd.size)
      have c0 : w1.cell? ⟨b, off + k * 2, none⟩ = some (.bool p.neg) := by rw [hb1'.cell (p := ⟨b, _, none⟩) hb]; exact d0
      have c1 : w1.cell? ⟨b, off + k * 2 + 1, none⟩ = some (.slice A2 p.atom.length c2) := by rw [hb1'.cell (p := ⟨b, _, none⟩) hb]; exact d1
      have f0 : w1.cell? ⟨b, off + i * 2, none⟩ = some (.bool q.neg) := by rw [hb1'.cell (p := ⟨b, _, none⟩) hb]; exact e0
      have f1 : w1.cell? ⟨b, off + i * 2 + 1, none⟩ = some (.slice A3 q.atom.length c3) := by rw [hb1'.cell (p := ⟨b, _, none⟩) hb]; exact e1
      have HB1 := Lib.hid (HBW.out.trans (hb1'.mono HBW.out.size))
      have HKK := Lib.hid (LMor.of_k hkk)
      clear hb1 hb1' hd hkk
      by_cases hk2 : kk = 2
      · subst hk2
        have HT := Lib.hid (HTOP.out (HKK.out.1 rfl))
        go_wp2_with fail
        refine hK.out _ _ ?_ (fun hHeld => ?_)
        · exact ⟨c0, c1, f0, f1⟩
        clear hK K
        refine takeH (i := 10) (v := ?_) rfl rfl (by kernel_rfl) (by kernel_rfl) (by kernel_rfl) (fun _ _ _ h => h) (by rfl) ?_ hHeld ?_
        rotate_left
        · (intro w hSw; (try dsimp only at hSw); first | (go_simp; done) | (go_simp; with_reducible rfl))
        simp only [Act.put, List.setIfInBounds_toArray, List.set_cons_zero, List.set_cons_succ]
        refine wpAnyH_done (by kernel_rfl) ?_ _
        go_wp2
        go_ret
        exact ⟨ret_b HT.out.symm, HB1.out⟩
      · have HT := Lib.hid (HNX.out (fun x => hk2 (HKK.out.2 (by rw [HQ.out]; exact x))))
        have hk3 : (kk == 2) = false := by simpa using hk2
        clear hk2
        go_wp2_with fail
        refine hK.out _ _ ?_ (fun hHeld => ?_)
        · exact ⟨c0, c1, f0, f1⟩
        clear hK K
        refine takeH (i := 10) (v := ?_) rfl rfl (by kernel_rfl) (by kernel_rfl) (by kernel_rfl) (fun _ _ _ h => h) (by rfl) ?_ hHeld ?_
        rotate_left
        · (intro w hSw; (try dsimp only at hSw); first | (go_simp; done) | (go_simp; with_reducible rfl))
        simp only [Act.put, List.setIfInBounds_toArray, List.set_cons_zero, List.set_cons_succ]
        refine wpAnyH_done (by kernel_rfl) ?_ _
        go_wp2
        go_roundw
        case rel => exact ⟨k + 1, by go_num, by omega, HT.out, HB1.out⟩
        case measure => simp [intOf]; omega
    · obtain rfl : k = n1 := by omega
      have HT : Hid (topB ss ls i = true) := topB_iff.2 fun j hj => HNO.out j (by rw [HN.out] at hj; exact hj)
      go_wp2
      go_ret
      exact ⟨ret_b HT.out.symm, HBW.out⟩
theorem topsOk_not {ss : List Sym} {ls : List Lt} {k : Nat} (hk : k < ls.length) (h : litB ss (ltAt ls k) = false) : topsOk ss ls = false := by
  unfold topsOk
  rw [Bool.and_eq_false_iff]
  right
  rw [List.all_eq_false]
  exact ⟨_, ltAt_mem hk, by rw [h]; simp⟩
theorem topsOk_yes {ss : List Sym} {ls : List Lt} (hm : mayB ss = true) (h : ∀ j, j < ls.length → litB ss (ltAt ls j) = true) : topsOk ss ls = true := by
  unfold topsOk
  rw [hm, Bool.true_and, List.all_eq_true]
  intro p hp
  obtain ⟨j, hj, rfl⟩ := mem_ltAt hp
  exact h j hj
theorem topsR_no {ss : List Sym} {ls : List Lt} (h : topsOk ss ls = false) : topsR ss ls = [] := by unfold topsR; rw [h]; rfl
theorem topsE_no {ss : List Sym} {ls : List Lt} (h : topsOk ss ls = false) : topsE ss ls = 700 := by unfold topsE; rw [h]; rfl
theorem topsR_yes {ss : List Sym} {ls : List Lt} (h : topsOk ss ls = true) : topsR ss ls = topsN ss ls ls.length := by unfold topsR; rw [h]; rfl
theorem topsE_yes {ss : List Sym} {ls : List Lt} (h : topsOk ss ls = true) : topsE ss ls = 0 := by unfold topsE; rw [h]; rfl
def TopsPost (ss : List Sym) (ls : List Lt) (w : World) (e : Ending) (w' : World) : Prop := IntsPost (topsR ss ls) (topsE ss ls) w e w'
theorem TopsPost.bad {ss : List Sym} {ls : List Lt} {w w' : World} (h : topsOk ss ls = false) (hb : Below w.heap.size w w') : TopsPost ss ls w (.returned (.tuple #[.slice none 0 0, .int .i64 700])) w' :=
  ⟨_, by rw [topsE_no h], by rw [topsR_no h]; exact OwnI.nil_, hb⟩

set_option maxHeartbeats 1000000 in
theorem refTops_any (A A1 : Option Addr) (n c n1 c1 : Nat) (ss : List Sym) (ls : List Lt) (w : World) (h : SymsAt w w.heap.size A n ss) (hn : n ≤ maxLen) (hnc : n ≤ c) (hl : LitsAt w w.heap.size A1 n1 ls) (hn1 : n1 ≤ 4398046511104) :
    Calls Try.prog 20 #[.slice A n c, .slice A1 n1 c1] w (TopsPost ss ls w) := by
  have HS := Lib.hid h
  have HL := Lib.hid hl
  have HN := Lib.hid hl.len
  clear h hl
  go_enter Try.func20, Try.ntmps20
  go_wp2_with fail
  refine (signMay_any A n c ss w HS.out hn).mono ?_
  rintro e w0 ⟨rfl, hb0⟩
  have HS0 := Lib.hid (HS.out.on hb0)
  have HL0 := Lib.hid (HL.out.on hb0)
  have HB0 := Lib.hid hb0
  clear hb0
  cases hmay : mayB ss
  · have HNO : Hid (topsOk ss ls = false) := by show topsOk ss ls = false; unfold topsOk; rw [hmay]; rfl
    clear hmay
    go_wp2
    go_ret2
    exact TopsPost.bad HNO.out HB0.out
  · have HMAY := Lib.hid hmay
    clear hmay
    go_wp2
    go_loopw [6] (fun j wr => ∃ k : Nat, j = .int .i64 k ∧ k ≤ n1 ∧ (∀ j, j < k → litB ss (ltAt ls j) = true) ∧ Below w0.heap.size w0 wr) (fun j _ => n1 - (intOf j).toNat)
    case atStart => exact ⟨0, rfl, by omega, fun j hj => absurd hj (by omega), Below.refl _ _⟩
    case round =>
      obtain ⟨k, rfl, hk, hyes, hbw⟩ := hrel
      have HBW := Lib.hid hbw
      have HY := Lib.hid hyes
      clear hbw hyes
      by_cases hlt : k < n1
      · obtain ⟨b, off, A2, c2, rfl, hb, d0, d1, hk1⟩ := (HL0.out.on HBW.out).one hlt
        have HNX : Hid (litB ss (ltAt ls k) = true → ∀ j, j < k + 1 → litB ss (ltAt ls j) = true) := by
          intro q j hj
          by_cases e : j = k
          · rw [e]; exact q
          · exact HY.out j (by omega)
        have HNO : Hid (litB ss (ltAt ls k) = false → topsOk ss ls = false) := fun q => topsOk_not (by rw [HN.out]; exact hlt) q
        obtain ⟨p, hp⟩ : ∃ p, p = ltAt ls k := ⟨_, rfl⟩
        rw [← hp] at d0 d1 hk1 HNX HNO
        have HK1 := Lib.hid hk1
        have HS1 := Lib.hid (HS0.out.on HBW.out)
        have hi0 : (0 : Int) ≤ (k : Int) := by omega
        have hi3 : (k : Int) < (n1 : Int) := by omega
        clear hk1 hp
        go_wp2_with fail
        refine (refLitMay_any A A2 n c _ c2 ss p _ HS1.out hn hnc HK1.out).mono ?_
        rintro e w1 ⟨rfl, hb1⟩
        have HB1 := Lib.hid (HBW.out.trans (hb1.mono HBW.out.size))
        clear hb1
        cases hpb : litB ss p
        · have HX := Lib.hid (HNO.out hpb)
          clear hpb
          go_wp2
          go_ret2
          exact TopsPost.bad HX.out (HB0.out.trans (HB1.out.mono HB0.out.size))
        · have HX := Lib.hid (HNX.out hpb)
          clear hpb
          go_wp2
          go_roundw
          case rel => exact ⟨k + 1, by go_num, by omega, HX.out, HB1.out⟩
          case measure => simp [intOf]; omega
      · obtain rfl : k = n1 := by omega
        obtain ⟨wA, hwA⟩ : ∃ wA, wA = wr := ⟨_, rfl⟩
        subst hwA
        have HOK := Lib.hid (topsOk_yes HMAY.out (fun j hj => HY.out j (by rw [HN.out] at hj; exact hj)))
        have HSA := Lib.hid (HS0.out.on HBW.out)
        have HLA := Lib.hid (HL0.out.on HBW.out)
        have HBA := Lib.hid (HB0.out.trans (HBW.out.mono HB0.out.size))
        go_wp2
        go_loopw [7, 8] (fun q j wr => ∃ i : Nat, j = .int .i64 i ∧ i ≤ k ∧ OwnI wr w.heap.size q (topsN ss ls i) ∧ Below w.heap.size w wr) (fun _ j _ => k - (intOf j).toNat)
        case atStart => exact ⟨0, rfl, by omega, OwnI.nil_, HBA.out⟩
        case round =>
          obtain ⟨i, rfl, hi, hown, hbw⟩ := hrel
          have HBW2 := Lib.hid hbw
          have HOWN := Lib.hid hown
          have hsz2 := hbw.size
          clear hbw hown
          by_cases hlt : i < k
          · have HS2 := Lib.hid (HS.out.on HBW2.out)
            have HL2 := Lib.hid (HL.out.on HBW2.out)
            have HTN := Lib.hid (topsN_succ (ss := ss) (ls := ls) i)
            have hxl : (topsN ss ls i).length + 1 ≤ 17592186044416 := by have := topsN_length (ss := ss) (ls := ls) i; omega
            go_wp2_with fail
            refine (refTop_any A A1 n c _ c1 i ss ls _ HS2.out hn HL2.out hn1 HY.out hlt).mono ?_
            rintro e w1 ⟨rfl, hb1⟩
            have HO1 := Lib.hid (HOWN.out.on hb1)
            have HB1 := Lib.hid (HBW2.out.trans (hb1.mono hsz2))
            have hsz3 : w.heap.size ≤ w1.heap.size := HB1.out.size
            clear hb1
            cases htb : topB ss ls i
            · have HT : Hid (topsN ss ls (i + 1) = topsN ss ls i) := by show topsN ss ls (i + 1) = _; rw [HTN.out, htb]; rfl
              clear htb
              go_wp2
              go_roundw
              case rel => exact ⟨i + 1, by go_num, by omega, HO1.out.cast HT.out.symm, HB1.out⟩
              case measure => simp [intOf]; omega
            · have HT : Hid (topsN ss ls (i + 1) = topsN ss ls i ++ [(i : Int)]) := by show topsN ss ls (i + 1) = _; rw [HTN.out, htb]; rfl
              clear htb
              go_wp2_with (at_builtin
                           refine app_int1 rfl (.tmp 35) (.tmp 37) rfl w.heap.size _ _ (i : Int) rfl HO1.out rfl hxl hsz3 ?_
                           intro v2 w2 hown2 hb2
                           have HO2 := Lib.hid (hown2.cast HT.out.symm)
                           have HB2 := Lib.hid (HB1.out.trans hb2)
                           clear hown2 hb2)
              go_roundw
              case rel => exact ⟨i + 1, by go_num, by omega, HO2.out, HB2.out⟩
              case measure => simp [intOf]; omega
          · obtain rfl : i = k := by omega
            go_wp2
            go_ret2
            exact ⟨_, ret_vi (topsE_yes HOK.out).symm, HOWN.out.cast (by rw [topsR_yes HOK.out, HN.out]), HBW2.out⟩
end Go.Proofs.Ytiekgdohanahlaa
