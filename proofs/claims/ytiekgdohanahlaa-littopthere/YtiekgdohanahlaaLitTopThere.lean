/-
  The walk of the law LitTopThere.
-/
import Derived.Test.YtiekgdohanahlaaAwakeL
namespace Go.Proofs.Ytiekgdohanahlaa
open Go.RowKit Go.Deep
set_option linter.unusedSimpArgs false
set_option linter.unusedVariables false
set_option maxRecDepth 100000

section
variable {ss : List Sym} {ls : List Lt}
theorem topsN_split (i : Nat) : ∀ d, ∃ rest : List Int, topsN ss ls (i + d) = topsN ss ls i ++ rest ∧ ∀ x ∈ rest, ∃ j : Nat, x = (j : Int) ∧ i ≤ j ∧ topB ss ls j = true
  | 0 => ⟨[], by simp, fun x h => absurd h List.not_mem_nil⟩
  | d + 1 => by
    obtain ⟨rest, h1, h2⟩ := topsN_split i d
    have e : i + (d + 1) = (i + d) + 1 := by omega
    rw [e, topsN_succ, h1]
    cases ht : topB ss ls (i + d)
    · exact ⟨rest, rfl, h2⟩
    · refine ⟨rest ++ [((i + d : Nat) : Int)], by simp, fun x hx => ?_⟩
      rcases List.mem_append.1 hx with hx | hx
      · exact h2 x hx
      · rw [List.mem_singleton] at hx
        exact ⟨i + d, hx, by omega, ht⟩
theorem tops_yes {i n : Nat} (hi : i < n) (ht : topB ss ls i = true) : (topsN ss ls i).length < (topsN ss ls n).length ∧ intAt (topsN ss ls n) (topsN ss ls i).length = (i : Int) := by
  obtain ⟨rest, h1, _⟩ := topsN_split (ss := ss) (ls := ls) (i + 1) (n - (i + 1))
  have e : i + 1 + (n - (i + 1)) = n := by omega
  rw [e, topsN_succ, ht, if_pos rfl] at h1
  rw [h1]
  constructor
  · simp
  · unfold intAt; simp
theorem tops_no {i n : Nat} (hi : i < n) (ht : topB ss ls i = false) : (topsN ss ls n).length ≤ (topsN ss ls i).length ∨ ((topsN ss ls i).length < (topsN ss ls n).length ∧ intAt (topsN ss ls n) (topsN ss ls i).length ≠ (i : Int)) := by
  obtain ⟨rest, h1, h2⟩ := topsN_split (ss := ss) (ls := ls) i (n - i)
  have e : i + (n - i) = n := by omega
  rw [e] at h1
  rw [h1]
  cases rest with
  | nil => left; simp
  | cons x rest =>
    right
    refine ⟨by simp, ?_⟩
    obtain ⟨j, rfl, _, h4⟩ := h2 x (List.mem_cons_self ..)
    have : intAt (topsN ss ls i ++ (j : Int) :: rest) (topsN ss ls i).length = (j : Int) := by unfold intAt; simp
    rw [this]
    intro q
    have : j = i := by omega
    rw [this, ht] at h4
    cases h4
/-- One of the first k is more than the one at i. -/
def MoreR (ss : List Sym) (ls : List Lt) (i k : Nat) (mb : Bool) : Prop := mb = true ↔ ∃ j, j < k ∧ LMor ss (ltAt ls j) (ltAt ls i)
theorem MoreR.zero {i : Nat} : MoreR ss ls i 0 false := by
  constructor
  · intro h; cases h
  · rintro ⟨j, hj, _⟩; omega
theorem MoreR.stay {i k : Nat} (h : MoreR ss ls i k true) : MoreR ss ls i (k + 1) true := by
  obtain ⟨j, hj, hm⟩ := h.1 rfl
  exact ⟨fun _ => ⟨j, by omega, hm⟩, fun _ => rfl⟩
theorem MoreR.yes {i k : Nat} {mb : Bool} (h : LMor ss (ltAt ls k) (ltAt ls i)) : MoreR ss ls i (k + 1) true := ⟨fun _ => ⟨k, by omega, h⟩, fun _ => rfl⟩
theorem MoreR.no {i k : Nat} (h : MoreR ss ls i k false) (hn : ¬ LMor ss (ltAt ls k) (ltAt ls i)) : MoreR ss ls i (k + 1) false := by
  refine ⟨fun q => (by cases q), ?_⟩
  rintro ⟨j, hj, hm⟩
  by_cases e : j = k
  · rw [e] at hm; exact absurd hm hn
  · exact h.2 ⟨j, by omega, hm⟩
theorem MoreR.top {i : Nat} {mb : Bool} (h : MoreR ss ls i ls.length mb) : mb = !topB ss ls i := by
  cases mb
  · cases ht : topB ss ls i
    · obtain ⟨k, hk, hm⟩ := topB_not ht
      exact absurd (h.2 ⟨k, hk, hm⟩) (by simp)
    · rfl
  · obtain ⟨k, hk, hm⟩ := h.1 rfl
    rw [topB_no hk hm]; rfl
end
set_option maxHeartbeats 1000000 in
theorem litTopThere_walk (A0 A1 : Option Addr) (n0 c0 n c1 : Nat) (ss : List Sym) (ls : List Lt) (w : World) (hs : SymsAt w w.heap.size A0 n0 ss) (hn0 : n0 ≤ maxLen) (hnc : n0 ≤ c0) (hl : LitsAt w w.heap.size A1 n ls) (hn1 : n ≤ maxLen) :
    Calls Try.prog 7 #[.slice A0 n0 c0, .slice A1 n c1] w fun e w' => e = .returned (.bool true) ∧ Below w.heap.size w w' := by
  unfold maxLen at hn1
  have HS := Lib.hid hs
  have HL := Lib.hid hl
  have HN := Lib.hid hl.len
  have HB0 := Lib.hid (Below.refl w.heap.size w)
  clear hs hl
  by_cases h30 : 30 < n
  · have h30' : (30 : Int) < (n : Int) := by omega
    go_enter Try.func7, Try.ntmps7
    go_wp2_with fail
    refine (awakeL_any _).mono ?_
    rintro e w1 ⟨rfl, hb1⟩
    have HB1 := Lib.hid (HB0.out.trans (hb1.mono HB0.out.size))
    clear hb1
    go_wp2
    go_ret
    exact ⟨rfl, HB1.out⟩
  · have h30' : ¬ (30 : Int) < (n : Int) := by omega
    go_enter Try.func7, Try.ntmps7
    go_wp2_with fail
    refine (awakeL_any _).mono ?_
    rintro e w1 ⟨rfl, hb1⟩
    have HB1 := Lib.hid (HB0.out.trans (hb1.mono HB0.out.size))
    replace HS := Lib.hid (HS.out.on hb1)
    replace HL := Lib.hid (HL.out.on hb1)
    clear hb1
    go_wp2_with fail
    refine (litTops_any A0 A1 n0 c0 n c1 ss ls _ HS.out hn0 hnc HL.out (by omega)).mono ?_
    rintro e w2 ⟨v2, rfl, hv2, hb2⟩
    have HB2 := Lib.hid (HB1.out.trans (hb2.mono HB1.out.size))
    replace HS := Lib.hid (HS.out.on hb2)
    replace HL := Lib.hid (HL.out.on hb2)
    clear hb2
    cases hok : topsOk ss ls
    · rw [topsE_no hok]
      rw [topsR_no hok] at hv2
      obtain ⟨A3, c3, rfl, -, -⟩ := hv2.intsAt
      clear hok hv2
      go_wp2_with (go_at_call 16; refine (num_any _ _).mono ?_; rintro e w' ⟨rfl, rfl⟩)
      go_ret
      exact ⟨rfl, HB2.out⟩
    · rw [topsE_yes hok]
      rw [topsR_yes hok, HN.out] at hv2
      have HV : Hid (∀ j, j < n → litB ss (ltAt ls j) = true) := by
        intro j hj
        unfold topsOk at hok
        rw [Bool.and_eq_true, List.all_eq_true] at hok
        exact hok.2 _ (ltAt_mem (by rw [HN.out]; exact hj))
      obtain ⟨A3, c3, rfl, -, hi3⟩ := hv2.intsAt
      obtain ⟨T, hT⟩ : ∃ T, T = topsN ss ls n := ⟨_, rfl⟩
      obtain ⟨L, hLL⟩ : ∃ L, L = T.length := ⟨_, rfl⟩
      rw [← hT, ← hLL] at hi3 ⊢
      have HI := Lib.hid hi3
      have HT := Lib.hid hT
      have HLL := Lib.hid hLL
      have hL0 : ¬ n = 0 → ¬ L = 0 := by
        intro h h'
        obtain ⟨i, hi, ht⟩ := tops_there (ss := ss) (ls := ls) (by rw [HN.out]; omega)
        have := (tops_yes (n := n) (by rw [HN.out] at hi; exact hi) ht).1
        rw [← hT, ← hLL] at this
        omega
      clear hok hv2 hi3 hT hLL
      by_cases hz : n = 0
      · subst hz
        obtain rfl : L = 0 := by rw [HLL.out, HT.out]; rfl
        clear hL0
        go_wp2_with (go_at_call 16; refine (num_any _ _).mono ?_; rintro e w' ⟨rfl, rfl⟩)
        go_loopw [7, 8] (fun a j wr => a = .int .i64 0 ∧ j = .int .i64 0 ∧ w2 = wr) (fun _ _ _ => 0)
        case atStart => exact ⟨rfl, rfl, rfl⟩
        case round =>
          obtain ⟨rfl, rfl, rfl⟩ := hrel
          go_wp2
          go_ret
          exact ⟨rfl, HB2.out⟩
      · have hLz := hL0 hz
        have g1 : ((L : Int) == 0) = false := by simp; omega
        have g2 : (0 : Int) < (n : Int) := by omega
        clear hL0
        go_wp2_with (go_at_call 16; refine (num_any _ _).mono ?_; rintro e w' ⟨rfl, rfl⟩)
        go_loopw [7, 8] (fun a j wr => ∃ i at_ : Nat, a = .int .i64 at_ ∧ j = .int .i64 i ∧ i ≤ n ∧ at_ = (topsN ss ls i).length ∧ Below w2.heap.size w2 wr) (fun _ j _ => n - (intOf j).toNat)
        case atStart => exact ⟨0, 0, rfl, rfl, by omega, rfl, Below.refl _ _⟩
        case round =>
          obtain ⟨i, at_, rfl, rfl, hi, hat, hbw⟩ := hrel
          have HBW := Lib.hid hbw
          have HAT := Lib.hid hat
          clear hbw hat
          by_cases hlt : i < n
          · obtain ⟨wA, hwA⟩ : ∃ wA, wA = wr := ⟨_, rfl⟩
            subst hwA
            have hi0' : (0 : Int) ≤ (i : Int) := by omega
            have hi3' : (i : Int) < (n : Int) := by omega
            go_wp2
            go_loopw [9, 10] (fun q j wr => ∃ (k : Nat) (mb : Bool), q = .bool mb ∧ j = .int .i64 k ∧ k ≤ n ∧ MoreR ss ls i k mb ∧ Below w2.heap.size w2 wr) (fun _ j _ => n - (intOf j).toNat)
            case atStart => exact ⟨0, false, rfl, rfl, by omega, MoreR.zero, HBW.out⟩
            case round =>
              obtain ⟨k, mb, rfl, rfl, hk, hmb, hbw⟩ := hrel
              have HBK := Lib.hid hbw
              have HMB := Lib.hid hmb
              clear hbw hmb
              by_cases hlk : k < n
              · obtain ⟨b, off, A4, c4, rfl, hb, d0, d1, hk1⟩ := (HL.out.on HBK.out).one hlk
                obtain ⟨b', off', A5, c5, e', -, e0, e1, hk2⟩ := (HL.out.on HBK.out).one hlt
                simp only [Option.some.injEq, Addr.mk.injEq] at e'
                obtain ⟨rfl, rfl, -⟩ := e'
                have HV1 := Lib.hid (HV.out k hlk)
                have HV2 := Lib.hid (HV.out i hlt)
                have HY : Hid (LMor ss (ltAt ls k) (ltAt ls i) → MoreR ss ls i (k + 1) true) := fun q => MoreR.yes (mb := true) q
                have HX : Hid (mb = false → ¬ LMor ss (ltAt ls k) (ltAt ls i) → MoreR ss ls i (k + 1) false) := by
                  intro e q; have := HMB.out; rw [e] at this; exact this.no q
                have HZ : Hid (mb = true → MoreR ss ls i (k + 1) true) := by
                  intro e; have := HMB.out; rw [e] at this; exact this.stay
                obtain ⟨p, hp⟩ : ∃ p, p = ltAt ls k := ⟨_, rfl⟩
                obtain ⟨q, hq⟩ : ∃ q, q = ltAt ls i := ⟨_, rfl⟩
                rw [← hp] at d0 d1 hk1 HV1
                rw [← hq] at e0 e1 hk2 HV2
                have HPP := Lib.hid hp
                have HQQ := Lib.hid hq
                have HK1 := Lib.hid hk1
                have HK2 := Lib.hid hk2
                have HS1 := Lib.hid (HS.out.on HBK.out)
                have hi0 : (0 : Int) ≤ (k : Int) := by omega
                have hi3 : (k : Int) < (n : Int) := by omega
                have hszk := HBK.out.size
                clear hk1 hk2 hp hq
                go_wp2_with fail
                refine wp_region_held_drew (S := (fun w' => w'.cell? ⟨b, off + k * 2, none⟩ = some (.bool p.neg) ∧ w'.cell? ⟨b, off + k * 2 + 1, none⟩ = some (.slice A4 p.atom.length c4) ∧ w'.cell? ⟨b, off + i * 2, none⟩ = some (.bool q.neg) ∧ w'.cell? ⟨b, off + i * 2 + 1, none⟩ = some (.slice A5 q.atom.length c5))) (by kernel_rfl) ⟨d0, d1, e0, e1⟩ (fun hHeld => ?_)
                refine takeH (i := 0) (v := ?_) rfl rfl (by kernel_rfl) (by kernel_rfl) (by kernel_rfl) (fun _ _ _ h => h) (by rfl) ?_ hHeld ?_
                rotate_left
                · (intro w hSw; (try dsimp only at hSw); first | (go_simp; done) | (go_simp; with_reducible rfl))
                simp only [Act.put, List.setIfInBounds_toArray, List.set_cons_zero, List.set_cons_succ]
                refine takeH (i := 1) (v := ?_) rfl rfl (by kernel_rfl) (by kernel_rfl) (by kernel_rfl) (fun _ _ _ h => h) (by rfl) ?_ hHeld ?_
                rotate_left
                · (intro w hSw; (try dsimp only at hSw); first | (go_simp; done) | (go_simp; with_reducible rfl))
                simp only [Act.put, List.setIfInBounds_toArray, List.set_cons_zero, List.set_cons_succ]
                refine takeH (i := 2) (v := ?_) rfl rfl (by kernel_rfl) (by kernel_rfl) (by kernel_rfl) (fun _ _ _ h => h) (by rfl) ?_ hHeld ?_
                rotate_left
                · (intro w hSw; (try dsimp only at hSw); first | (go_simp; done) | (go_simp; with_reducible rfl))
                simp only [Act.put, List.setIfInBounds_toArray, List.set_cons_zero, List.set_cons_succ]
                refine takeH (i := 3) (v := ?_) rfl rfl (by kernel_rfl) (by kernel_rfl) (by kernel_rfl) (fun _ _ _ h => h) (by rfl) ?_ hHeld ?_
                rotate_left
                · (intro w hSw; (try dsimp only at hSw); first | (go_simp; done) | (go_simp; with_reducible rfl))
                simp only [Act.put, List.setIfInBounds_toArray, List.set_cons_zero, List.set_cons_succ]
                refine takeH (i := 4) (v := ?_) rfl rfl (by kernel_rfl) (by kernel_rfl) (by kernel_rfl) (fun _ _ _ h => h) (by rfl) ?_ hHeld ?_
                rotate_left
                · (intro w hSw; (try dsimp only at hSw); first | (go_simp; done) | (go_simp; with_reducible rfl))
                simp only [Act.put, List.setIfInBounds_toArray, List.set_cons_zero, List.set_cons_succ]
                refine takeH (i := 5) (v := ?_) rfl rfl (by kernel_rfl) (by kernel_rfl) (by kernel_rfl) (fun _ _ _ h => h) (by rfl) ?_ hHeld ?_
                rotate_left
                · (intro w hSw; (try dsimp only at hSw); first | (go_simp; done) | (go_simp; with_reducible rfl))
                simp only [Act.put, List.setIfInBounds_toArray, List.set_cons_zero, List.set_cons_succ]
                refine takeH (i := 6) (v := ?_) rfl rfl (by kernel_rfl) (by kernel_rfl) (by kernel_rfl) (fun _ _ _ h => h) (by rfl) ?_ hHeld ?_
                rotate_left
                · (intro w hSw; (try dsimp only at hSw); first | (go_simp; done) | (go_simp; with_reducible rfl))
                simp only [Act.put, List.setIfInBounds_toArray, List.set_cons_zero, List.set_cons_succ]
                refine takeH (i := 7) (v := ?_) rfl rfl (by kernel_rfl) (by kernel_rfl) (by kernel_rfl) (fun _ _ _ h => h) (by rfl) ?_ hHeld ?_
                rotate_left
                · (intro w hSw; (try dsimp only at hSw); first | (go_simp; done) | (go_simp; with_reducible rfl))
                simp only [Act.put, List.setIfInBounds_toArray, List.set_cons_zero, List.set_cons_succ]
                refine takeH (i := 8) (v := ?_) rfl rfl (by kernel_rfl) (by kernel_rfl) (by kernel_rfl) (fun _ _ _ h => h) (by rfl) ?_ hHeld ?_
                rotate_left
                · (intro w hSw; (try dsimp only at hSw); first | (go_simp; done) | (go_simp; with_reducible rfl))
                simp only [Act.put, List.setIfInBounds_toArray, List.set_cons_zero, List.set_cons_succ]
                refine wpAnyH_ready (rs := [9]) (by kernel_rfl) (by simp) ?_
                refine AllReadyH.cons rfl (fun K hK => ?_) AllReadyH.nil
                go_simp
                have hd : Below wr.heap.size wr wr.drew := (Below.refl wr.heap.size wr).drew
                refine (litCompare_any A0 A4 A5 n0 c0 _ c4 _ c5 ss p q wr.drew (HS1.out.on hd) hn0 hnc (HK1.out.on hd) (HK2.out.on hd)).mono ?_
                rintro e w4 ⟨kk, E, rfl, hkk, hb4⟩
                have hb4' : Below wr.heap.size wr w4 := hd.trans (hb4.mono hd.size)
                have f0 : w4.cell? ⟨b, off + k * 2, none⟩ = some (.bool p.neg) := by rw [hb4'.cell (p := ⟨b, _, none⟩) hb]; exact d0
                have f1 : w4.cell? ⟨b, off + k * 2 + 1, none⟩ = some (.slice A4 p.atom.length c4) := by rw [hb4'.cell (p := ⟨b, _, none⟩) hb]; exact d1
                have h0 : w4.cell? ⟨b, off + i * 2, none⟩ = some (.bool q.neg) := by rw [hb4'.cell (p := ⟨b, _, none⟩) hb]; exact e0
                have h1 : w4.cell? ⟨b, off + i * 2 + 1, none⟩ = some (.slice A5 q.atom.length c5) := by rw [hb4'.cell (p := ⟨b, _, none⟩) hb]; exact e1
                have HB4 := Lib.hid (HBK.out.trans (hb4'.mono hszk))
                obtain rfl : E = 0 := by
                  rcases hkk.cases with ⟨_, _, h⟩ | h
                  · rw [HV1.out, HV2.out] at h; cases h
                  · exact h
                have HKK := Lib.hid (LMor.of_k hkk.kr)
                rw [HPP.out, HQQ.out] at HKK
                clear hb4 hb4' hd hkk
                cases mb
                · by_cases hk2 : kk = 2
                  · subst hk2
                    have HM := Lib.hid (HY.out (HKK.out.1 rfl))
                    go_wp2_with fail
                    refine hK.out _ _ ?_ (fun hHeld => ?_)
                    · exact ⟨f0, f1, h0, h1⟩
                    clear hK K
                    refine takeH (i := 10) (v := ?_) rfl rfl (by kernel_rfl) (by kernel_rfl) (by kernel_rfl) (fun _ _ _ h => h) (by rfl) ?_ hHeld ?_
                    rotate_left
                    · (intro w hSw; (try dsimp only at hSw); first | (go_simp; done) | (go_simp; with_reducible rfl))
                    simp only [Act.put, List.setIfInBounds_toArray, List.set_cons_zero, List.set_cons_succ]
                    refine takeH (i := 11) (v := ?_) rfl rfl (by kernel_rfl) (by kernel_rfl) (by kernel_rfl) (fun _ _ _ h => h) (by rfl) ?_ hHeld ?_
                    rotate_left
                    · (intro w hSw; (try dsimp only at hSw); first | (go_simp; done) | (go_simp; with_reducible rfl))
                    simp only [Act.put, List.setIfInBounds_toArray, List.set_cons_zero, List.set_cons_succ]
                    refine takeH (i := 12) (v := ?_) rfl rfl (by kernel_rfl) (by kernel_rfl) (by kernel_rfl) (fun _ _ _ h => h) (by rfl) ?_ hHeld ?_
                    rotate_left
                    · (intro w hSw; (try dsimp only at hSw); first | (go_simp; done) | (go_simp; with_reducible rfl))
                    simp only [Act.put, List.setIfInBounds_toArray, List.set_cons_zero, List.set_cons_succ]
                    refine takeH (i := 13) (v := ?_) rfl rfl (by kernel_rfl) (by kernel_rfl) (by kernel_rfl) (fun _ _ _ h => h) (by rfl) ?_ hHeld ?_
                    rotate_left
                    · (intro w hSw; (try dsimp only at hSw); first | (go_simp; done) | (go_simp; with_reducible rfl))
                    simp only [Act.put, List.setIfInBounds_toArray, List.set_cons_zero, List.set_cons_succ]
                    refine takeH (i := 14) (v := ?_) rfl rfl (by kernel_rfl) (by kernel_rfl) (by kernel_rfl) (fun _ _ _ h => h) (by rfl) ?_ hHeld ?_
                    rotate_left
                    · (intro w hSw; (try dsimp only at hSw); first | (go_simp; done) | (go_simp; with_reducible rfl))
                    simp only [Act.put, List.setIfInBounds_toArray, List.set_cons_zero, List.set_cons_succ]
                    refine wpAnyH_done (by kernel_rfl) ?_ _
                    go_wp2_with (go_at_call 16; refine (num_any _ _).mono ?_; rintro e w' ⟨rfl, rfl⟩)
                    go_roundw
                    case rel => exact ⟨k + 1, true, rfl, by go_num, by omega, HM.out, HB4.out⟩
                    case measure => simp [intOf]; omega
                  · have HM := Lib.hid (HX.out rfl (fun z => hk2 (HKK.out.2 z)))
                    have hk3 : (kk == 2) = false := by simpa using hk2
                    clear hk2
                    go_wp2_with fail
                    refine hK.out _ _ ?_ (fun hHeld => ?_)
                    · exact ⟨f0, f1, h0, h1⟩
                    clear hK K
                    refine takeH (i := 10) (v := ?_) rfl rfl (by kernel_rfl) (by kernel_rfl) (by kernel_rfl) (fun _ _ _ h => h) (by rfl) ?_ hHeld ?_
                    rotate_left
                    · (intro w hSw; (try dsimp only at hSw); first | (go_simp; done) | (go_simp; with_reducible rfl))
                    simp only [Act.put, List.setIfInBounds_toArray, List.set_cons_zero, List.set_cons_succ]
                    refine takeH (i := 11) (v := ?_) rfl rfl (by kernel_rfl) (by kernel_rfl) (by kernel_rfl) (fun _ _ _ h => h) (by rfl) ?_ hHeld ?_
                    rotate_left
                    · (intro w hSw; (try dsimp only at hSw); first | (go_simp; done) | (go_simp; with_reducible rfl))
                    simp only [Act.put, List.setIfInBounds_toArray, List.set_cons_zero, List.set_cons_succ]
                    refine takeH (i := 12) (v := ?_) rfl rfl (by kernel_rfl) (by kernel_rfl) (by kernel_rfl) (fun _ _ _ h => h) (by rfl) ?_ hHeld ?_
                    rotate_left
                    · (intro w hSw; (try dsimp only at hSw); first | (go_simp; done) | (go_simp; with_reducible rfl))
                    simp only [Act.put, List.setIfInBounds_toArray, List.set_cons_zero, List.set_cons_succ]
                    refine takeH (i := 13) (v := ?_) rfl rfl (by kernel_rfl) (by kernel_rfl) (by kernel_rfl) (fun _ _ _ h => h) (by rfl) ?_ hHeld ?_
                    rotate_left
                    · (intro w hSw; (try dsimp only at hSw); first | (go_simp; done) | (go_simp; with_reducible rfl))
                    simp only [Act.put, List.setIfInBounds_toArray, List.set_cons_zero, List.set_cons_succ]
                    refine takeH (i := 14) (v := ?_) rfl rfl (by kernel_rfl) (by kernel_rfl) (by kernel_rfl) (fun _ _ _ h => h) (by rfl) ?_ hHeld ?_
                    rotate_left
                    · (intro w hSw; (try dsimp only at hSw); first | (go_simp; done) | (go_simp; with_reducible rfl))
                    simp only [Act.put, List.setIfInBounds_toArray, List.set_cons_zero, List.set_cons_succ]
                    refine wpAnyH_done (by kernel_rfl) ?_ _
                    go_wp2_with (go_at_call 16; refine (num_any _ _).mono ?_; rintro e w' ⟨rfl, rfl⟩)
                    go_roundw
                    case rel => exact ⟨k + 1, false, rfl, by go_num, by omega, HM.out, HB4.out⟩
                    case measure => simp [intOf]; omega
                · have HM := Lib.hid (HZ.out rfl)
                  go_wp2_with fail
                  refine hK.out _ _ ?_ (fun hHeld => ?_)
                  · exact ⟨f0, f1, h0, h1⟩
                  clear hK K
                  refine takeH (i := 10) (v := ?_) rfl rfl (by kernel_rfl) (by kernel_rfl) (by kernel_rfl) (fun _ _ _ h => h) (by rfl) ?_ hHeld ?_
                  rotate_left
                  · (intro w hSw; (try dsimp only at hSw); first | (go_simp; done) | (go_simp; with_reducible rfl))
                  simp only [Act.put, List.setIfInBounds_toArray, List.set_cons_zero, List.set_cons_succ]
                  refine takeH (i := 11) (v := ?_) rfl rfl (by kernel_rfl) (by kernel_rfl) (by kernel_rfl) (fun _ _ _ h => h) (by rfl) ?_ hHeld ?_
                  rotate_left
                  · (intro w hSw; (try dsimp only at hSw); first | (go_simp; done) | (go_simp; with_reducible rfl))
                  simp only [Act.put, List.setIfInBounds_toArray, List.set_cons_zero, List.set_cons_succ]
                  refine takeH (i := 12) (v := ?_) rfl rfl (by kernel_rfl) (by kernel_rfl) (by kernel_rfl) (fun _ _ _ h => h) (by rfl) ?_ hHeld ?_
                  rotate_left
                  · (intro w hSw; (try dsimp only at hSw); first | (go_simp; done) | (go_simp; with_reducible rfl))
                  simp only [Act.put, List.setIfInBounds_toArray, List.set_cons_zero, List.set_cons_succ]
                  refine takeH (i := 13) (v := ?_) rfl rfl (by kernel_rfl) (by kernel_rfl) (by kernel_rfl) (fun _ _ _ h => h) (by rfl) ?_ hHeld ?_
                  rotate_left
                  · (intro w hSw; (try dsimp only at hSw); first | (go_simp; done) | (go_simp; with_reducible rfl))
                  simp only [Act.put, List.setIfInBounds_toArray, List.set_cons_zero, List.set_cons_succ]
                  refine takeH (i := 14) (v := ?_) rfl rfl (by kernel_rfl) (by kernel_rfl) (by kernel_rfl) (fun _ _ _ h => h) (by rfl) ?_ hHeld ?_
                  rotate_left
                  · (intro w hSw; (try dsimp only at hSw); first | (go_simp; done) | (go_simp; with_reducible rfl))
                  simp only [Act.put, List.setIfInBounds_toArray, List.set_cons_zero, List.set_cons_succ]
                  refine wpAnyH_done (by kernel_rfl) ?_ _
                  go_wp2_with (go_at_call 16; refine (num_any _ _).mono ?_; rintro e w' ⟨rfl, rfl⟩)
                  go_roundw
                  case rel => exact ⟨k + 1, true, rfl, by go_num, by omega, HM.out, HB4.out⟩
                  case measure => simp [intOf]; omega
              · obtain rfl : k = n := by omega
                have hmt : mb = !topB ss ls i := by have := HMB.out; rw [← HN.out] at this; exact this.top
                have HTS := Lib.hid (topsN_succ (ss := ss) (ls := ls) i)
                cases htb : topB ss ls i
                · rw [htb] at hmt
                  obtain rfl : mb = true := hmt
                  have HT1 : Hid ((topsN ss ls (i + 1)).length = at_) := by show _ = _; rw [HTS.out, htb, HAT.out]; rfl
                  have hno := tops_no hlt htb
                  rw [← HT.out, ← HLL.out, ← HAT.out] at hno
                  clear htb
                  rcases hno with hge | ⟨hlt2, hne⟩
                  · have g5 : ¬ (at_ : Int) < (L : Int) := by omega
                    go_wp2
                    go_roundw
                    case rel => exact ⟨i + 1, at_, rfl, by go_num, by omega, HT1.out.symm, HBK.out⟩
                    case measure => simp [intOf]; omega
                  · obtain ⟨b, off, rfl, hb, hc⟩ := (HI.out.on HBK.out).at_ (by omega)
                    have ct : _ = some (Value.int .i64 (intAt T at_)) := hc at_ hlt2
                    obtain ⟨y, hy⟩ : ∃ y, y = intAt T at_ := ⟨_, rfl⟩
                    rw [← hy] at ct hne
                    have g5 : (at_ : Int) < (L : Int) := by omega
                    have g6 : (0 : Int) ≤ (at_ : Int) := by omega
                    have g7 : (y == (i : Int)) = false := by simpa using hne
                    clear hc hy hne
                    go_wp2
                    go_roundw
                    case rel => exact ⟨i + 1, at_, rfl, by go_num, by omega, HT1.out.symm, HBK.out⟩
                    case measure => simp [intOf]; omega
                · rw [htb] at hmt
                  obtain rfl : mb = false := hmt
                  have HT1 : Hid ((topsN ss ls (i + 1)).length = at_ + 1) := by show _ = _; rw [HTS.out, htb, if_pos rfl, List.length_append, HAT.out]; rfl
                  have hat30 : at_ ≤ 30 := by have := topsN_length (ss := ss) (ls := ls) i; rw [← HAT.out] at this; omega
                  have hyes := tops_yes hlt htb
                  rw [← HT.out, ← HLL.out, ← HAT.out] at hyes
                  obtain ⟨hlt2, hy⟩ := hyes
                  clear htb
                  obtain ⟨b, off, rfl, hb, hc⟩ := (HI.out.on HBK.out).at_ (by omega)
                  have ct : _ = some (Value.int .i64 (intAt T at_)) := hc at_ hlt2
                  rw [hy] at ct
                  have g5 : (at_ : Int) < (L : Int) := by omega
                  have g6 : (0 : Int) ≤ (at_ : Int) := by omega
                  clear hc hy
                  go_wp2
                  go_roundw
                  case rel => exact ⟨i + 1, at_ + 1, by go_num, by go_num, by omega, HT1.out.symm, HBK.out⟩
                  case measure => simp [intOf]; omega
          · obtain rfl : i = n := by omega
            obtain rfl : at_ = L := by rw [HAT.out, HLL.out, HT.out]
            go_wp2
            go_ret
            exact ⟨rfl, HB2.out.trans (HBW.out.mono HB2.out.size)⟩
end Go.Proofs.Ytiekgdohanahlaa
