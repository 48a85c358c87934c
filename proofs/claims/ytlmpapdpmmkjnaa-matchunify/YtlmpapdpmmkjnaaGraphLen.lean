/-
  Contracts: the program's root, rootFirst, both, lengthOf.
  Contracts: the program's lengthOf, measure.
  Contract: the program's measure.
  Contracts: the program's write, binds.
-/
import Derived.Test.YtlmpapdpmmkjnaaMemGraph
import Derived.Test.YtlmpapdpmmkjnaaHelpInts
import Derived.Test.YtlmpapdpmmkjnaaHeld
import Derived.Test.YtlmpapdpmmkjnaaPlainUni
namespace Go.Proofs.Ytlmpapdpmmkjnaa
open Go.RowKit
set_option linter.unusedSimpArgs false
set_option linter.unusedVariables false
set_option maxRecDepth 100000

set_option maxHeartbeats 1000000 in
theorem root_any (gb base n : Nat) (G : List Nd) (rt d : Nat → Nat) (w : World) (h : GraphAt w base gb G) (hf : Forest G rt d) (hn : n < G.length) (hN : G.length ≤ 1000) :
    Calls Try.prog 56 #[.pointer (some ⟨gb, 0, none⟩), .int .i64 (n : Int)] w fun e w' => e = .returned (.int .i64 (rt n : Int)) ∧ w = w' := by
  obtain ⟨nb, cap, hb, hlt, hcap, hcell, hall⟩ := h.cells (by omega)
  have HALL := Lib.hid hall
  have HF := Lib.hid hf
  obtain ⟨N, hNe⟩ : ∃ N, N = G.length := ⟨_, rfl⟩
  rw [← hNe] at hcell hn hN hcap
  have HN := Lib.hid hNe
  clear hall hf hNe h
  go_enter Try.func56, Try.ntmps56
  go_wp2
  go_loop [1] (fun i => ∃ k : Nat, i = .int .i64 k ∧ k < N ∧ rt k = rt n) (fun i => d (intOf i).toNat)
  case atStart => exact ⟨n, rfl, hn, rfl⟩
  case round =>
    obtain ⟨k, rfl, hk, hrt⟩ := hrel
    obtain ⟨_, c2, _, _⟩ := HALL.out k (by rw [← HN.out]; exact hk)
    have HRT := Lib.hid hrt
    clear hrt
    have z0 : (0 : Int) ≤ (k : Int) := by omega
    have z1 : (k : Int) < (N : Int) := by omega
    obtain ⟨u, hu⟩ : ∃ u, u = (ndAt G k).up := ⟨_, rfl⟩
    rw [← hu] at c2
    have HU := Lib.hid hu
    clear hu
    by_cases e : u = k
    · have e' : ((u : Int) != (k : Int)) = false := by simp [e]
      have HE := Lib.hid e
      clear e
      go_wp2
      go_ret
      refine ⟨ret_int ?_, rfl⟩
      have := HF.out.top k (by rw [← HN.out]; exact hk) (by rw [← HU.out]; exact HE.out)
      rw [← HRT.out, this]
    · have e' : ((u : Int) != (k : Int)) = true := by simp; omega
      have HE := Lib.hid e
      clear e
      go_wp2
      go_round
      case rel =>
        have hkN : k < G.length := by rw [← HN.out]; exact hk
        obtain ⟨h1, h2⟩ := HF.out.low k hkN (by rw [← HU.out]; exact HE.out)
        exact ⟨u, rfl, by rw [HU.out, HN.out]; exact HF.out.bound k hkN, by rw [HU.out, ← h1]; exact HRT.out⟩
      case measure =>
        have hkN : k < G.length := by rw [← HN.out]; exact hk
        obtain ⟨h1, h2⟩ := HF.out.low k hkN (by rw [← HU.out]; exact HE.out)
        simp [intOf]
        rw [HU.out]; exact h2

theorem ret_ii {a b c d : Int} (h : a = c) (k : b = d) : Ending.returned (.tuple #[.int .i64 a, .int .i64 b]) = .returned (.tuple #[.int .i64 c, .int .i64 d]) := by rw [h, k]
set_option maxHeartbeats 1000000 in
theorem rootFirst_any (gb base x y : Nat) (G : List Nd) (w : World) (h : GraphAt w base gb G) (hx : x < G.length) (hy : y < G.length) (hN : G.length ≤ 1000) :
    Calls Try.prog 55 #[.pointer (some ⟨gb, 0, none⟩), .int .i64 (x : Int), .int .i64 (y : Int)] w fun e w' => (∃ r o : Nat, e = .returned (.tuple #[.int .i64 (r : Int), .int .i64 (o : Int)]) ∧ ((x = r ∧ y = o) ∨ (x = o ∧ y = r)) ∧ (ndAt G o).code ≤ (ndAt G r).code) ∧ Below w.heap.size w w' := by
  obtain ⟨nb, cap, hb, hlt, hcap, hcell, hall⟩ := h.cells (by omega)
  obtain ⟨c1, _⟩ := hall x hx
  obtain ⟨c2, _⟩ := hall y hy
  obtain ⟨N, hNe⟩ : ∃ N, N = G.length := ⟨_, rfl⟩
  rw [← hNe] at hcell hx hy hN hcap
  obtain ⟨cx, hcx⟩ : ∃ c, c = (ndAt G x).code := ⟨_, rfl⟩
  obtain ⟨cy, hcy⟩ : ∃ c, c = (ndAt G y).code := ⟨_, rfl⟩
  rw [← hcx] at c1
  rw [← hcy] at c2
  have HX := Lib.hid hcx
  have HY := Lib.hid hcy
  clear hall hNe h hcx hcy
  have z0 : (0 : Int) ≤ (x : Int) := by omega
  have z1 : (x : Int) < (N : Int) := by omega
  have z2 : (0 : Int) ≤ (y : Int) := by omega
  have z3 : (y : Int) < (N : Int) := by omega
  by_cases hlt' : cx < cy
  · go_enter Try.func55, Try.ntmps55
    go_wp2_with fail
    go_quiet (fail)
    go_wp2
    go_ret2
    exact ⟨⟨y, x, rfl, .inr ⟨rfl, rfl⟩, by rw [← HX.out, ← HY.out]; omega⟩, below_drewN w _⟩
  · go_enter Try.func55, Try.ntmps55
    go_wp2_with fail
    go_quiet (fail)
    go_wp2
    go_ret2
    exact ⟨⟨x, y, rfl, .inl ⟨rfl, rfl⟩, by rw [← HX.out, ← HY.out]; omega⟩, below_drewN w _⟩

theorem zip_take {xs ys : List Nat} {k : Nat} (h1 : k < xs.length) (h2 : k < ys.length) : (xs.zip ys).take (k + 1) = (xs.zip ys).take k ++ [(natAt xs k, natAt ys k)] := by
  rw [List.take_add_one]
  congr 1
  have e : (xs.zip ys)[k]? = some (natAt xs k, natAt ys k) := List.getElem?_zip_eq_some.2 ⟨natAt_get h1, natAt_get h2⟩
  rw [e]
  rfl
theorem OwnI.nat {w : World} {base : Nat} {v : Value} {xs : List Nat} (h : OwnI w base v (nats xs)) (hp : 0 < xs.length) : ∃ g cap, v = .slice (some ⟨g, 0, none⟩) xs.length cap ∧ base ≤ g ∧ g < w.heap.size ∧ xs.length ≤ cap := by
  rcases h.shape with ⟨_, e⟩ | ⟨g, cap, h1, h2, h3, h4⟩
  · have := congrArg List.length e
    rw [nats_length] at this
    have h0 : xs.length = 0 := this
    omega
  · rw [nats_length] at h1 h4
    exact ⟨g, cap, h1, h2, h3, h4⟩
theorem OwnI.nat_get {w : World} {base g n cap i : Nat} {xs : List Nat} (h : OwnI w base (.slice (some ⟨g, 0, none⟩) n cap) (nats xs)) (hi : i < xs.length) : w.cell? ⟨g, i, none⟩ = some (.int .i64 (natAt xs i : Int)) := by
  unfold OwnI at h
  have hn : n = (nats xs).length := by
    rcases h.2 with ⟨q, _⟩ | ⟨_, _, _, q, _⟩
    · cases q
    · injection q
  subst hn
  have := own_get h i (by rw [nats_length]; exact hi)
  rw [intCells_get _ _ (by rw [nats_length]; exact hi), nats_at hi] at this
  exact this
theorem OwnI.value_len {w : World} {base : Nat} {v : Value} {xs : List Nat} (h : OwnI w base v (nats xs)) : ∃ A c, v = .slice A xs.length c := by
  obtain ⟨A, c, h1, _⟩ := h.intsAt
  rw [nats_length] at h1
  exact ⟨A, c, h1⟩

set_option maxHeartbeats 2000000 in
theorem both_any' (base b1 b2 : Nat) (v vL vR : Value) (ps : List (Nat × Nat)) (xs ys : List Nat) (w : World) (hP : OwnP w base v ps) (hL : OwnI w b1 vL (nats xs)) (hR : OwnI w b2 vR (nats ys)) (hl : xs.length = ys.length) (hlen : ps.length + xs.length ≤ 100000) (hbase : base ≤ w.heap.size) :
    Calls Try.prog 54 #[v, vL, vR] w fun e w' => (∃ v', e = .returned v' ∧ OwnP w' base v' (ps ++ xs.zip ys)) ∧ Chg [84] base w w' := by
  have HP := Lib.hid hP
  have HL := Lib.hid hL
  have HR := Lib.hid hR
  obtain ⟨A1, c1, rfl⟩ := hL.value_len
  obtain ⟨A2, c2, rfl⟩ := hR.value_len
  obtain ⟨N, hNe⟩ : ∃ N, N = xs.length := ⟨_, rfl⟩
  rw [← hNe] at HL hlen hl ⊢
  rw [← hl] at HR ⊢
  have HN := Lib.hid hNe
  have HM := Lib.hid hl
  have hni : (3 : TypeId) ∉ [(84 : TypeId)] := by decide
  have HNI := Lib.hid hni
  obtain ⟨pl, hpl⟩ : ∃ pl, pl = ps.length := ⟨_, rfl⟩
  rw [← hpl] at hlen
  have HPL := Lib.hid hpl
  clear hP hL hR hNe hl hni hpl
  go_enter Try.func54, Try.ntmps54
  go_wp2
  go_loopw [0, 10] (fun q i wr => ∃ k : Nat, i = .int .i64 k ∧ k ≤ N ∧ OwnP wr base q (ps ++ (xs.zip ys).take k) ∧ Chg [84] base w wr) (fun _ i _ => N - (intOf i).toNat)
  case atStart => exact ⟨0, rfl, by omega, HP.out.cast (by simp), Chg.refl⟩
  case round =>
    obtain ⟨k, rfl, hk, hown, hch⟩ := hrel
    have HOWN := Lib.hid hown
    have HCH := Lib.hid hch
    have hsz := hch.bel.size
    clear hown hch
    by_cases hlt : k < N
    · have hkx : k < xs.length := by rw [← HN.out]; exact hlt
      have hky : k < ys.length := by rw [← HM.out]; exact hlt
      obtain ⟨g1, cap1, e1, hg1, hgl1, _⟩ := HL.out.nat (by omega)
      obtain ⟨g2, cap2, e2, hg2, hgl2, _⟩ := HR.out.nat (by omega)
      simp only [Value.slice.injEq] at e1 e2
      obtain ⟨rfl, -, rfl⟩ := e1
      obtain ⟨rfl, -, rfl⟩ := e2
      have q1 := (HCH.out.own HNI.out HL.out).nat_get hkx
      have q2 := (HCH.out.own HNI.out HR.out).nat_get hky
      have HZ := Lib.hid (zip_take hkx hky)
      obtain ⟨x, hx⟩ : ∃ x, x = natAt xs k := ⟨_, rfl⟩
      obtain ⟨y, hy⟩ : ∃ y, y = natAt ys k := ⟨_, rfl⟩
      rw [← hx] at q1 HZ
      rw [← hy] at q2 HZ
      have HX := Lib.hid hx
      have HY := Lib.hid hy
      have HKX := Lib.hid hkx
      have HKY := Lib.hid hky
      clear hkx hky hx hy
      have hi0 : (0 : Int) ≤ (k : Int) := by omega
      have hi3 : (k : Int) < (N : Int) := by omega
      have htl : (ps ++ (xs.zip ys).take k).length + 1 ≤ 1000000 := by simp; have := HPL.out; omega
      have hbw : base ≤ wr.heap.size := by omega
      have hgw1 : g1 < wr.heap.size := by omega
      have hgw2 : g2 < wr.heap.size := by omega
      go_wp2_with fail
      refine wp_region_held_drew (S := (fun w' => w'.cell? ⟨g1, k, none⟩ = some (.int .i64 (x : Int)) ∧ w'.cell? ⟨g2, k, none⟩ = some (.int .i64 (y : Int)))) (by kernel_rfl) ⟨q1, q2⟩ (fun hHeld => ?_)
      refine takeH (i := 0) (v := ?_) rfl rfl (by kernel_rfl) (by kernel_rfl) (by kernel_rfl) (fun _ _ _ h => h) (by rfl) ?_ hHeld ?_
      rotate_left
      · (intro w hSw; (try dsimp only at hSw); first | (go_simp; done) | (go_simp; with_reducible rfl))
      simp only [Act.put, List.setIfInBounds_toArray, List.set_cons_zero, List.set_cons_succ]
      refine takeH (i := 1) (v := ?_) rfl rfl (by kernel_rfl) (by kernel_rfl) (by kernel_rfl) (fun _ _ _ h => h) (by rfl) ?_ hHeld ?_
      rotate_left
      · (intro w hSw; (try dsimp only at hSw); first | (go_simp; done) | (go_simp; with_reducible rfl))
      simp only [Act.put, List.setIfInBounds_toArray, List.set_cons_zero, List.set_cons_succ]
      refine takeH (i := 2) (v := ?_) rfl rfl (by kernel_rfl) (by kernel_rfl) (by kernel_rfl) (fun _ _ _ h => h) (by rfl) ?_ hHeld ?_
      rotate_left
      · (intro w hSw; (try dsimp only at hSw); first | (go_simp; done) | (go_simp; with_reducible rfl))
      simp only [Act.put, List.setIfInBounds_toArray, List.set_cons_zero, List.set_cons_succ]
      refine takeH (i := 3) (v := ?_) rfl rfl (by kernel_rfl) (by kernel_rfl) (by kernel_rfl) (fun _ _ _ h => h) (by rfl) ?_ hHeld ?_
      rotate_left
      · (intro w hSw; (try dsimp only at hSw); first | (go_simp; done) | (go_simp; with_reducible rfl))
      simp only [Act.put, List.setIfInBounds_toArray, List.set_cons_zero, List.set_cons_succ]
      refine takeH (i := 4) (v := ?_) rfl rfl (by kernel_rfl) (by kernel_rfl) (by kernel_rfl) (fun _ _ _ h => h) (by rfl) ?_ hHeld ?_
      rotate_left
      · (intro w hSw; (try dsimp only at hSw); first | (go_simp; done) | (go_simp; with_reducible rfl))
      simp only [Act.put, List.setIfInBounds_toArray, List.set_cons_zero, List.set_cons_succ]
      refine takeH (i := 5) (v := ?_) rfl rfl (by kernel_rfl) (by kernel_rfl) (by kernel_rfl) (fun _ _ _ h => h) (by rfl) ?_ hHeld ?_
      rotate_left
      · (intro w hSw; (try dsimp only at hSw); first | (go_simp; done) | (go_simp; with_reducible rfl))
      simp only [Act.put, List.setIfInBounds_toArray, List.set_cons_zero, List.set_cons_succ]
      refine takeH (i := 6) (v := ?_) rfl rfl (by kernel_rfl) (by kernel_rfl) (by kernel_rfl) (fun _ _ _ h => h) (by rfl) ?_ hHeld ?_
      rotate_left
      · (intro w hSw; (try dsimp only at hSw); first | (go_simp; done) | (go_simp; with_reducible rfl))
      simp only [Act.put, List.setIfInBounds_toArray, List.set_cons_zero, List.set_cons_succ]
      refine takeH (i := 7) (v := ?_) rfl rfl (by kernel_rfl) (by kernel_rfl) (by kernel_rfl) (fun _ _ _ h => h) (by rfl) ?_ hHeld ?_
      rotate_left
      · (intro w hSw; (try dsimp only at hSw); first | (go_simp; done) | (go_simp; with_reducible rfl))
      simp only [Act.put, List.setIfInBounds_toArray, List.set_cons_zero, List.set_cons_succ]
      refine takeH (i := 8) (v := ?_) rfl rfl (by kernel_rfl) (by kernel_rfl) (by kernel_rfl) (fun _ _ _ h => h) (by rfl) ?_ hHeld ?_
      rotate_left
      · (intro w hSw; (try dsimp only at hSw); first | (go_simp; done) | (go_simp; with_reducible rfl))
      simp only [Act.put, List.setIfInBounds_toArray, List.set_cons_zero, List.set_cons_succ]
      refine takeH (i := 9) (v := ?_) rfl rfl (by kernel_rfl) (by kernel_rfl) (by kernel_rfl) (fun _ _ _ h => h) (by rfl) ?_ hHeld ?_
      rotate_left
      · (intro w hSw; (try dsimp only at hSw); first | (go_simp; done) | (go_simp; with_reducible rfl))
      simp only [Act.put, List.setIfInBounds_toArray, List.set_cons_zero, List.set_cons_succ]
      refine wpAnyH_ready (rs := [10]) (by kernel_rfl) (by simp) ?_
      refine AllReadyH.cons rfl (fun K hK => ?_) AllReadyH.nil
      go_simp
      refine hK.out _ _ ?_ (fun hHeld => ?_)
      · have hb2 := below_new wr (.cells #[.int .i64 (x : Int), .int .i64 (y : Int)] 84)
        exact ⟨(hb2.cell (p := ⟨g1, k, none⟩) hgw1).trans q1, (hb2.cell (p := ⟨g2, k, none⟩) hgw2).trans q2⟩
      clear hK K
      refine wpAnyH_ready (rs := [11]) (by kernel_rfl) (by simp) ?_
      refine AllReadyH.cons rfl (fun K hK => ?_) AllReadyH.nil
      rw [if_pos (by rfl)]
      refine app_pair_op (w := wr.drew) (.tmp 13) (.tmp 23) rfl base _ (ps ++ (xs.zip ys).take k) x y rfl HOWN.out rfl htl hbw ?_
      intro v2 w2 hown2 hb2
      have HO2 := Lib.hid (hown2.cast (by rw [List.append_assoc, ← HZ.out]))
      have HC2 := Lib.hid (HCH.out.trans ((Chg.of_below (Below.refl _ _).drew hbw).trans hb2))
      clear hown2 hb2
      refine hK.out _ _ ?_ (fun hHeld => ?_)
      · exact ⟨by rw [HX.out]; exact (HC2.out.own HNI.out HL.out).nat_get HKX.out, by rw [HY.out]; exact (HC2.out.own HNI.out HR.out).nat_get HKY.out⟩
      clear hK K
      refine takeH (i := 12) (v := ?_) rfl rfl (by kernel_rfl) (by kernel_rfl) (by kernel_rfl) (fun _ _ _ h => h) (by rfl) ?_ hHeld ?_
      rotate_left
      · (intro w hSw; (try dsimp only at hSw); first | (go_simp; done) | (go_simp; with_reducible rfl))
      simp only [Act.put, List.setIfInBounds_toArray, List.set_cons_zero, List.set_cons_succ]
      refine wpAnyH_done (by kernel_rfl) ?_ _
      go_wp2
      go_roundw
      case rel => exact ⟨k + 1, by go_num, by omega, HO2.out, HC2.out⟩
      case measure => simp [intOf]; omega
    · obtain rfl : k = N := by omega
      go_wp2
      go_ret
      refine ⟨⟨_, rfl, HOWN.out.cast ?_⟩, HCH.out⟩
      rw [List.take_of_length_le]
      rw [List.length_zip]; have := HN.out; have := HM.out; omega

end Go.Proofs.Ytlmpapdpmmkjnaa

namespace Go.Proofs.Ytlmpapdpmmkjnaa
open Go.RowKit
set_option linter.unusedSimpArgs false
set_option linter.unusedVariables false
set_option maxRecDepth 100000

theorem lenOf_low {G : List Nd} {rt : Nat → Nat} {n : Nat} (h : rt n ≠ n) : lenOf G rt n = lenAt G (rt n) := by unfold lenOf; rw [if_pos h]
theorem lenOf_wait {G : List Nd} {rt : Nat → Nat} {n x : Nat} (h : rt n = n) (hx : x ∈ (ndAt G n).args) (h0 : lenAt G x = 0) : lenOf G rt n = 0 := by
  unfold lenOf
  rw [if_neg (by simp [h]), if_pos]
  rw [List.any_eq_true]
  exact ⟨x, hx, by simp [h0]⟩
theorem lenOf_sum {G : List Nd} {rt : Nat → Nat} {n : Nat} (h : rt n = n) (hx : ∀ x ∈ (ndAt G n).args, 0 < lenAt G x) : lenOf G rt n = min (1 + sumN (lenAt G) (ndAt G n).args) 49 := by
  unfold lenOf
  rw [if_neg (by simp [h]), if_neg]
  simp
  intro x hx'
  have := hx x hx'
  omega
theorem ndAt_len (G : List Nd) (n : Nat) : (ndAt G n).len = lenAt G n := rfl

set_option maxHeartbeats 2000000 in
theorem lengthOf_any (gb base n : Nat) (G : List Nd) (rt d : Nat → Nat) (w : World) (h : GraphAt w base gb G) (hf : Forest G rt d) (hn : n < G.length) (hN : G.length ≤ 1000)
    (ha : ∀ x ∈ (ndAt G n).args, x < G.length) (hle : ∀ k, k < G.length → lenAt G k ≤ 49) (hal : (ndAt G n).args.length ≤ 100) :
    Calls Try.prog 57 #[.pointer (some ⟨gb, 0, none⟩), .int .i64 (n : Int)] w fun e w' => e = .returned (.int .i64 (lenOf G rt n : Int)) ∧ w = w' := by
  obtain ⟨nb, cap, hb, hlt, hcap, hcell, hall⟩ := h.cells (by omega)
  have HG := Lib.hid h
  have HALL := Lib.hid hall
  have HF := Lib.hid hf
  have HLE := Lib.hid hle
  have HA := Lib.hid ha
  obtain ⟨N, hNe⟩ : ∃ N, N = G.length := ⟨_, rfl⟩
  have hnG := hn
  have hNG := hN
  rw [← hNe] at hcell hn hN hcap
  have HN := Lib.hid hNe
  have HNG := Lib.hid hnG
  have HNN := Lib.hid hNG
  obtain ⟨r1, r2, r3⟩ := hf.root hnG
  obtain ⟨q, hq⟩ : ∃ q, q = rt n := ⟨_, rfl⟩
  rw [← hq, ← hNe] at r1
  have HQ := Lib.hid hq
  clear hall hf hNe h hle ha hnG hNG r2 r3 hq
  by_cases e : q = n
  · have e' : ((q : Int) != (n : Int)) = false := by simp [e]
    have HE := Lib.hid e
    clear e
    obtain ⟨_, _, _, A, c, hargs, hcc, hints⟩ := HALL.out n HNG.out
    have HI := Lib.hid hints
    obtain ⟨m, hm⟩ : ∃ m, m = (ndAt G n).args.length := ⟨_, rfl⟩
    rw [← hm] at hargs HI hal
    have HM := Lib.hid hm
    have z0 : (0 : Int) ≤ (n : Int) := by omega
    have z1 : (n : Int) < (N : Int) := by omega
    clear hints hm hcc
    go_enter Try.func57, Try.ntmps57
    go_wp2_with fail
    refine (root_any gb base n G rt d _ HG.out HF.out HNG.out HNN.out).mono ?_
    rintro e w1 ⟨rfl, rfl⟩
    rw [← HQ.out]
    go_wp2
    go_loop [6, 32] (fun s i => ∃ k t : Nat, i = .int .i64 k ∧ s = .int .i64 t ∧ k ≤ m ∧ t = 1 + sumN (lenAt G) ((ndAt G n).args.take k) ∧ t ≤ 1 + 49 * k ∧ ∀ x ∈ (ndAt G n).args.take k, 0 < lenAt G x) (fun _ i => m - (intOf i).toNat)
    case atStart => exact ⟨0, 1, rfl, rfl, by omega, by simp [sumN], by omega, by simp⟩
    case round =>
      obtain ⟨k, t, rfl, rfl, hk, ht, ht49, hpos⟩ := hrel
      have HT := Lib.hid ht
      have HP := Lib.hid hpos
      clear ht hpos
      by_cases hlk : k < m
      · have hkm : k < (ndAt G n).args.length := by rw [← HM.out]; exact hlk
        obtain ⟨b1, o1, rfl, _, hc1⟩ := HI.out.at_ (by omega)
        have c1 : w.cell? ⟨b1, o1 + k, none⟩ = some (.int .i64 (intAt (nats (ndAt G n).args) k)) := hc1 k hlk
        rw [nats_at hkm] at c1
        have HTK := Lib.hid (nat_take hkm)
        have hmem := natAt_mem hkm
        have hxN := HA.out _ hmem
        obtain ⟨_, _, c3, _⟩ := HALL.out _ hxN
        rw [ndAt_len] at c3
        have hl49 := HLE.out _ hxN
        have HW := fun (e : rt n = n) (h0 : lenAt G (natAt (ndAt G n).args k) = 0) => lenOf_wait e hmem h0
        have HWA := Lib.hid HW
        obtain ⟨x, hx⟩ : ∃ x, x = natAt (ndAt G n).args k := ⟨_, rfl⟩
        rw [← hx] at c1 c3 hxN HTK hl49 HWA
        rw [← HN.out] at hxN
        obtain ⟨l, hl⟩ : ∃ l, l = lenAt G x := ⟨_, rfl⟩
        rw [← hl] at c3 hl49 HWA
        have HLL := Lib.hid hl
        clear hc1 hkm hmem HW hx hl
        have i0 : (0 : Int) ≤ (k : Int) := by omega
        have i1 : (k : Int) < (m : Int) := by omega
        have i2 : (0 : Int) ≤ (x : Int) := by omega
        have i3 : (x : Int) < (N : Int) := by omega
        by_cases h0 : l = 0
        · subst h0
          go_wp2
          go_ret
          exact ⟨ret_int (by rw [HWA.out (by rw [← HQ.out]; exact HE.out) (by first | trivial | rfl)]; rfl), rfl⟩
        · have h0' : ¬ (l : Int) = 0 := by omega
          have H0 := Lib.hid h0
          clear h0
          go_wp2
          go_round
          case rel =>
            refine ⟨k + 1, t + l, by go_num, by go_num, by omega, ?_, by omega, ?_⟩
            · rw [HTK.out, sumN_append, HT.out, HLL.out]; simp [sumN]; omega
            · intro y hy
              rw [HTK.out] at hy
              rcases List.mem_append.1 hy with h' | h'
              · exact HP.out y h'
              · simp at h'; subst h'; rw [← HLL.out]; have := H0.out; omega
          case measure => simp [intOf]; omega
      · obtain rfl : k = m := by omega
        have HTT : Hid ((ndAt G n).args.take k = (ndAt G n).args) := by show (ndAt G n).args.take k = _; exact List.take_of_length_le (by rw [← HM.out]; omega)
        have HS := Lib.hid (lenOf_sum (G := G) (rt := rt) (n := n) (by rw [← HQ.out]; exact HE.out) (by have := HP.out; rw [HTT.out] at this; exact this))
        go_wp2
        all_goals
          go_ret
          refine ⟨ret_int ?_, rfl⟩
          rw [HS.out]
          have := HT.out
          rw [HTT.out] at this
          rw [← this]
          omega
  · have e' : ((q : Int) != (n : Int)) = true := by simp; omega
    have HE := Lib.hid e
    clear e
    obtain ⟨_, _, c3, _⟩ := HALL.out q (by rw [← HN.out]; exact r1)
    rw [ndAt_len] at c3
    have z0 : (0 : Int) ≤ (q : Int) := by omega
    have z1 : (q : Int) < (N : Int) := by omega
    go_enter Try.func57, Try.ntmps57
    go_wp2_with fail
    refine (root_any gb base n G rt d _ HG.out HF.out HNG.out HNN.out).mono ?_
    rintro e w1 ⟨rfl, rfl⟩
    rw [← HQ.out]
    go_wp2
    go_ret
    exact ⟨ret_int (by rw [lenOf_low (by rw [← HQ.out]; exact HE.out), HQ.out]), rfl⟩

end Go.Proofs.Ytlmpapdpmmkjnaa

namespace Go.Proofs.Ytlmpapdpmmkjnaa
open Go.RowKit
set_option linter.unusedSimpArgs false
set_option linter.unusedVariables false
set_option maxRecDepth 100000

/-- Where lengths are being worked out: the graph in memory, so many left. -/
structure LenW (ss : List Sym) (D : Nat → List Int) (rt d : Nat → Nat) (L R : List Nat) (gb base N : Nat) (w wr : World) (G : List Nd) : Prop where
  at_ : GraphAt wr base gb G
  cls : Cls ss G D rt d [] L R
  meas : ∃ M, Meas G rt M
  many : G.length = N
  chg : Chg [80] base w wr
section
variable {ss : List Sym} {D : Nat → List Int} {rt d : Nat → Nat} {L R : List Nat} {gb base N n : Nat} {w wr : World} {G : List Nd}
theorem LenW.le (h : LenW ss D rt d L R gb base N w wr G) : ∀ k, k < G.length → lenAt G k ≤ 49 := by
  intro k hk
  obtain ⟨M, hm⟩ := h.meas
  by_cases h0 : 0 < lenAt G k
  · have := (hm k hk h0).1; omega
  · omega
theorem LenW.args (h : LenW ss D rt d L R gb base N w wr G) (hmay : mayB ss = true) (hn : n < G.length) : (ndAt G n).args.length ≤ 100 := by
  rcases Nat.lt_or_ge n 24 with h1 | h1
  · rw [(h.cls.st.var n h1).2.1]; simp
  · have := ar_le hmay (h.cls.st.sym n h1 hn).2; omega
theorem LenW.step (h : LenW ss D rt d L R gb base N w wr G) (hn : n < G.length) (h0 : lenAt G n = 0) {nb cap : Nat} (hcell : wr.cell? ⟨gb, 0, none⟩ = some (.slice (some ⟨nb, 0, none⟩) G.length cap)) :
    LenW ss D rt d L R gb base N w (wr.setCell ⟨nb, n * 4 + 3, none⟩ (.int .i64 (lenOf G rt n : Int))) (setLen G n (lenOf G rt n)) := by
  obtain ⟨_, ⟨k1, k2⟩, _⟩ := h.at_.set hn hcell (lenOf G rt n)
  refine ⟨k1, h.cls.of_eq (setLen_length ..) (fun k => setLen_code hn) (fun k => setLen_args hn) (fun k => setLen_up hn), ?_, by rw [setLen_length]; exact h.many, h.chg.trans k2⟩
  obtain ⟨M, hm⟩ := h.meas
  obtain ⟨r1, _, r3⟩ := h.cls.fo.root hn
  by_cases hp : 0 < lenOf G rt n
  · exact hm.step h.cls.st hn r1 r3 h0 hp
  · have e : lenOf G rt n = 0 := by omega
    rw [e, left_same hn h0]; exact ⟨M, hm⟩
theorem LenW.start (h : GraphAt w base gb G) (hc : Cls ss G D rt d [] L R) (hz : ∀ k, k < G.length → lenAt G k = 0) : LenW ss D rt d L R gb base G.length w w G :=
  ⟨h, hc, ⟨fun _ => [], fun k hk hp => by have := hz k hk; omega⟩, rfl, Chg.refl⟩
theorem LenW.drew (h : LenW ss D rt d L R gb base N w wr G) : LenW ss D rt d L R gb base N w wr.drew G :=
  ⟨h.at_.on (Below.refl _ _).drew, h.cls, h.meas, h.many, ⟨h.chg.bel.drew, h.chg.blk⟩⟩
end
theorem GraphAt.nodes {w : World} {base gb nb N cap : Nat} {G : List Nd} (h : GraphAt w base gb G) (hcell : w.cell? ⟨gb, 0, none⟩ = some (.slice (some ⟨nb, 0, none⟩) N cap)) :
    gb ≠ nb ∧ N = G.length ∧ (∀ j, w.frozen? ⟨nb, j, none⟩ = false) ∧ (∀ j u, (w.setCell ⟨nb, j, none⟩ u).cell? ⟨gb, 0, none⟩ = some (.slice (some ⟨nb, 0, none⟩) N cap)) ∧
    ∀ i, i < G.length → w.cell? ⟨nb, i * 4, none⟩ = some (.int .i64 (ndAt G i).code) ∧ w.cell? ⟨nb, i * 4 + 2, none⟩ = some (.int .i64 ((ndAt G i).up : Int)) ∧ w.cell? ⟨nb, i * 4 + 3, none⟩ = some (.int .i64 ((ndAt G i).len : Int)) := by
  obtain ⟨v, q1, q2, vs, q3, q4, q5⟩ := h
  have hcell' := hcell
  rw [cell_of_row _ _ 0 _ _ _ q1] at hcell
  have hv : v = .slice (some ⟨nb, 0, none⟩) N cap := by simpa using hcell
  subst hv
  obtain ⟨cur, hb, hc, hN⟩ : ∃ cur, base ≤ nb ∧ w.heap[nb]? = some (.cells cur 80 (0, 0)) ∧ N = G.length := by
    rcases q4.2 with ⟨q, _⟩ | ⟨nb', cap', cur, q, hb, hc, hn, _⟩
    · cases q
    · simp only [Value.slice.injEq, Option.some.injEq, Addr.mk.injEq] at q
      obtain ⟨⟨rfl, -, -⟩, rfl, -⟩ := q
      exact ⟨cur, hb, hc, rfl⟩
  subst hN
  have hne : gb ≠ nb := by
    rintro rfl
    rw [q1] at hc
    injection hc with hc
    injection hc with _ q
    revert q
    decide
  refine ⟨hne, rfl, fun j => q4.frozenAt j, fun j u => ?_, fun i hi => ?_⟩
  · rw [← hcell']
    exact World.cell?_of_block (Below.heap_setCell _ _ _ _ hne)
  · obtain ⟨d0, d1, d2, d3⟩ := ndCells_get G vs q3 i hi
    have c0 := q4.cellAt (i * 4) (by omega)
    have c2 := q4.cellAt (i * 4 + 2) (by omega)
    have c3 := q4.cellAt (i * 4 + 3) (by omega)
    rw [d0] at c0
    rw [d2] at c2
    rw [d3] at c3
    exact ⟨c0, c2, c3⟩
theorem left_le (G : List Nd) : left G ≤ G.length := cnt_le _ _

/-- What measure tells. -/
def MeasTold (ss : List Sym) (D : Nat → List Int) (rt d : Nat → Nat) (L R : List Nat) (gb base N : Nat) (w : World) (e : Ending) (w' : World) : Prop :=
  ((e = .returned (.bool true) ∧ ∃ G M, GraphAt w' base gb G ∧ Full ss G D rt d L R M ∧ G.length = N) ∨
   (e = .returned (.bool false) ∧ ∀ θ, Sub 24 ss θ → ¬ ∀ p ∈ L.zip R, ap θ (D p.1) = ap θ (D p.2))) ∧ Chg [80] base w w'

set_option maxHeartbeats 4000000 in
theorem measureG_any (ss : List Sym) (D : Nat → List Int) (rt d : Nat → Nat) (L R : List Nat) (gb base : Nat) (G : List Nd) (w : World) (hmay : mayB ss = true) (h : GraphAt w base gb G) (hc : Cls ss G D rt d [] L R)
    (hz : ∀ k, k < G.length → lenAt G k = 0) (hN : G.length ≤ 1000) :
    Calls Try.prog 39 #[.pointer (some ⟨gb, 0, none⟩)] w (MeasTold ss D rt d L R gb base G.length w) := by
  have HM := Lib.hid hmay
  have hmany := hc.st.many
  obtain ⟨nb, cap, hb, hlt, hcap, hcell, hall⟩ := h.cells (by omega)
  have hL0 : left G = G.length := cnt_all fun k hk => by rw [hz k hk]; simp
  have HST := Lib.hid (LenW.start h hc hz)
  obtain ⟨N, hNe⟩ : ∃ N, N = G.length := ⟨_, rfl⟩
  rw [← hNe] at hcell hN hcap hL0 HST hmany ⊢
  have HL0 := Lib.hid hL0
  clear hall hNe h hc hmay hz hL0
  go_enter Try.func39, Try.ntmps39
  go_wp2
  go_loopw [3] (fun s wr => ∃ (G' : List Nd) (l : Nat), s = .int .i64 (l : Int) ∧ l = left G' ∧ LenW ss D rt d L R gb base N w wr G') (fun s _ => (intOf s).toNat)
  case atStart => exact ⟨G, N, rfl, HL0.out.symm, HST.out⟩
  case round =>
    obtain ⟨G', l, rfl, hl, hw⟩ := hrel
    have HL := Lib.hid hl
    have HW := Lib.hid hw
    have hle : l ≤ N := by rw [hl, ← hw.many]; exact left_le _
    clear hl hw
    by_cases h0 : l = 0
    · subst h0
      go_wp2
      go_ret
      obtain ⟨M, hm⟩ := HW.out.meas
      exact ⟨.inl ⟨rfl, G', M, HW.out.at_, hm.full HW.out.cls HL.out.symm, HW.out.many⟩, HW.out.chg⟩
    · have h0' : 0 < l := by omega
      clear h0
      obtain ⟨nb1, cap1, _, _, hcap1, hcell1, _⟩ := HW.out.at_.cells (by rw [HW.out.many]; omega)
      rw [HW.out.many] at hcell1 hcap1
      obtain ⟨wA, hwA⟩ : ∃ wA, wA = wr := ⟨_, rfl⟩
      subst hwA
      go_wp2
      go_loopw [3, 19] (fun s i wr => ∃ (G2 : List Nd) (k t : Nat), i = .int .i64 (k : Int) ∧ s = .int .i64 (t : Int) ∧ t = left G2 ∧ t ≤ l ∧ k ≤ N ∧ LenW ss D rt d L R gb base N w wr G2 ∧ (t = l → ∀ j, j < k → lenAt G2 j = 0 → lenOf G2 rt j = 0)) (fun _ i _ => N - (intOf i).toNat)
      case atStart => exact ⟨G', 0, l, rfl, rfl, HL.out, by omega, by omega, HW.out, fun _ j hj => absurd hj (by omega)⟩
      case round =>
        obtain ⟨G2, k, t, rfl, rfl, ht, htl, hk, hw2, hst⟩ := hrel
        have HT := Lib.hid ht
        have HW2 := Lib.hid hw2
        have HS := Lib.hid hst
        clear ht hw2 hst
        by_cases hkN : k < N
        · have hkG : k < G2.length := by rw [HW2.out.many]; exact hkN
          obtain ⟨nb2, cap2, _, hnb2, hcap2, hcell2, hall2⟩ := HW2.out.at_.cells (by omega)
          obtain ⟨_, _, c3, _⟩ := hall2 k hkG
          rw [ndAt_len] at c3
          have hfz := (HW2.out.at_.set hkG hcell2 0).2.2
          have HCL := Lib.hid hcell2
          rw [HW2.out.many] at hcell2 hcap2
          have HKG := Lib.hid hkG
          obtain ⟨q, hq⟩ : ∃ q, q = lenAt G2 k := ⟨_, rfl⟩
          rw [← hq] at c3
          have HQ := Lib.hid hq
          clear hall2 hkG hq
          have i0 : (0 : Int) ≤ (k : Int) := by omega
          have i1 : (k : Int) < (N : Int) := by omega
          by_cases hq0 : q = 0
          · subst hq0
            obtain ⟨lo, hlo⟩ : ∃ lo, lo = lenOf G2 rt k := ⟨_, rfl⟩
            have HLO := Lib.hid hlo
            have HSTEP := Lib.hid (HW2.out.step HKG.out HQ.out.symm HCL.out).drew
            rw [← hlo] at HSTEP
            have hfk := hfz (k * 4 + 3)
            have hcellN := (HW2.out.at_.nodes hcell2).2.2.2.1 (k * 4 + 3) (.int .i64 (lo : Int))
            clear hlo hfz
            go_wp2_with fail
            refine wp_region_held_drew (S := (fun w' => w'.cell? ⟨gb, 0, none⟩ = some (.slice (some ⟨nb2, 0, none⟩) N cap2) ∧ w'.frozen? ⟨nb2, k * 4 + 3, none⟩ = false)) (by kernel_rfl) ⟨hcell2, hfk⟩ (fun hHeld => ?_)
            refine takeH (i := 0) (v := ?_) rfl rfl (by kernel_rfl) (by kernel_rfl) (by kernel_rfl) (fun _ _ _ h => h) (by rfl) ?_ hHeld ?_
            rotate_left
            · (intro w hSw; (try dsimp only at hSw); first | (go_simp; done) | (go_simp; with_reducible rfl))
            simp only [Act.put, List.setIfInBounds_toArray, List.set_cons_zero, List.set_cons_succ]
            refine takeH (i := 1) (v := ?_) rfl rfl (by kernel_rfl) (by kernel_rfl) (by kernel_rfl) (fun _ _ _ h => h) (by rfl) ?_ hHeld ?_
            rotate_left
            · (intro w hSw; (try dsimp only at hSw); first | (go_simp; done) | (go_simp; with_reducible rfl))
            simp only [Act.put, List.setIfInBounds_toArray, List.set_cons_zero, List.set_cons_succ]
            refine takeH (i := 2) (v := ?_) rfl rfl (by kernel_rfl) (by kernel_rfl) (by kernel_rfl) (fun _ _ _ h => h) (by rfl) ?_ hHeld ?_
            rotate_left
            · (intro w hSw; (try dsimp only at hSw); first | (go_simp; done) | (go_simp; with_reducible rfl))
            simp only [Act.put, List.setIfInBounds_toArray, List.set_cons_zero, List.set_cons_succ]
            refine takeH (i := 3) (v := ?_) rfl rfl (by kernel_rfl) (by kernel_rfl) (by kernel_rfl) (fun _ _ _ h => h) (by rfl) ?_ hHeld ?_
            rotate_left
            · (intro w hSw; (try dsimp only at hSw); first | (go_simp; done) | (go_simp; with_reducible rfl))
            simp only [Act.put, List.setIfInBounds_toArray, List.set_cons_zero, List.set_cons_succ]
            refine takeH (i := 4) (v := ?_) rfl rfl (by kernel_rfl) (by kernel_rfl) (by kernel_rfl) (fun _ _ _ h => h) (by rfl) ?_ hHeld ?_
            rotate_left
            · (intro w hSw; (try dsimp only at hSw); first | (go_simp; done) | (go_simp; with_reducible rfl))
            simp only [Act.put, List.setIfInBounds_toArray, List.set_cons_zero, List.set_cons_succ]
            refine takeH (i := 5) (v := ?_) rfl rfl (by kernel_rfl) (by kernel_rfl) (by kernel_rfl) (fun _ _ _ h => h) (by rfl) ?_ hHeld ?_
            rotate_left
            · (intro w hSw; (try dsimp only at hSw); first | (go_simp; done) | (go_simp; with_reducible rfl))
            simp only [Act.put, List.setIfInBounds_toArray, List.set_cons_zero, List.set_cons_succ]
            refine takeH (i := 6) (v := ?_) rfl rfl (by kernel_rfl) (by kernel_rfl) (by kernel_rfl) (fun _ _ _ h => h) (by rfl) ?_ hHeld ?_
            rotate_left
            · (intro w hSw; (try dsimp only at hSw); first | (go_simp; done) | (go_simp; with_reducible rfl))
            simp only [Act.put, List.setIfInBounds_toArray, List.set_cons_zero, List.set_cons_succ]
            refine wpAnyH_ready (rs := [7]) (by kernel_rfl) (by simp) ?_
            refine AllReadyH.cons rfl (fun K hK => ?_) AllReadyH.nil
            go_simp
            refine (lengthOf_any gb base k G2 rt d _ HW2.out.drew.at_ HW2.out.cls.fo HKG.out (by rw [HW2.out.many]; exact hN) (HW2.out.cls.st.arg k HKG.out) HW2.out.le (HW2.out.args HM.out HKG.out)).mono ?_
            rintro e w1 ⟨rfl, rfl⟩
            rw [← HLO.out]
            go_wp2_with fail
            refine hK.out _ _ ?_ (fun hHeld => ?_)
            · exact ⟨hcell2, hfk⟩
            clear hK K
            refine takeH (i := 8) (v := ?_) rfl rfl (by kernel_rfl) (by kernel_rfl) (by kernel_rfl) (fun _ _ _ h => h) (by rfl) ?_ hHeld ?_
            rotate_left
            · (intro w hSw; (try dsimp only at hSw); first | (go_simp; done) | (go_simp; with_reducible rfl))
            simp only [Act.put, List.setIfInBounds_toArray, List.set_cons_zero, List.set_cons_succ]
            refine takeH (i := 9) (v := ?_) rfl rfl (by kernel_rfl) (by kernel_rfl) (by kernel_rfl) (fun _ _ _ h => h) (by rfl) ?_ hHeld ?_
            rotate_left
            · (intro w hSw; (try dsimp only at hSw); first | (go_simp; done) | (go_simp; with_reducible rfl))
            simp only [Act.put, List.setIfInBounds_toArray, List.set_cons_zero, List.set_cons_succ]
            refine wpAnyH_ready (rs := [10]) (by kernel_rfl) (by simp) ?_
            refine AllReadyH.cons rfl (fun K hK => ?_) AllReadyH.nil
            go_simp
            obtain ⟨w3, hw3⟩ : ∃ w3, w3 = (wr.setCell ⟨nb2, k * 4 + 3, none⟩ (.int .i64 (lo : Int))).drew := ⟨_, rfl⟩
            rw [← hw3]
            rw [← hw3] at HSTEP
            have hcell3 : w3.cell? ⟨gb, 0, none⟩ = some (.slice (some ⟨nb2, 0, none⟩) N cap2) := by rw [hw3]; exact hcellN
            obtain ⟨_, _, hfz3, _, hall3⟩ := HSTEP.out.at_.nodes hcell3
            have c33 := (hall3 k (by rw [setLen_length]; exact HKG.out)).2.2
            rw [ndAt_len, setLen_at HKG.out, if_pos rfl] at c33
            have hfk3 := hfz3 (k * 4 + 3)
            clear hw3 hall3 hfz3 hcellN
            refine hK.out _ _ ?_ (fun hHeld => ?_)
            · exact ⟨hcell3, hfk3⟩
            clear hK K hcell2 c3 hfk
            refine wpAnyH_done (by kernel_rfl) ?_ _
            by_cases hlo0 : lo = 0
            · subst hlo0
              have HSAME := Lib.hid (left_same HKG.out HQ.out.symm)
              go_wp2
              go_roundw
              case rel =>
                have hst := HSTEP.out
                rw [HSAME.out] at hst
                refine ⟨G2, k + 1, t, by go_num, rfl, HT.out, htl, by omega, hst, fun e j hj hz => ?_⟩
                by_cases ej : j = k
                · subst ej; exact HLO.out.symm
                · exact HS.out e j (by omega) hz
              case measure => simp [intOf]; omega
            · have hlo1 : 0 < lo := by omega
              have HLEFT := Lib.hid (left_set (l := lo) HKG.out HQ.out.symm hlo1)
              have ht1 : 1 ≤ t := by rw [HT.out, HLEFT.out]; omega
              have HLT : Hid (left (setLen G2 k lo) = t - 1) := by show left (setLen G2 k lo) = t - 1; rw [HT.out, HLEFT.out]; omega
              clear hlo0
              go_wp2
              go_roundw
              case rel => exact ⟨setLen G2 k lo, k + 1, t - 1, by go_num, by go_num, HLT.out.symm, by omega, by omega, HSTEP.out, fun e => by omega⟩
              case measure => simp [intOf]; omega
          · have hq1 : 0 < q := by omega
            clear hq0
            go_wp2
            go_roundw
            case rel =>
              refine ⟨G2, k + 1, t, by go_num, rfl, HT.out, htl, by omega, HW2.out, fun e j hj hz => ?_⟩
              by_cases ej : j = k
              · subst ej; rw [← HQ.out] at hz; omega
              · exact HS.out e j (by omega) hz
            case measure => simp [intOf]; omega
        · obtain rfl : k = N := by omega
          by_cases htl2 : t = l
          · subst htl2
            have HNO := Lib.hid (HW2.out.cls.stuck (by rw [HW2.out.many]; exact fun n hn => HS.out rfl n hn) (by rw [← HT.out]; exact h0'))
            go_wp2
            go_ret
            exact ⟨.inr ⟨rfl, HNO.out⟩, HW2.out.chg⟩
          · have htl3 : ¬ (t : Int) = (l : Int) := by omega
            clear htl2
            go_wp2
            go_roundw
            case rel => exact ⟨G2, t, rfl, HT.out, HW2.out⟩
            case measure => simp [intOf]; omega

end Go.Proofs.Ytlmpapdpmmkjnaa

namespace Go.Proofs.Ytlmpapdpmmkjnaa
open Go.RowKit
set_option linter.unusedSimpArgs false
set_option linter.unusedVariables false
set_option maxRecDepth 100000

section
variable {ss : List Sym} {D : Nat → List Int} {rt d : Nat → Nat} {L R : List Nat} {G : List Nd} {M : Nat → List Int}
theorem Full.args_len (h : Full ss G D rt d L R M) (hmay : mayB ss = true) {n : Nat} (hn : n < G.length) : (ndAt G (rt n)).args.length ≤ 100 := by
  obtain ⟨r1, _, _⟩ := h.cls.fo.root hn
  rcases Nat.lt_or_ge (rt n) 24 with h1 | h1
  · rw [(h.cls.st.var _ h1).2.1]; simp
  · have := ar_le hmay (h.cls.st.sym _ h1 r1).2; omega
end
theorem flatMap_take_le (xs : List Nat) (F : Nat → List Int) (k : Nat) : ((xs.take k).flatMap F).length ≤ (xs.flatMap F).length := by
  have : xs.flatMap F = (xs.take k).flatMap F ++ (xs.drop k).flatMap F := by rw [← List.flatMap_append, List.take_append_drop]
  rw [this, List.length_append]; omega

set_option maxHeartbeats 4000000 in
theorem write_any (ss : List Sym) (D : Nat → List Int) (rt d : Nat → Nat) (L R : List Nat) (gb base : Nat) (G : List Nd) (M : Nat → List Int) (w0 : World) (hmay : mayB ss = true) (h : GraphAt w0 base gb G) (hfull : Full ss G D rt d L R M) (hN : G.length ≤ 1000) :
    ∀ (K n : Nat) (v : Value) (xs : List Int) (w : World), n < G.length → (M n).length ≤ K → Below w0.heap.size w0 w → OwnI w w0.heap.size v xs → xs.length + (M n).length ≤ 1000 →
    Calls Try.prog 58 #[.pointer (some ⟨gb, 0, none⟩), v, .int .i64 (n : Int)] w fun e w' => ∃ v', e = .returned v' ∧ OwnI w' w0.heap.size v' (xs ++ M n) ∧ Below w0.heap.size w w' := by
  have HG := Lib.hid h
  have HF := Lib.hid hfull
  have HM := Lib.hid hmay
  have HNN := Lib.hid hN
  clear h hfull hmay hN
  intro K
  induction K with
  | zero =>
    intro n v xs w hn hK
    have := trm_pos (HF.out.trm hn)
    omega
  | succ K ih =>
    intro n v xs w hn hK hbel hown hlen
    have HIH := Lib.hid ih
    have HBEL := Lib.hid hbel
    have HOWN := Lib.hid hown
    have HNG := Lib.hid hn
    have HKL := Lib.hid hK
    have HLEN := Lib.hid hlen
    have hsz := hbel.size
    obtain ⟨r1, r2, r3⟩ := HF.out.cls.fo.root hn
    have HAT := Lib.hid (HF.out.at hn)
    have hal := HF.out.args_len HM.out hn
    obtain ⟨q, hq⟩ : ∃ q, q = rt n := ⟨_, rfl⟩
    have HQ := Lib.hid hq
    rw [← hq] at r1 HAT hal
    have HR1 := Lib.hid r1
    obtain ⟨nb, cap, hb, hlt, hcap, hcell0, hall⟩ := HG.out.cells (by omega)
    obtain ⟨c00, _, _, A, c, hargs0, hcc, hints⟩ := hall q r1
    have hgb := HG.out.lt
    have hcell := (hbel.cell (p := ⟨gb, 0, none⟩) hgb).trans hcell0
    have c0 := (hbel.cell (p := ⟨nb, q * 4, none⟩) hlt).trans c00
    have HC0 := Lib.hid hcell0
    have HA0 := Lib.hid hargs0
    have HLT := Lib.hid hlt
    have HI := Lib.hid hints
    obtain ⟨m, hm⟩ : ∃ m, m = (ndAt G q).args.length := ⟨_, rfl⟩
    obtain ⟨cd, hcd⟩ : ∃ cd, cd = (ndAt G q).code := ⟨_, rfl⟩
    obtain ⟨N, hNe⟩ : ∃ N, N = G.length := ⟨_, rfl⟩
    have HN := Lib.hid hNe
    have HMM := Lib.hid hm
    have HCD := Lib.hid hcd
    rw [← hm] at HA0 HI hal
    rw [← hcd] at c0 HAT
    rw [← hNe] at r1 hn hcell hcap HC0
    have hxl : xs.length + 1 ≤ 17592186044416 := by omega
    have z0 : (0 : Int) ≤ (q : Int) := by omega
    have z1 : (q : Int) < (N : Int) := by omega
    have HGB := Lib.hid hgb
    clear ih hbel hown hK hlen r2 r3 hq hints hall hm hcd hNe hcell0 c00 hargs0 hlt hgb
    go_enter Try.func58, Try.ntmps58
    go_wp2_with fail
    refine (root_any gb base n G rt d _ (HG.out.on HBEL.out) HF.out.cls.fo HNG.out HNN.out).mono ?_
    rintro e w1 ⟨rfl, rfl⟩
    rw [← HQ.out]
    go_wp2_with (at_builtin
                 refine app_int1 rfl (.tmp 13) (.tmp 22) rfl w0.heap.size _ _ cd rfl HOWN.out rfl hxl hsz ?_
                 intro v2 w2 hown2 hb2
                 have HO2 := Lib.hid hown2
                 have HB2 := Lib.hid (HBEL.out.trans hb2)
                 have HB2' := Lib.hid hb2
                 have hcell2 := (HB2.out.cell (p := ⟨gb, 0, none⟩) HGB.out).trans HC0.out
                 have hargs2 := (HB2.out.cell (p := ⟨nb, q * 4 + 1, none⟩) HLT.out).trans HA0.out
                 clear hown2 hb2)
    go_loopw [1, 33] (fun o i wr => ∃ k : Nat, i = .int .i64 k ∧ k ≤ m ∧ OwnI wr w0.heap.size o (xs ++ [cd] ++ ((ndAt G q).args.take k).flatMap M) ∧ Below w0.heap.size w wr) (fun _ i _ => m - (intOf i).toNat)
    case atStart => exact ⟨0, rfl, by omega, HO2.out.cast (by simp), HB2'.out⟩
    case round =>
      obtain ⟨k, rfl, hk, hown, hbw⟩ := hrel
      have HO := Lib.hid hown
      have HBW := Lib.hid hbw
      clear hown hbw
      by_cases hlk : k < m
      · have hkm : k < (ndAt G q).args.length := by rw [← HMM.out]; exact hlk
        have hmem := natAt_mem hkm
        have hxN := HF.out.argN HNG.out (x := natAt (ndAt G q).args k) (by rw [← HQ.out]; exact hmem)
        have hsh := HF.out.shorter HNG.out (x := natAt (ndAt G q).args k) (by rw [← HQ.out]; exact hmem)
        have HTK := Lib.hid (nat_take hkm)
        have htl := flatMap_take_le (ndAt G q).args M (k + 1)
        obtain ⟨b1, o1, rfl, hb1, hc1⟩ := HI.out.at_ (by omega)
        have HBWR := Lib.hid (HBEL.out.trans HBW.out)
        have c1 : wr.cell? ⟨b1, o1 + k, none⟩ = some (.int .i64 (intAt (nats (ndAt G q).args) k)) := (HBWR.out.cell (p := ⟨b1, o1 + k, none⟩) hb1).trans (hc1 k hlk)
        rw [nats_at hkm] at c1
        have hl1 := HLEN.out
        have hl2 := HKL.out
        rw [HAT.out, List.length_cons] at hl1 hl2
        have HFM : Hid (((ndAt G q).args.take (k + 1)).flatMap M = ((ndAt G q).args.take k).flatMap M ++ M (natAt (ndAt G q).args k)) := by
          show _ = _
          rw [HTK.out, List.flatMap_append]; simp
        have hl3 := congrArg List.length HFM.out
        rw [List.length_append] at hl3
        obtain ⟨x, hx⟩ : ∃ x, x = natAt (ndAt G q).args k := ⟨_, rfl⟩
        rw [← hx] at c1 hxN hsh HFM hl3
        rw [HAT.out, List.length_cons] at hsh
        have HXN := Lib.hid hxN
        have HK2 : Hid ((M x).length ≤ K) := by show (M x).length ≤ K; omega
        have HL2 : Hid ((xs ++ [cd] ++ ((ndAt G q).args.take k).flatMap M).length + (M x).length ≤ 1000) := by show _ ≤ _; simp only [List.length_append, List.length_cons, List.length_nil]; omega
        clear hc1 hkm hmem hxN hsh hl1 hl2 hl3 htl hx
        have i0 : (0 : Int) ≤ (k : Int) := by omega
        have i1 : (k : Int) < (m : Int) := by omega
        go_wp2_with fail
        refine (HIH.out x _ _ _ HXN.out HK2.out HBWR.out HO.out HL2.out).mono ?_
        rintro e w3 ⟨v3, rfl, hv3, hb3⟩
        have HO3 := Lib.hid hv3
        have HB3 := Lib.hid (HBW.out.trans hb3)
        clear hv3 hb3
        go_wp2
        go_roundw
        case rel => exact ⟨k + 1, by go_num, by omega, HO3.out.cast (by rw [HFM.out]; simp), HB3.out⟩
        case measure => simp [intOf]; omega
      · obtain rfl : k = m := by omega
        have HTT : Hid ((ndAt G q).args.take k = (ndAt G q).args) := by show (ndAt G q).args.take k = _; exact List.take_of_length_le (by rw [← HMM.out]; omega)
        go_wp2
        go_ret
        exact ⟨_, rfl, HO.out.cast (by rw [HTT.out, HAT.out]; simp), HBW.out⟩

theorem ret_vbi {v : Value} {a b : Int} {x y : Bool} (h : a = b) (k : x = y) : Ending.returned (.tuple #[v, .bool x, .int .i64 a]) = .returned (.tuple #[v, .bool y, .int .i64 b]) := by rw [h, k]
/-- What binds tells of what stands for variables. -/
def BindsTold (M : Nat → List Int) (w : World) (e : Ending) (w' : World) : Prop :=
  ∃ v E is bs, e = .returned (.tuple #[v, .bool is, .int .i64 E]) ∧ OwnB w' w.heap.size v bs ∧ Below w.heap.size w w' ∧
    (((∀ v, v < 24 → (M v).length ≤ 48) ∧ E = 0 ∧ is = true ∧ bs = bdsOf M 24) ∨ ((∃ v, v < 24 ∧ 48 < (M v).length) ∧ E = 401 ∧ is = false ∧ bs = []))

set_option maxHeartbeats 4000000 in
theorem bindsG_any (ss : List Sym) (D : Nat → List Int) (rt d : Nat → Nat) (L R : List Nat) (gb base : Nat) (G : List Nd) (M : Nat → List Int) (w : World) (hmay : mayB ss = true) (h : GraphAt w base gb G) (hfull : Full ss G D rt d L R M) (hN : G.length ≤ 1000) :
    Calls Try.prog 40 #[.pointer (some ⟨gb, 0, none⟩)] w (BindsTold M w) := by
  have HG := Lib.hid h
  have HF := Lib.hid hfull
  have HM := Lib.hid hmay
  have HNN := Lib.hid hN
  have hmany := hfull.cls.st.many
  obtain ⟨N, hNe⟩ : ∃ N, N = G.length := ⟨_, rfl⟩
  rw [← hNe] at hN hmany
  have HN := Lib.hid hNe
  clear h hfull hmay hNe
  go_enter Try.func40, Try.ntmps40
  go_wp2
  go_loopw [5, 8] (fun q i wr => ∃ k : Nat, i = .int .i64 k ∧ k ≤ 24 ∧ OwnB wr w.heap.size q (bdsOf M k) ∧ (∀ v, v < k → (M v).length ≤ 48) ∧ Below w.heap.size w wr) (fun _ i _ => 24 - (intOf i).toNat)
  case atStart => exact ⟨0, rfl, by omega, OwnB.nil_, fun v hv => absurd hv (by omega), Below.refl _ _⟩
  case round =>
    obtain ⟨k, rfl, hk, hown, hall, hbw⟩ := hrel
    have HOWN := Lib.hid hown
    have HALL := Lib.hid hall
    have HBW := Lib.hid hbw
    have hsz := hbw.size
    clear hown hall hbw
    by_cases hlt : k < 24
    · have hkG : k < G.length := by rw [← HN.out]; omega
      have HKG := Lib.hid hkG
      obtain ⟨r1, r2, r3⟩ := HF.out.cls.fo.root hkG
      have HV := Lib.hid (HF.out.isV hlt)
      have HLOW := Lib.hid (HF.out.low k hkG)
      have hlen := HF.out.len _ r1
      obtain ⟨q, hq⟩ : ∃ q, q = rt k := ⟨_, rfl⟩
      have HQ := Lib.hid hq
      rw [← hq] at r1 HV HLOW hlen
      have HR1 := Lib.hid r1
      obtain ⟨nb, cap, _, hnb, hcap, hcell, hcells⟩ := (HG.out.on HBW.out).cells (by omega)
      obtain ⟨_, _, c3, _⟩ := hcells q r1
      rw [ndAt_len, hlen, ← HLOW.out] at c3
      rw [← HN.out] at hcell hcap r1
      have z0 : (0 : Int) ≤ (q : Int) := by omega
      have z1 : (q : Int) < (N : Int) := by omega
      have HSUCC := Lib.hid (bdsOf_succ M k)
      obtain ⟨l, hl⟩ : ∃ l, l = (M k).length := ⟨_, rfl⟩
      rw [← hl] at c3
      have HL := Lib.hid hl
      clear hcells r2 r3 hq hkG hlen hl
      by_cases e : q = k
      · have HE := Lib.hid e
        have e' : (q : Int) = (k : Int) := by omega
        have HVT : Hid (isV (M k) k = true) := by show isV (M k) k = true; rw [HV.out]; exact decide_eq_true HE.out
        have HL1 : Hid ((M k).length ≤ 48) := by show (M k).length ≤ 48; rw [isV_iff.1 HVT.out]; simp
        clear e
        go_wp2_with fail
        refine (root_any gb base k G rt d _ (HG.out.on HBW.out) HF.out.cls.fo HKG.out HNN.out).mono ?_
        rintro e w1 ⟨rfl, rfl⟩
        rw [← HQ.out]
        go_wp2
        go_roundw
        case rel => exact ⟨k + 1, by go_num, by omega, HOWN.out.cast (by rw [HSUCC.out, HVT.out]; simp), fun v hv => if e : v = k then by rw [e]; exact HL1.out else HALL.out v (by omega), HBW.out⟩
        case measure => simp [intOf]; omega
      · have HE := Lib.hid e
        have e' : ¬ (q : Int) = (k : Int) := by omega
        have HVT : Hid (isV (M k) k = false) := by show isV (M k) k = false; rw [HV.out]; exact decide_eq_false HE.out
        clear e
        by_cases hlong : 48 < l
        · have hmin : min l 49 = 49 := by omega
          rw [hmin] at c3
          have HLONG := Lib.hid hlong
          clear hmin hlong
          go_wp2_with fail
          refine (root_any gb base k G rt d _ (HG.out.on HBW.out) HF.out.cls.fo HKG.out HNN.out).mono ?_
          rintro e w1 ⟨rfl, rfl⟩
          rw [← HQ.out]
          go_wp2
          go_ret3
          exact ⟨_, 401, false, [], rfl, OwnB.nil_, HBW.out, .inr ⟨⟨k, hlt, by rw [← HL.out]; exact HLONG.out⟩, rfl, rfl, rfl⟩⟩
        · have hmin : min l 49 = l := by omega
          rw [hmin] at c3
          have hl48 : l ≤ 48 := by omega
          have HL1 : Hid ((M k).length ≤ 48) := by show (M k).length ≤ 48; rw [← HL.out]; exact hl48
          have HQL : Hid ((M q).length ≤ 48) := by show (M q).length ≤ 48; rw [← HLOW.out]; exact HL1.out
          clear hmin hlong
          go_wp2_with fail
          refine (root_any gb base k G rt d _ (HG.out.on HBW.out) HF.out.cls.fo HKG.out HNN.out).mono ?_
          rintro e w1 ⟨rfl, rfl⟩
          rw [← HQ.out]
          go_wp2_with fail
          refine (write_any ss D rt d L R gb base G M wr HM.out (HG.out.on HBW.out) HF.out HNN.out 48 q _ [] _ HR1.out HQL.out (Below.refl _ _) OwnI.nil_ (by have := HQL.out; simp; omega)).mono ?_
          rintro e w3 ⟨v3, rfl, hv3, hb3⟩
          have HO3 := Lib.hid (HOWN.out.on hb3)
          have HV3 := Lib.hid ((hv3.lower (base' := w.heap.size) hsz).cast (ys := M k) (by rw [HLOW.out]; rfl))
          have HB3 := Lib.hid (HBW.out.trans (hb3.mono hsz))
          have hsz3 := HB3.out.size
          obtain ⟨A3, cap3, rfl, _, _⟩ := hv3.intsAt
          clear hv3 hb3
          go_wp2_with (at_builtin
                       refine app_bind1 rfl (.tmp 26) (.tmp 32) rfl w.heap.size _ _ (k : Int) (M k) _ rfl HO3.out HV3.out rfl (by have := bdsOf_len M k; omega) hsz3 ?_
                       intro v5 w5 hown5 hb5
                       have HO5 := Lib.hid hown5
                       have HB5 := Lib.hid (HB3.out.trans hb5)
                       clear hown5 hb5)
          go_roundw
          case rel => exact ⟨k + 1, by go_num, by omega, HO5.out.cast (by rw [HSUCC.out, HVT.out]; simp), fun v hv => if e : v = k then by rw [e]; exact HL1.out else HALL.out v (by omega), HB5.out⟩
          case measure => simp [intOf]; omega
    · obtain rfl : k = 24 := by omega
      go_wp2
      go_ret3
      exact ⟨_, 0, true, _, rfl, HOWN.out, HBW.out, .inl ⟨HALL.out, rfl, rfl, rfl⟩⟩

end Go.Proofs.Ytlmpapdpmmkjnaa
