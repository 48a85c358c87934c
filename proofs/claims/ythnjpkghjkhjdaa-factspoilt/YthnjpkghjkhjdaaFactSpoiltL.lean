/-
  The law FactSpoilt: the walk.
-/
import Derived.Test.YthnjpkghjkhjdaaFactFindsL
namespace Go.Proofs.Ythnjpkghjkhjdaa
open Go.RowKit Go.Deep
set_option linter.unusedSimpArgs false
set_option linter.unusedVariables false
set_option maxRecDepth 100000

set_option maxHeartbeats 8000000 in
theorem factSpoiltL_any (A : Option Addr) (n cp : Nat) (k b : Int) (ss : List Sym) (v : Tv) (t : Tb) (w : World) (h : SymsAt w w.heap.size A n ss) (hn : n ≤ maxLen) (hnc : n ≤ cp) (hc : TabAt w w.heap.size v t) :
    Calls Try.prog 8 #[.slice A n cp, v.val, .int .i64 k, .int .i64 b] w fun e w' => e = .returned (.bool true) ∧ Below w.heap.size w w' := by
  have hb0 := below_new w v.obj
  have hx := TBox.new hc
  have hs := h.on hb0
  rw [Tv.val_eq]
  unfold Tv.obj at hx hb0 hs
  obtain ⟨v1, s1, d1, v2, s2, d2⟩ := v
  dsimp only at hx hb0 hs ⊢
  have HX := Lib.hid hx
  have HB0 := Lib.hid hb0
  have HS := Lib.hid hs
  clear hc hb0 hx hs h
  go_enter Try.func8, Try.ntmps8
  go_wp2_with fail
  obtain ⟨w0, hw0⟩ : ∃ w0, w0 = w.alloc (.cells #[.slice v1 s1 d1, .slice v2 s2 d2] 26) := ⟨_, rfl⟩
  rw [← hw0] at HX HB0 HS ⊢
  clear hw0
  refine (awakeF_any _).mono ?_
  rintro e w1 ⟨rfl, hb1⟩
  have HB1 := Lib.hid (HB0.out.trans (hb1.mono HB0.out.size))
  replace HX := Lib.hid (HX.out.on hb1)
  replace HS := Lib.hid (HS.out.on hb1)
  clear hb1
  have p0 := HX.out.c0
  have p1 := HX.out.c1
  dsimp only at p0 p1
  go_wp2_with fail
  refine (mayF_any A n cp ss ⟨v1, s1, d1, v2, s2, d2⟩ t _ HS.out hn hnc HX.out.tb).mono ?_
  rintro e w2 ⟨rfl, hb2⟩
  have HB2 := Lib.hid (HB1.out.trans (hb2.mono HB1.out.size))
  replace HX := Lib.hid (HX.out.on hb2)
  replace HS := Lib.hid (HS.out.on hb2)
  clear hb2 p0 p1
  have p0 := HX.out.c0
  have p1 := HX.out.c1
  dsimp only at p0 p1
  cases htb : tabB ss t
  case false =>
    clear htb
    go_wp2
    go_ret
    exact ⟨rfl, HB2.out⟩
  have HTB := Lib.hid (tabB_true htb)
  clear htb
  have hs24 : s2 ≤ 24 := by have := HTB.out.2.few; rw [HX.out.tb.fc.len] at this; exact this
  have h32 : s1 = 32 := by have := HTB.out.2.len; rw [HX.out.tb.sl.len] at this; exact this
  subst h32
  by_cases hs0 : s2 = 0
  · subst hs0
    go_wp2
    go_ret
    exact ⟨rfl, HB2.out⟩
  obtain ⟨q, hq⟩ : ∃ q, s2 = q + 1 := ⟨s2 - 1, by omega⟩
  subst hq
  have hlen : t.facts.length = q + 1 := HX.out.tb.fc.len
  have HLEN := Lib.hid hlen
  have HFT := Lib.hid HTB.out.2.small.fit
  obtain ⟨z, hz, hze⟩ := u_mod11 k 32 (by omega)
  obtain ⟨u, hu, hue⟩ := u_mod11 b (q + 1 + 3) (by omega)
  have hze' : (IntKind.u64.wrap k).tmod 32 = (z : Int) := by rw [← hze]; rfl
  have hue' : (IntKind.u64.wrap b).tmod ((q : Int) + 4) = (u : Int) := by rw [← hue]; rfl
  have hue'' : (IntKind.u64.wrap b).tmod ((q : Int) + 1 + 3) = (u : Int) := by rw [← hue]; rfl
  have hz0 : (0 : Int) ≤ (z : Int) := by omega
  have hz1 : (z : Int) < 32 := by omega
  have hq23 : q ≤ 23 := by omega
  have hq23' : (q : Int) ≤ 23 := by omega
  have hqn : ¬ (q : Int) + 1 = 0 := by omega
  have hu0 : (0 : Int) ≤ (u : Int) := by omega
  have hu1 : (u : Int) ≤ 26 := by omega
  clear hs24 hs0 hlen hze hue
  go_wp2_with fail
  refine (copyTable_any ⟨v1, 32, d1, v2, q + 1, d2⟩ t _ HX.out.tb).mono ?_
  rintro e w3 ⟨v3, rfl, hv3, hb3⟩
  obtain ⟨D, d9, F, f9, e3⟩ := hv3.parts
  rw [HTB.out.2.len, HLEN.out] at e3
  subst e3
  have HV3 := Lib.hid hv3
  have HB3 := Lib.hid (HB2.out.trans (hb3.mono HB2.out.size))
  have HK3 := Lib.hid hb3
  obtain ⟨g, hg⟩ : ∃ g, g = w3.heap.size := ⟨_, rfl⟩
  have HG := Lib.hid hg
  clear hv3 hb3 p0 p1 hg
  go_upto_region 8 with (refine store_box rfl 26 (.tmp 9) (.tmp 27) rfl rfl w3.heap.size _ _ rfl rfl (heap_alloc_new w3 (.cells #[.slice none 0 0, .slice none 0 0] 26)) rfl (by kernel_rfl) two_one ?_
                         intro w4 hg4 hc4 hs4
                         have HG4 := Lib.hid hg4
                         have HC4 := Lib.hid hc4
                         have u0 : w4.cell? ⟨w3.heap.size, 0, none⟩ = some (.slice D 32 d9) := by rw [cell_of_row _ _ 0 _ _ _ hg4]; rfl
                         have u1 : w4.cell? ⟨w3.heap.size, 1, none⟩ = some (.slice F (q + 1) f9) := by rw [cell_of_row _ _ 1 _ _ _ hg4]; rfl
                         clear hg4 hc4 hs4)
  obtain ⟨M, hF⟩ := TabV.of_store HV3.out HK3.out HG.out (by rw [HG.out]; exact HG4.out) (by rw [HG.out]; exact HC4.out)
  rw [← HG.out] at u0 u1 ⊢
  have hle := HB2.out.size
  have HB4 := Lib.hid (HB2.out.trans (hF.bel.mono hle))
  clear HV3 HK3 HG HG4 HC4 HB3 hle
  obtain ⟨y, hy⟩ : ∃ y : Int, y = (u : Int) - 2 := ⟨_, rfl⟩
  have hy1 : -2 ≤ y := by omega
  have hy2 : y ≤ 24 := by omega
  rw [← hy]
  clear hy hue' hue'' hze' hu hu0 hu1
  obtain ⟨bS, hD, hcx, ff, hF9, -⟩ := hF.slot (i := z) (by rw [HTB.out.2.len]; exact hz) y
  dsimp only at hD
  subst hD
  obtain ⟨x, hx⟩ : ∃ x, x = slAt t z := ⟨_, rfl⟩
  replace hcx : w4.cell? ⟨bS, z, none⟩ = some (.int .i64 x) := by rw [hx]; exact hcx
  have HXX := Lib.hid hx
  have HF9 := Lib.hid hF9
  clear hx hF9 hF
  by_cases e1 : y = x
  · subst e1
    go_wp2
    go_ret
    exact ⟨rfl, HB4.out⟩
  have e1' : (x == y) = false := by rw [beq_eq_false_iff_ne]; exact fun q => e1 q.symm
  by_cases e23 : y < 0 ∧ x < 0
  · obtain ⟨e2, e3⟩ := e23
    clear e1
    go_wp2
    go_ret
    exact ⟨rfl, HB4.out⟩
  have HNO : Hid (¬ TabOk (factB ss) ⟨t.slots.set z y, t.facts⟩) := HTB.out.2.spoilt hz (by rw [← HXX.out]; exact e1) (by rw [← HXX.out]; exact e23)
  have HNB : Hid (tabB ss ⟨t.slots.set z y, t.facts⟩ = false) := tabB_no fun _ q => HNO.out q
  have HFT2 : Hid (TFit ⟨t.slots.set z y, t.facts⟩) := ⟨by show (t.slots.set z y).length * 8 ≤ _; rw [List.length_set]; exact HFT.out.s, HFT.out.f, HFT.out.r⟩
  obtain ⟨w5, hw5⟩ : ∃ w5, w5 = w4.setCell ⟨bS, z, none⟩ (.int .i64 y) := ⟨_, rfl⟩
  have HW5 := Lib.hid hw5
  rw [← hw5] at HF9
  have HB5 := Lib.hid (HB2.out.trans (HF9.out.bel.mono HB2.out.size))
  have HX5 := Lib.hid (HX.out.on HF9.out.bel)
  have HS5 := Lib.hid (HS.out.on HF9.out.bel)
  have HU5 : Hid (TBox w5 g ⟨some ⟨bS, 0, none⟩, 32, d9, F, q + 1, f9⟩ ⟨t.slots.set z y, t.facts⟩) := by
    obtain ⟨x', ex, hx'⟩ := HF9.out.own.tab HFT2.out
    obtain ⟨xa, xb, xc, xd, xe, xf⟩ := x'
    simp only [Value.agg.injEq, Array.mk.injEq, List.cons.injEq, Value.slice.injEq, and_true] at ex
    obtain ⟨⟨rfl, rfl, rfl⟩, rfl, rfl, rfl⟩ := ex
    exact ⟨HF9.out.lt, HF9.out.c0, HF9.out.c1, hx'⟩
  clear hw5
  obtain ⟨b2, o2, A3, c3, hA2, hb2B, d0, hri, _⟩ := HX5.out.tb.fc.one (i := 0) (show 0 < q + 1 by omega)
  dsimp only at hA2
  subst hA2
  rw [Nat.add_zero] at d0
  obtain ⟨r, hrr⟩ : ∃ r, r = rowOf t.facts 0 := ⟨_, rfl⟩
  rw [← hrr] at d0 hri
  have HRI := Lib.hid hri
  have HN := Lib.hid (has_no (okT_no1 (a := r) HNB.out))
  have HELD : Hid (∀ yy, Below w5.heap.size w5 yy → yy.cell? ⟨w.heap.size, 1, none⟩ = some (.slice (some ⟨b2, o2, none⟩) (q + 1) d2) ∧ yy.cell? ⟨g, 0, none⟩ = some (.slice (some ⟨bS, 0, none⟩) 32 d9) ∧ yy.cell? ⟨g, 1, none⟩ = some (.slice F (q + 1) f9) ∧ yy.cell? ⟨b2, o2, none⟩ = some (.slice A3 r.length c3)) := fun yy e => ⟨(HX5.out.on e).c1, (HU5.out.on e).c0, (HU5.out.on e).c1, by rw [e.cell (p := ⟨b2, o2, none⟩) hb2B]; exact d0⟩
  have g0 : ¬ (x < 0 ∧ y < 0) := fun z => e23 ⟨z.2, z.1⟩
  have HGO : Hid (∀ P : Prop, (x < 0 → ¬ y < 0 → P) → (¬ x < 0 → P) → P) := fun P h1 h2 => if c : x < 0 then h1 c (fun d => g0 ⟨c, d⟩) else h2 c
  clear hri hrr e1 e23 g0
  refine HGO.out _ (fun e2 e3 => ?_) (fun e2 => ?_)
  · clear HGO
    go_wp2_with (refine put_cell rfl 3 (.tmp 69) (.tmp 68) rfl rfl bS z (.int .i64 y) _ rfl rfl rfl rfl hcx ff (by kernel_rfl) ?_
                 rw [← HW5.out]
                 clear hcx ff u0 u1)
    have hd : Below w5.heap.size w5 w5.drew := (Below.refl w5.heap.size w5).drew
    have hS := HELD.out _ hd
    refine wp_region_held_drew (S := (fun yy => yy.cell? ⟨w.heap.size, 1, none⟩ = some (.slice (some ⟨b2, o2, none⟩) (q + 1) d2) ∧ yy.cell? ⟨g, 0, none⟩ = some (.slice (some ⟨bS, 0, none⟩) 32 d9) ∧ yy.cell? ⟨g, 1, none⟩ = some (.slice F (q + 1) f9) ∧ yy.cell? ⟨b2, o2, none⟩ = some (.slice A3 r.length c3))) (by kernel_rfl) hS (fun hHeld => ?_)
    clear hS
    obtain ⟨y1, hy1⟩ : ∃ y1, y1 = w5.drew := ⟨_, rfl⟩
    rw [← hy1] at hd hHeld ⊢
    have HD := Lib.hid hd
    clear hy1 hd
    refine takeH (i := 0) (v := ?_) rfl rfl (by kernel_rfl) (by kernel_rfl) (by kernel_rfl) (fun _ _ _ h => h) (by rfl) ?_ hHeld ?_
    rotate_left
    · (intro w hSw; (try dsimp only at hSw); first | (go_simp; done) | (go_simp; with_reducible rfl))
    simp only [Act.put, List.setIfInBounds_toArray, List.set_cons_zero, List.set_cons_succ]
    refine takeH (i := 1) (v := ?_) rfl rfl (by kernel_rfl) (by kernel_rfl) (by kernel_rfl) (fun _ _ _ h => h) (by rfl) ?_ hHeld ?_
    rotate_left
    · (intro w hSw; (try dsimp only at hSw); first | (go_simp; done) | (go_simp; with_reducible rfl))
    simp only [Act.put, List.setIfInBounds_toArray, List.set_cons_zero, List.set_cons_succ]
    refine takeH (i := 2) (v := ?_) rfl rfl (by kernel_rfl) (by kernel_rfl) (by kernel_rfl) (fun _ _ _ h => h) (by rfl) ?_ hHeld ?_
    rotate_left
    · (intro w hSw; (try dsimp only at hSw); first | (go_simp; done) | (go_simp; with_reducible rfl))
    simp only [Act.put, List.setIfInBounds_toArray, List.set_cons_zero, List.set_cons_succ]
    refine takeH (i := 3) (v := ?_) rfl rfl (by kernel_rfl) (by kernel_rfl) (by kernel_rfl) (fun _ _ _ h => h) (by rfl) ?_ hHeld ?_
    rotate_left
    · (intro w hSw; (try dsimp only at hSw); first | (go_simp; done) | (go_simp; with_reducible rfl))
    simp only [Act.put, List.setIfInBounds_toArray, List.set_cons_zero, List.set_cons_succ]
    refine takeH (i := 4) (v := ?_) rfl rfl (by kernel_rfl) (by kernel_rfl) (by kernel_rfl) (fun _ _ _ h => h) (by rfl) ?_ hHeld ?_
    rotate_left
    · (intro w hSw; (try dsimp only at hSw); first | (go_simp; done) | (go_simp; with_reducible rfl))
    simp only [Act.put, List.setIfInBounds_toArray, List.set_cons_zero, List.set_cons_succ]
    refine takeH (i := 5) (v := ?_) rfl rfl (by kernel_rfl) (by kernel_rfl) (by kernel_rfl) (fun _ _ _ h => h) (by rfl) ?_ hHeld ?_
    rotate_left
    · (intro w hSw; (try dsimp only at hSw); first | (go_simp; done) | (go_simp; with_reducible rfl))
    simp only [Act.put, List.setIfInBounds_toArray, List.set_cons_zero, List.set_cons_succ]
    refine wpAnyH_ready (rs := [6]) (by kernel_rfl) (by simp) ?_
    refine AllReadyH.cons rfl (fun K hK => ?_) AllReadyH.nil
    go_simp
    refine (has_fact A A3 n cp r.length c3 ss ⟨some ⟨bS, 0, none⟩, 32, d9, F, q + 1, f9⟩ ⟨t.slots.set z y, t.facts⟩ r _ (HS5.out.on HD.out) hn hnc (HU5.out.on HD.out).tb (HRI.out.on HD.out).at_ HRI.out.big HRI.out.cap).mono ?_
    rintro e w6 ⟨rfl, hb⟩
    rw [HN.out.1, HN.out.2]
    have HD2 := Lib.hid (HD.out.trans (hb.mono HD.out.size))
    clear hb
    go_wp2_with fail
    refine hK.out _ _ ?_ (fun hHeld => ?_)
    · exact HELD.out _ HD2.out
    clear hK K
    refine takeH (i := 7) (v := ?_) rfl rfl (by kernel_rfl) (by kernel_rfl) (by kernel_rfl) (fun _ _ _ h => h) (by rfl) ?_ hHeld ?_
    rotate_left
    · (intro w hSw; (try dsimp only at hSw); first | (go_simp; done) | (go_simp; with_reducible rfl))
    simp only [Act.put, List.setIfInBounds_toArray, List.set_cons_zero, List.set_cons_succ]
    refine takeH (i := 8) (v := ?_) rfl rfl (by kernel_rfl) (by kernel_rfl) (by kernel_rfl) (fun _ _ _ h => h) (by rfl) ?_ hHeld ?_
    rotate_left
    · (intro w hSw; (try dsimp only at hSw); first | (go_simp; done) | (go_simp; with_reducible rfl))
    simp only [Act.put, List.setIfInBounds_toArray, List.set_cons_zero, List.set_cons_succ]
    refine takeH (i := 9) (v := ?_) rfl rfl (by kernel_rfl) (by kernel_rfl) (by kernel_rfl) (fun _ _ _ h => h) (by rfl) ?_ hHeld ?_
    rotate_left
    · (intro w hSw; (try dsimp only at hSw); first | (go_simp; done) | (go_simp; with_reducible rfl))
    simp only [Act.put, List.setIfInBounds_toArray, List.set_cons_zero, List.set_cons_succ]
    refine takeH (i := 10) (v := ?_) rfl rfl (by kernel_rfl) (by kernel_rfl) (by kernel_rfl) (fun _ _ _ h => h) (by rfl) ?_ hHeld ?_
    rotate_left
    · (intro w hSw; (try dsimp only at hSw); first | (go_simp; done) | (go_simp; with_reducible rfl))
    simp only [Act.put, List.setIfInBounds_toArray, List.set_cons_zero, List.set_cons_succ]
    refine takeH (i := 11) (v := ?_) rfl rfl (by kernel_rfl) (by kernel_rfl) (by kernel_rfl) (fun _ _ _ h => h) (by rfl) ?_ hHeld ?_
    rotate_left
    · (intro w hSw; (try dsimp only at hSw); first | (go_simp; done) | (go_simp; with_reducible rfl))
    simp only [Act.put, List.setIfInBounds_toArray, List.set_cons_zero, List.set_cons_succ]
    refine wpAnyH_done (by kernel_rfl) ?_ _
    clear hHeld
    have u0 := (HU5.out.on HD2.out).c0
    have u1 := (HU5.out.on HD2.out).c1
    dsimp only at u0 u1
    go_wp2_with fail
    refine (mayF_any A n cp ss ⟨some ⟨bS, 0, none⟩, 32, d9, F, q + 1, f9⟩ ⟨t.slots.set z y, t.facts⟩ _ (HS5.out.on HD2.out) hn hnc (HU5.out.on HD2.out).tb).mono ?_
    rintro e w7 ⟨rfl, hb⟩
    rw [HNB.out]
    have HD3 := Lib.hid (HD2.out.trans (hb.mono HD2.out.size))
    clear hb u0 u1
    go_wp2_with (go_at_call 16; refine (num_any _ _).mono ?_; rintro e w' ⟨rfl, rfl⟩)
    go_ret
    exact ⟨rfl, HB5.out.trans (HD3.out.mono HB5.out.size)⟩
  · clear HGO
    go_wp2_with (refine put_cell rfl 3 (.tmp 69) (.tmp 68) rfl rfl bS z (.int .i64 y) _ rfl rfl rfl rfl hcx ff (by kernel_rfl) ?_
                 rw [← HW5.out]
                 clear hcx ff u0 u1)
    have hd : Below w5.heap.size w5 w5.drew := (Below.refl w5.heap.size w5).drew
    have hS := HELD.out _ hd
    refine wp_region_held_drew (S := (fun yy => yy.cell? ⟨w.heap.size, 1, none⟩ = some (.slice (some ⟨b2, o2, none⟩) (q + 1) d2) ∧ yy.cell? ⟨g, 0, none⟩ = some (.slice (some ⟨bS, 0, none⟩) 32 d9) ∧ yy.cell? ⟨g, 1, none⟩ = some (.slice F (q + 1) f9) ∧ yy.cell? ⟨b2, o2, none⟩ = some (.slice A3 r.length c3))) (by kernel_rfl) hS (fun hHeld => ?_)
    clear hS
    obtain ⟨y1, hy1⟩ : ∃ y1, y1 = w5.drew := ⟨_, rfl⟩
    rw [← hy1] at hd hHeld ⊢
    have HD := Lib.hid hd
    clear hy1 hd
    refine takeH (i := 0) (v := ?_) rfl rfl (by kernel_rfl) (by kernel_rfl) (by kernel_rfl) (fun _ _ _ h => h) (by rfl) ?_ hHeld ?_
    rotate_left
    · (intro w hSw; (try dsimp only at hSw); first | (go_simp; done) | (go_simp; with_reducible rfl))
    simp only [Act.put, List.setIfInBounds_toArray, List.set_cons_zero, List.set_cons_succ]
    refine takeH (i := 1) (v := ?_) rfl rfl (by kernel_rfl) (by kernel_rfl) (by kernel_rfl) (fun _ _ _ h => h) (by rfl) ?_ hHeld ?_
    rotate_left
    · (intro w hSw; (try dsimp only at hSw); first | (go_simp; done) | (go_simp; with_reducible rfl))
    simp only [Act.put, List.setIfInBounds_toArray, List.set_cons_zero, List.set_cons_succ]
    refine takeH (i := 2) (v := ?_) rfl rfl (by kernel_rfl) (by kernel_rfl) (by kernel_rfl) (fun _ _ _ h => h) (by rfl) ?_ hHeld ?_
    rotate_left
    · (intro w hSw; (try dsimp only at hSw); first | (go_simp; done) | (go_simp; with_reducible rfl))
    simp only [Act.put, List.setIfInBounds_toArray, List.set_cons_zero, List.set_cons_succ]
    refine takeH (i := 3) (v := ?_) rfl rfl (by kernel_rfl) (by kernel_rfl) (by kernel_rfl) (fun _ _ _ h => h) (by rfl) ?_ hHeld ?_
    rotate_left
    · (intro w hSw; (try dsimp only at hSw); first | (go_simp; done) | (go_simp; with_reducible rfl))
    simp only [Act.put, List.setIfInBounds_toArray, List.set_cons_zero, List.set_cons_succ]
    refine takeH (i := 4) (v := ?_) rfl rfl (by kernel_rfl) (by kernel_rfl) (by kernel_rfl) (fun _ _ _ h => h) (by rfl) ?_ hHeld ?_
    rotate_left
    · (intro w hSw; (try dsimp only at hSw); first | (go_simp; done) | (go_simp; with_reducible rfl))
    simp only [Act.put, List.setIfInBounds_toArray, List.set_cons_zero, List.set_cons_succ]
    refine takeH (i := 5) (v := ?_) rfl rfl (by kernel_rfl) (by kernel_rfl) (by kernel_rfl) (fun _ _ _ h => h) (by rfl) ?_ hHeld ?_
    rotate_left
    · (intro w hSw; (try dsimp only at hSw); first | (go_simp; done) | (go_simp; with_reducible rfl))
    simp only [Act.put, List.setIfInBounds_toArray, List.set_cons_zero, List.set_cons_succ]
    refine wpAnyH_ready (rs := [6]) (by kernel_rfl) (by simp) ?_
    refine AllReadyH.cons rfl (fun K hK => ?_) AllReadyH.nil
    go_simp
    refine (has_fact A A3 n cp r.length c3 ss ⟨some ⟨bS, 0, none⟩, 32, d9, F, q + 1, f9⟩ ⟨t.slots.set z y, t.facts⟩ r _ (HS5.out.on HD.out) hn hnc (HU5.out.on HD.out).tb (HRI.out.on HD.out).at_ HRI.out.big HRI.out.cap).mono ?_
    rintro e w6 ⟨rfl, hb⟩
    rw [HN.out.1, HN.out.2]
    have HD2 := Lib.hid (HD.out.trans (hb.mono HD.out.size))
    clear hb
    go_wp2_with fail
    refine hK.out _ _ ?_ (fun hHeld => ?_)
    · exact HELD.out _ HD2.out
    clear hK K
    refine takeH (i := 7) (v := ?_) rfl rfl (by kernel_rfl) (by kernel_rfl) (by kernel_rfl) (fun _ _ _ h => h) (by rfl) ?_ hHeld ?_
    rotate_left
    · (intro w hSw; (try dsimp only at hSw); first | (go_simp; done) | (go_simp; with_reducible rfl))
    simp only [Act.put, List.setIfInBounds_toArray, List.set_cons_zero, List.set_cons_succ]
    refine takeH (i := 8) (v := ?_) rfl rfl (by kernel_rfl) (by kernel_rfl) (by kernel_rfl) (fun _ _ _ h => h) (by rfl) ?_ hHeld ?_
    rotate_left
    · (intro w hSw; (try dsimp only at hSw); first | (go_simp; done) | (go_simp; with_reducible rfl))
    simp only [Act.put, List.setIfInBounds_toArray, List.set_cons_zero, List.set_cons_succ]
    refine takeH (i := 9) (v := ?_) rfl rfl (by kernel_rfl) (by kernel_rfl) (by kernel_rfl) (fun _ _ _ h => h) (by rfl) ?_ hHeld ?_
    rotate_left
    · (intro w hSw; (try dsimp only at hSw); first | (go_simp; done) | (go_simp; with_reducible rfl))
    simp only [Act.put, List.setIfInBounds_toArray, List.set_cons_zero, List.set_cons_succ]
    refine takeH (i := 10) (v := ?_) rfl rfl (by kernel_rfl) (by kernel_rfl) (by kernel_rfl) (fun _ _ _ h => h) (by rfl) ?_ hHeld ?_
    rotate_left
    · (intro w hSw; (try dsimp only at hSw); first | (go_simp; done) | (go_simp; with_reducible rfl))
    simp only [Act.put, List.setIfInBounds_toArray, List.set_cons_zero, List.set_cons_succ]
    refine takeH (i := 11) (v := ?_) rfl rfl (by kernel_rfl) (by kernel_rfl) (by kernel_rfl) (fun _ _ _ h => h) (by rfl) ?_ hHeld ?_
    rotate_left
    · (intro w hSw; (try dsimp only at hSw); first | (go_simp; done) | (go_simp; with_reducible rfl))
    simp only [Act.put, List.setIfInBounds_toArray, List.set_cons_zero, List.set_cons_succ]
    refine wpAnyH_done (by kernel_rfl) ?_ _
    clear hHeld
    have u0 := (HU5.out.on HD2.out).c0
    have u1 := (HU5.out.on HD2.out).c1
    dsimp only at u0 u1
    go_wp2_with fail
    refine (mayF_any A n cp ss ⟨some ⟨bS, 0, none⟩, 32, d9, F, q + 1, f9⟩ ⟨t.slots.set z y, t.facts⟩ _ (HS5.out.on HD2.out) hn hnc (HU5.out.on HD2.out).tb).mono ?_
    rintro e w7 ⟨rfl, hb⟩
    rw [HNB.out]
    have HD3 := Lib.hid (HD2.out.trans (hb.mono HD2.out.size))
    clear hb u0 u1
    go_wp2_with (go_at_call 16; refine (num_any _ _).mono ?_; rintro e w' ⟨rfl, rfl⟩)
    go_ret
    exact ⟨rfl, HB5.out.trans (HD3.out.mono HB5.out.size)⟩
end Go.Proofs.Ythnjpkghjkhjdaa
