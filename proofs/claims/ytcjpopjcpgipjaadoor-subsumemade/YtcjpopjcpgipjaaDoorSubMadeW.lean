/-
  The walk of the law SubsumeMade.
-/
import Derived.Test.YtcjpopjcpgipjaaDoorSubMade
namespace Go.Proofs.YtcjpopjcpgipjaaDoor
open Go.RowKit Go.Deep
set_option linter.unusedSimpArgs false
set_option linter.unusedVariables false
set_option maxRecDepth 100000

set_option maxHeartbeats 8000000 in
theorem subsumeMade_walk (A A1 A3 : Option Addr) (n cp n1 c1 n3 c3 : Nat) (ss : List Sym) (us : List Bd) (v : Cv) (c : Cl) (ls : List Lt) (w : World) (h : SymsAt w w.heap.size A n ss) (hn : n ≤ maxLen) (hnc : n ≤ cp) (hb : BindsAt w w.heap.size A1 n1 us) (hn1 : n1 ≤ 4398046511104) (hc : ClAt w w.heap.size v c) (hl : LitsAt w w.heap.size A3 n3 ls) (hn3 : n3 ≤ 4398046511104) (hT : TabW w) (hTB : 0 < w.heap.size) :
    Calls Tryd.prog 4 #[.slice A n cp, .slice A1 n1 c1, v.val, .slice A3 n3 c3] w fun e w' => e = .returned (.bool true) ∧ Below w.heap.size w w' := by
  have hb0 := below_new w v.obj
  have hx0 := CBox.new hc
  have hs0 := h.on hb0
  have hbb := hb.on hb0
  have hll := (hl.below hb0).more hb0.size
  have HLL := Lib.hid hl.len
  rw [Cv.val_eq]
  have HVE := Lib.hid v.val_eq
  unfold Cv.obj at hb0 hx0 hs0 hbb hll
  have HC := Lib.hid hx0
  have HS := Lib.hid hs0
  have HBD := Lib.hid hbb
  have HL := Lib.hid hll
  have HB0 := Lib.hid hb0
  have HT := Lib.hid hT
  have HTB := Lib.hid hTB
  clear h hb hc hl hb0 hx0 hs0 hbb hll hT hTB
  go_enter Tryd.func4, Tryd.ntmps4
  go_wp2_with fail
  refine (awakeS_any _ (HT.out.below HTB.out HB0.out) (Nat.lt_of_lt_of_le HTB.out HB0.out.size)).mono ?_
  rintro e' w1 ⟨rfl, hb1⟩
  have HB1 := Lib.hid (HB0.out.trans (hb1.mono HB0.out.size))
  replace HC := Lib.hid (HC.out.on hb1)
  replace HS := Lib.hid (HS.out.on hb1)
  replace HBD := Lib.hid (HBD.out.on hb1)
  replace HL := Lib.hid ((HL.out.below hb1).more hb1.size)
  clear hb1 HB0
  obtain ⟨B, hB⟩ : ∃ B, B = w.heap.size := ⟨_, rfl⟩
  rw [← hB] at HC ⊢
  have HBH := Lib.hid hB
  clear hB
  have p0 := HC.out.c0
  have p1 := HC.out.c1
  have p2 := HC.out.c2
  go_wp2_with fail
  refine (put10_any A A1 n cp n1 c1 ss us (cutV v) (cutD c) _ HS.out hn hnc HBD.out hn1 HC.out.cl.cut).mono ?_
  rintro e' w2 ⟨hb2, hpost⟩
  have HB2 := Lib.hid (HB1.out.trans (hb2.mono HB1.out.size))
  replace HC := Lib.hid (HC.out.on hb2)
  replace HS := Lib.hid (HS.out.on hb2)
  replace HL := Lib.hid ((HL.out.below hb2).more hb2.size)
  have hs12 := hb2.size
  clear hb2 p0 p1 p2 HBD HB1
  have p0 := HC.out.c0
  have p1 := HC.out.c1
  have p2 := HC.out.c2
  rcases hpost with ⟨x, rfl⟩ | ⟨x, rfl, hx, hfx, hbx⟩
  · rw [Cv.val_eq x]
    have hbn := below_new w2 (.cells #[.slice x.A1 x.n1 x.c1, .slice x.A2 x.n2 x.c2, .slice x.A3 x.n3 x.c3] 26)
    have HB3 := Lib.hid (HB2.out.trans (hbn.mono HB2.out.size))
    clear hbn
    go_wp2_with (go_at_call 14; refine (num_any _ _).mono ?_; rintro e w' ⟨rfl, rfl⟩)
    go_ret
    exact ⟨rfl, HB3.out⟩
  have hx2 := hx
  obtain ⟨x', e', hxc⟩ := hx.clAt hfx
  obtain rfl := Cv.val_inj e'
  have hput : putD us (cutD c) = putD us c := rfl
  rw [hput] at hx2 hfx hxc ⊢
  have HBX : Hid (c.lits ≠ [] ∨ c.tups ≠ [] → bindB ss us = true) := hbx
  have HFX := Lib.hid hfx
  rw [Cv.val_eq x]
  have HXE := Lib.hid x.val_eq
  have hbn := below_new w2 (.cells #[.slice x.A1 x.n1 x.c1, .slice x.A2 x.n2 x.c2, .slice x.A3 x.n3 x.c3] 26)
  have HD : Hid (CBox (w2.alloc (.cells #[.slice x.A1 x.n1 x.c1, .slice x.A2 x.n2 x.c2, .slice x.A3 x.n3 x.c3] 26)) w2.heap.size x (putD us c)) := CBox.new hxc
  have HO := Lib.hid (hx2.on hbn)
  have HB3 := Lib.hid (HB2.out.trans (hbn.mono HB2.out.size))
  replace HC := Lib.hid (HC.out.on hbn)
  replace HS := Lib.hid (HS.out.on hbn)
  replace HL := Lib.hid ((HL.out.below hbn).more hbn.size)
  have hs23 := hbn.size
  clear hx hx2 hxc hbn hput hfx hbx p0 p1 p2
  have p0 := HC.out.c0
  have p1 := HC.out.c1
  have p2 := HC.out.c2
  have q0 := HD.out.c0
  have q1 := HD.out.c1
  have q2 := HD.out.c2
  have hxf := HD.out.cl.f1
  have HDL := Lib.hid HD.out.cl.lits.len
  cases hm : mayC ss (putD us c)
  · clear hm
    go_wp2_with (go_at_call 14; refine (num_any _ _).mono ?_; rintro e w' ⟨rfl, rfl⟩)
    go_ret
    exact ⟨rfl, HB3.out⟩
  have HM := Lib.hid (mayC_iff.1 hm)
  clear hm
  obtain ⟨w3, hw3⟩ : ∃ w3, w3 = w2.alloc (.cells #[.slice x.A1 x.n1 x.c1, .slice x.A2 x.n2 x.c2, .slice x.A3 x.n3 x.c3] 26) := ⟨_, rfl⟩
  have HW3 := Lib.hid hw3
  obtain ⟨g, hg⟩ : ∃ g, g = w2.heap.size := ⟨_, rfl⟩
  have HGG := Lib.hid hg
  go_wp2_with fail
  rw [← hw3] at HC HS HD HB3 HL HO hs23 ⊢
  rw [← hg] at HD ⊢
  clear hw3 hg p0 p1 p2 q0 q1 q2
  rw [← HVE.out]
  refine (mayC_any A n cp ss v c _ HS.out hn hnc HC.out.cl).mono ?_
  rintro e' w4 ⟨rfl, hb4⟩
  have HB4 := Lib.hid (HB3.out.trans (hb4.mono HB3.out.size))
  replace HC := Lib.hid (HC.out.on hb4)
  replace HS := Lib.hid (HS.out.on hb4)
  replace HD := Lib.hid (HD.out.on hb4)
  replace HO := Lib.hid (HO.out.on hb4)
  replace HL := Lib.hid ((HL.out.below hb4).more hb4.size)
  have hs34 := hb4.size
  clear hb4 HB3 HB2
  have p0 := HC.out.c0
  have p1 := HC.out.c1
  have p2 := HC.out.c2
  have q0 := HD.out.c0
  have q1 := HD.out.c1
  have q2 := HD.out.c2
  cases hmc : mayC ss c
  · clear hmc
    rw [HVE.out]
    go_wp2_with (go_at_call 14; refine (num_any _ _).mono ?_; rintro e w' ⟨rfl, rfl⟩)
    go_ret
    exact ⟨rfl, HB4.out⟩
  have HMC := Lib.hid (mayC_iff.1 hmc)
  clear hmc
  by_cases h5 : x.n1 + n3 ≤ 5
  rotate_left
  · have h6 : (5 : Int) < (x.n1 : Int) + (n3 : Int) := by omega
    rw [HVE.out]
    go_wp2_with (go_at_call 14; refine (num_any _ _).mono ?_; rintro e w' ⟨rfl, rfl⟩)
    go_ret
    exact ⟨rfl, HB4.out⟩
  have h6 : (x.n1 : Int) + (n3 : Int) ≤ 5 := by omega
  have h7 : ¬ (5 : Int) < (x.n1 : Int) + (n3 : Int) := by omega
  rw [HVE.out]
  go_wp2_with fail
  rw [← HXE.out]
  refine (copyClause_any x (putD us c) _ HD.out.cl).mono ?_
  rintro e' w5 ⟨z, rfl, hz, hb5⟩
  rw [HXE.out]
  obtain ⟨v1, v2, v3, rfl, o1, o2, o3⟩ := hz
  obtain ⟨D1, d1, rfl⟩ := o1.valued
  obtain ⟨D2, d2, rfl⟩ := o2.valued
  obtain ⟨D3, d3, rfl⟩ := o3.valued
  obtain ⟨m1, hm1⟩ : ∃ m1, m1 = (putD us c).lits.length := ⟨_, rfl⟩
  obtain ⟨m2, hm2⟩ : ∃ m2, m2 = (putD us c).tups.length := ⟨_, rfl⟩
  have e3 : (putD us c).conds.length = 0 := rfl
  rw [e3, ← hm1, ← hm2]
  rw [← hm2] at o2
  have HO2 := Lib.hid o2
  have HB5 := Lib.hid (HB4.out.trans (hb5.mono HB4.out.size))
  replace HC := Lib.hid (HC.out.on hb5)
  replace HS := Lib.hid (HS.out.on hb5)
  replace HD := Lib.hid (HD.out.on hb5)
  replace HO := Lib.hid (HO.out.on hb5)
  replace HL := Lib.hid ((HL.out.below hb5).more hb5.size)
  have hs45 := hb5.size
  clear hb5 HB4 o1 o2 o3 hm1 hm2 e3 p0 p1 p2 q0 q1 q2
  have hbn := below_new w5 (.cells #[.slice D1 m1 d1, .slice D2 m2 d2, .slice D3 0 d3] 26)
  have HB6 := Lib.hid (HB5.out.trans (hbn.mono HB5.out.size))
  have HC5 := HC
  have HS5 := HS
  have HD5 := HD
  have HB5k := HB5
  have HZ6 := Lib.hid (heap_alloc_new w5 (.cells #[.slice D1 m1 d1, .slice D2 m2 d2, .slice D3 0 d3] 26))
  replace HC := Lib.hid (HC.out.on hbn)
  replace HS := Lib.hid (HS.out.on hbn)
  replace HD := Lib.hid (HD.out.on hbn)
  replace HO := Lib.hid (HO.out.on hbn)
  replace HO2 := Lib.hid (HO2.out.on hbn)
  replace HL := Lib.hid ((HL.out.below hbn).more hbn.size)
  have hs56 := hbn.size
  clear hbn
  have p0 := HC.out.c0
  have p1 := HC.out.c1
  have p2 := HC.out.c2
  have q0 := HD.out.c0
  have q1 := HD.out.c1
  have q2 := HD.out.c2
  go_wp2_with fail
  obtain ⟨w6, hw6⟩ : ∃ w6, w6 = w5.alloc (.cells #[.slice D1 m1 d1, .slice D2 m2 d2, .slice D3 0 d3] 26) := ⟨_, rfl⟩
  have hb56 := below_new w5 (.cells #[.slice D1 m1 d1, .slice D2 m2 d2, .slice D3 0 d3] 26)
  rw [← hw6] at HC HS HD HO HO2 HL HB6 HZ6 hs56 hb56 p0 p1 p2 q0 q1 q2 ⊢
  have H56 := Lib.hid hb56
  have hkw : w5.heap.size < w6.heap.size := (Array.getElem?_eq_some_iff.1 HZ6.out).1
  obtain ⟨k, hk⟩ : ∃ k, k = w5.heap.size := ⟨_, rfl⟩
  rw [← hk] at HZ6 hkw ⊢
  have HKK := Lib.hid hk
  have hgk : g < k := by
    have := (HD5.out).lt
    omega
  clear hw6 hb56 hk
  have hd : Below w6.heap.size w6 w6.drew := (Below.refl w6.heap.size w6).drew
  have q7 : w6.drew.cell? ⟨g, 0, none⟩ = some (.slice x.A1 x.n1 x.c1) := by rw [hd.cell (p := ⟨g, 0, none⟩) (by show g < w6.heap.size; omega)]; exact q0
  refine wp_region_held_drew (S := (fun w' => w'.cell? ⟨g, 0, none⟩ = some (.slice x.A1 x.n1 x.c1))) (by kernel_rfl) q0 (fun hHeld => ?_)
  replace HO := Lib.hid (HO.out.on hd)
  replace HO2 := Lib.hid (HO2.out.on hd)
  have HL7 := Lib.hid ((HL.out.below hd).more hd.size)
  have HZ7 : Hid (w6.drew.heap[k]? = some (.cells #[.slice D1 m1 d1, .slice D2 m2 d2, .slice D3 0 d3] 26 (0, 0))) := by show _ = _; rw [hd.block k hkw]; exact HZ6.out
  have HB7 := Lib.hid (H56.out.trans (hd.mono (by have := H56.out.size; omega)))
  have hs67 := hd.size
  obtain ⟨w7, hw7⟩ : ∃ w7, w7 = w6.drew := ⟨_, rfl⟩
  rw [← hw7] at HO HO2 HL7 HZ7 HB7 hs67 q7 hHeld ⊢
  clear hw7 hd p0 p1 p2 q0 q1 q2 HC HS HD HL HZ6 HB6
  refine takeH (i := 0) (v := ?_) rfl rfl (by kernel_rfl) (by kernel_rfl) (by kernel_rfl) (fun _ _ _ h => h) (by rfl) ?_ hHeld ?_
  rotate_left
  · (intro w hSw; (try dsimp only at hSw); first | (go_simp; done) | (go_simp; with_reducible rfl))
  simp only [Act.put, List.setIfInBounds_toArray, List.set_cons_zero, List.set_cons_succ]
  refine takeH (i := 2) (v := ?_) rfl rfl (by kernel_rfl) (by kernel_rfl) (by kernel_rfl) (fun _ _ _ h => h) (by rfl) ?_ hHeld ?_
  rotate_left
  · (intro w hSw; (try dsimp only at hSw); first | (go_simp; done) | (go_simp; with_reducible rfl))
  simp only [Act.put, List.setIfInBounds_toArray, List.set_cons_zero, List.set_cons_succ]
  refine takeH (i := 3) (v := ?_) rfl rfl (by kernel_rfl) (by kernel_rfl) (by kernel_rfl) (fun _ _ _ h => h) (by rfl) ?_ hHeld ?_
  rotate_left
  · (intro w hSw; (try dsimp only at hSw); first | (go_simp; done) | (go_simp; with_reducible rfl))
  simp only [Act.put, List.setIfInBounds_toArray, List.set_cons_zero, List.set_cons_succ]
  refine wpAnyH_ready (rs := [1]) (by kernel_rfl) (by simp) ?_
  refine AllReadyH.cons rfl (fun K hK => ?_) AllReadyH.nil
  go_simp
  refine (copyLits_any A3 n3 c3 ls w7 HL7.out hn3).mono ?_
  rintro e' w8 ⟨z, rfl, hz, hb8⟩
  have hfit := fit_more HL7.out HFX.out (by rw [HDL.out]; exact h5)
  obtain ⟨vs, ov, rv⟩ := hz.vals
  obtain ⟨D4, d4, rfl⟩ := hz.valued
  obtain ⟨m4, hm4⟩ : ∃ m4, m4 = ls.length := ⟨_, rfl⟩
  rw [← hm4] at ov ⊢
  obtain ⟨us', ou, ru⟩ := (HO.out.on hb8).lits_of.vals
  have HO28 := Lib.hid (HO2.out.on hb8)
  have q8 : w8.cell? ⟨g, 0, none⟩ = some (.slice x.A1 x.n1 x.c1) := by rw [hb8.cell (p := ⟨g, 0, none⟩) (by show g < w7.heap.size; omega)]; exact q7
  have HZ8 : Hid (w8.heap[k]? = some (.cells #[.slice D1 m1 d1, .slice D2 m2 d2, .slice D3 0 d3] 26 (0, 0))) := by show _ = _; rw [hb8.block k (by omega)]; exact HZ7.out
  have HB8 := Lib.hid (HB7.out.trans (hb8.mono (by have := HB7.out.size; omega)))
  have hs78 := hb8.size
  have HOV := Lib.hid ov
  have HRV := Lib.hid rv
  have HOU := Lib.hid ou
  have HRU := Lib.hid ru
  have HFT := Lib.hid hfit
  have HML := Lib.hid hm4
  clear hz hb8 ov rv ou ru hfit hm4 HO HO2
  go_wp2_with fail
  refine hK.out _ _ ?_ (fun hHeld => ?_)
  · exact q8
  clear hK K
  refine wpAnyH_ready (rs := [4]) (by kernel_rfl) (by simp) ?_
  refine AllReadyH.cons rfl (fun K hK => ?_) AllReadyH.nil
  refine app_lits_step rfl (.tmp 50) (.tmp 52) rfl w7.heap.size _ ls (putD us c).lits vs us' x.A1 x.n1 x.c1 rfl HOV.out rfl HDL.out HOU.out.1 HOU.out.nilc (fun q => by obtain ⟨b, off, e1, -, e2⟩ := lit_cells HOU.out q; exact ⟨b, off, e1, e2⟩) (litCells_one (rws_one HRU.out)) (by rw [← HML.out]; have := HML.out; have := HLL.out; omega) (by omega) ?_
  intro v9 w9 ov9 hc9
  obtain ⟨D9, d9, e9⟩ := ov9.valued
  obtain ⟨L9, hL9⟩ : ∃ L9, L9 = (ls ++ (putD us c).lits).length := ⟨_, rfl⟩
  rw [← hL9] at e9
  subst e9
  have hle17 : w1.heap.size ≤ w7.heap.size := by omega
  have hrw : Rws w8 w1.heap.size (vs ++ us') ((ls ++ (putD us c).lits).map Lt.atom) := by rw [List.map_append]; exact (HRV.out.lower hle17).append HRU.out
  have OL9 := Lib.hid ((ov9.lower hle17).own (hrw.chg hc9 (by decide)))
  have hZ9 : w9.heap[k]? = some (.cells #[.slice D1 m1 d1, .slice D2 m2 d2, .slice D3 0 d3] 26 (0, 0)) := by rw [hc9.bel.block k (by omega)]; exact HZ8.out
  have b0 : w9.cell? ⟨k, 0, none⟩ = some (.slice D1 m1 d1) := by rw [cell_of_row _ _ 0 _ _ _ hZ9]; rfl
  have b1 : w9.frozen? ⟨k, 0, none⟩ = false := frozen_of_row _ _ _ _ _ hZ9
  have q9 : w9.cell? ⟨g, 0, none⟩ = some (.slice x.A1 x.n1 x.c1) := by rw [hc9.bel.cell (p := ⟨g, 0, none⟩) (by show g < w7.heap.size; omega)]; exact q8
  have HO29 := Lib.hid (HO28.out.chg hc9 (by decide) (by decide))
  have HB9 : Hid (Below w5.heap.size w5 w9) := HB8.out.trans (hc9.bel.mono (by omega))
  have HZ9 := Lib.hid hZ9
  clear ov9 hc9 hrw hZ9 hL9 HO28 HZ8 HZ7 HRV HRU HOV HOU
  refine hK.out _ _ ?_ (fun hHeld => ?_)
  · exact q9
  clear hK K
  refine takeH (i := 5) (v := ?_) rfl rfl (by kernel_rfl) (by kernel_rfl) (by kernel_rfl) (fun _ _ _ h => h) (by rfl) ?_ hHeld ?_
  rotate_left
  · (intro w hSw; (try dsimp only at hSw); first | (go_simp; done) | (go_simp; with_reducible rfl))
  simp only [Act.put, List.setIfInBounds_toArray, List.set_cons_zero, List.set_cons_succ]
  refine wpAnyH_ready (rs := [6]) (by kernel_rfl) (by simp) ?_
  refine AllReadyH.cons rfl (fun K hK => ?_) AllReadyH.nil
  refine store_slice_step rfl 23 (.tmp 54) (.tmp 53) rfl rfl k 0 D9 L9 d9 _ rfl rfl b0 b1 (by kernel_rfl) ?_
  have csA : Chg [26] k w9 (w9.setCell ⟨k, 0, none⟩ (.slice D9 L9 d9)) := Chg.set HZ9.out (Nat.le_refl _) _
  have hkA : (w9.setCell ⟨k, 0, none⟩ (.slice D9 L9 d9)).heap[k]? = some (.cells #[.slice D9 L9 d9, .slice D2 m2 d2, .slice D3 0 d3] 26 (0, 0)) := heap_setCell_same _ _ 0 _ _ _ HZ9.out
  obtain ⟨wA, hwA⟩ : ∃ wA, wA = w9.setCell ⟨k, 0, none⟩ (.slice D9 L9 d9) := ⟨_, rfl⟩
  rw [← hwA] at csA hkA ⊢
  clear hwA
  have qA : wA.cell? ⟨g, 0, none⟩ = some (.slice x.A1 x.n1 x.c1) := by rw [csA.bel.cell (p := ⟨g, 0, none⟩) (by show g < k; omega)]; exact q9
  obtain ⟨kv, hkv⟩ : ∃ kv : Cv, kv = ⟨D9, L9, d9, D2, m2, d2, D3, 0, d3⟩ := ⟨_, rfl⟩
  have HK : Hid (CBox wA k kv ⟨ls ++ (putD us c).lits, (putD us c).tups, []⟩) := by
    show CBox _ _ _ _
    rw [hkv]
    exact ⟨(Array.getElem?_eq_some_iff.1 hkA).1, by rw [cell_of_row _ _ 0 _ _ _ hkA]; rfl, by rw [cell_of_row _ _ 1 _ _ _ hkA]; rfl, by rw [cell_of_row _ _ 2 _ _ _ hkA]; rfl, clAt_made (OL9.out.chg csA (by decide) (by decide)) (HO29.out.chg csA (by decide) (by decide)) HFT.out⟩
  have hBA : Below w5.heap.size w5 wA := HB9.out.trans (csA.bel.mono (by have := HKK.out; omega))
  have HC := HC5
  have HS := HS5
  have HD := HD5
  replace HC := Lib.hid (HC.out.on hBA)
  replace HS := Lib.hid (HS.out.on hBA)
  replace HD := Lib.hid (HD.out.on hBA)
  have HBA := Lib.hid (HB5k.out.trans (hBA.mono HB5k.out.size))
  have HKE := Lib.hid kv.val_eq
  clear hkv hkA csA hBA HZ9 b0 b1 q9 q8 q7 HO29 OL9 HB9 HB8 HB7
  refine hK.out _ _ ?_ (fun hHeld => ?_)
  · exact qA
  clear hK K qA
  refine wpAnyH_done (by kernel_rfl) ?_ _
  obtain ⟨xl, hxl⟩ : ∃ xl : Cl, xl = ⟨ls ++ (putD us c).lits, (putD us c).tups, []⟩ := ⟨_, rfl⟩
  rw [← hxl] at HK
  have HXL := Lib.hid hxl
  clear hxl
  have p0 := HC.out.c0
  have p1 := HC.out.c1
  have p2 := HC.out.c2
  have q0 := HD.out.c0
  have q1 := HD.out.c1
  have q2 := HD.out.c2
  have k0 := HK.out.c0
  have k1 := HK.out.c1
  have k2 := HK.out.c2
  go_wp2_with fail
  rw [← HKE.out]
  refine (mayC_any A n cp ss kv xl _ HS.out hn hnc HK.out.cl).mono ?_
  rintro e' wB ⟨rfl, hbB⟩
  rw [HKE.out]
  have HBB := Lib.hid (HBA.out.trans (hbB.mono HBA.out.size))
  replace HC := Lib.hid (HC.out.on hbB)
  replace HS := Lib.hid (HS.out.on hbB)
  replace HD := Lib.hid (HD.out.on hbB)
  replace HK := Lib.hid (HK.out.on hbB)
  clear hbB p0 p1 p2 q0 q1 q2 k0 k1 k2
  cases hme : mayC ss xl
  · clear hme
    go_wp2_with (go_at_call 14; refine (num_any _ _).mono ?_; rintro e w' ⟨rfl, rfl⟩)
    go_ret
    exact ⟨rfl, HBB.out⟩
  have HME := Lib.hid (mayC_iff.1 hme)
  clear hme
  have hbn := below_new wB (.cells #[.slice v.A1 v.n1 v.c1, .slice v.A2 v.n2 v.c2, .slice none 0 0] 26)
  have HY : Hid (CBox (wB.alloc (.cells #[.slice v.A1 v.n1 v.c1, .slice v.A2 v.n2 v.c2, .slice none 0 0] 26)) wB.heap.size (cutV v) (cutD c)) := CBox.new HC.out.cl.cut
  have HBC := Lib.hid (HBB.out.trans (hbn.mono HBB.out.size))
  have p0 := HC.out.c0
  have p1 := HC.out.c1
  have p2 := HC.out.c2
  have q0 := HD.out.c0
  have q1 := HD.out.c1
  have q2 := HD.out.c2
  have r0 := p0
  replace HC := Lib.hid (HC.out.on hbn)
  replace HS := Lib.hid (HS.out.on hbn)
  replace HD := Lib.hid (HD.out.on hbn)
  replace HK := Lib.hid (HK.out.on hbn)
  clear hbn
  have s0 := HD.out.c0
  have s1 := HD.out.c1
  have s2 := HD.out.c2
  have y0 := HY.out.c0
  have y1 := HY.out.c1
  have y2 := HY.out.c2
  have says := put_says (ss := ss) (us := us) (c := c) HMC.out HBX.out
  have ok1 : okC ss (cutD c) (putD us c) = true := okC_iff.2 ⟨HMC.out.cut, HM.out⟩
  have ok2 : okC ss (cutD c) xl = true := okC_iff.2 ⟨HMC.out.cut, HME.out⟩
  have K1 := Lib.hid ((subIs_iff ok1).2 says)
  have K2 := Lib.hid ((subIs_iff ok2).2 (by rw [HXL.out]; exact says.more ls))
  have K3 := Lib.hid (subE_ok ok1)
  have K4 := Lib.hid (subE_ok ok2)
  clear says ok1 ok2
  go_wp2_with fail
  refine (does_any A n cp ss (cutV v) x (cutD c) (putD us c) _ HS.out hn hnc HY.out.cl HD.out.cl (HT.out.below HTB.out HBC.out) (Nat.lt_of_lt_of_le HTB.out HBC.out.size)).mono ?_
  rintro e' wC ⟨rfl, hbC⟩
  have HBE := Lib.hid (HBC.out.trans (hbC.mono HBC.out.size))
  replace HS := Lib.hid (HS.out.on hbC)
  replace HD := Lib.hid (HD.out.on hbC)
  replace HK := Lib.hid (HK.out.on hbC)
  replace HY := Lib.hid (HY.out.on hbC)
  rw [K1.out, K3.out]
  clear hbC p0 p1 p2 q0 q1 q2 r0 s0 s1 s2 y0 y1 y2
  have k0 := HK.out.c0
  have k1 := HK.out.c1
  have k2 := HK.out.c2
  have y0 := HY.out.c0
  have y1 := HY.out.c1
  have y2 := HY.out.c2
  go_wp2_with fail
  refine (does_any A n cp ss (cutV v) kv (cutD c) xl _ HS.out hn hnc HY.out.cl HK.out.cl (HT.out.below HTB.out HBE.out) (Nat.lt_of_lt_of_le HTB.out HBE.out.size)).mono ?_
  rintro e' wD ⟨rfl, hbD⟩
  have HBF := Lib.hid (HBE.out.trans (hbD.mono HBE.out.size))
  rw [K2.out, K4.out]
  clear hbD k0 k1 k2 y0 y1 y2
  go_wp2_with (go_at_call 14; refine (num_any _ _).mono ?_; rintro e w' ⟨rfl, rfl⟩)
  go_ret
  exact ⟨rfl, HBF.out⟩
end Go.Proofs.YtcjpopjcpgipjaaDoor
