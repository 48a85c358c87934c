/-
  Contracts of quaereref9: New, Few; the walk of the law ClauseHolds.
-/
import Derived.Test.YtjdmnplkgimaiaaRefHolds
namespace Go.Proofs.Ytjdmnplkgimaiaa
open Go.RowKit Go.Deep
set_option linter.unusedSimpArgs false
set_option linter.unusedVariables false
set_option maxRecDepth 100000

theorem md_one (a : Int) (A : Option Addr) (n c : Nat) : (#[.int .i64 a, .slice A n c] : Array Value).all (·.oneCell') = true := by simp [Value.oneCell']
theorem mod3 (k : Int) : ∃ z : Nat, z < 3 ∧ (IntKind.u64.wrap k).tmod 3 = (z : Int) := by
  have h1 : 0 ≤ IntKind.u64.wrap k := by
    have : IntKind.u64.wrap k = k % 18446744073709551616 := by rfl
    omega
  have h2 : 0 ≤ (IntKind.u64.wrap k).tmod 3 := Int.tmod_nonneg _ h1
  have h3 : (IntKind.u64.wrap k).tmod 3 < 3 := Int.tmod_lt_of_pos _ (by omega)
  exact ⟨((IntKind.u64.wrap k).tmod 3).toNat, by omega, by omega⟩
set_option maxHeartbeats 4000000 in
theorem refNew_any (An : Option Addr) (nn cn : Nat) (k : Int) (w : World) :
    Calls Try.prog 11 #[.int .i64 k, .slice An nn cn] w fun e w' => ∃ sz : Int, (1 ≤ sz ∧ sz ≤ 3) ∧ e = .returned (.agg #[.int .i64 sz, .slice An nn cn]) ∧ Below w.heap.size w w' := by
  obtain ⟨z, z1, z2⟩ := mod3 k
  have HZ : Hid ((w.alloc (.cells #[.int .i64 0, .slice none 0 0] 40)).heap[w.heap.size]? = some (.cells #[.int .i64 0, .slice none 0 0] 40 (0, 0))) := heap_alloc_new w _
  have HB0 := Lib.hid (below_new w (.cells #[.int .i64 0, .slice none 0 0] 40))
  go_enter Try.func11, Try.ntmps11
  go_wp2_with (refine store_box rfl 40 (.tmp 4) (.tmp 11) rfl rfl w.heap.size _ _ rfl rfl HZ.out rfl (by kernel_rfl) (md_one _ _ _ _) ?_
               intro w4 hg4 hc4 hs4
               have HG4 := Lib.hid hg4
               have HC4 := Lib.hid hc4
               clear hg4 hc4 hs4)
  refine bodyPost_ret (results_cell_row rfl _ _ w.heap.size _ _ _ _ rfl HG4.out Try.underlying40 rfl (by kernel_rfl)) rfl ?_
  exact ⟨1 + (z : Int), by omega, rfl, HB0.out.trans (HC4.out.bel.mono (by omega))⟩
theorem refFew_any (A : Option Addr) (n c : Nat) (r : Bool) (w : World) (h : decide ((n : Int) ≤ 6) = r) : Calls Try.prog 10 #[.slice A n c] w fun e w' => e = .returned (.bool r) ∧ w = w' := by
  have H := Lib.hid h
  clear h
  go_enter Try.func10, Try.ntmps10
  go_wp2
  go_ret
  exact ⟨ret_bool H.out, rfl⟩
set_option maxHeartbeats 16000000 in
theorem clauseHolds_walk (haw : ∀ u, Calls Try.prog 4 #[] u fun e w' => e = .returned (.bool true) ∧ Below u.heap.size u w') (A An : Option Addr) (n cp nn cn : Nat) (ss : List Sym) (v : Cv) (c : Cl) (k : Int) (nums : List Int) (w : World) (h : SymsAt w w.heap.size A n ss) (hn : n ≤ maxLen) (hnc : n ≤ cp) (hc : ClAt w w.heap.size v c) (hN : IntsAt w w.heap.size An nn nums) (hnn : nn ≤ 17592186044416) :
    Calls Try.prog 3 #[.slice A n cp, v.val, .int .i64 k, .slice An nn cn] w fun e w' => e = .returned (.bool true) ∧ Below w.heap.size w w' := by
  have HAW := Lib.hid haw
  have hb0 := below_new w v.obj
  have hx0 := CBox.new hc
  have hs0 := h.on hb0
  have hn0 := hN.on hb0
  rw [Cv.val_eq]
  have HVE := Lib.hid v.val_eq
  unfold Cv.obj at hb0 hx0 hs0 hn0
  have HC := Lib.hid hx0
  have HS := Lib.hid hs0
  have HNU := Lib.hid hn0
  have HB0 := Lib.hid hb0
  clear h hc hb0 hx0 hs0 haw hN hn0
  go_enter Try.func3, Try.ntmps3
  go_wp2_with fail
  refine (HAW.out _).mono ?_
  rintro e w1 ⟨rfl, hb1⟩
  have HB1 := Lib.hid (HB0.out.trans (hb1.mono HB0.out.size))
  replace HC := Lib.hid (HC.out.on hb1)
  replace HS := Lib.hid (HS.out.on hb1)
  replace HNU := Lib.hid (HNU.out.on hb1)
  clear hb1
  obtain ⟨B, hB⟩ : ∃ B, B = w.heap.size := ⟨_, rfl⟩
  rw [← hB] at HC ⊢
  have HBH := Lib.hid hB
  clear hB
  have p0 := HC.out.c0
  have p1 := HC.out.c1
  have p2 := HC.out.c2
  go_wp2_with fail
  rw [← HVE.out]
  refine (normalC_any A n cp ss v c _ HS.out hn hnc HC.out.cl).mono ?_
  rintro e w2 ⟨x0, rfl, hx, hb2⟩
  have HB2 := Lib.hid (HB1.out.trans (hb2.mono HB1.out.size))
  replace HC := Lib.hid (HC.out.on hb2)
  replace HS := Lib.hid (HS.out.on hb2)
  replace HNU := Lib.hid (HNU.out.on hb2)
  clear hb2 p0 p1 p2
  cases hm : mayC ss c
  case false =>
    have HE : Hid (clE ss c = 800) := by show clE ss c = 800; unfold clE; rw [hm]; rfl
    rw [HE.out]
    obtain ⟨D1, d1, D2, d2, D3, d3, rfl⟩ := hx.slices
    obtain ⟨m1, hm1⟩ : ∃ m1, m1 = (normO ss c).lits.length := ⟨_, rfl⟩
    obtain ⟨m2, hm2⟩ : ∃ m2, m2 = (normO ss c).tups.length := ⟨_, rfl⟩
    obtain ⟨m3, hm3⟩ : ∃ m3, m3 = (normO ss c).conds.length := ⟨_, rfl⟩
    rw [← hm1, ← hm2, ← hm3]
    have hbn := below_new w2 (.cells #[.slice D1 m1 d1, .slice D2 m2 d2, .slice D3 m3 d3] 26)
    have HB3 := Lib.hid (HB2.out.trans (hbn.mono HB2.out.size))
    replace HC := Lib.hid (HC.out.on hbn)
    replace HS := Lib.hid (HS.out.on hbn)
    replace HNU := Lib.hid (HNU.out.on hbn)
    clear hm hx hm1 hm2 hm3 hbn
    have p0 := HC.out.c0
    have p1 := HC.out.c1
    have p2 := HC.out.c2
    go_wp2_with fail
    rw [← HVE.out]
    refine (trivialC_any A n cp ss v c _ HS.out hn hnc HC.out.cl).mono ?_
    rintro e w4 ⟨rfl, hb4⟩
    have HB4 := Lib.hid (HB3.out.trans (hb4.mono HB3.out.size))
    replace HC := Lib.hid (HC.out.on hb4)
    replace HS := Lib.hid (HS.out.on hb4)
    replace HNU := Lib.hid (HNU.out.on hb4)
    clear hb4 p0 p1 p2
    rw [HE.out]
    have p0 := HC.out.c0
    have p1 := HC.out.c1
    have p2 := HC.out.c2
    go_wp2_with fail
    rw [← HVE.out]
    refine (varsC_any A n cp ss v c _ HS.out hn hnc HC.out.cl).mono ?_
    rintro e w5 ⟨vv, rfl, hv, hb5⟩
    have HB5 := Lib.hid (HB4.out.trans (hb5.mono HB4.out.size))
    replace HC := Lib.hid (HC.out.on hb5)
    replace HS := Lib.hid (HS.out.on hb5)
    replace HNU := Lib.hid (HNU.out.on hb5)
    obtain ⟨AV, cv, hv', _, _⟩ := hv.intsAt
    obtain ⟨nv, hnv⟩ : ∃ nv, nv = (varsO ss c).length := ⟨_, rfl⟩
    rw [← hnv] at hv'
    subst hv'
    clear hb5 p0 p1 p2 hv hnv
    rw [HE.out]
    go_wp2_with (go_at_call 8; refine (num_any _ _).mono ?_; rintro e w' ⟨rfl, rfl⟩)
    go_ret
    exact ⟨rfl, HB5.out⟩
  have HMC := Lib.hid (mayC_iff.1 hm)
  have HN : Hid (mayC ss (norm c) = true) := mayC_iff.2 (mayC_iff.1 hm).normal
  have HE : Hid (clE ss c = 0) := by show clE ss c = 0; unfold clE; rw [hm]; rfl
  have HDU : Hid (dullO ss c = dullB ss c) := by show dullO ss c = _; unfold dullO; rw [hm]; rfl
  have e1 : normO ss c = norm c := by unfold normO; rw [hm]; rfl
  rw [e1] at hx
  rw [HE.out]
  clear hm e1
  obtain ⟨x, hxe, hxc⟩ := hx.clAt HMC.out.normal.fit
  rw [hxe, Cv.val_eq]
  have HXE := Lib.hid x.val_eq
  have hbn := below_new w2 (.cells #[.slice x.A1 x.n1 x.c1, .slice x.A2 x.n2 x.c2, .slice x.A3 x.n3 x.c3] 26)
  have HD : Hid (CBox (w2.alloc (.cells #[.slice x.A1 x.n1 x.c1, .slice x.A2 x.n2 x.c2, .slice x.A3 x.n3 x.c3] 26)) w2.heap.size x (norm c)) := CBox.new hxc
  have HB3 := Lib.hid (HB2.out.trans (hbn.mono HB2.out.size))
  replace HC := Lib.hid (HC.out.on hbn)
  replace HS := Lib.hid (HS.out.on hbn)
  replace HNU := Lib.hid (HNU.out.on hbn)
  clear hxe hxc hbn hx
  have p0 := HC.out.c0
  have p1 := HC.out.c1
  have p2 := HC.out.c2
  go_wp2_with fail
  rw [← HVE.out]
  refine (trivialC_any A n cp ss v c _ HS.out hn hnc HC.out.cl).mono ?_
  rintro e w4 ⟨rfl, hb4⟩
  have HB4 := Lib.hid (HB3.out.trans (hb4.mono HB3.out.size))
  replace HC := Lib.hid (HC.out.on hb4)
  replace HS := Lib.hid (HS.out.on hb4)
  replace HNU := Lib.hid (HNU.out.on hb4)
  replace HD := Lib.hid (HD.out.on hb4)
  clear hb4 p0 p1 p2
  rw [HE.out]
  obtain ⟨T, hT⟩ : ∃ T, T = dullO ss c := ⟨_, rfl⟩
  rw [← hT]
  have HT : Hid (T = dullB ss c) := hT.trans HDU.out
  clear hT
  have p0 := HC.out.c0
  have p1 := HC.out.c1
  have p2 := HC.out.c2
  go_wp2_with fail
  rw [← HVE.out]
  refine (varsC_any A n cp ss v c _ HS.out hn hnc HC.out.cl).mono ?_
  rintro e w5 ⟨vv, rfl, hv, hb5⟩
  have HB5 := Lib.hid (HB4.out.trans (hb5.mono HB4.out.size))
  replace HC := Lib.hid (HC.out.on hb5)
  replace HS := Lib.hid (HS.out.on hb5)
  replace HNU := Lib.hid (HNU.out.on hb5)
  replace HD := Lib.hid (HD.out.on hb5)
  obtain ⟨AV, cv, hv', _, _⟩ := hv.intsAt
  obtain ⟨nv, hnv⟩ : ∃ nv, nv = (varsO ss c).length := ⟨_, rfl⟩
  rw [← hnv] at hv'
  subst hv'
  clear hb5 p0 p1 p2 hv hnv
  rw [HE.out]
  have p0 := HC.out.c0
  have p1 := HC.out.c1
  have p2 := HC.out.c2
  have q0 := HD.out.c0
  have q1 := HD.out.c1
  have q2 := HD.out.c2
  go_wp2_with (go_at_call 8; refine (num_any _ _).mono ?_; rintro e w' ⟨rfl, rfl⟩)
  rw [← HXE.out]
  refine (mayC_any A n cp ss x (norm c) _ HS.out hn hnc HD.out.cl).mono ?_
  rintro e w6 ⟨rfl, hb6⟩
  rw [HN.out]
  have HB6 := Lib.hid (HB5.out.trans (hb6.mono HB5.out.size))
  replace HC := Lib.hid (HC.out.on hb6)
  replace HS := Lib.hid (HS.out.on hb6)
  replace HNU := Lib.hid (HNU.out.on hb6)
  replace HD := Lib.hid (HD.out.on hb6)
  clear hb6 p0 p1 p2 q0 q1 q2
  go_wp2_with fail
  by_cases hf : (nv : Int) ≤ 6
  case neg =>
    refine (refFew_any AV nv cv false _ (decide_eq_false hf)).mono ?_
    rintro e w' ⟨rfl, rfl⟩
    clear hf
    go_wp2
    go_ret
    exact ⟨rfl, HB6.out⟩
  refine (refFew_any AV nv cv true _ (decide_eq_true hf)).mono ?_
  rintro e w' ⟨rfl, rfl⟩
  clear hf
  by_cases h0 : nn = 0
  · subst h0
    go_wp2
    go_ret
    exact ⟨rfl, HB6.out⟩
  have h0' : ((nn : Int) == 0) = false := by simp; omega
  go_wp2_with fail
  refine (refNew_any An nn cn k _).mono ?_
  rintro e w7 ⟨sz, hsz, rfl, hb7⟩
  have HSZ := Lib.hid hsz
  have HB7 := Lib.hid (HB6.out.trans (hb7.mono HB6.out.size))
  replace HC := Lib.hid (HC.out.on hb7)
  replace HS := Lib.hid (HS.out.on hb7)
  replace HNU := Lib.hid (HNU.out.on hb7)
  replace HD := Lib.hid (HD.out.on hb7)
  have hbn := below_new w7 (.cells #[.int .i64 sz, .slice An nn cn] 40)
  have HMB : Hid (MBx (w7.alloc (.cells #[.int .i64 sz, .slice An nn cn] 40)) w7.heap.size sz An nn cn) := ⟨by rw [World.cell?_alloc_new]; rfl, by rw [World.cell?_alloc_new]; rfl⟩
  have HMS : Hid (w7.heap.size < (w7.alloc (.cells #[.int .i64 sz, .slice An nn cn] 40)).heap.size) := by show _ < _; simp
  have HB8 := Lib.hid (HB7.out.trans (hbn.mono HB7.out.size))
  replace HC := Lib.hid (HC.out.on hbn)
  replace HS := Lib.hid (HS.out.on hbn)
  replace HNU := Lib.hid (HNU.out.on hbn)
  replace HD := Lib.hid (HD.out.on hbn)
  clear hb7 hbn hsz h0 h0'
  have m0 := HMB.out.1
  have m1 := HMB.out.2
  have p0 := HC.out.c0
  have p1 := HC.out.c1
  have p2 := HC.out.c2
  go_wp2_with fail
  obtain ⟨w8, hw8⟩ : ∃ w8, w8 = w7.alloc (.cells #[.int .i64 sz, .slice An nn cn] 40) := ⟨_, rfl⟩
  rw [← hw8] at HC HS HNU HD HMB HMS HB8 ⊢
  clear hw8 m0 m1 p0 p1 p2
  rw [← HVE.out]
  -- Clause at the structure in the box, of the clause in a box
  refine (refHolds_any An A nn cn n cp sz nums ss v c _ HSZ.out hnn hn HNU.out HS.out HC.out.cl HMC.out).mono ?_
  rintro e w9 ⟨rfl, hb9⟩
  have HB9 := Lib.hid (HB8.out.trans (hb9.mono HB8.out.size))
  have HMB9 := Lib.hid (HMB.out.below hb9 HMS.out)
  replace HS := Lib.hid (HS.out.on hb9)
  replace HNU := Lib.hid (HNU.out.on hb9)
  replace HD := Lib.hid (HD.out.on hb9)
  clear hb9 HMB
  obtain ⟨R, hR⟩ : ∃ R, R = holdsB ss (mdOf sz nums) c := ⟨_, rfl⟩
  rw [← hR]
  have HRE : Hid (holdsB ss (mdOf sz nums) (norm c) = R) := (holdsB_congr HMC.out.holds_norm).trans hR.symm
  have HTR : Hid (T = true → R = true) := fun q => hR.trans (holdsB_yes (HMC.out.dull_holds (dullB_iff.1 (HT.out.symm.trans q))))
  clear hR
  have m0 := HMB9.out.1
  have m1 := HMB9.out.2
  have q0 := HD.out.c0
  have q1 := HD.out.c1
  have q2 := HD.out.c2
  go_wp2_with fail
  rw [← HXE.out]
  -- Clause at the structure in the box, of the clause in a box
  refine (refHolds_any An A nn cn n cp sz nums ss x (norm c) _ HSZ.out hnn hn HNU.out HS.out HD.out.cl HMC.out.normal).mono ?_
  rintro e w10 ⟨rfl, hb10⟩
  have HB10 := Lib.hid (HB9.out.trans (hb10.mono HB9.out.size))
  rw [HRE.out]
  clear hb10 m0 m1 q0 q1 q2
  have g0 : (R == R) = true := by simp
  cases T
  · go_wp2
    go_ret
    exact ⟨rfl, HB10.out⟩
  · have hr := HTR.out rfl
    subst hr
    go_wp2
    go_ret
    exact ⟨rfl, HB10.out⟩
end Go.Proofs.Ytjdmnplkgimaiaa
