/-
  Contracts of quaereref9: Atom, Lit, Tuple, Here, Next, Env, New, Few, Clause.
  Contracts of quaereref9: Lit, Tuple.
  Contracts of quaereref9: Here.
  Contracts of quaereref9: Env, Next.
  Contracts of quaereref9: Clause, New, Few.
-/
import Derived.Test.YtcjpopjcpgipjaaDoorRefMd
import Derived.Test.YtcjpopjcpgipjaaDoorClauseTriv
import Derived.Test.YtcjpopjcpgipjaaDoorRefTell
namespace Go.Proofs.YtcjpopjcpgipjaaDoor
open Go.RowKit Go.Deep
set_option linter.unusedSimpArgs false
set_option linter.unusedVariables false
set_option maxRecDepth 100000

/-- What a structure's calls read: its numbers, the symbols, what stands for variables. -/
structure MdAt (w : World) (An : Option Addr) (nn : Nat) (nums : List Int) (A : Option Addr) (n : Nat) (ss : List Sym) (Ae : Option Addr) (E : List Int) : Prop where
  nu : IntsAt w w.heap.size An nn nums
  sy : SymsAt w w.heap.size A n ss
  en : IntsAt w w.heap.size Ae 24 E
theorem MdAt.on {w w' : World} {An A Ae : Option Addr} {nn n : Nat} {nums E : List Int} {ss : List Sym} (h : MdAt w An nn nums A n ss Ae E) (hb : Below w.heap.size w w') : MdAt w' An nn nums A n ss Ae E := ⟨h.nu.on hb, h.sy.on hb, h.en.on hb⟩
/-- What is asked of a structure, the symbols, what stands for variables. -/
structure MdOk (sz : Int) (nums : List Int) (nn : Nat) (n : Nat) (ss : List Sym) (E : List Int) (M : Md) (env : Nat → Int) : Prop where
  may : mayB ss = true
  sz1 : 1 ≤ sz
  sz3 : sz ≤ 3
  nn : nn ≤ 17592186044416
  n : n ≤ maxLen
  md : M = mdOf sz nums
  en : ∀ u, u < 24 → env u = intAt E u
theorem atomH_eq {ss : List Sym} {m : Md} {env : Nat → Int} {a : List Int} (h : intAt a 0 = 0) : atomH ss m env a = decide (intAt (vals ss m env a.tail) 0 = intAt (vals ss m env a.tail) 1) := by unfold atomH; rw [if_pos h]
theorem atomH_look {ss : List Sym} {m : Md} {env : Nat → Int} {a : List Int} (h : ¬ intAt a 0 = 0) : atomH ss m env a = decide (m.look (intAt a 0) (vals ss m env a.tail) % 2 = 1) := by unfold atomH; rw [if_neg h]
theorem and1 {x : Int} (h0 : 0 ≤ x) (h1 : x < 256) : bits .and .i64 x 1 = x % 2 := by
  have := and1_all x.toNat (by omega)
  rw [show ((x.toNat : Nat) : Int) = x by omega] at this
  exact this
theorem and2 {x : Int} (h0 : 0 ≤ x) (h1 : x < 256) : bits .and .i64 x 2 = 2 * (x / 2 % 2) := by
  have := and2_all x.toNat (by omega)
  rw [show ((x.toNat : Nat) : Int) = x by omega] at this
  exact this
set_option maxHeartbeats 4000000 in
theorem refAtom_any (An A Aa Ae : Option Addr) (nn cn n c ma ca ce : Nat) (sz : Int) (nums a E : List Int) (ss : List Sym) (w : World) (M : Md) (env : Nat → Int) (hk : MdOk sz nums nn n ss E M env) (h : MdAt w An nn nums A n ss Ae E) (ha : IntsAt w w.heap.size Aa ma a) (hac : ma ≤ ca) (hab : atomB ss a = true) :
    Calls Tryd.prog 95 #[mdV sz An nn cn, .slice A n c, .slice Aa ma ca, .slice Ae 24 ce] w fun e w' => e = .returned (.bool (atomH ss M env a)) ∧ Below w.heap.size w w' := by
  obtain ⟨x, r, hxr, hx0, hxl, _, hrow, htr⟩ := atom_parts hab
  have hal := ha.len
  have hr48 := (row_parts hrow).2.1
  have hml : ma = r.length + 1 := by rw [← hal, hxr]; rfl
  have HIA := Lib.hid hxr
  have HRL := Lib.hid hr48
  have HK := Lib.hid hk
  have HTR := Lib.hid htr
  have HAB := Lib.hid hab
  unfold mdV
  go_enter Tryd.func95, Tryd.ntmps95
  go_upto_region 1 with (fail)
  obtain ⟨w1, hw1⟩ : ∃ w1, w1 = w.alloc (.cells #[.int .i64 sz, .slice An nn cn] 52) := ⟨_, rfl⟩
  have hb0 : Below w.heap.size w w1 := by rw [hw1]; exact below_new w _
  have p0 : w1.cell? ⟨w.heap.size, 0, none⟩ = some (.int .i64 sz) := by rw [hw1, World.cell?_alloc_new]; rfl
  have p1 : w1.cell? ⟨w.heap.size, 1, none⟩ = some (.slice An nn cn) := by rw [hw1, World.cell?_alloc_new]; rfl
  rw [← hw1]
  obtain ⟨B, hB⟩ : ∃ B, B = w.heap.size := ⟨_, rfl⟩
  have hBl : B < w1.heap.size := by rw [hw1, hB]; simp
  rw [← hB] at p0 p1 ⊢
  have HBH := Lib.hid hB
  have HA := Lib.hid (h.on hb0)
  have HB0 := Lib.hid hb0
  have HIN := Lib.hid (ha.on hb0)
  clear hw1 hB hb0 h ha hk hab htr hrow
  obtain ⟨b, off, rfl, hb, hcc⟩ := HIN.out.at_ (by omega)
  have c0 := hcc 0 (by omega)
  dsimp only at c0
  rw [Nat.add_zero, hxr] at c0
  have c0' : w1.cell? ⟨b, off, none⟩ = some (.int .i64 x) := c0
  have HC0 := Lib.hid c0'
  have HBB := Lib.hid hb
  have hrt : IntsAt w1 w1.heap.size (if ca = 1 then some ⟨b, off, none⟩ else some ⟨b, off + 1, none⟩) (ma - 1) r := (hxr ▸ HIN.out).tail1 hac
  by_cases hs3 : ca = 1
  · subst hs3
    obtain rfl : ma = 1 := by omega
    rw [if_pos rfl] at hrt
    have hrt := (show IntsAt w1 w1.heap.size (some ⟨b, off, none⟩) 0 r from hrt)
    have hm1 : 0 ≤ 1000000 := by omega
    have HRT := Lib.hid hrt
    have hm8 : 1 ≤ 1000000 := by omega
    have z1 : (1 : Int) ≤ (1 : Int) := by omega
    have z2 : (1 : Int) ≤ (1 : Int) := by omega
    have hm1 : 1 - 1 ≤ 1000000 := by omega
    clear hcc c0 hrt hal hxr hml hr48 hx0 hxl
    go_wp2_with fail
    refine wp_region_held_drew (S := (fun w' => w'.cell? ⟨B, 0, none⟩ = some (.int .i64 sz) ∧ w'.cell? ⟨B, 1, none⟩ = some (.slice An nn cn))) (by kernel_rfl) ⟨p0, p1⟩ (fun hHeld => ?_)
    have hd : Below w1.heap.size w1 w1.drew := (Below.refl w1.heap.size w1).drew
    have HAD := Lib.hid (HA.out.on hd)
    have HRD := Lib.hid (HRT.out.on hd)
    refine takeH (i := 0) (v := ?_) rfl rfl (by kernel_rfl) (by kernel_rfl) (by kernel_rfl) (fun _ _ _ h => h) (by rfl) ?_ hHeld ?_
    rotate_left
    · (intro w hSw; (try dsimp only at hSw); first | (go_simp; done) | (go_simp; with_reducible rfl))
    simp only [Act.put, List.setIfInBounds_toArray, List.set_cons_zero, List.set_cons_succ]
    refine takeH (i := 1) (v := ?_) rfl rfl (by kernel_rfl) (by kernel_rfl) (by kernel_rfl) (fun _ _ _ h => h) (by rfl) ?_ hHeld ?_
    rotate_left
    · (intro w hSw; (try dsimp only at hSw); first | (go_simp; done) | (go_simp; with_reducible rfl))
    simp only [Act.put, List.setIfInBounds_toArray, List.set_cons_zero, List.set_cons_succ]
    refine takeH (i := 2) (v := ?_) rfl rfl (by kernel_rfl) (by kernel_rfl) (by kernel_rfl) (fun _ _ _ h => h) (by rfl) ?_ hHeld ?_
    rotate_left
    · (intro w hSw; (try dsimp only at hSw); first | (go_simp; done) | (go_simp; with_reducible rfl))
    simp only [Act.put, List.setIfInBounds_toArray, List.set_cons_zero, List.set_cons_succ]
    refine takeH (i := 3) (v := ?_) rfl rfl (by kernel_rfl) (by kernel_rfl) (by kernel_rfl) (fun _ _ _ h => h) (by rfl) ?_ hHeld ?_
    rotate_left
    · (intro w hSw; (try dsimp only at hSw); first | (go_simp; done) | (go_simp; with_reducible rfl))
    simp only [Act.put, List.setIfInBounds_toArray, List.set_cons_zero, List.set_cons_succ]
    refine takeH (i := 4) (v := ?_) rfl rfl (by kernel_rfl) (by kernel_rfl) (by kernel_rfl) (fun _ _ _ h => h) (by rfl) ?_ hHeld ?_
    rotate_left
    · (intro w hSw; (try dsimp only at hSw); first | (go_simp; done) | (go_simp; with_reducible rfl))
    simp only [Act.put, List.setIfInBounds_toArray, List.set_cons_zero, List.set_cons_succ]
    refine wpAnyH_ready (rs := [5]) (by kernel_rfl) (by simp) ?_
    refine AllReadyH.cons rfl (fun K hK => ?_) AllReadyH.nil
    go_simp
    refine (refValues_any An A _ Ae nn cn n c 0 0 ce _ sz nums r E ss _ HK.out.may ⟨HK.out.sz1, HK.out.sz3⟩ HK.out.nn HK.out.n hm1 M env HK.out.md HK.out.en HTR.out HAD.out.nu HAD.out.sy HRD.out HAD.out.en).mono ?_
    rintro e w2 ⟨v2, rfl, hv2, hb2⟩
    have hb2' := hd.trans (hb2.mono hd.size)
    have HB2 := Lib.hid hb2'
    have q0 : w2.cell? ⟨B, 0, none⟩ = some (.int .i64 sz) := by rw [hb2'.cell (p := ⟨B, 0, none⟩) hBl]; exact p0
    have q1 : w2.cell? ⟨B, 1, none⟩ = some (.slice An nn cn) := by rw [hb2'.cell (p := ⟨B, 1, none⟩) hBl]; exact p1
    have cx : w2.cell? ⟨b, off, none⟩ = some (.int .i64 x) := by rw [hb2'.cell (p := ⟨b, off, none⟩) HBB.out]; exact HC0.out
    obtain ⟨A9, c9, hv9, _, hi9⟩ := hv2.intsAt
    have hvl := (vals_trm (m := M) (env := env) HK.out.may HTR.out).2
    obtain ⟨V, hV⟩ : ∃ V, V = vals ss M env r := ⟨_, rfl⟩
    rw [← hV] at hv9 hi9 hvl
    obtain ⟨L9, hL9⟩ : ∃ L9, L9 = V.length := ⟨_, rfl⟩
    rw [← hL9] at hv9 hi9 hvl
    have hl9 : L9 ≤ 17592186044416 := by rw [hvl]; have := trm_le HTR.out; have := HRL.out; omega
    subst hv9
    have HI9 := Lib.hid hi9
    have HVV := Lib.hid hV
    have HL9 := Lib.hid hL9
    have HVL := Lib.hid hvl
    clear hd hb2 hb2' hv2 hi9 hV hL9 hvl
    go_wp2_with fail
    refine hK.out _ _ ?_ (fun hHeld => ?_)
    · exact ⟨q0, q1⟩
    clear hK K
    refine takeH (i := 6) (v := ?_) rfl rfl (by kernel_rfl) (by kernel_rfl) (by kernel_rfl) (fun _ _ _ h => h) (by rfl) ?_ hHeld ?_
    rotate_left
    · (intro w hSw; (try dsimp only at hSw); first | (go_simp; done) | (go_simp; with_reducible rfl))
    simp only [Act.put, List.setIfInBounds_toArray, List.set_cons_zero, List.set_cons_succ]
    refine wpAnyH_done (by kernel_rfl) ?_ _
    by_cases hx : x = 0
    · subst hx
      have hi0 : intAt a 0 = 0 := by rw [HIA.out]; rfl
      obtain ⟨z, y, ha', hz, hy⟩ := eq_sides (p := ⟨false, a⟩) HAB.out hi0
      have hry : r = z ++ y := by
        have : a = 0 :: (z ++ y) := ha'
        rw [HIA.out] at this
        injection this
      have hL2 : L9 = 2 := by
        rw [HL9.out, HVV.out, hry]
        exact (vals_trm (m := M) (env := env) HK.out.may (trm_append hz hy)).2
      have HZ : Hid (atomH ss M env a = decide (intAt V 0 = intAt V 1)) := by
        show _ = _
        rw [atomH_eq hi0, HIA.out, HVV.out]; rfl
      subst hL2
      obtain ⟨b2, o2, rfl, hb2, hc2⟩ := HI9.out.at_ (by omega)
      have d0 := hc2 0 (by omega)
      have d1 := hc2 1 (by omega)
      dsimp only at d0 d1
      rw [Nat.add_zero] at d0
      clear hc2 hry ha' hz hy
      obtain ⟨y0, hy0⟩ : ∃ y0, y0 = intAt V 0 := ⟨_, rfl⟩
      obtain ⟨y1, hy1⟩ : ∃ y1, y1 = intAt V 1 := ⟨_, rfl⟩
      rw [← hy0] at d0 HZ
      rw [← hy1] at d1 HZ
      clear hy0 hy1
      go_wp2_with fail
      go_quiet (fail)
      go_wp2
      go_ret
      exact ⟨ret_b (by rw [HZ.out]; rfl), HB0.out.trans ((HB2.out.trans ((below_drewN w2 nq).mono HB2.out.size)).mono (by have := HBH.out; omega))⟩
    · have g0 : (x == 0) = false := by simpa using hx
      have HZ : Hid (atomH ss M env a = decide (lookN nums x V % 2 = 1)) := by
        show _ = _
        rw [atomH_look (by rw [HIA.out]; exact hx), HIA.out, HVV.out, HK.out.md]; rfl
      clear hx
      have hlk := lookN_range nums x V
      go_wp2_with fail
      have zp : 0 < 1 := by omega
      refine wp_region_held_drew (S := (fun w' => w'.cell? ⟨B, 0, none⟩ = some (.int .i64 sz) ∧ w'.cell? ⟨B, 1, none⟩ = some (.slice An nn cn) ∧ w'.cell? ⟨b, off, none⟩ = some (.int .i64 x))) (by kernel_rfl) ⟨q0, q1, cx⟩ (fun hHeld => ?_)
      have hd : Below w2.heap.size w2 w2.drew := (Below.refl w2.heap.size w2).drew
      have HID := Lib.hid (HI9.out.on hd)
      have HND := Lib.hid ((HA.out.on HB2.out).nu.on hd)
      refine takeH (i := 0) (v := ?_) rfl rfl (by kernel_rfl) (by kernel_rfl) (by kernel_rfl) (fun _ _ _ h => h) (by rfl) ?_ hHeld ?_
      rotate_left
      · (intro w hSw; (try dsimp only at hSw); first | (go_simp; done) | (go_simp; with_reducible rfl))
      simp only [Act.put, List.setIfInBounds_toArray, List.set_cons_zero, List.set_cons_succ]
      refine takeH (i := 1) (v := ?_) rfl rfl (by kernel_rfl) (by kernel_rfl) (by kernel_rfl) (fun _ _ _ h => h) (by rfl) ?_ hHeld ?_
      rotate_left
      · (intro w hSw; (try dsimp only at hSw); first | (go_simp; done) | (go_simp; with_reducible rfl))
      simp only [Act.put, List.setIfInBounds_toArray, List.set_cons_zero, List.set_cons_succ]
      refine takeH (i := 2) (v := ?_) rfl rfl (by kernel_rfl) (by kernel_rfl) (by kernel_rfl) (fun _ _ _ h => h) (by rfl) ?_ hHeld ?_
      rotate_left
      · (intro w hSw; (try dsimp only at hSw); first | (go_simp; done) | (go_simp; with_reducible rfl))
      simp only [Act.put, List.setIfInBounds_toArray, List.set_cons_zero, List.set_cons_succ]
      refine takeH (i := 3) (v := ?_) rfl rfl (by kernel_rfl) (by kernel_rfl) (by kernel_rfl) (fun _ _ _ h => h) (by rfl) ?_ hHeld ?_
      rotate_left
      · (intro w hSw; (try dsimp only at hSw); first | (go_simp; done) | (go_simp; with_reducible rfl))
      simp only [Act.put, List.setIfInBounds_toArray, List.set_cons_zero, List.set_cons_succ]
      refine takeH (i := 4) (v := ?_) rfl rfl (by kernel_rfl) (by kernel_rfl) (by kernel_rfl) (fun _ _ _ h => h) (by rfl) ?_ hHeld ?_
      rotate_left
      · (intro w hSw; (try dsimp only at hSw); first | (go_simp; done) | (go_simp; with_reducible rfl))
      simp only [Act.put, List.setIfInBounds_toArray, List.set_cons_zero, List.set_cons_succ]
      refine wpAnyH_ready (rs := [5]) (by kernel_rfl) (by simp) ?_
      refine AllReadyH.cons rfl (fun K hK => ?_) AllReadyH.nil
      go_simp
      refine (refLook_any An A9 nn cn L9 c9 sz x nums V _ HND.out HID.out HK.out.nn hl9).mono ?_
      rintro e w3 ⟨rfl, hb3⟩
      have hb3' := hd.trans (hb3.mono hd.size)
      have HB3 := Lib.hid (HB2.out.trans (hb3'.mono HB2.out.size))
      have q0' : w3.cell? ⟨B, 0, none⟩ = some (.int .i64 sz) := by rw [HB3.out.cell (p := ⟨B, 0, none⟩) hBl]; exact p0
      have q1' : w3.cell? ⟨B, 1, none⟩ = some (.slice An nn cn) := by rw [HB3.out.cell (p := ⟨B, 1, none⟩) hBl]; exact p1
      have cx' : w3.cell? ⟨b, off, none⟩ = some (.int .i64 x) := by rw [HB3.out.cell (p := ⟨b, off, none⟩) HBB.out]; exact HC0.out
      obtain ⟨LK, hLK⟩ : ∃ LK, LK = lookN nums x V := ⟨_, rfl⟩
      rw [← hLK] at HZ hlk ⊢
      have hbit : bits .and .i64 LK 1 = LK % 2 := and1 hlk.1 hlk.2
      have HBIT := Lib.hid hbit
      clear hb3 hb3' hd hLK hbit
      go_wp2_with fail
      refine hK.out _ _ ?_ (fun hHeld => ?_)
      · exact ⟨q0', q1', cx'⟩
      clear hK K
      refine takeH (i := 6) (v := ?_) rfl rfl (by kernel_rfl) (by kernel_rfl) (by kernel_rfl) (fun _ _ _ h => h) (by rfl) ?_ hHeld ?_
      rotate_left
      · (intro w hSw; (try dsimp only at hSw); first | (go_simp; done) | (go_simp; with_reducible rfl))
      simp only [Act.put, List.setIfInBounds_toArray, List.set_cons_zero, List.set_cons_succ]
      refine takeH (i := 7) (v := ?_) rfl rfl (by kernel_rfl) (by kernel_rfl) (by kernel_rfl) (fun _ _ _ h => h) (by rfl) ?_ hHeld ?_
      rotate_left
      · (intro w hSw; (try dsimp only at hSw); first | (go_simp; done) | (go_simp; with_reducible rfl))
      simp only [Act.put, List.setIfInBounds_toArray, List.set_cons_zero, List.set_cons_succ]
      refine takeH (i := 8) (v := ?_) rfl rfl (by kernel_rfl) (by kernel_rfl) (by kernel_rfl) (fun _ _ _ h => h) (by rfl) ?_ hHeld ?_
      rotate_left
      · (intro w hSw; (try dsimp only at hSw); first | (go_simp; done) | (go_simp; with_reducible rfl))
      simp only [Act.put, List.setIfInBounds_toArray, List.set_cons_zero, List.set_cons_succ]
      refine wpAnyH_done (by kernel_rfl) ?_ _
      go_wp2
      go_ret
      exact ⟨ret_bool (by rw [HBIT.out, HZ.out]; rfl), HB0.out.trans (HB3.out.mono (by have := HBH.out; omega))⟩
  · rw [if_neg hs3] at hrt
    have HRT := Lib.hid hrt
    have hm8 : ma ≤ 1000000 := by omega
    have z1 : (1 : Int) ≤ (ma : Int) := by omega
    have z2 : (ma : Int) ≤ (ca : Int) := by omega
    have hm1 : ma - 1 ≤ 1000000 := by omega
    clear hcc c0 hrt hal hxr hml hr48 hx0 hxl
    go_wp2_with fail
    refine wp_region_held_drew (S := (fun w' => w'.cell? ⟨B, 0, none⟩ = some (.int .i64 sz) ∧ w'.cell? ⟨B, 1, none⟩ = some (.slice An nn cn))) (by kernel_rfl) ⟨p0, p1⟩ (fun hHeld => ?_)
    have hd : Below w1.heap.size w1 w1.drew := (Below.refl w1.heap.size w1).drew
    have HAD := Lib.hid (HA.out.on hd)
    have HRD := Lib.hid (HRT.out.on hd)
    refine takeH (i := 0) (v := ?_) rfl rfl (by kernel_rfl) (by kernel_rfl) (by kernel_rfl) (fun _ _ _ h => h) (by rfl) ?_ hHeld ?_
    rotate_left
    · (intro w hSw; (try dsimp only at hSw); first | (go_simp; done) | (go_simp; with_reducible rfl))
    simp only [Act.put, List.setIfInBounds_toArray, List.set_cons_zero, List.set_cons_succ]
    refine takeH (i := 1) (v := ?_) rfl rfl (by kernel_rfl) (by kernel_rfl) (by kernel_rfl) (fun _ _ _ h => h) (by rfl) ?_ hHeld ?_
    rotate_left
    · (intro w hSw; (try dsimp only at hSw); first | (go_simp; done) | (go_simp; with_reducible rfl))
    simp only [Act.put, List.setIfInBounds_toArray, List.set_cons_zero, List.set_cons_succ]
    refine takeH (i := 2) (v := ?_) rfl rfl (by kernel_rfl) (by kernel_rfl) (by kernel_rfl) (fun _ _ _ h => h) (by rfl) ?_ hHeld ?_
    rotate_left
    · (intro w hSw; (try dsimp only at hSw); first | (go_simp; done) | (go_simp; with_reducible rfl))
    simp only [Act.put, List.setIfInBounds_toArray, List.set_cons_zero, List.set_cons_succ]
    refine takeH (i := 3) (v := ?_) rfl rfl (by kernel_rfl) (by kernel_rfl) (by kernel_rfl) (fun _ _ _ h => h) (by rfl) ?_ hHeld ?_
    rotate_left
    · (intro w hSw; (try dsimp only at hSw); first | (go_simp; done) | (go_simp; with_reducible rfl))
    simp only [Act.put, List.setIfInBounds_toArray, List.set_cons_zero, List.set_cons_succ]
    refine takeH (i := 4) (v := ?_) rfl rfl (by kernel_rfl) (by kernel_rfl) (by kernel_rfl) (fun _ _ _ h => h) (by rfl) ?_ hHeld ?_
    rotate_left
    · (intro w hSw; (try dsimp only at hSw); first | (go_simp; done) | (go_simp; with_reducible rfl))
    simp only [Act.put, List.setIfInBounds_toArray, List.set_cons_zero, List.set_cons_succ]
    refine wpAnyH_ready (rs := [5]) (by kernel_rfl) (by simp) ?_
    refine AllReadyH.cons rfl (fun K hK => ?_) AllReadyH.nil
    go_simp
    refine (refValues_any An A _ Ae nn cn n c (ma - 1) (ca - 1) ce _ sz nums r E ss _ HK.out.may ⟨HK.out.sz1, HK.out.sz3⟩ HK.out.nn HK.out.n hm1 M env HK.out.md HK.out.en HTR.out HAD.out.nu HAD.out.sy HRD.out HAD.out.en).mono ?_
    rintro e w2 ⟨v2, rfl, hv2, hb2⟩
    have hb2' := hd.trans (hb2.mono hd.size)
    have HB2 := Lib.hid hb2'
    have q0 : w2.cell? ⟨B, 0, none⟩ = some (.int .i64 sz) := by rw [hb2'.cell (p := ⟨B, 0, none⟩) hBl]; exact p0
    have q1 : w2.cell? ⟨B, 1, none⟩ = some (.slice An nn cn) := by rw [hb2'.cell (p := ⟨B, 1, none⟩) hBl]; exact p1
    have cx : w2.cell? ⟨b, off, none⟩ = some (.int .i64 x) := by rw [hb2'.cell (p := ⟨b, off, none⟩) HBB.out]; exact HC0.out
    obtain ⟨A9, c9, hv9, _, hi9⟩ := hv2.intsAt
    have hvl := (vals_trm (m := M) (env := env) HK.out.may HTR.out).2
    obtain ⟨V, hV⟩ : ∃ V, V = vals ss M env r := ⟨_, rfl⟩
    rw [← hV] at hv9 hi9 hvl
    obtain ⟨L9, hL9⟩ : ∃ L9, L9 = V.length := ⟨_, rfl⟩
    rw [← hL9] at hv9 hi9 hvl
    have hl9 : L9 ≤ 17592186044416 := by rw [hvl]; have := trm_le HTR.out; have := HRL.out; omega
    subst hv9
    have HI9 := Lib.hid hi9
    have HVV := Lib.hid hV
    have HL9 := Lib.hid hL9
    have HVL := Lib.hid hvl
    clear hd hb2 hb2' hv2 hi9 hV hL9 hvl
    go_wp2_with fail
    refine hK.out _ _ ?_ (fun hHeld => ?_)
    · exact ⟨q0, q1⟩
    clear hK K
    refine takeH (i := 6) (v := ?_) rfl rfl (by kernel_rfl) (by kernel_rfl) (by kernel_rfl) (fun _ _ _ h => h) (by rfl) ?_ hHeld ?_
    rotate_left
    · (intro w hSw; (try dsimp only at hSw); first | (go_simp; done) | (go_simp; with_reducible rfl))
    simp only [Act.put, List.setIfInBounds_toArray, List.set_cons_zero, List.set_cons_succ]
    refine wpAnyH_done (by kernel_rfl) ?_ _
    by_cases hx : x = 0
    · subst hx
      have hi0 : intAt a 0 = 0 := by rw [HIA.out]; rfl
      obtain ⟨z, y, ha', hz, hy⟩ := eq_sides (p := ⟨false, a⟩) HAB.out hi0
      have hry : r = z ++ y := by
        have : a = 0 :: (z ++ y) := ha'
        rw [HIA.out] at this
        injection this
      have hL2 : L9 = 2 := by
        rw [HL9.out, HVV.out, hry]
        exact (vals_trm (m := M) (env := env) HK.out.may (trm_append hz hy)).2
      have HZ : Hid (atomH ss M env a = decide (intAt V 0 = intAt V 1)) := by
        show _ = _
        rw [atomH_eq hi0, HIA.out, HVV.out]; rfl
      subst hL2
      obtain ⟨b2, o2, rfl, hb2, hc2⟩ := HI9.out.at_ (by omega)
      have d0 := hc2 0 (by omega)
      have d1 := hc2 1 (by omega)
      dsimp only at d0 d1
      rw [Nat.add_zero] at d0
      clear hc2 hry ha' hz hy
      obtain ⟨y0, hy0⟩ : ∃ y0, y0 = intAt V 0 := ⟨_, rfl⟩
      obtain ⟨y1, hy1⟩ : ∃ y1, y1 = intAt V 1 := ⟨_, rfl⟩
      rw [← hy0] at d0 HZ
      rw [← hy1] at d1 HZ
      clear hy0 hy1
      go_wp2_with fail
      go_quiet (fail)
      go_wp2
      go_ret
      exact ⟨ret_b (by rw [HZ.out]; rfl), HB0.out.trans ((HB2.out.trans ((below_drewN w2 nq).mono HB2.out.size)).mono (by have := HBH.out; omega))⟩
    · have g0 : (x == 0) = false := by simpa using hx
      have HZ : Hid (atomH ss M env a = decide (lookN nums x V % 2 = 1)) := by
        show _ = _
        rw [atomH_look (by rw [HIA.out]; exact hx), HIA.out, HVV.out, HK.out.md]; rfl
      clear hx
      have hlk := lookN_range nums x V
      go_wp2_with fail
      have zp : 0 < ma := by omega
      refine wp_region_held_drew (S := (fun w' => w'.cell? ⟨B, 0, none⟩ = some (.int .i64 sz) ∧ w'.cell? ⟨B, 1, none⟩ = some (.slice An nn cn) ∧ w'.cell? ⟨b, off, none⟩ = some (.int .i64 x))) (by kernel_rfl) ⟨q0, q1, cx⟩ (fun hHeld => ?_)
      have hd : Below w2.heap.size w2 w2.drew := (Below.refl w2.heap.size w2).drew
      have HID := Lib.hid (HI9.out.on hd)
      have HND := Lib.hid ((HA.out.on HB2.out).nu.on hd)
      refine takeH (i := 0) (v := ?_) rfl rfl (by kernel_rfl) (by kernel_rfl) (by kernel_rfl) (fun _ _ _ h => h) (by rfl) ?_ hHeld ?_
      rotate_left
      · (intro w hSw; (try dsimp only at hSw); first | (go_simp; done) | (go_simp; with_reducible rfl))
      simp only [Act.put, List.setIfInBounds_toArray, List.set_cons_zero, List.set_cons_succ]
      refine takeH (i := 1) (v := ?_) rfl rfl (by kernel_rfl) (by kernel_rfl) (by kernel_rfl) (fun _ _ _ h => h) (by rfl) ?_ hHeld ?_
      rotate_left
      · (intro w hSw; (try dsimp only at hSw); first | (go_simp; done) | (go_simp; with_reducible rfl))
      simp only [Act.put, List.setIfInBounds_toArray, List.set_cons_zero, List.set_cons_succ]
      refine takeH (i := 2) (v := ?_) rfl rfl (by kernel_rfl) (by kernel_rfl) (by kernel_rfl) (fun _ _ _ h => h) (by rfl) ?_ hHeld ?_
      rotate_left
      · (intro w hSw; (try dsimp only at hSw); first | (go_simp; done) | (go_simp; with_reducible rfl))
      simp only [Act.put, List.setIfInBounds_toArray, List.set_cons_zero, List.set_cons_succ]
      refine takeH (i := 3) (v := ?_) rfl rfl (by kernel_rfl) (by kernel_rfl) (by kernel_rfl) (fun _ _ _ h => h) (by rfl) ?_ hHeld ?_
      rotate_left
      · (intro w hSw; (try dsimp only at hSw); first | (go_simp; done) | (go_simp; with_reducible rfl))
      simp only [Act.put, List.setIfInBounds_toArray, List.set_cons_zero, List.set_cons_succ]
      refine takeH (i := 4) (v := ?_) rfl rfl (by kernel_rfl) (by kernel_rfl) (by kernel_rfl) (fun _ _ _ h => h) (by rfl) ?_ hHeld ?_
      rotate_left
      · (intro w hSw; (try dsimp only at hSw); first | (go_simp; done) | (go_simp; with_reducible rfl))
      simp only [Act.put, List.setIfInBounds_toArray, List.set_cons_zero, List.set_cons_succ]
      refine wpAnyH_ready (rs := [5]) (by kernel_rfl) (by simp) ?_
      refine AllReadyH.cons rfl (fun K hK => ?_) AllReadyH.nil
      go_simp
      refine (refLook_any An A9 nn cn L9 c9 sz x nums V _ HND.out HID.out HK.out.nn hl9).mono ?_
      rintro e w3 ⟨rfl, hb3⟩
      have hb3' := hd.trans (hb3.mono hd.size)
      have HB3 := Lib.hid (HB2.out.trans (hb3'.mono HB2.out.size))
      have q0' : w3.cell? ⟨B, 0, none⟩ = some (.int .i64 sz) := by rw [HB3.out.cell (p := ⟨B, 0, none⟩) hBl]; exact p0
      have q1' : w3.cell? ⟨B, 1, none⟩ = some (.slice An nn cn) := by rw [HB3.out.cell (p := ⟨B, 1, none⟩) hBl]; exact p1
      have cx' : w3.cell? ⟨b, off, none⟩ = some (.int .i64 x) := by rw [HB3.out.cell (p := ⟨b, off, none⟩) HBB.out]; exact HC0.out
      obtain ⟨LK, hLK⟩ : ∃ LK, LK = lookN nums x V := ⟨_, rfl⟩
      rw [← hLK] at HZ hlk ⊢
      have hbit : bits .and .i64 LK 1 = LK % 2 := and1 hlk.1 hlk.2
      have HBIT := Lib.hid hbit
      clear hb3 hb3' hd hLK hbit
      go_wp2_with fail
      refine hK.out _ _ ?_ (fun hHeld => ?_)
      · exact ⟨q0', q1', cx'⟩
      clear hK K
      refine takeH (i := 6) (v := ?_) rfl rfl (by kernel_rfl) (by kernel_rfl) (by kernel_rfl) (fun _ _ _ h => h) (by rfl) ?_ hHeld ?_
      rotate_left
      · (intro w hSw; (try dsimp only at hSw); first | (go_simp; done) | (go_simp; with_reducible rfl))
      simp only [Act.put, List.setIfInBounds_toArray, List.set_cons_zero, List.set_cons_succ]
      refine takeH (i := 7) (v := ?_) rfl rfl (by kernel_rfl) (by kernel_rfl) (by kernel_rfl) (fun _ _ _ h => h) (by rfl) ?_ hHeld ?_
      rotate_left
      · (intro w hSw; (try dsimp only at hSw); first | (go_simp; done) | (go_simp; with_reducible rfl))
      simp only [Act.put, List.setIfInBounds_toArray, List.set_cons_zero, List.set_cons_succ]
      refine takeH (i := 8) (v := ?_) rfl rfl (by kernel_rfl) (by kernel_rfl) (by kernel_rfl) (fun _ _ _ h => h) (by rfl) ?_ hHeld ?_
      rotate_left
      · (intro w hSw; (try dsimp only at hSw); first | (go_simp; done) | (go_simp; with_reducible rfl))
      simp only [Act.put, List.setIfInBounds_toArray, List.set_cons_zero, List.set_cons_succ]
      refine wpAnyH_done (by kernel_rfl) ?_ _
      go_wp2
      go_ret
      exact ⟨ret_bool (by rw [HBIT.out, HZ.out]; rfl), HB0.out.trans (HB3.out.mono (by have := HBH.out; omega))⟩
end Go.Proofs.YtcjpopjcpgipjaaDoor

namespace Go.Proofs.YtcjpopjcpgipjaaDoor
open Go.RowKit Go.Deep
set_option linter.unusedSimpArgs false
set_option linter.unusedVariables false
set_option maxRecDepth 100000

theorem two_boxes' (w : World) (a b : Array Value) (t u : TypeId) : (∀ i, i < a.size → ((w.alloc (.cells a t)).alloc (.cells b u)).cell? ⟨w.heap.size, i, none⟩ = a[i]?) ∧ (∀ i, ((w.alloc (.cells a t)).alloc (.cells b u)).cell? ⟨w.heap.size + 1, i, none⟩ = b[i]?) ∧ ((w.alloc (.cells a t)).alloc (.cells b u)).heap.size = w.heap.size + 2 := by
  refine ⟨fun i hi => ?_, fun i => ?_, by simp⟩
  · rw [(below_new (w.alloc (.cells a t)) _).cell (p := ⟨w.heap.size, i, none⟩) (by simp), World.cell?_alloc_new]
  · have e : (w.alloc (.cells a t)).heap.size = w.heap.size + 1 := by simp
    rw [← e, World.cell?_alloc_new]
set_option maxHeartbeats 8000000 in
theorem refLitH_any (An A Aa Ae : Option Addr) (nn cn n c ma ca ce : Nat) (sz : Int) (nums t E : List Int) (x : Bool) (ss : List Sym) (w : World) (M : Md) (env : Nat → Int) (hk : MdOk sz nums nn n ss E M env) (h : MdAt w An nn nums A n ss Ae E) (hl : LitAt w w.heap.size Aa ma ca ⟨x, t⟩) (hab : litB ss ⟨x, t⟩ = true) :
    Calls Tryd.prog 73 #[mdV sz An nn cn, .slice A n c, .agg #[.bool x, .slice Aa ma ca], .slice Ae 24 ce] w fun e w' => e = .returned (.bool (litH ss M env ⟨x, t⟩)) ∧ Below w.heap.size w w' := by
  have HK := Lib.hid hk
  have HAB : Hid (atomB ss t = true) := hab
  obtain ⟨b1, b2, b3⟩ := two_boxes' w #[.int .i64 sz, .slice An nn cn] #[.bool x, .slice Aa ma ca] 52 75
  have hb0 := below_new2 w (.cells #[.int .i64 sz, .slice An nn cn] 52) (.cells #[.bool x, .slice Aa ma ca] 75)
  have p0 := b1 0 (by simp)
  have p1 := b1 1 (by simp)
  have q0 := b2 0
  have q1 := b2 1
  obtain ⟨w1, hw1⟩ : ∃ w1, w1 = (w.alloc (.cells #[.int .i64 sz, .slice An nn cn] 52)).alloc (.cells #[.bool x, .slice Aa ma ca] 75) := ⟨_, rfl⟩
  rw [← hw1] at p0 p1 q0 q1 hb0 b3
  have p0 : w1.cell? ⟨w.heap.size, 0, none⟩ = some (.int .i64 sz) := p0
  have p1 : w1.cell? ⟨w.heap.size, 1, none⟩ = some (.slice An nn cn) := p1
  have q0 : w1.cell? ⟨w.heap.size + 1, 0, none⟩ = some (.bool x) := q0
  have q1 : w1.cell? ⟨w.heap.size + 1, 1, none⟩ = some (.slice Aa ma ca) := q1
  have HA := Lib.hid (h.on hb0)
  have HL := Lib.hid (hl.on hb0)
  have HB0 := Lib.hid hb0
  clear b1 b2 h hl hk hab hb0
  unfold mdV
  go_enter Tryd.func73, Tryd.ntmps73
  go_upto_region 1 with (fail)
  rw [← hw1]
  clear hw1
  cases x
  · cases hat : atomH ss M env t
    · have HR : Hid (litH ss M env ⟨false, t⟩ = false) := by show litH ss M env ⟨false, t⟩ = false; unfold litH; rw [show (⟨false, t⟩ : Lt).atom = t from rfl, hat]; rfl
      have HAT := Lib.hid hat
      clear hat
      refine wp_region_held_drew (S := (fun w' => w'.cell? ⟨w.heap.size, 0, none⟩ = some (.int .i64 sz) ∧ w'.cell? ⟨w.heap.size, 1, none⟩ = some (.slice An nn cn) ∧ w'.cell? ⟨w.heap.size + 1, 0, none⟩ = some (.bool false) ∧ w'.cell? ⟨w.heap.size + 1, 1, none⟩ = some (.slice Aa ma ca))) (by kernel_rfl) ⟨p0, p1, q0, q1⟩ (fun hHeld => ?_)
      have hd : Below w1.heap.size w1 w1.drew := (Below.refl w1.heap.size w1).drew
      have HMD := Lib.hid (HA.out.on hd)
      have HLD := Lib.hid (HL.out.on hd)
      refine takeH (i := 0) (v := ?_) rfl rfl (by kernel_rfl) (by kernel_rfl) (by kernel_rfl) (fun _ _ _ h => h) (by rfl) ?_ hHeld ?_
      rotate_left
      · (intro w hSw; (try dsimp only at hSw); first | (go_simp; done) | (go_simp; with_reducible rfl))
      simp only [Act.put, List.setIfInBounds_toArray, List.set_cons_zero, List.set_cons_succ]
      refine takeH (i := 1) (v := ?_) rfl rfl (by kernel_rfl) (by kernel_rfl) (by kernel_rfl) (fun _ _ _ h => h) (by rfl) ?_ hHeld ?_
      rotate_left
      · (intro w hSw; (try dsimp only at hSw); first | (go_simp; done) | (go_simp; with_reducible rfl))
      simp only [Act.put, List.setIfInBounds_toArray, List.set_cons_zero, List.set_cons_succ]
      refine takeH (i := 2) (v := ?_) rfl rfl (by kernel_rfl) (by kernel_rfl) (by kernel_rfl) (fun _ _ _ h => h) (by rfl) ?_ hHeld ?_
      rotate_left
      · (intro w hSw; (try dsimp only at hSw); first | (go_simp; done) | (go_simp; with_reducible rfl))
      simp only [Act.put, List.setIfInBounds_toArray, List.set_cons_zero, List.set_cons_succ]
      refine takeH (i := 3) (v := ?_) rfl rfl (by kernel_rfl) (by kernel_rfl) (by kernel_rfl) (fun _ _ _ h => h) (by rfl) ?_ hHeld ?_
      rotate_left
      · (intro w hSw; (try dsimp only at hSw); first | (go_simp; done) | (go_simp; with_reducible rfl))
      simp only [Act.put, List.setIfInBounds_toArray, List.set_cons_zero, List.set_cons_succ]
      refine takeH (i := 4) (v := ?_) rfl rfl (by kernel_rfl) (by kernel_rfl) (by kernel_rfl) (fun _ _ _ h => h) (by rfl) ?_ hHeld ?_
      rotate_left
      · (intro w hSw; (try dsimp only at hSw); first | (go_simp; done) | (go_simp; with_reducible rfl))
      simp only [Act.put, List.setIfInBounds_toArray, List.set_cons_zero, List.set_cons_succ]
      refine takeH (i := 6) (v := ?_) rfl rfl (by kernel_rfl) (by kernel_rfl) (by kernel_rfl) (fun _ _ _ h => h) (by rfl) ?_ hHeld ?_
      rotate_left
      · (intro w hSw; (try dsimp only at hSw); first | (go_simp; done) | (go_simp; with_reducible rfl))
      simp only [Act.put, List.setIfInBounds_toArray, List.set_cons_zero, List.set_cons_succ]
      refine takeH (i := 7) (v := ?_) rfl rfl (by kernel_rfl) (by kernel_rfl) (by kernel_rfl) (fun _ _ _ h => h) (by rfl) ?_ hHeld ?_
      rotate_left
      · (intro w hSw; (try dsimp only at hSw); first | (go_simp; done) | (go_simp; with_reducible rfl))
      simp only [Act.put, List.setIfInBounds_toArray, List.set_cons_zero, List.set_cons_succ]
      refine wpAnyH_ready (rs := [5]) (by kernel_rfl) (by simp) ?_
      refine AllReadyH.cons rfl (fun K hK => ?_) AllReadyH.nil
      go_simp
      refine (refAtom_any An A Aa Ae nn cn n c ma ca ce sz nums t E ss _ M env HK.out HMD.out HLD.out.at_ HLD.out.cap HAB.out).mono ?_
      rintro e w3 ⟨rfl, hb3⟩
      rw [HAT.out]
      have hb2 := hd.trans (hb3.mono hd.size)
      have HB3 := Lib.hid (HB0.out.trans (hb2.mono HB0.out.size))
      have p0' : w3.cell? ⟨w.heap.size, 0, none⟩ = some (.int .i64 sz) := by rw [hb2.cell (p := ⟨w.heap.size, 0, none⟩) (by show w.heap.size < _; omega)]; exact p0
      have p1' : w3.cell? ⟨w.heap.size, 1, none⟩ = some (.slice An nn cn) := by rw [hb2.cell (p := ⟨w.heap.size, 1, none⟩) (by show w.heap.size < _; omega)]; exact p1
      have q0' : w3.cell? ⟨w.heap.size + 1, 0, none⟩ = some (.bool false) := by rw [hb2.cell (p := ⟨w.heap.size + 1, 0, none⟩) (by show w.heap.size + 1 < _; omega)]; exact q0
      have q1' : w3.cell? ⟨w.heap.size + 1, 1, none⟩ = some (.slice Aa ma ca) := by rw [hb2.cell (p := ⟨w.heap.size + 1, 1, none⟩) (by show w.heap.size + 1 < _; omega)]; exact q1
      clear hb2 hb3 hd
      go_wp2_with fail
      refine hK.out _ _ ?_ (fun hHeld => ?_)
      · exact ⟨p0', p1', q0', q1'⟩
      clear hK K
      refine takeH (i := 8) (v := ?_) rfl rfl (by kernel_rfl) (by kernel_rfl) (by kernel_rfl) (fun _ _ _ h => h) (by rfl) ?_ hHeld ?_
      rotate_left
      · (intro w hSw; (try dsimp only at hSw); first | (go_simp; done) | (go_simp; with_reducible rfl))
      simp only [Act.put, List.setIfInBounds_toArray, List.set_cons_zero, List.set_cons_succ]
      refine takeH (i := 9) (v := ?_) rfl rfl (by kernel_rfl) (by kernel_rfl) (by kernel_rfl) (fun _ _ _ h => h) (by rfl) ?_ hHeld ?_
      rotate_left
      · (intro w hSw; (try dsimp only at hSw); first | (go_simp; done) | (go_simp; with_reducible rfl))
      simp only [Act.put, List.setIfInBounds_toArray, List.set_cons_zero, List.set_cons_succ]
      refine wpAnyH_done (by kernel_rfl) ?_ _
      go_wp2
      go_ret
      exact ⟨ret_bool HR.out.symm, HB3.out⟩
    · have HR : Hid (litH ss M env ⟨false, t⟩ = true) := by show litH ss M env ⟨false, t⟩ = true; unfold litH; rw [show (⟨false, t⟩ : Lt).atom = t from rfl, hat]; rfl
      have HAT := Lib.hid hat
      clear hat
      refine wp_region_held_drew (S := (fun w' => w'.cell? ⟨w.heap.size, 0, none⟩ = some (.int .i64 sz) ∧ w'.cell? ⟨w.heap.size, 1, none⟩ = some (.slice An nn cn) ∧ w'.cell? ⟨w.heap.size + 1, 0, none⟩ = some (.bool false) ∧ w'.cell? ⟨w.heap.size + 1, 1, none⟩ = some (.slice Aa ma ca))) (by kernel_rfl) ⟨p0, p1, q0, q1⟩ (fun hHeld => ?_)
      have hd : Below w1.heap.size w1 w1.drew := (Below.refl w1.heap.size w1).drew
      have HMD := Lib.hid (HA.out.on hd)
      have HLD := Lib.hid (HL.out.on hd)
      refine takeH (i := 0) (v := ?_) rfl rfl (by kernel_rfl) (by kernel_rfl) (by kernel_rfl) (fun _ _ _ h => h) (by rfl) ?_ hHeld ?_
      rotate_left
      · (intro w hSw; (try dsimp only at hSw); first | (go_simp; done) | (go_simp; with_reducible rfl))
      simp only [Act.put, List.setIfInBounds_toArray, List.set_cons_zero, List.set_cons_succ]
      refine takeH (i := 1) (v := ?_) rfl rfl (by kernel_rfl) (by kernel_rfl) (by kernel_rfl) (fun _ _ _ h => h) (by rfl) ?_ hHeld ?_
      rotate_left
      · (intro w hSw; (try dsimp only at hSw); first | (go_simp; done) | (go_simp; with_reducible rfl))
      simp only [Act.put, List.setIfInBounds_toArray, List.set_cons_zero, List.set_cons_succ]
      refine takeH (i := 2) (v := ?_) rfl rfl (by kernel_rfl) (by kernel_rfl) (by kernel_rfl) (fun _ _ _ h => h) (by rfl) ?_ hHeld ?_
      rotate_left
      · (intro w hSw; (try dsimp only at hSw); first | (go_simp; done) | (go_simp; with_reducible rfl))
      simp only [Act.put, List.setIfInBounds_toArray, List.set_cons_zero, List.set_cons_succ]
      refine takeH (i := 3) (v := ?_) rfl rfl (by kernel_rfl) (by kernel_rfl) (by kernel_rfl) (fun _ _ _ h => h) (by rfl) ?_ hHeld ?_
      rotate_left
      · (intro w hSw; (try dsimp only at hSw); first | (go_simp; done) | (go_simp; with_reducible rfl))
      simp only [Act.put, List.setIfInBounds_toArray, List.set_cons_zero, List.set_cons_succ]
      refine takeH (i := 4) (v := ?_) rfl rfl (by kernel_rfl) (by kernel_rfl) (by kernel_rfl) (fun _ _ _ h => h) (by rfl) ?_ hHeld ?_
      rotate_left
      · (intro w hSw; (try dsimp only at hSw); first | (go_simp; done) | (go_simp; with_reducible rfl))
      simp only [Act.put, List.setIfInBounds_toArray, List.set_cons_zero, List.set_cons_succ]
      refine takeH (i := 6) (v := ?_) rfl rfl (by kernel_rfl) (by kernel_rfl) (by kernel_rfl) (fun _ _ _ h => h) (by rfl) ?_ hHeld ?_
      rotate_left
      · (intro w hSw; (try dsimp only at hSw); first | (go_simp; done) | (go_simp; with_reducible rfl))
      simp only [Act.put, List.setIfInBounds_toArray, List.set_cons_zero, List.set_cons_succ]
      refine takeH (i := 7) (v := ?_) rfl rfl (by kernel_rfl) (by kernel_rfl) (by kernel_rfl) (fun _ _ _ h => h) (by rfl) ?_ hHeld ?_
      rotate_left
      · (intro w hSw; (try dsimp only at hSw); first | (go_simp; done) | (go_simp; with_reducible rfl))
      simp only [Act.put, List.setIfInBounds_toArray, List.set_cons_zero, List.set_cons_succ]
      refine wpAnyH_ready (rs := [5]) (by kernel_rfl) (by simp) ?_
      refine AllReadyH.cons rfl (fun K hK => ?_) AllReadyH.nil
      go_simp
      refine (refAtom_any An A Aa Ae nn cn n c ma ca ce sz nums t E ss _ M env HK.out HMD.out HLD.out.at_ HLD.out.cap HAB.out).mono ?_
      rintro e w3 ⟨rfl, hb3⟩
      rw [HAT.out]
      have hb2 := hd.trans (hb3.mono hd.size)
      have HB3 := Lib.hid (HB0.out.trans (hb2.mono HB0.out.size))
      have p0' : w3.cell? ⟨w.heap.size, 0, none⟩ = some (.int .i64 sz) := by rw [hb2.cell (p := ⟨w.heap.size, 0, none⟩) (by show w.heap.size < _; omega)]; exact p0
      have p1' : w3.cell? ⟨w.heap.size, 1, none⟩ = some (.slice An nn cn) := by rw [hb2.cell (p := ⟨w.heap.size, 1, none⟩) (by show w.heap.size < _; omega)]; exact p1
      have q0' : w3.cell? ⟨w.heap.size + 1, 0, none⟩ = some (.bool false) := by rw [hb2.cell (p := ⟨w.heap.size + 1, 0, none⟩) (by show w.heap.size + 1 < _; omega)]; exact q0
      have q1' : w3.cell? ⟨w.heap.size + 1, 1, none⟩ = some (.slice Aa ma ca) := by rw [hb2.cell (p := ⟨w.heap.size + 1, 1, none⟩) (by show w.heap.size + 1 < _; omega)]; exact q1
      clear hb2 hb3 hd
      go_wp2_with fail
      refine hK.out _ _ ?_ (fun hHeld => ?_)
      · exact ⟨p0', p1', q0', q1'⟩
      clear hK K
      refine takeH (i := 8) (v := ?_) rfl rfl (by kernel_rfl) (by kernel_rfl) (by kernel_rfl) (fun _ _ _ h => h) (by rfl) ?_ hHeld ?_
      rotate_left
      · (intro w hSw; (try dsimp only at hSw); first | (go_simp; done) | (go_simp; with_reducible rfl))
      simp only [Act.put, List.setIfInBounds_toArray, List.set_cons_zero, List.set_cons_succ]
      refine takeH (i := 9) (v := ?_) rfl rfl (by kernel_rfl) (by kernel_rfl) (by kernel_rfl) (fun _ _ _ h => h) (by rfl) ?_ hHeld ?_
      rotate_left
      · (intro w hSw; (try dsimp only at hSw); first | (go_simp; done) | (go_simp; with_reducible rfl))
      simp only [Act.put, List.setIfInBounds_toArray, List.set_cons_zero, List.set_cons_succ]
      refine wpAnyH_done (by kernel_rfl) ?_ _
      go_wp2
      go_ret
      exact ⟨ret_bool HR.out.symm, HB3.out⟩
  · cases hat : atomH ss M env t
    · have HR : Hid (litH ss M env ⟨true, t⟩ = true) := by show litH ss M env ⟨true, t⟩ = true; unfold litH; rw [show (⟨true, t⟩ : Lt).atom = t from rfl, hat]; rfl
      have HAT := Lib.hid hat
      clear hat
      refine wp_region_held_drew (S := (fun w' => w'.cell? ⟨w.heap.size, 0, none⟩ = some (.int .i64 sz) ∧ w'.cell? ⟨w.heap.size, 1, none⟩ = some (.slice An nn cn) ∧ w'.cell? ⟨w.heap.size + 1, 0, none⟩ = some (.bool true) ∧ w'.cell? ⟨w.heap.size + 1, 1, none⟩ = some (.slice Aa ma ca))) (by kernel_rfl) ⟨p0, p1, q0, q1⟩ (fun hHeld => ?_)
      have hd : Below w1.heap.size w1 w1.drew := (Below.refl w1.heap.size w1).drew
      have HMD := Lib.hid (HA.out.on hd)
      have HLD := Lib.hid (HL.out.on hd)
      refine takeH (i := 0) (v := ?_) rfl rfl (by kernel_rfl) (by kernel_rfl) (by kernel_rfl) (fun _ _ _ h => h) (by rfl) ?_ hHeld ?_
      rotate_left
      · (intro w hSw; (try dsimp only at hSw); first | (go_simp; done) | (go_simp; with_reducible rfl))
      simp only [Act.put, List.setIfInBounds_toArray, List.set_cons_zero, List.set_cons_succ]
      refine takeH (i := 1) (v := ?_) rfl rfl (by kernel_rfl) (by kernel_rfl) (by kernel_rfl) (fun _ _ _ h => h) (by rfl) ?_ hHeld ?_
      rotate_left
      · (intro w hSw; (try dsimp only at hSw); first | (go_simp; done) | (go_simp; with_reducible rfl))
      simp only [Act.put, List.setIfInBounds_toArray, List.set_cons_zero, List.set_cons_succ]
      refine takeH (i := 2) (v := ?_) rfl rfl (by kernel_rfl) (by kernel_rfl) (by kernel_rfl) (fun _ _ _ h => h) (by rfl) ?_ hHeld ?_
      rotate_left
      · (intro w hSw; (try dsimp only at hSw); first | (go_simp; done) | (go_simp; with_reducible rfl))
      simp only [Act.put, List.setIfInBounds_toArray, List.set_cons_zero, List.set_cons_succ]
      refine takeH (i := 3) (v := ?_) rfl rfl (by kernel_rfl) (by kernel_rfl) (by kernel_rfl) (fun _ _ _ h => h) (by rfl) ?_ hHeld ?_
      rotate_left
      · (intro w hSw; (try dsimp only at hSw); first | (go_simp; done) | (go_simp; with_reducible rfl))
      simp only [Act.put, List.setIfInBounds_toArray, List.set_cons_zero, List.set_cons_succ]
      refine takeH (i := 4) (v := ?_) rfl rfl (by kernel_rfl) (by kernel_rfl) (by kernel_rfl) (fun _ _ _ h => h) (by rfl) ?_ hHeld ?_
      rotate_left
      · (intro w hSw; (try dsimp only at hSw); first | (go_simp; done) | (go_simp; with_reducible rfl))
      simp only [Act.put, List.setIfInBounds_toArray, List.set_cons_zero, List.set_cons_succ]
      refine takeH (i := 6) (v := ?_) rfl rfl (by kernel_rfl) (by kernel_rfl) (by kernel_rfl) (fun _ _ _ h => h) (by rfl) ?_ hHeld ?_
      rotate_left
      · (intro w hSw; (try dsimp only at hSw); first | (go_simp; done) | (go_simp; with_reducible rfl))
      simp only [Act.put, List.setIfInBounds_toArray, List.set_cons_zero, List.set_cons_succ]
      refine takeH (i := 7) (v := ?_) rfl rfl (by kernel_rfl) (by kernel_rfl) (by kernel_rfl) (fun _ _ _ h => h) (by rfl) ?_ hHeld ?_
      rotate_left
      · (intro w hSw; (try dsimp only at hSw); first | (go_simp; done) | (go_simp; with_reducible rfl))
      simp only [Act.put, List.setIfInBounds_toArray, List.set_cons_zero, List.set_cons_succ]
      refine wpAnyH_ready (rs := [5]) (by kernel_rfl) (by simp) ?_
      refine AllReadyH.cons rfl (fun K hK => ?_) AllReadyH.nil
      go_simp
      refine (refAtom_any An A Aa Ae nn cn n c ma ca ce sz nums t E ss _ M env HK.out HMD.out HLD.out.at_ HLD.out.cap HAB.out).mono ?_
      rintro e w3 ⟨rfl, hb3⟩
      rw [HAT.out]
      have hb2 := hd.trans (hb3.mono hd.size)
      have HB3 := Lib.hid (HB0.out.trans (hb2.mono HB0.out.size))
      have p0' : w3.cell? ⟨w.heap.size, 0, none⟩ = some (.int .i64 sz) := by rw [hb2.cell (p := ⟨w.heap.size, 0, none⟩) (by show w.heap.size < _; omega)]; exact p0
      have p1' : w3.cell? ⟨w.heap.size, 1, none⟩ = some (.slice An nn cn) := by rw [hb2.cell (p := ⟨w.heap.size, 1, none⟩) (by show w.heap.size < _; omega)]; exact p1
      have q0' : w3.cell? ⟨w.heap.size + 1, 0, none⟩ = some (.bool true) := by rw [hb2.cell (p := ⟨w.heap.size + 1, 0, none⟩) (by show w.heap.size + 1 < _; omega)]; exact q0
      have q1' : w3.cell? ⟨w.heap.size + 1, 1, none⟩ = some (.slice Aa ma ca) := by rw [hb2.cell (p := ⟨w.heap.size + 1, 1, none⟩) (by show w.heap.size + 1 < _; omega)]; exact q1
      clear hb2 hb3 hd
      go_wp2_with fail
      refine hK.out _ _ ?_ (fun hHeld => ?_)
      · exact ⟨p0', p1', q0', q1'⟩
      clear hK K
      refine takeH (i := 8) (v := ?_) rfl rfl (by kernel_rfl) (by kernel_rfl) (by kernel_rfl) (fun _ _ _ h => h) (by rfl) ?_ hHeld ?_
      rotate_left
      · (intro w hSw; (try dsimp only at hSw); first | (go_simp; done) | (go_simp; with_reducible rfl))
      simp only [Act.put, List.setIfInBounds_toArray, List.set_cons_zero, List.set_cons_succ]
      refine takeH (i := 9) (v := ?_) rfl rfl (by kernel_rfl) (by kernel_rfl) (by kernel_rfl) (fun _ _ _ h => h) (by rfl) ?_ hHeld ?_
      rotate_left
      · (intro w hSw; (try dsimp only at hSw); first | (go_simp; done) | (go_simp; with_reducible rfl))
      simp only [Act.put, List.setIfInBounds_toArray, List.set_cons_zero, List.set_cons_succ]
      refine wpAnyH_done (by kernel_rfl) ?_ _
      go_wp2
      go_ret
      exact ⟨ret_bool HR.out.symm, HB3.out⟩
    · have HR : Hid (litH ss M env ⟨true, t⟩ = false) := by show litH ss M env ⟨true, t⟩ = false; unfold litH; rw [show (⟨true, t⟩ : Lt).atom = t from rfl, hat]; rfl
      have HAT := Lib.hid hat
      clear hat
      refine wp_region_held_drew (S := (fun w' => w'.cell? ⟨w.heap.size, 0, none⟩ = some (.int .i64 sz) ∧ w'.cell? ⟨w.heap.size, 1, none⟩ = some (.slice An nn cn) ∧ w'.cell? ⟨w.heap.size + 1, 0, none⟩ = some (.bool true) ∧ w'.cell? ⟨w.heap.size + 1, 1, none⟩ = some (.slice Aa ma ca))) (by kernel_rfl) ⟨p0, p1, q0, q1⟩ (fun hHeld => ?_)
      have hd : Below w1.heap.size w1 w1.drew := (Below.refl w1.heap.size w1).drew
      have HMD := Lib.hid (HA.out.on hd)
      have HLD := Lib.hid (HL.out.on hd)
      refine takeH (i := 0) (v := ?_) rfl rfl (by kernel_rfl) (by kernel_rfl) (by kernel_rfl) (fun _ _ _ h => h) (by rfl) ?_ hHeld ?_
      rotate_left
      · (intro w hSw; (try dsimp only at hSw); first | (go_simp; done) | (go_simp; with_reducible rfl))
      simp only [Act.put, List.setIfInBounds_toArray, List.set_cons_zero, List.set_cons_succ]
      refine takeH (i := 1) (v := ?_) rfl rfl (by kernel_rfl) (by kernel_rfl) (by kernel_rfl) (fun _ _ _ h => h) (by rfl) ?_ hHeld ?_
      rotate_left
      · (intro w hSw; (try dsimp only at hSw); first | (go_simp; done) | (go_simp; with_reducible rfl))
      simp only [Act.put, List.setIfInBounds_toArray, List.set_cons_zero, List.set_cons_succ]
      refine takeH (i := 2) (v := ?_) rfl rfl (by kernel_rfl) (by kernel_rfl) (by kernel_rfl) (fun _ _ _ h => h) (by rfl) ?_ hHeld ?_
      rotate_left
      · (intro w hSw; (try dsimp only at hSw); first | (go_simp; done) | (go_simp; with_reducible rfl))
      simp only [Act.put, List.setIfInBounds_toArray, List.set_cons_zero, List.set_cons_succ]
      refine takeH (i := 3) (v := ?_) rfl rfl (by kernel_rfl) (by kernel_rfl) (by kernel_rfl) (fun _ _ _ h => h) (by rfl) ?_ hHeld ?_
      rotate_left
      · (intro w hSw; (try dsimp only at hSw); first | (go_simp; done) | (go_simp; with_reducible rfl))
      simp only [Act.put, List.setIfInBounds_toArray, List.set_cons_zero, List.set_cons_succ]
      refine takeH (i := 4) (v := ?_) rfl rfl (by kernel_rfl) (by kernel_rfl) (by kernel_rfl) (fun _ _ _ h => h) (by rfl) ?_ hHeld ?_
      rotate_left
      · (intro w hSw; (try dsimp only at hSw); first | (go_simp; done) | (go_simp; with_reducible rfl))
      simp only [Act.put, List.setIfInBounds_toArray, List.set_cons_zero, List.set_cons_succ]
      refine takeH (i := 6) (v := ?_) rfl rfl (by kernel_rfl) (by kernel_rfl) (by kernel_rfl) (fun _ _ _ h => h) (by rfl) ?_ hHeld ?_
      rotate_left
      · (intro w hSw; (try dsimp only at hSw); first | (go_simp; done) | (go_simp; with_reducible rfl))
      simp only [Act.put, List.setIfInBounds_toArray, List.set_cons_zero, List.set_cons_succ]
      refine takeH (i := 7) (v := ?_) rfl rfl (by kernel_rfl) (by kernel_rfl) (by kernel_rfl) (fun _ _ _ h => h) (by rfl) ?_ hHeld ?_
      rotate_left
      · (intro w hSw; (try dsimp only at hSw); first | (go_simp; done) | (go_simp; with_reducible rfl))
      simp only [Act.put, List.setIfInBounds_toArray, List.set_cons_zero, List.set_cons_succ]
      refine wpAnyH_ready (rs := [5]) (by kernel_rfl) (by simp) ?_
      refine AllReadyH.cons rfl (fun K hK => ?_) AllReadyH.nil
      go_simp
      refine (refAtom_any An A Aa Ae nn cn n c ma ca ce sz nums t E ss _ M env HK.out HMD.out HLD.out.at_ HLD.out.cap HAB.out).mono ?_
      rintro e w3 ⟨rfl, hb3⟩
      rw [HAT.out]
      have hb2 := hd.trans (hb3.mono hd.size)
      have HB3 := Lib.hid (HB0.out.trans (hb2.mono HB0.out.size))
      have p0' : w3.cell? ⟨w.heap.size, 0, none⟩ = some (.int .i64 sz) := by rw [hb2.cell (p := ⟨w.heap.size, 0, none⟩) (by show w.heap.size < _; omega)]; exact p0
      have p1' : w3.cell? ⟨w.heap.size, 1, none⟩ = some (.slice An nn cn) := by rw [hb2.cell (p := ⟨w.heap.size, 1, none⟩) (by show w.heap.size < _; omega)]; exact p1
      have q0' : w3.cell? ⟨w.heap.size + 1, 0, none⟩ = some (.bool true) := by rw [hb2.cell (p := ⟨w.heap.size + 1, 0, none⟩) (by show w.heap.size + 1 < _; omega)]; exact q0
      have q1' : w3.cell? ⟨w.heap.size + 1, 1, none⟩ = some (.slice Aa ma ca) := by rw [hb2.cell (p := ⟨w.heap.size + 1, 1, none⟩) (by show w.heap.size + 1 < _; omega)]; exact q1
      clear hb2 hb3 hd
      go_wp2_with fail
      refine hK.out _ _ ?_ (fun hHeld => ?_)
      · exact ⟨p0', p1', q0', q1'⟩
      clear hK K
      refine takeH (i := 8) (v := ?_) rfl rfl (by kernel_rfl) (by kernel_rfl) (by kernel_rfl) (fun _ _ _ h => h) (by rfl) ?_ hHeld ?_
      rotate_left
      · (intro w hSw; (try dsimp only at hSw); first | (go_simp; done) | (go_simp; with_reducible rfl))
      simp only [Act.put, List.setIfInBounds_toArray, List.set_cons_zero, List.set_cons_succ]
      refine takeH (i := 9) (v := ?_) rfl rfl (by kernel_rfl) (by kernel_rfl) (by kernel_rfl) (fun _ _ _ h => h) (by rfl) ?_ hHeld ?_
      rotate_left
      · (intro w hSw; (try dsimp only at hSw); first | (go_simp; done) | (go_simp; with_reducible rfl))
      simp only [Act.put, List.setIfInBounds_toArray, List.set_cons_zero, List.set_cons_succ]
      refine wpAnyH_done (by kernel_rfl) ?_ _
      go_wp2
      go_ret
      exact ⟨ret_bool HR.out.symm, HB3.out⟩
set_option maxHeartbeats 8000000 in
theorem refTupH_any (An A Ar Ae : Option Addr) (nn cn n c mr cr ce k : Nat) (sz : Int) (nums t E : List Int) (ss : List Sym) (w : World) (M : Md) (env : Nat → Int) (hk : MdOk sz nums nn n ss E M env) (h : MdAt w An nn nums A n ss Ae E) (hr : IntsAt w w.heap.size Ar mr t) (hmr : mr ≤ 1000000) (ht : trm 24 ss t k) :
    Calls Tryd.prog 74 #[mdV sz An nn cn, .slice A n c, .slice Ar mr cr, .slice Ae 24 ce] w fun e w' => e = .returned (.bool (tupH ss M env t)) ∧ Below w.heap.size w w' := by
  have HK := Lib.hid hk
  have HT := Lib.hid ht
  obtain ⟨w1, hw1⟩ : ∃ w1, w1 = w.alloc (.cells #[.int .i64 sz, .slice An nn cn] 52) := ⟨_, rfl⟩
  have hb0 : Below w.heap.size w w1 := by rw [hw1]; exact below_new w _
  have b3 : w1.heap.size = w.heap.size + 1 := by rw [hw1]; simp
  have p0 : w1.cell? ⟨w.heap.size, 0, none⟩ = some (.int .i64 sz) := by rw [hw1, World.cell?_alloc_new]; rfl
  have p1 : w1.cell? ⟨w.heap.size, 1, none⟩ = some (.slice An nn cn) := by rw [hw1, World.cell?_alloc_new]; rfl
  have HA := Lib.hid (h.on hb0)
  have HRR := Lib.hid (hr.on hb0)
  have HRL := Lib.hid hr.len
  have HB0 := Lib.hid hb0
  clear h hr hk hb0 ht
  unfold mdV
  go_enter Tryd.func74, Tryd.ntmps74
  go_upto_region 1 with (fail)
  rw [← hw1]
  clear hw1
  refine wp_region_held_drew (S := (fun w' => w'.cell? ⟨w.heap.size, 0, none⟩ = some (.int .i64 sz) ∧ w'.cell? ⟨w.heap.size, 1, none⟩ = some (.slice An nn cn))) (by kernel_rfl) ⟨p0, p1⟩ (fun hHeld => ?_)
  have hd : Below w1.heap.size w1 w1.drew := (Below.refl w1.heap.size w1).drew
  have HMD := Lib.hid (HA.out.on hd)
  have HRD := Lib.hid (HRR.out.on hd)
  refine takeH (i := 0) (v := ?_) rfl rfl (by kernel_rfl) (by kernel_rfl) (by kernel_rfl) (fun _ _ _ h => h) (by rfl) ?_ hHeld ?_
  rotate_left
  · (intro w hSw; (try dsimp only at hSw); first | (go_simp; done) | (go_simp; with_reducible rfl))
  simp only [Act.put, List.setIfInBounds_toArray, List.set_cons_zero, List.set_cons_succ]
  refine takeH (i := 1) (v := ?_) rfl rfl (by kernel_rfl) (by kernel_rfl) (by kernel_rfl) (fun _ _ _ h => h) (by rfl) ?_ hHeld ?_
  rotate_left
  · (intro w hSw; (try dsimp only at hSw); first | (go_simp; done) | (go_simp; with_reducible rfl))
  simp only [Act.put, List.setIfInBounds_toArray, List.set_cons_zero, List.set_cons_succ]
  refine takeH (i := 2) (v := ?_) rfl rfl (by kernel_rfl) (by kernel_rfl) (by kernel_rfl) (fun _ _ _ h => h) (by rfl) ?_ hHeld ?_
  rotate_left
  · (intro w hSw; (try dsimp only at hSw); first | (go_simp; done) | (go_simp; with_reducible rfl))
  simp only [Act.put, List.setIfInBounds_toArray, List.set_cons_zero, List.set_cons_succ]
  refine takeH (i := 3) (v := ?_) rfl rfl (by kernel_rfl) (by kernel_rfl) (by kernel_rfl) (fun _ _ _ h => h) (by rfl) ?_ hHeld ?_
  rotate_left
  · (intro w hSw; (try dsimp only at hSw); first | (go_simp; done) | (go_simp; with_reducible rfl))
  simp only [Act.put, List.setIfInBounds_toArray, List.set_cons_zero, List.set_cons_succ]
  refine takeH (i := 4) (v := ?_) rfl rfl (by kernel_rfl) (by kernel_rfl) (by kernel_rfl) (fun _ _ _ h => h) (by rfl) ?_ hHeld ?_
  rotate_left
  · (intro w hSw; (try dsimp only at hSw); first | (go_simp; done) | (go_simp; with_reducible rfl))
  simp only [Act.put, List.setIfInBounds_toArray, List.set_cons_zero, List.set_cons_succ]
  refine wpAnyH_ready (rs := [5]) (by kernel_rfl) (by simp) ?_
  refine AllReadyH.cons rfl (fun K hK => ?_) AllReadyH.nil
  go_simp
  refine (refValues_any An A Ar Ae nn cn n c mr cr ce k sz nums t E ss _ HK.out.may ⟨HK.out.sz1, HK.out.sz3⟩ HK.out.nn HK.out.n hmr M env HK.out.md HK.out.en HT.out HMD.out.nu HMD.out.sy HRD.out HMD.out.en).mono ?_
  rintro e w2 ⟨v2, rfl, hv2, hb2⟩
  have hb2' := hd.trans (hb2.mono hd.size)
  have HB2 := Lib.hid hb2'
  have p0' : w2.cell? ⟨w.heap.size, 0, none⟩ = some (.int .i64 sz) := by rw [hb2'.cell (p := ⟨w.heap.size, 0, none⟩) (by show w.heap.size < _; omega)]; exact p0
  have p1' : w2.cell? ⟨w.heap.size, 1, none⟩ = some (.slice An nn cn) := by rw [hb2'.cell (p := ⟨w.heap.size, 1, none⟩) (by show w.heap.size < _; omega)]; exact p1
  obtain ⟨A9, c9, hv9, _, hi9⟩ := hv2.intsAt
  have hvl := (vals_trm (m := M) (env := env) HK.out.may HT.out).2
  obtain ⟨V, hV⟩ : ∃ V, V = vals ss M env t := ⟨_, rfl⟩
  rw [← hV] at hv9 hi9 hvl
  obtain ⟨L9, hL9⟩ : ∃ L9, L9 = V.length := ⟨_, rfl⟩
  rw [← hL9] at hv9 hi9 hvl
  have hl9 : L9 ≤ 17592186044416 := by rw [hvl]; have := trm_le HT.out; have := HRL.out; omega
  subst hv9
  have HI9 := Lib.hid hi9
  have HVV := Lib.hid hV
  clear hd hb2 hb2' hv2 hi9 hV hL9 hvl
  go_wp2_with fail
  refine hK.out _ _ ?_ (fun hHeld => ?_)
  · exact ⟨p0', p1'⟩
  clear hK K
  refine wpAnyH_ready (rs := [6]) (by kernel_rfl) (by simp) ?_
  refine AllReadyH.cons rfl (fun K hK => ?_) AllReadyH.nil
  go_simp
  refine (refLook_any An A9 nn cn L9 c9 sz 101 nums V _ (HA.out.on HB2.out).nu HI9.out HK.out.nn hl9).mono ?_
  rintro e w3 ⟨rfl, hb3⟩
  have HB3 := Lib.hid (HB2.out.trans (hb3.mono HB2.out.size))
  have p0'' : w3.cell? ⟨w.heap.size, 0, none⟩ = some (.int .i64 sz) := by rw [HB3.out.cell (p := ⟨w.heap.size, 0, none⟩) (by show w.heap.size < _; omega)]; exact p0
  have p1'' : w3.cell? ⟨w.heap.size, 1, none⟩ = some (.slice An nn cn) := by rw [HB3.out.cell (p := ⟨w.heap.size, 1, none⟩) (by show w.heap.size < _; omega)]; exact p1
  have HZ : Hid (tupH ss M env t = decide (lookN nums 101 V / 2 % 2 = 1)) := by show _ = _; unfold tupH; rw [HVV.out, HK.out.md]; rfl
  have hlk := lookN_range nums 101 V
  obtain ⟨LK, hLK⟩ : ∃ LK, LK = lookN nums 101 V := ⟨_, rfl⟩
  rw [← hLK] at HZ hlk ⊢
  have hbit : bits .and .i64 LK 2 = 2 * (LK / 2 % 2) := and2 hlk.1 hlk.2
  have HBIT := Lib.hid hbit
  clear hb3 hLK hbit
  go_wp2_with fail
  refine hK.out _ _ ?_ (fun hHeld => ?_)
  · exact ⟨p0'', p1''⟩
  clear hK K
  refine takeH (i := 7) (v := ?_) rfl rfl (by kernel_rfl) (by kernel_rfl) (by kernel_rfl) (fun _ _ _ h => h) (by rfl) ?_ hHeld ?_
  rotate_left
  · (intro w hSw; (try dsimp only at hSw); first | (go_simp; done) | (go_simp; with_reducible rfl))
  simp only [Act.put, List.setIfInBounds_toArray, List.set_cons_zero, List.set_cons_succ]
  refine takeH (i := 8) (v := ?_) rfl rfl (by kernel_rfl) (by kernel_rfl) (by kernel_rfl) (fun _ _ _ h => h) (by rfl) ?_ hHeld ?_
  rotate_left
  · (intro w hSw; (try dsimp only at hSw); first | (go_simp; done) | (go_simp; with_reducible rfl))
  simp only [Act.put, List.setIfInBounds_toArray, List.set_cons_zero, List.set_cons_succ]
  refine takeH (i := 9) (v := ?_) rfl rfl (by kernel_rfl) (by kernel_rfl) (by kernel_rfl) (fun _ _ _ h => h) (by rfl) ?_ hHeld ?_
  rotate_left
  · (intro w hSw; (try dsimp only at hSw); first | (go_simp; done) | (go_simp; with_reducible rfl))
  simp only [Act.put, List.setIfInBounds_toArray, List.set_cons_zero, List.set_cons_succ]
  refine wpAnyH_done (by kernel_rfl) ?_ _
  go_wp2
  go_ret
  refine ⟨ret_bool ?_, HB0.out.trans (HB3.out.mono HB0.out.size)⟩
  rw [HBIT.out, HZ.out]
  rcases Int.emod_two_eq (LK / 2) with e | e <;> rw [e] <;> rfl
end Go.Proofs.YtcjpopjcpgipjaaDoor

namespace Go.Proofs.YtcjpopjcpgipjaaDoor
open Go.RowKit Go.Deep
set_option linter.unusedSimpArgs false
set_option linter.unusedVariables false
set_option maxRecDepth 100000

theorem any_next {α : Type} {ls : List α} {k : Nat} {a : α} {p : α → Bool} (h : ls[k]? = some a) (h1 : (ls.take k).any p = false) (h2 : p a = false) : (ls.take (k + 1)).any p = false := by
  rw [List.take_add_one, h, List.any_append, h1, Option.toList_some]
  simp [h2]
theorem any_hit {α : Type} {ls : List α} {k : Nat} {a : α} {p : α → Bool} (h : ls[k]? = some a) (h2 : p a = true) : ls.any p = true := List.any_eq_true.2 ⟨a, List.mem_of_getElem? h, h2⟩
theorem any_all {α : Type} {ls : List α} {k : Nat} {p : α → Bool} (hk : ls.length = k) (h : (ls.take k).any p = false) : ls.any p = false := by
  rw [List.take_of_length_le (by omega)] at h; exact h
/-- Block b holds a structure. -/
def MBx (w : World) (b : Nat) (sz : Int) (An : Option Addr) (nn cn : Nat) : Prop := w.cell? ⟨b, 0, none⟩ = some (.int .i64 sz) ∧ w.cell? ⟨b, 1, none⟩ = some (.slice An nn cn)
theorem MBx.below {w w' : World} {B b : Nat} {sz : Int} {An : Option Addr} {nn cn : Nat} (h : MBx w b sz An nn cn) (hb : Below B w w') (hlt : b < B) : MBx w' b sz An nn cn :=
  ⟨by rw [hb.cell (p := ⟨b, 0, none⟩) hlt]; exact h.1, by rw [hb.cell (p := ⟨b, 1, none⟩) hlt]; exact h.2⟩
set_option maxHeartbeats 16000000 in
theorem refHere_any (An A Ae : Option Addr) (nn cn n c ce : Nat) (sz : Int) (nums E : List Int) (ss : List Sym) (v : Cv) (cl : Cl) (w : World) (M : Md) (env : Nat → Int) (hk : MdOk sz nums nn n ss E M env) (h : MdAt w An nn nums A n ss Ae E) (hc : ClAt w w.heap.size v cl) (hm : MayC ss cl) :
    Calls Tryd.prog 45 #[mdV sz An nn cn, .slice A n c, v.val, .slice Ae 24 ce] w fun e w' => e = .returned (.bool (hereC ss M env cl)) ∧ Below w.heap.size w w' := by
  have HK := Lib.hid hk
  have HM := Lib.hid hm
  have HL1 := Lib.hid hc.lits.len
  have HL2 := Lib.hid hc.tups.len
  have HL3 := Lib.hid hc.conds.len
  have g5 : v.n1 ≤ 5 := by rw [← hc.lits.len]; exact hm.nl
  have g3 : v.n2 ≤ 3 := by rw [← hc.tups.len]; exact hm.nt
  have g4 : v.n3 ≤ 3 := by rw [← hc.conds.len]; exact hm.nc
  obtain ⟨u, hu⟩ : ∃ u, u = w.alloc (.cells #[.int .i64 sz, .slice An nn cn] 52) := ⟨_, rfl⟩
  have b1 : Below w.heap.size w u := by rw [hu]; exact below_new w _
  have s1 : u.heap.size = w.heap.size + 1 := by rw [hu]; simp
  have m0 : MBx u w.heap.size sz An nn cn := by rw [hu]; exact ⟨by rw [World.cell?_alloc_new]; rfl, by rw [World.cell?_alloc_new]; rfl⟩
  have hx := CBox.new (hc.on b1)
  have b2 := below_new u v.obj
  obtain ⟨w1, hw1⟩ : ∃ w1, w1 = u.alloc v.obj := ⟨_, rfl⟩
  rw [← hw1] at hx b2
  rw [s1] at hx
  have hb0 : Below w.heap.size w w1 := b1.trans (b2.mono b1.size)
  have HMB := Lib.hid (m0.below b2 (by omega))
  have HX := Lib.hid hx
  have HA := Lib.hid (h.on hb0)
  have HB0 := Lib.hid hb0
  have HSZ0 : Hid (w.heap.size < w1.heap.size ∧ w.heap.size + 1 < w1.heap.size) := by have := hx.lt; show _ ∧ _; omega
  rw [hu] at hw1
  unfold Cv.obj at hw1
  rw [Cv.val_eq]
  unfold mdV
  clear h hc hm hk hx b1 b2 s1 m0 hb0 hu
  go_enter Tryd.func45, Tryd.ntmps45
  go_upto_region 1 with (fail)
  rw [← hw1]
  clear hw1 u
  go_wp2_with fail
  go_loopw [9] (fun i wr => ∃ k : Nat, i = .int .i64 k ∧ k ≤ v.n3 ∧ ((cl.conds.take k).any fun l => !litH ss M env l) = false ∧ Below w1.heap.size w1 wr) (fun i _ => v.n3 - (intOf i).toNat)
  case atStart => exact ⟨0, rfl, by omega, rfl, Below.refl _ _⟩
  case round =>
    obtain ⟨k, rfl, hkn, hay, hbw⟩ := hrel
    have HBW := Lib.hid hbw
    have HAY := Lib.hid hay
    have HXW := Lib.hid (HX.out.on hbw)
    have HMW := Lib.hid (HMB.out.below hbw HSZ0.out.1)
    have HSZ : Hid (w.heap.size < wr.heap.size ∧ w.heap.size + 1 < wr.heap.size) := by have := hbw.size; have h1 := HSZ0.out; show _ ∧ _; omega
    have p0 := HMW.out.1
    have p1 := HMW.out.2
    clear hbw hay
    by_cases hlt : k < v.n3
    · have hkl : k < cl.conds.length := by rw [HL3.out]; exact hlt
      obtain ⟨b, off, A3, c3, hA, hb, d0, d1, hr⟩ := HXW.out.cl.conds.one hlt
      have y0 := HXW.out.c2
      rw [hA] at y0
      have HGET := Lib.hid (ltAt_get hkl)
      have HLB := Lib.hid (HM.out.conds _ (ltAt_mem hkl))
      obtain ⟨p, hp⟩ : ∃ p, p = ltAt cl.conds k := ⟨_, rfl⟩
      rw [← hp] at d0 d1 hr HGET HLB
      obtain ⟨x, t⟩ := p
      dsimp only at d0 d1 hr
      have HRR := Lib.hid hr
      have HBB := Lib.hid hb
      have hi0 : (0 : Int) ≤ (k : Int) := by omega
      have hi3 : (k : Int) < (v.n3 : Int) := by omega
      clear hr hp hA hb hkl
      go_wp2_with fail
      cases hlit : litH ss M env ⟨x, t⟩
      · have HLT := Lib.hid hlit
        clear hlit
        -- a literal of a list: region with its call; HLT: what the call tells
        refine wp_region_held_drew (S := (fun w' => w'.cell? ⟨w.heap.size, 0, none⟩ = some (.int .i64 sz) ∧ w'.cell? ⟨w.heap.size, 1, none⟩ = some (.slice An nn cn) ∧ w'.cell? ⟨w.heap.size + 1, 2, none⟩ = some (.slice (some ⟨b, off, none⟩) v.n3 v.c3) ∧ w'.cell? ⟨b, off + k * 2, none⟩ = some (.bool x) ∧ w'.cell? ⟨b, off + k * 2 + 1, none⟩ = some (.slice A3 t.length c3))) (by kernel_rfl) ⟨p0, p1, y0, d0, d1⟩ (fun hHeld => ?_)
        have hd : Below wr.heap.size wr wr.drew := (Below.refl wr.heap.size wr).drew
        have HMD := Lib.hid ((HA.out.on HBW.out).on hd)
        have HLD := Lib.hid (HRR.out.on hd)
        refine takeH (i := 0) (v := ?_) rfl rfl (by kernel_rfl) (by kernel_rfl) (by kernel_rfl) (fun _ _ _ h => h) (by rfl) ?_ hHeld ?_
        rotate_left
        · (intro w hSw; (try dsimp only at hSw); first | (go_simp; done) | (go_simp; with_reducible rfl))
        simp only [Act.put, List.setIfInBounds_toArray, List.set_cons_zero, List.set_cons_succ]
        refine takeH (i := 1) (v := ?_) rfl rfl (by kernel_rfl) (by kernel_rfl) (by kernel_rfl) (fun _ _ _ h => h) (by rfl) ?_ hHeld ?_
        rotate_left
        · (intro w hSw; (try dsimp only at hSw); first | (go_simp; done) | (go_simp; with_reducible rfl))
        simp only [Act.put, List.setIfInBounds_toArray, List.set_cons_zero, List.set_cons_succ]
        refine takeH (i := 2) (v := ?_) rfl rfl (by kernel_rfl) (by kernel_rfl) (by kernel_rfl) (fun _ _ _ h => h) (by rfl) ?_ hHeld ?_
        rotate_left
        · (intro w hSw; (try dsimp only at hSw); first | (go_simp; done) | (go_simp; with_reducible rfl))
        simp only [Act.put, List.setIfInBounds_toArray, List.set_cons_zero, List.set_cons_succ]
        refine takeH (i := 3) (v := ?_) rfl rfl (by kernel_rfl) (by kernel_rfl) (by kernel_rfl) (fun _ _ _ h => h) (by rfl) ?_ hHeld ?_
        rotate_left
        · (intro w hSw; (try dsimp only at hSw); first | (go_simp; done) | (go_simp; with_reducible rfl))
        simp only [Act.put, List.setIfInBounds_toArray, List.set_cons_zero, List.set_cons_succ]
        refine takeH (i := 4) (v := ?_) rfl rfl (by kernel_rfl) (by kernel_rfl) (by kernel_rfl) (fun _ _ _ h => h) (by rfl) ?_ hHeld ?_
        rotate_left
        · (intro w hSw; (try dsimp only at hSw); first | (go_simp; done) | (go_simp; with_reducible rfl))
        simp only [Act.put, List.setIfInBounds_toArray, List.set_cons_zero, List.set_cons_succ]
        refine takeH (i := 5) (v := ?_) rfl rfl (by kernel_rfl) (by kernel_rfl) (by kernel_rfl) (fun _ _ _ h => h) (by rfl) ?_ hHeld ?_
        rotate_left
        · (intro w hSw; (try dsimp only at hSw); first | (go_simp; done) | (go_simp; with_reducible rfl))
        simp only [Act.put, List.setIfInBounds_toArray, List.set_cons_zero, List.set_cons_succ]
        refine takeH (i := 6) (v := ?_) rfl rfl (by kernel_rfl) (by kernel_rfl) (by kernel_rfl) (fun _ _ _ h => h) (by rfl) ?_ hHeld ?_
        rotate_left
        · (intro w hSw; (try dsimp only at hSw); first | (go_simp; done) | (go_simp; with_reducible rfl))
        simp only [Act.put, List.setIfInBounds_toArray, List.set_cons_zero, List.set_cons_succ]
        refine takeH (i := 7) (v := ?_) rfl rfl (by kernel_rfl) (by kernel_rfl) (by kernel_rfl) (fun _ _ _ h => h) (by rfl) ?_ hHeld ?_
        rotate_left
        · (intro w hSw; (try dsimp only at hSw); first | (go_simp; done) | (go_simp; with_reducible rfl))
        simp only [Act.put, List.setIfInBounds_toArray, List.set_cons_zero, List.set_cons_succ]
        refine wpAnyH_ready (rs := [8]) (by kernel_rfl) (by simp) ?_
        refine AllReadyH.cons rfl (fun K hK => ?_) AllReadyH.nil
        go_simp
        refine (refLitH_any An A A3 Ae nn cn n c t.length c3 ce sz nums t E x ss _ M env HK.out HMD.out HLD.out HLB.out).mono ?_
        rintro e w3 ⟨rfl, hb3⟩
        rw [HLT.out]
        have hb2 := hd.trans (hb3.mono hd.size)
        have HB3 := Lib.hid (HBW.out.trans (hb2.mono HBW.out.size))
        have p0' : w3.cell? ⟨w.heap.size, 0, none⟩ = some (.int .i64 sz) := by rw [hb2.cell (p := ⟨w.heap.size, 0, none⟩) HSZ.out.1]; exact p0
        have p1' : w3.cell? ⟨w.heap.size, 1, none⟩ = some (.slice An nn cn) := by rw [hb2.cell (p := ⟨w.heap.size, 1, none⟩) HSZ.out.1]; exact p1
        have y0' : w3.cell? ⟨w.heap.size + 1, 2, none⟩ = some (.slice (some ⟨b, off, none⟩) v.n3 v.c3) := by rw [hb2.cell (p := ⟨w.heap.size + 1, 2, none⟩) HSZ.out.2]; exact y0
        have d0' : w3.cell? ⟨b, off + k * 2, none⟩ = some (.bool x) := by rw [hb2.cell (p := ⟨b, off + k * 2, none⟩) HBB.out]; exact d0
        have d1' : w3.cell? ⟨b, off + k * 2 + 1, none⟩ = some (.slice A3 t.length c3) := by rw [hb2.cell (p := ⟨b, off + k * 2 + 1, none⟩) HBB.out]; exact d1
        clear hb2 hb3 hd p0 p1 y0 d0 d1
        go_wp2_with fail
        refine hK.out _ _ ?_ (fun hHeld => ?_)
        · exact ⟨p0', p1', y0', d0', d1'⟩
        clear hK K
        refine takeH (i := 9) (v := ?_) rfl rfl (by kernel_rfl) (by kernel_rfl) (by kernel_rfl) (fun _ _ _ h => h) (by rfl) ?_ hHeld ?_
        rotate_left
        · (intro w hSw; (try dsimp only at hSw); first | (go_simp; done) | (go_simp; with_reducible rfl))
        simp only [Act.put, List.setIfInBounds_toArray, List.set_cons_zero, List.set_cons_succ]
        refine wpAnyH_done (by kernel_rfl) ?_ _
        go_wp2
        go_ret
        exact ⟨ret_bool (by unfold hereC; rw [any_hit (p := fun l => !litH ss M env l) HGET.out (by show (!litH ss M env ⟨x, t⟩) = true; rw [HLT.out]; rfl)]; rfl), HB0.out.trans (HB3.out.mono HB0.out.size)⟩
      · have HLT := Lib.hid hlit
        clear hlit
        -- a literal of a list: region with its call; HLT: what the call tells
        refine wp_region_held_drew (S := (fun w' => w'.cell? ⟨w.heap.size, 0, none⟩ = some (.int .i64 sz) ∧ w'.cell? ⟨w.heap.size, 1, none⟩ = some (.slice An nn cn) ∧ w'.cell? ⟨w.heap.size + 1, 2, none⟩ = some (.slice (some ⟨b, off, none⟩) v.n3 v.c3) ∧ w'.cell? ⟨b, off + k * 2, none⟩ = some (.bool x) ∧ w'.cell? ⟨b, off + k * 2 + 1, none⟩ = some (.slice A3 t.length c3))) (by kernel_rfl) ⟨p0, p1, y0, d0, d1⟩ (fun hHeld => ?_)
        have hd : Below wr.heap.size wr wr.drew := (Below.refl wr.heap.size wr).drew
        have HMD := Lib.hid ((HA.out.on HBW.out).on hd)
        have HLD := Lib.hid (HRR.out.on hd)
        refine takeH (i := 0) (v := ?_) rfl rfl (by kernel_rfl) (by kernel_rfl) (by kernel_rfl) (fun _ _ _ h => h) (by rfl) ?_ hHeld ?_
        rotate_left
        · (intro w hSw; (try dsimp only at hSw); first | (go_simp; done) | (go_simp; with_reducible rfl))
        simp only [Act.put, List.setIfInBounds_toArray, List.set_cons_zero, List.set_cons_succ]
        refine takeH (i := 1) (v := ?_) rfl rfl (by kernel_rfl) (by kernel_rfl) (by kernel_rfl) (fun _ _ _ h => h) (by rfl) ?_ hHeld ?_
        rotate_left
        · (intro w hSw; (try dsimp only at hSw); first | (go_simp; done) | (go_simp; with_reducible rfl))
        simp only [Act.put, List.setIfInBounds_toArray, List.set_cons_zero, List.set_cons_succ]
        refine takeH (i := 2) (v := ?_) rfl rfl (by kernel_rfl) (by kernel_rfl) (by kernel_rfl) (fun _ _ _ h => h) (by rfl) ?_ hHeld ?_
        rotate_left
        · (intro w hSw; (try dsimp only at hSw); first | (go_simp; done) | (go_simp; with_reducible rfl))
        simp only [Act.put, List.setIfInBounds_toArray, List.set_cons_zero, List.set_cons_succ]
        refine takeH (i := 3) (v := ?_) rfl rfl (by kernel_rfl) (by kernel_rfl) (by kernel_rfl) (fun _ _ _ h => h) (by rfl) ?_ hHeld ?_
        rotate_left
        · (intro w hSw; (try dsimp only at hSw); first | (go_simp; done) | (go_simp; with_reducible rfl))
        simp only [Act.put, List.setIfInBounds_toArray, List.set_cons_zero, List.set_cons_succ]
        refine takeH (i := 4) (v := ?_) rfl rfl (by kernel_rfl) (by kernel_rfl) (by kernel_rfl) (fun _ _ _ h => h) (by rfl) ?_ hHeld ?_
        rotate_left
        · (intro w hSw; (try dsimp only at hSw); first | (go_simp; done) | (go_simp; with_reducible rfl))
        simp only [Act.put, List.setIfInBounds_toArray, List.set_cons_zero, List.set_cons_succ]
        refine takeH (i := 5) (v := ?_) rfl rfl (by kernel_rfl) (by kernel_rfl) (by kernel_rfl) (fun _ _ _ h => h) (by rfl) ?_ hHeld ?_
        rotate_left
        · (intro w hSw; (try dsimp only at hSw); first | (go_simp; done) | (go_simp; with_reducible rfl))
        simp only [Act.put, List.setIfInBounds_toArray, List.set_cons_zero, List.set_cons_succ]
        refine takeH (i := 6) (v := ?_) rfl rfl (by kernel_rfl) (by kernel_rfl) (by kernel_rfl) (fun _ _ _ h => h) (by rfl) ?_ hHeld ?_
        rotate_left
        · (intro w hSw; (try dsimp only at hSw); first | (go_simp; done) | (go_simp; with_reducible rfl))
        simp only [Act.put, List.setIfInBounds_toArray, List.set_cons_zero, List.set_cons_succ]
        refine takeH (i := 7) (v := ?_) rfl rfl (by kernel_rfl) (by kernel_rfl) (by kernel_rfl) (fun _ _ _ h => h) (by rfl) ?_ hHeld ?_
        rotate_left
        · (intro w hSw; (try dsimp only at hSw); first | (go_simp; done) | (go_simp; with_reducible rfl))
        simp only [Act.put, List.setIfInBounds_toArray, List.set_cons_zero, List.set_cons_succ]
        refine wpAnyH_ready (rs := [8]) (by kernel_rfl) (by simp) ?_
        refine AllReadyH.cons rfl (fun K hK => ?_) AllReadyH.nil
        go_simp
        refine (refLitH_any An A A3 Ae nn cn n c t.length c3 ce sz nums t E x ss _ M env HK.out HMD.out HLD.out HLB.out).mono ?_
        rintro e w3 ⟨rfl, hb3⟩
        rw [HLT.out]
        have hb2 := hd.trans (hb3.mono hd.size)
        have HB3 := Lib.hid (HBW.out.trans (hb2.mono HBW.out.size))
        have p0' : w3.cell? ⟨w.heap.size, 0, none⟩ = some (.int .i64 sz) := by rw [hb2.cell (p := ⟨w.heap.size, 0, none⟩) HSZ.out.1]; exact p0
        have p1' : w3.cell? ⟨w.heap.size, 1, none⟩ = some (.slice An nn cn) := by rw [hb2.cell (p := ⟨w.heap.size, 1, none⟩) HSZ.out.1]; exact p1
        have y0' : w3.cell? ⟨w.heap.size + 1, 2, none⟩ = some (.slice (some ⟨b, off, none⟩) v.n3 v.c3) := by rw [hb2.cell (p := ⟨w.heap.size + 1, 2, none⟩) HSZ.out.2]; exact y0
        have d0' : w3.cell? ⟨b, off + k * 2, none⟩ = some (.bool x) := by rw [hb2.cell (p := ⟨b, off + k * 2, none⟩) HBB.out]; exact d0
        have d1' : w3.cell? ⟨b, off + k * 2 + 1, none⟩ = some (.slice A3 t.length c3) := by rw [hb2.cell (p := ⟨b, off + k * 2 + 1, none⟩) HBB.out]; exact d1
        clear hb2 hb3 hd p0 p1 y0 d0 d1
        go_wp2_with fail
        refine hK.out _ _ ?_ (fun hHeld => ?_)
        · exact ⟨p0', p1', y0', d0', d1'⟩
        clear hK K
        refine takeH (i := 9) (v := ?_) rfl rfl (by kernel_rfl) (by kernel_rfl) (by kernel_rfl) (fun _ _ _ h => h) (by rfl) ?_ hHeld ?_
        rotate_left
        · (intro w hSw; (try dsimp only at hSw); first | (go_simp; done) | (go_simp; with_reducible rfl))
        simp only [Act.put, List.setIfInBounds_toArray, List.set_cons_zero, List.set_cons_succ]
        refine wpAnyH_done (by kernel_rfl) ?_ _
        go_wp2
        go_roundw
        case rel => exact ⟨k + 1, by go_num, by omega, any_next HGET.out HAY.out (by show (!litH ss M env ⟨x, t⟩) = false; rw [HLT.out]; rfl), HB3.out⟩
        case measure => simp [intOf]; omega
    · obtain rfl : k = v.n3 := by omega
      have HC1 : Hid ((cl.conds.any fun l => !litH ss M env l) = false) := any_all HL3.out HAY.out
      have x2 := HXW.out.c2
      obtain ⟨wA, hwA⟩ : ∃ wA, wA = wr := ⟨_, rfl⟩
      subst hwA
      clear hlt HAY
      go_wp2_with fail
      clear p0 p1 x2
      have HBA := HBW
      clear HBW HXW HMW HSZ
      go_loopw [10] (fun i wr => ∃ k : Nat, i = .int .i64 k ∧ k ≤ v.n1 ∧ ((cl.lits.take k).any (litH ss M env)) = false ∧ Below w1.heap.size w1 wr) (fun i _ => v.n1 - (intOf i).toNat)
      case atStart => exact ⟨0, rfl, by omega, rfl, HBA.out⟩
      case round =>
        obtain ⟨k, rfl, hkn, hay, hbw⟩ := hrel
        have HBW := Lib.hid hbw
        have HAY := Lib.hid hay
        have HXW := Lib.hid (HX.out.on hbw)
        have HMW := Lib.hid (HMB.out.below hbw HSZ0.out.1)
        have HSZ : Hid (w.heap.size < wr.heap.size ∧ w.heap.size + 1 < wr.heap.size) := by have := hbw.size; have h1 := HSZ0.out; show _ ∧ _; omega
        have p0 := HMW.out.1
        have p1 := HMW.out.2
        clear hbw hay
        by_cases hlt : k < v.n1
        · have hkl : k < cl.lits.length := by rw [HL1.out]; exact hlt
          obtain ⟨b, off, A3, c3, hA, hb, d0, d1, hr⟩ := HXW.out.cl.lits.one hlt
          have y0 := HXW.out.c0
          rw [hA] at y0
          have HGET := Lib.hid (ltAt_get hkl)
          have HLB := Lib.hid (HM.out.lits _ (ltAt_mem hkl))
          obtain ⟨p, hp⟩ : ∃ p, p = ltAt cl.lits k := ⟨_, rfl⟩
          rw [← hp] at d0 d1 hr HGET HLB
          obtain ⟨x, t⟩ := p
          dsimp only at d0 d1 hr
          have HRR := Lib.hid hr
          have HBB := Lib.hid hb
          have hi0 : (0 : Int) ≤ (k : Int) := by omega
          have hi3 : (k : Int) < (v.n1 : Int) := by omega
          clear hr hp hA hb hkl
          go_wp2_with fail
          cases hlit : litH ss M env ⟨x, t⟩
          · have HLT := Lib.hid hlit
            clear hlit
            -- a literal of a list: region with its call; HLT: what the call tells
            refine wp_region_held_drew (S := (fun w' => w'.cell? ⟨w.heap.size, 0, none⟩ = some (.int .i64 sz) ∧ w'.cell? ⟨w.heap.size, 1, none⟩ = some (.slice An nn cn) ∧ w'.cell? ⟨w.heap.size + 1, 0, none⟩ = some (.slice (some ⟨b, off, none⟩) v.n1 v.c1) ∧ w'.cell? ⟨b, off + k * 2, none⟩ = some (.bool x) ∧ w'.cell? ⟨b, off + k * 2 + 1, none⟩ = some (.slice A3 t.length c3))) (by kernel_rfl) ⟨p0, p1, y0, d0, d1⟩ (fun hHeld => ?_)
            have hd : Below wr.heap.size wr wr.drew := (Below.refl wr.heap.size wr).drew
            have HMD := Lib.hid ((HA.out.on HBW.out).on hd)
            have HLD := Lib.hid (HRR.out.on hd)
            refine takeH (i := 0) (v := ?_) rfl rfl (by kernel_rfl) (by kernel_rfl) (by kernel_rfl) (fun _ _ _ h => h) (by rfl) ?_ hHeld ?_
            rotate_left
            · (intro w hSw; (try dsimp only at hSw); first | (go_simp; done) | (go_simp; with_reducible rfl))
            simp only [Act.put, List.setIfInBounds_toArray, List.set_cons_zero, List.set_cons_succ]
            refine takeH (i := 1) (v := ?_) rfl rfl (by kernel_rfl) (by kernel_rfl) (by kernel_rfl) (fun _ _ _ h => h) (by rfl) ?_ hHeld ?_
            rotate_left
            · (intro w hSw; (try dsimp only at hSw); first | (go_simp; done) | (go_simp; with_reducible rfl))
            simp only [Act.put, List.setIfInBounds_toArray, List.set_cons_zero, List.set_cons_succ]
            refine takeH (i := 2) (v := ?_) rfl rfl (by kernel_rfl) (by kernel_rfl) (by kernel_rfl) (fun _ _ _ h => h) (by rfl) ?_ hHeld ?_
            rotate_left
            · (intro w hSw; (try dsimp only at hSw); first | (go_simp; done) | (go_simp; with_reducible rfl))
            simp only [Act.put, List.setIfInBounds_toArray, List.set_cons_zero, List.set_cons_succ]
            refine takeH (i := 3) (v := ?_) rfl rfl (by kernel_rfl) (by kernel_rfl) (by kernel_rfl) (fun _ _ _ h => h) (by rfl) ?_ hHeld ?_
            rotate_left
            · (intro w hSw; (try dsimp only at hSw); first | (go_simp; done) | (go_simp; with_reducible rfl))
            simp only [Act.put, List.setIfInBounds_toArray, List.set_cons_zero, List.set_cons_succ]
            refine takeH (i := 4) (v := ?_) rfl rfl (by kernel_rfl) (by kernel_rfl) (by kernel_rfl) (fun _ _ _ h => h) (by rfl) ?_ hHeld ?_
            rotate_left
            · (intro w hSw; (try dsimp only at hSw); first | (go_simp; done) | (go_simp; with_reducible rfl))
            simp only [Act.put, List.setIfInBounds_toArray, List.set_cons_zero, List.set_cons_succ]
            refine takeH (i := 5) (v := ?_) rfl rfl (by kernel_rfl) (by kernel_rfl) (by kernel_rfl) (fun _ _ _ h => h) (by rfl) ?_ hHeld ?_
            rotate_left
            · (intro w hSw; (try dsimp only at hSw); first | (go_simp; done) | (go_simp; with_reducible rfl))
            simp only [Act.put, List.setIfInBounds_toArray, List.set_cons_zero, List.set_cons_succ]
            refine takeH (i := 6) (v := ?_) rfl rfl (by kernel_rfl) (by kernel_rfl) (by kernel_rfl) (fun _ _ _ h => h) (by rfl) ?_ hHeld ?_
            rotate_left
            · (intro w hSw; (try dsimp only at hSw); first | (go_simp; done) | (go_simp; with_reducible rfl))
            simp only [Act.put, List.setIfInBounds_toArray, List.set_cons_zero, List.set_cons_succ]
            refine takeH (i := 7) (v := ?_) rfl rfl (by kernel_rfl) (by kernel_rfl) (by kernel_rfl) (fun _ _ _ h => h) (by rfl) ?_ hHeld ?_
            rotate_left
            · (intro w hSw; (try dsimp only at hSw); first | (go_simp; done) | (go_simp; with_reducible rfl))
            simp only [Act.put, List.setIfInBounds_toArray, List.set_cons_zero, List.set_cons_succ]
            refine wpAnyH_ready (rs := [8]) (by kernel_rfl) (by simp) ?_
            refine AllReadyH.cons rfl (fun K hK => ?_) AllReadyH.nil
            go_simp
            refine (refLitH_any An A A3 Ae nn cn n c t.length c3 ce sz nums t E x ss _ M env HK.out HMD.out HLD.out HLB.out).mono ?_
            rintro e w3 ⟨rfl, hb3⟩
            rw [HLT.out]
            have hb2 := hd.trans (hb3.mono hd.size)
            have HB3 := Lib.hid (HBW.out.trans (hb2.mono HBW.out.size))
            have p0' : w3.cell? ⟨w.heap.size, 0, none⟩ = some (.int .i64 sz) := by rw [hb2.cell (p := ⟨w.heap.size, 0, none⟩) HSZ.out.1]; exact p0
            have p1' : w3.cell? ⟨w.heap.size, 1, none⟩ = some (.slice An nn cn) := by rw [hb2.cell (p := ⟨w.heap.size, 1, none⟩) HSZ.out.1]; exact p1
            have y0' : w3.cell? ⟨w.heap.size + 1, 0, none⟩ = some (.slice (some ⟨b, off, none⟩) v.n1 v.c1) := by rw [hb2.cell (p := ⟨w.heap.size + 1, 0, none⟩) HSZ.out.2]; exact y0
            have d0' : w3.cell? ⟨b, off + k * 2, none⟩ = some (.bool x) := by rw [hb2.cell (p := ⟨b, off + k * 2, none⟩) HBB.out]; exact d0
            have d1' : w3.cell? ⟨b, off + k * 2 + 1, none⟩ = some (.slice A3 t.length c3) := by rw [hb2.cell (p := ⟨b, off + k * 2 + 1, none⟩) HBB.out]; exact d1
            clear hb2 hb3 hd p0 p1 y0 d0 d1
            go_wp2_with fail
            refine hK.out _ _ ?_ (fun hHeld => ?_)
            · exact ⟨p0', p1', y0', d0', d1'⟩
            clear hK K
            skip
            refine wpAnyH_done (by kernel_rfl) ?_ _
            go_wp2
            go_roundw
            case rel => exact ⟨k + 1, by go_num, by omega, any_next HGET.out HAY.out HLT.out, HB3.out⟩
            case measure => simp [intOf]; omega
          · have HLT := Lib.hid hlit
            clear hlit
            -- a literal of a list: region with its call; HLT: what the call tells
            refine wp_region_held_drew (S := (fun w' => w'.cell? ⟨w.heap.size, 0, none⟩ = some (.int .i64 sz) ∧ w'.cell? ⟨w.heap.size, 1, none⟩ = some (.slice An nn cn) ∧ w'.cell? ⟨w.heap.size + 1, 0, none⟩ = some (.slice (some ⟨b, off, none⟩) v.n1 v.c1) ∧ w'.cell? ⟨b, off + k * 2, none⟩ = some (.bool x) ∧ w'.cell? ⟨b, off + k * 2 + 1, none⟩ = some (.slice A3 t.length c3))) (by kernel_rfl) ⟨p0, p1, y0, d0, d1⟩ (fun hHeld => ?_)
            have hd : Below wr.heap.size wr wr.drew := (Below.refl wr.heap.size wr).drew
            have HMD := Lib.hid ((HA.out.on HBW.out).on hd)
            have HLD := Lib.hid (HRR.out.on hd)
            refine takeH (i := 0) (v := ?_) rfl rfl (by kernel_rfl) (by kernel_rfl) (by kernel_rfl) (fun _ _ _ h => h) (by rfl) ?_ hHeld ?_
            rotate_left
            · (intro w hSw; (try dsimp only at hSw); first | (go_simp; done) | (go_simp; with_reducible rfl))
            simp only [Act.put, List.setIfInBounds_toArray, List.set_cons_zero, List.set_cons_succ]
            refine takeH (i := 1) (v := ?_) rfl rfl (by kernel_rfl) (by kernel_rfl) (by kernel_rfl) (fun _ _ _ h => h) (by rfl) ?_ hHeld ?_
            rotate_left
            · (intro w hSw; (try dsimp only at hSw); first | (go_simp; done) | (go_simp; with_reducible rfl))
            simp only [Act.put, List.setIfInBounds_toArray, List.set_cons_zero, List.set_cons_succ]
            refine takeH (i := 2) (v := ?_) rfl rfl (by kernel_rfl) (by kernel_rfl) (by kernel_rfl) (fun _ _ _ h => h) (by rfl) ?_ hHeld ?_
            rotate_left
            · (intro w hSw; (try dsimp only at hSw); first | (go_simp; done) | (go_simp; with_reducible rfl))
            simp only [Act.put, List.setIfInBounds_toArray, List.set_cons_zero, List.set_cons_succ]
            refine takeH (i := 3) (v := ?_) rfl rfl (by kernel_rfl) (by kernel_rfl) (by kernel_rfl) (fun _ _ _ h => h) (by rfl) ?_ hHeld ?_
            rotate_left
            · (intro w hSw; (try dsimp only at hSw); first | (go_simp; done) | (go_simp; with_reducible rfl))
            simp only [Act.put, List.setIfInBounds_toArray, List.set_cons_zero, List.set_cons_succ]
            refine takeH (i := 4) (v := ?_) rfl rfl (by kernel_rfl) (by kernel_rfl) (by kernel_rfl) (fun _ _ _ h => h) (by rfl) ?_ hHeld ?_
            rotate_left
            · (intro w hSw; (try dsimp only at hSw); first | (go_simp; done) | (go_simp; with_reducible rfl))
            simp only [Act.put, List.setIfInBounds_toArray, List.set_cons_zero, List.set_cons_succ]
            refine takeH (i := 5) (v := ?_) rfl rfl (by kernel_rfl) (by kernel_rfl) (by kernel_rfl) (fun _ _ _ h => h) (by rfl) ?_ hHeld ?_
            rotate_left
            · (intro w hSw; (try dsimp only at hSw); first | (go_simp; done) | (go_simp; with_reducible rfl))
            simp only [Act.put, List.setIfInBounds_toArray, List.set_cons_zero, List.set_cons_succ]
            refine takeH (i := 6) (v := ?_) rfl rfl (by kernel_rfl) (by kernel_rfl) (by kernel_rfl) (fun _ _ _ h => h) (by rfl) ?_ hHeld ?_
            rotate_left
            · (intro w hSw; (try dsimp only at hSw); first | (go_simp; done) | (go_simp; with_reducible rfl))
            simp only [Act.put, List.setIfInBounds_toArray, List.set_cons_zero, List.set_cons_succ]
            refine takeH (i := 7) (v := ?_) rfl rfl (by kernel_rfl) (by kernel_rfl) (by kernel_rfl) (fun _ _ _ h => h) (by rfl) ?_ hHeld ?_
            rotate_left
            · (intro w hSw; (try dsimp only at hSw); first | (go_simp; done) | (go_simp; with_reducible rfl))
            simp only [Act.put, List.setIfInBounds_toArray, List.set_cons_zero, List.set_cons_succ]
            refine wpAnyH_ready (rs := [8]) (by kernel_rfl) (by simp) ?_
            refine AllReadyH.cons rfl (fun K hK => ?_) AllReadyH.nil
            go_simp
            refine (refLitH_any An A A3 Ae nn cn n c t.length c3 ce sz nums t E x ss _ M env HK.out HMD.out HLD.out HLB.out).mono ?_
            rintro e w3 ⟨rfl, hb3⟩
            rw [HLT.out]
            have hb2 := hd.trans (hb3.mono hd.size)
            have HB3 := Lib.hid (HBW.out.trans (hb2.mono HBW.out.size))
            have p0' : w3.cell? ⟨w.heap.size, 0, none⟩ = some (.int .i64 sz) := by rw [hb2.cell (p := ⟨w.heap.size, 0, none⟩) HSZ.out.1]; exact p0
            have p1' : w3.cell? ⟨w.heap.size, 1, none⟩ = some (.slice An nn cn) := by rw [hb2.cell (p := ⟨w.heap.size, 1, none⟩) HSZ.out.1]; exact p1
            have y0' : w3.cell? ⟨w.heap.size + 1, 0, none⟩ = some (.slice (some ⟨b, off, none⟩) v.n1 v.c1) := by rw [hb2.cell (p := ⟨w.heap.size + 1, 0, none⟩) HSZ.out.2]; exact y0
            have d0' : w3.cell? ⟨b, off + k * 2, none⟩ = some (.bool x) := by rw [hb2.cell (p := ⟨b, off + k * 2, none⟩) HBB.out]; exact d0
            have d1' : w3.cell? ⟨b, off + k * 2 + 1, none⟩ = some (.slice A3 t.length c3) := by rw [hb2.cell (p := ⟨b, off + k * 2 + 1, none⟩) HBB.out]; exact d1
            clear hb2 hb3 hd p0 p1 y0 d0 d1
            go_wp2_with fail
            refine hK.out _ _ ?_ (fun hHeld => ?_)
            · exact ⟨p0', p1', y0', d0', d1'⟩
            clear hK K
            skip
            refine wpAnyH_done (by kernel_rfl) ?_ _
            go_wp2
            go_ret
            exact ⟨ret_bool (by unfold hereC; rw [HC1.out, any_hit (p := litH ss M env) HGET.out HLT.out]; rfl), HB0.out.trans (HB3.out.mono HB0.out.size)⟩
        · obtain rfl : k = v.n1 := by omega
          have HC2 : Hid (cl.lits.any (litH ss M env) = false) := any_all HL1.out HAY.out
          have x2 := HXW.out.c0
          obtain ⟨wB, hwB⟩ : ∃ wB, wB = wr := ⟨_, rfl⟩
          subst hwB
          clear hlt HAY
          go_wp2_with fail
          clear p0 p1 x2
          have HBB := HBW
          clear HBW HXW HMW HSZ
          go_loopw [11] (fun i wr => ∃ k : Nat, i = .int .i64 k ∧ k ≤ v.n2 ∧ ((cl.tups.take k).any (tupH ss M env)) = false ∧ Below w1.heap.size w1 wr) (fun i _ => v.n2 - (intOf i).toNat)
          case atStart => exact ⟨0, rfl, by omega, rfl, HBB.out⟩
          case round =>
            obtain ⟨k, rfl, hkn, hay, hbw⟩ := hrel
            have HBW := Lib.hid hbw
            have HAY := Lib.hid hay
            have HXW := Lib.hid (HX.out.on hbw)
            have HMW := Lib.hid (HMB.out.below hbw HSZ0.out.1)
            have HSZ : Hid (w.heap.size < wr.heap.size ∧ w.heap.size + 1 < wr.heap.size) := by have := hbw.size; have h1 := HSZ0.out; show _ ∧ _; omega
            have p0 := HMW.out.1
            have p1 := HMW.out.2
            clear hbw hay
            by_cases hlt : k < v.n2
            · have hkl : k < cl.tups.length := by rw [HL2.out]; exact hlt
              obtain ⟨b, off, A3, c3, hA, hb, d0, hr, -⟩ := HXW.out.cl.tups.one hlt
              have y0 := HXW.out.c1
              rw [hA] at y0
              obtain ⟨t, htt⟩ : ∃ t, t = rowOf cl.tups k := ⟨_, rfl⟩
              have hget : cl.tups[k]? = some t := by rw [htt]; exact rowOf_get hkl
              have hrow := (HM.out.tups t (List.mem_of_getElem? hget)).1
              obtain ⟨kt, hkt⟩ := row_trm hrow
              have ht48 := (row_parts hrow).2.1
              rw [← htt] at d0 hr
              have HGET := Lib.hid hget
              have HRR := Lib.hid hr
              have HBC := Lib.hid hb
              have HTR := Lib.hid hkt
              have ht6 : t.length ≤ 1000000 := by omega
              have hi0 : (0 : Int) ≤ (k : Int) := by omega
              have hi3 : (k : Int) < (v.n2 : Int) := by omega
              clear hr htt hA hb hkl hget hrow hkt ht48
              go_wp2_with fail
              cases htup : tupH ss M env t
              · have HLT := Lib.hid htup
                clear htup
                refine wp_region_held_drew (S := (fun w' => w'.cell? ⟨w.heap.size, 0, none⟩ = some (.int .i64 sz) ∧ w'.cell? ⟨w.heap.size, 1, none⟩ = some (.slice An nn cn) ∧ w'.cell? ⟨w.heap.size + 1, 1, none⟩ = some (.slice (some ⟨b, off, none⟩) v.n2 v.c2) ∧ w'.cell? ⟨b, off + k, none⟩ = some (.slice A3 t.length c3))) (by kernel_rfl) ⟨p0, p1, y0, d0⟩ (fun hHeld => ?_)
                have hd : Below wr.heap.size wr wr.drew := (Below.refl wr.heap.size wr).drew
                have HMD := Lib.hid ((HA.out.on HBW.out).on hd)
                have HLD := Lib.hid (HRR.out.at_.on hd)
                refine takeH (i := 0) (v := ?_) rfl rfl (by kernel_rfl) (by kernel_rfl) (by kernel_rfl) (fun _ _ _ h => h) (by rfl) ?_ hHeld ?_
                rotate_left
                · (intro w hSw; (try dsimp only at hSw); first | (go_simp; done) | (go_simp; with_reducible rfl))
                simp only [Act.put, List.setIfInBounds_toArray, List.set_cons_zero, List.set_cons_succ]
                refine takeH (i := 1) (v := ?_) rfl rfl (by kernel_rfl) (by kernel_rfl) (by kernel_rfl) (fun _ _ _ h => h) (by rfl) ?_ hHeld ?_
                rotate_left
                · (intro w hSw; (try dsimp only at hSw); first | (go_simp; done) | (go_simp; with_reducible rfl))
                simp only [Act.put, List.setIfInBounds_toArray, List.set_cons_zero, List.set_cons_succ]
                refine takeH (i := 2) (v := ?_) rfl rfl (by kernel_rfl) (by kernel_rfl) (by kernel_rfl) (fun _ _ _ h => h) (by rfl) ?_ hHeld ?_
                rotate_left
                · (intro w hSw; (try dsimp only at hSw); first | (go_simp; done) | (go_simp; with_reducible rfl))
                simp only [Act.put, List.setIfInBounds_toArray, List.set_cons_zero, List.set_cons_succ]
                refine takeH (i := 3) (v := ?_) rfl rfl (by kernel_rfl) (by kernel_rfl) (by kernel_rfl) (fun _ _ _ h => h) (by rfl) ?_ hHeld ?_
                rotate_left
                · (intro w hSw; (try dsimp only at hSw); first | (go_simp; done) | (go_simp; with_reducible rfl))
                simp only [Act.put, List.setIfInBounds_toArray, List.set_cons_zero, List.set_cons_succ]
                refine takeH (i := 4) (v := ?_) rfl rfl (by kernel_rfl) (by kernel_rfl) (by kernel_rfl) (fun _ _ _ h => h) (by rfl) ?_ hHeld ?_
                rotate_left
                · (intro w hSw; (try dsimp only at hSw); first | (go_simp; done) | (go_simp; with_reducible rfl))
                simp only [Act.put, List.setIfInBounds_toArray, List.set_cons_zero, List.set_cons_succ]
                refine takeH (i := 5) (v := ?_) rfl rfl (by kernel_rfl) (by kernel_rfl) (by kernel_rfl) (fun _ _ _ h => h) (by rfl) ?_ hHeld ?_
                rotate_left
                · (intro w hSw; (try dsimp only at hSw); first | (go_simp; done) | (go_simp; with_reducible rfl))
                simp only [Act.put, List.setIfInBounds_toArray, List.set_cons_zero, List.set_cons_succ]
                refine takeH (i := 6) (v := ?_) rfl rfl (by kernel_rfl) (by kernel_rfl) (by kernel_rfl) (fun _ _ _ h => h) (by rfl) ?_ hHeld ?_
                rotate_left
                · (intro w hSw; (try dsimp only at hSw); first | (go_simp; done) | (go_simp; with_reducible rfl))
                simp only [Act.put, List.setIfInBounds_toArray, List.set_cons_zero, List.set_cons_succ]
                refine takeH (i := 7) (v := ?_) rfl rfl (by kernel_rfl) (by kernel_rfl) (by kernel_rfl) (fun _ _ _ h => h) (by rfl) ?_ hHeld ?_
                rotate_left
                · (intro w hSw; (try dsimp only at hSw); first | (go_simp; done) | (go_simp; with_reducible rfl))
                simp only [Act.put, List.setIfInBounds_toArray, List.set_cons_zero, List.set_cons_succ]
                refine wpAnyH_ready (rs := [8]) (by kernel_rfl) (by simp) ?_
                refine AllReadyH.cons rfl (fun K hK => ?_) AllReadyH.nil
                go_simp
                refine (refTupH_any An A A3 Ae nn cn n c t.length c3 ce kt sz nums t E ss _ M env HK.out HMD.out HLD.out ht6 HTR.out).mono ?_
                rintro e w3 ⟨rfl, hb3⟩
                rw [HLT.out]
                have hb2 := hd.trans (hb3.mono hd.size)
                have HB3 := Lib.hid (HBW.out.trans (hb2.mono HBW.out.size))
                have p0' : w3.cell? ⟨w.heap.size, 0, none⟩ = some (.int .i64 sz) := by rw [hb2.cell (p := ⟨w.heap.size, 0, none⟩) HSZ.out.1]; exact p0
                have p1' : w3.cell? ⟨w.heap.size, 1, none⟩ = some (.slice An nn cn) := by rw [hb2.cell (p := ⟨w.heap.size, 1, none⟩) HSZ.out.1]; exact p1
                have y0' : w3.cell? ⟨w.heap.size + 1, 1, none⟩ = some (.slice (some ⟨b, off, none⟩) v.n2 v.c2) := by rw [hb2.cell (p := ⟨w.heap.size + 1, 1, none⟩) HSZ.out.2]; exact y0
                have d0' : w3.cell? ⟨b, off + k, none⟩ = some (.slice A3 t.length c3) := by rw [hb2.cell (p := ⟨b, off + k, none⟩) HBC.out]; exact d0
                clear hb2 hb3 hd p0 p1 y0 d0
                go_wp2_with fail
                refine hK.out _ _ ?_ (fun hHeld => ?_)
                · exact ⟨p0', p1', y0', d0'⟩
                clear hK K
                refine wpAnyH_done (by kernel_rfl) ?_ _
                go_wp2
                go_roundw
                case rel => exact ⟨k + 1, by go_num, by omega, any_next HGET.out HAY.out HLT.out, HB3.out⟩
                case measure => simp [intOf]; omega
              · have HLT := Lib.hid htup
                clear htup
                refine wp_region_held_drew (S := (fun w' => w'.cell? ⟨w.heap.size, 0, none⟩ = some (.int .i64 sz) ∧ w'.cell? ⟨w.heap.size, 1, none⟩ = some (.slice An nn cn) ∧ w'.cell? ⟨w.heap.size + 1, 1, none⟩ = some (.slice (some ⟨b, off, none⟩) v.n2 v.c2) ∧ w'.cell? ⟨b, off + k, none⟩ = some (.slice A3 t.length c3))) (by kernel_rfl) ⟨p0, p1, y0, d0⟩ (fun hHeld => ?_)
                have hd : Below wr.heap.size wr wr.drew := (Below.refl wr.heap.size wr).drew
                have HMD := Lib.hid ((HA.out.on HBW.out).on hd)
                have HLD := Lib.hid (HRR.out.at_.on hd)
                refine takeH (i := 0) (v := ?_) rfl rfl (by kernel_rfl) (by kernel_rfl) (by kernel_rfl) (fun _ _ _ h => h) (by rfl) ?_ hHeld ?_
                rotate_left
                · (intro w hSw; (try dsimp only at hSw); first | (go_simp; done) | (go_simp; with_reducible rfl))
                simp only [Act.put, List.setIfInBounds_toArray, List.set_cons_zero, List.set_cons_succ]
                refine takeH (i := 1) (v := ?_) rfl rfl (by kernel_rfl) (by kernel_rfl) (by kernel_rfl) (fun _ _ _ h => h) (by rfl) ?_ hHeld ?_
                rotate_left
                · (intro w hSw; (try dsimp only at hSw); first | (go_simp; done) | (go_simp; with_reducible rfl))
                simp only [Act.put, List.setIfInBounds_toArray, List.set_cons_zero, List.set_cons_succ]
                refine takeH (i := 2) (v := ?_) rfl rfl (by kernel_rfl) (by kernel_rfl) (by kernel_rfl) (fun _ _ _ h => h) (by rfl) ?_ hHeld ?_
                rotate_left
                · (intro w hSw; (try dsimp only at hSw); first | (go_simp; done) | (go_simp; with_reducible rfl))
                simp only [Act.put, List.setIfInBounds_toArray, List.set_cons_zero, List.set_cons_succ]
                refine takeH (i := 3) (v := ?_) rfl rfl (by kernel_rfl) (by kernel_rfl) (by kernel_rfl) (fun _ _ _ h => h) (by rfl) ?_ hHeld ?_
                rotate_left
                · (intro w hSw; (try dsimp only at hSw); first | (go_simp; done) | (go_simp; with_reducible rfl))
                simp only [Act.put, List.setIfInBounds_toArray, List.set_cons_zero, List.set_cons_succ]
                refine takeH (i := 4) (v := ?_) rfl rfl (by kernel_rfl) (by kernel_rfl) (by kernel_rfl) (fun _ _ _ h => h) (by rfl) ?_ hHeld ?_
                rotate_left
                · (intro w hSw; (try dsimp only at hSw); first | (go_simp; done) | (go_simp; with_reducible rfl))
                simp only [Act.put, List.setIfInBounds_toArray, List.set_cons_zero, List.set_cons_succ]
                refine takeH (i := 5) (v := ?_) rfl rfl (by kernel_rfl) (by kernel_rfl) (by kernel_rfl) (fun _ _ _ h => h) (by rfl) ?_ hHeld ?_
                rotate_left
                · (intro w hSw; (try dsimp only at hSw); first | (go_simp; done) | (go_simp; with_reducible rfl))
                simp only [Act.put, List.setIfInBounds_toArray, List.set_cons_zero, List.set_cons_succ]
                refine takeH (i := 6) (v := ?_) rfl rfl (by kernel_rfl) (by kernel_rfl) (by kernel_rfl) (fun _ _ _ h => h) (by rfl) ?_ hHeld ?_
                rotate_left
                · (intro w hSw; (try dsimp only at hSw); first | (go_simp; done) | (go_simp; with_reducible rfl))
                simp only [Act.put, List.setIfInBounds_toArray, List.set_cons_zero, List.set_cons_succ]
                refine takeH (i := 7) (v := ?_) rfl rfl (by kernel_rfl) (by kernel_rfl) (by kernel_rfl) (fun _ _ _ h => h) (by rfl) ?_ hHeld ?_
                rotate_left
                · (intro w hSw; (try dsimp only at hSw); first | (go_simp; done) | (go_simp; with_reducible rfl))
                simp only [Act.put, List.setIfInBounds_toArray, List.set_cons_zero, List.set_cons_succ]
                refine wpAnyH_ready (rs := [8]) (by kernel_rfl) (by simp) ?_
                refine AllReadyH.cons rfl (fun K hK => ?_) AllReadyH.nil
                go_simp
                refine (refTupH_any An A A3 Ae nn cn n c t.length c3 ce kt sz nums t E ss _ M env HK.out HMD.out HLD.out ht6 HTR.out).mono ?_
                rintro e w3 ⟨rfl, hb3⟩
                rw [HLT.out]
                have hb2 := hd.trans (hb3.mono hd.size)
                have HB3 := Lib.hid (HBW.out.trans (hb2.mono HBW.out.size))
                have p0' : w3.cell? ⟨w.heap.size, 0, none⟩ = some (.int .i64 sz) := by rw [hb2.cell (p := ⟨w.heap.size, 0, none⟩) HSZ.out.1]; exact p0
                have p1' : w3.cell? ⟨w.heap.size, 1, none⟩ = some (.slice An nn cn) := by rw [hb2.cell (p := ⟨w.heap.size, 1, none⟩) HSZ.out.1]; exact p1
                have y0' : w3.cell? ⟨w.heap.size + 1, 1, none⟩ = some (.slice (some ⟨b, off, none⟩) v.n2 v.c2) := by rw [hb2.cell (p := ⟨w.heap.size + 1, 1, none⟩) HSZ.out.2]; exact y0
                have d0' : w3.cell? ⟨b, off + k, none⟩ = some (.slice A3 t.length c3) := by rw [hb2.cell (p := ⟨b, off + k, none⟩) HBC.out]; exact d0
                clear hb2 hb3 hd p0 p1 y0 d0
                go_wp2_with fail
                refine hK.out _ _ ?_ (fun hHeld => ?_)
                · exact ⟨p0', p1', y0', d0'⟩
                clear hK K
                refine wpAnyH_done (by kernel_rfl) ?_ _
                go_wp2
                go_ret
                exact ⟨ret_bool (by unfold hereC; rw [HC1.out, HC2.out, any_hit (p := tupH ss M env) HGET.out HLT.out]; rfl), HB0.out.trans (HB3.out.mono HB0.out.size)⟩
            · obtain rfl : k = v.n2 := by omega
              have HC3 : Hid (cl.tups.any (tupH ss M env) = false) := any_all HL2.out HAY.out
              have x2 := HXW.out.c1
              clear hlt HAY
              go_wp2
              go_ret
              exact ⟨ret_bool (by unfold hereC; rw [HC1.out, HC2.out, HC3.out]; rfl), HB0.out.trans (HBW.out.mono HB0.out.size)⟩
end Go.Proofs.YtcjpopjcpgipjaaDoor

namespace Go.Proofs.YtcjpopjcpgipjaaDoor
open Go.RowKit Go.Deep
set_option linter.unusedSimpArgs false
set_option linter.unusedVariables false
set_option maxRecDepth 100000

def envOf (E : List Int) : Nat → Int := fun u => intAt E u
theorem intAt_set' {E : List Int} {i : Nat} {x : Int} (h : i < E.length) (u : Nat) : intAt (E.set i x) u = if u = i then x else intAt E u := by
  unfold intAt
  rw [List.getD_eq_getElem?_getD, List.getD_eq_getElem?_getD, List.getElem?_set]
  by_cases e : u = i
  · subst e; simp [h]
  · have : ¬ i = u := fun q => e q.symm
    rw [if_neg this, if_neg e]
theorem envOf_set {E : List Int} {i : Nat} {x : Int} (h : i < E.length) : envOf (E.set i x) = upd (envOf E) i x := by
  funext u
  unfold envOf upd
  rw [intAt_set' h]
/-- Block g holds what stands for variables. -/
structure EnvB (w : World) (g : Nat) (E : List Int) : Prop where
  len : E.length = 24
  blk : w.heap[g]? = some (.cells (intCells E).toArray 3 (0, 0))
section
variable {w w' : World} {g i : Nat} {E : List Int}
theorem EnvB.lt (h : EnvB w g E) : g < w.heap.size := (Array.getElem?_eq_some_iff.1 h.blk).1
theorem EnvB.cell (h : EnvB w g E) (hi : i < 24) : w.cell? ⟨g, i, none⟩ = some (.int .i64 (intAt E i)) := by
  rw [cell_of_row _ _ i _ _ _ h.blk, List.getElem?_toArray]
  have := intAt_get (xs := E) (i := i) (by rw [h.len]; exact hi)
  unfold intCells
  rw [List.getElem?_map, this]; rfl
theorem EnvB.fr (h : EnvB w g E) : w.frozen? ⟨g, i, none⟩ = false := frozen_of_row _ _ _ _ _ h.blk
theorem EnvB.set (h : EnvB w g E) (i : Nat) (x : Int) : EnvB (w.setCell ⟨g, i, none⟩ (.int .i64 x)) g (E.set i x) := by
  refine ⟨by rw [List.length_set]; exact h.len, ?_⟩
  rw [heap_setCell_same _ _ i _ _ (.int .i64 x) h.blk]
  have : (intCells E).toArray.setIfInBounds i (.int .i64 x) = (intCells (E.set i x)).toArray := by
    unfold intCells
    rw [List.setIfInBounds_toArray, List.map_set]
  rw [this]
theorem EnvB.on (h : EnvB w g E) (hb : Below w.heap.size w w') : EnvB w' g E := ⟨h.len, by rw [hb.block g h.lt]; exact h.blk⟩
theorem EnvB.intsAt (h : EnvB w g E) : IntsAt w w.heap.size (some ⟨g, 0, none⟩) 24 E :=
  ⟨h.len, fun _ => ⟨g, 0, rfl, h.lt, fun i hi => by rw [Nat.zero_add]; exact h.cell hi⟩⟩
end
set_option maxHeartbeats 4000000 in
theorem refEnv_any (w : World) : Calls Tryd.prog 44 #[] w fun e w' => e = .returned (.slice (some ⟨w.heap.size, 0, none⟩) 24 24) ∧ EnvB w' w.heap.size (List.replicate 24 0) ∧ Below w.heap.size w w' := by
  have hmk : (Instr.makeSlice 28 (.int .i64 24) (.int .i64 24)).run Tryd.prog w = .ok (.slice (some ⟨w.heap.size, 0, none⟩) 24 24) (w.alloc (.cells (madeCells #[.int .i64 0] 24) 3)) := run_make_row' (P := Tryd.prog) 28 3 (.int .i64 0) 8 Tryd.underlying28 int_info rfl .i64 .i64 24 (by omega) (by omega) w
  go_enter Tryd.func44, Tryd.ntmps44
  go_wp2
  go_ret
  refine ⟨rfl, ⟨rfl, ?_⟩, below_new w _⟩
  have hz : madeCells #[.int .i64 0] 24 = (intCells (List.replicate 24 0)).toArray := by kernel_rfl
  rw [heap_alloc_new, hz]
/-- What Next does. -/
def NextPost (g : Nat) (sz : Int) (vs : List Nat) (E : List Int) (w : World) (e : Ending) (w' : World) : Prop :=
  ∃ E' b, e = .returned (.bool b) ∧ EnvB w' g E' ∧ nextE sz vs (envOf E) = (envOf E', b) ∧ Below g w w'
theorem MBx.set {w : World} {b g i : Nat} {sz : Int} {An : Option Addr} {nn cn : Nat} (h : MBx w b sz An nn cn) (hne : g ≠ b) (x : Value) : MBx (w.setCell ⟨g, i, none⟩ x) b sz An nn cn :=
  ⟨by rw [World.cell?_setCell_far _ _ _ _ (by exact hne)]; exact h.1, by rw [World.cell?_setCell_far _ _ _ _ (by exact hne)]; exact h.2⟩
def natsI (vs : List Nat) : List Int := vs.map Int.ofNat
theorem natsI_at {vs : List Nat} {k v : Nat} (h : vs[k]? = some v) : intAt (natsI vs) k = (v : Int) := by
  unfold intAt natsI
  rw [List.getD_eq_getElem?_getD, List.getElem?_map, h]; rfl
theorem next_up {sz : Int} {v : Nat} {vs : List Nat} {env : Nat → Int} (h : env v + 1 < sz) : nextE sz (v :: vs) env = (upd env v (env v + 1), true) := by
  show (if _ then _ else _) = _
  rw [if_pos h]
theorem next_on {sz : Int} {v : Nat} {vs : List Nat} {env : Nat → Int} (h : ¬ env v + 1 < sz) : nextE sz (v :: vs) env = nextE sz vs (upd env v 0) := by
  show (if _ then _ else _) = _
  rw [if_neg h]
set_option maxHeartbeats 8000000 in
theorem refNext_any (An AV : Option Addr) (nn cn nv cv g : Nat) (sz : Int) (vs : List Nat) (E : List Int) (w : World) (hsz : 1 ≤ sz ∧ sz ≤ 3) (hE : EnvB w g E) (hv : IntsAt w g AV nv (natsI vs)) (hb : ∀ v ∈ vs, v < 24) (hr : ∀ u ∈ vs, 0 ≤ envOf E u ∧ envOf E u < sz) (hn : nv ≤ 1000) :
    Calls Tryd.prog 46 #[mdV sz An nn cn, .slice (some ⟨g, 0, none⟩) 24 24, .slice AV nv cv] w (NextPost g sz vs E w) := by
  have HSZ := Lib.hid hsz
  have HVB := Lib.hid hb
  have hvl : vs.length = nv := by have := hv.len; unfold natsI at this; rwa [List.length_map] at this
  obtain ⟨w1, hw1⟩ : ∃ w1, w1 = w.alloc (.cells #[.int .i64 sz, .slice An nn cn] 52) := ⟨_, rfl⟩
  have hb0 : Below w.heap.size w w1 := by rw [hw1]; exact below_new w _
  have HB0 := Lib.hid hb0
  have hlt := hE.lt
  obtain ⟨B, hB⟩ : ∃ B, B = w.heap.size := ⟨_, rfl⟩
  have HGB : Hid (g ≠ B) := by show g ≠ B; omega
  have m0 : MBx w1 B sz An nn cn := by rw [hw1, hB]; exact ⟨by rw [World.cell?_alloc_new]; rfl, by rw [World.cell?_alloc_new]; rfl⟩
  have HM0 := Lib.hid m0
  have HE0 := Lib.hid (hE.on hb0)
  have hbg : Below g w w1 := hb0.mono (by omega)
  have HBG := Lib.hid hbg
  have HV0 := Lib.hid (hv.below hbg)
  have HVL := Lib.hid hvl
  have HR := Lib.hid hr
  clear hsz hb hr hE hv m0 hbg hvl hb0 hlt
  unfold mdV
  go_enter Tryd.func46, Tryd.ntmps46
  go_upto_region 1 with (fail)
  rw [← hw1, ← hB]
  clear hw1 hB
  go_wp2_with fail
  go_loopw [7] (fun i wr => ∃ (k : Nat) (F : List Int), i = .int .i64 k ∧ k ≤ nv ∧ EnvB wr g F ∧ MBx wr B sz An nn cn ∧ Below g w1 wr ∧ nextE sz vs (envOf E) = nextE sz (vs.drop k) (envOf F) ∧ ∀ u ∈ vs.drop k, 0 ≤ envOf F u ∧ envOf F u < sz) (fun i _ => nv - (intOf i).toNat)
  case atStart => exact ⟨0, E, rfl, by omega, HE0.out, HM0.out, Below.refl _ _, rfl, HR.out⟩
  case round =>
    obtain ⟨k, F, rfl, hk, hF, hm, hbw, hnx, hrg⟩ := hrel
    have HF := Lib.hid hF
    have HM := Lib.hid hm
    have HBW := Lib.hid hbw
    have HNX := Lib.hid hnx
    have HRG := Lib.hid hrg
    have p0 := HM.out.1
    clear hF hm hbw hnx hrg
    by_cases hlt : k < nv
    · have hkl : k < vs.length := by rw [HVL.out]; exact hlt
      obtain ⟨v, hvk⟩ : ∃ v, v = vs[k] := ⟨_, rfl⟩
      have hget : vs[k]? = some v := by rw [hvk]; exact List.getElem?_eq_getElem hkl
      have hdrop : vs.drop k = v :: vs.drop (k + 1) := by rw [hvk]; exact List.drop_eq_getElem_cons hkl
      have hv24 := HVB.out v (List.mem_of_getElem? hget)
      have hx := HRG.out v (by rw [hdrop]; exact List.mem_cons_self ..)
      obtain ⟨b, off, hA, hbb, hcc⟩ := (HV0.out.below HBW.out).at_ (by omega)
      have c0 := hcc k hlt
      dsimp only at c0
      rw [natsI_at hget] at c0
      obtain ⟨x, hxx⟩ : ∃ x, x = envOf F v := ⟨_, rfl⟩
      have e0 : wr.cell? ⟨g, v, none⟩ = some (.int .i64 x) := by rw [hxx]; exact HF.out.cell hv24
      rw [← hxx] at hx
      have f0 : wr.frozen? ⟨g, v, none⟩ = false := HF.out.fr
      have HXX := Lib.hid hxx
      have HDR := Lib.hid hdrop
      have hv0 : (0 : Int) ≤ (v : Int) := by omega
      have hv1 : (v : Int) < 24 := by omega
      obtain ⟨x0, x1⟩ := hx
      have x3 : x < 3 := by have := HSZ.out.2; omega
      have hi0 : (0 : Int) ≤ (k : Int) := by omega
      have hi3 : (k : Int) < (nv : Int) := by omega
      subst hA
      have hvl24 : v < F.length := by rw [HF.out.len]; exact hv24
      have HF1 := Lib.hid (HF.out.set v (x + 1))
      have HM1 : Hid (MBx (wr.setCell ⟨g, v, none⟩ (.int .i64 (x + 1))) B sz An nn cn) := HM.out.set HGB.out _
      have HB1 : Hid (Below g w1 (wr.setCell ⟨g, v, none⟩ (.int .i64 (x + 1)))) := HBW.out.setCell (Nat.le_refl _) _
      have c1 : (wr.setCell ⟨g, v, none⟩ (.int .i64 (x + 1))).cell? ⟨b, off + k, none⟩ = some (.int .i64 (v : Int)) := by rw [World.cell?_setCell_far _ _ _ _ (by show g ≠ b; omega)]; exact c0
      have e1 : (wr.setCell ⟨g, v, none⟩ (.int .i64 (x + 1))).cell? ⟨g, v, none⟩ = some (.int .i64 (x + 1)) := by rw [HF1.out.cell hv24, intAt_set' hvl24, if_pos rfl]
      have f1 : (wr.setCell ⟨g, v, none⟩ (.int .i64 (x + 1))).frozen? ⟨g, v, none⟩ = false := HF1.out.fr
      have m1 := HM1.out.1
      clear hcc hbb hkl hvk hget hdrop hxx
      have HV24 := Lib.hid hv24
      go_wp2_with fail
      obtain ⟨w2, hw2⟩ : ∃ w2, w2 = wr.setCell ⟨g, v, none⟩ (.int .i64 (x + 1)) := ⟨_, rfl⟩
      rw [← hw2] at HF1 HM1 HB1 c1 e1 f1 m1 ⊢
      clear hw2 c0 e0 f0 p0
      refine wp_region_held_drew (S := (fun w' => w'.cell? ⟨b, off + k, none⟩ = some (.int .i64 (v : Int)) ∧ w'.cell? ⟨g, v, none⟩ = some (.int .i64 (x + 1)) ∧ w'.cell? ⟨B, 0, none⟩ = some (.int .i64 sz))) (by kernel_rfl) ⟨c1, e1, m1⟩ (fun hHeld => ?_)
      have hd : Below w2.heap.size w2 w2.drew := (Below.refl w2.heap.size w2).drew
      by_cases hup : x + 1 < sz
      · skip
        refine takeH (i := 0) (v := ?_) rfl rfl (by kernel_rfl) (by kernel_rfl) (by kernel_rfl) (fun _ _ _ h => h) (by rfl) ?_ hHeld ?_
        rotate_left
        · (intro w hSw; (try dsimp only at hSw); first | (go_simp; done) | (go_simp; with_reducible rfl))
        simp only [Act.put, List.setIfInBounds_toArray, List.set_cons_zero, List.set_cons_succ]
        refine takeH (i := 1) (v := ?_) rfl rfl (by kernel_rfl) (by kernel_rfl) (by kernel_rfl) (fun _ _ _ h => h) (by rfl) ?_ hHeld ?_
        rotate_left
        · (intro w hSw; (try dsimp only at hSw); first | (go_simp; done) | (go_simp; with_reducible rfl))
        simp only [Act.put, List.setIfInBounds_toArray, List.set_cons_zero, List.set_cons_succ]
        refine takeH (i := 2) (v := ?_) rfl rfl (by kernel_rfl) (by kernel_rfl) (by kernel_rfl) (fun _ _ _ h => h) (by rfl) ?_ hHeld ?_
        rotate_left
        · (intro w hSw; (try dsimp only at hSw); first | (go_simp; done) | (go_simp; with_reducible rfl))
        simp only [Act.put, List.setIfInBounds_toArray, List.set_cons_zero, List.set_cons_succ]
        refine takeH (i := 3) (v := ?_) rfl rfl (by kernel_rfl) (by kernel_rfl) (by kernel_rfl) (fun _ _ _ h => h) (by rfl) ?_ hHeld ?_
        rotate_left
        · (intro w hSw; (try dsimp only at hSw); first | (go_simp; done) | (go_simp; with_reducible rfl))
        simp only [Act.put, List.setIfInBounds_toArray, List.set_cons_zero, List.set_cons_succ]
        refine takeH (i := 4) (v := ?_) rfl rfl (by kernel_rfl) (by kernel_rfl) (by kernel_rfl) (fun _ _ _ h => h) (by rfl) ?_ hHeld ?_
        rotate_left
        · (intro w hSw; (try dsimp only at hSw); first | (go_simp; done) | (go_simp; with_reducible rfl))
        simp only [Act.put, List.setIfInBounds_toArray, List.set_cons_zero, List.set_cons_succ]
        refine takeH (i := 5) (v := ?_) rfl rfl (by kernel_rfl) (by kernel_rfl) (by kernel_rfl) (fun _ _ _ h => h) (by rfl) ?_ hHeld ?_
        rotate_left
        · (intro w hSw; (try dsimp only at hSw); first | (go_simp; done) | (go_simp; with_reducible rfl))
        simp only [Act.put, List.setIfInBounds_toArray, List.set_cons_zero, List.set_cons_succ]
        refine takeH (i := 6) (v := ?_) rfl rfl (by kernel_rfl) (by kernel_rfl) (by kernel_rfl) (fun _ _ _ h => h) (by rfl) ?_ hHeld ?_
        rotate_left
        · (intro w hSw; (try dsimp only at hSw); first | (go_simp; done) | (go_simp; with_reducible rfl))
        simp only [Act.put, List.setIfInBounds_toArray, List.set_cons_zero, List.set_cons_succ]
        refine takeH (i := 7) (v := ?_) rfl rfl (by kernel_rfl) (by kernel_rfl) (by kernel_rfl) (fun _ _ _ h => h) (by rfl) ?_ hHeld ?_
        rotate_left
        · (intro w hSw; (try dsimp only at hSw); first | (go_simp; done) | (go_simp; with_reducible rfl))
        simp only [Act.put, List.setIfInBounds_toArray, List.set_cons_zero, List.set_cons_succ]
        refine takeH (i := 8) (v := ?_) rfl rfl (by kernel_rfl) (by kernel_rfl) (by kernel_rfl) (fun _ _ _ h => h) (by rfl) ?_ hHeld ?_
        rotate_left
        · (intro w hSw; (try dsimp only at hSw); first | (go_simp; done) | (go_simp; with_reducible rfl))
        simp only [Act.put, List.setIfInBounds_toArray, List.set_cons_zero, List.set_cons_succ]
        refine takeH (i := 9) (v := ?_) rfl rfl (by kernel_rfl) (by kernel_rfl) (by kernel_rfl) (fun _ _ _ h => h) (by rfl) ?_ hHeld ?_
        rotate_left
        · (intro w hSw; (try dsimp only at hSw); first | (go_simp; done) | (go_simp; with_reducible rfl))
        simp only [Act.put, List.setIfInBounds_toArray, List.set_cons_zero, List.set_cons_succ]
        refine wpAnyH_done (by kernel_rfl) ?_ _
        go_wp2
        go_ret
        refine ⟨_, true, rfl, HF1.out.on hd, ?_, (HBG.out.trans HB1.out).trans (hd.mono (Nat.le_of_lt HF1.out.lt))⟩
        rw [HNX.out, HDR.out, next_up (by rw [← HXX.out]; exact hup), ← HXX.out, envOf_set (by rw [HF.out.len]; exact HV24.out)]
      · skip
        refine takeH (i := 0) (v := ?_) rfl rfl (by kernel_rfl) (by kernel_rfl) (by kernel_rfl) (fun _ _ _ h => h) (by rfl) ?_ hHeld ?_
        rotate_left
        · (intro w hSw; (try dsimp only at hSw); first | (go_simp; done) | (go_simp; with_reducible rfl))
        simp only [Act.put, List.setIfInBounds_toArray, List.set_cons_zero, List.set_cons_succ]
        refine takeH (i := 1) (v := ?_) rfl rfl (by kernel_rfl) (by kernel_rfl) (by kernel_rfl) (fun _ _ _ h => h) (by rfl) ?_ hHeld ?_
        rotate_left
        · (intro w hSw; (try dsimp only at hSw); first | (go_simp; done) | (go_simp; with_reducible rfl))
        simp only [Act.put, List.setIfInBounds_toArray, List.set_cons_zero, List.set_cons_succ]
        refine takeH (i := 2) (v := ?_) rfl rfl (by kernel_rfl) (by kernel_rfl) (by kernel_rfl) (fun _ _ _ h => h) (by rfl) ?_ hHeld ?_
        rotate_left
        · (intro w hSw; (try dsimp only at hSw); first | (go_simp; done) | (go_simp; with_reducible rfl))
        simp only [Act.put, List.setIfInBounds_toArray, List.set_cons_zero, List.set_cons_succ]
        refine takeH (i := 3) (v := ?_) rfl rfl (by kernel_rfl) (by kernel_rfl) (by kernel_rfl) (fun _ _ _ h => h) (by rfl) ?_ hHeld ?_
        rotate_left
        · (intro w hSw; (try dsimp only at hSw); first | (go_simp; done) | (go_simp; with_reducible rfl))
        simp only [Act.put, List.setIfInBounds_toArray, List.set_cons_zero, List.set_cons_succ]
        refine takeH (i := 4) (v := ?_) rfl rfl (by kernel_rfl) (by kernel_rfl) (by kernel_rfl) (fun _ _ _ h => h) (by rfl) ?_ hHeld ?_
        rotate_left
        · (intro w hSw; (try dsimp only at hSw); first | (go_simp; done) | (go_simp; with_reducible rfl))
        simp only [Act.put, List.setIfInBounds_toArray, List.set_cons_zero, List.set_cons_succ]
        refine takeH (i := 5) (v := ?_) rfl rfl (by kernel_rfl) (by kernel_rfl) (by kernel_rfl) (fun _ _ _ h => h) (by rfl) ?_ hHeld ?_
        rotate_left
        · (intro w hSw; (try dsimp only at hSw); first | (go_simp; done) | (go_simp; with_reducible rfl))
        simp only [Act.put, List.setIfInBounds_toArray, List.set_cons_zero, List.set_cons_succ]
        refine takeH (i := 6) (v := ?_) rfl rfl (by kernel_rfl) (by kernel_rfl) (by kernel_rfl) (fun _ _ _ h => h) (by rfl) ?_ hHeld ?_
        rotate_left
        · (intro w hSw; (try dsimp only at hSw); first | (go_simp; done) | (go_simp; with_reducible rfl))
        simp only [Act.put, List.setIfInBounds_toArray, List.set_cons_zero, List.set_cons_succ]
        refine takeH (i := 7) (v := ?_) rfl rfl (by kernel_rfl) (by kernel_rfl) (by kernel_rfl) (fun _ _ _ h => h) (by rfl) ?_ hHeld ?_
        rotate_left
        · (intro w hSw; (try dsimp only at hSw); first | (go_simp; done) | (go_simp; with_reducible rfl))
        simp only [Act.put, List.setIfInBounds_toArray, List.set_cons_zero, List.set_cons_succ]
        refine takeH (i := 8) (v := ?_) rfl rfl (by kernel_rfl) (by kernel_rfl) (by kernel_rfl) (fun _ _ _ h => h) (by rfl) ?_ hHeld ?_
        rotate_left
        · (intro w hSw; (try dsimp only at hSw); first | (go_simp; done) | (go_simp; with_reducible rfl))
        simp only [Act.put, List.setIfInBounds_toArray, List.set_cons_zero, List.set_cons_succ]
        refine takeH (i := 9) (v := ?_) rfl rfl (by kernel_rfl) (by kernel_rfl) (by kernel_rfl) (fun _ _ _ h => h) (by rfl) ?_ hHeld ?_
        rotate_left
        · (intro w hSw; (try dsimp only at hSw); first | (go_simp; done) | (go_simp; with_reducible rfl))
        simp only [Act.put, List.setIfInBounds_toArray, List.set_cons_zero, List.set_cons_succ]
        refine wpAnyH_done (by kernel_rfl) ?_ _
        obtain ⟨w3, hw3⟩ : ∃ w3, w3 = w2.drew := ⟨_, rfl⟩
        rw [← hw3] at hd ⊢
        have HF3 := Lib.hid (HF1.out.on hd)
        have HM3 : Hid (MBx w3 B sz An nn cn) := by rw [hw3]; exact HM1.out
        have HB3 := Lib.hid (HB1.out.trans (hd.mono (Nat.le_of_lt HF1.out.lt)))
        have c3 : w3.cell? ⟨b, off + k, none⟩ = some (.int .i64 (v : Int)) := by rw [hw3]; exact c1
        have f3 : w3.frozen? ⟨g, v, none⟩ = false := HF3.out.fr
        have e3 : w3.cell? ⟨g, v, none⟩ = some (.int .i64 (x + 1)) := by rw [hw3]; exact e1
        clear hd hw3 c1 e1 f1 m1
        go_wp2
        go_roundw
        case rel =>
          have hset : (F.set v (x + 1)).set v 0 = F.set v 0 := List.set_set ..
          have hF4 := HF3.out.set v 0
          rw [hset] at hF4
          refine ⟨k + 1, F.set v 0, by go_num, by omega, hF4, HM3.out.set HGB.out _, HB3.out.setCell (Nat.le_refl _) _, ?_, fun u hu => ?_⟩
          · rw [HNX.out, HDR.out, next_on (by rw [← HXX.out]; exact hup), envOf_set (by rw [HF.out.len]; exact HV24.out)]
          · rw [envOf_set (by rw [HF.out.len]; exact HV24.out)]
            by_cases e : u = v
            · rw [e, upd_same]; have := HSZ.out.1; omega
            · rw [upd_other _ _ e]; exact HRG.out u (by rw [HDR.out]; exact List.mem_cons_of_mem _ hu)
        case measure => simp [intOf]; omega
    · obtain rfl : k = nv := by omega
      have hnil : vs.drop k = [] := List.drop_eq_nil_iff.2 (by rw [HVL.out]; exact Nat.le_refl _)
      have HNIL := Lib.hid hnil
      clear hnil hlt p0
      go_wp2
      go_ret
      exact ⟨F, false, rfl, HF.out, by rw [HNX.out, HNIL.out]; rfl, HBG.out.trans HBW.out⟩
end Go.Proofs.YtcjpopjcpgipjaaDoor

namespace Go.Proofs.YtcjpopjcpgipjaaDoor
open Go.RowKit Go.Deep
set_option linter.unusedSimpArgs false
set_option linter.unusedVariables false
set_option maxRecDepth 100000

noncomputable def holdsB (ss : List Sym) (m : Md) (c : Cl) : Bool := @decide (holdsC ss m c) (Classical.propDecidable _)
theorem holdsB_yes {ss : List Sym} {m : Md} {c : Cl} (h : holdsC ss m c) : holdsB ss m c = true := by unfold holdsB; exact @decide_eq_true _ (Classical.propDecidable _) h
theorem holdsB_no {ss : List Sym} {m : Md} {c : Cl} (h : ¬ holdsC ss m c) : holdsB ss m c = false := by unfold holdsB; exact @decide_eq_false _ (Classical.propDecidable _) h
theorem holdsB_congr {ss : List Sym} {m : Md} {c d : Cl} (h : holdsC ss m c ↔ holdsC ss m d) : holdsB ss m c = holdsB ss m d := by
  by_cases q : holdsC ss m c
  · rw [holdsB_yes q, holdsB_yes (h.1 q)]
  · rw [holdsB_no q, holdsB_no (fun r => q (h.2 r))]
/-- A clause's variables. -/
def vsN (c : Cl) : List Nat := (List.range 24).filter (hasV (codesC c))
theorem vsN_vars (c : Cl) : natsI (vsN c) = varsC c := rfl
theorem vsN_nodup (c : Cl) : (vsN c).Nodup := List.Pairwise.filter _ List.nodup_range
theorem vsN_lt {c : Cl} {v : Nat} (h : v ∈ vsN c) : v < 24 := List.mem_range.1 (List.mem_filter.1 h).1
theorem vsN_all {ss : List Sym} {c : Cl} (hm : MayC ss c) {v : Nat} (h : v ∈ vrs (codesC c)) : v ∈ vsN c := by
  refine List.mem_filter.2 ⟨List.mem_range.2 (hm.var h), ?_⟩
  unfold hasV
  exact List.any_eq_true.2 ⟨_, mem_vrs.1 h, by simp⟩
/-- What stands for variables, read off a block. -/
def envW (w : World) (g : Nat) : Nat → Int := fun u => match w.heap[g]? with | some (.cells cs _ _) => intOf (cs.getD u undef) | _ => 0
theorem envW_of {w : World} {g : Nat} {E : List Int} (h : EnvB w g E) {u : Nat} (hu : u < 24) : envW w g u = envOf E u := by
  unfold envW
  rw [h.blk]
  show intOf ((intCells E).toArray.getD u undef) = intAt E u
  have hl : u < E.length := by rw [h.len]; exact hu
  have : (intCells E).toArray.getD u undef = .int .i64 (intAt E u) := by
    rw [Array.getD_eq_getD_getElem?, List.getElem?_toArray]
    unfold intCells
    rw [List.getElem?_map, intAt_get hl]; rfl
  rw [this]; rfl
def msr (sz : Int) (vs : List Nat) (w : World) (g : Nat) : Nat := (numE sz vs (fun _ => sz - 1) - numE sz vs (envW w g)).toNat
theorem msr_of {w : World} {g : Nat} {E : List Int} {sz : Int} {c : Cl} (h : EnvB w g E) : msr sz (vsN c) w g = (numE sz (vsN c) (fun _ => sz - 1) - numE sz (vsN c) (envOf E)).toNat := by
  unfold msr
  rw [numE_on (a := envW w g) (b := envOf E) fun v hv => envW_of h (vsN_lt hv)]
theorem msr_next {sz : Int} {c : Cl} {E E' : List Int} (hsz : 1 ≤ sz) (hr : ∀ v, 0 ≤ envOf E v ∧ envOf E v < sz) (hn : nextE sz (vsN c) (envOf E) = (envOf E', true)) :
    (numE sz (vsN c) (fun _ => sz - 1) - numE sz (vsN c) (envOf E')).toNat < (numE sz (vsN c) (fun _ => sz - 1) - numE sz (vsN c) (envOf E)).toNat := by
  obtain ⟨h1, h2, h3⟩ := next_yes (vsN_nodup c) (fun v _ => hr v) hn
  have h4 := numE_le (b := fun _ => sz - 1) hsz h2 (fun _ _ => rfl)
  omega
theorem next_range {sz : Int} {c : Cl} {E E' : List Int} (hr : ∀ v, 0 ≤ envOf E v ∧ envOf E v < sz) (hn : nextE sz (vsN c) (envOf E) = (envOf E', true)) : ∀ v, 0 ≤ envOf E' v ∧ envOf E' v < sz := by
  obtain ⟨h1, h2, h3⟩ := next_yes (vsN_nodup c) (fun v _ => hr v) hn
  intro v
  by_cases q : v ∈ vsN c
  · exact h2 v q
  · rw [h3 v q]; exact hr v
theorem env0 (u : Nat) : envOf (List.replicate 24 0) u = 0 := by
  unfold envOf intAt
  rw [List.getD_eq_getElem?_getD, List.getElem?_replicate]
  split <;> rfl
set_option maxHeartbeats 16000000 in
theorem refHolds_any (An A : Option Addr) (nn cn n c : Nat) (sz : Int) (nums : List Int) (ss : List Sym) (v : Cv) (cl : Cl) (w : World) (hsz : 1 ≤ sz ∧ sz ≤ 3) (hnn : nn ≤ 17592186044416) (hn : n ≤ maxLen) (hN : IntsAt w w.heap.size An nn nums) (hS : SymsAt w w.heap.size A n ss) (hc : ClAt w w.heap.size v cl) (hm : MayC ss cl) :
    Calls Tryd.prog 23 #[mdV sz An nn cn, .slice A n c, v.val] w fun e w' => e = .returned (.bool (holdsB ss (mdOf sz nums) cl)) ∧ Below w.heap.size w w' := by
  have HM := Lib.hid hm
  have HSM := Lib.hid hm.small
  have HSZ := Lib.hid hsz
  have HNN := Lib.hid hnn
  have HNL := Lib.hid hn
  have HVE := Lib.hid v.val_eq
  obtain ⟨u, hu⟩ : ∃ u, u = w.alloc (.cells #[.int .i64 sz, .slice An nn cn] 52) := ⟨_, rfl⟩
  have b1 : Below w.heap.size w u := by rw [hu]; exact below_new w _
  have s1 : u.heap.size = w.heap.size + 1 := by rw [hu]; simp
  have m0 : MBx u w.heap.size sz An nn cn := by rw [hu]; exact ⟨by rw [World.cell?_alloc_new]; rfl, by rw [World.cell?_alloc_new]; rfl⟩
  have hx := CBox.new (hc.on b1)
  have b2 := below_new u v.obj
  obtain ⟨w1, hw1⟩ : ∃ w1, w1 = u.alloc v.obj := ⟨_, rfl⟩
  rw [← hw1] at hx b2
  rw [s1] at hx
  have hb0 : Below w.heap.size w w1 := b1.trans (b2.mono b1.size)
  have hlx := hx.lt
  have HMB := Lib.hid (m0.below b2 (by omega))
  have HX := Lib.hid hx
  have HNU := Lib.hid (hN.on hb0)
  have HS := Lib.hid (hS.on hb0)
  have HB1 := Lib.hid hb0
  obtain ⟨B, hB⟩ : ∃ B, B = w.heap.size := ⟨_, rfl⟩
  have hBl : B < w1.heap.size := by omega
  rw [hu] at hw1
  unfold Cv.obj at hw1
  rw [Cv.val_eq]
  unfold mdV
  clear hN hS hc hm hx b1 b2 s1 m0 hb0 hu hlx hsz hnn hn
  go_enter Tryd.func23, Tryd.ntmps23
  go_upto_region 1 with (fail)
  rw [← hw1, ← hB]
  rw [← hB] at HMB HX
  clear hw1 u hB
  have x0 := HX.out.c0
  have x1 := HX.out.c1
  have x2 := HX.out.c2
  go_wp2_with fail
  rw [← HVE.out]
  refine (refVarsOfC_any v cl _ HX.out.cl HSM.out).mono ?_
  rintro e w2 ⟨v2, rfl, hv2, hb2⟩
  obtain ⟨AV, cv, hv2', _, hi2⟩ := hv2.intsAt
  have hvl : (varsC cl).length ≤ 24 := by unfold varsC; exact varsN_length _ _
  obtain ⟨nv, hnv⟩ : ∃ nv, nv = (varsC cl).length := ⟨_, rfl⟩
  rw [← hnv] at hv2' hi2 hvl
  subst hv2'
  have HVI : Hid (IntsAt w2 w2.heap.size AV nv (natsI (vsN cl))) := hi2
  have HB2 := Lib.hid (HB1.out.trans (hb2.mono HB1.out.size))
  have HMB2 := Lib.hid (HMB.out.below hb2 hBl)
  have hBl2 : B < w2.heap.size := Nat.lt_of_lt_of_le hBl hb2.size
  replace HX := Lib.hid (HX.out.on hb2)
  replace HNU := Lib.hid (HNU.out.on hb2)
  replace HS := Lib.hid (HS.out.on hb2)
  clear hb2 hv2 hi2 hnv x0 x1 x2 HMB
  go_wp2_with fail
  refine (refEnv_any _).mono ?_
  rintro e w3 ⟨rfl, he3, hb3⟩
  obtain ⟨g, hg⟩ : ∃ g, g = w2.heap.size := ⟨_, rfl⟩
  have HGS := Lib.hid hg
  have HE3 : Hid (EnvB w3 g (List.replicate 24 0)) := by rw [hg]; exact he3
  have HBG3 : Hid (Below w2.heap.size w2 w3) := hb3
  rw [← hg]
  clear he3 hb3 hg
  go_wp2_with fail
  go_loopw [17] (fun _ wr => ∃ F, EnvB wr g F ∧ Below w2.heap.size w2 wr ∧ DoneE ss (mdOf sz nums) cl (vsN cl) (envOf F) ∧ ∀ u, 0 ≤ envOf F u ∧ envOf F u < sz) (fun _ wr => msr sz (vsN cl) wr g)
  case atStart => exact ⟨_, HE3.out, HBG3.out, DoneE.start (fun v _ => env0 v) HSZ.out.1, fun u => by rw [env0]; have := HSZ.out.1; omega⟩
  case round =>
    obtain ⟨F, hF, hbw, hdn, hrg⟩ := hrel
    have HF := Lib.hid hF
    have HBW := Lib.hid hbw
    have HDN := Lib.hid hdn
    have HRG := Lib.hid hrg
    have HXW := Lib.hid (HX.out.on hbw)
    have HMW := Lib.hid (HMB2.out.below hbw hBl2)
    have HK : Hid (MdOk sz nums nn n ss F (mdOf sz nums) (envOf F)) := ⟨HM.out.may, HSZ.out.1, HSZ.out.2, HNN.out, HNL.out, rfl, fun u _ => rfl⟩
    have HA : Hid (MdAt wr An nn nums A n ss (some ⟨g, 0, none⟩) F) := ⟨HNU.out.on hbw, HS.out.on hbw, hF.intsAt⟩
    clear hF hbw hdn hrg
    have p0 := HMW.out.1
    have p1 := HMW.out.2
    have x0 := HXW.out.c0
    have x1 := HXW.out.c1
    have x2 := HXW.out.c2
    go_wp2_with fail
    rw [← HVE.out]
    cases hh : hereC ss (mdOf sz nums) (envOf F) cl
    · have HH := Lib.hid hh
      clear hh
      refine (refHere_any An A (some ⟨g, 0, none⟩) nn cn n c 24 sz nums F ss v cl _ (mdOf sz nums) (envOf F) HK.out HA.out HXW.out.cl HM.out).mono ?_
      rintro e w4 ⟨rfl, hb4⟩
      rw [HH.out]
      have HB4 := Lib.hid (HB2.out.trans ((HBW.out.trans (hb4.mono HBW.out.size)).mono HB2.out.size))
      have HNO : Hid (holdsB ss (mdOf sz nums) cl = false) := holdsB_no fun q => by have := q (envOf F) HRG.out; rw [HH.out] at this; cases this
      clear hb4 p0 p1 x0 x1 x2
      go_wp2
      go_ret
      exact ⟨ret_bool HNO.out.symm, HB4.out⟩
    · have HH := Lib.hid hh
      clear hh
      refine (refHere_any An A (some ⟨g, 0, none⟩) nn cn n c 24 sz nums F ss v cl _ (mdOf sz nums) (envOf F) HK.out HA.out HXW.out.cl HM.out).mono ?_
      rintro e w4 ⟨rfl, hb4⟩
      rw [HH.out]
      have hbw4 := HBW.out.trans (hb4.mono HBW.out.size)
      have HB4 := Lib.hid hbw4
      have HF4 := Lib.hid (HF.out.on hb4)
      have hMW4 := HMB2.out.below hbw4 hBl2
      have HV4 : Hid (IntsAt w4 g AV nv (natsI (vsN cl))) := by show IntsAt w4 g AV nv _; rw [HGS.out]; exact HVI.out.below hbw4
      clear hb4 p0 p1 x0 x1 x2 hbw4
      have p0 := hMW4.1
      have p1 := hMW4.2
      clear hMW4
      go_wp2_with fail
      refine (refNext_any An AV nn cn nv cv g sz (vsN cl) F _ HSZ.out HF4.out HV4.out (fun v hv => vsN_lt hv) (fun v _ => HRG.out v) (by omega)).mono ?_
      rintro e w5 ⟨F5, b5, rfl, hF5, hn5, hb5⟩
      have HF5 := Lib.hid hF5
      have HN5 := Lib.hid hn5
      have HB5 : Hid (Below w2.heap.size w2 w5) := HB4.out.trans (HGS.out ▸ hb5)
      clear hF5 hn5 hb5 p0 p1
      cases b5
      · have HYES : Hid (holdsB ss (mdOf sz nums) cl = true) := holdsB_yes (DoneE.all (vsN_nodup cl) (fun v hv => vsN_all HM.out hv) HSZ.out.1 (fun v _ => HRG.out v) HDN.out HH.out HN5.out)
        go_wp2
        go_ret
        exact ⟨ret_bool HYES.out.symm, HB2.out.trans (HB5.out.mono HB2.out.size)⟩
      · go_wp2
        go_roundw
        case rel => exact ⟨F5, HF5.out, HB5.out, DoneE.next (vsN_nodup cl) (fun v hv => vsN_all HM.out hv) (fun v _ => HRG.out v) HDN.out HH.out HN5.out, next_range HRG.out HN5.out⟩
        case measure =>
          rw [msr_of HF5.out, msr_of HF.out]
          exact msr_next HSZ.out.1 HRG.out HN5.out
end Go.Proofs.YtcjpopjcpgipjaaDoor
