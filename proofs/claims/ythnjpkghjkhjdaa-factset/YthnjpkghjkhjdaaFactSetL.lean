/-
  The law FactSet: the walk.
-/
import Derived.Test.YthnjpkghjkhjdaaFactFindsL
import Derived.Test.YthnjpkghjkhjdaaFactSame
namespace Go.Proofs.Ythnjpkghjkhjdaa
open Go.RowKit Go.Deep
set_option linter.unusedSimpArgs false
set_option linter.unusedVariables false
set_option maxRecDepth 100000

set_option maxHeartbeats 16000000 in
theorem factSetL_any (A A1 A2 : Option Addr) (n cp n1 c1 n2 c2 : Nat) (ss : List Sym) (az : List (List Int)) (ops : List Int) (w : World) (h : SymsAt w w.heap.size A n ss) (hn : n ≤ maxLen) (hnc : n ≤ cp) (ha : TupsAt w w.heap.size A1 n1 az) (hz : A1 = none → c1 = 0) (hn1 : n1 ≤ 1000000000000000) (ho : IntsAt w w.heap.size A2 n2 ops) (hn2 : n2 ≤ maxLen) :
    Calls Try.prog 5 #[.slice A n cp, .slice A1 n1 c1, .slice A2 n2 c2] w fun e w' => e = .returned (.bool true) ∧ Below w.heap.size w w' := by
  have HS := Lib.hid h
  have HA := Lib.hid ha
  have HO := Lib.hid ho
  unfold maxLen at hn2
  have hn0 := hn
  clear h ha ho
  go_enter Try.func5, Try.ntmps5
  go_wp2_with fail
  refine (awakeF_any _).mono ?_
  rintro e w1 ⟨rfl, hb1⟩
  have HB1 := Lib.hid hb1
  clear hb1
  go_wp2_with fail
  refine (newT_any _).mono ?_
  rintro e w2 ⟨v2, rfl, hv2, hb2⟩
  obtain ⟨x, rfl, ht2⟩ := hv2.tab fit_new
  have HV2 := Lib.hid (hv2.lower HB1.out.size)
  have HB2 := Lib.hid (HB1.out.trans (hb2.mono HB1.out.size))
  obtain ⟨g, hg⟩ : ∃ g, g = w2.heap.size := ⟨_, rfl⟩
  have HG := Lib.hid hg
  clear hv2 ht2 hb2 HB1 hg
  go_wp2_with (refine store_box rfl 26 (.tmp 7) (.tmp 25) rfl rfl w2.heap.size _ _ rfl rfl (heap_alloc_new w2 (.cells #[.slice none 0 0, .slice none 0 0] 26)) rfl (by kernel_rfl) two_one ?_
               intro w3 hg3 hc3 hs3
               have HG3 := Lib.hid hg3
               have HV3 := Lib.hid ((HV2.out.on (below_new w2 (.cells #[.slice none 0 0, .slice none 0 0] 26))).chg hc3)
               have HB3 := Lib.hid ((HB2.out.trans ((below_new w2 (.cells #[.slice none 0 0, .slice none 0 0] 26)).mono HB2.out.size)).trans (hc3.bel.mono HB2.out.size))
               have u0 : w3.cell? ⟨w2.heap.size, 0, none⟩ = some (.slice x.A1 x.n1 x.c1) := by rw [cell_of_row _ _ 0 _ _ _ hg3]; rfl
               have u1 : w3.cell? ⟨w2.heap.size, 1, none⟩ = some (.slice x.A2 x.n2 x.c2) := by rw [cell_of_row _ _ 1 _ _ _ hg3]; rfl
               clear hg3 hc3 hs3)
  have hge : w.heap.size ≤ g := by rw [HG.out]; exact HB2.out.size
  rw [← HG.out] at HG3 u0 u1 ⊢
  have hx3 := (HV3.out.tab fit_new)
  have htx : TabAt w3 w3.heap.size x newT := by
    obtain ⟨y, e, hy⟩ := hx3
    obtain ⟨a1, a2, a3, a4, a5, a6⟩ := x
    obtain ⟨b1, b2, b3, b4, b5, b6⟩ := y
    simp only [Value.agg.injEq, Array.mk.injEq, List.cons.injEq, Value.slice.injEq, and_true] at e
    obtain ⟨⟨rfl, rfl, rfl⟩, rfl, rfl, rfl⟩ := e
    exact hy
  refine (mayF_any A n cp ss x newT _ ((HS.out.on HB3.out)) hn hnc htx).mono ?_
  rintro e w4 ⟨rfl, hb4⟩
  cases hmay : mayB ss
  · have HN : Hid (tabB ss newT = false) := tabr_no3' hmay
    have HB4 := Lib.hid (HB3.out.trans (hb4.mono HB3.out.size))
    rw [HN.out]
    clear hmay hb4 htx hx3 u0 u1
    go_wp2
    go_ret
    exact ⟨rfl, HB4.out⟩
  have HM := Lib.hid hmay
  have HN : Hid (tabB ss newT = true) := tabB_yes hmay newT_ok
  rw [HN.out]
  have HV4 := Lib.hid ((SetV.start hmay HV3.out HG3.out hge HB3.out).on hb4)
  clear hmay hb4 htx hx3 u0 u1 HV3 HB3 HG3 HG HB2 HV2 HN
  go_wp2_with fail
  go_loopw [8, 9] (fun s i wr => ∃ (T : Tb) (x : Tv) (D : Option Addr) (L c k : Nat), s = .slice D L c ∧ i = .int .i64 k ∧ k ≤ n2 ∧ SetV ss w g T x D L c wr) (fun _ i _ => n2 - (intOf i).toNat)
  case atStart => exact ⟨newT, x, none, 0, 0, 0, rfl, rfl, by omega, HV4.out⟩
  case round =>
    clear HV4
    obtain ⟨T, x, D, L, c, k, rfl, rfl, hk, hv⟩ := hrel
    have HV := Lib.hid hv
    have hL24 : L ≤ 24 := by rw [hv.len]; exact hv.ok.few
    have HLL := Lib.hid hv.len
    have hxn : x.n2 = L := by rw [← hv.tb.fc.len]; exact hv.len.symm
    have HXN := Lib.hid hxn
    clear hv hxn
    by_cases hgo : k < n2 ∧ k < 60 ∧ 0 < n1
    · obtain ⟨g1, g2, g3⟩ := hgo
      obtain ⟨bO, oO, rfl, hbO, hcl⟩ := (HO.out.below HV.out.bel).at_ (by omega)
      obtain ⟨o, hoo⟩ : ∃ o, o = intAt ops k := ⟨_, rfl⟩
      have hcx : wr.cell? ⟨bO, oO + k, none⟩ = some (.int .i64 o) := by rw [hoo]; exact hcl k g1
      have z1 : (k : Int) < (n2 : Int) := by omega
      have z2 : (k : Int) < 60 := by omega
      have z3 : (0 : Int) < (n1 : Int) := by omega
      have z4 : (0 : Int) ≤ (k : Int) := by omega
      have z5 : ¬ n1 = 0 := by omega
      have z6 : ¬ (n1 : Int) = 0 := by omega
      have HOX : Hid (∀ y, Below w.heap.size w y → y.cell? ⟨bO, oO + k, none⟩ = some (.int .i64 o)) := fun y q => by rw [q.cell (p := ⟨bO, oO + k, none⟩) hbO, ← HV.out.bel.cell (p := ⟨bO, oO + k, none⟩) hbO]; exact hcx
      clear hcl hoo
      obtain ⟨j, hj, hje⟩ := u_mod11 (wrap64 (o.tdiv 4)) n1 g3
      obtain ⟨bA, oA, A3, c3, rfl, hbA, d00, hri, hz3⟩ := HA.out.one (i := j) hj
      have d0 : wr.cell? ⟨bA, oA + j, none⟩ = some (.slice A3 (rowOf az j).length c3) := by rw [HV.out.bel.cell (p := ⟨bA, oA + j, none⟩) hbA]; exact d00
      clear d00
      obtain ⟨r, hrr⟩ : ∃ r, r = rowOf az j := ⟨_, rfl⟩
      rw [← hrr] at d0 hri
      have HRI := Lib.hid hri
      have z7 : (j : Int) < (n1 : Int) := by omega
      have z8 : (0 : Int) ≤ (j : Int) := by omega
      have z9 : (n1 : Int) ≤ 1000000000000000 := by omega
      have HZ3 : Hid (A3 = none → c3 = 0) := hz3
      clear hri hrr hz3
      go_wp2_with fail
      refine (same_any D A3 L c r.length c3 T.slots T.facts r _ HV.out.tups (by omega) ((HRI.out.at_.below HV.out.bel).more HV.out.bel.size) HRI.out.big).mono ?_
      rintro e w5 ⟨rfl, hb5⟩
      obtain ⟨s, hs⟩ : ∃ s, s = whereR T r := ⟨_, rfl⟩
      have hs' : whereR ⟨T.slots, T.facts⟩ r = s := hs.symm
      rw [hs']
      have HRI5 := Lib.hid (((HRI.out.at_.below HV.out.bel).more HV.out.bel.size).on hb5)
      replace HV := Lib.hid (HV.out.on hb5)
      have HSW := Lib.hid hs
      have hsb := where_bd (t := T) (a := r)
      rw [← hs] at hsb
      clear hb5 hs hs' d0 hje
      go_wp2_with fail
      refine (hashFact_any A A3 n cp r.length c3 ss r _ (HS.out.on HV.out.bel) hn hnc HRI5.out HRI.out.big HRI.out.cap).mono ?_
      rintro e w6 ⟨rfl, hb6⟩
      replace HV := Lib.hid (HV.out.on hb6)
      replace HRI5 := Lib.hid (HRI5.out.on hb6)
      clear hb6
      cases hfb : factB ss r
      · have HH := Lib.hid (hash_no hfb)
        rw [HH.out.1, HH.out.2]
        clear hfb
        go_wp2_with (go_at_call 16; refine (num_any _ _).mono ?_; rintro e w' ⟨rfl, rfl⟩)
        go_roundw
        case rel => exact ⟨T, x, D, L, c, k + 1, rfl, by go_num, by omega, HV.out⟩
        case measure => simp [intOf]; omega
      have HFB := Lib.hid hfb
      have HH := Lib.hid (hash_yes hfb)
      obtain ⟨hv, hhv⟩ : ∃ hv, hv = hashV ss r := ⟨_, rfl⟩
      rw [HH.out.2, ← hhv]
      have HOK := Lib.hid (okT_yes (tabB_yes HM.out HV.out.ok) hfb)
      have HHS := Lib.hid (has_yes HOK.out)
      clear hfb hhv
      have p0 := HV.out.c0
      have p1 := HV.out.c1
      go_wp2_with (go_at_call 16; refine (num_any _ _).mono ?_; rintro e w' ⟨rfl, rfl⟩)
      refine (has_fact A A3 n cp r.length c3 ss x T r _ (HS.out.on HV.out.bel) hn hnc HV.out.tb HRI5.out HRI.out.big HRI.out.cap).mono ?_
      rintro e w7 ⟨rfl, hb7⟩
      rw [HHS.out.1, HHS.out.2]
      replace HV := Lib.hid (HV.out.on hb7)
      replace HRI5 := Lib.hid (HRI5.out.on hb7)
      clear hb7 p0 p1
      have hwm := HV.out.ok.where_mem (a := r)
      rw [← HSW.out] at hwm
      have hox : w7.cell? ⟨bO, oO + k, none⟩ = some (.int .i64 o) := HOX.out w7 HV.out.bel
      have p0 := HV.out.c0
      have p1 := HV.out.c1
      by_cases hin : r ∈ T.facts
      · have q0 : 0 ≤ s := hwm.2 hin
        have q1 : decide (r ∈ T.facts) = true := decide_eq_true hin
        have q2 : decide (0 ≤ s) = true := decide_eq_true q0
        have q3 : ¬ s < 0 := by omega
        have q4 : decide (s < 0) = false := decide_eq_false q3
        have HPX : Hid (PutX ss T r T false 0) := .there HOK.out hin
        obtain ⟨TC, bC, EC, hcx⟩ := cut_ex ss T r
        obtain ⟨kk, pp, rr, hkk, hka, hpp, hrr, epp, err, hTC, rfl, rfl⟩ := hcx.is_done HOK.out hin
        have HCX := Lib.hid hcx
        have HCF := Lib.hid hcx.small.fit
        have HWK : Hid (s = (kk : Int)) := by show _ = _; rw [HSW.out, ← hka]; exact HV.out.ok.where_ hkk
        have HKK := Lib.hid hkk
        have HCO : Hid (TabOk (factB ss) TC) := by rw [hTC]; exact HV.out.ok.cut hkk hpp hrr epp err
        have HCE : Hid (TC.facts = (T.facts.set kk (fcAt T (T.facts.length - 1))).dropLast) := by rw [hTC]; rfl
        rw [q1]
        clear hin hcx hkk hka hpp hrr epp err hTC hwm
        go_wp2_with (go_at_call 16; refine (num_any _ _).mono ?_; rintro e w' ⟨rfl, rfl⟩)
        · refine (put_fact A A3 n cp r.length c3 ss x T r T false 0 HPX.out _ (HS.out.on HV.out.bel) hn hnc HV.out.tb HRI5.out HRI.out.big HRI.out.cap).mono ?_
          rintro e w8 ⟨v8, rfl, hv8, hb8⟩
          obtain ⟨y, rfl, -⟩ := hv8.tab HV.out.ok.small.fit
          have HO8 := Lib.hid hv8
          have HV7 := HV
          replace HV := Lib.hid (HV.out.on hb8)
          replace HRI5 := Lib.hid (HRI5.out.on hb8)
          clear hb8 hv8 p0 p1 hox
          go_wp2_with (first
            | (go_at_call 16; refine (num_any _ _).mono ?_; rintro e w' ⟨rfl, rfl⟩)
            | (refine store_box rfl 26 (.tmp 16) (.tmp 98) rfl rfl w8.heap.size _ _ rfl rfl (heap_alloc_new w8 (.cells #[.slice none 0 0, .slice none 0 0] 26)) rfl (by kernel_rfl) two_one ?_
               intro w9 hg9 hc9 hs9
               have hb9 := (below_new w8 (.cells #[.slice none 0 0, .slice none 0 0] 26)).trans hc9.bel
               have HO9 := Lib.hid ((HO8.out.on (below_new w8 (.cells #[.slice none 0 0, .slice none 0 0] 26))).chg hc9)
               replace HV := Lib.hid (HV.out.on hb9)
               replace HRI5 := Lib.hid (HRI5.out.on hb9)
               have u0 : w9.cell? ⟨w8.heap.size, 0, none⟩ = some (.slice y.A1 y.n1 y.c1) := by rw [cell_of_row _ _ 0 _ _ _ hg9]; rfl
               have u1 : w9.cell? ⟨w8.heap.size, 1, none⟩ = some (.slice y.A2 y.n2 y.c2) := by rw [cell_of_row _ _ 1 _ _ _ hg9]; rfl
               clear hg9 hc9 hs9 hb9)
            | (refine store_box rfl 26 (.tmp 7) (.tmp 120) rfl rfl g _ _ rfl rfl HV.out.blk rfl (by kernel_rfl) two_one ?_
               intro w10 hg10 hc10 hs10
               have HG10 := Lib.hid hg10
               have HC10 := Lib.hid hc10
               skip
               clear hg10 hc10 hs10 u0 u1))
          go_roundw
          case rel =>
            obtain ⟨o1, o2, o3⟩ := HV.out.store HV.out.ok HO9.out HG10.out HC10.out
            exact ⟨T, y, D, L, c, k + 1, rfl, by go_num, by omega, ⟨HV.out.ok, HG10.out, ⟨_, o1⟩, o2, HV.out.ge, o3⟩⟩
          case measure => simp [intOf]; omega
        · obtain ⟨gT, hD⟩ := HV.out.own.head (by have := HKK.out; omega)
          subst hD
          obtain ⟨q, hq⟩ : ∃ q, L = q + 1 := ⟨L - 1, by have h1 := HLL.out; have h2 := HKK.out; omega⟩
          subst hq
          have HTL : Hid (T.facts.length = q + 1) := HLL.out.symm
          have hkq : kk < q + 1 := by have := HKK.out; rw [HTL.out] at this; exact this
          have HRM : Hid (q + 1 ≤ c) := HV.out.own.room HTL.out
          have HTB : Hid (gT < w7.heap.size) := HV.out.own.blk rfl
          have HCE2 : Hid (TC.facts = (T.facts.set kk (rowOf T.facts q)).dropLast) := by show _ = _; rw [HCE.out, HTL.out]; rfl
          have hsk := HWK.out
          clear HWK
          subst hsk
          have y1 : (kk : Int) < (q : Int) + 1 := by omega
          have y2 : (0 : Int) ≤ (kk : Int) := by omega
          have y3 : (q : Int) < (q : Int) + 1 := by omega
          have y4 : (0 : Int) ≤ (q : Int) := by omega
          have y5 : (q : Int) ≤ (c : Int) := by have := HRM.out; omega
          have y6 : q ≤ c := by have := HRM.out; omega
          have y7 : IntKind.i64.wrap (q : Int) = (q : Int) := by rw [IntKind.wrap_i64]; omega
          refine (cut_fact A A3 n cp r.length c3 ss x T r TC true 0 HCX.out _ (HS.out.on HV.out.bel) hn hnc HV.out.tb HRI5.out HRI.out.big HRI.out.cap).mono ?_
          rintro e w8 ⟨v8, rfl, hv8, hb8⟩
          obtain ⟨y, rfl, -⟩ := hv8.tab HCF.out
          have HO8 := Lib.hid hv8
          have HV7 := HV
          replace HV := Lib.hid (HV.out.on hb8)
          replace HRI5 := Lib.hid (HRI5.out.on hb8)
          clear hb8 hv8 p0 p1 hox
          go_wp2_with (first
            | (go_at_call 16; refine (num_any _ _).mono ?_; rintro e w' ⟨rfl, rfl⟩)
            | (refine store_box rfl 26 (.tmp 19) (.tmp 132) rfl rfl w8.heap.size _ _ rfl rfl (heap_alloc_new w8 (.cells #[.slice none 0 0, .slice none 0 0] 26)) rfl (by kernel_rfl) two_one ?_
               intro w9 hg9 hc9 hs9
               have hb9 := (below_new w8 (.cells #[.slice none 0 0, .slice none 0 0] 26)).trans hc9.bel
               have HO9 := Lib.hid ((HO8.out.on (below_new w8 (.cells #[.slice none 0 0, .slice none 0 0] 26))).chg hc9)
               replace HV := Lib.hid (HV.out.on hb9)
               replace HRI5 := Lib.hid (HRI5.out.on hb9)
               have u0 : w9.cell? ⟨w8.heap.size, 0, none⟩ = some (.slice y.A1 y.n1 y.c1) := by rw [cell_of_row _ _ 0 _ _ _ hg9]; rfl
               have u1 : w9.cell? ⟨w8.heap.size, 1, none⟩ = some (.slice y.A2 y.n2 y.c2) := by rw [cell_of_row _ _ 1 _ _ _ hg9]; rfl
               clear hg9 hc9 hs9 hb9)
            | (refine store_box rfl 26 (.tmp 7) (.tmp 144) rfl rfl g _ _ rfl rfl HV.out.blk rfl (by kernel_rfl) two_one ?_
               intro w10 hg10 hc10 hs10
               have HG10 := Lib.hid hg10
               have HC10 := Lib.hid hc10
               obtain ⟨o1, o2, o3⟩ := HV.out.store HCO.out HO9.out hg10 hc10
               have HQ1 := Lib.hid o1
               have HQ3 := Lib.hid o3
               obtain ⟨AR, cR, zR, k1, k2, k3, k4, k5, k6⟩ := o2.over (i := kk) (j := q) (by rw [HTL.out]; exact hkq) (by rw [HTL.out]; exact Nat.lt_succ_self q)
               have HK4 := Lib.hid k4
               have HK5 := Lib.hid k5
               clear o1 o2 o3 k4 k5 k6
               clear hg10 hc10 hs10 u0 u1))
          go_roundw
          case rel =>
            refine ⟨TC, y, some ⟨gT, 0, none⟩, q, c, k + 1, rfl, by go_num, by omega, ⟨HCO.out, HK5.out.blk _ _ _ _ HG10.out (by decide), ⟨_, HQ1.out.hi (fun i hi hl => ?_) HK5.out.bel.size⟩, ?_, HV.out.ge, HQ3.out.trans HK5.out.bel⟩⟩
            · exact heap_setCell_other _ _ _ _ (fun e => by have := HTB.out; simp only [] at e; omega)
            · rw [HCE2.out]
              exact HK4.out.cut (by rw [List.length_set]; exact HTL.out)
          case measure => simp [intOf]; omega
      · have q0 : ¬ 0 ≤ s := fun q => hin (hwm.1 q)
        have q1 : decide (r ∈ T.facts) = false := decide_eq_false hin
        have q2 : decide (0 ≤ s) = false := decide_eq_false q0
        have q3 : s < 0 := by omega
        have q4 : decide (s < 0) = true := decide_eq_true q3
        have HNI := Lib.hid hin
        rw [q1]
        clear hin hwm
        by_cases h24 : L = 24
        · have g24 : ((L : Int) == 24) = true := by simp [h24]
          have HPX : Hid (PutX ss T r ⟨[], []⟩ false 1101) := .full HOK.out HNI.out (by rw [← HLL.out]; exact h24)
          have HCX : Hid (CutX ss T r T false 0) := .gone HOK.out HNI.out
          clear h24
          go_wp2_with (go_at_call 16; refine (num_any _ _).mono ?_; rintro e w' ⟨rfl, rfl⟩)
          · refine (put_fact A A3 n cp r.length c3 ss x T r ⟨[], []⟩ false 1101 HPX.out _ (HS.out.on HV.out.bel) hn hnc HV.out.tb HRI5.out HRI.out.big HRI.out.cap).mono ?_
            rintro e w8 ⟨v8, rfl, hv8, hb8⟩
            obtain ⟨y, rfl, -⟩ := hv8.tab fit_zero
            have HO8 := Lib.hid hv8
            have HV7 := HV
            replace HV := Lib.hid (HV.out.on hb8)
            replace HRI5 := Lib.hid (HRI5.out.on hb8)
            clear hb8 hv8 p0 p1 hox
            go_wp2_with (first
              | (go_at_call 16; refine (num_any _ _).mono ?_; rintro e w' ⟨rfl, rfl⟩)
              | (refine store_box rfl 26 (.tmp 16) (.tmp 98) rfl rfl w8.heap.size _ _ rfl rfl (heap_alloc_new w8 (.cells #[.slice none 0 0, .slice none 0 0] 26)) rfl (by kernel_rfl) two_one ?_
                 intro w9 hg9 hc9 hs9
                 have hb9 := (below_new w8 (.cells #[.slice none 0 0, .slice none 0 0] 26)).trans hc9.bel
                 have HO9 := Lib.hid ((HO8.out.on (below_new w8 (.cells #[.slice none 0 0, .slice none 0 0] 26))).chg hc9)
                 replace HV := Lib.hid (HV.out.on hb9)
                 replace HRI5 := Lib.hid (HRI5.out.on hb9)
                 have u0 : w9.cell? ⟨w8.heap.size, 0, none⟩ = some (.slice y.A1 y.n1 y.c1) := by rw [cell_of_row _ _ 0 _ _ _ hg9]; rfl
                 have u1 : w9.cell? ⟨w8.heap.size, 1, none⟩ = some (.slice y.A2 y.n2 y.c2) := by rw [cell_of_row _ _ 1 _ _ _ hg9]; rfl
                 clear hg9 hc9 hs9 hb9)
              | (refine store_box rfl 26 (.tmp 7) (.tmp 120) rfl rfl g _ _ rfl rfl HV.out.blk rfl (by kernel_rfl) two_one ?_
                 intro w10 hg10 hc10 hs10
                 have HG10 := Lib.hid hg10
                 have HC10 := Lib.hid hc10
                 skip
                 clear hg10 hc10 hs10 u0 u1))
            go_roundw
            case rel => exact ⟨T, x, D, L, c, k + 1, rfl, by go_num, by omega, HV.out⟩
            case measure => simp [intOf]; omega
          · refine (cut_fact A A3 n cp r.length c3 ss x T r T false 0 HCX.out _ (HS.out.on HV.out.bel) hn hnc HV.out.tb HRI5.out HRI.out.big HRI.out.cap).mono ?_
            rintro e w8 ⟨v8, rfl, hv8, hb8⟩
            obtain ⟨y, rfl, -⟩ := hv8.tab HV.out.ok.small.fit
            have HO8 := Lib.hid hv8
            have HV7 := HV
            replace HV := Lib.hid (HV.out.on hb8)
            replace HRI5 := Lib.hid (HRI5.out.on hb8)
            clear hb8 hv8 p0 p1 hox
            go_wp2_with (first
              | (go_at_call 16; refine (num_any _ _).mono ?_; rintro e w' ⟨rfl, rfl⟩)
              | (refine store_box rfl 26 (.tmp 19) (.tmp 132) rfl rfl w8.heap.size _ _ rfl rfl (heap_alloc_new w8 (.cells #[.slice none 0 0, .slice none 0 0] 26)) rfl (by kernel_rfl) two_one ?_
                 intro w9 hg9 hc9 hs9
                 have hb9 := (below_new w8 (.cells #[.slice none 0 0, .slice none 0 0] 26)).trans hc9.bel
                 have HO9 := Lib.hid ((HO8.out.on (below_new w8 (.cells #[.slice none 0 0, .slice none 0 0] 26))).chg hc9)
                 replace HV := Lib.hid (HV.out.on hb9)
                 replace HRI5 := Lib.hid (HRI5.out.on hb9)
                 have u0 : w9.cell? ⟨w8.heap.size, 0, none⟩ = some (.slice y.A1 y.n1 y.c1) := by rw [cell_of_row _ _ 0 _ _ _ hg9]; rfl
                 have u1 : w9.cell? ⟨w8.heap.size, 1, none⟩ = some (.slice y.A2 y.n2 y.c2) := by rw [cell_of_row _ _ 1 _ _ _ hg9]; rfl
                 clear hg9 hc9 hs9 hb9)
              | (refine store_box rfl 26 (.tmp 7) (.tmp 144) rfl rfl g _ _ rfl rfl HV.out.blk rfl (by kernel_rfl) two_one ?_
                 intro w10 hg10 hc10 hs10
                 have HG10 := Lib.hid hg10
                 have HC10 := Lib.hid hc10
                 skip
                 clear hg10 hc10 hs10 u0 u1))
            go_roundw
            case rel =>
              obtain ⟨o1, o2, o3⟩ := HV.out.store HV.out.ok HO9.out HG10.out HC10.out
              exact ⟨T, y, D, L, c, k + 1, rfl, by go_num, by omega, ⟨HV.out.ok, HG10.out, ⟨_, o1⟩, o2, HV.out.ge, o3⟩⟩
            case measure => simp [intOf]; omega
        · have g24 : ((L : Int) == 24) = false := by rw [beq_eq_false_iff_ne]; omega
          obtain ⟨d, hd32, hd, hbd⟩ := HV.out.ok.there r
          have hlt24 : T.facts.length < 24 := by rw [← HLL.out]; omega
          have HPX : Hid (PutX ss T r (putT T r d) true 0) := .done HOK.out HNI.out hlt24 d hd hbd
          have HPO : Hid (TabOk (factB ss) (putT T r d)) := HV.out.ok.put HFB.out HNI.out hlt24 hd hbd
          have HPF : Hid ((putT T r d).facts = T.facts ++ [r]) := rfl
          have HCX : Hid (CutX ss T r T false 0) := .gone HOK.out HNI.out
          obtain ⟨TP, hTP⟩ : ∃ TP, TP = putT T r d := ⟨_, rfl⟩
          rw [← hTP] at HPX HPO HPF
          clear h24 hd32 hd hbd hTP
          go_wp2_with (go_at_call 16; refine (num_any _ _).mono ?_; rintro e w' ⟨rfl, rfl⟩)
          · refine (put_fact A A3 n cp r.length c3 ss x T r TP true 0 HPX.out _ (HS.out.on HV.out.bel) hn hnc HV.out.tb HRI5.out HRI.out.big HRI.out.cap).mono ?_
            have HTB : Hid (∀ i, (Value.slice D L c).ownBlock = some i → i < w7.heap.size) := fun i q => HV.out.own.blk q
            rintro e w8 ⟨v8, rfl, hv8, hb8⟩
            obtain ⟨y, rfl, -⟩ := hv8.tab HPO.out.small.fit
            have HO8 := Lib.hid hv8
            have HV7 := HV
            replace HV := Lib.hid (HV.out.on hb8)
            replace HRI5 := Lib.hid (HRI5.out.on hb8)
            clear hb8 hv8 p0 p1 hox
            go_wp2_with (first
              | (go_at_call 16; refine (num_any _ _).mono ?_; rintro e w' ⟨rfl, rfl⟩)
              | (refine store_box rfl 26 (.tmp 16) (.tmp 98) rfl rfl w8.heap.size _ _ rfl rfl (heap_alloc_new w8 (.cells #[.slice none 0 0, .slice none 0 0] 26)) rfl (by kernel_rfl) two_one ?_
                 intro w9 hg9 hc9 hs9
                 have hb9 := (below_new w8 (.cells #[.slice none 0 0, .slice none 0 0] 26)).trans hc9.bel
                 have HO9 := Lib.hid ((HO8.out.on (below_new w8 (.cells #[.slice none 0 0, .slice none 0 0] 26))).chg hc9)
                 replace HV := Lib.hid (HV.out.on hb9)
                 replace HRI5 := Lib.hid (HRI5.out.on hb9)
                 have u0 : w9.cell? ⟨w8.heap.size, 0, none⟩ = some (.slice y.A1 y.n1 y.c1) := by rw [cell_of_row _ _ 0 _ _ _ hg9]; rfl
                 have u1 : w9.cell? ⟨w8.heap.size, 1, none⟩ = some (.slice y.A2 y.n2 y.c2) := by rw [cell_of_row _ _ 1 _ _ _ hg9]; rfl
                 clear hg9 hc9 hs9 hb9)
              | (refine store_box rfl 26 (.tmp 7) (.tmp 120) rfl rfl g _ _ rfl rfl HV.out.blk rfl (by kernel_rfl) two_one ?_
                 intro w10 hg10 hc10 hs10
                 have HG10 := Lib.hid hg10
                 have HC10 := Lib.hid hc10
                 skip
                 clear hg10 hc10 hs10 u0 u1))
            obtain ⟨o1, o2, o3⟩ := HV.out.store HPO.out HO9.out HG10.out HC10.out
            have HQ1 := Lib.hid o1
            have HQ2 := Lib.hid o2
            have HQ3 := Lib.hid o3
            have hge9 := HV.out.ge
            clear o1 o2 o3 HO8 HO9 HC10 HV HV7
            refine (copyInts_any A3 r.length c3 r _ ((HRI.out.at_.below HQ3.out).more HQ3.out.size) HRI.out.fit).mono ?_
            rintro e w11 ⟨v11, rfl, hv11, hb11⟩
            obtain ⟨A11, c11, e11⟩ := hv11.value
            obtain ⟨L11, hL11⟩ : ∃ L11, L11 = r.length := ⟨_, rfl⟩
            rw [← hL11] at e11
            subst e11
            obtain ⟨vs, hvs1, hvs2⟩ := HQ2.out.vals
            have HR1 := Lib.hid (hvs1.on hb11)
            have HR2 := Lib.hid ((hvs2.on hb11).snoc (hv11.lower HQ3.out.size))
            have HR3 := Lib.hid (HQ1.out.on hb11)
            have HR4 := Lib.hid (HQ3.out.trans (hb11.mono HQ3.out.size))
            have HR5 : Hid (w11.heap[g]? = some (.cells #[.slice y.A1 y.n1 y.c1, .slice y.A2 y.n2 y.c2] 26 (0, 0))) := by show _ = _; rw [hb11.block g (Array.getElem?_eq_some_iff.1 HG10.out).1]; exact HG10.out
            have hvl : vs.length + 1 ≤ 5864062014634 := by rw [hvs2.1]; omega
            clear hv11 hb11 hL11 hvs1 hvs2
            go_wp2_with (at_builtin
                         refine app_rowg rfl (.tmp 122) (.tmp 125) rfl w.heap.size _ vs _ rfl HR1.out rfl rfl hvl HR4.out.size ?_
                         intro v12 w12 hown12 hc12 hk12
                         obtain ⟨D12, c12, e12⟩ := hown12.valued
                         obtain ⟨L12, hL12⟩ : ∃ L12, L12 = (vs ++ [Value.slice A11 L11 c11]).length := ⟨_, rfl⟩
                         rw [← hL12] at e12
                         subst e12
                         have HO12 := Lib.hid hown12
                         have HC12 := Lib.hid hc12
                         have HK12 := Lib.hid hk12
                         clear hown12 hc12 hk12 hL12)
            go_roundw
            case rel =>
              refine ⟨TP, y, D12, L12, c12, k + 1, rfl, by go_num, by omega, ⟨HPO.out, HC12.out.blk _ _ _ _ HR5.out (by decide), ⟨_, HR3.out.hi (fun i hi hl => HK12.out i hl (fun q => ?_)) HC12.out.bel.size⟩, ?_, hge9, HR4.out.trans HC12.out.bel⟩⟩
              · have := HTB.out i q; omega
              · rw [HPF.out]
                exact OwnT.mk HO12.out (HR2.out.chg HC12.out (by decide))
            case measure => simp [intOf]; omega
          · refine (cut_fact A A3 n cp r.length c3 ss x T r T false 0 HCX.out _ (HS.out.on HV.out.bel) hn hnc HV.out.tb HRI5.out HRI.out.big HRI.out.cap).mono ?_
            rintro e w8 ⟨v8, rfl, hv8, hb8⟩
            obtain ⟨y, rfl, -⟩ := hv8.tab HV.out.ok.small.fit
            have HO8 := Lib.hid hv8
            have HV7 := HV
            replace HV := Lib.hid (HV.out.on hb8)
            replace HRI5 := Lib.hid (HRI5.out.on hb8)
            clear hb8 hv8 p0 p1 hox
            go_wp2_with (first
              | (go_at_call 16; refine (num_any _ _).mono ?_; rintro e w' ⟨rfl, rfl⟩)
              | (refine store_box rfl 26 (.tmp 19) (.tmp 132) rfl rfl w8.heap.size _ _ rfl rfl (heap_alloc_new w8 (.cells #[.slice none 0 0, .slice none 0 0] 26)) rfl (by kernel_rfl) two_one ?_
                 intro w9 hg9 hc9 hs9
                 have hb9 := (below_new w8 (.cells #[.slice none 0 0, .slice none 0 0] 26)).trans hc9.bel
                 have HO9 := Lib.hid ((HO8.out.on (below_new w8 (.cells #[.slice none 0 0, .slice none 0 0] 26))).chg hc9)
                 replace HV := Lib.hid (HV.out.on hb9)
                 replace HRI5 := Lib.hid (HRI5.out.on hb9)
                 have u0 : w9.cell? ⟨w8.heap.size, 0, none⟩ = some (.slice y.A1 y.n1 y.c1) := by rw [cell_of_row _ _ 0 _ _ _ hg9]; rfl
                 have u1 : w9.cell? ⟨w8.heap.size, 1, none⟩ = some (.slice y.A2 y.n2 y.c2) := by rw [cell_of_row _ _ 1 _ _ _ hg9]; rfl
                 clear hg9 hc9 hs9 hb9)
              | (refine store_box rfl 26 (.tmp 7) (.tmp 144) rfl rfl g _ _ rfl rfl HV.out.blk rfl (by kernel_rfl) two_one ?_
                 intro w10 hg10 hc10 hs10
                 have HG10 := Lib.hid hg10
                 have HC10 := Lib.hid hc10
                 skip
                 clear hg10 hc10 hs10 u0 u1))
            go_roundw
            case rel =>
              obtain ⟨o1, o2, o3⟩ := HV.out.store HV.out.ok HO9.out HG10.out HC10.out
              exact ⟨T, y, D, L, c, k + 1, rfl, by go_num, by omega, ⟨HV.out.ok, HG10.out, ⟨_, o1⟩, o2, HV.out.ge, o3⟩⟩
            case measure => simp [intOf]; omega
    · by_cases g1 : k < n2
      · by_cases g2 : k < 60
        · have g3 : n1 = 0 := by omega
          have z1 : (k : Int) < (n2 : Int) := by omega
          have z2 : (k : Int) < 60 := by omega
          clear hgo
          subst g3
          have p1 := HV.out.c1
          rw [HXN.out] at p1
          go_wp2_with fail
          obtain ⟨wA, hwA⟩ : ∃ wA, wA = wr := ⟨_, rfl⟩
          subst hwA
          go_loopw [22] (fun i wx => ∃ j : Nat, i = .int .i64 j ∧ j ≤ L ∧ SetV ss w g T x D L c wx) (fun i _ => L - (intOf i).toNat)
          case atStart => exact ⟨0, rfl, by omega, HV.out⟩
          case round =>
            clear p1 HV
            obtain ⟨j, rfl, hj, hv2⟩ := hrel
            have HV := Lib.hid hv2
            clear hv2
            by_cases hjl : j < L
            · obtain ⟨bT, oT, A3, c3, rfl, hbT, d0, hri, _⟩ := HV.out.tups.one (i := j) hjl
              obtain ⟨r, hrr⟩ : ∃ r, r = rowOf T.facts j := ⟨_, rfl⟩
              rw [← hrr] at d0 hri
              have HRI := Lib.hid hri
              have HWJ : Hid (whereR ⟨T.slots, T.facts⟩ r = (j : Int)) := by show _ = _; rw [hrr]; exact HV.out.ok.where_ (by rw [← HLL.out]; exact hjl)
              have z1 : (j : Int) < (L : Int) := by omega
              have z0 : (0 : Int) ≤ (j : Int) := by omega
              have p1 := HV.out.c1
              rw [HXN.out] at p1
              have HTF : Hid (TupsAt wr wr.heap.size x.A2 L T.facts) := by have := HV.out.tb.fc; rw [HXN.out] at this; exact this
              clear hri hrr
              go_wp2_with fail
              have hd : Below wr.heap.size wr wr.drew := (Below.refl wr.heap.size wr).drew
              refine wp_region_held_drew (S := (fun w' => w'.cell? ⟨g, 1, none⟩ = some (.slice x.A2 L x.c2) ∧ w'.cell? ⟨bT, oT + j, none⟩ = some (.slice A3 r.length c3))) (by kernel_rfl) ⟨p1, d0⟩ (fun hHeld => ?_)
              have HVD := Lib.hid (HV.out.on hd)
              have HTD := Lib.hid (HTF.out.on hd)
              have HRD := Lib.hid (HRI.out.on hd)
              obtain ⟨w5, hw5⟩ : ∃ w5, w5 = wr.drew := ⟨_, rfl⟩
              have d5 : w5.cell? ⟨bT, oT + j, none⟩ = some (.slice A3 r.length c3) := by rw [hw5]; exact d0
              have hb5 : bT < w5.heap.size := by rw [hw5]; exact hbT
              rw [← hw5] at HVD HTD HRD hHeld ⊢
              clear hw5 hd p1 d0 HV HTF HRI
              refine takeH (i := 0) (v := ?_) rfl rfl (by kernel_rfl) (by kernel_rfl) (by kernel_rfl) (fun _ _ _ h => h) (by rfl) ?_ hHeld ?_
              rotate_left
              · (intro w hSw; (try dsimp only at hSw); first | (go_simp; done) | (go_simp; with_reducible rfl))
              simp only [Act.put, List.setIfInBounds_toArray, List.set_cons_zero, List.set_cons_succ]
              refine takeH (i := 1) (v := ?_) rfl rfl (by kernel_rfl) (by kernel_rfl) (by kernel_rfl) (fun _ _ _ h => h) (by rfl) ?_ hHeld ?_
              rotate_left
              · (intro w hSw; (try dsimp only at hSw); first | (go_simp; done) | (go_simp; with_reducible rfl))
              simp only [Act.put, List.setIfInBounds_toArray, List.set_cons_zero, List.set_cons_succ]
              refine takeH (i := 2) (v := ?_) rfl rfl (by kernel_rfl) (by kernel_rfl) (by kernel_rfl) (fun _ _ _ h => h) (by rfl) ?_ hHeld ?_
              rotate_left
              · (intro w hSw; (try dsimp only at hSw); first | (go_simp; done) | (go_simp; with_reducible rfl))
              simp only [Act.put, List.setIfInBounds_toArray, List.set_cons_zero, List.set_cons_succ]
              refine takeH (i := 3) (v := ?_) rfl rfl (by kernel_rfl) (by kernel_rfl) (by kernel_rfl) (fun _ _ _ h => h) (by rfl) ?_ hHeld ?_
              rotate_left
              · (intro w hSw; (try dsimp only at hSw); first | (go_simp; done) | (go_simp; with_reducible rfl))
              simp only [Act.put, List.setIfInBounds_toArray, List.set_cons_zero, List.set_cons_succ]
              refine takeH (i := 4) (v := ?_) rfl rfl (by kernel_rfl) (by kernel_rfl) (by kernel_rfl) (fun _ _ _ h => h) (by rfl) ?_ hHeld ?_
              rotate_left
              · (intro w hSw; (try dsimp only at hSw); first | (go_simp; done) | (go_simp; with_reducible rfl))
              simp only [Act.put, List.setIfInBounds_toArray, List.set_cons_zero, List.set_cons_succ]
              refine takeH (i := 5) (v := ?_) rfl rfl (by kernel_rfl) (by kernel_rfl) (by kernel_rfl) (fun _ _ _ h => h) (by rfl) ?_ hHeld ?_
              rotate_left
              · (intro w hSw; (try dsimp only at hSw); first | (go_simp; done) | (go_simp; with_reducible rfl))
              simp only [Act.put, List.setIfInBounds_toArray, List.set_cons_zero, List.set_cons_succ]
              refine takeH (i := 7) (v := ?_) rfl rfl (by kernel_rfl) (by kernel_rfl) (by kernel_rfl) (fun _ _ _ h => h) (by rfl) ?_ hHeld ?_
              rotate_left
              · (intro w hSw; (try dsimp only at hSw); first | (go_simp; done) | (go_simp; with_reducible rfl))
              simp only [Act.put, List.setIfInBounds_toArray, List.set_cons_zero, List.set_cons_succ]
              refine wpAnyH_ready (rs := [6]) (by kernel_rfl) (by simp) ?_
              refine AllReadyH.cons rfl (fun K hK => ?_) AllReadyH.nil
              go_simp
              refine (same_any x.A2 A3 L x.c2 r.length c3 T.slots T.facts r _ HTD.out (by omega) HRD.out.at_ HRD.out.big).mono ?_
              rintro e w6 ⟨rfl, hb6⟩
              rw [HWJ.out]
              have d6 : w6.cell? ⟨bT, oT + j, none⟩ = some (.slice A3 r.length c3) := by rw [hb6.cell (p := ⟨bT, oT + j, none⟩) hb5]; exact d5
              replace HVD := Lib.hid (HVD.out.on hb6)
              have p1 := HVD.out.c1
              rw [HXN.out] at p1
              clear hb6 d5 hb5 HTD HRD
              go_wp2_with fail
              refine hK.out _ _ ?_ (fun hHeld => ?_)
              · exact ⟨p1, d6⟩
              clear hK K
              refine takeH (i := 8) (v := ?_) rfl rfl (by kernel_rfl) (by kernel_rfl) (by kernel_rfl) (fun _ _ _ h => h) (by rfl) ?_ hHeld ?_
              rotate_left
              · (intro w hSw; (try dsimp only at hSw); first | (go_simp; done) | (go_simp; with_reducible rfl))
              simp only [Act.put, List.setIfInBounds_toArray, List.set_cons_zero, List.set_cons_succ]
              refine wpAnyH_done (by kernel_rfl) ?_ _
              clear hHeld p1 d6
              go_wp2
              go_roundw
              case rel => exact ⟨j + 1, by go_num, by omega, HVD.out⟩
              case measure => simp [intOf]; omega
            · obtain rfl : j = L := by omega
              have p0 := HV.out.c0
              have p1 := HV.out.c1
              go_wp2_with fail
              refine (mayF_any A n cp ss x T _ (HS.out.on HV.out.bel) hn hnc HV.out.tb).mono ?_
              rintro e w6 ⟨rfl, hb6⟩
              have HN : Hid (tabB ss T = true) := tabB_yes HM.out HV.out.ok
              rw [HN.out]
              have HB6 := Lib.hid (HV.out.bel.trans (hb6.mono HV.out.bel.size))
              clear hb6
              go_wp2
              go_ret
              exact ⟨rfl, HB6.out⟩
        · have z1 : (k : Int) < (n2 : Int) := by omega
          have z2 : ¬ (k : Int) < 60 := by omega
          clear hgo
          have p1 := HV.out.c1
          rw [HXN.out] at p1
          go_wp2_with fail
          obtain ⟨wA, hwA⟩ : ∃ wA, wA = wr := ⟨_, rfl⟩
          subst hwA
          go_loopw [22] (fun i wx => ∃ j : Nat, i = .int .i64 j ∧ j ≤ L ∧ SetV ss w g T x D L c wx) (fun i _ => L - (intOf i).toNat)
          case atStart => exact ⟨0, rfl, by omega, HV.out⟩
          case round =>
            clear p1 HV
            obtain ⟨j, rfl, hj, hv2⟩ := hrel
            have HV := Lib.hid hv2
            clear hv2
            by_cases hjl : j < L
            · obtain ⟨bT, oT, A3, c3, rfl, hbT, d0, hri, _⟩ := HV.out.tups.one (i := j) hjl
              obtain ⟨r, hrr⟩ : ∃ r, r = rowOf T.facts j := ⟨_, rfl⟩
              rw [← hrr] at d0 hri
              have HRI := Lib.hid hri
              have HWJ : Hid (whereR ⟨T.slots, T.facts⟩ r = (j : Int)) := by show _ = _; rw [hrr]; exact HV.out.ok.where_ (by rw [← HLL.out]; exact hjl)
              have z1 : (j : Int) < (L : Int) := by omega
              have z0 : (0 : Int) ≤ (j : Int) := by omega
              have p1 := HV.out.c1
              rw [HXN.out] at p1
              have HTF : Hid (TupsAt wr wr.heap.size x.A2 L T.facts) := by have := HV.out.tb.fc; rw [HXN.out] at this; exact this
              clear hri hrr
              go_wp2_with fail
              have hd : Below wr.heap.size wr wr.drew := (Below.refl wr.heap.size wr).drew
              refine wp_region_held_drew (S := (fun w' => w'.cell? ⟨g, 1, none⟩ = some (.slice x.A2 L x.c2) ∧ w'.cell? ⟨bT, oT + j, none⟩ = some (.slice A3 r.length c3))) (by kernel_rfl) ⟨p1, d0⟩ (fun hHeld => ?_)
              have HVD := Lib.hid (HV.out.on hd)
              have HTD := Lib.hid (HTF.out.on hd)
              have HRD := Lib.hid (HRI.out.on hd)
              obtain ⟨w5, hw5⟩ : ∃ w5, w5 = wr.drew := ⟨_, rfl⟩
              have d5 : w5.cell? ⟨bT, oT + j, none⟩ = some (.slice A3 r.length c3) := by rw [hw5]; exact d0
              have hb5 : bT < w5.heap.size := by rw [hw5]; exact hbT
              rw [← hw5] at HVD HTD HRD hHeld ⊢
              clear hw5 hd p1 d0 HV HTF HRI
              refine takeH (i := 0) (v := ?_) rfl rfl (by kernel_rfl) (by kernel_rfl) (by kernel_rfl) (fun _ _ _ h => h) (by rfl) ?_ hHeld ?_
              rotate_left
              · (intro w hSw; (try dsimp only at hSw); first | (go_simp; done) | (go_simp; with_reducible rfl))
              simp only [Act.put, List.setIfInBounds_toArray, List.set_cons_zero, List.set_cons_succ]
              refine takeH (i := 1) (v := ?_) rfl rfl (by kernel_rfl) (by kernel_rfl) (by kernel_rfl) (fun _ _ _ h => h) (by rfl) ?_ hHeld ?_
              rotate_left
              · (intro w hSw; (try dsimp only at hSw); first | (go_simp; done) | (go_simp; with_reducible rfl))
              simp only [Act.put, List.setIfInBounds_toArray, List.set_cons_zero, List.set_cons_succ]
              refine takeH (i := 2) (v := ?_) rfl rfl (by kernel_rfl) (by kernel_rfl) (by kernel_rfl) (fun _ _ _ h => h) (by rfl) ?_ hHeld ?_
              rotate_left
              · (intro w hSw; (try dsimp only at hSw); first | (go_simp; done) | (go_simp; with_reducible rfl))
              simp only [Act.put, List.setIfInBounds_toArray, List.set_cons_zero, List.set_cons_succ]
              refine takeH (i := 3) (v := ?_) rfl rfl (by kernel_rfl) (by kernel_rfl) (by kernel_rfl) (fun _ _ _ h => h) (by rfl) ?_ hHeld ?_
              rotate_left
              · (intro w hSw; (try dsimp only at hSw); first | (go_simp; done) | (go_simp; with_reducible rfl))
              simp only [Act.put, List.setIfInBounds_toArray, List.set_cons_zero, List.set_cons_succ]
              refine takeH (i := 4) (v := ?_) rfl rfl (by kernel_rfl) (by kernel_rfl) (by kernel_rfl) (fun _ _ _ h => h) (by rfl) ?_ hHeld ?_
              rotate_left
              · (intro w hSw; (try dsimp only at hSw); first | (go_simp; done) | (go_simp; with_reducible rfl))
              simp only [Act.put, List.setIfInBounds_toArray, List.set_cons_zero, List.set_cons_succ]
              refine takeH (i := 5) (v := ?_) rfl rfl (by kernel_rfl) (by kernel_rfl) (by kernel_rfl) (fun _ _ _ h => h) (by rfl) ?_ hHeld ?_
              rotate_left
              · (intro w hSw; (try dsimp only at hSw); first | (go_simp; done) | (go_simp; with_reducible rfl))
              simp only [Act.put, List.setIfInBounds_toArray, List.set_cons_zero, List.set_cons_succ]
              refine takeH (i := 7) (v := ?_) rfl rfl (by kernel_rfl) (by kernel_rfl) (by kernel_rfl) (fun _ _ _ h => h) (by rfl) ?_ hHeld ?_
              rotate_left
              · (intro w hSw; (try dsimp only at hSw); first | (go_simp; done) | (go_simp; with_reducible rfl))
              simp only [Act.put, List.setIfInBounds_toArray, List.set_cons_zero, List.set_cons_succ]
              refine wpAnyH_ready (rs := [6]) (by kernel_rfl) (by simp) ?_
              refine AllReadyH.cons rfl (fun K hK => ?_) AllReadyH.nil
              go_simp
              refine (same_any x.A2 A3 L x.c2 r.length c3 T.slots T.facts r _ HTD.out (by omega) HRD.out.at_ HRD.out.big).mono ?_
              rintro e w6 ⟨rfl, hb6⟩
              rw [HWJ.out]
              have d6 : w6.cell? ⟨bT, oT + j, none⟩ = some (.slice A3 r.length c3) := by rw [hb6.cell (p := ⟨bT, oT + j, none⟩) hb5]; exact d5
              replace HVD := Lib.hid (HVD.out.on hb6)
              have p1 := HVD.out.c1
              rw [HXN.out] at p1
              clear hb6 d5 hb5 HTD HRD
              go_wp2_with fail
              refine hK.out _ _ ?_ (fun hHeld => ?_)
              · exact ⟨p1, d6⟩
              clear hK K
              refine takeH (i := 8) (v := ?_) rfl rfl (by kernel_rfl) (by kernel_rfl) (by kernel_rfl) (fun _ _ _ h => h) (by rfl) ?_ hHeld ?_
              rotate_left
              · (intro w hSw; (try dsimp only at hSw); first | (go_simp; done) | (go_simp; with_reducible rfl))
              simp only [Act.put, List.setIfInBounds_toArray, List.set_cons_zero, List.set_cons_succ]
              refine wpAnyH_done (by kernel_rfl) ?_ _
              clear hHeld p1 d6
              go_wp2
              go_roundw
              case rel => exact ⟨j + 1, by go_num, by omega, HVD.out⟩
              case measure => simp [intOf]; omega
            · obtain rfl : j = L := by omega
              have p0 := HV.out.c0
              have p1 := HV.out.c1
              go_wp2_with fail
              refine (mayF_any A n cp ss x T _ (HS.out.on HV.out.bel) hn hnc HV.out.tb).mono ?_
              rintro e w6 ⟨rfl, hb6⟩
              have HN : Hid (tabB ss T = true) := tabB_yes HM.out HV.out.ok
              rw [HN.out]
              have HB6 := Lib.hid (HV.out.bel.trans (hb6.mono HV.out.bel.size))
              clear hb6
              go_wp2
              go_ret
              exact ⟨rfl, HB6.out⟩
      · have z1 : ¬ (k : Int) < (n2 : Int) := by omega
        clear hgo
        have p1 := HV.out.c1
        rw [HXN.out] at p1
        go_wp2_with fail
        obtain ⟨wA, hwA⟩ : ∃ wA, wA = wr := ⟨_, rfl⟩
        subst hwA
        go_loopw [22] (fun i wx => ∃ j : Nat, i = .int .i64 j ∧ j ≤ L ∧ SetV ss w g T x D L c wx) (fun i _ => L - (intOf i).toNat)
        case atStart => exact ⟨0, rfl, by omega, HV.out⟩
        case round =>
          clear p1 HV
          obtain ⟨j, rfl, hj, hv2⟩ := hrel
          have HV := Lib.hid hv2
          clear hv2
          by_cases hjl : j < L
          · obtain ⟨bT, oT, A3, c3, rfl, hbT, d0, hri, _⟩ := HV.out.tups.one (i := j) hjl
            obtain ⟨r, hrr⟩ : ∃ r, r = rowOf T.facts j := ⟨_, rfl⟩
            rw [← hrr] at d0 hri
            have HRI := Lib.hid hri
            have HWJ : Hid (whereR ⟨T.slots, T.facts⟩ r = (j : Int)) := by show _ = _; rw [hrr]; exact HV.out.ok.where_ (by rw [← HLL.out]; exact hjl)
            have z1 : (j : Int) < (L : Int) := by omega
            have z0 : (0 : Int) ≤ (j : Int) := by omega
            have p1 := HV.out.c1
            rw [HXN.out] at p1
            have HTF : Hid (TupsAt wr wr.heap.size x.A2 L T.facts) := by have := HV.out.tb.fc; rw [HXN.out] at this; exact this
            clear hri hrr
            go_wp2_with fail
            have hd : Below wr.heap.size wr wr.drew := (Below.refl wr.heap.size wr).drew
            refine wp_region_held_drew (S := (fun w' => w'.cell? ⟨g, 1, none⟩ = some (.slice x.A2 L x.c2) ∧ w'.cell? ⟨bT, oT + j, none⟩ = some (.slice A3 r.length c3))) (by kernel_rfl) ⟨p1, d0⟩ (fun hHeld => ?_)
            have HVD := Lib.hid (HV.out.on hd)
            have HTD := Lib.hid (HTF.out.on hd)
            have HRD := Lib.hid (HRI.out.on hd)
            obtain ⟨w5, hw5⟩ : ∃ w5, w5 = wr.drew := ⟨_, rfl⟩
            have d5 : w5.cell? ⟨bT, oT + j, none⟩ = some (.slice A3 r.length c3) := by rw [hw5]; exact d0
            have hb5 : bT < w5.heap.size := by rw [hw5]; exact hbT
            rw [← hw5] at HVD HTD HRD hHeld ⊢
            clear hw5 hd p1 d0 HV HTF HRI
            refine takeH (i := 0) (v := ?_) rfl rfl (by kernel_rfl) (by kernel_rfl) (by kernel_rfl) (fun _ _ _ h => h) (by rfl) ?_ hHeld ?_
            rotate_left
            · (intro w hSw; (try dsimp only at hSw); first | (go_simp; done) | (go_simp; with_reducible rfl))
            simp only [Act.put, List.setIfInBounds_toArray, List.set_cons_zero, List.set_cons_succ]
            refine takeH (i := 1) (v := ?_) rfl rfl (by kernel_rfl) (by kernel_rfl) (by kernel_rfl) (fun _ _ _ h => h) (by rfl) ?_ hHeld ?_
            rotate_left
            · (intro w hSw; (try dsimp only at hSw); first | (go_simp; done) | (go_simp; with_reducible rfl))
            simp only [Act.put, List.setIfInBounds_toArray, List.set_cons_zero, List.set_cons_succ]
            refine takeH (i := 2) (v := ?_) rfl rfl (by kernel_rfl) (by kernel_rfl) (by kernel_rfl) (fun _ _ _ h => h) (by rfl) ?_ hHeld ?_
            rotate_left
            · (intro w hSw; (try dsimp only at hSw); first | (go_simp; done) | (go_simp; with_reducible rfl))
            simp only [Act.put, List.setIfInBounds_toArray, List.set_cons_zero, List.set_cons_succ]
            refine takeH (i := 3) (v := ?_) rfl rfl (by kernel_rfl) (by kernel_rfl) (by kernel_rfl) (fun _ _ _ h => h) (by rfl) ?_ hHeld ?_
            rotate_left
            · (intro w hSw; (try dsimp only at hSw); first | (go_simp; done) | (go_simp; with_reducible rfl))
            simp only [Act.put, List.setIfInBounds_toArray, List.set_cons_zero, List.set_cons_succ]
            refine takeH (i := 4) (v := ?_) rfl rfl (by kernel_rfl) (by kernel_rfl) (by kernel_rfl) (fun _ _ _ h => h) (by rfl) ?_ hHeld ?_
            rotate_left
            · (intro w hSw; (try dsimp only at hSw); first | (go_simp; done) | (go_simp; with_reducible rfl))
            simp only [Act.put, List.setIfInBounds_toArray, List.set_cons_zero, List.set_cons_succ]
            refine takeH (i := 5) (v := ?_) rfl rfl (by kernel_rfl) (by kernel_rfl) (by kernel_rfl) (fun _ _ _ h => h) (by rfl) ?_ hHeld ?_
            rotate_left
            · (intro w hSw; (try dsimp only at hSw); first | (go_simp; done) | (go_simp; with_reducible rfl))
            simp only [Act.put, List.setIfInBounds_toArray, List.set_cons_zero, List.set_cons_succ]
            refine takeH (i := 7) (v := ?_) rfl rfl (by kernel_rfl) (by kernel_rfl) (by kernel_rfl) (fun _ _ _ h => h) (by rfl) ?_ hHeld ?_
            rotate_left
            · (intro w hSw; (try dsimp only at hSw); first | (go_simp; done) | (go_simp; with_reducible rfl))
            simp only [Act.put, List.setIfInBounds_toArray, List.set_cons_zero, List.set_cons_succ]
            refine wpAnyH_ready (rs := [6]) (by kernel_rfl) (by simp) ?_
            refine AllReadyH.cons rfl (fun K hK => ?_) AllReadyH.nil
            go_simp
            refine (same_any x.A2 A3 L x.c2 r.length c3 T.slots T.facts r _ HTD.out (by omega) HRD.out.at_ HRD.out.big).mono ?_
            rintro e w6 ⟨rfl, hb6⟩
            rw [HWJ.out]
            have d6 : w6.cell? ⟨bT, oT + j, none⟩ = some (.slice A3 r.length c3) := by rw [hb6.cell (p := ⟨bT, oT + j, none⟩) hb5]; exact d5
            replace HVD := Lib.hid (HVD.out.on hb6)
            have p1 := HVD.out.c1
            rw [HXN.out] at p1
            clear hb6 d5 hb5 HTD HRD
            go_wp2_with fail
            refine hK.out _ _ ?_ (fun hHeld => ?_)
            · exact ⟨p1, d6⟩
            clear hK K
            refine takeH (i := 8) (v := ?_) rfl rfl (by kernel_rfl) (by kernel_rfl) (by kernel_rfl) (fun _ _ _ h => h) (by rfl) ?_ hHeld ?_
            rotate_left
            · (intro w hSw; (try dsimp only at hSw); first | (go_simp; done) | (go_simp; with_reducible rfl))
            simp only [Act.put, List.setIfInBounds_toArray, List.set_cons_zero, List.set_cons_succ]
            refine wpAnyH_done (by kernel_rfl) ?_ _
            clear hHeld p1 d6
            go_wp2
            go_roundw
            case rel => exact ⟨j + 1, by go_num, by omega, HVD.out⟩
            case measure => simp [intOf]; omega
          · obtain rfl : j = L := by omega
            have p0 := HV.out.c0
            have p1 := HV.out.c1
            go_wp2_with fail
            refine (mayF_any A n cp ss x T _ (HS.out.on HV.out.bel) hn hnc HV.out.tb).mono ?_
            rintro e w6 ⟨rfl, hb6⟩
            have HN : Hid (tabB ss T = true) := tabB_yes HM.out HV.out.ok
            rw [HN.out]
            have HB6 := Lib.hid (HV.out.bel.trans (hb6.mono HV.out.bel.size))
            clear hb6
            go_wp2
            go_ret
            exact ⟨rfl, HB6.out⟩
end Go.Proofs.Ythnjpkghjkhjdaa
