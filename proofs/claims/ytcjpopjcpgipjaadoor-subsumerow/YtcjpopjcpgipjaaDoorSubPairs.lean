/-
  Contract of package subsume: pairs.
-/
import Derived.Test.YtcjpopjcpgipjaaDoorSubLits
import Derived.Test.YtcjpopjcpgipjaaDoorClauseMay2
namespace Go.Proofs.YtcjpopjcpgipjaaDoor
open Go.RowKit Go.Deep
set_option linter.unusedSimpArgs false
set_option linter.unusedVariables false
set_option maxRecDepth 100000

theorem flat_congr {α : Type} {f g : Nat → List α} {n : Nat} (h : ∀ k, k < n → f k = g k) : (List.range n).flatMap f = (List.range n).flatMap g := by
  induction n with
  | zero => rfl
  | succ n ih =>
    rw [List.range_succ, List.flatMap_append, List.flatMap_append, ih fun k hk => h k (by omega)]
    simp [h n (by omega)]
theorem flat_add {α : Type} {f : Nat → List α} {a b : Nat} : (List.range (a + b)).flatMap f = (List.range a).flatMap f ++ (List.range b).flatMap fun k => f (a + k) := by
  induction b with
  | zero => simp
  | succ b ih => rw [← Nat.add_assoc, List.range_succ, List.flatMap_append, ih, List.range_succ, List.flatMap_append]; simp
theorem item_lits {c : Cl} {k : Nat} (h : k < c.lits.length) : ltAt (itemsC c) k = ltAt c.lits k := by
  unfold ltAt itemsC
  rw [List.getD_eq_getElem?_getD, List.getD_eq_getElem?_getD, List.getElem?_append_left h]
theorem item_tups {c : Cl} {k : Nat} (h : k < c.tups.length) : ltAt (itemsC c) (c.lits.length + k) = ltAt (c.tups.map mkT) k := by
  unfold ltAt itemsC
  rw [List.getD_eq_getElem?_getD, List.getD_eq_getElem?_getD, List.getElem?_append_right (by omega), Nat.add_sub_cancel_left, List.getElem?_append_left (by rw [List.length_map]; exact h)]
theorem item_conds {c : Cl} {k : Nat} : ltAt (itemsC c) (c.lits.length + c.tups.length + k) = ltAt c.conds k := by
  unfold ltAt itemsC
  rw [List.getD_eq_getElem?_getD, List.getD_eq_getElem?_getD, List.getElem?_append_right (by omega), List.getElem?_append_right (by rw [List.length_map]; omega), List.length_map]
  congr 2
  omega
theorem allPr_parts {ss : List Sym} {c d : Cl} : allPr ss (itemsC c) (targC c d) (itemsC c).length = partsPr ss 0 c.lits d.lits c.lits.length ++ partsPr ss c.lits.length (c.tups.map mkT) (d.tups.map mkT) c.tups.length ++ partsPr ss (c.lits.length + c.tups.length) c.conds d.conds c.conds.length := by
  unfold allPr partsPr
  rw [items_len, flat_add, flat_add]
  congr 1
  · congr 1
    · exact flat_congr fun k hk => by rw [item_lits hk, targ_lits hk, Nat.zero_add]
    · exact flat_congr fun k hk => by rw [item_tups hk, targ_tups (by omega) (by omega)]
  · exact flat_congr fun k hk => by rw [item_conds, targ_conds (by omega) (by omega)]
theorem tup_at {ts : List (List Int)} {k : Nat} (h : k < ts.length) : ltAt (ts.map mkT) k = mkT (rowOf ts k) := by
  unfold ltAt
  rw [List.getD_eq_getElem?_getD, List.getElem?_map, rowOf_get h]; rfl
def PairsPost (ss : List Sym) (c d : Cl) (w : World) (e : Ending) (w' : World) : Prop :=
  e = .returned (.pointer (some ⟨w.heap.size + 2, 0, none⟩)) ∧ (∃ os, os.length = (itemsC c).length ∧ Bld w' (w.heap.size + 2) w.heap.size (allPr ss (itemsC c) (targC c d) (itemsC c).length) os) ∧ Below w.heap.size w w'
set_option maxHeartbeats 4000000 in
theorem pairs_any (A : Option Addr) (n cp : Nat) (ss : List Sym) (v u : Cv) (c d : Cl) (w : World) (h : SymsAt w w.heap.size A n ss) (hn : n ≤ maxLen) (hc : ClAt w w.heap.size v c) (hd : ClAt w w.heap.size u d) (hm : MayC ss c) (hm2 : MayC ss d) :
    Calls Tryd.prog 29 #[.slice A n cp, v.val, u.val] w (PairsPost ss c d w) := by
  have HS := Lib.hid h
  have HN := Lib.hid hn
  have HC := Lib.hid hc
  have HD := Lib.hid hd
  have HM := Lib.hid hm
  have HM2 := Lib.hid hm2
  have HL1 := Lib.hid hc.lits.len
  have HL2 := Lib.hid hc.tups.len
  have HL3 := Lib.hid hc.conds.len
  have HK1 := Lib.hid hd.lits.len
  have HK2 := Lib.hid hd.tups.len
  have HK3 := Lib.hid hd.conds.len
  have b1 : v.n1 ≤ 5 := by have := hm.nl; have := HL1.out; omega
  have b2 : v.n2 ≤ 3 := by have := hm.nt; have := HL2.out; omega
  have b3 : v.n3 ≤ 3 := by have := hm.nc; have := HL3.out; omega
  have b4 : u.n1 ≤ 5 := by have := hm2.nl; have := HK1.out; omega
  have b5 : u.n2 ≤ 3 := by have := hm2.nt; have := HK2.out; omega
  have b6 : u.n3 ≤ 3 := by have := hm2.nc; have := HK3.out; omega
  rw [v.val_eq, u.val_eq]
  clear h hn hc hd hm hm2
  go_enter Tryd.func29, Tryd.ntmps29
  go_wp2_with fail
  obtain ⟨sb, hsb⟩ : ∃ sb, sb = w.heap.size + 1 + 1 := ⟨_, rfl⟩
  obtain ⟨db, hdb⟩ : ∃ db, db = w.heap.size + 1 := ⟨_, rfl⟩
  obtain ⟨w3, hw3⟩ : ∃ w3, w3 = (((w.alloc (.cells #[.slice v.A1 v.n1 v.c1, .slice v.A2 v.n2 v.c2, .slice v.A3 v.n3 v.c3] 26)).alloc (.cells #[.slice u.A1 u.n1 u.c1, .slice u.A2 u.n2 u.c2, .slice u.A3 u.n3 u.c3] 26)).alloc (.cells #[.slice none 0 0, .slice none 0 0, .slice none 0 0, .slice none 0 0, .slice none 0 0] 69)) := ⟨_, rfl⟩
  rw [← hw3, ← hsb, ← hdb]
  have hb3 : Below w.heap.size w w3 := by
    rw [hw3]
    exact (below_new w _).trans (((below_new _ _).mono (by simp)).trans ((below_new _ _).mono (by simp; omega)))
  have HX : Hid (w3.heap[w.heap.size]? = some (.cells #[.slice v.A1 v.n1 v.c1, .slice v.A2 v.n2 v.c2, .slice v.A3 v.n3 v.c3] 26 (0, 0))) := by
    show _ = _
    rw [hw3, (below_new _ _).block w.heap.size (by simp; omega), (below_new _ _).block w.heap.size (by simp)]
    exact heap_alloc_new _ _
  have HY : Hid (w3.heap[db]? = some (.cells #[.slice u.A1 u.n1 u.c1, .slice u.A2 u.n2 u.c2, .slice u.A3 u.n3 u.c3] 26 (0, 0))) := by
    show _ = _
    rw [hw3, hdb, (below_new _ _).block (w.heap.size + 1) (by simp)]
    have := heap_alloc_new (w.alloc (.cells #[.slice v.A1 v.n1 v.c1, .slice v.A2 v.n2 v.c2, .slice v.A3 v.n3 v.c3] 26)) (.cells #[.slice u.A1 u.n1 u.c1, .slice u.A2 u.n2 u.c2, .slice u.A3 u.n3 u.c3] 26)
    simpa using this
  have HZ : Hid (SB w3 sb (.slice none 0 0) (.slice none 0 0) (.slice none 0 0) (.slice none 0 0) (.slice none 0 0)) := by
    show _ = _
    rw [hw3, hsb]
    have := heap_alloc_new ((w.alloc (.cells #[.slice v.A1 v.n1 v.c1, .slice v.A2 v.n2 v.c2, .slice v.A3 v.n3 v.c3] 26)).alloc (.cells #[.slice u.A1 u.n1 u.c1, .slice u.A2 u.n2 u.c2, .slice u.A3 u.n3 u.c3] 26)) (.cells #[.slice none 0 0, .slice none 0 0, .slice none 0 0, .slice none 0 0, .slice none 0 0] 69)
    simpa using this
  have HSB : Hid (sb = w.heap.size + 2) := by show _ = _; omega
  have HDB : Hid (db < sb) := by show _ < _; omega
  have HWB : Hid (w.heap.size < sb) := by show _ < _; omega
  have HB3 := Lib.hid hb3
  have HBL3 : Hid (Bld w3 sb w.heap.size [] []) := ⟨⟨_, _, HZ.out, OwnP.nil_, OwnW.nil_⟩, by omega, Good.nil_⟩
  obtain ⟨B, hB⟩ : ∃ B, B = w.heap.size := ⟨_, rfl⟩
  have hcells : ∀ wr, Chg SK sb w3 wr → wr.cell? ⟨B, 1, none⟩ = some (.slice v.A2 v.n2 v.c2) ∧ wr.cell? ⟨B, 2, none⟩ = some (.slice v.A3 v.n3 v.c3) ∧ wr.cell? ⟨db, 1, none⟩ = some (.slice u.A2 u.n2 u.c2) ∧ wr.cell? ⟨db, 2, none⟩ = some (.slice u.A3 u.n3 u.c3) := fun wr hc => by
    have k1 := hc.blk _ _ _ _ HX.out (by decide)
    have k2 := hc.blk _ _ _ _ HY.out (by decide)
    rw [hB]
    exact ⟨by rw [cell_of_row _ _ 1 _ _ _ k1]; rfl, by rw [cell_of_row _ _ 2 _ _ _ k1]; rfl, by rw [cell_of_row _ _ 1 _ _ _ k2]; rfl, by rw [cell_of_row _ _ 2 _ _ _ k2]; rfl⟩
  have HCELL := Lib.hid hcells
  have HBB := Lib.hid hB
  clear hw3 hb3 hsb hdb hcells
  have hS3 : SymsAt w3 w.heap.size A n ss := HS.out.below HB3.out
  have hC3 : LitsAt w3 w.heap.size v.A1 v.n1 c.lits := HC.out.lits.below HB3.out
  have hD3 : LitsAt w3 w.heap.size u.A1 u.n1 d.lits := HD.out.lits.below HB3.out
  refine (addLits_any sb w.heap.size 0 A v.A1 u.A1 n cp v.n1 v.c1 u.n1 u.c1 ss c.lits d.lits [] [] w3 HBL3.out rfl (by omega) hS3 HN.out hC3 hD3 HM.out.lits HM2.out.lits b1 b4 (by simp)).mono ?_
  rintro e w4 ⟨rfl, ⟨os4, ho4, hbl4⟩, hc4⟩
  rw [List.nil_append] at hbl4
  rw [Nat.zero_add] at ho4
  have HC4 := Lib.hid hc4
  have HO4 := Lib.hid ho4
  have HB4 := Lib.hid hbl4
  obtain ⟨k1, -, -, -⟩ := HCELL.out w4 hc4
  rw [hB] at k1
  clear hS3 hC3 hD3 ho4 hbl4 hc4 hB
  go_wp2_with fail
  go_loopw [24] (fun i wr => ∃ (k : Nat) (os' : List Nat), i = .int .i64 k ∧ k ≤ v.n2 ∧ Hid (os'.length = c.lits.length + k) ∧ Bld wr sb w.heap.size (partsPr ss 0 c.lits d.lits c.lits.length ++ partsPr ss c.lits.length (c.tups.map mkT) (d.tups.map mkT) k) os' ∧ Chg SK sb w3 wr) (fun i _ => v.n2 - (intOf i).toNat)
  case atStart => exact ⟨0, os4, rfl, by omega, Lib.hid (p := os4.length = c.lits.length + 0) HO4.out, by rw [partsPr_zero, List.append_nil]; exact HB4.out, HC4.out⟩
  case round =>
    obtain ⟨wA, hwA⟩ : ∃ wA, wA = wr := ⟨_, rfl⟩
    subst hwA
    obtain ⟨k, os5, rfl, hk, HO5, hbl5, hc5⟩ := hrel
    have HB5 := Lib.hid hbl5
    have HC5 := Lib.hid hc5
    by_cases hlt : k < v.n2
    · obtain ⟨b1', o1', A6, c6, hA6, hbB, q1, q2, -⟩ := ((HC.out.tups.below HB3.out).below (hc5.bel.mono (Nat.le_of_lt HWB.out))).one hlt
      have HRB := Lib.hid (HM.out.tups _ (List.mem_of_getElem? (rowOf_get (L := c.tups) (by rw [HL2.out]; exact hlt)))).1
      have HTA : Hid (ltAt (c.tups.map mkT) k = mkT (rowOf c.tups k)) := tup_at (by rw [HL2.out]; exact hlt)
      obtain ⟨t, ht⟩ : ∃ t, t = rowOf c.tups k := ⟨_, rfl⟩
      rw [← ht] at q1 q2 HRB HTA
      have HQ := Lib.hid q2
      rw [hA6]
      clear ht q2 hbl5 hc5 hA6
      go_wp2_with fail
      refine (addPart_any sb w.heap.size _ os5 wA HB5.out (by have := HO5.out; have := HL1.out; omega)).mono ?_
      rintro e w6 ⟨rfl, hbl6, hc6⟩
      have HO6 : Hid ((os5 ++ [0]).length = c.lits.length + k + 1) := by show _ = _; rw [List.length_append, HO5.out]; rfl
      have HB6 := Lib.hid hbl6
      have HC6 : Hid (Chg SK sb w3 w6) := HC5.out.trans hc6
      obtain ⟨-, -, m1, -⟩ := HCELL.out w6 HC6.out
      clear hbl6 hc6
      go_wp2_with fail
      go_loopw [33] (fun i wr => ∃ (j : Nat) (os2 : List Nat), i = .int .i64 j ∧ j ≤ u.n2 ∧ Hid (os2.length = c.lits.length + k + 1) ∧ Bld wr sb w.heap.size (partsPr ss 0 c.lits d.lits c.lits.length ++ partsPr ss c.lits.length (c.tups.map mkT) (d.tups.map mkT) k ++ rowPr ss (c.lits.length + k) (mkT t) (d.tups.map mkT) j) os2 ∧ Chg SK sb w3 wr) (fun i _ => u.n2 - (intOf i).toNat)
      case atStart => exact ⟨0, _, rfl, by omega, HO6, by rw [rowPr_zero, List.append_nil]; exact HB6.out, HC6.out⟩
      case round =>
        obtain ⟨j, os7, rfl, hj, HO7, hbl7, hc7⟩ := hrel
        have HB7 := Lib.hid hbl7
        have HC7 := Lib.hid hc7
        by_cases hlt2 : j < u.n2
        · obtain ⟨b2', o2', A8, c8, hA8, hbB2, p1, p2, -⟩ := ((HD.out.tups.below HB3.out).below (hc7.bel.mono (Nat.le_of_lt HWB.out))).one hlt2
          have HRB2 := Lib.hid (HM2.out.tups _ (List.mem_of_getElem? (rowOf_get (L := d.tups) (by rw [HK2.out]; exact hlt2)))).1
          have HTA2 : Hid (ltAt (d.tups.map mkT) j = mkT (rowOf d.tups j)) := tup_at (by rw [HK2.out]; exact hlt2)
          obtain ⟨r, hr⟩ : ∃ r, r = rowOf d.tups j := ⟨_, rfl⟩
          rw [← hr] at p1 p2 HRB2 HTA2
          have HP := Lib.hid p2
          have hle : w.heap.size ≤ wr.heap.size := by have := HB3.out.size; have := HC7.out.bel.size; omega
          have HSr : Hid (SymsAt wr wr.heap.size A n ss) := ((HS.out.below HB3.out).below (hc7.bel.mono (Nat.le_of_lt HWB.out))).more hle
          have HQr : Hid (IntsAt wr wr.heap.size A6 t.length t) := (((HQ.out.at_).keep (fun p hp => (HC5.out.bel.cell (by have := HWB.out; omega)).trans (HC7.out.bel.cell (by have := HWB.out; omega)).symm |>.symm))).more hle
          have HPL : Hid ((partsPr ss 0 c.lits d.lits c.lits.length ++ partsPr ss c.lits.length (c.tups.map mkT) (d.tups.map mkT) k ++ rowPr ss (c.lits.length + k) (mkT t) (d.tups.map mkT) j).length < 60) := by
            show _ < _
            rw [List.length_append, List.length_append]
            have y1 := partsPr_length (ss := ss) (K := 0) (ls := c.lits) (ms := d.lits) (n := c.lits.length)
            have y2 := partsPr_length (ss := ss) (K := c.lits.length) (ls := c.tups.map mkT) (ms := d.tups.map mkT) (n := k)
            have y3 := rowPr_length (ss := ss) (k := c.lits.length + k) (x := mkT t) (y := d.tups.map mkT) (n := j)
            have y4 : c.lits.length * d.lits.length ≤ 5 * 5 := Nat.mul_le_mul HM.out.nl HM2.out.nl
            have y5 : k * (d.tups.map mkT).length ≤ 3 * 3 := Nat.mul_le_mul (by omega) (by rw [List.length_map]; exact HM2.out.nt)
            omega
          rw [hA8]
          clear hr p2 hbl7 hc7 hA8 hle
          go_wp2_with fail
          refine (addPair_any sb w.heap.size (c.lits.length + k) j A _ _ n cp t.length c6 r.length c8 ss t r _ os7 wr HB7.out HO7.out (by have := HL1.out; omega) HPL.out HSr.out HN.out HQr.out HP.out.at_ HP.out.cap HRB.out HRB2.out).mono ?_
          rintro e w8 ⟨rfl, ⟨os8, ho8, hbl8⟩, hc8⟩
          have HO8 : Hid (os8.length = c.lits.length + k + 1) := by show _ = _; rw [ho8]; exact HO7.out
          have HB8 : Hid (Bld w8 sb w.heap.size (partsPr ss 0 c.lits d.lits c.lits.length ++ partsPr ss c.lits.length (c.tups.map mkT) (d.tups.map mkT) k ++ rowPr ss (c.lits.length + k) (mkT t) (d.tups.map mkT) (j + 1)) os8) := by
            show Bld _ _ _ _ _
            rw [rowPr_succ, HTA2.out, onePr_tup, ← List.append_assoc]
            exact hbl8
          have HC8 : Hid (Chg SK sb w3 w8) := HC7.out.trans hc8
          clear ho8 hbl8 hc8
          go_wp2
          go_roundw
          case rel => exact ⟨j + 1, os8, by go_num, by omega, HO8, HB8.out, HC8.out⟩
          case measure => simp [intOf]; omega
        · obtain rfl : j = u.n2 := by omega
          have HBE : Hid (Bld wr sb w.heap.size (partsPr ss 0 c.lits d.lits c.lits.length ++ partsPr ss c.lits.length (c.tups.map mkT) (d.tups.map mkT) (k + 1)) os7) := by
            show Bld _ _ _ _ _
            rw [partsPr_succ, HTA.out, List.length_map, HK2.out, ← List.append_assoc]
            exact HB7.out
          clear hbl7 hc7
          go_wp2
          go_roundw
          case rel => exact ⟨k + 1, os7, by go_num, by omega, Lib.hid (p := os7.length = c.lits.length + (k + 1)) (by rw [HO7.out]; omega), HBE.out, HC7.out⟩
          case measure => simp [intOf]; omega
    · obtain rfl : k = v.n2 := by omega
      obtain ⟨-, m2, -, m4⟩ := HCELL.out wA hc5
      rw [HBB.out] at m2
      have HPL : Hid ((partsPr ss 0 c.lits d.lits c.lits.length ++ partsPr ss c.lits.length (c.tups.map mkT) (d.tups.map mkT) v.n2).length ≤ 34) := by
        show _ ≤ _
        rw [List.length_append]
        have y1 := partsPr_length (ss := ss) (K := 0) (ls := c.lits) (ms := d.lits) (n := c.lits.length)
        have y2 := partsPr_length (ss := ss) (K := c.lits.length) (ls := c.tups.map mkT) (ms := d.tups.map mkT) (n := v.n2)
        have y4 : c.lits.length * d.lits.length ≤ 5 * 5 := Nat.mul_le_mul HM.out.nl HM2.out.nl
        have y5 : v.n2 * (d.tups.map mkT).length ≤ 3 * 3 := Nat.mul_le_mul (by omega) (by rw [List.length_map]; exact HM2.out.nt)
        omega
      have hbe := hc5.bel.mono (Nat.le_of_lt HWB.out)
      have HSr : Hid (SymsAt wA w.heap.size A n ss) := (HS.out.below HB3.out).below hbe
      have HC3r : Hid (LitsAt wA w.heap.size v.A3 v.n3 c.conds) := (HC.out.conds.below HB3.out).below hbe
      have HD3r : Hid (LitsAt wA w.heap.size u.A3 u.n3 d.conds) := (HD.out.conds.below HB3.out).below hbe
      clear hbl5 hc5 hbe
      go_wp2_with fail
      refine (addLits_any sb w.heap.size (c.lits.length + v.n2) A v.A3 u.A3 n cp v.n3 v.c3 u.n3 u.c3 ss c.conds d.conds _ os5 wA HB5.out HO5.out (by have := HL1.out; omega) HSr.out HN.out HC3r.out HD3r.out HM.out.conds HM2.out.conds (by omega) (by omega) HPL.out).mono ?_
      rintro e w9 ⟨rfl, ⟨os9, ho9, hbl9⟩, hc9⟩
      have HO9 : Hid (os9.length = (itemsC c).length) := by show _ = _; rw [items_len, HL2.out]; exact ho9
      have HB9 : Hid (Bld w9 (w.heap.size + 2) w.heap.size (allPr ss (itemsC c) (targC c d) (itemsC c).length) os9) := by
        show Bld _ _ _ _ _
        rw [allPr_parts, HL2.out, ← HSB.out]; exact hbl9
      have HBE : Hid (Below w.heap.size w w9) := HB3.out.trans ((HC5.out.bel.trans hc9.bel).mono (Nat.le_of_lt HWB.out))
      clear ho9 hbl9 hc9
      go_wp2
      go_ret
      exact ⟨by rw [HSB.out]; rfl, ⟨os9, HO9.out, HB9.out⟩, HBE.out⟩
end Go.Proofs.YtcjpopjcpgipjaaDoor
