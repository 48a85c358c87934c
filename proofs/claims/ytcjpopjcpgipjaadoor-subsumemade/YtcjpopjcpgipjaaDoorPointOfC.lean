/-
  Contracts: point.Of, PointOf of quaereref8.
-/
import Derived.Test.YtcjpopjcpgipjaaDoorPointB
import Derived.Test.YtcjpopjcpgipjaaDoorClauseMays
import Derived.Test.YtcjpopjcpgipjaaDoorRefLits
namespace Go.Proofs.YtcjpopjcpgipjaaDoor
open Go.RowKit Go.Deep
set_option linter.unusedSimpArgs false
set_option linter.unusedVariables false
set_option maxRecDepth 100000

theorem pt_wt {ss : List Sym} {l : Lt} (h : litB ss l = true) : 0 ≤ wtSum ss l.atom ∧ wtSum ss l.atom ≤ 980 := by
  have hx := atom_ex (show atomB ss l.atom = true from h)
  have := wtSum_ok hx.1 (hx.2.codes hx.1) l.atom.length (Nat.le_refl _)
  rw [List.take_length] at this
  have := (lit_pos h).2
  omega
def mx (x y : Int) : Int := if x < y then y else x
theorem mx_lt {x y : Int} (h : x < y) : mx x y = y := by unfold mx; rw [if_pos h]
theorem mx_ge {x y : Int} (h : y ≤ x) : mx x y = x := by unfold mx; rw [if_neg (by omega)]
/-- The greatest weight of the literals of one kind. -/
def topW (ss : List Sym) (g : Bool) (ls : List Lt) : Int := ls.foldl (fun m l => if (l.neg == g) = true then mx m (wtSum ss l.atom) else m) 0
theorem topW_next {ss : List Sym} {g : Bool} {ls : List Lt} {k : Nat} (h : k < ls.length) : topW ss g (ls.take (k + 1)) = if ((ltAt ls k).neg == g) = true then mx (topW ss g (ls.take k)) (wtSum ss (ltAt ls k).atom) else topW ss g (ls.take k) := by
  unfold topW
  rw [List.take_add_one, ltAt_get h, Option.toList_some, List.foldl_append]
  rfl
theorem topW_bd {ss : List Sym} {g : Bool} {ls : List Lt} (h : ∀ l ∈ ls, litB ss l = true) : ∀ k, 0 ≤ topW ss g (ls.take k) ∧ topW ss g (ls.take k) ≤ 980 := by
  intro k
  induction k with
  | zero => simp [topW]
  | succ k ih =>
    by_cases hk : k < ls.length
    · rw [topW_next hk]
      have hw := pt_wt (h _ (ltAt_mem hk))
      unfold mx
      split
      · split <;> omega
      · exact ih
    · rw [List.take_of_length_le (by omega)]
      rw [List.take_of_length_le (by omega)] at ih
      exact ih
def ofX (ss : List Sym) (c : Cl) : Int := if mayC ss c then topW ss false c.lits else 0
def ofY (ss : List Sym) (c : Cl) : Int := if mayC ss c then topW ss true c.lits else 0
def ofE (ss : List Sym) (c : Cl) : Int := if mayC ss c then 0 else 900
theorem of_yes {ss : List Sym} {c : Cl} (h : mayC ss c = true) : ofX ss c = topW ss false c.lits ∧ ofY ss c = topW ss true c.lits ∧ ofE ss c = 0 := by unfold ofX ofY ofE; rw [h]; exact ⟨rfl, rfl, rfl⟩
theorem of_no {ss : List Sym} {c : Cl} (h : mayC ss c = false) : ofX ss c = 0 ∧ ofY ss c = 0 ∧ ofE ss c = 900 := by unfold ofX ofY ofE; rw [h]; exact ⟨rfl, rfl, rfl⟩
theorem PBox.set0 {w : World} {g : Nat} {a b : Int} (h : PBox w g a b) (x : Int) : PBox (w.setCell ⟨g, 0, none⟩ (.int .i64 x)) g x b := PBox.of (heap_setCell_same _ _ 0 _ _ (.int .i64 x) h.z)
theorem PBox.set1 {w : World} {g : Nat} {a b : Int} (h : PBox w g a b) (x : Int) : PBox (w.setCell ⟨g, 1, none⟩ (.int .i64 x)) g a x := PBox.of (heap_setCell_same _ _ 1 _ _ (.int .i64 x) h.z)
theorem PBox.cast {w : World} {g : Nat} {a b c d : Int} (h : PBox w g a b) (e1 : a = c) (e2 : b = d) : PBox w g c d := by rw [← e1, ← e2]; exact h
theorem PBox.fr (w : World) (g i : Nat) (a b : Int) (h : PBox w g a b) : w.frozen? ⟨g, i, none⟩ = false := frozen_of_row _ _ _ _ _ h.z

set_option maxHeartbeats 4000000 in
theorem of_any (A : Option Addr) (n cp : Nat) (ss : List Sym) (v : Cv) (c : Cl) (w : World) (h : SymsAt w w.heap.size A n ss) (hn : n ≤ maxLen) (hnc : n ≤ cp) (hc : ClAt w w.heap.size v c) :
    Calls Tryd.prog 24 #[.slice A n cp, v.val] w (PPost (ofX ss c) (ofY ss c) (ofE ss c) w) := by
  have hb0 := below_new2 w v.obj (.cells #[.int .i64 0, .int .i64 0] 56)
  have hx0 := (CBox.new hc).on (below_new _ (.cells #[.int .i64 0, .int .i64 0] 56))
  have hz0 := PBox.new (w.alloc v.obj) 0 0
  have e0 : (w.alloc v.obj).heap.size = w.heap.size + 1 := by simp
  rw [e0] at hz0
  have hs0 := h.on hb0
  have HMC : Hid (mayC ss c = true → MayC ss c) := fun q => mayC_iff.1 q
  have HN : Hid (mayC ss c = false → _) := of_no (ss := ss) (c := c)
  have HY : Hid (mayC ss c = true → _) := of_yes (ss := ss) (c := c)
  rw [Cv.val_eq]
  have HVE := Lib.hid v.val_eq
  unfold Cv.obj at hb0 hx0 hz0 hs0
  have HX := Lib.hid hx0
  have HS := Lib.hid hs0
  have HZ := Lib.hid hz0
  have HB0 := Lib.hid hb0
  clear h hc hb0 hx0 hs0 hz0 e0
  go_enter Tryd.func24, Tryd.ntmps24
  go_wp2_with fail
  rw [← HVE.out]
  refine (mayC_any A n cp ss v c _ HS.out hn hnc HX.out.cl).mono ?_
  rintro e w1 ⟨rfl, hb1⟩
  have HB1 := Lib.hid (HB0.out.trans (hb1.mono HB0.out.size))
  replace HX := Lib.hid (HX.out.on hb1)
  replace HS := Lib.hid (HS.out.on hb1)
  replace HZ := Lib.hid (HZ.out.on hb1)
  clear hb1 HB0
  cases hm : mayC ss c
  · have HE := Lib.hid (HN.out hm)
    clear hm
    go_wp2_with (refine store_box rfl 56 (.tmp 4) (.tmp 14) rfl rfl (w.heap.size + 1) _ _ rfl rfl HZ.out.z rfl (by kernel_rfl) (pt_one _ _) ?_
                 intro w9 hg9 hc9 hs9
                 have HG9 := Lib.hid hg9
                 have HB9 := Lib.hid (HB1.out.trans (hc9.bel.mono (by omega)))
                 clear hg9 hc9 hs9 HB1 HZ)
    refine point_ret rfl (g := w.heap.size + 1) rfl rfl rfl HG9.out ?_
    rw [HE.out.1, HE.out.2.1, HE.out.2.2]
    exact ⟨rfl, HB9.out⟩
  have HM := Lib.hid (HMC.out hm)
  have HE := Lib.hid (HY.out hm)
  clear hm HN HY
  have h5 := HM.out.nl
  have HL := Lib.hid HX.out.cl.lits.len
  rw [HL.out] at h5
  go_upto_region 4 with (fail)
  have hbp := below_new w1 (.cells #[.int .i64 0, .int .i64 0] 56)
  have hg0 := PBox.new w1 0 0
  have hlt : w.heap.size + 1 < w1.heap.size := HZ.out.lt
  obtain ⟨g, hg⟩ : ∃ g, g = w1.heap.size := ⟨_, rfl⟩
  obtain ⟨w2, hw2⟩ : ∃ w2, w2 = w1.alloc (.cells #[.int .i64 0, .int .i64 0] 56) := ⟨_, rfl⟩
  rw [← hw2] at hbp hg0 ⊢
  rw [← hg] at hg0 hlt ⊢
  have HGS : Hid (g = w1.heap.size) := hg
  have HGL := Lib.hid hlt
  have HB2 := Lib.hid (HB1.out.trans (hbp.mono HB1.out.size))
  have HBP := Lib.hid hbp
  have HG := Lib.hid hg0
  clear hw2 hg hbp hg0 hlt
  have x0 := (HX.out.on HBP.out).c0
  have x1 := (HX.out.on HBP.out).c1
  have x2 := (HX.out.on HBP.out).c2
  have x0' : w2.cell? ⟨w.heap.size, 0, none⟩ = _ := x0
  clear x0'
  go_wp2_with fail
  go_loopw [18] (fun i wr => ∃ (k : Nat), i = .int .i64 k ∧ k ≤ v.n1 ∧ PBox wr g (topW ss false (c.lits.take k)) (topW ss true (c.lits.take k)) ∧ Below g w1 wr) (fun i _ => v.n1 - (intOf i).toNat)
  case atStart => exact ⟨0, rfl, by omega, HG.out, HGS.out ▸ HBP.out⟩
  case round =>
    obtain ⟨k, rfl, hk, hp, hbw⟩ := hrel
    have HP := Lib.hid hp
    have HBW := Lib.hid hbw
    clear hp hbw
    by_cases hlt : k < v.n1
    · have hkl : k < c.lits.length := by rw [HL.out]; exact hlt
      have hXw := HX.out.on (HGS.out ▸ HBW.out)
      obtain ⟨b, off, A3, c3, hA, hb, d0, d1, hr⟩ := (hXw.cl.lits).one hlt
      rw [hA]
      have HN0 := Lib.hid (topW_next (ss := ss) (g := false) hkl)
      have HN1 := Lib.hid (topW_next (ss := ss) (g := true) hkl)
      have HLB := Lib.hid (HM.out.lits _ (ltAt_mem hkl))
      obtain ⟨p, hp⟩ : ∃ p, p = ltAt c.lits k := ⟨_, rfl⟩
      rw [← hp] at d0 d1 hr HN0 HN1 HLB
      obtain ⟨y1, y2⟩ := pt_wt HLB.out
      have hx := atom_ex (show atomB ss p.atom = true from HLB.out)
      have HEX := Lib.hid (hx.2.codes hx.1)
      have h49 := (lit_pos HLB.out).2
      obtain ⟨X, hX⟩ : ∃ X, X = topW ss false (c.lits.take k) := ⟨_, rfl⟩
      obtain ⟨Y, hY⟩ : ∃ Y, Y = topW ss true (c.lits.take k) := ⟨_, rfl⟩
      obtain ⟨W, hW⟩ : ∃ W, W = wtSum ss p.atom := ⟨_, rfl⟩
      have HWW := Lib.hid hW
      rw [← hX] at HN0 HP
      rw [← hY] at HN1 HP
      rw [← hW] at y1 y2 HN0 HN1
      have hi0 : (0 : Int) ≤ (k : Int) := by omega
      have hi3 : (k : Int) < (v.n1 : Int) := by omega
      clear hp hA hkl hx hW hXw hX hY
      cases hng : p.neg
      · rw [hng] at d0 HN0 HN1
        clear hng
        have hbn := below_new wr (.cells #[.bool false, .slice A3 p.atom.length c3] 75)
        have HS2 := Lib.hid ((HS.out.on (HGS.out ▸ HBW.out)).on hbn)
        have HK2 := Lib.hid (hr.at_.on hbn)
        have HP2 := Lib.hid (HP.out.on hbn)
        have hgl := HP.out.lt
        have HB3 := Lib.hid (HBW.out.trans (hbn.mono (Nat.le_of_lt hgl)))
        have g0 := HP2.out.c0
        have g1 := HP2.out.c1
        have f0 := PBox.fr _ _ 0 _ _ HP2.out
        have f1 := PBox.fr _ _ 1 _ _ HP2.out
        clear hr hbn hgl
        by_cases q : X < W
        · go_wp2_with fail
          refine (weightO_any A A3 n cp _ c3 _ _ ss p.atom _ HS2.out HK2.out HM.out.may HEX.out h49).mono ?_
          rintro e w3 ⟨rfl, rfl⟩
          rw [← HWW.out]
          go_wp2
          go_roundw
          case rel => exact ⟨k + 1, by go_num, by omega, (HP2.out.set0 W).cast (by rw [HN0.out]; exact (mx_lt q).symm) (by rw [HN1.out]; rfl), HB3.out.setCell (Nat.le_refl _) _⟩
          case measure => simp [intOf]; omega
        · go_wp2_with fail
          refine (weightO_any A A3 n cp _ c3 _ _ ss p.atom _ HS2.out HK2.out HM.out.may HEX.out h49).mono ?_
          rintro e w3 ⟨rfl, rfl⟩
          rw [← HWW.out]
          go_wp2
          go_roundw
          case rel => exact ⟨k + 1, by go_num, by omega, (HP2.out.set0 X).cast (by rw [HN0.out]; exact (mx_ge q).symm) (by rw [HN1.out]; rfl), HB3.out.setCell (Nat.le_refl _) _⟩
          case measure => simp [intOf]; omega
      · rw [hng] at d0 HN0 HN1
        clear hng
        have hbn := below_new wr (.cells #[.bool true, .slice A3 p.atom.length c3] 75)
        have HS2 := Lib.hid ((HS.out.on (HGS.out ▸ HBW.out)).on hbn)
        have HK2 := Lib.hid (hr.at_.on hbn)
        have HP2 := Lib.hid (HP.out.on hbn)
        have hgl := HP.out.lt
        have HB3 := Lib.hid (HBW.out.trans (hbn.mono (Nat.le_of_lt hgl)))
        have g0 := HP2.out.c0
        have g1 := HP2.out.c1
        have f0 := PBox.fr _ _ 0 _ _ HP2.out
        have f1 := PBox.fr _ _ 1 _ _ HP2.out
        clear hr hbn hgl
        by_cases q : Y < W
        · go_wp2_with fail
          refine (weightO_any A A3 n cp _ c3 _ _ ss p.atom _ HS2.out HK2.out HM.out.may HEX.out h49).mono ?_
          rintro e w3 ⟨rfl, rfl⟩
          rw [← HWW.out]
          go_wp2
          go_roundw
          case rel => exact ⟨k + 1, by go_num, by omega, (HP2.out.set1 W).cast (by rw [HN0.out]; rfl) (by rw [HN1.out]; exact (mx_lt q).symm), HB3.out.setCell (Nat.le_refl _) _⟩
          case measure => simp [intOf]; omega
        · go_wp2_with fail
          refine (weightO_any A A3 n cp _ c3 _ _ ss p.atom _ HS2.out HK2.out HM.out.may HEX.out h49).mono ?_
          rintro e w3 ⟨rfl, rfl⟩
          rw [← HWW.out]
          go_wp2
          go_roundw
          case rel => exact ⟨k + 1, by go_num, by omega, (HP2.out.set1 Y).cast (by rw [HN0.out]; rfl) (by rw [HN1.out]; exact (mx_ge q).symm), HB3.out.setCell (Nat.le_refl _) _⟩
          case measure => simp [intOf]; omega
    · obtain rfl : k = v.n1 := by omega
      have et : c.lits.take v.n1 = c.lits := List.take_of_length_le (by rw [HL.out]; omega)
      rw [et, ← HE.out.1, ← HE.out.2.1] at HP
      have HZ2 := Lib.hid (HZ.out.on (HGS.out ▸ HBW.out))
      have HBF := Lib.hid (HB1.out.trans ((HGS.out ▸ HBW.out : Below w1.heap.size w1 wr).mono HB1.out.size))
      have p0 := HP.out.c0
      have p1 := HP.out.c1
      skip
      clear hlt et HP HZ HX HS HBW HB2 HBP HG
      go_wp2_with (refine store_box rfl 56 (.tmp 4) (.tmp 39) rfl rfl (w.heap.size + 1) _ _ rfl rfl HZ2.out.z rfl (by kernel_rfl) (pt_one _ _) ?_
                   intro w9 hg9 hc9 hs9
                   have HG9 := Lib.hid hg9
                   have HB9 := Lib.hid (HBF.out.trans (hc9.bel.mono (by omega)))
                   clear hg9 hc9 hs9 HBF HZ2)
      refine point_ret rfl (g := w.heap.size + 1) rfl rfl rfl HG9.out ?_
      rw [HE.out.2.2]
      exact ⟨rfl, HB9.out⟩
end Go.Proofs.YtcjpopjcpgipjaaDoor
