/-
  The walk of the law PointDenied.
-/
import Derived.Test.YtpplddongkhkbaaPointFacts
namespace Go.Proofs.Ytpplddongkhkbaa
open Go.RowKit Go.Deep
set_option linter.unusedSimpArgs false
set_option linter.unusedVariables false
set_option maxRecDepth 100000

def oneC (x : Bool) (t : List Int) : Cl := ⟨[⟨x, t⟩], [], []⟩
theorem oneC_may (ss : List Sym) (x y : Bool) (t : List Int) : mayC ss (oneC x t) = mayC ss (oneC y t) := rfl
theorem oneC_w {ss : List Sym} {x : Bool} {t : List Int} (h : mayC ss (oneC x t) = true) : 1 ≤ wtSum ss t ∧ wtSum ss t ≤ 980 := by
  have hm := mayC_iff.1 h
  have hl : litB ss ⟨x, t⟩ = true := hm.lits ⟨x, t⟩ (by unfold oneC; simp)
  have hx := atom_ex (show atomB ss t = true from hl)
  have h1 := wt_len (hx.2.wp hx.1)
  have h2 := (lit_pos hl).1
  have h3 := (pt_wt hl).2
  have h2' : 0 < t.length := h2
  have h3' : wtSum ss t ≤ 980 := h3
  omega
theorem one_no {ss : List Sym} {x : Bool} {t : List Int} (h : mayC ss (oneC x t) = false) : ofX ss (oneC x t) = 0 ∧ ofY ss (oneC x t) = 0 ∧ ofE ss (oneC x t) = 900 := of_no h
theorem one_neg {ss : List Sym} {t : List Int} (h : mayC ss (oneC true t) = true) : ofX ss (oneC true t) = 0 ∧ ofY ss (oneC true t) = wtSum ss t ∧ ofE ss (oneC true t) = 0 := by
  obtain ⟨e1, e2, e3⟩ := of_yes h
  have hw := oneC_w h
  refine ⟨e1.trans rfl, e2.trans ?_, e3⟩
  show mx 0 (wtSum ss t) = wtSum ss t
  exact mx_lt (by omega)
theorem one_pos {ss : List Sym} {t : List Int} (h : mayC ss (oneC false t) = true) : ofX ss (oneC false t) = wtSum ss t ∧ ofY ss (oneC false t) = 0 ∧ ofE ss (oneC false t) = 0 := by
  obtain ⟨e1, e2, e3⟩ := of_yes h
  have hw := oneC_w h
  refine ⟨e1.trans ?_, e2.trans rfl, e3⟩
  show mx 0 (wtSum ss t) = wtSum ss t
  exact mx_lt (by omega)
/-- Block b holds a literal. -/
structure LBx (w : World) (b : Nat) (A : Option Addr) (m c : Nat) (x : Bool) (t : List Int) : Prop where
  lt : b < w.heap.size
  c0 : w.cell? ⟨b, 0, none⟩ = some (.bool x)
  c1 : w.cell? ⟨b, 1, none⟩ = some (.slice A m c)
  lit : LitAt w w.heap.size A m c ⟨x, t⟩
section
variable {w w' : World} {b m c : Nat} {A : Option Addr} {x : Bool} {t : List Int}
theorem LBx.on (h : LBx w b A m c x t) (hb : Below w.heap.size w w') : LBx w' b A m c x t :=
  ⟨by have := h.lt; have := hb.size; omega, by rw [hb.cell (p := ⟨b, 0, none⟩) h.lt]; exact h.c0, by rw [hb.cell (p := ⟨b, 1, none⟩) h.lt]; exact h.c1, h.lit.on hb⟩
theorem LBx.new (h : LitAt w w.heap.size A m c ⟨x, t⟩) : LBx (w.alloc (.cells #[.bool x, .slice A m c] 58)) w.heap.size A m c x t :=
  ⟨by simp, by rw [World.cell?_alloc_new]; rfl, by rw [World.cell?_alloc_new]; rfl, h.new _⟩
/-- The clause of one literal, written out. -/
theorem one_clause (w : World) (y : Bool) (h : LitAt w w.heap.size A m c ⟨x, t⟩) :
    ClAt (w.alloc (.cells #[.bool y, .slice A m c] 58)) (w.alloc (.cells #[.bool y, .slice A m c] 58)).heap.size ⟨some ⟨w.heap.size, 0, none⟩, 1, 1, none, 0, 0, none, 0, 0⟩ (oneC y t) :=
  ⟨LitsAt.new1 w y t A m c h.at_ h.cap h.fit, TupsAt.nil_, LitsAt.nil_, Nat.le_refl _, Nat.le_refl _, Nat.le_refl _, fun _ => rfl, by show 1 * 32 ≤ 140737488351232; omega, by show 0 * 24 ≤ 140737488351232; omega, by show 0 * 32 ≤ 140737488351232; omega⟩
end
set_option maxHeartbeats 8000000 in
theorem pointDenied_walk (haw : ∀ u, Calls Try.prog 22 #[] u fun e w' => e = .returned (.bool true) ∧ Below u.heap.size u w') (A0 A1 : Option Addr) (n0 c0 m c1 : Nat) (ss : List Sym) (x : Bool) (t : List Int) (w : World) (hs : SymsAt w w.heap.size A0 n0 ss) (hn0 : n0 ≤ maxLen) (hnc : n0 ≤ c0) (hp : LitAt w w.heap.size A1 m c1 ⟨x, t⟩) :
    Calls Try.prog 8 #[.slice A0 n0 c0, .agg #[.bool x, .slice A1 m c1]] w fun e w' => e = .returned (.bool true) ∧ Below w.heap.size w w' := by
  have HAW := Lib.hid haw
  clear haw
  cases x
  · cases hm : mayC ss (oneC false t)
    · have hm2 : mayC ss (oneC true t) = false := (oneC_may ss true false t).trans hm
      have HN1 := Lib.hid (one_no hm)
      have HN2 := Lib.hid (one_no hm2)
      clear hm hm2
      have hb0 := below_new w (.cells #[.bool false, .slice A1 m c1] 58)
      have HS := Lib.hid (hs.on hb0)
      have HP := Lib.hid (LBx.new hp)
      have HB0 := Lib.hid hb0
      clear hs hp hb0
      go_enter Try.func8, Try.ntmps8
      go_wp2_with fail
      refine (HAW.out _).mono ?_
      rintro e w1 ⟨rfl, hb1⟩
      have HB1 := Lib.hid (HB0.out.trans (hb1.mono HB0.out.size))
      replace HP := Lib.hid (HP.out.on hb1)
      replace HS := Lib.hid (HS.out.on hb1)
      clear hb1 HB0
      have p0 := HP.out.c0
      have p1 := HP.out.c1
      go_upto_region 3 with (fail)
      have hcl := one_clause (y := false) w1 HP.out.lit
      have hb2 := below_new w1 (.cells #[.bool false, .slice A1 m c1] 58)
      have HCL := Lib.hid hcl
      have HS2 := Lib.hid (HS.out.on hb2)
      have HB2 := Lib.hid (HB1.out.trans (hb2.mono HB1.out.size))
      replace HP := Lib.hid (HP.out.on hb2)
      replace HS := Lib.hid (HS.out.on hb2)
      clear hb2 hcl
      go_wp2_with fail
      obtain ⟨w2, hw2⟩ : ∃ w2, w2 = w1.alloc (.cells #[.bool false, .slice A1 m c1] 58) := ⟨_, rfl⟩
      rw [← hw2] at HCL HS2 HB2 HP HS  ⊢
      clear hw2
      refine (PPost.eqs (of_any A0 n0 c0 ss _ (oneC false t) _ HS2.out hn0 hnc HCL.out) HN1.out.1 HN1.out.2.1 HN1.out.2.2).mono ?_
      rintro e w3 ⟨rfl, hb3⟩
      have HB3 := Lib.hid (HB2.out.trans (hb3.mono HB2.out.size))
      replace HP := Lib.hid (HP.out.on hb3)
      replace HS := Lib.hid (HS.out.on hb3)
      clear hb3 HS2 HCL p0 p1
      have hb4 := below_new w3 (.cells #[.int .i64 0, .int .i64 0] 23)
      have HA := Lib.hid (PBox.new w3 0 0)
      have HB4 := Lib.hid (HB3.out.trans (hb4.mono HB3.out.size))
      replace HP := Lib.hid (HP.out.on hb4)
      replace HS := Lib.hid (HS.out.on hb4)
      clear hb4
      have p0 := HP.out.c0
      have p1 := HP.out.c1
      go_upto_region 4 with (fail)
      obtain ⟨w4, hw4⟩ : ∃ w4, w4 = w3.alloc (.cells #[.int .i64 0, .int .i64 0] 23) := ⟨_, rfl⟩
      rw [← hw4] at HP HS HA HB4 p0 p1 ⊢
      clear hw4
      have hcl := one_clause (y := true) w4 HP.out.lit
      have hb5 := below_new w4 (.cells #[.bool true, .slice A1 m c1] 58)
      have HCL := Lib.hid hcl
      have HS5 := Lib.hid (HS.out.on hb5)
      have HB5 := Lib.hid (HB4.out.trans (hb5.mono HB4.out.size))
      replace HP := Lib.hid (HP.out.on hb5)
      replace HS := Lib.hid (HS.out.on hb5)
      replace HA := Lib.hid (HA.out.on hb5)
      clear hb5 hcl
      go_wp2_with fail
      obtain ⟨w5, hw5⟩ : ∃ w5, w5 = w4.alloc (.cells #[.bool true, .slice A1 m c1] 58) := ⟨_, rfl⟩
      rw [← hw5] at HCL HS5 HB5 HP HS HA ⊢
      clear hw5
      refine (PPost.eqs (of_any A0 n0 c0 ss _ (oneC true t) _ HS5.out hn0 hnc HCL.out) HN2.out.1 HN2.out.2.1 HN2.out.2.2).mono ?_
      rintro e w6 ⟨rfl, hb6⟩
      have HB6 := Lib.hid (HB5.out.trans (hb6.mono HB5.out.size))
      replace HP := Lib.hid (HP.out.on hb6)
      replace HS := Lib.hid (HS.out.on hb6)
      replace HA := Lib.hid (HA.out.on hb6)
      clear hb6 HS5 HCL p0 p1
      have hb7 := below_new w6 (.cells #[.int .i64 0, .int .i64 0] 23)
      have HD := Lib.hid (PBox.new w6 0 0)
      have HB7 := Lib.hid (HB6.out.trans (hb7.mono HB6.out.size))
      replace HP := Lib.hid (HP.out.on hb7)
      replace HS := Lib.hid (HS.out.on hb7)
      replace HA := Lib.hid (HA.out.on hb7)
      clear hb7
      have q0 := HA.out.c0
      have q1 := HA.out.c1
      have r0 := HD.out.c0
      have r1 := HD.out.c1
      go_wp2_with (go_at_call 21; refine (num_any _ _).mono ?_; rintro e w' ⟨rfl, rfl⟩)
      go_ret
      exact ⟨rfl, HB7.out⟩
    · have hm2 : mayC ss (oneC true t) = true := (oneC_may ss true false t).trans hm
      have HN1 := Lib.hid (one_pos hm)
      have HN2 := Lib.hid (one_neg hm2)
      obtain ⟨k1, k2⟩ := oneC_w hm
      obtain ⟨W, hW⟩ : ∃ W, W = wtSum ss t := ⟨_, rfl⟩
      rw [← hW] at k1 k2 HN1 HN2
      have kf := flip_ok (a := W) (b := 0) (ok_near (by omega) (by omega))
      have HF := Lib.hid kf
      have hw0 : ¬ W = 0 := by omega
      clear hm hm2 hW kf
      have hb0 := below_new w (.cells #[.bool false, .slice A1 m c1] 58)
      have HS := Lib.hid (hs.on hb0)
      have HP := Lib.hid (LBx.new hp)
      have HB0 := Lib.hid hb0
      clear hs hp hb0
      go_enter Try.func8, Try.ntmps8
      go_wp2_with fail
      refine (HAW.out _).mono ?_
      rintro e w1 ⟨rfl, hb1⟩
      have HB1 := Lib.hid (HB0.out.trans (hb1.mono HB0.out.size))
      replace HP := Lib.hid (HP.out.on hb1)
      replace HS := Lib.hid (HS.out.on hb1)
      clear hb1 HB0
      have p0 := HP.out.c0
      have p1 := HP.out.c1
      go_upto_region 3 with (fail)
      have hcl := one_clause (y := false) w1 HP.out.lit
      have hb2 := below_new w1 (.cells #[.bool false, .slice A1 m c1] 58)
      have HCL := Lib.hid hcl
      have HS2 := Lib.hid (HS.out.on hb2)
      have HB2 := Lib.hid (HB1.out.trans (hb2.mono HB1.out.size))
      replace HP := Lib.hid (HP.out.on hb2)
      replace HS := Lib.hid (HS.out.on hb2)
      clear hb2 hcl
      go_wp2_with fail
      obtain ⟨w2, hw2⟩ : ∃ w2, w2 = w1.alloc (.cells #[.bool false, .slice A1 m c1] 58) := ⟨_, rfl⟩
      rw [← hw2] at HCL HS2 HB2 HP HS  ⊢
      clear hw2
      refine (PPost.eqs (of_any A0 n0 c0 ss _ (oneC false t) _ HS2.out hn0 hnc HCL.out) HN1.out.1 HN1.out.2.1 HN1.out.2.2).mono ?_
      rintro e w3 ⟨rfl, hb3⟩
      have HB3 := Lib.hid (HB2.out.trans (hb3.mono HB2.out.size))
      replace HP := Lib.hid (HP.out.on hb3)
      replace HS := Lib.hid (HS.out.on hb3)
      clear hb3 HS2 HCL p0 p1
      have hb4 := below_new w3 (.cells #[.int .i64 W, .int .i64 0] 23)
      have HA := Lib.hid (PBox.new w3 W 0)
      have HB4 := Lib.hid (HB3.out.trans (hb4.mono HB3.out.size))
      replace HP := Lib.hid (HP.out.on hb4)
      replace HS := Lib.hid (HS.out.on hb4)
      clear hb4
      have p0 := HP.out.c0
      have p1 := HP.out.c1
      go_upto_region 4 with (fail)
      obtain ⟨w4, hw4⟩ : ∃ w4, w4 = w3.alloc (.cells #[.int .i64 W, .int .i64 0] 23) := ⟨_, rfl⟩
      rw [← hw4] at HP HS HA HB4 p0 p1 ⊢
      clear hw4
      have hcl := one_clause (y := true) w4 HP.out.lit
      have hb5 := below_new w4 (.cells #[.bool true, .slice A1 m c1] 58)
      have HCL := Lib.hid hcl
      have HS5 := Lib.hid (HS.out.on hb5)
      have HB5 := Lib.hid (HB4.out.trans (hb5.mono HB4.out.size))
      replace HP := Lib.hid (HP.out.on hb5)
      replace HS := Lib.hid (HS.out.on hb5)
      replace HA := Lib.hid (HA.out.on hb5)
      clear hb5 hcl
      go_wp2_with fail
      obtain ⟨w5, hw5⟩ : ∃ w5, w5 = w4.alloc (.cells #[.bool true, .slice A1 m c1] 58) := ⟨_, rfl⟩
      rw [← hw5] at HCL HS5 HB5 HP HS HA ⊢
      clear hw5
      refine (PPost.eqs (of_any A0 n0 c0 ss _ (oneC true t) _ HS5.out hn0 hnc HCL.out) HN2.out.1 HN2.out.2.1 HN2.out.2.2).mono ?_
      rintro e w6 ⟨rfl, hb6⟩
      have HB6 := Lib.hid (HB5.out.trans (hb6.mono HB5.out.size))
      replace HP := Lib.hid (HP.out.on hb6)
      replace HS := Lib.hid (HS.out.on hb6)
      replace HA := Lib.hid (HA.out.on hb6)
      clear hb6 HS5 HCL p0 p1
      have hb7 := below_new w6 (.cells #[.int .i64 0, .int .i64 W] 23)
      have HD := Lib.hid (PBox.new w6 0 W)
      have HB7 := Lib.hid (HB6.out.trans (hb7.mono HB6.out.size))
      replace HP := Lib.hid (HP.out.on hb7)
      replace HS := Lib.hid (HS.out.on hb7)
      replace HA := Lib.hid (HA.out.on hb7)
      clear hb7
      have q0 := HA.out.c0
      have q1 := HA.out.c1
      go_wp2_with (go_at_call 21; refine (num_any _ _).mono ?_; rintro e w' ⟨rfl, rfl⟩)
      refine (HF.out _).mono ?_
      rintro e w8 ⟨rfl, hb8⟩
      have HB8 := Lib.hid (HB7.out.trans (hb8.mono HB7.out.size))
      replace HP := Lib.hid (HP.out.on hb8)
      replace HS := Lib.hid (HS.out.on hb8)
      replace HA := Lib.hid (HA.out.on hb8)
      replace HD := Lib.hid (HD.out.on hb8)
      clear hb8 q0 q1
      have hb9 := below_new w8 (.cells #[.int .i64 0, .int .i64 W] 23)
      have HG := Lib.hid (PBox.new w8 0 W)
      have HB9 := Lib.hid (HB8.out.trans (hb9.mono HB8.out.size))
      replace HP := Lib.hid (HP.out.on hb9)
      replace HS := Lib.hid (HS.out.on hb9)
      replace HA := Lib.hid (HA.out.on hb9)
      replace HD := Lib.hid (HD.out.on hb9)
      clear hb9
      have q0 := HA.out.c0
      have q1 := HA.out.c1
      have r0 := HD.out.c0
      have r1 := HD.out.c1
      have s0 := HG.out.c0
      have s1 := HG.out.c1
      have p0 := HP.out.c0
      have p1 := HP.out.c1
      go_wp2_with (go_at_call 21; refine (num_any _ _).mono ?_; rintro e w' ⟨rfl, rfl⟩)
      go_ret
      exact ⟨ret_bool (by simp [hw0]), HB9.out⟩
  · cases hm : mayC ss (oneC true t)
    · have hm2 : mayC ss (oneC false t) = false := (oneC_may ss false true t).trans hm
      have HN1 := Lib.hid (one_no hm)
      have HN2 := Lib.hid (one_no hm2)
      clear hm hm2
      have hb0 := below_new w (.cells #[.bool true, .slice A1 m c1] 58)
      have HS := Lib.hid (hs.on hb0)
      have HP := Lib.hid (LBx.new hp)
      have HB0 := Lib.hid hb0
      clear hs hp hb0
      go_enter Try.func8, Try.ntmps8
      go_wp2_with fail
      refine (HAW.out _).mono ?_
      rintro e w1 ⟨rfl, hb1⟩
      have HB1 := Lib.hid (HB0.out.trans (hb1.mono HB0.out.size))
      replace HP := Lib.hid (HP.out.on hb1)
      replace HS := Lib.hid (HS.out.on hb1)
      clear hb1 HB0
      have p0 := HP.out.c0
      have p1 := HP.out.c1
      go_upto_region 3 with (fail)
      have hcl := one_clause (y := true) w1 HP.out.lit
      have hb2 := below_new w1 (.cells #[.bool true, .slice A1 m c1] 58)
      have HCL := Lib.hid hcl
      have HS2 := Lib.hid (HS.out.on hb2)
      have HB2 := Lib.hid (HB1.out.trans (hb2.mono HB1.out.size))
      replace HP := Lib.hid (HP.out.on hb2)
      replace HS := Lib.hid (HS.out.on hb2)
      clear hb2 hcl
      go_wp2_with fail
      obtain ⟨w2, hw2⟩ : ∃ w2, w2 = w1.alloc (.cells #[.bool true, .slice A1 m c1] 58) := ⟨_, rfl⟩
      rw [← hw2] at HCL HS2 HB2 HP HS  ⊢
      clear hw2
      refine (PPost.eqs (of_any A0 n0 c0 ss _ (oneC true t) _ HS2.out hn0 hnc HCL.out) HN1.out.1 HN1.out.2.1 HN1.out.2.2).mono ?_
      rintro e w3 ⟨rfl, hb3⟩
      have HB3 := Lib.hid (HB2.out.trans (hb3.mono HB2.out.size))
      replace HP := Lib.hid (HP.out.on hb3)
      replace HS := Lib.hid (HS.out.on hb3)
      clear hb3 HS2 HCL p0 p1
      have hb4 := below_new w3 (.cells #[.int .i64 0, .int .i64 0] 23)
      have HA := Lib.hid (PBox.new w3 0 0)
      have HB4 := Lib.hid (HB3.out.trans (hb4.mono HB3.out.size))
      replace HP := Lib.hid (HP.out.on hb4)
      replace HS := Lib.hid (HS.out.on hb4)
      clear hb4
      have p0 := HP.out.c0
      have p1 := HP.out.c1
      go_upto_region 4 with (fail)
      obtain ⟨w4, hw4⟩ : ∃ w4, w4 = w3.alloc (.cells #[.int .i64 0, .int .i64 0] 23) := ⟨_, rfl⟩
      rw [← hw4] at HP HS HA HB4 p0 p1 ⊢
      clear hw4
      have hcl := one_clause (y := false) w4 HP.out.lit
      have hb5 := below_new w4 (.cells #[.bool false, .slice A1 m c1] 58)
      have HCL := Lib.hid hcl
      have HS5 := Lib.hid (HS.out.on hb5)
      have HB5 := Lib.hid (HB4.out.trans (hb5.mono HB4.out.size))
      replace HP := Lib.hid (HP.out.on hb5)
      replace HS := Lib.hid (HS.out.on hb5)
      replace HA := Lib.hid (HA.out.on hb5)
      clear hb5 hcl
      go_wp2_with fail
      obtain ⟨w5, hw5⟩ : ∃ w5, w5 = w4.alloc (.cells #[.bool false, .slice A1 m c1] 58) := ⟨_, rfl⟩
      rw [← hw5] at HCL HS5 HB5 HP HS HA ⊢
      clear hw5
      refine (PPost.eqs (of_any A0 n0 c0 ss _ (oneC false t) _ HS5.out hn0 hnc HCL.out) HN2.out.1 HN2.out.2.1 HN2.out.2.2).mono ?_
      rintro e w6 ⟨rfl, hb6⟩
      have HB6 := Lib.hid (HB5.out.trans (hb6.mono HB5.out.size))
      replace HP := Lib.hid (HP.out.on hb6)
      replace HS := Lib.hid (HS.out.on hb6)
      replace HA := Lib.hid (HA.out.on hb6)
      clear hb6 HS5 HCL p0 p1
      have hb7 := below_new w6 (.cells #[.int .i64 0, .int .i64 0] 23)
      have HD := Lib.hid (PBox.new w6 0 0)
      have HB7 := Lib.hid (HB6.out.trans (hb7.mono HB6.out.size))
      replace HP := Lib.hid (HP.out.on hb7)
      replace HS := Lib.hid (HS.out.on hb7)
      replace HA := Lib.hid (HA.out.on hb7)
      clear hb7
      have q0 := HA.out.c0
      have q1 := HA.out.c1
      have r0 := HD.out.c0
      have r1 := HD.out.c1
      go_wp2_with (go_at_call 21; refine (num_any _ _).mono ?_; rintro e w' ⟨rfl, rfl⟩)
      go_ret
      exact ⟨rfl, HB7.out⟩
    · have hm2 : mayC ss (oneC false t) = true := (oneC_may ss false true t).trans hm
      have HN1 := Lib.hid (one_neg hm)
      have HN2 := Lib.hid (one_pos hm2)
      obtain ⟨k1, k2⟩ := oneC_w hm
      obtain ⟨W, hW⟩ : ∃ W, W = wtSum ss t := ⟨_, rfl⟩
      rw [← hW] at k1 k2 HN1 HN2
      have kf := flip_ok (a := 0) (b := W) (ok_near (by omega) (by omega))
      have HF := Lib.hid kf
      have hw0 : ¬ W = 0 := by omega
      clear hm hm2 hW kf
      have hb0 := below_new w (.cells #[.bool true, .slice A1 m c1] 58)
      have HS := Lib.hid (hs.on hb0)
      have HP := Lib.hid (LBx.new hp)
      have HB0 := Lib.hid hb0
      clear hs hp hb0
      go_enter Try.func8, Try.ntmps8
      go_wp2_with fail
      refine (HAW.out _).mono ?_
      rintro e w1 ⟨rfl, hb1⟩
      have HB1 := Lib.hid (HB0.out.trans (hb1.mono HB0.out.size))
      replace HP := Lib.hid (HP.out.on hb1)
      replace HS := Lib.hid (HS.out.on hb1)
      clear hb1 HB0
      have p0 := HP.out.c0
      have p1 := HP.out.c1
      go_upto_region 3 with (fail)
      have hcl := one_clause (y := true) w1 HP.out.lit
      have hb2 := below_new w1 (.cells #[.bool true, .slice A1 m c1] 58)
      have HCL := Lib.hid hcl
      have HS2 := Lib.hid (HS.out.on hb2)
      have HB2 := Lib.hid (HB1.out.trans (hb2.mono HB1.out.size))
      replace HP := Lib.hid (HP.out.on hb2)
      replace HS := Lib.hid (HS.out.on hb2)
      clear hb2 hcl
      go_wp2_with fail
      obtain ⟨w2, hw2⟩ : ∃ w2, w2 = w1.alloc (.cells #[.bool true, .slice A1 m c1] 58) := ⟨_, rfl⟩
      rw [← hw2] at HCL HS2 HB2 HP HS  ⊢
      clear hw2
      refine (PPost.eqs (of_any A0 n0 c0 ss _ (oneC true t) _ HS2.out hn0 hnc HCL.out) HN1.out.1 HN1.out.2.1 HN1.out.2.2).mono ?_
      rintro e w3 ⟨rfl, hb3⟩
      have HB3 := Lib.hid (HB2.out.trans (hb3.mono HB2.out.size))
      replace HP := Lib.hid (HP.out.on hb3)
      replace HS := Lib.hid (HS.out.on hb3)
      clear hb3 HS2 HCL p0 p1
      have hb4 := below_new w3 (.cells #[.int .i64 0, .int .i64 W] 23)
      have HA := Lib.hid (PBox.new w3 0 W)
      have HB4 := Lib.hid (HB3.out.trans (hb4.mono HB3.out.size))
      replace HP := Lib.hid (HP.out.on hb4)
      replace HS := Lib.hid (HS.out.on hb4)
      clear hb4
      have p0 := HP.out.c0
      have p1 := HP.out.c1
      go_upto_region 4 with (fail)
      obtain ⟨w4, hw4⟩ : ∃ w4, w4 = w3.alloc (.cells #[.int .i64 0, .int .i64 W] 23) := ⟨_, rfl⟩
      rw [← hw4] at HP HS HA HB4 p0 p1 ⊢
      clear hw4
      have hcl := one_clause (y := false) w4 HP.out.lit
      have hb5 := below_new w4 (.cells #[.bool false, .slice A1 m c1] 58)
      have HCL := Lib.hid hcl
      have HS5 := Lib.hid (HS.out.on hb5)
      have HB5 := Lib.hid (HB4.out.trans (hb5.mono HB4.out.size))
      replace HP := Lib.hid (HP.out.on hb5)
      replace HS := Lib.hid (HS.out.on hb5)
      replace HA := Lib.hid (HA.out.on hb5)
      clear hb5 hcl
      go_wp2_with fail
      obtain ⟨w5, hw5⟩ : ∃ w5, w5 = w4.alloc (.cells #[.bool false, .slice A1 m c1] 58) := ⟨_, rfl⟩
      rw [← hw5] at HCL HS5 HB5 HP HS HA ⊢
      clear hw5
      refine (PPost.eqs (of_any A0 n0 c0 ss _ (oneC false t) _ HS5.out hn0 hnc HCL.out) HN2.out.1 HN2.out.2.1 HN2.out.2.2).mono ?_
      rintro e w6 ⟨rfl, hb6⟩
      have HB6 := Lib.hid (HB5.out.trans (hb6.mono HB5.out.size))
      replace HP := Lib.hid (HP.out.on hb6)
      replace HS := Lib.hid (HS.out.on hb6)
      replace HA := Lib.hid (HA.out.on hb6)
      clear hb6 HS5 HCL p0 p1
      have hb7 := below_new w6 (.cells #[.int .i64 W, .int .i64 0] 23)
      have HD := Lib.hid (PBox.new w6 W 0)
      have HB7 := Lib.hid (HB6.out.trans (hb7.mono HB6.out.size))
      replace HP := Lib.hid (HP.out.on hb7)
      replace HS := Lib.hid (HS.out.on hb7)
      replace HA := Lib.hid (HA.out.on hb7)
      clear hb7
      have q0 := HA.out.c0
      have q1 := HA.out.c1
      go_wp2_with (go_at_call 21; refine (num_any _ _).mono ?_; rintro e w' ⟨rfl, rfl⟩)
      refine (HF.out _).mono ?_
      rintro e w8 ⟨rfl, hb8⟩
      have HB8 := Lib.hid (HB7.out.trans (hb8.mono HB7.out.size))
      replace HP := Lib.hid (HP.out.on hb8)
      replace HS := Lib.hid (HS.out.on hb8)
      replace HA := Lib.hid (HA.out.on hb8)
      replace HD := Lib.hid (HD.out.on hb8)
      clear hb8 q0 q1
      have hb9 := below_new w8 (.cells #[.int .i64 W, .int .i64 0] 23)
      have HG := Lib.hid (PBox.new w8 W 0)
      have HB9 := Lib.hid (HB8.out.trans (hb9.mono HB8.out.size))
      replace HP := Lib.hid (HP.out.on hb9)
      replace HS := Lib.hid (HS.out.on hb9)
      replace HA := Lib.hid (HA.out.on hb9)
      replace HD := Lib.hid (HD.out.on hb9)
      clear hb9
      have q0 := HA.out.c0
      have q1 := HA.out.c1
      have r0 := HD.out.c0
      have r1 := HD.out.c1
      have s0 := HG.out.c0
      have s1 := HG.out.c1
      have p0 := HP.out.c0
      have p1 := HP.out.c1
      go_wp2_with (go_at_call 21; refine (num_any _ _).mono ?_; rintro e w' ⟨rfl, rfl⟩)
      go_ret
      exact ⟨ret_bool (by simp [hw0]), HB9.out⟩
end Go.Proofs.Ytpplddongkhkbaa
