/-
  Contract of quaerelaw9: awake.
-/
import Derived.Test.YtpplddongkhkbaaPointOps
import Derived.Test.YtpplddongkhkbaaPointMore
import Derived.Test.YtpplddongkhkbaaPointOfC
import Derived.Test.YtpplddongkhkbaaHelpClause
namespace Go.Proofs.Ytpplddongkhkbaa
open Go.RowKit Go.Deep
set_option linter.unusedSimpArgs false
set_option linter.unusedVariables false
set_option maxRecDepth 100000

theorem PPost.eqs {f : FuncId} {args : Array Value} {w : World} {x y E x' y' E' : Int} (h : Calls Try.prog f args w (PPost x y E w)) (e1 : x = x') (e2 : y = y') (e3 : E = E') : Calls Try.prog f args w (PPost x' y' E' w) := by
  subst e1 e2 e3; exact h
theorem UPost.eqs {f : FuncId} {args : Array Value} {w : World} {r r' : Bool} {E E' : Int} (h : Calls Try.prog f args w (UPost r E w)) (e1 : r = r') (e3 : E = E') : Calls Try.prog f args w (UPost r' E' w) := by
  subst e1 e3; exact h
theorem SPost.eqs {f : FuncId} {args : Array Value} {w : World} {x E x' E' : Int} (h : Calls Try.prog f args w (SPost x E w)) (e1 : x = x') (e3 : E = E') : Calls Try.prog f args w (SPost x' E' w) := by
  subst e1 e3; exact h
theorem lenP7 : (7 : Nat) ≤ maxLen := by unfold maxLen; omega
def awPC : Cl := ⟨[⟨false, [5, 1]⟩, ⟨true, [6, 1, 2]⟩], [], []⟩
/-- The clause of the awake, written out. -/
theorem aw_clause (w : World) {A : Option Addr} (h : SymsAt w w.heap.size A 7 wordsL) : ∃ w3, w3 = ((w.alloc (.cells #[.int .i64 5, .int .i64 1] 3)).alloc (.cells #[.int .i64 6, .int .i64 1, .int .i64 2] 3)).alloc
      (.cells #[.bool false, .slice (some ⟨w.heap.size, 0, none⟩) 2 2, .bool true, .slice (some ⟨w.heap.size + 1, 0, none⟩) 3 3] 58) ∧
    SymsAt w3 w3.heap.size A 7 wordsL ∧ ClAt w3 w3.heap.size ⟨some ⟨w.heap.size + 1 + 1, 0, none⟩, 2, 2, none, 0, 0, none, 0, 0⟩ awPC ∧ Below w.heap.size w w3 := by
  obtain ⟨u, hu⟩ : ∃ u, u = w.alloc (.cells #[.int .i64 5, .int .i64 1] 3) := ⟨_, rfl⟩
  obtain ⟨v, hv⟩ : ∃ v, v = u.alloc (.cells #[.int .i64 6, .int .i64 1, .int .i64 2] 3) := ⟨_, rfl⟩
  have s1 : u.heap.size = w.heap.size + 1 := by rw [hu]; simp
  have s2 : v.heap.size = w.heap.size + 1 + 1 := by rw [hv]; simp; omega
  have i1 : IntsAt u u.heap.size (some ⟨w.heap.size, 0, none⟩) 2 [5, 1] := by rw [hu]; exact IntsAt.news w [5, 1]
  have i2 : IntsAt v v.heap.size (some ⟨u.heap.size, 0, none⟩) 3 [6, 1, 2] := by rw [hv]; exact IntsAt.news u [6, 1, 2]
  have b1 := below_new w (.cells #[.int .i64 5, .int .i64 1] 3)
  have b2 := below_new u (.cells #[.int .i64 6, .int .i64 1, .int .i64 2] 3)
  rw [← hu] at b1
  rw [← hv] at b2
  have b3 := below_new v (.cells #[.bool false, .slice (some ⟨w.heap.size, 0, none⟩) 2 2, .bool true, .slice (some ⟨w.heap.size + 1, 0, none⟩) 3 3] 58)
  have hl := LitsAt.new2 v false true [5, 1] [6, 1, 2] (some ⟨w.heap.size, 0, none⟩) (some ⟨w.heap.size + 1, 0, none⟩) 2 3 2 3 (i1.on b2) (s1 ▸ i2) (Nat.le_refl _) (Nat.le_refl _) (by omega) (by omega)
  rw [s2] at hl
  rw [← hu, ← hv]
  refine ⟨_, rfl, ((h.on b1).on b2).on b3, ⟨hl, TupsAt.nil_, LitsAt.nil_, Nat.le_refl _, Nat.le_refl _, Nat.le_refl _, fun _ => rfl, by show 2 * 32 ≤ 140737488351232; omega, by show 0 * 24 ≤ 140737488351232; omega, by show 0 * 32 ≤ 140737488351232; omega⟩, (b1.trans (b2.mono (by omega))).trans (b3.mono (by omega))⟩
set_option maxHeartbeats 8000000 in
theorem awakeP_any (w : World) : Calls Try.prog 22 #[] w fun e w' => e = .returned (.bool true) ∧ Below w.heap.size w w' := by
  go_enter Try.func22, Try.ntmps22
  obtain ⟨w1, hw1, hb1, hp1, hq1⟩ := two_pts w 1 2 3 (-1)
  have HB1 := Lib.hid hb1
  have HP := Lib.hid hp1
  have HQ := Lib.hid hq1
  clear hb1 hp1 hq1
  go_upto_region 2 with (fail)
  rw [← hw1]
  clear hw1
  have cHP0 := HP.out.c0
  have cHQ0 := HQ.out.c0
  have cHP1 := HP.out.c1
  have cHQ1 := HQ.out.c1
  go_wp2_with fail
  refine (PPost.eqs (x' := 4) (y' := 1) (E' := 0) (add_any 1 2 3 (-1) _) (by kernel_rfl) (by kernel_rfl) (by kernel_rfl)).mono ?_
  rintro e w2 ⟨rfl, hb2⟩
  have HB2 := Lib.hid (HB1.out.trans (hb2.mono HB1.out.size))
  replace HP := Lib.hid (HP.out.on hb2)
  replace HQ := Lib.hid (HQ.out.on hb2)
  clear hb2
  clear cHP0 cHP1 cHQ0 cHQ1
  have hb3 := below_new w2 (.cells #[.int .i64 4, .int .i64 1] 23)
  have HA := Lib.hid (PBox.new w2 4 1)
  have HB3 := Lib.hid (HB2.out.trans (hb3.mono HB2.out.size))
  replace HP := Lib.hid (HP.out.on hb3)
  replace HQ := Lib.hid (HQ.out.on hb3)
  clear hb3
  have cHP0 := HP.out.c0
  have cHQ0 := HQ.out.c0
  have cHP1 := HP.out.c1
  have cHQ1 := HQ.out.c1
  go_wp2_with fail
  refine (PPost.eqs (x' := 5) (y' := 5) (E' := 0) (mul_any 1 2 3 (-1) _) (by kernel_rfl) (by kernel_rfl) (by kernel_rfl)).mono ?_
  rintro e w4 ⟨rfl, hb4⟩
  have HB4 := Lib.hid (HB3.out.trans (hb4.mono HB3.out.size))
  replace HP := Lib.hid (HP.out.on hb4)
  replace HQ := Lib.hid (HQ.out.on hb4)
  replace HA := Lib.hid (HA.out.on hb4)
  clear hb4
  clear cHP0 cHP1 cHQ0 cHQ1
  have hb5 := below_new w4 (.cells #[.int .i64 5, .int .i64 5] 23)
  have HC := Lib.hid (PBox.new w4 5 5)
  have HB5 := Lib.hid (HB4.out.trans (hb5.mono HB4.out.size))
  replace HP := Lib.hid (HP.out.on hb5)
  replace HQ := Lib.hid (HQ.out.on hb5)
  replace HA := Lib.hid (HA.out.on hb5)
  clear hb5
  have cHP0 := HP.out.c0
  have cHP1 := HP.out.c1
  go_wp2_with fail
  refine (PPost.eqs (x' := 2) (y' := 1) (E' := 0) (flip_any 1 2 _) (by kernel_rfl) (by kernel_rfl) (by kernel_rfl)).mono ?_
  rintro e w6 ⟨rfl, hb6⟩
  have HB6 := Lib.hid (HB5.out.trans (hb6.mono HB5.out.size))
  replace HP := Lib.hid (HP.out.on hb6)
  replace HQ := Lib.hid (HQ.out.on hb6)
  replace HA := Lib.hid (HA.out.on hb6)
  replace HC := Lib.hid (HC.out.on hb6)
  clear hb6
  clear cHP0 cHP1
  have hb7 := below_new w6 (.cells #[.int .i64 2, .int .i64 1] 23)
  have HD := Lib.hid (PBox.new w6 2 1)
  have HB7 := Lib.hid (HB6.out.trans (hb7.mono HB6.out.size))
  replace HP := Lib.hid (HP.out.on hb7)
  replace HQ := Lib.hid (HQ.out.on hb7)
  replace HA := Lib.hid (HA.out.on hb7)
  replace HC := Lib.hid (HC.out.on hb7)
  clear hb7
  have cHP0 := HP.out.c0
  have cHQ0 := HQ.out.c0
  have cHP1 := HP.out.c1
  have cHQ1 := HQ.out.c1
  go_wp2_with fail
  refine (UPost.eqs (r' := false) (E' := 0) (under_any 1 2 3 (-1) _) (by kernel_rfl) (by kernel_rfl)).mono ?_
  rintro e w8 ⟨rfl, hb8⟩
  have HB8 := Lib.hid (HB7.out.trans (hb8.mono HB7.out.size))
  replace HP := Lib.hid (HP.out.on hb8)
  replace HQ := Lib.hid (HQ.out.on hb8)
  replace HA := Lib.hid (HA.out.on hb8)
  replace HC := Lib.hid (HC.out.on hb8)
  replace HD := Lib.hid (HD.out.on hb8)
  clear hb8
  clear cHP0 cHP1 cHQ0 cHQ1
  have cHP0 := HP.out.c0
  have cHQ0 := HQ.out.c0
  have cHP1 := HP.out.c1
  have cHQ1 := HQ.out.c1
  go_wp2_with fail
  refine (SPost.eqs (x' := 1) (E' := 0) (score_any 1 2 3 (-1) _) (by kernel_rfl) (by kernel_rfl)).mono ?_
  rintro e w9 ⟨rfl, hb9⟩
  have HB9 := Lib.hid (HB8.out.trans (hb9.mono HB8.out.size))
  replace HP := Lib.hid (HP.out.on hb9)
  replace HQ := Lib.hid (HQ.out.on hb9)
  replace HA := Lib.hid (HA.out.on hb9)
  replace HC := Lib.hid (HC.out.on hb9)
  replace HD := Lib.hid (HD.out.on hb9)
  clear hb9
  clear cHP0 cHP1 cHQ0 cHQ1
  go_wp2_with fail
  refine (words_any _).mono ?_
  rintro e w10 ⟨A9, rfl, hs9, hb10⟩
  have HB10 := Lib.hid (HB9.out.trans (hb10.mono HB9.out.size))
  replace HP := Lib.hid (HP.out.on hb10)
  replace HQ := Lib.hid (HQ.out.on hb10)
  replace HA := Lib.hid (HA.out.on hb10)
  replace HC := Lib.hid (HC.out.on hb10)
  replace HD := Lib.hid (HD.out.on hb10)
  clear hb10
  have HS := Lib.hid hs9
  clear hs9
  obtain ⟨w11, hw11, hs11, hc11, hb11⟩ := aw_clause w10 HS.out
  have HB11 := Lib.hid (HB10.out.trans (hb11.mono HB10.out.size))
  replace HP := Lib.hid (HP.out.on hb11)
  replace HQ := Lib.hid (HQ.out.on hb11)
  replace HA := Lib.hid (HA.out.on hb11)
  replace HC := Lib.hid (HC.out.on hb11)
  replace HD := Lib.hid (HD.out.on hb11)
  have HS2 := Lib.hid hs11
  have HCL := Lib.hid hc11
  clear hb11 hs11 hc11 HS
  go_wp2_with fail
  rw [← hw11]
  clear hw11
  refine (PPost.eqs (x' := 2) (y' := 5) (E' := 0) (of_any A9 7 7 wordsL _ awPC _ HS2.out lenP7 (Nat.le_refl _) HCL.out) (by kernel_rfl) (by kernel_rfl) (by kernel_rfl)).mono ?_
  rintro e w12 ⟨rfl, hb12⟩
  have HB12 := Lib.hid (HB11.out.trans (hb12.mono HB11.out.size))
  replace HP := Lib.hid (HP.out.on hb12)
  replace HQ := Lib.hid (HQ.out.on hb12)
  replace HA := Lib.hid (HA.out.on hb12)
  replace HC := Lib.hid (HC.out.on hb12)
  replace HD := Lib.hid (HD.out.on hb12)
  clear hb12
  clear HS2 HCL
  have hb13 := below_new w12 (.cells #[.int .i64 2, .int .i64 5] 23)
  have HO := Lib.hid (PBox.new w12 2 5)
  have HB13 := Lib.hid (HB12.out.trans (hb13.mono HB12.out.size))
  replace HP := Lib.hid (HP.out.on hb13)
  replace HQ := Lib.hid (HQ.out.on hb13)
  replace HA := Lib.hid (HA.out.on hb13)
  replace HC := Lib.hid (HC.out.on hb13)
  replace HD := Lib.hid (HD.out.on hb13)
  clear hb13
  have cHP0 := HP.out.c0
  have cHP1 := HP.out.c1
  go_wp2_with fail
  refine (PPost.eqs (x' := 0) (y' := 0) (E' := 901) (add_any 1000000 0 1 2 _) (by kernel_rfl) (by kernel_rfl) (by kernel_rfl)).mono ?_
  rintro e w14 ⟨rfl, hb14⟩
  have HB14 := Lib.hid (HB13.out.trans (hb14.mono HB13.out.size))
  replace HP := Lib.hid (HP.out.on hb14)
  replace HQ := Lib.hid (HQ.out.on hb14)
  replace HA := Lib.hid (HA.out.on hb14)
  replace HC := Lib.hid (HC.out.on hb14)
  replace HD := Lib.hid (HD.out.on hb14)
  replace HO := Lib.hid (HO.out.on hb14)
  clear hb14
  clear cHP0 cHP1
  have hb15 := below_new w14 (.cells #[.int .i64 0, .int .i64 0] 23)
  have HB15 := Lib.hid (HB14.out.trans (hb15.mono HB14.out.size))
  replace HP := Lib.hid (HP.out.on hb15)
  replace HQ := Lib.hid (HQ.out.on hb15)
  replace HA := Lib.hid (HA.out.on hb15)
  replace HC := Lib.hid (HC.out.on hb15)
  replace HD := Lib.hid (HD.out.on hb15)
  replace HO := Lib.hid (HO.out.on hb15)
  clear hb15
  go_wp2_with fail
  refine (PPost.eqs (x' := 0) (y' := 0) (E' := 900) (flip_any 0 1000001 _) (by kernel_rfl) (by kernel_rfl) (by kernel_rfl)).mono ?_
  rintro e w16 ⟨rfl, hb16⟩
  have HB16 := Lib.hid (HB15.out.trans (hb16.mono HB15.out.size))
  replace HP := Lib.hid (HP.out.on hb16)
  replace HQ := Lib.hid (HQ.out.on hb16)
  replace HA := Lib.hid (HA.out.on hb16)
  replace HC := Lib.hid (HC.out.on hb16)
  replace HD := Lib.hid (HD.out.on hb16)
  replace HO := Lib.hid (HO.out.on hb16)
  clear hb16
  have hb17 := below_new w16 (.cells #[.int .i64 0, .int .i64 0] 23)
  have HB17 := Lib.hid (HB16.out.trans (hb17.mono HB16.out.size))
  replace HP := Lib.hid (HP.out.on hb17)
  replace HQ := Lib.hid (HQ.out.on hb17)
  replace HA := Lib.hid (HA.out.on hb17)
  replace HC := Lib.hid (HC.out.on hb17)
  replace HD := Lib.hid (HD.out.on hb17)
  replace HO := Lib.hid (HO.out.on hb17)
  clear hb17
  have cHP0 := HP.out.c0
  have cHA0 := HA.out.c0
  have cHC0 := HC.out.c0
  have cHD0 := HD.out.c0
  have cHO0 := HO.out.c0
  have cHP1 := HP.out.c1
  have cHA1 := HA.out.c1
  have cHC1 := HC.out.c1
  have cHD1 := HD.out.c1
  have cHO1 := HO.out.c1
  go_wp2_with (first | (go_at_call 21; refine (num_any _ _).mono ?_; rintro e w' ⟨rfl, rfl⟩))
  refine (pMay_is 1 2 true _ (by kernel_rfl)).mono ?_
  rintro e w18 ⟨rfl, hb18⟩
  have HB18 := Lib.hid (HB17.out.trans (hb18.mono HB17.out.size))
  clear hb18
  go_wp2
  go_ret
  exact ⟨rfl, HB18.out⟩
end Go.Proofs.Ytpplddongkhkbaa
