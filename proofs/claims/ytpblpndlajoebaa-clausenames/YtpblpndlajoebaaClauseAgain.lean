/-
  The walk of the law ClauseAgain.
-/
import Derived.Test.YtpblpndlajoebaaClauseTriv
import Derived.Test.YtpblpndlajoebaaClauseVars
import Derived.Test.YtpblpndlajoebaaHelpClause
namespace Go.Proofs.Ytpblpndlajoebaa
open Go.RowKit Go.Deep
set_option linter.unusedSimpArgs false
set_option linter.unusedVariables false
set_option maxRecDepth 100000

/-- The numbers 0, 1 .. -/
theorem range_at {k m : Nat} (h : k < m) : intAt ((List.range m).map Int.ofNat) k = (k : Int) := by
  unfold intAt
  rw [List.getD_eq_getElem?_getD, List.getElem?_map, List.getElem?_range h]; rfl
def AwakeC : Prop := ∀ w : World, Calls Try.prog 23 #[] w fun e w' => e = .returned (.bool true) ∧ Below w.heap.size w w'
set_option maxHeartbeats 4000000 in
theorem clauseAgain_walk (haw : AwakeC) (A : Option Addr) (n cp : Nat) (ss : List Sym) (v : Cv) (c : Cl) (w : World) (h : SymsAt w w.heap.size A n ss) (hn : n ≤ maxLen) (hnc : n ≤ cp) (hc : ClAt w w.heap.size v c) :
    Calls Try.prog 5 #[.slice A n cp, v.val] w fun e w' => e = .returned (.bool true) ∧ Below w.heap.size w w' := by
  have HAW := Lib.hid haw
  have hb0 := below_new w v.obj
  have hx0 := CBox.new hc
  have hs0 := h.on hb0
  rw [Cv.val_eq]
  have HVE := Lib.hid v.val_eq
  unfold Cv.obj at hb0 hx0 hs0
  have HC := Lib.hid hx0
  have HS := Lib.hid hs0
  have HB0 := Lib.hid hb0
  clear h hc hb0 hx0 hs0 haw
  go_enter Try.func5, Try.ntmps5
  go_wp2_with fail
  refine (HAW.out _).mono ?_
  rintro e w1 ⟨rfl, hb1⟩
  have HB1 := Lib.hid (HB0.out.trans (hb1.mono HB0.out.size))
  replace HC := Lib.hid (HC.out.on hb1)
  replace HS := Lib.hid (HS.out.on hb1)
  clear hb1
  obtain ⟨B, hB⟩ : ∃ B, B = w.heap.size := ⟨_, rfl⟩
  rw [← hB] at HC ⊢
  have HBH := Lib.hid hB
  clear hB
  have p0 := HC.out.c0
  have p1 := HC.out.c1
  have p2 := HC.out.c2
  go_wp2_with fail
  rw [← HVE.out]
  refine (normalC_any A n cp ss v c _ HS.out hn hnc HC.out.cl).mono ?_
  rintro e w2 ⟨x0, rfl, hx, hb2⟩
  have HB2 := Lib.hid (HB1.out.trans (hb2.mono HB1.out.size))
  replace HC := Lib.hid (HC.out.on hb2)
  replace HS := Lib.hid (HS.out.on hb2)
  clear hb2 p0 p1 p2
  cases hm : mayC ss c
  case false =>
    have HM := Lib.hid hm
    have hE : clE ss c = 800 := by unfold clE; rw [hm]; rfl
    rw [hE]
    obtain ⟨D1, d1, D2, d2, D3, d3, rfl⟩ := hx.slices
    obtain ⟨m1, hm1⟩ : ∃ m1, m1 = (normO ss c).lits.length := ⟨_, rfl⟩
    obtain ⟨m2, hm2⟩ : ∃ m2, m2 = (normO ss c).tups.length := ⟨_, rfl⟩
    obtain ⟨m3, hm3⟩ : ∃ m3, m3 = (normO ss c).conds.length := ⟨_, rfl⟩
    rw [← hm1, ← hm2, ← hm3]
    have hbn := below_new w2 (.cells #[.slice D1 m1 d1, .slice D2 m2 d2, .slice D3 m3 d3] 26)
    have HB3 := Lib.hid (HB2.out.trans (hbn.mono HB2.out.size))
    replace HC := Lib.hid (HC.out.on hbn)
    replace HS := Lib.hid (HS.out.on hbn)
    clear hm hE hx hm1 hm2 hm3 hbn
    have p0 := HC.out.c0
    have p1 := HC.out.c1
    have p2 := HC.out.c2
    go_wp2_with (go_at_call 20; refine (num_any _ _).mono ?_; rintro e w' ⟨rfl, rfl⟩)
    rw [← HVE.out]
    refine (mayC_any A n cp ss v c _ HS.out hn hnc HC.out.cl).mono ?_
    rintro e w4 ⟨rfl, hb4⟩
    rw [HM.out]
    have HB4 := Lib.hid (HB3.out.trans (hb4.mono HB3.out.size))
    clear hb4 p0 p1 p2
    go_wp2
    go_ret
    exact ⟨rfl, HB4.out⟩
  have HM := Lib.hid hm
  have HMC := Lib.hid (mayC_iff.1 hm)
  have HN : Hid (mayC ss (norm c) = true) := mayC_iff.2 (mayC_iff.1 hm).normal
  have e1 : normO ss c = norm c := by unfold normO; rw [hm]; rfl
  have e2 : clE ss c = 0 := by unfold clE; rw [hm]; rfl
  rw [e1] at hx
  rw [e2]
  clear hm e1 e2
  obtain ⟨x, hxe, hxc⟩ := hx.clAt (HMC.out.normal.fit)
  rw [hxe, Cv.val_eq]
  have HXx := Lib.hid x.val_eq
  have hbn := below_new w2 (.cells #[.slice x.A1 x.n1 x.c1, .slice x.A2 x.n2 x.c2, .slice x.A3 x.n3 x.c3] 26)
  have HD : Hid (CBox (w2.alloc (.cells #[.slice x.A1 x.n1 x.c1, .slice x.A2 x.n2 x.c2, .slice x.A3 x.n3 x.c3] 26)) w2.heap.size x (norm c)) := CBox.new hxc
  have HB3 := Lib.hid (HB2.out.trans (hbn.mono HB2.out.size))
  replace HC := Lib.hid (HC.out.on hbn)
  replace HS := Lib.hid (HS.out.on hbn)
  clear hxe hxc hbn hx
  have p0 := HC.out.c0
  have p1 := HC.out.c1
  have p2 := HC.out.c2
  have q0 := HD.out.c0
  have q1 := HD.out.c1
  have q2 := HD.out.c2
  go_wp2_with (go_at_call 20; refine (num_any _ _).mono ?_; rintro e w' ⟨rfl, rfl⟩)
  clear p0 p1 p2 q0 q1 q2
  obtain ⟨w3, hw3⟩ : ∃ w3, w3 = w2.alloc (.cells #[.slice x.A1 x.n1 x.c1, .slice x.A2 x.n2 x.c2, .slice x.A3 x.n3 x.c3] 26) := ⟨_, rfl⟩
  rw [← hw3] at HC HS HB3 HD ⊢
  obtain ⟨g1, hg⟩ : ∃ g1, g1 = w2.heap.size := ⟨_, rfl⟩
  rw [← hg] at HD ⊢
  clear hw3 hg
  rw [← HXx.out]
  refine (normalC_any A n cp ss x (norm c) _ HS.out hn hnc HD.out.cl).mono ?_
  rintro e w4 ⟨x0, rfl, hx, hb4⟩
  have HB4 := Lib.hid (HB3.out.trans (hb4.mono HB3.out.size))
  replace HC := Lib.hid (HC.out.on hb4)
  replace HS := Lib.hid (HS.out.on hb4)
  replace HD := Lib.hid (HD.out.on hb4)
  have HCE : Hid (clE ss (norm c) = 0) := by show clE _ _ = 0; unfold clE; rw [HN.out]; rfl
  have HCE0 : Hid (clE ss c = 0) := by show clE _ _ = 0; unfold clE; rw [HM.out]; rfl
  have e1 : normO ss (norm c) = norm c := by unfold normO; rw [HN.out, if_pos rfl, norm_norm]
  rw [e1] at hx
  rw [HCE.out]
  clear e1 hb4
  obtain ⟨y, hxe, hxc⟩ := hx.clAt (HMC.out.normal.fit)
  rw [hxe, Cv.val_eq]
  have HXy := Lib.hid y.val_eq
  have hbn := below_new w4 (.cells #[.slice y.A1 y.n1 y.c1, .slice y.A2 y.n2 y.c2, .slice y.A3 y.n3 y.c3] 26)
  have HE : Hid (CBox (w4.alloc (.cells #[.slice y.A1 y.n1 y.c1, .slice y.A2 y.n2 y.c2, .slice y.A3 y.n3 y.c3] 26)) w4.heap.size y (norm c)) := CBox.new hxc
  have HB5 := Lib.hid (HB4.out.trans (hbn.mono HB4.out.size))
  replace HC := Lib.hid (HC.out.on hbn)
  replace HS := Lib.hid (HS.out.on hbn)
  replace HD := Lib.hid (HD.out.on hbn)
  clear hxe hxc hbn hx
  have p0 := HC.out.c0
  have p1 := HC.out.c1
  have p2 := HC.out.c2
  have q0 := HD.out.c0
  have q1 := HD.out.c1
  have q2 := HD.out.c2
  have r0 := HE.out.c0
  have r1 := HE.out.c1
  have r2 := HE.out.c2
  go_wp2_with fail
  clear p0 p1 p2 q0 q1 q2 r0 r1 r2
  obtain ⟨w5, hw5⟩ : ∃ w5, w5 = w4.alloc (.cells #[.slice y.A1 y.n1 y.c1, .slice y.A2 y.n2 y.c2, .slice y.A3 y.n3 y.c3] 26) := ⟨_, rfl⟩
  rw [← hw5] at HC HS HB5 HD HE ⊢
  obtain ⟨g2, hg⟩ : ∃ g2, g2 = w4.heap.size := ⟨_, rfl⟩
  rw [← hg] at HE ⊢
  clear hw5 hg
  rw [← HVE.out]
  refine (weightC_any A n cp ss v c _ HS.out hn hnc HC.out.cl).mono ?_
  rintro e w6 ⟨rfl, hb6⟩
  have HB6 := Lib.hid (HB5.out.trans (hb6.mono HB5.out.size))
  replace HC := Lib.hid (HC.out.on hb6)
  replace HS := Lib.hid (HS.out.on hb6)
  replace HD := Lib.hid (HD.out.on hb6)
  replace HE := Lib.hid (HE.out.on hb6)
  rw [HCE0.out]
  have hle : wtO ss (norm c) ≤ wtO ss c := by unfold wtO; rw [HM.out, HN.out]; exact wtC_norm HMC.out.may
  obtain ⟨W1, hW1⟩ : ∃ W1, W1 = wtO ss c := ⟨_, rfl⟩
  obtain ⟨W2, hW2⟩ : ∃ W2, W2 = wtO ss (norm c) := ⟨_, rfl⟩
  rw [← hW1, ← hW2] at hle
  rw [← hW1]
  have HW2 := Lib.hid hW2
  clear hb6 hW1 hW2
  have q0 := HD.out.c0
  have q1 := HD.out.c1
  have q2 := HD.out.c2
  go_wp2_with fail
  rw [← HXx.out]
  refine (weightC_any A n cp ss x (norm c) _ HS.out hn hnc HD.out.cl).mono ?_
  rintro e w7 ⟨rfl, hb7⟩
  have HB7 := Lib.hid (HB6.out.trans (hb7.mono HB6.out.size))
  replace HC := Lib.hid (HC.out.on hb7)
  replace HS := Lib.hid (HS.out.on hb7)
  replace HD := Lib.hid (HD.out.on hb7)
  replace HE := Lib.hid (HE.out.on hb7)
  rw [HCE.out, ← HW2.out]
  clear hb7 q0 q1 q2
  have q0 := HD.out.c0
  have q1 := HD.out.c1
  have q2 := HD.out.c2
  go_wp2_with fail
  rw [← HXx.out]
  refine (varsC_any A n cp ss x (norm c) _ HS.out hn hnc HD.out.cl).mono ?_
  rintro e w8 ⟨v8, rfl, hv8, hb8⟩
  have HB8 := Lib.hid (HB7.out.trans (hb8.mono HB7.out.size))
  replace HC := Lib.hid (HC.out.on hb8)
  replace HS := Lib.hid (HS.out.on hb8)
  replace HD := Lib.hid (HD.out.on hb8)
  replace HE := Lib.hid (HE.out.on hb8)
  rw [HCE.out]
  have e8 : varsO ss (norm c) = (List.range (nV c)).map Int.ofNat := by unfold varsO; rw [HN.out, if_pos rfl]; exact HMC.out.vars_norm
  rw [e8] at hv8
  have h24 := HMC.out.few
  have e9 : (varsO ss c).length = nV c := by unfold varsO; rw [HM.out, if_pos rfl]; exact HMC.out.varsC_length
  obtain ⟨m, hm⟩ : ∃ m, m = nV c := ⟨_, rfl⟩
  rw [← hm] at hv8 h24 e9
  obtain ⟨A8, c8, hv8', _, hi8⟩ := hv8.intsAt
  have hl8 : ((List.range m).map Int.ofNat).length = m := by simp
  rw [hl8] at hv8' hi8
  subst hv8'
  have HV := Lib.hid hi8
  have HE9 := Lib.hid e9
  clear hb8 q0 q1 q2 e8 e9 hm hv8 hi8 hl8
  have p0 := HC.out.c0
  have p1 := HC.out.c1
  have p2 := HC.out.c2
  go_wp2_with fail
  rw [← HVE.out]
  refine (varsC_any A n cp ss v c _ HS.out hn hnc HC.out.cl).mono ?_
  rintro e w9 ⟨v9, rfl, hv9, hb9⟩
  have HB9 := Lib.hid (HB8.out.trans (hb9.mono HB8.out.size))
  replace HC := Lib.hid (HC.out.on hb9)
  replace HS := Lib.hid (HS.out.on hb9)
  replace HD := Lib.hid (HD.out.on hb9)
  replace HE := Lib.hid (HE.out.on hb9)
  replace HV := Lib.hid (HV.out.on hb9)
  rw [HCE0.out]
  obtain ⟨A9, c9, hv9'⟩ := hv9.value
  rw [HE9.out] at hv9'
  subst hv9'
  clear hb9 hv9 p0 p1 p2
  go_wp2
  go_loopw [17] (fun i wr => ∃ k : Nat, i = .int .i64 k ∧ k ≤ m ∧ wr = w9) (fun i _ => m - (intOf i).toNat)
  case atStart => exact ⟨0, rfl, by omega, rfl⟩
  case round =>
    obtain ⟨k, rfl, hk, rfl⟩ := hrel
    by_cases hlt : k < m
    · obtain ⟨b', off', hA8, hb', hc'⟩ := HV.out.at_ (by omega)
      have hcx : wr.cell? ⟨b', off' + k, none⟩ = some (.int .i64 (k : Int)) := by
        have := hc' k hlt
        dsimp only at this
        rw [range_at hlt] at this
        exact this
      rw [hA8]
      have hi0 : (0 : Int) ≤ (k : Int) := by omega
      have hi3 : (k : Int) < (m : Int) := by omega
      clear hc' hA8
      go_wp2
      go_roundw
      case rel => exact ⟨k + 1, by go_num, by omega, trivial⟩
      case measure => simp [intOf]; omega
    · obtain rfl : k = m := by omega
      have q0 := HD.out.c0
      have q1 := HD.out.c1
      have q2 := HD.out.c2
      have r0 := HE.out.c0
      have r1 := HE.out.c1
      have r2 := HE.out.c2
      go_wp2_with (go_at_call 20; refine (num_any _ _).mono ?_; rintro e w' ⟨rfl, rfl⟩)
      rw [← HXx.out, ← HXy.out]
      refine (sameClause_true x y (norm c) _ HD.out.cl HE.out.cl).mono ?_
      rintro e w10 ⟨rfl, hb10⟩
      have HB10 := Lib.hid (HB9.out.trans (hb10.mono HB9.out.size))
      replace HS := Lib.hid (HS.out.on hb10)
      replace HD := Lib.hid (HD.out.on hb10)
      clear hb10 q0 q1 q2 r0 r1 r2 HC HE HV
      have q0 := HD.out.c0
      have q1 := HD.out.c1
      have q2 := HD.out.c2
      go_wp2_with (go_at_call 20; refine (num_any _ _).mono ?_; rintro e w' ⟨rfl, rfl⟩)
      rw [← HXx.out]
      refine (mayC_any A n cp ss x (norm c) _ HS.out hn hnc HD.out.cl).mono ?_
      rintro e w11 ⟨rfl, hb11⟩
      rw [HN.out]
      have HB11 := Lib.hid (HB10.out.trans (hb11.mono HB10.out.size))
      clear hb11 q0 q1 q2
      go_wp2
      go_ret
      exact ⟨rfl, HB11.out⟩
end Go.Proofs.Ytpblpndlajoebaa
