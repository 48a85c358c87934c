/-
  The walk of the law PointClauses.
-/
import Derived.Test.YtpplddongkhkbaaAwakeP
import Derived.Test.YtpplddongkhkbaaHelpClause
namespace Go.Proofs.Ytpplddongkhkbaa
open Go.RowKit Go.Deep
set_option linter.unusedSimpArgs false
set_option linter.unusedVariables false
set_option maxRecDepth 100000

set_option maxHeartbeats 8000000 in
theorem pointClauses_walk (haw : ∀ u, Calls Try.prog 22 #[] u fun e w' => e = .returned (.bool true) ∧ Below u.heap.size u w') (A : Option Addr) (n cp : Nat) (ss : List Sym) (v : Cv) (c : Cl) (w : World) (h : SymsAt w w.heap.size A n ss) (hn : n ≤ maxLen) (hnc : n ≤ cp) (hc : ClAt w w.heap.size v c) :
    Calls Try.prog 4 #[.slice A n cp, v.val] w fun e w' => e = .returned (.bool true) ∧ Below w.heap.size w w' := by
  have HAW := Lib.hid haw
  have hx := CBox.new hc
  have hb0 := below_new w v.obj
  have hs0 := h.on hb0
  have HFC := Lib.hid hc.fit
  rw [Cv.val_eq]
  have HVE := Lib.hid v.val_eq
  unfold Cv.obj at hx hb0 hs0
  have HC := Lib.hid hx
  have HS := Lib.hid hs0
  have HB0 := Lib.hid hb0
  clear h hc hx hb0 hs0 haw
  go_enter Try.func4, Try.ntmps4
  go_wp2_with fail
  obtain ⟨w0, hw0⟩ : ∃ w0, w0 = w.alloc (.cells #[.slice v.A1 v.n1 v.c1, .slice v.A2 v.n2 v.c2, .slice v.A3 v.n3 v.c3] 47) := ⟨_, rfl⟩
  rw [← hw0] at HC HS HB0 ⊢
  clear hw0
  obtain ⟨B, hB⟩ : ∃ B, B = w.heap.size := ⟨_, rfl⟩
  rw [← hB] at HC ⊢
  have HBH := Lib.hid hB
  clear hB
  rw [← HVE.out]
  refine (copyClause_any v c _ HC.out.cl).mono ?_
  rintro e w1 ⟨x0, rfl, hx, hb1⟩
  have HB1 := Lib.hid (HB0.out.trans (hb1.mono HB0.out.size))
  replace HC := Lib.hid (HC.out.on hb1)
  replace HS := Lib.hid (HS.out.on hb1)
  obtain ⟨x, rfl, hxc⟩ := hx.clAt HFC.out
  rw [Cv.val_eq x]
  have HXE := Lib.hid x.val_eq
  have hbn := below_new w1 (.cells #[.slice x.A1 x.n1 x.c1, .slice x.A2 x.n2 x.c2, .slice x.A3 x.n3 x.c3] 47)
  have HW : Hid (CBox (w1.alloc (.cells #[.slice x.A1 x.n1 x.c1, .slice x.A2 x.n2 x.c2, .slice x.A3 x.n3 x.c3] 47)) w1.heap.size x c) := CBox.new hxc
  have HB2 := Lib.hid (HB1.out.trans (hbn.mono HB1.out.size))
  replace HC := Lib.hid (HC.out.on hbn)
  replace HS := Lib.hid (HS.out.on hbn)
  clear hb1 hx hxc hbn
  have p0 := HC.out.c0
  have p1 := HC.out.c1
  have p2 := HC.out.c2
  go_wp2_with fail
  clear p0 p1 p2
  obtain ⟨w2, hw2⟩ : ∃ w2, w2 = w1.alloc (.cells #[.slice x.A1 x.n1 x.c1, .slice x.A2 x.n2 x.c2, .slice x.A3 x.n3 x.c3] 47) := ⟨_, rfl⟩
  rw [← hw2] at HC HS HW HB2 ⊢
  obtain ⟨G, hG⟩ : ∃ G, G = w1.heap.size := ⟨_, rfl⟩
  rw [← hG] at HW ⊢
  clear hw2 hG
  rw [← HVE.out]
  obtain ⟨X, Y, E, k1, k2⟩ : ∃ X Y E, (∀ u, SymsAt u u.heap.size A n ss → ClAt u u.heap.size v c → Calls Try.prog 24 #[.slice A n cp, v.val] u (PPost X Y E u)) ∧ (∀ u, SymsAt u u.heap.size A n ss → ClAt u u.heap.size v c → Calls Try.prog 25 #[.slice A n cp, v.val] u (PPost X Y E u)) :=
    ⟨_, _, _, fun u h1 h2 => of_any A n cp ss v c u h1 hn hnc h2, fun u h1 h2 => refOf_pt A n cp ss v c u h1 hn hnc h2⟩
  have HK1 := Lib.hid k1
  have HK2 := Lib.hid k2
  clear k1 k2
  refine (HK1.out _ HS.out HC.out.cl).mono ?_
  rintro e w3 ⟨rfl, hb3⟩
  have HB3 := Lib.hid (HB2.out.trans (hb3.mono HB2.out.size))
  replace HC := Lib.hid (HC.out.on hb3)
  replace HS := Lib.hid (HS.out.on hb3)
  replace HW := Lib.hid (HW.out.on hb3)
  clear hb3
  have hb4 := below_new w3 (.cells #[.int .i64 X, .int .i64 Y] 23)
  have HX := Lib.hid (PBox.new w3 X Y)
  have HB4 := Lib.hid (HB3.out.trans (hb4.mono HB3.out.size))
  replace HC := Lib.hid (HC.out.on hb4)
  replace HS := Lib.hid (HS.out.on hb4)
  replace HW := Lib.hid (HW.out.on hb4)
  clear hb4
  have p0 := HC.out.c0
  have p1 := HC.out.c1
  have p2 := HC.out.c2
  go_wp2_with fail
  clear p0 p1 p2
  rw [← HVE.out]
  refine (HK2.out _ HS.out HC.out.cl).mono ?_
  rintro e w5 ⟨rfl, hb5⟩
  have HB5 := Lib.hid (HB4.out.trans (hb5.mono HB4.out.size))
  replace HC := Lib.hid (HC.out.on hb5)
  replace HW := Lib.hid (HW.out.on hb5)
  replace HX := Lib.hid (HX.out.on hb5)
  clear hb5 HS
  have hb6 := below_new w5 (.cells #[.int .i64 X, .int .i64 Y] 23)
  have HY := Lib.hid (PBox.new w5 X Y)
  have HB6 := Lib.hid (HB5.out.trans (hb6.mono HB5.out.size))
  replace HC := Lib.hid (HC.out.on hb6)
  replace HW := Lib.hid (HW.out.on hb6)
  replace HX := Lib.hid (HX.out.on hb6)
  clear hb6
  have p0 := HC.out.c0
  have p1 := HC.out.c1
  have p2 := HC.out.c2
  have r0 := HW.out.c0
  have r1 := HW.out.c1
  have r2 := HW.out.c2
  have s0 := HX.out.c0
  have s1 := HX.out.c1
  have t0 := HY.out.c0
  have t1 := HY.out.c1
  go_wp2_with (first | (go_at_call 21; refine (num_any _ _).mono ?_; rintro e w' ⟨rfl, rfl⟩))
  rw [← HVE.out, ← HXE.out]
  refine (sameClause_true v x c _ HC.out.cl HW.out.cl).mono ?_
  rintro e w7 ⟨rfl, hb7⟩
  have HB7 := Lib.hid (HB6.out.trans (hb7.mono HB6.out.size))
  clear hb7 p0 p1 p2 r0 r1 r2 s0 s1 t0 t1
  go_wp2_with fail
  refine (HAW.out _).mono ?_
  rintro e w8 ⟨rfl, hb8⟩
  have HB8 := Lib.hid (HB7.out.trans (hb8.mono HB7.out.size))
  clear hb8
  go_wp2
  go_ret
  exact ⟨rfl, HB8.out⟩
end Go.Proofs.Ytpplddongkhkbaa
