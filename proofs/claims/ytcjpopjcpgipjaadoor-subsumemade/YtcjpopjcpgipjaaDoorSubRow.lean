/-
  What Does tells, in plain words; the walk of the law SubsumeRow.
-/
import Derived.Test.YtcjpopjcpgipjaaDoorAwakeS
import Derived.Test.YtcjpopjcpgipjaaDoorPlainSubs
namespace Go.Proofs.YtcjpopjcpgipjaaDoor
open Go.RowKit Go.Deep
set_option linter.unusedSimpArgs false
set_option linter.unusedVariables false
set_option maxRecDepth 100000

section
variable {ss : List Sym} {c d e : Cl}
theorem okC_iff : okC ss c d = true ↔ MayC ss c ∧ MayC ss d := by unfold okC; rw [Bool.and_eq_true, mayC_iff, mayC_iff]
theorem subE_ok (h : okC ss c d = true) : subE ss c d = 0 := by unfold subE; rw [h]; rfl
theorem subE_no (h : okC ss c d = false) : subE ss c d = 1000 := by unfold subE; rw [h]; rfl
theorem subIs_no (h : okC ss c d = false) : subIs ss c d = false := by unfold subIs; rw [h]; rfl
theorem subIs_iff (h : okC ss c d = true) : subIs ss c d = true ↔ Says ss c d := by
  obtain ⟨h1, h2⟩ := okC_iff.1 h
  unfold subIs
  rw [h, Bool.true_and]
  constructor
  · intro q
    obtain ⟨ps, hp⟩ := Option.isSome_iff_exists.1 q
    exact subO_some h1 h2 hp
  · intro q
    obtain ⟨ps, hp⟩ := subO_there h1 h2 q
    rw [hp]; rfl
end
theorem CBox.three {w : World} {v u x : Cv} {c d e : Cl} (h : ClAt w w.heap.size v c) (k : ClAt w w.heap.size u d) (l : ClAt w w.heap.size x e) :
    CBox (((w.alloc v.obj).alloc u.obj).alloc x.obj) w.heap.size v c ∧ CBox (((w.alloc v.obj).alloc u.obj).alloc x.obj) (w.heap.size + 1) u d ∧ CBox (((w.alloc v.obj).alloc u.obj).alloc x.obj) (w.heap.size + 1 + 1) x e ∧ Below w.heap.size w (((w.alloc v.obj).alloc u.obj).alloc x.obj) := by
  obtain ⟨h1, h2, hb⟩ := CBox.two h k
  have hbn := below_new ((w.alloc v.obj).alloc u.obj) x.obj
  have hn := CBox.new (l.on hb)
  have e : ((w.alloc v.obj).alloc u.obj).heap.size = w.heap.size + 1 + 1 := by simp
  rw [e] at hn
  exact ⟨h1.on hbn, h2.on hbn, hn, hb.trans (hbn.mono hb.size)⟩

set_option maxHeartbeats 8000000 in
theorem subsumeRow_walk (A : Option Addr) (n cp : Nat) (ss : List Sym) (v u x : Cv) (c d e : Cl) (w : World) (h : SymsAt w w.heap.size A n ss) (hn : n ≤ maxLen) (hnc : n ≤ cp) (hc : ClAt w w.heap.size v c) (hd : ClAt w w.heap.size u d) (he : ClAt w w.heap.size x e) (hT : TabW w) (hTB : 0 < w.heap.size) :
    Calls Tryd.prog 5 #[.slice A n cp, v.val, u.val, x.val] w fun e w' => e = .returned (.bool true) ∧ Below w.heap.size w w' := by
  obtain ⟨hx, hy, hz, hb0⟩ := CBox.three hc hd he
  have hs0 := h.on hb0
  rw [Cv.val_eq, Cv.val_eq, Cv.val_eq]
  have HVE := Lib.hid v.val_eq
  have HUE := Lib.hid u.val_eq
  have HXE := Lib.hid x.val_eq
  unfold Cv.obj at hx hy hz hb0 hs0
  have HC := Lib.hid hx
  have HD := Lib.hid hy
  have HE := Lib.hid hz
  have HS := Lib.hid hs0
  have HB0 := Lib.hid hb0
  have HT := Lib.hid hT
  have HTB := Lib.hid hTB
  clear h hc hd he hx hy hz hb0 hs0 hT hTB
  go_enter Tryd.func5, Tryd.ntmps5
  go_wp2_with fail
  refine (awakeS_any _ (HT.out.below HTB.out HB0.out) (Nat.lt_of_lt_of_le HTB.out HB0.out.size)).mono ?_
  rintro e' w1 ⟨rfl, hb1⟩
  have HB1 := Lib.hid (HB0.out.trans (hb1.mono HB0.out.size))
  replace HC := Lib.hid (HC.out.on hb1)
  replace HD := Lib.hid (HD.out.on hb1)
  replace HE := Lib.hid (HE.out.on hb1)
  replace HS := Lib.hid (HS.out.on hb1)
  clear hb1 HB0
  have p0 := HC.out.c0
  have p1 := HC.out.c1
  have p2 := HC.out.c2
  have q0 := HC.out.c0
  have q1 := HC.out.c1
  have q2 := HC.out.c2
  go_wp2_with fail
  rw [← HVE.out]
  try rw [← HVE.out]
  refine (does_any A n cp ss _ _ c c _ HS.out hn hnc HC.out.cl HC.out.cl (HT.out.below HTB.out HB1.out) (Nat.lt_of_lt_of_le HTB.out HB1.out.size)).mono ?_
  rintro e' w2 ⟨rfl, hb2⟩
  have HB2 := Lib.hid (HB1.out.trans (hb2.mono HB1.out.size))
  replace HC := Lib.hid (HC.out.on hb2)
  replace HD := Lib.hid (HD.out.on hb2)
  replace HE := Lib.hid (HE.out.on hb2)
  replace HS := Lib.hid (HS.out.on hb2)
  clear hb2 p0 p1 p2 q0 q1 q2
  have p0 := HC.out.c0
  have p1 := HC.out.c1
  have p2 := HC.out.c2
  have q0 := HD.out.c0
  have q1 := HD.out.c1
  have q2 := HD.out.c2
  go_wp2_with fail
  rw [← HVE.out]
  try rw [← HUE.out]
  refine (does_any A n cp ss _ _ c d _ HS.out hn hnc HC.out.cl HD.out.cl (HT.out.below HTB.out HB2.out) (Nat.lt_of_lt_of_le HTB.out HB2.out.size)).mono ?_
  rintro e' w3 ⟨rfl, hb3⟩
  have HB3 := Lib.hid (HB2.out.trans (hb3.mono HB2.out.size))
  replace HC := Lib.hid (HC.out.on hb3)
  replace HD := Lib.hid (HD.out.on hb3)
  replace HE := Lib.hid (HE.out.on hb3)
  replace HS := Lib.hid (HS.out.on hb3)
  clear hb3 p0 p1 p2 q0 q1 q2
  have p0 := HD.out.c0
  have p1 := HD.out.c1
  have p2 := HD.out.c2
  have q0 := HE.out.c0
  have q1 := HE.out.c1
  have q2 := HE.out.c2
  go_wp2_with fail
  rw [← HUE.out]
  try rw [← HXE.out]
  refine (does_any A n cp ss _ _ d e _ HS.out hn hnc HD.out.cl HE.out.cl (HT.out.below HTB.out HB3.out) (Nat.lt_of_lt_of_le HTB.out HB3.out.size)).mono ?_
  rintro e' w4 ⟨rfl, hb4⟩
  have HB4 := Lib.hid (HB3.out.trans (hb4.mono HB3.out.size))
  replace HC := Lib.hid (HC.out.on hb4)
  replace HD := Lib.hid (HD.out.on hb4)
  replace HE := Lib.hid (HE.out.on hb4)
  replace HS := Lib.hid (HS.out.on hb4)
  clear hb4 p0 p1 p2 q0 q1 q2
  cases h1 : okC ss c c
  · rw [subE_no h1, subIs_no h1]
    clear h1
    go_wp2_with (go_at_call 14; refine (num_any _ _).mono ?_; rintro e w' ⟨rfl, rfl⟩)
    go_ret
    exact ⟨rfl, HB4.out⟩
  have h2 := (subIs_iff h1).2 Says.refl
  rw [subE_ok h1, h2]
  clear h1 h2
  cases h3 : okC ss c d
  · rw [subE_no h3, subIs_no h3]
    clear h3
    go_wp2_with (go_at_call 14; refine (num_any _ _).mono ?_; rintro e w' ⟨rfl, rfl⟩)
    go_ret
    exact ⟨rfl, HB4.out⟩
  rw [subE_ok h3]
  cases h4 : okC ss d e
  · rw [subE_no h4, subIs_no h4]
    clear h4 h3
    go_wp2_with (go_at_call 14; refine (num_any _ _).mono ?_; rintro e w' ⟨rfl, rfl⟩)
    go_ret
    exact ⟨rfl, HB4.out⟩
  rw [subE_ok h4]
  cases h5 : subIs ss c d
  · clear h3 h4 h5
    obtain ⟨b6, hb6⟩ : ∃ b, b = subIs ss d e := ⟨_, rfl⟩
    rw [← hb6]
    clear hb6
    go_wp2_with (go_at_call 14; refine (num_any _ _).mono ?_; rintro e w' ⟨rfl, rfl⟩)
    go_ret
    exact ⟨rfl, HB4.out⟩
  cases h6 : subIs ss d e
  · clear h3 h4 h5 h6
    go_wp2_with (go_at_call 14; refine (num_any _ _).mono ?_; rintro e w' ⟨rfl, rfl⟩)
    go_ret
    exact ⟨rfl, HB4.out⟩
  have h7 : okC ss c e = true := okC_iff.2 ⟨(okC_iff.1 h3).1, (okC_iff.1 h4).2⟩
  have h8 := (subIs_iff h7).2 (((subIs_iff h3).1 h5).trans ((subIs_iff h4).1 h6))
  have H7 := Lib.hid h7
  have H8 := Lib.hid h8
  clear h3 h4 h5 h6 h7 h8
  have p0 := HC.out.c0
  have p1 := HC.out.c1
  have p2 := HC.out.c2
  have q0 := HE.out.c0
  have q1 := HE.out.c1
  have q2 := HE.out.c2
  go_wp2_with (go_at_call 14; refine (num_any _ _).mono ?_; rintro e w' ⟨rfl, rfl⟩)
  try rw [← HVE.out]
  try rw [← HXE.out]
  refine (does_any A n cp ss _ _ c e _ HS.out hn hnc HC.out.cl HE.out.cl (HT.out.below HTB.out HB4.out) (Nat.lt_of_lt_of_le HTB.out HB4.out.size)).mono ?_
  rintro e' w5 ⟨rfl, hb5⟩
  have HB5 := Lib.hid (HB4.out.trans (hb5.mono HB4.out.size))
  rw [subE_ok H7.out, H8.out]
  clear hb5 p0 p1 p2 q0 q1 q2
  go_wp2_with (go_at_call 14; refine (num_any _ _).mono ?_; rintro e w' ⟨rfl, rfl⟩)
  go_ret
  exact ⟨rfl, HB5.out⟩
end Go.Proofs.YtcjpopjcpgipjaaDoor
