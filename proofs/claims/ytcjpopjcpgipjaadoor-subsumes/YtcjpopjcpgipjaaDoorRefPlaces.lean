/-
  Contract of quaereref8: Places.
-/
import Derived.Test.YtcjpopjcpgipjaaDoorRefFits
import Derived.Test.YtcjpopjcpgipjaaDoorSubAll
namespace Go.Proofs.YtcjpopjcpgipjaaDoor
open Go.RowKit Go.Deep
set_option linter.unusedSimpArgs false
set_option linter.unusedVariables false
set_option maxRecDepth 100000

set_option maxHeartbeats 4000000 in
theorem refPlaces_any (A : Option Addr) (n cp : Nat) (ss : List Sym) (v u : Cv) (c d : Cl) (w : World) (h : SymsAt w w.heap.size A n ss) (hn : n ≤ maxLen) (hnc : n ≤ cp) (hc : ClAt w w.heap.size v c) (hd : ClAt w w.heap.size u d) :
    Calls Tryd.prog 11 #[.slice A n cp, v.val, u.val] w (PlPost ss c d w) := by
  obtain ⟨hx, hy, hb⟩ := CBox.two hc hd
  have hs := h.on hb
  rw [Cv.val_eq, Cv.val_eq]
  have HVE := Lib.hid v.val_eq
  have HUE := Lib.hid u.val_eq
  unfold Cv.obj at hx hy hb hs
  have HX := Lib.hid hx
  have HY := Lib.hid hy
  have HS := Lib.hid hs
  have HB0 := Lib.hid hb
  clear h hc hd hx hy hb hs
  have p0 := HX.out.c0
  have p1 := HX.out.c1
  have p2 := HX.out.c2
  go_enter Tryd.func11, Tryd.ntmps11
  go_wp2_with fail
  rw [← HVE.out]
  refine (refMayC_any A n cp ss v c _ HS.out hn hnc HX.out.cl).mono ?_
  rintro e w1 ⟨rfl, hb1⟩
  have HB1 := Lib.hid (HB0.out.trans (hb1.mono HB0.out.size))
  replace HX := Lib.hid (HX.out.on hb1)
  replace HY := Lib.hid (HY.out.on hb1)
  replace HS := Lib.hid (HS.out.on hb1)
  clear hb1 HB0 p0 p1 p2
  cases hm : mayC ss c
  · have H : Hid (okC ss c d = false) := by show okC ss c d = false; unfold okC; rw [hm]; rfl
    clear hm
    go_wp2
    go_ret3
    exact PlPost.bad H.out rfl HB1.out
  have q0 := HY.out.c0
  have q1 := HY.out.c1
  have q2 := HY.out.c2
  go_wp2_with fail
  rw [← HUE.out]
  refine (refMayC_any A n cp ss u d _ HS.out hn hnc HY.out.cl).mono ?_
  rintro e w2 ⟨rfl, hb2⟩
  have HB2 := Lib.hid (HB1.out.trans (hb2.mono HB1.out.size))
  replace HX := Lib.hid (HX.out.on hb2)
  replace HY := Lib.hid (HY.out.on hb2)
  replace HS := Lib.hid (HS.out.on hb2)
  clear hb2 HB1 q0 q1 q2
  cases hm2 : mayC ss d
  · have H : Hid (okC ss c d = false) := by show okC ss c d = false; unfold okC; rw [hm2, Bool.and_false]
    clear hm hm2
    go_wp2
    go_ret3
    exact PlPost.bad H.out rfl HB2.out
  have HOK : Hid (okC ss c d = true) := by show okC ss c d = true; unfold okC; rw [hm, hm2]; rfl
  have HM := Lib.hid (mayC_iff.1 hm)
  have HM2 := Lib.hid (mayC_iff.1 hm2)
  clear hm hm2
  have q0 := HY.out.c0
  have q1 := HY.out.c1
  have q2 := HY.out.c2
  have p0 := HX.out.c0
  have p1 := HX.out.c1
  have p2 := HX.out.c2
  go_wp2_with fail
  try rw [← HVE.out]
  try rw [← HUE.out]
  refine (refFits_any A n cp ss v u c d w2 HS.out hn HX.out.cl HY.out.cl HM.out HM2.out).mono ?_
  rintro e w3 (⟨hno, rfl, hb3⟩ | ⟨ps, x, hyes, rfl, hown, hb3⟩)
  · have HB3 := Lib.hid (HB2.out.trans (hb3.mono HB2.out.size))
    clear hb3 q0 q1 q2 p0 p1 p2
    have H := Lib.hid hno
    clear hno
    go_wp2
    go_ret3
    exact PlPost.no HOK.out H.out rfl HB3.out
  · have HB3 := Lib.hid (HB2.out.trans (hb3.mono HB2.out.size))
    have H := Lib.hid hyes
    obtain ⟨A9, c9, rfl, -, -⟩ := hown.intsAt
    have HO := Lib.hid (hown.lower (base' := w.heap.size) HB2.out.size)
    clear hb3 hyes hown q0 q1 q2 p0 p1 p2
    go_wp2
    go_ret3
    exact PlPost.yes HOK.out H.out rfl HO.out HB3.out
end Go.Proofs.YtcjpopjcpgipjaaDoor
