/-
  Contracts of package subsume: Places, Does.
-/
import Derived.Test.YtcjpopjcpgipjaaDoorSubSearch
import Derived.Test.YtcjpopjcpgipjaaDoorSubParts
import Derived.Test.YtcjpopjcpgipjaaDoorSubPoss
import Derived.Test.YtcjpopjcpgipjaaDoorPointOfC
import Derived.Test.YtcjpopjcpgipjaaDoorSubPts
import Derived.Test.YtcjpopjcpgipjaaDoorHelpCl
namespace Go.Proofs.YtcjpopjcpgipjaaDoor
open Go.RowKit Go.Deep
set_option linter.unusedSimpArgs false
set_option linter.unusedVariables false
set_option maxRecDepth 100000

def okC (ss : List Sym) (c d : Cl) : Bool := mayC ss c && mayC ss d
def subIs (ss : List Sym) (c d : Cl) : Bool := okC ss c d && (subO ss c d).isSome
def subE (ss : List Sym) (c d : Cl) : Int := if okC ss c d then 0 else 1000
def subR (ss : List Sym) (c d : Cl) : List Int := if okC ss c d then natsJ ((subO ss c d).getD []) else []
/-- What Places hands back. -/
def PlPost (ss : List Sym) (c d : Cl) (w : World) (e : Ending) (w' : World) : Prop :=
  ∃ v, e = .returned (.tuple #[v, .bool (subIs ss c d), .int .i64 (subE ss c d)]) ∧ OwnI w' w.heap.size v (subR ss c d) ∧ Below w.heap.size w w'
theorem PlPost.bad {ss : List Sym} {c d : Cl} {w w' : World} {e : Ending} (h : okC ss c d = false) (he : e = .returned (.tuple #[.slice none 0 0, .bool false, .int .i64 1000])) (hb : Below w.heap.size w w') : PlPost ss c d w e w' :=
  ⟨_, by unfold subIs subE; rw [h]; exact he, by unfold subR; rw [h]; exact OwnI.nil_, hb⟩
theorem PlPost.no {ss : List Sym} {c d : Cl} {w w' : World} {e : Ending} (h : okC ss c d = true) (hn : subO ss c d = none) (he : e = .returned (.tuple #[.slice none 0 0, .bool false, .int .i64 0])) (hb : Below w.heap.size w w') : PlPost ss c d w e w' :=
  ⟨_, by unfold subIs subE; rw [h, hn]; exact he, by unfold subR; rw [h, hn]; exact OwnI.nil_, hb⟩
theorem PlPost.yes {ss : List Sym} {c d : Cl} {w w' : World} {e : Ending} {ps : List Nat} {v : Value} (h : okC ss c d = true) (hn : subO ss c d = some ps) (he : e = .returned (.tuple #[v, .bool true, .int .i64 0])) (ho : OwnI w' w.heap.size v (natsJ ps)) (hb : Below w.heap.size w w') : PlPost ss c d w e w' :=
  ⟨v, by unfold subIs subE; rw [h, hn]; exact he, by unfold subR; rw [h, hn]; exact ho, hb⟩
theorem allPr_few {ss : List Sym} {c d : Cl} (hm : MayC ss c) (hm2 : MayC ss d) : (allPr ss (itemsC c) (targC c d) (itemsC c).length).length ≤ 60 := by
  rw [allPr_parts, List.length_append, List.length_append]
  have y1 := partsPr_length (ss := ss) (K := 0) (ls := c.lits) (ms := d.lits) (n := c.lits.length)
  have y2 := partsPr_length (ss := ss) (K := c.lits.length) (ls := c.tups.map mkT) (ms := d.tups.map mkT) (n := c.tups.length)
  have y3 := partsPr_length (ss := ss) (K := c.lits.length + c.tups.length) (ls := c.conds) (ms := d.conds) (n := c.conds.length)
  have y4 : c.lits.length * d.lits.length ≤ 5 * 5 := Nat.mul_le_mul hm.nl hm2.nl
  have y5 : c.tups.length * (d.tups.map mkT).length ≤ 3 * 3 := Nat.mul_le_mul hm.nt (by rw [List.length_map]; exact hm2.nt)
  have y6 : c.conds.length * d.conds.length ≤ 3 * 3 := Nat.mul_le_mul hm.nc hm2.nc
  omega
theorem of_near {ss : List Sym} {c : Cl} (hm : MayC ss c) : (-1000000 ≤ ofX ss c ∧ ofX ss c ≤ 1000000) ∧ (-1000000 ≤ ofY ss c ∧ ofY ss c ≤ 1000000) := by
  have h1 := topW_bd (g := false) hm.lits c.lits.length
  have h2 := topW_bd (g := true) hm.lits c.lits.length
  rw [List.take_length] at h1 h2
  unfold ofX ofY
  rw [mayC_iff.2 hm]
  simp only [if_true]
  omega
set_option maxHeartbeats 4000000 in
theorem places_any (A : Option Addr) (n cp : Nat) (ss : List Sym) (v u : Cv) (c d : Cl) (w : World) (h : SymsAt w w.heap.size A n ss) (hn : n ≤ maxLen) (hnc : n ≤ cp) (hc : ClAt w w.heap.size v c) (hd : ClAt w w.heap.size u d) (hT : TabW w) (hTB : 0 < w.heap.size) :
    Calls Tryd.prog 10 #[.slice A n cp, v.val, u.val] w (PlPost ss c d w) := by
  obtain ⟨hx, hy, hb⟩ := CBox.two hc hd
  have hs := h.on hb
  have HT := Lib.hid hT
  have HTB := Lib.hid hTB
  rw [Cv.val_eq, Cv.val_eq]
  have HVE := Lib.hid v.val_eq
  have HUE := Lib.hid u.val_eq
  unfold Cv.obj at hx hy hb hs
  have HX := Lib.hid hx
  have HY := Lib.hid hy
  have HS := Lib.hid hs
  have HB0 := Lib.hid hb
  clear h hc hd hx hy hb hs hT hTB
  go_enter Tryd.func10, Tryd.ntmps10
  go_wp2_with fail
  rw [← HVE.out]
  refine (of_any A n cp ss v c _ HS.out hn hnc HX.out.cl).mono ?_
  rintro e w1 ⟨rfl, hb1⟩
  have HB1 := Lib.hid (HB0.out.trans (hb1.mono HB0.out.size))
  replace HX := Lib.hid (HX.out.on hb1)
  replace HY := Lib.hid (HY.out.on hb1)
  replace HS := Lib.hid (HS.out.on hb1)
  clear hb1 HB0
  obtain ⟨x1, hx1⟩ : ∃ x, x = ofX ss c := ⟨_, rfl⟩
  obtain ⟨y1, hy1⟩ : ∃ x, x = ofY ss c := ⟨_, rfl⟩
  rw [← hx1, ← hy1]
  have hb2 := below_new w1 (.cells #[.int .i64 x1, .int .i64 y1] 56)
  have HP1 : Hid (PBox (w1.alloc (.cells #[.int .i64 x1, .int .i64 y1] 56)) w1.heap.size x1 y1) := PBox.new w1 _ _
  have HB2 := Lib.hid (HB1.out.trans (hb2.mono HB1.out.size))
  replace HX := Lib.hid (HX.out.on hb2)
  replace HY := Lib.hid (HY.out.on hb2)
  replace HS := Lib.hid (HS.out.on hb2)
  have q0 := HY.out.c0
  have q1 := HY.out.c1
  have q2 := HY.out.c2
  have HX1 := Lib.hid hx1
  have HY1 := Lib.hid hy1
  clear hb2 HB1 hx1 hy1
  go_wp2_with fail
  rw [← HUE.out]
  refine (of_any A n cp ss u d _ HS.out hn hnc HY.out.cl).mono ?_
  rintro e w3 ⟨rfl, hb3⟩
  have HB3 := Lib.hid (HB2.out.trans (hb3.mono HB2.out.size))
  replace HX := Lib.hid (HX.out.on hb3)
  replace HY := Lib.hid (HY.out.on hb3)
  replace HS := Lib.hid (HS.out.on hb3)
  replace HP1 := Lib.hid (HP1.out.on hb3)
  clear hb3 q0 q1 q2 HB2
  obtain ⟨x2, hx2⟩ : ∃ x, x = ofX ss d := ⟨_, rfl⟩
  obtain ⟨y2, hy2⟩ : ∃ x, x = ofY ss d := ⟨_, rfl⟩
  rw [← hx2, ← hy2]
  have hb4 := below_new w3 (.cells #[.int .i64 x2, .int .i64 y2] 56)
  have HP2 : Hid (PBox (w3.alloc (.cells #[.int .i64 x2, .int .i64 y2] 56)) w3.heap.size x2 y2) := PBox.new w3 _ _
  have HB4 := Lib.hid (HB3.out.trans (hb4.mono HB3.out.size))
  replace HX := Lib.hid (HX.out.on hb4)
  replace HY := Lib.hid (HY.out.on hb4)
  replace HS := Lib.hid (HS.out.on hb4)
  replace HP1 := Lib.hid (HP1.out.on hb4)
  have HX2 := Lib.hid hx2
  have HY2 := Lib.hid hy2
  clear hb4 HB3 hx2 hy2
  cases hm : mayC ss c
  · have H : Hid (okC ss c d = false) := by show okC ss c d = false; unfold okC; rw [hm]; rfl
    have he : ofE ss c = 900 := by unfold ofE; rw [hm]; rfl
    rw [he]
    clear he hm
    go_wp2
    go_ret3
    exact PlPost.bad H.out rfl HB4.out
  have he : ofE ss c = 0 := by unfold ofE; rw [hm]; rfl
  rw [he]
  clear he
  cases hm2 : mayC ss d
  · have H : Hid (okC ss c d = false) := by show okC ss c d = false; unfold okC; rw [hm2, Bool.and_false]
    have he : ofE ss d = 900 := by unfold ofE; rw [hm2]; rfl
    rw [he]
    clear he hm hm2
    go_wp2
    go_ret3
    exact PlPost.bad H.out rfl HB4.out
  have he : ofE ss d = 0 := by unfold ofE; rw [hm2]; rfl
  rw [he]
  clear he
  have HOK : Hid (okC ss c d = true) := by show okC ss c d = true; unfold okC; rw [hm, hm2]; rfl
  have HM := Lib.hid (mayC_iff.1 hm)
  have HM2 := Lib.hid (mayC_iff.1 hm2)
  obtain ⟨n1, n2⟩ := of_near HM.out
  obtain ⟨n3, n4⟩ := of_near HM2.out
  rw [← HX1.out] at n1
  rw [← HY1.out] at n2
  rw [← HX2.out] at n3
  rw [← HY2.out] at n4
  have hip := isPossible_any x1 y1 x2 y2 (w3.alloc (.cells #[.int .i64 x2, .int .i64 y2] 56)) n1 n2 n3 n4
  have a0 := HP1.out.c0
  have a1 := HP1.out.c1
  have a2 := HP2.out.c0
  have a3 := HP2.out.c1
  clear hm hm2 n1 n2 n3 n4
  go_wp2_with fail
  refine hip.mono ?_
  rintro e w5 ⟨rfl, hb5⟩
  have HB5 := Lib.hid (HB4.out.trans (hb5.mono HB4.out.size))
  replace HX := Lib.hid (HX.out.on hb5)
  replace HY := Lib.hid (HY.out.on hb5)
  replace HS := Lib.hid (HS.out.on hb5)
  clear hb5 hip a0 a1 a2 a3 HB4 HP1 HP2
  cases hpos : posB x1 y1 x2 y2
  · have H : Hid (subO ss c d = none) := by
      show subO ss c d = none
      cases hs : subO ss c d with
      | none => rfl
      | some ps =>
        obtain ⟨u1, u2⟩ := (subO_some HM.out HM2.out hs).under HM.out HM2.out
        rw [HX1.out, HY1.out, HX2.out, HY2.out] at hpos
        unfold posB at hpos
        rw [decide_eq_true u1, decide_eq_true u2] at hpos
        cases hpos
    clear hpos
    go_wp2
    go_ret3
    exact PlPost.no HOK.out H.out rfl HB5.out
  clear hpos
  have q0 := HY.out.c0
  have q1 := HY.out.c1
  have q2 := HY.out.c2
  have p0 := HX.out.c0
  have p1 := HX.out.c1
  have p2 := HX.out.c2
  go_wp2_with fail
  rw [← HVE.out, ← HUE.out]
  refine (pairs_any A n cp ss v u c d w5 HS.out hn HX.out.cl HY.out.cl HM.out HM2.out).mono ?_
  rintro e w6 ⟨rfl, ⟨os, hos, hbl⟩, hb6⟩
  have HB6 := Lib.hid (HB5.out.trans (hb6.mono HB5.out.size))
  have hfind := find_any (w5.heap.size + 2) w5.heap.size ss (itemsC c) (targC c d) _ os w6 hbl rfl hos (pat_all HM.out HM2.out) (by rw [targ_len, items_len]) (allPr_few HM.out HM2.out) (by rw [items_len]; have := HM.out.nl; have := HM.out.nt; have := HM.out.nc; omega) (HT.out.below HTB.out HB6.out) (by have := HTB.out; have := HB5.out.size; omega)
  have HSZ : Hid (w5.heap.size ≤ w6.heap.size) := hb6.size
  clear hos hbl hb6 q0 q1 q2 p0 p1 p2
  go_wp2_with fail
  refine hfind.mono ?_
  rintro e w7 ⟨hb7, ⟨hno, rfl⟩ | ⟨ps, x, hyes, rfl, hcell, hown⟩⟩
  · have HB7 : Hid (Below w.heap.size w w7) := HB6.out.trans (hb7.mono (by have := HB5.out.size; omega))
    have H : Hid (subO ss c d = none) := hno
    clear hfind hno hb7
    go_wp2
    go_ret3
    exact PlPost.no HOK.out H.out rfl HB7.out
  · have HB7 : Hid (Below w.heap.size w w7) := HB6.out.trans (hb7.mono (by have := HB5.out.size; omega))
    have H : Hid (subO ss c d = some ps) := hyes
    obtain ⟨A9, c9, rfl, -, -⟩ := hown.intsAt
    have HO := Lib.hid (hown.lower (base' := w.heap.size) (by have := HB5.out.size; omega))
    clear hfind hyes hb7 hown
    go_wp2
    go_ret3
    exact PlPost.yes HOK.out H.out rfl HO.out HB7.out
/-- What Does hands back. -/
def DoPost (ss : List Sym) (c d : Cl) (w : World) (e : Ending) (w' : World) : Prop := e = .returned (.tuple #[.bool (subIs ss c d), .int .i64 (subE ss c d)]) ∧ Below w.heap.size w w'
set_option maxHeartbeats 4000000 in
theorem does_any (A : Option Addr) (n cp : Nat) (ss : List Sym) (v u : Cv) (c d : Cl) (w : World) (h : SymsAt w w.heap.size A n ss) (hn : n ≤ maxLen) (hnc : n ≤ cp) (hc : ClAt w w.heap.size v c) (hd : ClAt w w.heap.size u d) (hT : TabW w) (hTB : 0 < w.heap.size) :
    Calls Tryd.prog 12 #[.slice A n cp, v.val, u.val] w (DoPost ss c d w) := by
  obtain ⟨hx, hy, hb⟩ := CBox.two hc hd
  have hs := h.on hb
  have hT0 := hT.below hTB hb
  have hTB0 := Nat.lt_of_lt_of_le hTB hb.size
  rw [Cv.val_eq, Cv.val_eq]
  have HVE := Lib.hid v.val_eq
  have HUE := Lib.hid u.val_eq
  unfold Cv.obj at hx hy hb hs hT0 hTB0
  have HX := Lib.hid hx
  have HY := Lib.hid hy
  have HB0 := Lib.hid hb
  have hpl := places_any A n cp ss v u c d _ hs hn hnc hx.cl hy.cl hT0 hTB0
  have q0 := HY.out.c0
  have q1 := HY.out.c1
  have q2 := HY.out.c2
  have p0 := HX.out.c0
  have p1 := HX.out.c1
  have p2 := HX.out.c2
  clear h hc hd hx hy hb hs hT hTB hT0 hTB0
  go_enter Tryd.func12, Tryd.ntmps12
  go_wp2_with fail
  rw [← HVE.out, ← HUE.out]
  refine hpl.mono ?_
  rintro e w1 ⟨x, rfl, -, hb1⟩
  have HB1 := Lib.hid (HB0.out.trans (hb1.mono HB0.out.size))
  clear hpl hb1 q0 q1 q2 p0 p1 p2
  go_wp2
  go_ret2
  exact ⟨rfl, HB1.out⟩
end Go.Proofs.YtcjpopjcpgipjaaDoor
