/-
  Contracts of the reference: IsText, rest, fits, Find (paths).
-/
import Derived.Test.YthdpojokogiinaaPathFind
import Derived.Test.YthdpojokogiinaaPathWaysP
import Derived.Test.YthdpojokogiinaaRefCan
import Derived.Test.YthdpojokogiinaaRefMatch
import Derived.Test.YthdpojokogiinaaRefLits
import Derived.Test.YthdpojokogiinaaRefPaths
namespace Go.Proofs.Ythdpojokogiinaa
open Go.RowKit
set_option linter.unusedSimpArgs false
set_option linter.unusedVariables false
set_option maxRecDepth 100000

theorem refIsText_any (A A' : Option Addr) (n c m c' : Nat) (ss : List Sym) (r : List Int) (w : World) (h : SymsAt w w.heap.size A n ss) (hn : n ≤ maxLen) (hr : IntsAt w w.heap.size A' m r) (hm : m ≤ maxLen) (hmc : m ≤ c') (hmay : mayB ss = true) :
    Calls Try.prog 27 #[.slice A n c, .slice A' m c'] w fun e w' => e = .returned (.bool (exprB ss r)) ∧ Below w.heap.size w w' := by
  have H := Lib.hid (refIsTerm_any A A' n c m c' w.heap.size w.heap.size ss r w h hn hr hm hmay)
  have H2 := Lib.hid (refIsAtom_any A A' n c m c' ss r w h hn hr hm hmc hmay)
  have HE : Hid (exprB ss r = (atomB ss r || oneB ss r)) := rfl
  obtain ⟨E, hE⟩ : ∃ E, E = exprB ss r := ⟨_, rfl⟩
  rw [← hE] at HE ⊢
  clear h hr hE
  cases ho : oneB ss r
  · rw [ho, Bool.or_false] at HE
    rw [ho] at H
    go_enter Try.func27, Try.ntmps27
    go_wp2_with fail
    refine H.out.mono ?_
    rintro e w1 ⟨rfl, rfl⟩
    clear H ho
    go_wp2_with fail
    refine H2.out.mono ?_
    rintro e w1 ⟨rfl, hb⟩
    rw [← HE.out]
    have HB := Lib.hid hb
    clear H2 hb HE
    go_wp2
    go_ret
    exact ⟨rfl, HB.out⟩
  · rw [ho, Bool.or_true] at HE
    rw [ho] at H
    go_enter Try.func27, Try.ntmps27
    go_wp2_with fail
    refine H.out.mono ?_
    rintro e w1 ⟨rfl, rfl⟩
    clear H H2 ho
    go_wp2
    go_ret
    exact ⟨by rw [HE.out]; rfl, Below.refl _ _⟩
/-- What rest hands back: the row in memory, the predicate. -/
def RestPost (ss : List Sym) (t : List Int) (B : Nat) (w : World) (e : Ending) (w' : World) : Prop :=
  ∃ A m c, e = .returned (.tuple #[.slice A m c, .int .i64 (restP ss t).1]) ∧ RowAt w' B A m c (restP ss t).2 ∧ Below w.heap.size w w'
theorem pathRest_any (A A' : Option Addr) (n c m c' B : Nat) (ss : List Sym) (t : List Int) (w : World) (h : SymsAt w w.heap.size A n ss) (hn : n ≤ maxLen) (hr : IntsAt w B A' m t) (hB : B ≤ w.heap.size) (hm : m ≤ c') (hx : exprB ss t = true) :
    Calls Try.prog 48 #[.slice A n c, .slice A' m c'] w (RestPost ss t B w) := by
  have hx0 := expr_len hx
  have HL := Lib.hid hr.len
  have hm1 : 1 ≤ m := by rw [← hr.len]; omega
  have hc1 : 1 ≤ c' := by omega
  have z1 : 0 < m := hm1
  have z2 : (0 : Int) < (m : Int) := by omega
  have z3 : (1 : Int) ≤ (m : Int) := by omega
  have z4 : (m : Int) ≤ (c' : Int) := by omega
  have H := Lib.hid (refIsAtom_any A A' n c m c' ss t w h hn (hr.more hB) (by rw [← hr.len]; unfold maxLen; omega) hm (expr_may hx))
  cases ha : atomB ss t
  · have HREST : Hid (restP ss t = (-1, t)) := by show restP ss t = _; unfold restP; rw [ha]; rfl
    have hone : oneB ss t = true := by unfold exprB at hx; rw [ha, Bool.false_or] at hx; exact hx
    have HROW : Hid (RowAt w B A' m c' t) := ⟨hr, hm, by have := (one_parts hone).2.2.2; rw [hr.len] at this; exact this⟩
    rw [ha] at H
    clear hone ha hx hr h hx0
    go_enter Try.func48, Try.ntmps48
    go_wp2_with fail
    refine H.out.mono ?_
    rintro e w1 ⟨rfl, hb⟩
    have HB := Lib.hid hb
    clear H hb
    go_wp2
    go_ret2
    exact ⟨_, _, _, by rw [HREST.out]; rfl, by rw [HREST.out]; exact HROW.out.below (HB.out.mono hB), HB.out⟩
  · obtain ⟨p, s, rfl, hp, hpl, hk, hs, _⟩ := atom_parts ha
    have hml : m = s.length + 1 := by rw [← hr.len, List.length_cons]
    have HREST : Hid (restP ss (p :: s) = (p, s)) := by show restP ss (p :: s) = _; unfold restP; rw [ha]; rfl
    rw [hml] at hr
    have hsc : s.length + 1 ≤ c' := by rw [← hml]; exact hm
    obtain ⟨b, off, rfl, hb, h0, hd⟩ := expr_tail hr hsc
    have hs48 := (row_parts hs).2.1
    have HROW : Hid (RowAt w B (if c' = 1 then some ⟨b, off, none⟩ else some ⟨b, off + 1, none⟩) (m - 1) (c' - 1) s) := by
      refine ⟨?_, by omega, by omega⟩
      rw [hml, Nat.add_sub_cancel]; exact hd
    rw [ha] at H
    have H0 := Lib.hid h0
    clear hk hr h hd ha hx hml hx0 hs hs48 h0
    by_cases hc : c' = 1
    · subst hc
      rw [if_pos rfl] at HROW
      have hm1' : m = 1 := by omega
      subst hm1'
      go_enter Try.func48, Try.ntmps48
      go_wp2_with fail
      refine H.out.mono ?_
      rintro e w1 ⟨rfl, hb1⟩
      have HB := Lib.hid hb1
      have h0 := (hb1.cell (p := ⟨b, off, none⟩) (Nat.lt_of_lt_of_le hb hB)).trans H0.out
      clear H hb1
      go_wp2_with fail
      go_quiet (fail)
      go_wp2
      go_ret2
      exact ⟨_, _, _, by rw [HREST.out]; rfl, by rw [HREST.out]; exact (HROW.out.below (HB.out.mono hB)).below ((below_drewN _ _).mono (by have := HB.out.size; omega)), HB.out.trans ((below_drewN _ _).mono HB.out.size)⟩
    · rw [if_neg hc] at HROW
      go_enter Try.func48, Try.ntmps48
      go_wp2_with fail
      refine H.out.mono ?_
      rintro e w1 ⟨rfl, hb1⟩
      have HB := Lib.hid hb1
      have h0 := (hb1.cell (p := ⟨b, off, none⟩) (Nat.lt_of_lt_of_le hb hB)).trans H0.out
      clear H hb1
      go_wp2_with fail
      go_quiet (fail)
      go_wp2
      go_ret2
      exact ⟨_, _, _, by rw [HREST.out]; rfl, by rw [HREST.out]; exact (HROW.out.below (HB.out.mono hB)).below ((below_drewN _ _).mono (by have := HB.out.size; omega)), HB.out.trans ((below_drewN _ _).mono HB.out.size)⟩

/-- Do two expressions fit? -/
def Fits (ss : List Sym) (t : List Int) (way : Int) (u : List Int) : Prop := (restP ss u).1 = (restP ss t).1 ∧ Meets ss way (restP ss u).2 (restP ss t).2
def FitsRet (ss : List Sym) (t : List Int) (way : Int) (u : List Int) (w : World) (e : Ending) (w' : World) : Prop :=
  (∃ b, e = .returned (.bool b) ∧ (b = true ↔ Fits ss t way u)) ∧ Below w.heap.size w w'
theorem mtIs_mt {ss : List Sym} {a b : List Int} (ha : rowB ss a = true) (hb : rowB ss b = true) : mtIs ss a b = (mt ss b noT 0 a).isSome := by unfold mtIs mtO; rw [ha, hb]; rfl

set_option maxHeartbeats 1000000 in
theorem pathFits_any (A A1 A2 : Option Addr) (n c n1 c1 n2 c2 : Nat) (way : Int) (ss : List Sym) (u t : List Int) (w : World) (hway : wayB way = true) (hs : SymsAt w w.heap.size A n ss) (hn : n ≤ maxLen) (hu : IntsAt w w.heap.size A1 n1 u) (hnc1 : n1 ≤ c1) (ht : IntsAt w w.heap.size A2 n2 t) (hnc2 : n2 ≤ c2) (hxu : exprB ss u = true) (hx : exprB ss t = true) :
    Calls Try.prog 34 #[.slice A n c, .slice A1 n1 c1, .slice A2 n2 c2, .int .i64 way] w (FitsRet ss t way u w) := by
  have HS := Lib.hid hs
  have HU := Lib.hid hu
  have HT := Lib.hid ht
  have HXU := Lib.hid hxu
  have HX := Lib.hid hx
  clear hs hu ht hxu hx
  by_cases h0 : way = 0
  · subst h0
    clear hway
    go_enter Try.func34, Try.ntmps34
    go_wp2_with fail
    refine (pathRest_any A A1 n c n1 c1 w.heap.size ss u w HS.out hn HU.out (Nat.le_refl _) hnc1 HXU.out).mono ?_
    rintro e w1 ⟨B1, m1, d1, rfl, hr1, hb1⟩
    have HB1 := Lib.hid hb1
    have HR1 := Lib.hid hr1
    have HF : Hid (Fits ss t 0 u ↔ ((restP ss u).1 = (restP ss t).1 ∧ Meets ss 0 (restP ss u).2 (restP ss t).2)) := Iff.rfl
    have HYU := Lib.hid (rest_row HXU.out)
    have HYT := Lib.hid (rest_row HX.out)
    obtain ⟨P1, hP1⟩ : ∃ P1, P1 = (restP ss u).1 := ⟨_, rfl⟩
    obtain ⟨x, hx1⟩ : ∃ x, x = (restP ss u).2 := ⟨_, rfl⟩
    rw [← hP1, ← hx1] at HF
    rw [← hx1] at HR1 HYU
    rw [← hP1]
    clear hr1 hb1 hP1 hx1
    go_wp2_with fail
    refine (pathRest_any A A2 n c n2 c2 w.heap.size ss t w1 (HS.out.on HB1.out) hn (HT.out.below HB1.out) HB1.out.size hnc2 HX.out).mono ?_
    rintro e w2 ⟨B2, m2, d2, rfl, hr2, hb2⟩
    have HB2 := Lib.hid (HB1.out.trans (hb2.mono HB1.out.size))
    have HR12 := Lib.hid (HR1.out.below (hb2.mono HB1.out.size))
    have HR2 := Lib.hid hr2
    obtain ⟨P2, hP2⟩ : ∃ P2, P2 = (restP ss t).1 := ⟨_, rfl⟩
    obtain ⟨y, hy1⟩ : ∃ y, y = (restP ss t).2 := ⟨_, rfl⟩
    rw [← hP2, ← hy1] at HF
    rw [← hy1] at HR2 HYT
    rw [← hP2]
    have hsz2 := HB2.out.size
    clear hr2 hb2 hP2 hy1
    by_cases hpp : P1 = P2
    rotate_left
    · have hne : (P1 != P2) = true := by simp [hpp]
      have HNO : Hid (¬ Fits ss t 0 u) := fun q => hpp (HF.out.1 q).1
      clear hpp
      go_wp2
      go_ret
      exact ⟨⟨false, rfl, fun q => (by cases q), fun q => absurd q HNO.out⟩, HB2.out⟩
    subst hpp
    have hne : (P1 != P1) = false := by simp
    have HF2 : Hid (Fits ss t 0 u ↔ Meets ss 0 x y) := HF.out.trans ⟨fun q => q.2, fun q => ⟨rfl, q⟩⟩
    clear HF
    go_wp2_with fail
    refine (refCan_any A B2 B1 n c m2 d2 m1 d1 ss y x w2 (HS.out.on HB2.out) hn ⟨HR2.out.at_.more hsz2, HR2.out.cap, HR2.out.few⟩ ⟨HR12.out.at_.more hsz2, HR12.out.cap, HR12.out.few⟩ HYT.out HYU.out).mono ?_
    rintro e w3 ⟨h3, hb3⟩
    have HB3 := Lib.hid (HB2.out.trans (hb3.mono hsz2))
    rcases h3 with ⟨rfl, hyes⟩ | ⟨rfl, hno⟩
    · have HM : Hid (Fits ss t 0 u) := HF2.out.2 (meets_swap HYU.out (meets_zero.2 hyes))
      clear hyes hb3
      go_wp2
      go_ret
      exact ⟨⟨true, rfl, fun _ => HM.out, fun _ => rfl⟩, HB3.out⟩
    · have HM : Hid (¬ Fits ss t 0 u) := fun q => by
        obtain ⟨θ, k1, k2⟩ := meets_zero.1 (meets_swap HYT.out (HF2.out.1 q))
        exact hno θ k1 k2
      clear hno hb3
      go_wp2
      go_ret
      exact ⟨⟨false, rfl, fun q => (by cases q), fun q => absurd q HM.out⟩, HB3.out⟩
  by_cases h1 : way = 1
  · subst h1
    clear hway h0
    go_enter Try.func34, Try.ntmps34
    go_wp2_with fail
    refine (pathRest_any A A1 n c n1 c1 w.heap.size ss u w HS.out hn HU.out (Nat.le_refl _) hnc1 HXU.out).mono ?_
    rintro e w1 ⟨B1, m1, d1, rfl, hr1, hb1⟩
    have HB1 := Lib.hid hb1
    have HR1 := Lib.hid hr1
    have HF : Hid (Fits ss t 1 u ↔ ((restP ss u).1 = (restP ss t).1 ∧ Meets ss 1 (restP ss u).2 (restP ss t).2)) := Iff.rfl
    have HYU := Lib.hid (rest_row HXU.out)
    have HYT := Lib.hid (rest_row HX.out)
    obtain ⟨P1, hP1⟩ : ∃ P1, P1 = (restP ss u).1 := ⟨_, rfl⟩
    obtain ⟨x, hx1⟩ : ∃ x, x = (restP ss u).2 := ⟨_, rfl⟩
    rw [← hP1, ← hx1] at HF
    rw [← hx1] at HR1 HYU
    rw [← hP1]
    clear hr1 hb1 hP1 hx1
    go_wp2_with fail
    refine (pathRest_any A A2 n c n2 c2 w.heap.size ss t w1 (HS.out.on HB1.out) hn (HT.out.below HB1.out) HB1.out.size hnc2 HX.out).mono ?_
    rintro e w2 ⟨B2, m2, d2, rfl, hr2, hb2⟩
    have HB2 := Lib.hid (HB1.out.trans (hb2.mono HB1.out.size))
    have HR12 := Lib.hid (HR1.out.below (hb2.mono HB1.out.size))
    have HR2 := Lib.hid hr2
    obtain ⟨P2, hP2⟩ : ∃ P2, P2 = (restP ss t).1 := ⟨_, rfl⟩
    obtain ⟨y, hy1⟩ : ∃ y, y = (restP ss t).2 := ⟨_, rfl⟩
    rw [← hP2, ← hy1] at HF
    rw [← hy1] at HR2 HYT
    rw [← hP2]
    have hsz2 := HB2.out.size
    clear hr2 hb2 hP2 hy1
    by_cases hpp : P1 = P2
    rotate_left
    · have hne : (P1 != P2) = true := by simp [hpp]
      have HNO : Hid (¬ Fits ss t 1 u) := fun q => hpp (HF.out.1 q).1
      clear hpp
      go_wp2
      go_ret
      exact ⟨⟨false, rfl, fun q => (by cases q), fun q => absurd q HNO.out⟩, HB2.out⟩
    subst hpp
    have hne : (P1 != P1) = false := by simp
    have HF2 : Hid (Fits ss t 1 u ↔ Meets ss 1 x y) := HF.out.trans ⟨fun q => q.2, fun q => ⟨rfl, q⟩⟩
    clear HF
    go_wp2_with fail
    refine (refBecome_any A B2 B1 n c m2 d2 m1 d1 ss y x w2 (HS.out.on HB2.out) hn (HR2.out.at_.more hsz2) ⟨HR12.out.at_.more hsz2, HR12.out.cap, HR12.out.few⟩ HYT.out HYU.out).mono ?_
    rintro e w3 ⟨v3, rfl, _, hb3⟩
    have HB3 := Lib.hid (HB2.out.trans (hb3.mono hsz2))
    have HM : Hid (mtIs ss y x = true ↔ Fits ss t 1 u) := by show _ ↔ _; rw [mtIs_mt HYT.out HYU.out, HF2.out, meets_one]
    obtain ⟨b, hbe⟩ : ∃ b, b = mtIs ss y x := ⟨_, rfl⟩
    rw [← hbe] at HM ⊢
    clear hb3 hbe
    go_wp2
    go_ret
    exact ⟨⟨_, rfl, HM.out⟩, HB3.out⟩
  · have h2 : way = 2 := by unfold wayB at hway; simp at hway; omega
    subst h2
    clear hway h0 h1
    go_enter Try.func34, Try.ntmps34
    go_wp2_with fail
    refine (pathRest_any A A1 n c n1 c1 w.heap.size ss u w HS.out hn HU.out (Nat.le_refl _) hnc1 HXU.out).mono ?_
    rintro e w1 ⟨B1, m1, d1, rfl, hr1, hb1⟩
    have HB1 := Lib.hid hb1
    have HR1 := Lib.hid hr1
    have HF : Hid (Fits ss t 2 u ↔ ((restP ss u).1 = (restP ss t).1 ∧ Meets ss 2 (restP ss u).2 (restP ss t).2)) := Iff.rfl
    have HYU := Lib.hid (rest_row HXU.out)
    have HYT := Lib.hid (rest_row HX.out)
    obtain ⟨P1, hP1⟩ : ∃ P1, P1 = (restP ss u).1 := ⟨_, rfl⟩
    obtain ⟨x, hx1⟩ : ∃ x, x = (restP ss u).2 := ⟨_, rfl⟩
    rw [← hP1, ← hx1] at HF
    rw [← hx1] at HR1 HYU
    rw [← hP1]
    clear hr1 hb1 hP1 hx1
    go_wp2_with fail
    refine (pathRest_any A A2 n c n2 c2 w.heap.size ss t w1 (HS.out.on HB1.out) hn (HT.out.below HB1.out) HB1.out.size hnc2 HX.out).mono ?_
    rintro e w2 ⟨B2, m2, d2, rfl, hr2, hb2⟩
    have HB2 := Lib.hid (HB1.out.trans (hb2.mono HB1.out.size))
    have HR12 := Lib.hid (HR1.out.below (hb2.mono HB1.out.size))
    have HR2 := Lib.hid hr2
    obtain ⟨P2, hP2⟩ : ∃ P2, P2 = (restP ss t).1 := ⟨_, rfl⟩
    obtain ⟨y, hy1⟩ : ∃ y, y = (restP ss t).2 := ⟨_, rfl⟩
    rw [← hP2, ← hy1] at HF
    rw [← hy1] at HR2 HYT
    rw [← hP2]
    have hsz2 := HB2.out.size
    clear hr2 hb2 hP2 hy1
    by_cases hpp : P1 = P2
    rotate_left
    · have hne : (P1 != P2) = true := by simp [hpp]
      have HNO : Hid (¬ Fits ss t 2 u) := fun q => hpp (HF.out.1 q).1
      clear hpp
      go_wp2
      go_ret
      exact ⟨⟨false, rfl, fun q => (by cases q), fun q => absurd q HNO.out⟩, HB2.out⟩
    subst hpp
    have hne : (P1 != P1) = false := by simp
    have HF2 : Hid (Fits ss t 2 u ↔ Meets ss 2 x y) := HF.out.trans ⟨fun q => q.2, fun q => ⟨rfl, q⟩⟩
    clear HF
    go_wp2_with fail
    refine (refBecome_any A B1 B2 n c m1 d1 m2 d2 ss x y w2 (HS.out.on HB2.out) hn (HR12.out.at_.more hsz2) ⟨HR2.out.at_.more hsz2, HR2.out.cap, HR2.out.few⟩ HYU.out HYT.out).mono ?_
    rintro e w3 ⟨v3, rfl, _, hb3⟩
    have HB3 := Lib.hid (HB2.out.trans (hb3.mono hsz2))
    have HM : Hid (mtIs ss x y = true ↔ Fits ss t 2 u) := by show _ ↔ _; rw [mtIs_mt HYU.out HYT.out, HF2.out, meets_two]
    obtain ⟨b, hbe⟩ : ∃ b, b = mtIs ss x y := ⟨_, rfl⟩
    rw [← hbe] at HM ⊢
    clear hb3 hbe
    go_wp2
    go_ret
    exact ⟨⟨_, rfl, HM.out⟩, HB3.out⟩
theorem refPathsTop_any (A A' : Option Addr) (n c m c' : Nat) (ss : List Sym) (t : List Int) (w : World) (h : SymsAt w w.heap.size A n ss) (hn : n ≤ maxLen) (hr : IntsAt w w.heap.size A' m t) (hm : m ≤ maxLen) (hmc : m ≤ c') :
    Calls Try.prog 11 #[.slice A n c, .slice A' m c'] w (PthPost (pathsV ss t) (pathsE ss t) w) := by
  have HS := Lib.hid h
  have HR := Lib.hid hr
  clear h hr
  cases hmay : mayB ss
  · have HV : Hid (pathsV ss t = [] ∧ pathsE ss t = 1200) := by
      show _ ∧ _
      have hx : exprB ss t = false := by
        cases hx : exprB ss t
        · rfl
        · rw [expr_may hx] at hmay; cases hmay
      unfold pathsV pathsE; rw [hx]; exact ⟨rfl, rfl⟩
    go_enter Try.func11, Try.ntmps11
    go_wp2_with fail
    refine (signMay_any A n c ss w HS.out hn).mono ?_
    rintro e w1 ⟨rfl, hb1⟩
    rw [hmay]
    have HB1 := Lib.hid hb1
    clear hb1 hmay
    go_wp2
    go_ret2
    exact ⟨_, by rw [HV.out.2]; rfl, by rw [HV.out.1]; exact OwnT.nil_, HB1.out⟩
  have HM := Lib.hid hmay
  cases hx : exprB ss t
  · have HV : Hid (pathsV ss t = [] ∧ pathsE ss t = 1200) := by show _ ∧ _; unfold pathsV pathsE; rw [hx]; exact ⟨rfl, rfl⟩
    go_enter Try.func11, Try.ntmps11
    go_wp2_with fail
    refine (signMay_any A n c ss w HS.out hn).mono ?_
    rintro e w1 ⟨rfl, hb1⟩
    rw [hmay]
    have HB1 := Lib.hid hb1
    clear hb1 hmay
    go_wp2_with fail
    refine (refIsText_any A A' n c m c' ss t w1 (HS.out.on HB1.out) hn (HR.out.on HB1.out) hm hmc HM.out).mono ?_
    rintro e w2 ⟨rfl, hb2⟩
    rw [hx]
    have HB2 := Lib.hid (HB1.out.trans (hb2.mono HB1.out.size))
    clear hb2 hx
    go_wp2
    go_ret2
    exact ⟨_, by rw [HV.out.2]; rfl, by rw [HV.out.1]; exact OwnT.nil_, HB2.out⟩
  · have HV : Hid (pathsV ss t = pths ss t [] ∧ pathsE ss t = 0) := by show _ ∧ _; unfold pathsV pathsE; rw [hx]; exact ⟨rfl, rfl⟩
    have HX := Lib.hid hx
    go_enter Try.func11, Try.ntmps11
    go_wp2_with fail
    refine (signMay_any A n c ss w HS.out hn).mono ?_
    rintro e w1 ⟨rfl, hb1⟩
    rw [hmay]
    have HB1 := Lib.hid hb1
    clear hb1 hmay
    go_wp2_with fail
    refine (refIsText_any A A' n c m c' ss t w1 (HS.out.on HB1.out) hn (HR.out.on HB1.out) hm hmc HM.out).mono ?_
    rintro e w2 ⟨rfl, hb2⟩
    rw [hx]
    have HB2 := Lib.hid (HB1.out.trans (hb2.mono HB1.out.size))
    clear hb2 hx
    go_wp2_with fail
    refine (refPaths_any ss A n c hn HM.out t.length t [] none A' 0 0 m c' w2 (Nat.le_refl _) (expr_len HX.out).2 (expr_xpr HX.out) (by have := (expr_len HX.out).2; simp; omega) rfl (HS.out.on HB2.out) IntsAt.nil_ (fun _ => ⟨rfl, rfl⟩) (HR.out.on HB2.out) hmc).mono ?_
    rintro e w3 ⟨v, rfl, hv, hb3⟩
    have HV3 := Lib.hid (hv.lower HB2.out.size)
    have HB3 := Lib.hid (HB2.out.trans (hb3.mono HB2.out.size))
    clear hv hb3
    go_wp2
    go_ret2
    exact ⟨_, by rw [HV.out.2]; rfl, by rw [HV.out.1]; exact HV3.out, HB3.out⟩
theorem Hit.fits {ss : List Sym} {t u : List Int} {way : Int} : Hit ss t way u ↔ u ≠ [] ∧ Fits ss t way u := Iff.rfl

set_option maxHeartbeats 4000000 in
theorem refFind_any (A A1 A2 : Option Addr) (n c n1 c1 n2 c2 : Nat) (way : Int) (ss : List Sym) (ts : List (List Int)) (t : List Int) (w : World) (h : SymsAt w w.heap.size A n ss) (hn : n ≤ maxLen) (h1 : TupsAt w w.heap.size A1 n1 ts) (hn1 : n1 * 24 ≤ 140737488351232)
    (h2 : IntsAt w w.heap.size A2 n2 t) (hn2 : n2 ≤ maxLen) (hnc2 : n2 ≤ c2) :
    Calls Try.prog 19 #[.slice A n c, .slice A1 n1 c1, .slice A2 n2 c2, .int .i64 way] w (FindPost ss ts t way w) := by
  have HS := Lib.hid h
  have H1 := Lib.hid h1
  have H2 := Lib.hid h2
  have HL := Lib.hid h1.len
  clear h h1 h2
  have HN : (wayB way = false ∨ exprB ss t = false) → FindR ss ts t way [] 1200 := fun q => by
    refine .inl ⟨?_, rfl, rfl⟩
    unfold findOk
    rcases q with q | q <;> rw [q] <;> simp
  cases hmay : mayB ss
  · have HNO : Hid (FindR ss ts t way [] 1200) := HN (.inr (by
      cases hx : exprB ss t
      · rfl
      · rw [expr_may hx] at hmay; cases hmay))
    clear HN
    go_enter Try.func19, Try.ntmps19
    go_wp2_with fail
    refine (signMay_any A n c ss w HS.out hn).mono ?_
    rintro e w1 ⟨rfl, hb1⟩
    rw [hmay]
    have HB1 := Lib.hid hb1
    clear hb1 hmay
    go_wp2
    go_ret2
    exact ⟨_, [], 1200, rfl, OwnI.nil_, HNO.out, HB1.out⟩
  have HM := Lib.hid hmay
  by_cases hw0 : way < 0
  · have HNO : Hid (FindR ss ts t way [] 1200) := HN (.inl (by unfold wayB; simp; omega))
    clear HN
    go_enter Try.func19, Try.ntmps19
    go_wp2_with fail
    refine (signMay_any A n c ss w HS.out hn).mono ?_
    rintro e w1 ⟨rfl, hb1⟩
    rw [hmay]
    have HB1 := Lib.hid hb1
    clear hb1 hmay
    go_wp2
    go_ret2
    exact ⟨_, [], 1200, rfl, OwnI.nil_, HNO.out, HB1.out⟩
  by_cases hw2 : 2 < way
  · have HNO : Hid (FindR ss ts t way [] 1200) := HN (.inl (by unfold wayB; simp; omega))
    have hw0' : decide (way < 0) = false := by simp; omega
    have hw2' : decide (way > 2) = true := by simp; omega
    clear HN
    go_enter Try.func19, Try.ntmps19
    go_wp2_with fail
    refine (signMay_any A n c ss w HS.out hn).mono ?_
    rintro e w1 ⟨rfl, hb1⟩
    rw [hmay]
    have HB1 := Lib.hid hb1
    clear hb1 hmay
    go_wp2
    go_ret2
    exact ⟨_, [], 1200, rfl, OwnI.nil_, HNO.out, HB1.out⟩
  have hway : wayB way = true := by unfold wayB; simp; omega
  have HW := Lib.hid hway
  have g0 : decide (way < 0) = false := by simp; omega
  have g2 : decide (way > 2) = false := by simp; omega
  cases hx : exprB ss t
  · have HNO : Hid (FindR ss ts t way [] 1200) := HN (.inr hx)
    clear HN hway
    go_enter Try.func19, Try.ntmps19
    go_wp2_with fail
    refine (signMay_any A n c ss w HS.out hn).mono ?_
    rintro e w1 ⟨rfl, hb1⟩
    rw [hmay]
    have HB1 := Lib.hid hb1
    clear hb1 hmay
    go_wp2_with fail
    refine (refIsText_any A A2 n c n2 c2 ss t w1 (HS.out.on HB1.out) hn (H2.out.on HB1.out) hn2 hnc2 HM.out).mono ?_
    rintro e w2 ⟨rfl, hb2⟩
    rw [hx]
    have HB2 := Lib.hid (HB1.out.trans (hb2.mono HB1.out.size))
    clear hb2 hx
    go_wp2
    go_ret2
    exact ⟨_, [], 1200, rfl, OwnI.nil_, HNO.out, HB2.out⟩
  have HX := Lib.hid hx
  clear HN hway
  go_enter Try.func19, Try.ntmps19
  go_wp2_with fail
  refine (signMay_any A n c ss w HS.out hn).mono ?_
  rintro e w1 ⟨rfl, hb1⟩
  rw [hmay]
  have HB1 := Lib.hid hb1
  clear hb1 hmay
  go_wp2_with fail
  refine (refIsText_any A A2 n c n2 c2 ss t w1 (HS.out.on HB1.out) hn (H2.out.on HB1.out) hn2 hnc2 HM.out).mono ?_
  rintro e w2 ⟨rfl, hb2⟩
  rw [hx]
  have HB2 := Lib.hid (HB1.out.trans (hb2.mono HB1.out.size))
  clear hb2 hx hw0 hw2 g0 g2
  go_wp2
  go_loopw [10] (fun i wr => ∃ k : Nat, i = .int .i64 k ∧ k ≤ n1 ∧ (∀ j, j < k → okRow ss (rowOf ts j) = true) ∧ Below w.heap.size w wr) (fun i _ => n1 - (intOf i).toNat)
  case atStart => exact ⟨0, rfl, by omega, fun j hj => absurd hj (by omega), HB2.out⟩
  case round =>
    obtain ⟨k, rfl, hk, hall, hbw⟩ := hrel
    have HALL := Lib.hid hall
    have HBW := Lib.hid hbw
    have hsz := hbw.size
    clear hall hbw
    by_cases hlt : k < n1
    · obtain ⟨b, off, Au, cu, rfl, hb, hcell, hrow, hnil⟩ := H1.out.one hlt
      have HU := Lib.hid (hrow.below HBW.out)
      have hcell' := (HBW.out.cell (p := ⟨b, off + k, none⟩) hb).trans hcell
      obtain ⟨u, hu⟩ : ∃ u, u = rowOf ts k := ⟨_, rfl⟩
      rw [← hu] at hcell' HU
      have HUE := Lib.hid hu
      obtain ⟨m, hm⟩ : ∃ m, m = u.length := ⟨_, rfl⟩
      rw [← hm] at hcell' HU
      have HMM := Lib.hid hm
      have hk0 : (0 : Int) ≤ (k : Int) := by omega
      have hk1 : (k : Int) < (n1 : Int) := by omega
      clear hcell hrow hnil hu hm
      by_cases h0 : m = 0
      · subst h0
        have hu0 : u = [] := List.length_eq_zero_iff.1 HMM.out.symm
        have HA2 : Hid (∀ j, j < k + 1 → okRow ss (rowOf ts j) = true) := by
          intro j hj
          by_cases e : j = k
          · subst e; rw [← HUE.out, hu0]; rfl
          · exact HALL.out j (by omega)
        clear hu0
        go_wp2
        go_roundw
        case rel => exact ⟨k + 1, by go_num, by omega, HA2.out, HBW.out⟩
        case measure => simp [intOf]; omega
      · have hne : (0 : Int) < (m : Int) := by omega
        have hne2 : decide ((m : Int) > 0) = true := by simp; omega
        have HUN : Hid (u ≠ []) := by show u ≠ []; intro e; have := HMM.out; rw [e] at this; exact h0 this
        clear h0
        cases hxu : exprB ss u
        · have HNO : Hid (FindR ss ts t way [] 1200) := by
            refine .inl ⟨?_, rfl, rfl⟩
            unfold findOk
            rw [all_no (k := k) (by rw [HL.out]; exact hlt)]
            · simp
            · unfold okRow; rw [← HUE.out, hxu, Bool.or_false]
              cases hu : u with
              | nil => exact absurd hu HUN.out
              | cons _ _ => rfl
          go_wp2_with fail
          refine (refIsText_any A Au n c m cu ss u wr (HS.out.on HBW.out) hn (HU.out.at_.more hsz) HU.out.big HU.out.cap HM.out).mono ?_
          rintro e w3 ⟨rfl, hb3⟩
          rw [hxu]
          have HB3 := Lib.hid (HBW.out.trans (hb3.mono hsz))
          clear hb3 hxu
          go_wp2
          go_ret2
          exact ⟨_, [], 1200, rfl, OwnI.nil_, HNO.out, HB3.out⟩
        · have HXU := Lib.hid hxu
          have HA2 : Hid (∀ j, j < k + 1 → okRow ss (rowOf ts j) = true) := by
            intro j hj
            by_cases e : j = k
            · subst e; unfold okRow; rw [← HUE.out, HXU.out, Bool.or_true]
            · exact HALL.out j (by omega)
          go_wp2_with fail
          refine (refIsText_any A Au n c m cu ss u wr (HS.out.on HBW.out) hn (HU.out.at_.more hsz) HU.out.big HU.out.cap HM.out).mono ?_
          rintro e w3 ⟨rfl, hb3⟩
          rw [hxu]
          have HB3 := Lib.hid (HBW.out.trans (hb3.mono hsz))
          clear hb3 hxu
          go_wp2
          go_roundw
          case rel => exact ⟨k + 1, by go_num, by omega, HA2.out, HB3.out⟩
          case measure => simp [intOf]; omega
    · obtain rfl : n1 = k := by omega
      have HOK : Hid (findOk ss ts t way = true) := by
        show findOk ss ts t way = true
        unfold findOk
        rw [HW.out, HX.out, all_yes (fun j hj => HALL.out j (by rw [← HL.out]; exact hj))]; rfl
      have HOKR : Hid (∀ j, j < n1 → okRow ss (rowOf ts j) = true) := HALL.out
      clear hlt HALL
      go_wp2
      obtain ⟨wA, hwA⟩ : ∃ wA, wA = wr := ⟨_, rfl⟩
      subst hwA
      go_loopw [11, 12] (fun q i wr => ∃ (k : Nat) (out : List Int), i = .int .i64 k ∧ k ≤ n1 ∧ OwnI wr w.heap.size q out ∧ Fnd (fun i => Hit ss t way (rowOf ts i)) k out ∧ Below w.heap.size w wr) (fun _ i _ => n1 - (intOf i).toNat)
      case atStart => exact ⟨0, [], rfl, by omega, OwnI.nil_, .zero, HBW.out⟩
      case round =>
        obtain ⟨k, out, rfl, hk, hown, hf, hbw⟩ := hrel
        have HOWN := Lib.hid hown
        have HF := Lib.hid hf
        have HBR := Lib.hid hbw
        have hszr := hbw.size
        obtain ⟨Aq, cq, hq, _, _⟩ := hown.intsAt
        obtain ⟨Lq, hLq⟩ : ∃ Lq, Lq = out.length := ⟨_, rfl⟩
        rw [← hLq] at hq
        clear hown hf hbw hLq
        subst hq
        by_cases hlt : k < n1
        · obtain ⟨b, off, Au, cu, rfl, hb, hcell, hrow, hnil⟩ := H1.out.one hlt
          have HU := Lib.hid (hrow.below HBR.out)
          have hcell' := (HBR.out.cell (p := ⟨b, off + k, none⟩) hb).trans hcell
          obtain ⟨u, hu⟩ : ∃ u, u = rowOf ts k := ⟨_, rfl⟩
          rw [← hu] at hcell' HU
          have HUE := Lib.hid hu
          obtain ⟨m, hm⟩ : ∃ m, m = u.length := ⟨_, rfl⟩
          rw [← hm] at hcell' HU
          have HMM := Lib.hid hm
          have hk0 : (0 : Int) ≤ (k : Int) := by omega
          have hk1 : (k : Int) < (n1 : Int) := by omega
          have HOU : Hid (okRow ss u = true) := by show okRow ss u = true; rw [HUE.out]; exact HOKR.out k hlt
          clear hcell hrow hnil hu hm
          by_cases h0 : m = 0
          · subst h0
            have hu0 : u = [] := List.length_eq_zero_iff.1 HMM.out.symm
            have HNX : Hid (Fnd (fun i => Hit ss t way (rowOf ts i)) (k + 1) out) := .no HF.out (fun hh => hh.1 (by rw [← HUE.out]; exact hu0))
            clear hu0
            go_wp2
            go_roundw
            case rel => exact ⟨k + 1, out, by go_num, by omega, HOWN.out, HNX.out, HBR.out⟩
            case measure => simp [intOf]; omega
          · have hne : (0 : Int) < (m : Int) := by omega
            have hne2 : decide ((m : Int) > 0) = true := by simp; omega
            have HUN : Hid (u ≠ []) := by show u ≠ []; intro e; have := HMM.out; rw [e] at this; exact h0 this
            have HXU : Hid (exprB ss u = true) := by
              have := HOU.out
              unfold okRow at this
              cases hu : u with
              | nil => exact absurd hu HUN.out
              | cons x r => rw [hu] at this; exact this
            have HHIT : Hid (Hit ss t way (rowOf ts k) ↔ Fits ss t way u) := by
              show _ ↔ _
              rw [← HUE.out, Hit.fits]
              exact ⟨fun q => q.2, fun q => ⟨HUN.out, q⟩⟩
            clear h0
            go_wp2_with fail
            refine (pathFits_any A Au A2 n c m cu n2 c2 way ss u t wr HW.out (HS.out.on HBR.out) hn (HU.out.at_.more hszr) HU.out.cap (H2.out.on HBR.out) hnc2 HXU.out HX.out).mono ?_
            rintro e w5 ⟨⟨bq, rfl, hbq⟩, hb5⟩
            have HBQ := Lib.hid hbq
            have HB5 := Lib.hid (HBR.out.trans (hb5.mono hszr))
            have HO5 := Lib.hid (HOWN.out.on hb5)
            have hsz5 := HB5.out.size
            clear hbq hb5
            cases bq
            · have HNX : Hid (Fnd (fun i => Hit ss t way (rowOf ts i)) (k + 1) out) := .no HF.out (fun hh => by have := HBQ.out.2 (HHIT.out.1 hh); cases this)
              go_wp2
              go_roundw
              case rel => exact ⟨k + 1, out, by go_num, by omega, HO5.out, HNX.out, HB5.out⟩
              case measure => simp [intOf]; omega
            · have HNX : Hid (Fnd (fun i => Hit ss t way (rowOf ts i)) (k + 1) (out ++ [(k : Int)])) := .yes HF.out (HHIT.out.2 (HBQ.out.1 rfl))
              have HLE : Hid (out.length + 1 ≤ 17592186044416) := by have := HF.out.len; show _ ≤ _; omega
              go_wp2_with (at_builtin
                           refine app_ints rfl (.tmp 73) (.tmp 75) rfl w.heap.size _ out rfl (HO5.out.alloc _) (some ⟨w5.heap.size, 0, none⟩) 1 1 _ [(k : Int)] rfl (fun e => by cases e) (IntsAt.news w5 [(k : Int)]) HLE.out (by simp; omega) ?_
                           intro v6 w6 hown6 hb6
                           have HO6 := Lib.hid hown6
                           have HB6 := Lib.hid ((HB5.out.alloc hsz5 _).trans hb6)
                           clear hown6 hb6)
              go_roundw
              case rel => exact ⟨k + 1, _, by go_num, by omega, HO6.out, HNX.out, HB6.out⟩
              case measure => simp [intOf]; omega
        · obtain rfl : n1 = k := by omega
          have HYES : Hid (FindR ss ts t way out 0) := .inr ⟨HOK.out, rfl, by rw [HL.out]; exact HF.out⟩
          clear hlt
          go_wp2
          go_ret2
          exact ⟨_, out, 0, rfl, HOWN.out, HYES.out, HBR.out⟩
end Go.Proofs.Ythdpojokogiinaa
