/-
  Contracts: slices.EqualFunc of literals and of rows, clause.sameRow, same, Variant.
-/
import Derived.Test.YtjdmnplkgimaiaaClauseNorm
namespace Go.Proofs.Ytjdmnplkgimaiaa
open Go.RowKit Go.Deep
set_option linter.unusedSimpArgs false
set_option linter.unusedVariables false
set_option maxRecDepth 100000

theorem sameL_iff' {p q : Lt} : sameL p q = true ↔ p = q := by
  unfold sameL sameI
  rw [Bool.and_eq_true, beq_iff_eq, decide_eq_true_iff]
  exact ⟨fun h => Lt.ext_ h.1 h.2, fun h => by rw [h]; exact ⟨rfl, rfl⟩⟩
theorem lits_same {ls ms : List Lt} {n : Nat} (h1 : ls.length = n) (h2 : ms.length = n) (h : ∀ j, j < n → sameL (ltAt ls j) (ltAt ms j) = true) : ls = ms := by
  apply List.ext_getElem?
  intro i
  by_cases hi : i < n
  · rw [ltAt_get (by omega), ltAt_get (by omega), sameL_iff'.1 (h i hi)]
  · rw [List.getElem?_eq_none (by omega), List.getElem?_eq_none (by omega)]
theorem rows_same {ls ms : List (List Int)} {n : Nat} (h1 : ls.length = n) (h2 : ms.length = n) (h : ∀ j, j < n → sameI (rowOf ls j) (rowOf ms j) = true) : ls = ms := by
  apply List.ext_getElem?
  intro i
  by_cases hi : i < n
  · have := h i hi
    unfold sameI at this
    rw [decide_eq_true_iff] at this
    rw [rowOf_get (by omega), rowOf_get (by omega), this]
  · rw [List.getElem?_eq_none (by omega), List.getElem?_eq_none (by omega)]
theorem lits_not {ls ms : List Lt} {k : Nat} (h : sameL (ltAt ls k) (ltAt ms k) = false) : ¬ ls = ms := by
  intro e
  rw [e, sameL_iff'.2 rfl] at h
  cases h
theorem rows_not {ls ms : List (List Int)} {k : Nat} (h : sameI (rowOf ls k) (rowOf ms k) = false) : ¬ ls = ms := by
  intro e
  rw [e] at h
  unfold sameI at h
  simp at h
instance : DecidableEq Cl := fun p q => decidable_of_iff (p.lits = q.lits ∧ p.tups = q.tups ∧ p.conds = q.conds) ⟨fun h => by cases p; cases q; simp_all, fun h => by rw [h]; exact ⟨rfl, rfl, rfl⟩⟩
def sameC (c d : Cl) : Bool := decide (c = d)
theorem sameC_parts (c d : Cl) : sameC c d = (decide (c.lits = d.lits) && (decide (c.tups = d.tups) && decide (c.conds = d.conds))) := by
  unfold sameC
  rw [Bool.eq_iff_iff]
  simp only [Bool.and_eq_true, decide_eq_true_iff]
  cases c; cases d; simp

set_option maxHeartbeats 1000000 in
theorem sameRow_any (A1 A2 : Option Addr) (n1 c1 n2 c2 : Nat) (p q : List Int) (w : World) (h1 : RowIn w w.heap.size A1 n1 c1 p) (h2 : RowIn w w.heap.size A2 n2 c2 q) :
    Calls Try.prog 52 #[.slice A1 n1 c1, .slice A2 n2 c2] w fun e w' => e = .returned (.bool (sameI p q)) ∧ Below w.heap.size w w' := by
  have H1 := Lib.hid h1
  have H2 := Lib.hid h2
  clear h1 h2
  go_enter Try.func52, Try.ntmps52
  go_wp2_with fail
  refine (equal_any A1 A2 n1 c1 n2 c2 _ _ p q _ H1.out.at_ H2.out.at_ H1.out.big H2.out.big).mono ?_
  rintro e w1 ⟨rfl, hb1⟩
  have HB1 := Lib.hid hb1
  clear hb1
  go_wp2
  go_ret
  exact ⟨rfl, HB1.out⟩
set_option maxHeartbeats 1000000 in
theorem equalLits_any (A A1 : Option Addr) (n c n1 c1 : Nat) (ls ms : List Lt) (w : World) (hl : LitsAt w w.heap.size A n ls) (hn : n ≤ 5864062014634) (h1 : LitsAt w w.heap.size A1 n1 ms) (hn1 : n1 ≤ 5864062014634) :
    Calls Try.prog 49 #[.slice A n c, .slice A1 n1 c1, .func (.func 50) #[] #[]] w fun e w' => e = .returned (.bool (decide (ls = ms))) ∧ Below w.heap.size w w' := by
  have HA := Lib.hid hl
  have HC := Lib.hid h1
  have HL := Lib.hid hl.len
  have HL1 := Lib.hid h1.len
  clear hl h1
  by_cases hnm : n = n1
  case neg =>
    have HX : Hid (decide (ls = ms) = false) := decide_eq_false fun q => hnm (by rw [← HL.out, ← HL1.out, q])
    go_enter Try.func49, Try.ntmps49
    have h' : ¬ (n : Int) = (n1 : Int) := by omega
    go_wp2
    go_ret
    exact ⟨ret_b HX.out.symm, Below.refl _ _⟩
  subst hnm
  go_enter Try.func49, Try.ntmps49
  go_wp2
  go_loopw [17] (fun j wr => ∃ k : Nat, j = .int .i64 k ∧ k ≤ n ∧ (∀ j, j < k → sameL (ltAt ls j) (ltAt ms j) = true) ∧ Below w.heap.size w wr) (fun j _ => n - (intOf j).toNat)
  case atStart => exact ⟨0, rfl, by omega, fun j hj => absurd hj (by omega), Below.refl _ _⟩
  case round =>
    obtain ⟨k, rfl, hk, hyes, hbw⟩ := hrel
    have HBW := Lib.hid hbw
    have HY := Lib.hid hyes
    clear hbw hyes
    by_cases hlt : k < n
    · have HNX : Hid (sameL (ltAt ls k) (ltAt ms k) = true → ∀ j, j < k + 1 → sameL (ltAt ls j) (ltAt ms j) = true) := by
        intro q j hj
        by_cases e : j = k
        · rw [e]; exact q
        · exact HY.out j (by omega)
      have HNO : Hid (sameL (ltAt ls k) (ltAt ms k) = false → decide (ls = ms) = false) := fun q => decide_eq_false (lits_not q)
      obtain ⟨b1, o1, A3, c3, rfl, _, d0, d1, i3⟩ := (HA.out.on HBW.out).one hlt
      obtain ⟨b2, o2, A4, c4, rfl, _, e0, e1, i4⟩ := (HC.out.on HBW.out).one hlt
      obtain ⟨p, hp⟩ : ∃ p, p = ltAt ls k := ⟨_, rfl⟩
      obtain ⟨q, hq⟩ : ∃ q, q = ltAt ms k := ⟨_, rfl⟩
      rw [← hp] at d0 d1 i3 HNX HNO
      rw [← hq] at e0 e1 i4 HNX HNO
      have hb2 := below_new2 wr (.cells #[.bool p.neg, .slice A3 p.atom.length c3] 44) (.cells #[.bool q.neg, .slice A4 q.atom.length c4] 44)
      have HI3 := Lib.hid (i3.on hb2)
      have HI4 := Lib.hid (i4.on hb2)
      have HB0 := Lib.hid (HBW.out.trans (hb2.mono HBW.out.size))
      have hlb : b2 < wr.heap.size := by assumption
      have hi0 : (0 : Int) ≤ (k : Int) := by omega
      have hi3 : (k : Int) < (n : Int) := by omega
      clear i3 i4 hp hq hb2
      go_wp2_with fail
      refine (sameLit_any A3 A4 _ c3 _ c4 p q _ HI3.out HI4.out).mono ?_
      rintro e w2 ⟨rfl, hb3⟩
      have HB2 := Lib.hid (HB0.out.trans (hb3.mono HB0.out.size))
      clear hb3 d0 d1 e0 e1
      cases hpb : sameL p q
      · have HZ := Lib.hid (HNO.out hpb)
        clear hpb
        go_wp2
        go_ret
        exact ⟨ret_b HZ.out.symm, HB2.out⟩
      · have HZ := Lib.hid (HNX.out hpb)
        clear hpb
        go_wp2
        go_roundw
        case rel => exact ⟨k + 1, by go_num, by omega, HZ.out, HB2.out⟩
        case measure => simp [intOf]; omega
    · obtain rfl : k = n := by omega
      have HX : Hid (decide (ls = ms) = true) := decide_eq_true (lits_same HL.out HL1.out HY.out)
      go_wp2
      go_ret
      exact ⟨ret_b HX.out.symm, HBW.out⟩
set_option maxHeartbeats 1000000 in
theorem equalRows_any (A A1 : Option Addr) (n c n1 c1 : Nat) (ls ms : List (List Int)) (w : World) (hl : TupsAt w w.heap.size A n ls) (hn : n ≤ 5864062014634) (h1 : TupsAt w w.heap.size A1 n1 ms) (hn1 : n1 ≤ 5864062014634) :
    Calls Try.prog 51 #[.slice A n c, .slice A1 n1 c1, .func (.func 52) #[] #[]] w fun e w' => e = .returned (.bool (decide (ls = ms))) ∧ Below w.heap.size w w' := by
  have HA := Lib.hid hl
  have HC := Lib.hid h1
  have HL := Lib.hid hl.len
  have HL1 := Lib.hid h1.len
  clear hl h1
  by_cases hnm : n = n1
  case neg =>
    have HX : Hid (decide (ls = ms) = false) := decide_eq_false fun q => hnm (by rw [← HL.out, ← HL1.out, q])
    go_enter Try.func51, Try.ntmps51
    have h' : ¬ (n : Int) = (n1 : Int) := by omega
    go_wp2
    go_ret
    exact ⟨ret_b HX.out.symm, Below.refl _ _⟩
  subst hnm
  go_enter Try.func51, Try.ntmps51
  go_wp2
  go_loopw [17] (fun j wr => ∃ k : Nat, j = .int .i64 k ∧ k ≤ n ∧ (∀ j, j < k → sameI (rowOf ls j) (rowOf ms j) = true) ∧ Below w.heap.size w wr) (fun j _ => n - (intOf j).toNat)
  case atStart => exact ⟨0, rfl, by omega, fun j hj => absurd hj (by omega), Below.refl _ _⟩
  case round =>
    obtain ⟨k, rfl, hk, hyes, hbw⟩ := hrel
    have HBW := Lib.hid hbw
    have HY := Lib.hid hyes
    clear hbw hyes
    by_cases hlt : k < n
    · have HNX : Hid (sameI (rowOf ls k) (rowOf ms k) = true → ∀ j, j < k + 1 → sameI (rowOf ls j) (rowOf ms j) = true) := by
        intro q j hj
        by_cases e : j = k
        · rw [e]; exact q
        · exact HY.out j (by omega)
      have HNO : Hid (sameI (rowOf ls k) (rowOf ms k) = false → decide (ls = ms) = false) := fun q => decide_eq_false (rows_not q)
      obtain ⟨b1, o1, A3, c3, rfl, _, d0, i3, -⟩ := (HA.out.on HBW.out).one hlt
      obtain ⟨b2, o2, A4, c4, rfl, _, e0, i4, -⟩ := (HC.out.on HBW.out).one hlt
      obtain ⟨p, hp⟩ : ∃ p, p = rowOf ls k := ⟨_, rfl⟩
      obtain ⟨q, hq⟩ : ∃ q, q = rowOf ms k := ⟨_, rfl⟩
      rw [← hp] at d0 i3 HNX HNO
      rw [← hq] at e0 i4 HNX HNO
      have HI3 := Lib.hid i3
      have HI4 := Lib.hid i4
      have hi0 : (0 : Int) ≤ (k : Int) := by omega
      have hi3 : (k : Int) < (n : Int) := by omega
      clear i3 i4 hp hq
      go_wp2_with fail
      refine (sameRow_any A3 A4 _ c3 _ c4 p q _ HI3.out HI4.out).mono ?_
      rintro e w2 ⟨rfl, hb3⟩
      have HB2 := Lib.hid (HBW.out.trans (hb3.mono HBW.out.size))
      clear hb3 d0 e0
      cases hpb : sameI p q
      · have HZ := Lib.hid (HNO.out hpb)
        clear hpb
        go_wp2
        go_ret
        exact ⟨ret_b HZ.out.symm, HB2.out⟩
      · have HZ := Lib.hid (HNX.out hpb)
        clear hpb
        go_wp2
        go_roundw
        case rel => exact ⟨k + 1, by go_num, by omega, HZ.out, HB2.out⟩
        case measure => simp [intOf]; omega
    · obtain rfl : k = n := by omega
      have HX : Hid (decide (ls = ms) = true) := decide_eq_true (rows_same HL.out HL1.out HY.out)
      go_wp2
      go_ret
      exact ⟨ret_b HX.out.symm, HBW.out⟩

set_option maxHeartbeats 1000000 in
theorem sameC_any (v u : Cv) (c d : Cl) (w : World) (h : ClAt w w.heap.size v c) (k : ClAt w w.heap.size u d) :
    Calls Try.prog 31 #[v.val, u.val] w fun e w' => e = .returned (.bool (sameC c d)) ∧ Below w.heap.size w w' := by
  have f1 := h.f1
  have f2 := h.f2
  have f3 := h.f3
  have g1 := k.f1
  have g2 := k.f2
  have g3 := k.f3
  obtain ⟨hx, hy, hb⟩ := CBox.two h k
  rw [Cv.val_eq, Cv.val_eq]
  unfold Cv.obj at hx hy hb
  have HX := Lib.hid hx
  have HY := Lib.hid hy
  have HB0 := Lib.hid hb
  have HE := Lib.hid (sameC_parts c d)
  clear h k hx hy hb
  go_enter Try.func31, Try.ntmps31
  go_wp2_with fail
  obtain ⟨w0, hw0⟩ : ∃ w0, w0 = ((w.alloc (.cells #[.slice v.A1 v.n1 v.c1, .slice v.A2 v.n2 v.c2, .slice v.A3 v.n3 v.c3] 26)).alloc (.cells #[.slice u.A1 u.n1 u.c1, .slice u.A2 u.n2 u.c2, .slice u.A3 u.n3 u.c3] 26)) := ⟨_, rfl⟩
  rw [← hw0] at HX HY HB0 ⊢
  clear hw0
  refine (equalLits_any v.A1 u.A1 v.n1 v.c1 u.n1 u.c1 c.lits d.lits _ HX.out.cl.lits (by omega) HY.out.cl.lits (by omega)).mono ?_
  rintro e w1 ⟨rfl, hb1⟩
  have HB1 := Lib.hid (HB0.out.trans (hb1.mono HB0.out.size))
  replace HX := Lib.hid (HX.out.on hb1)
  replace HY := Lib.hid (HY.out.on hb1)
  clear hb1
  have p0 := HX.out.c0
  have p1 := HX.out.c1
  have p2 := HX.out.c2
  have q0 := HY.out.c0
  have q1 := HY.out.c1
  have q2 := HY.out.c2
  cases hm : decide (c.lits = d.lits)
  case false =>
    rw [hm] at HE
    clear hm
    go_wp2
    go_ret
    exact ⟨ret_b (by rw [HE.out]; rfl), HB1.out⟩
  rw [hm] at HE
  clear hm
  go_wp2_with fail
  refine (equalRows_any v.A2 u.A2 v.n2 v.c2 u.n2 u.c2 c.tups d.tups _ HX.out.cl.tups (by omega) HY.out.cl.tups (by omega)).mono ?_
  rintro e w2 ⟨rfl, hb2⟩
  have HB2 := Lib.hid (HB1.out.trans (hb2.mono HB1.out.size))
  replace HX := Lib.hid (HX.out.on hb2)
  replace HY := Lib.hid (HY.out.on hb2)
  clear hb2 p0 p1 p2 q0 q1 q2
  have p0 := HX.out.c0
  have p1 := HX.out.c1
  have p2 := HX.out.c2
  have q0 := HY.out.c0
  have q1 := HY.out.c1
  have q2 := HY.out.c2
  cases hm : decide (c.tups = d.tups)
  case false =>
    rw [hm] at HE
    clear hm
    go_wp2
    go_ret
    exact ⟨ret_b (by rw [HE.out]; rfl), HB2.out⟩
  rw [hm] at HE
  clear hm
  go_wp2_with fail
  refine (equalLits_any v.A3 u.A3 v.n3 v.c3 u.n3 u.c3 c.conds d.conds _ HX.out.cl.conds (by omega) HY.out.cl.conds (by omega)).mono ?_
  rintro e w3 ⟨rfl, hb3⟩
  have HB3 := Lib.hid (HB2.out.trans (hb3.mono HB2.out.size))
  clear hb3 p0 p1 p2 q0 q1 q2
  go_wp2
  go_ret
  exact ⟨ret_b (by rw [HE.out]; simp), HB3.out⟩

theorem MayC.fit {ss : List Sym} {c : Cl} (h : MayC ss c) : Fit c where
  l := by have := h.nl; omega
  t := by have := h.nt; omega
  d := by have := h.nc; omega
  r := fun r hr => by have := h.small.r r hr; omega
def varB (ss : List Sym) (c d : Cl) : Bool := mayC ss c && (mayC ss d && sameC (norm c) (norm d))
def clE2 (ss : List Sym) (c d : Cl) : Int := if mayC ss c && mayC ss d then 0 else 800
def BoolPost (x : Bool) (E : Int) (w : World) (e : Ending) (w' : World) : Prop := e = .returned (.tuple #[.bool x, .int .i64 E]) ∧ Below w.heap.size w w'
theorem ret_bi {x y : Bool} {a b : Int} (h : x = y) (k : a = b) : Ending.returned (.tuple #[.bool x, .int .i64 a]) = .returned (.tuple #[.bool y, .int .i64 b]) := by rw [h, k]

set_option maxHeartbeats 4000000 in
theorem variantC_any (A : Option Addr) (n cp : Nat) (ss : List Sym) (v u : Cv) (c d : Cl) (w : World) (h : SymsAt w w.heap.size A n ss) (hn : n ≤ maxLen) (hnc : n ≤ cp) (hc : ClAt w w.heap.size v c) (hd : ClAt w w.heap.size u d) :
    Calls Try.prog 15 #[.slice A n cp, v.val, u.val] w (BoolPost (varB ss c d) (clE2 ss c d) w) := by
  obtain ⟨hx, hy, hb⟩ := CBox.two hc hd
  have hs := h.on hb
  have HVA : Hid (varB ss c d = (mayC ss c && (mayC ss d && sameC (norm c) (norm d)))) := rfl
  have HNE : Hid (clE2 ss c d = if mayC ss c && mayC ss d then 0 else 800) := rfl
  have HMC : Hid (mayC ss c = true → MayC ss c) := fun q => mayC_iff.1 q
  have HMD : Hid (mayC ss d = true → MayC ss d) := fun q => mayC_iff.1 q
  rw [Cv.val_eq, Cv.val_eq]
  have HVE := Lib.hid v.val_eq
  have HUE := Lib.hid u.val_eq
  unfold Cv.obj at hx hy hb hs
  have HX := Lib.hid hx
  have HY := Lib.hid hy
  have HS := Lib.hid hs
  have HB0 := Lib.hid hb
  clear h hc hd hx hy hb hs
  go_enter Try.func15, Try.ntmps15
  go_wp2_with fail
  rw [← HVE.out]
  refine (mayC_any A n cp ss v c _ HS.out hn hnc HX.out.cl).mono ?_
  rintro e w1 ⟨rfl, hb1⟩
  have HB1 := Lib.hid (HB0.out.trans (hb1.mono HB0.out.size))
  replace HX := Lib.hid (HX.out.on hb1)
  replace HY := Lib.hid (HY.out.on hb1)
  replace HS := Lib.hid (HS.out.on hb1)
  clear hb1 HB0
  have p0 := HX.out.c0
  have p1 := HX.out.c1
  have p2 := HX.out.c2
  have q0 := HY.out.c0
  have q1 := HY.out.c1
  have q2 := HY.out.c2
  cases hm : mayC ss c
  case false =>
    rw [hm] at HVA HNE
    clear hm
    go_wp2
    go_ret2
    exact ⟨ret_bi (by rw [HVA.out]; rfl) (by rw [HNE.out]; rfl), HB1.out⟩
  rw [hm] at HVA HNE
  have HM := Lib.hid (HMC.out hm)
  clear hm
  go_wp2_with fail
  rw [← HUE.out]
  refine (mayC_any A n cp ss u d _ HS.out hn hnc HY.out.cl).mono ?_
  rintro e w2 ⟨rfl, hb2⟩
  have HB2 := Lib.hid (HB1.out.trans (hb2.mono HB1.out.size))
  replace HX := Lib.hid (HX.out.on hb2)
  replace HY := Lib.hid (HY.out.on hb2)
  clear hb2 HS
  clear p0 p1 p2 q0 q1 q2
  have p0 := HX.out.c0
  have p1 := HX.out.c1
  have p2 := HX.out.c2
  have q0 := HY.out.c0
  have q1 := HY.out.c1
  have q2 := HY.out.c2
  cases hm : mayC ss d
  case false =>
    rw [hm] at HVA HNE
    clear hm
    go_wp2
    go_ret2
    exact ⟨ret_bi (by rw [HVA.out]; rfl) (by rw [HNE.out]; rfl), HB2.out⟩
  rw [hm] at HVA HNE
  have HN := Lib.hid (HMD.out hm)
  clear hm
  obtain ⟨B, hB⟩ : ∃ B, B = w.heap.size := ⟨_, rfl⟩
  rw [← hB] at HX HY p0 p1 p2 q0 q1 q2 ⊢
  have HBH := Lib.hid hB
  clear hB
  go_wp2_with fail
  refine wp_region_held_drew (S := (fun w' => w'.cell? ⟨B, 0, none⟩ = some (.slice v.A1 v.n1 v.c1) ∧ w'.cell? ⟨B, 1, none⟩ = some (.slice v.A2 v.n2 v.c2) ∧ w'.cell? ⟨B, 2, none⟩ = some (.slice v.A3 v.n3 v.c3) ∧ w'.cell? ⟨B + 1, 0, none⟩ = some (.slice u.A1 u.n1 u.c1) ∧ w'.cell? ⟨B + 1, 1, none⟩ = some (.slice u.A2 u.n2 u.c2) ∧ w'.cell? ⟨B + 1, 2, none⟩ = some (.slice u.A3 u.n3 u.c3))) (by kernel_rfl) ⟨p0, p1, p2, q0, q1, q2⟩ (fun hHeld => ?_)
  have hd0 : Below w2.heap.size w2 w2.drew := (Below.refl w2.heap.size w2).drew
  refine takeH (i := 0) (v := ?_) rfl rfl (by kernel_rfl) (by kernel_rfl) (by kernel_rfl) (fun _ _ _ h => h) (by rfl) ?_ hHeld ?_
  rotate_left
  · (intro w hSw; (try dsimp only at hSw); first | (go_simp; done) | (go_simp; with_reducible rfl))
  simp only [Act.put, List.setIfInBounds_toArray, List.set_cons_zero, List.set_cons_succ]
  refine takeH (i := 2) (v := ?_) rfl rfl (by kernel_rfl) (by kernel_rfl) (by kernel_rfl) (fun _ _ _ h => h) (by rfl) ?_ hHeld ?_
  rotate_left
  · (intro w hSw; (try dsimp only at hSw); first | (go_simp; done) | (go_simp; with_reducible rfl))
  simp only [Act.put, List.setIfInBounds_toArray, List.set_cons_zero, List.set_cons_succ]
  replace HX := Lib.hid (HX.out.on hd0)
  replace HY := Lib.hid (HY.out.on hd0)
  have HB3 := Lib.hid (HB2.out.trans (hd0.mono HB2.out.size))
  clear hd0
  obtain ⟨w3, hw3⟩ : ∃ w3, w3 = w2.drew := ⟨_, rfl⟩
  rw [← hw3] at HX HY HB3 ⊢
  clear hw3
  refine wpAnyH_ready (rs := [1]) (by kernel_rfl) (by simp) ?_
  refine AllReadyH.cons rfl (fun K hK => ?_) AllReadyH.nil
  go_simp
  rw [← HVE.out]
  refine (normal_any v c ss _ HX.out.cl HM.out).mono ?_
  rintro e w4 ⟨x, rfl, hx, hb4⟩
  have HB4 := Lib.hid (HB3.out.trans (hb4.mono HB3.out.size))
  replace HX := Lib.hid (HX.out.on hb4)
  replace HY := Lib.hid (HY.out.on hb4)
  obtain ⟨x1, rfl, hx1⟩ := hx.clAt HM.out.normal.fit
  have HX1 := Lib.hid hx1
  rw [Cv.val_eq]
  have HXE := Lib.hid x1.val_eq
  clear hx hx1 hb4
  clear p0 p1 p2 q0 q1 q2
  have p0 := HX.out.c0
  have p1 := HX.out.c1
  have p2 := HX.out.c2
  have q0 := HY.out.c0
  have q1 := HY.out.c1
  have q2 := HY.out.c2
  go_wp2_with fail
  refine hK.out _ _ ?_ (fun hHeld => ?_)
  · exact ⟨p0, p1, p2, q0, q1, q2⟩
  clear hK K
  refine wpAnyH_ready (rs := [3]) (by kernel_rfl) (by simp) ?_
  refine AllReadyH.cons rfl (fun K hK => ?_) AllReadyH.nil
  go_simp
  rw [← HUE.out]
  refine (normal_any u d ss _ HY.out.cl HN.out).mono ?_
  rintro e w5 ⟨x, rfl, hx, hb5⟩
  have HB5 := Lib.hid (HB4.out.trans (hb5.mono HB4.out.size))
  replace HX := Lib.hid (HX.out.on hb5)
  replace HY := Lib.hid (HY.out.on hb5)
  replace HX1 := Lib.hid (HX1.out.on hb5)
  obtain ⟨x2, rfl, hx2⟩ := hx.clAt HN.out.normal.fit
  have HX2 := Lib.hid hx2
  rw [Cv.val_eq]
  have HXF := Lib.hid x2.val_eq
  clear hx hx2 hb5
  clear p0 p1 p2 q0 q1 q2
  have p0 := HX.out.c0
  have p1 := HX.out.c1
  have p2 := HX.out.c2
  have q0 := HY.out.c0
  have q1 := HY.out.c1
  have q2 := HY.out.c2
  go_wp2_with fail
  refine hK.out _ _ ?_ (fun hHeld => ?_)
  · exact ⟨p0, p1, p2, q0, q1, q2⟩
  clear hK K
  refine wpAnyH_ready (rs := [4]) (by kernel_rfl) (by simp) ?_
  refine AllReadyH.cons rfl (fun K hK => ?_) AllReadyH.nil
  go_simp
  rw [← HXE.out, ← HXF.out]
  refine (sameC_any x1 x2 (norm c) (norm d) _ HX1.out HX2.out).mono ?_
  rintro e w6 ⟨rfl, hb6⟩
  have HB6 := Lib.hid (HB5.out.trans (hb6.mono HB5.out.size))
  replace HX := Lib.hid (HX.out.on hb6)
  replace HY := Lib.hid (HY.out.on hb6)
  clear hb6
  clear p0 p1 p2 q0 q1 q2
  have p0 := HX.out.c0
  have p1 := HX.out.c1
  have p2 := HX.out.c2
  have q0 := HY.out.c0
  have q1 := HY.out.c1
  have q2 := HY.out.c2
  go_wp2_with fail
  refine hK.out _ _ ?_ (fun hHeld => ?_)
  · exact ⟨p0, p1, p2, q0, q1, q2⟩
  clear hK K
  refine takeH (i := 5) (v := ?_) rfl rfl (by kernel_rfl) (by kernel_rfl) (by kernel_rfl) (fun _ _ _ h => h) (by rfl) ?_ hHeld ?_
  rotate_left
  · (intro w hSw; (try dsimp only at hSw); first | (go_simp; done) | (go_simp; with_reducible rfl))
  simp only [Act.put, List.setIfInBounds_toArray, List.set_cons_zero, List.set_cons_succ]
  refine takeH (i := 6) (v := ?_) rfl rfl (by kernel_rfl) (by kernel_rfl) (by kernel_rfl) (fun _ _ _ h => h) (by rfl) ?_ hHeld ?_
  rotate_left
  · (intro w hSw; (try dsimp only at hSw); first | (go_simp; done) | (go_simp; with_reducible rfl))
  simp only [Act.put, List.setIfInBounds_toArray, List.set_cons_zero, List.set_cons_succ]
  refine wpAnyH_done (by kernel_rfl) ?_ _
  go_wp2
  go_ret2
  exact ⟨ret_bi (by rw [HVA.out]; simp) (by rw [HNE.out]; rfl), HB6.out⟩
end Go.Proofs.Ytjdmnplkgimaiaa
