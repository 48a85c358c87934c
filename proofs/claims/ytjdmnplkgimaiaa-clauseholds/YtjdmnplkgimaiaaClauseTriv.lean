/-
  Contracts: clause.isIdentity, hasOpposite, Trivial.
-/
import Derived.Test.YtjdmnplkgimaiaaClauseSame
import Derived.Test.YtjdmnplkgimaiaaPlainHolds
import Derived.Test.YtjdmnplkgimaiaaOrderMore
namespace Go.Proofs.Ytjdmnplkgimaiaa
open Go.RowKit Go.Deep
set_option linter.unusedSimpArgs false
set_option linter.unusedVariables false
set_option maxRecDepth 100000

/-- An equation of two equal terms. -/
def IdP (ss : List Sym) (l : Lt) : Prop := l.neg = false ∧ ∃ t x, l.atom = 0 :: (t ++ t) ∧ tl ss t = some [x]
noncomputable def idB (ss : List Sym) (l : Lt) : Bool := @decide (IdP ss l) (Classical.propDecidable _)
theorem idB_iff {ss : List Sym} {l : Lt} : idB ss l = true ↔ IdP ss l := by unfold idB; exact @decide_eq_true_iff _ (Classical.propDecidable _)
theorem idB_not {ss : List Sym} {l : Lt} (h : ¬ IdP ss l) : idB ss l = false := by
  cases e : idB ss l
  · rfl
  · exact absurd (idB_iff.1 e) h
/-- The two sides of an equation. -/
theorem eq_sides {ss : List Sym} {p : Lt} (h : litB ss p = true) (h0 : intAt p.atom 0 = 0) : ∃ z y, p.atom = 0 :: (z ++ y) ∧ trm 24 ss z 1 ∧ trm 24 ss y 1 := by
  have hx := atom_ex (show atomB ss p.atom = true from h)
  rcases hx.2.shape hx.1 with ⟨v, _, e⟩ | ⟨c, r, e, h1, h2, h3⟩
  · rw [e] at h0
    unfold intAt at h0
    simp at h0
    omega
  · rw [e] at h0
    have hc : c = 0 := h0
    subst hc
    have ha := (may_first hx.1).2.1
    have e2 : (symAt ss (0 : Int).toNat).arity.toNat = 1 + 1 := by
      show (symAt ss 0).arity.toNat = 2
      rw [ha]; rfl
    rw [e2] at h3
    obtain ⟨z, y, q1, q2, q3⟩ := trm_split h3
    exact ⟨z, y, by rw [e, q1], q2, q3⟩
theorem idB_sides {ss : List Sym} {p : Lt} {z y : List Int} (hn : p.neg = false) (e : p.atom = 0 :: (z ++ y)) (hz : trm 24 ss z 1) (hy : trm 24 ss y 1) : idB ss p = sameI z y := by
  rw [Bool.eq_iff_iff, idB_iff]
  unfold sameI
  rw [decide_eq_true_iff]
  constructor
  · rintro ⟨_, t, x, h1, h2⟩
    rw [e] at h1
    injection h1 with _ h1
    obtain ⟨q1, q2⟩ := trm_uniq hz (trm_of_tl h2) h1
    rw [q1, q2]
  · rintro rfl
    obtain ⟨ms, h1, h2⟩ := tl_of_trm hz
    obtain ⟨x, rfl⟩ : ∃ x, ms = [x] := by
      match ms, h2 with
      | [x], _ => exact ⟨x, rfl⟩
    exact ⟨hn, z, x, e, h1⟩
theorem idB_code {ss : List Sym} {p : Lt} (h : ¬ intAt p.atom 0 = 0) : idB ss p = false := idB_not fun ⟨_, t, x, h1, _⟩ => h (by rw [h1]; rfl)
theorem idB_neg {ss : List Sym} {p : Lt} (h : p.neg = true) : idB ss p = false := idB_not fun ⟨h1, _⟩ => by rw [h] at h1; cases h1
/-- The opposite of a literal. -/
def opp (l : Lt) : Lt := ⟨!l.neg, l.atom⟩
section
variable {ss : List Sym} {c : Cl}
theorem dull_id {i : Nat} (hi : i < c.lits.length) (h : idB ss (ltAt c.lits i) = true) : dullB ss c = true := by
  obtain ⟨h1, t, x, h2, h3⟩ := idB_iff.1 h
  exact dullB_iff.2 (.inl ⟨_, ltAt_mem hi, h1, t, x, h2, h3⟩)
theorem dull_opp {i : Nat} (hi : i < c.lits.length) (h : hasL (opp (ltAt c.lits i)) (c.lits.take i) = true) : dullB ss c = true := by
  have := List.mem_of_mem_take (hasL_iff.1 h)
  refine dullB_iff.2 (.inr ⟨_, ltAt_mem hi, _, this, rfl, ?_⟩)
  show (ltAt c.lits i).neg ≠ !(ltAt c.lits i).neg
  cases (ltAt c.lits i).neg <;> decide
theorem dull_no (h : ∀ i, i < c.lits.length → idB ss (ltAt c.lits i) = false ∧ hasL (opp (ltAt c.lits i)) (c.lits.take i) = false) : dullB ss c = false := by
  cases e : dullB ss c
  · rfl
  · exfalso
    have key : ∀ i j, i < j → j < c.lits.length → (ltAt c.lits i).atom = (ltAt c.lits j).atom → (ltAt c.lits i).neg ≠ (ltAt c.lits j).neg → False := by
      intro i j hij hj ha hn
      have h1 := (h j hj).2
      have h2 : hasL (opp (ltAt c.lits j)) (c.lits.take j) = true := by
        rw [hasL_iff]
        have e1 : opp (ltAt c.lits j) = ltAt c.lits i := by
          refine Lt.ext_ ?_ ha.symm
          show (!(ltAt c.lits j).neg) = _
          revert hn
          cases (ltAt c.lits i).neg <;> cases (ltAt c.lits j).neg <;> simp
        rw [e1]
        refine List.mem_of_getElem? (i := i) ?_
        rw [List.getElem?_take, if_pos hij, ltAt_get (by omega)]
      rw [h1] at h2; cases h2
    rcases dullB_iff.1 e with ⟨l, hl, hn, t, x, ha, ht⟩ | ⟨l, hl, k, hk, ha, hn⟩
    · obtain ⟨i, hi, rfl⟩ := mem_ltAt hl
      have := (h i hi).1
      rw [idB_iff.2 ⟨hn, t, x, ha, ht⟩] at this
      cases this
    · obtain ⟨i, hi, rfl⟩ := mem_ltAt hl
      obtain ⟨j, hj, rfl⟩ := mem_ltAt hk
      rcases Nat.lt_trichotomy i j with q | q | q
      · exact key i j q hj ha hn
      · subst q; exact hn rfl
      · exact key j i q hi ha.symm hn.symm
end
theorem LitsAt.take {w : World} {B n k : Nat} {A : Option Addr} {ls : List Lt} (h : LitsAt w B A n ls) (hk : k ≤ n) : LitsAt w B A k (ls.take k) := by
  have hl := h.len
  have e : ∀ i, i < k → ltAt (ls.take k) i = ltAt ls i := by
    intro i hi
    unfold ltAt
    rw [List.getD_eq_getElem?_getD, List.getD_eq_getElem?_getD, List.getElem?_take, if_pos hi]
  refine ⟨by rw [List.length_take]; omega, fun h0 => ?_, fun i hi => by rw [e i hi]; exact h.fit i (by omega)⟩
  obtain ⟨b, off, e1, hb, hc⟩ := h.at_ (by omega)
  refine ⟨b, off, e1, hb, fun i hi => ?_⟩
  rw [e i hi]; exact hc i (by omega)

set_option maxHeartbeats 2000000 in
theorem isIdentity_any (A A2 : Option Addr) (n cp m c2 : Nat) (ss : List Sym) (p : Lt) (w : World) (h : SymsAt w w.heap.size A n ss) (hn : n ≤ maxLen) (hp : LitAt w w.heap.size A2 m c2 p) (hl : litB ss p = true) :
    Calls Try.prog 19 #[.slice A n cp, .agg #[.bool p.neg, .slice A2 m c2]] w fun e w' => e = .returned (.bool (idB ss p)) ∧ Below w.heap.size w w' := by
  have hbx := LBox.new hp
  have hbn := below_new w (.cells #[.bool p.neg, .slice A2 m c2] 44)
  have hs := h.on hbn
  have hb := lit_pos hl
  have hlen := hp.at_.len
  rw [hlen] at hb
  obtain ⟨hb1, hb2⟩ := hb
  have hcap := hp.cap
  have HL := Lib.hid hl
  have HS := Lib.hid hs
  have HBN := Lib.hid hbn
  have HBX := Lib.hid hbx
  obtain ⟨b, off, hA, hlt, hcc⟩ := hbx.lit.at_.at_ hb1
  subst hA
  have hc0 : (w.alloc (.cells #[.bool p.neg, .slice (some ⟨b, off, none⟩) m c2] 44)).cell? ⟨b, off, none⟩ = some (.int .i64 (intAt p.atom 0)) := by have := hcc 0 (by omega); rw [Nat.add_zero] at this; exact this
  have p0 := hbx.c0
  have p1 := hbx.c1
  clear h hp hl hbx hbn hs hcc hlen
  cases hng : p.neg
  case true =>
    have HZ := Lib.hid (idB_neg (ss := ss) hng)
    rw [hng] at HBN p0 p1 hc0
    clear hng
    go_enter Try.func19, Try.ntmps19
    go_wp2
    go_ret
    exact ⟨ret_b HZ.out.symm, HBN.out⟩
  rw [hng] at HBN p0 p1 hc0 HS HBX
  have HNG := Lib.hid hng
  clear hng
  by_cases h0 : intAt p.atom 0 = 0
  case neg =>
    have HZ := Lib.hid (idB_code (ss := ss) h0)
    obtain ⟨x, hx⟩ : ∃ x, x = intAt p.atom 0 := ⟨_, rfl⟩
    rw [← hx] at hc0 h0
    have h0' : (x != 0) = true := by simpa using h0
    clear hx h0
    go_enter Try.func19, Try.ntmps19
    go_wp2
    go_ret
    exact ⟨ret_b HZ.out.symm, HBN.out⟩
  obtain ⟨z, y, ha, hz, hy⟩ := eq_sides HL.out h0
  have HID := Lib.hid (idB_sides HNG.out ha hz hy)
  have HSC := Lib.hid (scan_term (u := y) hz)
  have HM := Lib.hid (atom_ex (show atomB ss p.atom = true from HL.out)).1
  rw [h0] at hc0
  obtain ⟨w1, hw1⟩ : ∃ w1, w1 = w.alloc (.cells #[.bool false, .slice (some ⟨b, off, none⟩) m c2] 44) := ⟨_, rfl⟩
  have hin := HBX.out.lit.at_
  rw [ha, ← hw1] at hin
  have hex : ExAt w1 w1.heap.size (some ⟨b, off, none⟩) m c2 (0 :: (z ++ y)) := ⟨hin, hcap, hb2⟩
  have hrow := hex.tail
  have hml : m = z.length + y.length + 1 := by have := hin.len; simp at this; omega
  have hz1 := trm_pos hz
  have hy1 := trm_pos hy
  have HZ1 := Lib.hid (hrow.at_.take (i := z.length) (by omega))
  have HY1 := Lib.hid (hrow.at_.drop (k := z.length) (by omega))
  have HROW := Lib.hid hrow
  obtain ⟨E, hE⟩ : ∃ E, E = z.length := ⟨_, rfl⟩
  rw [List.take_left' rfl, ← hE] at HZ1
  rw [List.drop_left' rfl, ← hE] at HY1
  rw [← hE] at HSC hml hz1
  obtain ⟨m1, hm1⟩ : ∃ m1, m1 = m - 1 := ⟨_, rfl⟩
  obtain ⟨c1, hc1⟩ : ∃ c1, c1 = c2 - 1 := ⟨_, rfl⟩
  rw [← hm1] at HROW HY1
  rw [← hc1] at HROW
  have hs3 : ¬ c2 = 1 := by omega
  have z1 : 1 ≤ m := by omega
  have z2 : 1 ≤ c2 := by omega
  have z3 : E ≤ c1 := by omega
  have z4 : ¬ c1 = E := by omega
  have z5 : E ≤ m1 := by omega
  have z6 : (E : Int) ≤ (c1 : Int) := by omega
  have z7 : (E : Int) ≤ (m1 : Int) := by omega
  have z8 : (0 : Int) ≤ (E : Int) := by omega
  have hm2 : m - 1 = m1 := hm1.symm
  have hc3 : c2 - 1 = c1 := hc1.symm
  have z9 : m1 ≤ 48 := by omega
  have HEY : Hid (m1 - E ≤ 48) := by show _ ≤ _; omega
  clear ha hz hy hin hex hrow hml hy1 hE h0 hb1 hb2 hcap hm1 hc1
  go_enter Try.func19, Try.ntmps19
  go_wp2_with fail
  rw [← hw1] at p0 p1 hc0 HS HBN ⊢
  clear hw1
  refine (firstTerm_any A _ n cp m1 c1 _ _ E ss (z ++ y) w1 HS.out hn HROW.out.at_ z9 HM.out HSC.out).mono ?_
  rintro e w2 ⟨rfl, rfl⟩
  go_wp2_with fail
  go_quiet ((go_at_call 38; exact equal_still (some ⟨b, off + 1, none⟩) (some ⟨b, off + 1 + E, none⟩) E c1 (m1 - E) (c1 - E) _ _ _ z y w1 HZ1.out HY1.out (by unfold maxLen; omega) (by unfold maxLen; have := HEY.out; omega) (b := sameI z y) rfl))
  go_wp2
  go_ret
  exact ⟨ret_b HID.out.symm, HBN.out.trans (below_drewN _ _)⟩

set_option maxHeartbeats 1000000 in
theorem hasOpposite_any (A A2 : Option Addr) (n c m c2 : Nat) (ls : List Lt) (p : Lt) (w : World) (h : LitsAt w w.heap.size A n ls) (hn : n ≤ 4398046511104) (hp : LitAt w w.heap.size A2 m c2 p) :
    Calls Try.prog 20 #[.slice A n c, .agg #[.bool p.neg, .slice A2 m c2]] w fun e w' => e = .returned (.bool (hasL (opp p) ls)) ∧ Below w.heap.size w w' := by
  have hbn := below_new w (.cells #[.bool p.neg, .slice A2 m c2] 44)
  have HS := Lib.hid (h.on hbn)
  have HP := Lib.hid ((hp.on hbn).row.lit (x := !p.neg))
  have HBN := Lib.hid hbn
  have HE : Hid (opp p = ⟨!p.neg, p.atom⟩) := rfl
  clear h hp hbn
  go_enter Try.func20, Try.ntmps20
  go_wp2_with fail
  refine (has_any A A2 n c m c2 ⟨!p.neg, p.atom⟩ ls _ HS.out hn HP.out).mono ?_
  rintro e w2 ⟨rfl, hb2⟩
  have HB2 := Lib.hid (HBN.out.trans (hb2.mono HBN.out.size))
  clear hb2
  go_wp2
  go_ret
  exact ⟨rfl, HB2.out⟩

noncomputable def dullO (ss : List Sym) (c : Cl) : Bool := mayC ss c && dullB ss c
set_option maxHeartbeats 4000000 in
theorem trivialC_any (A : Option Addr) (n cp : Nat) (ss : List Sym) (v : Cv) (c : Cl) (w : World) (h : SymsAt w w.heap.size A n ss) (hn : n ≤ maxLen) (hnc : n ≤ cp) (hc : ClAt w w.heap.size v c) :
    Calls Try.prog 6 #[.slice A n cp, v.val] w (BoolPost (dullO ss c) (clE ss c) w) := by
  have HWO : Hid (dullO ss c = (mayC ss c && dullB ss c)) := rfl
  have hb0 := below_new w v.obj
  have hx0 := CBox.new hc
  have hs0 := h.on hb0
  have HMC : Hid (mayC ss c = true → MayC ss c) := fun q => mayC_iff.1 q
  have HNE : Hid (clE ss c = if mayC ss c then 0 else 800) := rfl
  rw [Cv.val_eq]
  have HVE := Lib.hid v.val_eq
  unfold Cv.obj at hb0 hx0 hs0
  have HX := Lib.hid hx0
  have HS := Lib.hid hs0
  have HB0 := Lib.hid hb0
  clear h hc hb0 hx0 hs0
  go_enter Try.func6, Try.ntmps6
  go_wp2_with fail
  rw [← HVE.out]
  refine (mayC_any A n cp ss v c _ HS.out hn hnc HX.out.cl).mono ?_
  rintro e w1 ⟨rfl, hb1⟩
  have HB1 := Lib.hid (HB0.out.trans (hb1.mono HB0.out.size))
  replace HX := Lib.hid (HX.out.on hb1)
  replace HS := Lib.hid (HS.out.on hb1)
  clear hb1 HB0
  have p0 := HX.out.c0
  have p1 := HX.out.c1
  have p2 := HX.out.c2
  obtain ⟨B, hB⟩ : ∃ B, B = w.heap.size := ⟨_, rfl⟩
  rw [← hB] at HX p0 p1 p2 ⊢
  have HBH := Lib.hid hB
  clear hB
  cases hm : mayC ss c
  · rw [hm] at HNE HWO
    clear hm
    go_wp2
    go_ret2
    exact ⟨ret_bi HWO.out.symm HNE.out.symm, HBH.out ▸ HB1.out⟩
  · rw [hm] at HNE HWO
    have HM := Lib.hid (HMC.out hm)
    have h5 := HM.out.nl
    have HL := Lib.hid HX.out.cl.lits.len
    have hcap := HX.out.cl.m1
    rw [HL.out] at h5
    clear hm
    go_wp2
    go_loopw [15] (fun i wr => ∃ k : Nat, i = .int .i64 k ∧ k ≤ v.n1 ∧ (∀ j, j < k → idB ss (ltAt c.lits j) = false ∧ hasL (opp (ltAt c.lits j)) (c.lits.take j) = false) ∧ Below w1.heap.size w1 wr) (fun i _ => v.n1 - (intOf i).toNat)
    case atStart => exact ⟨0, rfl, by omega, fun j hj => absurd hj (by omega), Below.refl _ _⟩
    case round =>
      obtain ⟨k, rfl, hk, hno, hbw⟩ := hrel
      have HNO := Lib.hid hno
      have HBW := Lib.hid hbw
      clear hno hbw
      by_cases hlt : k < v.n1
      · have hkl : k < c.lits.length := by rw [HL.out]; exact hlt
        obtain ⟨b, off, A3, c3, hA, hb, d0, d1, hr⟩ := (HX.out.cl.lits.on HBW.out).one hlt
        rw [hA]
        have HA := Lib.hid hA
        have HLB := Lib.hid (HM.out.lits _ (ltAt_mem hkl))
        have HY1 := Lib.hid (fun q => dull_id (ss := ss) (c := c) hkl q)
        have HY2 := Lib.hid (fun q => dull_opp (ss := ss) (c := c) hkl q)
        have HNX : Hid (idB ss (ltAt c.lits k) = false → hasL (opp (ltAt c.lits k)) (c.lits.take k) = false → ∀ j, j < k + 1 → idB ss (ltAt c.lits j) = false ∧ hasL (opp (ltAt c.lits j)) (c.lits.take j) = false) := by
          intro q1 q2 j hj
          by_cases e : j = k
          · rw [e]; exact ⟨q1, q2⟩
          · exact HNO.out j (by omega)
        obtain ⟨p, hp⟩ : ∃ p, p = ltAt c.lits k := ⟨_, rfl⟩
        rw [← hp] at d0 d1 hr HLB HY1 HY2 HNX
        have hbn := below_new wr (.cells #[.bool p.neg, .slice A3 p.atom.length c3] 44)
        have HBX := Lib.hid (LBox.new hr)
        have HS2 := Lib.hid ((HS.out.on HBW.out).on hbn)
        have HX2 := Lib.hid ((HX.out.on HBW.out).on hbn)
        have HB2 := Lib.hid (HBW.out.trans (hbn.mono HBW.out.size))
        have HLT := Lib.hid (((HX.out.cl.lits.on HBW.out).on hbn).take hk)
        have hi0 : (0 : Int) ≤ (k : Int) := by omega
        have hi3 : (k : Int) < (v.n1 : Int) := by omega
        have hk1 : k ≤ v.c1 := by omega
        have hk2 : (k : Int) ≤ (v.c1 : Int) := by omega
        have hk3 : k ≤ 4398046511104 := by omega
        obtain ⟨w2, hw2⟩ : ∃ w2, w2 = wr.alloc (.cells #[.bool p.neg, .slice A3 p.atom.length c3] 44) := ⟨_, rfl⟩
        have HW2 := Lib.hid hw2
        rw [← hw2] at HBX HS2 HX2 HB2 HLT
        clear hr hp hA hkl hbn hw2
        go_wp2_with fail
        rw [← HW2.out]
        obtain ⟨bl, hbl⟩ : ∃ bl, bl = wr.heap.size := ⟨_, rfl⟩
        rw [← hbl] at HBX ⊢
        have q0 := HBX.out.c0
        have q1 := HBX.out.c1
        have r0 := HX2.out.c0
        rw [HA.out] at r0
        clear hbl HW2 d0 d1
        refine wp_region_held_drew (S := (fun w' => w'.cell? ⟨B, 0, none⟩ = some (.slice (some ⟨b, off, none⟩) v.n1 v.c1) ∧ w'.cell? ⟨bl, 0, none⟩ = some (.bool p.neg) ∧ w'.cell? ⟨bl, 1, none⟩ = some (.slice A3 p.atom.length c3))) (by kernel_rfl) ⟨r0, q0, q1⟩ (fun hHeld => ?_)
        have hd0 : Below w2.heap.size w2 w2.drew := (Below.refl w2.heap.size w2).drew
        refine takeH (i := 0) (v := ?_) rfl rfl (by kernel_rfl) (by kernel_rfl) (by kernel_rfl) (fun _ _ _ h => h) (by rfl) ?_ hHeld ?_
        rotate_left
        · (intro w hSw; (try dsimp only at hSw); first | (go_simp; done) | (go_simp; with_reducible rfl))
        simp only [Act.put, List.setIfInBounds_toArray, List.set_cons_zero, List.set_cons_succ]
        refine takeH (i := 1) (v := ?_) rfl rfl (by kernel_rfl) (by kernel_rfl) (by kernel_rfl) (fun _ _ _ h => h) (by rfl) ?_ hHeld ?_
        rotate_left
        · (intro w hSw; (try dsimp only at hSw); first | (go_simp; done) | (go_simp; with_reducible rfl))
        simp only [Act.put, List.setIfInBounds_toArray, List.set_cons_zero, List.set_cons_succ]
        replace HX2 := Lib.hid (HX2.out.on hd0)
        replace HBX := Lib.hid (HBX.out.on hd0)
        replace HS2 := Lib.hid (HS2.out.on hd0)
        replace HLT := Lib.hid (HLT.out.on hd0)
        have HB3 := Lib.hid (HB2.out.trans (hd0.mono HB2.out.size))
        clear hd0
        obtain ⟨w3, hw3⟩ : ∃ w3, w3 = w2.drew := ⟨_, rfl⟩
        rw [← hw3] at HX2 HBX HS2 HLT HB3 ⊢
        clear hw3
        refine wpAnyH_ready (rs := [2]) (by kernel_rfl) (by simp) ?_
        refine AllReadyH.cons rfl (fun K hK => ?_) AllReadyH.nil
        go_simp
        refine (isIdentity_any A A3 n cp _ c3 ss p _ HS2.out hn HBX.out.lit HLB.out).mono ?_
        rintro e w4 ⟨rfl, hb4⟩
        have HB4 := Lib.hid (HB3.out.trans (hb4.mono HB3.out.size))
        replace HX2 := Lib.hid (HX2.out.on hb4)
        replace HBX := Lib.hid (HBX.out.on hb4)
        replace HLT := Lib.hid (HLT.out.on hb4)
        clear hb4 q0 q1 r0
        have q0 := HBX.out.c0
        have q1 := HBX.out.c1
        have r0 := HX2.out.c0
        rw [HA.out] at r0
        cases hid : idB ss p
        case true =>
          have HZ := Lib.hid (HY1.out hid)
          clear hid
          go_wp2_with fail
          refine hK.out _ _ ?_ (fun hHeld => ?_)
          · exact ⟨r0, q0, q1⟩
          clear hK K
          refine takeH (i := 3) (v := ?_) rfl rfl (by kernel_rfl) (by kernel_rfl) (by kernel_rfl) (fun _ _ _ h => h) (by rfl) ?_ hHeld ?_
          rotate_left
          · (intro w hSw; (try dsimp only at hSw); first | (go_simp; done) | (go_simp; with_reducible rfl))
          simp only [Act.put, List.setIfInBounds_toArray, List.set_cons_zero, List.set_cons_succ]
          refine passH (i := 4) rfl rfl (by kernel_rfl) (by kernel_rfl) (by kernel_rfl) (fun _ _ _ h => h) (by rfl) hHeld ?_
          simp only [Act.put, List.setIfInBounds_toArray, List.set_cons_zero, List.set_cons_succ]
          refine passH (i := 5) rfl rfl (by kernel_rfl) (by kernel_rfl) (by kernel_rfl) (fun _ _ _ h => h) (by rfl) hHeld ?_
          simp only [Act.put, List.setIfInBounds_toArray, List.set_cons_zero, List.set_cons_succ]
          refine passH (i := 6) rfl rfl (by kernel_rfl) (by kernel_rfl) (by kernel_rfl) (fun _ _ _ h => h) (by rfl) hHeld ?_
          simp only [Act.put, List.setIfInBounds_toArray, List.set_cons_zero, List.set_cons_succ]
          refine passH (i := 7) rfl rfl (by kernel_rfl) (by kernel_rfl) (by kernel_rfl) (fun _ _ _ h => h) (by rfl) hHeld ?_
          simp only [Act.put, List.setIfInBounds_toArray, List.set_cons_zero, List.set_cons_succ]
          refine passH (i := 8) rfl rfl (by kernel_rfl) (by kernel_rfl) (by kernel_rfl) (fun _ _ _ h => h) (by rfl) hHeld ?_
          simp only [Act.put, List.setIfInBounds_toArray, List.set_cons_zero, List.set_cons_succ]
          refine passH (i := 9) rfl rfl (by kernel_rfl) (by kernel_rfl) (by kernel_rfl) (fun _ _ _ h => h) (by rfl) hHeld ?_
          simp only [Act.put, List.setIfInBounds_toArray, List.set_cons_zero, List.set_cons_succ]
          refine takeH (i := 10) (v := ?_) rfl rfl (by kernel_rfl) (by kernel_rfl) (by kernel_rfl) (fun _ _ _ h => h) (by rfl) ?_ hHeld ?_
          rotate_left
          · (intro w hSw; (try dsimp only at hSw); first | (go_simp; done) | (go_simp; with_reducible rfl))
          simp only [Act.put, List.setIfInBounds_toArray, List.set_cons_zero, List.set_cons_succ]
          refine wpAnyH_done (by kernel_rfl) ?_ _
          go_wp2
          go_ret2
          exact ⟨ret_bi (by rw [HWO.out, HZ.out]; rfl) (by rw [HNE.out]; rfl), HBH.out ▸ (HB1.out.trans (HB4.out.mono HB1.out.size))⟩
        have HID := Lib.hid hid
        clear hid
        go_wp2_with fail
        refine hK.out _ _ ?_ (fun hHeld => ?_)
        · exact ⟨r0, q0, q1⟩
        clear hK K
        refine takeH (i := 3) (v := ?_) rfl rfl (by kernel_rfl) (by kernel_rfl) (by kernel_rfl) (fun _ _ _ h => h) (by rfl) ?_ hHeld ?_
        rotate_left
        · (intro w hSw; (try dsimp only at hSw); first | (go_simp; done) | (go_simp; with_reducible rfl))
        simp only [Act.put, List.setIfInBounds_toArray, List.set_cons_zero, List.set_cons_succ]
        refine takeH (i := 4) (v := ?_) rfl rfl (by kernel_rfl) (by kernel_rfl) (by kernel_rfl) (fun _ _ _ h => h) (by rfl) ?_ hHeld ?_
        rotate_left
        · (intro w hSw; (try dsimp only at hSw); first | (go_simp; done) | (go_simp; with_reducible rfl))
        simp only [Act.put, List.setIfInBounds_toArray, List.set_cons_zero, List.set_cons_succ]
        refine takeH (i := 5) (v := ?_) rfl rfl (by kernel_rfl) (by kernel_rfl) (by kernel_rfl) (fun _ _ _ h => h) (by rfl) ?_ hHeld ?_
        rotate_left
        · (intro w hSw; (try dsimp only at hSw); first | (go_simp; done) | (go_simp; with_reducible rfl))
        simp only [Act.put, List.setIfInBounds_toArray, List.set_cons_zero, List.set_cons_succ]
        refine takeH (i := 6) (v := ?_) rfl rfl (by kernel_rfl) (by kernel_rfl) (by kernel_rfl) (fun _ _ _ h => h) (by rfl) ?_ hHeld ?_
        rotate_left
        · (intro w hSw; (try dsimp only at hSw); first | (go_simp; done) | (go_simp; with_reducible rfl))
        simp only [Act.put, List.setIfInBounds_toArray, List.set_cons_zero, List.set_cons_succ]
        refine takeH (i := 7) (v := ?_) rfl rfl (by kernel_rfl) (by kernel_rfl) (by kernel_rfl) (fun _ _ _ h => h) (by rfl) ?_ hHeld ?_
        rotate_left
        · (intro w hSw; (try dsimp only at hSw); first | (go_simp; done) | (go_simp; with_reducible rfl))
        simp only [Act.put, List.setIfInBounds_toArray, List.set_cons_zero, List.set_cons_succ]
        refine takeH (i := 8) (v := ?_) rfl rfl (by kernel_rfl) (by kernel_rfl) (by kernel_rfl) (fun _ _ _ h => h) (by rfl) ?_ hHeld ?_
        rotate_left
        · (intro w hSw; (try dsimp only at hSw); first | (go_simp; done) | (go_simp; with_reducible rfl))
        simp only [Act.put, List.setIfInBounds_toArray, List.set_cons_zero, List.set_cons_succ]
        refine wpAnyH_ready (rs := [9]) (by kernel_rfl) (by simp) ?_
        refine AllReadyH.cons rfl (fun K hK => ?_) AllReadyH.nil
        go_simp
        refine (hasOpposite_any (some ⟨b, off, none⟩) A3 k v.c1 _ c3 (c.lits.take k) p _ (HA.out ▸ HLT.out) hk3 HBX.out.lit).mono ?_
        rintro e w5 ⟨rfl, hb5⟩
        have HB5 := Lib.hid (HB4.out.trans (hb5.mono HB4.out.size))
        replace HX2 := Lib.hid (HX2.out.on hb5)
        replace HBX := Lib.hid (HBX.out.on hb5)
        clear hb5 q0 q1 r0
        have q0 := HBX.out.c0
        have q1 := HBX.out.c1
        have r0 := HX2.out.c0
        rw [HA.out] at r0
        cases hop : hasL (opp p) (c.lits.take k)
        case true =>
          have HZ := Lib.hid (HY2.out hop)
          clear hop
          go_wp2_with fail
          refine hK.out _ _ ?_ (fun hHeld => ?_)
          · exact ⟨r0, q0, q1⟩
          clear hK K
          refine takeH (i := 10) (v := ?_) rfl rfl (by kernel_rfl) (by kernel_rfl) (by kernel_rfl) (fun _ _ _ h => h) (by rfl) ?_ hHeld ?_
          rotate_left
          · (intro w hSw; (try dsimp only at hSw); first | (go_simp; done) | (go_simp; with_reducible rfl))
          simp only [Act.put, List.setIfInBounds_toArray, List.set_cons_zero, List.set_cons_succ]
          refine wpAnyH_done (by kernel_rfl) ?_ _
          go_wp2
          go_ret2
          exact ⟨ret_bi (by rw [HWO.out, HZ.out]; rfl) (by rw [HNE.out]; rfl), HBH.out ▸ (HB1.out.trans (HB5.out.mono HB1.out.size))⟩
        have HZ := Lib.hid (HNX.out HID.out hop)
        clear hop
        go_wp2_with fail
        refine hK.out _ _ ?_ (fun hHeld => ?_)
        · exact ⟨r0, q0, q1⟩
        clear hK K
        refine takeH (i := 10) (v := ?_) rfl rfl (by kernel_rfl) (by kernel_rfl) (by kernel_rfl) (fun _ _ _ h => h) (by rfl) ?_ hHeld ?_
        rotate_left
        · (intro w hSw; (try dsimp only at hSw); first | (go_simp; done) | (go_simp; with_reducible rfl))
        simp only [Act.put, List.setIfInBounds_toArray, List.set_cons_zero, List.set_cons_succ]
        refine wpAnyH_done (by kernel_rfl) ?_ _
        clear q0 q1 r0
        go_wp2
        go_roundw
        case rel => exact ⟨k + 1, by go_num, by omega, HZ.out, HB5.out⟩
        case measure => simp [intOf]; omega
      · obtain rfl : k = v.n1 := by omega
        have HZ : Hid (dullB ss c = false) := dull_no fun i hi => HNO.out i (by rw [HL.out] at hi; exact hi)
        go_wp2
        go_ret2
        exact ⟨ret_bi (by rw [HWO.out, HZ.out]; rfl) (by rw [HNE.out]; rfl), HBH.out ▸ (HB1.out.trans (HBW.out.mono HB1.out.size))⟩
end Go.Proofs.Ytjdmnplkgimaiaa
