/-
  Contracts of package fact: May, Hash, Has.
-/
import Derived.Test.YthnjpkghjkhjdaaFactC
namespace Go.Proofs.Ythnjpkghjkhjdaa
open Go.RowKit Go.Deep
set_option linter.unusedSimpArgs false
set_option linter.unusedVariables false
set_option maxRecDepth 100000

theorem tab_no1 {ss : List Sym} {t : Tb} (h : t.slots.length ≠ 32) : tabB ss t = false := tabB_no fun _ q => h q.len
theorem tab_no2 {ss : List Sym} {t : Tb} (h : 24 < t.facts.length) : tabB ss t = false := tabB_no fun _ q => absurd q.few (by omega)
theorem tab_no3 {ss : List Sym} {t : Tb} (h : mayB ss = false) : tabB ss t = false := tabB_no fun q _ => by rw [h] at q; cases q
theorem tab_no4 {ss : List Sym} {t : Tb} {k : Nat} (hk : k < t.facts.length) (h : factB ss (fcAt t k) = false) : tabB ss t = false := tabB_no fun _ q => by
  have := q.fact _ (fcAt_mem hk)
  rw [h] at this; cases this
theorem tab_no5 {ss : List Sym} {t : Tb} (h : propB (Range t) = false) : tabB ss t = false := tabB_no fun _ q => propB_false h q.rng
theorem tab_no6 {ss : List Sym} {t : Tb} (h : propB (Place t) = false) : tabB ss t = false := tabB_no fun _ q => propB_false h q.place
set_option maxHeartbeats 2000000 in
theorem mayF_any (A : Option Addr) (n cp : Nat) (ss : List Sym) (v : Tv) (t : Tb) (w : World) (h : SymsAt w w.heap.size A n ss) (hn : n ≤ maxLen) (hnc : n ≤ cp) (hc : TabAt w w.heap.size v t) :
    Calls Try.prog 14 #[.slice A n cp, v.val] w fun e w' => e = .returned (.bool (tabB ss t)) ∧ Below w.heap.size w w' := by
  have hb0 := below_new w v.obj
  have hx := TBox.new hc
  have hs := h.on hb0
  have h1 := hc.sl.len
  have h2 := hc.fc.len
  rw [Tv.val_eq]
  unfold Tv.obj at hx hb0 hs
  have HX := Lib.hid hx
  have HB0 := Lib.hid hb0
  have HS := Lib.hid hs
  have p0 := hx.c0
  have p1 := hx.c1
  have f1 := hx.tb.f1
  have f2 := hx.tb.f2
  clear hc hb0 hx hs h
  by_cases g1 : v.n1 = 32
  case neg =>
    have HN := Lib.hid (tab_no1 (ss := ss) (t := t) (by rw [h1]; exact g1))
    have g2 : ((v.n1 : Int) != 32) = true := by simp; omega
    clear h1 h2
    go_enter Try.func14, Try.ntmps14
    go_wp2
    go_ret
    exact ⟨ret_b HN.out.symm, HB0.out⟩
  by_cases g2 : v.n2 ≤ 24
  case neg =>
    have HN := Lib.hid (tab_no2 (ss := ss) (t := t) (by rw [h2]; omega))
    have g1' : ((v.n1 : Int) != 32) = false := by simp; omega
    have g2' : (24 : Int) < (v.n2 : Int) := by omega
    clear h1 h2 g1 g2
    go_enter Try.func14, Try.ntmps14
    go_wp2
    go_ret
    exact ⟨ret_b HN.out.symm, HB0.out⟩
  obtain ⟨A1, n1, c1, A2, n2, c2⟩ := v
  dsimp only at g1 g2 h1 h2 HX HB0 HS p0 p1 f1 f2 ⊢
  subst g1
  have H1 := Lib.hid h1
  have H2 := Lib.hid h2
  have g2' : ¬ (24 : Int) < (n2 : Int) := by omega
  clear h1 h2
  go_enter Try.func14, Try.ntmps14
  go_wp2_with fail
  refine (may_any A n cp ss _ HS.out hn hnc).mono ?_
  rintro e w1 ⟨rfl, hb1⟩
  have HB1 := Lib.hid (HB0.out.trans (hb1.mono HB0.out.size))
  replace HX := Lib.hid (HX.out.on hb1)
  replace HS := Lib.hid (HS.out.on hb1)
  clear p0 p1 hb1
  have p0 := HX.out.c0
  have p1 := HX.out.c1
  dsimp only at p0 p1
  cases hmay : mayB ss
  case false =>
    have HN := Lib.hid (tab_no3 (t := t) hmay)
    clear hmay
    go_wp2
    go_ret
    exact ⟨ret_b HN.out.symm, HB1.out⟩
  have HM := Lib.hid hmay
  clear hmay
  go_wp2
  go_loopw [25] (fun i wr => ∃ k : Nat, i = .int .i64 k ∧ k ≤ n2 ∧ Hid (∀ j, j < k → factB ss (fcAt t j) = true) ∧ Below w1.heap.size w1 wr) (fun i _ => n2 - (intOf i).toNat)
  case atStart => exact ⟨0, rfl, by omega, fun j hj => absurd hj (Nat.not_lt_zero _), Below.refl _ _⟩
  case round =>
    obtain ⟨k, rfl, hk, HF, hbw⟩ := hrel
    have HBW := Lib.hid hbw
    have HXR := Lib.hid (HX.out.on hbw)
    have HSR := Lib.hid (HS.out.on hbw)
    have HBB := Lib.hid (HB1.out.trans (hbw.mono HB1.out.size))
    clear hbw p0 p1
    have p0 := HXR.out.c0
    have p1 := HXR.out.c1
    dsimp only at p0 p1
    by_cases hlt : k < n2
    · obtain ⟨b2, o2, A3, c3, hA2, _, d0, hri, _⟩ := HXR.out.tb.fc.one (i := k) hlt
      dsimp only at hA2
      subst hA2
      have hkl : k < t.facts.length := by rw [H2.out]; exact hlt
      obtain ⟨r, hrr⟩ : ∃ r, r = rowOf t.facts k := ⟨_, rfl⟩
      rw [← hrr] at d0 hri
      have HRI := Lib.hid hri
      have HRR : Hid (fcAt t k = r) := hrr.symm
      have q1 : (k : Int) < (n2 : Int) := by omega
      clear hri hrr
      go_wp2_with fail
      refine (isFact_any A A3 n cp r.length c3 ss r _ HSR.out hn hnc HRI.out.at_ HRI.out.big HRI.out.cap).mono ?_
      rintro e w2 ⟨rfl, hb2⟩
      have HB2 := Lib.hid hb2
      have HBF := Lib.hid (HBB.out.trans (hb2.mono HBB.out.size))
      clear hb2
      cases hfb : factB ss r
      · have HN := Lib.hid (tab_no4 hkl (by rw [HRR.out]; exact hfb))
        clear hfb
        go_wp2
        go_ret
        exact ⟨ret_b HN.out.symm, HBF.out⟩
      · have HN : Hid (factB ss (fcAt t k) = true) := by show _ = _; rw [HRR.out]; exact hfb
        clear hfb
        go_wp2
        go_roundw
        case rel => exact ⟨k + 1, by go_num, by omega, fun j hj => if z : j = k then z ▸ HN.out else HF.out j (by omega), HBW.out.trans (HB2.out.mono HBW.out.size)⟩
        case measure => simp [intOf]; omega
    · obtain rfl : k = n2 := by omega
      go_wp2_with fail
      refine (inRange_any ⟨A1, 32, c1, A2, k, c2⟩ t _ HXR.out.tb rfl).mono ?_
      rintro e w2 ⟨rfl, hb2⟩
      have HX2 := Lib.hid (HXR.out.on hb2)
      have HB2 := Lib.hid (HBB.out.trans (hb2.mono HBB.out.size))
      clear hb2 p0 p1
      have p0 := HX2.out.c0
      have p1 := HX2.out.c1
      dsimp only at p0 p1
      cases hrg : propB (Range t)
      case false =>
        have HN := Lib.hid (tab_no5 (ss := ss) hrg)
        clear hrg
        go_wp2
        go_ret
        exact ⟨ret_b HN.out.symm, HB2.out⟩
      have HRG := Lib.hid (propB_true hrg)
      clear hrg
      go_wp2_with fail
      refine (inPlace_any ⟨A1, 32, c1, A2, k, c2⟩ t _ HX2.out.tb rfl HRG.out (fun j hj => factB_c (HF.out j (by rw [← H2.out]; exact hj)))).mono ?_
      rintro e w3 ⟨rfl, hb3⟩
      have HB3 := Lib.hid (HB2.out.trans (hb3.mono HB2.out.size))
      clear hb3
      cases hpl : propB (Place t)
      case false =>
        have HN := Lib.hid (tab_no6 (ss := ss) hpl)
        clear hpl
        go_wp2
        go_ret
        exact ⟨ret_b HN.out.symm, HB3.out⟩
      have HN := Lib.hid (tabB_yes HM.out ((propB_true hpl).ok (F := factB ss) H1.out (by rw [H2.out]; exact g2) HRG.out (fun j hj => HF.out j (by rw [← H2.out]; exact hj))))
      clear hpl
      go_wp2
      go_ret
      exact ⟨ret_b HN.out.symm, HB3.out⟩
/-- What Hash answers. -/
def hashV (ss : List Sym) (a : List Int) : Int := if factB ss a then (hashF a : Nat) else 0
def hashE (ss : List Sym) (a : List Int) : Int := if factB ss a then 0 else 1100
theorem hash_yes {ss : List Sym} {a : List Int} (h : factB ss a = true) : hashV ss a = (hashF a : Nat) ∧ hashE ss a = 0 := by unfold hashV hashE; rw [h]; exact ⟨rfl, rfl⟩
theorem hash_no {ss : List Sym} {a : List Int} (h : factB ss a = false) : hashV ss a = 0 ∧ hashE ss a = 1100 := by unfold hashV hashE; rw [h]; exact ⟨rfl, rfl⟩
theorem ret_hash {x y x' y' : Int} (h : x = x' ∧ y = y') : Ending.returned (.tuple #[.int .i64 x', .int .i64 y']) = .returned (.tuple #[.int .i64 x, .int .i64 y]) := by rw [h.1, h.2]
set_option maxHeartbeats 1000000 in
theorem hashFact_any (A A' : Option Addr) (n c m c' : Nat) (ss : List Sym) (a : List Int) (w : World) (h : SymsAt w w.heap.size A n ss) (hn : n ≤ maxLen) (hnc : n ≤ c) (hr : IntsAt w w.heap.size A' m a) (hm : m ≤ maxLen) (hmc : m ≤ c') :
    Calls Try.prog 10 #[.slice A n c, .slice A' m c'] w fun e w' => e = .returned (.tuple #[.int .i64 (hashV ss a), .int .i64 (hashE ss a)]) ∧ Below w.heap.size w w' := by
  have HS := Lib.hid h
  have HR := Lib.hid hr
  clear h hr
  go_enter Try.func10, Try.ntmps10
  go_wp2_with fail
  refine (isFact_any A A' n c m c' ss a _ HS.out hn hnc HR.out hm hmc).mono ?_
  rintro e w1 ⟨rfl, hb1⟩
  have HB1 := Lib.hid hb1
  clear hb1
  cases hfb : factB ss a
  · have HN := Lib.hid (hash_no hfb)
    clear hfb
    go_wp2
    go_ret2
    exact ⟨ret_hash HN.out, HB1.out⟩
  · have HN := Lib.hid (hash_yes hfb)
    have HC := Lib.hid (factB_c hfb)
    clear hfb
    go_wp2_with fail
    refine (hash_any A' m c' _ a _ (HR.out.on HB1.out) HC.out).mono ?_
    rintro e w2 ⟨rfl, rfl⟩
    obtain ⟨z, hz⟩ : ∃ z : Nat, z = hashF a := ⟨_, rfl⟩
    rw [← hz] at HN ⊢
    clear hz
    go_wp2
    go_ret2
    exact ⟨ret_hash HN.out, HB1.out⟩
set_option maxHeartbeats 1000000 in
theorem refHash_any (A A' : Option Addr) (n c m c' : Nat) (ss : List Sym) (a : List Int) (w : World) (h : SymsAt w w.heap.size A n ss) (hn : n ≤ maxLen) (hnc : n ≤ c) (hr : IntsAt w w.heap.size A' m a) (hm : m ≤ maxLen) (hmc : m ≤ c') :
    Calls Try.prog 11 #[.slice A n c, .slice A' m c'] w fun e w' => e = .returned (.tuple #[.int .i64 (hashV ss a), .int .i64 (hashE ss a)]) ∧ Below w.heap.size w w' := by
  have HS := Lib.hid h
  have HR := Lib.hid hr
  clear h hr
  go_enter Try.func11, Try.ntmps11
  go_wp2_with fail
  refine (refIsFact_any A A' n c m c' ss a _ HS.out hn HR.out hm hmc).mono ?_
  rintro e w1 ⟨rfl, hb1⟩
  have HB1 := Lib.hid hb1
  clear hb1
  cases hfb : factB ss a
  · have HN := Lib.hid (hash_no hfb)
    clear hfb
    go_wp2
    go_ret2
    exact ⟨ret_hash HN.out, HB1.out⟩
  · have HN := Lib.hid (hash_yes hfb)
    have HC := Lib.hid (factB_c hfb)
    clear hfb
    go_wp2_with fail
    refine (refSum_any A' m c' _ a _ (HR.out.on HB1.out) HC.out).mono ?_
    rintro e w2 ⟨rfl, rfl⟩
    obtain ⟨z, hz⟩ : ∃ z : Nat, z = hashF a := ⟨_, rfl⟩
    rw [← hz] at HN ⊢
    clear hz
    go_wp2
    go_ret2
    exact ⟨ret_hash HN.out, HB1.out⟩
end Go.Proofs.Ythnjpkghjkhjdaa
