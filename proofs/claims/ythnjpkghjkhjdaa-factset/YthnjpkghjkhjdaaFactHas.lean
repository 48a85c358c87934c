/-
  Contract of package fact: Has.
-/
import Derived.Test.YthnjpkghjkhjdaaFactD
namespace Go.Proofs.Ythnjpkghjkhjdaa
open Go.RowKit Go.Deep
set_option linter.unusedSimpArgs false
set_option linter.unusedVariables false
set_option maxRecDepth 100000

/-- What Has answers. -/
noncomputable def hasV' (ss : List Sym) (t : Tb) (a : List Int) : Bool := okT ss t a && decide (a ∈ t.facts)
noncomputable def hasE (ss : List Sym) (t : Tb) (a : List Int) : Int := if okT ss t a then 0 else 1100
theorem has_no {ss : List Sym} {t : Tb} {a : List Int} (h : okT ss t a = false) : hasV' ss t a = false ∧ hasE ss t a = 1100 := by unfold hasV' hasE; rw [h]; exact ⟨rfl, rfl⟩
theorem has_yes {ss : List Sym} {t : Tb} {a : List Int} (h : okT ss t a = true) : hasV' ss t a = decide (a ∈ t.facts) ∧ hasE ss t a = 0 := by unfold hasV' hasE; rw [h]; exact ⟨rfl, rfl⟩
theorem okT_no1 {ss : List Sym} {t : Tb} {a : List Int} (h : tabB ss t = false) : okT ss t a = false := by unfold okT; rw [h]; rfl
theorem okT_no2 {ss : List Sym} {t : Tb} {a : List Int} (h : factB ss a = false) : okT ss t a = false := by unfold okT; rw [h, Bool.and_false]
theorem okT_yes {ss : List Sym} {t : Tb} {a : List Int} (h : tabB ss t = true) (k : factB ss a = true) : okT ss t a = true := by unfold okT; rw [h, k]; rfl
theorem ret_has {x x' : Bool} {y y' : Int} (h : x = x' ∧ y = y') : Ending.returned (.tuple #[.bool x', .int .i64 y']) = .returned (.tuple #[.bool x, .int .i64 y]) := by rw [h.1, h.2]
set_option maxHeartbeats 2000000 in
theorem has_fact (A A' : Option Addr) (n cp m c' : Nat) (ss : List Sym) (v : Tv) (t : Tb) (a : List Int) (w : World) (h : SymsAt w w.heap.size A n ss) (hn : n ≤ maxLen) (hnc : n ≤ cp) (hc : TabAt w w.heap.size v t) (hr : IntsAt w w.heap.size A' m a) (hm : m ≤ maxLen) (hmc : m ≤ c') :
    Calls Try.prog 12 #[.slice A n cp, v.val, .slice A' m c'] w fun e w' => e = .returned (.tuple #[.bool (hasV' ss t a), .int .i64 (hasE ss t a)]) ∧ Below w.heap.size w w' := by
  have hb0 := below_new w v.obj
  have hx := TBox.new hc
  have hs := h.on hb0
  have hr0 := hr.on hb0
  rw [Tv.val_eq]
  unfold Tv.obj at hx hb0 hs hr0
  obtain ⟨A1, n1, c1, A2, n2, c2⟩ := v
  dsimp only at hx hb0 hs hr0 ⊢
  have HX := Lib.hid hx
  have HB0 := Lib.hid hb0
  have HS := Lib.hid hs
  have HR := Lib.hid hr0
  have p0 := hx.c0
  have p1 := hx.c1
  dsimp only at p0 p1
  clear hc hb0 hx hs h hr hr0
  go_enter Try.func12, Try.ntmps12
  go_wp2_with fail
  refine (mayF_any A n cp ss ⟨A1, n1, c1, A2, n2, c2⟩ t _ HS.out hn hnc HX.out.tb).mono ?_
  rintro e w1 ⟨rfl, hb1⟩
  have HB1 := Lib.hid (HB0.out.trans (hb1.mono HB0.out.size))
  replace HX := Lib.hid (HX.out.on hb1)
  replace HS := Lib.hid (HS.out.on hb1)
  replace HR := Lib.hid (HR.out.on hb1)
  clear p0 p1 hb1
  have p0 := HX.out.c0
  have p1 := HX.out.c1
  dsimp only at p0 p1
  cases htb : tabB ss t
  · have HN := Lib.hid (has_no (okT_no1 (a := a) htb))
    clear htb
    go_wp2
    go_ret2
    exact ⟨ret_has HN.out, HB1.out⟩
  have HT := Lib.hid htb
  clear htb
  go_wp2_with fail
  refine (isFact_any A A' n cp m c' ss a _ HS.out hn hnc HR.out hm hmc).mono ?_
  rintro e w2 ⟨rfl, hb2⟩
  have HB2 := Lib.hid (HB1.out.trans (hb2.mono HB1.out.size))
  replace HX := Lib.hid (HX.out.on hb2)
  replace HR := Lib.hid (HR.out.on hb2)
  clear p0 p1 hb2
  have p0 := HX.out.c0
  have p1 := HX.out.c1
  dsimp only at p0 p1
  cases hfb : factB ss a
  · have HN := Lib.hid (has_no (okT_no2 (t := t) hfb))
    clear hfb
    go_wp2
    go_ret2
    exact ⟨ret_has HN.out, HB2.out⟩
  have HC := Lib.hid (factB_c hfb)
  have HN := Lib.hid (has_yes (okT_yes HT.out hfb))
  have HOK := Lib.hid (tabB_true HT.out).2
  have h32 : n1 = 32 := by have := HOK.out.len; rw [HX.out.tb.sl.len] at this; exact this
  clear hfb
  subst h32
  go_wp2_with fail
  refine (slotOf_any A' m c' ⟨A1, 32, c1, A2, n2, c2⟩ t a _ HX.out.tb rfl HOK.out.rng HR.out HC.out).mono ?_
  rintro e w3 ⟨rfl, hb3⟩
  have HB3 := Lib.hid (HB2.out.trans (hb3.mono HB2.out.size))
  clear hb3
  have hsm := HOK.out.slot_mem (a := a)
  obtain ⟨s, hs⟩ : ∃ s, s = slotR t a := ⟨_, rfl⟩
  rw [← hs] at hsm ⊢
  by_cases g : a ∈ t.facts
  · have g1 := hsm.2 g
    have g2 : decide (0 ≤ s) = true := decide_eq_true g1
    have HN2 : Hid (hasV' ss t a = true ∧ hasE ss t a = 0) := ⟨by rw [HN.out.1]; exact decide_eq_true g, HN.out.2⟩
    clear hsm g hs
    go_wp2
    go_ret2
    exact ⟨ret_has HN2.out, HB3.out⟩
  · have g1 : ¬ 0 ≤ s := fun q => g (hsm.1 q)
    have HN2 : Hid (hasV' ss t a = false ∧ hasE ss t a = 0) := ⟨by rw [HN.out.1]; exact decide_eq_false g, HN.out.2⟩
    have g2 : decide (0 ≤ s) = false := decide_eq_false g1
    clear hsm g hs
    go_wp2
    go_ret2
    exact ⟨ret_has HN2.out, HB3.out⟩
end Go.Proofs.Ythnjpkghjkhjdaa
