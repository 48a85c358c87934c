/-
  The walk of the law LitOpposite.
-/
import Derived.Test.YtiekgdohanahlaaAwakeL
namespace Go.Proofs.Ytiekgdohanahlaa
open Go.RowKit Go.Deep
set_option linter.unusedSimpArgs false
set_option linter.unusedVariables false
set_option maxRecDepth 100000

theorem BoxAt.mk' {w : World} {A : Option Addr} {m c : Nat} {p : Lt} (h : LitAt w w.heap.size A m c p) : BoxAt (w.alloc (.cells #[.bool p.neg, .slice A m c] 25)) w.heap.size A m c p := BoxAt.new (p := p) w p.neg h
theorem LitAt.turn {w : World} {B m c : Nat} {A : Option Addr} {p : Lt} (h : LitAt w B A m c p) (x : Bool) : LitAt w B A m c ⟨x, p.atom⟩ := ⟨h.at_, h.cap, h.fit⟩
theorem opp_r {ss : List Sym} {x : Bool} {t : List Int} (h : litB ss ⟨x, t⟩ = true) : LitR ss ⟨x, t⟩ ⟨!x, t⟩ 0 (if x = true then 2 else 0) ∧ LitR ss ⟨!x, t⟩ ⟨x, t⟩ 0 (if x = true then 0 else 2) := by
  have hq : litB ss ⟨!x, t⟩ = true := h
  cases x
  · have hm : LMor ss ⟨!false, t⟩ ⟨false, t⟩ := .inr ⟨rfl, rfl, rfl⟩
    exact ⟨.inr ⟨by rw [h, hq]; rfl, rfl, .inr (.inr (.inl ⟨hm, rfl⟩))⟩, .inr ⟨by rw [h, hq]; rfl, rfl, .inr (.inl ⟨hm, rfl⟩)⟩⟩
  · have hm : LMor ss ⟨true, t⟩ ⟨!true, t⟩ := .inr ⟨rfl, rfl, rfl⟩
    exact ⟨.inr ⟨by rw [h, hq]; rfl, rfl, .inr (.inl ⟨hm, rfl⟩)⟩, .inr ⟨by rw [h, hq]; rfl, rfl, .inr (.inr (.inl ⟨hm, rfl⟩))⟩⟩
theorem litE_yes {ss : List Sym} {p : Lt} (h : litB ss p = true) : litE ss p = 0 := by unfold litE; rw [h]; rfl

set_option maxHeartbeats 1000000 in
theorem litOpposite_walk (A0 A1 : Option Addr) (n0 c0 m c1 : Nat) (ss : List Sym) (x : Bool) (t : List Int) (w : World) (hs : SymsAt w w.heap.size A0 n0 ss) (hn0 : n0 ≤ maxLen) (hnc : n0 ≤ c0) (hp : LitAt w w.heap.size A1 m c1 ⟨x, t⟩) :
    Calls Try.prog 5 #[.slice A0 n0 c0, .agg #[.bool x, .slice A1 m c1]] w fun e w' => e = .returned (.bool true) ∧ Below w.heap.size w w' := by
  have hb0 := below_new w (.cells #[.bool x, .slice A1 m c1] 25)
  have HS := Lib.hid (hs.on hb0)
  have HP := Lib.hid (BoxAt.mk' hp)
  have HB0 := Lib.hid hb0
  clear hs hp hb0
  go_enter Try.func5, Try.ntmps5
  go_wp2_with fail
  refine (awakeL_any _).mono ?_
  rintro e w1 ⟨rfl, hb1⟩
  have HB1 := Lib.hid (HB0.out.trans (hb1.mono HB0.out.size))
  replace HS := Lib.hid (HS.out.on hb1)
  replace HP := Lib.hid (HP.out.on hb1)
  clear hb1
  have s0 := HP.out.c0
  have s1 := HP.out.c1
  have HQ := Lib.hid (BoxAt.mk' (HP.out.lit.turn (!x)))
  have hb2 := below_new w1 (.cells #[.bool (!x), .slice A1 m c1] 25)
  have HB2 := Lib.hid (HB1.out.trans (hb2.mono HB1.out.size))
  replace HS := Lib.hid (HS.out.on hb2)
  replace HP := Lib.hid (HP.out.on hb2)
  clear hb2
  have p0 := HP.out.c0
  have p1 := HP.out.c1
  go_wp2_with fail
  refine (litMay_any A0 A1 n0 c0 m c1 ss ⟨x, t⟩ _ HS.out hn0 hnc HP.out.lit).mono ?_
  rintro e w3 ⟨rfl, hb3⟩
  have HB3 := Lib.hid (HB2.out.trans (hb3.mono HB2.out.size))
  replace HS := Lib.hid (HS.out.on hb3)
  replace HP := Lib.hid (HP.out.on hb3)
  replace HQ := Lib.hid (HQ.out.on hb3)
  clear hb3
  clear p0 p1 s0 s1
  have p0 := HP.out.c0
  have p1 := HP.out.c1
  have q0 := HQ.out.c0
  have q1 := HQ.out.c1
  cases hpb : litB ss ⟨x, t⟩
  · have HPB : Hid (litB ss ⟨!x, t⟩ = false) := hpb
    clear hpb
    go_wp2_with fail
    refine (litMay_any A0 A1 n0 c0 m c1 ss ⟨!x, t⟩ _ HS.out hn0 hnc HQ.out.lit).mono ?_
    rintro e w4 ⟨rfl, hb4⟩
    have HB4 := Lib.hid (HB3.out.trans (hb4.mono HB3.out.size))
    replace HS := Lib.hid (HS.out.on hb4)
    clear hb4
    rw [HPB.out]
    go_wp2
    go_ret
    exact ⟨rfl, HB4.out⟩
  · have HPB := Lib.hid hpb
    clear hpb
    obtain ⟨kx, ky, hkx, hky, hxx⟩ : ∃ kx ky : Int, LitR ss ⟨x, t⟩ ⟨!x, t⟩ 0 kx ∧ LitR ss ⟨!x, t⟩ ⟨x, t⟩ 0 ky ∧ (x = true ∧ kx = 2 ∧ ky = 0 ∨ x = false ∧ kx = 0 ∧ ky = 2) := by
      have := opp_r HPB.out
      cases x
      · exact ⟨0, 2, this.1, this.2, .inr ⟨rfl, rfl, rfl⟩⟩
      · exact ⟨2, 0, this.1, this.2, .inl ⟨rfl, rfl, rfl⟩⟩
    have HKX := Lib.hid hkx
    have HKY := Lib.hid hky
    have HXX := Lib.hid hxx
    clear hkx hky hxx
    go_wp2_with fail
    refine (litCompare_any A0 A1 A1 n0 c0 m c1 m c1 ss ⟨x, t⟩ ⟨!x, t⟩ _ HS.out hn0 hnc HP.out.lit HQ.out.lit).mono ?_
    rintro e w4 ⟨k4, E4, rfl, hr4, hb4⟩
    have HB4 := Lib.hid (HB3.out.trans (hb4.mono HB3.out.size))
    replace HS := Lib.hid (HS.out.on hb4)
    replace HP := Lib.hid (HP.out.on hb4)
    replace HQ := Lib.hid (HQ.out.on hb4)
    clear hb4
    obtain ⟨rfl, rfl⟩ := hr4.unique HKX.out
    clear hr4 p0 p1 q0 q1
    have p0 := HP.out.c0
    have p1 := HP.out.c1
    have q0 := HQ.out.c0
    have q1 := HQ.out.c1
    go_wp2_with fail
    refine (litCompare_any A0 A1 A1 n0 c0 m c1 m c1 ss ⟨!x, t⟩ ⟨x, t⟩ _ HS.out hn0 hnc HQ.out.lit HP.out.lit).mono ?_
    rintro e w5 ⟨k5, E5, rfl, hr5, hb5⟩
    have HB5 := Lib.hid (HB4.out.trans (hb5.mono HB4.out.size))
    replace HS := Lib.hid (HS.out.on hb5)
    replace HP := Lib.hid (HP.out.on hb5)
    replace HQ := Lib.hid (HQ.out.on hb5)
    clear hb5
    obtain ⟨rfl, rfl⟩ := hr5.unique HKY.out
    clear hr5 p0 p1 q0 q1
    have p0 := HP.out.c0
    have p1 := HP.out.c1
    have q0 := HQ.out.c0
    have q1 := HQ.out.c1
    go_wp2_with fail
    refine (litWeight_any A0 A1 n0 c0 m c1 ss ⟨x, t⟩ _ HS.out hn0 hnc HP.out.lit).mono ?_
    rintro e w6 ⟨rfl, hb6⟩
    have HB6 := Lib.hid (HB5.out.trans (hb6.mono HB5.out.size))
    replace HS := Lib.hid (HS.out.on hb6)
    replace HP := Lib.hid (HP.out.on hb6)
    replace HQ := Lib.hid (HQ.out.on hb6)
    clear hb6
    rw [litE_yes HPB.out]
    clear p0 p1 q0 q1
    have p0 := HP.out.c0
    have p1 := HP.out.c1
    have q0 := HQ.out.c0
    have q1 := HQ.out.c1
    go_wp2_with fail
    refine (litWeight_any A0 A1 n0 c0 m c1 ss ⟨!x, t⟩ _ HS.out hn0 hnc HQ.out.lit).mono ?_
    rintro e w7 ⟨rfl, hb7⟩
    have HB7 := Lib.hid (HB6.out.trans (hb7.mono HB6.out.size))
    replace HS := Lib.hid (HS.out.on hb7)
    replace HP := Lib.hid (HP.out.on hb7)
    replace HQ := Lib.hid (HQ.out.on hb7)
    clear hb7
    rw [litE_yes (p := ⟨!x, t⟩) HPB.out]
    clear p0 p1 q0 q1
    have p0 := HP.out.c0
    have p1 := HP.out.c1
    have e1 : litW ss ⟨!x, t⟩ = litW ss ⟨x, t⟩ := rfl
    rw [e1]
    obtain ⟨W, hW⟩ : ∃ W, W = litW ss ⟨x, t⟩ := ⟨_, rfl⟩
    rw [← hW]
    clear hW e1
    have g1 : (W == W) = true := by simp
    rcases HXX.out with ⟨rfl, rfl, rfl⟩ | ⟨rfl, rfl, rfl⟩
    · go_wp2_with (go_at_call 16; refine (num_any _ _).mono ?_; rintro e w' ⟨rfl, rfl⟩)
      go_ret
      exact ⟨rfl, HB7.out⟩
    · go_wp2_with (go_at_call 16; refine (num_any _ _).mono ?_; rintro e w' ⟨rfl, rfl⟩)
      go_ret
      exact ⟨rfl, HB7.out⟩
end Go.Proofs.Ytiekgdohanahlaa
