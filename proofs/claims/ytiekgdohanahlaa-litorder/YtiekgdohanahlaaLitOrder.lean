/-
  The walk of the law LitOrder.
-/
import Derived.Test.YtiekgdohanahlaaLitOpposite
namespace Go.Proofs.Ytiekgdohanahlaa
open Go.RowKit Go.Deep
set_option linter.unusedSimpArgs false
set_option linter.unusedVariables false
set_option maxRecDepth 100000

theorem two_lits {w : World} {A1 A2 : Option Addr} {m1 c1 m2 c2 : Nat} {x y : Bool} {t s : List Int} (h1 : LitAt w w.heap.size A1 m1 c1 ⟨x, t⟩) (h2 : LitAt w w.heap.size A2 m2 c2 ⟨y, s⟩) :
    BoxAt ((w.alloc (.cells #[.bool x, .slice A1 m1 c1] 25)).alloc (.cells #[.bool y, .slice A2 m2 c2] 25)) w.heap.size A1 m1 c1 ⟨x, t⟩ ∧ BoxAt ((w.alloc (.cells #[.bool x, .slice A1 m1 c1] 25)).alloc (.cells #[.bool y, .slice A2 m2 c2] 25)) (w.heap.size + 1) A2 m2 c2 ⟨y, s⟩ := by
  refine ⟨(BoxAt.mk' h1).on (below_new _ _), ?_⟩
  have := BoxAt.mk' (h2.new (.cells #[.bool x, .slice A1 m1 c1] 25))
  have e : (w.alloc (.cells #[.bool x, .slice A1 m1 c1] 25)).heap.size = w.heap.size + 1 := by simp
  rw [e] at this
  exact this

set_option maxHeartbeats 1000000 in
theorem litOrder_walk (A0 A1 A2 : Option Addr) (n0 c0 m1 c1 m2 c2 : Nat) (ss : List Sym) (x y : Bool) (t s : List Int) (w : World) (hs : SymsAt w w.heap.size A0 n0 ss) (hn0 : n0 ≤ maxLen) (hnc : n0 ≤ c0) (hp : LitAt w w.heap.size A1 m1 c1 ⟨x, t⟩) (hq : LitAt w w.heap.size A2 m2 c2 ⟨y, s⟩) :
    Calls Try.prog 6 #[.slice A0 n0 c0, .agg #[.bool x, .slice A1 m1 c1], .agg #[.bool y, .slice A2 m2 c2]] w fun e w' => e = .returned (.bool true) ∧ Below w.heap.size w w' := by
  have hb0 := below_new2 w (.cells #[.bool x, .slice A1 m1 c1] 25) (.cells #[.bool y, .slice A2 m2 c2] 25)
  have HS := Lib.hid (hs.on hb0)
  obtain ⟨hp', hq'⟩ := two_lits hp hq
  have HP := Lib.hid hp'
  have HQ := Lib.hid hq'
  have HB0 := Lib.hid hb0
  clear hs hp hq hb0 hp' hq'
  go_enter Try.func6, Try.ntmps6
  go_wp2_with fail
  refine (awakeL_any _).mono ?_
  rintro e w1 ⟨rfl, hb1⟩
  have HB1 := Lib.hid (HB0.out.trans (hb1.mono HB0.out.size))
  replace HS := Lib.hid (HS.out.on hb1)
  replace HP := Lib.hid (HP.out.on hb1)
  replace HQ := Lib.hid (HQ.out.on hb1)
  clear hb1
  have p0 := HP.out.c0
  have p1 := HP.out.c1
  have q0 := HQ.out.c0
  have q1 := HQ.out.c1
  go_wp2_with fail
  refine (litCompare_any A0 A1 A2 n0 c0 m1 c1 m2 c2 ss ⟨x, t⟩ ⟨y, s⟩ _ HS.out hn0 hnc HP.out.lit HQ.out.lit).mono ?_
  rintro e w2 ⟨k, E, rfl, hr, hb2⟩
  have HB2 := Lib.hid (HB1.out.trans (hb2.mono HB1.out.size))
  replace HS := Lib.hid (HS.out.on hb2)
  replace HP := Lib.hid (HP.out.on hb2)
  replace HQ := Lib.hid (HQ.out.on hb2)
  clear hb2
  have HR := Lib.hid hr
  clear hr p0 p1 q0 q1
  have p0 := HP.out.c0
  have p1 := HP.out.c1
  have q0 := HQ.out.c0
  have q1 := HQ.out.c1
  rcases HR.out.cases with ⟨rfl, rfl, hno⟩ | rfl
  · have HNO := Lib.hid hno
    clear hno
    go_wp2_with (go_at_call 16; refine (num_any _ _).mono ?_; rintro e w' ⟨rfl, rfl⟩)
    refine (litMay_any A0 A1 n0 c0 m1 c1 ss ⟨x, t⟩ _ HS.out hn0 hnc HP.out.lit).mono ?_
    rintro e w3 ⟨rfl, hb3⟩
    have HB3 := Lib.hid (HB2.out.trans (hb3.mono HB2.out.size))
    replace HS := Lib.hid (HS.out.on hb3)
    replace HP := Lib.hid (HP.out.on hb3)
    replace HQ := Lib.hid (HQ.out.on hb3)
    clear hb3 p0 p1 q0 q1
    have q0 := HQ.out.c0
    have q1 := HQ.out.c1
    cases hpb : litB ss ⟨x, t⟩
    · clear hpb
      go_wp2
      go_ret
      exact ⟨rfl, HB3.out⟩
    · have HQB : Hid (litB ss ⟨y, s⟩ = false) := by have := HNO.out; rw [hpb, Bool.true_and] at this; exact this
      clear hpb
      go_wp2_with fail
      refine (litMay_any A0 A2 n0 c0 m2 c2 ss ⟨y, s⟩ _ HS.out hn0 hnc HQ.out.lit).mono ?_
      rintro e w4 ⟨rfl, hb4⟩
      have HB4 := Lib.hid (HB3.out.trans (hb4.mono HB3.out.size))
      replace HS := Lib.hid (HS.out.on hb4)
      clear hb4
      rw [HQB.out]
      go_wp2
      go_ret
      exact ⟨rfl, HB4.out⟩
  · obtain ⟨hpb, hqb, -⟩ := HR.out.zero
    have HPB := Lib.hid hpb
    have HQB := Lib.hid hqb
    clear hpb hqb
    go_wp2_with (go_at_call 16; refine (num_any _ _).mono ?_; rintro e w' ⟨rfl, rfl⟩)
    refine (compareO_any A0 A1 A2 n0 c0 m1 c1 m2 c2 ss t s _ HS.out hn0 hnc HP.out.lit.at_ HP.out.lit.big HP.out.lit.cap HQ.out.lit.at_ HQ.out.lit.big HQ.out.lit.cap).mono ?_
    rintro e w3 ⟨m, E, rfl, hm, hb3⟩
    have HB3 := Lib.hid (HB2.out.trans (hb3.mono HB2.out.size))
    replace HP := Lib.hid (HP.out.on hb3)
    replace HQ := Lib.hid (HQ.out.on hb3)
    clear hb3 p0 p1 q0 q1
    have p0 := HP.out.c0
    have q0 := HQ.out.c0
    have hex : exB ss t s = true := exB_atoms (p := ⟨x, t⟩) (q := ⟨y, s⟩) HPB.out HQB.out
    obtain rfl : E = 0 := by
      rcases hm with ⟨h, _⟩ | ⟨_, h, _⟩
      · rw [hex] at h; cases h
      · exact h
    have hk : k = litK ⟨x, t⟩ ⟨y, s⟩ m := (HR.out.unique (LitR.of_cmp HPB.out HQB.out hm)).2
    clear hm hex
    by_cases h1 : m = 1
    · subst h1
      have HK := Lib.hid hk
      clear hk
      cases x <;> cases y <;> obtain rfl := HK.out
      · have e : litK ⟨false, t⟩ ⟨false, s⟩ 1 = 1 := rfl
        rw [e]
        clear e
        go_wp2_with (go_at_call 16; refine (num_any _ _).mono ?_; rintro e w' ⟨rfl, rfl⟩)
        go_ret
        exact ⟨rfl, HB3.out⟩
      · have e : litK ⟨false, t⟩ ⟨true, s⟩ 1 = 0 := rfl
        rw [e]
        clear e
        go_wp2_with (go_at_call 16; refine (num_any _ _).mono ?_; rintro e w' ⟨rfl, rfl⟩)
        go_ret
        exact ⟨rfl, HB3.out⟩
      · have e : litK ⟨true, t⟩ ⟨false, s⟩ 1 = 2 := rfl
        rw [e]
        clear e
        go_wp2_with (go_at_call 16; refine (num_any _ _).mono ?_; rintro e w' ⟨rfl, rfl⟩)
        go_ret
        exact ⟨rfl, HB3.out⟩
      · have e : litK ⟨true, t⟩ ⟨true, s⟩ 1 = 1 := rfl
        rw [e]
        clear e
        go_wp2_with (go_at_call 16; refine (num_any _ _).mono ?_; rintro e w' ⟨rfl, rfl⟩)
        go_ret
        exact ⟨rfl, HB3.out⟩
    · obtain rfl : k = m := by rw [hk]; unfold litK; rw [if_neg (fun z => h1 z.1)]
      have e : (k == k) = true := by simp
      clear h1 hk HR
      go_wp2_with (go_at_call 16; refine (num_any _ _).mono ?_; rintro e w' ⟨rfl, rfl⟩)
      go_ret
      exact ⟨rfl, HB3.out⟩
end Go.Proofs.Ytiekgdohanahlaa
