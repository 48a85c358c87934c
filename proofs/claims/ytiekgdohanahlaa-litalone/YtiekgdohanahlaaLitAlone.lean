/-
  The walk of the law LitAlone.
-/
import Derived.Test.YtiekgdohanahlaaLitOpposite
namespace Go.Proofs.Ytiekgdohanahlaa
open Go.RowKit Go.Deep
set_option linter.unusedSimpArgs false
set_option linter.unusedVariables false
set_option maxRecDepth 100000

theorem alone_no {ss : List Sym} {p : Lt} (h : litB ss p = false) : topsOk ss [p] = false ∧ topsOk ss [p, p] = false := ⟨topsOk_not (k := 0) (by simp) h, topsOk_not (k := 0) (by simp) h⟩
theorem alone_ok {ss : List Sym} {p : Lt} (h : litB ss p = true) : topsOk ss [p] = true ∧ topsOk ss [p, p] = true := by
  refine ⟨topsOk_yes (atom_ex h).1 fun j hj => ?_, topsOk_yes (atom_ex h).1 fun j hj => ?_⟩
  · match j, hj with
    | 0, _ => exact h
  · match j, hj with
    | 0, _ => exact h
    | 1, _ => exact h
theorem alone_one {ss : List Sym} {p : Lt} (h : litB ss p = true) : topsR ss [p] = [0] := by
  rw [topsR_yes (alone_ok h).1]
  have t0 : topB ss [p] 0 = true := topB_iff.2 fun k hk => by
    match k, hk with
    | 0, _ => exact LMor.irrefl
  show topsN ss [p] 1 = [0]
  rw [topsN_succ, t0]; rfl
theorem alone_two {ss : List Sym} {p : Lt} (h : litB ss p = true) : topsR ss [p, p] = [0, 1] := by
  rw [topsR_yes (alone_ok h).2]
  have tt : ∀ i, i < 2 → topB ss [p, p] i = true := fun i hi => topB_iff.2 fun k hk => by
    match k, hk, i, hi with
    | 0, _, 0, _ => exact LMor.irrefl
    | 0, _, 1, _ => exact LMor.irrefl
    | 1, _, 0, _ => exact LMor.irrefl
    | 1, _, 1, _ => exact LMor.irrefl
  show topsN ss [p, p] 2 = [0, 1]
  rw [topsN_succ, topsN_succ, tt 0 (by omega), tt 1 (by omega)]; rfl

set_option maxHeartbeats 1000000 in
theorem litAlone_walk (A0 A1 : Option Addr) (n0 c0 m c1 : Nat) (ss : List Sym) (x : Bool) (t : List Int) (w : World) (hs : SymsAt w w.heap.size A0 n0 ss) (hn0 : n0 ≤ maxLen) (hnc : n0 ≤ c0) (hp : LitAt w w.heap.size A1 m c1 ⟨x, t⟩) :
    Calls Try.prog 8 #[.slice A0 n0 c0, .agg #[.bool x, .slice A1 m c1]] w fun e w' => e = .returned (.bool true) ∧ Below w.heap.size w w' := by
  have hb0 := below_new w (.cells #[.bool x, .slice A1 m c1] 25)
  have HS := Lib.hid (hs.on hb0)
  have HP := Lib.hid (BoxAt.mk' hp)
  have HB0 := Lib.hid hb0
  clear hs hp hb0
  go_enter Try.func8, Try.ntmps8
  go_wp2_with fail
  refine (awakeL_any _).mono ?_
  rintro e w1 ⟨rfl, hb1⟩
  have HB1 := Lib.hid (HB0.out.trans (hb1.mono HB0.out.size))
  replace HS := Lib.hid (HS.out.on hb1)
  replace HP := Lib.hid (HP.out.on hb1)
  clear hb1
  have p0 := HP.out.c0
  have p1 := HP.out.c1
  go_wp2_with fail
  have HL1 := Lib.hid (LitsAt.new1 w1 x t A1 m c1 HP.out.lit.at_ HP.out.lit.cap HP.out.lit.fit)
  have hb2 := below_new w1 (.cells #[.bool x, .slice A1 m c1] 25)
  have HB2 := Lib.hid (HB1.out.trans (hb2.mono HB1.out.size))
  replace HS := Lib.hid (HS.out.on hb2)
  replace HP := Lib.hid (HP.out.on hb2)
  clear hb2
  refine (litTops_any A0 _ n0 c0 1 1 ss [⟨x, t⟩] _ HS.out hn0 hnc HL1.out (by omega)).mono ?_
  rintro e w3 ⟨v3, rfl, hv3, hb3⟩
  have HB3 := Lib.hid (HB2.out.trans (hb3.mono HB2.out.size))
  replace HS := Lib.hid (HS.out.on hb3)
  replace HP := Lib.hid (HP.out.on hb3)
  clear hb3 p0 p1 HL1
  have p0 := HP.out.c0
  have p1 := HP.out.c1
  have HV3 := Lib.hid hv3
  clear hv3
  go_wp2_with fail
  have HL2 := Lib.hid (LitsAt.new2 w3 x x t t A1 A1 m m c1 c1 HP.out.lit.at_ HP.out.lit.at_ HP.out.lit.cap HP.out.lit.cap HP.out.lit.fit HP.out.lit.fit)
  have hbn := below_new w3 (.cells #[.bool x, .slice A1 m c1, .bool x, .slice A1 m c1] 25)
  have HB4 := Lib.hid (HB3.out.trans (hbn.mono HB3.out.size))
  replace HS := Lib.hid (HS.out.on hbn)
  replace HP := Lib.hid (HP.out.on hbn)
  replace HV3 := Lib.hid (HV3.out.on hbn)
  clear hbn
  refine (litTops_any A0 _ n0 c0 2 2 ss [⟨x, t⟩, ⟨x, t⟩] _ HS.out hn0 hnc HL2.out (by omega)).mono ?_
  rintro e w5 ⟨v5, rfl, hv5, hb5⟩
  have HB5 := Lib.hid (HB4.out.trans (hb5.mono HB4.out.size))
  replace HS := Lib.hid (HS.out.on hb5)
  replace HP := Lib.hid (HP.out.on hb5)
  replace HV3 := Lib.hid (HV3.out.on hb5)
  clear hb5 p0 p1 HL2
  have p0 := HP.out.c0
  have p1 := HP.out.c1
  have HV5 := Lib.hid hv5
  clear hv5
  cases hpb : litB ss ⟨x, t⟩
  · have HPB := Lib.hid hpb
    have h3 := HV3.out
    rw [topsR_no (alone_no hpb).1] at h3
    obtain ⟨A3, c3, rfl, -, -⟩ := h3.intsAt
    rw [topsE_no (alone_no hpb).1, topsE_no (alone_no hpb).2]
    clear hpb h3
    go_wp2_with fail
    refine (litMay_any A0 A1 n0 c0 m c1 ss ⟨x, t⟩ _ HS.out hn0 hnc HP.out.lit).mono ?_
    rintro e w6 ⟨rfl, hb6⟩
    have HB6 := Lib.hid (HB5.out.trans (hb6.mono HB5.out.size))
    replace HS := Lib.hid (HS.out.on hb6)
    clear hb6
    rw [HPB.out]
    go_wp2_with (go_at_call 16; refine (num_any _ _).mono ?_; rintro e w' ⟨rfl, rfl⟩)
    go_ret
    exact ⟨rfl, HB6.out⟩
  · have HPB := Lib.hid hpb
    have h3 := HV3.out
    rw [alone_one hpb] at h3
    obtain ⟨A3, c3, rfl, -, hi3⟩ := h3.intsAt
    have h5 := HV5.out
    rw [alone_two hpb] at h5
    obtain ⟨A5, c5, rfl, -, hi5⟩ := h5.intsAt
    have HI3 := Lib.hid hi3
    have HI5 := Lib.hid hi5
    rw [topsE_yes (alone_ok hpb).1, topsE_yes (alone_ok hpb).2]
    clear hpb h3 h5 hi3 hi5
    go_wp2_with fail
    refine (litMay_any A0 A1 n0 c0 m c1 ss ⟨x, t⟩ _ HS.out hn0 hnc HP.out.lit).mono ?_
    rintro e w6 ⟨rfl, hb6⟩
    have HB6 := Lib.hid (HB5.out.trans (hb6.mono HB5.out.size))
    replace HS := Lib.hid (HS.out.on hb6)
    replace HI3 := Lib.hid (HI3.out.on hb6)
    replace HI5 := Lib.hid (HI5.out.on hb6)
    clear hb6
    rw [HPB.out]
    go_wp2_with (go_at_call 16; refine (num_any _ _).mono ?_; rintro e w' ⟨rfl, rfl⟩)
    have HN := Lib.hid (IntsAt.news w6 [0])
    have hb7 := below_new w6 (.cells #[.int .i64 0] 3)
    have HB7 := Lib.hid (HB6.out.trans (hb7.mono HB6.out.size))
    replace HI3 := Lib.hid (HI3.out.on hb7)
    replace HI5 := Lib.hid (HI5.out.on hb7)
    clear hb7
    refine (sameInts_any A3 _ 1 c3 1 1 _ _ [0] [0] _ HI3.out HN.out (by unfold maxLen; omega) (by unfold maxLen; omega)).mono ?_
    rintro e w8 ⟨rfl, hb8⟩
    rw [sameI_self]
    have HB8 := Lib.hid (HB7.out.trans (hb8.mono HB7.out.size))
    replace HI5 := Lib.hid (HI5.out.on hb8)
    clear hb8 HN
    go_wp2_with fail
    have HN := Lib.hid (IntsAt.news w8 [0, 1])
    have hb9 := below_new w8 (.cells #[.int .i64 0, .int .i64 1] 3)
    have HB9 := Lib.hid (HB8.out.trans (hb9.mono HB8.out.size))
    replace HI5 := Lib.hid (HI5.out.on hb9)
    clear hb9
    refine (sameInts_any A5 _ 2 c5 2 2 _ _ [0, 1] [0, 1] _ HI5.out HN.out (by unfold maxLen; omega) (by unfold maxLen; omega)).mono ?_
    rintro e w10 ⟨rfl, hb10⟩
    rw [sameI_self]
    have HB10 := Lib.hid (HB9.out.trans (hb10.mono HB9.out.size))
    clear hb10 HN
    go_wp2
    go_ret
    exact ⟨rfl, HB10.out⟩
end Go.Proofs.Ytiekgdohanahlaa
