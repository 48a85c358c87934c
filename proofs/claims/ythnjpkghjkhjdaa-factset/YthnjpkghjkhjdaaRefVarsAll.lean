/-
  Contracts of the reference: Row, Starts, EndOf.
  Contracts of the reference: In, VarsOf, Vars, Heavy, Weight.
-/
import Derived.Test.YthnjpkghjkhjdaaBaseTerm
import Derived.Test.YthnjpkghjkhjdaaTermMore
import Derived.Test.YthnjpkghjkhjdaaPlainCl
namespace Go.Proofs.Ythnjpkghjkhjdaa
open Go.RowKit
set_option linter.unusedSimpArgs false
set_option linter.unusedVariables false

theorem termsK_no {ss : List Sym} {r : List Int} (hm : mayB ss = true) (h : rowB ss r = false) : termsK ss r = -1 := by
  unfold rowB at h; rw [hm] at h; simp only [Bool.true_and] at h; unfold termsK; rw [h]; rfl
theorem termsK_yes {ss : List Sym} {r : List Int} (h : rowB ss r = true) : termsK ss r = ((tlD ss r).length : Int) := by
  unfold rowB at h; unfold termsK; simp at h; simp [h.1.2, h.2]
theorem rowB_may {ss : List Sym} {r : List Int} (h : mayB ss = false) : rowB ss r = false := by unfold rowB; rw [h]; rfl

end Go.Proofs.Ythnjpkghjkhjdaa

namespace Go.Proofs.Ythnjpkghjkhjdaa
open Go.RowKit
set_option linter.unusedSimpArgs false
set_option linter.unusedVariables false

theorem hasV_hit {r : List Int} {v k : Nat} (h : k < r.length) (e : intAt r k = -1 - (v : Int)) : hasV r v = true := by
  unfold hasV; rw [List.any_eq_true]
  exact ⟨intAt r k, List.mem_iff_getElem?.2 ⟨k, intAt_get h⟩, by simp [e]⟩
theorem hasV_miss {r : List Int} {v : Nat} (h : hasV (r.take r.length) v = false) : hasV r v = false := by rw [List.take_length] at h; exact h

set_option maxHeartbeats 1000000 in
theorem refIn_any (A' : Option Addr) (m c' B' v : Nat) (r : List Int) (w : World) (hr : IntsAt w B' A' m r) (hm : m ≤ maxLen) (hv : v ≤ 1000000) :
    Calls Try.prog 65 #[.slice A' m c', .int .i64 v] w fun e w' => e = .returned (.bool (hasV r v)) ∧ w = w' := by
  unfold maxLen at hm
  have HL := Lib.hid hr.len
  go_enter Try.func65, Try.ntmps65
  go_wp2
  go_loop [5] (fun i => ∃ k : Nat, i = .int .i64 k ∧ k ≤ m ∧ hasV (r.take k) v = false) (fun i => m - (intOf i).toNat)
  case atStart => exact ⟨0, rfl, by omega, rfl⟩
  case round =>
    obtain ⟨k, rfl, hk, hno⟩ := hrel
    have HNO := Lib.hid hno
    clear hno
    by_cases hlt : k < m
    · obtain ⟨b', off', rfl, _, hc'⟩ := hr.at_ (by omega)
      have hcx : w.cell? ⟨b', off' + k, none⟩ = some (.int .i64 (intAt r k)) := hc' k hlt
      have hlr : k < r.length := by rw [HL.out]; exact hlt
      have HLR := Lib.hid hlr
      clear hlr hc'
      by_cases he : intAt r k = -1 - (v : Int)
      · have he' : (intAt r k == -1 - (v : Int)) = true := by simp [he]
        have H := Lib.hid (hasV_hit HLR.out he)
        clear he
        go_wp2
        go_ret
        exact ⟨ret_bool H.out.symm, rfl⟩
      · have he' : (intAt r k == -1 - (v : Int)) = false := by simp [he]
        have H : Hid (hasV (r.take (k + 1)) v = false) := by show hasV _ v = false; rw [hasV_take r k v HLR.out, HNO.out, he']; rfl
        clear he
        go_wp2
        go_round
        case rel => exact ⟨k + 1, by go_num, by omega, H.out⟩
        case measure => simp [intOf]; omega
    · obtain rfl : k = m := by omega
      have H : Hid (hasV r v = false) := by show hasV r v = false; have := HNO.out; rw [List.take_of_length_le (by rw [HL.out]; omega)] at this; exact this
      go_wp2
      go_ret
      exact ⟨ret_bool H.out.symm, rfl⟩
theorem refIn_is (b : Bool) (A' : Option Addr) (m c' B' v : Nat) (r : List Int) (w : World) (hr : IntsAt w B' A' m r) (hm : m ≤ maxLen) (hv : v ≤ 1000000) (hb : hasV r v = b) :
    Calls Try.prog 65 #[.slice A' m c', .int .i64 v] w fun e w' => e = .returned (.bool b) ∧ w = w' :=
  (refIn_any A' m c' B' v r w hr hm hv).mono fun _ _ ⟨he, hw⟩ => ⟨by rw [he, hb], hw⟩

set_option maxHeartbeats 1000000 in
theorem refVarsOf_any (A' : Option Addr) (m c' : Nat) (r : List Int) (w : World) (hr : IntsAt w w.heap.size A' m r) (hm : m ≤ maxLen) :
    Calls Try.prog 54 #[.slice A' m c'] w (IntsRet (varsN r 24) w) := by
  have HR := Lib.hid hr
  go_enter Try.func54, Try.ntmps54
  go_wp2
  go_loopw [3, 4] (fun q i wx => ∃ j : Nat, i = .int .i64 j ∧ j ≤ 24 ∧ OwnI wx w.heap.size q (varsN r j) ∧ Below w.heap.size w wx) (fun _ i _ => 24 - (intOf i).toNat)
  case atStart => exact ⟨0, rfl, by omega, OwnI.nil_, Below.refl _ _⟩
  case round =>
    obtain ⟨j, rfl, hj, hown, hbx⟩ := hrel
    have HOWN := Lib.hid hown
    have HBX := Lib.hid hbx
    have hsx := hbx.size
    have hvl := varsN_length r j
    clear hown hbx
    by_cases hjt : j < 24
    · have HS := Lib.hid (varsN_succ r j)
      have h23 : (j : Int) ≤ 23 := by omega
      cases hv : hasV r j
      · have HV := Lib.hid hv
        go_wp2_with fail
        refine (refIn_is false A' m c' _ j r _ (HR.out.on HBX.out) hm (by omega) hv).mono ?_
        rintro e w2 ⟨rfl, rfl⟩
        clear hv
        go_wp2
        go_roundw
        case rel => exact ⟨j + 1, by go_num, by omega, HOWN.out.cast (by rw [HS.out, HV.out]; rfl), HBX.out⟩
        case measure => simp [intOf]; omega
      · have HV := Lib.hid hv
        go_wp2_with fail
        refine (refIn_is true A' m c' _ j r _ (HR.out.on HBX.out) hm (by omega) hv).mono ?_
        rintro e w2 ⟨rfl, rfl⟩
        clear hv
        go_wp2_with (at_builtin
                     refine app_int1 rfl (.tmp 12) (.tmp 14) rfl w.heap.size _ (varsN r j) (j : Int) rfl HOWN.out rfl (by omega) hsx ?_
                     intro v2 w2 hown2 hb2
                     have HOWN2 := Lib.hid hown2
                     have HB2 := Lib.hid hb2
                     clear hown2 hb2)
        go_roundw
        case rel => exact ⟨j + 1, by go_num, by omega, HOWN2.out.cast (by rw [HS.out, HV.out]; rfl), HBX.out.trans HB2.out⟩
        case measure => simp [intOf]; omega
    · obtain rfl : j = 24 := by omega
      go_wp2
      go_ret
      exact ⟨_, rfl, HOWN.out, HBX.out⟩

end Go.Proofs.Ythnjpkghjkhjdaa
