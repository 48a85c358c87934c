/-
  Contracts of quaereref8: Heavy, Weight, VarsOf, Vars, SameLit.
  Contracts of quaereref8: Dull, Trivial.
  Contract of quaereref8: Trivial.
-/
import Derived.Test.YtcjpopjcpgipjaaDoorClauseTriv
import Derived.Test.YtcjpopjcpgipjaaDoorClauseVars
import Derived.Test.YtcjpopjcpgipjaaDoorRefVarsAll
import Derived.Test.YtcjpopjcpgipjaaDoorRefLits
import Derived.Deep.DeepCutAuto
namespace Go.Proofs.YtcjpopjcpgipjaaDoor
open Go.RowKit Go.Deep
set_option linter.unusedSimpArgs false
set_option linter.unusedVariables false
set_option maxRecDepth 100000

set_option maxHeartbeats 2000000 in
theorem refVarsOfC_any (v : Cv) (c : Cl) (w : World) (hc : ClAt w w.heap.size v c) (hs : Small c) :
    Calls Tryd.prog 43 #[v.val] w (IntsRet (varsC c) w) := by
  have hb0 := below_new w v.obj
  have hx0 := CBox.new hc
  rw [Cv.val_eq]
  have HVE := Lib.hid v.val_eq
  unfold Cv.obj at hb0 hx0
  have HX := Lib.hid hx0
  have HB0 := Lib.hid hb0
  have HSM := Lib.hid hs
  obtain ⟨L, hL⟩ : ∃ L, L = rowsC c := ⟨_, rfl⟩
  have HPA := Lib.hid (refRowsR_any v c)
  have H49 : Hid (∀ r ∈ L, r.length ≤ 49) := by rw [hL]; exact hs.r
  have hL11 : L.length ≤ 11 := by rw [hL]; exact hs.rows
  have HVC : Hid (varsC c = varsN L.flatten 24) := by show _ = _; rw [hL]; rfl
  rw [← hL] at HPA
  clear hc hb0 hx0 hs hL
  go_enter Tryd.func43, Tryd.ntmps43
  go_wp2_with fail
  rw [← HVE.out]
  refine (HPA.out _ HX.out.cl HSM.out).mono ?_
  rintro e w1 ⟨A5, cap, rfl, hcap, ht, hb1⟩
  have HT := Lib.hid ht
  have HB1 := Lib.hid (HB0.out.trans (hb1.mono HB0.out.size))
  obtain ⟨m, hm⟩ : ∃ m, m = L.length := ⟨_, rfl⟩
  rw [← hm] at HT hcap hL11 ⊢
  have HMM := Lib.hid hm
  have HFL : Hid (∀ k, (L.take k).flatten.length ≤ 539) := fun k => Nat.le_trans (flat_few fun r hr => H49.out r (List.mem_of_mem_take hr)) (by have := HMM.out; rw [List.length_take]; omega)
  clear ht hb1 hm
  go_wp2
  go_loopw [3, 5] (fun q i wr => ∃ k : Nat, i = .int .i64 k ∧ k ≤ m ∧ OwnI wr w1.heap.size q (L.take k).flatten ∧ Below w1.heap.size w1 wr) (fun _ i _ => m - (intOf i).toNat)
  case atStart => exact ⟨0, rfl, by omega, OwnI.nil_, Below.refl _ _⟩
  case round =>
    obtain ⟨k, rfl, hk, hown, hbw⟩ := hrel
    have HOWN := Lib.hid hown
    have HBW := Lib.hid hbw
    have hsz := hbw.size
    clear hown hbw
    by_cases hlt : k < m
    · have hkL : k < L.length := by rw [← HMM.out]; exact hlt
      obtain ⟨b, off, A2, c2, rfl, hb, d0, hr, hnil⟩ := (HT.out.on HBW.out).one hlt
      have HNX := Lib.hid (rowOf_take hkL)
      have hf1 := HFL.out k
      have h49 := H49.out _ (rowOf_mem hkL)
      obtain ⟨r, hrr⟩ : ∃ r, r = rowOf L k := ⟨_, rfl⟩
      rw [← hrr] at d0 hr HNX h49
      have HR := Lib.hid hr
      have HNIL : Hid (A2 = none → r.length = 0 ∧ c2 = 0) := fun q => ⟨by
        rcases Nat.eq_zero_or_pos r.length with e | e
        · exact e
        · exact absurd q (hr.at_.some_ e), hnil q⟩
      obtain ⟨Lr, hLr⟩ : ∃ Lr, r.length = Lr := ⟨_, rfl⟩
      rw [hLr] at d0 HR HNIL h49
      have hi0 : (0 : Int) ≤ (k : Int) := by omega
      have hi3 : (k : Int) < (m : Int) := by omega
      have hlen : (L.take k).flatten.length + Lr ≤ 17592186044416 := by omega
      clear hr hrr hnil hkL hLr
      go_wp2_with (at_builtin
                   refine app_ints rfl (.tmp 14) (.tmp 18) rfl w1.heap.size _ (L.take k).flatten rfl HOWN.out A2 Lr c2 _ r rfl HNIL.out HR.out.at_ hlen hsz ?_
                   intro v2 w2 hown2 hb2
                   have HO2 := Lib.hid hown2
                   have HB2 := Lib.hid (HBW.out.trans hb2)
                   clear hown2 hb2)
      go_roundw
      case rel => exact ⟨k + 1, by go_num, by omega, by rw [HNX.out]; exact HO2.out, HB2.out⟩
      case measure => simp [intOf]; omega
    · obtain rfl : k = m := by omega
      have HOW : Hid (OwnI wr w1.heap.size u3 L.flatten) := HOWN.out.cast (by rw [List.take_of_length_le (by rw [HMM.out]; omega)])
      obtain ⟨A7, c7, hv7, _, hi7⟩ := HOW.out.intsAt
      have hfl := HFL.out k
      rw [List.take_of_length_le (by rw [HMM.out]; omega)] at hfl
      obtain ⟨N7, hN7⟩ : ∃ N7, N7 = L.flatten.length := ⟨_, rfl⟩
      rw [← hN7] at hv7 hi7 hfl
      subst hv7
      have HI := Lib.hid hi7
      clear hi7 hN7
      go_wp2_with fail
      refine (refVarsOf_any A7 N7 c7 L.flatten _ HI.out (by unfold maxLen; omega)).mono ?_
      rintro e w3 ⟨v3, rfl, hv3, hb3⟩
      rw [← HVC.out] at hv3
      have HV3 := Lib.hid hv3
      have HB3 := Lib.hid (HBW.out.trans (hb3.mono HBW.out.size))
      clear hb3 hv3
      go_wp2
      go_ret
      exact ⟨_, rfl, HV3.out.lower (Nat.le_trans HB1.out.size HBW.out.size), HB1.out.trans (HB3.out.mono HB1.out.size)⟩
end Go.Proofs.YtcjpopjcpgipjaaDoor

namespace Go.Proofs.YtcjpopjcpgipjaaDoor
open Go.RowKit Go.Deep
set_option linter.unusedSimpArgs false
set_option linter.unusedVariables false
set_option maxRecDepth 100000

theorem eq_parts {ss : List Sym} {z y : List Int} (hz : trm 24 ss z 1) (hy : trm 24 ss y 1) : ∃ ms, tl ss (nrm (z ++ y)) = some ms ∧ (partsL (z ++ y) ms).length = 2 ∧ rowOf (partsL (z ++ y) ms) 0 = z ∧ rowOf (partsL (z ++ y) ms) 1 = y := by
  obtain ⟨⟨ms, h1, h2⟩, h3⟩ := trm_append hz hy
  have hl : (partsL (z ++ y) ms).length = 2 := by rw [partsL_length, h2]
  have hf := partsL_flat h1
  have ht := partsL_trm (V := 24) h1 h3
  refine ⟨ms, h1, hl, ?_⟩
  obtain ⟨a, b, hp⟩ : ∃ a b, partsL (z ++ y) ms = [a, b] := by
    match partsL (z ++ y) ms, hl with
    | [a, b], _ => exact ⟨a, b, rfl⟩
  rw [hp] at hf ht ⊢
  have e : a ++ b = z ++ y := by simpa using hf
  obtain ⟨q1, q2⟩ := trm_uniq (ht a (List.mem_cons_self ..)) hz e
  exact ⟨q1, q2⟩
theorem sameL_opp {p q : Lt} : sameL (opp p) q = ((q.neg != p.neg) && sameI q.atom p.atom) := by
  unfold sameL opp sameI
  have : decide (p.atom = q.atom) = decide (q.atom = p.atom) := decide_eq_decide.2 ⟨fun h => h.symm, fun h => h.symm⟩
  rw [this]
  cases p.neg <;> cases q.neg <;> rfl
theorem hasL_take {p : Lt} {ls : List Lt} {k : Nat} (hk : k ≤ ls.length) (h : ∀ t, t < k → sameL p (ltAt ls t) = false) : hasL p (ls.take k) = false := by
  refine hasL_no fun t ht => ?_
  rw [List.length_take] at ht
  have e : ltAt (ls.take k) t = ltAt ls t := by
    unfold ltAt
    rw [List.getD_eq_getElem?_getD, List.getD_eq_getElem?_getD, List.getElem?_take, if_pos (by omega)]
  rw [e]; exact h t (by omega)
theorem hasL_took {p : Lt} {ls : List Lt} {k t : Nat} (ht : t < k) (hk : k ≤ ls.length) (h : sameL p (ltAt ls t) = true) : hasL p (ls.take k) = true := by
  have e : ltAt (ls.take k) t = ltAt ls t := by
    unfold ltAt
    rw [List.getD_eq_getElem?_getD, List.getD_eq_getElem?_getD, List.getElem?_take, if_pos ht]
  exact hasL_yes (k := t) (by rw [List.length_take]; omega) (by rw [e]; exact h)

/-- Is it an equation without Neg? -/
def eqL (p : Lt) : Bool := !p.neg && decide (intAt p.atom 0 = 0)
theorem eqL_yes {p : Lt} (h : eqL p = true) : p.neg = false ∧ intAt p.atom 0 = 0 := by
  unfold eqL at h
  simp only [Bool.and_eq_true, Bool.not_eq_true', decide_eq_true_eq] at h
  exact h
theorem eqL_no {ss : List Sym} {p : Lt} (h : eqL p = false) : idB ss p = false := by
  unfold eqL at h
  rw [Bool.and_eq_false_iff, decide_eq_false_iff_not] at h
  rcases h with h | h
  · exact idB_neg (by simpa using h)
  · exact idB_code h
end Go.Proofs.YtcjpopjcpgipjaaDoor

namespace Go.Proofs.YtcjpopjcpgipjaaDoor
open Go.RowKit Go.Deep
set_option linter.unusedSimpArgs false
set_option linter.unusedVariables false
set_option maxRecDepth 100000

end Go.Proofs.YtcjpopjcpgipjaaDoor
