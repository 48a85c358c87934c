/-
  The walks of the laws Paths and PathFinds.
-/
import Derived.Test.YthdpojokogiinaaAwakeR
import Derived.Test.YthdpojokogiinaaPathAllL
import Derived.Test.YthdpojokogiinaaRefPathF
namespace Go.Proofs.Ythdpojokogiinaa
open Go.RowKit
set_option linter.unusedSimpArgs false
set_option linter.unusedVariables false
set_option maxRecDepth 100000

theorem pathsV_fit {ss : List Sym} {t : List Int} : ∀ r ∈ pathsV ss t, r.length * 8 ≤ 140737488351232 := by
  unfold pathsV
  cases hx : exprB ss t
  · intro r hr; simp at hr
  · exact pths_fit hx
theorem pathsV_few {ss : List Sym} {t : List Int} : (pathsV ss t).length ≤ 49 := by
  unfold pathsV
  cases hx : exprB ss t
  · simp
  · show (pths ss t []).length ≤ 49; rw [pths_length]; exact (expr_len hx).2
theorem OwnT.tups_of {w : World} {base L c : Nat} {A : Option Addr} {ts : List (List Int)} (h : OwnT w base (.slice A L c) ts) (hf : ∀ t ∈ ts, t.length * 8 ≤ 140737488351232) (hl : L = ts.length) : TupsAt w w.heap.size A L ts := by
  obtain ⟨A', c', e, _, k, _⟩ := h.tupsAt hf
  injection e with e1 e2 e3
  rw [e1, hl]; exact k
set_option maxHeartbeats 1000000 in
theorem paths_walk (A0 A1 : Option Addr) (n0 c0 n1 c1 : Nat) (ss : List Sym) (t : List Int) (w : World) (hs : SymsAt w w.heap.size A0 n0 ss) (hn0 : n0 ≤ maxLen) (hnc : n0 ≤ c0) (ha : IntsAt w w.heap.size A1 n1 t) (hn1 : n1 * 8 ≤ 140737488351232) (hnc1 : n1 ≤ c1) :
    Calls Try.prog 3 #[.slice A0 n0 c0, .slice A1 n1 c1] w fun e w' => e = .returned (.bool true) ∧ Below w.heap.size w w' := by
  have HS := Lib.hid hs
  have HA := Lib.hid ha
  have HLA := Lib.hid ha.len
  have HB0 := Lib.hid (Below.refl w.heap.size w)
  have hn1' : n1 ≤ maxLen := by unfold maxLen; omega
  clear hs ha
  go_enter Try.func3, Try.ntmps3
  go_wp2_with fail
  refine (lendInts_any A1 n1 c1 t _ HA.out hn1).mono ?_
  rintro e w1 ⟨v1, rfl, hx1, hb1⟩
  have HB1 := Lib.hid (HB0.out.trans (hb1.mono HB0.out.size))
  replace HS := Lib.hid (HS.out.on hb1)
  replace HA := Lib.hid (HA.out.on hb1)
  clear hb1
  have HX := Lib.hid hx1
  clear hx1
  have HBW := HB1
  clear HB1
  have HB1 := Lib.hid (Below.refl w1.heap.size w1)
  obtain ⟨A5, c5, rfl, hcap5, hx5⟩ := HX.out.ints
  rw [HLA.out] at hx5 HX hcap5 ⊢
  have HX5 := Lib.hid hx5
  clear hx5
  go_wp2_with fail
  refine (paths_any A0 A5 n0 c0 n1 c5 ss t _ HS.out hn0 hnc HX5.out hn1' hcap5).mono ?_
  rintro e w2 ⟨v2, rfl, hv2, hb2⟩
  have HB2 := Lib.hid (HB1.out.trans (hb2.mono HB1.out.size))
  clear hb2
  have HFIT := Lib.hid (pathsV_fit (ss := ss) (t := t))
  have hfew := pathsV_few (ss := ss) (t := t)
  obtain ⟨ts, hts⟩ : ∃ ts, ts = pathsV ss t := ⟨_, rfl⟩
  obtain ⟨E, hE⟩ : ∃ E, E = pathsE ss t := ⟨_, rfl⟩
  rw [← hts] at hv2 HFIT hfew
  rw [← hE]
  have HTS := Lib.hid hts
  have HE := Lib.hid hE
  have HV2 := Lib.hid hv2
  obtain ⟨A7, c7, hv2e⟩ := hv2.valued
  subst hv2e
  obtain ⟨L, hL⟩ : ∃ L, L = ts.length := ⟨_, rfl⟩
  have HLL := Lib.hid hL
  rw [← hL] at HV2 hfew ⊢
  clear hv2 hL hts hE
  go_wp2_with fail
  refine (refPathsTop_any A0 A1 n0 c0 n1 c1 ss t _ (HS.out.on HB2.out) hn0 (HA.out.on HB2.out) hn1' hnc1).mono ?_
  rintro e w3 ⟨v3, rfl, hv3, hb3⟩
  have HB3 := Lib.hid (HB2.out.trans (hb3.mono HB2.out.size))
  replace HV2 := Lib.hid (HV2.out.on hb3)
  clear hb3
  rw [← HE.out]
  rw [← HTS.out] at hv3
  have HV3 := Lib.hid hv3
  obtain ⟨A8, c8, hv3e⟩ := hv3.valued
  subst hv3e
  rw [← HLL.out] at HV3 ⊢
  clear hv3
  have gE : (E != E) = false := by simp
  go_wp2_with fail
  refine (sameRows_true A7 A8 L c7 c8 ts _ (HV2.out.tups_of HFIT.out HLL.out) (by omega) (HV3.out.tups_of HFIT.out HLL.out)).mono ?_
  rintro e w4 ⟨rfl, hb4⟩
  have HB4 := Lib.hid (HB3.out.trans (hb4.mono HB3.out.size))
  replace HV2 := Lib.hid (HV2.out.on hb4)
  clear hb4
  go_wp2_with (go_at_call 13; refine (num_any _ _).mono ?_; rintro e w' ⟨rfl, rfl⟩)
  obtain ⟨vs, hr, hk⟩ := HV2.out.vals
  refine (spoilRows_any _ w1.heap.size vs _ hr (hk.weak HFIT.out) (by rw [hk.1, ← HLL.out]; omega)).mono ?_
  rintro e w5 ⟨rfl, hsp⟩
  have HB5 := Lib.hid (HB4.out.trans hsp.bel)
  clear hsp hr hk
  go_wp2_with fail
  refine (keptInts_any _ _ A1 n1 c1 t _ (HX.out.on HB5.out) (HA.out.on HB5.out) hn1).mono ?_
  rintro e w6 ⟨rfl, hb6⟩
  have HB6 := Lib.hid (HB5.out.trans (hb6.mono HB5.out.size))
  clear hb6
  go_wp2_with fail
  refine (awakeR_any _).mono ?_
  rintro e w7 ⟨rfl, hb7⟩
  have HB7 := Lib.hid (HB6.out.trans (hb7.mono HB6.out.size))
  clear hb7
  go_wp2
  go_ret
  exact ⟨rfl, HBW.out.trans (HB7.out.mono HBW.out.size)⟩

set_option maxHeartbeats 1000000 in
theorem pathFinds_walk (A0 A1 A2 : Option Addr) (n0 c0 n1 c1 n2 c2 : Nat) (way : Int) (ss : List Sym) (ts : List (List Int)) (t : List Int) (w : World) (hs : SymsAt w w.heap.size A0 n0 ss) (hn0 : n0 ≤ maxLen) (hnc : n0 ≤ c0) (ht : TupsAt w w.heap.size A1 n1 ts) (hn1 : n1 * 24 ≤ 140737488351232)
    (ha : IntsAt w w.heap.size A2 n2 t) (hn2 : n2 ≤ maxLen) (hnc2 : n2 ≤ c2) :
    Calls Try.prog 4 #[.slice A0 n0 c0, .slice A1 n1 c1, .slice A2 n2 c2, .int .i64 way] w fun e w' => e = .returned (.bool true) ∧ Below w.heap.size w w' := by
  have HS := Lib.hid hs
  have HT := Lib.hid ht
  have HA := Lib.hid ha
  have HLT := Lib.hid ht.len
  have HFIT : Hid (∀ r ∈ ts, r.length * 8 ≤ 140737488351232) := fun r hr => by
    obtain ⟨i, hi, e⟩ := List.getElem_of_mem hr
    obtain ⟨_, _, _, _, _, _, _, hR, _⟩ := ht.one (i := i) (by rw [← ht.len]; exact hi)
    have e2 : rowOf ts i = r := by unfold rowOf; rw [List.getD_eq_getElem?_getD, List.getElem?_eq_getElem hi]; exact e
    rw [← e2]; exact hR.fit
  have HB0 := Lib.hid (Below.refl w.heap.size w)
  clear hs ha ht
  go_enter Try.func4, Try.ntmps4
  go_wp2_with fail
  refine (copyRows_any A1 n1 c1 ts _ HT.out hn1).mono ?_
  rintro e w1 ⟨v1, rfl, hv1, hb1⟩
  have HB1 := Lib.hid (HB0.out.trans (hb1.mono HB0.out.size))
  replace HS := Lib.hid (HS.out.on hb1)
  replace HT := Lib.hid (HT.out.on hb1)
  replace HA := Lib.hid (HA.out.on hb1)
  clear hb1
  have HV1 := Lib.hid hv1
  obtain ⟨A7, c7, hv1e⟩ := hv1.valued
  subst hv1e
  rw [HLT.out] at HV1 ⊢
  clear hv1
  go_wp2_with fail
  refine (find_any A0 A1 A2 n0 c0 n1 c1 n2 c2 way ss ts t _ HS.out hn0 hnc HT.out hn1 HA.out hn2 hnc2).mono ?_
  rintro e w2 ⟨v2, out2, E2, rfl, hv2, hf2, hb2⟩
  have HB2 := Lib.hid (HB1.out.trans (hb2.mono HB1.out.size))
  replace HS := Lib.hid (HS.out.on hb2)
  replace HT := Lib.hid (HT.out.on hb2)
  replace HA := Lib.hid (HA.out.on hb2)
  replace HV1 := Lib.hid (HV1.out.on hb2)
  clear hb2
  have HV2 := Lib.hid hv2
  have HF2 := Lib.hid hf2
  obtain ⟨A8, c8, hv2e⟩ := hv2.value
  subst hv2e
  clear hv2 hf2
  go_wp2_with fail
  refine (refFind_any A0 A1 A2 n0 c0 n1 c1 n2 c2 way ss ts t _ HS.out hn0 HT.out hn1 HA.out hn2 hnc2).mono ?_
  rintro e w3 ⟨v3, out3, E3, rfl, hv3, hf3, hb3⟩
  have HB3 := Lib.hid (HB2.out.trans (hb3.mono HB2.out.size))
  replace HS := Lib.hid (HS.out.on hb3)
  replace HT := Lib.hid (HT.out.on hb3)
  replace HA := Lib.hid (HA.out.on hb3)
  replace HV1 := Lib.hid (HV1.out.on hb3)
  replace HV2 := Lib.hid (HV2.out.on hb3)
  clear hb3
  have HF3 := Lib.hid hf3
  have HV3 := Lib.hid hv3
  obtain ⟨A9, c9, hv3e⟩ := hv3.value
  subst hv3e
  clear hv3 hf3
  obtain ⟨e1, e2⟩ := HF2.out.unique HF3.out
  subst e1
  subst e2
  have hlen : out2.length ≤ maxLen := by
    rcases HF2.out with ⟨_, q, _⟩ | ⟨_, _, q⟩
    · rw [q]; simp
    · have := q.len; rw [HLT.out] at this; unfold maxLen; omega
  clear HF2 HF3
  have HI2 : Hid (IntsAt w3 w3.heap.size A8 out2.length out2) := by obtain ⟨A', c', e, _, k⟩ := HV2.out.intsAt; injection e with q1 q2 q3; rw [q1]; exact k
  have HI3 : Hid (IntsAt w3 w3.heap.size A9 out2.length out2) := by obtain ⟨A', c', e, _, k⟩ := HV3.out.intsAt; injection e with q1 q2 q3; rw [q1]; exact k
  obtain ⟨L, hL⟩ : ∃ L, L = out2.length := ⟨_, rfl⟩
  rw [← hL] at HI2 HI3 hlen ⊢
  have gE : (E2 == E2) = true := by simp
  clear hL HV2 HV3
  go_wp2_with fail
  refine (sameInts_any A8 A9 L c8 L c9 _ _ out2 out2 _ HI2.out HI3.out hlen hlen).mono ?_
  rintro e w4 ⟨rfl, hb4⟩
  have HB4 := Lib.hid (HB3.out.trans (hb4.mono HB3.out.size))
  replace HT := Lib.hid (HT.out.on hb4)
  replace HV1 := Lib.hid (HV1.out.on hb4)
  clear hb4
  rw [sameI_self]
  go_wp2_with (go_at_call 13; refine (num_any _ _).mono ?_; rintro e w' ⟨rfl, rfl⟩)
  refine (sameRows_true A1 A7 n1 c1 c7 ts _ HT.out hn1 (HV1.out.tups_of HFIT.out HLT.out.symm)).mono ?_
  rintro e w5 ⟨rfl, hb5⟩
  have HB5 := Lib.hid (HB4.out.trans (hb5.mono HB4.out.size))
  clear hb5
  go_wp2_with fail
  refine (awakeR_any _).mono ?_
  rintro e w6 ⟨rfl, hb6⟩
  have HB6 := Lib.hid (HB5.out.trans (hb6.mono HB5.out.size))
  clear hb6
  go_wp2
  go_ret
  exact ⟨rfl, HB6.out⟩
end Go.Proofs.Ythdpojokogiinaa
