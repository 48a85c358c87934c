/-
  Contracts of the reference: Together, Unify.
-/
import Derived.Test.YthppdeimmdiggaaRefPair2
import Derived.Test.YthppdeimmdiggaaMay
namespace Go.Proofs.Ythppdeimmdiggaa
open Go.RowKit
set_option linter.unusedSimpArgs false
set_option linter.unusedVariables false
set_option maxRecDepth 100000

set_option maxHeartbeats 400000 in
theorem refPartsR_any (A0 A : Option Addr) (n0 c0 m c base : Nat) (ss : List Sym) (r : List Int) (ms : List (Nat × Nat)) (w : World) (hs : SymsAt w base A0 n0 ss) (hn0 : n0 ≤ maxLen) (hr : RowAt w base A m c r) (hmay : mayB ss = true) (ht : tl ss (nrm r) = some ms) (hbase : base ≤ w.heap.size) :
    Calls Try.prog 50 #[.slice A0 n0 c0, .slice A m c] w fun e w' => ∃ v, e = .returned v ∧ RowsAt w' base w.heap.size v (partsL r ms) ∧ Below w.heap.size w w' := by
  by_cases hm : m = 0
  · subst hm
    have h0 : r = [] := List.eq_nil_of_length_eq_zero hr.at_.len
    subst h0
    have hms : ms = [] := (tl_nil_iff ht).2 rfl
    subst hms
    have HE : Hid (RowsAt w base w.heap.size (.slice none 0 0) (partsL [] [])) := ⟨[], rfl, OwnR.nil_, fun i hi => absurd hi (by simp [partsL])⟩
    clear hr hs ht
    go_enter Try.func50, Try.ntmps50
    go_wp2
    go_loopw [5, 6] (fun q i wr => q = .slice none 0 0 ∧ i = .int .i64 0 ∧ wr = w) (fun _ _ _ => 0)
    case atStart => exact ⟨rfl, rfl, rfl⟩
    case round =>
      obtain ⟨rfl, rfl, rfl⟩ := hrel
      go_wp2
      go_ret
      exact ⟨_, rfl, HE.out, Below.refl _ _⟩
  · obtain ⟨b, off, hA, hb, _⟩ := hr.at_.at_ (by omega)
    subst hA
    have hf := hr.few
    refine (refParts_any A0 b off n0 c0 m c ss r ms w (hs.more hbase) hn0 (hr.at_.more hbase) (by omega) hr.cap hmay ht).mono ?_
    rintro e w' ⟨v, rfl, hv, hb'⟩
    exact ⟨v, rfl, RowsAt.parts hr ht hv hb' hbase, hb'⟩

def TogPost (ss : List Sym) (a b : List Int) (w : World) (e : Ending) (w' : World) : Prop :=
  ∃ v is short bs, e = .returned (.tuple #[v, .bool is, .bool short]) ∧ OwnB w' w.heap.size v bs ∧ Below w.heap.size w w' ∧
    (((∀ θ, Sub 24 ss θ → ap θ a ≠ ap θ b) ∧ is = false ∧ short = true ∧ bs = []) ∨
     ∃ σ, Canon 24 ss a b σ ∧ (((∀ v, v < 24 → (σ v).length ≤ 48) ∧ is = true ∧ short = true ∧ bs = bdsOf σ 24) ∨ ((∃ v, v < 24 ∧ 48 < (σ v).length) ∧ is = true ∧ short = false ∧ bs = [])))
def noneC : Array Value := (List.replicate 48 (Value.slice none 0 0)).toArray
theorem noneC_lit : noneC = #[.slice none 0 0, .slice none 0 0, .slice none 0 0, .slice none 0 0, .slice none 0 0, .slice none 0 0, .slice none 0 0, .slice none 0 0, .slice none 0 0, .slice none 0 0, .slice none 0 0, .slice none 0 0, .slice none 0 0, .slice none 0 0, .slice none 0 0, .slice none 0 0, .slice none 0 0, .slice none 0 0, .slice none 0 0, .slice none 0 0, .slice none 0 0, .slice none 0 0, .slice none 0 0, .slice none 0 0, .slice none 0 0, .slice none 0 0, .slice none 0 0, .slice none 0 0, .slice none 0 0, .slice none 0 0, .slice none 0 0, .slice none 0 0, .slice none 0 0, .slice none 0 0, .slice none 0 0, .slice none 0 0, .slice none 0 0, .slice none 0 0, .slice none 0 0, .slice none 0 0, .slice none 0 0, .slice none 0 0, .slice none 0 0, .slice none 0 0, .slice none 0 0, .slice none 0 0, .slice none 0 0, .slice none 0 0] := rfl
theorem StoreAt.empty (w : World) (base : Nat) (hb : base ≤ w.heap.size) : StoreAt (w.alloc (.cells noneC 89)) base w.heap.size (fun _ => []) := by
  refine ⟨⟨noneC, heap_alloc_new _ _, by simp [noneC], fun v hv => ⟨.slice none 0 0, by show (List.replicate 48 (Value.slice none 0 0)).toArray[v]? = _; rw [List.getElem?_toArray, List.getElem?_replicate, if_pos hv], none, 0, 0, rfl, IntsAt.nil_, Nat.le_refl _, by omega⟩⟩, hb⟩

set_option maxHeartbeats 600000 in
theorem refTogether_any (A A1 A2 : Option Addr) (n c n1 c1 n2 c2 : Nat) (ss : List Sym) (a b : List Int) (w : World) (hs : SymsAt w w.heap.size A n ss) (hn : n ≤ maxLen) (ha : RowAt w w.heap.size A1 n1 c1 a) (hb : RowAt w w.heap.size A2 n2 c2 b) (hra : rowB ss a = true) (hrb : rowB ss b = true) :
    Calls Try.prog 31 #[.slice A n c, .slice A1 n1 c1, .slice A2 n2 c2] w (TogPost ss a b w) := by
  obtain ⟨hmay, -, hta⟩ := row_parts hra
  obtain ⟨-, -, htb⟩ := row_parts hrb
  have HS := Lib.hid hs
  have HA := Lib.hid ha
  have HB := Lib.hid hb
  have HM := Lib.hid hmay
  have HTA := Lib.hid (tl_nrm _ hta)
  have HTB := Lib.hid (tl_nrm _ htb)
  have HCA : Hid (∀ x ∈ a, -((24 : Nat) : Int) ≤ x) := row_codes hta
  have HCB : Hid (∀ x ∈ b, -((24 : Nat) : Int) ≤ x) := row_codes htb
  have HMA := Lib.hid (tl_len _ hta)
  have HMB := Lib.hid (tl_len _ htb)
  have HLA := Lib.hid ha.at_.len
  have HLB := Lib.hid hb.at_.len
  have hf1 := ha.few
  have hf2 := hb.few
  obtain ⟨ms1, hms1⟩ : ∃ ms1, ms1 = tlD ss a := ⟨_, rfl⟩
  obtain ⟨ms2, hms2⟩ : ∃ ms2, ms2 = tlD ss b := ⟨_, rfl⟩
  rw [← hms1] at HTA HMA
  rw [← hms2] at HTB HMB
  have HB0 := Lib.hid (Below.refl w.heap.size w)
  clear hs ha hb hmay hta htb hms1 hms2
  go_enter Try.func31, Try.ntmps31
  go_wp2_with fail
  refine (refPartsR_any A A1 n c n1 c1 w.heap.size ss a ms1 w HS.out hn HA.out HM.out HTA.out (Nat.le_refl _)).mono ?_
  rintro e w1 ⟨v1, rfl, hv1, hb1⟩
  have HV1 := Lib.hid hv1
  have HB1 := Lib.hid hb1
  have hsz1 := hb1.size
  clear hv1 hb1
  go_wp2_with fail
  refine (refPartsR_any A A2 n c n2 c2 w.heap.size ss b ms2 w1 (HS.out.below HB1.out) hn (HB.out.below HB1.out) HM.out HTB.out hsz1).mono ?_
  rintro e w2 ⟨v2, rfl, hv2, hb2⟩
  have HV2 := Lib.hid hv2
  have hsz2 := hb2.size
  have HV12 := Lib.hid hb2
  have HB2 := Lib.hid (HB1.out.trans (hb2.mono hsz1))
  clear hv2 hb2
  obtain ⟨B1, d1, hv1e⟩ := HV1.out.value
  obtain ⟨B2, d2, hv2e⟩ := HV2.out.value
  rw [partsL_length] at hv1e hv2e
  subst hv1e; subst hv2e
  have HFA := Lib.hid (partsL_flat HTA.out)
  have HFB := Lib.hid (partsL_flat HTB.out)
  obtain ⟨w3, hw3⟩ : ∃ w3, w3 = w2.alloc (.cells noneC 89) := ⟨_, rfl⟩
  obtain ⟨sb, hsb⟩ : ∃ sb, sb = w2.heap.size := ⟨_, rfl⟩
  have hb3 : Below w2.heap.size w2 w3 := by rw [hw3]; exact below_new w2 _
  have HST3 : Hid (StoreAt w3 w.heap.size sb (fun _ => [])) := by
    rw [hw3, hsb]
    exact StoreAt.empty w2 w.heap.size (by omega)
  have HV13 : Hid (RowsAt w3 w.heap.size w.heap.size (.slice B1 ms1.length d1) (partsL a ms1)) := (HV1.out.on HV12.out hsz1).on hb3 (by omega)
  have HV23 : Hid (RowsAt w3 w.heap.size w.heap.size (.slice B2 ms2.length d2) (partsL b ms2)) := (HV2.out.lower hsz1).on hb3 (by omega)
  have HN1 : Hid ((Value.slice B1 ms1.length d1).ownBlock ≠ some sb) := HV1.out.before (by omega)
  have HN2 : Hid ((Value.slice B2 ms2.length d2).ownBlock ≠ some sb) := HV2.out.before (by omega)
  have HB3 := Lib.hid (HB2.out.trans (hb3.mono (by omega)))
  have hsbw : w.heap.size ≤ sb := by omega
  have HSY3 := Lib.hid (HS.out.below HB3.out)
  have HT1 := Lib.hid (partsL_trm (V := 24) HTA.out HCA.out)
  have HT2 := Lib.hid (partsL_trm (V := 24) HTB.out HCB.out)
  rw [noneC_lit] at hw3
  have HW3 := Lib.hid hw3
  have HSB := Lib.hid hsb
  obtain ⟨L1, hL1⟩ : ∃ L1, L1 = ms1.length := ⟨_, rfl⟩
  obtain ⟨L2, hL2⟩ : ∃ L2, L2 = ms2.length := ⟨_, rfl⟩
  rw [← hL1] at HV13 HN1 ⊢
  rw [← hL2] at HV23 HN2 ⊢
  have HL1 := Lib.hid hL1
  have HL2 := Lib.hid hL2
  have HLEN48 : Hid (ms1.length ≤ 48) := by have := HMA.out; have := HLA.out; show ms1.length ≤ 48; omega
  have HLT1 := Lib.hid (trm_flatten HT1.out)
  have HLT2 := Lib.hid (trm_flatten HT2.out)
  rw [HFA.out, partsL_length] at HLT1
  rw [HFB.out, partsL_length] at HLT2
  clear hw3 hsb hb3 hL1 hL2
  by_cases hl : L1 = L2
  · subst hl
    have HEQ : Hid (ms1.length = ms2.length) := HL1.out.symm.trans HL2.out
    have gl : ((L1 : Int) != (L1 : Int)) = false := by simp
    have HCALL := Lib.hid (refAll_of 24 ss A n c w.heap.size sb w.heap.size _ _ (refPair_all 24 ss A n c w.heap.size sb (by omega) HM.out hn _ _) (fun U' _ K' => refPair_all 24 ss A n c w.heap.size sb (by omega) HM.out hn U' K') (fun _ => []) (fun v => [-1 - (v : Int)]) (fun _ => 0) _ _ (partsL a ms1) (partsL b ms2) w3 HST3.out Sto.empty HSY3.out HV13.out HV23.out HN1.out HN2.out (by rw [partsL_length, partsL_length]; exact HEQ.out) (by rw [partsL_length]; exact HLEN48.out) HT1.out HT2.out (Nat.le_refl _) (fun r hr => ap_in_flat hr))
    go_wp2_with fail
    rw [← HSB.out, ← HW3.out]
    refine HCALL.out.mono ?_
    rintro e w4 hp
    rw [HFA.out, HFB.out] at hp
    obtain ⟨hd, hg⟩ := hp
    have HB4 := Lib.hid (HB3.out.grown hg (by have := HB3.out.size; omega) (fun k hk => by injection hk with hk; omega))
    have hsz4 := HB4.out.size
    clear hg
    rcases hd with ⟨rfl, T', hst4, hok⟩ | ⟨rfl, hno⟩
    · obtain ⟨σ, rk, hs4, hcan⟩ := hok.canon
      have HST4 := Lib.hid hst4
      have HS4 := Lib.hid hs4
      have HCAN := Lib.hid hcan
      clear hst4 hok hs4 hcan
      go_wp2
      go_loopw [12, 13] (fun q i wr => ∃ k : Nat, i = .int .i64 (k : Int) ∧ k ≤ 24 ∧ OwnB wr w4.heap.size q (bdsOf σ k) ∧ (∀ v, v < k → (σ v).length ≤ 48) ∧ Below w4.heap.size w4 wr) (fun _ i _ => 24 - (intOf i).toNat)
      case atStart => exact ⟨0, rfl, by omega, OwnB.nil_, fun v hv => absurd hv (by omega), Below.refl _ _⟩
      case round =>
        obtain ⟨k, rfl, hk, hown, hall, hbw⟩ := hrel
        have HOWN := Lib.hid hown
        have HALL := Lib.hid hall
        have HBW := Lib.hid hbw
        have hsz := hbw.size
        clear hown hall hbw
        have HBR := Lib.hid (HB4.out.trans (HBW.out.mono hsz4))
        by_cases hlt : k < 24
        · have HSTR := Lib.hid (HST4.out.on HBW.out)
          obtain ⟨A5, n5, c5, hc5, hr5⟩ := HSTR.out.cell (v := k) (by omega)
          have HR5 := Lib.hid hr5
          have HL5 := Lib.hid hr5.at_.len
          have HSUCC := Lib.hid (bdsOf_succ σ k)
          have HIV := Lib.hid (HS4.out.isV hlt)
          have i0 : (0 : Int) ≤ (k : Int) := by omega
          have i1 : (k : Int) < 48 := by omega
          have i2 : (k : Int) ≤ 23 := by omega
          clear hr5
          by_cases hn5 : n5 = 0
          · subst hn5
            have HTE : Hid (T' k = []) := List.eq_nil_of_length_eq_zero HL5.out
            have HVT : Hid (isV (σ k) k = true) := by show isV (σ k) k = true; rw [HIV.out]; exact decide_eq_true HTE.out
            have HL1 : Hid ((σ k).length ≤ 48) := by show (σ k).length ≤ 48; rw [isV_iff.1 HVT.out]; simp
            go_wp2
            go_roundw
            case rel => exact ⟨k + 1, by go_num, by omega, HOWN.out.cast (by rw [HSUCC.out, HVT.out]; simp), fun v hv => if e : v = k then by rw [e]; exact HL1.out else HALL.out v (by omega), HBW.out⟩
            case measure => simp [intOf]; omega
          · have hn5' : ¬ (n5 : Int) = 0 := by omega
            have HTN : Hid (T' k ≠ []) := fun e => hn5 (by rw [← HL5.out, e]; rfl)
            have HVT : Hid (isV (σ k) k = false) := by show isV (σ k) k = false; rw [HIV.out]; exact decide_eq_false HTN.out
            have HBND := Lib.hid (HS4.out.bnd k hlt HTN.out)
            have HRK : Hid (∀ y ∈ T' k, y < 0 → rk (-1 - y).toNat < rk k) := HS4.out.down k hlt HTN.out
            clear hn5
            go_wp2_with fail
            refine (refFull_any 24 ss T' σ rk w.heap.size sb wr HSTR.out HS4.out (by omega) (rk k) A5 n5 c5 1 (T' k) _ [] wr HR5.out (HS4.out.one k hlt HTN.out) HRK.out (Below.refl _ _) OwnI.nil_ (by simp)).mono ?_
            rintro e w5 ⟨v5, zs, rfl, hv5, hf5, hb5⟩
            rw [← HBND.out] at hf5
            have HO5 := Lib.hid (HOWN.out.on hb5)
            have HB5 := Lib.hid (HBW.out.trans (hb5.mono hsz))
            have HBR5 := Lib.hid (HBR.out.trans (hb5.mono (by omega)))
            have hsz5 := HBR5.out.size
            have HF5 := Lib.hid hf5
            obtain ⟨A6, c6, hv5e, _, _⟩ := hv5.intsAt
            obtain ⟨L6, hL6⟩ : ∃ L6, L6 = zs.length := ⟨_, rfl⟩
            rw [← hL6] at hv5e
            have HL6 := Lib.hid hL6
            have HV5 := Lib.hid (hv5.lower (base' := w4.heap.size) hsz)
            have hsz45 := HB5.out.size
            subst hv5e
            clear hv5 hf5 hb5 hL6
            by_cases hlong : 48 < (σ k).length
            · have hl6 : (48 : Int) < (L6 : Int) := by have := HF5.out.2.1 (by simpa using hlong); have := HL6.out; omega
              have HLONG := Lib.hid hlong
              clear hlong
              go_wp2
              go_ret3
              exact ⟨_, true, false, [], rfl, OwnB.nil_, HBR5.out, .inr ⟨σ, HCAN.out, .inr ⟨⟨k, hlt, HLONG.out⟩, rfl, rfl, rfl⟩⟩⟩
            · have hz : zs = σ k := by have := HF5.out.1 (by simp; omega); simpa using this
              have hl6 : ¬ (48 : Int) < (L6 : Int) := by have := HL6.out; rw [hz] at this; omega
              have HL1 : Hid ((σ k).length ≤ 48) := by show (σ k).length ≤ 48; omega
              have HV6 := Lib.hid (HV5.out.cast hz)
              clear hlong hz
              go_wp2_with (at_builtin
                           refine app_bind1 rfl (.tmp 59) (.tmp 63) rfl w4.heap.size _ _ (k : Int) (σ k) _ rfl HO5.out HV6.out rfl (by have := bdsOf_len σ k; omega) hsz45 ?_
                           intro v7 w7 hown7 hb7
                           have HO7 := Lib.hid hown7
                           have HB7 := Lib.hid hb7
                           clear hown7 hb7)
              go_roundw
              case rel => exact ⟨k + 1, by go_num, by omega, HO7.out.cast (by rw [HSUCC.out, HVT.out]; simp), fun v hv => if e : v = k then by rw [e]; exact HL1.out else HALL.out v (by omega), HB5.out.trans HB7.out⟩
              case measure => simp [intOf]; omega
        · obtain rfl : k = 24 := by omega
          go_wp2
          go_ret3
          exact ⟨_, true, true, _, rfl, HOWN.out.lower hsz4, HBR.out, .inr ⟨σ, HCAN.out, .inl ⟨HALL.out, rfl, rfl, rfl⟩⟩⟩
    · have HNO := Lib.hid hno.none
      clear hno
      go_wp2
      go_ret3
      exact ⟨_, false, true, [], rfl, OwnB.nil_, HB4.out, .inl ⟨HNO.out, rfl, rfl, rfl⟩⟩
  · have gl : ((L1 : Int) != (L2 : Int)) = true := by simp; omega
    have HNO : Hid (∀ θ, Sub 24 ss θ → ap θ a ≠ ap θ b) := fun θ hθ e => by
      have h1 := trm_uniq' (trm_ap hθ HLT1.out) (trm_ap hθ HLT2.out) e
      exact hl (by rw [HL1.out, HL2.out]; exact h1)
    clear hl
    have HBA := Lib.hid HB3.out
    rw [HW3.out] at HBA
    go_wp2
    go_ret3
    exact ⟨_, false, true, [], rfl, OwnB.nil_, HBA.out, .inl ⟨HNO.out, rfl, rfl, rfl⟩⟩
theorem tK_no {ss : List Sym} {r : List Int} (hm : mayB ss = true) (h : rowB ss r = false) : termsK ss r = -1 := by
  unfold rowB at h; rw [hm, Bool.true_and] at h; unfold termsK; rw [h]; rfl
theorem tK_yes {ss : List Sym} {r : List Int} (h : rowB ss r = true) : 0 ≤ termsK ss r := by
  unfold termsK; split <;> simp_all [rowB]
def RefUniPost (ss : List Sym) (a b : List Int) (w : World) (e : Ending) (w' : World) : Prop :=
  ∃ v E is bs, e = .returned (.tuple #[v, .bool is, .int .i64 E]) ∧ OwnB w' w.heap.size v bs ∧ Below w.heap.size w w' ∧ UniR ss a b E is bs

set_option maxHeartbeats 600000 in
theorem refUnify_any (A A1 A2 : Option Addr) (n c n1 c1 n2 c2 : Nat) (ss : List Sym) (a b : List Int) (w : World) (hs : SymsAt w w.heap.size A n ss) (hn : n ≤ maxLen) (ha : IntsAt w w.heap.size A1 n1 a) (hn1 : n1 ≤ maxLen) (hnc1 : n1 ≤ c1) (hb : IntsAt w w.heap.size A2 n2 b) (hn2 : n2 ≤ maxLen) (hnc2 : n2 ≤ c2) :
    Calls Try.prog 11 #[.slice A n c, .slice A1 n1 c1, .slice A2 n2 c2] w (RefUniPost ss a b w) := by
  have HS := Lib.hid hs
  have HA := Lib.hid ha
  have HB := Lib.hid hb
  clear hs ha hb
  cases hm : mayB ss
  · have HU : Hid (UniR ss a b 400 false []) := .inl ⟨by unfold rowB; rw [hm]; rfl, rfl, rfl, rfl⟩
    go_enter Try.func11, Try.ntmps11
    go_wp2_with fail
    refine (signMay_any A n c ss _ HS.out hn).mono ?_
    rintro e w1 ⟨rfl, hb1⟩
    rw [hm]
    have HB1 := Lib.hid hb1
    clear hb1 hm
    go_wp2
    go_ret3
    exact ⟨_, 400, false, [], rfl, OwnB.nil_, HB1.out, HU.out⟩
  have HM := Lib.hid hm
  cases h1 : rowB ss a
  · have HU : Hid (UniR ss a b 400 false []) := .inl ⟨by rw [h1]; rfl, rfl, rfl, rfl⟩
    have ht := tK_no hm h1
    go_enter Try.func11, Try.ntmps11
    go_wp2_with fail
    refine (signMay_any A n c ss _ HS.out hn).mono ?_
    rintro e w1 ⟨rfl, hb1⟩
    rw [hm]
    have HB1 := Lib.hid hb1
    clear hb1 hm h1
    go_wp2_with fail
    refine (refTerms_any A A1 n c n1 c1 _ _ ss a _ (HS.out.on HB1.out) hn (HA.out.on HB1.out) hn1 HM.out).mono ?_
    rintro e w2 ⟨rfl, rfl⟩
    rw [ht]
    clear ht
    go_wp2
    go_ret3
    exact ⟨_, 400, false, [], rfl, OwnB.nil_, HB1.out, HU.out⟩
  cases h2 : rowB ss b
  · have HU : Hid (UniR ss a b 400 false []) := .inl ⟨by rw [h1, h2]; rfl, rfl, rfl, rfl⟩
    have ht := tK_no hm h2
    have ht1 := tK_yes h1
    obtain ⟨t1, ht1e⟩ : ∃ t1, t1 = termsK ss a := ⟨_, rfl⟩
    rw [← ht1e] at ht1
    have ht1n : ¬ t1 < 0 := by omega
    have HT1 := Lib.hid ht1e
    clear ht1e
    go_enter Try.func11, Try.ntmps11
    go_wp2_with fail
    refine (signMay_any A n c ss _ HS.out hn).mono ?_
    rintro e w1 ⟨rfl, hb1⟩
    rw [hm]
    have HB1 := Lib.hid hb1
    clear hb1 hm h1 h2
    go_wp2_with fail
    refine (refTerms_any A A1 n c n1 c1 _ _ ss a _ (HS.out.on HB1.out) hn (HA.out.on HB1.out) hn1 HM.out).mono ?_
    rintro e w2 ⟨rfl, rfl⟩
    rw [← HT1.out]
    go_wp2_with fail
    refine (refTerms_any A A2 n c n2 c2 _ _ ss b _ (HS.out.on HB1.out) hn (HB.out.on HB1.out) hn2 HM.out).mono ?_
    rintro e w2 ⟨rfl, rfl⟩
    rw [ht]
    clear ht
    go_wp2
    go_ret3
    exact ⟨_, 400, false, [], rfl, OwnB.nil_, HB1.out, HU.out⟩
  have ht1 := tK_yes h1
  have ht2 := tK_yes h2
  obtain ⟨t1, ht1e⟩ : ∃ t1, t1 = termsK ss a := ⟨_, rfl⟩
  obtain ⟨t2, ht2e⟩ : ∃ t2, t2 = termsK ss b := ⟨_, rfl⟩
  rw [← ht1e] at ht1
  rw [← ht2e] at ht2
  have ht1n : ¬ t1 < 0 := by omega
  have ht2n : ¬ t2 < 0 := by omega
  have HT1 := Lib.hid ht1e
  have HT2 := Lib.hid ht2e
  have H1 := Lib.hid h1
  have H2 := Lib.hid h2
  have hl1 := (row_parts h1).2.1
  have hl2 := (row_parts h2).2.1
  rw [HA.out.len] at hl1
  rw [HB.out.len] at hl2
  clear ht1e ht2e
  go_enter Try.func11, Try.ntmps11
  go_wp2_with fail
  refine (signMay_any A n c ss _ HS.out hn).mono ?_
  rintro e w1 ⟨rfl, hb1⟩
  rw [hm]
  have HB1 := Lib.hid hb1
  clear hb1 hm h1 h2
  go_wp2_with fail
  refine (refTerms_any A A1 n c n1 c1 _ _ ss a _ (HS.out.on HB1.out) hn (HA.out.on HB1.out) hn1 HM.out).mono ?_
  rintro e w2 ⟨rfl, rfl⟩
  rw [← HT1.out]
  go_wp2_with fail
  refine (refTerms_any A A2 n c n2 c2 _ _ ss b _ (HS.out.on HB1.out) hn (HB.out.on HB1.out) hn2 HM.out).mono ?_
  rintro e w2 ⟨rfl, rfl⟩
  rw [← HT2.out]
  go_wp2_with fail
  refine (refTogether_any A A1 A2 n c n1 c1 n2 c2 ss a b w1 (HS.out.on HB1.out) hn ⟨HA.out.on HB1.out, hnc1, hl1⟩ ⟨HB.out.on HB1.out, hnc2, hl2⟩ H1.out H2.out).mono ?_
  rintro e w3 ⟨v3, is3, sh3, bs3, rfl, hv3, hb3, hd3⟩
  have HV3 := Lib.hid (hv3.lower HB1.out.size)
  have HB3 := Lib.hid (HB1.out.trans (hb3.mono HB1.out.size))
  have HROW : Hid ((rowB ss a && rowB ss b) = true) := by show (rowB ss a && rowB ss b) = true; rw [H1.out, H2.out]; rfl
  clear hv3 hb3
  rcases hd3 with ⟨hno, rfl, rfl, rfl⟩ | ⟨σ, hc, ⟨hl, rfl, rfl, rfl⟩ | ⟨hl, rfl, rfl, rfl⟩⟩
  · have HU : Hid (UniR ss a b 0 false []) := .inr ⟨HROW.out, .inl ⟨hno, rfl, rfl, rfl⟩⟩
    clear hno
    go_wp2
    go_ret3
    exact ⟨_, 0, false, [], rfl, HV3.out, HB3.out, HU.out⟩
  · have HU : Hid (UniR ss a b 0 true (bdsOf σ 24)) := .inr ⟨HROW.out, .inr ⟨σ, hc, .inl ⟨hl, rfl, rfl, rfl⟩⟩⟩
    clear hl hc
    go_wp2
    go_ret3
    exact ⟨_, 0, true, _, rfl, HV3.out, HB3.out, HU.out⟩
  · have HU : Hid (UniR ss a b 401 false []) := .inr ⟨HROW.out, .inr ⟨σ, hc, .inr ⟨hl, rfl, rfl, rfl⟩⟩⟩
    clear hl hc
    go_wp2
    go_ret3
    exact ⟨_, 401, false, [], rfl, OwnB.nil_, HB3.out, HU.out⟩

end Go.Proofs.Ythppdeimmdiggaa
