/-
  Contract of the reference: Can.
-/
import Derived.Test.YthdpojokogiinaaRefPair
namespace Go.Proofs.Ythdpojokogiinaa
open Go.RowKit
set_option linter.unusedSimpArgs false
set_option linter.unusedVariables false
set_option maxRecDepth 100000

theorem farR_snoc {y : Nat} {b : List Int} {k : Nat} (h : k < b.length) : farR y (b.take (k + 1)) = farR y (b.take k) ++ [if intAt b k < 0 then intAt b k - (y : Int) else intAt b k] := by
  rw [List.take_add_one, intAt_get h, farR_append]; rfl
def CanPost (ss : List Sym) (a b : List Int) (w : World) (e : Ending) (w' : World) : Prop :=
  ((e = .returned (.bool true) ∧ ∃ θ, Sub 48 ss θ ∧ ap θ a = ap θ (farR 24 b)) ∨ (e = .returned (.bool false) ∧ ∀ θ, Sub 48 ss θ → ap θ a ≠ ap θ (farR 24 b))) ∧ Below w.heap.size w w'

set_option maxHeartbeats 2000000 in
theorem refCan_any (A A1 A2 : Option Addr) (n c n1 c1 n2 c2 : Nat) (ss : List Sym) (a b : List Int) (w : World) (hs : SymsAt w w.heap.size A n ss) (hn : n ≤ maxLen) (ha : RowAt w w.heap.size A1 n1 c1 a) (hb : RowAt w w.heap.size A2 n2 c2 b) (hra : rowB ss a = true) (hrb : rowB ss b = true) :
    Calls Try.prog 49 #[.slice A n c, .slice A1 n1 c1, .slice A2 n2 c2] w (CanPost ss a b w) := by
  obtain ⟨hmay, -, hta⟩ := row_parts hra
  obtain ⟨-, -, htb⟩ := row_parts hrb
  have HS := Lib.hid hs
  have HA := Lib.hid ha
  have HB := Lib.hid hb
  have HM := Lib.hid hmay
  have HTA := Lib.hid (tl_nrm _ hta)
  have HTB : Hid (tl ss (nrm (farR 24 b)) = some (tlD ss b)) := by show tl ss (nrm (farR 24 b)) = _; rw [nrm_farR]; exact tl_nrm _ htb
  have HCA : Hid (∀ x ∈ a, -((48 : Nat) : Int) ≤ x) := fun x hx => by have := row_codes hta x hx; omega
  have HCB0 : Hid (∀ x ∈ b, -24 ≤ x) := row_codes htb
  have HCB : Hid (∀ x ∈ farR 24 b, -((48 : Nat) : Int) ≤ x) := fun x hx => by
    unfold farR at hx
    obtain ⟨d, hd, rfl⟩ := List.mem_map.1 hx
    have := HCB0.out d hd
    split <;> omega
  have HMA := Lib.hid (tl_len _ hta)
  have HMB := Lib.hid (tl_len _ htb)
  have HLA := Lib.hid ha.at_.len
  have HLB := Lib.hid hb.at_.len
  have hf1 := ha.few
  have hf2 := hb.few
  obtain ⟨ms1, hms1⟩ : ∃ ms1, ms1 = tlD ss a := ⟨_, rfl⟩
  obtain ⟨ms2, hms2⟩ : ∃ ms2, ms2 = tlD ss b := ⟨_, rfl⟩
  rw [← hms1] at HTA HMA
  rw [← hms2] at HTB HMB
  have HB0 := Lib.hid (Below.refl w.heap.size w)
  clear hs ha hb hmay hta htb hms1 hms2
  go_enter Try.func49, Try.ntmps49
  go_wp2
  go_loopw [7, 8] (fun q i wr => ∃ k : Nat, i = .int .i64 (k : Int) ∧ k ≤ n2 ∧ OwnI wr w.heap.size q (farR 24 (b.take k)) ∧ Below w.heap.size w wr) (fun _ i _ => n2 - (intOf i).toNat)
  case atStart => exact ⟨0, rfl, by omega, OwnI.nil_, Below.refl _ _⟩
  case round =>
    obtain ⟨k, rfl, hk, hown, hbw⟩ := hrel
    have HOWN := Lib.hid hown
    have HBW := Lib.hid hbw
    have hsz := hbw.size
    clear hown hbw
    by_cases hlt : k < n2
    · obtain ⟨b', off', rfl, hb', hc'⟩ := (HB.out.at_.below HBW.out).at_ (by omega)
      have hcx : wr.cell? ⟨b', off' + k, none⟩ = some (.int .i64 (intAt b k)) := hc' k hlt
      have HSN := Lib.hid (farR_snoc (y := 24) (b := b) (k := k) (by rw [HLB.out]; exact hlt))
      have hx24 := HCB0.out (intAt b k) (List.mem_of_getElem? (intAt_get (by rw [HLB.out]; exact hlt)))
      obtain ⟨x, hx⟩ : ∃ x, x = intAt b k := ⟨_, rfl⟩
      rw [← hx] at hcx HSN hx24
      have hk0 : (0 : Int) ≤ (k : Int) := by omega
      have hk1 : (k : Int) < (n2 : Int) := by omega
      have HLE : Hid ((farR 24 (b.take k)).length + 1 ≤ 17592186044416) := by show _ ≤ _; rw [farR_length, List.length_take]; omega
      clear hc' hx
      by_cases hneg : x < 0
      · have e1 : (if x < 0 then x - ((24 : Nat) : Int) else x) = x - 23 - 1 := by rw [if_pos hneg]; omega
        rw [e1] at HSN
        clear e1
        go_wp2_with (at_builtin
                     refine app_ints rfl (.tmp 23) (.tmp 30) rfl w.heap.size _ _ rfl (HOWN.out.alloc _) (some ⟨wr.heap.size, 0, none⟩) 1 1 _ [x - 23 - 1] rfl (fun e => by cases e) (IntsAt.news wr [x - 23 - 1]) HLE.out (by simp; omega) ?_
                     intro v6 w6 hown6 hb6
                     have HO6 := Lib.hid (hown6.cast HSN.out.symm)
                     have HB6 := Lib.hid ((HBW.out.alloc hsz _).trans hb6)
                     clear hown6 hb6)
        go_roundw
        case rel => exact ⟨k + 1, by go_num, by omega, HO6.out, HB6.out⟩
        case measure => simp [intOf]; omega
      · rw [if_neg hneg] at HSN
        go_wp2_with (at_builtin
                     refine app_ints rfl (.tmp 32) (.tmp 37) rfl w.heap.size _ _ rfl (HOWN.out.alloc _) (some ⟨wr.heap.size, 0, none⟩) 1 1 _ [x] rfl (fun e => by cases e) (IntsAt.news wr [x]) HLE.out (by simp; omega) ?_
                     intro v6 w6 hown6 hb6
                     have HO6 := Lib.hid (hown6.cast HSN.out.symm)
                     have HB6 := Lib.hid ((HBW.out.alloc hsz _).trans hb6)
                     clear hown6 hb6)
        go_roundw
        case rel => exact ⟨k + 1, by go_num, by omega, HO6.out, HB6.out⟩
        case measure => simp [intOf]; omega
    · obtain rfl : n2 = k := by omega
      have hown := HOWN.out.cast (by rw [List.take_of_length_le (by rw [HLB.out]; exact Nat.le_refl _)] : _ = farR 24 b)
      obtain ⟨A3, c3, rfl, hc3, hi3⟩ := hown.intsAt
      rw [farR_length, HLB.out] at hi3 hc3 ⊢
      have HA1 := Lib.hid (HA.out.below HBW.out)
      have HF1 : Hid (RowAt wr wr.heap.size A3 n2 c3 (farR 24 b)) := ⟨hi3, hc3, hf2⟩
      have HS1 := Lib.hid (HS.out.on HBW.out)
      have HA2 : Hid (RowAt wr wr.heap.size A1 n1 c1 a) := ⟨HA1.out.at_.more hsz, HA1.out.cap, HA1.out.few⟩
      obtain ⟨w0, hw0⟩ : ∃ w0, w0 = wr := ⟨_, rfl⟩
      subst hw0
      clear hown hi3 hlt HOWN HA1
      go_wp2_with fail
      refine (refPartsR_any A A1 n c n1 c1 w0.heap.size ss a ms1 w0 HS1.out hn HA2.out HM.out HTA.out (Nat.le_refl _)).mono ?_
      rintro e w1 ⟨v1, rfl, hv1, hb1⟩
      have HV1 := Lib.hid hv1
      have HB1 := Lib.hid hb1
      have hsz1 := hb1.size
      clear hv1 hb1
      go_wp2_with fail
      refine (refPartsR_any A A3 n c n2 c3 w0.heap.size ss (farR 24 b) ms2 w1 (HS1.out.below HB1.out) hn (HF1.out.below HB1.out) HM.out HTB.out hsz1).mono ?_
      rintro e w2 ⟨v2, rfl, hv2, hb2⟩
      have HV2 := Lib.hid hv2
      have hsz2 := hb2.size
      have HV12 := Lib.hid hb2
      have HB2 := Lib.hid (HB1.out.trans (hb2.mono hsz1))
      clear hv2 hb2
      obtain ⟨B1, d1, hv1e⟩ := HV1.out.value
      obtain ⟨B2, d2, hv2e⟩ := HV2.out.value
      rw [partsL_length] at hv1e hv2e
      subst hv1e; subst hv2e
      have HFA := Lib.hid (partsL_flat HTA.out)
      have HFB := Lib.hid (partsL_flat HTB.out)
      obtain ⟨w3, hw3⟩ : ∃ w3, w3 = w2.alloc (.cells noneC 90) := ⟨_, rfl⟩
      obtain ⟨sb, hsb⟩ : ∃ sb, sb = w2.heap.size := ⟨_, rfl⟩
      have hb3 : Below w2.heap.size w2 w3 := by rw [hw3]; exact below_new w2 _
      have HST3 : Hid (StoreAt w3 w0.heap.size sb (fun _ => [])) := by
        rw [hw3, hsb]
        exact StoreAt.empty w2 w0.heap.size (by omega)
      have HV13 : Hid (RowsAt w3 w0.heap.size w0.heap.size (.slice B1 ms1.length d1) (partsL a ms1)) := (HV1.out.on HV12.out hsz1).on hb3 (by omega)
      have HV23 : Hid (RowsAt w3 w0.heap.size w0.heap.size (.slice B2 ms2.length d2) (partsL (farR 24 b) ms2)) := (HV2.out.lower hsz1).on hb3 (by omega)
      have HN1 : Hid ((Value.slice B1 ms1.length d1).ownBlock ≠ some sb) := HV1.out.before (by omega)
      have HN2 : Hid ((Value.slice B2 ms2.length d2).ownBlock ≠ some sb) := HV2.out.before (by omega)
      have HB3 := Lib.hid (HB2.out.trans (hb3.mono (by omega)))
      have hsbw : w0.heap.size ≤ sb := by omega
      have HSY3 := Lib.hid (HS1.out.below HB3.out)
      have HT1 := Lib.hid (partsL_trm (V := 48) HTA.out HCA.out)
      have HT2 := Lib.hid (partsL_trm (V := 48) HTB.out HCB.out)
      rw [noneC_lit] at hw3
      have HW3 := Lib.hid hw3
      have HSB := Lib.hid hsb
      obtain ⟨L1, hL1⟩ : ∃ L1, L1 = ms1.length := ⟨_, rfl⟩
      obtain ⟨L2, hL2⟩ : ∃ L2, L2 = ms2.length := ⟨_, rfl⟩
      rw [← hL1] at HV13 HN1 ⊢
      rw [← hL2] at HV23 HN2 ⊢
      have HL1 := Lib.hid hL1
      have HL2 := Lib.hid hL2
      have HLEN48 : Hid (ms1.length ≤ 48) := by have := HMA.out; have := HLA.out; show ms1.length ≤ 48; omega
      have HLT1 := Lib.hid (trm_flatten HT1.out)
      have HLT2 := Lib.hid (trm_flatten HT2.out)
      rw [HFA.out, partsL_length] at HLT1
      rw [HFB.out, partsL_length] at HLT2
      have HBALL : Hid (Below w.heap.size w w3) := HBW.out.trans (HB3.out.mono hsz)
      clear hw3 hsb hb3 hL1 hL2
      by_cases hl : L1 = L2
      · subst hl
        have HEQ : Hid (ms1.length = ms2.length) := HL1.out.symm.trans HL2.out
        have gl : ((L1 : Int) == (L1 : Int)) = true := by simp
        have HCALL := Lib.hid (refAll_of 48 ss A n c w0.heap.size sb w0.heap.size _ _ (refPair_all 48 ss A n c w0.heap.size sb (by omega) HM.out hn _ _) (fun U' _ K' => refPair_all 48 ss A n c w0.heap.size sb (by omega) HM.out hn U' K') (fun _ => []) (fun v => [-1 - (v : Int)]) (fun _ => 0) _ _ (partsL a ms1) (partsL (farR 24 b) ms2) w3 HST3.out Sto.empty HSY3.out HV13.out HV23.out HN1.out HN2.out (by rw [partsL_length, partsL_length]; exact HEQ.out) (by rw [partsL_length]; exact HLEN48.out) HT1.out HT2.out (Nat.le_refl _) (fun r hr => ap_in_flat hr))
        go_wp2_with fail
        rw [← HSB.out, ← HW3.out]
        refine HCALL.out.mono ?_
        rintro e w4 hp
        rw [HFA.out, HFB.out] at hp
        obtain ⟨hd, hg⟩ := hp
        have HB4 := Lib.hid (HBALL.out.grown hg (by have := HBALL.out.size; omega) (fun k hk => by injection hk with hk; omega))
        clear hg
        rcases hd with ⟨rfl, T', hst4, hok⟩ | ⟨rfl, hno⟩
        · obtain ⟨σ, rk, hs4, hcan⟩ := hok.canon
          have HYES : Hid (∃ θ, Sub 48 ss θ ∧ ap θ a = ap θ (farR 24 b)) := ⟨σ, hcan.sub, hcan.uni⟩
          clear hst4 hok hs4 hcan
          go_wp2
          go_ret
          exact ⟨.inl ⟨rfl, HYES.out⟩, HB4.out⟩
        · have HNO := Lib.hid hno.none
          clear hno
          go_wp2
          go_ret
          exact ⟨.inr ⟨rfl, HNO.out⟩, HB4.out⟩
      · have gl : ((L1 : Int) == (L2 : Int)) = false := by simp; omega
        have HNO : Hid (∀ θ, Sub 48 ss θ → ap θ a ≠ ap θ (farR 24 b)) := fun θ hθ e => by
          have h1 := trm_uniq' (trm_ap hθ HLT1.out) (trm_ap hθ HLT2.out) e
          exact hl (by rw [HL1.out, HL2.out]; exact h1)
        clear hl
        have HBA := Lib.hid HBALL.out
        rw [HW3.out] at HBA
        go_wp2
        go_ret
        exact ⟨.inr ⟨rfl, HNO.out⟩, HBA.out⟩
end Go.Proofs.Ythdpojokogiinaa
