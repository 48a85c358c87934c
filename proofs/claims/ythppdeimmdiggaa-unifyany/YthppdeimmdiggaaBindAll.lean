/-
  Contracts: bind.Apply, bind.follow, bind.Then, bind.Shift.
-/
import Derived.Test.YthppdeimmdiggaaBindPut
namespace Go.Proofs.Ythppdeimmdiggaa
open Go.RowKit Go.Deep
set_option linter.unusedSimpArgs false
set_option linter.unusedVariables false

theorem applyE_no {ss : List Sym} {bs : List Bd} {r : List Int} (h : (bindB ss bs && rowB ss r) = false) : applyE ss bs r = 300 ∧ applyR ss bs r = [] := by
  unfold applyE applyR; rw [h]; exact ⟨rfl, rfl⟩
theorem applyE_yes {ss : List Sym} {bs : List Bd} {r : List Int} (h1 : bindB ss bs = true) (h2 : rowB ss r = true) : applyE ss bs r = (if putOk bs r then 0 else 301) ∧ applyR ss bs r = putR bs r := by
  unfold applyE applyR putR putOk
  rw [h1, h2]
  by_cases h : (put bs r).length ≤ 48 <;> simp [h]
theorem bind_valid {ss : List Sym} {bs : List Bd} (h : bindB ss bs = true) : bdsB ss 0 bs = true := by unfold bindB at h; simp only [Bool.and_eq_true] at h; exact h.2
theorem bind_may {ss : List Sym} {bs : List Bd} (h : bindB ss bs = true) : mayB ss = true := by unfold bindB at h; simp only [Bool.and_eq_true] at h; exact h.1
theorem codes24 {ss : List Sym} {r : List Int} {ms : List (Nat × Nat)} (h : tl ss r = some ms) : ∀ i, i < r.length → -24 ≤ intAt r i := fun i hi => row_codes h _ (List.mem_of_getElem? (intAt_get hi))

set_option maxHeartbeats 1000000 in
theorem apply_any (A A1 A2 : Option Addr) (n c n1 c1 n2 c2 : Nat) (ss : List Sym) (bs : List Bd) (r : List Int) (w : World) (h : SymsAt w w.heap.size A n ss) (hn : n ≤ maxLen) (hnc : n ≤ c) (hb : BindsAt w w.heap.size A1 n1 bs) (hn1 : n1 ≤ 4398046511104) (hr : IntsAt w w.heap.size A2 n2 r) (hn2 : n2 ≤ maxLen) :
    Calls Try.prog 17 #[.slice A n c, .slice A1 n1 c1, .slice A2 n2 c2] w (IntsPost (applyR ss bs r) (applyE ss bs r) w) := by
  have HS := Lib.hid h
  have HB := Lib.hid hb
  have HR := Lib.hid hr
  have HL := Lib.hid hr.len
  clear hb hr
  cases h1 : bindB ss bs
  · obtain ⟨q1, q2⟩ := applyE_no (ss := ss) (bs := bs) (r := r) (by rw [h1]; rfl)
    have Q1 := Lib.hid q1
    have Q2 := Lib.hid q2
    clear q1 q2
    go_enter Try.func17, Try.ntmps17
    go_wp2_with fail
    refine (bindMay_any A A1 n c n1 c1 ss bs _ HS.out hn hnc HB.out hn1).mono ?_
    rintro e w1 ⟨rfl, hb1⟩
    rw [h1]
    clear h1
    go_wp2
    go_ret2
    exact ⟨_, ret_vi Q1.out.symm, OwnI.nil_.cast Q2.out.symm, hb1⟩
  · have H1 := Lib.hid h1
    cases h2 : rowB ss r
    · obtain ⟨q1, q2⟩ := applyE_no (ss := ss) (bs := bs) (r := r) (by rw [h1, h2]; rfl)
      have Q1 := Lib.hid q1
      have Q2 := Lib.hid q2
      clear q1 q2
      go_enter Try.func17, Try.ntmps17
      go_wp2_with fail
      refine (bindMay_any A A1 n c n1 c1 ss bs _ HS.out hn hnc HB.out hn1).mono ?_
      rintro e w1 ⟨rfl, hb1⟩
      rw [h1]
      clear h1
      go_wp2_with fail
      refine (isRow_any A A2 n c n2 c2 ss r _ (HS.out.on hb1) hn hnc (HR.out.on hb1) hn2).mono ?_
      rintro e w2 ⟨rfl, hb2⟩
      rw [h2]
      clear h2
      go_wp2
      go_ret2
      exact ⟨_, ret_vi Q1.out.symm, OwnI.nil_.cast Q2.out.symm, hb1.trans (hb2.mono hb1.size)⟩
    · obtain ⟨q1, q2⟩ := applyE_yes h1 h2
      have Q1 := Lib.hid q1
      have Q2 := Lib.hid q2
      obtain ⟨_, hl48, hms⟩ := row_parts h2
      rw [HL.out] at hl48
      have H24 := Lib.hid (codes24 hms)
      rw [HL.out] at H24
      clear q1 q2 hms
      cases h3 : putOk bs r
      all_goals
        go_enter Try.func17, Try.ntmps17
        go_wp2_with fail
        refine (bindMay_any A A1 n c n1 c1 ss bs _ HS.out hn hnc HB.out hn1).mono ?_
        rintro e w1 ⟨rfl, hb1⟩
        rw [h1]
        go_wp2_with fail
        refine (isRow_any A A2 n c n2 c2 ss r _ (HS.out.on hb1) hn hnc (HR.out.on hb1) hn2).mono ?_
        rintro e w2 ⟨rfl, hb2⟩
        rw [h2]
        have hb12 := hb1.trans (hb2.mono hb1.size)
        have HB12 := Lib.hid hb12
        clear h2 hb1 hb2
        go_wp2_with fail
        refine (replace_any A1 A2 n1 c1 n2 c2 ss bs r _ (HB.out.on HB12.out) hn1 (bind_valid h1) (HR.out.on HB12.out) hl48 H24.out).mono ?_
        rintro e w3 ⟨v3, rfl, hv3, hb3⟩
        rw [h3]
        have HV3 := Lib.hid (hv3.lower HB12.out.size)
        have HB3 := Lib.hid (HB12.out.trans (hb3.mono HB12.out.size))
        clear h1 hb3 hv3 hb12
        go_wp2
        go_ret2
      · exact ⟨_, ret_vi (by rw [Q1.out, h3]; rfl), OwnI.nil_.cast (by rw [Q2.out]; unfold putR; rw [h3]; rfl), HB3.out⟩
      · exact ⟨_, ret_vi (by rw [Q1.out, h3]; rfl), HV3.out.cast Q2.out.symm, HB3.out⟩

/-- What 'follow' hands back. -/
def bothOk (bs us : List Bd) (v : Nat) : Bool := decide ((bothV bs us v).length ≤ 48)
def FollowPost (bs us : List Bd) (v : Nat) (w : World) (e : Ending) (w' : World) : Prop :=
  ∃ u, e = .returned (.tuple #[u, .bool (bothOk bs us v)]) ∧ OwnI w' w.heap.size u (if bothOk bs us v then bothV bs us v else []) ∧ Below w.heap.size w w'
theorem put1_short {ss : List Sym} {bs : List Bd} (h : bindB ss bs = true) (c : Int) : (put1 bs c).length ≤ 48 := by
  unfold put1
  by_cases hc : c < 0
  · rw [if_pos hc]
    cases ho : ofB bs (-1 - c) with
    | none => simp
    | some t =>
      obtain ⟨b, hb, _, rfl⟩ := ofB_some ho
      exact (one_parts (bdsB_mem (bind_valid h) b hb).2.2.1).2.2.2
  · rw [if_neg hc]; simp
set_option maxHeartbeats 1000000 in
theorem follow_any (A1 A2 : Option Addr) (n1 c1 n2 c2 v : Nat) (ss : List Sym) (bs us : List Bd) (w : World) (hb : BindsAt w w.heap.size A1 n1 bs) (hn1 : n1 ≤ 4398046511104) (hu : BindsAt w w.heap.size A2 n2 us) (hn2 : n2 ≤ 4398046511104)
    (h1 : bindB ss bs = true) (h2 : bindB ss us = true) (hv : v < 24) :
    Calls Try.prog 38 #[.slice A1 n1 c1, .slice A2 n2 c2, .int .i64 v] w (FollowPost bs us v w) := by
  have HB := Lib.hid hb
  have HU := Lib.hid hu
  have H1 := Lib.hid h1
  have H2 := Lib.hid h2
  have hP : putOk bs [-1 - (v : Int)] = true := by unfold putOk; rw [put_one]; exact decide_eq_true (put1_short h1 _)
  have HPR : Hid (putR bs [-1 - (v : Int)] = put1 bs (-1 - (v : Int))) := by show putR bs _ = _; unfold putR; rw [hP, put_one]; rfl
  obtain ⟨_, ms, hms, _⟩ := tl_both h1 h2 hv
  have H24 := Lib.hid (codes24 hms)
  have HSH := Lib.hid (put1_short h1 (-1 - (v : Int)))
  clear hb hu h1 h2 hms
  go_enter Try.func38, Try.ntmps38
  go_wp2_with fail
  refine (replace_any A1 _ n1 c1 1 1 ss bs [-1 - (v : Int)] _ (HB.out.on (below_new _ _)) hn1 (bind_valid H1.out) (IntsAt.news w [-1 - (v : Int)]) (by omega) (fun i hi => ?_)).mono ?_
  · obtain rfl : i = 0 := by omega
    show -24 ≤ -1 - (v : Int); omega
  rintro e w1 ⟨v1, rfl, hv1, hb1⟩
  rw [hP]
  rw [HPR.out] at hv1
  have HB1 := Lib.hid ((below_new w (.cells #[.int .i64 (-1 - (v : Int))] 3)).trans (hb1.mono (by simp)))
  obtain ⟨A3, cap3, rfl, hc3, hi3⟩ := hv1.intsAt
  have HI3 := Lib.hid hi3
  clear hb1 hv1 hi3
  go_wp2_with fail
  refine (replace_any A2 A3 n2 c2 _ cap3 ss us _ _ (HU.out.on HB1.out) hn2 (bind_valid H2.out) HI3.out HSH.out H24.out).mono ?_
  rintro e w2 ⟨v2, rfl, hv2, hb2⟩
  have HV2 := Lib.hid (hv2.lower HB1.out.size)
  have HB2 := Lib.hid (HB1.out.trans (hb2.mono HB1.out.size))
  clear hv2 hb2
  go_wp2
  go_ret2
  exact ⟨_, rfl, HV2.out, HB2.out⟩

theorem thenE_no {ss : List Sym} {bs us : List Bd} (h : (bindB ss bs && bindB ss us) = false) : thenE ss bs us = 300 ∧ thenR ss bs us = [] := by
  unfold thenE thenR; rw [h]; exact ⟨rfl, rfl⟩
theorem thenE_long {ss : List Sym} {bs us : List Bd} (h1 : bindB ss bs = true) (h2 : bindB ss us = true) {v : Nat} (hv : v < 24) (h : bothOk bs us v = false) : thenE ss bs us = 301 ∧ thenR ss bs us = [] := by
  have : bothB bs us = false := by
    cases hb : bothB bs us with
    | false => rfl
    | true =>
      have := bothB_iff.1 hb v hv
      unfold bothOk at h
      have := of_decide_eq_false h
      omega
  unfold thenE thenR; rw [h1, h2, this]; exact ⟨rfl, rfl⟩
theorem thenE_good {ss : List Sym} {bs us : List Bd} (h1 : bindB ss bs = true) (h2 : bindB ss us = true) (h : ∀ v, v < 24 → bothOk bs us v = true) : thenE ss bs us = 0 ∧ thenR ss bs us = both bs us := by
  have : bothB bs us = true := bothB_iff.2 fun v hv => of_decide_eq_true (h v hv)
  unfold thenE thenR; rw [h1, h2, this]; exact ⟨rfl, rfl⟩
theorem upTo_same {bs us : List Bd} {k : Nat} (h : isV (bothV bs us k) k = true) : (List.range (k + 1)).filterMap (bothF bs us) = (List.range k).filterMap (bothF bs us) := by
  rw [List.range_succ, List.filterMap_append]
  have : bothF bs us k = none := by unfold bothF; rw [h]; rfl
  simp [this]
theorem upTo_more {bs us : List Bd} {k : Nat} (h : isV (bothV bs us k) k = false) : (List.range (k + 1)).filterMap (bothF bs us) = (List.range k).filterMap (bothF bs us) ++ [⟨k, bothV bs us k⟩] := by
  rw [List.range_succ, List.filterMap_append]
  have : bothF bs us k = some ⟨k, bothV bs us k⟩ := by unfold bothF; rw [h]; rfl
  simp [this]
theorem upTo_len {bs us : List Bd} {k : Nat} : ((List.range k).filterMap (bothF bs us)).length ≤ k := by
  have := List.length_filterMap_le (bothF bs us) (List.range k)
  simpa using this

set_option maxHeartbeats 2000000 in
theorem then_any (A A1 A2 : Option Addr) (n c n1 c1 n2 c2 : Nat) (ss : List Sym) (bs us : List Bd) (w : World) (h : SymsAt w w.heap.size A n ss) (hn : n ≤ maxLen) (hnc : n ≤ c) (hb : BindsAt w w.heap.size A1 n1 bs) (hn1 : n1 ≤ 4398046511104) (hu : BindsAt w w.heap.size A2 n2 us) (hn2 : n2 ≤ 4398046511104) :
    Calls Try.prog 20 #[.slice A n c, .slice A1 n1 c1, .slice A2 n2 c2] w (BindsPost (thenR ss bs us) (thenE ss bs us) w) := by
  have HS := Lib.hid h
  have HB := Lib.hid hb
  have HU := Lib.hid hu
  clear hb hu
  cases h1 : bindB ss bs
  · obtain ⟨q1, q2⟩ := thenE_no (ss := ss) (bs := bs) (us := us) (by rw [h1]; rfl)
    have Q1 := Lib.hid q1
    have Q2 := Lib.hid q2
    clear q1 q2
    go_enter Try.func20, Try.ntmps20
    go_wp2_with fail
    refine (bindMay_any A A1 n c n1 c1 ss bs _ HS.out hn hnc HB.out hn1).mono ?_
    rintro e w1 ⟨rfl, hb1⟩
    rw [h1]
    clear h1
    go_wp2
    go_ret2
    exact ⟨_, ret_vi Q1.out.symm, OwnB.nil_.cast Q2.out.symm, hb1⟩
  · have H1 := Lib.hid h1
    cases h2 : bindB ss us
    · obtain ⟨q1, q2⟩ := thenE_no (ss := ss) (bs := bs) (us := us) (by rw [h1, h2]; rfl)
      have Q1 := Lib.hid q1
      have Q2 := Lib.hid q2
      clear q1 q2
      go_enter Try.func20, Try.ntmps20
      go_wp2_with fail
      refine (bindMay_any A A1 n c n1 c1 ss bs _ HS.out hn hnc HB.out hn1).mono ?_
      rintro e w1 ⟨rfl, hb1⟩
      rw [h1]
      clear h1
      go_wp2_with fail
      refine (bindMay_any A A2 n c n2 c2 ss us _ (HS.out.on hb1) hn hnc (HU.out.on hb1) hn2).mono ?_
      rintro e w2 ⟨rfl, hb2⟩
      rw [h2]
      clear h2
      go_wp2
      go_ret2
      exact ⟨_, ret_vi Q1.out.symm, OwnB.nil_.cast Q2.out.symm, hb1.trans (hb2.mono hb1.size)⟩
    · have H2 := Lib.hid h2
      go_enter Try.func20, Try.ntmps20
      go_wp2_with fail
      refine (bindMay_any A A1 n c n1 c1 ss bs _ HS.out hn hnc HB.out hn1).mono ?_
      rintro e w1 ⟨rfl, hb1⟩
      rw [h1]
      clear h1
      go_wp2_with fail
      refine (bindMay_any A A2 n c n2 c2 ss us _ (HS.out.on hb1) hn hnc (HU.out.on hb1) hn2).mono ?_
      rintro e w2 ⟨rfl, hb2⟩
      rw [h2]
      have HB12 := Lib.hid (hb1.trans (hb2.mono hb1.size))
      clear h2 hb1 hb2
      go_wp2
      go_loopw [8, 22] (fun q i wr => ∃ k : Nat, i = .int .i64 k ∧ k ≤ 24 ∧ OwnB wr w.heap.size q ((List.range k).filterMap (bothF bs us)) ∧ (∀ v, v < k → bothOk bs us v = true) ∧ Below w.heap.size w wr) (fun _ i _ => 24 - (intOf i).toNat)
      case atStart => exact ⟨0, rfl, by omega, OwnB.nil_, fun v hv => absurd hv (by omega), HB12.out⟩
      case round =>
        obtain ⟨k, rfl, hk, hown, hall, hbw⟩ := hrel
        have HOWN := Lib.hid hown
        have HALL := Lib.hid hall
        have HBW := Lib.hid hbw
        have hsz := hbw.size
        clear hown hall hbw
        by_cases hlt : k < 24
        · have hk23 : (k : Int) ≤ 23 := by omega
          have hk0 : (0 : Int) ≤ (k : Int) := by omega
          cases h3 : bothOk bs us k
          · obtain ⟨q1, q2⟩ := thenE_long H1.out H2.out hlt h3
            have Q1 := Lib.hid q1
            have Q2 := Lib.hid q2
            clear q1 q2
            go_wp2_with fail
            refine (follow_any A1 A2 n1 c1 n2 c2 k ss bs us _ (HB.out.on HBW.out) hn1 (HU.out.on HBW.out) hn2 H1.out H2.out hlt).mono ?_
            rintro e w3 ⟨v3, rfl, hv3, hb3⟩
            rw [h3]
            have HB3 := Lib.hid (HBW.out.trans (hb3.mono HBW.out.size))
            clear hv3 hb3 h3
            go_wp2
            go_ret2
            exact ⟨_, ret_vi Q1.out.symm, OwnB.nil_.cast Q2.out.symm, HB3.out⟩
          · have HA2 : Hid (∀ v, v < k + 1 → bothOk bs us v = true) := fun v hv => if e : v = k then by rw [e]; exact h3 else HALL.out v (by omega)
            have hln : (bothV bs us k).length ≤ 48 := of_decide_eq_true h3
            have HLN := Lib.hid hln
            clear hln
            cases h4 : isV (bothV bs us k) k
            all_goals
              go_wp2_with fail
              refine (follow_any A1 A2 n1 c1 n2 c2 k ss bs us _ (HB.out.on HBW.out) hn1 (HU.out.on HBW.out) hn2 H1.out H2.out hlt).mono ?_
              rintro e w3 ⟨v3, rfl, hv3, hb3⟩
              rw [h3] at hv3 ⊢
              have HO3 := Lib.hid (HOWN.out.on hb3)
              have HB3 := Lib.hid (HBW.out.trans (hb3.mono HBW.out.size))
              obtain ⟨A3, cap3, rfl, hc3, hi3⟩ := hv3.intsAt
              have HI3 := Lib.hid hi3
              have HV3 := Lib.hid (hv3.lower hsz)
              have hsz3 := HB3.out.size
              clear hv3 hb3 hi3
              go_wp2_with fail
              refine (isVar_any A3 _ cap3 _ _ (k : Int) _ HI3.out (by have := HLN.out; unfold maxLen; simp; omega) hk0 hk23).mono ?_
              rintro e w4 ⟨rfl, rfl⟩
              simp only [if_true]
              rw [h4]
            · have HUP := Lib.hid (upTo_more h4)
              go_wp2_with (at_builtin
                           refine app_bind1 rfl (.tmp 38) (.tmp 42) rfl w.heap.size _ _ (k : Int) (bothV bs us k) _ rfl HO3.out HV3.out rfl (by have := upTo_len (bs := bs) (us := us) (k := k); omega) hsz3 ?_
                           intro v5 w5 hown5 hb5
                           have HO5 := Lib.hid hown5
                           have HB5 := Lib.hid hb5
                           clear hown5 hb5)
              go_roundw
              case rel => exact ⟨k + 1, by go_num, by omega, HO5.out.cast HUP.out.symm, HA2.out, HB3.out.trans HB5.out⟩
              case measure => simp [intOf]; omega
            · have HUP := Lib.hid (upTo_same h4)
              go_wp2
              go_roundw
              case rel => exact ⟨k + 1, by go_num, by omega, HO3.out.cast HUP.out.symm, HA2.out, HB3.out⟩
              case measure => simp [intOf]; omega
        · obtain rfl : k = 24 := by omega
          obtain ⟨q1, q2⟩ := thenE_good H1.out H2.out HALL.out
          have Q1 := Lib.hid q1
          have Q2 := Lib.hid q2
          clear q1 q2
          go_wp2
          go_ret2
          exact ⟨_, ret_vi Q1.out.symm, HOWN.out.cast Q2.out.symm, HBW.out⟩

theorem shiftE_no {ss : List Sym} {r : List Int} {y : Int} (h : rowB ss r = false) : shiftE ss r y = 300 ∧ shiftR ss r y = [] := by
  unfold shiftE shiftR; rw [h]; exact ⟨rfl, rfl⟩
theorem shiftE_far {ss : List Sym} {r : List Int} {y : Int} (h : rowB ss r = true) {i : Nat} (hi : i < r.length) (hf : farB y (intAt r i) = true) : shiftE ss r y = 302 ∧ shiftR ss r y = [] := by
  have : shOk y r = false := by
    cases hb : shOk y r with
    | false => rfl
    | true =>
      unfold shOk at hb
      rw [List.all_eq_true] at hb
      have := hb _ (List.mem_of_getElem? (intAt_get hi))
      rw [hf] at this; cases this
  unfold shiftE shiftR; rw [h, this]; exact ⟨rfl, rfl⟩
theorem shiftE_good {ss : List Sym} {r : List Int} {y : Int} (h : rowB ss r = true) (hf : shOk y r = true) : shiftE ss r y = 0 ∧ shiftR ss r y = r.map (sh1 y) := by
  unfold shiftE shiftR; rw [h, hf]; exact ⟨rfl, rfl⟩
theorem shOk_step {r : List Int} {y : Int} {k : Nat} (h : shOk y (r.take k) = true) (hk : k < r.length) (hf : farB y (intAt r k) = false) : shOk y (r.take (k + 1)) = true := by
  have e : r.take (k + 1) = r.take k ++ [intAt r k] := by rw [List.take_add_one, intAt_get hk]; rfl
  unfold shOk at *
  rw [e, List.all_append, h]
  simp [hf]
theorem sh_step {r : List Int} {y : Int} {k : Nat} (hk : k < r.length) : (r.take (k + 1)).map (sh1 y) = (r.take k).map (sh1 y) ++ [sh1 y (intAt r k)] := by
  have e : r.take (k + 1) = r.take k ++ [intAt r k] := by rw [List.take_add_one, intAt_get hk]; rfl
  rw [e, List.map_append]; rfl

end Go.Proofs.Ythppdeimmdiggaa
