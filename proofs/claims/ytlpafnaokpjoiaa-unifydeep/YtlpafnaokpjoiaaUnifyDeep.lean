/-
  The walk of the law UnifyDeep.
-/
import Derived.Test.YtlpafnaokpjoiaaUnifySames
namespace Go.Proofs.Ytlpafnaokpjoiaa
open Go.RowKit
set_option linter.unusedSimpArgs false
set_option linter.unusedVariables false
set_option maxRecDepth 100000

/-- How often a variable stands in a row. -/
def oft (x : Nat) (t : List Int) : Nat := t.countP fun c => decide (c = -1 - (x : Int))
theorem oft_take {x k : Nat} {t : List Int} (h : k < t.length) : oft x (t.take (k + 1)) = oft x (t.take k) + if intAt t k = -1 - (x : Int) then 1 else 0 := by
  have : t.take (k + 1) = t.take k ++ [intAt t k] := by rw [List.take_add_one, intAt_get h]; rfl
  rw [this]; unfold oft; rw [List.countP_append]; simp [List.countP_cons]
theorem oft_le (x : Nat) (t : List Int) : oft x t ≤ t.length := List.countP_le_length
theorem oft_pos {x : Nat} {t : List Int} (h : 0 < oft x t) : -1 - (x : Int) ∈ t := by
  unfold oft at h
  obtain ⟨c, hc, he⟩ := List.countP_pos_iff.1 h
  have : c = -1 - (x : Int) := of_decide_eq_true he
  rw [← this]; exact hc
theorem oft_zero {x : Nat} {t : List Int} (h : oft x t = 0) : -1 - (x : Int) ∉ t := by
  intro hc
  have : 0 < oft x t := List.countP_pos_iff.2 ⟨_, hc, by simp⟩
  omega
section
variable {ss : List Sym} {t : List Int} {x : Nat} {E : Int} {is : Bool} {bs : List Bd}
theorem uni_rows {a b : List Int} (h : UniR ss a b 0 is bs) : rowB ss a = true ∧ rowB ss b = true := by
  rcases h with ⟨_, h, _⟩ | ⟨h, _⟩
  · omega
  · exact Bool.and_eq_true_iff.1 h
theorem uni_err {a b : List Int} (h : UniR ss a b E is bs) (hE : E ≠ 0) : is = false ∧ bs = [] := by
  rcases h with ⟨_, _, h1, h2⟩ | ⟨_, ⟨_, h, _⟩ | ⟨σ, hc, ⟨_, h, _⟩ | ⟨_, _, h1, h2⟩⟩⟩
  · exact ⟨h1, h2⟩
  · exact absurd h hE
  · exact absurd h hE
  · exact ⟨h1, h2⟩
theorem uni_one {v : Nat} {r : List Int} (hr : rowB ss [-1 - (v : Int)] = true) (h1 : rowB ss r = true) (hv : v < 24) (ht : trm 24 ss r 1) (hno : -1 - (v : Int) ∉ r) (hl : ∀ w : Nat, r = [-1 - (w : Int)] → w < v) : UniR ss [-1 - (v : Int)] r 0 true [⟨v, r⟩] := by
  have hne : r ≠ [-1 - (v : Int)] := fun e => hno (by rw [e]; simp)
  have hb : bdsOf (only v r) 24 = [⟨v, r⟩] := by rw [bdsOf_only hne, if_pos hv]
  refine .inr ⟨by rw [hr, h1]; rfl, .inr ⟨_, Canon.one hv ht hno hl, .inl ⟨fun y hy => ?_, rfl, rfl, hb.symm⟩⟩⟩
  by_cases e : y = v
  · subst e; rw [only_at]; exact (row_parts h1).2.1
  · rw [only_ne _ e]; simp
theorem uni_self {v : Nat} (hr : rowB ss [-1 - (v : Int)] = true) : UniR ss [-1 - (v : Int)] [-1 - (v : Int)] 0 true [] := by
  have hc : Canon 24 ss [-1 - (v : Int)] [-1 - (v : Int)] (fun y => [-1 - (y : Int)]) :=
    ⟨fun y hy => trm_var hy, rfl, fun θ _ _ y _ => ap_var y, fun y z _ e => by injection e with e; omega⟩
  have hb : ∀ n, bdsOf (fun y => [-1 - (y : Int)]) n = [] := by
    intro n
    induction n with
    | zero => rfl
    | succ n ih =>
      rw [bdsOf_succ, ih]
      have : isV ([-1 - (n : Int)]) n = true := isV_iff.2 rfl
      rw [this]; rfl
  exact .inr ⟨by rw [hr]; rfl, .inr ⟨_, hc, .inl ⟨fun y _ => by simp, rfl, rfl, (hb 24).symm⟩⟩⟩
theorem deep_var (hu : UniR ss [-1 - (x : Int)] t 0 is bs) (hx : x < 24) (h1 : t.length = 1) (h0 : intAt t 0 < 0) : is = true ∧ bs.length + oft x t = 1 := by
  obtain ⟨r1, r2⟩ := uni_rows hu
  obtain ⟨c, rfl⟩ : ∃ c, t = [c] := by
    match t, h1 with
    | [c], _ => exact ⟨c, rfl⟩
  have hc0 : c < 0 := h0
  have hc24 := row_ge r2 c (by simp)
  obtain ⟨v, hv⟩ : ∃ v : Nat, c = -1 - (v : Int) := ⟨(-1 - c).toNat, by omega⟩
  subst hv
  have hv24 : v < 24 := by omega
  have ho : oft x [-1 - (v : Int)] = if v = x then 1 else 0 := by
    unfold oft
    by_cases e : v = x
    · subst e; simp
    · have : ¬ (-1 - (v : Int) = -1 - (x : Int)) := by omega
      simp [this, e]
  rw [ho]
  by_cases e : v = x
  · subst e
    obtain ⟨_, e2, e3⟩ := hu.unique (uni_self r1)
    rw [e3]; exact ⟨e2, by simp⟩
  · have hnn : ∀ y z : Nat, y ≠ z → -1 - (y : Int) ∉ [-1 - (z : Int)] := fun y z h hm => h (by simp at hm; omega)
    rw [if_neg e]
    by_cases hlt : v < x
    · obtain ⟨_, e2, e3⟩ := hu.unique (uni_one r1 r2 hx (trm_var hv24) (hnn _ _ (fun h => e h.symm)) (fun w ew => by injection ew with ew; omega))
      rw [e3]; exact ⟨e2, by simp⟩
    · obtain ⟨_, e2, e3⟩ := hu.symm.unique (uni_one r2 r1 hv24 (trm_var hx) (hnn _ _ e) (fun w ew => by injection ew with ew; omega))
      rw [e3]; exact ⟨e2, by simp⟩
theorem deep_in (hu : UniR ss [-1 - (x : Int)] t 0 is bs) (h1 : ¬ (t.length = 1 ∧ intAt t 0 < 0)) (hk : 0 < oft x t) : is = false ∧ bs = [] := by
  obtain ⟨r1, r2⟩ := uni_rows hu
  have hin := oft_pos hk
  obtain ⟨k, hk⟩ := row_trm r2
  have h2 : 2 ≤ t.length := by
    match t, hin, h1 with
    | [c], hin, h1 =>
      simp at hin
      exact absurd ⟨rfl, by show c < 0; omega⟩ h1
    | _ :: _ :: _, _, _ => simp
  obtain ⟨_, e2, e3⟩ := hu.unique (.inr ⟨by rw [r1, r2]; rfl, .inl ⟨no_occurs hk hin h2, rfl, rfl, rfl⟩⟩)
  exact ⟨e2, e3⟩
theorem deep_out (hu : UniR ss [-1 - (x : Int)] t 0 true bs) (hx : x < 24) (h1 : ¬ (t.length = 1 ∧ intAt t 0 < 0)) (hk : oft x t = 0) : bs = [⟨x, t⟩] := by
  obtain ⟨_, r1, r2, σ, hc, _, _⟩ := hu.yes
  obtain ⟨k, hk'⟩ := row_trm r2
  have e := hc.uni
  rw [ap_var] at e
  have h11 := trm_uniq' (hc.sub x hx) (trm_ap hc.sub hk') e
  subst h11
  obtain ⟨_, _, e3⟩ := hu.unique (uni_one r1 r2 hx hk' (oft_zero hk) (fun w ew => absurd ⟨by rw [ew]; rfl, by rw [ew]; show -1 - (w : Int) < 0; omega⟩ h1))
  exact e3
end
theorem u_mod4 (k : Int) (n : Nat) (hn : 0 < n) : ∃ z : Nat, z < n ∧ (IntKind.u64.wrap k).tmod n = (z : Int) := by
  have h1 : 0 ≤ IntKind.u64.wrap k := by
    have : IntKind.u64.wrap k = k % 18446744073709551616 := by rfl
    rw [this]; omega
  have h2 : 0 ≤ (IntKind.u64.wrap k).tmod n := Int.tmod_nonneg _ h1
  have h3 : (IntKind.u64.wrap k).tmod n < n := Int.tmod_lt_of_pos _ (by omega)
  exact ⟨((IntKind.u64.wrap k).tmod n).toNat, by omega, by omega⟩
theorem same_var {x : Nat} (hx : x < 24) : wrap64 (x : Int) = (x : Int) := IntWalk.wrap64_in _ ⟨by omega, by omega⟩

set_option maxHeartbeats 1000000 in
theorem unifyDeep_walk (A0 A1 : Option Addr) (n0 c0 n1 c1 : Nat) (ss : List Sym) (t : List Int) (v : Int) (w : World) (hs : SymsAt w w.heap.size A0 n0 ss) (hn0 : n0 ≤ maxLen) (hnc : n0 ≤ c0) (ht : IntsAt w w.heap.size A1 n1 t) (hn1 : n1 ≤ maxLen) :
    Calls Try.prog 8 #[.slice A0 n0 c0, .slice A1 n1 c1, .int .i64 v] w fun e w' => e = .returned (.bool true) ∧ Below w.heap.size w w' := by
  have HS := Lib.hid hs
  have HT := Lib.hid ht
  have HLT := Lib.hid ht.len
  have HB0 := Lib.hid (Below.refl w.heap.size w)
  clear hs ht
  obtain ⟨x, hx, hxe⟩ := u_mod4 v 24 (by omega)
  have hwx := same_var hx
  have HW := Lib.hid (And.intro hxe hwx)
  clear hxe hwx
  go_enter Try.func8, Try.ntmps8
  go_wp2_with fail
  refine (awakeU_any _).mono ?_
  rintro e w1 ⟨rfl, hb1⟩
  have HB1 := Lib.hid (HB0.out.trans (hb1.mono HB0.out.size))
  replace HS := Lib.hid (HS.out.on hb1)
  replace HT := Lib.hid (HT.out.on hb1)
  clear hb1
  go_wp2
  have hxe : (IntKind.u64.wrap v).tmod 24 = (x : Int) := HW.out.1
  simp only [hxe, HW.out.2]
  clear hxe HW
  have hx0 : (0 : Int) ≤ (x : Int) := by omega
  have hx23 : (x : Int) ≤ 23 := by omega
  unfold maxLen at hn1
  go_loop [8, 9] (fun q i => ∃ k m : Nat, i = .int .i64 (k : Int) ∧ q = .int .i64 (m : Int) ∧ k ≤ n1 ∧ m ≤ k ∧ m = oft x (t.take k)) (fun _ i => n1 - (intOf i).toNat)
  case atStart => exact ⟨0, 0, rfl, rfl, by omega, by omega, rfl⟩
  case round =>
    obtain ⟨k, m, rfl, rfl, hk, hmk, hm⟩ := hrel
    have HM := Lib.hid hm
    clear hm
    by_cases hlt : k < n1
    · have hkl : k < t.length := by rw [HLT.out]; exact hlt
      have HST := Lib.hid (oft_take (x := x) hkl)
      obtain ⟨b', off', hA1, hb', hc'⟩ := HT.out.at_ (by omega)
      have hcx : w1.cell? ⟨b', off' + k, none⟩ = some (.int .i64 (intAt t k)) := hc' k hlt
      subst hA1
      obtain ⟨z, hz⟩ : ∃ z, z = intAt t k := ⟨_, rfl⟩
      rw [← hz] at hcx HST
      clear hc' hkl hz
      have hi0 : (0 : Int) ≤ (k : Int) := by omega
      have hi3 : (k : Int) < (n1 : Int) := by omega
      by_cases hz : z = -1 - (x : Int)
      · have g1 : (z == -1 - (x : Int)) = true := by simpa using hz
        have HG : Hid (oft x (t.take (k + 1)) = m + 1) := by show _ = _; rw [HST.out, if_pos hz, HM.out]
        go_wp2
        go_round
        case rel => exact ⟨k + 1, m + 1, by go_num, by go_num, by omega, by omega, HG.out.symm⟩
        case measure => simp [intOf]; omega
      · have g1 : (z == -1 - (x : Int)) = false := by simpa using hz
        have HG : Hid (oft x (t.take (k + 1)) = m) := by show _ = _; rw [HST.out, if_neg hz, HM.out]; rfl
        clear hz
        go_wp2
        go_round
        case rel => exact ⟨k + 1, m, by go_num, rfl, by omega, by omega, HG.out.symm⟩
        case measure => simp [intOf]; omega
    · obtain rfl : k = n1 := by omega
      have HMM : Hid (m = oft x t) := by
        show m = oft x t
        have := HM.out
        rw [List.take_of_length_le (by rw [HLT.out]; omega)] at this
        exact this
      have hs2 := HS.out.new (.cells #[.int .i64 (-1 - (x : Int))] 3)
      have ht2 := HT.out.new (.cells #[.int .i64 (-1 - (x : Int))] 3)
      have hlit : IntsAt (w1.alloc (.cells #[.int .i64 (-1 - (x : Int))] 3)) (w1.alloc (.cells #[.int .i64 (-1 - (x : Int))] 3)).heap.size (some ⟨w1.heap.size, 0, none⟩) 1 [-1 - (x : Int)] := IntsAt.news w1 [-1 - (x : Int)]
      have hb2 := below_new w1 (.cells #[.int .i64 (-1 - (x : Int))] 3)
      have HB2 := Lib.hid (HB1.out.trans (hb2.mono HB1.out.size))
      replace HT := Lib.hid (HT.out.on hb2)
      clear hb2
      have hcall := unify_any A0 _ A1 n0 c0 1 1 k c1 ss [-1 - (x : Int)] t _ hs2 hn0 hnc hlit (len_small (by omega)) ht2 (by unfold maxLen; omega)
      have HCALL := Lib.hid hcall
      clear hcall hs2 ht2 hlit HM
      go_wp2_with fail
      refine (HCALL.out).mono ?_
      rintro e w3 ⟨v3, E, is, bs, rfl, hv3, hb3, hu3⟩
      have HB3 := Lib.hid (HB2.out.trans (hb3.mono HB2.out.size))
      replace HT := Lib.hid (HT.out.on hb3)
      clear hb3
      obtain ⟨hbl, hbt⟩ := hu3.few
      have HU := Lib.hid hu3
      obtain ⟨A3, c3, rfl, _, hbs⟩ := hv3.bindsAt hu3.fit
      have HBS := Lib.hid hbs
      obtain ⟨L, hL⟩ : ∃ L, L = bs.length := ⟨_, rfl⟩
      rw [← hL] at HBS hbl ⊢
      have HL := Lib.hid hL
      clear hbs hv3 hu3 hbt hL HCALL
      by_cases hE : E = 0
      · subst hE
        by_cases h1 : k = 1 ∧ intAt t 0 < 0
        · obtain ⟨rfl, h10⟩ := h1
          obtain ⟨rfl, hd⟩ := deep_var HU.out hx HLT.out h10
          rw [← HL.out, ← HMM.out] at hd
          obtain ⟨b', off', hA1, hb', hc'⟩ := HT.out.at_ (by omega)
          have hcx : w3.cell? ⟨b', off' + 0, none⟩ = some (.int .i64 (intAt t 0)) := hc' 0 (by omega)
          rw [Nat.add_zero] at hcx
          subst hA1
          have hd' : (L : Int) = 1 - (m : Int) := by omega
          obtain ⟨z, hz⟩ : ∃ z, z = intAt t 0 := ⟨_, rfl⟩
          rw [← hz] at hcx h10
          clear hz hc'
          go_wp2_with (go_at_call 13; refine (num_any _ _).mono ?_; rintro e w' ⟨rfl, rfl⟩)
          go_ret
          exact ⟨rfl, HB3.out⟩
        · have H1 := Lib.hid h1
          clear h1
          by_cases hk1 : k = 1
          · subst hk1
            obtain ⟨b', off', hA1, hb', hc'⟩ := HT.out.at_ (by omega)
            have hcx : w3.cell? ⟨b', off' + 0, none⟩ = some (.int .i64 (intAt t 0)) := hc' 0 (by omega)
            rw [Nat.add_zero] at hcx
            subst hA1
            have hz0 : ¬ intAt t 0 < 0 := fun h => H1.out ⟨rfl, h⟩
            obtain ⟨z, hz⟩ : ∃ z, z = intAt t 0 := ⟨_, rfl⟩
            rw [← hz] at hcx hz0
            clear hz hc'
            by_cases hm0 : 0 < m
            · obtain ⟨hi, hbn⟩ := deep_in HU.out (by rw [HLT.out]; exact H1.out) (by rw [← HMM.out]; exact hm0)
              subst hi
              have hL0 : L = 0 := by rw [HL.out, hbn]; rfl
              subst hL0
              clear hbn
              go_wp2_with (go_at_call 13; refine (num_any _ _).mono ?_; rintro e w' ⟨rfl, rfl⟩)
              go_ret
              exact ⟨rfl, HB3.out⟩
            · obtain rfl : m = 0 := by omega
              clear hm0
              cases is
              · have hL0 : L = 0 := by rw [HL.out, HU.out.no]; rfl
                subst hL0
                go_wp2_with (go_at_call 13; refine (num_any _ _).mono ?_; rintro e w' ⟨rfl, rfl⟩)
                go_ret
                exact ⟨rfl, HB3.out⟩
              · have hbn := deep_out HU.out hx (by rw [HLT.out]; exact H1.out) HMM.out.symm
                have hL1 : L = 1 := by rw [HL.out, hbn]; rfl
                subst hL1
                rw [hbn] at HBS
                obtain ⟨b3, o3, hA3, hb3', hc3⟩ := HBS.out.at_ (by omega)
                obtain ⟨d0, A4, c4, d1, hc4, hi4⟩ := hc3 0 (by omega)
                have e1 : (bdAt [(⟨(x : Int), t⟩ : Bd)] 0).v = (x : Int) := rfl
                have e2 : (bdAt [(⟨(x : Int), t⟩ : Bd)] 0).t = t := rfl
                rw [e1, Nat.zero_mul, Nat.add_zero] at d0
                rw [e2, Nat.zero_mul, Nat.add_zero, HLT.out] at d1
                rw [e2, HLT.out] at hi4 hc4
                subst hA3
                have HI4 := Lib.hid hi4
                have gx : ((x : Int) == (x : Int)) = true := by simp
                clear hc3 e1 e2 hi4 hbn
                go_wp2_with (go_at_call 13; refine (num_any _ _).mono ?_; rintro e w' ⟨rfl, rfl⟩)
                refine (sameInts_any A4 _ _ c4 _ c1 _ _ _ _ _ HI4.out HT.out (by unfold maxLen; omega) (by unfold maxLen; omega)).mono ?_
                rintro e w4 ⟨rfl, hb4⟩
                rw [sameI_self]
                have HB4 := Lib.hid (HB3.out.trans (hb4.mono HB3.out.size))
                clear hb4
                go_wp2
                go_ret
                exact ⟨rfl, HB4.out⟩
          · have hk1' : ¬ (k : Int) = 1 := by omega
            clear hk1
            by_cases hm0 : 0 < m
            · obtain ⟨hi, hbn⟩ := deep_in HU.out (by rw [HLT.out]; exact H1.out) (by rw [← HMM.out]; exact hm0)
              subst hi
              have hL0 : L = 0 := by rw [HL.out, hbn]; rfl
              subst hL0
              clear hbn
              go_wp2_with (go_at_call 13; refine (num_any _ _).mono ?_; rintro e w' ⟨rfl, rfl⟩)
              go_ret
              exact ⟨rfl, HB3.out⟩
            · obtain rfl : m = 0 := by omega
              clear hm0
              cases is
              · have hL0 : L = 0 := by rw [HL.out, HU.out.no]; rfl
                subst hL0
                go_wp2_with (go_at_call 13; refine (num_any _ _).mono ?_; rintro e w' ⟨rfl, rfl⟩)
                go_ret
                exact ⟨rfl, HB3.out⟩
              · have hbn := deep_out HU.out hx (by rw [HLT.out]; exact H1.out) HMM.out.symm
                have hL1 : L = 1 := by rw [HL.out, hbn]; rfl
                subst hL1
                rw [hbn] at HBS
                obtain ⟨b3, o3, hA3, hb3', hc3⟩ := HBS.out.at_ (by omega)
                obtain ⟨d0, A4, c4, d1, hc4, hi4⟩ := hc3 0 (by omega)
                have e1 : (bdAt [(⟨(x : Int), t⟩ : Bd)] 0).v = (x : Int) := rfl
                have e2 : (bdAt [(⟨(x : Int), t⟩ : Bd)] 0).t = t := rfl
                rw [e1, Nat.zero_mul, Nat.add_zero] at d0
                rw [e2, Nat.zero_mul, Nat.add_zero, HLT.out] at d1
                rw [e2, HLT.out] at hi4 hc4
                subst hA3
                have HI4 := Lib.hid hi4
                have gx : ((x : Int) == (x : Int)) = true := by simp
                clear hc3 e1 e2 hi4 hbn
                go_wp2_with (go_at_call 13; refine (num_any _ _).mono ?_; rintro e w' ⟨rfl, rfl⟩)
                refine (sameInts_any A4 _ _ c4 _ c1 _ _ _ _ _ HI4.out HT.out (by unfold maxLen; omega) (by unfold maxLen; omega)).mono ?_
                rintro e w4 ⟨rfl, hb4⟩
                rw [sameI_self]
                have HB4 := Lib.hid (HB3.out.trans (hb4.mono HB3.out.size))
                clear hb4
                go_wp2
                go_ret
                exact ⟨rfl, HB4.out⟩
      · have gE : (E != 0) = true := by simpa using hE
        obtain ⟨rfl, hbn⟩ := uni_err HU.out hE
        have hL0 : L = 0 := by rw [HL.out, hbn]; rfl
        subst hL0
        clear hE hbn
        go_wp2_with (go_at_call 13; refine (num_any _ _).mono ?_; rintro e w' ⟨rfl, rfl⟩)
        go_ret
        exact ⟨rfl, HB3.out⟩

end Go.Proofs.Ytlpafnaokpjoiaa
