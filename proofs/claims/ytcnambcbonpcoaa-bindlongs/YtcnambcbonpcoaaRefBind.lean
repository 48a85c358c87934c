/-
  Contracts of the reference: Same, BindMay, Of, Put.
-/
import Derived.Test.YtcnambcbonpcoaaMemBinds
import Derived.Test.YtcnambcbonpcoaaRefEnd
import Derived.Test.YtcnambcbonpcoaaBindMay
namespace Go.Proofs.Ytcnambcbonpcoaa
open Go.RowKit
set_option linter.unusedSimpArgs false
set_option linter.unusedVariables false

set_option maxHeartbeats 1000000 in
theorem refSame_any (A B : Option Addr) (n c m d B1 B2 : Nat) (xs ys : List Int) (w : World) (hA : IntsAt w B1 A n xs) (hB : IntsAt w B2 B m ys) (hn : n ≤ maxLen) (hm : m ≤ maxLen) :
    Calls Try.prog 37 #[.slice A n c, .slice B m d] w fun e w' => e = .returned (.bool (sameI xs ys)) ∧ Below w.heap.size w w' := by
  unfold maxLen at hn hm
  have HX := Lib.hid hA.len
  have HY := Lib.hid hB.len
  by_cases hnm : n = m
  · subst hnm
    go_enter Try.func37, Try.ntmps37
    go_wp2
    go_loopw [5] (fun i wr => ∃ k q : Nat, k ≤ n ∧ i = .int .i64 k ∧ wr = w.drewN q ∧ ∀ i, i < k → intAt xs i = intAt ys i) (fun i _ => n - (intOf i).toNat)
    case atStart => exact ⟨0, 0, by omega, rfl, rfl, fun i hi => absurd hi (by omega)⟩
    case round =>
      obtain ⟨k, q, hk, rfl, rfl, hall⟩ := hrel
      have HALL := Lib.hid hall
      clear hall
      by_cases hlt : k < n
      · obtain ⟨b1, o1, rfl, _, h1⟩ := hA.at_ (by omega)
        obtain ⟨b2, o2, rfl, _, h2⟩ := hB.at_ (by omega)
        have c0 : w.cell? ⟨b1, o1 + k, none⟩ = some (.int .i64 (intAt xs k)) := h1 k hlt
        have d0 : w.cell? ⟨b2, o2 + k, none⟩ = some (.int .i64 (intAt ys k)) := h2 k hlt
        clear h1 h2
        have hi0 : (0 : Int) ≤ (k : Int) := by omega
        have hi2 : (k : Int) < (n : Int) := by omega
        by_cases he : intAt xs k = intAt ys k
        · have he' : (intAt xs k != intAt ys k) = false := by simp [he]
          have HE := Lib.hid he
          clear he
          go_wp2_with fail
          go_quiet (fail)
          go_wp2
          go_roundw
          case rel => exact ⟨k + 1, _, by omega, by go_num, rfl, fun i hi => if e : i = k then e ▸ HE.out else HALL.out i (by omega)⟩
          case measure => simp [intOf]; omega
        · have he' : (intAt xs k != intAt ys k) = true := by simp [he]
          have H := Lib.hid (sameI_not he)
          clear he
          go_wp2_with fail
          go_quiet (fail)
          go_wp2
          go_ret
          exact ⟨ret_b H.out.symm, (below_drewN w _).trans (below_drewN _ _)⟩
      · obtain rfl : k = n := by omega
        have H : Hid (sameI xs ys = true) := by
          show sameI xs ys = true
          unfold sameI
          exact decide_eq_true (list_int_ext (by rw [HX.out, HY.out]) (by rw [HX.out]; exact HALL.out))
        go_wp2
        go_ret
        exact ⟨ret_b H.out.symm, below_drewN w _⟩
  · have H := Lib.hid (sameI_len (xs := xs) (ys := ys) (by rw [HX.out, HY.out]; exact hnm))
    go_enter Try.func37, Try.ntmps37
    go_wp2
    go_ret
    exact ⟨ret_b H.out.symm, Below.refl _ _⟩

theorem ofB_first {bs : List Bd} {v : Int} {k : Nat} (hk : k < bs.length) (hv : (bdAt bs k).v = v) (h : ∀ j, j < k → (bdAt bs j).v ≠ v) : ofB bs v = some (bdAt bs k).t := by
  induction bs generalizing k with
  | nil => simp at hk
  | cons a bs ih =>
    rw [ofB_cons]
    cases k with
    | zero => have : a.v = v := hv; rw [if_pos this]; rfl
    | succ k =>
      have h0 : a.v ≠ v := h 0 (by omega)
      rw [if_neg h0]
      exact ih (k := k) (by simpa using hk) hv fun j hj => h (j + 1) (by omega)
theorem ofB_never {bs : List Bd} {v : Int} (h : ∀ j, j < bs.length → (bdAt bs j).v ≠ v) : ofB bs v = none := by
  refine ofB_none_of fun b hb he => ?_
  obtain ⟨j, hj, rfl⟩ := List.mem_iff_getElem.1 hb
  have : bdAt bs j = bs[j] := by unfold bdAt; rw [List.getD_eq_getElem?_getD, List.getElem?_eq_getElem hj]; rfl
  exact h j hj (by rw [this]; exact he)
/-- Where a variable's bind stands. -/
def OfPost (bs : List Bd) (v : Int) (w : World) (e : Ending) (w' : World) : Prop :=
  w = w' ∧ ((e = .returned (.int .i64 (-1)) ∧ ofB bs v = none) ∨ ∃ k : Nat, k < bs.length ∧ e = .returned (.int .i64 k) ∧ ofB bs v = some (bdAt bs k).t)
set_option maxHeartbeats 1000000 in
theorem refOf_any (A : Option Addr) (n c B : Nat) (bs : List Bd) (v : Int) (w : World) (h : BindsAt w B A n bs) (hn : n ≤ 4398046511104) :
    Calls Try.prog 40 #[.slice A n c, .int .i64 v] w (OfPost bs v w) := by
  have HS := Lib.hid h
  have HL := Lib.hid h.len
  clear h
  go_enter Try.func40, Try.ntmps40
  go_wp2
  go_loop [5] (fun i => ∃ k : Nat, i = .int .i64 k ∧ k ≤ n ∧ ∀ j, j < k → (bdAt bs j).v ≠ v) (fun i => n - (intOf i).toNat)
  case atStart => exact ⟨0, rfl, by omega, fun j hj => absurd hj (by omega)⟩
  case round =>
    obtain ⟨k, rfl, hk, hall⟩ := hrel
    have HALL := Lib.hid hall
    clear hall
    by_cases hlt : k < n
    · have hkl : k < bs.length := by rw [HL.out]; exact hlt
      have HKL := Lib.hid hkl
      obtain ⟨b, off, rfl, hb, hc⟩ := HS.out.at_ (by omega)
      obtain ⟨c0, _⟩ := hc k hlt
      obtain ⟨x, hx⟩ : ∃ x, x = (bdAt bs k).v := ⟨_, rfl⟩
      rw [← hx] at c0
      have HX := Lib.hid hx
      clear hc hkl hx
      by_cases he : x = v
      · subst he
        go_wp2
        go_ret
        exact ⟨rfl, .inr ⟨k, HKL.out, rfl, ofB_first HKL.out HX.out.symm HALL.out⟩⟩
      · go_wp2
        go_round
        case rel => exact ⟨k + 1, by go_num, by omega, fun j hj => if e : j = k then by rw [e, ← HX.out]; exact he else HALL.out j (by omega)⟩
        case measure => simp [intOf]; omega
    · obtain rfl : k = n := by omega
      go_wp2
      go_ret
      exact ⟨rfl, .inl ⟨rfl, ofB_never (by rw [HL.out]; exact HALL.out)⟩⟩

set_option maxHeartbeats 1000000 in
theorem refPut_any (A A2 : Option Addr) (n c m c2 : Nat) (ss : List Sym) (bs : List Bd) (r : List Int) (w : World) (h : BindsAt w w.heap.size A n bs) (hn : n ≤ 4398046511104) (hv : bdsB ss 0 bs = true) (hr : IntsAt w w.heap.size A2 m r) (hm : m ≤ 1000000) (h24 : ∀ i, i < m → -24 ≤ intAt r i) :
    Calls Try.prog 31 #[.slice A n c, .slice A2 m c2] w (IntsRet (put bs r) w) := by
  have HS := Lib.hid h
  have HR := Lib.hid hr
  have HL := Lib.hid hr.len
  have HLB := Lib.hid h.len
  have HV := Lib.hid hv
  have H24 := Lib.hid h24
  clear h hr hv h24
  go_enter Try.func31, Try.ntmps31
  go_wp2
  go_loopw [5, 6] (fun q i wr => ∃ j : Nat, i = .int .i64 j ∧ j ≤ m ∧ OwnI wr w.heap.size q (put bs (r.take j)) ∧ (put bs (r.take j)).length ≤ 48 * j ∧ Below w.heap.size w wr) (fun _ i _ => m - (intOf i).toNat)
  case atStart => exact ⟨0, rfl, by omega, OwnI.nil_, by simp [put], Below.refl _ _⟩
  case round =>
    obtain ⟨j, rfl, hj, hown, h48, hbw⟩ := hrel
    have HOWN := Lib.hid hown
    have H48 := Lib.hid h48
    have HBW := Lib.hid hbw
    have hsz := hbw.size
    clear hown h48 hbw
    by_cases hjm : j < m
    · have hjl : j < r.length := by rw [HL.out]; exact hjm
      have HPT := Lib.hid (put_take (bs := bs) hjl)
      obtain ⟨b', off', rfl, hb', hc'⟩ := (HR.out.on HBW.out).at_ (by omega)
      have hcx : wr.cell? ⟨b', off' + j, none⟩ = some (.int .i64 (intAt r j)) := hc' j hjm
      have h24 := H24.out j hjm
      obtain ⟨x, hx⟩ : ∃ x, x = intAt r j := ⟨_, rfl⟩
      rw [← hx] at hcx h24 HPT
      clear hc' hjl hx
      have hi0 : (0 : Int) ≤ (j : Int) := by omega
      have hi3 : (j : Int) < (m : Int) := by omega
      have hlen : (put bs (r.take j)).length + 48 ≤ 17592186044416 := by have := H48.out; omega
      by_cases hx0 : x < 0
      · go_wp2_with fail
        refine (refOf_any A n c _ bs (-1 - x) _ (HS.out.on HBW.out) hn).mono ?_
        rintro e w1 ⟨rfl, ⟨rfl, ho⟩ | ⟨k, hk, rfl, ho⟩⟩
        · have HP1 := Lib.hid (put1_free ho)
          clear ho
          go_wp2_with (at_builtin
                       refine app_int1 rfl (.tmp 28) (.tmp 33) rfl w.heap.size _ _ x rfl HOWN.out rfl (by omega) hsz ?_
                       intro v2 w2 hown2 hb2
                       have HO2 := Lib.hid hown2
                       have HB2 := Lib.hid hb2
                       clear hown2 hb2)
          go_roundw
          case rel => exact ⟨j + 1, by go_num, by omega, HO2.out.cast (by rw [HPT.out, HP1.out]), by rw [HPT.out, HP1.out]; have := H48.out; simp; omega, HBW.out.trans HB2.out⟩
          case measure => simp [intOf]; omega
        · have HP1 := Lib.hid (put1_var hx0 ho)
          obtain ⟨_, _, l1, l2⟩ := one_parts (bdsB_at HV.out hk).2.2.1
          rw [HLB.out] at hk
          obtain ⟨b, off, rfl, hb, hc⟩ := (HS.out.on HBW.out).at_ (by omega)
          obtain ⟨_, A3, c3, d1, hc3, hi3'⟩ := hc k hk
          obtain ⟨t, ht⟩ : ∃ t, t = (bdAt bs k).t := ⟨_, rfl⟩
          rw [← ht] at d1 hc3 hi3' HP1 l1 l2
          obtain ⟨b3, o3, rfl, _⟩ := hi3'.at_ l1
          have HI3 := Lib.hid hi3'
          have hk0 : (0 : Int) ≤ (k : Int) := by omega
          have hk1 : (k : Int) < (n : Int) := by omega
          clear ho hc ht hi3'
          go_wp2_with (at_builtin
                       refine app_ints rfl (.tmp 35) (.tmp 40) rfl w.heap.size _ (put bs (r.take j)) rfl HOWN.out (some ⟨b3, o3, none⟩) t.length c3 _ t rfl (fun h => by cases h) HI3.out (by omega) hsz ?_
                       intro v2 w2 hown2 hb2
                       have HO2 := Lib.hid hown2
                       have HB2 := Lib.hid hb2
                       clear hown2 hb2)
          go_roundw
          case rel => exact ⟨j + 1, by go_num, by omega, HO2.out.cast (by rw [HPT.out, HP1.out]), by rw [HPT.out, HP1.out]; have := H48.out; simp; omega, HBW.out.trans HB2.out⟩
          case measure => simp [intOf]; omega
      · have HP1 : Hid (put1 bs x = [x]) := put1_sym hx0
        go_wp2_with (at_builtin
                     refine app_int1 rfl (.tmp 28) (.tmp 33) rfl w.heap.size _ _ x rfl HOWN.out rfl (by omega) hsz ?_
                     intro v2 w2 hown2 hb2
                     have HO2 := Lib.hid hown2
                     have HB2 := Lib.hid hb2
                     clear hown2 hb2)
        go_roundw
        case rel => exact ⟨j + 1, by go_num, by omega, HO2.out.cast (by rw [HPT.out, HP1.out]), by rw [HPT.out, HP1.out]; have := H48.out; simp; omega, HBW.out.trans HB2.out⟩
        case measure => simp [intOf]; omega
    · obtain rfl : j = m := by omega
      have HE : Hid (put bs (r.take j) = put bs r) := by show put bs (r.take j) = put bs r; rw [List.take_of_length_le (by rw [HL.out]; omega)]
      go_wp2
      go_ret
      exact ⟨_, rfl, HOWN.out.cast HE.out, HBW.out⟩

theorem BindsAt.drewN {w : World} {B n : Nat} {A : Option Addr} {bs : List Bd} (h : BindsAt w B A n bs) (k : Nat) : BindsAt (w.drewN k) B A n bs := h.keep fun _ _ => rfl
/-- The least variable that the next bind may have. -/
def nextLo (bs : List Bd) (k : Nat) : Int := if k = 0 then 0 else (bdAt bs (k - 1)).v + 1
theorem termsK_one {ss : List Sym} {t : List Int} (hm : mayB ss = true) : oneB ss t = decide (termsK ss t = 1) := by
  unfold oneB termsK rowB
  rw [hm, Bool.true_and]
  cases h : decide (t.length ≤ 48) && rowP ss t
  · simp
  · simp only [Bool.true_and, if_true]
    exact decide_eq_decide.2 (by omega)
theorem refTerms_quiet (A A' : Option Addr) (n c m c' B B' : Nat) (ss : List Sym) (r : List Int) (w : World) (h : SymsAt w B A n ss) (hn : n ≤ maxLen) (hr : IntsAt w B' A' m r) (hm : m ≤ maxLen) (hmay : mayB ss = true) {K : Int} (hK : termsK ss r = K) :
    Calls Try.prog 30 #[.slice A n c, .slice A' m c'] w fun e w' => e = .returned (.int .i64 K) ∧ w' = w := by
  subst hK
  exact (refTerms_any A A' n c m c' B B' ss r w h hn hr hm hmay).mono fun e w' ⟨h1, h2⟩ => ⟨h1, h2.symm⟩
theorem IntsAt.drewN {w : World} {B n : Nat} {A : Option Addr} {xs : List Int} (h : IntsAt w B A n xs) (k : Nat) : IntsAt (w.drewN k) B A n xs := ⟨h.len, h.at_⟩

set_option maxHeartbeats 4000000 in
theorem refBindMay_any (A A1 : Option Addr) (n c m c1 : Nat) (ss : List Sym) (bs : List Bd) (w : World) (h : SymsAt w w.heap.size A n ss) (hn : n ≤ maxLen) (hr : BindsAt w w.heap.size A1 m bs) (hm : m ≤ 4398046511104) :
    Calls Try.prog 15 #[.slice A n c, .slice A1 m c1] w fun e w' => e = .returned (.bool (bindB ss bs)) ∧ Below w.heap.size w w' := by
  have HL := Lib.hid hr.len
  have HS := Lib.hid h
  have HR := Lib.hid hr
  cases hmay : mayB ss
  · have H := Lib.hid (bindB_no (bs := bs) hmay)
    clear hr
    go_enter Try.func15, Try.ntmps15
    go_wp2_with fail
    refine (signMay_any A n c ss _ h hn).mono ?_
    rintro e w1 ⟨rfl, hb1⟩
    rw [hmay]
    clear hmay h
    go_wp2
    go_ret
    exact ⟨ret_b H.out.symm, hb1⟩
  · have H := Lib.hid (bindB_yes (bs := bs) hmay)
    have HM := Lib.hid hmay
    clear hr
    go_enter Try.func15, Try.ntmps15
    go_wp2_with fail
    refine (signMay_any A n c ss _ h hn).mono ?_
    rintro e w1 ⟨rfl, hb1⟩
    rw [hmay]
    have HB1 := Lib.hid hb1
    clear hmay h hb1
    go_wp2
    go_loopw [5] (fun i wr => ∃ k : Nat, i = .int .i64 k ∧ k ≤ m ∧ Below w.heap.size w wr ∧ 0 ≤ nextLo bs k ∧ bdsB ss 0 bs = bdsB ss (nextLo bs k) (bs.drop k)) (fun i _ => m - (intOf i).toNat)
    case atStart => exact ⟨0, rfl, by omega, HB1.out, by simp [nextLo], rfl⟩
    case round =>
      obtain ⟨k, rfl, hk, hbw, hlo, heq⟩ := hrel
      clear HB1
      have HB1 := Lib.hid hbw
      have HS1 := Lib.hid (HS.out.on hbw)
      have HR1 := Lib.hid (HR.out.on hbw)
      clear hbw
      have HEQ := Lib.hid heq
      clear heq
      by_cases hlt : k < m
      · have hkl : k < bs.length := by rw [HL.out]; exact hlt
        have HST := Lib.hid (bdsB_step (ss := ss) (lo := nextLo bs k) hkl)
        obtain ⟨b, off, rfl, hb, hc⟩ := HR1.out.at_ (by omega)
        obtain ⟨c0, A2, c2, d0, hc2, hi2⟩ := hc k hlt
        have hfit := HR1.out.fit k hlt
        have HC := Lib.hid hc
        obtain ⟨bd, hbd⟩ : ∃ bd, bd = bdAt bs k := ⟨_, rfl⟩
        rw [← hbd] at c0 d0 hc2 hi2 hfit HST
        have HBD := Lib.hid hbd
        have HI := Lib.hid hi2
        clear hc hkl hbd hi2
        have no (hF : bdB ss (nextLo bs k) bd = false) : bindB ss bs = false := by rw [H.out, HEQ.out, HST.out, hF]; rfl
        have NO := Lib.hid no
        clear no
        have hi0 : (0 : Int) ≤ (k : Int) := by omega
        have hi3 : (k : Int) < (m : Int) := by omega
        have hlo0 := Lib.hid hlo
        clear hlo
        by_cases h1 : bd.v < 0
        · have HN := Lib.hid (NO.out (bdB_lo (by have := hlo0.out; omega)))
          have g1 : decide (bd.v < 0) = true := decide_eq_true h1
          go_wp2_with fail
          go_quiet (fail)
          go_wp2
          go_ret
          exact ⟨ret_b HN.out.symm, HB1.out.trans (below_drewN _ _)⟩
        · have g1 : decide (bd.v < 0) = false := decide_eq_false h1
          by_cases h2 : 23 < bd.v
          · have HN := Lib.hid (NO.out (bdB_hi h2))
            have g2 : decide (23 < bd.v) = true := decide_eq_true h2
            go_wp2_with fail
            go_quiet (fail)
            go_wp2
            go_ret
            exact ⟨ret_b HN.out.symm, HB1.out.trans (below_drewN _ _)⟩
          · have g2 : decide (23 < bd.v) = false := decide_eq_false h2
            by_cases hk0 : k = 0
            · have gk : decide (0 < k) = false := decide_eq_false (by omega)
              have HLO : Hid (nextLo bs k = 0) := by show nextLo bs k = 0; unfold nextLo; rw [if_pos hk0]
              clear hk0
              cases h3 : decide (termsK ss bd.t = 1)
              · have HN := Lib.hid (NO.out (bdB_one (by rw [termsK_one HM.out]; exact h3)))
                obtain ⟨K, hK⟩ : ∃ K, K = termsK ss bd.t := ⟨_, rfl⟩
                have g3 : (K != 1) = true := by rw [hK]; simpa using of_decide_eq_false h3
                have HK := Lib.hid hK.symm
                clear hK
                clear h3
                go_wp2_with fail
                go_quiet ((go_at_call 30; exact Calls.quiet_of_same (refTerms_quiet A A2 n c _ c2 _ _ ss bd.t _ (HS1.out.drewN _) hn (HI.out.drewN _) (by unfold maxLen; omega) HM.out HK.out)))
                go_wp2
                go_ret
                exact ⟨ret_b HN.out.symm, HB1.out.trans (below_drewN _ _)⟩
              · have h3' : oneB ss bd.t = true := by rw [termsK_one HM.out]; exact h3
                have hk1 : termsK ss bd.t = 1 := of_decide_eq_true h3
                obtain ⟨_, _, l1, _⟩ := one_parts h3'
                obtain ⟨b3, o3, rfl, _, hc3⟩ := HI.out.at_ l1
                have e0 : wr.cell? ⟨b3, o3 + 0, none⟩ = some (.int .i64 (intAt bd.t 0)) := hc3 0 l1
                rw [Nat.add_zero] at e0
                have hl1 : (0 : Int) < (bd.t.length : Int) := by omega
                have HK1 := Lib.hid hk1
                clear hc3 h3 hk1
                by_cases h4 : intAt bd.t 0 = -1 - bd.v
                · have HN := Lib.hid (NO.out (bdB_var (isV_iff.2 (one_var h3' h4 (by omega)))))
                  have g4 : (intAt bd.t 0 == -1 - bd.v) = true := by simpa using h4
                  clear h4 h3'
                  go_wp2_with fail
                  go_quiet ((go_at_call 30; exact Calls.quiet_of_same (refTerms_quiet A _ n c _ c2 _ _ ss bd.t _ (HS1.out.drewN _) hn (HI.out.drewN _) (by unfold maxLen; omega) HM.out HK1.out)))
                  go_wp2
                  go_ret
                  exact ⟨ret_b HN.out.symm, HB1.out.trans (below_drewN _ _)⟩
                · have HN : Hid (bdB ss (nextLo bs k) bd = true) := bdB_good (by rw [HLO.out]; omega) (by omega) h3' (isV_no h4)
                  have g4 : (intAt bd.t 0 == -1 - bd.v) = false := by simpa using h4
                  have HNX : Hid (nextLo bs (k + 1) = bd.v + 1) := by show nextLo bs _ = _; rw [HBD.out]; rfl
                  clear h4 h3'
                  go_wp2_with fail
                  go_quiet ((go_at_call 30; exact Calls.quiet_of_same (refTerms_quiet A _ n c _ c2 _ _ ss bd.t _ (HS1.out.drewN _) hn (HI.out.drewN _) (by unfold maxLen; omega) HM.out HK1.out)))
                  go_wp2
                  go_roundw
                  case rel => exact ⟨k + 1, by go_num, by omega, HB1.out.trans (below_drewN _ _), by rw [HNX.out]; omega, by rw [HEQ.out, HST.out, HN.out, HNX.out]; rfl⟩
                  case measure => simp [intOf]; omega
            · obtain ⟨p, hp⟩ : ∃ p, k = p + 1 := ⟨k - 1, by omega⟩
              have HLO : Hid (nextLo bs k = (bdAt bs p).v + 1) := by show nextLo bs k = _; rw [hp]; rfl
              obtain ⟨p0, _⟩ := HC.out p (by omega)
              obtain ⟨pv, hpv⟩ : ∃ pv, pv = (bdAt bs p).v := ⟨_, rfl⟩
              rw [← hpv] at p0 HLO
              clear hpv
              have gk : decide (0 < k) = true := decide_eq_true (by omega)
              have hi4 : IntKind.i64.wrap ((k : Int) - 1) = (p : Int) := by rw [show ((k : Int) - 1) = (p : Int) by omega]; exact IntWalk.i64_in _ (by omega)
              have hi5 : (0 : Int) ≤ (p : Int) := by omega
              have hi6 : (p : Int) < (m : Int) := by omega
              clear hp hk0
              by_cases h5 : bd.v ≤ pv
              · have HN := Lib.hid (NO.out (bdB_lo (by rw [HLO.out]; omega)))
                have g5 : decide (bd.v ≤ pv) = true := decide_eq_true h5
                go_wp2_with fail
                go_quiet (fail)
                go_wp2
                go_ret
                exact ⟨ret_b HN.out.symm, HB1.out.trans (below_drewN _ _)⟩
              · have g5 : decide (bd.v ≤ pv) = false := decide_eq_false h5
                cases h3 : decide (termsK ss bd.t = 1)
                · have HN := Lib.hid (NO.out (bdB_one (by rw [termsK_one HM.out]; exact h3)))
                  obtain ⟨K, hK⟩ : ∃ K, K = termsK ss bd.t := ⟨_, rfl⟩
                  have g3 : (K != 1) = true := by rw [hK]; simpa using of_decide_eq_false h3
                  have HK := Lib.hid hK.symm
                  clear hK
                  clear h3
                  go_wp2_with fail
                  go_quiet ((go_at_call 30; exact Calls.quiet_of_same (refTerms_quiet A A2 n c _ c2 _ _ ss bd.t _ (HS1.out.drewN _) hn (HI.out.drewN _) (by unfold maxLen; omega) HM.out HK.out)))
                  go_wp2
                  go_ret
                  exact ⟨ret_b HN.out.symm, HB1.out.trans (below_drewN _ _)⟩
                · have h3' : oneB ss bd.t = true := by rw [termsK_one HM.out]; exact h3
                  have hk1 : termsK ss bd.t = 1 := of_decide_eq_true h3
                  obtain ⟨_, _, l1, _⟩ := one_parts h3'
                  obtain ⟨b3, o3, rfl, _, hc3⟩ := HI.out.at_ l1
                  have e0 : wr.cell? ⟨b3, o3 + 0, none⟩ = some (.int .i64 (intAt bd.t 0)) := hc3 0 l1
                  rw [Nat.add_zero] at e0
                  have hl1 : (0 : Int) < (bd.t.length : Int) := by omega
                  have HK1 := Lib.hid hk1
                  clear hc3 h3 hk1
                  by_cases h4 : intAt bd.t 0 = -1 - bd.v
                  · have HN := Lib.hid (NO.out (bdB_var (isV_iff.2 (one_var h3' h4 (by omega)))))
                    have g4 : (intAt bd.t 0 == -1 - bd.v) = true := by simpa using h4
                    clear h4 h3'
                    go_wp2_with fail
                    go_quiet ((go_at_call 30; exact Calls.quiet_of_same (refTerms_quiet A _ n c _ c2 _ _ ss bd.t _ (HS1.out.drewN _) hn (HI.out.drewN _) (by unfold maxLen; omega) HM.out HK1.out)))
                    go_wp2
                    go_ret
                    exact ⟨ret_b HN.out.symm, HB1.out.trans (below_drewN _ _)⟩
                  · have HN : Hid (bdB ss (nextLo bs k) bd = true) := bdB_good (by rw [HLO.out]; omega) (by omega) h3' (isV_no h4)
                    have g4 : (intAt bd.t 0 == -1 - bd.v) = false := by simpa using h4
                    have HNX : Hid (nextLo bs (k + 1) = bd.v + 1) := by show nextLo bs _ = _; rw [HBD.out]; rfl
                    clear h4 h3'
                    go_wp2_with fail
                    go_quiet ((go_at_call 30; exact Calls.quiet_of_same (refTerms_quiet A _ n c _ c2 _ _ ss bd.t _ (HS1.out.drewN _) hn (HI.out.drewN _) (by unfold maxLen; omega) HM.out HK1.out)))
                    go_wp2
                    go_roundw
                    case rel => exact ⟨k + 1, by go_num, by omega, HB1.out.trans (below_drewN _ _), by rw [HNX.out]; omega, by rw [HEQ.out, HST.out, HN.out, HNX.out]; rfl⟩
                    case measure => simp [intOf]; omega
      · obtain rfl : k = m := by omega
        have HN : Hid (bindB ss bs = true) := by show bindB ss bs = true; rw [H.out, HEQ.out, List.drop_of_length_le (by rw [HL.out]; omega)]; rfl
        go_wp2
        go_ret
        exact ⟨ret_b HN.out.symm, HB1.out⟩

end Go.Proofs.Ytcnambcbonpcoaa
