/-
  The walk of the law BindLongs.
-/
import Derived.Test.YtjclcogjdodjpaaBindNone
import Derived.Deep.OwnRows
namespace Go.Proofs.Ytjclcogjdodjpaa
open Go.RowKit Go.Deep
set_option linter.unusedSimpArgs false
set_option linter.unusedVariables false

/-- A term of p symbols of one argument, and a constant. -/
def longT (p : Nat) : List Int := List.replicate p 3 ++ [1]
theorem longT_length (p : Nat) : (longT p).length = p + 1 := by unfold longT; simp
theorem tl_long (p : Nat) : ∃ m, tl wordsL (longT p) = some [m] := by
  induction p with
  | zero => exact ⟨(1, 1), by decide +kernel⟩
  | succ p ih =>
    obtain ⟨m, hm⟩ := ih
    have e : longT (p + 1) = 3 :: longT p := by unfold longT; rw [List.replicate_succ]; rfl
    have ha : arOf wordsL 3 = some 1 := by decide +kernel
    rw [e, tl_cons hm ha (by simp)]
    exact ⟨_, rfl⟩
theorem tl_vars (ss : List Sym) (q : Nat) : ∃ ms, tl ss (List.replicate q (-1)) = some ms := by
  induction q with
  | zero => exact ⟨_, rfl⟩
  | succ q ih =>
    obtain ⟨ms, hm⟩ := ih
    rw [List.replicate_succ]
    have ha : arOf ss (-1) = some 0 := rfl
    exact ⟨_, tl_cons hm ha (by omega)⟩
theorem bind_long {p : Nat} (hp : p < 20) : bindB wordsL [⟨0, longT p⟩] = true := by
  rw [bindB_yes may_words, bdsB_cons]
  obtain ⟨m, hm⟩ := tl_long p
  have : bdB wordsL 0 ⟨0, longT p⟩ = true := bdB_iff.2 ⟨Int.le_refl _, by show (0 : Int) ≤ 23; decide, one_of may_words (by rw [longT_length]; omega) hm rfl, by
    show longT p ≠ [-1 - 0]
    cases p with
    | zero => decide
    | succ p => unfold longT; rw [List.replicate_succ]; simp⟩
  rw [this]; rfl
theorem put_long (p q : Nat) : (put [⟨0, longT p⟩] (List.replicate q (-1))).length = (p + 1) * q := by
  induction q with
  | zero => rfl
  | succ q ih =>
    rw [List.replicate_succ, put_cons, List.length_append, ih]
    have : put1 [⟨0, longT p⟩] (-1) = longT p := put1_var (by omega) rfl
    rw [this, longT_length, Nat.mul_succ]; omega
theorem long_facts {p q : Nat} (hp : p < 20) (hq : q < 30) :
    ((p + 1) * q ≤ 48 → applyE wordsL [⟨0, longT p⟩] (List.replicate q (-1)) = 0 ∧ (applyR wordsL [⟨0, longT p⟩] (List.replicate q (-1))).length = (p + 1) * q) ∧
    (48 < (p + 1) * q → applyE wordsL [⟨0, longT p⟩] (List.replicate q (-1)) = 301 ∧ applyR wordsL [⟨0, longT p⟩] (List.replicate q (-1)) = []) := by
  obtain ⟨ms, hms⟩ := tl_vars wordsL q
  have hr : rowB wordsL (List.replicate q (-1)) = true := one_row may_words (by simp; omega) hms
  refine ⟨fun h => ?_, fun h => ?_⟩
  · obtain ⟨q1, q2⟩ := applyE_good (bind_long hp) hr (by rw [put_long]; exact h)
    exact ⟨q1, by rw [q2, put_long]⟩
  · exact applyE_long (bind_long hp) hr (by rw [put_long]; exact h)
theorem longT_at (p i : Nat) (h : i < p + 1) : intAt (longT p) i = if i = p then 1 else 3 := by
  unfold intAt longT
  rw [List.getD_eq_getElem?_getD]
  by_cases e : i = p
  · subst e; rw [List.getElem?_append_right (by simp)]; simp
  · have hi : i < p := by omega
    rw [List.getElem?_append_left (by simpa using hi), List.getElem?_replicate, if_pos hi, if_neg e]; rfl
theorem k_mod (k : Int) : ∃ p : Nat, p < 20 ∧ wrap64 (1 + wrap64 ((IntKind.u64.wrap k).tmod 20)) = ((p + 1 : Nat) : Int) := by
  obtain ⟨z, hz, he⟩ := u_mod k 20 (by omega)
  have he' : (IntKind.u64.wrap k).tmod 20 = (z : Int) := he
  clear he
  rw [he']
  clear he'
  refine ⟨z, hz, ?_⟩
  rw [IntWalk.wrap64_in (z : Int) ⟨by omega, by omega⟩, IntWalk.wrap64_in _ ⟨by omega, by omega⟩]
  omega
theorem m_mod (k : Int) : ∃ q : Nat, q < 30 ∧ wrap64 ((IntKind.u64.wrap k).tmod 30) = (q : Int) := by
  obtain ⟨z, hz, he⟩ := u_mod k 30 (by omega)
  have he' : (IntKind.u64.wrap k).tmod 30 = (z : Int) := he
  clear he
  rw [he']
  clear he'
  exact ⟨z, hz, IntWalk.wrap64_in (z : Int) ⟨by omega, by omega⟩⟩

set_option maxHeartbeats 4000000 in
theorem bindLongs_walk (k m : Int) (w : World) :
    Calls Try.prog 9 #[.int .i64 k, .int .i64 m] w fun e w' => e = .returned (.bool true) ∧ Below w.heap.size w w' := by
  have HB0 := Lib.hid (Below.refl w.heap.size w)
  obtain ⟨p, hp, hpe⟩ := k_mod k
  obtain ⟨q, hq, hqe⟩ := m_mod m
  have HP := Lib.hid hpe
  have HQ := Lib.hid hqe
  clear hpe hqe
  go_enter Try.func9, Try.ntmps9
  go_wp2_with fail
  refine (awake_any _).mono ?_
  rintro e w1 ⟨rfl, hb1⟩
  have HB1 := Lib.hid (HB0.out.trans (hb1.mono HB0.out.size))
  clear hb1
  have hmk := run_make_row' (P := Try.prog) 24 3 (.int .i64 0) 8 Try.underlying24 int_info rfl .i64 .i64 (p + 1) (by omega) (by omega) w1
  rw [← HP.out] at hmk
  go_wp2_with fail
  clear hmk
  go_loopw [6] (fun i wr => ∃ j : Nat, i = .int .i64 j ∧ j ≤ p + 1 ∧ wr.rowIs w1.heap.size 3 (p + 1) (fun x => .int .i64 (if x < j then 3 else 0)) ∧ Below w1.heap.size w1 wr) (fun i _ => p + 1 - (intOf i).toNat)
  case atStart => exact ⟨0, rfl, by omega, (World.rowIs_made _ _ _ _).congr (fun i hi => by simp), below_new _ _⟩
  case round =>
    obtain ⟨j, rfl, hj, hrow, hbw⟩ := hrel
    have HROW := Lib.hid hrow
    have HBW := Lib.hid hbw
    clear hbw
    by_cases hlt : j < p + 1
    · have hcj := hrow.cell hlt
      have hfj := hrow.frozen j
      have e0 : (if j < j then (3 : Int) else 0) = 0 := by simp
      rw [e0] at hcj
      have hi0 : (0 : Int) ≤ (j : Int) := by omega
      have hi1 : (j : Int) < ((p + 1 : Nat) : Int) := by omega
      clear hrow e0
      go_wp2
      go_roundw
      case rel => exact ⟨j + 1, by go_num, by omega, (HROW.out.set j _).congr (fun i hi => by
        by_cases e : i = j
        · subst e; simp
        · by_cases e2 : i < j
          · simp [e, e2]; omega
          · simp [e, e2]; omega), HBW.out.setCell (Nat.le_refl _) _⟩
      case measure => simp [intOf]; omega
    · obtain rfl : j = p + 1 := by omega
      have hcp := hrow.cell (i := p) (by omega)
      rw [if_pos (by omega)] at hcp
      have hfp := hrow.frozen p
      have HI1 : Hid (IntsAt (wr.setCell ⟨w1.heap.size, p, none⟩ (.int .i64 1)) (wr.setCell ⟨w1.heap.size, p, none⟩ (.int .i64 1)).heap.size (some ⟨w1.heap.size, 0, none⟩) (p + 1) (longT p)) := by
        have hrow2 := hrow.set p (.int .i64 1)
        refine ⟨longT_length p, fun _ => ⟨_, _, rfl, hrow2.lt, fun i hi => ?_⟩⟩
        have := hrow2.cell hi
        rw [Nat.zero_add, this]
        show _ = some (Value.int .i64 (intAt (longT p) i))
        rw [longT_at p i hi]
        by_cases e : i = p
        · simp [e]
        · simp [e, hi]
      have HB2' : Hid (Below w.heap.size w (wr.setCell ⟨w1.heap.size, p, none⟩ (.int .i64 1))) := HB1.out.trans ((HBW.out.setCell (Nat.le_refl _) _).mono HB1.out.size)
      obtain ⟨w2, hw2⟩ : ∃ w2, w2 = wr.setCell ⟨w1.heap.size, p, none⟩ (.int .i64 1) := ⟨_, rfl⟩
      have hmk := run_make_row' (P := Try.prog) 24 3 (.int .i64 0) 8 Try.underlying24 int_info rfl .i64 .i64 q (by omega) (by omega) w2
      rw [← HQ.out, hw2] at hmk
      rw [← hw2] at HI1 HB2'
      have hi4 : IntKind.i64.wrap (((p + 1 : Nat) : Int) - 1) = (p : Int) := by rw [show (((p + 1 : Nat) : Int) - 1) = (p : Int) by omega]; exact IntWalk.i64_in _ (by omega)
      have hi5 : (0 : Int) ≤ (p : Int) := by omega
      have hi6 : (p : Int) < ((p + 1 : Nat) : Int) := by omega
      have hws : w2.heap.size = wr.heap.size := by rw [hw2]; simp
      clear hrow HROW HBW
      go_wp2_with fail
      rw [← hw2, ← hws]
      clear hmk hcp hfp hws hw2 hi4
      clear wr
      go_loopw [8] (fun i wr => ∃ j : Nat, i = .int .i64 j ∧ j ≤ q ∧ wr.rowIs w2.heap.size 3 q (fun x => .int .i64 (if x < j then -1 else 0)) ∧ Below w2.heap.size w2 wr) (fun i _ => q - (intOf i).toNat)
      case atStart => exact ⟨0, rfl, by omega, (World.rowIs_made _ _ _ _).congr (fun i hi => by simp), below_new _ _⟩
      case round =>
        obtain ⟨j, rfl, hj, hrow, hbw⟩ := hrel
        have HROW := Lib.hid hrow
        have HBW := Lib.hid hbw
        clear hbw
        by_cases hlt : j < q
        · have hcj := hrow.cell hlt
          have hfj := hrow.frozen j
          have e0 : (if j < j then (-1 : Int) else 0) = 0 := by simp
          rw [e0] at hcj
          have hi0 : (0 : Int) ≤ (j : Int) := by omega
          have hi1 : (j : Int) < (q : Int) := by omega
          clear hrow e0
          go_wp2
          go_roundw
          case rel => exact ⟨j + 1, by go_num, by omega, (HROW.out.set j _).congr (fun i hi => by
            by_cases e : i = j
            · subst e; simp
            · by_cases e2 : i < j
              · simp [e, e2]; omega
              · simp [e, e2]; omega), HBW.out.setCell (Nat.le_refl _) _⟩
          case measure => simp [intOf]; omega
        · obtain rfl : j = q := by omega
          have HI2 : Hid (IntsAt wr wr.heap.size (some ⟨w2.heap.size, 0, none⟩) j (List.replicate j (-1))) := by
            refine ⟨by simp, fun _ => ⟨_, _, rfl, hrow.lt, fun i hi => ?_⟩⟩
            have := hrow.cell hi
            rw [if_pos hi] at this
            rw [Nat.zero_add, this]
            show _ = some (Value.int .i64 (intAt (List.replicate j (-1)) i))
            unfold intAt; rw [List.getD_eq_getElem?_getD, List.getElem?_replicate, if_pos hi]; rfl
          replace HI1 := Lib.hid (HI1.out.on HBW.out)
          obtain ⟨w3, hw3⟩ : ∃ w3, w3 = wr := ⟨_, rfl⟩
          subst hw3
          have HB3 := Lib.hid (HB2'.out.trans (HBW.out.mono HB2'.out.size))
          clear hrow HROW HBW
          go_wp2_with fail
          refine (words_any _).mono ?_
          rintro e w4 ⟨A4, rfl, hs4, hb4⟩
          have HB4 := Lib.hid (HB3.out.trans (hb4.mono HB3.out.size))
          replace HI1 := Lib.hid (HI1.out.on hb4)
          replace HI2 := Lib.hid (HI2.out.on hb4)
          clear hb4
          have hs5 := hs4.new (.cells #[.int .i64 0, .slice (some ⟨w1.heap.size, 0, none⟩) (p + 1) (p + 1)] 51)
          have HBD := Lib.hid (BindsAt.new1 w4 0 (longT p) _ (p + 1) (p + 1) HI1.out (Nat.le_refl _) (by omega))
          have hb5 := below_new w4 (.cells #[.int .i64 0, .slice (some ⟨w1.heap.size, 0, none⟩) (p + 1) (p + 1)] 51)
          have HB5 := Lib.hid (HB4.out.trans (hb5.mono HB4.out.size))
          replace HI2 := Lib.hid (HI2.out.on hb5)
          clear hb5
          obtain ⟨f1, f2⟩ := long_facts hp hq
          have F1 := Lib.hid f1
          have F2 := Lib.hid f2
          clear f1 f2
          go_wp2_with fail
          refine (apply_any _ _ _ 7 7 1 1 j j wordsL [⟨0, longT p⟩] (List.replicate j (-1)) _ hs5 len7 (Nat.le_refl _) HBD.out (by omega) HI2.out (len_small (by omega))).mono ?_
          rintro e w6 ⟨v6, rfl, hv6, hb6⟩
          have HB6 := Lib.hid (HB5.out.trans (hb6.mono HB5.out.size))
          clear hb6
          clear hs4 hs5
          obtain ⟨P, hP⟩ : ∃ P, P = (p + 1) * j := ⟨_, rfl⟩
          have hP6 : P ≤ 600 := by rw [hP]; exact Nat.le_trans (Nat.mul_le_mul (show p + 1 ≤ 20 by omega) (show j ≤ 30 by omega)) (by decide)
          have hPI : ((p : Int) + 1) * (j : Int) = (P : Int) := by rw [hP]; simp
          rw [← hP] at F1 F2
          clear hP
          by_cases z4 : 48 < P
          · obtain ⟨k1, k2⟩ := F2.out z4
            rw [k1]
            rw [k2] at hv6
            obtain ⟨A7, c7, rfl, _, _⟩ := hv6.intsAt
            clear hv6 k1 k2 F1 F2
            go_wp2_with (go_at_call 17; refine (num_any _ _).mono ?_; rintro e w' ⟨rfl, rfl⟩)
            go_ret
            exact ⟨rfl, HB6.out⟩
          · obtain ⟨k1, k2⟩ := F1.out (by omega)
            rw [k1]
            obtain ⟨A7, c7, rfl, _, _⟩ := hv6.intsAt
            rw [k2]
            clear hv6 k1 k2 F1 F2
            go_wp2_with (go_at_call 17; refine (num_any _ _).mono ?_; rintro e w' ⟨rfl, rfl⟩)
            go_ret
            exact ⟨rfl, HB6.out⟩

end Go.Proofs.Ytjclcogjdodjpaa
