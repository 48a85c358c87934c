/-
  Contracts of quaerelaw0: SpoilInts, SpoilBinds, SameBinds, CopyBinds.
-/
import Derived.Test.YtlmpapdpmmkjnaaMemBinds
import Derived.Test.YtlmpapdpmmkjnaaRefBind
import Derived.Test.YtlmpapdpmmkjnaaHeld
namespace Go.Proofs.Ytlmpapdpmmkjnaa
open Go.RowKit Go.Deep
set_option linter.unusedSimpArgs false
set_option linter.unusedVariables false

theorem OwnI.value {w : World} {base : Nat} {v : Value} {xs : List Int} (h : OwnI w base v xs) : ∃ A cap, v = .slice A xs.length cap := by
  rcases h.shape with ⟨rfl, rfl⟩ | ⟨g, cap, rfl, _⟩ <;> exact ⟨_, _, rfl⟩
set_option maxHeartbeats 1000000 in
theorem spoilInts_any (v : Value) (base n : Nat) (w : World) (h : ∃ xs : List Int, xs.length = n ∧ OwnI w base v xs) (hn : n ≤ 17592186044416) :
    Calls Try.prog 28 #[v] w fun e w' => e = .returned (.tuple #[]) ∧ Spoilt base w w' := by
  have H0 := Lib.hid h
  obtain ⟨xs, hl, ho⟩ := h
  obtain ⟨A, cap, rfl⟩ := ho.value
  rw [hl] at H0 ⊢
  clear ho hl xs
  go_enter Try.func28, Try.ntmps28
  go_wp2
  go_loopw [2] (fun i wr => ∃ k : Nat, i = .int .i64 k ∧ k ≤ n ∧ Spoilt base w wr) (fun i _ => n - (intOf i).toNat)
  case atStart => exact ⟨0, rfl, by omega, Spoilt.refl _ _⟩
  case round =>
    obtain ⟨k, rfl, hk, hsp⟩ := hrel
    have HSP := Lib.hid hsp
    clear hsp
    by_cases hlt : k < n
    · obtain ⟨xs, hl, ho⟩ := HSP.out.ints _ _ _ H0.out
      rcases ho.shape with ⟨h1, rfl⟩ | ⟨g, cap', h1, hg, hlt', hcap⟩
      · simp at hl; omega
      · injection h1 with q1 q2 q3
        subst q1 q3
        have ho' : wr.ownsRow base 3 1 (.slice (some ⟨g, 0, none⟩) n cap) n (intCells xs) := by have := ho; unfold OwnI at this; rw [hl] at this; exact this
        have hc : wr.cell? ⟨g, k, none⟩ = some (.int .i64 (intAt xs k)) := by
          rw [own_get ho' k (by omega), intCells_get xs k (by omega)]
        have hf : wr.frozen? ⟨g, k, none⟩ = false := World.ownsRow.frozenAt ho' k
        obtain ⟨x, hx⟩ : ∃ x, x = intAt xs k := ⟨_, rfl⟩
        rw [← hx] at hc
        have HO := Lib.hid ho
        have hi0 : (0 : Int) ≤ (k : Int) := by omega
        have hi3 : (k : Int) < (n : Int) := by omega
        clear hx ho ho' q2
        go_wp2
        go_roundw
        case rel => exact ⟨k + 1, by go_num, by omega, HSP.out.trans (Spoilt.set HO.out hg _)⟩
        case measure => simp [intOf]; omega
    · obtain rfl : k = n := by omega
      go_wp2
      (first | go_end0 | refine bodyPost_ret (results_none rfl _ _ _) rfl ?_)
      exact ⟨rfl, HSP.out⟩

set_option maxHeartbeats 1000000 in
theorem spoilBinds_any (v : Value) (base : Nat) (bs : List Bd) (w : World) (h : OwnB w base v bs) (hn : bs.length ≤ 4398046511104) (hf : ∀ i, i < bs.length → (bdAt bs i).t.length ≤ 17592186044416) :
    Calls Try.prog 14 #[v] w fun e w' => e = .returned (.tuple #[]) ∧ Below base w w' := by
  have HF := Lib.hid hf
  obtain ⟨n, hl⟩ : ∃ n, bs.length = n := ⟨_, rfl⟩
  obtain ⟨vs, h1, h2, h3⟩ := h
  have HV := Lib.hid h1
  have HR := Lib.hid h2
  have HI := Lib.hid h3
  have HL := Lib.hid hl
  obtain ⟨A, cap, rfl⟩ : ∃ A cap, v = .slice A n cap := by
    rcases h2.2 with ⟨rfl, h0⟩ | ⟨g, cap, cur, hv, _⟩
    · exact ⟨none, 0, by rw [← hl, h0]⟩
    · exact ⟨_, cap, by rw [← hl]; exact hv⟩
  rw [hl] at hn
  clear h1 h2 h3 hf hl
  go_enter Try.func14, Try.ntmps14
  go_wp2
  go_loopw [2] (fun i wr => ∃ k : Nat, i = .int .i64 k ∧ k ≤ n ∧ Spoilt base w wr) (fun i _ => n - (intOf i).toNat)
  case atStart => exact ⟨0, rfl, by omega, Spoilt.refl _ _⟩
  case round =>
    obtain ⟨k, rfl, hk, hsp⟩ := hrel
    have HSP := Lib.hid hsp
    clear hsp
    by_cases hlt : k < n
    · have hkl : k < bs.length := by rw [HL.out]; exact hlt
      have hr := HSP.out.rows _ _ _ _ _ _ (by decide) HR.out
      have hi := HSP.out.ints base (valAt vs k) _ ⟨_, rfl, HI.out k hkl⟩
      have hfk := HF.out k hkl
      obtain ⟨u, hu⟩ : ∃ u, u = valAt vs k := ⟨_, rfl⟩
      have d1 := (bindCells_get bs vs HV.out k hkl).2
      rcases hr.2 with ⟨_, h0⟩ | ⟨g, cap', cur, h1, _⟩
      · omega
      · injection h1 with q1 q2 q3
        subst q1 q3
        rw [HL.out] at hr
        have hc : wr.cell? ⟨g, k * 2 + 1, none⟩ = some u := by
          rw [hr.cellAt (k * 2 + 1) (by omega), d1, hu]
        rw [← hu] at hi
        have HI2 := Lib.hid hi
        obtain ⟨xs, hxl, hxo⟩ := hi
        obtain ⟨A2, cap2, rfl⟩ := hxo.value
        have hi0 : (0 : Int) ≤ (k : Int) := by omega
        have hi3 : (k : Int) < (n : Int) := by omega
        clear hxo hxl hu d1 hr q2
        go_wp2_with fail
        refine (spoilInts_any _ base _ _ HI2.out hfk).mono ?_
        rintro e w2 ⟨rfl, hs2⟩
        have HS2 := Lib.hid (HSP.out.trans hs2)
        clear hs2
        go_wp2
        go_roundw
        case rel => exact ⟨k + 1, by go_num, by omega, HS2.out⟩
        case measure => simp [intOf]; omega
    · obtain rfl : k = n := by omega
      go_wp2
      (first | go_end0 | refine bodyPost_ret (results_none rfl _ _ _) rfl ?_)
      exact ⟨rfl, HSP.out.bel⟩

set_option maxHeartbeats 1000000 in
theorem sameInts_quiet (A B : Option Addr) (n c m d B1 B2 : Nat) (xs ys : List Int) (w : World) (hA : IntsAt w B1 A n xs) (hB : IntsAt w B2 B m ys) (hn : n ≤ maxLen) (hm : m ≤ maxLen) :
    Calls Try.prog 19 #[.slice A n c, .slice B m d] w fun e w' => e = .returned (.bool (sameI xs ys)) ∧ ∃ m, w' = w.drewN m := by
  unfold maxLen at hn hm
  have HX := Lib.hid hA.len
  have HY := Lib.hid hB.len
  by_cases hnm : n = m
  · subst hnm
    go_enter Try.func19, Try.ntmps19
    go_wp2
    go_loopw [5] (fun i wr => ∃ k q : Nat, k ≤ n ∧ i = .int .i64 k ∧ wr = w.drewN q ∧ ∀ i, i < k → intAt xs i = intAt ys i) (fun i _ => n - (intOf i).toNat)
    case atStart => exact ⟨0, 0, by omega, rfl, rfl, fun i hi => absurd hi (by omega)⟩
    case round =>
      obtain ⟨k, q, hk, rfl, rfl, hall⟩ := hrel
      have HALL := Lib.hid hall
      clear hall
      by_cases hlt : k < n
      · obtain ⟨b1, o1, rfl, _, h1⟩ := hA.at_ (by omega)
        obtain ⟨b2, o2, rfl, _, h2⟩ := hB.at_ (by omega)
        have c0 : w.cell? ⟨b1, o1 + k, none⟩ = some (.int .i64 (intAt xs k)) := h1 k hlt
        have d0 : w.cell? ⟨b2, o2 + k, none⟩ = some (.int .i64 (intAt ys k)) := h2 k hlt
        clear h1 h2
        have hi0 : (0 : Int) ≤ (k : Int) := by omega
        have hi2 : (k : Int) < (n : Int) := by omega
        by_cases he : intAt xs k = intAt ys k
        · have he' : (intAt xs k != intAt ys k) = false := by simp [he]
          have HE := Lib.hid he
          clear he
          go_wp2_with fail
          go_quiet (fail)
          go_wp2
          go_roundw
          case rel => exact ⟨k + 1, _, by omega, by go_num, rfl, fun i hi => if e : i = k then e ▸ HE.out else HALL.out i (by omega)⟩
          case measure => simp [intOf]; omega
        · have he' : (intAt xs k != intAt ys k) = true := by simp [he]
          have H := Lib.hid (sameI_not he)
          clear he
          go_wp2_with fail
          go_quiet (fail)
          go_wp2
          go_ret
          exact ⟨ret_b H.out.symm, _, World.drewN_drewN ..⟩
      · obtain rfl : k = n := by omega
        have H : Hid (sameI xs ys = true) := by
          show sameI xs ys = true
          unfold sameI
          exact decide_eq_true (list_int_ext (by rw [HX.out, HY.out]) (by rw [HX.out]; exact HALL.out))
        go_wp2
        go_ret
        exact ⟨ret_b H.out.symm, _, rfl⟩
  · have H := Lib.hid (sameI_len (xs := xs) (ys := ys) (by rw [HX.out, HY.out]; exact hnm))
    go_enter Try.func19, Try.ntmps19
    go_wp2
    go_ret
    exact ⟨ret_b H.out.symm, 0, rfl⟩

theorem sameInts_still (A B : Option Addr) (n c m d B1 B2 q : Nat) (xs ys : List Int) (w : World) (hA : IntsAt w B1 A n xs) (hB : IntsAt w B2 B m ys) (hn : n ≤ maxLen) (hm : m ≤ maxLen) {b : Bool} (hb : sameI xs ys = b) :
    Calls Try.prog 19 #[.slice A n c, .slice B m d] (w.drewN q) fun e w' => e = .returned (.bool b) ∧ ∃ m, w' = w.drewN m := by
  subst hb
  refine (sameInts_quiet A B n c m d B1 B2 xs ys _ (hA.drewN q) (hB.drewN q) hn hm).mono fun e w' ⟨h1, k, h2⟩ => ⟨h1, q + k, ?_⟩
  rw [h2]
  simp [World.drewN, Nat.add_assoc]
set_option maxHeartbeats 2000000 in
theorem sameBinds_true (A A1 : Option Addr) (n c c1 : Nat) (bs : List Bd) (w : World) (h : BindsAt w w.heap.size A n bs) (hn : n ≤ 4398046511104) (h1 : BindsAt w w.heap.size A1 n bs) :
    Calls Try.prog 12 #[.slice A n c, .slice A1 n c1] w fun e w' => e = .returned (.bool true) ∧ Below w.heap.size w w' := by
  have HA := Lib.hid h
  have HB := Lib.hid h1
  clear h h1
  go_enter Try.func12, Try.ntmps12
  go_wp2
  go_loopw [5] (fun i wr => ∃ k : Nat, i = .int .i64 k ∧ k ≤ n ∧ Below w.heap.size w wr) (fun i _ => n - (intOf i).toNat)
  case atStart => exact ⟨0, rfl, by omega, Below.refl _ _⟩
  case round =>
    obtain ⟨k, rfl, hk, hbw⟩ := hrel
    have HBW := Lib.hid hbw
    clear hbw
    by_cases hlt : k < n
    · obtain ⟨b1, o1, rfl, _, hc1⟩ := (HA.out.on HBW.out).at_ (by omega)
      obtain ⟨b2, o2, rfl, _, hc2⟩ := (HB.out.on HBW.out).at_ (by omega)
      obtain ⟨c0, A3, c3, d0, _, i3⟩ := hc1 k hlt
      obtain ⟨e0, A4, c4, f0, _, i4⟩ := hc2 k hlt
      have hfit := HA.out.fit k hlt
      obtain ⟨bd, hbd⟩ : ∃ bd, bd = bdAt bs k := ⟨_, rfl⟩
      rw [← hbd] at c0 d0 i3 e0 f0 i4 hfit
      have HI3 := Lib.hid i3
      have HI4 := Lib.hid i4
      have hi0 : (0 : Int) ≤ (k : Int) := by omega
      have hi3 : (k : Int) < (n : Int) := by omega
      have g1 : (bd.v != bd.v) = false := by simp
      clear hc1 hc2 i3 i4 hbd
      go_wp2_with fail
      go_quiet ((go_at_call 19; exact sameInts_still A3 A4 _ c3 _ c4 _ _ _ bd.t bd.t _ HI3.out HI4.out (by unfold maxLen; omega) (by unfold maxLen; omega) (sameI_self _)))
      go_wp2
      go_roundw
      case rel => exact ⟨k + 1, by go_num, by omega, HBW.out.trans (below_drewN _ _)⟩
      case measure => simp [intOf]; omega
    · obtain rfl : k = n := by omega
      go_wp2
      go_ret
      exact ⟨rfl, HBW.out⟩

end Go.Proofs.Ytlmpapdpmmkjnaa
