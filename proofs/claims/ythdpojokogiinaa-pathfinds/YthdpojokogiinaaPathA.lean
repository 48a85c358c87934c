/-
  Contracts: slices.Grow of nil, slices.Concat of rows; package path: isWay, isExpression, split, meets.
-/
import Derived.Test.YthdpojokogiinaaEquAll
import Derived.Test.YthdpojokogiinaaChange
import Derived.Test.YthdpojokogiinaaPlainPath
import Derived.Test.YthdpojokogiinaaOrderAll2
import Derived.Test.YthdpojokogiinaaMemClause
import Derived.Lib.AppendZeros
import Derived.BigQuiet
namespace Go.Proofs.Ythdpojokogiinaa
open Go.RowKit
set_option linter.unusedSimpArgs false
set_option linter.unusedVariables false
set_option maxRecDepth 100000

theorem grow_any (k : Nat) (hk : k ≤ 100000) (w : World) :
    Calls Try.prog 54 #[.slice none 0 0, .int .i64 (k : Int)] w (IntsRet [] w) := by
  by_cases h0 : k = 0
  · subst h0
    go_enter Try.func54, Try.ntmps54
    go_wp2
    go_ret
    exact ⟨_, rfl, OwnI.nil_, Below.refl _ _⟩
  · obtain ⟨i0, hi0, hz0, hz1, hz2⟩ := info_parts int_info
    have hr := Lib.run_append_nil_zeros (P := Try.prog) w 23 3 23 3 i0 (.int .i64 0) .i64 .i64 Try.underlying23 Try.underlying3 hi0 hz0 k (by omega) (by rw [hz1]; omega) (by omega) (by rw [hz2]; omega)
    have hC1 := grownCap_ge w k 0 3
    have hC2 := grownCap_le_maxLen w k 0 3 (by unfold maxLen; omega)
    obtain ⟨C, hC⟩ : ∃ C, C = grownCap w k 0 3 := ⟨_, rfl⟩
    rw [← hC] at hr hC1 hC2
    have hcs : (Builtin.zeroCells (Value.int .i64 0).cells k ++ Builtin.zeroCells (Value.int .i64 0).cells (C - k)).size = C := by
      rw [Array.size_append, size_zeroCells, size_zeroCells]
      show k * 1 + (C - k) * 1 = C
      omega
    obtain ⟨cs, hcse⟩ : ∃ cs, cs = Builtin.zeroCells (Value.int .i64 0).cells k ++ Builtin.zeroCells (Value.int .i64 0).cells (C - k) := ⟨_, rfl⟩
    rw [← hcse] at hr hcs
    have HR := Lib.hid hr
    have HO : Hid (OwnI (w.drew.alloc (.cells cs 3)) w.heap.size (.slice (some ⟨w.heap.size, 0, none⟩) 0 C) []) := by
      refine ⟨rfl, .inr ⟨w.heap.size, C, cs, rfl, Nat.le_refl _, heap_alloc_new w.drew _, Nat.zero_le _, hC2, by omega, rfl⟩⟩
    have HB : Hid (Below w.heap.size w (w.drew.alloc (.cells cs 3))) := (Below.refl _ _).drew.alloc (Nat.le_refl _) _
    have h1 : (0 : Int) ≤ (k : Int) := by omega
    have h2 : (0 : Int) < (k : Int) := by omega
    have h3 : (0 : Int) ≤ (C : Int) := by omega
    clear hr hC hcse hcs hC2 h0
    go_enter Try.func54, Try.ntmps54
    go_wp2_with (at_builtin
                 refine Lib.wpList_append_run _ rfl _ _ _ _ rfl _ _ rfl rfl _ _ HR.out ?_)
    go_ret
    exact ⟨_, rfl, HO.out, HB.out⟩

theorem flat_take {L : List (List Int)} {k : Nat} (h : k < L.length) : ((L.take (k + 1)).flatten).length = ((L.take k).flatten).length + (rowOf L k).length := by
  rw [rowOf_take h, List.length_append]
theorem flat_le (L : List (List Int)) (k : Nat) : ((L.take k).flatten).length ≤ L.flatten.length := by
  have : L.flatten = (L.take k).flatten ++ (L.drop k).flatten := by rw [← List.flatten_append, List.take_append_drop]
  rw [this, List.length_append]; omega
set_option maxHeartbeats 1000000 in
theorem concat_any (A : Option Addr) (n c B : Nat) (ts : List (List Int)) (w : World) (h : TupsAt w B A n ts) (hB : B ≤ w.heap.size) (hn : n ≤ 1000) (hf : ts.flatten.length ≤ 1000) :
    Calls Try.prog 40 #[.slice A n c] w (IntsRet ts.flatten w) := by
  have HS := Lib.hid h
  have HL := Lib.hid h.len
  have HF := Lib.hid hf
  clear h hf
  go_enter Try.func40, Try.ntmps40
  go_wp2
  go_loopw [3, 11] (fun q i wr => ∃ k : Nat, i = .int .i64 k ∧ q = .int .i64 (((ts.take k).flatten).length : Int) ∧ k ≤ n ∧ wr = w) (fun _ i _ => n - (intOf i).toNat)
  case atStart => exact ⟨0, rfl, rfl, by omega, rfl⟩
  case round =>
    obtain ⟨k, rfl, rfl, hk, rfl⟩ := hrel
    obtain ⟨M, hM⟩ : ∃ M, M = ((ts.take k).flatten).length := ⟨_, rfl⟩
    rw [← hM]
    have HM := Lib.hid hM
    clear hM
    by_cases hlt : k < n
    · obtain ⟨b, off, A1, c1, rfl, hb, hcell, hrow, hnil⟩ := HS.out.one hlt
      obtain ⟨m, hm⟩ : ∃ m, m = (rowOf ts k).length := ⟨_, rfl⟩
      rw [← hm] at hcell
      have HMM : Hid (((ts.take (k + 1)).flatten).length = M + m) := by show _ = M + m; rw [flat_take (by rw [HL.out]; exact hlt), HM.out, hm]
      have hle : M + m ≤ 1000 := by rw [← HMM.out]; exact Nat.le_trans (flat_le ts _) HF.out
      have hno : ¬ ((M : Int) + (m : Int) < 0) := by omega
      clear hm hrow hnil
      go_wp2
      go_roundw
      case rel => exact ⟨k + 1, by go_num, by rw [HMM.out]; go_num, by omega, trivial⟩
      case measure => simp [intOf]; omega
    · obtain rfl : n = k := by omega
      have HMF : Hid (M = ts.flatten.length) := by show M = _; rw [HM.out, List.take_of_length_le (by rw [HL.out]; omega)]
      go_wp2_with fail
      refine (grow_any M (by rw [HMF.out]; have := HF.out; omega) wr).mono ?_
      rintro e w1 ⟨v, rfl, hv, hb1⟩
      have HV := Lib.hid hv
      have HB1 := Lib.hid hb1
      have hsz := hb1.size
      clear hv hb1 hlt
      obtain ⟨wA, hwA⟩ : ∃ wA, wA = wr := ⟨_, rfl⟩
      subst hwA
      go_wp2
      go_loopw [6, 27] (fun q i wx => ∃ k : Nat, i = .int .i64 k ∧ k ≤ n ∧ OwnI wx wA.heap.size q ((ts.take k).flatten) ∧ Below wA.heap.size wA wx) (fun _ i _ => n - (intOf i).toNat)
      case atStart => exact ⟨0, rfl, by omega, HV.out, HB1.out⟩
      case round =>
        obtain ⟨k, rfl, hk, hown, hbw⟩ := hrel
        have HOWN := Lib.hid hown
        have HBW := Lib.hid hbw
        have hsz2 := hbw.size
        clear hown hbw
        by_cases hlt : k < n
        · obtain ⟨b, off, A1, c1, rfl, hb, hcell, hrow, hnil⟩ := HS.out.one hlt
          have HROW := Lib.hid (hrow.below (HBW.out.mono hB))
          have HNIL : Hid (A1 = none → (rowOf ts k).length = 0 ∧ c1 = 0) := fun e => by have := hnil e; have := hrow.cap; omega
          have hcell' := (HBW.out.cell (p := ⟨b, off + k, none⟩) (by show b < _; omega)).trans hcell
          have HRT := Lib.hid (rowOf_take (L := ts) (i := k) (by rw [HL.out]; exact hlt))
          have HLE : Hid (((ts.take k).flatten).length + (rowOf ts k).length ≤ 1000) := by
            show _ ≤ 1000
            rw [← flat_take (by rw [HL.out]; exact hlt)]
            exact Nat.le_trans (flat_le ts _) HF.out
          obtain ⟨m, hm⟩ : ∃ m, m = (rowOf ts k).length := ⟨_, rfl⟩
          rw [← hm] at hcell hcell' HROW HNIL HLE
          clear hrow hnil hm hcell
          go_wp2_with (at_builtin
                       refine app_ints rfl (.tmp 31) (.tmp 32) rfl wA.heap.size _ _ rfl HOWN.out A1 m c1 B _ rfl HNIL.out HROW.out.at_ (by have := HLE.out; omega) hsz2 ?_
                       intro v2 w2 hown2 hb2
                       have HO2 := Lib.hid (hown2.cast HRT.out.symm)
                       have HB2 := Lib.hid (HBW.out.trans hb2)
                       clear hown2 hb2)
          go_roundw
          case rel => exact ⟨k + 1, by go_num, by omega, HO2.out, HB2.out⟩
          case measure => simp [intOf]; omega
        · obtain rfl : n = k := by omega
          have HTT : Hid ((ts.take n).flatten = ts.flatten) := by show _ = _; rw [List.take_of_length_le (by rw [HL.out]; omega)]
          go_wp2
          go_ret
          exact ⟨_, rfl, HOWN.out.cast HTT.out, HBW.out⟩

theorem isExpr_any (A A' : Option Addr) (n c m c' : Nat) (ss : List Sym) (r : List Int) (w : World) (h : SymsAt w w.heap.size A n ss) (hn : n ≤ maxLen) (hnc : n ≤ c) (hr : IntsAt w w.heap.size A' m r) (hm : m ≤ maxLen) (hmc : m ≤ c') :
    Calls Try.prog 24 #[.slice A n c, .slice A' m c'] w fun e w' => e = .returned (.bool (exprB ss r)) ∧ Below w.heap.size w w' := by
  have HS := Lib.hid h
  have HR := Lib.hid hr
  have H1 := Lib.hid (isAtom_any A A' n c m c' ss r w h hn hnc hr hm hmc)
  unfold exprB
  clear h hr
  cases ha : atomB ss r
  · go_enter Try.func24, Try.ntmps24
    go_wp2_with fail
    refine H1.out.mono ?_
    rintro e w1 ⟨rfl, hb1⟩
    rw [ha]
    have HB1 := Lib.hid hb1
    clear hb1 ha
    go_wp2_with fail
    refine (isTerm_any A A' n c m c' ss r w1 (HS.out.on HB1.out) hn hnc (HR.out.on HB1.out) hm).mono ?_
    rintro e w2 ⟨rfl, hb2⟩
    have HB2 := Lib.hid (HB1.out.trans (hb2.mono HB1.out.size))
    clear hb2
    go_wp2
    go_ret
    exact ⟨rfl, HB2.out⟩
  · go_enter Try.func24, Try.ntmps24
    go_wp2_with fail
    refine H1.out.mono ?_
    rintro e w1 ⟨rfl, hb1⟩
    rw [ha]
    have HB1 := Lib.hid hb1
    clear hb1 ha
    go_wp2
    go_ret
    exact ⟨rfl, HB1.out⟩
def wayB (k : Int) : Bool := decide (k = 0) || decide (k = 1) || decide (k = 2)
theorem isWay_any (k : Int) (w : World) : Calls Try.prog 31 #[.int .i64 k] w fun e w' => e = .returned (.bool (wayB k)) ∧ w = w' := by
  by_cases h0 : k = 0
  · subst h0
    go_enter Try.func31, Try.ntmps31
    go_wp2
    go_ret
    exact ⟨rfl, rfl⟩
  by_cases h1 : k = 1
  · subst h1
    go_enter Try.func31, Try.ntmps31
    go_wp2
    go_ret
    exact ⟨rfl, rfl⟩
  by_cases h2 : k = 2
  · subst h2
    go_enter Try.func31, Try.ntmps31
    go_wp2
    go_ret
    exact ⟨rfl, rfl⟩
  have HW : Hid (wayB k = false) := by show wayB k = false; unfold wayB; simp [h0, h1, h2]
  have e0 : (k == 0) = false := by simp [h0]
  have e1 : (k == 1) = false := by simp [h1]
  have e2 : (k == 2) = false := by simp [h2]
  clear h0 h1 h2
  go_enter Try.func31, Try.ntmps31
  go_wp2
  go_ret
  exact ⟨ret_b HW.out.symm, rfl⟩
/-- An expression's predicate (-1: none) and its row. -/
def restP (ss : List Sym) (t : List Int) : Int × List Int := if atomB ss t then (intAt t 0, t.drop 1) else (-1, t)
theorem rest_row {ss : List Sym} {t : List Int} (h : exprB ss t = true) : rowB ss (restP ss t).2 = true := by
  unfold restP
  cases ha : atomB ss t
  · unfold exprB at h
    rw [ha, Bool.false_or] at h
    exact (one_parts h).1
  · obtain ⟨c, r, rfl, _, _, _, h1, _⟩ := atom_parts ha
    exact h1
/-- What split hands back: the predicate, the row in memory. -/
def SplitPost (ss : List Sym) (t : List Int) (B : Nat) (w : World) (e : Ending) (w' : World) : Prop :=
  ∃ A m c, e = .returned (.tuple #[.int .i64 (restP ss t).1, .slice A m c]) ∧ RowAt w' B A m c (restP ss t).2 ∧ Below w.heap.size w w'
theorem expr_tail {w : World} {B c : Nat} {A : Option Addr} {p : Int} {s : List Int} (h : IntsAt w B A (s.length + 1) (p :: s)) (hc : s.length + 1 ≤ c) :
    ∃ b off, A = some ⟨b, off, none⟩ ∧ b < B ∧ w.cell? ⟨b, off, none⟩ = some (.int .i64 p) ∧ IntsAt w B (if c = 1 then some ⟨b, off, none⟩ else some ⟨b, off + 1, none⟩) s.length s := by
  obtain ⟨b, off, rfl, hb, hcl⟩ := h.at_ (by simp)
  have h0 := hcl 0 (by simp)
  refine ⟨b, off, rfl, hb, h0, ?_⟩
  have hd := h.drop (k := 1) (by simp)
  rw [Nat.add_sub_cancel] at hd
  rw [List.drop_succ_cons, List.drop_zero] at hd
  by_cases q : c = 1
  · have hl : s.length = 0 := by omega
    have e : s = [] := List.length_eq_zero_iff.1 hl
    subst e
    exact IntsAt.nil_
  · rw [if_neg q]; exact hd
theorem split_any (A A' : Option Addr) (n c m c' B : Nat) (ss : List Sym) (t : List Int) (w : World) (h : SymsAt w w.heap.size A n ss) (hr : IntsAt w B A' m t) (hm : m ≤ c') (hx : exprB ss t = true) :
    Calls Try.prog 32 #[.slice A n c, .slice A' m c'] w (SplitPost ss t B w) := by
  have hx0 := expr_len hx
  have HXX := Lib.hid hx
  have HL := Lib.hid hr.len
  have hm1 : 1 ≤ m := by rw [← hr.len]; omega
  have hc1 : 1 ≤ c' := by omega
  have z1 : 0 < m := hm1
  have z2 : (0 : Int) < (m : Int) := by omega
  have z3 : (1 : Int) ≤ (m : Int) := by omega
  have z4 : (m : Int) ≤ (c' : Int) := by omega
  cases ha : atomB ss t
  · have HREST : Hid (restP ss t = (-1, t)) := by show restP ss t = _; unfold restP; rw [ha]; rfl
    have hone : oneB ss t = true := by unfold exprB at hx; rw [ha, Bool.false_or] at hx; exact hx
    have HROW : Hid (RowAt w B A' m c' t) := ⟨hr, hm, by have := (one_parts hone).2.2.2; rw [hr.len] at this; exact this⟩
    obtain ⟨b, off, rfl, hb, hcl⟩ := hr.at_ (by omega)
    have h0 : w.cell? ⟨b, off, none⟩ = some (.int .i64 (intAt t 0)) := by have := hcl 0 (by omega); rw [Nat.add_zero] at this; exact this
    rcases expr_code hx (i := 0) (by omega) with hneg | ⟨hlt, _, _⟩
    · have g0 : decide (0 ≤ intAt t 0) = false := by simp; omega
      have g1 : ¬ 0 ≤ intAt t 0 := by omega
      obtain ⟨x, hxe⟩ : ∃ x, x = intAt t 0 := ⟨_, rfl⟩
      rw [← hxe] at h0 g0 g1
      clear hcl hneg hone ha hx hr h hx0 hxe
      go_enter Try.func32, Try.ntmps32
      go_wp2
      go_ret2
      exact ⟨_, _, _, by rw [HREST.out]; rfl, by rw [HREST.out]; exact HROW.out, Below.refl _ _⟩
    · by_cases hneg : intAt t 0 < 0
      · have g0 : decide (0 ≤ intAt t 0) = false := by simp; omega
        have g1 : ¬ 0 ≤ intAt t 0 := by omega
        obtain ⟨x, hxe⟩ : ∃ x, x = intAt t 0 := ⟨_, rfl⟩
        rw [← hxe] at h0 g0 g1
        clear hcl hneg hone ha hx hr h hx0 hxe hlt
        go_enter Try.func32, Try.ntmps32
        go_wp2
        go_ret2
        exact ⟨_, _, _, by rw [HREST.out]; rfl, by rw [HREST.out]; exact HROW.out, Below.refl _ _⟩
      · obtain ⟨q, hq⟩ : ∃ q : Nat, intAt t 0 = (q : Int) := ⟨(intAt t 0).toNat, by omega⟩
        rw [hq] at h0 hlt
        rw [Int.toNat_natCast, h.len] at hlt
        obtain ⟨b2, off2, rfl, hb2, hc2⟩ := h.at_ (by omega)
        obtain ⟨_, k1, _⟩ := hc2 q hlt
        have hkd : ((symAt ss q).kind == 0) = false := by
          have hr1 := (one_parts hone).1
          obtain ⟨_, _, ht⟩ := row_parts hr1
          obtain ⟨ns, hn⟩ := tl_drop_some ht 0
          rw [drop_get hx0.1 (intAt_get hx0.1)] at hn
          obtain ⟨qs, a, _, h2, _⟩ := tl_cons_inv hn
          have := (ar_sym (expr_may hx) (by omega) h2).2.1
          rw [hq, Int.toNat_natCast] at this
          simp [this]
        have hkn : ¬ (symAt ss q).kind = 0 := by intro e; rw [e] at hkd; exact absurd hkd (by decide)
        have y0 : (0 : Int) ≤ (q : Int) := by omega
        have y1 : (q : Int) < (n : Int) := by omega
        obtain ⟨kd, hkde⟩ : ∃ kd, kd = (symAt ss q).kind := ⟨_, rfl⟩
        rw [← hkde] at k1 hkd hkn
        clear hcl hneg hone ha hx hr h hx0 hc2 hq hkde
        go_enter Try.func32, Try.ntmps32
        go_wp2
        go_ret2
        exact ⟨_, _, _, by rw [HREST.out]; rfl, by rw [HREST.out]; exact HROW.out, Below.refl _ _⟩
  · obtain ⟨p, s, rfl, hp, hpl, hk, hs, _⟩ := atom_parts ha
    have hml : m = s.length + 1 := by rw [← hr.len, List.length_cons]
    have HREST : Hid (restP ss (p :: s) = (p, s)) := by show restP ss (p :: s) = _; unfold restP; rw [ha]; rfl
    rw [hml] at hr
    have hsc : s.length + 1 ≤ c' := by rw [← hml]; exact hm
    obtain ⟨b, off, rfl, hb, h0, hd⟩ := expr_tail hr hsc
    have hs48 := (row_parts hs).2.1
    obtain ⟨q, hq⟩ : ∃ q : Nat, p = (q : Int) := ⟨p.toNat, by omega⟩
    subst hq
    rw [Int.toNat_natCast] at hk hpl
    rw [h.len] at hpl
    obtain ⟨b2, off2, rfl, hb2, hc2⟩ := h.at_ (by omega)
    obtain ⟨_, k1, _⟩ := hc2 q hpl
    rw [hk] at k1
    have y0 : (0 : Int) ≤ (q : Int) := by omega
    have y1 : (q : Int) < (n : Int) := by omega
    have HROW : Hid (RowAt w B (if c' = 1 then some ⟨b, off, none⟩ else some ⟨b, off + 1, none⟩) (m - 1) (c' - 1) s) := by
      refine ⟨?_, by omega, by omega⟩
      rw [hml, Nat.add_sub_cancel]; exact hd
    clear hc2 hk hr h hd ha hx hml hx0 hs hs48
    by_cases hc : c' = 1
    · subst hc
      rw [if_pos rfl] at HROW
      have hm1' : m = 1 := by omega
      subst hm1'
      go_enter Try.func32, Try.ntmps32
      go_wp2_with fail
      go_quiet (fail)
      go_wp2
      go_ret2
      exact ⟨_, _, _, by rw [HREST.out]; rfl, by rw [HREST.out]; exact HROW.out.below (below_drewN _ _), below_drewN _ _⟩
    · rw [if_neg hc] at HROW
      go_enter Try.func32, Try.ntmps32
      go_wp2_with fail
      go_quiet (fail)
      go_wp2
      go_ret2
      exact ⟨_, _, _, by rw [HREST.out]; rfl, by rw [HREST.out]; exact HROW.out.below (below_drewN _ _), below_drewN _ _⟩

/-- Does a row stand to another one as a way asks for? -/
def Meets (ss : List Sym) (way : Int) (x y : List Int) : Prop :=
  if way = 0 then ∃ θ, Sub 48 ss θ ∧ ap θ x = ap θ (farR 24 y)
  else if way = 1 then (mt ss x noT 0 y).isSome = true
  else (mt ss y noT 0 x).isSome = true
theorem meets_zero {ss : List Sym} {x y : List Int} : Meets ss 0 x y ↔ ∃ θ, Sub 48 ss θ ∧ ap θ x = ap θ (farR 24 y) := by unfold Meets; rw [if_pos rfl]
theorem meets_one {ss : List Sym} {x y : List Int} : Meets ss 1 x y ↔ (mt ss x noT 0 y).isSome = true := by unfold Meets; rw [if_neg (by omega), if_pos rfl]
theorem meets_two {ss : List Sym} {x y : List Int} : Meets ss 2 x y ↔ (mt ss y noT 0 x).isSome = true := by unfold Meets; rw [if_neg (by omega), if_neg (by omega)]
def MeetPost (ss : List Sym) (way : Int) (x y : List Int) (w : World) (e : Ending) (w' : World) : Prop :=
  (∃ b, e = .returned (.bool b) ∧ (b = true ↔ Meets ss way x y)) ∧ Below w.heap.size w w'
theorem meets_any (A A1 A2 : Option Addr) (n c n1 c1 n2 c2 : Nat) (way : Int) (ss : List Sym) (x y : List Int) (w : World) (hway : wayB way = true) (hs : SymsAt w w.heap.size A n ss) (hn : n ≤ maxLen) (hx : RowAt w w.heap.size A1 n1 c1 x) (hy : RowAt w w.heap.size A2 n2 c2 y) (hrx : rowB ss x = true) (hry : rowB ss y = true) :
    Calls Try.prog 33 #[.slice A n c, .slice A1 n1 c1, .slice A2 n2 c2, .int .i64 way] w (MeetPost ss way x y w) := by
  by_cases h0 : way = 0
  · subst h0
    have H := Lib.hid (apart_any A A1 A2 n c n1 c1 n2 c2 ss x y w hs hn hx.at_ hy.at_ hrx hry)
    clear hs hx hy
    go_enter Try.func33, Try.ntmps33
    go_wp2_with fail
    refine H.out.mono ?_
    rintro e w1 ⟨h1, hb1⟩
    have HB1 := Lib.hid hb1
    rcases h1 with ⟨rfl, hyes⟩ | ⟨rfl, hno⟩
    · have HM : Hid (Meets ss 0 x y) := meets_zero.2 hyes
      clear hyes hb1 H
      go_wp2
      go_ret
      exact ⟨⟨true, rfl, fun _ => HM.out, fun _ => rfl⟩, HB1.out⟩
    · have HM : Hid (false = true ↔ Meets ss 0 x y) := ⟨fun q => (by cases q), fun q => by obtain ⟨θ, h2, h3⟩ := meets_zero.1 q; exact absurd h3 (hno θ h2)⟩
      clear hno hb1 H
      go_wp2
      go_ret
      exact ⟨⟨_, rfl, HM.out⟩, HB1.out⟩
  by_cases h1 : way = 1
  · subst h1
    have H := Lib.hid (compare_any A A2 A1 n c n2 c2 n1 c1 w.heap.size ss y x w hs hn hy.at_ hx.at_ (Nat.le_refl _) hx.cap hry hrx)
    clear hs hx hy
    go_enter Try.func33, Try.ntmps33
    go_wp2_with fail
    refine H.out.mono ?_
    rintro e w1 ⟨cs, T, rfl, _, _, hb1⟩
    have HB1 := Lib.hid hb1
    have HM : Hid ((mt ss x noT 0 y).isSome = true ↔ Meets ss 1 x y) := meets_one.symm
    obtain ⟨b, hbe⟩ : ∃ b, b = (mt ss x noT 0 y).isSome := ⟨_, rfl⟩
    rw [← hbe] at HM ⊢
    clear hb1 H hbe
    go_wp2
    go_ret
    exact ⟨⟨_, rfl, HM.out⟩, HB1.out⟩
  · have h2 : way = 2 := by unfold wayB at hway; simp at hway; omega
    subst h2
    have H := Lib.hid (compare_any A A1 A2 n c n1 c1 n2 c2 w.heap.size ss x y w hs hn hx.at_ hy.at_ (Nat.le_refl _) hy.cap hrx hry)
    clear hs hx hy
    go_enter Try.func33, Try.ntmps33
    go_wp2_with fail
    refine H.out.mono ?_
    rintro e w1 ⟨cs, T, rfl, _, _, hb1⟩
    have HB1 := Lib.hid hb1
    have HM : Hid ((mt ss y noT 0 x).isSome = true ↔ Meets ss 2 x y) := meets_two.symm
    obtain ⟨b, hbe⟩ : ∃ b, b = (mt ss y noT 0 x).isSome := ⟨_, rfl⟩
    rw [← hbe] at HM ⊢
    clear hb1 H hbe
    go_wp2
    go_ret
    exact ⟨⟨_, rfl, HM.out⟩, HB1.out⟩

end Go.Proofs.Ythdpojokogiinaa
