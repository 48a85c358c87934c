/-
  Contract: term.Vars.
-/
import Derived.Test.YtmjopiobahaggaaTermMore
namespace Go.Proofs.Ytmjopiobahaggaa
open Go.RowKit
set_option linter.unusedSimpArgs false
set_option linter.unusedVariables false

/-- Does a variable stand in a row? -/
def hasV (r : List Int) (v : Nat) : Bool := r.any fun c => c == -1 - (v : Int)
/-- The variables below k of a row. -/
def varsN (r : List Int) (k : Nat) : List Int := ((List.range k).filter (hasV r)).map Int.ofNat
def varsOf (ss : List Sym) (r : List Int) : List Int := if rowB ss r then varsN r 24 else []
def boolsC (f : Nat → Bool) : Array Value := ((List.range 24).map fun i => Value.bool (f i)).toArray
theorem boolsC_size (f : Nat → Bool) : (boolsC f).size = 24 := by simp [boolsC]
theorem boolsC_at (f : Nat → Bool) (i : Nat) (h : i < 24) : (boolsC f)[i]? = some (.bool (f i)) := by simp [boolsC, h]
theorem boolsC_set (f : Nat → Bool) (k : Nat) (v : Bool) (h : k < 24) : (boolsC f).setIfInBounds k (.bool v) = boolsC (fun j => if j = k then v else f j) := by
  apply Array.ext_getElem?
  intro i
  rw [Array.getElem?_setIfInBounds]
  by_cases hi : i < 24
  · rw [boolsC_at (fun j => if j = k then v else f j) i hi]
    by_cases e : k = i
    · subst e; rw [if_pos rfl, if_pos (by rw [boolsC_size]; exact hi), if_pos rfl]
    · have e' : ¬ i = k := fun x => e x.symm
      rw [if_neg e, boolsC_at f i hi, if_neg e']
  · rw [if_neg (by omega), Array.getElem?_eq_none (by rw [boolsC_size]; omega), Array.getElem?_eq_none (by rw [boolsC_size]; omega)]
theorem boolsC_congr {f g : Nat → Bool} (h : ∀ i, i < 24 → f i = g i) : boolsC f = boolsC g := by
  apply Array.ext_getElem?
  intro i
  by_cases hi : i < 24
  · rw [boolsC_at _ i hi, boolsC_at _ i hi, h i hi]
  · rw [Array.getElem?_eq_none (by rw [boolsC_size]; omega), Array.getElem?_eq_none (by rw [boolsC_size]; omega)]
theorem hasV_take (r : List Int) (k v : Nat) (h : k < r.length) : hasV (r.take (k + 1)) v = (hasV (r.take k) v || (intAt r k == -1 - (v : Int))) := by
  unfold hasV; rw [List.take_add_one, intAt_get h, List.any_append]; simp
theorem seen_var {r : List Int} {k q : Nat} (h : k < r.length) (hq : intAt r k = -1 - (q : Int)) (hq24 : q < 24) : (boolsC (hasV (r.take k))).setIfInBounds q (.bool true) = boolsC (hasV (r.take (k + 1))) := by
  rw [boolsC_set _ q true hq24]
  apply boolsC_congr
  intro i hi
  rw [hasV_take r k i h, hq]
  by_cases e : i = q
  · subst e; simp
  · rw [if_neg e]
    have : ((-1 - (q : Int)) == (-1 - (i : Int))) = false := by simp; omega
    rw [this, Bool.or_false]
theorem seen_sym {r : List Int} {k : Nat} (h : k < r.length) (hx : 0 ≤ intAt r k) : boolsC (hasV (r.take k)) = boolsC (hasV (r.take (k + 1))) := by
  apply boolsC_congr
  intro i hi
  rw [hasV_take r k i h]
  have : (intAt r k == (-1 - (i : Int))) = false := by simp; omega
  rw [this, Bool.or_false]
theorem varsN_succ (r : List Int) (k : Nat) : varsN r (k + 1) = if hasV r k then varsN r k ++ [(k : Int)] else varsN r k := by
  unfold varsN
  rw [List.range_succ, List.filter_append]
  cases h : hasV r k <;> simp [List.filter_cons, h]
theorem varsN_length (r : List Int) (k : Nat) : (varsN r k).length ≤ k := by
  unfold varsN; rw [List.length_map]; exact Nat.le_trans (List.length_filter_le _ _) (by simp)

theorem run_index_bool (f : Nat → Bool) (j : Nat) (hj : j < 24) (w : World) : (Instr.index 53 (.agg (boolsC f)) (.int .i64 (j : Int))).run Try.prog w = .ok (.bool (f j)) w := by
  have h := boolsC_at f j hj
  simp [Instr.index, asIntOf, part, go_sem, h]
  intro h'; omega
/-- The world where k codes of a row have been looked at. -/
structure SeenW (w0 : World) (g : Nat) (r : List Int) (k : Nat) (wr : World) : Prop where
  bel : Below g w0 wr
  sh : wr.heap[g]? = some (.cells (boolsC (hasV (r.take k))) 53 (0, 0))
theorem SeenW.start (w : World) (r : List Int) {o : Obj} : SeenW (w.alloc o) (w.heap.size + 1) r 0 ((w.alloc o).alloc (.cells (boolsC fun _ => false) 53)) := by
  have := below_new (w.alloc o) (.cells (boolsC fun _ => false) 53)
  refine ⟨by simpa using this, ?_⟩
  rw [heap_alloc2_new]; rfl
section
variable {w0 wr : World} {g k q : Nat} {r : List Int}
theorem SeenW.cell (h : SeenW w0 g r k wr) (j : Nat) (hj : j < 24) : wr.cell? ⟨g, j, none⟩ = some (.bool (hasV (r.take k) j)) := by rw [cell_of_row _ _ _ _ _ _ h.sh, boolsC_at _ j hj]
theorem SeenW.frozen (h : SeenW w0 g r k wr) (j : Nat) : wr.frozen? ⟨g, j, none⟩ = false := frozen_of_row _ _ _ _ _ h.sh
theorem SeenW.lt (h : SeenW w0 g r k wr) : g < wr.heap.size := (Array.getElem?_eq_some_iff.1 h.sh).1
theorem SeenW.var (h : SeenW w0 g r k wr) (hk : k < r.length) (hq : intAt r k = -1 - (q : Int)) (hq24 : q < 24) : SeenW w0 g r (k + 1) (wr.setCell ⟨g, q, none⟩ (.bool true)) := by
  refine ⟨h.bel.setCell (Nat.le_refl _) _, ?_⟩
  have := heap_setCell_same _ _ q _ _ (.bool true) h.sh
  rw [seen_var hk hq hq24] at this; exact this
theorem SeenW.sym (h : SeenW w0 g r k wr) (hk : k < r.length) (hx : 0 ≤ intAt r k) : SeenW w0 g r (k + 1) wr := ⟨h.bel, by rw [← seen_sym hk hx]; exact h.sh⟩
end

set_option maxHeartbeats 2000000 in
theorem vars_any (A A' : Option Addr) (n c m c' : Nat) (ss : List Sym) (r : List Int) (w : World) (h : SymsAt w w.heap.size A n ss) (hn : n ≤ maxLen) (hnc : n ≤ c) (hr : IntsAt w w.heap.size A' m r) (hm : m ≤ maxLen) :
    Calls Try.prog 20 #[.slice A n c, .slice A' m c'] w (IntsPost (varsOf ss r) (rowE ss r) w) := by
  obtain ⟨hz, hzs⟩ := zero_of_info shape_info
  have HL := Lib.hid hr.len
  have hm' := hm
  unfold maxLen at hm
  cases hb : rowB ss r
  · have H1 : Hid (varsOf ss r = []) := by show varsOf ss r = []; unfold varsOf; rw [hb]; rfl
    have H2 : Hid (rowE ss r = 200) := by show rowE ss r = 200; unfold rowE; rw [hb]; rfl
    go_enter Try.func20, Try.ntmps20
    go_wp2_with fail
    refine (measure_any A A' n c m c' ss r _ h hn hnc hr hm').mono ?_
    rintro e w1 ⟨rfl, hb1⟩
    rw [hb]
    have hsc := run_storeM ss r w1
    have hsz := measC_size ss r
    go_wp2
    go_ret2
    exact ⟨_, ret_vi H2.out.symm, OwnI.nil_.cast H1.out.symm, hb1.trans ((below_new w1 _).mono hb1.size)⟩
  · have H1 : Hid (varsOf ss r = varsN r 24) := by show varsOf ss r = _; unfold varsOf; rw [hb]; rfl
    have H2 : Hid (rowE ss r = 0) := by show rowE ss r = 0; unfold rowE; rw [hb]; rfl
    have HB := Lib.hid hb
    have h48 : m ≤ 48 := by have := (row_parts hb).2.1; rw [HL.out] at this; exact this
    go_enter Try.func20, Try.ntmps20
    go_wp2_with fail
    refine (measure_any A A' n c m c' ss r _ h hn hnc hr hm').mono ?_
    rintro e w1 ⟨rfl, hb1⟩
    rw [hb]
    clear hb
    have hsc := run_storeM ss r w1
    have hsz := measC_size ss r
    have hbe : Below w.heap.size w (w1.alloc (.cells (measC ss r) 47)) := hb1.trans ((below_new w1 _).mono hb1.size)
    go_wp2_with fail
    clear hsc hsz
    go_loopw [24] (fun i wr => ∃ k : Nat, i = .int .i64 k ∧ k ≤ m ∧ SeenW (w1.alloc (.cells (measC ss r) 47)) (w1.heap.size + 1) r k wr) (fun i _ => m - (intOf i).toNat)
    case atStart => exact ⟨0, rfl, by omega, SeenW.start _ r⟩
    case round =>
      obtain ⟨k, rfl, hk, hsw⟩ := hrel
      have HSW := Lib.hid hsw
      have hbw := hbe.trans (hsw.bel.mono (by have := hb1.size; omega))
      have hzz := hsw.lt
      by_cases hlt : k < m
      · obtain ⟨b', off', rfl, hb', hc'⟩ := (hr.below hbw).at_ (by omega)
        have hcx : wr.cell? ⟨b', off' + k, none⟩ = some (.int .i64 (intAt r k)) := hc' k hlt
        have hlr : k < r.length := by rw [HL.out]; exact hlt
        have HLR := Lib.hid hlr
        obtain ⟨x1, x2, _⟩ := row_code HB.out hlr
        clear hlr x2 hc'
        by_cases hx : intAt r k < 0
        · have hq24 : (-1 - intAt r k).toNat < 24 := by omega
          have hcb := hsw.cell _ hq24
          have hfb := hsw.frozen (-1 - intAt r k).toNat
          have h1 : 0 ≤ -1 - intAt r k := by omega
          have h2 : -1 - intAt r k < 24 := by omega
          have HQ : Hid (intAt r k = -1 - (((-1 - intAt r k).toNat : Nat) : Int)) := by show intAt r k = _; omega
          clear hsw hbw
          go_wp2
          go_roundw
          case rel => exact ⟨k + 1, by go_num, by omega, HSW.out.var HLR.out HQ.out hq24⟩
          case measure => simp [intOf]; omega
        · clear hsw hbw
          go_wp2
          go_roundw
          case rel => exact ⟨k + 1, by go_num, by omega, HSW.out.sym HLR.out (by omega)⟩
          case measure => simp [intOf]; omega
      · obtain rfl : k = m := by omega
        obtain ⟨wA, hwA⟩ : ∃ wA, wA = wr := ⟨_, rfl⟩
        subst hwA
        have HSH : Hid (wA.heap[w1.heap.size + 1]? = some (.cells (boolsC (hasV r)) 53 (0, 0))) := by
          show _ = _
          have := hsw.sh
          rw [List.take_of_length_le (by rw [HL.out]; omega)] at this
          exact this
        have HBW := Lib.hid hbw
        clear hsw hbw
        go_wp2_with (with_reducible refine wpList_load_row rfl 53 (.tmp 8) rfl (w1.heap.size + 1) rfl 53 (boolsC (hasV r)) (0, 0) _ HSH.out Try.underlying53 rfl (by rw [boolsC_size]; kernel_rfl) ?_)
        go_loopw [11, 35] (fun q i wx => ∃ j : Nat, i = .int .i64 j ∧ j ≤ 24 ∧ OwnI wx wA.heap.size q (varsN r j) ∧ Below wA.heap.size wA wx) (fun _ i _ => 24 - (intOf i).toNat)
        case atStart => exact ⟨0, rfl, by omega, OwnI.nil_, Below.refl _ _⟩
        case round =>
          obtain ⟨j, rfl, hj, hown, hbx⟩ := hrel
          have HOWN := Lib.hid hown
          have HBX := Lib.hid hbx
          have hsx := hbx.size
          have hvl := varsN_length r j
          clear hown hbx
          by_cases hjt : j < 24
          · have HS := Lib.hid (varsN_succ r j)
            have hidx := run_index_bool (hasV r) j hjt
            cases hv : hasV r j
            · rw [hv] at hidx
              have HV := Lib.hid hv
              clear hv
              go_wp2
              go_roundw
              case rel => exact ⟨j + 1, by go_num, by omega, HOWN.out.cast (by rw [HS.out, HV.out]; rfl), HBX.out⟩
              case measure => simp [intOf]; omega
            · rw [hv] at hidx
              have HV := Lib.hid hv
              clear hv
              go_wp2_with (at_builtin
                           refine app_int1 rfl (.tmp 40) (.tmp 42) rfl wA.heap.size _ (varsN r j) (j : Int) rfl HOWN.out rfl (by omega) hsx ?_
                           intro v2 w2 hown2 hb2
                           have HOWN2 := Lib.hid hown2
                           have HB2 := Lib.hid hb2
                           clear hown2 hb2)
              go_roundw
              case rel => exact ⟨j + 1, by go_num, by omega, HOWN2.out.cast (by rw [HS.out, HV.out]; rfl), HBX.out.trans HB2.out⟩
              case measure => simp [intOf]; omega
          · obtain rfl : j = 24 := by omega
            go_wp2
            go_ret2
            exact ⟨_, ret_vi H2.out.symm, (HOWN.out.cast H1.out.symm).lower HBW.out.size, HBW.out.trans (HBX.out.mono HBW.out.size)⟩

end Go.Proofs.Ytmjopiobahaggaa
