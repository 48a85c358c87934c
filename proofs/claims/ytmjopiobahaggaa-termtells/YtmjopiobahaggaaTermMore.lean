/-
  Contracts: term.Starts, term.Weight, term.Deep.
-/
import Derived.Test.YtmjopiobahaggaaTermRow
import Derived.Test.YtmjopiobahaggaaOwn
namespace Go.Proofs.Ytmjopiobahaggaa
open Go.RowKit
set_option linter.unusedSimpArgs false
set_option linter.unusedVariables false

/-- Where the first p terms of a row begin. -/
def stN (ss : List Sym) (r : List Int) (p : Nat) : List Int := (List.range p).map fun q => (sumL ((tlD ss r).take q) : Int)
def startsOf (ss : List Sym) (r : List Int) : List Int := if rowB ss r then stN ss r (tlD ss r).length else []
theorem stN_zero (ss : List Sym) (r : List Int) : stN ss r 0 = [] := rfl
theorem stN_succ (ss : List Sym) (r : List Int) (p : Nat) : stN ss r (p + 1) = stN ss r p ++ [(sumL ((tlD ss r).take p) : Int)] := by
  unfold stN; rw [List.range_succ, List.map_append]; rfl
theorem stN_length (ss : List Sym) (r : List Int) (p : Nat) : (stN ss r p).length = p := by unfold stN; simp
/-- The weight of a code, of some codes. -/
def wtOf (ss : List Sym) (c : Int) : Int := if c < 0 then 1 else (symAt ss c.toNat).weight
def wtSum (ss : List Sym) : List Int → Int
  | [] => 0
  | c :: r => wtOf ss c + wtSum ss r
def weightK (ss : List Sym) (r : List Int) : Int := if rowB ss r then wtSum ss r else 0
def deepK (ss : List Sym) (r : List Int) : Int := if rowB ss r then (maxD (tlD ss r) : Int) else 0
theorem wtSum_append (ss : List Sym) (a b : List Int) : wtSum ss (a ++ b) = wtSum ss a + wtSum ss b := by
  induction a with
  | nil => simp [wtSum]
  | cons c a ih => simp only [List.cons_append, wtSum, ih]; omega
theorem wtSum_take (ss : List Sym) (r : List Int) (k : Nat) (h : k < r.length) : wtSum ss (r.take (k + 1)) = wtSum ss (r.take k) + wtOf ss (intAt r k) := by
  rw [List.take_add_one, intAt_get h, wtSum_append]; simp [wtSum]
theorem tl_codes {ss : List Sym} (r : List Int) {ms : List (Nat × Nat)} (h : tl ss r = some ms) : ∀ c ∈ r, ∃ a, arOf ss c = some a := by
  induction r generalizing ms with
  | nil => intro c hc; cases hc
  | cons c r ih =>
    obtain ⟨qs, a, h1, h2, _, _⟩ := tl_cons_inv h
    intro x hx
    rcases List.mem_cons.1 hx with rfl | hx
    · exact ⟨a, h2⟩
    · exact ih h1 x hx
/-- The codes of a row: a variable's, or a symbol's that is there. -/
theorem row_code {ss : List Sym} {r : List Int} (h : rowB ss r = true) {k : Nat} (hk : k < r.length) : -24 ≤ intAt r k ∧ intAt r k < ss.length ∧ (0 ≤ intAt r k → (symAt ss (intAt r k).toNat).kind ≠ 0) := by
  obtain ⟨h1, h2, h3⟩ := row_parts h
  obtain ⟨a, ha⟩ := tl_codes r h3 (intAt r k) (List.mem_iff_getElem?.2 ⟨k, intAt_get hk⟩)
  have hl := may_len h1
  by_cases hx : intAt r k < 0
  · have := ar_var hx ha
    exact ⟨this.1, by omega, fun h => absurd h (by omega)⟩
  · have := ar_sym h1 (by omega) ha
    exact ⟨by omega, by omega, fun _ => this.2.1⟩
theorem wtOf_bd {ss : List Sym} {r : List Int} (h : rowB ss r = true) {k : Nat} (hk : k < r.length) : 1 ≤ wtOf ss (intAt r k) ∧ wtOf ss (intAt r k) ≤ 20 := by
  obtain ⟨h1, h2, _⟩ := row_code h hk
  unfold wtOf
  split
  · omega
  · have := may_bd (row_parts h).1 (i := (intAt r k).toNat) (by omega); omega
theorem wtSum_bd {ss : List Sym} {r : List Int} (h : rowB ss r = true) (k : Nat) (hk : k ≤ r.length) : 0 ≤ wtSum ss (r.take k) ∧ wtSum ss (r.take k) ≤ 20 * k := by
  induction k with
  | zero => simp [wtSum]
  | succ k ih =>
    have := ih (by omega)
    rw [wtSum_take ss r k (by omega)]
    have := wtOf_bd h (k := k) (by omega)
    omega

set_option maxHeartbeats 1000000 in
theorem starts_any (A A' : Option Addr) (n c m c' : Nat) (ss : List Sym) (r : List Int) (w : World) (h : SymsAt w w.heap.size A n ss) (hn : n ≤ maxLen) (hnc : n ≤ c) (hr : IntsAt w w.heap.size A' m r) (hm : m ≤ maxLen) :
    Calls Try.prog 12 #[.slice A n c, .slice A' m c'] w (IntsPost (startsOf ss r) (rowE ss r) w) := by
  obtain ⟨hz, hzs⟩ := zero_of_info shape_info
  have HL := Lib.hid hr.len
  have hm' := hm
  unfold maxLen at hm
  cases hb : rowB ss r
  · have H1 : Hid (startsOf ss r = []) := by show startsOf ss r = []; unfold startsOf; rw [hb]; rfl
    have H2 : Hid (rowE ss r = 200) := by show rowE ss r = 200; unfold rowE; rw [hb]; rfl
    go_enter Try.func12, Try.ntmps12
    go_wp2_with fail
    refine (measure_any A A' n c m c' ss r _ h hn hnc hr hm').mono ?_
    rintro e w1 ⟨rfl, hb1⟩
    rw [hb]
    have hsc := run_storeM ss r w1
    have hsz := measC_size ss r
    go_wp2
    go_ret2
    exact ⟨_, ret_vi H2.out.symm, OwnI.nil_.cast H1.out.symm, hb1.trans ((below_new w1 _).mono hb1.size)⟩
  · have H1 : Hid (startsOf ss r = stN ss r (tlD ss r).length) := by show startsOf ss r = _; unfold startsOf; rw [hb]; rfl
    have H2 : Hid (rowE ss r = 0) := by show rowE ss r = 0; unfold rowE; rw [hb]; rfl
    have HB := Lib.hid hb
    have h48 : m ≤ 48 := by have := (row_parts hb).2.1; rw [HL.out] at this; exact this
    go_enter Try.func12, Try.ntmps12
    go_wp2_with fail
    refine (measure_any A A' n c m c' ss r _ h hn hnc hr hm').mono ?_
    rintro e w1 ⟨rfl, hb1⟩
    rw [hb]
    clear hb
    have hsc := run_storeM ss r w1
    have hsz := measC_size ss r
    go_wp2_with fail
    clear hsc hsz
    go_loopw [8, 9] (fun q i wr => ∃ p t : Nat, i = .int .i64 t ∧ At ss r p t ∧ OwnI wr (w1.heap.size + 1) q (stN ss r p) ∧ Below (w1.heap.size + 1) (w1.alloc (.cells (measC ss r) 47)) wr) (fun _ i _ => m - (intOf i).toNat)
    case atStart => exact ⟨0, 0, rfl, At.zero ss r, OwnI.nil_, Below.refl _ _⟩
    case round =>
      obtain ⟨p, t, rfl, hat, hown, hbw⟩ := hrel
      have HAT := Lib.hid hat
      have HOWN := Lib.hid hown
      have HBW := Lib.hid hbw
      obtain ⟨b1, b2, b3⟩ := hat.bd HB.out
      have B3 := Lib.hid b3
      rw [HL.out] at b1 b2
      have hsz := hbw.size
      simp at hsz
      clear hat b3 hown
      by_cases hlt : t < m
      · have hc : wr.cell? ⟨w1.heap.size, t, none⟩ = some (.int .i64 (endAt ss r t)) := by
          rw [hbw.cell (by simp), World.cell?_alloc_new]
          exact (measC_at HB.out (j := t) (by rw [HL.out]; exact hlt)).1
        obtain ⟨s1, s2, _⟩ := HAT.out.step HB.out (by rw [HL.out]; exact hlt)
        have S1 := Lib.hid s1
        clear s1 hbw
        go_wp2_with (at_builtin
                     refine app_int1 rfl (.tmp 26) (.tmp 28) rfl (w1.heap.size + 1) _ (stN ss r p) (t : Int) rfl HOWN.out rfl (by rw [stN_length]; omega) hsz ?_
                     intro v2 w2 hown2 hb2
                     have hc2 : w2.cell? ⟨w1.heap.size, t, none⟩ = some (.int .i64 (endAt ss r t)) := by rw [hb2.cell (by simp)]; exact hc
                     have HOWN2 := Lib.hid hown2
                     have HB2 := Lib.hid hb2
                     clear hown2 hb2)
        go_roundw
        case rel => exact ⟨p + 1, endAt ss r t, rfl, S1.out, HOWN2.out.cast (by rw [stN_succ, ← HAT.out.eq]), HBW.out.trans HB2.out⟩
        case measure => simp [intOf]; omega
      · have hp : p = (tlD ss r).length := B3.out.1 (by rw [HL.out]; omega)
        have HP := Lib.hid hp
        clear hp hbw
        go_wp2
        go_ret2
        exact ⟨_, ret_vi H2.out.symm, (HOWN.out.cast (by rw [H1.out, HP.out])).lower (by have := hb1.size; omega), hb1.trans (((below_new w1 _).trans (HBW.out.mono (by simp))).mono hb1.size)⟩

set_option maxHeartbeats 1000000 in
theorem deep_any (A A' : Option Addr) (n c m c' : Nat) (ss : List Sym) (r : List Int) (w : World) (h : SymsAt w w.heap.size A n ss) (hn : n ≤ maxLen) (hnc : n ≤ c) (hr : IntsAt w w.heap.size A' m r) (hm : m ≤ maxLen) :
    Calls Try.prog 24 #[.slice A n c, .slice A' m c'] w fun e w' => e = .returned (.tuple #[.int .i64 (deepK ss r), .int .i64 (rowE ss r)]) ∧ Below w.heap.size w w' := by
  obtain ⟨hz, hzs⟩ := zero_of_info shape_info
  have HL := Lib.hid hr.len
  have hm' := hm
  unfold maxLen at hm
  cases hb : rowB ss r
  · have H1 : Hid (deepK ss r = 0) := by show deepK ss r = 0; unfold deepK; rw [hb]; rfl
    have H2 : Hid (rowE ss r = 200) := by show rowE ss r = 200; unfold rowE; rw [hb]; rfl
    go_enter Try.func24, Try.ntmps24
    go_wp2_with fail
    refine (measure_any A A' n c m c' ss r _ h hn hnc hr hm').mono ?_
    rintro e w1 ⟨rfl, hb1⟩
    rw [hb]
    have hsc := run_storeM ss r w1
    have hsz := measC_size ss r
    go_wp2
    go_ret2
    exact ⟨ret_two H1.out.symm H2.out.symm, hb1.trans ((below_new w1 _).mono hb1.size)⟩
  · have H1 : Hid (deepK ss r = (maxD (tlD ss r) : Int)) := by show deepK ss r = _; unfold deepK; rw [hb]; rfl
    have H2 : Hid (rowE ss r = 0) := by show rowE ss r = 0; unfold rowE; rw [hb]; rfl
    have HB := Lib.hid hb
    have h48 : m ≤ 48 := by have := (row_parts hb).2.1; rw [HL.out] at this; exact this
    go_enter Try.func24, Try.ntmps24
    go_wp2_with fail
    refine (measure_any A A' n c m c' ss r _ h hn hnc hr hm').mono ?_
    rintro e w1 ⟨rfl, hb1⟩
    rw [hb]
    clear hb
    have hsc := run_storeM ss r w1
    have hsz := measC_size ss r
    go_wp2_with fail
    clear hsc hsz
    go_loop [8, 9] (fun q i => ∃ p t d : Nat, q = .int .i64 d ∧ i = .int .i64 t ∧ At ss r p t ∧ d = maxD ((tlD ss r).take p)) (fun _ i => m - (intOf i).toNat)
    case atStart => exact ⟨0, 0, 0, rfl, rfl, At.zero ss r, by simp [maxD]⟩
    case round =>
      obtain ⟨p, t, d, rfl, rfl, hat, hd⟩ := hrel
      have HAT := Lib.hid hat
      have HD := Lib.hid hd
      obtain ⟨b1, b2, b3⟩ := hat.bd HB.out
      have B3 := Lib.hid b3
      rw [HL.out] at b1 b2
      clear hat b3 hd
      by_cases hlt : t < m
      · obtain ⟨hc, hc'⟩ := measC_at HB.out (j := t) (by rw [HL.out]; exact hlt)
        obtain ⟨s1, s2, s3⟩ := HAT.out.step HB.out (by rw [HL.out]; exact hlt)
        have S1 := Lib.hid s1
        have S3 := Lib.hid s3
        clear s1 s3
        by_cases hmx : d < depAt ss r t
        · go_wp2
          go_round
          case rel => exact ⟨p + 1, endAt ss r t, depAt ss r t, rfl, rfl, S1.out, by rw [S3.out, ← HD.out]; omega⟩
          case measure => simp [intOf]; omega
        · go_wp2
          go_round
          case rel => exact ⟨p + 1, endAt ss r t, d, rfl, rfl, S1.out, by rw [S3.out, ← HD.out]; omega⟩
          case measure => simp [intOf]; omega
      · have hp : p = (tlD ss r).length := B3.out.1 (by rw [HL.out]; omega)
        have HP := Lib.hid hp
        clear hp
        go_wp2
        go_ret2
        exact ⟨ret_two (by rw [H1.out, HD.out, HP.out]; simp) H2.out.symm, hb1.trans ((below_new w1 _).mono hb1.size)⟩

set_option maxHeartbeats 1000000 in
theorem weight_any (A A' : Option Addr) (n c m c' : Nat) (ss : List Sym) (r : List Int) (w : World) (h : SymsAt w w.heap.size A n ss) (hn : n ≤ maxLen) (hnc : n ≤ c) (hr : IntsAt w w.heap.size A' m r) (hm : m ≤ maxLen) :
    Calls Try.prog 22 #[.slice A n c, .slice A' m c'] w fun e w' => e = .returned (.tuple #[.int .i64 (weightK ss r), .int .i64 (rowE ss r)]) ∧ Below w.heap.size w w' := by
  obtain ⟨hz, hzs⟩ := zero_of_info shape_info
  have HL := Lib.hid hr.len
  have hm' := hm
  unfold maxLen at hm
  cases hb : rowB ss r
  · have H1 : Hid (weightK ss r = 0) := by show weightK ss r = 0; unfold weightK; rw [hb]; rfl
    have H2 : Hid (rowE ss r = 200) := by show rowE ss r = 200; unfold rowE; rw [hb]; rfl
    go_enter Try.func22, Try.ntmps22
    go_wp2_with fail
    refine (measure_any A A' n c m c' ss r _ h hn hnc hr hm').mono ?_
    rintro e w1 ⟨rfl, hb1⟩
    rw [hb]
    have hsc := run_storeM ss r w1
    have hsz := measC_size ss r
    go_wp2
    go_ret2
    exact ⟨ret_two H1.out.symm H2.out.symm, hb1.trans ((below_new w1 _).mono hb1.size)⟩
  · have H1 : Hid (weightK ss r = wtSum ss r) := by show weightK ss r = _; unfold weightK; rw [hb]; rfl
    have H2 : Hid (rowE ss r = 0) := by show rowE ss r = 0; unfold rowE; rw [hb]; rfl
    have HB := Lib.hid hb
    have h48 : m ≤ 48 := by have := (row_parts hb).2.1; rw [HL.out] at this; exact this
    have HSL := Lib.hid h.len
    go_enter Try.func22, Try.ntmps22
    go_wp2_with fail
    refine (measure_any A A' n c m c' ss r _ h hn hnc hr hm').mono ?_
    rintro e w1 ⟨rfl, hb1⟩
    rw [hb]
    clear hb
    have hsc := run_storeM ss r w1
    have hsz := measC_size ss r
    have hbe : Below w.heap.size w (w1.alloc (.cells (measC ss r) 47)) := hb1.trans ((below_new w1 _).mono hb1.size)
    go_wp2_with fail
    clear hsc hsz
    go_loop [8, 21] (fun q i => ∃ (k : Nat) (s : Int), q = .int .i64 s ∧ i = .int .i64 k ∧ k ≤ m ∧ s = wtSum ss (r.take k)) (fun _ i => m - (intOf i).toNat)
    case atStart => exact ⟨0, 0, rfl, rfl, by omega, rfl⟩
    case round =>
      obtain ⟨k, s, rfl, rfl, hk, hs⟩ := hrel
      have HS := Lib.hid hs
      obtain ⟨b1, b2⟩ := wtSum_bd HB.out k (by rw [HL.out]; exact hk)
      rw [← hs] at b1 b2
      clear hs
      by_cases hlt : k < m
      · obtain ⟨b', off', rfl, hb', hc'⟩ := (hr.below hbe).at_ (by omega)
        have hcx : (w1.alloc (.cells (measC ss r) 47)).cell? ⟨b', off' + k, none⟩ = some (.int .i64 (intAt r k)) := hc' k hlt
        clear hc'
        have hlr : k < r.length := by rw [HL.out]; exact hlt
        obtain ⟨x1, x2, _⟩ := row_code HB.out hlr
        obtain ⟨y1, y2⟩ := wtOf_bd HB.out hlr
        have HT := Lib.hid (wtSum_take ss r k hlr)
        rw [HSL.out] at x2
        clear hlr
        by_cases hx : intAt r k < 0
        · go_wp2
          go_round
          case rel => exact ⟨k + 1, s + 1, by go_num, by go_num, by omega, by rw [HT.out, ← HS.out]; unfold wtOf; rw [if_pos hx]⟩
          case measure => simp [intOf]; omega
        · obtain ⟨q, hq⟩ : ∃ q : Nat, intAt r k = (q : Int) := ⟨(intAt r k).toNat, by omega⟩
          rw [hq] at hcx x2 hx
          have HQ := Lib.hid hq
          have hw : wtOf ss (intAt r k) = (symAt ss q).weight := by unfold wtOf; rw [hq, if_neg (by omega), Int.toNat_natCast]
          rw [hw] at y1 y2
          have HW := Lib.hid hw
          clear hq hw x1
          obtain ⟨b, off, rfl, hb0, hc⟩ := (h.below hbe).at_ (by omega)
          obtain ⟨_, _, _, c3⟩ := hc q (by omega)
          clear hc
          have hx0 : ¬ (q : Int) < 0 := hx
          clear hx
          go_wp2
          go_round
          case rel => exact ⟨k + 1, s + (symAt ss q).weight, rfl, by go_num, by omega, by rw [HT.out, ← HS.out, HW.out]⟩
          case measure => simp [intOf]; omega
      · go_wp2
        go_ret2
        have e : r.take k = r := List.take_of_length_le (by rw [HL.out]; omega)
        exact ⟨ret_two (by rw [H1.out, HS.out, e]) H2.out.symm, hbe⟩

end Go.Proofs.Ytmjopiobahaggaa
