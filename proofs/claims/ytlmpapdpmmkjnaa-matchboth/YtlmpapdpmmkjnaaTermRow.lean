/-
  Contracts: term.Row, term.End.
-/
import Derived.Test.YtlmpapdpmmkjnaaMeasure2
namespace Go.Proofs.Ytlmpapdpmmkjnaa
open Go.RowKit
set_option linter.unusedSimpArgs false
set_option linter.unusedVariables false

def rowE (ss : List Sym) (r : List Int) : Int := if rowB ss r then 0 else 200
def rowK (ss : List Sym) (r : List Int) : Int := if rowB ss r then ((tlD ss r).length : Int) else 0
/-- An index of a row: where the term that begins there ends. -/
def endB (ss : List Sym) (r : List Int) (at_ : Int) : Bool := rowB ss r && decide (0 ≤ at_) && decide (at_ < r.length)
def endK (ss : List Sym) (r : List Int) (at_ : Int) : Int := if endB ss r at_ then (endAt ss r at_.toNat : Int) else 0
def endE (ss : List Sym) (r : List Int) (at_ : Int) : Int := if endB ss r at_ then 0 else 200

theorem ret_two {a b c d : Int} (h1 : a = c) (h2 : b = d) : Ending.returned (.tuple #[.int .i64 a, .int .i64 b]) = .returned (.tuple #[.int .i64 c, .int .i64 d]) := by rw [h1, h2]
theorem row_parts {ss : List Sym} {r : List Int} (h : rowB ss r = true) : mayB ss = true ∧ r.length ≤ 48 ∧ tl ss r = some (tlD ss r) := by
  unfold rowB rowP at h
  simp at h
  obtain ⟨⟨h1, h2⟩, h3⟩ := h
  refine ⟨h1, h2, ?_⟩
  unfold tlD
  cases ht : tl ss r with
  | none => rw [ht] at h3; cases h3
  | some ms => rfl
theorem measC_yes {ss : List Sym} {r : List Int} (h : rowB ss r = true) : measC ss r = shapeC ss r 0 := by unfold measC; rw [if_pos h]
theorem measC_no {ss : List Sym} {r : List Int} (h : rowB ss r = false) : measC ss r = zeroC := by unfold measC; rw [h]; rfl
theorem measC_size (ss : List Sym) (r : List Int) : (measC ss r).size = 96 := by unfold measC; split <;> exact shapeF_size _ _
theorem measC_one (ss : List Sym) (r : List Int) : (measC ss r).all (·.oneCell') = true := by unfold measC; split <;> exact shapeF_one _ _
theorem measC_at {ss : List Sym} {r : List Int} (h : rowB ss r = true) {j : Nat} (hj : j < r.length) : (measC ss r)[j]? = some (.int .i64 (endAt ss r j)) ∧ (measC ss r)[48 + j]? = some (.int .i64 (depAt ss r j)) := by
  rw [measC_yes h]
  exact ⟨shapeC_end (by omega) hj (row_parts h).2.1, shapeC_deep (by omega) hj (row_parts h).2.1⟩
/-- The shape is put into a variable of its own. -/
theorem run_storeM (ss : List Sym) (r : List Int) (w : World) :
    (storeCells ⟨w.heap.size, 0, none⟩ (measC ss r).toList).run Try.prog (w.alloc (.cells zeroC 91)) = .ok () (w.alloc (.cells (measC ss r) 91)) := by
  rw [run_storeC (P := Try.prog) _ w.heap.size 91 zeroC (measC ss r) (heap_alloc_new _ _) (by rw [measC_size]; exact shapeF_size _ _) (measC_one _ _), World.setRow_alloc_new]
/-- The places at which a row's terms begin, one behind the other. -/
structure At (ss : List Sym) (r : List Int) (p t : Nat) : Prop where
  le : p ≤ (tlD ss r).length
  eq : t = sumL ((tlD ss r).take p)
theorem At.zero (ss : List Sym) (r : List Int) : At ss r 0 0 := ⟨Nat.zero_le _, by simp [sumL]⟩
theorem At.bd {ss : List Sym} {r : List Int} {p t : Nat} (h : At ss r p t) (hr : rowB ss r = true) : t ≤ r.length ∧ p ≤ r.length ∧ (t = r.length ↔ p = (tlD ss r).length) := by
  obtain ⟨_, _, h3⟩ := row_parts hr
  have := tl_at (r := r) 0 p (by simpa using h3) (Nat.zero_le _) h.le
  simp only [Nat.zero_add] at this
  rw [← h.eq] at this
  have l := tl_len _ h3
  have hle := h.le
  exact ⟨this.1, by omega, this.2.1⟩
theorem At.step {ss : List Sym} {r : List Int} {p t : Nat} (h : At ss r p t) (hr : rowB ss r = true) (ht : t < r.length) : At ss r (p + 1) (endAt ss r t) ∧ t < endAt ss r t ∧ maxD ((tlD ss r).take (p + 1)) = max (maxD ((tlD ss r).take p)) (depAt ss r t) := by
  obtain ⟨_, _, h3⟩ := row_parts hr
  obtain ⟨b1, b2, b3⟩ := h.bd hr
  have hp : p < (tlD ss r).length := by
    rcases Nat.lt_or_ge p (tlD ss r).length with h' | h'
    · exact h'
    · have := b3.2 (by have := h.le; omega); omega
  have := (tl_at (r := r) 0 p (by simpa using h3) (Nat.zero_le _) h.le).2.2 hp
  simp only [Nat.zero_add] at this
  rw [← h.eq] at this
  refine ⟨⟨hp, this.2.1⟩, ?_, this.2.2⟩
  unfold endAt; omega

set_option maxHeartbeats 1000000 in
theorem row_any (A A' : Option Addr) (n c m c' : Nat) (ss : List Sym) (r : List Int) (w : World) (h : SymsAt w w.heap.size A n ss) (hn : n ≤ maxLen) (hnc : n ≤ c) (hr : IntsAt w w.heap.size A' m r) (hm : m ≤ maxLen) :
    Calls Try.prog 41 #[.slice A n c, .slice A' m c'] w fun e w' => e = .returned (.tuple #[.int .i64 (rowK ss r), .int .i64 (rowE ss r)]) ∧ Below w.heap.size w w' := by
  obtain ⟨hz, hzs⟩ := zero_of_info shape_info
  have HL := Lib.hid hr.len
  have hm' := hm
  unfold maxLen at hm
  cases hb : rowB ss r
  · have H1 : Hid (rowK ss r = 0) := by show rowK ss r = 0; unfold rowK; rw [hb]; rfl
    have H2 : Hid (rowE ss r = 200) := by show rowE ss r = 200; unfold rowE; rw [hb]; rfl
    go_enter Try.func41, Try.ntmps41
    go_wp2_with fail
    refine (measure_any A A' n c m c' ss r _ h hn hnc hr hm').mono ?_
    rintro e w1 ⟨rfl, hb1⟩
    rw [hb]
    have hsc := run_storeM ss r w1
    have hsz := measC_size ss r
    go_wp2
    go_ret2
    exact ⟨ret_two H1.out.symm H2.out.symm, hb1.trans ((below_new w1 _).mono hb1.size)⟩
  · have H1 : Hid (rowK ss r = ((tlD ss r).length : Int)) := by show rowK ss r = _; unfold rowK; rw [hb]; rfl
    have H2 : Hid (rowE ss r = 0) := by show rowE ss r = 0; unfold rowE; rw [hb]; rfl
    have HB := Lib.hid hb
    have h48 : m ≤ 48 := by have := (row_parts hb).2.1; rw [HL.out] at this; exact this
    go_enter Try.func41, Try.ntmps41
    go_wp2_with fail
    refine (measure_any A A' n c m c' ss r _ h hn hnc hr hm').mono ?_
    rintro e w1 ⟨rfl, hb1⟩
    rw [hb]
    clear hb
    have hsc := run_storeM ss r w1
    have hsz := measC_size ss r
    go_wp2_with fail
    clear hsc hsz
    go_loop [8, 9] (fun q i => ∃ p t : Nat, q = .int .i64 p ∧ i = .int .i64 t ∧ At ss r p t) (fun _ i => m - (intOf i).toNat)
    case atStart => exact ⟨0, 0, rfl, rfl, At.zero ss r⟩
    case round =>
      obtain ⟨p, t, rfl, rfl, hat⟩ := hrel
      have HAT := Lib.hid hat
      obtain ⟨b1, b2, b3⟩ := hat.bd HB.out
      have B3 := Lib.hid b3
      rw [HL.out] at b1 b2
      clear hat b3
      by_cases hlt : t < m
      · obtain ⟨hc, _⟩ := measC_at HB.out (j := t) (by rw [HL.out]; exact hlt)
        obtain ⟨s1, s2, _⟩ := HAT.out.step HB.out (by rw [HL.out]; exact hlt)
        have S1 := Lib.hid s1
        clear s1
        go_wp2
        go_round
        case rel => exact ⟨p + 1, endAt ss r t, by go_num, rfl, S1.out⟩
        case measure => simp [intOf]; omega
      · have hp : p = (tlD ss r).length := B3.out.1 (by rw [HL.out]; omega)
        have HP := Lib.hid hp
        clear hp
        go_wp2
        go_ret2
        exact ⟨ret_two (by rw [H1.out, HP.out]) H2.out.symm, hb1.trans ((below_new w1 _).mono hb1.size)⟩

end Go.Proofs.Ytlmpapdpmmkjnaa
