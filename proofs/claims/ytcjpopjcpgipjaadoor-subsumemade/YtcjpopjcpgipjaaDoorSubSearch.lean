/-
  Plain words for sets as words of 64 bits; contracts: math/bits.TrailingZeros64, isOpen.
  Contracts of package subsume: isOpen, fit.
  Contract of package subsume: fit.
  Contract of package subsume: choose.
  Contract of package subsume: find.
-/
import Derived.Test.YtcjpopjcpgipjaaDoorSubMem
import Derived.Lib.TrailingZeros
import Derived.Laws.Bits64b
namespace Go.Proofs.YtcjpopjcpgipjaaDoor
open Go.RowKit Go.Deep
set_option linter.unusedSimpArgs false
set_option linter.unusedVariables false
set_option maxRecDepth 100000

theorem bits_and_w {x q : Nat} (hx : x < 2 ^ 64) (hq : q < 2 ^ 64) : bits .and .u64 (x : Int) (q : Int) = ((x &&& q : Nat) : Int) := bits_and_u64_nat x q (by simpa using hx) (by simpa using hq)
theorem bits_andNot_w {x q : Nat} (hx : x < 2 ^ 64) (hq : q < 2 ^ 64) : bits .andNot .u64 (x : Int) (q : Int) = ((dif x q : Nat) : Int) := by
  have h1 : (BitVec.ofInt 64 (x : Int)).toNat = x := by rw [BitVec.ofInt_natCast, BitVec.toNat_ofNat]; exact Nat.mod_eq_of_lt hx
  have h2 : (BitVec.ofInt 64 (q : Int)).toNat = q := by rw [BitVec.ofInt_natCast, BitVec.toNat_ofNat]; exact Nat.mod_eq_of_lt hq
  have h3 : (BitVec.ofInt 64 (x : Int) &&& ~~~ BitVec.ofInt 64 (q : Int)).toNat = dif x q := by
    rw [BitVec.toNat_and, BitVec.toNat_not, h1, h2]
    apply Nat.eq_of_testBit_eq
    intro i
    rw [Nat.testBit_and, dif_bit, Nat.sub_sub, Nat.add_comm 1 q, Nat.testBit_two_pow_sub_succ hq]
    by_cases hi : i < 64
    · simp [hi]
    · have : x.testBit i = false := Nat.testBit_lt_two_pow (Nat.lt_of_lt_of_le hx (Nat.pow_le_pow_right (by omega) (by omega)))
      simp [this]
  show IntKind.u64.wrap ((BitVec.ofInt 64 (x : Int) &&& ~~~ BitVec.ofInt 64 (q : Int)).toNat : Int) = _
  rw [h3]
  refine wrap_u64_nat (Nat.lt_of_le_of_lt ?_ hx)
  apply Nat.le_of_testBit
  intro i hi
  rw [dif_bit] at hi
  simp only [Bool.and_eq_true] at hi
  exact hi.1
theorem dif_lt {x q n : Nat} (hx : x < 2 ^ n) : dif x q < 2 ^ n := by
  apply Nat.lt_pow_two_of_testBit
  intro i hi
  rw [dif_bit, Nat.testBit_lt_two_pow (Nat.lt_of_lt_of_le hx (Nat.pow_le_pow_right (by omega) hi))]
  rfl
/-- The lowest bit, and the set without it. -/
theorem ctz_bits {x : Nat} (h0 : x ≠ 0) (hx : x < 2 ^ 64) : x.testBit (Lib.ctz 64 x) = true ∧ (∀ j, j < Lib.ctz 64 x → x.testBit j = false) ∧ (∀ j, (x &&& (x - 1)).testBit j = (x.testBit j && decide (j ≠ Lib.ctz 64 x))) ∧ x &&& (x - 1) < x := by
  obtain ⟨m, hm, hk⟩ := Lib.ctzFrom_spec 64 x (by omega) hx
  have e : Lib.ctz 64 x = Lib.ctzFrom 64 x := by unfold Lib.ctz; rw [if_neg h0]
  rw [e]
  obtain ⟨i, hi⟩ : ∃ i, i = Lib.ctzFrom 64 x := ⟨_, rfl⟩
  rw [← hi] at hm ⊢
  have hpos : 0 < 2 ^ i := Nat.pow_pos (by omega)
  have b1 : ∀ j, x.testBit j = (decide (i ≤ j) && (2 * m + 1).testBit (j - i)) := fun j => by
    rw [hm, Nat.mul_comm, Nat.testBit_mul_two_pow]
  have hx1 : x - 1 = 2 ^ i * (2 * m) + (2 ^ i - 1) := by
    rw [hm, Nat.mul_add, Nat.mul_one]
    omega
  have b2 : ∀ j, (x - 1).testBit j = if j < i then (2 ^ i - 1).testBit j else (2 * m).testBit (j - i) := fun j => by
    rw [hx1, Nat.testBit_two_pow_mul_add _ (by omega)]
  have b3 : ∀ j, (x &&& (x - 1)).testBit j = (x.testBit j && decide (j ≠ i)) := fun j => by
    rw [Nat.testBit_and, b1, b2]
    by_cases h1 : j < i
    · have : ¬ i ≤ j := by omega
      simp [this]
    · rw [if_neg h1]
      by_cases h2 : j = i
      · subst h2
        simp [Nat.testBit_zero]
      · obtain ⟨d, hd⟩ : ∃ d, j - i = d + 1 := ⟨j - i - 1, by omega⟩
        rw [hd, Nat.testBit_succ, Nat.testBit_succ, show (2 * m + 1) / 2 = m by omega, show 2 * m / 2 = m by omega]
        have h3 : i ≤ j := by omega
        simp [h2, h3]
  have b0 : x.testBit i = true := by rw [b1]; simp [Nat.testBit_zero]
  refine ⟨b0, fun j hj => ?_, b3, ?_⟩
  · rw [b1]
    have : ¬ i ≤ j := by omega
    simp [this]
  · have hle : x &&& (x - 1) ≤ x := Nat.and_le_left
    rcases Nat.eq_or_lt_of_le hle with q | q
    · have := congrArg (fun y => Nat.testBit y i) q
      simp only [b3, b0] at this
      simp at this
    · exact q
/-- The table of the library's, in its variable. -/
def TabW (w : World) : Prop := ∀ j, j < 64 → w.cell? ⟨0, j, none⟩ = some (.int .u8 (Lib.deBruijn64tab.getD j 0))
theorem TabW.below {w w' : World} {B : Nat} (h : TabW w) (hB : 0 < B) (hb : Below B w w') : TabW w' := fun j hj => by rw [hb.cell (p := ⟨0, j, none⟩) hB]; exact h j hj
theorem tz_key (x a : Nat) (hx : x < 18446744073709551616) (hx0 : x ≠ 0) (hlow : x &&& (18446744073709551616 - x) = a) :
    IntKind.u64.wrap (bits BinOp.and IntKind.u64 (x : Int) (IntKind.u64.wrap (-(x : Int))) * 285870213051353865) / 288230376151711744 = ((a * 285870213051353865 % 18446744073709551616 / 288230376151711744 : Nat) : Int) := by
  have e1 : IntKind.u64.wrap (-(x : Int)) = ((18446744073709551616 - x : Nat) : Int) := by rw [IntKind.wrap_u64]; omega
  rw [e1, bits_and_u64_nat x _ hx (by omega), hlow, IntKind.wrap_u64]
  omega
set_option maxHeartbeats 1000000 in
theorem tz_core (x k idx : Nat) (w : World) (hx0 : ((x : Int) == 0) = false)
    (key : IntKind.u64.wrap (bits BinOp.and IntKind.u64 (x : Int) (IntKind.u64.wrap (-(x : Int))) * 285870213051353865) / 288230376151711744 = (idx : Int))
    (hi : idx < 64) (hk : k < 64) (hcell : w.cell? ⟨0, idx, none⟩ = some (.int .u8 k)) :
    Calls Tryd.prog 81 #[.int .u64 x] w fun e w' => e = .returned (.int .i64 k) ∧ w' = w := by
  go_enter Tryd.func81, Tryd.ntmps81
  go_wp2_with (simp only [key])
  go_ret
  exact ⟨rfl, rfl⟩
theorem tz_any (x : Nat) (w : World) (hx : x < 2 ^ 64) (hx0 : x ≠ 0) (hT : TabW w) :
    Calls Tryd.prog 81 #[.int .u64 (x : Int)] w fun e w' => e = .returned (.int .i64 (Lib.ctz 64 x : Int)) ∧ w' = w := by
  obtain ⟨hlow, hk⟩ := Lib.lowest_bit 64 x hx0 hx
  obtain ⟨hi, htab⟩ := Lib.deBruijn64_at _ hk
  have hcell := hT _ hi
  rw [htab] at hcell
  exact tz_core x _ _ w (by simp; omega) (tz_key x _ (by simpa using hx) hx0 hlow) hi hk hcell
end Go.Proofs.YtcjpopjcpgipjaaDoor

namespace Go.Proofs.YtcjpopjcpgipjaaDoor
open Go.RowKit Go.Deep
set_option linter.unusedSimpArgs false
set_option linter.unusedVariables false
set_option maxRecDepth 100000

/-- Each part from the k-th on has a pair of the set. -/
def openB (os : List Nat) (k S : Nat) : Bool := (List.range (os.length - k)).all fun i => decide (S &&& wAt os (k + i) ≠ 0)
theorem openB_iff {os : List Nat} {k S : Nat} : openB os k S = true ↔ ∀ m, k ≤ m → m < os.length → S &&& wAt os m ≠ 0 := by
  unfold openB
  rw [List.all_eq_true]
  constructor
  · intro h m h1 h2
    have := of_decide_eq_true (h (m - k) (List.mem_range.2 (by omega)))
    rwa [Nat.add_sub_cancel' h1] at this
  · intro h i hi
    have := List.mem_range.1 hi
    exact decide_eq_true (h (k + i) (by omega) (by omega))
theorem openB_no {os : List Nat} {k S m : Nat} (h1 : k ≤ m) (h2 : m < os.length) (h : S &&& wAt os m = 0) : openB os k S = false := by
  cases q : openB os k S with
  | false => rfl
  | true => exact absurd h (openB_iff.1 q m h1 h2)
set_option maxHeartbeats 1000000 in
theorem isOpen_any (sb k S B : Nat) (v0 v1 v2 v3 v4 : Value) (os : List Nat) (w : World) (hs : SB w sb v0 v1 v2 v3 v4) (ho : OwnW w B v1 os) (hk : k ≤ os.length) (hf : ∀ m, m < os.length → wAt os m < 2 ^ 64) (hS : S < 2 ^ 64) (hl : os.length ≤ 1000) :
    Calls Tryd.prog 54 #[.pointer (some ⟨sb, 0, none⟩), .int .i64 (k : Int), .int .u64 (S : Int)] w fun e w' => e = .returned (.bool (openB os k S)) ∧ w = w' := by
  have HSB := Lib.hid hs
  have HO := Lib.hid ho
  have HF := Lib.hid hf
  have HS := Lib.hid hS
  obtain ⟨A1, c1, rfl⟩ := ho.len_
  have hc1 := hs.c1
  obtain ⟨L, hL⟩ : ∃ L, os.length = k + L := ⟨os.length - k, by omega⟩
  have HL := Lib.hid hL
  have hcap : k + L ≤ c1 := by
    rcases ho.shape with ⟨e, e2⟩ | ⟨g, cap, e, _, _, h3⟩
    · rw [e2] at hL; simp at hL; omega
    · injection e with _ _ e; omega
  rw [hL] at hc1 hl
  by_cases h0 : L = 0
  · subst h0
    have H : Hid (openB os k S = true) := openB_iff.2 fun m h1 h2 => by have := HL.out; omega
    clear hs ho hk hf hS hL
    by_cases hne : c1 = k
    all_goals
      go_enter Tryd.func54, Tryd.ntmps54
      go_wp2
      go_loopw [16] (fun i wr => ∃ j : Nat, i = .int .i64 j ∧ j ≤ 0 ∧ wr = w) (fun i _ => 1 - (intOf i).toNat)
      case atStart => exact ⟨0, rfl, by omega, rfl⟩
      case round =>
        obtain ⟨j, rfl, hj, rfl⟩ := hrel
        obtain rfl : j = 0 := by omega
        go_wp2
        go_ret
        exact ⟨ret_b H.out.symm, rfl⟩
  · obtain ⟨g, cap, e, q1, q2, q3, q4, q5⟩ := ho.cells (by omega)
    injection e with e1 e2 e3
    subst e1
    subst e3
    have hne : ¬ c1 = k := by omega
    have HQ := Lib.hid q4
    clear hs ho hk hf hS hL q4 q5 e2
    go_enter Tryd.func54, Tryd.ntmps54
    go_wp2
    go_loopw [16] (fun i wr => ∃ j : Nat, i = .int .i64 j ∧ j ≤ L ∧ Hid (∀ m, k ≤ m → m < k + j → S &&& wAt os m ≠ 0) ∧ wr = w) (fun i _ => L - (intOf i).toNat)
    case atStart => exact ⟨0, rfl, by omega, Lib.hid (p := ∀ m, k ≤ m → m < k + 0 → S &&& wAt os m ≠ 0) (fun m h1 h2 => by omega), rfl⟩
    case round =>
      obtain ⟨j, rfl, hj, HJ, rfl⟩ := hrel
      by_cases hlt : j < L
      · have hcell := HQ.out (k + j) (by have := HL.out; omega)
        obtain ⟨x, hx⟩ : ∃ x, x = wAt os (k + j) := ⟨_, rfl⟩
        have hx64 : x < 2 ^ 64 := by rw [hx]; exact HF.out _ (by have := HL.out; omega)
        rw [← hx] at hcell
        have hand := bits_and_w HS.out hx64
        have HX := Lib.hid hx
        clear hx hx64
        by_cases hz : S &&& x = 0
        · have H : Hid (openB os k S = false) := openB_no (m := k + j) (by omega) (by have := HL.out; omega) (by rw [← HX.out]; exact hz)
          rw [hz] at hand
          clear hz
          go_wp2
          go_ret
          exact ⟨ret_b H.out.symm, rfl⟩
        · obtain ⟨y, hy⟩ : ∃ y, y = S &&& x := ⟨_, rfl⟩
          have HY := Lib.hid hy
          rw [← hy] at hand hz
          have hz2 : ((y : Int) == 0) = false := by simp; omega
          have HZ := Lib.hid hz
          clear hy hz
          go_wp2
          go_roundw
          case rel => exact ⟨j + 1, by go_num, by omega, Lib.hid (p := ∀ m, k ≤ m → m < k + (j + 1) → S &&& wAt os m ≠ 0) (fun m h1 h2 => by
            rcases Nat.lt_or_ge m (k + j) with q | q
            · exact HJ.out m h1 q
            · obtain rfl : m = k + j := by omega
              rw [← HX.out, ← HY.out]; exact HZ.out), by first | rfl | trivial⟩
          case measure => simp [intOf]; omega
      · obtain rfl : j = L := by omega
        have H : Hid (openB os k S = true) := openB_iff.2 fun m h1 h2 => HJ.out m h1 (by have := HL.out; omega)
        go_wp2
        go_ret
        exact ⟨ret_b H.out.symm, rfl⟩
end Go.Proofs.YtcjpopjcpgipjaaDoor

namespace Go.Proofs.YtcjpopjcpgipjaaDoor
open Go.RowKit Go.Deep
set_option linter.unusedSimpArgs false
set_option linter.unusedVariables false
set_option maxRecDepth 100000

/-- What stands still below block g: the search's object, its pairs and which of them belong to a part. -/
structure Stat (w : World) (g sb B : Nat) (v0 v1 v2 v3 v4 : Value) (PS : List Pr) (os : List Nat) : Prop where
  s : SB w sb v0 v1 v2 v3 v4
  lt : sb < g
  p : OwnP w (sb + 1) B v0 PS
  pl : ∀ b, v0.ownBlock = some b → b < g
  o : OwnW w (sb + 1) v1 os
  ol : ∀ b, v1.ownBlock = some b → b < g
  hB : B ≤ sb
  hg : g ≤ w.heap.size
theorem owns_low {w w' : World} {base e size n g : Nat} {v : Value} {xs : List Value} (h : w.ownsRow base e size v n xs) (hl : ∀ b, v.ownBlock = some b → b < g) (hb : Below g w w') : w'.ownsRow base e size v n xs := by
  obtain ⟨h1, h2⟩ := h
  refine ⟨h1, ?_⟩
  rcases h2 with h2 | ⟨k, cap, cur, q, hg, hc, r⟩
  · exact .inl h2
  · exact .inr ⟨k, cap, cur, q, hg, by rw [hb.block k (hl k (by rw [q]; rfl))]; exact hc, r⟩
theorem Stat.below {w w' : World} {g sb B : Nat} {v0 v1 v2 v3 v4 : Value} {PS : List Pr} {os : List Nat} (h : Stat w g sb B v0 v1 v2 v3 v4 PS os) (hb : Below g w w') : Stat w' g sb B v0 v1 v2 v3 v4 PS os := by
  refine ⟨by unfold SB; rw [hb.block sb h.lt]; exact h.s, h.lt, ?_, h.pl, owns_low h.o h.ol hb, h.ol, h.hB, Nat.le_trans h.hg hb.size⟩
  obtain ⟨cells, h1, h2⟩ := h.p
  exact ⟨cells, owns_low h1 h.pl hb, h2.below (hb.mono (by have := h.hB; have := h.lt; omega))⟩
/-- Which pairs agree, as far as it has been found out. -/
def FitK (PS : List Pr) (fs : List Nat) (i j0 : Nat) : Prop := ∀ j, j < PS.length → ∀ j', (wAt fs j).testBit j' = true ↔ j < j' ∧ (j' < i ∨ (j' = i ∧ j < j0)) ∧ j' < PS.length ∧ agrB (prAt PS j').pcs (prAt PS j).pcs = true
theorem FitK.zero {PS : List Pr} : FitK PS (List.replicate PS.length 0) 0 0 := fun j hj j' => by
  have e : wAt (List.replicate PS.length 0) j = 0 := by unfold wAt; rw [List.getD_eq_getElem?_getD, List.getElem?_replicate, if_pos hj]; rfl
  rw [e, Nat.zero_testBit]
  refine ⟨fun h => (by cases h), fun h => ?_⟩
  rcases h.2.1 with q | q <;> omega
theorem FitK.next {PS : List Pr} {fs : List Nat} {i : Nat} (h : FitK PS fs i i) : FitK PS fs (i + 1) 0 := fun j hj j' => by
  rw [h j hj j']
  constructor
  · rintro ⟨h1, h2, h3⟩
    exact ⟨h1, .inl (by omega), h3⟩
  · rintro ⟨h1, h2, h3⟩
    refine ⟨h1, ?_, h3⟩
    rcases h2 with q | q
    · rcases Nat.lt_or_ge j' i with q2 | q2
      · exact .inl q2
      · exact .inr ⟨by omega, by omega⟩
    · omega
theorem FitK.no {PS : List Pr} {fs : List Nat} {i j0 : Nat} (h : FitK PS fs i j0) (ha : agrB (prAt PS i).pcs (prAt PS j0).pcs = false) : FitK PS fs i (j0 + 1) := fun j hj j' => by
  rw [h j hj j']
  constructor
  · rintro ⟨h1, h2, h3⟩
    exact ⟨h1, h2.imp id fun q => ⟨q.1, by omega⟩, h3⟩
  · rintro ⟨h1, h2, h3, h4⟩
    refine ⟨h1, ?_, h3, h4⟩
    rcases h2 with q | ⟨q1, q2⟩
    · exact .inl q
    · rcases Nat.lt_or_ge j j0 with q3 | q3
      · exact .inr ⟨q1, q3⟩
      · obtain rfl : j = j0 := by omega
        subst q1
        rw [ha] at h4; cases h4
theorem FitK.yes {PS : List Pr} {fs : List Nat} {i j0 : Nat} (h : FitK PS fs i j0) (hl : fs.length = PS.length) (hi : i < PS.length) (hj0 : j0 < i) (ha : agrB (prAt PS i).pcs (prAt PS j0).pcs = true) : FitK PS (fs.set j0 (wAt fs j0 ||| 2 ^ i)) i (j0 + 1) := fun j hj j' => by
  by_cases e : j = j0
  · subst e
    have e1 : wAt (fs.set j (wAt fs j ||| 2 ^ i)) j = wAt fs j ||| 2 ^ i := by
      unfold wAt
      rw [List.getD_eq_getElem?_getD, List.getElem?_set_self (by omega)]; rfl
    rw [e1, Nat.testBit_or, Nat.testBit_two_pow, Bool.or_eq_true, decide_eq_true_eq, h j hj j']
    constructor
    · rintro (⟨h1, h2, h3⟩ | rfl)
      · exact ⟨h1, h2.imp id fun q => ⟨q.1, by omega⟩, h3⟩
      · exact ⟨hj0, .inr ⟨rfl, by omega⟩, hi, ha⟩
    · rintro ⟨h1, h2, h3⟩
      rcases h2 with q | ⟨q1, q2⟩
      · exact .inl ⟨h1, .inl q, h3⟩
      · exact .inr q1.symm
  · have e1 : wAt (fs.set j0 (wAt fs j0 ||| 2 ^ i)) j = wAt fs j := by
      unfold wAt
      rw [List.getD_eq_getElem?_getD, List.getElem?_set_ne (fun h => e h.symm), List.getD_eq_getElem?_getD]
    rw [e1, h j hj j']
    constructor
    · rintro ⟨h1, h2, h3⟩
      exact ⟨h1, h2.imp id fun q => ⟨q.1, by omega⟩, h3⟩
    · rintro ⟨h1, h2, h3⟩
      refine ⟨h1, h2.imp id fun q => ⟨q.1, by omega⟩, h3⟩
theorem FitK.few {PS : List Pr} {fs : List Nat} {i j0 j : Nat} (h : FitK PS fs i j0) (hj : j < PS.length) : wAt fs j < 2 ^ PS.length := lt_of_bits fun j' hj' => ((h j hj j').1 hj').2.2.1
theorem made_words (n : Nat) : madeCells #[Value.int .u64 0] n = (swCells (List.replicate n 0)).toArray := by
  unfold madeCells swCells
  apply Array.ext
  · simp
  · intro i h1 h2
    simp [Nat.mod_one]
theorem OwnW.made (w : World) (n : Nat) (hn : n ≤ 1000) : OwnW (w.alloc (.cells (madeCells #[Value.int .u64 0] n) 97)) w.heap.size (.slice (some ⟨w.heap.size, 0, none⟩) n n) (List.replicate n 0) := by
  have := World.ownsRow_lit (base := w.heap.size) (e := 97) (size := 1) w (swCells (List.replicate n 0)).toArray n (Nat.le_refl _) (by unfold maxLen; omega) (by unfold swCells; simp)
  rw [made_words]
  unfold OwnW
  rw [List.length_replicate]
  simpa using this
def FillPost (sb B : Nat) (PS : List Pr) (os : List Nat) (w : World) (e : Ending) (w' : World) : Prop :=
  e = .returned (.tuple #[]) ∧ (∃ v0 v1 fs, Stat w' w.heap.size sb B v0 v1 (.slice (some ⟨w.heap.size, 0, none⟩) PS.length PS.length) (.slice none 0 0) (.slice none 0 0) PS os ∧ OwnW w' w.heap.size (.slice (some ⟨w.heap.size, 0, none⟩) PS.length PS.length) fs ∧ fs.length = PS.length ∧ FitK PS fs PS.length 0) ∧ Below sb w w'
structure FW (w2 : World) (g : Nat) (PS : List Pr) (fs : List Nat) (i j0 : Nat) (wr : World) : Prop where
  bel : Below g w2 wr
  own : OwnW wr g (.slice (some ⟨g, 0, none⟩) PS.length PS.length) fs
  len : fs.length = PS.length
  fit : FitK PS fs i j0
set_option maxHeartbeats 4000000 in
theorem fit_any (sb B : Nat) (PS : List Pr) (os : List Nat) (w : World) (h : Bld w sb B PS os) (hn : PS.length ≤ 60) :
    Calls Tryd.prog 55 #[.pointer (some ⟨sb, 0, none⟩)] w (FillPost sb B PS os w) := by
  obtain ⟨v0, v1, h1, h2, h3⟩ := h.ex
  obtain ⟨A0, c0, rfl⟩ := h2.len_
  have HLT := Lib.hid h.lt
  have HLE := Lib.hid h.le
  have HG := Lib.hid h.good
  obtain ⟨N, hN⟩ : ∃ N, N = PS.length := ⟨_, rfl⟩
  rw [← hN] at h1 hn h2
  have hmk : (Instr.makeSlice 67 (.int .i64 (N : Int)) (.int .i64 (N : Int))).run Tryd.prog w = .ok (.slice (some ⟨w.heap.size, 0, none⟩) N N) (w.alloc (.cells (madeCells #[.int .u64 0] N) 97)) := run_make_row' (P := Tryd.prog) 67 97 (.int .u64 0) 8 Tryd.underlying67 set_info rfl .i64 .i64 N (by omega) (by omega) w
  have HMADE := Lib.hid (OwnW.made w N (by omega))
  have hbn := below_new w (.cells (madeCells #[.int .u64 0] N) 97)
  have hS1 := h1.on hbn
  have hP1 := h2.on hbn (by have := HLE.out; have := HLT.out; omega)
  have hO1 := h3.on hbn
  have hst : Stat ((w.alloc (.cells (madeCells #[.int .u64 0] N) 97)).setCell ⟨sb, 2, none⟩ (.slice (some ⟨w.heap.size, 0, none⟩) N N)) w.heap.size sb B (.slice A0 N c0) v1 (.slice (some ⟨w.heap.size, 0, none⟩) N N) (.slice none 0 0) (.slice none 0 0) PS os := by
    have hset := hS1.set_chg 2 (.slice (some ⟨w.heap.size, 0, none⟩) N N)
    refine ⟨hS1.set2 _, HLT.out, hP1.chg hset (by decide) HLE.out, fun b hb => ?_, hO1.chg hset (by decide), fun b hb => ?_, HLE.out, by simp⟩
    · obtain ⟨cells, q, _⟩ := h2; exact (q.lt b hb).2
    · exact (h3.lt b hb).2
  have HW2 : Hid (OwnW ((w.alloc (.cells (madeCells #[.int .u64 0] N) 97)).setCell ⟨sb, 2, none⟩ (.slice (some ⟨w.heap.size, 0, none⟩) N N)) w.heap.size (.slice (some ⟨w.heap.size, 0, none⟩) N N) (List.replicate N 0)) := HMADE.out.chg (hS1.set_chg 2 _) (by decide)
  have HB2 : Hid (Below sb w ((w.alloc (.cells (madeCells #[.int .u64 0] N) 97)).setCell ⟨sb, 2, none⟩ (.slice (some ⟨w.heap.size, 0, none⟩) N N))) := (hbn.mono (Nat.le_of_lt HLT.out)).trans (hS1.set_chg 2 _).bel
  have HST := Lib.hid hst
  have hc0 := h1.c0
  have hfz := hS1.frozen 2
  have hcc := hS1.c2
  obtain ⟨g, hg⟩ : ∃ g, g = w.heap.size := ⟨_, rfl⟩
  have HNN := Lib.hid hN
  have hc02 := hst.s.c0
  clear h h1 h2 h3 hbn hS1 hP1 hO1 hst hN
  go_enter Tryd.func55, Tryd.ntmps55
  go_wp2_with fail
  clear hmk hfz hcc hc02 hc0
  obtain ⟨w2, hw2⟩ : ∃ w2, w2 = (w.alloc (.cells (madeCells #[Value.int .u64 0] N) 97)).setCell ⟨sb, 2, none⟩ (.slice (some ⟨w.heap.size, 0, none⟩) N N) := ⟨_, rfl⟩
  rw [← hw2] at HST HW2 HB2 ⊢
  rw [← hg] at HST HW2 ⊢
  clear hw2 HMADE
  have HGG := Lib.hid hg
  clear hg
  have HF0 : Hid (FW w2 g PS (List.replicate N 0) 0 0 w2) := ⟨Below.refl _ _, by rw [← HNN.out]; exact HW2.out, by rw [List.length_replicate, HNN.out], by rw [HNN.out]; exact FitK.zero⟩
  go_loopw [18] (fun i wr => ∃ (k : Nat) (fs : List Nat), i = .int .i64 k ∧ k ≤ N ∧ Hid (FW w2 g PS fs k 0 wr)) (fun i _ => N - (intOf i).toNat)
  case atStart => exact ⟨0, _, rfl, by omega, HF0⟩
  case round =>
    obtain ⟨wA, hwA⟩ : ∃ wA, wA = wr := ⟨_, rfl⟩
    subst hwA
    obtain ⟨k, fs1, rfl, hk, HF1⟩ := hrel
    by_cases hlt : k < N
    · go_wp2
      go_loopw [22] (fun i wr => ∃ (j : Nat) (fs : List Nat), i = .int .i64 j ∧ j ≤ k ∧ Hid (FW w2 g PS fs k j wr)) (fun i _ => k - (intOf i).toNat)
      case atStart => exact ⟨0, fs1, rfl, by omega, HF1⟩
      case round =>
        obtain ⟨j, fs2, rfl, hj, HF2⟩ := hrel
        by_cases hlt2 : j < k
        · have HSr := Lib.hid (HST.out.below HF2.out.bel)
          have hd0 := HSr.out.s.c0
          obtain ⟨g0, cap0, e0, q1, q2, q3, q4⟩ := HSr.out.p.cells (by have := HNN.out; omega)
          injection e0 with e1 e2 e3
          subst e1
          subst e3
          have HP1 := Lib.hid (q4 k (by have := HNN.out; omega)).pcs
          have HP2 := Lib.hid (q4 j (by have := HNN.out; omega)).pcs
          have zj0 : (0 : Int) ≤ (j : Int) := by omega
          have zj1 : (j : Int) < (N : Int) := by omega
          have zk0 : (0 : Int) ≤ (k : Int) := by omega
          have zk1 : (k : Int) < (N : Int) := by omega
          clear q4 e2 q1
          go_wp2_with fail
          refine wp_region_held_drew (S := (fun w' => w'.cell? ⟨sb, 0, none⟩ = some (.slice (some ⟨g0, 0, none⟩) N c0))) (by kernel_rfl) hd0 (fun hHeld => ?_)
          have hd : Below wr.heap.size wr wr.drew := (Below.refl wr.heap.size wr).drew
          obtain ⟨w3, hw3⟩ : ∃ w3, w3 = wr.drew := ⟨_, rfl⟩
          rw [← hw3] at hd hHeld ⊢
          clear hw3
          have hgr : g ≤ wr.heap.size := HSr.out.hg
          have HF3 : Hid (FW w2 g PS fs2 k j w3) := ⟨HF2.out.bel.trans (hd.mono hgr), HF2.out.own.on hd, HF2.out.len, HF2.out.fit⟩
          have HS3 := Lib.hid (HST.out.below HF3.out.bel)
          have hBr : B ≤ wr.heap.size := by have := HSr.out.hB; have := HSr.out.lt; omega
          have HQ1 := Lib.hid (HP1.out.on q2 hBr hd)
          have HQ2 := Lib.hid (HP2.out.on q2 hBr hd)
          have q2' : g0 < w3.heap.size := Nat.lt_of_lt_of_le q2 hd.size
          have hB3 : B ≤ w3.heap.size := Nat.le_trans hBr hd.size
          have d0 := HS3.out.s.c0
          clear hd0 hd q2 hBr
          refine takeH (i := 0) (v := ?_) rfl rfl (by kernel_rfl) (by kernel_rfl) (by kernel_rfl) (fun _ _ _ h => h) (by rfl) ?_ hHeld ?_
          rotate_left
          · (intro w hSw; (try dsimp only at hSw); first | (go_simp; done) | (go_simp; with_reducible rfl))
          simp only [Act.put, List.setIfInBounds_toArray, List.set_cons_zero, List.set_cons_succ]
          refine takeH (i := 1) (v := ?_) rfl rfl (by kernel_rfl) (by kernel_rfl) (by kernel_rfl) (fun _ _ _ h => h) (by rfl) ?_ hHeld ?_
          rotate_left
          · (intro w hSw; (try dsimp only at hSw); first | (go_simp; done) | (go_simp; with_reducible rfl))
          simp only [Act.put, List.setIfInBounds_toArray, List.set_cons_zero, List.set_cons_succ]
          refine takeH (i := 2) (v := ?_) rfl rfl (by kernel_rfl) (by kernel_rfl) (by kernel_rfl) (fun _ _ _ h => h) (by rfl) ?_ hHeld ?_
          rotate_left
          · (intro w hSw; (try dsimp only at hSw); first | (go_simp; done) | (go_simp; with_reducible rfl))
          simp only [Act.put, List.setIfInBounds_toArray, List.set_cons_zero, List.set_cons_succ]
          refine takeH (i := 3) (v := ?_) rfl rfl (by kernel_rfl) (by kernel_rfl) (by kernel_rfl) (fun _ _ _ h => h) (by rfl) ?_ hHeld ?_
          rotate_left
          · (intro w hSw; (try dsimp only at hSw); first | (go_simp; done) | (go_simp; with_reducible rfl))
          simp only [Act.put, List.setIfInBounds_toArray, List.set_cons_zero, List.set_cons_succ]
          refine takeH (i := 4) (v := ?_) rfl rfl (by kernel_rfl) (by kernel_rfl) (by kernel_rfl) (fun _ _ _ h => h) (by rfl) ?_ hHeld ?_
          rotate_left
          · (intro w hSw; (try dsimp only at hSw); first | (go_simp; done) | (go_simp; with_reducible rfl))
          simp only [Act.put, List.setIfInBounds_toArray, List.set_cons_zero, List.set_cons_succ]
          refine takeH (i := 5) (v := ?_) rfl rfl (by kernel_rfl) (by kernel_rfl) (by kernel_rfl) (fun _ _ _ h => h) (by rfl) ?_ hHeld ?_
          rotate_left
          · (intro w hSw; (try dsimp only at hSw); first | (go_simp; done) | (go_simp; with_reducible rfl))
          simp only [Act.put, List.setIfInBounds_toArray, List.set_cons_zero, List.set_cons_succ]
          refine takeH (i := 6) (v := ?_) rfl rfl (by kernel_rfl) (by kernel_rfl) (by kernel_rfl) (fun _ _ _ h => h) (by rfl) ?_ hHeld ?_
          rotate_left
          · (intro w hSw; (try dsimp only at hSw); first | (go_simp; done) | (go_simp; with_reducible rfl))
          simp only [Act.put, List.setIfInBounds_toArray, List.set_cons_zero, List.set_cons_succ]
          refine takeH (i := 7) (v := ?_) rfl rfl (by kernel_rfl) (by kernel_rfl) (by kernel_rfl) (fun _ _ _ h => h) (by rfl) ?_ hHeld ?_
          rotate_left
          · (intro w hSw; (try dsimp only at hSw); first | (go_simp; done) | (go_simp; with_reducible rfl))
          simp only [Act.put, List.setIfInBounds_toArray, List.set_cons_zero, List.set_cons_succ]
          refine takeH (i := 8) (v := ?_) rfl rfl (by kernel_rfl) (by kernel_rfl) (by kernel_rfl) (fun _ _ _ h => h) (by rfl) ?_ hHeld ?_
          rotate_left
          · (intro w hSw; (try dsimp only at hSw); first | (go_simp; done) | (go_simp; with_reducible rfl))
          simp only [Act.put, List.setIfInBounds_toArray, List.set_cons_zero, List.set_cons_succ]
          refine takeH (i := 9) (v := ?_) rfl rfl (by kernel_rfl) (by kernel_rfl) (by kernel_rfl) (fun _ _ _ h => h) (by rfl) ?_ hHeld ?_
          rotate_left
          · (intro w hSw; (try dsimp only at hSw); first | (go_simp; done) | (go_simp; with_reducible rfl))
          simp only [Act.put, List.setIfInBounds_toArray, List.set_cons_zero, List.set_cons_succ]
          refine takeH (i := 10) (v := ?_) rfl rfl (by kernel_rfl) (by kernel_rfl) (by kernel_rfl) (fun _ _ _ h => h) (by rfl) ?_ hHeld ?_
          rotate_left
          · (intro w hSw; (try dsimp only at hSw); first | (go_simp; done) | (go_simp; with_reducible rfl))
          simp only [Act.put, List.setIfInBounds_toArray, List.set_cons_zero, List.set_cons_succ]
          refine takeH (i := 11) (v := ?_) rfl rfl (by kernel_rfl) (by kernel_rfl) (by kernel_rfl) (fun _ _ _ h => h) (by rfl) ?_ hHeld ?_
          rotate_left
          · (intro w hSw; (try dsimp only at hSw); first | (go_simp; done) | (go_simp; with_reducible rfl))
          simp only [Act.put, List.setIfInBounds_toArray, List.set_cons_zero, List.set_cons_succ]
          refine takeH (i := 12) (v := ?_) rfl rfl (by kernel_rfl) (by kernel_rfl) (by kernel_rfl) (fun _ _ _ h => h) (by rfl) ?_ hHeld ?_
          rotate_left
          · (intro w hSw; (try dsimp only at hSw); first | (go_simp; done) | (go_simp; with_reducible rfl))
          simp only [Act.put, List.setIfInBounds_toArray, List.set_cons_zero, List.set_cons_succ]
          refine takeH (i := 13) (v := ?_) rfl rfl (by kernel_rfl) (by kernel_rfl) (by kernel_rfl) (fun _ _ _ h => h) (by rfl) ?_ hHeld ?_
          rotate_left
          · (intro w hSw; (try dsimp only at hSw); first | (go_simp; done) | (go_simp; with_reducible rfl))
          simp only [Act.put, List.setIfInBounds_toArray, List.set_cons_zero, List.set_cons_succ]
          refine wpAnyH_ready (rs := [14]) (by kernel_rfl) (by simp) ?_
          refine AllReadyH.cons rfl (fun K hK => ?_) AllReadyH.nil
          go_simp
          refine (agrees_any B g0 (k * 25 + 1) g0 (j * 25 + 1) _ _ w3 HQ1.out HQ2.out q2' q2' hB3).mono ?_
          rintro e w4 ⟨rfl, hb4⟩
          have hg3 : g ≤ w3.heap.size := HS3.out.hg
          have HF4 : Hid (FW w2 g PS fs2 k j w4) := ⟨HF3.out.bel.trans (hb4.mono hg3), HF3.out.own.on hb4, HF3.out.len, HF3.out.fit⟩
          have HS4 := Lib.hid (HST.out.below HF4.out.bel)
          have d4 := HS4.out.s.c0
          clear hb4 hg3
          refine hK.out _ _ ?_ (fun hHeld => ?_)
          · exact d4
          clear hK K
          refine wpAnyH_done (by kernel_rfl) ?_ _
          cases hag : agrB (prAt PS k).pcs (prAt PS j).pcs
          · have HF5 : Hid (FW w2 g PS fs2 k (j + 1) w4) := ⟨HF4.out.bel, HF4.out.own, HF4.out.len, HF4.out.fit.no hag⟩
            clear hag
            go_wp2
            go_roundw
            case rel => exact ⟨j + 1, fs2, by go_num, by omega, HF5⟩
            case measure => simp [intOf]; omega
          · have HAG := Lib.hid hag
            clear hag
            obtain ⟨gg, cap, e9, r1, r2, r3, r4, r5⟩ := HF4.out.own.cells (by have := HF4.out.len; have := HNN.out; omega)
            injection e9 with e1 e2 e3
            injection e1 with e1
            injection e1 with e1
            subst e1
            have hcell := r4 j (by have := HF4.out.len; have := HNN.out; omega)
            obtain ⟨x, hx⟩ : ∃ x, x = wAt fs2 j := ⟨_, rfl⟩
            rw [← hx] at hcell
            have hxs : x < 2 ^ 64 := by
              have := HF4.out.fit.few (j := j) (by have := HNN.out; omega)
              rw [← hx] at this
              exact Nat.lt_trans this (Nat.pow_lt_pow_right (by omega) (by have := HNN.out; omega))
            have HQ : Hid (2 ^ k < 2 ^ 64) := Nat.pow_lt_pow_right (by omega) (by omega)
            obtain ⟨q, hq⟩ : ∃ q, q = 2 ^ k := ⟨_, rfl⟩
            have hq64 : q < 2 ^ 64 := by rw [hq]; exact HQ.out
            have hsh : ∀ yk, Op.shift .shl .u64 1 yk (k : Int) = pure (.int .u64 (q : Int)) := fun yk => by
              rw [shift_shl .u64 yk 1 (k : Int) (by omega) (by show (k : Int) ≤ 64; omega)]
              have : IntKind.u64.wrap (1 * 2 ^ ((k : Int)).toNat) = (q : Int) := by
                rw [Int.one_mul, Int.toNat_natCast]
                have e : ((2 : Int) ^ k) = ((2 ^ k : Nat) : Int) := by norm_cast
                rw [e, ← hq]
                exact wrap_u64_nat hq64
              rw [this]
            have hwr : IntKind.u64.wrap ((2 : Int) ^ k) = (q : Int) := by
              have e : ((2 : Int) ^ k) = ((2 ^ k : Nat) : Int) := by norm_cast
              rw [e, ← hq]
              exact wrap_u64_nat hq64
            obtain ⟨r, hr⟩ : ∃ r, r = x ||| q := ⟨_, rfl⟩
            have hor : bits .or .u64 (x : Int) (q : Int) = (r : Int) := by rw [hr]; exact bits_or_w hxs hq64
            have HR : Hid (r = wAt fs2 j ||| 2 ^ k) := by show _ = _; rw [hr, hx, hq]
            clear hx hq hr hxs hq64 r4 r5 r3 e2 e3
            go_wp2_with fail
            have d2 := HS4.out.s.c2
            refine wp_region_held_drew (S := (fun w' => w'.cell? ⟨sb, 2, none⟩ = some (.slice (some ⟨g, 0, none⟩) N N))) (by kernel_rfl) d2 (fun hHeld => ?_)
            have hd : Below w4.heap.size w4 w4.drew := (Below.refl w4.heap.size w4).drew
            obtain ⟨w5, hw5⟩ : ∃ w5, w5 = w4.drew := ⟨_, rfl⟩
            rw [← hw5] at hd hHeld ⊢
            clear hw5
            have HF5 : Hid (FW w2 g PS fs2 k j w5) := ⟨HF4.out.bel.trans (hd.mono HS4.out.hg), HF4.out.own.on hd, HF4.out.len, HF4.out.fit⟩
            have HS5 := Lib.hid (HST.out.below HF5.out.bel)
            have d5 := HS5.out.s.c2
            have hcell5 : w5.cell? ⟨g, j, none⟩ = some (.int .u64 (x : Int)) := by rw [hd.cell (p := ⟨g, j, none⟩) r2]; exact hcell
            have hfz5 : w5.frozen? ⟨g, j, none⟩ = false := HF5.out.own.frozen j
            clear hcell hd d2 d4 r1 r2
            refine takeH (i := 0) (v := ?_) rfl rfl (by kernel_rfl) (by kernel_rfl) (by kernel_rfl) (fun _ _ _ h => h) (by rfl) ?_ hHeld ?_
            rotate_left
            · (intro w hSw; (try dsimp only at hSw); first | (go_simp; done) | (go_simp; with_reducible rfl))
            simp only [Act.put, List.setIfInBounds_toArray, List.set_cons_zero, List.set_cons_succ]
            refine takeH (i := 1) (v := ?_) rfl rfl (by kernel_rfl) (by kernel_rfl) (by kernel_rfl) (fun _ _ _ h => h) (by rfl) ?_ hHeld ?_
            rotate_left
            · (intro w hSw; (try dsimp only at hSw); first | (go_simp; done) | (go_simp; with_reducible rfl))
            simp only [Act.put, List.setIfInBounds_toArray, List.set_cons_zero, List.set_cons_succ]
            refine takeH (i := 2) (v := ?_) rfl rfl (by kernel_rfl) (by kernel_rfl) (by kernel_rfl) (fun _ _ _ h => h) (by rfl) ?_ hHeld ?_
            rotate_left
            · (intro w hSw; (try dsimp only at hSw); first | (go_simp; done) | (go_simp; with_reducible rfl))
            simp only [Act.put, List.setIfInBounds_toArray, List.set_cons_zero, List.set_cons_succ]
            refine takeH (i := 3) (v := ?_) rfl rfl (by kernel_rfl) (by kernel_rfl) (by kernel_rfl) (fun _ _ _ h => h) (by rfl) ?_ hHeld ?_
            rotate_left
            · (intro w hSw; (try dsimp only at hSw); first | (go_simp; done) | (go_simp; with_reducible rfl))
            simp only [Act.put, List.setIfInBounds_toArray, List.set_cons_zero, List.set_cons_succ]
            refine takeH (i := 4) (v := ?_) rfl rfl (by kernel_rfl) (by kernel_rfl) (by kernel_rfl) (fun _ _ _ h => h) (by rfl) ?_ hHeld ?_
            rotate_left
            · (intro w hSw; (try dsimp only at hSw); first | (go_simp; done) | (go_simp; with_reducible rfl))
            simp only [Act.put, List.setIfInBounds_toArray, List.set_cons_zero, List.set_cons_succ]
            refine takeH (i := 5) (v := ?_) rfl rfl (by kernel_rfl) (by kernel_rfl) (by kernel_rfl) (fun _ _ _ h => h) (by rfl) ?_ hHeld ?_
            rotate_left
            · (intro w hSw; (try dsimp only at hSw); first | (go_simp; done) | (go_simp; with_reducible rfl))
            simp only [Act.put, List.setIfInBounds_toArray, List.set_cons_zero, List.set_cons_succ]
            refine takeH (i := 7) (v := ?_) rfl rfl (by kernel_rfl) (by kernel_rfl) (by kernel_rfl) (fun _ _ _ h => h) (by rfl) ?_ hHeld ?_
            rotate_left
            · (intro w hSw; (try dsimp only at hSw); first | (go_simp; done) | (go_simp; with_reducible rfl))
            simp only [Act.put, List.setIfInBounds_toArray, List.set_cons_zero, List.set_cons_succ]
            refine takeH (i := 8) (v := ?_) rfl rfl (by kernel_rfl) (by kernel_rfl) (by kernel_rfl) (fun _ _ _ h => h) (by rfl) ?_ hHeld ?_
            rotate_left
            · (intro w hSw; (try dsimp only at hSw); first | (go_simp; done) | (go_simp; with_reducible rfl))
            simp only [Act.put, List.setIfInBounds_toArray, List.set_cons_zero, List.set_cons_succ]
            refine wpAnyH_ready (rs := [6]) (by kernel_rfl) (by simp) ?_
            refine AllReadyH.cons rfl (fun K hK => ?_) AllReadyH.nil
            go_simp
            refine hK.out _ _ ?_ (fun hHeld => ?_)
            · exact d5
            clear hK K
            refine takeH (i := 9) (v := ?_) rfl rfl (by kernel_rfl) (by kernel_rfl) (by kernel_rfl) (fun _ _ _ h => h) (by rfl) ?_ hHeld ?_
            rotate_left
            · (intro w hSw; (try dsimp only at hSw); first | (go_simp; done) | (go_simp; with_reducible rfl))
            simp only [Act.put, List.setIfInBounds_toArray, List.set_cons_zero, List.set_cons_succ]
            refine takeH (i := 10) (v := ?_) rfl rfl (by kernel_rfl) (by kernel_rfl) (by kernel_rfl) (fun _ _ _ h => h) (by rfl) ?_ hHeld ?_
            rotate_left
            · (intro w hSw; (try dsimp only at hSw); first | (go_simp; done) | (go_simp; with_reducible rfl))
            simp only [Act.put, List.setIfInBounds_toArray, List.set_cons_zero, List.set_cons_succ]
            refine wpAnyH_ready (rs := [11]) (by kernel_rfl) (by simp) ?_
            refine AllReadyH.cons rfl (fun K hK => ?_) AllReadyH.nil
            go_simp
            have hset : Below g w5 (w5.setCell ⟨g, j, none⟩ (.int .u64 (r : Int))) := (Below.refl g w5).setCell (Nat.le_refl _) _
            have HF6 : Hid (FW w2 g PS (fs2.set j r) k (j + 1) (w5.setCell ⟨g, j, none⟩ (.int .u64 (r : Int)))) := ⟨HF5.out.bel.trans hset, HF5.out.own.put r, by rw [List.length_set]; exact HF5.out.len, by rw [HR.out]; exact HF5.out.fit.yes HF5.out.len (by have := HNN.out; omega) hlt2 HAG.out⟩
            have d6 := (HST.out.below HF6.out.bel).s.c2
            clear hset
            refine hK.out _ _ ?_ (fun hHeld => ?_)
            · exact d6
            clear hK K
            refine wpAnyH_done (by kernel_rfl) ?_ _
            go_wp2
            go_roundw
            case rel => exact ⟨j + 1, _, by go_num, by omega, HF6⟩
            case measure => simp [intOf]; omega
        · obtain rfl : j = k := by omega
          have HF3 : Hid (FW w2 g PS fs2 (j + 1) 0 wr) := ⟨HF2.out.bel, HF2.out.own, HF2.out.len, HF2.out.fit.next⟩
          go_wp2
          go_roundw
          case rel => exact ⟨j + 1, fs2, by go_num, by omega, HF3⟩
          case measure => simp [intOf]; omega
    · obtain rfl : k = N := by omega
      go_wp2
      (first | go_end0 | refine bodyPost_ret (results_none rfl _ _ _) rfl ?_)
      have hst := HST.out.below HF1.out.bel
      have hf := HF1.out
      refine ⟨rfl, ⟨.slice A0 PS.length c0, v1, fs1, ?_, ?_, hf.len, ?_⟩, HB2.out.trans (hf.bel.mono (by have := HST.out.lt; omega))⟩
      · rw [← HGG.out]; rw [HNN.out] at hst; exact hst
      · rw [← HGG.out]; exact hf.own
      · have := hf.fit; rw [HNN.out] at this; exact this
end Go.Proofs.YtcjpopjcpgipjaaDoor

namespace Go.Proofs.YtcjpopjcpgipjaaDoor
open Go.RowKit Go.Deep
set_option linter.unusedSimpArgs false
set_option linter.unusedVariables false
set_option maxRecDepth 100000

/-- From what has failed nothing can be chosen. -/
structure ChI (os fs : List Nat) (K n : Nat) (fl : List Nat) : Prop where
  len : fl.length = K
  few : ∀ m, m < K → wAt fl m < 2 ^ n
  no : ∀ m, m < K → ∀ js, ¬ Sel os fs K m (wAt fl m) js
theorem ChI.put {os fs fl : List Nat} {K n k S : Nat} (h : ChI os fs K n fl) (hk : k < K) (hS : S < 2 ^ n) (hno : ∀ js, ¬ Sel os fs K k S js) : ChI os fs K n (fl.set k S) := by
  have e : ∀ m, wAt (fl.set k S) m = if m = k then S else wAt fl m := fun m => by
    unfold wAt
    by_cases q : m = k
    · subst q
      rw [if_pos rfl, List.getD_eq_getElem?_getD, List.getElem?_set_self (by rw [h.len]; exact hk)]; rfl
    · rw [if_neg q, List.getD_eq_getElem?_getD, List.getElem?_set_ne (fun h => q h.symm), List.getD_eq_getElem?_getD]
  refine ⟨by rw [List.length_set]; exact h.len, fun m hm => ?_, fun m hm => ?_⟩
  · rw [e]
    by_cases q : m = k
    · rw [if_pos q]; exact hS
    · rw [if_neg q]; exact h.few m hm
  · rw [e]
    by_cases q : m = k
    · rw [if_pos q, q]; exact hno
    · rw [if_neg q]; exact h.no m hm
/-- What stands still while pairs are chosen. -/
structure StatC (w : World) (g g4 sb B K : Nat) (v0 v1 v2 : Value) (PS : List Pr) (os fs : List Nat) : Prop where
  st : Stat w g sb B v0 v1 v2 (.slice (some ⟨g, 0, none⟩) K K) (.slice (some ⟨g4, 0, none⟩) K K) PS os
  f : OwnW w (sb + 1) v2 fs
  fl : ∀ b, v2.ownBlock = some b → b < g
  tab : TabW w
  tb : 0 < B
theorem StatC.below {w w' : World} {g g4 sb B K : Nat} {v0 v1 v2 : Value} {PS : List Pr} {os fs : List Nat} (h : StatC w g g4 sb B K v0 v1 v2 PS os fs) (hb : Below g w w') : StatC w' g g4 sb B K v0 v1 v2 PS os fs :=
  ⟨h.st.below hb, owns_low h.f h.fl hb, h.fl, h.tab.below h.tb (hb.mono (by have := h.st.hB; have := h.st.lt; omega)), h.tb⟩
/-- What is written while pairs are chosen. -/
structure Dyn (w : World) (g g4 K n : Nat) (os fs fl : List Nat) (pl : List Int) : Prop where
  own : OwnW w g (.slice (some ⟨g, 0, none⟩) K K) fl
  pls : OwnI w (g + 1) (.slice (some ⟨g4, 0, none⟩) K K) pl
  plen : pl.length = K
  ch : ChI os fs K n fl
theorem Dyn.on {w w' : World} {g g4 K n : Nat} {os fs fl : List Nat} {pl : List Int} (h : Dyn w g g4 K n os fs fl pl) (hb : Below w.heap.size w w') : Dyn w' g g4 K n os fs fl pl := ⟨h.own.on hb, h.pls.on hb, h.plen, h.ch⟩
def ChoPost (g g4 K n k S : Nat) (PS : List Pr) (os fs : List Nat) (pl : List Int) (w : World) (e : Ending) (w' : World) : Prop :=
  Below g w w' ∧ ∃ fl', (e = .returned (.bool true) ∧ ∃ js, Sel os fs K k S js ∧ (∀ is, Sel os fs K k S is → leL js is) ∧ Dyn w' g g4 K n os fs fl' (pl.take k ++ js.map fun j => (idxAt PS j : Int))) ∨
    (e = .returned (.bool false) ∧ (∀ js, ¬ Sel os fs K k S js) ∧ Dyn w' g g4 K n os fs fl' pl)
/-- The pairs of a part that have not been tried yet. -/
structure OwnS (os fs : List Nat) (K k S own : Nat) : Prop where
  sub : ∀ j, own.testBit j = true → S.testBit j = true ∧ (wAt os k).testBit j = true
  tried : ∀ j js, own.testBit j = false → ¬ Sel os fs K k S (j :: js)
theorem OwnS.start {os fs : List Nat} {K k S : Nat} : OwnS os fs K k S (S &&& wAt os k) := by
  refine ⟨fun j hj => ?_, fun j js hj h => ?_⟩
  · rw [Nat.testBit_and, Bool.and_eq_true] at hj; exact hj
  · rw [Nat.testBit_and, h.2.1, h.2.2.1] at hj; cases hj
theorem OwnS.next {os fs : List Nat} {K k S own : Nat} (h : OwnS os fs K k S own) (h0 : own ≠ 0) (h64 : own < 2 ^ 64) (hno : ∀ js, ¬ Sel os fs K (k + 1) (restW os fs k S (Lib.ctz 64 own)) js) : OwnS os fs K k S (own &&& (own - 1)) := by
  obtain ⟨c1, c2, c3, c4⟩ := ctz_bits h0 h64
  refine ⟨fun j hj => ?_, fun j js hj hs => ?_⟩
  · rw [c3, Bool.and_eq_true] at hj; exact h.sub j hj.1
  · rw [c3] at hj
    by_cases e : j = Lib.ctz 64 own
    · subst e; exact hno js hs.2.2.2
    · have hj' : own.testBit j = false := by simpa [e] using hj
      exact h.tried j js hj' hs
theorem OwnS.none_ {os fs : List Nat} {K k S : Nat} (h : OwnS os fs K k S 0) (hk : k < K) : ∀ js, ¬ Sel os fs K k S js
  | [], hs => by have : k = K := hs; omega
  | j :: js, hs => h.tried j js (Nat.zero_testBit j) hs
theorem OwnS.some_ {os fs : List Nat} {K k S own : Nat} {js : List Nat} (h : OwnS os fs K k S own) (hk : k < K) (h0 : own ≠ 0) (h64 : own < 2 ^ 64) (hs : Sel os fs K (k + 1) (restW os fs k S (Lib.ctz 64 own)) js) (hm : ∀ is, Sel os fs K (k + 1) (restW os fs k S (Lib.ctz 64 own)) is → leL js is) :
    Sel os fs K k S (Lib.ctz 64 own :: js) ∧ ∀ is, Sel os fs K k S is → leL (Lib.ctz 64 own :: js) is := by
  obtain ⟨c1, c2, c3, c4⟩ := ctz_bits h0 h64
  obtain ⟨s1, s2⟩ := h.sub _ c1
  refine ⟨⟨hk, s1, s2, hs⟩, fun is hi => ?_⟩
  cases is with
  | nil => have : k = K := hi; omega
  | cons j is =>
    by_cases e : j = Lib.ctz 64 own
    · subst e
      exact .inr ⟨rfl, hm is hi.2.2.2⟩
    · refine .inl ?_
      rcases Nat.lt_or_ge j (Lib.ctz 64 own) with q | q
      · exact absurd hi (h.tried j is (c2 j q))
      · omega
theorem BW1 {g : Nat} {w w1 w2 : World} (h : Below g w w1) (k : Below g w1 w2) : Below g w w2 := h.trans k
theorem pl_put {pl : List Int} {k K x : Nat} {xs : List Int} (hl : pl.length = K) (hk : k < K) (hx : xs.length + (k + 1) = K) : (pl.take (k + 1) ++ xs).set k (x : Int) = pl.take k ++ ((x : Int) :: xs) := by
  have e : pl.take (k + 1) = pl.take k ++ [pl[k]'(by omega)] := by rw [List.take_succ_eq_append_getElem (by omega)]
  rw [e, List.append_assoc, List.set_append_right _ _ (by rw [List.length_take]; omega), List.length_take, Nat.min_eq_left (by omega), Nat.sub_self]
  rfl
set_option maxHeartbeats 8000000 in
theorem choose_any (g g4 sb B K n : Nat) (v0 v1 v2 : Value) (PS : List Pr) (os fs : List Nat) (hn : PS.length = n) (hn60 : n ≤ 60) (hK : os.length = K) (hK1 : K ≤ 100) (hfs : fs.length = n) (hof : ∀ m, m < K → wAt os m < 2 ^ n) (hff : ∀ j, j < n → wAt fs j < 2 ^ n) : ∀ (d k S : Nat) (fl : List Nat) (pl : List Int) (w : World),
    k + d = K → S < 2 ^ n → StatC w g g4 sb B K v0 v1 v2 PS os fs → Dyn w g g4 K n os fs fl pl →
    Calls Tryd.prog 56 #[.pointer (some ⟨sb, 0, none⟩), .int .i64 (k : Int), .int .u64 (S : Int)] w (ChoPost g g4 K n k S PS os fs pl w) := by
  have H64 : Hid (2 ^ n ≤ 2 ^ 64) := Nat.pow_le_pow_right (by omega) (by omega)
  have HN := Lib.hid hn
  have HKK := Lib.hid hK
  have HFS := Lib.hid hfs
  have HOF := Lib.hid hof
  have HFF := Lib.hid hff
  clear hn hK hfs hof hff
  intro d
  induction d with
  | zero =>
    intro k S fl pl w hkd hS hst hdy
    have HST := Lib.hid hst
    have HDY := Lib.hid hdy
    obtain ⟨A1, c1, rfl⟩ := hst.st.o.len_
    have hc1 := hst.st.s.c1
    rw [HKK.out] at hc1
    have e : k = K := by omega
    subst e
    clear hst hdy
    go_enter Tryd.func56, Tryd.ntmps56
    go_wp2
    go_ret
    refine ⟨Below.refl _ _, fl, .inl ⟨rfl, [], rfl, fun is _ => by simp [leL], ?_⟩⟩
    rw [List.map_nil, List.append_nil, List.take_of_length_le (by rw [HDY.out.plen]; exact Nat.le_refl _)]
    exact HDY.out
  | succ d ih =>
    intro k S fl pl w hkd hS hst hdy
    have IH := Lib.hid ih
    have HST := Lib.hid hst
    have HDY := Lib.hid hdy
    have HS := Lib.hid hS
    obtain ⟨A1, c1, rfl⟩ := hst.st.o.len_
    have hc1 := hst.st.s.c1
    have hc3 := hst.st.s.c3
    rw [HKK.out] at hc1
    have hkK : k < K := by omega
    have hne : ((k : Int) == (K : Int)) = false := by simp; omega
    have zk0 : (0 : Int) ≤ (k : Int) := by omega
    have zk1 : (k : Int) < (K : Int) := by omega
    obtain ⟨gg, cp, e9, r1, r2, r3, r4, r5⟩ := hdy.own.cells (by have := hdy.ch.len; omega)
    injection e9 with e1 e2 e3
    injection e1 with e1
    injection e1 with e1
    subst e1
    have hcell := r4 k (by have := hdy.ch.len; omega)
    obtain ⟨f, hf⟩ : ∃ f, f = wAt fl k := ⟨_, rfl⟩
    rw [← hf] at hcell
    have hf64 : f < 2 ^ 64 := by rw [hf]; exact Nat.lt_of_lt_of_le (hdy.ch.few k hkK) H64.out
    have hS64 : S < 2 ^ 64 := Nat.lt_of_lt_of_le hS H64.out
    have hdf := bits_andNot_w hS64 hf64
    obtain ⟨y, hy⟩ : ∃ y, y = dif S f := ⟨_, rfl⟩
    rw [← hy] at hdf
    have HY := Lib.hid hy
    have HF := Lib.hid hf
    have HS64 := Lib.hid hS64
    clear ih hst hdy hS hf hf64 hS64 hy r4 r5 e2 e3 r1 r3
    by_cases hy0 : y = 0
    · have H : Hid (∀ js, ¬ Sel os fs K k S js) := fun js hs => by
        refine HDY.out.ch.no k hkK js (hs.mono fun i hi => ?_)
        have q : (dif S f).testBit i = false := by rw [← HY.out, hy0]; exact Nat.zero_testBit i
        rw [dif_bit, hi] at q
        rw [← HF.out]
        simpa using q
      subst hy0
      go_enter Tryd.func56, Tryd.ntmps56
      go_wp2
      go_ret
      exact ⟨Below.refl _ _, fl, .inr ⟨rfl, H.out, HDY.out⟩⟩
    · have hy1 : ((y : Int) == 0) = false := by simp; omega
      have hO := HST.out.st.o
      obtain ⟨g1, cp1, e9, r1, r2', r3, r4, r5⟩ := hO.cells (by rw [HKK.out]; omega)
      rw [HKK.out] at e9
      injection e9 with e1 e2 e3
      subst e1
      subst e3
      have hcell1 := r4 k (by rw [HKK.out]; omega)
      obtain ⟨o, ho⟩ : ∃ o, o = wAt os k := ⟨_, rfl⟩
      rw [← ho] at hcell1
      have ho64 : o < 2 ^ 64 := by rw [ho]; exact Nat.lt_of_lt_of_le (HOF.out k hkK) H64.out
      have hand := bits_and_w HS64.out ho64
      obtain ⟨z, hz⟩ : ∃ z, z = S &&& o := ⟨_, rfl⟩
      rw [← hz] at hand
      have HO64 := Lib.hid ho64
      have HO := Lib.hid ho
      have hg1 : g1 < g := HST.out.st.ol g1 rfl
      have HZ : Hid (OwnS os fs K k S z) := by show OwnS _ _ _ _ _ _; rw [hz, ho]; exact OwnS.start
      have HZ2 : Hid (z < 2 ^ n) := by show _ < _; rw [hz]; exact Nat.lt_of_le_of_lt Nat.and_le_left HS.out
      clear ho64 ho hz hO r4 r5 e2 r1 r3 hy0
      go_enter Tryd.func56, Tryd.ntmps56
      go_wp2
      go_loopw [7] (fun i wr => ∃ (own : Nat) (fl' : List Nat), i = .int .u64 own ∧ Hid (OwnS os fs K k S own) ∧ Hid (own < 2 ^ n) ∧ Below g w wr ∧ Hid (Dyn wr g g4 K n os fs fl' pl)) (fun i _ => (intOf i).toNat)
      case atStart => exact ⟨z, fl, rfl, HZ, HZ2, Below.refl _ _, HDY⟩
      case round =>
        obtain ⟨own, fl1, rfl, HOW, HOW2, hbw, HD1⟩ := hrel
        have HBW := Lib.hid hbw
        have HS1 := Lib.hid (HST.out.below hbw)
        clear hbw
        by_cases hw0 : own = 0
        · subst hw0
          have H : Hid (∀ js, ¬ Sel os fs K k S js) := HOW.out.none_ hkK
          have hc3w := HS1.out.st.s.c3
          obtain ⟨gg, cp, e9, r1, r2w, r3, r4, r5⟩ := HD1.out.own.cells (by have := HD1.out.ch.len; omega)
          injection e9 with e1 e2 e3
          injection e1 with e1
          injection e1 with e1
          subst e1
          have hcellw := r4 k (by have := HD1.out.ch.len; omega)
          have hfzw := r5 k
          clear r1 r3 r4 r5 e2 e3
          go_wp2
          go_ret
          have hset := HD1.out.own.put_chg (i := k) (.int .u64 (S : Int))
          exact ⟨BW1 HBW.out hset.bel, fl1.set k S, .inr ⟨rfl, H.out, HD1.out.own.put S, hset.own (by decide) HD1.out.pls, HD1.out.plen, HD1.out.ch.put hkK HS.out H.out⟩⟩
        · have hw1 : ((own : Int) == 0) = false := by simp; omega
          have hw2 : ((own : Int) != 0) = true := by simp; omega
          have hw64 : own < 2 ^ 64 := Nat.lt_of_lt_of_le HOW2.out H64.out
          have HC := Lib.hid (ctz_bits hw0 hw64)
          have HW0 := Lib.hid hw0
          have HW64 := Lib.hid hw64
          obtain ⟨i, hi⟩ : ∃ i, i = Lib.ctz 64 own := ⟨_, rfl⟩
          have hin : i < n := by
            rw [hi]
            rcases Nat.lt_or_ge (Lib.ctz 64 own) n with q | q
            · exact q
            · have := HC.out.1
              rw [Nat.testBit_lt_two_pow (Nat.lt_of_lt_of_le HOW2.out (Nat.pow_le_pow_right (by omega) q))] at this
              cases this
          have HI := Lib.hid hi
          have htz := tz_any own wr hw64 hw0 HS1.out.tab
          rw [← hi] at htz
          clear hw0 hw64 hi
          go_wp2_with fail
          refine htz.mono ?_
          rintro e wT ⟨rfl, rfl⟩
          clear htz
          -- the rest of the round
          obtain ⟨g2, cp2, e9, s1, s2, s3, s4, s5⟩ := HS1.out.f.cells (by rw [HFS.out]; omega)
          have HV2 := Lib.hid e9
          have hc2w := HS1.out.st.s.c2
          have hc1w := HS1.out.st.s.c1
          rw [e9, HFS.out] at hc2w
          rw [HKK.out] at hc1w
          have hcf := s4 i (by rw [HFS.out]; exact hin)
          obtain ⟨fw, hfw⟩ : ∃ fw, fw = wAt fs i := ⟨_, rfl⟩
          rw [← hfw] at hcf
          have hco : wT.cell? ⟨g1, k, none⟩ = some (.int .u64 (o : Int)) := by rw [HBW.out.cell (p := ⟨g1, k, none⟩) hg1]; exact hcell1
          have hfw64 : fw < 2 ^ 64 := by rw [hfw]; exact Nat.lt_of_lt_of_le (HFF.out i hin) H64.out
          have hb1 := bits_and_w HS64.out hfw64
          obtain ⟨m1, hm1⟩ : ∃ m1, m1 = S &&& fw := ⟨_, rfl⟩
          rw [← hm1] at hb1
          have hm164 : m1 < 2 ^ 64 := by rw [hm1]; exact Nat.lt_of_le_of_lt Nat.and_le_left HS64.out
          have hm1n : m1 < 2 ^ n := by rw [hm1]; exact Nat.lt_of_le_of_lt Nat.and_le_left HS.out
          have hb2 := bits_andNot_w hm164 HO64.out
          obtain ⟨rw_, hrw⟩ : ∃ r, r = dif m1 o := ⟨_, rfl⟩
          rw [← hrw] at hb2
          have hrn : rw_ < 2 ^ n := by rw [hrw]; exact dif_lt hm1n
          have HR : Hid (rw_ = restW os fs k S i) := by show _ = _; rw [hrw, hm1, hfw, HO.out]; rfl
          have HRN := Lib.hid hrn
          have zi0 : (0 : Int) ≤ (i : Int) := by omega
          have zi1 : (i : Int) < (n : Int) := by omega
          clear e9 s1 s3 s4 s5 hfw hm1 hrw hfw64 hm164 hm1n hrn
          go_wp2_with fail
          go_quiet (fail)
          obtain ⟨w5, hw5⟩ : ∃ w5, w5 = wT.drewN nq := ⟨_, rfl⟩
          rw [← hw5]
          have hb5 : Below wT.heap.size wT w5 := by rw [hw5]; exact below_drewN _ _
          clear hw5
          have hgT : g ≤ wT.heap.size := HS1.out.st.hg
          have HS5 := Lib.hid (HS1.out.below (hb5.mono hgT))
          have HD5 := Lib.hid (HD1.out.on hb5)
          have HB5 : Hid (Below g w w5) := HBW.out.trans (hb5.mono hgT)
          have hop := isOpen_any sb (k + 1) rw_ (sb + 1) _ _ _ _ _ os w5 HS5.out.st.s HS5.out.st.o (by rw [HKK.out]; omega) (fun m hm => Nat.lt_of_lt_of_le (HOF.out m (by rw [HKK.out] at hm; exact hm)) H64.out) (Nat.lt_of_lt_of_le HRN.out H64.out) (by rw [HKK.out]; omega)
          rw [show (((k + 1 : Nat)) : Int) = (k : Int) + 1 from rfl] at hop
          have HCT : Hid (own &&& (own - 1) < own) := HC.out.2.2.2
          obtain ⟨o1, ho1⟩ : ∃ o1, o1 = own - 1 := ⟨_, rfl⟩
          obtain ⟨o2, ho2⟩ : ∃ o2, o2 = own &&& (own - 1) := ⟨_, rfl⟩
          have hsub : IntKind.u64.wrap ((own : Int) - 1) = (o1 : Int) := by
            have e : (own : Int) - 1 = ((own - 1 : Nat) : Int) := by have := HW0.out; omega
            rw [e, ← ho1]
            exact wrap_u64_nat (by have := HW64.out; omega)
          have hb3 : bits .and .u64 (own : Int) (o1 : Int) = (o2 : Int) := by rw [ho2, ← ho1]; exact bits_and_w HW64.out (by have := HW64.out; omega)
          have HO2 := Lib.hid ho2
          have hlt2 : o2 < own := by rw [ho2]; exact HCT.out
          have HO2N : Hid (o2 < 2 ^ n) := Nat.lt_trans hlt2 HOW2.out
          clear ho1 ho2 hb5 hc2w hc1w hcf hco hb1 hb2
          go_wp2_with fail
          refine hop.mono ?_
          rintro e w6 ⟨rfl, rfl⟩
          clear hop
          cases hopen : openB os (k + 1) rw_
          · have HNO : Hid (OwnS os fs K k S o2) := by
              show OwnS _ _ _ _ _ _
              rw [HO2.out]
              refine HOW.out.next HW0.out HW64.out fun js hs => ?_
              have h2 := openB_iff.2 fun m h1 h2 => hs.open_ m h1 (by rw [HKK.out] at h2; exact h2)
              rw [← HI.out, ← HR.out, hopen] at h2
              cases h2
            clear hopen
            go_wp2
            go_roundw
            case rel => exact ⟨o2, fl1, rfl, HNO, HO2N, HB5.out, HD5⟩
            case measure => simp [intOf]; omega
          · clear hopen
            have hrec := IH.out (k + 1) rw_ fl1 pl w5 (by omega) HRN.out HS5.out HD5.out
            rw [show (((k + 1 : Nat)) : Int) = (k : Int) + 1 from rfl] at hrec
            go_wp2_with fail
            refine hrec.mono ?_
            rintro e w7 ⟨hb7, fl7, ⟨rfl, js, hs, hm, hd⟩ | ⟨rfl, hno, hd⟩⟩
            · have HB7 := Lib.hid (HB5.out.trans hb7)
              have HS7 := Lib.hid (HS5.out.below hb7)
              have HD7 := Lib.hid hd
              have HSEL : Hid (Sel os fs K k S (Lib.ctz 64 own :: js) ∧ ∀ is, Sel os fs K k S is → leL (Lib.ctz 64 own :: js) is) := by
                rw [HR.out, HI.out] at hs hm
                exact HOW.out.some_ hkK HW0.out HW64.out hs hm
              have HJL := Lib.hid hs.length
              clear hrec hb7 hd hs hm
              obtain ⟨g0, cp0, e9, t1, t2, t3, t4⟩ := HS7.out.st.p.cells (by rw [HN.out]; omega)
              rw [HN.out] at e9
              have hg0 : g0 < g := HS7.out.st.pl g0 (by rw [e9]; rfl)
              obtain ⟨hix, -⟩ := t4 i (by rw [HN.out]; exact hin)
              have hc0w := HS7.out.st.s.c0
              have hc4w := HS7.out.st.s.c4
              rw [e9] at hc0w
              obtain ⟨x, hx⟩ : ∃ x, x = (prAt PS i).idx := ⟨_, rfl⟩
              rw [← hx] at hix
              have HX : Hid (x = idxAt PS (Lib.ctz 64 own)) := by show _ = _; rw [← HI.out, hx]; rfl
              obtain ⟨gp, cpp, cur, e8, p1, p2, p3⟩ := HD7.out.pls.block (by rw [HD7.out.plen]; omega)
              have e1 := (Value.slice.inj e8).1
              clear e8
              injection e1 with e1
              injection e1 with e1
              subst e1
              have hfzp : w7.frozen? ⟨g4, k, none⟩ = false := frozen_of_row _ _ _ _ _ p2
              obtain ⟨A9, cap9, e7, p4, p5⟩ := HD7.out.pls.intsAt
              have e1 := (Value.slice.inj e7).1
              clear e7
              subst e1
              obtain ⟨b9, o9, e6, p6, p7⟩ := p5.at_ (by rw [HD7.out.plen]; omega)
              injection e6 with e6
              injection e6 with e1 e2
              subst e1
              subst e2
              have hcp := p7 k (by rw [HD7.out.plen]; exact hkK)
              rw [Nat.zero_add] at hcp
              have HP2 := Lib.hid p2
              have HP1 := Lib.hid p1
              clear e9 t1 t2 t3 t4 hx p2 p3 p4 p5 p6 p7
              go_wp2_with fail
              refine wp_region_held_drew (S := (fun w' => w'.cell? ⟨sb, 0, none⟩ = some (.slice (some ⟨g0, 0, none⟩) n cp0) ∧ w'.cell? ⟨sb, 4, none⟩ = some (.slice (some ⟨g4, 0, none⟩) K K) ∧ w'.cell? ⟨g0, i * 25, none⟩ = some (.int .i64 (x : Int)))) (by kernel_rfl) ⟨hc0w, hc4w, hix⟩ (fun hHeld => ?_)
              have hd : Below w7.heap.size w7 w7.drew := (Below.refl w7.heap.size w7).drew
              obtain ⟨w8, hw8⟩ : ∃ w8, w8 = w7.drew := ⟨_, rfl⟩
              rw [← hw8] at hd hHeld ⊢
              clear hw8
              have hg7 : g ≤ w7.heap.size := HS7.out.st.hg
              have HB8 : Hid (Below g w w8) := HB7.out.trans (hd.mono hg7)
              have HD8 := Lib.hid (HD7.out.on hd)
              have e0 : w8.cell? ⟨sb, 0, none⟩ = some (.slice (some ⟨g0, 0, none⟩) n cp0) := by rw [hd.cell (p := ⟨sb, 0, none⟩) (by have := HS7.out.st.lt; show sb < _; omega)]; exact hc0w
              have e4 : w8.cell? ⟨sb, 4, none⟩ = some (.slice (some ⟨g4, 0, none⟩) K K) := by rw [hd.cell (p := ⟨sb, 4, none⟩) (by have := HS7.out.st.lt; show sb < _; omega)]; exact hc4w
              have ei : w8.cell? ⟨g0, i * 25, none⟩ = some (.int .i64 (x : Int)) := by rw [hd.cell (p := ⟨g0, i * 25, none⟩) (by show g0 < _; omega)]; exact hix
              have hlt4 : g4 < w7.heap.size := (Array.getElem?_eq_some_iff.1 HP2.out).1
              have hfz8 : w8.frozen? ⟨g4, k, none⟩ = false := frozen_of_row _ _ _ _ _ (by rw [hd.block g4 hlt4]; exact HP2.out)
              have hcp8 : w8.cell? ⟨g4, k, none⟩ = some (.int .i64 (intAt (pl.take (k + 1) ++ js.map fun j => (idxAt PS j : Int)) k)) := by rw [hd.cell (p := ⟨g4, k, none⟩) hlt4]; exact hcp
              have HP8 : Hid (w8.heap[g4]? = some (.cells cur 3 (0, 0))) := by show _ = _; rw [hd.block g4 hlt4]; exact HP2.out
              have hsb : sb < g := HS7.out.st.lt
              have hset8 : Chg [3] (g + 1) w8 (w8.setCell ⟨g4, k, none⟩ (.int .i64 (x : Int))) := Chg.set HP8.out HP1.out _
              have HSET8 := Lib.hid hset8
              clear hc0w hc4w hix hfzp hcp hd hset8
              refine takeH (i := 0) (v := ?_) rfl rfl (by kernel_rfl) (by kernel_rfl) (by kernel_rfl) (fun _ _ _ h => h) (by rfl) ?_ hHeld ?_
              rotate_left
              · (intro w hSw; (try dsimp only at hSw); first | (go_simp; done) | (go_simp; with_reducible rfl))
              simp only [Act.put, List.setIfInBounds_toArray, List.set_cons_zero, List.set_cons_succ]
              refine takeH (i := 1) (v := ?_) rfl rfl (by kernel_rfl) (by kernel_rfl) (by kernel_rfl) (fun _ _ _ h => h) (by rfl) ?_ hHeld ?_
              rotate_left
              · (intro w hSw; (try dsimp only at hSw); first | (go_simp; done) | (go_simp; with_reducible rfl))
              simp only [Act.put, List.setIfInBounds_toArray, List.set_cons_zero, List.set_cons_succ]
              refine takeH (i := 2) (v := ?_) rfl rfl (by kernel_rfl) (by kernel_rfl) (by kernel_rfl) (fun _ _ _ h => h) (by rfl) ?_ hHeld ?_
              rotate_left
              · (intro w hSw; (try dsimp only at hSw); first | (go_simp; done) | (go_simp; with_reducible rfl))
              simp only [Act.put, List.setIfInBounds_toArray, List.set_cons_zero, List.set_cons_succ]
              refine takeH (i := 3) (v := ?_) rfl rfl (by kernel_rfl) (by kernel_rfl) (by kernel_rfl) (fun _ _ _ h => h) (by rfl) ?_ hHeld ?_
              rotate_left
              · (intro w hSw; (try dsimp only at hSw); first | (go_simp; done) | (go_simp; with_reducible rfl))
              simp only [Act.put, List.setIfInBounds_toArray, List.set_cons_zero, List.set_cons_succ]
              refine takeH (i := 4) (v := ?_) rfl rfl (by kernel_rfl) (by kernel_rfl) (by kernel_rfl) (fun _ _ _ h => h) (by rfl) ?_ hHeld ?_
              rotate_left
              · (intro w hSw; (try dsimp only at hSw); first | (go_simp; done) | (go_simp; with_reducible rfl))
              simp only [Act.put, List.setIfInBounds_toArray, List.set_cons_zero, List.set_cons_succ]
              refine takeH (i := 5) (v := ?_) rfl rfl (by kernel_rfl) (by kernel_rfl) (by kernel_rfl) (fun _ _ _ h => h) (by rfl) ?_ hHeld ?_
              rotate_left
              · (intro w hSw; (try dsimp only at hSw); first | (go_simp; done) | (go_simp; with_reducible rfl))
              simp only [Act.put, List.setIfInBounds_toArray, List.set_cons_zero, List.set_cons_succ]
              refine takeH (i := 6) (v := ?_) rfl rfl (by kernel_rfl) (by kernel_rfl) (by kernel_rfl) (fun _ _ _ h => h) (by rfl) ?_ hHeld ?_
              rotate_left
              · (intro w hSw; (try dsimp only at hSw); first | (go_simp; done) | (go_simp; with_reducible rfl))
              simp only [Act.put, List.setIfInBounds_toArray, List.set_cons_zero, List.set_cons_succ]
              refine takeH (i := 7) (v := ?_) rfl rfl (by kernel_rfl) (by kernel_rfl) (by kernel_rfl) (fun _ _ _ h => h) (by rfl) ?_ hHeld ?_
              rotate_left
              · (intro w hSw; (try dsimp only at hSw); first | (go_simp; done) | (go_simp; with_reducible rfl))
              simp only [Act.put, List.setIfInBounds_toArray, List.set_cons_zero, List.set_cons_succ]
              refine takeH (i := 8) (v := ?_) rfl rfl (by kernel_rfl) (by kernel_rfl) (by kernel_rfl) (fun _ _ _ h => h) (by rfl) ?_ hHeld ?_
              rotate_left
              · (intro w hSw; (try dsimp only at hSw); first | (go_simp; done) | (go_simp; with_reducible rfl))
              simp only [Act.put, List.setIfInBounds_toArray, List.set_cons_zero, List.set_cons_succ]
              refine takeH (i := 9) (v := ?_) rfl rfl (by kernel_rfl) (by kernel_rfl) (by kernel_rfl) (fun _ _ _ h => h) (by rfl) ?_ hHeld ?_
              rotate_left
              · (intro w hSw; (try dsimp only at hSw); first | (go_simp; done) | (go_simp; with_reducible rfl))
              simp only [Act.put, List.setIfInBounds_toArray, List.set_cons_zero, List.set_cons_succ]
              refine takeH (i := 10) (v := ?_) rfl rfl (by kernel_rfl) (by kernel_rfl) (by kernel_rfl) (fun _ _ _ h => h) (by rfl) ?_ hHeld ?_
              rotate_left
              · (intro w hSw; (try dsimp only at hSw); first | (go_simp; done) | (go_simp; with_reducible rfl))
              simp only [Act.put, List.setIfInBounds_toArray, List.set_cons_zero, List.set_cons_succ]
              refine takeH (i := 11) (v := ?_) rfl rfl (by kernel_rfl) (by kernel_rfl) (by kernel_rfl) (fun _ _ _ h => h) (by rfl) ?_ hHeld ?_
              rotate_left
              · (intro w hSw; (try dsimp only at hSw); first | (go_simp; done) | (go_simp; with_reducible rfl))
              simp only [Act.put, List.setIfInBounds_toArray, List.set_cons_zero, List.set_cons_succ]
              refine takeH (i := 12) (v := ?_) rfl rfl (by kernel_rfl) (by kernel_rfl) (by kernel_rfl) (fun _ _ _ h => h) (by rfl) ?_ hHeld ?_
              rotate_left
              · (intro w hSw; (try dsimp only at hSw); first | (go_simp; done) | (go_simp; with_reducible rfl))
              simp only [Act.put, List.setIfInBounds_toArray, List.set_cons_zero, List.set_cons_succ]
              refine takeH (i := 13) (v := ?_) rfl rfl (by kernel_rfl) (by kernel_rfl) (by kernel_rfl) (fun _ _ _ h => h) (by rfl) ?_ hHeld ?_
              rotate_left
              · (intro w hSw; (try dsimp only at hSw); first | (go_simp; done) | (go_simp; with_reducible rfl))
              simp only [Act.put, List.setIfInBounds_toArray, List.set_cons_zero, List.set_cons_succ]
              refine wpAnyH_ready (rs := [14]) (by kernel_rfl) (by simp) ?_
              refine AllReadyH.cons rfl (fun K hK => ?_) AllReadyH.nil
              go_simp
              refine hK.out _ _ ?_ (fun hHeld => ?_)
              · exact ⟨by rw [HSET8.out.bel.cell (p := ⟨sb, 0, none⟩) (by show sb < _; omega)]; exact e0, by rw [HSET8.out.bel.cell (p := ⟨sb, 4, none⟩) (by show sb < _; omega)]; exact e4, by rw [HSET8.out.bel.cell (p := ⟨g0, i * 25, none⟩) (by show g0 < _; omega)]; exact ei⟩
              clear hK K
              refine wpAnyH_done (by kernel_rfl) ?_ _
              go_wp2
              go_ret
              refine ⟨HB8.out.trans (HSET8.out.bel.mono (by omega)), fl7, .inl ⟨rfl, _, HSEL.out.1, HSEL.out.2, HD8.out.own.chg HSET8.out (by decide), ?_, ?_, HD8.out.ch⟩⟩
              · have hput := HD8.out.pls.put (i := k) (x : Int)
                rw [pl_put HDY.out.plen hkK (by rw [List.length_map]; have := HJL.out; omega)] at hput
                rw [List.map_cons, ← HX.out]
                exact hput
              · rw [List.length_append, List.length_take, List.length_map, List.length_cons, HDY.out.plen]
                have := HJL.out
                omega
            · have HNO : Hid (OwnS os fs K k S o2) := by
                show OwnS _ _ _ _ _ _
                rw [HO2.out]
                rw [HR.out, HI.out] at hno
                exact HOW.out.next HW0.out HW64.out hno
              have HB7 := Lib.hid (HB5.out.trans hb7)
              have HD7 := Lib.hid hd
              clear hrec hb7 hd hno
              go_wp2
              go_roundw
              case rel => exact ⟨o2, fl7, rfl, HNO, HO2N, HB7.out, HD7⟩
              case measure => simp [intOf]; omega
end Go.Proofs.YtcjpopjcpgipjaaDoor

namespace Go.Proofs.YtcjpopjcpgipjaaDoor
open Go.RowKit Go.Deep
set_option linter.unusedSimpArgs false
set_option linter.unusedVariables false
set_option maxRecDepth 100000

theorem Stat.raise {w : World} {g g' sb B : Nat} {v0 v1 v2 v3 v4 : Value} {PS : List Pr} {os : List Nat} (h : Stat w g sb B v0 v1 v2 v3 v4 PS os) (h1 : g ≤ g') (h2 : g' ≤ w.heap.size) : Stat w g' sb B v0 v1 v2 v3 v4 PS os :=
  ⟨h.s, by have := h.lt; omega, h.p, fun b hb => by have := h.pl b hb; omega, h.o, fun b hb => by have := h.ol b hb; omega, h.hB, h2⟩
theorem Stat.set3 {w : World} {g sb B : Nat} {v0 v1 v2 v3 v4 : Value} {PS : List Pr} {os : List Nat} (h : Stat w g sb B v0 v1 v2 v3 v4 PS os) (u : Value) : Stat (w.setCell ⟨sb, 3, none⟩ u) g sb B v0 v1 v2 u v4 PS os :=
  ⟨h.s.set3 u, h.lt, h.p.chg (h.s.set_chg 3 u) (by decide) h.hB, h.pl, h.o.chg (h.s.set_chg 3 u) (by decide), h.ol, h.hB, by have := (h.s.set_chg 3 u).bel.size; have := h.hg; omega⟩
theorem Stat.set4 {w : World} {g sb B : Nat} {v0 v1 v2 v3 v4 : Value} {PS : List Pr} {os : List Nat} (h : Stat w g sb B v0 v1 v2 v3 v4 PS os) (u : Value) : Stat (w.setCell ⟨sb, 4, none⟩ u) g sb B v0 v1 v2 v3 u PS os :=
  ⟨h.s.set4 u, h.lt, h.p.chg (h.s.set_chg 4 u) (by decide) h.hB, h.pl, h.o.chg (h.s.set_chg 4 u) (by decide), h.ol, h.hB, by have := (h.s.set_chg 4 u).bel.size; have := h.hg; omega⟩
/-- A set by its bits. -/
def bitsOf (P : Nat → Bool) : Nat → Nat
  | 0 => 0
  | n + 1 => if P n then bitsOf P n ||| 2 ^ n else bitsOf P n
theorem bitsOf_bit {P : Nat → Bool} {n j : Nat} : (bitsOf P n).testBit j = (decide (j < n) && P j) := by
  induction n with
  | zero => unfold bitsOf; simp
  | succ n ih =>
    unfold bitsOf
    by_cases q : j = n
    · subst q
      cases hp : P j
      · simp [ih, hp]
      · rw [if_pos rfl, Nat.testBit_or, Nat.testBit_two_pow, ih, hp]; simp
    · have e : decide (j < n + 1) = decide (j < n) := by
        by_cases h : j < n
        · simp [h]; omega
        · have : ¬ j < n + 1 := by omega
          simp [h, this]
      rw [e]
      split
      · rw [Nat.testBit_or, Nat.testBit_two_pow, ih]
        have : ¬ n = j := fun h => q h.symm
        simp [this]
      · exact ih
def fsOf (PS : List Pr) : List Nat := (List.range PS.length).map fun j => bitsOf (fun j' => decide (j < j') && agrB (prAt PS j').pcs (prAt PS j).pcs) PS.length
theorem fsOf_fit {PS : List Pr} : FitK PS (fsOf PS) PS.length 0 := fun j hj j' => by
  have e : wAt (fsOf PS) j = bitsOf (fun j' => decide (j < j') && agrB (prAt PS j').pcs (prAt PS j).pcs) PS.length := by
    unfold wAt fsOf
    rw [List.getD_eq_getElem?_getD, List.getElem?_map, List.getElem?_range hj]; rfl
  rw [e, bitsOf_bit]
  simp only [Bool.and_eq_true, decide_eq_true_eq]
  constructor
  · rintro ⟨h1, h2, h3⟩; exact ⟨h2, .inl h1, h1, h3⟩
  · rintro ⟨h1, _, h2, h3⟩; exact ⟨h2, h1, h3⟩
theorem Good.prs {ss : List Sym} {xs : List Lt} {ys : List (List Lt)} {PS : List Pr} {os fs : List Nat} (h : Good PS os) (hall : PS = allPr ss xs ys xs.length) (hK : os.length = xs.length) (hf : FitK PS fs PS.length 0) : Prs ss xs ys PS os fs := by
  refine ⟨hall, fun k hk j => h.of_ k (by omega) j, fun j j' hj => ?_⟩
  rw [hf j hj j']
  constructor
  · rintro ⟨h1, _, h2, h3⟩
    exact ⟨h1, _, _, prAt_get hj, prAt_get h2, h3⟩
  · rintro ⟨h1, p, q, hp, hq, h3⟩
    have h2 := (List.getElem?_eq_some_iff.1 hq).1
    rw [prAt_get hj] at hp
    rw [prAt_get h2] at hq
    injection hp with hp
    injection hq with hq
    subst hp
    subst hq
    exact ⟨h1, .inl h2, h2, h3⟩
def FindPost (sb : Nat) (ss : List Sym) (xs : List Lt) (ys : List (List Lt)) (w : World) (e : Ending) (w' : World) : Prop :=
  Below sb w w' ∧ ((fitP ss xs ys noT = none ∧ e = .returned (.bool false)) ∨ ∃ ps v, fitP ss xs ys noT = some ps ∧ e = .returned (.bool true) ∧ w'.cell? ⟨sb, 4, none⟩ = some v ∧ OwnI w' sb v (natsJ ps))
set_option maxHeartbeats 4000000 in
theorem find_any (sb B : Nat) (ss : List Sym) (xs : List Lt) (ys : List (List Lt)) (PS : List Pr) (os : List Nat) (w : World) (h : Bld w sb B PS os) (hall : PS = allPr ss xs ys xs.length) (hK : os.length = xs.length) (hp : PatAll ss xs ys) (hl : ys.length = xs.length) (hn : PS.length ≤ 60) (hK1 : xs.length ≤ 100) (hT : TabW w) (hTB : 0 < B) :
    Calls Tryd.prog 30 #[.pointer (some ⟨sb, 0, none⟩)] w (FindPost sb ss xs ys w) := by
  have HBL := Lib.hid h
  have HALL := Lib.hid hall
  have HK := Lib.hid hK
  have HP := Lib.hid hp
  have HL := Lib.hid hl
  have HT := Lib.hid hT
  have HTB := Lib.hid hTB
  obtain ⟨v0, v1, h1, h2, h3⟩ := h.ex
  obtain ⟨A0, c0, rfl⟩ := h2.len_
  have hc0 := h1.c0
  obtain ⟨N, hN⟩ : ∃ N, N = PS.length := ⟨_, rfl⟩
  rw [← hN] at hc0 hn
  have HN := Lib.hid hN
  have HQ : Hid (2 ^ N < 2 ^ 64) := Nat.pow_lt_pow_right (by omega) (by omega)
  have HQ1 : Hid (1 ≤ 2 ^ N) := Nat.one_le_two_pow
  obtain ⟨q, hq⟩ : ∃ q, q = 2 ^ N := ⟨_, rfl⟩
  have hq64 : q < 2 ^ 64 := by rw [hq]; exact HQ.out
  have hwr : IntKind.u64.wrap ((2 : Int) ^ N) = (q : Int) := by
    have e : ((2 : Int) ^ N) = ((2 ^ N : Nat) : Int) := by norm_cast
    rw [e, ← hq]
    exact wrap_u64_nat hq64
  have hsh : ∀ yk, Op.shift .shl .u64 1 yk (N : Int) = pure (.int .u64 (q : Int)) := fun yk => by
    rw [shift_shl .u64 yk 1 (N : Int) (by omega) (by show (N : Int) ≤ 64; omega), Int.one_mul, Int.toNat_natCast, hwr]
  obtain ⟨a, ha⟩ : ∃ a, a = q - 1 := ⟨_, rfl⟩
  have hsub : IntKind.u64.wrap ((q : Int) - 1) = (a : Int) := by
    have e : (q : Int) - 1 = ((q - 1 : Nat) : Int) := by rw [hq]; have := HQ1.out; omega
    rw [e, ← ha]
    exact wrap_u64_nat (by omega)
  have HA : Hid (∀ j, a.testBit j = true ↔ j < PS.length) := fun j => by rw [ha, hq, Nat.testBit_two_pow_sub_one, decide_eq_true_eq, hN]
  have ha64 : a < 2 ^ 64 := by omega
  have han : Hid (a < 2 ^ N) := by show _ < _; rw [ha, hq]; have := HQ1.out; omega
  have hGof : ∀ m, m < os.length → wAt os m < 2 ^ N := fun m hm => by rw [hN]; exact h.good.few hm
  have HOF := Lib.hid hGof
  have hop := isOpen_any sb 0 a (sb + 1) _ _ _ _ _ os w h1 h3 (by omega) (fun m hm => Nat.lt_trans (hGof m hm) HQ.out) ha64 (by omega)
  rw [show ((0 : Nat) : Int) = 0 from rfl] at hop
  clear h hall hK hp hl hT hTB h1 h2 h3 hN hq hq64 ha ha64 hGof
  go_enter Tryd.func30, Tryd.ntmps30
  go_wp2_with fail
  refine hop.mono ?_
  rintro e w1 ⟨rfl, rfl⟩
  clear hop
  cases hopen : openB os 0 a
  · have H : Hid (fitP ss xs ys noT = none) := (HBL.out.good.prs HALL.out HK.out fsOf_fit).none_ HP.out HL.out HA.out fun js hs => by
      have h2 := openB_iff.2 fun m h1 h2 => hs.open_ m h1 (by rw [HK.out] at h2; exact h2)
      rw [hopen] at h2; cases h2
    clear hopen
    go_wp2
    go_ret
    exact ⟨Below.refl _ _, .inl ⟨H.out, rfl⟩⟩
  · clear hopen
    go_wp2_with fail
    refine (fit_any sb B PS os w HBL.out (by have := HN.out; omega)).mono ?_
    rintro e w2 ⟨rfl, ⟨v0, v1, fs, hst, hof, hfl, hfit⟩, hb2⟩
    obtain ⟨A1, c1, rfl⟩ := hst.o.len_
    obtain ⟨K, hKK⟩ : ∃ K, K = os.length := ⟨_, rfl⟩
    rw [← hKK] at hst
    have HKK := Lib.hid hKK
    have hK2 : K ≤ 100 := by have := HK.out; omega
    have HB2 := Lib.hid hb2
    have HFIT := Lib.hid hfit
    have HFL := Lib.hid hfl
    have HOFS := Lib.hid hof
    have HST := Lib.hid hst
    have hmk1 : (Instr.makeSlice 67 (.int .i64 (K : Int)) (.int .i64 (K : Int))).run Tryd.prog w2 = .ok (.slice (some ⟨w2.heap.size, 0, none⟩) K K) (w2.alloc (.cells (madeCells #[.int .u64 0] K) 97)) := run_make_row' (P := Tryd.prog) 67 97 (.int .u64 0) 8 Tryd.underlying67 set_info rfl .i64 .i64 K (by omega) (by omega) w2
    have hc1 := hst.s.c1
    obtain ⟨w3, hw3⟩ : ∃ w3, w3 = (w2.alloc (.cells (madeCells #[.int .u64 0] K) 97)).setCell ⟨sb, 3, none⟩ (.slice (some ⟨w2.heap.size, 0, none⟩) K K) := ⟨_, rfl⟩
    have hbn := below_new w2 (.cells (madeCells #[.int .u64 0] K) 97)
    have hst2 := (hst.below (hbn.mono hst.hg)).raise (g' := w2.heap.size) hst.hg (by simp)
    have hst3 := hst2.set3 (.slice (some ⟨w2.heap.size, 0, none⟩) K K)
    have hfz3 := hst2.s.frozen 3
    have hcc3 := hst2.s.c3
    rw [← hw3] at hst3
    have hw3s : w3.heap.size = w2.heap.size + 1 := by rw [hw3]; simp
    have hmade3 : OwnW w3 w2.heap.size (.slice (some ⟨w2.heap.size, 0, none⟩) K K) (List.replicate K 0) := by rw [hw3]; exact (OwnW.made w2 K (by omega)).chg (hst2.s.set_chg 3 _) (by decide)
    have hb3 : Below sb w2 w3 := by rw [hw3]; exact (hbn.mono (by have := hst.lt; have := hst.hg; omega)).trans (hst2.s.set_chg 3 _).bel
    have hof3 : OwnW w3 w.heap.size (.slice (some ⟨w.heap.size, 0, none⟩) PS.length PS.length) fs := by rw [hw3]; exact (HOFS.out.on hbn).chg (hst2.s.set_chg 3 _) (by decide)
    have hmk2 : (Instr.makeSlice 28 (.int .i64 (K : Int)) (.int .i64 (K : Int))).run Tryd.prog w3 = .ok (.slice (some ⟨w3.heap.size, 0, none⟩) K K) (w3.alloc (.cells (madeCells #[.int .i64 0] K) 3)) := run_make_row' (P := Tryd.prog) 28 3 (.int .i64 0) 8 Tryd.underlying28 int_info rfl .i64 .i64 K (by omega) (by omega) w3
    have hbn4 := below_new w3 (.cells (madeCells #[.int .i64 0] K) 3)
    have hst4 := hst3.below (hbn4.mono hst3.hg)
    have hfz4 := hst4.s.frozen 4
    have hcc4 := hst4.s.c4
    have hc13 := hst3.s.c1
    obtain ⟨w4, hw4⟩ : ∃ w4, w4 = (w3.alloc (.cells (madeCells #[.int .i64 0] K) 3)).setCell ⟨sb, 4, none⟩ (.slice (some ⟨w3.heap.size, 0, none⟩) K K) := ⟨_, rfl⟩
    have HST4 : Hid (Stat w4 w2.heap.size sb B v0 (.slice A1 K c1) (.slice (some ⟨w.heap.size, 0, none⟩) PS.length PS.length) (.slice (some ⟨w2.heap.size, 0, none⟩) K K) (.slice (some ⟨w3.heap.size, 0, none⟩) K K) PS os) := by rw [hw4]; exact hst4.set4 _
    have HFL4 : Hid (OwnW w4 w2.heap.size (.slice (some ⟨w2.heap.size, 0, none⟩) K K) (List.replicate K 0)) := by rw [hw4]; exact (hmade3.on hbn4).chg (hst4.s.set_chg 4 _) (by decide)
    have HFS4 : Hid (OwnW w4 (sb + 1) (.slice (some ⟨w.heap.size, 0, none⟩) PS.length PS.length) fs) := by
      show OwnW _ _ _ _
      rw [hw4]
      exact ((hof3.on hbn4).chg (hst4.s.set_chg 4 _) (by decide)).lower (by have := hst.lt; omega)
    have HPL4 : Hid (OwnI w4 (w2.heap.size + 1) (.slice (some ⟨w3.heap.size, 0, none⟩) K K) (List.replicate K 0)) := by
      rw [hw4]
      refine (hst4.s.set_chg 4 _).own (by decide) ?_
      have := World.ownsRow_lit (base := w3.heap.size) (e := 3) (size := 1) w3 (intCells (List.replicate K 0)).toArray K (Nat.le_refl _) (by unfold maxLen; omega) (by unfold intCells; simp)
      have e : madeCells #[Value.int .i64 0] K = (intCells (List.replicate K 0)).toArray := by
        unfold madeCells intCells
        apply Array.ext
        · simp
        · intro i h1 h2
          simp [Nat.mod_one]
      rw [e]
      unfold OwnI
      rw [List.length_replicate]
      have h9 : (w3.alloc (.cells (intCells (List.replicate K 0)).toArray 3)).ownsRow w3.heap.size 3 1 (.slice (some ⟨w3.heap.size, 0, none⟩) K K) K (intCells (List.replicate K 0)) := by simpa using this
      exact own_base h9 (by omega)
    have HB4 : Hid (Below sb w w4) := by
      show Below _ _ _
      rw [hw4]
      exact HB2.out.trans (hb3.trans ((hbn4.mono (by have := hst.lt; have := hst.hg; omega)).trans (hst4.s.set_chg 4 _).bel))
    have HGB : Hid (w.heap.size < w2.heap.size) := by
      show _ < _
      rcases HOFS.out.shape with ⟨q, _⟩ | ⟨g, cap, q, _, h2, _⟩
      · cases q
      · have e1 := (Value.slice.inj q).1
        injection e1 with e1
        injection e1 with e1
        subst e1
        exact h2
    rw [hw3s] at hmk2 hw4 HST4 HPL4
    clear hbn hst2 hst3 hw3s hmade3 hb3 hof3 hbn4 hst4 hst hof hfl hfit hb2 hKK
    subst hw3
    go_wp2_with fail
    rw [← hw4]
    clear hmk1 hmk2 hfz3 hcc3 hfz4 hcc4 hc13 hc1 hw4
    have hTB2 := HTB.out
    have hsc : StatC w4 w2.heap.size (w2.heap.size + 1) sb B K v0 (.slice A1 K c1) (.slice (some ⟨w.heap.size, 0, none⟩) PS.length PS.length) PS os fs :=
      ⟨HST4.out, HFS4.out, fun b hb => by
        simp only [Value.ownBlock, Option.some.injEq] at hb
        have := HGB.out
        omega, HT.out.below hTB2 (HB4.out.mono HBL.out.le), hTB2⟩
    have hdy : Dyn w4 w2.heap.size (w2.heap.size + 1) K N os fs (List.replicate K 0) (List.replicate K 0) := by
      refine ⟨HFL4.out, HPL4.out, by simp, by simp, fun m hm => ?_, fun m hm js hs => ?_⟩
      · have e : wAt (List.replicate K 0) m = 0 := by unfold wAt; rw [List.getD_eq_getElem?_getD, List.getElem?_replicate, if_pos hm]; rfl
        rw [e]; exact Nat.pow_pos (by omega)
      · have e : wAt (List.replicate K 0) m = 0 := by unfold wAt; rw [List.getD_eq_getElem?_getD, List.getElem?_replicate, if_pos hm]; rfl
        rw [e] at hs
        cases js with
        | nil => have : m = K := hs; omega
        | cons j js => have := hs.2.1; rw [Nat.zero_testBit] at this; cases this
    have hch := choose_any w2.heap.size (w2.heap.size + 1) sb B K N v0 _ _ PS os fs HN.out.symm (by omega) HKK.out.symm hK2 (by rw [HFL.out, HN.out]) (fun m hm => HOF.out m (by have := HKK.out; omega)) (fun j hj => by rw [HN.out]; exact HFIT.out.few (by have := HN.out; omega)) K 0 a (List.replicate K 0) (List.replicate K 0) w4 (by omega) han.out hsc hdy
    rw [show ((0 : Nat) : Int) = 0 from rfl] at hch
    refine hch.mono ?_
    have hlt : sb < w2.heap.size := HST4.out.lt
    have hprs := HBL.out.good.prs HALL.out HK.out HFIT.out
    have hKx : K = xs.length := by rw [HKK.out, HK.out]
    rintro e w5 ⟨hb5, fl', ⟨rfl, js, hs, hm, hd⟩ | ⟨rfl, hno, hd⟩⟩
    · have H : Hid (fitP ss xs ys noT = some (js.map (idxAt PS))) := hprs.some_ HP.out HL.out HA.out (by rw [← hKx]; exact hs) (by rw [← hKx]; exact hm)
      have HPL : Hid (OwnI w5 sb (.slice (some ⟨w2.heap.size + 1, 0, none⟩) K K) (natsJ (js.map (idxAt PS)))) := by
        have := hd.pls.lower (base' := sb) (by omega)
        rw [List.take_zero, List.nil_append] at this
        unfold natsJ
        rw [List.map_map]
        exact this
      have HC5 : Hid (w5.cell? ⟨sb, 4, none⟩ = some (.slice (some ⟨w2.heap.size + 1, 0, none⟩) K K)) := (hsc.below hb5).st.s.c4
      have HB5 : Hid (Below sb w w5) := HB4.out.trans (hb5.mono (Nat.le_of_lt hlt))
      clear hch hsc hdy hb5 hs hm hd hprs
      go_wp2
      go_ret
      exact ⟨HB5.out, .inr ⟨_, _, H.out, rfl, HC5.out, HPL.out⟩⟩
    · have H : Hid (fitP ss xs ys noT = none) := hprs.none_ HP.out HL.out HA.out (by rw [← hKx]; exact hno)
      have HB5 : Hid (Below sb w w5) := HB4.out.trans (hb5.mono (Nat.le_of_lt hlt))
      clear hch hsc hdy hb5 hno hd hprs
      go_wp2
      go_ret
      exact ⟨HB5.out, .inl ⟨H.out, rfl⟩⟩
end Go.Proofs.YtcjpopjcpgipjaaDoor
