/-
  Whole numbers as words of binary64: what sums, products, negation, comparison and conversion give. No program.
  Contracts: point.isNear, point.May, number, conjugate, pointOf, ifNear; PointMay and point of quaereref8.
  Contracts: point.ifNear; PointMay and point of quaereref8.
  Contracts: point.Add, point.Mul.
  Contracts: point.Flip, point.Under, point.Score.
-/
import Derived.Laws.FloatArith
import Derived.Test.YtcjpopjcpgipjaaDoorMemBox
import Derived.Test.YtcjpopjcpgipjaaDoorBaseMore
import Derived.Deep.DeepCutAuto
import Derived.Laws.ComplexArith
namespace Go.Proofs.YtcjpopjcpgipjaaDoor
set_option linter.unusedSimpArgs false
set_option linter.unusedVariables false
set_option maxRecDepth 100000

def sv (s : Bool) (m : Nat) : Int := if s then -(m : Int) else (m : Int)
/-- The number 'm * 2 ^ e' with its sign is the integer n. -/
def IsV (s : Bool) (m : Nat) (e n : Int) : Prop := ∃ K : Nat, 0 ≤ e + K ∧ sv s m * 2 ^ (e + K).toNat = n * 2 ^ K
/-- The word b tells the integer n. -/
def FI (b : Nat) (n : Int) : Prop := ∃ s m e, Ieee.double.read b = .number s m e ∧ IsV s m e n

theorem pow_pos' (k : Nat) : (0 : Int) < 2 ^ k := Int.pow_pos (by decide)
theorem pow_ne' (k : Nat) : (2 : Int) ^ k ≠ 0 := Int.ne_of_gt (pow_pos' k)
theorem signed_eq (s : Bool) (m k : Nat) : Ieee.signed s m k = sv s m * 2 ^ k := by
  unfold Ieee.signed sv
  cases s <;> simp [Nat.shiftLeft_eq, Int.neg_mul]
theorem sv_natAbs (s : Bool) (m : Nat) : (sv s m).natAbs = m := by cases s <;> simp [sv]
theorem IsV.more {s : Bool} {m : Nat} {e n : Int} {K : Nat} (h0 : 0 ≤ e + K) (h : sv s m * 2 ^ (e + K).toNat = n * 2 ^ K) (d : Nat) :
    sv s m * 2 ^ (e + ((K + d : Nat) : Int)).toNat = n * 2 ^ (K + d) := by
  have e1 : (e + ((K + d : Nat) : Int)).toNat = (e + K).toNat + d := by omega
  rw [e1, Int.pow_add, ← Int.mul_assoc, h, Int.mul_assoc, ← Int.pow_add]
theorem IsV.at_ {s : Bool} {m : Nat} {e n : Int} (h : IsV s m e n) : ∃ K : Nat, ∀ L : Nat, K ≤ L → 0 ≤ e + L ∧ sv s m * 2 ^ (e + L).toNat = n * 2 ^ L := by
  obtain ⟨K, h0, h⟩ := h
  refine ⟨K, fun L hL => ⟨by omega, ?_⟩⟩
  obtain ⟨d, rfl⟩ := Nat.le.dest hL
  exact IsV.more h0 h d
theorem IsV.abs {s : Bool} {m : Nat} {e n : Int} (h : IsV s m e n) : ∃ K : Nat, 0 ≤ e + K ∧ m * 2 ^ (e + K).toNat = n.natAbs * 2 ^ K := by
  obtain ⟨K, h0, h⟩ := h
  refine ⟨K, h0, ?_⟩
  have := congrArg Int.natAbs h
  rw [Int.natAbs_mul, Int.natAbs_mul, sv_natAbs, Int.natAbs_pow, Int.natAbs_pow] at this
  exact this
theorem IsV.zero {s : Bool} {m : Nat} {e : Int} (h : IsV s m e 0) : m = 0 := by
  obtain ⟨K, h0, h⟩ := h.abs
  rw [Int.natAbs_zero, Nat.zero_mul] at h
  rcases Nat.mul_eq_zero.1 h with h | h
  · exact h
  · exact absurd h (Nat.pos_iff_ne_zero.1 (Nat.pow_pos (by decide)))
theorem IsV.of_zero (s : Bool) (e : Int) : IsV s 0 e 0 := ⟨(-e).toNat, by omega, by cases s <;> simp [sv]⟩
theorem log2_shift {m : Nat} (h : m ≠ 0) (a : Nat) : (m * 2 ^ a).log2 = m.log2 + a := by
  have h2 : m * 2 ^ a ≠ 0 := Nat.mul_ne_zero h (Nat.pos_iff_ne_zero.1 (Nat.pow_pos (by decide)))
  rw [Nat.log2_eq_iff h2]
  constructor
  · rw [Nat.pow_add]; exact Nat.mul_le_mul_right _ (Nat.log2_self_le h)
  · rw [show m.log2 + a + 1 = (m.log2 + 1) + a by omega, Nat.pow_add]
    exact Nat.mul_lt_mul_of_pos_right Nat.lt_log2_self (Nat.pow_pos (by decide))
theorem cut_exact (way : Ieee.Toward) (s : Bool) (q d : Nat) (h : d ≤ (q * 2 ^ d).log2 + 2) : way.cut s (q * 2 ^ d) d = q := by
  unfold Ieee.Toward.cut
  have hg : 1 <<< min d ((q * 2 ^ d).log2 + 2) = 2 ^ d := by rw [Nat.min_eq_left h, Nat.shiftLeft_eq, Nat.one_mul]
  have hp : 0 < 2 ^ d := Nat.pow_pos (by decide)
  simp only [hg, Nat.mul_div_cancel _ hp, Nat.mul_mod_left]
  cases way <;> simp <;> omega
theorem dbl_sign : Ieee.double.signWeight = 9223372036854775808 := rfl
theorem dbl_binade : Ieee.double.binade = 4503599627370496 := rfl
theorem dbl_inf : Ieee.double.infRung = 9218868437227405312 := rfl
theorem dbl_least : Ieee.double.leastPlace = -1074 := rfl
theorem dbl_frac : ((Ieee.double.fractionBits : Nat) : Int) = 52 := rfl
theorem word_neg (r : Nat) : Ieee.double.word true r = 9223372036854775808 + r := by unfold Ieee.Format.word; rw [dbl_sign]; rfl
theorem word_pos (r : Nat) : Ieee.double.word false r = r := rfl
theorem read_rung (s : Bool) (r : Nat) (r1 : r < 9223372036854775808) :
    (Ieee.double.word s r / 9223372036854775808 % 2 == 1) = s ∧ Ieee.double.word s r % 9223372036854775808 = r := by
  cases s
  · rw [word_pos, Nat.div_eq_of_lt r1]; exact ⟨rfl, Nat.mod_eq_of_lt r1⟩
  · rw [word_neg, show (9223372036854775808 + r) / 9223372036854775808 = 1 by omega]; exact ⟨rfl, by omega⟩
theorem read_word (s : Bool) (f l : Nat) (hf : f < 4503599627370496) (hl : l ≤ 60) :
    Ieee.double.read (Ieee.double.word s ((l + 1023) * 4503599627370496 + f)) = .number s (4503599627370496 + f) ((l : Int) - 52) := by
  obtain ⟨r, hr⟩ : ∃ r, r = (l + 1023) * 4503599627370496 + f := ⟨_, rfl⟩
  rw [← hr]
  have e1 : r / 4503599627370496 = l + 1023 := by omega
  have e2 : r % 4503599627370496 = f := by omega
  have r2 : ¬ r < 4503599627370496 := by omega
  have r3 : r < 9218868437227405312 := by omega
  obtain ⟨n1, n2⟩ := read_rung s r (by omega)
  have e3 : (-1074 : Int) + ((l + 1023 - 1 : Nat) : Int) = (l : Int) - 52 := by omega
  unfold Ieee.Format.read
  simp only [dbl_sign, dbl_binade, dbl_inf, dbl_least, n1, n2, r3, r2, if_true, if_false, e1, e2, e3]
theorem read_zero (s : Bool) : Ieee.double.read (Ieee.double.word s 0) = .number s 0 (-1074) := by cases s <;> rfl

theorem pw0 (k : Nat) : (2 : Nat) ^ k ≠ 0 := Nat.pos_iff_ne_zero.1 (Nat.pow_pos (by decide))
/-- The significand of 53 digits. -/
theorem signif {s : Bool} {m N l L K : Nat} {e last : Int} (m0 : m ≠ 0) (N0 : N ≠ 0) (k0 : 0 ≤ e + K) (hk : m * 2 ^ (e + K).toNat = N * 2 ^ K) (el : l = N.log2) (eL : L = m.log2)
    (l1 : l < 53) (hle : e + (L : Int) = l) (hlast : last = (l : Int) - 52) :
    ∃ q, Ieee.Toward.even.cut s (m <<< (e - last).toNat) (last - e).toNat = q ∧ q.log2 = 52 ∧ q ≠ 0 ∧ m * 2 ^ (e - last).toNat = q * 2 ^ (last - e).toNat := by
  by_cases hc : last ≤ e
  · have z : (last - e).toNat = 0 := by omega
    refine ⟨m * 2 ^ (e - last).toNat, ?_, ?_, ?_, ?_⟩
    · rw [z, Nat.shiftLeft_eq]
      have := cut_exact .even s (m * 2 ^ (e - last).toNat) 0 (Nat.zero_le _)
      rwa [Nat.pow_zero, Nat.mul_one] at this
    · rw [log2_shift m0, ← eL]; omega
    · exact Nat.mul_ne_zero m0 (pw0 _)
    · rw [z, Nat.pow_zero, Nat.mul_one]
  · have z : (e - last).toNat = 0 := by omega
    have hp : 0 < 2 ^ (e + K).toNat := Nat.pow_pos (by decide)
    have hx : 52 - l + (last - e).toNat + (e + K).toNat = K := by omega
    have hm : m = N * 2 ^ (52 - l) * 2 ^ (last - e).toNat := by
      rw [Nat.mul_assoc, ← Nat.pow_add]
      refine Nat.eq_of_mul_eq_mul_right hp ?_
      rw [hk, Nat.mul_assoc, ← Nat.pow_add, hx]
    refine ⟨N * 2 ^ (52 - l), ?_, ?_, ?_, ?_⟩
    · rw [z, Nat.shiftLeft_zero]
      have hd : (last - e).toNat ≤ m.log2 + 2 := by rw [← eL]; omega
      rw [hm] at hd
      rw [hm]
      exact cut_exact .even s _ _ hd
    · rw [log2_shift N0, ← el]; omega
    · exact Nat.mul_ne_zero N0 (pw0 _)
    · rw [z, Nat.pow_zero, Nat.mul_one]; exact hm
theorem log_bds {q : Nat} (h : q.log2 = 52) (q0 : q ≠ 0) : 4503599627370496 ≤ q ∧ q < 9007199254740992 := by
  obtain ⟨a, b⟩ := (Nat.log2_eq_iff q0).1 h
  exact ⟨a, b⟩
theorem nearest_any (f : Ieee.Format) {s : Bool} {m q : Nat} {e last : Int} (m0 : m ≠ 0) (hmax : max (e + (m.log2 : Int) - (f.fractionBits : Int)) f.leastPlace = last)
    (hcut : Ieee.Toward.even.cut s (m <<< (e - last).toNat) (last - e).toNat = q) :
    f.nearest s m e = f.word s (min ((last - f.leastPlace).toNat * f.binade + q) f.infRung) := by
  unfold Ieee.Format.nearest
  rw [if_neg m0]
  simp only [hmax, hcut]
theorem rung_eq {l q z B I : Nat} (hz : z = l + 1022) (hB : B = 4503599627370496) (hI : I = 9218868437227405312) (hl : l < 53) (hq : 4503599627370496 ≤ q ∧ q < 9007199254740992) :
    min (z * B + q) I = (l + 1023) * B + (q - B) := by
  subst hz
  have h : (l + 1022) * B + q ≤ I := by rw [hB, hI]; omega
  rw [Nat.min_eq_left h, hB]
  omega
theorem nearest_word {s : Bool} {m q l L : Nat} {e last : Int} (m0 : m ≠ 0) (eL : L = m.log2) (hle : e + (L : Int) = l) (hl : l < 53) (hlast : last = (l : Int) - 52)
    (hcut : Ieee.Toward.even.cut s (m <<< (e - last).toNat) (last - e).toNat = q) (hq : 4503599627370496 ≤ q ∧ q < 9007199254740992) :
    Ieee.double.nearest s m e = Ieee.double.word s ((l + 1023) * Ieee.double.binade + (q - Ieee.double.binade)) := by
  have hmax : max (e + (m.log2 : Int) - (Ieee.double.fractionBits : Int)) Ieee.double.leastPlace = last := by
    rw [← eL, hle, dbl_least, dbl_frac, hlast]
    omega
  have hlp : (last - Ieee.double.leastPlace).toNat = l + 1022 := by rw [dbl_least]; omega
  rw [nearest_any Ieee.double m0 hmax hcut]
  exact congrArg (Ieee.double.word s) (rung_eq hlp dbl_binade dbl_inf hl hq)
theorem IsV.same {s : Bool} {m q : Nat} {e last n : Int} (h : IsV s m e n) (hmq : m * 2 ^ (e - last).toNat = q * 2 ^ (last - e).toNat) : IsV s q last n := by
  obtain ⟨K2, hK2⟩ := h.at_
  obtain ⟨M, hM⟩ : ∃ M, M = K2 + last.natAbs := ⟨_, rfl⟩
  obtain ⟨z0, hz⟩ := hK2 M (by omega)
  refine ⟨M, by omega, ?_⟩
  rw [← hz]
  have hs : sv s m * 2 ^ (e - last).toNat = sv s q * 2 ^ (last - e).toNat := by
    have : ((m * 2 ^ (e - last).toNat : Nat) : Int) = ((q * 2 ^ (last - e).toNat : Nat) : Int) := congrArg _ hmq
    simp only [Int.natCast_mul, Int.natCast_pow] at this
    cases s
    · exact this
    · show -(m : Int) * 2 ^ _ = -(q : Int) * 2 ^ _
      rw [Int.neg_mul, Int.neg_mul]
      exact congrArg Neg.neg this
  by_cases hc : last ≤ e
  · have e1 : (last - e).toNat = 0 := by omega
    have e2 : (e - last).toNat + (last + M).toNat = (e + M).toNat := by omega
    rw [e1, Int.pow_zero, Int.mul_one] at hs
    rw [← hs, Int.mul_assoc, ← Int.pow_add, e2]
  · have e1 : (e - last).toNat = 0 := by omega
    have e2 : (last - e).toNat + (e + M).toNat = (last + M).toNat := by omega
    rw [e1, Int.pow_zero, Int.mul_one] at hs
    rw [hs, Int.mul_assoc, ← Int.pow_add, e2]
/-- Written, an integer below 2^53 is told just so. -/
theorem write_V {s : Bool} {m : Nat} {e n : Int} (h : IsV s m e n) (hn : n.natAbs < 9007199254740992) : FI (Ieee.double.nearest s m e) n := by
  by_cases h0 : n = 0
  · subst h0
    obtain rfl := h.zero
    refine ⟨s, 0, -1074, ?_, IsV.of_zero ..⟩
    unfold Ieee.Format.nearest
    rw [if_pos rfl, read_zero]
  have N0 : n.natAbs ≠ 0 := by omega
  obtain ⟨K, k0, hk⟩ := h.abs
  have m0 : m ≠ 0 := by
    intro hm
    rw [hm, Nat.zero_mul] at hk
    exact Nat.mul_ne_zero N0 (pw0 _) hk.symm
  have hl : m.log2 + (e + K).toNat = n.natAbs.log2 + K := by rw [← log2_shift m0, hk, log2_shift N0]
  have l1 : n.natAbs.log2 < 53 := (Nat.log2_lt N0).2 hn
  have hle : e + (m.log2 : Int) = n.natAbs.log2 := by omega
  obtain ⟨q, hcut, h52, q0, hmq⟩ := signif (s := s) m0 N0 k0 hk rfl rfl l1 hle rfl
  have hqb := log_bds h52 q0
  have hqq : 4503599627370496 + (q - 4503599627370496) = q := by omega
  refine ⟨s, q, (n.natAbs.log2 : Int) - 52, ?_, h.same hmq⟩
  rw [nearest_word m0 rfl hle l1 rfl hcut hqb, dbl_binade, read_word s _ _ (by omega) (by omega), hqq]
theorem FI.of_write {s : Bool} {m : Nat} {e n : Int} (h : IsV s m e n) (hn : n.natAbs < 9007199254740992) : FI (Ieee.double.write (.number s m e)) n := write_V h hn

theorem FI.int (n : Int) (hn : n.natAbs < 9007199254740992) : FI (floatOfInt .f64 n) n := by
  refine FI.of_write (s := n < 0) (m := n.natAbs) (e := 0) ⟨0, by omega, ?_⟩ hn
  unfold sv
  by_cases h : n < 0 <;> simp [h] <;> omega

theorem IsV.sum {s t : Bool} {m n : Nat} {i j a b : Int} (h1 : IsV s m i a) (h2 : IsV t n j b) :
    ∃ d, (Ieee.Datum.number s m i).sum (.number t n j) = some d ∧ ∃ u p k, d = .number u p k ∧ IsV u p k (a + b) := by
  refine ⟨_, rfl, _, _, _, rfl, ?_⟩
  obtain ⟨K1, H1⟩ := h1.at_
  obtain ⟨K2, H2⟩ := h2.at_
  obtain ⟨M, hM⟩ : ∃ M, M = K1 + K2 := ⟨_, rfl⟩
  obtain ⟨x0, hx⟩ := H1 M (by omega)
  obtain ⟨y0, hy⟩ := H2 M (by omega)
  refine ⟨M, by omega, ?_⟩
  rw [signed_eq, signed_eq]
  obtain ⟨T, hT⟩ : ∃ T, T = sv s m * 2 ^ (i - min i j).toNat + sv t n * 2 ^ (j - min i j).toNat := ⟨_, rfl⟩
  rw [← hT]
  have e1 : sv (if T = 0 then s && t else decide (T < 0)) T.natAbs = T := by
    unfold sv
    by_cases h0 : T = 0
    · subst h0; simp
    · by_cases h1 : T < 0 <;> simp [h0, h1] <;> omega
  rw [e1, hT, Int.add_mul, Int.add_mul, ← hx, ← hy, Int.mul_assoc, Int.mul_assoc, ← Int.pow_add, ← Int.pow_add]
  congr 3
  · omega
  · omega
theorem IsV.opp {s : Bool} {m : Nat} {e n : Int} (h : IsV s m e n) : IsV (!s) m e (-n) := by
  obtain ⟨K, h0, h⟩ := h
  refine ⟨K, h0, ?_⟩
  rw [Int.neg_mul, ← h]
  cases s <;> simp [sv, Int.neg_mul]
theorem IsV.prod {s t : Bool} {m n : Nat} {i j a b : Int} (h1 : IsV s m i a) (h2 : IsV t n j b) : IsV (s ^^ t) (m * n) (i + j) (a * b) := by
  obtain ⟨K1, k1, H1⟩ := h1
  obtain ⟨K2, k2, H2⟩ := h2
  refine ⟨K1 + K2, by omega, ?_⟩
  have e1 : (i + j + ((K1 + K2 : Nat) : Int)).toNat = (i + K1).toNat + (j + K2).toNat := by omega
  have e2 : sv (s ^^ t) (m * n) = sv s m * sv t n := by cases s <;> cases t <;> simp [sv, Int.neg_mul, Int.mul_neg]
  rw [e1, e2, Int.pow_add, Int.pow_add, show sv s m * sv t n * (2 ^ (i + K1).toNat * 2 ^ (j + K2).toNat) = (sv s m * 2 ^ (i + K1).toNat) * (sv t n * 2 ^ (j + K2).toNat) by
    simp only [Int.mul_assoc, Int.mul_left_comm], H1, H2]
  simp only [Int.mul_assoc, Int.mul_left_comm]
theorem FI.add {x y : Nat} {a b : Int} (h1 : FI x a) (h2 : FI y b) (hn : (a + b).natAbs < 9007199254740992) : ∃ r, floatBits .add .f64 x y = some r ∧ FI r (a + b) := by
  obtain ⟨s, m, i, r1, v1⟩ := h1
  obtain ⟨t, n, j, r2, v2⟩ := h2
  obtain ⟨d, hd, u, p, k, rfl, hv⟩ := v1.sum v2
  refine ⟨Ieee.double.write (.number u p k), ?_, FI.of_write hv hn⟩
  show ((Ieee.double.read x).sum (Ieee.double.read y)).map Ieee.double.write = _
  rw [r1, r2, hd]; rfl
theorem FI.sub {x y : Nat} {a b : Int} (h1 : FI x a) (h2 : FI y b) (hn : (a - b).natAbs < 9007199254740992) : ∃ r, floatBits .sub .f64 x y = some r ∧ FI r (a - b) := by
  obtain ⟨s, m, i, r1, v1⟩ := h1
  obtain ⟨t, n, j, r2, v2⟩ := h2
  obtain ⟨d, hd, u, p, k, rfl, hv⟩ := v1.sum v2.opp
  refine ⟨Ieee.double.write (.number u p k), ?_, FI.of_write (by rw [Int.sub_eq_add_neg]; exact hv) hn⟩
  show ((Ieee.double.read x).sum (Ieee.double.read y).opposite).map Ieee.double.write = _
  rw [r1, r2]
  show ((Ieee.Datum.number s m i).sum (.number (!t) n j)).map Ieee.double.write = _
  rw [hd]; rfl
theorem FI.mul {x y : Nat} {a b : Int} (h1 : FI x a) (h2 : FI y b) (hn : (a * b).natAbs < 9007199254740992) : ∃ r, floatBits .mul .f64 x y = some r ∧ FI r (a * b) := by
  obtain ⟨s, m, i, r1, v1⟩ := h1
  obtain ⟨t, n, j, r2, v2⟩ := h2
  refine ⟨Ieee.double.write (.number (s ^^ t) (m * n) (i + j)), ?_, FI.of_write (v1.prod v2) hn⟩
  show ((Ieee.double.read x).product (Ieee.double.read y)).map Ieee.double.write = _
  rw [r1, r2]; rfl
def rd (s : Bool) (r : Nat) : Ieee.Datum :=
  if r < Ieee.double.binade then .number s r Ieee.double.leastPlace
  else if r < Ieee.double.infRung then .number s (Ieee.double.binade + r % Ieee.double.binade) (Ieee.double.leastPlace + (r / Ieee.double.binade - 1 : Nat))
  else if r = Ieee.double.infRung then .infinity s
  else .nan s (r - Ieee.double.infRung)
theorem read_rd (b : Nat) : Ieee.double.read b = rd (b / 9223372036854775808 % 2 == 1) (b % 9223372036854775808) := rfl
theorem rd_not (s : Bool) (r : Nat) : rd (!s) r = (rd s r).opposite := by
  unfold rd
  by_cases c1 : r < Ieee.double.binade
  · rw [if_pos c1, if_pos c1]; rfl
  · rw [if_neg c1, if_neg c1]
    by_cases c2 : r < Ieee.double.infRung
    · rw [if_pos c2, if_pos c2]; rfl
    · rw [if_neg c2, if_neg c2]
      by_cases c3 : r = Ieee.double.infRung
      · rw [if_pos c3, if_pos c3]; rfl
      · rw [if_neg c3, if_neg c3]; rfl
theorem read_flip (b : Nat) : Ieee.double.read (b ^^^ 9223372036854775808) = (Ieee.double.read b).opposite := by
  have e1 : (b ^^^ 9223372036854775808) % 9223372036854775808 = b % 9223372036854775808 := by
    have h : (b ^^^ 9223372036854775808) % 2 ^ 63 = (b % 2 ^ 63) ^^^ (9223372036854775808 % 2 ^ 63) := Nat.xor_mod_two_pow
    rw [show (2 ^ 63 : Nat) = 9223372036854775808 from rfl, Nat.mod_self, Nat.xor_zero] at h
    exact h
  have e2 : ((b ^^^ 9223372036854775808) / 9223372036854775808 % 2 == 1) = !(b / 9223372036854775808 % 2 == 1) := by
    have h : (b ^^^ 9223372036854775808) >>> 63 = b >>> 63 ^^^ 9223372036854775808 >>> 63 := Nat.shiftRight_xor_distrib
    rw [Nat.shiftRight_eq_div_pow, Nat.shiftRight_eq_div_pow, show (2 ^ 63 : Nat) = 9223372036854775808 from rfl, show 9223372036854775808 >>> 63 = 1 from rfl] at h
    rw [h]
    obtain ⟨y, hy⟩ : ∃ y, y = b / 9223372036854775808 := ⟨_, rfl⟩
    rw [← hy]
    have hx : (y ^^^ 1) % 2 ^ 1 = (y % 2 ^ 1) ^^^ (1 % 2 ^ 1) := Nat.xor_mod_two_pow
    rw [Nat.pow_one] at hx
    rcases Nat.mod_two_eq_zero_or_one y with h | h <;> rw [hx, h] <;> rfl
  rw [read_rd, read_rd, e1, e2]
  exact rd_not _ _
theorem FI.neg {x : Nat} {a : Int} (h : FI x a) : FI (Op.negFloat .f64 x) (-a) := by
  obtain ⟨s, m, i, r, v⟩ := h
  refine ⟨!s, m, i, ?_, v.opp⟩
  show Ieee.double.read (x ^^^ 9223372036854775808) = _
  rw [read_flip, r]; rfl
theorem FI.order {x y : Nat} {a b : Int} (h1 : FI x a) (h2 : FI y b) : Ieee.double.order x y = some (compare a b) := by
  obtain ⟨s, m, i, r1, v1⟩ := h1
  obtain ⟨t, n, j, r2, v2⟩ := h2
  show (Ieee.double.read x).order (Ieee.double.read y) = _
  rw [r1, r2]
  show some (compare (Ieee.signed s m (i - min i j).toNat) (Ieee.signed t n (j - min i j).toNat)) = _
  rw [signed_eq, signed_eq]
  obtain ⟨K1, H1⟩ := v1.at_
  obtain ⟨K2, H2⟩ := v2.at_
  obtain ⟨M, hM⟩ : ∃ M, M = K1 + K2 := ⟨_, rfl⟩
  obtain ⟨x0, hx⟩ := H1 M (by omega)
  obtain ⟨y0, hy⟩ := H2 M (by omega)
  obtain ⟨X, hX⟩ : ∃ X, X = sv s m * 2 ^ (i - min i j).toNat := ⟨_, rfl⟩
  obtain ⟨Y, hY⟩ : ∃ Y, Y = sv t n * 2 ^ (j - min i j).toNat := ⟨_, rfl⟩
  obtain ⟨P, hP⟩ : ∃ P : Int, P = 2 ^ (min i j + M).toNat := ⟨_, rfl⟩
  obtain ⟨Q, hQ⟩ : ∃ Q : Int, Q = 2 ^ M := ⟨_, rfl⟩
  have P0 : 0 < P := hP ▸ pow_pos' _
  have Q0 : 0 < Q := hQ ▸ pow_pos' _
  have eX : X * P = a * Q := by
    rw [hX, hP, hQ, ← hx, Int.mul_assoc, ← Int.pow_add]; congr 2; omega
  have eY : Y * P = b * Q := by
    rw [hY, hP, hQ, ← hy, Int.mul_assoc, ← Int.pow_add]; congr 2; omega
  rw [← hX, ← hY]
  have lt_iff : X < Y ↔ a < b := by
    rw [← Int.mul_lt_mul_right P0, eX, eY, Int.mul_lt_mul_right Q0]
  have eq_iff : X = Y ↔ a = b := by
    constructor
    · intro h; rw [h, eY] at eX; exact (Int.eq_of_mul_eq_mul_right (Int.ne_of_gt Q0) eX).symm
    · intro h; rw [h, ← eY] at eX; exact Int.eq_of_mul_eq_mul_right (Int.ne_of_gt P0) eX
  show some (compareOfLessAndEq X Y) = some (compareOfLessAndEq a b)
  unfold compareOfLessAndEq
  simp only [lt_iff, eq_iff]
theorem FI.toInt {x : Nat} {a : Int} (h : FI x a) (h1 : IntKind.i64.min ≤ a) (h2 : a ≤ IntKind.i64.max) : floatToIntVal .f64 x .i64 = some a := by
  obtain ⟨s, m, e, r, v⟩ := h
  have ht : (Ieee.double.read x).toInt .zero = some a := by
    rw [r]
    show some (Ieee.signed s (Ieee.Toward.zero.cut s (m <<< e.toNat) (-e).toNat) 0) = some a
    congr 1
    rw [signed_eq, Int.pow_zero, Int.mul_one]
    obtain ⟨K, k0, hk⟩ := v
    by_cases he : 0 ≤ e
    · rw [show (-e).toNat = 0 by omega, Nat.shiftLeft_eq]
      have hc := cut_exact .zero s (m * 2 ^ e.toNat) 0 (Nat.zero_le _)
      rw [Nat.pow_zero, Nat.mul_one] at hc
      rw [hc]
      have e1 : (e + K).toNat = e.toNat + K := by omega
      rw [e1, Int.pow_add, ← Int.mul_assoc] at hk
      rw [← Int.eq_of_mul_eq_mul_right (pow_ne' K) hk]
      cases s <;> simp [sv, Int.neg_mul]
    · rw [show e.toNat = 0 by omega, Nat.shiftLeft_zero]
      have e1 : (2 : Int) ^ K = 2 ^ (-e).toNat * 2 ^ (e + K).toNat := by rw [← Int.pow_add]; congr 1; omega
      rw [e1, ← Int.mul_assoc] at hk
      have hm := Int.eq_of_mul_eq_mul_right (pow_ne' _) hk
      have hm2 := congrArg Int.natAbs hm
      rw [sv_natAbs, Int.natAbs_mul, Int.natAbs_pow, show (2 : Int).natAbs = 2 from rfl] at hm2
      by_cases hz : a = 0
      · subst hz
        rw [Int.natAbs_zero, Nat.zero_mul] at hm2
        subst hm2
        have hc : Ieee.Toward.zero.cut s 0 (-e).toNat = 0 := by unfold Ieee.Toward.cut; simp
        rw [hc]
        cases s <;> rfl
      · have hc : Ieee.Toward.zero.cut s m (-e).toNat = a.natAbs := by
          have : (-e).toNat ≤ m.log2 + 2 := by rw [hm2, log2_shift (by omega)]; omega
          rw [hm2] at this ⊢
          exact cut_exact .zero s _ _ this
        rw [hc]
        have hp := pow_pos' (-e).toNat
        rw [hm2] at hm
        cases s
        · have : (0 : Int) ≤ a := by
            rcases Int.lt_or_le a 0 with h | h
            · have := Int.mul_neg_of_neg_of_pos h hp
              rw [← hm] at this
              have : (0 : Int) ≤ sv false (a.natAbs * 2 ^ (-e).toNat) := Int.natCast_nonneg _
              omega
            · exact h
          show (a.natAbs : Int) = a
          omega
        · have : a ≤ 0 := by
            rcases Int.lt_or_le 0 a with h | h
            · have := Int.mul_pos h hp
              rw [← hm] at this
              have : sv true (a.natAbs * 2 ^ (-e).toNat) ≤ 0 := by show -((_ : Nat) : Int) ≤ 0; omega
              omega
            · exact h
          show -(a.natAbs : Int) = a
          omega
  unfold floatToIntVal
  rw [show FloatKind.f64.decode x = Ieee.double.read x from rfl, ht]
  simp only [h1, h2, and_self, if_true]
theorem FI.zero : FI 0 0 := ⟨false, 0, -1074, by rfl, IsV.of_zero ..⟩
theorem FI.one : FI 4607182418800017408 1 := by
  have : floatOfInt .f64 1 = 4607182418800017408 := by kernel_rfl
  rw [← this]; exact FI.int 1 (by decide)
end Go.Proofs.YtcjpopjcpgipjaaDoor

namespace Go.Proofs.YtcjpopjcpgipjaaDoor
open Go.RowKit Go.Deep
set_option linter.unusedSimpArgs false
set_option linter.unusedVariables false
set_option maxRecDepth 100000

/-- May an integer be a part of a point? -/
def nearB (a : Int) : Bool := decide (-1000000 ≤ a) && decide (a ≤ 1000000)
def okP (a b : Int) : Bool := nearB a && nearB b
theorem nearB_iff {a : Int} : nearB a = true ↔ -1000000 ≤ a ∧ a ≤ 1000000 := by unfold nearB; simp
theorem okP_iff {a b : Int} : okP a b = true ↔ (-1000000 ≤ a ∧ a ≤ 1000000) ∧ (-1000000 ≤ b ∧ b ≤ 1000000) := by unfold okP; rw [Bool.and_eq_true, nearB_iff, nearB_iff]
/-- A point and an error. -/
def PPost (x y E : Int) (w : World) (e : Ending) (w' : World) : Prop := e = .returned (.tuple #[.agg #[.int .i64 x, .int .i64 y], .int .i64 E]) ∧ Below w.heap.size w w'
/-- What is told of a point that was reckoned out. -/
def farE (x y : Int) : Int := if okP x y then 0 else 901
def farX (x y : Int) : Int := if okP x y then x else 0
def farY (x y : Int) : Int := if okP x y then y else 0
theorem far_yes {x y : Int} (h : okP x y = true) : farX x y = x ∧ farY x y = y ∧ farE x y = 0 := by unfold farX farY farE; rw [h]; exact ⟨rfl, rfl, rfl⟩
theorem far_no {x y : Int} (h : okP x y = false) : farX x y = 0 ∧ farY x y = 0 ∧ farE x y = 901 := by unfold farX farY farE; rw [h]; exact ⟨rfl, rfl, rfl⟩

theorem isNear_is (a : Int) (r : Bool) (w : World) (h : nearB a = r) : Calls Tryd.prog 75 #[.int .i64 a] w fun e w' => e = .returned (.bool r) ∧ w = w' := by
  have H := Lib.hid h
  by_cases h1 : -1000000 ≤ a
  · by_cases h2 : a ≤ 1000000
    · have HR : Hid (true = r) := by have := H.out; unfold nearB at this; rw [decide_eq_true h1, decide_eq_true h2] at this; exact this
      clear h
      go_enter Tryd.func75, Tryd.ntmps75
      go_wp2
      go_ret
      exact ⟨ret_bool HR.out, rfl⟩
    · have HR : Hid (false = r) := by have := H.out; unfold nearB at this; rw [decide_eq_true h1, decide_eq_false h2] at this; exact this
      clear h
      go_enter Tryd.func75, Tryd.ntmps75
      go_wp2
      go_ret
      exact ⟨ret_bool HR.out, rfl⟩
  · have HR : Hid (false = r) := by have := H.out; unfold nearB at this; rw [decide_eq_false h1] at this; exact this
    clear h
    go_enter Tryd.func75, Tryd.ntmps75
    go_wp2
    go_ret
    exact ⟨ret_bool HR.out, rfl⟩
set_option maxHeartbeats 4000000 in
theorem pMay_is (a b : Int) (r : Bool) (w : World) (h : okP a b = r) :
    Calls Tryd.prog 48 #[.agg #[.int .i64 a, .int .i64 b]] w fun e w' => e = .returned (.bool r) ∧ Below w.heap.size w w' := by
  have hb0 := below_new w (.cells #[.int .i64 a, .int .i64 b] 56)
  have HB0 := Lib.hid hb0
  have HR := Lib.hid h
  clear hb0 h
  cases ha : nearB a
  · have H : Hid (false = r) := by have := HR.out; unfold okP at this; rw [ha] at this; exact this
    go_enter Tryd.func48, Tryd.ntmps48
    go_wp2_with (go_at_call 75; refine (isNear_is a false _ ha).mono ?_; rintro e w' ⟨rfl, rfl⟩)
    go_ret
    exact ⟨ret_bool H.out, HB0.out⟩
  · cases hb : nearB b
    · have H : Hid (false = r) := by have := HR.out; unfold okP at this; rw [ha, hb] at this; exact this
      go_enter Tryd.func48, Tryd.ntmps48
      go_wp2_with (go_at_call 75; first | (refine (isNear_is a true _ ha).mono ?_; rintro e w' ⟨rfl, rfl⟩) | (refine (isNear_is b false _ hb).mono ?_; rintro e w' ⟨rfl, rfl⟩))
      go_ret
      exact ⟨ret_bool H.out, HB0.out⟩
    · have H : Hid (true = r) := by have := HR.out; unfold okP at this; rw [ha, hb] at this; exact this
      go_enter Tryd.func48, Tryd.ntmps48
      go_wp2_with (go_at_call 75; first | (refine (isNear_is a true _ ha).mono ?_; rintro e w' ⟨rfl, rfl⟩) | (refine (isNear_is b true _ hb).mono ?_; rintro e w' ⟨rfl, rfl⟩))
      go_ret
      exact ⟨ret_bool H.out, HB0.out⟩
theorem number_any (a b : Int) (w : World) :
    Calls Tryd.prog 49 #[.agg #[.int .i64 a, .int .i64 b]] w fun e w' => e = .returned (.complex .f64 (floatOfInt .f64 a) (floatOfInt .f64 b)) ∧ Below w.heap.size w w' := by
  have hb0 := below_new w (.cells #[.int .i64 a, .int .i64 b] 56)
  have HB0 := Lib.hid hb0
  clear hb0
  go_enter Tryd.func49, Tryd.ntmps49
  go_wp2
  go_ret
  exact ⟨rfl, HB0.out⟩
theorem run_neg_float (k : FloatKind) (b : Nat) (w : World) : (Op.unary .neg (.float k b)).run Tryd.prog w = .ok (.float k (Op.negFloat k b)) w := rfl
/-- A box of a point. -/
structure PBox (w : World) (g : Nat) (a b : Int) : Prop where
  lt : g < w.heap.size
  z : w.heap[g]? = some (.cells #[.int .i64 a, .int .i64 b] 56 (0, 0))
section
variable {w w' : World} {g : Nat} {a b : Int}
theorem PBox.on (h : PBox w g a b) (hb : Below w.heap.size w w') : PBox w' g a b := ⟨by have := h.lt; have := hb.size; omega, by rw [hb.block g h.lt]; exact h.z⟩
theorem PBox.new (w : World) (a b : Int) : PBox (w.alloc (.cells #[.int .i64 a, .int .i64 b] 56)) w.heap.size a b := ⟨by simp, heap_alloc_new w _⟩
theorem PBox.chg {es : List TypeId} {k : Nat} (h : PBox w g a b) (hc : Chg es k w w') (hk : g < k) : PBox w' g a b := ⟨by have := h.lt; have := hc.bel.size; omega, by rw [hc.bel.block g hk]; exact h.z⟩
theorem PBox.of (h : w.heap[g]? = some (.cells #[.int .i64 a, .int .i64 b] 56 (0, 0))) : PBox w g a b := ⟨(Array.getElem?_eq_some_iff.1 h).1, h⟩
theorem PBox.c0 (h : PBox w g a b) : w.cell? ⟨g, 0, none⟩ = some (.int .i64 a) := by rw [cell_of_row _ _ 0 _ _ _ h.z]; rfl
theorem PBox.c1 (h : PBox w g a b) : w.cell? ⟨g, 1, none⟩ = some (.int .i64 b) := by rw [cell_of_row _ _ 1 _ _ _ h.z]; rfl
end
theorem pt_one (a b : Int) : (#[.int .i64 a, .int .i64 b] : Array Value).all (·.oneCell') = true := by simp [Value.oneCell']
/-- A point and an error returned, a point returned. -/
theorem point_ret {fn : Func} {p u : Tmp} (h : fn.results = #[.cell p 56, .tmp u]) {R : Ending → World → Prop} {a : Act} {w : World} {g : Nat} {x : Value} {c d : Int} (h4 : a.tmps.getD p undef = .pointer (some ⟨g, 0, none⟩)) (h5 : a.tmps.getD u undef = x) (hd : a.defers = [])
    (hg : w.heap[g]? = some (.cells #[.int .i64 c, .int .i64 d] 56 (0, 0))) (hR : R (.returned (.tuple #[.agg #[.int .i64 c, .int .i64 d], x])) w) : bodyPost Tryd.prog fn R .ret a w := by
  refine bodyPost_ret (v := .tuple #[.agg #[.int .i64 c, .int .i64 d], x]) ?_ hd hR
  rw [results_cell_tmp h, h4, h5]
  have := run_loadVar_row (P := Tryd.prog) w g 56 56 #[.int .i64 c, .int .i64 d] (0, 0) _ hg Tryd.underlying56 rfl (by kernel_rfl)
  simp [asAddr, Result.andThen, this]
theorem f_int {x : Nat} {a : Int} (h : FI x a) (hb : -4000000000000 ≤ a ∧ a ≤ 4000000000000) (w : World) : (convert 93 3 (.float .f64 x)).run Tryd.prog w = .ok (.int .i64 a) w :=
  run_convert_float_int w _ _ _ _ _ _ (by rw [Tryd.underlying93]; rfl) Tryd.underlying3 (h.toInt (by have : IntKind.i64.min = -9223372036854775808 := rfl; omega) (by have : IntKind.i64.max = 9223372036854775807 := rfl; omega))
def POne (x y : Int) (w : World) (e : Ending) (w' : World) : Prop := e = .returned (.agg #[.int .i64 x, .int .i64 y]) ∧ Below w.heap.size w w'
end Go.Proofs.YtcjpopjcpgipjaaDoor

namespace Go.Proofs.YtcjpopjcpgipjaaDoor
open Go.RowKit Go.Deep
set_option linter.unusedSimpArgs false
set_option linter.unusedVariables false
set_option maxRecDepth 100000

end Go.Proofs.YtcjpopjcpgipjaaDoor

namespace Go.Proofs.YtcjpopjcpgipjaaDoor
open Go.RowKit Go.Deep
set_option linter.unusedSimpArgs false
set_option linter.unusedVariables false
set_option maxRecDepth 100000

def two (g : Bool) (x y : Int) : Int := if g then x else y
theorem mul_bd {a c : Int} (h1 : -1000000 ≤ a ∧ a ≤ 1000000) (h2 : -1000000 ≤ c ∧ c ≤ 1000000) : -1000000000000 ≤ a * c ∧ a * c ≤ 1000000000000 := by
  have e : (a * c).natAbs = a.natAbs * c.natAbs := Int.natAbs_mul a c
  have : a.natAbs * c.natAbs ≤ 1000000 * 1000000 := Nat.mul_le_mul (by omega) (by omega)
  obtain ⟨z, hz⟩ : ∃ z, z = a * c := ⟨_, rfl⟩
  rw [← hz] at e ⊢
  omega
theorem FI.cast {x : Nat} {a b : Int} (h : FI x a) (e : a = b) : FI x b := e ▸ h
theorem c_add {x1 y1 x2 y2 : Nat} {a b c d : Int} (h1 : FI x1 a) (h2 : FI y1 b) (h3 : FI x2 c) (h4 : FI y2 d) (k1 : (a + c).natAbs < 9007199254740992) (k2 : (b + d).natAbs < 9007199254740992) :
    ∃ re im, FI re (a + c) ∧ FI im (b + d) ∧ ∀ w, (binOp .add 91 (.complex .f64 x1 y1) (.complex .f64 x2 y2)).run Tryd.prog w = .ok (.complex .f64 re im) w := by
  obtain ⟨re, e1, f1⟩ := h1.add h3 k1
  obtain ⟨im, e2, f2⟩ := h2.add h4 k2
  exact ⟨re, im, f1, f2, fun w => run_complex_sum w .add (.inl rfl) _ _ _ _ _ _ _ _ (by unfold cSumBits; rw [e1, e2]; rfl)⟩
theorem c_sub {x1 y1 x2 y2 : Nat} {a b c d : Int} (h1 : FI x1 a) (h2 : FI y1 b) (h3 : FI x2 c) (h4 : FI y2 d) (k1 : (a - c).natAbs < 9007199254740992) (k2 : (b - d).natAbs < 9007199254740992) :
    ∃ re im, FI re (a - c) ∧ FI im (b - d) ∧ ∀ w, (binOp .sub 91 (.complex .f64 x1 y1) (.complex .f64 x2 y2)).run Tryd.prog w = .ok (.complex .f64 re im) w := by
  obtain ⟨re, e1, f1⟩ := h1.sub h3 k1
  obtain ⟨im, e2, f2⟩ := h2.sub h4 k2
  exact ⟨re, im, f1, f2, fun w => run_complex_sum w .sub (.inr rfl) _ _ _ _ _ _ _ _ (by unfold cSumBits; rw [e1, e2]; rfl)⟩
theorem c_mul {x1 y1 x2 y2 : Nat} {a b c d : Int} (h1 : FI x1 a) (h2 : FI y1 b) (h3 : FI x2 c) (h4 : FI y2 d)
    (k1 : -1000000 ≤ a ∧ a ≤ 1000000) (k2 : -1000000 ≤ b ∧ b ≤ 1000000) (k3 : -1000000 ≤ c ∧ c ≤ 1000000) (k4 : -1000000 ≤ d ∧ d ≤ 1000000) :
    ∃ re im, FI re (a * c - b * d) ∧ FI im (a * d + b * c) ∧ ∀ w, (binOp .mul 91 (.complex .f64 x1 y1) (.complex .f64 x2 y2)).run Tryd.prog w = .ok (.complex .f64 re im) w := by
  have m1 := mul_bd k1 k3
  have m2 := mul_bd k2 k4
  have m3 := mul_bd k1 k4
  have m4 := mul_bd k2 k3
  obtain ⟨p1, e1, f1⟩ := h1.mul h3 (by omega)
  obtain ⟨p2, e2, f2⟩ := h2.mul h4 (by omega)
  obtain ⟨p3, e3, f3⟩ := h1.mul h4 (by omega)
  obtain ⟨p4, e4, f4⟩ := h2.mul h3 (by omega)
  obtain ⟨re, e5, f5⟩ := f1.sub f2 (by omega)
  obtain ⟨im, e6, f6⟩ := f3.add f4 (by omega)
  exact ⟨re, im, f5, f6, fun w => run_complex_mul w _ _ _ _ _ _ _ (by unfold cMulBits; simp only [e1, e2, e3, e4, e5, e6, Option.bind_some])⟩
theorem ok_parts {a b : Int} (h : okP a b = true) : (-1000000 ≤ a ∧ a ≤ 1000000) ∧ (-1000000 ≤ b ∧ b ≤ 1000000) := okP_iff.1 h
theorem FI.near {a : Int} (h : -1000000 ≤ a ∧ a ≤ 1000000) : FI (floatOfInt .f64 a) a := FI.int a (by omega)

theorem three_pts (w : World) (a b c d : Int) : ∃ w0, w0 = ((w.alloc (.cells #[.int .i64 a, .int .i64 b] 56)).alloc (.cells #[.int .i64 c, .int .i64 d] 56)).alloc (.cells #[.int .i64 0, .int .i64 0] 56) ∧
    Below w.heap.size w w0 ∧ PBox w0 w.heap.size a b ∧ PBox w0 (w.heap.size + 1) c d ∧ PBox w0 (w.heap.size + 1 + 1) 0 0 := by
  obtain ⟨u, hu⟩ : ∃ u, u = w.alloc (.cells #[.int .i64 a, .int .i64 b] 56) := ⟨_, rfl⟩
  obtain ⟨v, hv⟩ : ∃ v, v = u.alloc (.cells #[.int .i64 c, .int .i64 d] 56) := ⟨_, rfl⟩
  have h1 := PBox.new w a b
  have h2 := PBox.new u c d
  have h3 := PBox.new v 0 0
  have b1 := below_new w (.cells #[.int .i64 a, .int .i64 b] 56)
  have b2 := below_new u (.cells #[.int .i64 c, .int .i64 d] 56)
  have b3 := below_new v (.cells #[.int .i64 0, .int .i64 0] 56)
  rw [← hu] at h1 b1
  rw [← hv] at h2 b2
  have s1 : u.heap.size = w.heap.size + 1 := by rw [hu]; simp
  have s2 : v.heap.size = w.heap.size + 1 + 1 := by rw [hv]; simp; omega
  refine ⟨_, rfl, ?_, ?_, ?_, ?_⟩
  · rw [← hu, ← hv]; exact (b1.trans (b2.mono (by omega))).trans (b3.mono (by omega))
  · rw [← hu, ← hv]; exact (h1.on b2).on b3
  · rw [← hu, ← hv, ← s1]; exact h2.on b3
  · rw [← hu, ← hv, ← s2]; exact h3
theorem two_pts (w : World) (a b c d : Int) : ∃ w0, w0 = ((w.alloc (.cells #[.int .i64 a, .int .i64 b] 56)).alloc (.cells #[.int .i64 c, .int .i64 d] 56)) ∧
    Below w.heap.size w w0 ∧ PBox w0 w.heap.size a b ∧ PBox w0 (w.heap.size + 1) c d := by
  obtain ⟨u, hu⟩ : ∃ u, u = w.alloc (.cells #[.int .i64 a, .int .i64 b] 56) := ⟨_, rfl⟩
  have h1 := PBox.new w a b
  have h2 := PBox.new u c d
  have b1 := below_new w (.cells #[.int .i64 a, .int .i64 b] 56)
  have b2 := below_new u (.cells #[.int .i64 c, .int .i64 d] 56)
  rw [← hu] at h1 b1
  have s1 : u.heap.size = w.heap.size + 1 := by rw [hu]; simp
  refine ⟨_, rfl, ?_, ?_, ?_⟩
  · rw [← hu]; exact b1.trans (b2.mono (by omega))
  · rw [← hu]; exact h1.on b2
  · rw [← hu, ← s1]; exact h2
end Go.Proofs.YtcjpopjcpgipjaaDoor

namespace Go.Proofs.YtcjpopjcpgipjaaDoor
open Go.RowKit Go.Deep
set_option linter.unusedSimpArgs false
set_option linter.unusedVariables false
set_option maxRecDepth 100000

def UPost (r : Bool) (E : Int) (w : World) (e : Ending) (w' : World) : Prop := e = .returned (.tuple #[.bool r, .int .i64 E]) ∧ Below w.heap.size w w'
def SPost (x E : Int) (w : World) (e : Ending) (w' : World) : Prop := e = .returned (.tuple #[.int .i64 x, .int .i64 E]) ∧ Below w.heap.size w w'
theorem ret_u {a b : Bool} {c d : Int} (h1 : a = b) (h2 : c = d) : Ending.returned (.tuple #[.bool a, .int .i64 c]) = .returned (.tuple #[.bool b, .int .i64 d]) := by rw [h1, h2]
theorem ret_s {a b c d : Int} (h1 : a = b) (h2 : c = d) : Ending.returned (.tuple #[.int .i64 a, .int .i64 c]) = .returned (.tuple #[.int .i64 b, .int .i64 d]) := by rw [h1, h2]
theorem geq_yes {x : Nat} {a : Int} (h : FI x a) (h0 : 0 ≤ a) : (FloatKind.f64.format.order x 0 == some .gt || FloatKind.f64.format.order x 0 == some .eq) = true := by
  have : FloatKind.f64.format.order x 0 = some (compare a 0) := h.order FI.zero
  rw [this]
  show (some (compareOfLessAndEq a 0) == some .gt || some (compareOfLessAndEq a 0) == some .eq) = true
  unfold compareOfLessAndEq
  rw [if_neg (by omega)]
  by_cases e : a = 0
  · rw [if_pos e]; rfl
  · rw [if_neg e]; rfl
theorem geq_no {x : Nat} {a : Int} (h : FI x a) (h0 : a < 0) : (FloatKind.f64.format.order x 0 == some .gt || FloatKind.f64.format.order x 0 == some .eq) = false := by
  have : FloatKind.f64.format.order x 0 = some (compare a 0) := h.order FI.zero
  rw [this]
  show (some (compareOfLessAndEq a 0) == some .gt || some (compareOfLessAndEq a 0) == some .eq) = false
  unfold compareOfLessAndEq
  rw [if_pos (by omega)]
  rfl
set_option maxHeartbeats 4000000 in
theorem under_any (a b c d : Int) (w : World) : Calls Tryd.prog 25 #[.agg #[.int .i64 a, .int .i64 b], .agg #[.int .i64 c, .int .i64 d]] w
    (UPost ((okP a b && okP c d) && (decide (a ≤ c) && decide (b ≤ d))) (two (okP a b && okP c d) 0 900) w) := by
  obtain ⟨w0, hw0, hb0, hx0, hy0⟩ := two_pts w a b c d
  have HB0 := Lib.hid hb0
  have HX := Lib.hid hx0
  have HY := Lib.hid hy0
  go_enter Tryd.func25, Tryd.ntmps25
  go_upto_region 1 with (fail)
  rw [← hw0]
  clear hw0 hb0 hx0 hy0
  cases h1 : okP a b
  · have H1 := Lib.hid h1
    have p0 := HX.out.c0
    have p1 := HX.out.c1
    have q0 := HY.out.c0
    have q1 := HY.out.c1
    go_wp2_with fail
    refine (pMay_is a b false _ h1).mono ?_
    rintro e w1 ⟨rfl, hb1⟩
    have HB1 := Lib.hid (HB0.out.trans (hb1.mono HB0.out.size))
    clear hb1 p0 p1 q0 q1 HB0 h1
    go_wp2
    go_ret2
    exact ⟨ret_u (by rw [H1.out]; rfl) (by rw [H1.out]; rfl), HB1.out⟩
  have H1 := Lib.hid h1
  cases h2 : okP c d
  · have H2 := Lib.hid h2
    have p0 := HX.out.c0
    have p1 := HX.out.c1
    have q0 := HY.out.c0
    have q1 := HY.out.c1
    go_wp2_with fail
    refine (pMay_is a b true _ h1).mono ?_
    rintro e w1 ⟨rfl, hb1⟩
    have HB1 := Lib.hid (HB0.out.trans (hb1.mono HB0.out.size))
    replace HX := Lib.hid (HX.out.on hb1)
    replace HY := Lib.hid (HY.out.on hb1)
    clear hb1 p0 p1 q0 q1 HB0 h1
    have p0 := HX.out.c0
    have p1 := HX.out.c1
    have q0 := HY.out.c0
    have q1 := HY.out.c1
    go_wp2_with fail
    refine (pMay_is c d false _ h2).mono ?_
    rintro e w2 ⟨rfl, hb2⟩
    have HB2 := Lib.hid (HB1.out.trans (hb2.mono HB1.out.size))
    clear hb2 p0 p1 q0 q1 HB1 h2
    go_wp2
    go_ret2
    exact ⟨ret_u (by rw [H1.out, H2.out]; rfl) (by rw [H1.out, H2.out]; rfl), HB2.out⟩
  have H2 := Lib.hid h2
  have p0 := HX.out.c0
  have p1 := HX.out.c1
  have q0 := HY.out.c0
  have q1 := HY.out.c1
  go_wp2_with fail
  refine (pMay_is a b true _ h1).mono ?_
  rintro e w1 ⟨rfl, hb1⟩
  have HB1 := Lib.hid (HB0.out.trans (hb1.mono HB0.out.size))
  replace HX := Lib.hid (HX.out.on hb1)
  replace HY := Lib.hid (HY.out.on hb1)
  clear hb1 p0 p1 q0 q1 HB0 h1
  have p0 := HX.out.c0
  have p1 := HX.out.c1
  have q0 := HY.out.c0
  have q1 := HY.out.c1
  go_wp2_with fail
  refine (pMay_is c d true _ h2).mono ?_
  rintro e w2 ⟨rfl, hb2⟩
  have HB2 := Lib.hid (HB1.out.trans (hb2.mono HB1.out.size))
  replace HX := Lib.hid (HX.out.on hb2)
  replace HY := Lib.hid (HY.out.on hb2)
  clear hb2 p0 p1 q0 q1 HB1 h2
  have p0 := HX.out.c0
  have p1 := HX.out.c1
  have q0 := HY.out.c0
  have q1 := HY.out.c1
  obtain ⟨k1, k2⟩ := ok_parts H1.out
  obtain ⟨k3, k4⟩ := ok_parts H2.out
  obtain ⟨re, im, f1, f2, hbin⟩ := c_sub (FI.near k3) (FI.near k4) (FI.near k1) (FI.near k2) (by omega) (by omega)
  have F1 := Lib.hid f1
  have F2 := Lib.hid f2
  clear f1 f2 k1 k2 k3 k4
  go_upto_region 3 with (fail)
  refine wp_region_held_drew (S := (fun w' => w'.cell? ⟨w.heap.size, 0, none⟩ = some (.int .i64 a) ∧ w'.cell? ⟨w.heap.size, 1, none⟩ = some (.int .i64 b) ∧ w'.cell? ⟨w.heap.size + 1, 0, none⟩ = some (.int .i64 c) ∧ w'.cell? ⟨w.heap.size + 1, 1, none⟩ = some (.int .i64 d))) (by kernel_rfl) ⟨p0, p1, q0, q1⟩ (fun hHeld => ?_)
  have hd3 : Below w2.heap.size w2 w2.drew := (Below.refl w2.heap.size w2).drew
  refine takeH (i := 0) (v := ?_) rfl rfl (by kernel_rfl) (by kernel_rfl) (by kernel_rfl) (fun _ _ _ h => h) (by rfl) ?_ hHeld ?_
  rotate_left
  · (intro w hSw; (try dsimp only at hSw); first | (go_simp; done) | (go_simp; with_reducible rfl))
  simp only [Act.put, List.setIfInBounds_toArray, List.set_cons_zero, List.set_cons_succ]
  refine takeH (i := 2) (v := ?_) rfl rfl (by kernel_rfl) (by kernel_rfl) (by kernel_rfl) (fun _ _ _ h => h) (by rfl) ?_ hHeld ?_
  rotate_left
  · (intro w hSw; (try dsimp only at hSw); first | (go_simp; done) | (go_simp; with_reducible rfl))
  simp only [Act.put, List.setIfInBounds_toArray, List.set_cons_zero, List.set_cons_succ]
  replace HX := Lib.hid (HX.out.on hd3)
  replace HY := Lib.hid (HY.out.on hd3)
  have HB3 := Lib.hid (HB2.out.trans (hd3.mono HB2.out.size))
  clear hd3 p0 p1 q0 q1 HB2
  obtain ⟨w3, hw3⟩ : ∃ w3, w3 = w2.drew := ⟨_, rfl⟩
  rw [← hw3] at HX HY HB3 ⊢
  clear hw3
  have p0 := HX.out.c0
  have p1 := HX.out.c1
  have q0 := HY.out.c0
  have q1 := HY.out.c1
  refine wpAnyH_ready (rs := [1]) (by kernel_rfl) (by simp) ?_
  refine AllReadyH.cons rfl (fun K hK => ?_) AllReadyH.nil
  go_simp
  refine (number_any c d _).mono ?_
  rintro e w4 ⟨rfl, hb4⟩
  have HB4 := Lib.hid (HB3.out.trans (hb4.mono HB3.out.size))
  replace HX := Lib.hid (HX.out.on hb4)
  replace HY := Lib.hid (HY.out.on hb4)
  clear hb4 p0 p1 q0 q1
  have p0 := HX.out.c0
  have p1 := HX.out.c1
  have q0 := HY.out.c0
  have q1 := HY.out.c1
  go_wp2_with fail
  refine hK.out _ _ ?_ (fun hHeld => ?_)
  · exact ⟨p0, p1, q0, q1⟩
  clear hK K
  refine wpAnyH_ready (rs := [3]) (by kernel_rfl) (by simp) ?_
  refine AllReadyH.cons rfl (fun K hK => ?_) AllReadyH.nil
  go_simp
  refine (number_any a b _).mono ?_
  rintro e w5 ⟨rfl, hb5⟩
  have HB5 := Lib.hid (HB4.out.trans (hb5.mono HB4.out.size))
  replace HX := Lib.hid (HX.out.on hb5)
  replace HY := Lib.hid (HY.out.on hb5)
  clear hb5 p0 p1 q0 q1
  have p0 := HX.out.c0
  have p1 := HX.out.c1
  have q0 := HY.out.c0
  have q1 := HY.out.c1
  go_wp2_with fail
  refine hK.out _ _ ?_ (fun hHeld => ?_)
  · exact ⟨p0, p1, q0, q1⟩
  clear hK K
  refine takeH (i := 4) (v := ?_) rfl rfl (by kernel_rfl) (by kernel_rfl) (by kernel_rfl) (fun _ _ _ h => h) (by rfl) ?_ hHeld ?_
  rotate_left
  · (intro w hSw; (try dsimp only at hSw); first | (go_simp; done) | (go_simp; with_reducible rfl))
  simp only [Act.put, List.setIfInBounds_toArray, List.set_cons_zero, List.set_cons_succ]
  refine takeH (i := 5) (v := ?_) rfl rfl (by kernel_rfl) (by kernel_rfl) (by kernel_rfl) (fun _ _ _ h => h) (by rfl) ?_ hHeld ?_
  rotate_left
  · (intro w hSw; (try dsimp only at hSw); first | (go_simp; done) | (go_simp; with_reducible rfl))
  simp only [Act.put, List.setIfInBounds_toArray, List.set_cons_zero, List.set_cons_succ]
  refine wpAnyH_done (by kernel_rfl) ?_ _
  by_cases g1 : a ≤ c
  · have G1 := Lib.hid (decide_eq_true g1)
    have o1 := geq_yes F1.out (by omega)
    by_cases g2 : b ≤ d
    · have G2 := Lib.hid (decide_eq_true g2)
      have o2 := geq_yes F2.out (by omega)
      clear g1 g2
      go_wp2
      go_ret2
      exact ⟨ret_u (by rw [H1.out, H2.out, G1.out, G2.out]; rfl) (by rw [H1.out, H2.out]; rfl), HB5.out⟩
    · have G2 := Lib.hid (decide_eq_false g2)
      have o2 := geq_no F2.out (by omega)
      clear g1 g2
      go_wp2
      go_ret2
      exact ⟨ret_u (by rw [H1.out, H2.out, G1.out, G2.out]; rfl) (by rw [H1.out, H2.out]; rfl), HB5.out⟩
  · have G1 := Lib.hid (decide_eq_false g1)
    have o1 := geq_no F1.out (by omega)
    clear g1
    go_wp2
    go_ret2
    exact ⟨ret_u (by rw [H1.out, H2.out, G1.out]; rfl) (by rw [H1.out, H2.out]; rfl), HB5.out⟩
end Go.Proofs.YtcjpopjcpgipjaaDoor
