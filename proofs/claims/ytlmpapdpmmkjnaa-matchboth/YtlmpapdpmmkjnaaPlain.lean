/-
  Plain words for symbols and signatures: no program. Valid names, valid symbols, a name's code, valid signatures.
-/
import Derived.WalkKit
namespace Go.Proofs.Ytlmpapdpmmkjnaa
open Go.RowKit
set_option linter.unusedSimpArgs false
set_option linter.unusedVariables false

def letterB (n : Int) : Bool := decide (97 ≤ n) && decide (n ≤ 122)
def digitB (n : Int) : Bool := decide (48 ≤ n) && decide (n ≤ 57)
def withinB (n a b : Int) : Bool := decide (a ≤ n) && decide (n ≤ b)
def kindB (n : Int) : Bool := decide (0 ≤ n) && decide (n ≤ 2)
/-- The byte at a place, as an integer; 0 behind the end. -/
def byteAt (s : ByteArray) (k : Nat) : Int := ((s.data.toList.getD k 0).toNat : Int)
def okB (n : Int) : Bool := letterB n || digitB n
/-- The bytes at the places from a to k - 1 are letters or digits. -/
def okTo (s : ByteArray) (a k : Nat) : Prop := ∀ j, a ≤ j → j < k → okB (byteAt s j) = true
instance (s : ByteArray) (a k : Nat) : Decidable (okTo s a k) :=
  decidable_of_iff (∀ j, j < k → a ≤ j → okB (byteAt s j) = true) ⟨fun h j h1 h2 => h j h2 h1, fun h j h1 h2 => h j h2 h1⟩
def nameB (s : ByteArray) : Bool :=
  decide (1 ≤ s.size ∧ s.size ≤ 8 ∧ letterB (byteAt s 0) = true ∧ okTo s 0 s.size)

theorem okTo_step {s : ByteArray} {a k : Nat} (h : okTo s a k) (hk : okB (byteAt s k) = true) : okTo s a (k + 1) := by
  intro j h1 h2
  by_cases e : j = k
  · subst e; exact hk
  · exact h j h1 (by omega)
theorem okTo_nil (s : ByteArray) (a : Nat) : okTo s a a := fun j h1 h2 => absurd h2 (by omega)
theorem okTo_not {s : ByteArray} {a k n : Nat} (h1 : a ≤ k) (h2 : k < n) (hk : okB (byteAt s k) = false) : ¬ okTo s a n :=
  fun h => by have := h k h1 h2; rw [hk] at this; cases this
theorem okTo_zero {s : ByteArray} {n : Nat} (h : okTo s 1 n) (h0 : letterB (byteAt s 0) = true) : okTo s 0 n := by
  intro j _ h2
  by_cases e : j = 0
  · subst e; simp [okB, h0]
  · exact h j (by omega) h2
theorem nameB_true {s : ByteArray} (h1 : 1 ≤ s.size) (h8 : s.size ≤ 8) (h0 : letterB (byteAt s 0) = true) (h : okTo s 1 s.size) : nameB s = true := by
  unfold nameB; exact decide_eq_true ⟨h1, h8, h0, okTo_zero h h0⟩
theorem nameB_true0 {s : ByteArray} (h1 : 1 ≤ s.size) (h8 : s.size ≤ 8) (h0 : letterB (byteAt s 0) = true) (h : okTo s 0 s.size) : nameB s = true := by
  unfold nameB; exact decide_eq_true ⟨h1, h8, h0, h⟩
theorem nameB_false {s : ByteArray} (h : ¬ (1 ≤ s.size ∧ s.size ≤ 8 ∧ letterB (byteAt s 0) = true ∧ okTo s 0 s.size)) : nameB s = false := by
  unfold nameB; exact decide_eq_false h
theorem nameB_bad {s : ByteArray} {k : Nat} (hk : k < s.size) (h : okB (byteAt s k) = false) : nameB s = false :=
  nameB_false fun hh => okTo_not (Nat.zero_le k) hk h hh.2.2.2
theorem byteAt_eq (s : ByteArray) (k : Nat) (h : k < s.size) : ((s[k]).toNat : Int) = byteAt s k := by
  unfold byteAt
  have h' : k < s.data.toList.length := by simpa using h
  have : s.data.toList.getD k 0 = s[k] := by
    rw [List.getD_eq_getElem?_getD, List.getElem?_eq_getElem h']; rfl
  rw [this]

end Go.Proofs.Ytlmpapdpmmkjnaa
