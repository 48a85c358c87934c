/-
  Plain words for symbols and signatures: no program. Valid names, valid symbols, a name's code, valid signatures.
  Plain words, more: symbols, a name's code, valid signatures.
  Contracts of the leaves of package sign and of the reference: letters, digits, bounds, kinds, names.
  Contracts over one symbol: validSym, isEquality, the reference's SymMay.
  Contract of the reference's SymMay.
  Words for memory: a slice of symbols that reads as a list of symbols (nil let in), kept below a block.
  Contracts: a name's code, by the program and by the reference.
  Contracts: sign.May and the reference's SignMay.
  Two laws for a region that draws its order, walked by hand: an operation that runs in every world that meets S is taken first; one whose guard says no is passed over. The slot that it writes is named, so that the frame stays written out.
  Contract: sign.May.
  Words for memory, more: a row of symbols that the call itself has made.
  Words for memory: a slice of one-cell elements (integers, strings) that reads as a list, nil let in.
-/
import Derived.WalkKit
import Derived.Test.YtmdajmdjmdbonaaRows
import Derived.WalkSpells
import Derived.WalkLawsBesides
import Derived.Lib.Hide
import Derived.Below
import Derived.Laws.OwnMore
import Derived.Deep.AppendLies
import Derived.Deep.Draws
import Derived.Deep.RegionHeld3
import Derived.Deep.QuietTactic
import Derived.BigQuiet
import Derived.Deep.RegionWith
import Derived.Deep.DrawnRows
import Derived.Maps.AppendAt
import Derived.OwnWalk
namespace Go.Proofs.Ytmdajmdjmdbonaa
open Go.RowKit
set_option linter.unusedSimpArgs false
set_option linter.unusedVariables false

def letterB (n : Int) : Bool := decide (97 ≤ n) && decide (n ≤ 122)
def digitB (n : Int) : Bool := decide (48 ≤ n) && decide (n ≤ 57)
def withinB (n a b : Int) : Bool := decide (a ≤ n) && decide (n ≤ b)
def kindB (n : Int) : Bool := decide (0 ≤ n) && decide (n ≤ 2)
/-- The byte at a place, as an integer; 0 behind the end. -/
def byteAt (s : ByteArray) (k : Nat) : Int := ((s.data.toList.getD k 0).toNat : Int)
def okB (n : Int) : Bool := letterB n || digitB n
/-- The bytes at the places from a to k - 1 are letters or digits. -/
def okTo (s : ByteArray) (a k : Nat) : Prop := ∀ j, a ≤ j → j < k → okB (byteAt s j) = true
instance (s : ByteArray) (a k : Nat) : Decidable (okTo s a k) :=
  decidable_of_iff (∀ j, j < k → a ≤ j → okB (byteAt s j) = true) ⟨fun h j h1 h2 => h j h2 h1, fun h j h1 h2 => h j h2 h1⟩
def nameB (s : ByteArray) : Bool :=
  decide (1 ≤ s.size ∧ s.size ≤ 8 ∧ letterB (byteAt s 0) = true ∧ okTo s 0 s.size)

theorem okTo_step {s : ByteArray} {a k : Nat} (h : okTo s a k) (hk : okB (byteAt s k) = true) : okTo s a (k + 1) := by
  intro j h1 h2
  by_cases e : j = k
  · subst e; exact hk
  · exact h j h1 (by omega)
theorem okTo_nil (s : ByteArray) (a : Nat) : okTo s a a := fun j h1 h2 => absurd h2 (by omega)
theorem okTo_not {s : ByteArray} {a k n : Nat} (h1 : a ≤ k) (h2 : k < n) (hk : okB (byteAt s k) = false) : ¬ okTo s a n :=
  fun h => by have := h k h1 h2; rw [hk] at this; cases this
theorem okTo_zero {s : ByteArray} {n : Nat} (h : okTo s 1 n) (h0 : letterB (byteAt s 0) = true) : okTo s 0 n := by
  intro j _ h2
  by_cases e : j = 0
  · subst e; simp [okB, h0]
  · exact h j (by omega) h2
theorem nameB_true {s : ByteArray} (h1 : 1 ≤ s.size) (h8 : s.size ≤ 8) (h0 : letterB (byteAt s 0) = true) (h : okTo s 1 s.size) : nameB s = true := by
  unfold nameB; exact decide_eq_true ⟨h1, h8, h0, okTo_zero h h0⟩
theorem nameB_true0 {s : ByteArray} (h1 : 1 ≤ s.size) (h8 : s.size ≤ 8) (h0 : letterB (byteAt s 0) = true) (h : okTo s 0 s.size) : nameB s = true := by
  unfold nameB; exact decide_eq_true ⟨h1, h8, h0, h⟩
theorem nameB_false {s : ByteArray} (h : ¬ (1 ≤ s.size ∧ s.size ≤ 8 ∧ letterB (byteAt s 0) = true ∧ okTo s 0 s.size)) : nameB s = false := by
  unfold nameB; exact decide_eq_false h
theorem nameB_bad {s : ByteArray} {k : Nat} (hk : k < s.size) (h : okB (byteAt s k) = false) : nameB s = false :=
  nameB_false fun hh => okTo_not (Nat.zero_le k) hk h hh.2.2.2
theorem byteAt_eq (s : ByteArray) (k : Nat) (h : k < s.size) : ((s[k]).toNat : Int) = byteAt s k := by
  unfold byteAt
  have h' : k < s.data.toList.length := by simpa using h
  have : s.data.toList.getD k 0 = s[k] := by
    rw [List.getD_eq_getElem?_getD, List.getElem?_eq_getElem h']; rfl
  rw [this]

end Go.Proofs.Ytmdajmdjmdbonaa

namespace Go.Proofs.Ytmdajmdjmdbonaa
open Go.RowKit
set_option linter.unusedSimpArgs false
set_option linter.unusedVariables false

structure Sym where
  name : ByteArray
  kind : Int
  arity : Int
  weight : Int

def symB (s : Sym) : Bool := nameB s.name && kindB s.kind && withinB s.arity 0 3 && withinB s.weight 1 20
def eqB (s : Sym) : Bool := decide (s.name.toList = [61]) && decide (s.kind = 0) && decide (s.arity = 2) && decide (s.weight = 1)
/-- Two names are the same, as the program asks it. -/
def sameB (a b : ByteArray) : Bool := a.toList == b.toList
/-- The symbol with a code; an empty one behind the end. -/
def symAt (ss : List Sym) (i : Nat) : Sym := ss.getD i ⟨ByteArray.empty, 0, 0, 0⟩
/-- No symbol ahead of place k has this name. -/
def none_ (ss : List Sym) (n : ByteArray) (k : Nat) : Prop := ∀ j, j < k → sameB (symAt ss j).name n = false
instance (ss : List Sym) (n : ByteArray) (k : Nat) : Decidable (none_ ss n k) := inferInstanceAs (Decidable (∀ j, j < k → sameB (symAt ss j).name n = false))
/-- The code of a name; -1: none. -/
def codeFrom : List Sym → ByteArray → Nat → Int
  | [], _, _ => -1
  | s :: r, n, k => if sameB s.name n then (k : Int) else codeFrom r n (k + 1)
def code (ss : List Sym) (n : ByteArray) : Int := codeFrom ss n 0
def mayP (ss : List Sym) : Prop :=
  1 ≤ ss.length ∧ ss.length ≤ 20 ∧ eqB (symAt ss 0) = true ∧ ∀ i, i < ss.length → 1 ≤ i → symB (symAt ss i) = true ∧ none_ ss (symAt ss i).name i
instance (ss : List Sym) : Decidable (mayP ss) := by unfold mayP; infer_instance
def mayB (ss : List Sym) : Bool := decide (mayP ss)

theorem codeFrom_miss (ss : List Sym) (n : ByteArray) (k : Nat) (h : none_ ss n ss.length) : codeFrom ss n k = -1 := by
  induction ss generalizing k with
  | nil => rfl
  | cons s r ih =>
    have h0 : sameB s.name n = false := h 0 (by simp)
    unfold codeFrom
    rw [h0]
    exact ih (k + 1) (fun j hj => h (j + 1) (by simp; omega))
theorem codeFrom_hit (ss : List Sym) (n : ByteArray) (k i : Nat) (hi : i < ss.length) (h : none_ ss n i) (hs : sameB (symAt ss i).name n = true) : codeFrom ss n k = ((k + i : Nat) : Int) := by
  induction ss generalizing k i with
  | nil => simp at hi
  | cons s r ih =>
    unfold codeFrom
    cases i with
    | zero =>
      have hs' : sameB s.name n = true := hs
      rw [if_pos hs', Nat.add_zero]
    | succ i =>
      have h0 : sameB s.name n = false := h 0 (by omega)
      rw [h0]
      have := ih (k + 1) i (by simpa using hi) (fun j hj => h (j + 1) (by omega)) hs
      rw [if_neg (by simp), this]
      omega
theorem code_miss {ss : List Sym} {n : ByteArray} (h : none_ ss n ss.length) : code ss n = -1 := codeFrom_miss ss n 0 h
theorem code_hit {ss : List Sym} {n : ByteArray} {i : Nat} (hi : i < ss.length) (h : none_ ss n i) (hs : sameB (symAt ss i).name n = true) : code ss n = (i : Int) := by
  have := codeFrom_hit ss n 0 i hi h hs
  rw [Nat.zero_add] at this
  exact this
theorem none_step {ss : List Sym} {n : ByteArray} {k : Nat} (h : none_ ss n k) (hk : sameB (symAt ss k).name n = false) : none_ ss n (k + 1) := by
  intro j hj
  by_cases e : j = k
  · subst e; exact hk
  · exact h j (by omega)
/-- A name's code: there is none, or a first place. -/
theorem code_cases (ss : List Sym) (n : ByteArray) : (none_ ss n ss.length ∧ code ss n = -1) ∨ ∃ i, i < ss.length ∧ none_ ss n i ∧ sameB (symAt ss i).name n = true ∧ code ss n = (i : Int) := by
  have aux : ∀ k, k ≤ ss.length → none_ ss n k ∨ ∃ i, i < k ∧ none_ ss n i ∧ sameB (symAt ss i).name n = true := by
    intro k
    induction k with
    | zero => intro _; exact .inl fun j hj => absurd hj (by omega)
    | succ k ih =>
      intro hk
      rcases ih (by omega) with h | ⟨i, hi, h⟩
      · cases hs : sameB (symAt ss k).name n
        · exact .inl (none_step h hs)
        · exact .inr ⟨k, by omega, h, hs⟩
      · exact .inr ⟨i, by omega, h⟩
  rcases aux ss.length (Nat.le_refl _) with h | ⟨i, hi, h1, h2⟩
  · exact .inl ⟨h, code_miss h⟩
  · exact .inr ⟨i, hi, h1, h2, code_hit hi h1 h2⟩
theorem symAt_take {ss : List Sym} {i j : Nat} (h : j < i) : symAt (ss.take i) j = symAt ss j := by
  unfold symAt
  rw [List.getD_eq_getElem?_getD, List.getD_eq_getElem?_getD, List.getElem?_take, if_pos h]
theorem none_take {ss : List Sym} {n : ByteArray} {i : Nat} : none_ (ss.take i) n i ↔ none_ ss n i := by
  constructor
  · intro h j hj; rw [← symAt_take hj]; exact h j hj
  · intro h j hj; rw [symAt_take hj]; exact h j hj
theorem code_take {ss : List Sym} {n : ByteArray} {i : Nat} (hi : i ≤ ss.length) : decide (0 ≤ code (ss.take i) n) = !decide (none_ ss n i) := by
  have hl : (ss.take i).length = i := by simp; omega
  rcases code_cases (ss.take i) n with ⟨h, hc⟩ | ⟨j, hj, h, hs, hc⟩
  · rw [hl] at h
    rw [hc, decide_eq_true (none_take.1 h)]; rfl
  · rw [hc, decide_eq_false (p := none_ ss n i)]
    · simp
    · intro hn
      rw [hl] at hj
      have := hn j hj
      rw [symAt_take hj] at hs
      rw [hs] at this; cases this
theorem sameB_self (n : ByteArray) : sameB n n = true := by unfold sameB; simp
theorem code_self {ss : List Sym} {i : Nat} (hi : i < ss.length) : (code ss (symAt ss i).name == (i : Int)) = decide (none_ ss (symAt ss i).name i) := by
  by_cases h : none_ ss (symAt ss i).name i
  · rw [code_hit hi h (sameB_self _), decide_eq_true h]; simp
  · rw [decide_eq_false h]
    rcases code_cases ss (symAt ss i).name with ⟨h', hc⟩ | ⟨j, hj, h1, h2, hc⟩
    · exact absurd (fun k hk => h' k (by omega)) h
    · rw [hc]
      have : j ≠ i := by rintro rfl; exact h h1
      simp; omega

theorem mayB_false {ss : List Sym} (h : ¬ mayP ss) : mayB ss = false := decide_eq_false h
theorem mayB_true {ss : List Sym} (h : mayP ss) : mayB ss = true := decide_eq_true h
/-- The symbols from place 1 to k - 1 are valid and new. -/
def goodTo (ss : List Sym) (k : Nat) : Prop := ∀ i, i < k → 1 ≤ i → symB (symAt ss i) = true ∧ none_ ss (symAt ss i).name i
theorem goodTo_one (ss : List Sym) : goodTo ss 1 := fun i h1 h2 => absurd h1 (by omega)
theorem goodTo_step {ss : List Sym} {k : Nat} (h : goodTo ss k) (h1 : symB (symAt ss k) = true) (h2 : none_ ss (symAt ss k).name k) : goodTo ss (k + 1) := by
  intro j hj h0
  by_cases e : j = k
  · subst e; exact ⟨h1, h2⟩
  · exact h j (by omega) h0

end Go.Proofs.Ytmdajmdjmdbonaa

namespace Go.Proofs.Ytmdajmdjmdbonaa
open Go.RowKit
set_option linter.unusedSimpArgs false
set_option linter.unusedVariables false

theorem ret_bool {a b : Bool} (h : a = b) : Ending.returned (.bool a) = .returned (.bool b) := by rw [h]
theorem ret_int {k : IntKind} {a b : Int} (h : a = b) : Ending.returned (.int k a) = .returned (.int k b) := by rw [h]

set_option maxHeartbeats 400000 in
theorem isLetter_any (n : Int) (w : World) :
    Calls Try.prog 42 #[.int .u8 n] w fun e w' => e = .returned (.bool (letterB n)) ∧ w = w' := by
  unfold letterB
  by_cases h1 : 97 ≤ n
  all_goals by_cases h2 : n ≤ 122
  all_goals
    go_enter Try.func42, Try.ntmps42
    go_wp2
    go_ret
    exact ⟨by simp [h1, h2], rfl⟩

set_option maxHeartbeats 400000 in
theorem isDigit_any (n : Int) (w : World) :
    Calls Try.prog 43 #[.int .u8 n] w fun e w' => e = .returned (.bool (digitB n)) ∧ w = w' := by
  unfold digitB
  by_cases h1 : 48 ≤ n
  all_goals by_cases h2 : n ≤ 57
  all_goals
    go_enter Try.func43, Try.ntmps43
    go_wp2
    go_ret
    exact ⟨by simp [h1, h2], rfl⟩

set_option maxHeartbeats 400000 in
theorem within_any (n a b : Int) (w : World) :
    Calls Try.prog 41 #[.int .i64 n, .int .i64 a, .int .i64 b] w fun e w' => e = .returned (.bool (withinB n a b)) ∧ w = w' := by
  unfold withinB
  by_cases h1 : a ≤ n
  all_goals by_cases h2 : n ≤ b
  all_goals
    go_enter Try.func41, Try.ntmps41
    go_wp2
    go_ret
    exact ⟨by simp [h1, h2], rfl⟩

set_option maxHeartbeats 400000 in
theorem validKind_any (n : Int) (w : World) :
    Calls Try.prog 40 #[.int .i64 n] w fun e w' => e = .returned (.bool (kindB n)) ∧ w = w' := by
  unfold kindB
  go_enter Try.func40, Try.ntmps40
  go_wp2
  all_goals
    go_ret
    refine ⟨ret_bool ?_, rfl⟩
    simp_all
    try omega

set_option maxHeartbeats 400000 in
theorem validName_any (s : ByteArray) (w : World) (hs : s.size ≤ maxLen) :
    Calls Try.prog 39 #[.string s] w fun e w' => e = .returned (.bool (nameB s)) ∧ w = w' := by
  unfold maxLen at hs
  by_cases h18 : 1 ≤ s.size ∧ s.size ≤ 8
  · obtain ⟨h1, h8⟩ := h18
    have hw : withinB (s.size : Int) 1 8 = true := by unfold withinB; simp; omega
    have h0 := byteAt_eq s 0 (by omega)
    cases hl : letterB ((s[0]).toNat : Int)
    · have H : Hid (nameB s = false) := nameB_false fun hh => by rw [h0] at hl; rw [hl] at hh; simp at hh
      clear h0
      go_enter Try.func39, Try.ntmps39
      go_wp2_with (first
        | (go_at_call 41; refine (within_any _ _ _ _).mono ?_; rintro e w' ⟨rfl, rfl⟩)
        | (go_at_call 42; refine (isLetter_any _ _).mono ?_; rintro e w' ⟨rfl, rfl⟩))
      go_ret
      exact ⟨ret_bool H.out.symm, rfl⟩
    · have H0 : Hid (letterB (byteAt s 0) = true) := by rw [← h0]; exact hl
      clear h0
      go_enter Try.func39, Try.ntmps39
      go_wp2_with (first
        | (go_at_call 41; refine (within_any _ _ _ _).mono ?_; rintro e w' ⟨rfl, rfl⟩)
        | (go_at_call 42; refine (isLetter_any _ _).mono ?_; rintro e w' ⟨rfl, rfl⟩))
      go_loop [3] (fun i => ∃ k : Nat, 1 ≤ k ∧ k ≤ s.size ∧ i = .int .i64 k ∧ okTo s 1 k) (fun i => s.size - (intOf i).toNat)
      case atStart => exact ⟨1, by omega, by omega, rfl, okTo_nil s 1⟩
      case round =>
        obtain ⟨k, hk1, hk, rfl, hok⟩ := hrel
        have HOK := Lib.hid hok
        clear hok
        by_cases hlt : k < s.size
        · have hbk := byteAt_eq s k hlt
          cases hlk : letterB ((s[k]).toNat : Int)
          · cases hdk : digitB ((s[k]).toNat : Int)
            · have H : Hid (nameB s = false) := nameB_bad hlt (by unfold okB; rw [← hbk, hlk, hdk]; rfl)
              clear hbk
              go_wp2_with (first
                | (go_at_call 43; refine (isDigit_any _ _).mono ?_; rintro e w' ⟨rfl, rfl⟩)
                | (go_at_call 42; refine (isLetter_any _ _).mono ?_; rintro e w' ⟨rfl, rfl⟩))
              go_ret
              exact ⟨ret_bool H.out.symm, rfl⟩
            · have H : Hid (okB (byteAt s k) = true) := by show okB _ = true; unfold okB; rw [← hbk, hdk]; simp
              clear hbk
              go_wp2_with (first
                | (go_at_call 43; refine (isDigit_any _ _).mono ?_; rintro e w' ⟨rfl, rfl⟩)
                | (go_at_call 42; refine (isLetter_any _ _).mono ?_; rintro e w' ⟨rfl, rfl⟩))
              go_round
              case rel => exact ⟨k + 1, by omega, by omega, by go_num, okTo_step HOK.out H.out⟩
              case measure => simp [intOf]; omega
          · have H : Hid (okB (byteAt s k) = true) := by show okB _ = true; unfold okB; rw [← hbk, hlk]; simp
            clear hbk
            go_wp2_with (first
              | (go_at_call 43; refine (isDigit_any _ _).mono ?_; rintro e w' ⟨rfl, rfl⟩)
              | (go_at_call 42; refine (isLetter_any _ _).mono ?_; rintro e w' ⟨rfl, rfl⟩))
            go_round
            case rel => exact ⟨k + 1, by omega, by omega, by go_num, okTo_step HOK.out H.out⟩
            case measure => simp [intOf]; omega
        · obtain rfl : k = s.size := by omega
          have H : Hid (nameB s = true) := nameB_true h1 h8 H0.out HOK.out
          go_wp2
          go_ret
          exact ⟨ret_bool H.out.symm, rfl⟩
  · have hw : withinB (s.size : Int) 1 8 = false := by unfold withinB; simp; omega
    have H : Hid (nameB s = false) := nameB_false fun hh => h18 ⟨hh.1, hh.2.1⟩
    clear h18
    go_enter Try.func39, Try.ntmps39
    go_wp2_with (first
      | (go_at_call 41; refine (within_any _ _ _ _).mono ?_; rintro e w' ⟨rfl, rfl⟩)
      | (go_at_call 42; refine (isLetter_any _ _).mono ?_; rintro e w' ⟨rfl, rfl⟩))
    go_ret
    exact ⟨ret_bool H.out.symm, rfl⟩

end Go.Proofs.Ytmdajmdjmdbonaa

namespace Go.Proofs.Ytmdajmdjmdbonaa
open Go.RowKit
set_option linter.unusedSimpArgs false
set_option linter.unusedVariables false

set_option maxHeartbeats 400000 in
theorem isEquality_any (n : ByteArray) (k a g : Int) (w : World) :
    Calls Try.prog 36 #[.agg #[.string n, .int .i64 k, .int .i64 a, .int .i64 g]] w fun e w' => e = .returned (.bool (eqB ⟨n, k, a, g⟩)) ∧ Below w.heap.size w w' := by
  go_enter Try.func36, Try.ntmps36
  go_wp2
  all_goals
    go_ret
    refine ⟨ret_bool ?_, (Below.refl _ _).alloc (Nat.le_refl _) _⟩
    unfold eqB
    simp_all

theorem symB_of {n : ByteArray} {k a g : Int} {x1 x2 x3 x4 : Bool} (h1 : nameB n = x1) (h2 : kindB k = x2) (h3 : withinB a 0 3 = x3) (h4 : withinB g 1 20 = x4) : symB ⟨n, k, a, g⟩ = (x1 && x2 && x3 && x4) := by
  unfold symB; rw [h1, h2, h3, h4]

set_option maxHeartbeats 1000000 in
theorem validSym_any (n : ByteArray) (k a g : Int) (w : World) (hs : n.size ≤ maxLen) :
    Calls Try.prog 37 #[.agg #[.string n, .int .i64 k, .int .i64 a, .int .i64 g]] w fun e w' => e = .returned (.bool (symB ⟨n, k, a, g⟩)) ∧ Below w.heap.size w w' := by
  cases h1 : nameB n
  all_goals cases h2 : kindB k
  all_goals cases h3 : withinB a 0 3
  all_goals cases h4 : withinB g 1 20
  all_goals
    have HS := Lib.hid (symB_of h1 h2 h3 h4)
    go_enter Try.func37, Try.ntmps37
    go_wp2_with (first
      | (go_at_call 39; refine (validName_any _ _ hs).mono ?_; rintro e w' ⟨rfl, rfl⟩)
      | (go_at_call 40; refine (validKind_any _ _).mono ?_; rintro e w' ⟨rfl, rfl⟩)
      | (go_at_call 41; refine (within_any _ _ _ _).mono ?_; rintro e w' ⟨rfl, rfl⟩))
    go_ret
    exact ⟨ret_bool HS.out.symm, (Below.refl _ _).alloc (Nat.le_refl _) _⟩

end Go.Proofs.Ytmdajmdjmdbonaa

namespace Go.Proofs.Ytmdajmdjmdbonaa
open Go.RowKit
set_option linter.unusedSimpArgs false
set_option linter.unusedVariables false

theorem symB_name {n : ByteArray} {k a g : Int} (h : nameB n = false) : symB ⟨n, k, a, g⟩ = false := by unfold symB; simp [h]

theorem symB_split {n : ByteArray} {k a g : Int} (h : nameB n = true) : symB ⟨n, k, a, g⟩ = (decide (0 ≤ k) && decide (k ≤ 2) && decide (0 ≤ a) && decide (a ≤ 3) && decide (1 ≤ g) && decide (g ≤ 20)) := by
  unfold symB kindB withinB; simp [h, Bool.and_assoc]

end Go.Proofs.Ytmdajmdjmdbonaa

namespace Go.Proofs.Ytmdajmdjmdbonaa
open Go.RowKit
set_option linter.unusedSimpArgs false
set_option linter.unusedVariables false

/-- The slice value '.slice A n _' holds the symbols ss; its cells lie below block B. -/
structure SymsAt (w : World) (B : Nat) (A : Option Addr) (n : Nat) (ss : List Sym) : Prop where
  len : ss.length = n
  at_ : 0 < n → ∃ b off, A = some ⟨b, off, none⟩ ∧ b < B ∧ ∀ i, i < n →
    w.cell? ⟨b, off + i * 4, none⟩ = some (.string (symAt ss i).name) ∧
    w.cell? ⟨b, off + i * 4 + 1, none⟩ = some (.int .i64 (symAt ss i).kind) ∧
    w.cell? ⟨b, off + i * 4 + 2, none⟩ = some (.int .i64 (symAt ss i).arity) ∧
    w.cell? ⟨b, off + i * 4 + 3, none⟩ = some (.int .i64 (symAt ss i).weight)
  fit : ∀ i, i < n → (symAt ss i).name.size ≤ maxLen

section
variable {w w' : World} {B B' n : Nat} {A : Option Addr} {ss : List Sym}
theorem SymsAt.keep (h : SymsAt w B A n ss) (hk : ∀ p : Addr, p.block < B → w'.cell? p = w.cell? p) : SymsAt w' B A n ss :=
  ⟨h.len, fun hn => by
    obtain ⟨b, off, e, hb, hc⟩ := h.at_ hn
    refine ⟨b, off, e, hb, fun i hi => ?_⟩
    rw [hk ⟨b, _, none⟩ hb, hk ⟨b, _, none⟩ hb, hk ⟨b, _, none⟩ hb, hk ⟨b, _, none⟩ hb]
    exact hc i hi, h.fit⟩
theorem SymsAt.below (h : SymsAt w B A n ss) (hb : Below B w w') : SymsAt w' B A n ss := h.keep fun _ hp => hb.cell hp
theorem SymsAt.more (h : SymsAt w B A n ss) (hB : B ≤ B') : SymsAt w B' A n ss :=
  ⟨h.len, fun hn => by
    obtain ⟨b, off, e, hb, hc⟩ := h.at_ hn
    exact ⟨b, off, e, by omega, hc⟩, h.fit⟩
theorem SymsAt.drewN (h : SymsAt w B A n ss) (k : Nat) : SymsAt (w.drewN k) B A n ss := ⟨h.len, h.at_, h.fit⟩
theorem SymsAt.drew (h : SymsAt w B A n ss) : SymsAt w.drew B A n ss := ⟨h.len, h.at_, h.fit⟩
theorem SymsAt.nil_ : SymsAt w B A 0 [] := ⟨rfl, fun h => absurd h (by omega), fun _ h => absurd h (by omega)⟩
theorem SymsAt.take {i : Nat} (h : SymsAt w B A n ss) (hi : i ≤ n) : SymsAt w B A i (ss.take i) :=
  ⟨by have := h.len; simp; omega, fun hp => by
    obtain ⟨b, off, e, hb, hc⟩ := h.at_ (by omega)
    exact ⟨b, off, e, hb, fun j hj => by rw [symAt_take hj]; exact hc j (by omega)⟩,
   fun j hj => by rw [symAt_take hj]; exact h.fit j (by omega)⟩
theorem symAt_drop {k i : Nat} : symAt (ss.drop k) i = symAt ss (k + i) := by
  unfold symAt; rw [List.getD_eq_getElem?_getD, List.getD_eq_getElem?_getD, List.getElem?_drop]
theorem SymsAt.drop {b off k : Nat} (h : SymsAt w B (some ⟨b, off, none⟩) n ss) (hk : k ≤ n) : SymsAt w B (some ⟨b, off + k * 4, none⟩) (n - k) (ss.drop k) :=
  ⟨by have := h.len; simp; omega, fun hp => by
    obtain ⟨b', off', e, hb, hc⟩ := h.at_ (by omega)
    injection e with e
    injection e with e1 e2
    subst e1; subst e2
    refine ⟨b, off + k * 4, rfl, hb, fun j hj => ?_⟩
    rw [symAt_drop]
    have := hc (k + j) (by omega)
    have e : off + k * 4 + j * 4 = off + (k + j) * 4 := by omega
    rw [e]; exact this,
   fun j hj => by rw [symAt_drop]; exact h.fit _ (by omega)⟩
end

theorem below_new (w : World) (o : Obj) : Below w.heap.size w (w.alloc o) := (Below.refl _ _).alloc (Nat.le_refl _) o
theorem SymsAt.new {w : World} {A : Option Addr} {n : Nat} {ss : List Sym} (h : SymsAt w w.heap.size A n ss) (o : Obj) : SymsAt (w.alloc o) (w.alloc o).heap.size A n ss :=
  (h.below (below_new w o)).more (by simp)
theorem SymsAt.on {w w' : World} {A : Option Addr} {n : Nat} {ss : List Sym} (h : SymsAt w w.heap.size A n ss) (hb : Below w.heap.size w w') : SymsAt w' w'.heap.size A n ss :=
  (h.below hb).more hb.size

end Go.Proofs.Ytmdajmdjmdbonaa

namespace Go.Proofs.Ytmdajmdjmdbonaa
open Go.RowKit
set_option linter.unusedSimpArgs false
set_option linter.unusedVariables false

set_option maxHeartbeats 1000000 in
theorem codeOf_any (A : Option Addr) (n c B : Nat) (ss : List Sym) (nm : ByteArray) (w : World) (h : SymsAt w B A n ss) (hn : n ≤ maxLen) :
    Calls Try.prog 38 #[.slice A n c, .string nm] w fun e w' => e = .returned (.int .i64 (code ss nm)) ∧ w = w' := by
  have HL := Lib.hid h.len
  unfold maxLen at hn
  go_enter Try.func38, Try.ntmps38
  go_wp2
  go_loop [8] (fun i => ∃ k : Nat, k ≤ n ∧ i = .int .i64 k ∧ none_ ss nm k) (fun i => n - (intOf i).toNat)
  case atStart => exact ⟨0, by omega, rfl, fun j hj => absurd hj (by omega)⟩
  case round =>
    obtain ⟨k, hk, rfl, hok⟩ := hrel
    have HOK := Lib.hid hok
    clear hok
    by_cases hlt : k < n
    · obtain ⟨b, off, rfl, hb, hc⟩ := h.at_ (by omega)
      obtain ⟨c0, _, _, _⟩ := hc k hlt
      clear hc
      cases hs : ((symAt ss k).name.toList == nm.toList)
      · go_wp2
        go_round
        case rel => exact ⟨k + 1, by omega, by go_num, none_step HOK.out hs⟩
        case measure => simp [intOf]; omega
      · have H := Lib.hid (code_hit (by rw [HL.out]; exact hlt) HOK.out hs)
        go_wp2
        go_ret
        exact ⟨ret_int H.out.symm, rfl⟩
    · obtain rfl : k = n := by omega
      have H := Lib.hid (code_miss (by rw [HL.out]; exact HOK.out))
      go_wp2
      go_ret
      exact ⟨ret_int H.out.symm, rfl⟩

end Go.Proofs.Ytmdajmdjmdbonaa

namespace Go.Proofs.Ytmdajmdjmdbonaa
open Go.RowKit
set_option linter.unusedSimpArgs false
set_option linter.unusedVariables false

theorem eqB_true {s : Sym} (h : eqB s = true) : s.name.toList = [61] ∧ s.kind = 0 ∧ s.arity = 2 ∧ s.weight = 1 := by
  unfold eqB at h; simp at h; exact ⟨h.1.1.1, h.1.1.2, h.1.2, h.2⟩
theorem eqB_contra {s : Sym} (h1 : s.name.toList = [61]) (h2 : s.kind = 0) (h3 : s.arity = 2) (h4 : s.weight = 1) (h : eqB s = false) : False := by
  unfold eqB at h; simp [h1, h2, h3, h4] at h

end Go.Proofs.Ytmdajmdjmdbonaa

namespace Go.Proofs.Ytmdajmdjmdbonaa
section
variable {P : Program} {ops : Array Oper} {Q : Exit → Act → World → Prop} {md : Region.Mode} {S : World → Prop}
theorem takeH {i d : Nat} {oi : Oper} {v : Value} {fuel : Nat} {listed : Array Bool} {a : Act} {w : World} (hi : ops[i]? = some oi) (hd : oi.dst = some d)
    (hs : Region.noSelect ops = true) (hf : Region.free md ops listed i = true) (hr : (Region.ready md ops listed).contains i = true)
    (hQ : ∀ c a w, Q (.panic c) (a.put (some d) v) w → Q (.panic c) a w) (hw : Region.wanted oi (yielded ops a.tmps) = true) (hy : ∀ w, S w → (execOp a.eval oi).run P w = .ok (.value v) w) (hS : S w)
    (h : wpAnyH P md ops Q S fuel (listed.setIfInBounds i true) (a.put (some d) v) w) : wpAnyH P md ops Q S (fuel + 1) listed a w :=
  wpAnyH_take hi hs hf hr (by rw [hd]; exact hQ) (.inl ⟨hw, hy⟩) hS (by rw [hd]; exact h)
theorem passH {i d : Nat} {oi : Oper} {fuel : Nat} {listed : Array Bool} {a : Act} {w : World} (hi : ops[i]? = some oi) (hd : oi.dst = some d)
    (hs : Region.noSelect ops = true) (hf : Region.free md ops listed i = true) (hr : (Region.ready md ops listed).contains i = true)
    (hQ : ∀ c a w, Q (.panic c) (a.put (some d) undef) w → Q (.panic c) a w) (hw : Region.wanted oi (yielded ops a.tmps) = false) (hS : S w)
    (h : wpAnyH P md ops Q S fuel (listed.setIfInBounds i true) (a.put (some d) undef) w) : wpAnyH P md ops Q S (fuel + 1) listed a w :=
  wpAnyH_take hi hs hf hr (by rw [hd]; exact hQ) (.inr ⟨hw, rfl⟩) hS (by rw [hd]; exact h)
end
end Go.Proofs.Ytmdajmdjmdbonaa

namespace Go.Proofs.Ytmdajmdjmdbonaa
open Go.RowKit
set_option linter.unusedSimpArgs false
set_option linter.unusedVariables false
attribute [local go_sem ↓] Go.wp_at_zero Go.wp_at_succ

theorem validSym_is (r : Bool) (n : ByteArray) (k a g : Int) (w : World) (hs : n.size ≤ maxLen) (hr : symB ⟨n, k, a, g⟩ = r) :
    Calls Try.prog 37 #[.agg #[.string n, .int .i64 k, .int .i64 a, .int .i64 g]] w fun e w' => e = .returned (.bool r) ∧ Below w.heap.size w w' :=
  (validSym_any n k a g w hs).mono fun _ _ ⟨he, hb⟩ => ⟨by rw [he, hr], hb⟩

set_option maxHeartbeats 1000000 in
theorem may_any (A : Option Addr) (n c : Nat) (ss : List Sym) (w : World) (h : SymsAt w w.heap.size A n ss) (hn : n ≤ maxLen) (hnc : n ≤ c) :
    Calls Try.prog 30 #[.slice A n c] w fun e w' => e = .returned (.bool (mayB ss)) ∧ Below w.heap.size w w' := by
  have HL := Lib.hid h.len
  have hn' := hn
  unfold maxLen at hn
  by_cases h1 : 1 ≤ n
  · by_cases h20 : n ≤ 20
    · obtain ⟨b, off, rfl, hb, hc⟩ := h.at_ (by omega)
      obtain ⟨c0, c1, c2, c3⟩ := hc 0 (by omega)
      simp only [Nat.zero_mul, Nat.add_zero] at c0 c1 c2 c3
      have HC := Lib.hid hc
      clear hc
      cases he : eqB (symAt ss 0)
      · have H := Lib.hid (mayB_false (ss := ss) fun hh => by rw [hh.2.2.1] at he; cases he)
        have he' : eqB ⟨(symAt ss 0).name, (symAt ss 0).kind, (symAt ss 0).arity, (symAt ss 0).weight⟩ = false := he
        clear he
        go_enter Try.func30, Try.ntmps30
        go_wp2_with fail
        refine (isEquality_any _ _ _ _ _).mono ?_
        rintro e w1 ⟨rfl, hb1⟩
        rw [he']
        go_wp2
        go_ret
        exact ⟨ret_bool H.out.symm, hb1⟩
      · have HE := Lib.hid he
        have he' : eqB ⟨(symAt ss 0).name, (symAt ss 0).kind, (symAt ss 0).arity, (symAt ss 0).weight⟩ = true := he
        clear he
        go_enter Try.func30, Try.ntmps30
        go_wp2_with fail
        refine (isEquality_any _ _ _ _ _).mono ?_
        rintro e w0 ⟨rfl, hb0⟩
        rw [he']
        clear he' c0 c1 c2 c3
        go_wp2_with fail
        go_loopw [3] (fun i wr => ∃ k : Nat, 1 ≤ k ∧ k ≤ n ∧ i = .int .i64 k ∧ goodTo ss k ∧ Below w.heap.size w wr) (fun i _ => n - (intOf i).toNat)
        case atStart => exact ⟨1, by omega, by omega, rfl, goodTo_one ss, hb0⟩
        case round =>
          obtain ⟨k, hk1, hk, rfl, hok, hbw⟩ := hrel
          have HOK := Lib.hid hok
          clear hok hb0
          by_cases hlt : k < n
          · obtain ⟨c0, c1, c2, c3⟩ := HC.out k hlt
            rw [← hbw.cell (p := ⟨b, _, none⟩) hb] at c0 c1 c2 c3
            have hfit := h.fit k hlt
            have hsz := hbw.size
            have hi0 : (0 : Int) ≤ (k : Int) := by omega
            have hi1 : (k : Int) ≤ (c : Int) := by omega
            have hi2 : (k : Int) < (n : Int) := by omega
            cases hv : symB (symAt ss k)
            · have H := Lib.hid (mayB_false (ss := ss) fun hh => by have := (hh.2.2.2 k (by rw [HL.out]; exact hlt) hk1).1; rw [hv] at this; cases this)
              have hv' : symB ⟨(symAt ss k).name, (symAt ss k).kind, (symAt ss k).arity, (symAt ss k).weight⟩ = false := hv
              go_wp2_with fail
              refine wp_region_held_drew (S := (fun w' => w'.cell? ⟨b, off + k * 4, none⟩ = some (.string (symAt ss k).name) ∧ w'.cell? ⟨b, off + k * 4 + 1, none⟩ = some (.int .i64 (symAt ss k).kind) ∧
                  w'.cell? ⟨b, off + k * 4 + 2, none⟩ = some (.int .i64 (symAt ss k).arity) ∧ w'.cell? ⟨b, off + k * 4 + 3, none⟩ = some (.int .i64 (symAt ss k).weight) ∧ Below w.heap.size w w')) (by kernel_rfl) ⟨c0, c1, c2, c3, hbw.drew⟩ (fun hHeld => ?_)
              refine takeH (i := 0) (v := ?_) rfl rfl (by kernel_rfl) (by kernel_rfl) (by kernel_rfl) (fun _ _ _ h => h) (by rfl) ?_ hHeld ?_
              rotate_left
              · (intro w hSw; (try dsimp only at hSw); first | (go_simp; done) | (go_simp; with_reducible rfl))
              simp only [Act.put, List.setIfInBounds_toArray, List.set_cons_zero, List.set_cons_succ]
              refine takeH (i := 1) (v := ?_) rfl rfl (by kernel_rfl) (by kernel_rfl) (by kernel_rfl) (fun _ _ _ h => h) (by rfl) ?_ hHeld ?_
              rotate_left
              · (intro w hSw; (try dsimp only at hSw); first | (go_simp; done) | (go_simp; with_reducible rfl))
              simp only [Act.put, List.setIfInBounds_toArray, List.set_cons_zero, List.set_cons_succ]
              refine takeH (i := 2) (v := ?_) rfl rfl (by kernel_rfl) (by kernel_rfl) (by kernel_rfl) (fun _ _ _ h => h) (by rfl) ?_ hHeld ?_
              rotate_left
              · (intro w hSw; (try dsimp only at hSw); first | (go_simp; done) | (go_simp; with_reducible rfl))
              simp only [Act.put, List.setIfInBounds_toArray, List.set_cons_zero, List.set_cons_succ]
              refine takeH (i := 3) (v := ?_) rfl rfl (by kernel_rfl) (by kernel_rfl) (by kernel_rfl) (fun _ _ _ h => h) (by rfl) ?_ hHeld ?_
              rotate_left
              · (intro w hSw; (try dsimp only at hSw); first | (go_simp; done) | (go_simp; with_reducible rfl))
              simp only [Act.put, List.setIfInBounds_toArray, List.set_cons_zero, List.set_cons_succ]
              refine wpAnyH_ready (rs := [4]) (by kernel_rfl) (by simp) ?_
              refine AllReadyH.cons rfl (fun K hK => ?_) AllReadyH.nil
              go_simp
              refine (validSym_is false _ _ _ _ _ hfit hv').mono ?_
              rintro e w1 ⟨rfl, hb1⟩
              go_wp2_with fail
              refine hK.out _ _ ?_ (fun hHeld => ?_)
              · refine ⟨?_, ?_, ?_, ?_, hbw.drew.trans (hb1.mono hsz)⟩
                · (rw [hb1.cell (p := ⟨b, _, none⟩) (by simp; omega)]; exact c0)
                · (rw [hb1.cell (p := ⟨b, _, none⟩) (by simp; omega)]; exact c1)
                · (rw [hb1.cell (p := ⟨b, _, none⟩) (by simp; omega)]; exact c2)
                · (rw [hb1.cell (p := ⟨b, _, none⟩) (by simp; omega)]; exact c3)
              clear hK K
              refine takeH (i := 5) (v := ?_) rfl rfl (by kernel_rfl) (by kernel_rfl) (by kernel_rfl) (fun _ _ _ h => h) (by rfl) ?_ hHeld ?_
              rotate_left
              · (intro w hSw; (try dsimp only at hSw); first | (go_simp; done) | (go_simp; with_reducible rfl))
              simp only [Act.put, List.setIfInBounds_toArray, List.set_cons_zero, List.set_cons_succ]
              refine takeH (i := 6) (v := ?_) rfl rfl (by kernel_rfl) (by kernel_rfl) (by kernel_rfl) (fun _ _ _ h => h) (by rfl) ?_ hHeld ?_
              rotate_left
              · (intro w hSw; (try dsimp only at hSw); first | (go_simp; done) | (go_simp; with_reducible rfl))
              simp only [Act.put, List.setIfInBounds_toArray, List.set_cons_zero, List.set_cons_succ]
              refine passH (i := 7) rfl rfl (by kernel_rfl) (by kernel_rfl) (by kernel_rfl) (fun _ _ _ h => h) (by rfl) hHeld ?_
              simp only [Act.put, List.setIfInBounds_toArray, List.set_cons_zero, List.set_cons_succ]
              refine passH (i := 8) rfl rfl (by kernel_rfl) (by kernel_rfl) (by kernel_rfl) (fun _ _ _ h => h) (by rfl) hHeld ?_
              simp only [Act.put, List.setIfInBounds_toArray, List.set_cons_zero, List.set_cons_succ]
              refine passH (i := 9) rfl rfl (by kernel_rfl) (by kernel_rfl) (by kernel_rfl) (fun _ _ _ h => h) (by rfl) hHeld ?_
              simp only [Act.put, List.setIfInBounds_toArray, List.set_cons_zero, List.set_cons_succ]
              refine passH (i := 10) rfl rfl (by kernel_rfl) (by kernel_rfl) (by kernel_rfl) (fun _ _ _ h => h) (by rfl) hHeld ?_
              simp only [Act.put, List.setIfInBounds_toArray, List.set_cons_zero, List.set_cons_succ]
              refine passH (i := 11) rfl rfl (by kernel_rfl) (by kernel_rfl) (by kernel_rfl) (fun _ _ _ h => h) (by rfl) hHeld ?_
              simp only [Act.put, List.setIfInBounds_toArray, List.set_cons_zero, List.set_cons_succ]
              refine passH (i := 12) rfl rfl (by kernel_rfl) (by kernel_rfl) (by kernel_rfl) (fun _ _ _ h => h) (by rfl) hHeld ?_
              simp only [Act.put, List.setIfInBounds_toArray, List.set_cons_zero, List.set_cons_succ]
              refine passH (i := 13) rfl rfl (by kernel_rfl) (by kernel_rfl) (by kernel_rfl) (fun _ _ _ h => h) (by rfl) hHeld ?_
              simp only [Act.put, List.setIfInBounds_toArray, List.set_cons_zero, List.set_cons_succ]
              refine passH (i := 14) rfl rfl (by kernel_rfl) (by kernel_rfl) (by kernel_rfl) (fun _ _ _ h => h) (by rfl) hHeld ?_
              simp only [Act.put, List.setIfInBounds_toArray, List.set_cons_zero, List.set_cons_succ]
              refine passH (i := 15) rfl rfl (by kernel_rfl) (by kernel_rfl) (by kernel_rfl) (fun _ _ _ h => h) (by rfl) hHeld ?_
              simp only [Act.put, List.setIfInBounds_toArray, List.set_cons_zero, List.set_cons_succ]
              refine passH (i := 16) rfl rfl (by kernel_rfl) (by kernel_rfl) (by kernel_rfl) (fun _ _ _ h => h) (by rfl) hHeld ?_
              simp only [Act.put, List.setIfInBounds_toArray, List.set_cons_zero, List.set_cons_succ]
              refine takeH (i := 17) (v := ?_) rfl rfl (by kernel_rfl) (by kernel_rfl) (by kernel_rfl) (fun _ _ _ h => h) (by rfl) ?_ hHeld ?_
              rotate_left
              · (intro w hSw; (try dsimp only at hSw); first | (go_simp; done) | (go_simp; with_reducible rfl))
              simp only [Act.put, List.setIfInBounds_toArray, List.set_cons_zero, List.set_cons_succ]
              refine wpAnyH_done (by kernel_rfl) ?_ _
              go_wp2
              go_ret
              exact ⟨ret_bool H.out.symm, hbw.drew.trans (hb1.mono hsz)⟩
            · have HV := Lib.hid hv
              have hv' : symB ⟨(symAt ss k).name, (symAt ss k).kind, (symAt ss k).arity, (symAt ss k).weight⟩ = true := hv
              clear hv
              go_wp2_with fail
              go_region_held3 (fun w' => w'.cell? ⟨b, off + k * 4, none⟩ = some (.string (symAt ss k).name) ∧ w'.cell? ⟨b, off + k * 4 + 1, none⟩ = some (.int .i64 (symAt ss k).kind) ∧
                  w'.cell? ⟨b, off + k * 4 + 2, none⟩ = some (.int .i64 (symAt ss k).arity) ∧ w'.cell? ⟨b, off + k * 4 + 3, none⟩ = some (.int .i64 (symAt ss k).weight) ∧ Below w.heap.size w w')
                (first
                  | exact ⟨c0, c1, c2, c3, hbw⟩
                  | exact ⟨c0, c1, c2, c3, hbw.drew⟩
                  | (go_split_ands
                     refine ⟨?_, ?_, ?_, ?_, ?_⟩
                     · (rw [hb1.cell (p := ⟨b, _, none⟩) (by simp; omega)]; assumption)
                     · (rw [hb1.cell (p := ⟨b, _, none⟩) (by simp; omega)]; assumption)
                     · (rw [hb1.cell (p := ⟨b, _, none⟩) (by simp; omega)]; assumption)
                     · (rw [hb1.cell (p := ⟨b, _, none⟩) (by simp; omega)]; assumption)
                     · exact hbw.drew.trans (hb1.mono hsz)))
                (first
                  | (go_at_call 37; refine (validSym_is true _ _ _ _ _ hfit hv').mono ?_; rintro e w1 ⟨rfl, hb1⟩)
                  | (go_at_call 38; refine (codeOf_any _ k c w.heap.size (ss.take k) _ _ ((h.take hk).below (hbw.drew.trans (hb1.mono hsz))) (by omega)).mono ?_; rintro e w2 ⟨rfl, rfl⟩))
              have HS := Lib.hid (code_take (ss := ss) (n := (symAt ss k).name) (i := k) (by rw [HL.out]; exact hk))
              by_cases hq : none_ ss (symAt ss k).name k
              · have hq' : code (ss.take k) (symAt ss k).name < 0 := by
                  have := HS.out; rw [decide_eq_true hq] at this; simp at this; omega
                have HQ := Lib.hid hq
                clear hq
                go_wp2
                go_roundw
                case rel => exact ⟨k + 1, by omega, by omega, by go_num, goodTo_step HOK.out HV.out HQ.out, hbw.drew.trans (hb1.mono hsz)⟩
                case measure => simp [intOf]; omega
              · have hq' : 0 ≤ code (ss.take k) (symAt ss k).name := by
                  have := HS.out; rw [decide_eq_false hq] at this; simpa using this
                have H := Lib.hid (mayB_false (ss := ss) fun hh => hq (hh.2.2.2 k (by rw [HL.out]; exact hlt) hk1).2)
                clear hq
                go_wp2
                go_ret
                exact ⟨ret_bool H.out.symm, hbw.drew.trans (hb1.mono hsz)⟩
          · obtain rfl : k = n := by omega
            have H := Lib.hid (mayB_true (ss := ss) ⟨by rw [HL.out]; exact h1, by rw [HL.out]; exact h20, HE.out, by rw [HL.out]; exact HOK.out⟩)
            go_wp2
            go_ret
            exact ⟨ret_bool H.out.symm, hbw⟩
    · have H := Lib.hid (mayB_false (ss := ss) fun hh => by have := hh.2.1; rw [HL.out] at this; omega)
      go_enter Try.func30, Try.ntmps30
      go_wp2
      go_ret
      exact ⟨ret_bool H.out.symm, Below.refl _ _⟩
  · have H := Lib.hid (mayB_false (ss := ss) fun hh => by have := hh.1; rw [HL.out] at this; omega)
    go_enter Try.func30, Try.ntmps30
    go_wp2
    go_ret
    exact ⟨ret_bool H.out.symm, Below.refl _ _⟩

end Go.Proofs.Ytmdajmdjmdbonaa

namespace Go.Proofs.Ytmdajmdjmdbonaa
open Go.RowKit
set_option linter.unusedSimpArgs false
set_option linter.unusedVariables false

def symCells (s : Sym) : List Value := [.string s.name, .int .i64 s.kind, .int .i64 s.arity, .int .i64 s.weight]
def cellsOf (ss : List Sym) : List Value := ss.flatMap symCells

theorem cellsOf_length (ss : List Sym) : (cellsOf ss).length = ss.length * 4 := by
  induction ss with
  | nil => rfl
  | cons s r ih => unfold cellsOf at *; simp [List.flatMap_cons, ih, symCells]; omega
theorem cellsOf_append (a b : List Sym) : cellsOf (a ++ b) = cellsOf a ++ cellsOf b := by unfold cellsOf; simp
theorem cellsOf_one (s : Sym) : cellsOf [s] = symCells s := by unfold cellsOf; simp
theorem cellsOf_get (ss : List Sym) (i : Nat) (hi : i < ss.length) : (cellsOf ss)[i * 4]? = some (.string (symAt ss i).name) ∧ (cellsOf ss)[i * 4 + 1]? = some (.int .i64 (symAt ss i).kind) ∧
    (cellsOf ss)[i * 4 + 2]? = some (.int .i64 (symAt ss i).arity) ∧ (cellsOf ss)[i * 4 + 3]? = some (.int .i64 (symAt ss i).weight) := by
  induction ss generalizing i with
  | nil => simp at hi
  | cons s r ih =>
    have e : cellsOf (s :: r) = .string s.name :: .int .i64 s.kind :: .int .i64 s.arity :: .int .i64 s.weight :: cellsOf r := by unfold cellsOf; simp [List.flatMap_cons, symCells]
    rw [e]
    cases i with
    | zero => simp [symAt]
    | succ i =>
      have := ih i (by simpa using hi)
      have k : (i + 1) * 4 = i * 4 + 4 := by omega
      rw [k]
      exact this
theorem cellsOf_oneCell (ss : List Sym) : ∀ u ∈ cellsOf ss, u.oneCell' = true := by
  intro u hu
  unfold cellsOf at hu
  obtain ⟨s, _, hs⟩ := List.mem_flatMap.1 hu
  simp [symCells] at hs
  rcases hs with rfl | rfl | rfl | rfl <;> rfl
theorem cellsOf_split (ss : List Sym) (j : Nat) (u : Value) (h : (cellsOf ss)[j]? = some u) : ∃ i r, j = i * 4 + r ∧ r < 4 ∧ i < ss.length := by
  have hl := cellsOf_length ss
  have : j < (cellsOf ss).length := by
    rcases Nat.lt_or_ge j (cellsOf ss).length with h1 | h1
    · exact h1
    · rw [List.getElem?_eq_none h1] at h; cases h
  exact ⟨j / 4, j % 4, by omega, by omega, by omega⟩

theorem addr_add (b off j : Nat) : ((⟨b, off, none⟩ : Addr).add j) = ⟨b, off + j, none⟩ := by
  unfold Addr.add; by_cases e0 : j = 0 <;> simp [e0]
theorem SymsAt.news {w : World} {B n b off : Nat} {ss : List Sym} (h : SymsAt w B (some ⟨b, off, none⟩) n ss) : ∀ j u, (cellsOf ss)[j]? = some u → w.cell? ((⟨b, off, none⟩ : Addr).add j) = some u := by
  intro j u hu
  obtain ⟨i, r, rfl, hr, hi⟩ := cellsOf_split ss j u hu
  have hn : i < n := by have := h.len; omega
  obtain ⟨b', off', e, _, hc⟩ := h.at_ (by omega)
  injection e with e
  injection e with e1 e2
  subst e1; subst e2
  obtain ⟨c0, c1, c2, c3⟩ := hc i hn
  obtain ⟨d0, d1, d2, d3⟩ := cellsOf_get ss i hi
  rw [addr_add, ← Nat.add_assoc]
  match r, hr with
  | 0, _ => rw [Nat.add_zero] at hu; rw [d0] at hu; rw [Nat.add_zero, c0]; exact hu
  | 1, _ => rw [d1] at hu; rw [c1]; exact hu
  | 2, _ => rw [d2] at hu; rw [c2]; exact hu
  | 3, _ => rw [d3] at hu; rw [c3]; exact hu

/-- A row of symbols that the call owns reads as its symbols. -/
theorem SymsAt.of_own {w : World} {base g n c : Nat} {e : TypeId} {ss : List Sym} (h : w.ownsRow base e 4 (.slice (some ⟨g, 0, none⟩) n c) n (cellsOf ss)) (hf : ∀ i, i < n → (symAt ss i).name.size ≤ maxLen) :
    SymsAt w w.heap.size (some ⟨g, 0, none⟩) n ss := by
  have hl : ss.length = n := by have := h.1; rw [cellsOf_length] at this; omega
  refine ⟨hl, fun hn => ?_, hf⟩
  obtain ⟨g', cap, hv, _, hlt⟩ := h.form hn
  have hg : g' = g := by injection hv with h1; injection h1 with h1; injection h1 with h1; exact h1.symm
  subst hg
  refine ⟨g', 0, rfl, hlt, fun i hi => ?_⟩
  obtain ⟨d0, d1, d2, d3⟩ := cellsOf_get ss i (by omega)
  have hc := h.cells (g := g') rfl
  refine ⟨?_, ?_, ?_, ?_⟩
  · rw [← addr_add]; exact hc _ _ d0
  · rw [Nat.add_assoc, ← addr_add]; exact hc _ _ d1
  · rw [Nat.add_assoc, ← addr_add]; exact hc _ _ d2
  · rw [Nat.add_assoc, ← addr_add]; exact hc _ _ d3

theorem own_base {w : World} {base base' size n : Nat} {e : TypeId} {v : Value} {xs : List Value} (h : w.ownsRow base e size v n xs) (hb : base' ≤ base) : w.ownsRow base' e size v n xs := by
  obtain ⟨h1, h2⟩ := h
  refine ⟨h1, ?_⟩
  rcases h2 with h2 | ⟨g, cap, cur, hv, hg, r⟩
  · exact .inl h2
  · exact .inr ⟨g, cap, cur, hv, Nat.le_trans hb hg, r⟩
theorem own_cap {w : World} {base g n cap size : Nat} {e : TypeId} {xs : List Value} (h : w.ownsRow base e size (.slice (some ⟨g, 0, none⟩) n cap) n xs) : n ≤ cap := by
  rcases h.2 with ⟨h, _⟩ | ⟨_, _, _, hv, _, _, hc, _⟩
  · cases h
  · injection hv with _ _ h3; omega
theorem symAt_append_left {ss : List Sym} {s : Sym} {i : Nat} (h : i < ss.length) : symAt (ss ++ [s]) i = symAt ss i := by
  unfold symAt; rw [List.getD_eq_getElem?_getD, List.getD_eq_getElem?_getD, List.getElem?_append_left h]
theorem symAt_append_right {ss : List Sym} {s : Sym} : symAt (ss ++ [s]) ss.length = s := by
  unfold symAt; simp

end Go.Proofs.Ytmdajmdjmdbonaa

namespace Go.Proofs.Ytmdajmdjmdbonaa
open Go.RowKit
set_option linter.unusedSimpArgs false
set_option linter.unusedVariables false

/-- The string, the integer at a place of a list; an empty one, 0 behind the end. -/
def strAt (xs : List ByteArray) (i : Nat) : ByteArray := xs.getD i ByteArray.empty
def intAt (xs : List Int) (i : Nat) : Int := xs.getD i 0
/-- The slice value '.slice A n _' holds the one-cell values 'f 0, .., f (n - 1)'; its cells lie below block B. -/
def ValsAt (w : World) (B : Nat) (A : Option Addr) (n : Nat) (f : Nat → Value) : Prop :=
  0 < n → ∃ b off, A = some ⟨b, off, none⟩ ∧ b < B ∧ ∀ i, i < n → w.cell? ⟨b, off + i, none⟩ = some (f i)
section
variable {w w' : World} {B B' n : Nat} {A : Option Addr} {f : Nat → Value}
theorem ValsAt.keep (h : ValsAt w B A n f) (hk : ∀ p : Addr, p.block < B → w'.cell? p = w.cell? p) : ValsAt w' B A n f := fun hn => by
  obtain ⟨b, off, e, hb, hc⟩ := h hn
  exact ⟨b, off, e, hb, fun i hi => by rw [hk ⟨b, _, none⟩ hb]; exact hc i hi⟩
theorem ValsAt.below (h : ValsAt w B A n f) (hb : Below B w w') : ValsAt w' B A n f := h.keep fun _ hp => hb.cell hp
theorem ValsAt.more (h : ValsAt w B A n f) (hB : B ≤ B') : ValsAt w B' A n f := fun hn => by
  obtain ⟨b, off, e, hb, hc⟩ := h hn
  exact ⟨b, off, e, by omega, hc⟩
theorem ValsAt.on (h : ValsAt w w.heap.size A n f) (hb : Below w.heap.size w w') : ValsAt w' w'.heap.size A n f := (h.below hb).more hb.size
theorem ValsAt.drewN (h : ValsAt w B A n f) (k : Nat) : ValsAt (w.drewN k) B A n f := h
theorem ValsAt.nil_ : ValsAt w B A 0 f := fun h => absurd h (by omega)
end
theorem addr_plus (b off j : Nat) : ((⟨b, off, none⟩ : Addr).add j) = ⟨b, off + j, none⟩ := by
  unfold Addr.add; by_cases e0 : j = 0 <;> simp [e0]
theorem own_get {w : World} {base g n cap : Nat} {e : TypeId} {xs : List Value} (h : w.ownsRow base e 1 (.slice (some ⟨g, 0, none⟩) n cap) n xs) (i : Nat) (hi : i < n) : w.cell? ⟨g, i, none⟩ = xs[i]? :=
  h.cellAt i (by omega)

end Go.Proofs.Ytmdajmdjmdbonaa
