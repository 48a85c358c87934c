/-
  Contract: term.arity, over a valid signature.
-/
import Derived.Test.YtlmpapdpmmkjnaaMay2
import Derived.Test.YtlmpapdpmmkjnaaShape
import Derived.Test.YtlmpapdpmmkjnaaMemInts
namespace Go.Proofs.Ytlmpapdpmmkjnaa
open Go.RowKit
set_option linter.unusedSimpArgs false
set_option linter.unusedVariables false

theorem may_len {ss : List Sym} (h : mayB ss = true) : 1 ≤ ss.length ∧ ss.length ≤ 20 := by
  have := of_decide_eq_true h; exact ⟨this.1, this.2.1⟩
theorem may_first {ss : List Sym} (h : mayB ss = true) : (symAt ss 0).kind = 0 ∧ (symAt ss 0).arity = 2 ∧ (symAt ss 0).weight = 1 := by
  have := (of_decide_eq_true h : mayP ss).2.2.1
  unfold eqB at this; simp at this; exact ⟨this.1.1.2, this.1.2, this.2⟩
theorem may_sym {ss : List Sym} (h : mayB ss = true) {i : Nat} (hi : i < ss.length) (h1 : 1 ≤ i) : 0 ≤ (symAt ss i).kind ∧ (symAt ss i).kind ≤ 2 ∧ 0 ≤ (symAt ss i).arity ∧ (symAt ss i).arity ≤ 3 ∧ 1 ≤ (symAt ss i).weight ∧ (symAt ss i).weight ≤ 20 := by
  have := ((of_decide_eq_true h : mayP ss).2.2.2 i hi h1).1
  unfold symB kindB withinB at this
  simp at this
  omega
theorem may_bd {ss : List Sym} (h : mayB ss = true) {i : Nat} (hi : i < ss.length) : 0 ≤ (symAt ss i).kind ∧ (symAt ss i).kind ≤ 2 ∧ 0 ≤ (symAt ss i).arity ∧ (symAt ss i).arity ≤ 3 ∧ 1 ≤ (symAt ss i).weight ∧ (symAt ss i).weight ≤ 20 := by
  by_cases e : i = 0
  · subst e
    obtain ⟨h1, h2, h3⟩ := may_first h
    omega
  · exact may_sym h hi (by omega)
theorem ar_sym {ss : List Sym} (h : mayB ss = true) {c : Int} {a : Nat} (hc : 0 ≤ c) (ha : arOf ss c = some a) : c.toNat < ss.length ∧ (symAt ss c.toNat).kind ≠ 0 ∧ (symAt ss c.toNat).arity = (a : Int) ∧ a ≤ 3 := by
  unfold arOf at ha
  rw [if_neg (by omega)] at ha
  by_cases e : c < (ss.length : Int) ∧ (symAt ss c.toNat).kind ≠ 0
  · rw [if_pos e] at ha
    injection ha with ha
    have := may_bd h (i := c.toNat) (by omega)
    exact ⟨by omega, e.2, by omega, by omega⟩
  · rw [if_neg e] at ha; cases ha
theorem ar_le {ss : List Sym} (h : mayB ss = true) {c : Int} {a : Nat} (ha : arOf ss c = some a) : a ≤ 3 := by
  by_cases hc : 0 ≤ c
  · exact (ar_sym h hc ha).2.2.2
  · unfold arOf at ha
    rw [if_pos (by omega)] at ha
    by_cases e : -24 ≤ c
    · rw [if_pos e] at ha; injection ha with ha; omega
    · rw [if_neg e] at ha; cases ha
theorem ar_var {ss : List Sym} {c : Int} {a : Nat} (hc : c < 0) (ha : arOf ss c = some a) : -24 ≤ c ∧ a = 0 := by
  unfold arOf at ha
  rw [if_pos hc] at ha
  by_cases e : -24 ≤ c
  · rw [if_pos e] at ha; injection ha with ha; exact ⟨e, ha.symm⟩
  · rw [if_neg e] at ha; cases ha
theorem ar_none {ss : List Sym} {c : Int} (ha : arOf ss c = none) : (c < 0 ∧ c < -24) ∨ (0 ≤ c ∧ (ss.length : Int) ≤ c) ∨ (0 ≤ c ∧ c.toNat < ss.length ∧ (symAt ss c.toNat).kind = 0) := by
  unfold arOf at ha
  by_cases hc : c < 0
  · rw [if_pos hc] at ha
    by_cases e : -24 ≤ c
    · rw [if_pos e] at ha; cases ha
    · exact .inl ⟨hc, by omega⟩
  · rw [if_neg hc] at ha
    by_cases e : c < (ss.length : Int) ∧ (symAt ss c.toNat).kind ≠ 0
    · rw [if_pos e] at ha; cases ha
    · by_cases e2 : c < (ss.length : Int)
      · refine .inr (.inr ⟨by omega, by omega, ?_⟩)
        by_cases e3 : (symAt ss c.toNat).kind = 0
        · exact e3
        · exact absurd ⟨e2, e3⟩ e
      · exact .inr (.inl ⟨by omega, by omega⟩)

set_option maxHeartbeats 1000000 in
theorem arity_yes (A : Option Addr) (n c B : Nat) (ss : List Sym) (x : Int) (a : Nat) (w : World) (h : SymsAt w B A n ss) (hn : n ≤ maxLen) (hm : mayB ss = true) (ha : arOf ss x = some a) :
    Calls Try.prog 65 #[.slice A n c, .int .i64 x] w fun e w' => e = .returned (.tuple #[.int .i64 a, .bool true]) ∧ w = w' := by
  unfold maxLen at hn
  have HM := Lib.hid hm
  have HA := Lib.hid ha
  clear hm ha
  by_cases hx : x < 0
  · obtain ⟨h24, h0⟩ := ar_var hx HA.out
    subst h0
    go_enter Try.func65, Try.ntmps65
    go_wp2
    go_ret2
    exact ⟨rfl, rfl⟩
  · obtain ⟨k, rfl⟩ : ∃ k : Nat, x = (k : Int) := ⟨x.toNat, by omega⟩
    obtain ⟨h1, h2, h3, h4⟩ := ar_sym HM.out (by omega) HA.out
    simp only [Int.toNat_natCast] at h1 h2 h3
    have hl := h.len
    have hk : k < n := by omega
    obtain ⟨b, off, rfl, hb, hc⟩ := h.at_ (by omega)
    obtain ⟨_, c1, c2, _⟩ := hc k hk
    rw [h3] at c2
    have h2' : ((symAt ss k).kind == 0) = false := by simpa using h2
    clear hc h1 h2 h3 hl hx
    go_enter Try.func65, Try.ntmps65
    go_wp2
    go_ret2
    exact ⟨rfl, rfl⟩

set_option maxHeartbeats 1000000 in
theorem arity_no (A : Option Addr) (n c B : Nat) (ss : List Sym) (x : Int) (w : World) (h : SymsAt w B A n ss) (hn : n ≤ maxLen) (ha : arOf ss x = none) :
    Calls Try.prog 65 #[.slice A n c, .int .i64 x] w fun e w' => e = .returned (.tuple #[.int .i64 0, .bool false]) ∧ w = w' := by
  unfold maxLen at hn
  have hl := h.len
  rcases ar_none ha with ⟨h1, h2⟩ | ⟨h1, h2⟩ | ⟨h1, h2, h3⟩
  · have h2' : ¬ -24 ≤ x := by omega
    clear ha hl
    go_enter Try.func65, Try.ntmps65
    go_wp2
    go_ret2
    exact ⟨by simp, rfl⟩
  · have h3 : (n : Int) ≤ x := by omega
    clear ha hl h2
    go_enter Try.func65, Try.ntmps65
    go_wp2
    go_ret2
    exact ⟨rfl, rfl⟩
  · obtain ⟨k, rfl⟩ : ∃ k : Nat, x = (k : Int) := ⟨x.toNat, by omega⟩
    simp only [Int.toNat_natCast] at h2 h3
    have hk : k < n := by omega
    obtain ⟨b, off, rfl, hb, hc⟩ := h.at_ (by omega)
    obtain ⟨_, c1, _, _⟩ := hc k hk
    rw [h3] at c1
    clear hc h1 h2 h3 hl ha
    go_enter Try.func65, Try.ntmps65
    go_wp2
    go_ret2
    exact ⟨rfl, rfl⟩

end Go.Proofs.Ytlmpapdpmmkjnaa
