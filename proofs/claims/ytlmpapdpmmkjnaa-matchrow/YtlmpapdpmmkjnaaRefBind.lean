/-
  Contracts of the reference: Same, BindMay, Of, Put.
-/
import Derived.Test.YtlmpapdpmmkjnaaMemBinds
import Derived.Test.YtlmpapdpmmkjnaaRefEnd
import Derived.Test.YtlmpapdpmmkjnaaBindMay
namespace Go.Proofs.Ytlmpapdpmmkjnaa
open Go.RowKit
set_option linter.unusedSimpArgs false
set_option linter.unusedVariables false

set_option maxHeartbeats 1000000 in
theorem refSame_any (A B : Option Addr) (n c m d B1 B2 : Nat) (xs ys : List Int) (w : World) (hA : IntsAt w B1 A n xs) (hB : IntsAt w B2 B m ys) (hn : n ≤ maxLen) (hm : m ≤ maxLen) :
    Calls Try.prog 49 #[.slice A n c, .slice B m d] w fun e w' => e = .returned (.bool (sameI xs ys)) ∧ Below w.heap.size w w' := by
  unfold maxLen at hn hm
  have HX := Lib.hid hA.len
  have HY := Lib.hid hB.len
  by_cases hnm : n = m
  · subst hnm
    go_enter Try.func49, Try.ntmps49
    go_wp2
    go_loopw [5] (fun i wr => ∃ k q : Nat, k ≤ n ∧ i = .int .i64 k ∧ wr = w.drewN q ∧ ∀ i, i < k → intAt xs i = intAt ys i) (fun i _ => n - (intOf i).toNat)
    case atStart => exact ⟨0, 0, by omega, rfl, rfl, fun i hi => absurd hi (by omega)⟩
    case round =>
      obtain ⟨k, q, hk, rfl, rfl, hall⟩ := hrel
      have HALL := Lib.hid hall
      clear hall
      by_cases hlt : k < n
      · obtain ⟨b1, o1, rfl, _, h1⟩ := hA.at_ (by omega)
        obtain ⟨b2, o2, rfl, _, h2⟩ := hB.at_ (by omega)
        have c0 : w.cell? ⟨b1, o1 + k, none⟩ = some (.int .i64 (intAt xs k)) := h1 k hlt
        have d0 : w.cell? ⟨b2, o2 + k, none⟩ = some (.int .i64 (intAt ys k)) := h2 k hlt
        clear h1 h2
        have hi0 : (0 : Int) ≤ (k : Int) := by omega
        have hi2 : (k : Int) < (n : Int) := by omega
        by_cases he : intAt xs k = intAt ys k
        · have he' : (intAt xs k != intAt ys k) = false := by simp [he]
          have HE := Lib.hid he
          clear he
          go_wp2_with fail
          go_quiet (fail)
          go_wp2
          go_roundw
          case rel => exact ⟨k + 1, _, by omega, by go_num, rfl, fun i hi => if e : i = k then e ▸ HE.out else HALL.out i (by omega)⟩
          case measure => simp [intOf]; omega
        · have he' : (intAt xs k != intAt ys k) = true := by simp [he]
          have H := Lib.hid (sameI_not he)
          clear he
          go_wp2_with fail
          go_quiet (fail)
          go_wp2
          go_ret
          exact ⟨ret_b H.out.symm, (below_drewN w _).trans (below_drewN _ _)⟩
      · obtain rfl : k = n := by omega
        have H : Hid (sameI xs ys = true) := by
          show sameI xs ys = true
          unfold sameI
          exact decide_eq_true (list_int_ext (by rw [HX.out, HY.out]) (by rw [HX.out]; exact HALL.out))
        go_wp2
        go_ret
        exact ⟨ret_b H.out.symm, below_drewN w _⟩
  · have H := Lib.hid (sameI_len (xs := xs) (ys := ys) (by rw [HX.out, HY.out]; exact hnm))
    go_enter Try.func49, Try.ntmps49
    go_wp2
    go_ret
    exact ⟨ret_b H.out.symm, Below.refl _ _⟩

theorem ofB_first {bs : List Bd} {v : Int} {k : Nat} (hk : k < bs.length) (hv : (bdAt bs k).v = v) (h : ∀ j, j < k → (bdAt bs j).v ≠ v) : ofB bs v = some (bdAt bs k).t := by
  induction bs generalizing k with
  | nil => simp at hk
  | cons a bs ih =>
    rw [ofB_cons]
    cases k with
    | zero => have : a.v = v := hv; rw [if_pos this]; rfl
    | succ k =>
      have h0 : a.v ≠ v := h 0 (by omega)
      rw [if_neg h0]
      exact ih (k := k) (by simpa using hk) hv fun j hj => h (j + 1) (by omega)
theorem ofB_never {bs : List Bd} {v : Int} (h : ∀ j, j < bs.length → (bdAt bs j).v ≠ v) : ofB bs v = none := by
  refine ofB_none_of fun b hb he => ?_
  obtain ⟨j, hj, rfl⟩ := List.mem_iff_getElem.1 hb
  have : bdAt bs j = bs[j] := by unfold bdAt; rw [List.getD_eq_getElem?_getD, List.getElem?_eq_getElem hj]; rfl
  exact h j hj (by rw [this]; exact he)
/-- Where a variable's bind stands. -/
def OfPost (bs : List Bd) (v : Int) (w : World) (e : Ending) (w' : World) : Prop :=
  w = w' ∧ ((e = .returned (.int .i64 (-1)) ∧ ofB bs v = none) ∨ ∃ k : Nat, k < bs.length ∧ e = .returned (.int .i64 k) ∧ ofB bs v = some (bdAt bs k).t)
theorem BindsAt.drewN {w : World} {B n : Nat} {A : Option Addr} {bs : List Bd} (h : BindsAt w B A n bs) (k : Nat) : BindsAt (w.drewN k) B A n bs := h.keep fun _ _ => rfl
/-- The least variable that the next bind may have. -/
def nextLo (bs : List Bd) (k : Nat) : Int := if k = 0 then 0 else (bdAt bs (k - 1)).v + 1
theorem termsK_one {ss : List Sym} {t : List Int} (hm : mayB ss = true) : oneB ss t = decide (termsK ss t = 1) := by
  unfold oneB termsK rowB
  rw [hm, Bool.true_and]
  cases h : decide (t.length ≤ 48) && rowP ss t
  · simp
  · simp only [Bool.true_and, if_true]
    exact decide_eq_decide.2 (by omega)
theorem refTerms_quiet (A A' : Option Addr) (n c m c' B B' : Nat) (ss : List Sym) (r : List Int) (w : World) (h : SymsAt w B A n ss) (hn : n ≤ maxLen) (hr : IntsAt w B' A' m r) (hm : m ≤ maxLen) (hmay : mayB ss = true) {K : Int} (hK : termsK ss r = K) :
    Calls Try.prog 26 #[.slice A n c, .slice A' m c'] w fun e w' => e = .returned (.int .i64 K) ∧ w' = w := by
  subst hK
  exact (refTerms_any A A' n c m c' B B' ss r w h hn hr hm hmay).mono fun e w' ⟨h1, h2⟩ => ⟨h1, h2.symm⟩
theorem IntsAt.drewN {w : World} {B n : Nat} {A : Option Addr} {xs : List Int} (h : IntsAt w B A n xs) (k : Nat) : IntsAt (w.drewN k) B A n xs := ⟨h.len, h.at_⟩

end Go.Proofs.Ytlmpapdpmmkjnaa
