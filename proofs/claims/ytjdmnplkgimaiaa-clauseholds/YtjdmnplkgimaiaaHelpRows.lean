/-
  Contracts of quaerelaw0: CopyRows, SameRows, SpoilRows, and SpoilLits with the values of the atoms.
-/
import Derived.Test.YtjdmnplkgimaiaaMemClause
namespace Go.Proofs.Ytjdmnplkgimaiaa
open Go.RowKit Go.Deep
set_option linter.unusedSimpArgs false
set_option linter.unusedVariables false
set_option maxRecDepth 100000

theorem rowOf_next {L : List (List Int)} {k : Nat} (h : k < L.length) : L.take (k + 1) = L.take k ++ [rowOf L k] := by
  rw [List.take_add_one, rowOf_get h]; rfl
theorem val_slice {u : Value} {A : Option Addr} {n c : Nat} (h : u = .slice A n c) : u.oneCell' = true := by rw [h]; rfl
def TupsRet (ts : List (List Int)) (w : World) (e : Ending) (w' : World) : Prop :=
  ∃ v, e = .returned v ∧ OwnT w' w.heap.size v ts ∧ Below w.heap.size w w'

set_option maxHeartbeats 1000000 in
theorem sameRows_true (A A1 : Option Addr) (n c c1 : Nat) (ts : List (List Int)) (w : World) (h : TupsAt w w.heap.size A n ts) (hn : n * 24 ≤ 140737488351232) (h1 : TupsAt w w.heap.size A1 n ts) :
    Calls Try.prog 33 #[.slice A n c, .slice A1 n c1] w fun e w' => e = .returned (.bool true) ∧ Below w.heap.size w w' := by
  have HA := Lib.hid h
  have HB := Lib.hid h1
  clear h h1
  go_enter Try.func33, Try.ntmps33
  go_wp2
  go_loopw [5] (fun i wr => ∃ k : Nat, i = .int .i64 k ∧ k ≤ n ∧ Below w.heap.size w wr) (fun i _ => n - (intOf i).toNat)
  case atStart => exact ⟨0, rfl, by omega, Below.refl _ _⟩
  case round =>
    obtain ⟨k, rfl, hk, hbw⟩ := hrel
    have HBW := Lib.hid hbw
    clear hbw
    by_cases hlt : k < n
    · obtain ⟨b1, o1, A3, c3, rfl, _, c0, i3, -⟩ := (HA.out.on HBW.out).one hlt
      obtain ⟨b2, o2, A4, c4, rfl, _, d0, i4, -⟩ := (HB.out.on HBW.out).one hlt
      obtain ⟨r, hrr⟩ : ∃ r, r = rowOf ts k := ⟨_, rfl⟩
      rw [← hrr] at c0 d0 i3 i4
      have HI3 := Lib.hid i3
      have HI4 := Lib.hid i4
      have hi0 : (0 : Int) ≤ (k : Int) := by omega
      have hi3 : (k : Int) < (n : Int) := by omega
      clear i3 i4 hrr
      go_wp2_with fail
      go_quiet ((go_at_call 17; exact sameInts_still A3 A4 _ c3 _ c4 _ _ _ r r _ HI3.out.at_ HI4.out.at_ HI3.out.big HI4.out.big (sameI_self _)))
      go_wp2
      go_roundw
      case rel => exact ⟨k + 1, by go_num, by omega, HBW.out.trans (below_drewN _ _)⟩
      case measure => simp [intOf]; omega
    · obtain rfl : k = n := by omega
      go_wp2
      go_ret
      exact ⟨rfl, HBW.out⟩

/-- Rows that the call has made, whatever stands in them. -/
def WRws (w : World) (base : Nat) (vs : List Value) : Prop := ∀ i, i < vs.length → ∃ n, n ≤ 17592186044416 ∧ ∃ xs : List Int, xs.length = n ∧ OwnI w base (valAt vs i) xs
theorem WRws.spoilt {w w' : World} {base b : Nat} {vs : List Value} (h : WRws w base vs) (hs : Spoilt b w w') : WRws w' base vs := fun i hi => by
  obtain ⟨n, hn, hx⟩ := h i hi
  exact ⟨n, hn, hs.ints _ _ _ hx⟩
theorem WRws.on {w w' : World} {base : Nat} {vs : List Value} (h : WRws w base vs) (hb : Below w.heap.size w w') : WRws w' base vs := fun i hi => by
  obtain ⟨n, hn, xs, e, hx⟩ := h i hi
  exact ⟨n, hn, xs, e, hx.on hb⟩
theorem Rws.weak {w : World} {base : Nat} {vs : List Value} {L : List (List Int)} (h : Rws w base vs L) (hf : ∀ r ∈ L, r.length * 8 ≤ 140737488351232) : WRws w base vs := fun i hi => by
  have hi' : i < L.length := by rw [← h.1]; exact hi
  exact ⟨_, by have := hf _ (rowOf_mem hi'); omega, _, rfl, h.2 i hi'⟩
end Go.Proofs.Ytjdmnplkgimaiaa
