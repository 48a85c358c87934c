/-
  Words for memory: a slice of integers that reads as a list, nil let in.
-/
import Derived.Test.YtlmpapdpmmkjnaaMemRow
import Derived.Test.YtlmpapdpmmkjnaaMemOwn
namespace Go.Proofs.Ytlmpapdpmmkjnaa
open Go.RowKit
set_option linter.unusedSimpArgs false
set_option linter.unusedVariables false

/-- The slice value '.slice A n _' holds the integers xs; its cells lie below block B. -/
structure IntsAt (w : World) (B : Nat) (A : Option Addr) (n : Nat) (xs : List Int) : Prop where
  len : xs.length = n
  at_ : ValsAt w B A n (fun i => .int .i64 (intAt xs i))
section
variable {w w' : World} {B B' n : Nat} {A : Option Addr} {xs : List Int}
theorem IntsAt.below (h : IntsAt w B A n xs) (hb : Below B w w') : IntsAt w' B A n xs := ⟨h.len, h.at_.below hb⟩
theorem IntsAt.keep (h : IntsAt w B A n xs) (hk : ∀ p : Addr, p.block < B → w'.cell? p = w.cell? p) : IntsAt w' B A n xs := ⟨h.len, h.at_.keep hk⟩
theorem IntsAt.more (h : IntsAt w B A n xs) (hB : B ≤ B') : IntsAt w B' A n xs := ⟨h.len, h.at_.more hB⟩
theorem IntsAt.on (h : IntsAt w w.heap.size A n xs) (hb : Below w.heap.size w w') : IntsAt w' w'.heap.size A n xs := ⟨h.len, h.at_.on hb⟩
theorem IntsAt.drew (h : IntsAt w B A n xs) : IntsAt w.drew B A n xs := ⟨h.len, h.at_⟩
theorem IntsAt.nil_ : IntsAt w B A 0 [] := ⟨rfl, ValsAt.nil_⟩
theorem intAt_get {xs : List Int} {i : Nat} (h : i < xs.length) : xs[i]? = some (intAt xs i) := by
  unfold intAt; rw [List.getD_eq_getElem?_getD, List.getElem?_eq_getElem h]; rfl
theorem intAt_take {xs : List Int} {i k : Nat} (h : i < k) : intAt (xs.take k) i = intAt xs i := by
  unfold intAt; rw [List.getD_eq_getElem?_getD, List.getD_eq_getElem?_getD, List.getElem?_take, if_pos h]
theorem intAt_drop {xs : List Int} {i k : Nat} : intAt (xs.drop k) i = intAt xs (k + i) := by
  unfold intAt; rw [List.getD_eq_getElem?_getD, List.getD_eq_getElem?_getD, List.getElem?_drop]
theorem IntsAt.take {i : Nat} (h : IntsAt w B A n xs) (hi : i ≤ n) : IntsAt w B A i (xs.take i) :=
  ⟨by have := h.len; simp; omega, fun hp => by
    obtain ⟨b, off, e, hb, hc⟩ := h.at_ (by omega)
    exact ⟨b, off, e, hb, fun j hj => by show w.cell? _ = some (.int .i64 (intAt (xs.take i) j)); rw [intAt_take hj]; exact hc j (by omega)⟩⟩
theorem IntsAt.drop {b off k : Nat} (h : IntsAt w B (some ⟨b, off, none⟩) n xs) (hk : k ≤ n) : IntsAt w B (some ⟨b, off + k, none⟩) (n - k) (xs.drop k) :=
  ⟨by have := h.len; simp; omega, fun hp => by
    obtain ⟨b', off', e, hb, hc⟩ := h.at_ (by omega)
    injection e with e
    injection e with e1 e2
    subst e1; subst e2
    refine ⟨b, off + k, rfl, hb, fun j hj => ?_⟩
    show w.cell? _ = some (.int .i64 (intAt (xs.drop k) j))
    rw [intAt_drop]
    have := hc (k + j) (by omega)
    rw [Nat.add_assoc]; exact this⟩
def intCells (xs : List Int) : List Value := xs.map fun x => .int .i64 x
theorem intCells_length (xs : List Int) : (intCells xs).length = xs.length := by simp [intCells]
theorem intCells_append (a b : List Int) : intCells (a ++ b) = intCells a ++ intCells b := by simp [intCells]
theorem intCells_get (xs : List Int) (i : Nat) (h : i < xs.length) : (intCells xs)[i]? = some (.int .i64 (intAt xs i)) := by
  unfold intCells; rw [List.getElem?_map, intAt_get h]; rfl
theorem intCells_oneCell (xs : List Int) : ∀ u ∈ intCells xs, u.oneCell' = true := by
  intro u hu; simp [intCells] at hu; obtain ⟨_, _, rfl⟩ := hu; rfl
theorem IntsAt.of_own {base cap : Nat} {e : TypeId} {v : Value} {xs : List Int} (h : w.ownsRow base e 1 v xs.length (intCells xs)) :
    ∃ A cap, v = .slice A xs.length cap ∧ xs.length ≤ cap ∧ IntsAt w w.heap.size A xs.length xs := by
  rcases h.2 with ⟨hv, hx⟩ | ⟨g, c, cur, hv, hg, hc, r⟩
  · have : xs = [] := by
      cases xs with
      | nil => rfl
      | cons a b => simp [intCells] at hx
    subst this
    exact ⟨_, _, hv, Nat.le_refl _, IntsAt.nil_⟩
  · refine ⟨_, _, hv, by omega, rfl, fun hn => ?_⟩
    subst hv
    obtain ⟨g', cap', hv', _, hlt⟩ := h.form (by simpa using hn)
    injection hv' with h1; injection h1 with h1; injection h1 with h1; subst h1
    refine ⟨g, 0, rfl, hlt, fun i hi => ?_⟩
    have := own_get h i hi
    rw [intCells_get xs i hi] at this
    rw [Nat.zero_add]; exact this
end
end Go.Proofs.Ytlmpapdpmmkjnaa
