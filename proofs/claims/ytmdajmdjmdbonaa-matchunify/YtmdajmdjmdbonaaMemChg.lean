/-
  Words for memory: what turns while rows of some kinds alone are written.
-/
import Derived.Test.YtmdajmdjmdbonaaBaseMore
import Derived.Test.YtmdajmdjmdbonaaBaseTerm
import Derived.WalkSmall
namespace Go.Proofs.Ytmdajmdjmdbonaa
open Go.RowKit
set_option linter.unusedSimpArgs false
set_option linter.unusedVariables false
set_option maxRecDepth 100000

/-- Of blocks of cells only those of the kinds es may have turned; below base nothing has. -/
structure Chg (es : List TypeId) (base : Nat) (w w' : World) : Prop where
  bel : Below base w w'
  blk : ∀ (k : Nat) (cs : Array Value) (e : TypeId) (fr : Nat × Nat), w.heap[k]? = some (.cells cs e fr) → e ∉ es → w'.heap[k]? = some (.cells cs e fr)
section
variable {es fs : List TypeId} {base base' : Nat} {w w' w2 : World}
theorem Chg.refl : Chg es base w w := ⟨Below.refl _ _, fun _ _ _ _ h _ => h⟩
theorem Chg.trans (h : Chg es base w w') (k : Chg es base w' w2) : Chg es base w w2 := ⟨h.bel.trans k.bel, fun i cs e fr hi he => k.blk i cs e fr (h.blk i cs e fr hi he) he⟩
theorem Chg.wide (h : Chg es base w w') (hs : ∀ e ∈ es, e ∈ fs) : Chg fs base w w' := ⟨h.bel, fun i cs e fr hi he => h.blk i cs e fr hi (fun q => he (hs e q))⟩
theorem Chg.of_below (h : Below w.heap.size w w') (hb : base ≤ w.heap.size) : Chg es base w w' :=
  ⟨h.mono hb, fun i cs e fr hi _ => by rw [h.block i (Array.getElem?_eq_some_iff.1 hi).1]; exact hi⟩
theorem Chg.lower (h : Chg es base w w') (hb : base' ≤ base) : Chg es base' w w' := ⟨h.bel.mono hb, h.blk⟩
theorem Chg.rows (h : Chg es base w w') {b size n : Nat} {e : TypeId} {v : Value} {ys : List Value} (he : e ∉ es) (hv : w.ownsRow b e size v n ys) : w'.ownsRow b e size v n ys := by
  obtain ⟨h1, h2⟩ := hv
  refine ⟨h1, ?_⟩
  rcases h2 with h2 | ⟨g, cap, cur, q, hg, hc, r⟩
  · exact .inl h2
  · exact .inr ⟨g, cap, cur, q, hg, h.blk _ _ _ _ hc he, r⟩
theorem Chg.own (h : Chg es base w w') (he : 3 ∉ es) {b : Nat} {v : Value} {xs : List Int} (hv : OwnI w b v xs) : OwnI w' b v xs := h.rows he hv
theorem Chg.grown {e : TypeId} {size n : Nat} {v : Value} {ys : List Value} (hg : w.grownBy w' v.ownBlock) (hv : w.ownsRow base e size v n ys) (hb : base ≤ w.heap.size) : Chg [e] base w w' := by
  refine ⟨(Below.refl base _).grown hg hb (fun k hk => (hv.lt k hk).1), fun i cs e' fr hi he => ?_⟩
  rw [hg.block i (Array.getElem?_eq_some_iff.1 hi).1 ?_]
  · exact hi
  · intro hk
    rcases hv.2 with ⟨rfl, _⟩ | ⟨g, cap, cur, rfl, _, hc, _⟩
    · simp [Value.ownBlock] at hk
    · simp only [Value.ownBlock, Option.some.injEq] at hk
      subst hk
      rw [hi] at hc
      injection hc with hc
      injection hc with _ q
      exact he (by rw [q]; simp)
theorem Chg.set {g j : Nat} {cur : Array Value} {e : TypeId} {fr : Nat × Nat} (hg : w.heap[g]? = some (.cells cur e fr)) (hb : base ≤ g) (u : Value) : Chg [e] base w (w.setCell ⟨g, j, none⟩ u) := by
  refine ⟨(Below.refl _ _).setCell hb _, fun i cs e' fr' hi he => ?_⟩
  rw [Below.heap_setCell _ _ _ _ (by
    rintro rfl
    rw [hg] at hi
    injection hi with hi
    injection hi with _ q
    exact he (by rw [q]; simp))]
  exact hi
end

section
variable {w w' w2 : World} {base b : Nat} {v : Value} {xs : List Int}
theorem Chg.then_below {es : List TypeId} (h : Chg es base w w') (hb : Below w.heap.size w' w2) (hl : base ≤ w.heap.size) : Chg es base w w2 :=
  ⟨h.bel.trans (hb.mono hl), fun k cs e fr hk he => by rw [hb.block k (Array.getElem?_eq_some_iff.1 hk).1]; exact h.blk k cs e fr hk he⟩
/-- A write into a block that was not there. -/
theorem Chg.set_new {es : List TypeId} {g j : Nat} (h : Chg es base w w') (hg : w.heap.size ≤ g) (hb : base ≤ w.heap.size) (u : Value) : Chg es base w (w'.setCell ⟨g, j, none⟩ u) :=
  ⟨h.bel.trans ((Below.refl _ _).setCell (by show base ≤ g; omega) _), fun k cs e fr hk he => by
    rw [Below.heap_setCell _ _ _ _ (by have := (Array.getElem?_eq_some_iff.1 hk).1; show k ≠ g; omega)]
    exact h.blk k cs e fr hk he⟩
theorem OwnI.set_ne {g j : Nat} (h : OwnI w base v xs) (hne : v.ownBlock ≠ some g) (u : Value) : OwnI (w.setCell ⟨g, j, none⟩ u) base v xs := by
  obtain ⟨h1, h2⟩ := h
  refine ⟨h1, ?_⟩
  rcases h2 with h2 | ⟨k, cap, cur, q, hg, hc, r⟩
  · exact .inl h2
  · refine .inr ⟨k, cap, cur, q, hg, ?_, r⟩
    rw [Below.heap_setCell _ _ _ _ (by rintro rfl; apply hne; rw [q]; rfl)]
    exact hc
theorem OwnI.block (h : OwnI w base v xs) (hp : 0 < xs.length) : ∃ g cap cur, v = .slice (some ⟨g, 0, none⟩) xs.length cap ∧ base ≤ g ∧ w.heap[g]? = some (.cells cur 3 (0, 0)) ∧ xs.length ≤ cap := by
  rcases h.2 with ⟨_, h2⟩ | ⟨g, cap, cur, hv, hg, hc, hn, _⟩
  · omega
  · exact ⟨g, cap, cur, hv, hg, hc, hn⟩
end
theorem OwnI.put {w : World} {base g n cap i : Nat} {xs : List Int} (h : OwnI w base (.slice (some ⟨g, 0, none⟩) n cap) xs) (z : Int) : OwnI (w.setCell ⟨g, i, none⟩ (.int .i64 z)) base (.slice (some ⟨g, 0, none⟩) n cap) (xs.set i z) := by
  have hn : n = xs.length := by
    rcases h.2 with ⟨q, _⟩ | ⟨_, _, _, q, _⟩
    · cases q
    · injection q
  subst hn
  have := (World.ownsRow.stored h i (.int .i64 z)).1
  unfold OwnI
  have e2 : intCells (xs.set i z) = (intCells xs).set i (.int .i64 z) := by unfold intCells; rw [List.map_set]
  rw [e2, List.length_set]
  exact this
end Go.Proofs.Ytmdajmdjmdbonaa
