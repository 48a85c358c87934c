/-
  Contracts of quaereref8: Top, Tops.
-/
import Derived.Test.YtcjpopjcpgipjaaDoorRefLit
import Derived.Test.YtcjpopjcpgipjaaDoorPlainTop
namespace Go.Proofs.YtcjpopjcpgipjaaDoor
open Go.RowKit Go.Deep
set_option linter.unusedSimpArgs false
set_option linter.unusedVariables false
set_option maxRecDepth 100000

/-- The literal number i of a slice of literals, as a value. -/
theorem LitsAt.one {w : World} {B n i : Nat} {A : Option Addr} {ls : List Lt} (h : LitsAt w B A n ls) (hi : i < n) :
    ∃ b off A' c, A = some ⟨b, off, none⟩ ∧ b < B ∧ w.cell? ⟨b, off + i * 2, none⟩ = some (.bool (ltAt ls i).neg) ∧ w.cell? ⟨b, off + i * 2 + 1, none⟩ = some (.slice A' (ltAt ls i).atom.length c) ∧ LitAt w B A' (ltAt ls i).atom.length c (ltAt ls i) := by
  obtain ⟨b, off, e, hb, hc⟩ := h.at_ (by omega)
  obtain ⟨h1, A', c, h2, h3, h4⟩ := hc i hi
  exact ⟨b, off, A', c, e, hb, h1, h2, h4, h3, h.fit i hi⟩
theorem LMor.of_k {ss : List Sym} {p q : Lt} {k : Int} (h : LitKR ss p q k) : k = 2 ↔ LMor ss p q := by
  rcases h with ⟨h, rfl⟩ | ⟨h, rfl⟩ | ⟨h, rfl⟩ | ⟨h1, h2, h3, rfl⟩
  · exact ⟨fun x => by omega, fun x => absurd h x.ne⟩
  · exact ⟨fun _ => h, fun _ => rfl⟩
  · exact ⟨fun x => by omega, fun x => (x.asymm h).elim⟩
  · exact ⟨fun x => by omega, fun x => absurd x h2⟩

theorem topsOk_not {ss : List Sym} {ls : List Lt} {k : Nat} (hk : k < ls.length) (h : litB ss (ltAt ls k) = false) : topsOk ss ls = false := by
  unfold topsOk
  rw [Bool.and_eq_false_iff]
  right
  rw [List.all_eq_false]
  exact ⟨_, ltAt_mem hk, by rw [h]; simp⟩
theorem topsOk_yes {ss : List Sym} {ls : List Lt} (hm : mayB ss = true) (h : ∀ j, j < ls.length → litB ss (ltAt ls j) = true) : topsOk ss ls = true := by
  unfold topsOk
  rw [hm, Bool.true_and, List.all_eq_true]
  intro p hp
  obtain ⟨j, hj, rfl⟩ := mem_ltAt hp
  exact h j hj
theorem topsR_no {ss : List Sym} {ls : List Lt} (h : topsOk ss ls = false) : topsR ss ls = [] := by unfold topsR; rw [h]; rfl
theorem topsE_no {ss : List Sym} {ls : List Lt} (h : topsOk ss ls = false) : topsE ss ls = 700 := by unfold topsE; rw [h]; rfl
theorem topsR_yes {ss : List Sym} {ls : List Lt} (h : topsOk ss ls = true) : topsR ss ls = topsN ss ls ls.length := by unfold topsR; rw [h]; rfl
theorem topsE_yes {ss : List Sym} {ls : List Lt} (h : topsOk ss ls = true) : topsE ss ls = 0 := by unfold topsE; rw [h]; rfl
def TopsPost (ss : List Sym) (ls : List Lt) (w : World) (e : Ending) (w' : World) : Prop := IntsPost (topsR ss ls) (topsE ss ls) w e w'
theorem TopsPost.bad {ss : List Sym} {ls : List Lt} {w w' : World} (h : topsOk ss ls = false) (hb : Below w.heap.size w w') : TopsPost ss ls w (.returned (.tuple #[.slice none 0 0, .int .i64 700])) w' :=
  ⟨_, by rw [topsE_no h], by rw [topsR_no h]; exact OwnI.nil_, hb⟩

end Go.Proofs.YtcjpopjcpgipjaaDoor
