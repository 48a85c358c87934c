/-
  The words of a law's signature; rows and binds written out, in memory.
-/
import Derived.Test.YtlmpapdpmmkjnaaMemBinds
import Derived.Test.YtlmpapdpmmkjnaaHelpInts
namespace Go.Proofs.Ytlmpapdpmmkjnaa
open Go.RowKit
set_option linter.unusedSimpArgs false
set_option linter.unusedVariables false

def wordsL : List Sym := [⟨⟨#[61]⟩, 0, 2, 1⟩, ⟨⟨#[97]⟩, 1, 0, 1⟩, ⟨⟨#[98]⟩, 1, 0, 2⟩, ⟨⟨#[102]⟩, 1, 1, 1⟩, ⟨⟨#[103]⟩, 1, 2, 3⟩, ⟨⟨#[112]⟩, 0, 1, 1⟩, ⟨⟨#[114]⟩, 0, 2, 2⟩]
theorem may_words : mayB wordsL = true := by decide +kernel
theorem fit_words : ∀ i, i < 7 → (symAt wordsL i).name.size ≤ maxLen := by
  intro i hi
  have : (symAt wordsL i).name.size = 1 := by
    match i, hi with
    | 0, _ => rfl
    | 1, _ => rfl
    | 2, _ => rfl
    | 3, _ => rfl
    | 4, _ => rfl
    | 5, _ => rfl
    | 6, _ => rfl
  rw [this]; unfold maxLen; omega
/-- The words, in a new row. -/
def WordsRet (w : World) (e : Ending) (w' : World) : Prop :=
  ∃ A, e = .returned (.slice A 7 7) ∧ SymsAt w' w'.heap.size A 7 wordsL ∧ Below w.heap.size w w'
set_option maxHeartbeats 1000000 in
theorem words_any (w : World) : Calls Try.prog 29 #[] w (WordsRet w) := by
  go_enter Try.func29, Try.ntmps29
  go_wp2
  go_ret
  refine ⟨_, rfl, ?_, below_new w _⟩
  have := World.ownsRow_lit (base := w.heap.size) (e := 70) (size := 4) w (cellsOf wordsL).toArray 7 (Nat.le_refl _) (by unfold maxLen; omega) rfl
  exact SymsAt.of_own this fit_words
theorem len_small {n : Nat} (h : n ≤ 1000000) : n ≤ maxLen := by unfold maxLen; omega
theorem len7 : (7 : Nat) ≤ maxLen := len_small (by decide)
theorem BindsAt.new1 (w : World) (v : Int) (t : List Int) (A : Option Addr) (n c : Nat) (hi : IntsAt w w.heap.size A n t) (hc : n ≤ c) (hf : n * 8 ≤ 140737488351232) :
    BindsAt (w.alloc (.cells #[.int .i64 v, .slice A n c] 41)) (w.alloc (.cells #[.int .i64 v, .slice A n c] 41)).heap.size (some ⟨w.heap.size, 0, none⟩) 1 [⟨v, t⟩] := by
  have hl := hi.len
  subst hl
  refine ⟨rfl, fun _ => ⟨w.heap.size, 0, rfl, by simp, fun i h => ?_⟩, fun i h => ?_⟩
  · obtain rfl : i = 0 := by omega
    refine ⟨?_, A, c, ?_, hc, hi.on (below_new w _)⟩
    · rw [World.cell?_alloc_new]; rfl
    · rw [World.cell?_alloc_new]; rfl
  · obtain rfl : i = 0 := by omega
    exact hf
theorem BindsAt.new2 (w : World) (v v' : Int) (t t' : List Int) (A A' : Option Addr) (n n' c c' : Nat) (hi : IntsAt w w.heap.size A n t) (hi' : IntsAt w w.heap.size A' n' t') (hc : n ≤ c) (hc' : n' ≤ c') (hf : n * 8 ≤ 140737488351232) (hf' : n' * 8 ≤ 140737488351232) :
    BindsAt (w.alloc (.cells #[.int .i64 v, .slice A n c, .int .i64 v', .slice A' n' c'] 41)) (w.alloc (.cells #[.int .i64 v, .slice A n c, .int .i64 v', .slice A' n' c'] 41)).heap.size (some ⟨w.heap.size, 0, none⟩) 2 [⟨v, t⟩, ⟨v', t'⟩] := by
  have hl := hi.len
  have hl' := hi'.len
  subst hl
  subst hl'
  refine ⟨rfl, fun _ => ⟨w.heap.size, 0, rfl, by simp, fun i h => ?_⟩, fun i h => ?_⟩
  · match i, h with
    | 0, _ =>
      refine ⟨?_, A, c, ?_, hc, hi.on (below_new w _)⟩
      · rw [World.cell?_alloc_new]; rfl
      · rw [World.cell?_alloc_new]; rfl
    | 1, _ =>
      refine ⟨?_, A', c', ?_, hc', hi'.on (below_new w _)⟩
      · rw [World.cell?_alloc_new]; rfl
      · rw [World.cell?_alloc_new]; rfl
  · match i, h with
    | 0, _ => exact hf
    | 1, _ => exact hf'
theorem IntsAt.new {w : World} {A : Option Addr} {n : Nat} {xs : List Int} (h : IntsAt w w.heap.size A n xs) (o : Obj) : IntsAt (w.alloc o) (w.alloc o).heap.size A n xs := h.on (below_new w o)
theorem BindsAt.new {w : World} {A : Option Addr} {n : Nat} {bs : List Bd} (h : BindsAt w w.heap.size A n bs) (o : Obj) : BindsAt (w.alloc o) (w.alloc o).heap.size A n bs := h.on (below_new w o)

theorem BindsAt.lit1 (w : World) (v : Int) (t : List Int) (hf : t.length * 8 ≤ 140737488351232) :
    BindsAt ((w.alloc (.cells (intCells t).toArray 3)).alloc (.cells #[.int .i64 v, .slice (some ⟨w.heap.size, 0, none⟩) t.length t.length] 41)) ((w.alloc (.cells (intCells t).toArray 3)).alloc (.cells #[.int .i64 v, .slice (some ⟨w.heap.size, 0, none⟩) t.length t.length] 41)).heap.size (some ⟨w.heap.size + 1, 0, none⟩) 1 [⟨v, t⟩] := by
  have := BindsAt.new1 (w.alloc (.cells (intCells t).toArray 3)) v t _ _ _ (IntsAt.news w t) (Nat.le_refl _) hf
  have e : (w.alloc (.cells (intCells t).toArray 3)).heap.size = w.heap.size + 1 := by simp
  rw [e] at this
  exact this
theorem below_new2 (w : World) (o o' : Obj) : Below w.heap.size w ((w.alloc o).alloc o') := (below_new w o).trans ((below_new _ _).mono (by simp))
theorem below_new3 (w : World) (o o' o'' : Obj) : Below w.heap.size w (((w.alloc o).alloc o').alloc o'') := (below_new2 w o o').trans ((below_new _ _).mono (by simp; omega))
theorem BindsAt.lit2 (w : World) (v v' : Int) (t t' : List Int) (hf : t.length * 8 ≤ 140737488351232) (hf' : t'.length * 8 ≤ 140737488351232) :
    BindsAt (((w.alloc (.cells (intCells t).toArray 3)).alloc (.cells (intCells t').toArray 3)).alloc (.cells #[.int .i64 v, .slice (some ⟨w.heap.size, 0, none⟩) t.length t.length, .int .i64 v', .slice (some ⟨w.heap.size + 1, 0, none⟩) t'.length t'.length] 41))
      (((w.alloc (.cells (intCells t).toArray 3)).alloc (.cells (intCells t').toArray 3)).alloc (.cells #[.int .i64 v, .slice (some ⟨w.heap.size, 0, none⟩) t.length t.length, .int .i64 v', .slice (some ⟨w.heap.size + 1, 0, none⟩) t'.length t'.length] 41)).heap.size (some ⟨w.heap.size + 1 + 1, 0, none⟩) 2 [⟨v, t⟩, ⟨v', t'⟩] := by
  have h1 := (IntsAt.news w t).new (.cells (intCells t').toArray 3)
  have h2 := IntsAt.news (w.alloc (.cells (intCells t).toArray 3)) t'
  have e : (w.alloc (.cells (intCells t).toArray 3)).heap.size = w.heap.size + 1 := by simp
  have e2 : ((w.alloc (.cells (intCells t).toArray 3)).alloc (.cells (intCells t').toArray 3)).heap.size = w.heap.size + 1 + 1 := by simp
  rw [e] at h2
  have := BindsAt.new2 _ v v' t t' _ _ _ _ _ _ h1 h2 (Nat.le_refl _) (Nat.le_refl _) hf hf'
  rw [e2] at this
  exact this

theorem SymsAt.two {w : World} {A : Option Addr} {n : Nat} {ss : List Sym} (h : SymsAt w w.heap.size A n ss) (o o' : Obj) : SymsAt ((w.alloc o).alloc o') ((w.alloc o).alloc o').heap.size A n ss := h.on (below_new2 w o o')

theorem lit_two (w : World) (xs ys : List Int) : IntsAt ((w.alloc (.cells (intCells xs).toArray 3)).alloc (.cells (intCells ys).toArray 3)) ((w.alloc (.cells (intCells xs).toArray 3)).alloc (.cells (intCells ys).toArray 3)).heap.size (some ⟨w.heap.size, 0, none⟩) xs.length xs ∧
    IntsAt ((w.alloc (.cells (intCells xs).toArray 3)).alloc (.cells (intCells ys).toArray 3)) ((w.alloc (.cells (intCells xs).toArray 3)).alloc (.cells (intCells ys).toArray 3)).heap.size (some ⟨w.heap.size + 1, 0, none⟩) ys.length ys := by
  refine ⟨(IntsAt.news w xs).new _, ?_⟩
  have := IntsAt.news (w.alloc (.cells (intCells xs).toArray 3)) ys
  have e : (w.alloc (.cells (intCells xs).toArray 3)).heap.size = w.heap.size + 1 := by simp
  rw [e] at this
  exact this
end Go.Proofs.Ytlmpapdpmmkjnaa
