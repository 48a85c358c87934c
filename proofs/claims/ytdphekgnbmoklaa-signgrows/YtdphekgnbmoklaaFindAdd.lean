/-
  Contracts: sign.Find, sign.Add; what they answer as plain functions.
-/
import Derived.Test.YtdphekgnbmoklaaMay2
import Derived.Test.YtdphekgnbmoklaaMemOwn
namespace Go.Proofs.Ytdphekgnbmoklaa
open Go.RowKit
set_option linter.unusedSimpArgs false
set_option linter.unusedVariables false

def findK (ss : List Sym) (nm : ByteArray) : Int := if mayB ss then code ss nm else 0
def findE (ss : List Sym) : Int := if mayB ss then 0 else 100
def addE (ss : List Sym) (s : Sym) : Int :=
  if (mayB ss && symB s) = false then 100 else if 0 ≤ code ss s.name then 101 else if 20 ≤ ss.length then 102 else 0

theorem sym_info : (Try.prog.info? 33).map (fun i => (i.zero, i.size, i.bytes)) = some (some (.agg #[.string ByteArray.empty, .int .i64 0, .int .i64 0, .int .i64 0]), 4, 40) := by kernel_rfl
theorem below_new (w : World) (o : Obj) : Below w.heap.size w (w.alloc o) := (Below.refl _ _).alloc (Nat.le_refl _) o
theorem SymsAt.new {w : World} {A : Option Addr} {n : Nat} {ss : List Sym} (h : SymsAt w w.heap.size A n ss) (o : Obj) : SymsAt (w.alloc o) (w.alloc o).heap.size A n ss :=
  (h.below (below_new w o)).more (by simp)
theorem SymsAt.on {w w' : World} {A : Option Addr} {n : Nat} {ss : List Sym} (h : SymsAt w w.heap.size A n ss) (hb : Below w.heap.size w w') : SymsAt w' w'.heap.size A n ss :=
  (h.below hb).more hb.size

set_option maxHeartbeats 1000000 in
theorem find_any (A : Option Addr) (n c : Nat) (ss : List Sym) (nm : ByteArray) (w : World) (h : SymsAt w w.heap.size A n ss) (hn : n ≤ maxLen) (hnc : n ≤ c) :
    Calls Try.prog 8 #[.slice A n c, .string nm] w fun e w' => e = .returned (.tuple #[.int .i64 (findK ss nm), .int .i64 (findE ss)]) ∧ Below w.heap.size w w' := by
  unfold findK findE
  cases hm : mayB ss
  · go_enter Try.func8, Try.ntmps8
    go_wp2_with fail
    refine (may_any _ n c ss _ h hn hnc).mono ?_
    rintro e w1 ⟨rfl, hb1⟩
    rw [hm]
    go_wp2
    go_ret2
    exact ⟨by simp, hb1⟩
  · go_enter Try.func8, Try.ntmps8
    go_wp2_with fail
    refine (may_any _ n c ss _ h hn hnc).mono ?_
    rintro e w1 ⟨rfl, hb1⟩
    rw [hm]
    go_wp2_with fail
    refine (codeOf_any _ n c w.heap.size ss _ _ (h.below hb1) hn).mono ?_
    rintro e w1 ⟨rfl, rfl⟩
    go_wp2
    go_ret2
    exact ⟨by simp, hb1⟩

set_option maxHeartbeats 1000000 in
theorem add_may (A : Option Addr) (n c : Nat) (ss : List Sym) (nm : ByteArray) (k a g : Int) (w : World) (h : SymsAt w w.heap.size A n ss) (hn : n ≤ maxLen) (hnc : n ≤ c) (hs : nm.size ≤ maxLen) (hm : mayB ss = false) :
    Calls Try.prog 15 #[.slice A n c, .agg #[.string nm, .int .i64 k, .int .i64 a, .int .i64 g]] w fun e w' => e = .returned (.tuple #[.slice none 0 0, .int .i64 100]) ∧ Below w.heap.size w w' := by
  go_enter Try.func15, Try.ntmps15
  go_wp2_with fail
  refine (may_any _ n c ss _ (h.new _) hn hnc).mono ?_
  rintro e w1 ⟨rfl, hb1⟩
  rw [hm]
  go_wp2
  go_ret2
  exact ⟨rfl, (below_new w _).trans (hb1.mono (by simp))⟩

theorem box_cell {w w1 : World} {cs : Array Value} {t : TypeId} (hb : Below (w.alloc (.cells cs t)).heap.size (w.alloc (.cells cs t)) w1) (i : Nat) {u : Value} (h : cs[i]? = some u) : w1.cell? ⟨w.heap.size, i, none⟩ = some u := by
  rw [hb.cell (p := ⟨w.heap.size, i, none⟩) (by simp)]
  have := cell_of_row (w.alloc (.cells cs t)) w.heap.size i cs t (0, 0) (heap_alloc_new w _)
  rw [this, h]
/-- The four cells of a symbol that lies in a block of its own. -/
def BoxAt (w : World) (b : Nat) (nm : ByteArray) (k a g : Int) : Prop :=
  w.cell? ⟨b, 0, none⟩ = some (.string nm) ∧ w.cell? ⟨b, 1, none⟩ = some (.int .i64 k) ∧ w.cell? ⟨b, 2, none⟩ = some (.int .i64 a) ∧ w.cell? ⟨b, 3, none⟩ = some (.int .i64 g)
theorem BoxAt.of {w w1 : World} {nm : ByteArray} {k a g : Int} {t : TypeId}
    (hb : Below (w.alloc (.cells #[.string nm, .int .i64 k, .int .i64 a, .int .i64 g] t)).heap.size (w.alloc (.cells #[.string nm, .int .i64 k, .int .i64 a, .int .i64 g] t)) w1) : BoxAt w1 w.heap.size nm k a g :=
  ⟨box_cell hb 0 rfl, box_cell hb 1 rfl, box_cell hb 2 rfl, box_cell hb 3 rfl⟩
theorem BoxAt.on {w w1 : World} {b B : Nat} {nm : ByteArray} {k a g : Int} (h : BoxAt w b nm k a g) (hb : Below B w w1) (hB : b < B) : BoxAt w1 b nm k a g := by
  obtain ⟨h0, h1, h2, h3⟩ := h
  refine ⟨?_, ?_, ?_, ?_⟩
  · rw [hb.cell (p := ⟨b, 0, none⟩) hB]; exact h0
  · rw [hb.cell (p := ⟨b, 1, none⟩) hB]; exact h1
  · rw [hb.cell (p := ⟨b, 2, none⟩) hB]; exact h2
  · rw [hb.cell (p := ⟨b, 3, none⟩) hB]; exact h3

set_option maxHeartbeats 1000000 in
theorem add_sym (A : Option Addr) (n c : Nat) (ss : List Sym) (nm : ByteArray) (k a g : Int) (w : World) (h : SymsAt w w.heap.size A n ss) (hn : n ≤ maxLen) (hnc : n ≤ c) (hs : nm.size ≤ maxLen) (hm : mayB ss = true) (hv : symB ⟨nm, k, a, g⟩ = false) :
    Calls Try.prog 15 #[.slice A n c, .agg #[.string nm, .int .i64 k, .int .i64 a, .int .i64 g]] w fun e w' => e = .returned (.tuple #[.slice none 0 0, .int .i64 100]) ∧ Below w.heap.size w w' := by
  go_enter Try.func15, Try.ntmps15
  go_wp2_with fail
  refine (may_any _ n c ss _ (h.new _) hn hnc).mono ?_
  rintro e w1 ⟨rfl, hb1⟩
  rw [hm]
  obtain ⟨c0, c1, c2, c3⟩ := BoxAt.of hb1
  have hz := hb1.size
  simp at hz
  go_wp2_with fail
  refine (validSym_is false _ _ _ _ _ hs hv).mono ?_
  rintro e w2 ⟨rfl, hb2⟩
  go_wp2
  go_ret2
  exact ⟨rfl, ((below_new w _).trans (hb1.mono (by simp))).trans (hb2.mono (by omega))⟩

set_option maxHeartbeats 1000000 in
theorem add_twice (A : Option Addr) (n c : Nat) (ss : List Sym) (nm : ByteArray) (k a g : Int) (w : World) (h : SymsAt w w.heap.size A n ss) (hn : n ≤ maxLen) (hnc : n ≤ c) (hs : nm.size ≤ maxLen) (hm : mayB ss = true) (hv : symB ⟨nm, k, a, g⟩ = true)
    (hc : 0 ≤ code ss nm) :
    Calls Try.prog 15 #[.slice A n c, .agg #[.string nm, .int .i64 k, .int .i64 a, .int .i64 g]] w fun e w' => e = .returned (.tuple #[.slice none 0 0, .int .i64 101]) ∧ Below w.heap.size w w' := by
  go_enter Try.func15, Try.ntmps15
  go_wp2_with fail
  refine (may_any _ n c ss _ (h.new _) hn hnc).mono ?_
  rintro e w1 ⟨rfl, hb1⟩
  rw [hm]
  obtain ⟨c0, c1, c2, c3⟩ := BoxAt.of hb1
  have hz := hb1.size
  simp at hz
  go_wp2_with fail
  refine (validSym_is true _ _ _ _ _ hs hv).mono ?_
  rintro e w2 ⟨rfl, hb2⟩
  obtain ⟨d0, d1, d2, d3⟩ := BoxAt.on ⟨c0, c1, c2, c3⟩ hb2 (by omega)
  clear c0 c1 c2 c3
  have hb02 : Below w.heap.size w w2 := ((below_new w _).trans (hb1.mono (by simp))).trans (hb2.mono (by omega))
  go_wp2_with fail
  refine (codeOf_any _ n c w.heap.size ss _ _ (h.below hb02) hn).mono ?_
  rintro e w3 ⟨rfl, rfl⟩
  go_wp2
  go_ret2
  exact ⟨rfl, hb02⟩

set_option maxHeartbeats 1000000 in
theorem add_full (A : Option Addr) (n c : Nat) (ss : List Sym) (nm : ByteArray) (k a g : Int) (w : World) (h : SymsAt w w.heap.size A n ss) (hn : n ≤ maxLen) (hnc : n ≤ c) (hs : nm.size ≤ maxLen) (hm : mayB ss = true) (hv : symB ⟨nm, k, a, g⟩ = true)
    (hc : code ss nm < 0) (h20 : 20 ≤ n) :
    Calls Try.prog 15 #[.slice A n c, .agg #[.string nm, .int .i64 k, .int .i64 a, .int .i64 g]] w fun e w' => e = .returned (.tuple #[.slice none 0 0, .int .i64 102]) ∧ Below w.heap.size w w' := by
  go_enter Try.func15, Try.ntmps15
  go_wp2_with fail
  refine (may_any _ n c ss _ (h.new _) hn hnc).mono ?_
  rintro e w1 ⟨rfl, hb1⟩
  rw [hm]
  obtain ⟨c0, c1, c2, c3⟩ := BoxAt.of hb1
  have hz := hb1.size
  simp at hz
  go_wp2_with fail
  refine (validSym_is true _ _ _ _ _ hs hv).mono ?_
  rintro e w2 ⟨rfl, hb2⟩
  obtain ⟨d0, d1, d2, d3⟩ := BoxAt.on ⟨c0, c1, c2, c3⟩ hb2 (by omega)
  clear c0 c1 c2 c3
  have hb02 : Below w.heap.size w w2 := ((below_new w _).trans (hb1.mono (by simp))).trans (hb2.mono (by omega))
  go_wp2_with fail
  refine (codeOf_any _ n c w.heap.size ss _ _ (h.below hb02) hn).mono ?_
  rintro e w3 ⟨rfl, rfl⟩
  go_wp2
  go_ret2
  exact ⟨rfl, hb02⟩

/-- What Add hands back where there is no error: a new row of the symbols and the new one. -/
def AddOk (base : Nat) (n : Nat) (ss : List Sym) (s : Sym) (w : World) (e : Ending) (w' : World) : Prop :=
  ∃ gb cap : Nat, e = .returned (.tuple #[.slice (some ⟨gb, 0, none⟩) (n + 1) cap, .int .i64 0]) ∧
    w'.ownsRow base 33 4 (.slice (some ⟨gb, 0, none⟩) (n + 1) cap) (n + 1) (cellsOf (ss ++ [s])) ∧ Below w.heap.size w w'

set_option maxHeartbeats 2000000 in
theorem add_ok (A : Option Addr) (n c : Nat) (ss : List Sym) (nm : ByteArray) (k a g : Int) (w : World) (h : SymsAt w w.heap.size A n ss) (hn : n ≤ maxLen) (hnc : n ≤ c) (hs : nm.size ≤ maxLen) (hm : mayB ss = true) (hv : symB ⟨nm, k, a, g⟩ = true)
    (hc : code ss nm < 0) (h20 : n < 20) :
    Calls Try.prog 15 #[.slice A n c, .agg #[.string nm, .int .i64 k, .int .i64 a, .int .i64 g]] w (AddOk w.heap.size n ss ⟨nm, k, a, g⟩ w) := by
  obtain ⟨i0, hi0, hz0, hz1, hz2⟩ := info_parts sym_info
  go_enter Try.func15, Try.ntmps15
  go_wp2_with fail
  refine (may_any _ n c ss _ (h.new _) hn hnc).mono ?_
  rintro e w1 ⟨rfl, hb1⟩
  rw [hm]
  obtain ⟨c0, c1, c2, c3⟩ := BoxAt.of hb1
  have hz := hb1.size
  simp at hz
  go_wp2_with fail
  refine (validSym_is true _ _ _ _ _ hs hv).mono ?_
  rintro e w2 ⟨rfl, hb2⟩
  obtain ⟨d0, d1, d2, d3⟩ := BoxAt.on ⟨c0, c1, c2, c3⟩ hb2 (by omega)
  clear c0 c1 c2 c3
  have hb02 : Below w.heap.size w w2 := ((below_new w _).trans (hb1.mono (by simp))).trans (hb2.mono (by omega))
  go_wp2_with fail
  refine (codeOf_any _ n c w.heap.size ss _ _ (h.below hb02) hn).mono ?_
  rintro e w3 ⟨rfl, rfl⟩
  have h1n : 0 < n := by
    have := of_decide_eq_true hm
    have h1 := this.1
    rw [h.len] at h1; omega
  obtain ⟨b, off, rfl, hb, _⟩ := h.at_ h1n
  have HX : Hid (BoxAt w2 w.heap.size nm k a g) := ⟨d0, d1, d2, d3⟩
  have hz2' : w.heap.size + 1 ≤ w2.heap.size := by have := hb2.size; omega
  clear d0 d1 d2 d3
  go_wp2_with (first
    | (at_make
       refine wpList_make_own _ rfl (.const (.int .i64 0)) (.tmp 25) 22 rfl w2.heap.size 33 i0 _ 4 Try.underlying22 hi0 hz0 hz1 .i64 .i64 ((n : Int) + 1) (n + 1) rfl rfl (by omega) (by rw [hz2]; omega) (by unfold maxLen; omega) (Nat.le_refl _) ?_
       intro w3 hown3 hg3
       have hb23 : Below w2.heap.size w2 w3 := (Below.refl _ _).grown hg3 (Nat.le_refl _) (fun k hk => by cases hk))
    | (at_builtin
       refine wpList_append_lies _ rfl (.tmp 27) (.tmp 28) 22 rfl w2.heap.size 33 i0 _ 4 40 Try.underlying22 hi0 hz0 hz1 hz2 rfl (by omega) (.slice (some ⟨w2.heap.size, 0, none⟩) 0 (n + 1)) 0 [] rfl hown3 ⟨b, off, none⟩ n c (cellsOf ss) rfl (by rw [cellsOf_length, h.len]) (SymsAt.news (h.below (hb02.trans (hb23.mono hb02.size)))) (cellsOf_oneCell ss) h1n (by unfold maxLen; omega) (by omega) hb23.size w3.heap.size rfl ?_
       intro g4 cap4 w4 hown4 hg4 hat4 hlt4
       have hb24 : Below w2.heap.size w2 w4 := hb23.grown hg4 hb23.size (fun k hk => by simp [Value.ownBlock] at hk; omega)
       obtain ⟨d0, d1, d2, d3⟩ := HX.out.on hb24 (by omega)
       have hown4' : w4.ownsRow w2.heap.size 33 4 (.slice (some ⟨g4, 0, none⟩) n cap4) n (cellsOf ss) := by simpa using hown4
       clear hown4)
    | (at_builtin
       refine wpList_append_lies _ rfl (.tmp 30) (.tmp 32) 22 rfl w2.heap.size 33 i0 _ 4 40 Try.underlying22 hi0 hz0 hz1 hz2 rfl (by omega) (.slice (some ⟨g4, 0, none⟩) n cap4) n (cellsOf ss) rfl (hown4'.alloc _) ⟨w4.heap.size, 0, none⟩ 1 1 (symCells ⟨nm, k, a, g⟩) rfl rfl (World.news_of_block (cs := #[.string nm, .int .i64 k, .int .i64 a, .int .i64 g]) (t := 33) (fr := (0, 0)) (heap_alloc_new w4 _)) (by simp [symCells, Value.oneCell']) (by omega) (by unfold maxLen; omega) (by omega) (by simp; exact Nat.le_succ_of_le hb24.size) (w4.heap.size + 1) (by simp) ?_
       intro g5 cap5 w5 hown5 hg5 hat5 hlt5
       have hb25 : Below w2.heap.size w2 w5 := (hb24.alloc hb24.size _).grown hg5 (by simp; exact Nat.le_succ_of_le hb24.size) (fun k hk => by
         have e : g4 = k := by simpa [Value.ownBlock] using hk
         rcases hat4 with h4 | h4
         · have : w2.heap.size = g4 := by simpa [Value.ownBlock] using h4
           omega
         · have := hb23.size
           omega)))
  go_ret2
  refine ⟨g5, cap5, rfl, ?_, hb02.trans (hb25.mono hb02.size)⟩
  rw [cellsOf_append, cellsOf_one]
  exact own_base hown5 hb02.size

end Go.Proofs.Ytdphekgnbmoklaa
