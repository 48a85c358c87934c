/-
  Contracts: the reference's Find and Add.
-/
import Derived.Test.YtdphekgnbmoklaaFindAdd
namespace Go.Proofs.Ytdphekgnbmoklaa
open Go.RowKit
set_option linter.unusedSimpArgs false
set_option linter.unusedVariables false

theorem symMay_is (r : Bool) (n : ByteArray) (k a g : Int) (w : World) (hs : n.size ≤ maxLen) (hr : symB ⟨n, k, a, g⟩ = r) :
    Calls Try.prog 23 #[.agg #[.string n, .int .i64 k, .int .i64 a, .int .i64 g]] w fun e w' => e = .returned (.bool r) ∧ Below w.heap.size w w' :=
  (symMay_any n k a g w hs).mono fun _ _ ⟨he, hb⟩ => ⟨by rw [he, hr], hb⟩

set_option maxHeartbeats 1000000 in
theorem refFind_any (A : Option Addr) (n c : Nat) (ss : List Sym) (nm : ByteArray) (w : World) (h : SymsAt w w.heap.size A n ss) (hn : n ≤ maxLen) (hnc : n ≤ c) :
    Calls Try.prog 9 #[.slice A n c, .string nm] w fun e w' => e = .returned (.tuple #[.int .i64 (findK ss nm), .int .i64 (findE ss)]) ∧ Below w.heap.size w w' := by
  unfold findK findE
  cases hm : mayB ss
  · go_enter Try.func9, Try.ntmps9
    go_wp2_with fail
    refine (signMay_any _ n c ss _ h hn).mono ?_
    rintro e w1 ⟨rfl, hb1⟩
    rw [hm]
    go_wp2
    go_ret2
    exact ⟨by simp, hb1⟩
  · go_enter Try.func9, Try.ntmps9
    go_wp2_with fail
    refine (signMay_any _ n c ss _ h hn).mono ?_
    rintro e w1 ⟨rfl, hb1⟩
    rw [hm]
    go_wp2_with fail
    refine (refCode_any _ n c w.heap.size ss _ _ (h.below hb1) hn).mono ?_
    rintro e w1 ⟨rfl, rfl⟩
    go_wp2
    go_ret2
    exact ⟨by simp, hb1⟩

set_option maxHeartbeats 1000000 in
theorem refAdd_may (A : Option Addr) (n c : Nat) (ss : List Sym) (nm : ByteArray) (k a g : Int) (w : World) (h : SymsAt w w.heap.size A n ss) (hn : n ≤ maxLen) (hnc : n ≤ c) (hs : nm.size ≤ maxLen) (hm : mayB ss = false) :
    Calls Try.prog 16 #[.slice A n c, .agg #[.string nm, .int .i64 k, .int .i64 a, .int .i64 g]] w fun e w' => e = .returned (.tuple #[.slice none 0 0, .int .i64 100]) ∧ Below w.heap.size w w' := by
  go_enter Try.func16, Try.ntmps16
  go_wp2_with fail
  refine (signMay_any _ n c ss _ (h.new _) hn).mono ?_
  rintro e w1 ⟨rfl, hb1⟩
  rw [hm]
  go_wp2
  go_ret2
  exact ⟨rfl, (below_new w _).trans (hb1.mono (by simp))⟩

set_option maxHeartbeats 1000000 in
theorem refAdd_sym (A : Option Addr) (n c : Nat) (ss : List Sym) (nm : ByteArray) (k a g : Int) (w : World) (h : SymsAt w w.heap.size A n ss) (hn : n ≤ maxLen) (hnc : n ≤ c) (hs : nm.size ≤ maxLen) (hm : mayB ss = true) (hv : symB ⟨nm, k, a, g⟩ = false) :
    Calls Try.prog 16 #[.slice A n c, .agg #[.string nm, .int .i64 k, .int .i64 a, .int .i64 g]] w fun e w' => e = .returned (.tuple #[.slice none 0 0, .int .i64 100]) ∧ Below w.heap.size w w' := by
  go_enter Try.func16, Try.ntmps16
  go_wp2_with fail
  refine (signMay_any _ n c ss _ (h.new _) hn).mono ?_
  rintro e w1 ⟨rfl, hb1⟩
  rw [hm]
  obtain ⟨c0, c1, c2, c3⟩ := BoxAt.of hb1
  have hz := hb1.size
  simp at hz
  go_wp2_with fail
  refine (symMay_is false _ _ _ _ _ hs hv).mono ?_
  rintro e w2 ⟨rfl, hb2⟩
  go_wp2
  go_ret2
  exact ⟨rfl, ((below_new w _).trans (hb1.mono (by simp))).trans (hb2.mono (by omega))⟩

set_option maxHeartbeats 1000000 in
theorem refAdd_twice (A : Option Addr) (n c : Nat) (ss : List Sym) (nm : ByteArray) (k a g : Int) (w : World) (h : SymsAt w w.heap.size A n ss) (hn : n ≤ maxLen) (hnc : n ≤ c) (hs : nm.size ≤ maxLen) (hm : mayB ss = true) (hv : symB ⟨nm, k, a, g⟩ = true)
    (hc : 0 ≤ code ss nm) :
    Calls Try.prog 16 #[.slice A n c, .agg #[.string nm, .int .i64 k, .int .i64 a, .int .i64 g]] w fun e w' => e = .returned (.tuple #[.slice none 0 0, .int .i64 101]) ∧ Below w.heap.size w w' := by
  go_enter Try.func16, Try.ntmps16
  go_wp2_with fail
  refine (signMay_any _ n c ss _ (h.new _) hn).mono ?_
  rintro e w1 ⟨rfl, hb1⟩
  rw [hm]
  obtain ⟨c0, c1, c2, c3⟩ := BoxAt.of hb1
  have hz := hb1.size
  simp at hz
  go_wp2_with fail
  refine (symMay_is true _ _ _ _ _ hs hv).mono ?_
  rintro e w2 ⟨rfl, hb2⟩
  obtain ⟨d0, d1, d2, d3⟩ := BoxAt.on ⟨c0, c1, c2, c3⟩ hb2 (by omega)
  clear c0 c1 c2 c3
  have hb02 : Below w.heap.size w w2 := ((below_new w _).trans (hb1.mono (by simp))).trans (hb2.mono (by omega))
  go_wp2_with fail
  refine (refCode_any _ n c w.heap.size ss _ _ (h.below hb02) hn).mono ?_
  rintro e w3 ⟨rfl, rfl⟩
  go_wp2
  go_ret2
  exact ⟨rfl, hb02⟩

set_option maxHeartbeats 1000000 in
theorem refAdd_full (A : Option Addr) (n c : Nat) (ss : List Sym) (nm : ByteArray) (k a g : Int) (w : World) (h : SymsAt w w.heap.size A n ss) (hn : n ≤ maxLen) (hnc : n ≤ c) (hs : nm.size ≤ maxLen) (hm : mayB ss = true) (hv : symB ⟨nm, k, a, g⟩ = true)
    (hc : code ss nm < 0) (h20 : 20 ≤ n) :
    Calls Try.prog 16 #[.slice A n c, .agg #[.string nm, .int .i64 k, .int .i64 a, .int .i64 g]] w fun e w' => e = .returned (.tuple #[.slice none 0 0, .int .i64 102]) ∧ Below w.heap.size w w' := by
  go_enter Try.func16, Try.ntmps16
  go_wp2_with fail
  refine (signMay_any _ n c ss _ (h.new _) hn).mono ?_
  rintro e w1 ⟨rfl, hb1⟩
  rw [hm]
  obtain ⟨c0, c1, c2, c3⟩ := BoxAt.of hb1
  have hz := hb1.size
  simp at hz
  go_wp2_with fail
  refine (symMay_is true _ _ _ _ _ hs hv).mono ?_
  rintro e w2 ⟨rfl, hb2⟩
  obtain ⟨d0, d1, d2, d3⟩ := BoxAt.on ⟨c0, c1, c2, c3⟩ hb2 (by omega)
  clear c0 c1 c2 c3
  have hb02 : Below w.heap.size w w2 := ((below_new w _).trans (hb1.mono (by simp))).trans (hb2.mono (by omega))
  go_wp2_with fail
  refine (refCode_any _ n c w.heap.size ss _ _ (h.below hb02) hn).mono ?_
  rintro e w3 ⟨rfl, rfl⟩
  go_wp2
  go_ret2
  exact ⟨rfl, hb02⟩

set_option maxHeartbeats 2000000 in
theorem refAdd_ok (A : Option Addr) (n c : Nat) (ss : List Sym) (nm : ByteArray) (k a g : Int) (w : World) (h : SymsAt w w.heap.size A n ss) (hn : n ≤ maxLen) (hnc : n ≤ c) (hs : nm.size ≤ maxLen) (hm : mayB ss = true) (hv : symB ⟨nm, k, a, g⟩ = true)
    (hc : code ss nm < 0) (h20 : n < 20) :
    Calls Try.prog 16 #[.slice A n c, .agg #[.string nm, .int .i64 k, .int .i64 a, .int .i64 g]] w (AddOk w.heap.size n ss ⟨nm, k, a, g⟩ w) := by
  obtain ⟨i0, hi0, hz0, hz1, hz2⟩ := info_parts sym_info
  go_enter Try.func16, Try.ntmps16
  go_wp2_with fail
  refine (signMay_any _ n c ss _ (h.new _) hn).mono ?_
  rintro e w1 ⟨rfl, hb1⟩
  rw [hm]
  obtain ⟨c0, c1, c2, c3⟩ := BoxAt.of hb1
  have hz := hb1.size
  simp at hz
  go_wp2_with fail
  refine (symMay_is true _ _ _ _ _ hs hv).mono ?_
  rintro e w2 ⟨rfl, hb2⟩
  obtain ⟨d0, d1, d2, d3⟩ := BoxAt.on ⟨c0, c1, c2, c3⟩ hb2 (by omega)
  clear c0 c1 c2 c3
  have hb02 : Below w.heap.size w w2 := ((below_new w _).trans (hb1.mono (by simp))).trans (hb2.mono (by omega))
  go_wp2_with fail
  refine (refCode_any _ n c w.heap.size ss _ _ (h.below hb02) hn).mono ?_
  rintro e w3 ⟨rfl, rfl⟩
  have h1n : 0 < n := by
    have := of_decide_eq_true hm
    have h1 := this.1
    rw [h.len] at h1; omega
  obtain ⟨b, off, rfl, hb, _⟩ := h.at_ h1n
  have HX : Hid (BoxAt w2 w.heap.size nm k a g) := ⟨d0, d1, d2, d3⟩
  have hz2' : w.heap.size + 1 ≤ w2.heap.size := by have := hb2.size; omega
  clear d0 d1 d2 d3
  have hbe : Below w2.heap.size w2 (w2.alloc (.cells #[] 33)) := below_new w2 _
  have hown3 : (w2.alloc (.cells #[] 33)).ownsRow w2.heap.size 33 4 (.slice (some ⟨w2.heap.size, 0, none⟩) 0 0) 0 [] :=
    World.ownsRow_lit w2 #[] 0 (Nat.le_refl _) (by unfold maxLen; omega) rfl
  go_wp2_with (first
    | (at_builtin
       refine wpList_append_lies _ rfl (.tmp 23) (.tmp 24) 22 rfl w2.heap.size 33 i0 _ 4 40 Try.underlying22 hi0 hz0 hz1 hz2 rfl (by omega) (.slice (some ⟨w2.heap.size, 0, none⟩) 0 0) 0 [] rfl hown3 ⟨b, off, none⟩ n c (cellsOf ss) rfl (by rw [cellsOf_length, h.len]) (SymsAt.news (h.below (hb02.trans (hbe.mono hb02.size)))) (cellsOf_oneCell ss) h1n (by unfold maxLen; omega) (by omega) hbe.size (w2.heap.size + 1) (by simp) ?_
       intro g4 cap4 w4 hown4 hg4 hat4 hlt4
       have hb24 : Below w2.heap.size w2 w4 := hbe.grown hg4 hbe.size (fun k hk => by simp [Value.ownBlock] at hk; omega)
       obtain ⟨d0, d1, d2, d3⟩ := HX.out.on hb24 (by omega)
       have hown4' : w4.ownsRow w2.heap.size 33 4 (.slice (some ⟨g4, 0, none⟩) n cap4) n (cellsOf ss) := by simpa using hown4
       clear hown4)
    | (at_builtin
       refine wpList_append_lies _ rfl (.tmp 26) (.tmp 28) 22 rfl w2.heap.size 33 i0 _ 4 40 Try.underlying22 hi0 hz0 hz1 hz2 rfl (by omega) (.slice (some ⟨g4, 0, none⟩) n cap4) n (cellsOf ss) rfl (hown4'.alloc _) ⟨w4.heap.size, 0, none⟩ 1 1 (symCells ⟨nm, k, a, g⟩) rfl rfl (World.news_of_block (cs := #[.string nm, .int .i64 k, .int .i64 a, .int .i64 g]) (t := 33) (fr := (0, 0)) (heap_alloc_new w4 _)) (by simp [symCells, Value.oneCell']) (by omega) (by unfold maxLen; omega) (by omega) (by simp; exact Nat.le_succ_of_le hb24.size) (w4.heap.size + 1) (by simp) ?_
       intro g5 cap5 w5 hown5 hg5 hat5 hlt5
       have hb25 : Below w2.heap.size w2 w5 := (hb24.alloc hb24.size _).grown hg5 (by simp; exact Nat.le_succ_of_le hb24.size) (fun k hk => by
         have e : g4 = k := by simpa [Value.ownBlock] using hk
         rcases hat4 with h4 | h4
         · have : w2.heap.size = g4 := by simpa [Value.ownBlock] using h4
           omega
         · omega)))
  go_ret2
  refine ⟨g5, cap5, rfl, ?_, hb02.trans (hb25.mono hb02.size)⟩
  rw [cellsOf_append, cellsOf_one]
  exact own_base hown5 hb02.size

end Go.Proofs.Ytdphekgnbmoklaa
