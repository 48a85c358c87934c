/-
  SignAdds: the walk.
-/
import Derived.Test.YtdphekgnbmoklaaAwake
import Derived.Test.YtdphekgnbmoklaaRefAdd
import Derived.Test.YtdphekgnbmoklaaCopySame
namespace Go.Proofs.Ytdphekgnbmoklaa
open Go.RowKit
set_option linter.unusedSimpArgs false
set_option linter.unusedVariables false

theorem addE_cases (ss : List Sym) (s : Sym) : (mayB ss = false ∧ addE ss s = 100) ∨ (mayB ss = true ∧ symB s = false ∧ addE ss s = 100) ∨
    (mayB ss = true ∧ symB s = true ∧ 0 ≤ code ss s.name ∧ addE ss s = 101) ∨ (mayB ss = true ∧ symB s = true ∧ code ss s.name < 0 ∧ 20 ≤ ss.length ∧ addE ss s = 102) ∨
    (mayB ss = true ∧ symB s = true ∧ code ss s.name < 0 ∧ ss.length < 20 ∧ addE ss s = 0) := by
  unfold addE
  cases h1 : mayB ss
  · simp
  · cases h2 : symB s
    · simp
    · by_cases h3 : 0 ≤ code ss s.name
      · simp [h3]
      · by_cases h4 : 20 ≤ ss.length
        · have h5 : ¬ ss.length < 20 := by omega
          have h6 : code ss s.name < 0 := by omega
          simp [h3, h4, h5, h6]
        · have h5 : ss.length < 20 := by omega
          have h6 : code ss s.name < 0 := by omega
          simp [h3, h4, h5, h6]

theorem add_err (A : Option Addr) (n c : Nat) (ss : List Sym) (nm : ByteArray) (k a g : Int) (w : World) (h : SymsAt w w.heap.size A n ss) (hn : n ≤ maxLen) (hnc : n ≤ c) (hs : nm.size ≤ maxLen) (hE : addE ss ⟨nm, k, a, g⟩ ≠ 0) :
    Calls Try.prog 15 #[.slice A n c, .agg #[.string nm, .int .i64 k, .int .i64 a, .int .i64 g]] w fun e w' => e = .returned (.tuple #[.slice none 0 0, .int .i64 (addE ss ⟨nm, k, a, g⟩)]) ∧ Below w.heap.size w w' := by
  rcases addE_cases ss ⟨nm, k, a, g⟩ with ⟨h1, e⟩ | ⟨h1, h2, e⟩ | ⟨h1, h2, h3, e⟩ | ⟨h1, h2, h3, h4, e⟩ | ⟨_, _, _, _, e⟩
  · rw [e]; exact add_may A n c ss nm k a g w h hn hnc hs h1
  · rw [e]; exact add_sym A n c ss nm k a g w h hn hnc hs h1 h2
  · rw [e]; exact add_twice A n c ss nm k a g w h hn hnc hs h1 h2 h3
  · rw [e]; exact add_full A n c ss nm k a g w h hn hnc hs h1 h2 h3 (by rw [← h.len]; exact h4)
  · exact absurd e hE
theorem refAdd_err (A : Option Addr) (n c : Nat) (ss : List Sym) (nm : ByteArray) (k a g : Int) (w : World) (h : SymsAt w w.heap.size A n ss) (hn : n ≤ maxLen) (hnc : n ≤ c) (hs : nm.size ≤ maxLen) (hE : addE ss ⟨nm, k, a, g⟩ ≠ 0) :
    Calls Try.prog 16 #[.slice A n c, .agg #[.string nm, .int .i64 k, .int .i64 a, .int .i64 g]] w fun e w' => e = .returned (.tuple #[.slice none 0 0, .int .i64 (addE ss ⟨nm, k, a, g⟩)]) ∧ Below w.heap.size w w' := by
  rcases addE_cases ss ⟨nm, k, a, g⟩ with ⟨h1, e⟩ | ⟨h1, h2, e⟩ | ⟨h1, h2, h3, e⟩ | ⟨h1, h2, h3, h4, e⟩ | ⟨_, _, _, _, e⟩
  · rw [e]; exact refAdd_may A n c ss nm k a g w h hn hnc hs h1
  · rw [e]; exact refAdd_sym A n c ss nm k a g w h hn hnc hs h1 h2
  · rw [e]; exact refAdd_twice A n c ss nm k a g w h hn hnc hs h1 h2 h3
  · rw [e]; exact refAdd_full A n c ss nm k a g w h hn hnc hs h1 h2 h3 (by rw [← h.len]; exact h4)
  · exact absurd e hE
theorem own_drewN {w : World} {base size n : Nat} {e : TypeId} {v : Value} {xs : List Value} (h : w.ownsRow base e size v n xs) (k : Nat) : (w.drewN k).ownsRow base e size v n xs := h
theorem below_drewN {B : Nat} {a w : World} (h : Below B a w) (n : Nat) : Below B a (w.drewN n) := ⟨h.os, h.tape, h.output, h.size, h.block⟩

set_option maxHeartbeats 2000000 in
theorem signAdds_err (A : Option Addr) (n c : Nat) (ss : List Sym) (nm : ByteArray) (k a g : Int) (w : World) (h : SymsAt w w.heap.size A n ss) (hn : n * 40 ≤ 140737488351232) (hnc : n ≤ c) (hs : nm.size ≤ maxLen) (hE : addE ss ⟨nm, k, a, g⟩ ≠ 0) :
    Calls Try.prog 4 #[.slice A n c, .agg #[.string nm, .int .i64 k, .int .i64 a, .int .i64 g]] w fun e w' => e = .returned (.bool true) ∧ Below w.heap.size w w' := by
  have hn' : n ≤ maxLen := by unfold maxLen; omega
  have hf : ∀ i, i < n → (symAt ss i).name.size ≤ maxLen := h.fit
  have HE := Lib.hid hE
  clear hE
  go_enter Try.func4, Try.ntmps4
  go_wp2_with fail
  refine (copySyms_any _ n c ss _ (h.new _) hn).mono ?_
  rintro e w1 ⟨g1, cap1, rfl, hown1, hb1⟩
  obtain ⟨d0, d1, d2, d3⟩ := BoxAt.of hb1
  have HX : Hid (BoxAt w1 w.heap.size nm k a g) := ⟨d0, d1, d2, d3⟩
  have hb01 : Below w.heap.size w w1 := (below_new w _).trans (hb1.mono (by simp))
  have hz := hb1.size
  simp at hz
  have HW := Lib.hid (SymsAt.of_own hown1 hf)
  go_wp2_with fail
  refine (add_err _ n c ss nm k a g _ (h.on hb01) hn' hnc hs HE.out).mono ?_
  rintro e w2 ⟨rfl, hb2⟩
  clear d0 d1 d2 d3
  obtain ⟨d0, d1, d2, d3⟩ := HX.out.on hb2 (by omega)
  have hb02 := hb01.trans (hb2.mono hb01.size)
  go_wp2_with fail
  refine (refAdd_err _ n c ss nm k a g _ (h.on hb02) hn' hnc hs HE.out).mono ?_
  rintro e w3 ⟨rfl, hb3⟩
  clear d0 d1 d2 d3
  have hb03 := hb02.trans (hb3.mono hb02.size)
  have hb13 : Below w1.heap.size w1 w3 := hb2.trans (hb3.mono hb2.size)
  have e1 : (addE ss ⟨nm, k, a, g⟩ != addE ss ⟨nm, k, a, g⟩) = false := by simp
  go_wp2_with (go_at_call 12; refine (num_any _ _).mono ?_; rintro e w' ⟨rfl, rfl⟩)
  refine (sameSyms_eq none none 0 0 0 0 0 [] _ SymsAt.nil_ SymsAt.nil_ (by unfold maxLen; omega)).mono ?_
  rintro e w4 ⟨rfl, q4, rfl⟩
  go_wp2_with fail
  go_loop [10] (fun i => i = .int .i64 0) (fun _ => 0)
  case atStart => rfl
  case round =>
    subst hrel
    go_wp2_with fail
    refine (sameSyms_eq _ _ n c cap1 w.heap.size w1.heap.size ss _ ((h.below hb03).drewN _) ((HW.out.below hb13).drewN _) hn').mono ?_
    rintro e w5 ⟨rfl, q5, rfl⟩
    go_wp2_with fail
    refine (awake_any _).mono ?_
    rintro e w6 ⟨rfl, hb6⟩
    go_wp2
    go_ret
    exact ⟨rfl, (below_drewN hb03 _).trans (hb6.mono hb03.size)⟩

/-- The cells of a row of symbols, of which the weights alone may have turned: each is an integer. -/
def Weighed (n : Nat) (ys : List Value) : Prop := ys.length = n * 4 ∧ ∀ i, i < n → ∃ z : Int, ys[i * 4 + 3]? = some (.int .i64 z)
theorem Weighed.of (ss : List Sym) : Weighed ss.length (cellsOf ss) := ⟨cellsOf_length ss, fun i hi => ⟨_, (cellsOf_get ss i hi).2.2.2⟩⟩
theorem Weighed.set {n : Nat} {ys : List Value} (h : Weighed n ys) (i : Nat) (z : Int) : Weighed n (ys.set (i * 4 + 3) (.int .i64 z)) := by
  refine ⟨by simp [h.1], fun j hj => ?_⟩
  obtain ⟨y, hy⟩ := h.2 j hj
  by_cases e : i = j
  · subst e
    exact ⟨z, by rw [List.getElem?_set]; simp; have := h.1; omega⟩
  · exact ⟨y, by rw [List.getElem?_set]; rw [if_neg (by omega)]; exact hy⟩

set_option maxHeartbeats 4000000 in
theorem signAdds_ok (A : Option Addr) (n c : Nat) (ss : List Sym) (nm : ByteArray) (k a g : Int) (w : World) (h : SymsAt w w.heap.size A n ss) (hn : n * 40 ≤ 140737488351232) (hnc : n ≤ c) (hs : nm.size ≤ maxLen)
    (hm : mayB ss = true) (hv : symB ⟨nm, k, a, g⟩ = true) (hc : code ss nm < 0) (h20 : n < 20) :
    Calls Try.prog 4 #[.slice A n c, .agg #[.string nm, .int .i64 k, .int .i64 a, .int .i64 g]] w fun e w' => e = .returned (.bool true) ∧ Below w.heap.size w w' := by
  have hn' : n ≤ maxLen := by unfold maxLen; omega
  have hf : ∀ i, i < n → (symAt ss i).name.size ≤ maxLen := h.fit
  have HF : Hid (∀ i, i < n + 1 → (symAt (ss ++ [⟨nm, k, a, g⟩]) i).name.size ≤ maxLen) := by
    intro i hi
    by_cases e : i < ss.length
    · rw [symAt_append_left e]; exact hf i (by rw [← h.len]; exact e)
    · obtain rfl : i = ss.length := by have := h.len; omega
      rw [symAt_append_right]; exact hs
  have HM := Lib.hid hm
  have HV := Lib.hid hv
  clear hm hv
  go_enter Try.func4, Try.ntmps4
  go_wp2_with fail
  refine (copySyms_any _ n c ss _ (h.new _) hn).mono ?_
  rintro e w1 ⟨g1, cap1, rfl, hown1, hb1⟩
  obtain ⟨d0, d1, d2, d3⟩ := BoxAt.of hb1
  have HX : Hid (BoxAt w1 w.heap.size nm k a g) := ⟨d0, d1, d2, d3⟩
  have hb01 : Below w.heap.size w w1 := (below_new w _).trans (hb1.mono (by simp))
  have hz := hb1.size
  simp at hz
  have HW := Lib.hid (SymsAt.of_own hown1 hf)
  go_wp2_with fail
  refine (add_ok _ n c ss nm k a g _ (h.on hb01) hn' hnc hs HM.out HV.out hc h20).mono ?_
  rintro e w2 ⟨g2, cap2, rfl, hown2, hb2⟩
  clear d0 d1 d2 d3
  obtain ⟨d0, d1, d2, d3⟩ := HX.out.on hb2 (by omega)
  have hb02 := hb01.trans (hb2.mono hb01.size)
  go_wp2_with fail
  refine (refAdd_ok _ n c ss nm k a g _ (h.on hb02) hn' hnc hs HM.out HV.out hc h20).mono ?_
  rintro e w3 ⟨g3, cap3, rfl, hown3, hb3⟩
  clear d0 d1 d2 d3
  have hb03 := hb02.trans (hb3.mono hb02.size)
  have hb13 : Below w1.heap.size w1 w3 := hb2.trans (hb3.mono hb2.size)
  have hg2 := hown2.lt g2 rfl
  have hown23 : w3.ownsRow w1.heap.size 33 4 (.slice (some ⟨g2, 0, none⟩) (n + 1) cap2) (n + 1) (cellsOf (ss ++ [⟨nm, k, a, g⟩])) := by
    refine hown2.kept (row := none) ⟨hb3.os, hb3.tape, hb3.output, hb3.size, fun i hi _ => hb3.block i hi⟩ (.inr (by simp [Value.ownBlock]))
  have HS2 := Lib.hid (SymsAt.of_own hown23 HF.out)
  have HS3 := Lib.hid (SymsAt.of_own hown3 HF.out)
  have hl1 : n + 1 ≤ maxLen := by unfold maxLen; omega
  go_wp2_with (go_at_call 12; refine (num_any _ _).mono ?_; rintro e w' ⟨rfl, rfl⟩)
  refine (sameSyms_eq _ _ (n + 1) cap2 cap3 _ _ _ _ HS2.out HS3.out hl1).mono ?_
  rintro e w4 ⟨rfl, q4, rfl⟩
  go_wp2_with fail
  go_loopw [10] (fun i wr => ∃ (j : Nat) (ys : List Value), j ≤ n + 1 ∧ i = .int .i64 j ∧ Weighed (n + 1) ys ∧ wr.ownsRow w1.heap.size 33 4 (.slice (some ⟨g2, 0, none⟩) (n + 1) cap2) (n + 1) ys ∧ Below w1.heap.size w1 wr) (fun i _ => n + 1 - (intOf i).toNat)
  case atStart =>
    refine ⟨0, cellsOf (ss ++ [⟨nm, k, a, g⟩]), by omega, rfl, ?_, own_drewN hown23 q4, below_drewN hb13 q4⟩
    have := Weighed.of (ss ++ [⟨nm, k, a, g⟩])
    rw [List.length_append, h.len] at this
    exact this
  case round =>
    obtain ⟨j, ys, hj, rfl, hy, hownr, hbr⟩ := hrel
    have HY := Lib.hid hy
    clear hy
    by_cases hlt : j < n + 1
    · obtain ⟨z, hz3⟩ := HY.out.2 j hlt
      have hcell : wr.cell? ⟨g2, j * 4 + 3, none⟩ = some (.int .i64 z) := by rw [hownr.cellAt _ (by omega), hz3]
      have hfr : wr.frozen? ⟨g2, j * 4 + 3, none⟩ = false := hownr.frozenAt _
      clear hz3
      have hi2 : (j : Int) < ((n + 1 : Nat) : Int) := by omega
      go_wp2
      go_roundw
      case rel => exact ⟨j + 1, _, by omega, by go_num, HY.out.set j _, (hownr.stored _ _).1, hbr.setCell hg2.1 _⟩
      case measure => simp [intOf]; omega
    · obtain rfl : j = n + 1 := by omega
      have hb0r : Below w.heap.size w wr := hb01.trans (hbr.mono hb01.size)
      go_wp2_with fail
      refine (sameSyms_eq _ _ n c cap1 w.heap.size w1.heap.size ss _ (h.below hb0r) (HW.out.below hbr) hn').mono ?_
      rintro e w5 ⟨rfl, q5, rfl⟩
      go_wp2_with fail
      refine (awake_any _).mono ?_
      rintro e w6 ⟨rfl, hb6⟩
      go_wp2
      go_ret
      exact ⟨rfl, (below_drewN hb0r _).trans (hb6.mono hb0r.size)⟩

theorem signAdds_walk (A : Option Addr) (n c : Nat) (ss : List Sym) (nm : ByteArray) (k a g : Int) (w : World) (h : SymsAt w w.heap.size A n ss) (hn : n * 40 ≤ 140737488351232) (hnc : n ≤ c) (hs : nm.size ≤ maxLen) :
    Calls Try.prog 4 #[.slice A n c, .agg #[.string nm, .int .i64 k, .int .i64 a, .int .i64 g]] w fun e w' => e = .returned (.bool true) ∧ Below w.heap.size w w' := by
  rcases addE_cases ss ⟨nm, k, a, g⟩ with ⟨h1, e⟩ | ⟨h1, h2, e⟩ | ⟨h1, h2, h3, e⟩ | ⟨h1, h2, h3, h4, e⟩ | ⟨h1, h2, h3, h4, e⟩
  · exact signAdds_err A n c ss nm k a g w h hn hnc hs (by rw [e]; decide)
  · exact signAdds_err A n c ss nm k a g w h hn hnc hs (by rw [e]; decide)
  · exact signAdds_err A n c ss nm k a g w h hn hnc hs (by rw [e]; decide)
  · exact signAdds_err A n c ss nm k a g w h hn hnc hs (by rw [e]; decide)
  · exact signAdds_ok A n c ss nm k a g w h hn hnc hs h1 h2 h3 (by rw [← h.len]; exact h4)

end Go.Proofs.Ytdphekgnbmoklaa
