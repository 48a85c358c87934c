/-
  Clauses written out; contract of quaerelaw8: awake.
-/
import Derived.Test.YtjdmnplkgimaiaaClauseTriv
import Derived.Test.YtjdmnplkgimaiaaClauseVars
import Derived.Deep.DeepCutAuto
namespace Go.Proofs.Ytjdmnplkgimaiaa
open Go.RowKit Go.Deep
set_option linter.unusedSimpArgs false
set_option linter.unusedVariables false
set_option maxRecDepth 100000

def awC : Cl := ⟨[⟨false, [5, -3]⟩, ⟨true, [6, -3, -6]⟩, ⟨false, [5, -3]⟩], [[-6]], []⟩
def awD : Cl := ⟨[⟨false, [5, -1]⟩, ⟨true, [6, -1, -2]⟩], [[-2]], []⟩
def awE : Cl := ⟨[⟨false, [0, 1, 1]⟩], [], []⟩
def awF : Cl := ⟨[⟨false, [3, 1]⟩], [], []⟩
theorem aw_may : mayC wordsL awC = true := by decide +kernel
theorem aw_norm : norm awC = awD := by decide +kernel
theorem aw_normO : normO wordsL awC = awD := by unfold normO; rw [aw_may, if_pos rfl, aw_norm]
theorem aw_E : clE wordsL awC = 0 := by unfold clE; rw [aw_may]; rfl
theorem aw_wt : wtO wordsL awC = 8 := by unfold wtO; rw [aw_may, if_pos rfl]; decide +kernel
theorem aw_vars : varsO wordsL awC = [2, 5] := by unfold varsO; rw [aw_may, if_pos rfl]; decide +kernel
theorem aw_mayE : mayC wordsL awE = true := by decide +kernel
theorem aw_dull : dullO wordsL awE = true := by
  unfold dullO
  rw [aw_mayE, Bool.true_and, dullB_iff]
  exact .inl ⟨_, List.mem_cons_self .., rfl, [1], (1, 1), rfl, by decide +kernel⟩
theorem aw_EE : clE wordsL awE = 0 := by unfold clE; rw [aw_mayE]; rfl
theorem aw_mayD : mayC wordsL awD = true := by decide +kernel
theorem aw_var : varB wordsL awC awD = true := by unfold varB; rw [aw_may, aw_mayD]; decide +kernel
theorem aw_E2 : clE2 wordsL awC awD = 0 := by unfold clE2; rw [aw_may, aw_mayD]; rfl
theorem aw_mayF : mayC wordsL awF = false := by decide +kernel
theorem aw_normF : normO wordsL awF = ⟨[], [], []⟩ := by unfold normO; rw [aw_mayF]; rfl
theorem aw_EF : clE wordsL awF = 800 := by unfold clE; rw [aw_mayF]; rfl

section
variable {w : World} {A A1 A2 A3 : Option Addr} {n n1 n2 n3 c c1 c2 c3 : Nat} {p q r : Lt}
theorem LitAt.new' (h : LitAt w w.heap.size A n c p) (o : Obj) : LitAt (w.alloc o) (w.alloc o).heap.size A n c p := h.on (below_new w o)
theorem LitsAt.of1 (h1 : LitAt w w.heap.size A1 n1 c1 p) :
    LitsAt (w.alloc (.cells #[.bool p.neg, .slice A1 n1 c1] 44)) (w.alloc (.cells #[.bool p.neg, .slice A1 n1 c1] 44)).heap.size (some ⟨w.heap.size, 0, none⟩) 1 [p] := by
  obtain rfl := h1.at_.len
  refine ⟨rfl, fun _ => ⟨w.heap.size, 0, rfl, by simp, fun i h => ?_⟩, fun i h => ?_⟩
  · match i, h with
    | 0, _ => exact ⟨by rw [World.cell?_alloc_new]; rfl, A1, c1, by rw [World.cell?_alloc_new]; rfl, h1.cap, (h1.new' _).at_⟩
  · match i, h with
    | 0, _ => exact h1.fit
theorem LitsAt.of2 (h1 : LitAt w w.heap.size A1 n1 c1 p) (h2 : LitAt w w.heap.size A2 n2 c2 q) :
    LitsAt (w.alloc (.cells #[.bool p.neg, .slice A1 n1 c1, .bool q.neg, .slice A2 n2 c2] 44)) (w.alloc (.cells #[.bool p.neg, .slice A1 n1 c1, .bool q.neg, .slice A2 n2 c2] 44)).heap.size (some ⟨w.heap.size, 0, none⟩) 2 [p, q] := by
  obtain rfl := h1.at_.len
  obtain rfl := h2.at_.len
  refine ⟨rfl, fun _ => ⟨w.heap.size, 0, rfl, by simp, fun i h => ?_⟩, fun i h => ?_⟩
  · match i, h with
    | 0, _ => exact ⟨by rw [World.cell?_alloc_new]; rfl, A1, c1, by rw [World.cell?_alloc_new]; rfl, h1.cap, (h1.new' _).at_⟩
    | 1, _ => exact ⟨by rw [World.cell?_alloc_new]; rfl, A2, c2, by rw [World.cell?_alloc_new]; rfl, h2.cap, (h2.new' _).at_⟩
  · match i, h with
    | 0, _ => exact h1.fit
    | 1, _ => exact h2.fit
theorem LitsAt.of3 (h1 : LitAt w w.heap.size A1 n1 c1 p) (h2 : LitAt w w.heap.size A2 n2 c2 q) (h3 : LitAt w w.heap.size A3 n3 c3 r) :
    LitsAt (w.alloc (.cells #[.bool p.neg, .slice A1 n1 c1, .bool q.neg, .slice A2 n2 c2, .bool r.neg, .slice A3 n3 c3] 44)) (w.alloc (.cells #[.bool p.neg, .slice A1 n1 c1, .bool q.neg, .slice A2 n2 c2, .bool r.neg, .slice A3 n3 c3] 44)).heap.size (some ⟨w.heap.size, 0, none⟩) 3 [p, q, r] := by
  obtain rfl := h1.at_.len
  obtain rfl := h2.at_.len
  obtain rfl := h3.at_.len
  refine ⟨rfl, fun _ => ⟨w.heap.size, 0, rfl, by simp, fun i h => ?_⟩, fun i h => ?_⟩
  · match i, h with
    | 0, _ => exact ⟨by rw [World.cell?_alloc_new]; rfl, A1, c1, by rw [World.cell?_alloc_new]; rfl, h1.cap, (h1.new' _).at_⟩
    | 1, _ => exact ⟨by rw [World.cell?_alloc_new]; rfl, A2, c2, by rw [World.cell?_alloc_new]; rfl, h2.cap, (h2.new' _).at_⟩
    | 2, _ => exact ⟨by rw [World.cell?_alloc_new]; rfl, A3, c3, by rw [World.cell?_alloc_new]; rfl, h3.cap, (h3.new' _).at_⟩
  · match i, h with
    | 0, _ => exact h1.fit
    | 1, _ => exact h2.fit
    | 2, _ => exact h3.fit
theorem TupsAt.of1 {x : List Int} (h1 : RowIn w w.heap.size A1 n1 c1 x) (hz : A1 = none → c1 = 0) :
    TupsAt (w.alloc (.cells #[.slice A1 n1 c1] 27)) (w.alloc (.cells #[.slice A1 n1 c1] 27)).heap.size (some ⟨w.heap.size, 0, none⟩) 1 [x] := by
  obtain rfl := h1.at_.len
  refine ⟨rfl, fun _ => ⟨w.heap.size, 0, rfl, by simp, fun i h => ?_⟩⟩
  match i, h with
  | 0, _ => exact ⟨A1, c1, by rw [World.cell?_alloc_new]; rfl, h1.on (below_new w _), hz⟩
end
theorem LitAt.lit' (w : World) (x : Bool) (t : List Int) (hf : t.length ≤ 9) : LitAt (w.alloc (.cells (intCells t).toArray 3)) (w.alloc (.cells (intCells t).toArray 3)).heap.size (some ⟨w.heap.size, 0, none⟩) t.length t.length ⟨x, t⟩ :=
  ⟨IntsAt.news w t, Nat.le_refl _, by omega⟩
theorem RowIn.lit' (w : World) (t : List Int) (hf : t.length ≤ 9) : RowIn (w.alloc (.cells (intCells t).toArray 3)) (w.alloc (.cells (intCells t).toArray 3)).heap.size (some ⟨w.heap.size, 0, none⟩) t.length t.length t :=
  ⟨IntsAt.news w t, Nat.le_refl _, by omega⟩
/-- A slice of literals alone, as a clause. -/
theorem ClAt.ofLits {w : World} {A : Option Addr} {n : Nat} {ls : List Lt} (h : LitsAt w w.heap.size A n ls) (hn : n ≤ 9) : ClAt w w.heap.size ⟨A, n, n, none, 0, 0, none, 0, 0⟩ ⟨ls, [], []⟩ :=
  ⟨h, TupsAt.nil_, LitsAt.nil_, Nat.le_refl _, Nat.le_refl _, Nat.le_refl _, fun _ => rfl, by show n * 32 ≤ _; omega, by show 0 * 24 ≤ _; omega, by show 0 * 32 ≤ _; omega⟩
theorem ClAt.ofTwo {w : World} {A A2 : Option Addr} {n m : Nat} {ls : List Lt} {ts : List (List Int)} (h : LitsAt w w.heap.size A n ls) (k : TupsAt w w.heap.size A2 m ts) (hn : n ≤ 9) (hm : m ≤ 9) (h0 : A2 ≠ none) : ClAt w w.heap.size ⟨A, n, n, A2, m, m, none, 0, 0⟩ ⟨ls, ts, []⟩ :=
  ⟨h, k, LitsAt.nil_, Nat.le_refl _, Nat.le_refl _, Nat.le_refl _, fun q => absurd q h0, by show n * 32 ≤ _; omega, by show m * 24 ≤ _; omega, by show 0 * 32 ≤ _; omega⟩
theorem aw_start (w : World) : ∃ w1, w1 = (((((((w.alloc (.cells #[.int .i64 5, .int .i64 (-3)] 3)).alloc (.cells #[.int .i64 6, .int .i64 (-3), .int .i64 (-6)] 3)).alloc (.cells #[.int .i64 5, .int .i64 (-3)] 3)).alloc
      (.cells #[.bool false, .slice (some ⟨w.heap.size, 0, none⟩) 2 2, .bool true, .slice (some ⟨w.heap.size + 1, 0, none⟩) 3 3, .bool false, .slice (some ⟨w.heap.size + 1 + 1, 0, none⟩) 2 2] 44)).alloc (.cells #[.int .i64 (-6)] 3)).alloc
      (.cells #[.slice (some ⟨w.heap.size + 1 + 1 + 1 + 1, 0, none⟩) 1 1] 27)).alloc (.cells #[.slice (some ⟨w.heap.size + 1 + 1 + 1, 0, none⟩) 3 3, .slice (some ⟨w.heap.size + 1 + 1 + 1 + 1 + 1, 0, none⟩) 1 1, .slice none 0 0] 26)) ∧
    Below w.heap.size w w1 ∧ CBox w1 (w.heap.size + 1 + 1 + 1 + 1 + 1 + 1) ⟨some ⟨w.heap.size + 1 + 1 + 1, 0, none⟩, 3, 3, some ⟨w.heap.size + 1 + 1 + 1 + 1 + 1, 0, none⟩, 1, 1, none, 0, 0⟩ awC := by
  refine ⟨_, rfl, ?_, ?_⟩
  · exact (below_new3 w _ _ _).trans (((below_new3 _ _ _ _).trans ((below_new _ _).mono (by simp; try omega))).mono (by simp; try omega))
  · have a1 := LitAt.lit' w false [5, -3] (by decide)
    have a2 := LitAt.lit' (w.alloc (.cells (intCells [5, -3]).toArray 3)) true [6, -3, -6] (by decide)
    have a3 := LitAt.lit' ((w.alloc (.cells (intCells [5, -3]).toArray 3)).alloc (.cells (intCells [6, -3, -6]).toArray 3)) false [5, -3] (by decide)
    have b := LitsAt.of3 ((a1.new' _).new' _) (a2.new' _) a3
    obtain ⟨w4, hw4⟩ : ∃ w4, w4 = (((w.alloc (.cells (intCells [5, -3]).toArray 3)).alloc (.cells (intCells [6, -3, -6]).toArray 3)).alloc (.cells (intCells [5, -3]).toArray 3)).alloc (.cells #[.bool false, .slice (some ⟨w.heap.size, 0, none⟩) 2 2, .bool true, .slice (some ⟨w.heap.size + 1, 0, none⟩) 3 3, .bool false, .slice (some ⟨w.heap.size + 1 + 1, 0, none⟩) 2 2] 44) := ⟨_, rfl⟩
    have s4 : w4.heap.size = w.heap.size + 1 + 1 + 1 + 1 := by rw [hw4]; simp
    have b4 : LitsAt w4 w4.heap.size (some ⟨w.heap.size + 1 + 1 + 1, 0, none⟩) 3 awC.lits := by
      rw [hw4]
      have b' := b
      simp only [World.size_alloc] at b' ⊢
      exact b'
    have d := RowIn.lit' w4 [-6] (by decide)
    have e := TupsAt.of1 d (fun q => by cases q)
    have e1 : (w4.alloc (.cells (intCells [-6]).toArray 3)).heap.size = w.heap.size + 1 + 1 + 1 + 1 + 1 := by rw [← s4]; simp
    rw [e1, s4] at e
    have hc := ClAt.ofTwo ((b4.on (below_new w4 _)).on (below_new _ _)) e (by decide) (by decide) (by simp)
    have g := CBox.new hc
    have e2 : ((w4.alloc (.cells (intCells [-6]).toArray 3)).alloc (.cells #[.slice (some ⟨w.heap.size + 1 + 1 + 1 + 1, 0, none⟩) 1 1] 27)).heap.size = w.heap.size + 1 + 1 + 1 + 1 + 1 + 1 := by simp [s4]
    rw [hw4] at g e2
    have e3 := e2
    rw [← hw4] at e3
    rw [hw4] at e3
    first
      | exact e3 ▸ g
      | (rw [e3] at g; exact g)

theorem wpAnyH_share {P : Program} {md : Region.Mode} {ops : Array Oper} {Q : Exit → Act → World → Prop} {S : World → Prop} {fuel : Nat} {listed : Array Bool} {a : Act} {w : World} (fuel' : Nat) (listed' : Array Bool) (T : Act → World → Prop)
    (main : (∀ a w, T a w → S w → wpAnyH P md ops Q S fuel' listed' a w) → wpAnyH P md ops Q S fuel listed a w) (tail : ∀ a w, T a w → S w → wpAnyH P md ops Q S fuel' listed' a w) : wpAnyH P md ops Q S fuel listed a w := main tail
/-- A frame of 127 slots, written out. -/
theorem frame127 (a : Act) (h : a.tmps.size = 127) (hd : a.defers = []) : ∃ u : Nat → Value, (∀ i, u i = a.tmps.getD i undef) ∧ a = ({ tmps := #[u 0, u 1, u 2, u 3, u 4, u 5, u 6, u 7, u 8, u 9, u 10, u 11, u 12, u 13, u 14, u 15, u 16, u 17, u 18, u 19, u 20, u 21, u 22, u 23, u 24, u 25, u 26, u 27, u 28, u 29, u 30, u 31, u 32, u 33, u 34, u 35, u 36, u 37, u 38, u 39, u 40, u 41, u 42, u 43, u 44, u 45, u 46, u 47, u 48, u 49, u 50, u 51, u 52, u 53, u 54, u 55, u 56, u 57, u 58, u 59, u 60, u 61, u 62, u 63, u 64, u 65, u 66, u 67, u 68, u 69, u 70, u 71, u 72, u 73, u 74, u 75, u 76, u 77, u 78, u 79, u 80, u 81, u 82, u 83, u 84, u 85, u 86, u 87, u 88, u 89, u 90, u 91, u 92, u 93, u 94, u 95, u 96, u 97, u 98, u 99, u 100, u 101, u 102, u 103, u 104, u 105, u 106, u 107, u 108, u 109, u 110, u 111, u 112, u 113, u 114, u 115, u 116, u 117, u 118, u 119, u 120, u 121, u 122, u 123, u 124, u 125, u 126], defers := [] } : Act) := by
  refine ⟨fun i => a.tmps.getD i undef, fun _ => rfl, ?_⟩
  obtain ⟨tm, df⟩ := a
  dsimp only at h hd ⊢
  subst hd
  have e : tm = ((List.range 127).map fun i => tm.getD i undef).toArray := by
    apply Array.ext_getElem?
    intro i
    by_cases hi : i < 127
    · have h1 : i < tm.size := by omega
      simp [hi, h1, Array.getElem?_eq_getElem h1, Array.getD]
    · rw [Array.getElem?_eq_none (by omega), Array.getElem?_eq_none (by simp; omega)]
  exact congrArg (fun t => ({ tmps := t, defers := [] } : Act)) e
/-- What stands behind the comparison of the clauses. -/
def TailC (w0 : World) (bc g : Nat) (v x : Cv) (A6 : Option Addr) (c6 : Nat) (a : Act) (w : World) : Prop :=
  (a.tmps.size = 127 ∧ a.defers = [] ∧ a.tmps.getD 1 undef = .pointer (some ⟨bc, 0, none⟩) ∧ a.tmps.getD 4 undef = .int .i64 8 ∧ a.tmps.getD 5 undef = .int .i64 0 ∧ a.tmps.getD 6 undef = .slice A6 2 c6 ∧ a.tmps.getD 7 undef = .int .i64 0 ∧ a.tmps.getD 8 undef = .bool true ∧ a.tmps.getD 9 undef = .int .i64 0 ∧ a.tmps.getD 10 undef = .bool true ∧ a.tmps.getD 11 undef = .int .i64 0 ∧ a.tmps.getD 13 undef = .int .i64 800 ∧ a.tmps.getD 70 undef = .bool true ∧ a.tmps.getD 80 undef = .bool true) ∧ CBox w bc v awC ∧ CBox w g x awD ∧ IntsAt w w.heap.size A6 2 [2, 5] ∧ Below w0.heap.size w0 w
set_option maxHeartbeats 40000000 in
theorem awakeC_any (w : World) : Calls Try.prog 4 #[] w fun e w' => e = .returned (.bool true) ∧ Below w.heap.size w w' := by
  go_enter Try.func4, Try.ntmps4
  go_upto_region 2 with (fail)
  obtain ⟨w1, hw1, hb1, hc1⟩ := aw_start w
  rw [← hw1]
  obtain ⟨v, hv⟩ : ∃ v : Cv, v = ⟨some ⟨w.heap.size + 1 + 1 + 1, 0, none⟩, 3, 3, some ⟨w.heap.size + 1 + 1 + 1 + 1 + 1, 0, none⟩, 1, 1, none, 0, 0⟩ := ⟨_, rfl⟩
  obtain ⟨bc, hbc⟩ : ∃ bc, bc = w.heap.size + 1 + 1 + 1 + 1 + 1 + 1 := ⟨_, rfl⟩
  rw [← hv, ← hbc] at hc1
  rw [← hbc]
  have HC1 := Lib.hid hc1
  have HBW := Lib.hid hb1
  have HVE := Lib.hid v.val_eq
  clear hw1 hb1 hc1 hv hbc
  go_cut [2, 3] (fun s2 s3 wx => ∃ g x, s2 = .pointer (some ⟨g, 0, none⟩) ∧ s3 = .int .i64 0 ∧ CBox wx g x awD ∧ CBox wx bc v awC ∧ Below w1.heap.size w1 wx)
  case first =>
    have p0 := HC1.out.c0
    have p1 := HC1.out.c1
    have p2 := HC1.out.c2
    go_wp2_with fail
    refine wp_region_held_drew (S := (fun w' => w'.cell? ⟨bc, 0, none⟩ = some (.slice v.A1 v.n1 v.c1) ∧ w'.cell? ⟨bc, 1, none⟩ = some (.slice v.A2 v.n2 v.c2) ∧ w'.cell? ⟨bc, 2, none⟩ = some (.slice v.A3 v.n3 v.c3))) (by as_aux_lemma => kernel_rfl) ⟨p0, p1, p2⟩ (fun hHeld => ?_)
    have hd0 : Below w1.heap.size w1 w1.drew := (Below.refl w1.heap.size w1).drew
    refine takeH (i := 1) (v := ?_) rfl rfl (by as_aux_lemma => kernel_rfl) (by as_aux_lemma => kernel_rfl) (by as_aux_lemma => kernel_rfl) (fun _ _ _ h => h) (by rfl) ?_ hHeld ?_
    rotate_left
    · (intro w hSw; (try dsimp only at hSw); first | (go_simp; done) | (go_simp; with_reducible rfl))
    simp only [Act.put, List.setIfInBounds_toArray, List.set_cons_zero, List.set_cons_succ]
    have HC := Lib.hid (HC1.out.on hd0)
    have HB2 := Lib.hid hd0
    clear hd0
    obtain ⟨w2, hw2⟩ : ∃ w2, w2 = w1.drew := ⟨_, rfl⟩
    rw [← hw2] at HC HB2 ⊢
    clear hw2
    clear p0 p1 p2
    have p0 := HC.out.c0
    have p1 := HC.out.c1
    have p2 := HC.out.c2
    refine wpAnyH_ready (rs := [0, 6]) (by as_aux_lemma => kernel_rfl) (by simp) ?_
    refine AllReadyH.cons rfl (fun K hK => ?_) (AllReadyH.cons rfl (fun K hK => ?_) AllReadyH.nil)
    · go_simp
      refine (words_any _).mono ?_
      rintro e w3 ⟨A3, rfl, hs3, hb3⟩
      have HB3 := Lib.hid (HB2.out.trans (hb3.mono HB2.out.size))
      have HS := Lib.hid hs3
      replace HC := Lib.hid (HC.out.on hb3)
      clear hb3 hs3
      clear p0 p1 p2
      have p0 := HC.out.c0
      have p1 := HC.out.c1
      have p2 := HC.out.c2
      go_wp2_with fail
      refine hK.out _ _ ?_ (fun hHeld => ?_)
      · exact ⟨p0, p1, p2⟩
      clear hK K
      refine wpAnyH_ready (rs := [2, 6]) (by as_aux_lemma => kernel_rfl) (by simp) ?_
      refine AllReadyH.cons rfl (fun K hK => ?_) (AllReadyH.cons rfl (fun K hK => ?_) AllReadyH.nil)
      · go_simp
        rw [← HVE.out]
        refine (normalC_any A3 7 7 wordsL v awC _ HS.out len7 (Nat.le_refl _) HC.out.cl).mono ?_
        rintro e w4 ⟨x0, rfl, hx, hb4⟩
        rw [aw_normO] at hx
        rw [aw_E]
        have HB4 := Lib.hid (HB3.out.trans (hb4.mono HB3.out.size))
        obtain ⟨D1, d1, D2, d2, D3, d3, rfl⟩ := hx.slices
        have HO := Lib.hid hx
        replace HC := Lib.hid (HC.out.on hb4)
        clear hb4 hx HS
        clear p0 p1 p2
        have p0 := HC.out.c0
        have p1 := HC.out.c1
        have p2 := HC.out.c2
        go_wp2_with fail
        refine hK.out _ _ ?_ (fun hHeld => ?_)
        · exact ⟨p0, p1, p2⟩
        clear hK K
        refine takeH (i := 3) (v := ?_) rfl rfl (by as_aux_lemma => kernel_rfl) (by as_aux_lemma => kernel_rfl) (by as_aux_lemma => kernel_rfl) (fun _ _ _ h => h) (by rfl) ?_ hHeld ?_
        rotate_left
        · (intro w hSw; (try dsimp only at hSw); first | (go_simp; done) | (go_simp; with_reducible rfl))
        simp only [Act.put, List.setIfInBounds_toArray, List.set_cons_zero, List.set_cons_succ]
        refine takeH (i := 4) (v := ?_) rfl rfl (by as_aux_lemma => kernel_rfl) (by as_aux_lemma => kernel_rfl) (by as_aux_lemma => kernel_rfl) (fun _ _ _ h => h) (by rfl) ?_ hHeld ?_
        rotate_left
        · (intro w hSw; (try dsimp only at hSw); first | (go_simp; done) | (go_simp; with_reducible rfl))
        simp only [Act.put, List.setIfInBounds_toArray, List.set_cons_zero, List.set_cons_succ]
        refine takeH (i := 5) (v := ?_) rfl rfl (by as_aux_lemma => kernel_rfl) (by as_aux_lemma => kernel_rfl) (by as_aux_lemma => kernel_rfl) (fun _ _ _ h => h) (by rfl) ?_ hHeld ?_
        rotate_left
        · (intro w hSw; (try dsimp only at hSw); first | (go_simp; done) | (go_simp; with_reducible rfl))
        simp only [Act.put, List.setIfInBounds_toArray, List.set_cons_zero, List.set_cons_succ]
        refine wpAnyH_ready (rs := [6]) (by as_aux_lemma => kernel_rfl) (by simp) ?_
        refine AllReadyH.cons rfl (fun K hK => ?_) AllReadyH.nil
        go_simp
        have hb5 := below_new w4 (.cells #[.slice none 0 0, .slice none 0 0, .slice none 0 0] 26)
        have HZ := Lib.hid (ZBox.new w4)
        have HB5 := Lib.hid (HB4.out.trans (hb5.mono HB4.out.size))
        replace HC := Lib.hid (HC.out.on hb5)
        replace HO := Lib.hid (HO.out.on hb5)
        obtain ⟨w5, hw5⟩ : ∃ w5, w5 = w4.alloc (.cells #[.slice none 0 0, .slice none 0 0, .slice none 0 0] 26) := ⟨_, rfl⟩
        obtain ⟨g, hg⟩ : ∃ g, g = w4.heap.size := ⟨_, rfl⟩
        have hgw : w1.heap.size ≤ g := by rw [hg]; exact HB4.out.size
        rw [← hw5] at HC HZ HB5 HO ⊢
        rw [← hg] at HZ ⊢
        clear hb5 hw5 hg
        clear p0 p1 p2
        have p0 := HC.out.c0
        have p1 := HC.out.c1
        have p2 := HC.out.c2
        refine hK.out _ _ ?_ (fun hHeld => ?_)
        · exact ⟨p0, p1, p2⟩
        clear hK K
        refine wpAnyH_ready (rs := [7]) (by as_aux_lemma => kernel_rfl) (by simp) ?_
        refine AllReadyH.cons rfl (fun K hK => ?_) AllReadyH.nil
        refine store_box_step rfl 26 (.tmp 2) (.tmp 28) rfl rfl g _ _ rfl rfl HZ.out.z rfl (by as_aux_lemma => kernel_rfl) three_one ?_
        intro w9 hg9 hc9 hs9
        have HBX : Hid (∃ x, CBox w9 g x awD) := by
          obtain ⟨x, e, hx⟩ := (HO.out.chg hc9 (by decide) (by decide) (by decide)).clAt (show Fit awD from (mayC_iff.1 aw_mayD).fit)
          rw [Cv.val_eq] at e
          simp only [Value.agg.injEq, Array.mk.injEq, List.cons.injEq, Value.slice.injEq, and_true] at e
          refine ⟨x, (Array.getElem?_eq_some_iff.1 hg9).1, ?_, ?_, ?_, hx⟩
          · rw [cell_of_row _ _ 0 _ _ _ hg9]; simp [e]
          · rw [cell_of_row _ _ 1 _ _ _ hg9]; simp [e]
          · rw [cell_of_row _ _ 2 _ _ _ hg9]; simp [e]
        have HB9 := Lib.hid (HB5.out.trans (hc9.bel.mono hgw))
        have HC9 := Lib.hid (HC1.out.on HB9.out)
        have p0' := HC9.out.c0
        have p1' := HC9.out.c1
        have p2' := HC9.out.c2
        clear hg9 hc9 hs9 p0 p1 p2
        refine hK.out _ _ ?_ (fun hHeld => ?_)
        · exact ⟨p0', p1', p2'⟩
        clear hK K
        refine takeH (i := 8) (v := ?_) rfl rfl (by as_aux_lemma => kernel_rfl) (by as_aux_lemma => kernel_rfl) (by as_aux_lemma => kernel_rfl) (fun _ _ _ h => h) (by rfl) ?_ hHeld ?_
        rotate_left
        · (intro w hSw; (try dsimp only at hSw); first | (go_simp; done) | (go_simp; with_reducible rfl))
        simp only [Act.put, List.setIfInBounds_toArray, List.set_cons_zero, List.set_cons_succ]
        refine wpAnyH_done (by as_aux_lemma => kernel_rfl) ?_ _
        go_wp2
        go_meet
        case rel =>
          obtain ⟨x, hx⟩ := HBX.out
          exact ⟨g, x, rfl, rfl, hx, HC9.out, HB9.out⟩
      · go_simp
        have hb4 := below_new w3 (.cells #[.slice none 0 0, .slice none 0 0, .slice none 0 0] 26)
        have HZ := Lib.hid (ZBox.new w3)
        have HB4 := Lib.hid (HB3.out.trans (hb4.mono HB3.out.size))
        replace HC := Lib.hid (HC.out.on hb4)
        replace HS := Lib.hid (HS.out.on hb4)
        obtain ⟨w4, hw4⟩ : ∃ w4, w4 = w3.alloc (.cells #[.slice none 0 0, .slice none 0 0, .slice none 0 0] 26) := ⟨_, rfl⟩
        obtain ⟨g, hg⟩ : ∃ g, g = w3.heap.size := ⟨_, rfl⟩
        have hgw : w1.heap.size ≤ g := by rw [hg]; exact HB3.out.size
        rw [← hw4] at HC HZ HB4 HS ⊢
        rw [← hg] at HZ ⊢
        clear hb4 hw4 hg
        clear p0 p1 p2
        have p0 := HC.out.c0
        have p1 := HC.out.c1
        have p2 := HC.out.c2
        refine hK.out _ _ ?_ (fun hHeld => ?_)
        · exact ⟨p0, p1, p2⟩
        clear hK K
        refine wpAnyH_ready (rs := [2]) (by as_aux_lemma => kernel_rfl) (by simp) ?_
        refine AllReadyH.cons rfl (fun K hK => ?_) AllReadyH.nil
        go_simp
        rw [← HVE.out]
        refine (normalC_any A3 7 7 wordsL v awC _ HS.out len7 (Nat.le_refl _) HC.out.cl).mono ?_
        rintro e w5 ⟨x0, rfl, hx, hb5⟩
        rw [aw_normO] at hx
        rw [aw_E]
        have HB5 := Lib.hid (HB4.out.trans (hb5.mono HB4.out.size))
        obtain ⟨D1, d1, D2, d2, D3, d3, rfl⟩ := hx.slices
        have HO := Lib.hid hx
        replace HC := Lib.hid (HC.out.on hb5)
        replace HZ := Lib.hid (HZ.out.on hb5)
        clear hb5 hx HS
        clear p0 p1 p2
        have p0 := HC.out.c0
        have p1 := HC.out.c1
        have p2 := HC.out.c2
        go_wp2_with fail
        refine hK.out _ _ ?_ (fun hHeld => ?_)
        · exact ⟨p0, p1, p2⟩
        clear hK K
        refine takeH (i := 3) (v := ?_) rfl rfl (by as_aux_lemma => kernel_rfl) (by as_aux_lemma => kernel_rfl) (by as_aux_lemma => kernel_rfl) (fun _ _ _ h => h) (by rfl) ?_ hHeld ?_
        rotate_left
        · (intro w hSw; (try dsimp only at hSw); first | (go_simp; done) | (go_simp; with_reducible rfl))
        simp only [Act.put, List.setIfInBounds_toArray, List.set_cons_zero, List.set_cons_succ]
        refine takeH (i := 4) (v := ?_) rfl rfl (by as_aux_lemma => kernel_rfl) (by as_aux_lemma => kernel_rfl) (by as_aux_lemma => kernel_rfl) (fun _ _ _ h => h) (by rfl) ?_ hHeld ?_
        rotate_left
        · (intro w hSw; (try dsimp only at hSw); first | (go_simp; done) | (go_simp; with_reducible rfl))
        simp only [Act.put, List.setIfInBounds_toArray, List.set_cons_zero, List.set_cons_succ]
        refine takeH (i := 5) (v := ?_) rfl rfl (by as_aux_lemma => kernel_rfl) (by as_aux_lemma => kernel_rfl) (by as_aux_lemma => kernel_rfl) (fun _ _ _ h => h) (by rfl) ?_ hHeld ?_
        rotate_left
        · (intro w hSw; (try dsimp only at hSw); first | (go_simp; done) | (go_simp; with_reducible rfl))
        simp only [Act.put, List.setIfInBounds_toArray, List.set_cons_zero, List.set_cons_succ]
        refine wpAnyH_ready (rs := [7]) (by as_aux_lemma => kernel_rfl) (by simp) ?_
        refine AllReadyH.cons rfl (fun K hK => ?_) AllReadyH.nil
        refine store_box_step rfl 26 (.tmp 2) (.tmp 28) rfl rfl g _ _ rfl rfl HZ.out.z rfl (by as_aux_lemma => kernel_rfl) three_one ?_
        intro w9 hg9 hc9 hs9
        have HBX : Hid (∃ x, CBox w9 g x awD) := by
          obtain ⟨x, e, hx⟩ := (HO.out.chg hc9 (by decide) (by decide) (by decide)).clAt (show Fit awD from (mayC_iff.1 aw_mayD).fit)
          rw [Cv.val_eq] at e
          simp only [Value.agg.injEq, Array.mk.injEq, List.cons.injEq, Value.slice.injEq, and_true] at e
          refine ⟨x, (Array.getElem?_eq_some_iff.1 hg9).1, ?_, ?_, ?_, hx⟩
          · rw [cell_of_row _ _ 0 _ _ _ hg9]; simp [e]
          · rw [cell_of_row _ _ 1 _ _ _ hg9]; simp [e]
          · rw [cell_of_row _ _ 2 _ _ _ hg9]; simp [e]
        have HB9 := Lib.hid (HB5.out.trans (hc9.bel.mono hgw))
        have HC9 := Lib.hid (HC1.out.on HB9.out)
        have p0' := HC9.out.c0
        have p1' := HC9.out.c1
        have p2' := HC9.out.c2
        clear hg9 hc9 hs9 p0 p1 p2
        refine hK.out _ _ ?_ (fun hHeld => ?_)
        · exact ⟨p0', p1', p2'⟩
        clear hK K
        refine takeH (i := 8) (v := ?_) rfl rfl (by as_aux_lemma => kernel_rfl) (by as_aux_lemma => kernel_rfl) (by as_aux_lemma => kernel_rfl) (fun _ _ _ h => h) (by rfl) ?_ hHeld ?_
        rotate_left
        · (intro w hSw; (try dsimp only at hSw); first | (go_simp; done) | (go_simp; with_reducible rfl))
        simp only [Act.put, List.setIfInBounds_toArray, List.set_cons_zero, List.set_cons_succ]
        refine wpAnyH_done (by as_aux_lemma => kernel_rfl) ?_ _
        go_wp2
        go_meet
        case rel =>
          obtain ⟨x, hx⟩ := HBX.out
          exact ⟨g, x, rfl, rfl, hx, HC9.out, HB9.out⟩
    · go_simp
      have hb3 := below_new w2 (.cells #[.slice none 0 0, .slice none 0 0, .slice none 0 0] 26)
      have HZ := Lib.hid (ZBox.new w2)
      have HB3 := Lib.hid (HB2.out.trans (hb3.mono HB2.out.size))
      replace HC := Lib.hid (HC.out.on hb3)
      obtain ⟨w3, hw3⟩ : ∃ w3, w3 = w2.alloc (.cells #[.slice none 0 0, .slice none 0 0, .slice none 0 0] 26) := ⟨_, rfl⟩
      obtain ⟨g, hg⟩ : ∃ g, g = w2.heap.size := ⟨_, rfl⟩
      have hgw : w1.heap.size ≤ g := by rw [hg]; exact HB2.out.size
      rw [← hw3] at HC HZ HB3  ⊢
      rw [← hg] at HZ ⊢
      clear hb3 hw3 hg
      clear p0 p1 p2
      have p0 := HC.out.c0
      have p1 := HC.out.c1
      have p2 := HC.out.c2
      refine hK.out _ _ ?_ (fun hHeld => ?_)
      · exact ⟨p0, p1, p2⟩
      clear hK K
      refine wpAnyH_ready (rs := [0]) (by as_aux_lemma => kernel_rfl) (by simp) ?_
      refine AllReadyH.cons rfl (fun K hK => ?_) AllReadyH.nil
      go_simp
      refine (words_any _).mono ?_
      rintro e w4 ⟨A4, rfl, hs4, hb4⟩
      have HB4 := Lib.hid (HB3.out.trans (hb4.mono HB3.out.size))
      have HS := Lib.hid hs4
      replace HC := Lib.hid (HC.out.on hb4)
      replace HZ := Lib.hid (HZ.out.on hb4)
      clear hb4 hs4
      clear p0 p1 p2
      have p0 := HC.out.c0
      have p1 := HC.out.c1
      have p2 := HC.out.c2
      go_wp2_with fail
      refine hK.out _ _ ?_ (fun hHeld => ?_)
      · exact ⟨p0, p1, p2⟩
      clear hK K
      refine wpAnyH_ready (rs := [2]) (by as_aux_lemma => kernel_rfl) (by simp) ?_
      refine AllReadyH.cons rfl (fun K hK => ?_) AllReadyH.nil
      go_simp
      rw [← HVE.out]
      refine (normalC_any A4 7 7 wordsL v awC _ HS.out len7 (Nat.le_refl _) HC.out.cl).mono ?_
      rintro e w5 ⟨x0, rfl, hx, hb5⟩
      rw [aw_normO] at hx
      rw [aw_E]
      have HB5 := Lib.hid (HB4.out.trans (hb5.mono HB4.out.size))
      obtain ⟨D1, d1, D2, d2, D3, d3, rfl⟩ := hx.slices
      have HO := Lib.hid hx
      replace HC := Lib.hid (HC.out.on hb5)
      replace HZ := Lib.hid (HZ.out.on hb5)
      clear hb5 hx HS
      clear p0 p1 p2
      have p0 := HC.out.c0
      have p1 := HC.out.c1
      have p2 := HC.out.c2
      go_wp2_with fail
      refine hK.out _ _ ?_ (fun hHeld => ?_)
      · exact ⟨p0, p1, p2⟩
      clear hK K
      refine takeH (i := 3) (v := ?_) rfl rfl (by as_aux_lemma => kernel_rfl) (by as_aux_lemma => kernel_rfl) (by as_aux_lemma => kernel_rfl) (fun _ _ _ h => h) (by rfl) ?_ hHeld ?_
      rotate_left
      · (intro w hSw; (try dsimp only at hSw); first | (go_simp; done) | (go_simp; with_reducible rfl))
      simp only [Act.put, List.setIfInBounds_toArray, List.set_cons_zero, List.set_cons_succ]
      refine takeH (i := 4) (v := ?_) rfl rfl (by as_aux_lemma => kernel_rfl) (by as_aux_lemma => kernel_rfl) (by as_aux_lemma => kernel_rfl) (fun _ _ _ h => h) (by rfl) ?_ hHeld ?_
      rotate_left
      · (intro w hSw; (try dsimp only at hSw); first | (go_simp; done) | (go_simp; with_reducible rfl))
      simp only [Act.put, List.setIfInBounds_toArray, List.set_cons_zero, List.set_cons_succ]
      refine takeH (i := 5) (v := ?_) rfl rfl (by as_aux_lemma => kernel_rfl) (by as_aux_lemma => kernel_rfl) (by as_aux_lemma => kernel_rfl) (fun _ _ _ h => h) (by rfl) ?_ hHeld ?_
      rotate_left
      · (intro w hSw; (try dsimp only at hSw); first | (go_simp; done) | (go_simp; with_reducible rfl))
      simp only [Act.put, List.setIfInBounds_toArray, List.set_cons_zero, List.set_cons_succ]
      refine wpAnyH_ready (rs := [7]) (by as_aux_lemma => kernel_rfl) (by simp) ?_
      refine AllReadyH.cons rfl (fun K hK => ?_) AllReadyH.nil
      refine store_box_step rfl 26 (.tmp 2) (.tmp 28) rfl rfl g _ _ rfl rfl HZ.out.z rfl (by as_aux_lemma => kernel_rfl) three_one ?_
      intro w9 hg9 hc9 hs9
      have HBX : Hid (∃ x, CBox w9 g x awD) := by
        obtain ⟨x, e, hx⟩ := (HO.out.chg hc9 (by decide) (by decide) (by decide)).clAt (show Fit awD from (mayC_iff.1 aw_mayD).fit)
        rw [Cv.val_eq] at e
        simp only [Value.agg.injEq, Array.mk.injEq, List.cons.injEq, Value.slice.injEq, and_true] at e
        refine ⟨x, (Array.getElem?_eq_some_iff.1 hg9).1, ?_, ?_, ?_, hx⟩
        · rw [cell_of_row _ _ 0 _ _ _ hg9]; simp [e]
        · rw [cell_of_row _ _ 1 _ _ _ hg9]; simp [e]
        · rw [cell_of_row _ _ 2 _ _ _ hg9]; simp [e]
      have HB9 := Lib.hid (HB5.out.trans (hc9.bel.mono hgw))
      have HC9 := Lib.hid (HC1.out.on HB9.out)
      have p0' := HC9.out.c0
      have p1' := HC9.out.c1
      have p2' := HC9.out.c2
      clear hg9 hc9 hs9 p0 p1 p2
      refine hK.out _ _ ?_ (fun hHeld => ?_)
      · exact ⟨p0', p1', p2'⟩
      clear hK K
      refine takeH (i := 8) (v := ?_) rfl rfl (by as_aux_lemma => kernel_rfl) (by as_aux_lemma => kernel_rfl) (by as_aux_lemma => kernel_rfl) (fun _ _ _ h => h) (by rfl) ?_ hHeld ?_
      rotate_left
      · (intro w hSw; (try dsimp only at hSw); first | (go_simp; done) | (go_simp; with_reducible rfl))
      simp only [Act.put, List.setIfInBounds_toArray, List.set_cons_zero, List.set_cons_succ]
      refine wpAnyH_done (by as_aux_lemma => kernel_rfl) ?_ _
      go_wp2
      go_meet
      case rel =>
        obtain ⟨x, hx⟩ := HBX.out
        exact ⟨g, x, rfl, rfl, hx, HC9.out, HB9.out⟩
  case rest =>
    obtain ⟨g, x, rfl, rfl, hd, hc, hbx⟩ := hcut
    have HB3 := Lib.hid (HBW.out.trans (hbx.mono HBW.out.size))
    have HD := Lib.hid hd
    have HC := Lib.hid hc
    have HXE := Lib.hid x.val_eq
    obtain ⟨w3, hw3⟩ : ∃ w3, w3 = wc := ⟨_, rfl⟩
    subst hw3
    clear hd hc hbx HC1 HBW
    have p0 := HC.out.c0
    have p1 := HC.out.c1
    have p2 := HC.out.c2
    have q0 := HD.out.c0
    have q1 := HD.out.c1
    have q2 := HD.out.c2
    go_wp2_with fail
    refine wp_region_held_drew (S := (fun w' => w'.cell? ⟨bc, 0, none⟩ = some (.slice v.A1 v.n1 v.c1) ∧ w'.cell? ⟨bc, 1, none⟩ = some (.slice v.A2 v.n2 v.c2) ∧ w'.cell? ⟨bc, 2, none⟩ = some (.slice v.A3 v.n3 v.c3) ∧ w'.cell? ⟨g, 0, none⟩ = some (.slice x.A1 x.n1 x.c1) ∧ w'.cell? ⟨g, 1, none⟩ = some (.slice x.A2 x.n2 x.c2) ∧ w'.cell? ⟨g, 2, none⟩ = some (.slice x.A3 x.n3 x.c3))) (by as_aux_lemma => kernel_rfl) ⟨p0, p1, p2, q0, q1, q2⟩ (fun hHeld => ?_)
    have hd0 : Below w3.heap.size w3 w3.drew := (Below.refl w3.heap.size w3).drew
    refine takeH (i := 1) (v := ?_) rfl rfl (by as_aux_lemma => kernel_rfl) (by as_aux_lemma => kernel_rfl) (by as_aux_lemma => kernel_rfl) (fun _ _ _ h => h) (by rfl) ?_ hHeld ?_
    rotate_left
    · (intro w hSw; (try dsimp only at hSw); first | (go_simp; done) | (go_simp; with_reducible rfl))
    simp only [Act.put, List.setIfInBounds_toArray, List.set_cons_zero, List.set_cons_succ]
    replace HC := Lib.hid (HC.out.on hd0)
    replace HD := Lib.hid (HD.out.on hd0)
    have HBa := Lib.hid (HB3.out.trans (hd0.mono HB3.out.size))
    clear hd0
    obtain ⟨wa, hwa⟩ : ∃ wa, wa = w3.drew := ⟨_, rfl⟩
    rw [← hwa] at HC HD HBa  ⊢
    clear hwa
    refine wpAnyH_ready (rs := [0]) (by as_aux_lemma => kernel_rfl) (by simp) ?_
    refine AllReadyH.cons rfl (fun K hK => ?_) AllReadyH.nil
    go_simp
    refine (words_any _).mono ?_
    rintro e wb ⟨Ab, rfl, hsb, hbb⟩
    have HBb := Lib.hid (HBa.out.trans (hbb.mono HBa.out.size))
    have HS := Lib.hid hsb
    replace HC := Lib.hid (HC.out.on hbb)
    replace HD := Lib.hid (HD.out.on hbb)
    clear hsb hbb p0 p1 p2 q0 q1 q2
    have p0 := HC.out.c0
    have p1 := HC.out.c1
    have p2 := HC.out.c2
    have q0 := HD.out.c0
    have q1 := HD.out.c1
    have q2 := HD.out.c2
    go_wp2_with fail
    refine hK.out _ _ ?_ (fun hHeld => ?_)
    · exact ⟨p0, p1, p2, q0, q1, q2⟩
    clear hK K
    refine wpAnyH_ready (rs := [2]) (by as_aux_lemma => kernel_rfl) (by simp) ?_
    refine AllReadyH.cons rfl (fun K hK => ?_) AllReadyH.nil
    go_simp
    rw [← HVE.out]
    refine (weightC_any Ab 7 7 wordsL v awC _ HS.out len7 (Nat.le_refl _) HC.out.cl).mono ?_
    rintro e w4 ⟨rfl, hb4⟩
    rw [aw_wt, aw_E]
    have HB4 := Lib.hid (HBb.out.trans (hb4.mono HBb.out.size))
    replace HC := Lib.hid (HC.out.on hb4)
    replace HD := Lib.hid (HD.out.on hb4)
    clear hb4 HS HBa HBb p0 p1 p2 q0 q1 q2
    have p0 := HC.out.c0
    have p1 := HC.out.c1
    have p2 := HC.out.c2
    have q0 := HD.out.c0
    have q1 := HD.out.c1
    have q2 := HD.out.c2
    go_wp2_with fail
    refine hK.out _ _ ?_ (fun hHeld => ?_)
    · exact ⟨p0, p1, p2, q0, q1, q2⟩
    clear hK K
    refine takeH (i := 3) (v := ?_) rfl rfl (by as_aux_lemma => kernel_rfl) (by as_aux_lemma => kernel_rfl) (by as_aux_lemma => kernel_rfl) (fun _ _ _ h => h) (by rfl) ?_ hHeld ?_
    rotate_left
    · (intro w hSw; (try dsimp only at hSw); first | (go_simp; done) | (go_simp; with_reducible rfl))
    simp only [Act.put, List.setIfInBounds_toArray, List.set_cons_zero, List.set_cons_succ]
    refine takeH (i := 4) (v := ?_) rfl rfl (by as_aux_lemma => kernel_rfl) (by as_aux_lemma => kernel_rfl) (by as_aux_lemma => kernel_rfl) (fun _ _ _ h => h) (by rfl) ?_ hHeld ?_
    rotate_left
    · (intro w hSw; (try dsimp only at hSw); first | (go_simp; done) | (go_simp; with_reducible rfl))
    simp only [Act.put, List.setIfInBounds_toArray, List.set_cons_zero, List.set_cons_succ]
    refine takeH (i := 5) (v := ?_) rfl rfl (by as_aux_lemma => kernel_rfl) (by as_aux_lemma => kernel_rfl) (by as_aux_lemma => kernel_rfl) (fun _ _ _ h => h) (by rfl) ?_ hHeld ?_
    rotate_left
    · (intro w hSw; (try dsimp only at hSw); first | (go_simp; done) | (go_simp; with_reducible rfl))
    simp only [Act.put, List.setIfInBounds_toArray, List.set_cons_zero, List.set_cons_succ]
    refine takeH (i := 6) (v := ?_) rfl rfl (by as_aux_lemma => kernel_rfl) (by as_aux_lemma => kernel_rfl) (by as_aux_lemma => kernel_rfl) (fun _ _ _ h => h) (by rfl) ?_ hHeld ?_
    rotate_left
    · (intro w hSw; (try dsimp only at hSw); first | (go_simp; done) | (go_simp; with_reducible rfl))
    simp only [Act.put, List.setIfInBounds_toArray, List.set_cons_zero, List.set_cons_succ]
    refine takeH (i := 7) (v := ?_) rfl rfl (by as_aux_lemma => kernel_rfl) (by as_aux_lemma => kernel_rfl) (by as_aux_lemma => kernel_rfl) (fun _ _ _ h => h) (by rfl) ?_ hHeld ?_
    rotate_left
    · (intro w hSw; (try dsimp only at hSw); first | (go_simp; done) | (go_simp; with_reducible rfl))
    simp only [Act.put, List.setIfInBounds_toArray, List.set_cons_zero, List.set_cons_succ]
    refine wpAnyH_done (by as_aux_lemma => kernel_rfl) ?_ _
    clear p0 p1 p2 q0 q1 q2
    have p0 := HC.out.c0
    have p1 := HC.out.c1
    have p2 := HC.out.c2
    have q0 := HD.out.c0
    have q1 := HD.out.c1
    have q2 := HD.out.c2
    go_wp2_with fail
    refine wp_region_held_drew (S := (fun w' => w'.cell? ⟨bc, 0, none⟩ = some (.slice v.A1 v.n1 v.c1) ∧ w'.cell? ⟨bc, 1, none⟩ = some (.slice v.A2 v.n2 v.c2) ∧ w'.cell? ⟨bc, 2, none⟩ = some (.slice v.A3 v.n3 v.c3) ∧ w'.cell? ⟨g, 0, none⟩ = some (.slice x.A1 x.n1 x.c1) ∧ w'.cell? ⟨g, 1, none⟩ = some (.slice x.A2 x.n2 x.c2) ∧ w'.cell? ⟨g, 2, none⟩ = some (.slice x.A3 x.n3 x.c3))) (by as_aux_lemma => kernel_rfl) ⟨p0, p1, p2, q0, q1, q2⟩ (fun hHeld => ?_)
    have hd0 : Below w4.heap.size w4 w4.drew := (Below.refl w4.heap.size w4).drew
    refine takeH (i := 1) (v := ?_) rfl rfl (by as_aux_lemma => kernel_rfl) (by as_aux_lemma => kernel_rfl) (by as_aux_lemma => kernel_rfl) (fun _ _ _ h => h) (by rfl) ?_ hHeld ?_
    rotate_left
    · (intro w hSw; (try dsimp only at hSw); first | (go_simp; done) | (go_simp; with_reducible rfl))
    simp only [Act.put, List.setIfInBounds_toArray, List.set_cons_zero, List.set_cons_succ]
    replace HC := Lib.hid (HC.out.on hd0)
    replace HD := Lib.hid (HD.out.on hd0)
    have HBa := Lib.hid (HB4.out.trans (hd0.mono HB4.out.size))
    clear hd0
    obtain ⟨wa, hwa⟩ : ∃ wa, wa = w4.drew := ⟨_, rfl⟩
    rw [← hwa] at HC HD HBa  ⊢
    clear hwa
    refine wpAnyH_ready (rs := [0]) (by as_aux_lemma => kernel_rfl) (by simp) ?_
    refine AllReadyH.cons rfl (fun K hK => ?_) AllReadyH.nil
    go_simp
    refine (words_any _).mono ?_
    rintro e wb ⟨Ab, rfl, hsb, hbb⟩
    have HBb := Lib.hid (HBa.out.trans (hbb.mono HBa.out.size))
    have HS := Lib.hid hsb
    replace HC := Lib.hid (HC.out.on hbb)
    replace HD := Lib.hid (HD.out.on hbb)
    clear hsb hbb p0 p1 p2 q0 q1 q2
    have p0 := HC.out.c0
    have p1 := HC.out.c1
    have p2 := HC.out.c2
    have q0 := HD.out.c0
    have q1 := HD.out.c1
    have q2 := HD.out.c2
    go_wp2_with fail
    refine hK.out _ _ ?_ (fun hHeld => ?_)
    · exact ⟨p0, p1, p2, q0, q1, q2⟩
    clear hK K
    refine wpAnyH_ready (rs := [2]) (by as_aux_lemma => kernel_rfl) (by simp) ?_
    refine AllReadyH.cons rfl (fun K hK => ?_) AllReadyH.nil
    go_simp
    rw [← HVE.out]
    refine (varsC_any Ab 7 7 wordsL v awC _ HS.out len7 (Nat.le_refl _) HC.out.cl).mono ?_
    rintro e w5 ⟨v6, rfl, hv6, hb5⟩
    rw [aw_vars] at hv6
    rw [aw_E]
    obtain ⟨A6, c6, hv6', _, hi6⟩ := hv6.intsAt
    simp only [List.length_cons, List.length_nil, Nat.zero_add] at hv6' hi6
    subst hv6'
    have HV := Lib.hid hi6
    clear hv6 hi6
    have HB5 := Lib.hid (HBb.out.trans (hb5.mono HBb.out.size))
    replace HC := Lib.hid (HC.out.on hb5)
    replace HD := Lib.hid (HD.out.on hb5)
    clear hb5 HS HBa HBb p0 p1 p2 q0 q1 q2
    have p0 := HC.out.c0
    have p1 := HC.out.c1
    have p2 := HC.out.c2
    have q0 := HD.out.c0
    have q1 := HD.out.c1
    have q2 := HD.out.c2
    go_wp2_with fail
    refine hK.out _ _ ?_ (fun hHeld => ?_)
    · exact ⟨p0, p1, p2, q0, q1, q2⟩
    clear hK K
    refine takeH (i := 3) (v := ?_) rfl rfl (by as_aux_lemma => kernel_rfl) (by as_aux_lemma => kernel_rfl) (by as_aux_lemma => kernel_rfl) (fun _ _ _ h => h) (by rfl) ?_ hHeld ?_
    rotate_left
    · (intro w hSw; (try dsimp only at hSw); first | (go_simp; done) | (go_simp; with_reducible rfl))
    simp only [Act.put, List.setIfInBounds_toArray, List.set_cons_zero, List.set_cons_succ]
    refine takeH (i := 4) (v := ?_) rfl rfl (by as_aux_lemma => kernel_rfl) (by as_aux_lemma => kernel_rfl) (by as_aux_lemma => kernel_rfl) (fun _ _ _ h => h) (by rfl) ?_ hHeld ?_
    rotate_left
    · (intro w hSw; (try dsimp only at hSw); first | (go_simp; done) | (go_simp; with_reducible rfl))
    simp only [Act.put, List.setIfInBounds_toArray, List.set_cons_zero, List.set_cons_succ]
    refine takeH (i := 5) (v := ?_) rfl rfl (by as_aux_lemma => kernel_rfl) (by as_aux_lemma => kernel_rfl) (by as_aux_lemma => kernel_rfl) (fun _ _ _ h => h) (by rfl) ?_ hHeld ?_
    rotate_left
    · (intro w hSw; (try dsimp only at hSw); first | (go_simp; done) | (go_simp; with_reducible rfl))
    simp only [Act.put, List.setIfInBounds_toArray, List.set_cons_zero, List.set_cons_succ]
    refine takeH (i := 6) (v := ?_) rfl rfl (by as_aux_lemma => kernel_rfl) (by as_aux_lemma => kernel_rfl) (by as_aux_lemma => kernel_rfl) (fun _ _ _ h => h) (by rfl) ?_ hHeld ?_
    rotate_left
    · (intro w hSw; (try dsimp only at hSw); first | (go_simp; done) | (go_simp; with_reducible rfl))
    simp only [Act.put, List.setIfInBounds_toArray, List.set_cons_zero, List.set_cons_succ]
    refine takeH (i := 7) (v := ?_) rfl rfl (by as_aux_lemma => kernel_rfl) (by as_aux_lemma => kernel_rfl) (by as_aux_lemma => kernel_rfl) (fun _ _ _ h => h) (by rfl) ?_ hHeld ?_
    rotate_left
    · (intro w hSw; (try dsimp only at hSw); first | (go_simp; done) | (go_simp; with_reducible rfl))
    simp only [Act.put, List.setIfInBounds_toArray, List.set_cons_zero, List.set_cons_succ]
    refine wpAnyH_done (by as_aux_lemma => kernel_rfl) ?_ _
    clear p0 p1 p2 q0 q1 q2
    go_wp2_with fail
    refine (words_any _).mono ?_
    rintro e w6 ⟨A8, rfl, hs6, hb6⟩
    have HB6 := Lib.hid (HB5.out.trans (hb6.mono HB5.out.size))
    replace HC := Lib.hid (HC.out.on hb6)
    replace HD := Lib.hid (HD.out.on hb6)
    replace HV := Lib.hid (HV.out.on hb6)
    have hbn := below_new2 w6 (.cells #[.int .i64 0, .int .i64 1, .int .i64 1] 3) (.cells #[.bool false, .slice (some ⟨w6.heap.size, 0, none⟩) 3 3] 44)
    have HCALL : Hid (Calls Try.prog 6 #[.slice A8 7 7, .agg #[.slice (some ⟨w6.heap.size + 1, 0, none⟩) 1 1, .slice none 0 0, .slice none 0 0]] ((w6.alloc (.cells #[.int .i64 0, .int .i64 1, .int .i64 1] 3)).alloc (.cells #[.bool false, .slice (some ⟨w6.heap.size, 0, none⟩) 3 3] 44)) (BoolPost (dullO wordsL awE) (clE wordsL awE) ((w6.alloc (.cells #[.int .i64 0, .int .i64 1, .int .i64 1] 3)).alloc (.cells #[.bool false, .slice (some ⟨w6.heap.size, 0, none⟩) 3 3] 44)))) :=
      trivialC_any A8 7 7 wordsL ⟨some ⟨w6.heap.size + 1, 0, none⟩, 1, 1, none, 0, 0, none, 0, 0⟩ awE _ (hs6.on hbn) len7 (Nat.le_refl _) (ClAt.ofLits (LitsAt.lit1 w6 false [0, 1, 1] (by decide)) (by decide))
    have HB7 := Lib.hid (HB6.out.trans (hbn.mono HB6.out.size))
    replace HC := Lib.hid (HC.out.on hbn)
    replace HD := Lib.hid (HD.out.on hbn)
    replace HV := Lib.hid (HV.out.on hbn)
    clear hb6 hs6 hbn
    go_wp2_with fail
    refine HCALL.out.mono ?_
    rintro e w8 ⟨rfl, hb8⟩
    rw [aw_dull, aw_EE]
    have HB8 := Lib.hid (HB7.out.trans (hb8.mono HB7.out.size))
    replace HC := Lib.hid (HC.out.on hb8)
    replace HD := Lib.hid (HD.out.on hb8)
    replace HV := Lib.hid (HV.out.on hb8)
    clear hb8 HCALL HB7
    have p0 := HC.out.c0
    have p1 := HC.out.c1
    have p2 := HC.out.c2
    have q0 := HD.out.c0
    have q1 := HD.out.c1
    have q2 := HD.out.c2
    go_wp2_with fail
    refine wp_region_held_drew (S := (fun w' => w'.cell? ⟨bc, 0, none⟩ = some (.slice v.A1 v.n1 v.c1) ∧ w'.cell? ⟨bc, 1, none⟩ = some (.slice v.A2 v.n2 v.c2) ∧ w'.cell? ⟨bc, 2, none⟩ = some (.slice v.A3 v.n3 v.c3) ∧ w'.cell? ⟨g, 0, none⟩ = some (.slice x.A1 x.n1 x.c1) ∧ w'.cell? ⟨g, 1, none⟩ = some (.slice x.A2 x.n2 x.c2) ∧ w'.cell? ⟨g, 2, none⟩ = some (.slice x.A3 x.n3 x.c3))) (by as_aux_lemma => kernel_rfl) ⟨p0, p1, p2, q0, q1, q2⟩ (fun hHeld => ?_)
    have hd0 : Below w8.heap.size w8 w8.drew := (Below.refl w8.heap.size w8).drew
    refine takeH (i := 1) (v := ?_) rfl rfl (by as_aux_lemma => kernel_rfl) (by as_aux_lemma => kernel_rfl) (by as_aux_lemma => kernel_rfl) (fun _ _ _ h => h) (by rfl) ?_ hHeld ?_
    rotate_left
    · (intro w hSw; (try dsimp only at hSw); first | (go_simp; done) | (go_simp; with_reducible rfl))
    simp only [Act.put, List.setIfInBounds_toArray, List.set_cons_zero, List.set_cons_succ]
    refine takeH (i := 2) (v := ?_) rfl rfl (by as_aux_lemma => kernel_rfl) (by as_aux_lemma => kernel_rfl) (by as_aux_lemma => kernel_rfl) (fun _ _ _ h => h) (by rfl) ?_ hHeld ?_
    rotate_left
    · (intro w hSw; (try dsimp only at hSw); first | (go_simp; done) | (go_simp; with_reducible rfl))
    simp only [Act.put, List.setIfInBounds_toArray, List.set_cons_zero, List.set_cons_succ]
    replace HC := Lib.hid (HC.out.on hd0)
    replace HD := Lib.hid (HD.out.on hd0)
    replace HV := Lib.hid (HV.out.on hd0)
    have HBa := Lib.hid (HB8.out.trans (hd0.mono HB8.out.size))
    clear hd0
    obtain ⟨wa, hwa⟩ : ∃ wa, wa = w8.drew := ⟨_, rfl⟩
    rw [← hwa] at HC HD HBa HV ⊢
    clear hwa
    refine wpAnyH_ready (rs := [0]) (by as_aux_lemma => kernel_rfl) (by simp) ?_
    refine AllReadyH.cons rfl (fun K hK => ?_) AllReadyH.nil
    go_simp
    refine (words_any _).mono ?_
    rintro e wb ⟨Ab, rfl, hsb, hbb⟩
    have HBb := Lib.hid (HBa.out.trans (hbb.mono HBa.out.size))
    have HS := Lib.hid hsb
    replace HC := Lib.hid (HC.out.on hbb)
    replace HD := Lib.hid (HD.out.on hbb)
    replace HV := Lib.hid (HV.out.on hbb)
    clear hsb hbb p0 p1 p2 q0 q1 q2
    have p0 := HC.out.c0
    have p1 := HC.out.c1
    have p2 := HC.out.c2
    have q0 := HD.out.c0
    have q1 := HD.out.c1
    have q2 := HD.out.c2
    go_wp2_with fail
    refine hK.out _ _ ?_ (fun hHeld => ?_)
    · exact ⟨p0, p1, p2, q0, q1, q2⟩
    clear hK K
    refine wpAnyH_ready (rs := [3]) (by as_aux_lemma => kernel_rfl) (by simp) ?_
    refine AllReadyH.cons rfl (fun K hK => ?_) AllReadyH.nil
    go_simp
    rw [← HVE.out, ← HXE.out]
    refine (variantC_any Ab 7 7 wordsL v x awC awD _ HS.out len7 (Nat.le_refl _) HC.out.cl HD.out.cl).mono ?_
    rintro e w9 ⟨rfl, hb9⟩
    rw [aw_var, aw_E2]
    have HB9 := Lib.hid (HBb.out.trans (hb9.mono HBb.out.size))
    replace HC := Lib.hid (HC.out.on hb9)
    replace HD := Lib.hid (HD.out.on hb9)
    replace HV := Lib.hid (HV.out.on hb9)
    clear hb9 HS HBa HBb p0 p1 p2 q0 q1 q2
    have p0 := HC.out.c0
    have p1 := HC.out.c1
    have p2 := HC.out.c2
    have q0 := HD.out.c0
    have q1 := HD.out.c1
    have q2 := HD.out.c2
    go_wp2_with fail
    refine hK.out _ _ ?_ (fun hHeld => ?_)
    · exact ⟨p0, p1, p2, q0, q1, q2⟩
    clear hK K
    refine takeH (i := 4) (v := ?_) rfl rfl (by as_aux_lemma => kernel_rfl) (by as_aux_lemma => kernel_rfl) (by as_aux_lemma => kernel_rfl) (fun _ _ _ h => h) (by rfl) ?_ hHeld ?_
    rotate_left
    · (intro w hSw; (try dsimp only at hSw); first | (go_simp; done) | (go_simp; with_reducible rfl))
    simp only [Act.put, List.setIfInBounds_toArray, List.set_cons_zero, List.set_cons_succ]
    refine takeH (i := 5) (v := ?_) rfl rfl (by as_aux_lemma => kernel_rfl) (by as_aux_lemma => kernel_rfl) (by as_aux_lemma => kernel_rfl) (fun _ _ _ h => h) (by rfl) ?_ hHeld ?_
    rotate_left
    · (intro w hSw; (try dsimp only at hSw); first | (go_simp; done) | (go_simp; with_reducible rfl))
    simp only [Act.put, List.setIfInBounds_toArray, List.set_cons_zero, List.set_cons_succ]
    refine takeH (i := 6) (v := ?_) rfl rfl (by as_aux_lemma => kernel_rfl) (by as_aux_lemma => kernel_rfl) (by as_aux_lemma => kernel_rfl) (fun _ _ _ h => h) (by rfl) ?_ hHeld ?_
    rotate_left
    · (intro w hSw; (try dsimp only at hSw); first | (go_simp; done) | (go_simp; with_reducible rfl))
    simp only [Act.put, List.setIfInBounds_toArray, List.set_cons_zero, List.set_cons_succ]
    refine takeH (i := 7) (v := ?_) rfl rfl (by as_aux_lemma => kernel_rfl) (by as_aux_lemma => kernel_rfl) (by as_aux_lemma => kernel_rfl) (fun _ _ _ h => h) (by rfl) ?_ hHeld ?_
    rotate_left
    · (intro w hSw; (try dsimp only at hSw); first | (go_simp; done) | (go_simp; with_reducible rfl))
    simp only [Act.put, List.setIfInBounds_toArray, List.set_cons_zero, List.set_cons_succ]
    refine takeH (i := 8) (v := ?_) rfl rfl (by as_aux_lemma => kernel_rfl) (by as_aux_lemma => kernel_rfl) (by as_aux_lemma => kernel_rfl) (fun _ _ _ h => h) (by rfl) ?_ hHeld ?_
    rotate_left
    · (intro w hSw; (try dsimp only at hSw); first | (go_simp; done) | (go_simp; with_reducible rfl))
    simp only [Act.put, List.setIfInBounds_toArray, List.set_cons_zero, List.set_cons_succ]
    refine wpAnyH_done (by as_aux_lemma => kernel_rfl) ?_ _
    clear p0 p1 p2 q0 q1 q2
    go_wp2_with fail
    refine (words_any _).mono ?_
    rintro e w10 ⟨A10, rfl, hs10, hb10⟩
    have HB10 := Lib.hid (HB9.out.trans (hb10.mono HB9.out.size))
    replace HC := Lib.hid (HC.out.on hb10)
    replace HD := Lib.hid (HD.out.on hb10)
    replace HV := Lib.hid (HV.out.on hb10)
    have hbn := below_new2 w10 (.cells #[.int .i64 3, .int .i64 1] 3) (.cells #[.bool false, .slice (some ⟨w10.heap.size, 0, none⟩) 2 2] 44)
    have HCALL : Hid (Calls Try.prog 5 #[.slice A10 7 7, .agg #[.slice (some ⟨w10.heap.size + 1, 0, none⟩) 1 1, .slice none 0 0, .slice none 0 0]] ((w10.alloc (.cells #[.int .i64 3, .int .i64 1] 3)).alloc (.cells #[.bool false, .slice (some ⟨w10.heap.size, 0, none⟩) 2 2] 44)) (ClPost (normO wordsL awF) (clE wordsL awF) ((w10.alloc (.cells #[.int .i64 3, .int .i64 1] 3)).alloc (.cells #[.bool false, .slice (some ⟨w10.heap.size, 0, none⟩) 2 2] 44)))) :=
      normalC_any A10 7 7 wordsL ⟨some ⟨w10.heap.size + 1, 0, none⟩, 1, 1, none, 0, 0, none, 0, 0⟩ awF _ (hs10.on hbn) len7 (Nat.le_refl _) (ClAt.ofLits (LitsAt.lit1 w10 false [3, 1] (by decide)) (by decide))
    have HB11 := Lib.hid (HB10.out.trans (hbn.mono HB10.out.size))
    replace HC := Lib.hid (HC.out.on hbn)
    replace HD := Lib.hid (HD.out.on hbn)
    replace HV := Lib.hid (HV.out.on hbn)
    clear hb10 hs10 hbn
    go_wp2_with fail
    refine HCALL.out.mono ?_
    rintro e w12 ⟨x0, rfl, hx, hb12⟩
    rw [aw_EF]
    obtain ⟨D1, d1, D2, d2, D3, d3, rfl⟩ := hx.slices
    have HB12 := Lib.hid (HB11.out.trans (hb12.mono HB11.out.size))
    replace HC := Lib.hid (HC.out.on hb12)
    replace HD := Lib.hid (HD.out.on hb12)
    replace HV := Lib.hid (HV.out.on hb12)
    obtain ⟨m1, hm1⟩ : ∃ m1, m1 = (normO wordsL awF).lits.length := ⟨_, rfl⟩
    obtain ⟨m2, hm2⟩ : ∃ m2, m2 = (normO wordsL awF).tups.length := ⟨_, rfl⟩
    obtain ⟨m3, hm3⟩ : ∃ m3, m3 = (normO wordsL awF).conds.length := ⟨_, rfl⟩
    rw [← hm1, ← hm2, ← hm3]
    clear hb12 HCALL HB11 hx hm1 hm2 hm3
    have hbn := below_new w12 (.cells #[.slice D1 m1 d1, .slice D2 m2 d2, .slice D3 m3 d3] 26)
    have HB13 := Lib.hid (HB12.out.trans (hbn.mono HB12.out.size))
    replace HC := Lib.hid (HC.out.on hbn)
    replace HD := Lib.hid (HD.out.on hbn)
    replace HV := Lib.hid (HV.out.on hbn)
    clear hbn
    go_wp2_with fail
    obtain ⟨w13, hw13⟩ : ∃ w13, w13 = w12.alloc (.cells #[.slice D1 m1 d1, .slice D2 m2 d2, .slice D3 m3 d3] 26) := ⟨_, rfl⟩
    rw [← hw13] at HC HD HV HB13 ⊢
    clear hw13
    have p0 := HC.out.c0
    have p1 := HC.out.c1
    have p2 := HC.out.c2
    have q0 := HD.out.c0
    have q1 := HD.out.c1
    have q2 := HD.out.c2
    refine wp_region_held_drew (S := (fun w' => w'.cell? ⟨bc, 0, none⟩ = some (.slice v.A1 v.n1 v.c1) ∧ w'.cell? ⟨bc, 1, none⟩ = some (.slice v.A2 v.n2 v.c2) ∧ w'.cell? ⟨bc, 2, none⟩ = some (.slice v.A3 v.n3 v.c3) ∧ w'.cell? ⟨g, 0, none⟩ = some (.slice x.A1 x.n1 x.c1) ∧ w'.cell? ⟨g, 1, none⟩ = some (.slice x.A2 x.n2 x.c2) ∧ w'.cell? ⟨g, 2, none⟩ = some (.slice x.A3 x.n3 x.c3))) (by as_aux_lemma => kernel_rfl) ⟨p0, p1, p2, q0, q1, q2⟩ (fun hHeld => ?_)
    have hd0 : Below w13.heap.size w13 w13.drew := (Below.refl w13.heap.size w13).drew
    refine takeH (i := 0) (v := ?_) rfl rfl (by as_aux_lemma => kernel_rfl) (by as_aux_lemma => kernel_rfl) (by as_aux_lemma => kernel_rfl) (fun _ _ _ h => h) (by rfl) ?_ hHeld ?_
    rotate_left
    · (intro w hSw; (try dsimp only at hSw); first | (go_simp; done) | (go_simp; with_reducible rfl))
    simp only [Act.put, List.setIfInBounds_toArray, List.set_cons_zero, List.set_cons_succ]
    replace HC := Lib.hid (HC.out.on hd0)
    replace HD := Lib.hid (HD.out.on hd0)
    replace HV := Lib.hid (HV.out.on hd0)
    have HY0 := Lib.hid (HB13.out.trans (hd0.mono HB13.out.size))
    clear hd0
    obtain ⟨y0, hy0⟩ : ∃ y0, y0 = w13.drew := ⟨_, rfl⟩
    rw [← hy0] at HC HD HV HY0 ⊢
    clear hy0 p0 p1 p2 q0 q1 q2
    have p0 := HC.out.c0
    have p1 := HC.out.c1
    have p2 := HC.out.c2
    have q0 := HD.out.c0
    have q1 := HD.out.c1
    have q2 := HD.out.c2
    refine wpAnyH_ready (rs := [1]) (by as_aux_lemma => kernel_rfl) (by simp) ?_
    refine AllReadyH.cons rfl (fun K hK => ?_) AllReadyH.nil
    go_simp
    refine (num_any _ _).mono ?_
    rintro e w' ⟨rfl, rfl⟩
    go_wp2_with fail
    refine hK.out _ _ ?_ (fun hHeld => ?_)
    · exact ⟨p0, p1, p2, q0, q1, q2⟩
    clear hK K
    refine takeH (i := 2) (v := ?_) rfl rfl (by as_aux_lemma => kernel_rfl) (by as_aux_lemma => kernel_rfl) (by as_aux_lemma => kernel_rfl) (fun _ _ _ h => h) (by rfl) ?_ hHeld ?_
    rotate_left
    · (intro w hSw; (try dsimp only at hSw); first | (go_simp; done) | (go_simp; with_reducible rfl))
    simp only [Act.put, List.setIfInBounds_toArray, List.set_cons_zero, List.set_cons_succ]
    refine takeH (i := 3) (v := ?_) rfl rfl (by as_aux_lemma => kernel_rfl) (by as_aux_lemma => kernel_rfl) (by as_aux_lemma => kernel_rfl) (fun _ _ _ h => h) (by rfl) ?_ hHeld ?_
    rotate_left
    · (intro w hSw; (try dsimp only at hSw); first | (go_simp; done) | (go_simp; with_reducible rfl))
    simp only [Act.put, List.setIfInBounds_toArray, List.set_cons_zero, List.set_cons_succ]
    refine takeH (i := 4) (v := ?_) rfl rfl (by as_aux_lemma => kernel_rfl) (by as_aux_lemma => kernel_rfl) (by as_aux_lemma => kernel_rfl) (fun _ _ _ h => h) (by rfl) ?_ hHeld ?_
    rotate_left
    · (intro w hSw; (try dsimp only at hSw); first | (go_simp; done) | (go_simp; with_reducible rfl))
    simp only [Act.put, List.setIfInBounds_toArray, List.set_cons_zero, List.set_cons_succ]
    refine wpAnyH_share 47 #[true, true, true, true, true, true, true, true, true, true, true, true, true, true, false, false, false, false, false, false, false, false, false, false, false, false, false, false, false, false, false, false, false, false, false, false, false, false, false, false, false, false, false, false, false, false, false, false, false, false, false, false, false, false, false, false, false, false, false, false, false] (TailC w bc g v x A6 c6) (fun HT => ?_) ?_
    · skip
      refine wpAnyH_ready (rs := [5, 7, 10]) (by as_aux_lemma => kernel_rfl) (by simp) ?_
      refine AllReadyH.cons rfl (fun K hK => ?_) (AllReadyH.cons rfl (fun K hK => ?_) (AllReadyH.cons rfl (fun K hK => ?_) AllReadyH.nil))
      · go_simp
        have hbn := below_new y0 (.cells #[.int .i64 5, .int .i64 (-1)] 3)
        have HY1 := Lib.hid (HY0.out.trans (hbn.mono HY0.out.size))
        have I5 : Hid (LitAt (y0.alloc (.cells #[.int .i64 5, .int .i64 (-1)] 3)) (y0.alloc (.cells #[.int .i64 5, .int .i64 (-1)] 3)).heap.size (some ⟨y0.heap.size, 0, none⟩) 2 2 ⟨false, [5, -1]⟩) := LitAt.lit' y0 false [5, -1] (by decide)
        replace HC := Lib.hid (HC.out.on hbn)
        replace HD := Lib.hid (HD.out.on hbn)
        replace HV := Lib.hid (HV.out.on hbn)
        obtain ⟨y1, hy1⟩ : ∃ y1, y1 = y0.alloc (.cells #[.int .i64 5, .int .i64 (-1)] 3) := ⟨_, rfl⟩
        rw [← hy1] at HC HD HV HY1 I5  ⊢
        obtain ⟨b5, hbb⟩ : ∃ b5, b5 = y0.heap.size := ⟨_, rfl⟩
        rw [← hbb] at I5 ⊢
        clear hbn hy1 hbb p0 p1 p2 q0 q1 q2
        have p0 := HC.out.c0
        have p1 := HC.out.c1
        have p2 := HC.out.c2
        have q0 := HD.out.c0
        have q1 := HD.out.c1
        have q2 := HD.out.c2
        refine hK.out _ _ ?_ (fun hHeld => ?_)
        · exact ⟨p0, p1, p2, q0, q1, q2⟩
        clear hK K
        refine takeH (i := 6) (v := ?_) rfl rfl (by as_aux_lemma => kernel_rfl) (by as_aux_lemma => kernel_rfl) (by as_aux_lemma => kernel_rfl) (fun _ _ _ h => h) (by rfl) ?_ hHeld ?_
        rotate_left
        · (intro w hSw; (try dsimp only at hSw); first | (go_simp; done) | (go_simp; with_reducible rfl))
        simp only [Act.put, List.setIfInBounds_toArray, List.set_cons_zero, List.set_cons_succ]
        refine wpAnyH_ready (rs := [7, 10]) (by as_aux_lemma => kernel_rfl) (by simp) ?_
        refine AllReadyH.cons rfl (fun K hK => ?_) (AllReadyH.cons rfl (fun K hK => ?_) AllReadyH.nil)
        · go_simp
          have hbn := below_new y1 (.cells #[.int .i64 6, .int .i64 (-1), .int .i64 (-2)] 3)
          have HY2 := Lib.hid (HY1.out.trans (hbn.mono HY1.out.size))
          have I7 : Hid (LitAt (y1.alloc (.cells #[.int .i64 6, .int .i64 (-1), .int .i64 (-2)] 3)) (y1.alloc (.cells #[.int .i64 6, .int .i64 (-1), .int .i64 (-2)] 3)).heap.size (some ⟨y1.heap.size, 0, none⟩) 3 3 ⟨true, [6, -1, -2]⟩) := LitAt.lit' y1 true [6, -1, -2] (by decide)
          replace HC := Lib.hid (HC.out.on hbn)
          replace HD := Lib.hid (HD.out.on hbn)
          replace HV := Lib.hid (HV.out.on hbn)
          replace I5 := Lib.hid (I5.out.on hbn)
          obtain ⟨y2, hy2⟩ : ∃ y2, y2 = y1.alloc (.cells #[.int .i64 6, .int .i64 (-1), .int .i64 (-2)] 3) := ⟨_, rfl⟩
          rw [← hy2] at HC HD HV HY2 I7 I5 ⊢
          obtain ⟨b7, hbb⟩ : ∃ b7, b7 = y1.heap.size := ⟨_, rfl⟩
          rw [← hbb] at I7 ⊢
          clear hbn hy2 hbb p0 p1 p2 q0 q1 q2
          have p0 := HC.out.c0
          have p1 := HC.out.c1
          have p2 := HC.out.c2
          have q0 := HD.out.c0
          have q1 := HD.out.c1
          have q2 := HD.out.c2
          refine hK.out _ _ ?_ (fun hHeld => ?_)
          · exact ⟨p0, p1, p2, q0, q1, q2⟩
          clear hK K
          refine takeH (i := 8) (v := ?_) rfl rfl (by as_aux_lemma => kernel_rfl) (by as_aux_lemma => kernel_rfl) (by as_aux_lemma => kernel_rfl) (fun _ _ _ h => h) (by rfl) ?_ hHeld ?_
          rotate_left
          · (intro w hSw; (try dsimp only at hSw); first | (go_simp; done) | (go_simp; with_reducible rfl))
          simp only [Act.put, List.setIfInBounds_toArray, List.set_cons_zero, List.set_cons_succ]
          refine wpAnyH_ready (rs := [9, 10]) (by as_aux_lemma => kernel_rfl) (by simp) ?_
          refine AllReadyH.cons rfl (fun K hK => ?_) (AllReadyH.cons rfl (fun K hK => ?_) AllReadyH.nil)
          · go_simp
            have hbn := below_new y2 (.cells #[.bool false, .slice (some ⟨b5, 0, none⟩) 2 2, .bool true, .slice (some ⟨b7, 0, none⟩) 3 3] 44)
            have HY3 := Lib.hid (HY2.out.trans (hbn.mono HY2.out.size))
            have L9 : Hid (LitsAt (y2.alloc (.cells #[.bool false, .slice (some ⟨b5, 0, none⟩) 2 2, .bool true, .slice (some ⟨b7, 0, none⟩) 3 3] 44)) (y2.alloc (.cells #[.bool false, .slice (some ⟨b5, 0, none⟩) 2 2, .bool true, .slice (some ⟨b7, 0, none⟩) 3 3] 44)).heap.size (some ⟨y2.heap.size, 0, none⟩) 2 [⟨false, [5, -1]⟩, ⟨true, [6, -1, -2]⟩]) := LitsAt.of2 I5.out I7.out
            replace HC := Lib.hid (HC.out.on hbn)
            replace HD := Lib.hid (HD.out.on hbn)
            replace HV := Lib.hid (HV.out.on hbn)
            replace I5 := Lib.hid (I5.out.on hbn)
            replace I7 := Lib.hid (I7.out.on hbn)
            obtain ⟨y3, hy3⟩ : ∃ y3, y3 = y2.alloc (.cells #[.bool false, .slice (some ⟨b5, 0, none⟩) 2 2, .bool true, .slice (some ⟨b7, 0, none⟩) 3 3] 44) := ⟨_, rfl⟩
            rw [← hy3] at HC HD HV HY3 L9 I5 I7 ⊢
            obtain ⟨b9, hbb⟩ : ∃ b9, b9 = y2.heap.size := ⟨_, rfl⟩
            rw [← hbb] at L9 ⊢
            clear hbn hy3 hbb p0 p1 p2 q0 q1 q2
            have p0 := HC.out.c0
            have p1 := HC.out.c1
            have p2 := HC.out.c2
            have q0 := HD.out.c0
            have q1 := HD.out.c1
            have q2 := HD.out.c2
            refine hK.out _ _ ?_ (fun hHeld => ?_)
            · exact ⟨p0, p1, p2, q0, q1, q2⟩
            clear hK K
            refine wpAnyH_ready (rs := [10]) (by as_aux_lemma => kernel_rfl) (by simp) ?_
            refine AllReadyH.cons rfl (fun K hK => ?_) AllReadyH.nil
            go_simp
            have hbn := below_new y3 (.cells #[.int .i64 (-2)] 3)
            have HY4 := Lib.hid (HY3.out.trans (hbn.mono HY3.out.size))
            have I10 : Hid (RowIn (y3.alloc (.cells #[.int .i64 (-2)] 3)) (y3.alloc (.cells #[.int .i64 (-2)] 3)).heap.size (some ⟨y3.heap.size, 0, none⟩) 1 1 [-2]) := RowIn.lit' y3 [-2] (by decide)
            replace HC := Lib.hid (HC.out.on hbn)
            replace HD := Lib.hid (HD.out.on hbn)
            replace HV := Lib.hid (HV.out.on hbn)
            replace I5 := Lib.hid (I5.out.on hbn)
            replace I7 := Lib.hid (I7.out.on hbn)
            replace L9 := Lib.hid (L9.out.on hbn)
            obtain ⟨y4, hy4⟩ : ∃ y4, y4 = y3.alloc (.cells #[.int .i64 (-2)] 3) := ⟨_, rfl⟩
            rw [← hy4] at HC HD HV HY4 I10 I5 I7 L9 ⊢
            obtain ⟨b10, hbb⟩ : ∃ b10, b10 = y3.heap.size := ⟨_, rfl⟩
            rw [← hbb] at I10 ⊢
            clear hbn hy4 hbb p0 p1 p2 q0 q1 q2
            have p0 := HC.out.c0
            have p1 := HC.out.c1
            have p2 := HC.out.c2
            have q0 := HD.out.c0
            have q1 := HD.out.c1
            have q2 := HD.out.c2
            refine hK.out _ _ ?_ (fun hHeld => ?_)
            · exact ⟨p0, p1, p2, q0, q1, q2⟩
            clear hK K
            refine wpAnyH_ready (rs := [11]) (by as_aux_lemma => kernel_rfl) (by simp) ?_
            refine AllReadyH.cons rfl (fun K hK => ?_) AllReadyH.nil
            go_simp
            have hbn := below_new y4 (.cells #[.slice (some ⟨b10, 0, none⟩) 1 1] 27)
            have HY5 := Lib.hid (HY4.out.trans (hbn.mono HY4.out.size))
            have T11 : Hid (TupsAt (y4.alloc (.cells #[.slice (some ⟨b10, 0, none⟩) 1 1] 27)) (y4.alloc (.cells #[.slice (some ⟨b10, 0, none⟩) 1 1] 27)).heap.size (some ⟨y4.heap.size, 0, none⟩) 1 [[-2]]) := TupsAt.of1 I10.out (fun q => by cases q)
            replace HC := Lib.hid (HC.out.on hbn)
            replace HD := Lib.hid (HD.out.on hbn)
            replace HV := Lib.hid (HV.out.on hbn)
            replace I5 := Lib.hid (I5.out.on hbn)
            replace I7 := Lib.hid (I7.out.on hbn)
            replace L9 := Lib.hid (L9.out.on hbn)
            replace I10 := Lib.hid (I10.out.on hbn)
            obtain ⟨y5, hy5⟩ : ∃ y5, y5 = y4.alloc (.cells #[.slice (some ⟨b10, 0, none⟩) 1 1] 27) := ⟨_, rfl⟩
            rw [← hy5] at HC HD HV HY5 T11 I5 I7 L9 I10 ⊢
            obtain ⟨b11, hbb⟩ : ∃ b11, b11 = y4.heap.size := ⟨_, rfl⟩
            rw [← hbb] at T11 ⊢
            clear hbn hy5 hbb p0 p1 p2 q0 q1 q2
            have p0 := HC.out.c0
            have p1 := HC.out.c1
            have p2 := HC.out.c2
            have q0 := HD.out.c0
            have q1 := HD.out.c1
            have q2 := HD.out.c2
            refine hK.out _ _ ?_ (fun hHeld => ?_)
            · exact ⟨p0, p1, p2, q0, q1, q2⟩
            clear hK K
            refine takeH (i := 12) (v := ?_) rfl rfl (by as_aux_lemma => kernel_rfl) (by as_aux_lemma => kernel_rfl) (by as_aux_lemma => kernel_rfl) (fun _ _ _ h => h) (by rfl) ?_ hHeld ?_
            rotate_left
            · (intro w hSw; (try dsimp only at hSw); first | (go_simp; done) | (go_simp; with_reducible rfl))
            simp only [Act.put, List.setIfInBounds_toArray, List.set_cons_zero, List.set_cons_succ]
            have hcl : ClAt y5 y5.heap.size ⟨some ⟨b9, 0, none⟩, 2, 2, some ⟨b11, 0, none⟩, 1, 1, none, 0, 0⟩ awD := ClAt.ofTwo L9.out T11.out (by decide) (by decide) (by simp)
            have HCL : Hid (Calls Try.prog 16 #[.agg #[.slice x.A1 x.n1 x.c1, .slice x.A2 x.n2 x.c2, .slice x.A3 x.n3 x.c3], .agg #[.slice (some ⟨b9, 0, none⟩) 2 2, .slice (some ⟨b11, 0, none⟩) 1 1, .slice none 0 0]] y5 fun e w' => e = .returned (.bool true) ∧ Below y5.heap.size y5 w') := sameClause_true x ⟨some ⟨b9, 0, none⟩, 2, 2, some ⟨b11, 0, none⟩, 1, 1, none, 0, 0⟩ awD y5 HD.out.cl hcl
            clear hcl
            refine wpAnyH_ready (rs := [13]) (by as_aux_lemma => kernel_rfl) (by simp) ?_
            refine AllReadyH.cons rfl (fun K hK => ?_) AllReadyH.nil
            go_simp
            refine HCL.out.mono ?_
            rintro e y6 ⟨rfl, hb6⟩
            have HY6 := Lib.hid (HY5.out.trans (hb6.mono HY5.out.size))
            replace HC := Lib.hid (HC.out.on hb6)
            replace HD := Lib.hid (HD.out.on hb6)
            replace HV := Lib.hid (HV.out.on hb6)
            clear hb6 HCL p0 p1 p2 q0 q1 q2
            have p0 := HC.out.c0
            have p1 := HC.out.c1
            have p2 := HC.out.c2
            have q0 := HD.out.c0
            have q1 := HD.out.c1
            have q2 := HD.out.c2
            go_wp2_with fail
            refine hK.out _ _ ?_ (fun hHeld => ?_)
            · exact ⟨p0, p1, p2, q0, q1, q2⟩
            exact HT _ _ ⟨⟨rfl, rfl, rfl, rfl, rfl, rfl, rfl, rfl, rfl, rfl, rfl, rfl, rfl, rfl⟩, HC.out, HD.out, HV.out, HY6.out⟩ ⟨p0, p1, p2, q0, q1, q2⟩
          · go_simp
            have hbn := below_new y2 (.cells #[.int .i64 (-2)] 3)
            have HY3 := Lib.hid (HY2.out.trans (hbn.mono HY2.out.size))
            have I10 : Hid (RowIn (y2.alloc (.cells #[.int .i64 (-2)] 3)) (y2.alloc (.cells #[.int .i64 (-2)] 3)).heap.size (some ⟨y2.heap.size, 0, none⟩) 1 1 [-2]) := RowIn.lit' y2 [-2] (by decide)
            replace HC := Lib.hid (HC.out.on hbn)
            replace HD := Lib.hid (HD.out.on hbn)
            replace HV := Lib.hid (HV.out.on hbn)
            replace I5 := Lib.hid (I5.out.on hbn)
            replace I7 := Lib.hid (I7.out.on hbn)
            obtain ⟨y3, hy3⟩ : ∃ y3, y3 = y2.alloc (.cells #[.int .i64 (-2)] 3) := ⟨_, rfl⟩
            rw [← hy3] at HC HD HV HY3 I10 I5 I7 ⊢
            obtain ⟨b10, hbb⟩ : ∃ b10, b10 = y2.heap.size := ⟨_, rfl⟩
            rw [← hbb] at I10 ⊢
            clear hbn hy3 hbb p0 p1 p2 q0 q1 q2
            have p0 := HC.out.c0
            have p1 := HC.out.c1
            have p2 := HC.out.c2
            have q0 := HD.out.c0
            have q1 := HD.out.c1
            have q2 := HD.out.c2
            refine hK.out _ _ ?_ (fun hHeld => ?_)
            · exact ⟨p0, p1, p2, q0, q1, q2⟩
            clear hK K
            refine wpAnyH_ready (rs := [9, 11]) (by as_aux_lemma => kernel_rfl) (by simp) ?_
            refine AllReadyH.cons rfl (fun K hK => ?_) (AllReadyH.cons rfl (fun K hK => ?_) AllReadyH.nil)
            · go_simp
              have hbn := below_new y3 (.cells #[.bool false, .slice (some ⟨b5, 0, none⟩) 2 2, .bool true, .slice (some ⟨b7, 0, none⟩) 3 3] 44)
              have HY4 := Lib.hid (HY3.out.trans (hbn.mono HY3.out.size))
              have L9 : Hid (LitsAt (y3.alloc (.cells #[.bool false, .slice (some ⟨b5, 0, none⟩) 2 2, .bool true, .slice (some ⟨b7, 0, none⟩) 3 3] 44)) (y3.alloc (.cells #[.bool false, .slice (some ⟨b5, 0, none⟩) 2 2, .bool true, .slice (some ⟨b7, 0, none⟩) 3 3] 44)).heap.size (some ⟨y3.heap.size, 0, none⟩) 2 [⟨false, [5, -1]⟩, ⟨true, [6, -1, -2]⟩]) := LitsAt.of2 I5.out I7.out
              replace HC := Lib.hid (HC.out.on hbn)
              replace HD := Lib.hid (HD.out.on hbn)
              replace HV := Lib.hid (HV.out.on hbn)
              replace I5 := Lib.hid (I5.out.on hbn)
              replace I7 := Lib.hid (I7.out.on hbn)
              replace I10 := Lib.hid (I10.out.on hbn)
              obtain ⟨y4, hy4⟩ : ∃ y4, y4 = y3.alloc (.cells #[.bool false, .slice (some ⟨b5, 0, none⟩) 2 2, .bool true, .slice (some ⟨b7, 0, none⟩) 3 3] 44) := ⟨_, rfl⟩
              rw [← hy4] at HC HD HV HY4 L9 I5 I7 I10 ⊢
              obtain ⟨b9, hbb⟩ : ∃ b9, b9 = y3.heap.size := ⟨_, rfl⟩
              rw [← hbb] at L9 ⊢
              clear hbn hy4 hbb p0 p1 p2 q0 q1 q2
              have p0 := HC.out.c0
              have p1 := HC.out.c1
              have p2 := HC.out.c2
              have q0 := HD.out.c0
              have q1 := HD.out.c1
              have q2 := HD.out.c2
              refine hK.out _ _ ?_ (fun hHeld => ?_)
              · exact ⟨p0, p1, p2, q0, q1, q2⟩
              clear hK K
              refine wpAnyH_ready (rs := [11]) (by as_aux_lemma => kernel_rfl) (by simp) ?_
              refine AllReadyH.cons rfl (fun K hK => ?_) AllReadyH.nil
              go_simp
              have hbn := below_new y4 (.cells #[.slice (some ⟨b10, 0, none⟩) 1 1] 27)
              have HY5 := Lib.hid (HY4.out.trans (hbn.mono HY4.out.size))
              have T11 : Hid (TupsAt (y4.alloc (.cells #[.slice (some ⟨b10, 0, none⟩) 1 1] 27)) (y4.alloc (.cells #[.slice (some ⟨b10, 0, none⟩) 1 1] 27)).heap.size (some ⟨y4.heap.size, 0, none⟩) 1 [[-2]]) := TupsAt.of1 I10.out (fun q => by cases q)
              replace HC := Lib.hid (HC.out.on hbn)
              replace HD := Lib.hid (HD.out.on hbn)
              replace HV := Lib.hid (HV.out.on hbn)
              replace I5 := Lib.hid (I5.out.on hbn)
              replace I7 := Lib.hid (I7.out.on hbn)
              replace I10 := Lib.hid (I10.out.on hbn)
              replace L9 := Lib.hid (L9.out.on hbn)
              obtain ⟨y5, hy5⟩ : ∃ y5, y5 = y4.alloc (.cells #[.slice (some ⟨b10, 0, none⟩) 1 1] 27) := ⟨_, rfl⟩
              rw [← hy5] at HC HD HV HY5 T11 I5 I7 I10 L9 ⊢
              obtain ⟨b11, hbb⟩ : ∃ b11, b11 = y4.heap.size := ⟨_, rfl⟩
              rw [← hbb] at T11 ⊢
              clear hbn hy5 hbb p0 p1 p2 q0 q1 q2
              have p0 := HC.out.c0
              have p1 := HC.out.c1
              have p2 := HC.out.c2
              have q0 := HD.out.c0
              have q1 := HD.out.c1
              have q2 := HD.out.c2
              refine hK.out _ _ ?_ (fun hHeld => ?_)
              · exact ⟨p0, p1, p2, q0, q1, q2⟩
              clear hK K
              refine takeH (i := 12) (v := ?_) rfl rfl (by as_aux_lemma => kernel_rfl) (by as_aux_lemma => kernel_rfl) (by as_aux_lemma => kernel_rfl) (fun _ _ _ h => h) (by rfl) ?_ hHeld ?_
              rotate_left
              · (intro w hSw; (try dsimp only at hSw); first | (go_simp; done) | (go_simp; with_reducible rfl))
              simp only [Act.put, List.setIfInBounds_toArray, List.set_cons_zero, List.set_cons_succ]
              have hcl : ClAt y5 y5.heap.size ⟨some ⟨b9, 0, none⟩, 2, 2, some ⟨b11, 0, none⟩, 1, 1, none, 0, 0⟩ awD := ClAt.ofTwo L9.out T11.out (by decide) (by decide) (by simp)
              have HCL : Hid (Calls Try.prog 16 #[.agg #[.slice x.A1 x.n1 x.c1, .slice x.A2 x.n2 x.c2, .slice x.A3 x.n3 x.c3], .agg #[.slice (some ⟨b9, 0, none⟩) 2 2, .slice (some ⟨b11, 0, none⟩) 1 1, .slice none 0 0]] y5 fun e w' => e = .returned (.bool true) ∧ Below y5.heap.size y5 w') := sameClause_true x ⟨some ⟨b9, 0, none⟩, 2, 2, some ⟨b11, 0, none⟩, 1, 1, none, 0, 0⟩ awD y5 HD.out.cl hcl
              clear hcl
              refine wpAnyH_ready (rs := [13]) (by as_aux_lemma => kernel_rfl) (by simp) ?_
              refine AllReadyH.cons rfl (fun K hK => ?_) AllReadyH.nil
              go_simp
              refine HCL.out.mono ?_
              rintro e y6 ⟨rfl, hb6⟩
              have HY6 := Lib.hid (HY5.out.trans (hb6.mono HY5.out.size))
              replace HC := Lib.hid (HC.out.on hb6)
              replace HD := Lib.hid (HD.out.on hb6)
              replace HV := Lib.hid (HV.out.on hb6)
              clear hb6 HCL p0 p1 p2 q0 q1 q2
              have p0 := HC.out.c0
              have p1 := HC.out.c1
              have p2 := HC.out.c2
              have q0 := HD.out.c0
              have q1 := HD.out.c1
              have q2 := HD.out.c2
              go_wp2_with fail
              refine hK.out _ _ ?_ (fun hHeld => ?_)
              · exact ⟨p0, p1, p2, q0, q1, q2⟩
              exact HT _ _ ⟨⟨rfl, rfl, rfl, rfl, rfl, rfl, rfl, rfl, rfl, rfl, rfl, rfl, rfl, rfl⟩, HC.out, HD.out, HV.out, HY6.out⟩ ⟨p0, p1, p2, q0, q1, q2⟩
            · go_simp
              have hbn := below_new y3 (.cells #[.slice (some ⟨b10, 0, none⟩) 1 1] 27)
              have HY4 := Lib.hid (HY3.out.trans (hbn.mono HY3.out.size))
              have T11 : Hid (TupsAt (y3.alloc (.cells #[.slice (some ⟨b10, 0, none⟩) 1 1] 27)) (y3.alloc (.cells #[.slice (some ⟨b10, 0, none⟩) 1 1] 27)).heap.size (some ⟨y3.heap.size, 0, none⟩) 1 [[-2]]) := TupsAt.of1 I10.out (fun q => by cases q)
              replace HC := Lib.hid (HC.out.on hbn)
              replace HD := Lib.hid (HD.out.on hbn)
              replace HV := Lib.hid (HV.out.on hbn)
              replace I5 := Lib.hid (I5.out.on hbn)
              replace I7 := Lib.hid (I7.out.on hbn)
              replace I10 := Lib.hid (I10.out.on hbn)
              obtain ⟨y4, hy4⟩ : ∃ y4, y4 = y3.alloc (.cells #[.slice (some ⟨b10, 0, none⟩) 1 1] 27) := ⟨_, rfl⟩
              rw [← hy4] at HC HD HV HY4 T11 I5 I7 I10 ⊢
              obtain ⟨b11, hbb⟩ : ∃ b11, b11 = y3.heap.size := ⟨_, rfl⟩
              rw [← hbb] at T11 ⊢
              clear hbn hy4 hbb p0 p1 p2 q0 q1 q2
              have p0 := HC.out.c0
              have p1 := HC.out.c1
              have p2 := HC.out.c2
              have q0 := HD.out.c0
              have q1 := HD.out.c1
              have q2 := HD.out.c2
              refine hK.out _ _ ?_ (fun hHeld => ?_)
              · exact ⟨p0, p1, p2, q0, q1, q2⟩
              clear hK K
              refine wpAnyH_ready (rs := [9]) (by as_aux_lemma => kernel_rfl) (by simp) ?_
              refine AllReadyH.cons rfl (fun K hK => ?_) AllReadyH.nil
              go_simp
              have hbn := below_new y4 (.cells #[.bool false, .slice (some ⟨b5, 0, none⟩) 2 2, .bool true, .slice (some ⟨b7, 0, none⟩) 3 3] 44)
              have HY5 := Lib.hid (HY4.out.trans (hbn.mono HY4.out.size))
              have L9 : Hid (LitsAt (y4.alloc (.cells #[.bool false, .slice (some ⟨b5, 0, none⟩) 2 2, .bool true, .slice (some ⟨b7, 0, none⟩) 3 3] 44)) (y4.alloc (.cells #[.bool false, .slice (some ⟨b5, 0, none⟩) 2 2, .bool true, .slice (some ⟨b7, 0, none⟩) 3 3] 44)).heap.size (some ⟨y4.heap.size, 0, none⟩) 2 [⟨false, [5, -1]⟩, ⟨true, [6, -1, -2]⟩]) := LitsAt.of2 I5.out I7.out
              replace HC := Lib.hid (HC.out.on hbn)
              replace HD := Lib.hid (HD.out.on hbn)
              replace HV := Lib.hid (HV.out.on hbn)
              replace I5 := Lib.hid (I5.out.on hbn)
              replace I7 := Lib.hid (I7.out.on hbn)
              replace I10 := Lib.hid (I10.out.on hbn)
              replace T11 := Lib.hid (T11.out.on hbn)
              obtain ⟨y5, hy5⟩ : ∃ y5, y5 = y4.alloc (.cells #[.bool false, .slice (some ⟨b5, 0, none⟩) 2 2, .bool true, .slice (some ⟨b7, 0, none⟩) 3 3] 44) := ⟨_, rfl⟩
              rw [← hy5] at HC HD HV HY5 L9 I5 I7 I10 T11 ⊢
              obtain ⟨b9, hbb⟩ : ∃ b9, b9 = y4.heap.size := ⟨_, rfl⟩
              rw [← hbb] at L9 ⊢
              clear hbn hy5 hbb p0 p1 p2 q0 q1 q2
              have p0 := HC.out.c0
              have p1 := HC.out.c1
              have p2 := HC.out.c2
              have q0 := HD.out.c0
              have q1 := HD.out.c1
              have q2 := HD.out.c2
              refine hK.out _ _ ?_ (fun hHeld => ?_)
              · exact ⟨p0, p1, p2, q0, q1, q2⟩
              clear hK K
              refine takeH (i := 12) (v := ?_) rfl rfl (by as_aux_lemma => kernel_rfl) (by as_aux_lemma => kernel_rfl) (by as_aux_lemma => kernel_rfl) (fun _ _ _ h => h) (by rfl) ?_ hHeld ?_
              rotate_left
              · (intro w hSw; (try dsimp only at hSw); first | (go_simp; done) | (go_simp; with_reducible rfl))
              simp only [Act.put, List.setIfInBounds_toArray, List.set_cons_zero, List.set_cons_succ]
              have hcl : ClAt y5 y5.heap.size ⟨some ⟨b9, 0, none⟩, 2, 2, some ⟨b11, 0, none⟩, 1, 1, none, 0, 0⟩ awD := ClAt.ofTwo L9.out T11.out (by decide) (by decide) (by simp)
              have HCL : Hid (Calls Try.prog 16 #[.agg #[.slice x.A1 x.n1 x.c1, .slice x.A2 x.n2 x.c2, .slice x.A3 x.n3 x.c3], .agg #[.slice (some ⟨b9, 0, none⟩) 2 2, .slice (some ⟨b11, 0, none⟩) 1 1, .slice none 0 0]] y5 fun e w' => e = .returned (.bool true) ∧ Below y5.heap.size y5 w') := sameClause_true x ⟨some ⟨b9, 0, none⟩, 2, 2, some ⟨b11, 0, none⟩, 1, 1, none, 0, 0⟩ awD y5 HD.out.cl hcl
              clear hcl
              refine wpAnyH_ready (rs := [13]) (by as_aux_lemma => kernel_rfl) (by simp) ?_
              refine AllReadyH.cons rfl (fun K hK => ?_) AllReadyH.nil
              go_simp
              refine HCL.out.mono ?_
              rintro e y6 ⟨rfl, hb6⟩
              have HY6 := Lib.hid (HY5.out.trans (hb6.mono HY5.out.size))
              replace HC := Lib.hid (HC.out.on hb6)
              replace HD := Lib.hid (HD.out.on hb6)
              replace HV := Lib.hid (HV.out.on hb6)
              clear hb6 HCL p0 p1 p2 q0 q1 q2
              have p0 := HC.out.c0
              have p1 := HC.out.c1
              have p2 := HC.out.c2
              have q0 := HD.out.c0
              have q1 := HD.out.c1
              have q2 := HD.out.c2
              go_wp2_with fail
              refine hK.out _ _ ?_ (fun hHeld => ?_)
              · exact ⟨p0, p1, p2, q0, q1, q2⟩
              exact HT _ _ ⟨⟨rfl, rfl, rfl, rfl, rfl, rfl, rfl, rfl, rfl, rfl, rfl, rfl, rfl, rfl⟩, HC.out, HD.out, HV.out, HY6.out⟩ ⟨p0, p1, p2, q0, q1, q2⟩
        · go_simp
          have hbn := below_new y1 (.cells #[.int .i64 (-2)] 3)
          have HY2 := Lib.hid (HY1.out.trans (hbn.mono HY1.out.size))
          have I10 : Hid (RowIn (y1.alloc (.cells #[.int .i64 (-2)] 3)) (y1.alloc (.cells #[.int .i64 (-2)] 3)).heap.size (some ⟨y1.heap.size, 0, none⟩) 1 1 [-2]) := RowIn.lit' y1 [-2] (by decide)
          replace HC := Lib.hid (HC.out.on hbn)
          replace HD := Lib.hid (HD.out.on hbn)
          replace HV := Lib.hid (HV.out.on hbn)
          replace I5 := Lib.hid (I5.out.on hbn)
          obtain ⟨y2, hy2⟩ : ∃ y2, y2 = y1.alloc (.cells #[.int .i64 (-2)] 3) := ⟨_, rfl⟩
          rw [← hy2] at HC HD HV HY2 I10 I5 ⊢
          obtain ⟨b10, hbb⟩ : ∃ b10, b10 = y1.heap.size := ⟨_, rfl⟩
          rw [← hbb] at I10 ⊢
          clear hbn hy2 hbb p0 p1 p2 q0 q1 q2
          have p0 := HC.out.c0
          have p1 := HC.out.c1
          have p2 := HC.out.c2
          have q0 := HD.out.c0
          have q1 := HD.out.c1
          have q2 := HD.out.c2
          refine hK.out _ _ ?_ (fun hHeld => ?_)
          · exact ⟨p0, p1, p2, q0, q1, q2⟩
          clear hK K
          refine wpAnyH_ready (rs := [7, 11]) (by as_aux_lemma => kernel_rfl) (by simp) ?_
          refine AllReadyH.cons rfl (fun K hK => ?_) (AllReadyH.cons rfl (fun K hK => ?_) AllReadyH.nil)
          · go_simp
            have hbn := below_new y2 (.cells #[.int .i64 6, .int .i64 (-1), .int .i64 (-2)] 3)
            have HY3 := Lib.hid (HY2.out.trans (hbn.mono HY2.out.size))
            have I7 : Hid (LitAt (y2.alloc (.cells #[.int .i64 6, .int .i64 (-1), .int .i64 (-2)] 3)) (y2.alloc (.cells #[.int .i64 6, .int .i64 (-1), .int .i64 (-2)] 3)).heap.size (some ⟨y2.heap.size, 0, none⟩) 3 3 ⟨true, [6, -1, -2]⟩) := LitAt.lit' y2 true [6, -1, -2] (by decide)
            replace HC := Lib.hid (HC.out.on hbn)
            replace HD := Lib.hid (HD.out.on hbn)
            replace HV := Lib.hid (HV.out.on hbn)
            replace I5 := Lib.hid (I5.out.on hbn)
            replace I10 := Lib.hid (I10.out.on hbn)
            obtain ⟨y3, hy3⟩ : ∃ y3, y3 = y2.alloc (.cells #[.int .i64 6, .int .i64 (-1), .int .i64 (-2)] 3) := ⟨_, rfl⟩
            rw [← hy3] at HC HD HV HY3 I7 I5 I10 ⊢
            obtain ⟨b7, hbb⟩ : ∃ b7, b7 = y2.heap.size := ⟨_, rfl⟩
            rw [← hbb] at I7 ⊢
            clear hbn hy3 hbb p0 p1 p2 q0 q1 q2
            have p0 := HC.out.c0
            have p1 := HC.out.c1
            have p2 := HC.out.c2
            have q0 := HD.out.c0
            have q1 := HD.out.c1
            have q2 := HD.out.c2
            refine hK.out _ _ ?_ (fun hHeld => ?_)
            · exact ⟨p0, p1, p2, q0, q1, q2⟩
            clear hK K
            refine takeH (i := 8) (v := ?_) rfl rfl (by as_aux_lemma => kernel_rfl) (by as_aux_lemma => kernel_rfl) (by as_aux_lemma => kernel_rfl) (fun _ _ _ h => h) (by rfl) ?_ hHeld ?_
            rotate_left
            · (intro w hSw; (try dsimp only at hSw); first | (go_simp; done) | (go_simp; with_reducible rfl))
            simp only [Act.put, List.setIfInBounds_toArray, List.set_cons_zero, List.set_cons_succ]
            refine wpAnyH_ready (rs := [9, 11]) (by as_aux_lemma => kernel_rfl) (by simp) ?_
            refine AllReadyH.cons rfl (fun K hK => ?_) (AllReadyH.cons rfl (fun K hK => ?_) AllReadyH.nil)
            · go_simp
              have hbn := below_new y3 (.cells #[.bool false, .slice (some ⟨b5, 0, none⟩) 2 2, .bool true, .slice (some ⟨b7, 0, none⟩) 3 3] 44)
              have HY4 := Lib.hid (HY3.out.trans (hbn.mono HY3.out.size))
              have L9 : Hid (LitsAt (y3.alloc (.cells #[.bool false, .slice (some ⟨b5, 0, none⟩) 2 2, .bool true, .slice (some ⟨b7, 0, none⟩) 3 3] 44)) (y3.alloc (.cells #[.bool false, .slice (some ⟨b5, 0, none⟩) 2 2, .bool true, .slice (some ⟨b7, 0, none⟩) 3 3] 44)).heap.size (some ⟨y3.heap.size, 0, none⟩) 2 [⟨false, [5, -1]⟩, ⟨true, [6, -1, -2]⟩]) := LitsAt.of2 I5.out I7.out
              replace HC := Lib.hid (HC.out.on hbn)
              replace HD := Lib.hid (HD.out.on hbn)
              replace HV := Lib.hid (HV.out.on hbn)
              replace I5 := Lib.hid (I5.out.on hbn)
              replace I10 := Lib.hid (I10.out.on hbn)
              replace I7 := Lib.hid (I7.out.on hbn)
              obtain ⟨y4, hy4⟩ : ∃ y4, y4 = y3.alloc (.cells #[.bool false, .slice (some ⟨b5, 0, none⟩) 2 2, .bool true, .slice (some ⟨b7, 0, none⟩) 3 3] 44) := ⟨_, rfl⟩
              rw [← hy4] at HC HD HV HY4 L9 I5 I10 I7 ⊢
              obtain ⟨b9, hbb⟩ : ∃ b9, b9 = y3.heap.size := ⟨_, rfl⟩
              rw [← hbb] at L9 ⊢
              clear hbn hy4 hbb p0 p1 p2 q0 q1 q2
              have p0 := HC.out.c0
              have p1 := HC.out.c1
              have p2 := HC.out.c2
              have q0 := HD.out.c0
              have q1 := HD.out.c1
              have q2 := HD.out.c2
              refine hK.out _ _ ?_ (fun hHeld => ?_)
              · exact ⟨p0, p1, p2, q0, q1, q2⟩
              clear hK K
              refine wpAnyH_ready (rs := [11]) (by as_aux_lemma => kernel_rfl) (by simp) ?_
              refine AllReadyH.cons rfl (fun K hK => ?_) AllReadyH.nil
              go_simp
              have hbn := below_new y4 (.cells #[.slice (some ⟨b10, 0, none⟩) 1 1] 27)
              have HY5 := Lib.hid (HY4.out.trans (hbn.mono HY4.out.size))
              have T11 : Hid (TupsAt (y4.alloc (.cells #[.slice (some ⟨b10, 0, none⟩) 1 1] 27)) (y4.alloc (.cells #[.slice (some ⟨b10, 0, none⟩) 1 1] 27)).heap.size (some ⟨y4.heap.size, 0, none⟩) 1 [[-2]]) := TupsAt.of1 I10.out (fun q => by cases q)
              replace HC := Lib.hid (HC.out.on hbn)
              replace HD := Lib.hid (HD.out.on hbn)
              replace HV := Lib.hid (HV.out.on hbn)
              replace I5 := Lib.hid (I5.out.on hbn)
              replace I10 := Lib.hid (I10.out.on hbn)
              replace I7 := Lib.hid (I7.out.on hbn)
              replace L9 := Lib.hid (L9.out.on hbn)
              obtain ⟨y5, hy5⟩ : ∃ y5, y5 = y4.alloc (.cells #[.slice (some ⟨b10, 0, none⟩) 1 1] 27) := ⟨_, rfl⟩
              rw [← hy5] at HC HD HV HY5 T11 I5 I10 I7 L9 ⊢
              obtain ⟨b11, hbb⟩ : ∃ b11, b11 = y4.heap.size := ⟨_, rfl⟩
              rw [← hbb] at T11 ⊢
              clear hbn hy5 hbb p0 p1 p2 q0 q1 q2
              have p0 := HC.out.c0
              have p1 := HC.out.c1
              have p2 := HC.out.c2
              have q0 := HD.out.c0
              have q1 := HD.out.c1
              have q2 := HD.out.c2
              refine hK.out _ _ ?_ (fun hHeld => ?_)
              · exact ⟨p0, p1, p2, q0, q1, q2⟩
              clear hK K
              refine takeH (i := 12) (v := ?_) rfl rfl (by as_aux_lemma => kernel_rfl) (by as_aux_lemma => kernel_rfl) (by as_aux_lemma => kernel_rfl) (fun _ _ _ h => h) (by rfl) ?_ hHeld ?_
              rotate_left
              · (intro w hSw; (try dsimp only at hSw); first | (go_simp; done) | (go_simp; with_reducible rfl))
              simp only [Act.put, List.setIfInBounds_toArray, List.set_cons_zero, List.set_cons_succ]
              have hcl : ClAt y5 y5.heap.size ⟨some ⟨b9, 0, none⟩, 2, 2, some ⟨b11, 0, none⟩, 1, 1, none, 0, 0⟩ awD := ClAt.ofTwo L9.out T11.out (by decide) (by decide) (by simp)
              have HCL : Hid (Calls Try.prog 16 #[.agg #[.slice x.A1 x.n1 x.c1, .slice x.A2 x.n2 x.c2, .slice x.A3 x.n3 x.c3], .agg #[.slice (some ⟨b9, 0, none⟩) 2 2, .slice (some ⟨b11, 0, none⟩) 1 1, .slice none 0 0]] y5 fun e w' => e = .returned (.bool true) ∧ Below y5.heap.size y5 w') := sameClause_true x ⟨some ⟨b9, 0, none⟩, 2, 2, some ⟨b11, 0, none⟩, 1, 1, none, 0, 0⟩ awD y5 HD.out.cl hcl
              clear hcl
              refine wpAnyH_ready (rs := [13]) (by as_aux_lemma => kernel_rfl) (by simp) ?_
              refine AllReadyH.cons rfl (fun K hK => ?_) AllReadyH.nil
              go_simp
              refine HCL.out.mono ?_
              rintro e y6 ⟨rfl, hb6⟩
              have HY6 := Lib.hid (HY5.out.trans (hb6.mono HY5.out.size))
              replace HC := Lib.hid (HC.out.on hb6)
              replace HD := Lib.hid (HD.out.on hb6)
              replace HV := Lib.hid (HV.out.on hb6)
              clear hb6 HCL p0 p1 p2 q0 q1 q2
              have p0 := HC.out.c0
              have p1 := HC.out.c1
              have p2 := HC.out.c2
              have q0 := HD.out.c0
              have q1 := HD.out.c1
              have q2 := HD.out.c2
              go_wp2_with fail
              refine hK.out _ _ ?_ (fun hHeld => ?_)
              · exact ⟨p0, p1, p2, q0, q1, q2⟩
              exact HT _ _ ⟨⟨rfl, rfl, rfl, rfl, rfl, rfl, rfl, rfl, rfl, rfl, rfl, rfl, rfl, rfl⟩, HC.out, HD.out, HV.out, HY6.out⟩ ⟨p0, p1, p2, q0, q1, q2⟩
            · go_simp
              have hbn := below_new y3 (.cells #[.slice (some ⟨b10, 0, none⟩) 1 1] 27)
              have HY4 := Lib.hid (HY3.out.trans (hbn.mono HY3.out.size))
              have T11 : Hid (TupsAt (y3.alloc (.cells #[.slice (some ⟨b10, 0, none⟩) 1 1] 27)) (y3.alloc (.cells #[.slice (some ⟨b10, 0, none⟩) 1 1] 27)).heap.size (some ⟨y3.heap.size, 0, none⟩) 1 [[-2]]) := TupsAt.of1 I10.out (fun q => by cases q)
              replace HC := Lib.hid (HC.out.on hbn)
              replace HD := Lib.hid (HD.out.on hbn)
              replace HV := Lib.hid (HV.out.on hbn)
              replace I5 := Lib.hid (I5.out.on hbn)
              replace I10 := Lib.hid (I10.out.on hbn)
              replace I7 := Lib.hid (I7.out.on hbn)
              obtain ⟨y4, hy4⟩ : ∃ y4, y4 = y3.alloc (.cells #[.slice (some ⟨b10, 0, none⟩) 1 1] 27) := ⟨_, rfl⟩
              rw [← hy4] at HC HD HV HY4 T11 I5 I10 I7 ⊢
              obtain ⟨b11, hbb⟩ : ∃ b11, b11 = y3.heap.size := ⟨_, rfl⟩
              rw [← hbb] at T11 ⊢
              clear hbn hy4 hbb p0 p1 p2 q0 q1 q2
              have p0 := HC.out.c0
              have p1 := HC.out.c1
              have p2 := HC.out.c2
              have q0 := HD.out.c0
              have q1 := HD.out.c1
              have q2 := HD.out.c2
              refine hK.out _ _ ?_ (fun hHeld => ?_)
              · exact ⟨p0, p1, p2, q0, q1, q2⟩
              clear hK K
              refine wpAnyH_ready (rs := [9]) (by as_aux_lemma => kernel_rfl) (by simp) ?_
              refine AllReadyH.cons rfl (fun K hK => ?_) AllReadyH.nil
              go_simp
              have hbn := below_new y4 (.cells #[.bool false, .slice (some ⟨b5, 0, none⟩) 2 2, .bool true, .slice (some ⟨b7, 0, none⟩) 3 3] 44)
              have HY5 := Lib.hid (HY4.out.trans (hbn.mono HY4.out.size))
              have L9 : Hid (LitsAt (y4.alloc (.cells #[.bool false, .slice (some ⟨b5, 0, none⟩) 2 2, .bool true, .slice (some ⟨b7, 0, none⟩) 3 3] 44)) (y4.alloc (.cells #[.bool false, .slice (some ⟨b5, 0, none⟩) 2 2, .bool true, .slice (some ⟨b7, 0, none⟩) 3 3] 44)).heap.size (some ⟨y4.heap.size, 0, none⟩) 2 [⟨false, [5, -1]⟩, ⟨true, [6, -1, -2]⟩]) := LitsAt.of2 I5.out I7.out
              replace HC := Lib.hid (HC.out.on hbn)
              replace HD := Lib.hid (HD.out.on hbn)
              replace HV := Lib.hid (HV.out.on hbn)
              replace I5 := Lib.hid (I5.out.on hbn)
              replace I10 := Lib.hid (I10.out.on hbn)
              replace I7 := Lib.hid (I7.out.on hbn)
              replace T11 := Lib.hid (T11.out.on hbn)
              obtain ⟨y5, hy5⟩ : ∃ y5, y5 = y4.alloc (.cells #[.bool false, .slice (some ⟨b5, 0, none⟩) 2 2, .bool true, .slice (some ⟨b7, 0, none⟩) 3 3] 44) := ⟨_, rfl⟩
              rw [← hy5] at HC HD HV HY5 L9 I5 I10 I7 T11 ⊢
              obtain ⟨b9, hbb⟩ : ∃ b9, b9 = y4.heap.size := ⟨_, rfl⟩
              rw [← hbb] at L9 ⊢
              clear hbn hy5 hbb p0 p1 p2 q0 q1 q2
              have p0 := HC.out.c0
              have p1 := HC.out.c1
              have p2 := HC.out.c2
              have q0 := HD.out.c0
              have q1 := HD.out.c1
              have q2 := HD.out.c2
              refine hK.out _ _ ?_ (fun hHeld => ?_)
              · exact ⟨p0, p1, p2, q0, q1, q2⟩
              clear hK K
              refine takeH (i := 12) (v := ?_) rfl rfl (by as_aux_lemma => kernel_rfl) (by as_aux_lemma => kernel_rfl) (by as_aux_lemma => kernel_rfl) (fun _ _ _ h => h) (by rfl) ?_ hHeld ?_
              rotate_left
              · (intro w hSw; (try dsimp only at hSw); first | (go_simp; done) | (go_simp; with_reducible rfl))
              simp only [Act.put, List.setIfInBounds_toArray, List.set_cons_zero, List.set_cons_succ]
              have hcl : ClAt y5 y5.heap.size ⟨some ⟨b9, 0, none⟩, 2, 2, some ⟨b11, 0, none⟩, 1, 1, none, 0, 0⟩ awD := ClAt.ofTwo L9.out T11.out (by decide) (by decide) (by simp)
              have HCL : Hid (Calls Try.prog 16 #[.agg #[.slice x.A1 x.n1 x.c1, .slice x.A2 x.n2 x.c2, .slice x.A3 x.n3 x.c3], .agg #[.slice (some ⟨b9, 0, none⟩) 2 2, .slice (some ⟨b11, 0, none⟩) 1 1, .slice none 0 0]] y5 fun e w' => e = .returned (.bool true) ∧ Below y5.heap.size y5 w') := sameClause_true x ⟨some ⟨b9, 0, none⟩, 2, 2, some ⟨b11, 0, none⟩, 1, 1, none, 0, 0⟩ awD y5 HD.out.cl hcl
              clear hcl
              refine wpAnyH_ready (rs := [13]) (by as_aux_lemma => kernel_rfl) (by simp) ?_
              refine AllReadyH.cons rfl (fun K hK => ?_) AllReadyH.nil
              go_simp
              refine HCL.out.mono ?_
              rintro e y6 ⟨rfl, hb6⟩
              have HY6 := Lib.hid (HY5.out.trans (hb6.mono HY5.out.size))
              replace HC := Lib.hid (HC.out.on hb6)
              replace HD := Lib.hid (HD.out.on hb6)
              replace HV := Lib.hid (HV.out.on hb6)
              clear hb6 HCL p0 p1 p2 q0 q1 q2
              have p0 := HC.out.c0
              have p1 := HC.out.c1
              have p2 := HC.out.c2
              have q0 := HD.out.c0
              have q1 := HD.out.c1
              have q2 := HD.out.c2
              go_wp2_with fail
              refine hK.out _ _ ?_ (fun hHeld => ?_)
              · exact ⟨p0, p1, p2, q0, q1, q2⟩
              exact HT _ _ ⟨⟨rfl, rfl, rfl, rfl, rfl, rfl, rfl, rfl, rfl, rfl, rfl, rfl, rfl, rfl⟩, HC.out, HD.out, HV.out, HY6.out⟩ ⟨p0, p1, p2, q0, q1, q2⟩
          · go_simp
            have hbn := below_new y2 (.cells #[.slice (some ⟨b10, 0, none⟩) 1 1] 27)
            have HY3 := Lib.hid (HY2.out.trans (hbn.mono HY2.out.size))
            have T11 : Hid (TupsAt (y2.alloc (.cells #[.slice (some ⟨b10, 0, none⟩) 1 1] 27)) (y2.alloc (.cells #[.slice (some ⟨b10, 0, none⟩) 1 1] 27)).heap.size (some ⟨y2.heap.size, 0, none⟩) 1 [[-2]]) := TupsAt.of1 I10.out (fun q => by cases q)
            replace HC := Lib.hid (HC.out.on hbn)
            replace HD := Lib.hid (HD.out.on hbn)
            replace HV := Lib.hid (HV.out.on hbn)
            replace I5 := Lib.hid (I5.out.on hbn)
            replace I10 := Lib.hid (I10.out.on hbn)
            obtain ⟨y3, hy3⟩ : ∃ y3, y3 = y2.alloc (.cells #[.slice (some ⟨b10, 0, none⟩) 1 1] 27) := ⟨_, rfl⟩
            rw [← hy3] at HC HD HV HY3 T11 I5 I10 ⊢
            obtain ⟨b11, hbb⟩ : ∃ b11, b11 = y2.heap.size := ⟨_, rfl⟩
            rw [← hbb] at T11 ⊢
            clear hbn hy3 hbb p0 p1 p2 q0 q1 q2
            have p0 := HC.out.c0
            have p1 := HC.out.c1
            have p2 := HC.out.c2
            have q0 := HD.out.c0
            have q1 := HD.out.c1
            have q2 := HD.out.c2
            refine hK.out _ _ ?_ (fun hHeld => ?_)
            · exact ⟨p0, p1, p2, q0, q1, q2⟩
            clear hK K
            refine wpAnyH_ready (rs := [7]) (by as_aux_lemma => kernel_rfl) (by simp) ?_
            refine AllReadyH.cons rfl (fun K hK => ?_) AllReadyH.nil
            go_simp
            have hbn := below_new y3 (.cells #[.int .i64 6, .int .i64 (-1), .int .i64 (-2)] 3)
            have HY4 := Lib.hid (HY3.out.trans (hbn.mono HY3.out.size))
            have I7 : Hid (LitAt (y3.alloc (.cells #[.int .i64 6, .int .i64 (-1), .int .i64 (-2)] 3)) (y3.alloc (.cells #[.int .i64 6, .int .i64 (-1), .int .i64 (-2)] 3)).heap.size (some ⟨y3.heap.size, 0, none⟩) 3 3 ⟨true, [6, -1, -2]⟩) := LitAt.lit' y3 true [6, -1, -2] (by decide)
            replace HC := Lib.hid (HC.out.on hbn)
            replace HD := Lib.hid (HD.out.on hbn)
            replace HV := Lib.hid (HV.out.on hbn)
            replace I5 := Lib.hid (I5.out.on hbn)
            replace I10 := Lib.hid (I10.out.on hbn)
            replace T11 := Lib.hid (T11.out.on hbn)
            obtain ⟨y4, hy4⟩ : ∃ y4, y4 = y3.alloc (.cells #[.int .i64 6, .int .i64 (-1), .int .i64 (-2)] 3) := ⟨_, rfl⟩
            rw [← hy4] at HC HD HV HY4 I7 I5 I10 T11 ⊢
            obtain ⟨b7, hbb⟩ : ∃ b7, b7 = y3.heap.size := ⟨_, rfl⟩
            rw [← hbb] at I7 ⊢
            clear hbn hy4 hbb p0 p1 p2 q0 q1 q2
            have p0 := HC.out.c0
            have p1 := HC.out.c1
            have p2 := HC.out.c2
            have q0 := HD.out.c0
            have q1 := HD.out.c1
            have q2 := HD.out.c2
            refine hK.out _ _ ?_ (fun hHeld => ?_)
            · exact ⟨p0, p1, p2, q0, q1, q2⟩
            clear hK K
            refine takeH (i := 8) (v := ?_) rfl rfl (by as_aux_lemma => kernel_rfl) (by as_aux_lemma => kernel_rfl) (by as_aux_lemma => kernel_rfl) (fun _ _ _ h => h) (by rfl) ?_ hHeld ?_
            rotate_left
            · (intro w hSw; (try dsimp only at hSw); first | (go_simp; done) | (go_simp; with_reducible rfl))
            simp only [Act.put, List.setIfInBounds_toArray, List.set_cons_zero, List.set_cons_succ]
            refine wpAnyH_ready (rs := [9]) (by as_aux_lemma => kernel_rfl) (by simp) ?_
            refine AllReadyH.cons rfl (fun K hK => ?_) AllReadyH.nil
            go_simp
            have hbn := below_new y4 (.cells #[.bool false, .slice (some ⟨b5, 0, none⟩) 2 2, .bool true, .slice (some ⟨b7, 0, none⟩) 3 3] 44)
            have HY5 := Lib.hid (HY4.out.trans (hbn.mono HY4.out.size))
            have L9 : Hid (LitsAt (y4.alloc (.cells #[.bool false, .slice (some ⟨b5, 0, none⟩) 2 2, .bool true, .slice (some ⟨b7, 0, none⟩) 3 3] 44)) (y4.alloc (.cells #[.bool false, .slice (some ⟨b5, 0, none⟩) 2 2, .bool true, .slice (some ⟨b7, 0, none⟩) 3 3] 44)).heap.size (some ⟨y4.heap.size, 0, none⟩) 2 [⟨false, [5, -1]⟩, ⟨true, [6, -1, -2]⟩]) := LitsAt.of2 I5.out I7.out
            replace HC := Lib.hid (HC.out.on hbn)
            replace HD := Lib.hid (HD.out.on hbn)
            replace HV := Lib.hid (HV.out.on hbn)
            replace I5 := Lib.hid (I5.out.on hbn)
            replace I10 := Lib.hid (I10.out.on hbn)
            replace T11 := Lib.hid (T11.out.on hbn)
            replace I7 := Lib.hid (I7.out.on hbn)
            obtain ⟨y5, hy5⟩ : ∃ y5, y5 = y4.alloc (.cells #[.bool false, .slice (some ⟨b5, 0, none⟩) 2 2, .bool true, .slice (some ⟨b7, 0, none⟩) 3 3] 44) := ⟨_, rfl⟩
            rw [← hy5] at HC HD HV HY5 L9 I5 I10 T11 I7 ⊢
            obtain ⟨b9, hbb⟩ : ∃ b9, b9 = y4.heap.size := ⟨_, rfl⟩
            rw [← hbb] at L9 ⊢
            clear hbn hy5 hbb p0 p1 p2 q0 q1 q2
            have p0 := HC.out.c0
            have p1 := HC.out.c1
            have p2 := HC.out.c2
            have q0 := HD.out.c0
            have q1 := HD.out.c1
            have q2 := HD.out.c2
            refine hK.out _ _ ?_ (fun hHeld => ?_)
            · exact ⟨p0, p1, p2, q0, q1, q2⟩
            clear hK K
            refine takeH (i := 12) (v := ?_) rfl rfl (by as_aux_lemma => kernel_rfl) (by as_aux_lemma => kernel_rfl) (by as_aux_lemma => kernel_rfl) (fun _ _ _ h => h) (by rfl) ?_ hHeld ?_
            rotate_left
            · (intro w hSw; (try dsimp only at hSw); first | (go_simp; done) | (go_simp; with_reducible rfl))
            simp only [Act.put, List.setIfInBounds_toArray, List.set_cons_zero, List.set_cons_succ]
            have hcl : ClAt y5 y5.heap.size ⟨some ⟨b9, 0, none⟩, 2, 2, some ⟨b11, 0, none⟩, 1, 1, none, 0, 0⟩ awD := ClAt.ofTwo L9.out T11.out (by decide) (by decide) (by simp)
            have HCL : Hid (Calls Try.prog 16 #[.agg #[.slice x.A1 x.n1 x.c1, .slice x.A2 x.n2 x.c2, .slice x.A3 x.n3 x.c3], .agg #[.slice (some ⟨b9, 0, none⟩) 2 2, .slice (some ⟨b11, 0, none⟩) 1 1, .slice none 0 0]] y5 fun e w' => e = .returned (.bool true) ∧ Below y5.heap.size y5 w') := sameClause_true x ⟨some ⟨b9, 0, none⟩, 2, 2, some ⟨b11, 0, none⟩, 1, 1, none, 0, 0⟩ awD y5 HD.out.cl hcl
            clear hcl
            refine wpAnyH_ready (rs := [13]) (by as_aux_lemma => kernel_rfl) (by simp) ?_
            refine AllReadyH.cons rfl (fun K hK => ?_) AllReadyH.nil
            go_simp
            refine HCL.out.mono ?_
            rintro e y6 ⟨rfl, hb6⟩
            have HY6 := Lib.hid (HY5.out.trans (hb6.mono HY5.out.size))
            replace HC := Lib.hid (HC.out.on hb6)
            replace HD := Lib.hid (HD.out.on hb6)
            replace HV := Lib.hid (HV.out.on hb6)
            clear hb6 HCL p0 p1 p2 q0 q1 q2
            have p0 := HC.out.c0
            have p1 := HC.out.c1
            have p2 := HC.out.c2
            have q0 := HD.out.c0
            have q1 := HD.out.c1
            have q2 := HD.out.c2
            go_wp2_with fail
            refine hK.out _ _ ?_ (fun hHeld => ?_)
            · exact ⟨p0, p1, p2, q0, q1, q2⟩
            exact HT _ _ ⟨⟨rfl, rfl, rfl, rfl, rfl, rfl, rfl, rfl, rfl, rfl, rfl, rfl, rfl, rfl⟩, HC.out, HD.out, HV.out, HY6.out⟩ ⟨p0, p1, p2, q0, q1, q2⟩
      · go_simp
        have hbn := below_new y0 (.cells #[.int .i64 6, .int .i64 (-1), .int .i64 (-2)] 3)
        have HY1 := Lib.hid (HY0.out.trans (hbn.mono HY0.out.size))
        have I7 : Hid (LitAt (y0.alloc (.cells #[.int .i64 6, .int .i64 (-1), .int .i64 (-2)] 3)) (y0.alloc (.cells #[.int .i64 6, .int .i64 (-1), .int .i64 (-2)] 3)).heap.size (some ⟨y0.heap.size, 0, none⟩) 3 3 ⟨true, [6, -1, -2]⟩) := LitAt.lit' y0 true [6, -1, -2] (by decide)
        replace HC := Lib.hid (HC.out.on hbn)
        replace HD := Lib.hid (HD.out.on hbn)
        replace HV := Lib.hid (HV.out.on hbn)
        obtain ⟨y1, hy1⟩ : ∃ y1, y1 = y0.alloc (.cells #[.int .i64 6, .int .i64 (-1), .int .i64 (-2)] 3) := ⟨_, rfl⟩
        rw [← hy1] at HC HD HV HY1 I7  ⊢
        obtain ⟨b7, hbb⟩ : ∃ b7, b7 = y0.heap.size := ⟨_, rfl⟩
        rw [← hbb] at I7 ⊢
        clear hbn hy1 hbb p0 p1 p2 q0 q1 q2
        have p0 := HC.out.c0
        have p1 := HC.out.c1
        have p2 := HC.out.c2
        have q0 := HD.out.c0
        have q1 := HD.out.c1
        have q2 := HD.out.c2
        refine hK.out _ _ ?_ (fun hHeld => ?_)
        · exact ⟨p0, p1, p2, q0, q1, q2⟩
        clear hK K
        refine takeH (i := 8) (v := ?_) rfl rfl (by as_aux_lemma => kernel_rfl) (by as_aux_lemma => kernel_rfl) (by as_aux_lemma => kernel_rfl) (fun _ _ _ h => h) (by rfl) ?_ hHeld ?_
        rotate_left
        · (intro w hSw; (try dsimp only at hSw); first | (go_simp; done) | (go_simp; with_reducible rfl))
        simp only [Act.put, List.setIfInBounds_toArray, List.set_cons_zero, List.set_cons_succ]
        refine wpAnyH_ready (rs := [5, 10]) (by as_aux_lemma => kernel_rfl) (by simp) ?_
        refine AllReadyH.cons rfl (fun K hK => ?_) (AllReadyH.cons rfl (fun K hK => ?_) AllReadyH.nil)
        · go_simp
          have hbn := below_new y1 (.cells #[.int .i64 5, .int .i64 (-1)] 3)
          have HY2 := Lib.hid (HY1.out.trans (hbn.mono HY1.out.size))
          have I5 : Hid (LitAt (y1.alloc (.cells #[.int .i64 5, .int .i64 (-1)] 3)) (y1.alloc (.cells #[.int .i64 5, .int .i64 (-1)] 3)).heap.size (some ⟨y1.heap.size, 0, none⟩) 2 2 ⟨false, [5, -1]⟩) := LitAt.lit' y1 false [5, -1] (by decide)
          replace HC := Lib.hid (HC.out.on hbn)
          replace HD := Lib.hid (HD.out.on hbn)
          replace HV := Lib.hid (HV.out.on hbn)
          replace I7 := Lib.hid (I7.out.on hbn)
          obtain ⟨y2, hy2⟩ : ∃ y2, y2 = y1.alloc (.cells #[.int .i64 5, .int .i64 (-1)] 3) := ⟨_, rfl⟩
          rw [← hy2] at HC HD HV HY2 I5 I7 ⊢
          obtain ⟨b5, hbb⟩ : ∃ b5, b5 = y1.heap.size := ⟨_, rfl⟩
          rw [← hbb] at I5 ⊢
          clear hbn hy2 hbb p0 p1 p2 q0 q1 q2
          have p0 := HC.out.c0
          have p1 := HC.out.c1
          have p2 := HC.out.c2
          have q0 := HD.out.c0
          have q1 := HD.out.c1
          have q2 := HD.out.c2
          refine hK.out _ _ ?_ (fun hHeld => ?_)
          · exact ⟨p0, p1, p2, q0, q1, q2⟩
          clear hK K
          refine takeH (i := 6) (v := ?_) rfl rfl (by as_aux_lemma => kernel_rfl) (by as_aux_lemma => kernel_rfl) (by as_aux_lemma => kernel_rfl) (fun _ _ _ h => h) (by rfl) ?_ hHeld ?_
          rotate_left
          · (intro w hSw; (try dsimp only at hSw); first | (go_simp; done) | (go_simp; with_reducible rfl))
          simp only [Act.put, List.setIfInBounds_toArray, List.set_cons_zero, List.set_cons_succ]
          refine wpAnyH_ready (rs := [9, 10]) (by as_aux_lemma => kernel_rfl) (by simp) ?_
          refine AllReadyH.cons rfl (fun K hK => ?_) (AllReadyH.cons rfl (fun K hK => ?_) AllReadyH.nil)
          · go_simp
            have hbn := below_new y2 (.cells #[.bool false, .slice (some ⟨b5, 0, none⟩) 2 2, .bool true, .slice (some ⟨b7, 0, none⟩) 3 3] 44)
            have HY3 := Lib.hid (HY2.out.trans (hbn.mono HY2.out.size))
            have L9 : Hid (LitsAt (y2.alloc (.cells #[.bool false, .slice (some ⟨b5, 0, none⟩) 2 2, .bool true, .slice (some ⟨b7, 0, none⟩) 3 3] 44)) (y2.alloc (.cells #[.bool false, .slice (some ⟨b5, 0, none⟩) 2 2, .bool true, .slice (some ⟨b7, 0, none⟩) 3 3] 44)).heap.size (some ⟨y2.heap.size, 0, none⟩) 2 [⟨false, [5, -1]⟩, ⟨true, [6, -1, -2]⟩]) := LitsAt.of2 I5.out I7.out
            replace HC := Lib.hid (HC.out.on hbn)
            replace HD := Lib.hid (HD.out.on hbn)
            replace HV := Lib.hid (HV.out.on hbn)
            replace I7 := Lib.hid (I7.out.on hbn)
            replace I5 := Lib.hid (I5.out.on hbn)
            obtain ⟨y3, hy3⟩ : ∃ y3, y3 = y2.alloc (.cells #[.bool false, .slice (some ⟨b5, 0, none⟩) 2 2, .bool true, .slice (some ⟨b7, 0, none⟩) 3 3] 44) := ⟨_, rfl⟩
            rw [← hy3] at HC HD HV HY3 L9 I7 I5 ⊢
            obtain ⟨b9, hbb⟩ : ∃ b9, b9 = y2.heap.size := ⟨_, rfl⟩
            rw [← hbb] at L9 ⊢
            clear hbn hy3 hbb p0 p1 p2 q0 q1 q2
            have p0 := HC.out.c0
            have p1 := HC.out.c1
            have p2 := HC.out.c2
            have q0 := HD.out.c0
            have q1 := HD.out.c1
            have q2 := HD.out.c2
            refine hK.out _ _ ?_ (fun hHeld => ?_)
            · exact ⟨p0, p1, p2, q0, q1, q2⟩
            clear hK K
            refine wpAnyH_ready (rs := [10]) (by as_aux_lemma => kernel_rfl) (by simp) ?_
            refine AllReadyH.cons rfl (fun K hK => ?_) AllReadyH.nil
            go_simp
            have hbn := below_new y3 (.cells #[.int .i64 (-2)] 3)
            have HY4 := Lib.hid (HY3.out.trans (hbn.mono HY3.out.size))
            have I10 : Hid (RowIn (y3.alloc (.cells #[.int .i64 (-2)] 3)) (y3.alloc (.cells #[.int .i64 (-2)] 3)).heap.size (some ⟨y3.heap.size, 0, none⟩) 1 1 [-2]) := RowIn.lit' y3 [-2] (by decide)
            replace HC := Lib.hid (HC.out.on hbn)
            replace HD := Lib.hid (HD.out.on hbn)
            replace HV := Lib.hid (HV.out.on hbn)
            replace I7 := Lib.hid (I7.out.on hbn)
            replace I5 := Lib.hid (I5.out.on hbn)
            replace L9 := Lib.hid (L9.out.on hbn)
            obtain ⟨y4, hy4⟩ : ∃ y4, y4 = y3.alloc (.cells #[.int .i64 (-2)] 3) := ⟨_, rfl⟩
            rw [← hy4] at HC HD HV HY4 I10 I7 I5 L9 ⊢
            obtain ⟨b10, hbb⟩ : ∃ b10, b10 = y3.heap.size := ⟨_, rfl⟩
            rw [← hbb] at I10 ⊢
            clear hbn hy4 hbb p0 p1 p2 q0 q1 q2
            have p0 := HC.out.c0
            have p1 := HC.out.c1
            have p2 := HC.out.c2
            have q0 := HD.out.c0
            have q1 := HD.out.c1
            have q2 := HD.out.c2
            refine hK.out _ _ ?_ (fun hHeld => ?_)
            · exact ⟨p0, p1, p2, q0, q1, q2⟩
            clear hK K
            refine wpAnyH_ready (rs := [11]) (by as_aux_lemma => kernel_rfl) (by simp) ?_
            refine AllReadyH.cons rfl (fun K hK => ?_) AllReadyH.nil
            go_simp
            have hbn := below_new y4 (.cells #[.slice (some ⟨b10, 0, none⟩) 1 1] 27)
            have HY5 := Lib.hid (HY4.out.trans (hbn.mono HY4.out.size))
            have T11 : Hid (TupsAt (y4.alloc (.cells #[.slice (some ⟨b10, 0, none⟩) 1 1] 27)) (y4.alloc (.cells #[.slice (some ⟨b10, 0, none⟩) 1 1] 27)).heap.size (some ⟨y4.heap.size, 0, none⟩) 1 [[-2]]) := TupsAt.of1 I10.out (fun q => by cases q)
            replace HC := Lib.hid (HC.out.on hbn)
            replace HD := Lib.hid (HD.out.on hbn)
            replace HV := Lib.hid (HV.out.on hbn)
            replace I7 := Lib.hid (I7.out.on hbn)
            replace I5 := Lib.hid (I5.out.on hbn)
            replace L9 := Lib.hid (L9.out.on hbn)
            replace I10 := Lib.hid (I10.out.on hbn)
            obtain ⟨y5, hy5⟩ : ∃ y5, y5 = y4.alloc (.cells #[.slice (some ⟨b10, 0, none⟩) 1 1] 27) := ⟨_, rfl⟩
            rw [← hy5] at HC HD HV HY5 T11 I7 I5 L9 I10 ⊢
            obtain ⟨b11, hbb⟩ : ∃ b11, b11 = y4.heap.size := ⟨_, rfl⟩
            rw [← hbb] at T11 ⊢
            clear hbn hy5 hbb p0 p1 p2 q0 q1 q2
            have p0 := HC.out.c0
            have p1 := HC.out.c1
            have p2 := HC.out.c2
            have q0 := HD.out.c0
            have q1 := HD.out.c1
            have q2 := HD.out.c2
            refine hK.out _ _ ?_ (fun hHeld => ?_)
            · exact ⟨p0, p1, p2, q0, q1, q2⟩
            clear hK K
            refine takeH (i := 12) (v := ?_) rfl rfl (by as_aux_lemma => kernel_rfl) (by as_aux_lemma => kernel_rfl) (by as_aux_lemma => kernel_rfl) (fun _ _ _ h => h) (by rfl) ?_ hHeld ?_
            rotate_left
            · (intro w hSw; (try dsimp only at hSw); first | (go_simp; done) | (go_simp; with_reducible rfl))
            simp only [Act.put, List.setIfInBounds_toArray, List.set_cons_zero, List.set_cons_succ]
            have hcl : ClAt y5 y5.heap.size ⟨some ⟨b9, 0, none⟩, 2, 2, some ⟨b11, 0, none⟩, 1, 1, none, 0, 0⟩ awD := ClAt.ofTwo L9.out T11.out (by decide) (by decide) (by simp)
            have HCL : Hid (Calls Try.prog 16 #[.agg #[.slice x.A1 x.n1 x.c1, .slice x.A2 x.n2 x.c2, .slice x.A3 x.n3 x.c3], .agg #[.slice (some ⟨b9, 0, none⟩) 2 2, .slice (some ⟨b11, 0, none⟩) 1 1, .slice none 0 0]] y5 fun e w' => e = .returned (.bool true) ∧ Below y5.heap.size y5 w') := sameClause_true x ⟨some ⟨b9, 0, none⟩, 2, 2, some ⟨b11, 0, none⟩, 1, 1, none, 0, 0⟩ awD y5 HD.out.cl hcl
            clear hcl
            refine wpAnyH_ready (rs := [13]) (by as_aux_lemma => kernel_rfl) (by simp) ?_
            refine AllReadyH.cons rfl (fun K hK => ?_) AllReadyH.nil
            go_simp
            refine HCL.out.mono ?_
            rintro e y6 ⟨rfl, hb6⟩
            have HY6 := Lib.hid (HY5.out.trans (hb6.mono HY5.out.size))
            replace HC := Lib.hid (HC.out.on hb6)
            replace HD := Lib.hid (HD.out.on hb6)
            replace HV := Lib.hid (HV.out.on hb6)
            clear hb6 HCL p0 p1 p2 q0 q1 q2
            have p0 := HC.out.c0
            have p1 := HC.out.c1
            have p2 := HC.out.c2
            have q0 := HD.out.c0
            have q1 := HD.out.c1
            have q2 := HD.out.c2
            go_wp2_with fail
            refine hK.out _ _ ?_ (fun hHeld => ?_)
            · exact ⟨p0, p1, p2, q0, q1, q2⟩
            exact HT _ _ ⟨⟨rfl, rfl, rfl, rfl, rfl, rfl, rfl, rfl, rfl, rfl, rfl, rfl, rfl, rfl⟩, HC.out, HD.out, HV.out, HY6.out⟩ ⟨p0, p1, p2, q0, q1, q2⟩
          · go_simp
            have hbn := below_new y2 (.cells #[.int .i64 (-2)] 3)
            have HY3 := Lib.hid (HY2.out.trans (hbn.mono HY2.out.size))
            have I10 : Hid (RowIn (y2.alloc (.cells #[.int .i64 (-2)] 3)) (y2.alloc (.cells #[.int .i64 (-2)] 3)).heap.size (some ⟨y2.heap.size, 0, none⟩) 1 1 [-2]) := RowIn.lit' y2 [-2] (by decide)
            replace HC := Lib.hid (HC.out.on hbn)
            replace HD := Lib.hid (HD.out.on hbn)
            replace HV := Lib.hid (HV.out.on hbn)
            replace I7 := Lib.hid (I7.out.on hbn)
            replace I5 := Lib.hid (I5.out.on hbn)
            obtain ⟨y3, hy3⟩ : ∃ y3, y3 = y2.alloc (.cells #[.int .i64 (-2)] 3) := ⟨_, rfl⟩
            rw [← hy3] at HC HD HV HY3 I10 I7 I5 ⊢
            obtain ⟨b10, hbb⟩ : ∃ b10, b10 = y2.heap.size := ⟨_, rfl⟩
            rw [← hbb] at I10 ⊢
            clear hbn hy3 hbb p0 p1 p2 q0 q1 q2
            have p0 := HC.out.c0
            have p1 := HC.out.c1
            have p2 := HC.out.c2
            have q0 := HD.out.c0
            have q1 := HD.out.c1
            have q2 := HD.out.c2
            refine hK.out _ _ ?_ (fun hHeld => ?_)
            · exact ⟨p0, p1, p2, q0, q1, q2⟩
            clear hK K
            refine wpAnyH_ready (rs := [9, 11]) (by as_aux_lemma => kernel_rfl) (by simp) ?_
            refine AllReadyH.cons rfl (fun K hK => ?_) (AllReadyH.cons rfl (fun K hK => ?_) AllReadyH.nil)
            · go_simp
              have hbn := below_new y3 (.cells #[.bool false, .slice (some ⟨b5, 0, none⟩) 2 2, .bool true, .slice (some ⟨b7, 0, none⟩) 3 3] 44)
              have HY4 := Lib.hid (HY3.out.trans (hbn.mono HY3.out.size))
              have L9 : Hid (LitsAt (y3.alloc (.cells #[.bool false, .slice (some ⟨b5, 0, none⟩) 2 2, .bool true, .slice (some ⟨b7, 0, none⟩) 3 3] 44)) (y3.alloc (.cells #[.bool false, .slice (some ⟨b5, 0, none⟩) 2 2, .bool true, .slice (some ⟨b7, 0, none⟩) 3 3] 44)).heap.size (some ⟨y3.heap.size, 0, none⟩) 2 [⟨false, [5, -1]⟩, ⟨true, [6, -1, -2]⟩]) := LitsAt.of2 I5.out I7.out
              replace HC := Lib.hid (HC.out.on hbn)
              replace HD := Lib.hid (HD.out.on hbn)
              replace HV := Lib.hid (HV.out.on hbn)
              replace I7 := Lib.hid (I7.out.on hbn)
              replace I5 := Lib.hid (I5.out.on hbn)
              replace I10 := Lib.hid (I10.out.on hbn)
              obtain ⟨y4, hy4⟩ : ∃ y4, y4 = y3.alloc (.cells #[.bool false, .slice (some ⟨b5, 0, none⟩) 2 2, .bool true, .slice (some ⟨b7, 0, none⟩) 3 3] 44) := ⟨_, rfl⟩
              rw [← hy4] at HC HD HV HY4 L9 I7 I5 I10 ⊢
              obtain ⟨b9, hbb⟩ : ∃ b9, b9 = y3.heap.size := ⟨_, rfl⟩
              rw [← hbb] at L9 ⊢
              clear hbn hy4 hbb p0 p1 p2 q0 q1 q2
              have p0 := HC.out.c0
              have p1 := HC.out.c1
              have p2 := HC.out.c2
              have q0 := HD.out.c0
              have q1 := HD.out.c1
              have q2 := HD.out.c2
              refine hK.out _ _ ?_ (fun hHeld => ?_)
              · exact ⟨p0, p1, p2, q0, q1, q2⟩
              clear hK K
              refine wpAnyH_ready (rs := [11]) (by as_aux_lemma => kernel_rfl) (by simp) ?_
              refine AllReadyH.cons rfl (fun K hK => ?_) AllReadyH.nil
              go_simp
              have hbn := below_new y4 (.cells #[.slice (some ⟨b10, 0, none⟩) 1 1] 27)
              have HY5 := Lib.hid (HY4.out.trans (hbn.mono HY4.out.size))
              have T11 : Hid (TupsAt (y4.alloc (.cells #[.slice (some ⟨b10, 0, none⟩) 1 1] 27)) (y4.alloc (.cells #[.slice (some ⟨b10, 0, none⟩) 1 1] 27)).heap.size (some ⟨y4.heap.size, 0, none⟩) 1 [[-2]]) := TupsAt.of1 I10.out (fun q => by cases q)
              replace HC := Lib.hid (HC.out.on hbn)
              replace HD := Lib.hid (HD.out.on hbn)
              replace HV := Lib.hid (HV.out.on hbn)
              replace I7 := Lib.hid (I7.out.on hbn)
              replace I5 := Lib.hid (I5.out.on hbn)
              replace I10 := Lib.hid (I10.out.on hbn)
              replace L9 := Lib.hid (L9.out.on hbn)
              obtain ⟨y5, hy5⟩ : ∃ y5, y5 = y4.alloc (.cells #[.slice (some ⟨b10, 0, none⟩) 1 1] 27) := ⟨_, rfl⟩
              rw [← hy5] at HC HD HV HY5 T11 I7 I5 I10 L9 ⊢
              obtain ⟨b11, hbb⟩ : ∃ b11, b11 = y4.heap.size := ⟨_, rfl⟩
              rw [← hbb] at T11 ⊢
              clear hbn hy5 hbb p0 p1 p2 q0 q1 q2
              have p0 := HC.out.c0
              have p1 := HC.out.c1
              have p2 := HC.out.c2
              have q0 := HD.out.c0
              have q1 := HD.out.c1
              have q2 := HD.out.c2
              refine hK.out _ _ ?_ (fun hHeld => ?_)
              · exact ⟨p0, p1, p2, q0, q1, q2⟩
              clear hK K
              refine takeH (i := 12) (v := ?_) rfl rfl (by as_aux_lemma => kernel_rfl) (by as_aux_lemma => kernel_rfl) (by as_aux_lemma => kernel_rfl) (fun _ _ _ h => h) (by rfl) ?_ hHeld ?_
              rotate_left
              · (intro w hSw; (try dsimp only at hSw); first | (go_simp; done) | (go_simp; with_reducible rfl))
              simp only [Act.put, List.setIfInBounds_toArray, List.set_cons_zero, List.set_cons_succ]
              have hcl : ClAt y5 y5.heap.size ⟨some ⟨b9, 0, none⟩, 2, 2, some ⟨b11, 0, none⟩, 1, 1, none, 0, 0⟩ awD := ClAt.ofTwo L9.out T11.out (by decide) (by decide) (by simp)
              have HCL : Hid (Calls Try.prog 16 #[.agg #[.slice x.A1 x.n1 x.c1, .slice x.A2 x.n2 x.c2, .slice x.A3 x.n3 x.c3], .agg #[.slice (some ⟨b9, 0, none⟩) 2 2, .slice (some ⟨b11, 0, none⟩) 1 1, .slice none 0 0]] y5 fun e w' => e = .returned (.bool true) ∧ Below y5.heap.size y5 w') := sameClause_true x ⟨some ⟨b9, 0, none⟩, 2, 2, some ⟨b11, 0, none⟩, 1, 1, none, 0, 0⟩ awD y5 HD.out.cl hcl
              clear hcl
              refine wpAnyH_ready (rs := [13]) (by as_aux_lemma => kernel_rfl) (by simp) ?_
              refine AllReadyH.cons rfl (fun K hK => ?_) AllReadyH.nil
              go_simp
              refine HCL.out.mono ?_
              rintro e y6 ⟨rfl, hb6⟩
              have HY6 := Lib.hid (HY5.out.trans (hb6.mono HY5.out.size))
              replace HC := Lib.hid (HC.out.on hb6)
              replace HD := Lib.hid (HD.out.on hb6)
              replace HV := Lib.hid (HV.out.on hb6)
              clear hb6 HCL p0 p1 p2 q0 q1 q2
              have p0 := HC.out.c0
              have p1 := HC.out.c1
              have p2 := HC.out.c2
              have q0 := HD.out.c0
              have q1 := HD.out.c1
              have q2 := HD.out.c2
              go_wp2_with fail
              refine hK.out _ _ ?_ (fun hHeld => ?_)
              · exact ⟨p0, p1, p2, q0, q1, q2⟩
              exact HT _ _ ⟨⟨rfl, rfl, rfl, rfl, rfl, rfl, rfl, rfl, rfl, rfl, rfl, rfl, rfl, rfl⟩, HC.out, HD.out, HV.out, HY6.out⟩ ⟨p0, p1, p2, q0, q1, q2⟩
            · go_simp
              have hbn := below_new y3 (.cells #[.slice (some ⟨b10, 0, none⟩) 1 1] 27)
              have HY4 := Lib.hid (HY3.out.trans (hbn.mono HY3.out.size))
              have T11 : Hid (TupsAt (y3.alloc (.cells #[.slice (some ⟨b10, 0, none⟩) 1 1] 27)) (y3.alloc (.cells #[.slice (some ⟨b10, 0, none⟩) 1 1] 27)).heap.size (some ⟨y3.heap.size, 0, none⟩) 1 [[-2]]) := TupsAt.of1 I10.out (fun q => by cases q)
              replace HC := Lib.hid (HC.out.on hbn)
              replace HD := Lib.hid (HD.out.on hbn)
              replace HV := Lib.hid (HV.out.on hbn)
              replace I7 := Lib.hid (I7.out.on hbn)
              replace I5 := Lib.hid (I5.out.on hbn)
              replace I10 := Lib.hid (I10.out.on hbn)
              obtain ⟨y4, hy4⟩ : ∃ y4, y4 = y3.alloc (.cells #[.slice (some ⟨b10, 0, none⟩) 1 1] 27) := ⟨_, rfl⟩
              rw [← hy4] at HC HD HV HY4 T11 I7 I5 I10 ⊢
              obtain ⟨b11, hbb⟩ : ∃ b11, b11 = y3.heap.size := ⟨_, rfl⟩
              rw [← hbb] at T11 ⊢
              clear hbn hy4 hbb p0 p1 p2 q0 q1 q2
              have p0 := HC.out.c0
              have p1 := HC.out.c1
              have p2 := HC.out.c2
              have q0 := HD.out.c0
              have q1 := HD.out.c1
              have q2 := HD.out.c2
              refine hK.out _ _ ?_ (fun hHeld => ?_)
              · exact ⟨p0, p1, p2, q0, q1, q2⟩
              clear hK K
              refine wpAnyH_ready (rs := [9]) (by as_aux_lemma => kernel_rfl) (by simp) ?_
              refine AllReadyH.cons rfl (fun K hK => ?_) AllReadyH.nil
              go_simp
              have hbn := below_new y4 (.cells #[.bool false, .slice (some ⟨b5, 0, none⟩) 2 2, .bool true, .slice (some ⟨b7, 0, none⟩) 3 3] 44)
              have HY5 := Lib.hid (HY4.out.trans (hbn.mono HY4.out.size))
              have L9 : Hid (LitsAt (y4.alloc (.cells #[.bool false, .slice (some ⟨b5, 0, none⟩) 2 2, .bool true, .slice (some ⟨b7, 0, none⟩) 3 3] 44)) (y4.alloc (.cells #[.bool false, .slice (some ⟨b5, 0, none⟩) 2 2, .bool true, .slice (some ⟨b7, 0, none⟩) 3 3] 44)).heap.size (some ⟨y4.heap.size, 0, none⟩) 2 [⟨false, [5, -1]⟩, ⟨true, [6, -1, -2]⟩]) := LitsAt.of2 I5.out I7.out
              replace HC := Lib.hid (HC.out.on hbn)
              replace HD := Lib.hid (HD.out.on hbn)
              replace HV := Lib.hid (HV.out.on hbn)
              replace I7 := Lib.hid (I7.out.on hbn)
              replace I5 := Lib.hid (I5.out.on hbn)
              replace I10 := Lib.hid (I10.out.on hbn)
              replace T11 := Lib.hid (T11.out.on hbn)
              obtain ⟨y5, hy5⟩ : ∃ y5, y5 = y4.alloc (.cells #[.bool false, .slice (some ⟨b5, 0, none⟩) 2 2, .bool true, .slice (some ⟨b7, 0, none⟩) 3 3] 44) := ⟨_, rfl⟩
              rw [← hy5] at HC HD HV HY5 L9 I7 I5 I10 T11 ⊢
              obtain ⟨b9, hbb⟩ : ∃ b9, b9 = y4.heap.size := ⟨_, rfl⟩
              rw [← hbb] at L9 ⊢
              clear hbn hy5 hbb p0 p1 p2 q0 q1 q2
              have p0 := HC.out.c0
              have p1 := HC.out.c1
              have p2 := HC.out.c2
              have q0 := HD.out.c0
              have q1 := HD.out.c1
              have q2 := HD.out.c2
              refine hK.out _ _ ?_ (fun hHeld => ?_)
              · exact ⟨p0, p1, p2, q0, q1, q2⟩
              clear hK K
              refine takeH (i := 12) (v := ?_) rfl rfl (by as_aux_lemma => kernel_rfl) (by as_aux_lemma => kernel_rfl) (by as_aux_lemma => kernel_rfl) (fun _ _ _ h => h) (by rfl) ?_ hHeld ?_
              rotate_left
              · (intro w hSw; (try dsimp only at hSw); first | (go_simp; done) | (go_simp; with_reducible rfl))
              simp only [Act.put, List.setIfInBounds_toArray, List.set_cons_zero, List.set_cons_succ]
              have hcl : ClAt y5 y5.heap.size ⟨some ⟨b9, 0, none⟩, 2, 2, some ⟨b11, 0, none⟩, 1, 1, none, 0, 0⟩ awD := ClAt.ofTwo L9.out T11.out (by decide) (by decide) (by simp)
              have HCL : Hid (Calls Try.prog 16 #[.agg #[.slice x.A1 x.n1 x.c1, .slice x.A2 x.n2 x.c2, .slice x.A3 x.n3 x.c3], .agg #[.slice (some ⟨b9, 0, none⟩) 2 2, .slice (some ⟨b11, 0, none⟩) 1 1, .slice none 0 0]] y5 fun e w' => e = .returned (.bool true) ∧ Below y5.heap.size y5 w') := sameClause_true x ⟨some ⟨b9, 0, none⟩, 2, 2, some ⟨b11, 0, none⟩, 1, 1, none, 0, 0⟩ awD y5 HD.out.cl hcl
              clear hcl
              refine wpAnyH_ready (rs := [13]) (by as_aux_lemma => kernel_rfl) (by simp) ?_
              refine AllReadyH.cons rfl (fun K hK => ?_) AllReadyH.nil
              go_simp
              refine HCL.out.mono ?_
              rintro e y6 ⟨rfl, hb6⟩
              have HY6 := Lib.hid (HY5.out.trans (hb6.mono HY5.out.size))
              replace HC := Lib.hid (HC.out.on hb6)
              replace HD := Lib.hid (HD.out.on hb6)
              replace HV := Lib.hid (HV.out.on hb6)
              clear hb6 HCL p0 p1 p2 q0 q1 q2
              have p0 := HC.out.c0
              have p1 := HC.out.c1
              have p2 := HC.out.c2
              have q0 := HD.out.c0
              have q1 := HD.out.c1
              have q2 := HD.out.c2
              go_wp2_with fail
              refine hK.out _ _ ?_ (fun hHeld => ?_)
              · exact ⟨p0, p1, p2, q0, q1, q2⟩
              exact HT _ _ ⟨⟨rfl, rfl, rfl, rfl, rfl, rfl, rfl, rfl, rfl, rfl, rfl, rfl, rfl, rfl⟩, HC.out, HD.out, HV.out, HY6.out⟩ ⟨p0, p1, p2, q0, q1, q2⟩
        · go_simp
          have hbn := below_new y1 (.cells #[.int .i64 (-2)] 3)
          have HY2 := Lib.hid (HY1.out.trans (hbn.mono HY1.out.size))
          have I10 : Hid (RowIn (y1.alloc (.cells #[.int .i64 (-2)] 3)) (y1.alloc (.cells #[.int .i64 (-2)] 3)).heap.size (some ⟨y1.heap.size, 0, none⟩) 1 1 [-2]) := RowIn.lit' y1 [-2] (by decide)
          replace HC := Lib.hid (HC.out.on hbn)
          replace HD := Lib.hid (HD.out.on hbn)
          replace HV := Lib.hid (HV.out.on hbn)
          replace I7 := Lib.hid (I7.out.on hbn)
          obtain ⟨y2, hy2⟩ : ∃ y2, y2 = y1.alloc (.cells #[.int .i64 (-2)] 3) := ⟨_, rfl⟩
          rw [← hy2] at HC HD HV HY2 I10 I7 ⊢
          obtain ⟨b10, hbb⟩ : ∃ b10, b10 = y1.heap.size := ⟨_, rfl⟩
          rw [← hbb] at I10 ⊢
          clear hbn hy2 hbb p0 p1 p2 q0 q1 q2
          have p0 := HC.out.c0
          have p1 := HC.out.c1
          have p2 := HC.out.c2
          have q0 := HD.out.c0
          have q1 := HD.out.c1
          have q2 := HD.out.c2
          refine hK.out _ _ ?_ (fun hHeld => ?_)
          · exact ⟨p0, p1, p2, q0, q1, q2⟩
          clear hK K
          refine wpAnyH_ready (rs := [5, 11]) (by as_aux_lemma => kernel_rfl) (by simp) ?_
          refine AllReadyH.cons rfl (fun K hK => ?_) (AllReadyH.cons rfl (fun K hK => ?_) AllReadyH.nil)
          · go_simp
            have hbn := below_new y2 (.cells #[.int .i64 5, .int .i64 (-1)] 3)
            have HY3 := Lib.hid (HY2.out.trans (hbn.mono HY2.out.size))
            have I5 : Hid (LitAt (y2.alloc (.cells #[.int .i64 5, .int .i64 (-1)] 3)) (y2.alloc (.cells #[.int .i64 5, .int .i64 (-1)] 3)).heap.size (some ⟨y2.heap.size, 0, none⟩) 2 2 ⟨false, [5, -1]⟩) := LitAt.lit' y2 false [5, -1] (by decide)
            replace HC := Lib.hid (HC.out.on hbn)
            replace HD := Lib.hid (HD.out.on hbn)
            replace HV := Lib.hid (HV.out.on hbn)
            replace I7 := Lib.hid (I7.out.on hbn)
            replace I10 := Lib.hid (I10.out.on hbn)
            obtain ⟨y3, hy3⟩ : ∃ y3, y3 = y2.alloc (.cells #[.int .i64 5, .int .i64 (-1)] 3) := ⟨_, rfl⟩
            rw [← hy3] at HC HD HV HY3 I5 I7 I10 ⊢
            obtain ⟨b5, hbb⟩ : ∃ b5, b5 = y2.heap.size := ⟨_, rfl⟩
            rw [← hbb] at I5 ⊢
            clear hbn hy3 hbb p0 p1 p2 q0 q1 q2
            have p0 := HC.out.c0
            have p1 := HC.out.c1
            have p2 := HC.out.c2
            have q0 := HD.out.c0
            have q1 := HD.out.c1
            have q2 := HD.out.c2
            refine hK.out _ _ ?_ (fun hHeld => ?_)
            · exact ⟨p0, p1, p2, q0, q1, q2⟩
            clear hK K
            refine takeH (i := 6) (v := ?_) rfl rfl (by as_aux_lemma => kernel_rfl) (by as_aux_lemma => kernel_rfl) (by as_aux_lemma => kernel_rfl) (fun _ _ _ h => h) (by rfl) ?_ hHeld ?_
            rotate_left
            · (intro w hSw; (try dsimp only at hSw); first | (go_simp; done) | (go_simp; with_reducible rfl))
            simp only [Act.put, List.setIfInBounds_toArray, List.set_cons_zero, List.set_cons_succ]
            refine wpAnyH_ready (rs := [9, 11]) (by as_aux_lemma => kernel_rfl) (by simp) ?_
            refine AllReadyH.cons rfl (fun K hK => ?_) (AllReadyH.cons rfl (fun K hK => ?_) AllReadyH.nil)
            · go_simp
              have hbn := below_new y3 (.cells #[.bool false, .slice (some ⟨b5, 0, none⟩) 2 2, .bool true, .slice (some ⟨b7, 0, none⟩) 3 3] 44)
              have HY4 := Lib.hid (HY3.out.trans (hbn.mono HY3.out.size))
              have L9 : Hid (LitsAt (y3.alloc (.cells #[.bool false, .slice (some ⟨b5, 0, none⟩) 2 2, .bool true, .slice (some ⟨b7, 0, none⟩) 3 3] 44)) (y3.alloc (.cells #[.bool false, .slice (some ⟨b5, 0, none⟩) 2 2, .bool true, .slice (some ⟨b7, 0, none⟩) 3 3] 44)).heap.size (some ⟨y3.heap.size, 0, none⟩) 2 [⟨false, [5, -1]⟩, ⟨true, [6, -1, -2]⟩]) := LitsAt.of2 I5.out I7.out
              replace HC := Lib.hid (HC.out.on hbn)
              replace HD := Lib.hid (HD.out.on hbn)
              replace HV := Lib.hid (HV.out.on hbn)
              replace I7 := Lib.hid (I7.out.on hbn)
              replace I10 := Lib.hid (I10.out.on hbn)
              replace I5 := Lib.hid (I5.out.on hbn)
              obtain ⟨y4, hy4⟩ : ∃ y4, y4 = y3.alloc (.cells #[.bool false, .slice (some ⟨b5, 0, none⟩) 2 2, .bool true, .slice (some ⟨b7, 0, none⟩) 3 3] 44) := ⟨_, rfl⟩
              rw [← hy4] at HC HD HV HY4 L9 I7 I10 I5 ⊢
              obtain ⟨b9, hbb⟩ : ∃ b9, b9 = y3.heap.size := ⟨_, rfl⟩
              rw [← hbb] at L9 ⊢
              clear hbn hy4 hbb p0 p1 p2 q0 q1 q2
              have p0 := HC.out.c0
              have p1 := HC.out.c1
              have p2 := HC.out.c2
              have q0 := HD.out.c0
              have q1 := HD.out.c1
              have q2 := HD.out.c2
              refine hK.out _ _ ?_ (fun hHeld => ?_)
              · exact ⟨p0, p1, p2, q0, q1, q2⟩
              clear hK K
              refine wpAnyH_ready (rs := [11]) (by as_aux_lemma => kernel_rfl) (by simp) ?_
              refine AllReadyH.cons rfl (fun K hK => ?_) AllReadyH.nil
              go_simp
              have hbn := below_new y4 (.cells #[.slice (some ⟨b10, 0, none⟩) 1 1] 27)
              have HY5 := Lib.hid (HY4.out.trans (hbn.mono HY4.out.size))
              have T11 : Hid (TupsAt (y4.alloc (.cells #[.slice (some ⟨b10, 0, none⟩) 1 1] 27)) (y4.alloc (.cells #[.slice (some ⟨b10, 0, none⟩) 1 1] 27)).heap.size (some ⟨y4.heap.size, 0, none⟩) 1 [[-2]]) := TupsAt.of1 I10.out (fun q => by cases q)
              replace HC := Lib.hid (HC.out.on hbn)
              replace HD := Lib.hid (HD.out.on hbn)
              replace HV := Lib.hid (HV.out.on hbn)
              replace I7 := Lib.hid (I7.out.on hbn)
              replace I10 := Lib.hid (I10.out.on hbn)
              replace I5 := Lib.hid (I5.out.on hbn)
              replace L9 := Lib.hid (L9.out.on hbn)
              obtain ⟨y5, hy5⟩ : ∃ y5, y5 = y4.alloc (.cells #[.slice (some ⟨b10, 0, none⟩) 1 1] 27) := ⟨_, rfl⟩
              rw [← hy5] at HC HD HV HY5 T11 I7 I10 I5 L9 ⊢
              obtain ⟨b11, hbb⟩ : ∃ b11, b11 = y4.heap.size := ⟨_, rfl⟩
              rw [← hbb] at T11 ⊢
              clear hbn hy5 hbb p0 p1 p2 q0 q1 q2
              have p0 := HC.out.c0
              have p1 := HC.out.c1
              have p2 := HC.out.c2
              have q0 := HD.out.c0
              have q1 := HD.out.c1
              have q2 := HD.out.c2
              refine hK.out _ _ ?_ (fun hHeld => ?_)
              · exact ⟨p0, p1, p2, q0, q1, q2⟩
              clear hK K
              refine takeH (i := 12) (v := ?_) rfl rfl (by as_aux_lemma => kernel_rfl) (by as_aux_lemma => kernel_rfl) (by as_aux_lemma => kernel_rfl) (fun _ _ _ h => h) (by rfl) ?_ hHeld ?_
              rotate_left
              · (intro w hSw; (try dsimp only at hSw); first | (go_simp; done) | (go_simp; with_reducible rfl))
              simp only [Act.put, List.setIfInBounds_toArray, List.set_cons_zero, List.set_cons_succ]
              have hcl : ClAt y5 y5.heap.size ⟨some ⟨b9, 0, none⟩, 2, 2, some ⟨b11, 0, none⟩, 1, 1, none, 0, 0⟩ awD := ClAt.ofTwo L9.out T11.out (by decide) (by decide) (by simp)
              have HCL : Hid (Calls Try.prog 16 #[.agg #[.slice x.A1 x.n1 x.c1, .slice x.A2 x.n2 x.c2, .slice x.A3 x.n3 x.c3], .agg #[.slice (some ⟨b9, 0, none⟩) 2 2, .slice (some ⟨b11, 0, none⟩) 1 1, .slice none 0 0]] y5 fun e w' => e = .returned (.bool true) ∧ Below y5.heap.size y5 w') := sameClause_true x ⟨some ⟨b9, 0, none⟩, 2, 2, some ⟨b11, 0, none⟩, 1, 1, none, 0, 0⟩ awD y5 HD.out.cl hcl
              clear hcl
              refine wpAnyH_ready (rs := [13]) (by as_aux_lemma => kernel_rfl) (by simp) ?_
              refine AllReadyH.cons rfl (fun K hK => ?_) AllReadyH.nil
              go_simp
              refine HCL.out.mono ?_
              rintro e y6 ⟨rfl, hb6⟩
              have HY6 := Lib.hid (HY5.out.trans (hb6.mono HY5.out.size))
              replace HC := Lib.hid (HC.out.on hb6)
              replace HD := Lib.hid (HD.out.on hb6)
              replace HV := Lib.hid (HV.out.on hb6)
              clear hb6 HCL p0 p1 p2 q0 q1 q2
              have p0 := HC.out.c0
              have p1 := HC.out.c1
              have p2 := HC.out.c2
              have q0 := HD.out.c0
              have q1 := HD.out.c1
              have q2 := HD.out.c2
              go_wp2_with fail
              refine hK.out _ _ ?_ (fun hHeld => ?_)
              · exact ⟨p0, p1, p2, q0, q1, q2⟩
              exact HT _ _ ⟨⟨rfl, rfl, rfl, rfl, rfl, rfl, rfl, rfl, rfl, rfl, rfl, rfl, rfl, rfl⟩, HC.out, HD.out, HV.out, HY6.out⟩ ⟨p0, p1, p2, q0, q1, q2⟩
            · go_simp
              have hbn := below_new y3 (.cells #[.slice (some ⟨b10, 0, none⟩) 1 1] 27)
              have HY4 := Lib.hid (HY3.out.trans (hbn.mono HY3.out.size))
              have T11 : Hid (TupsAt (y3.alloc (.cells #[.slice (some ⟨b10, 0, none⟩) 1 1] 27)) (y3.alloc (.cells #[.slice (some ⟨b10, 0, none⟩) 1 1] 27)).heap.size (some ⟨y3.heap.size, 0, none⟩) 1 [[-2]]) := TupsAt.of1 I10.out (fun q => by cases q)
              replace HC := Lib.hid (HC.out.on hbn)
              replace HD := Lib.hid (HD.out.on hbn)
              replace HV := Lib.hid (HV.out.on hbn)
              replace I7 := Lib.hid (I7.out.on hbn)
              replace I10 := Lib.hid (I10.out.on hbn)
              replace I5 := Lib.hid (I5.out.on hbn)
              obtain ⟨y4, hy4⟩ : ∃ y4, y4 = y3.alloc (.cells #[.slice (some ⟨b10, 0, none⟩) 1 1] 27) := ⟨_, rfl⟩
              rw [← hy4] at HC HD HV HY4 T11 I7 I10 I5 ⊢
              obtain ⟨b11, hbb⟩ : ∃ b11, b11 = y3.heap.size := ⟨_, rfl⟩
              rw [← hbb] at T11 ⊢
              clear hbn hy4 hbb p0 p1 p2 q0 q1 q2
              have p0 := HC.out.c0
              have p1 := HC.out.c1
              have p2 := HC.out.c2
              have q0 := HD.out.c0
              have q1 := HD.out.c1
              have q2 := HD.out.c2
              refine hK.out _ _ ?_ (fun hHeld => ?_)
              · exact ⟨p0, p1, p2, q0, q1, q2⟩
              clear hK K
              refine wpAnyH_ready (rs := [9]) (by as_aux_lemma => kernel_rfl) (by simp) ?_
              refine AllReadyH.cons rfl (fun K hK => ?_) AllReadyH.nil
              go_simp
              have hbn := below_new y4 (.cells #[.bool false, .slice (some ⟨b5, 0, none⟩) 2 2, .bool true, .slice (some ⟨b7, 0, none⟩) 3 3] 44)
              have HY5 := Lib.hid (HY4.out.trans (hbn.mono HY4.out.size))
              have L9 : Hid (LitsAt (y4.alloc (.cells #[.bool false, .slice (some ⟨b5, 0, none⟩) 2 2, .bool true, .slice (some ⟨b7, 0, none⟩) 3 3] 44)) (y4.alloc (.cells #[.bool false, .slice (some ⟨b5, 0, none⟩) 2 2, .bool true, .slice (some ⟨b7, 0, none⟩) 3 3] 44)).heap.size (some ⟨y4.heap.size, 0, none⟩) 2 [⟨false, [5, -1]⟩, ⟨true, [6, -1, -2]⟩]) := LitsAt.of2 I5.out I7.out
              replace HC := Lib.hid (HC.out.on hbn)
              replace HD := Lib.hid (HD.out.on hbn)
              replace HV := Lib.hid (HV.out.on hbn)
              replace I7 := Lib.hid (I7.out.on hbn)
              replace I10 := Lib.hid (I10.out.on hbn)
              replace I5 := Lib.hid (I5.out.on hbn)
              replace T11 := Lib.hid (T11.out.on hbn)
              obtain ⟨y5, hy5⟩ : ∃ y5, y5 = y4.alloc (.cells #[.bool false, .slice (some ⟨b5, 0, none⟩) 2 2, .bool true, .slice (some ⟨b7, 0, none⟩) 3 3] 44) := ⟨_, rfl⟩
              rw [← hy5] at HC HD HV HY5 L9 I7 I10 I5 T11 ⊢
              obtain ⟨b9, hbb⟩ : ∃ b9, b9 = y4.heap.size := ⟨_, rfl⟩
              rw [← hbb] at L9 ⊢
              clear hbn hy5 hbb p0 p1 p2 q0 q1 q2
              have p0 := HC.out.c0
              have p1 := HC.out.c1
              have p2 := HC.out.c2
              have q0 := HD.out.c0
              have q1 := HD.out.c1
              have q2 := HD.out.c2
              refine hK.out _ _ ?_ (fun hHeld => ?_)
              · exact ⟨p0, p1, p2, q0, q1, q2⟩
              clear hK K
              refine takeH (i := 12) (v := ?_) rfl rfl (by as_aux_lemma => kernel_rfl) (by as_aux_lemma => kernel_rfl) (by as_aux_lemma => kernel_rfl) (fun _ _ _ h => h) (by rfl) ?_ hHeld ?_
              rotate_left
              · (intro w hSw; (try dsimp only at hSw); first | (go_simp; done) | (go_simp; with_reducible rfl))
              simp only [Act.put, List.setIfInBounds_toArray, List.set_cons_zero, List.set_cons_succ]
              have hcl : ClAt y5 y5.heap.size ⟨some ⟨b9, 0, none⟩, 2, 2, some ⟨b11, 0, none⟩, 1, 1, none, 0, 0⟩ awD := ClAt.ofTwo L9.out T11.out (by decide) (by decide) (by simp)
              have HCL : Hid (Calls Try.prog 16 #[.agg #[.slice x.A1 x.n1 x.c1, .slice x.A2 x.n2 x.c2, .slice x.A3 x.n3 x.c3], .agg #[.slice (some ⟨b9, 0, none⟩) 2 2, .slice (some ⟨b11, 0, none⟩) 1 1, .slice none 0 0]] y5 fun e w' => e = .returned (.bool true) ∧ Below y5.heap.size y5 w') := sameClause_true x ⟨some ⟨b9, 0, none⟩, 2, 2, some ⟨b11, 0, none⟩, 1, 1, none, 0, 0⟩ awD y5 HD.out.cl hcl
              clear hcl
              refine wpAnyH_ready (rs := [13]) (by as_aux_lemma => kernel_rfl) (by simp) ?_
              refine AllReadyH.cons rfl (fun K hK => ?_) AllReadyH.nil
              go_simp
              refine HCL.out.mono ?_
              rintro e y6 ⟨rfl, hb6⟩
              have HY6 := Lib.hid (HY5.out.trans (hb6.mono HY5.out.size))
              replace HC := Lib.hid (HC.out.on hb6)
              replace HD := Lib.hid (HD.out.on hb6)
              replace HV := Lib.hid (HV.out.on hb6)
              clear hb6 HCL p0 p1 p2 q0 q1 q2
              have p0 := HC.out.c0
              have p1 := HC.out.c1
              have p2 := HC.out.c2
              have q0 := HD.out.c0
              have q1 := HD.out.c1
              have q2 := HD.out.c2
              go_wp2_with fail
              refine hK.out _ _ ?_ (fun hHeld => ?_)
              · exact ⟨p0, p1, p2, q0, q1, q2⟩
              exact HT _ _ ⟨⟨rfl, rfl, rfl, rfl, rfl, rfl, rfl, rfl, rfl, rfl, rfl, rfl, rfl, rfl⟩, HC.out, HD.out, HV.out, HY6.out⟩ ⟨p0, p1, p2, q0, q1, q2⟩
          · go_simp
            have hbn := below_new y2 (.cells #[.slice (some ⟨b10, 0, none⟩) 1 1] 27)
            have HY3 := Lib.hid (HY2.out.trans (hbn.mono HY2.out.size))
            have T11 : Hid (TupsAt (y2.alloc (.cells #[.slice (some ⟨b10, 0, none⟩) 1 1] 27)) (y2.alloc (.cells #[.slice (some ⟨b10, 0, none⟩) 1 1] 27)).heap.size (some ⟨y2.heap.size, 0, none⟩) 1 [[-2]]) := TupsAt.of1 I10.out (fun q => by cases q)
            replace HC := Lib.hid (HC.out.on hbn)
            replace HD := Lib.hid (HD.out.on hbn)
            replace HV := Lib.hid (HV.out.on hbn)
            replace I7 := Lib.hid (I7.out.on hbn)
            replace I10 := Lib.hid (I10.out.on hbn)
            obtain ⟨y3, hy3⟩ : ∃ y3, y3 = y2.alloc (.cells #[.slice (some ⟨b10, 0, none⟩) 1 1] 27) := ⟨_, rfl⟩
            rw [← hy3] at HC HD HV HY3 T11 I7 I10 ⊢
            obtain ⟨b11, hbb⟩ : ∃ b11, b11 = y2.heap.size := ⟨_, rfl⟩
            rw [← hbb] at T11 ⊢
            clear hbn hy3 hbb p0 p1 p2 q0 q1 q2
            have p0 := HC.out.c0
            have p1 := HC.out.c1
            have p2 := HC.out.c2
            have q0 := HD.out.c0
            have q1 := HD.out.c1
            have q2 := HD.out.c2
            refine hK.out _ _ ?_ (fun hHeld => ?_)
            · exact ⟨p0, p1, p2, q0, q1, q2⟩
            clear hK K
            refine wpAnyH_ready (rs := [5]) (by as_aux_lemma => kernel_rfl) (by simp) ?_
            refine AllReadyH.cons rfl (fun K hK => ?_) AllReadyH.nil
            go_simp
            have hbn := below_new y3 (.cells #[.int .i64 5, .int .i64 (-1)] 3)
            have HY4 := Lib.hid (HY3.out.trans (hbn.mono HY3.out.size))
            have I5 : Hid (LitAt (y3.alloc (.cells #[.int .i64 5, .int .i64 (-1)] 3)) (y3.alloc (.cells #[.int .i64 5, .int .i64 (-1)] 3)).heap.size (some ⟨y3.heap.size, 0, none⟩) 2 2 ⟨false, [5, -1]⟩) := LitAt.lit' y3 false [5, -1] (by decide)
            replace HC := Lib.hid (HC.out.on hbn)
            replace HD := Lib.hid (HD.out.on hbn)
            replace HV := Lib.hid (HV.out.on hbn)
            replace I7 := Lib.hid (I7.out.on hbn)
            replace I10 := Lib.hid (I10.out.on hbn)
            replace T11 := Lib.hid (T11.out.on hbn)
            obtain ⟨y4, hy4⟩ : ∃ y4, y4 = y3.alloc (.cells #[.int .i64 5, .int .i64 (-1)] 3) := ⟨_, rfl⟩
            rw [← hy4] at HC HD HV HY4 I5 I7 I10 T11 ⊢
            obtain ⟨b5, hbb⟩ : ∃ b5, b5 = y3.heap.size := ⟨_, rfl⟩
            rw [← hbb] at I5 ⊢
            clear hbn hy4 hbb p0 p1 p2 q0 q1 q2
            have p0 := HC.out.c0
            have p1 := HC.out.c1
            have p2 := HC.out.c2
            have q0 := HD.out.c0
            have q1 := HD.out.c1
            have q2 := HD.out.c2
            refine hK.out _ _ ?_ (fun hHeld => ?_)
            · exact ⟨p0, p1, p2, q0, q1, q2⟩
            clear hK K
            refine takeH (i := 6) (v := ?_) rfl rfl (by as_aux_lemma => kernel_rfl) (by as_aux_lemma => kernel_rfl) (by as_aux_lemma => kernel_rfl) (fun _ _ _ h => h) (by rfl) ?_ hHeld ?_
            rotate_left
            · (intro w hSw; (try dsimp only at hSw); first | (go_simp; done) | (go_simp; with_reducible rfl))
            simp only [Act.put, List.setIfInBounds_toArray, List.set_cons_zero, List.set_cons_succ]
            refine wpAnyH_ready (rs := [9]) (by as_aux_lemma => kernel_rfl) (by simp) ?_
            refine AllReadyH.cons rfl (fun K hK => ?_) AllReadyH.nil
            go_simp
            have hbn := below_new y4 (.cells #[.bool false, .slice (some ⟨b5, 0, none⟩) 2 2, .bool true, .slice (some ⟨b7, 0, none⟩) 3 3] 44)
            have HY5 := Lib.hid (HY4.out.trans (hbn.mono HY4.out.size))
            have L9 : Hid (LitsAt (y4.alloc (.cells #[.bool false, .slice (some ⟨b5, 0, none⟩) 2 2, .bool true, .slice (some ⟨b7, 0, none⟩) 3 3] 44)) (y4.alloc (.cells #[.bool false, .slice (some ⟨b5, 0, none⟩) 2 2, .bool true, .slice (some ⟨b7, 0, none⟩) 3 3] 44)).heap.size (some ⟨y4.heap.size, 0, none⟩) 2 [⟨false, [5, -1]⟩, ⟨true, [6, -1, -2]⟩]) := LitsAt.of2 I5.out I7.out
            replace HC := Lib.hid (HC.out.on hbn)
            replace HD := Lib.hid (HD.out.on hbn)
            replace HV := Lib.hid (HV.out.on hbn)
            replace I7 := Lib.hid (I7.out.on hbn)
            replace I10 := Lib.hid (I10.out.on hbn)
            replace T11 := Lib.hid (T11.out.on hbn)
            replace I5 := Lib.hid (I5.out.on hbn)
            obtain ⟨y5, hy5⟩ : ∃ y5, y5 = y4.alloc (.cells #[.bool false, .slice (some ⟨b5, 0, none⟩) 2 2, .bool true, .slice (some ⟨b7, 0, none⟩) 3 3] 44) := ⟨_, rfl⟩
            rw [← hy5] at HC HD HV HY5 L9 I7 I10 T11 I5 ⊢
            obtain ⟨b9, hbb⟩ : ∃ b9, b9 = y4.heap.size := ⟨_, rfl⟩
            rw [← hbb] at L9 ⊢
            clear hbn hy5 hbb p0 p1 p2 q0 q1 q2
            have p0 := HC.out.c0
            have p1 := HC.out.c1
            have p2 := HC.out.c2
            have q0 := HD.out.c0
            have q1 := HD.out.c1
            have q2 := HD.out.c2
            refine hK.out _ _ ?_ (fun hHeld => ?_)
            · exact ⟨p0, p1, p2, q0, q1, q2⟩
            clear hK K
            refine takeH (i := 12) (v := ?_) rfl rfl (by as_aux_lemma => kernel_rfl) (by as_aux_lemma => kernel_rfl) (by as_aux_lemma => kernel_rfl) (fun _ _ _ h => h) (by rfl) ?_ hHeld ?_
            rotate_left
            · (intro w hSw; (try dsimp only at hSw); first | (go_simp; done) | (go_simp; with_reducible rfl))
            simp only [Act.put, List.setIfInBounds_toArray, List.set_cons_zero, List.set_cons_succ]
            have hcl : ClAt y5 y5.heap.size ⟨some ⟨b9, 0, none⟩, 2, 2, some ⟨b11, 0, none⟩, 1, 1, none, 0, 0⟩ awD := ClAt.ofTwo L9.out T11.out (by decide) (by decide) (by simp)
            have HCL : Hid (Calls Try.prog 16 #[.agg #[.slice x.A1 x.n1 x.c1, .slice x.A2 x.n2 x.c2, .slice x.A3 x.n3 x.c3], .agg #[.slice (some ⟨b9, 0, none⟩) 2 2, .slice (some ⟨b11, 0, none⟩) 1 1, .slice none 0 0]] y5 fun e w' => e = .returned (.bool true) ∧ Below y5.heap.size y5 w') := sameClause_true x ⟨some ⟨b9, 0, none⟩, 2, 2, some ⟨b11, 0, none⟩, 1, 1, none, 0, 0⟩ awD y5 HD.out.cl hcl
            clear hcl
            refine wpAnyH_ready (rs := [13]) (by as_aux_lemma => kernel_rfl) (by simp) ?_
            refine AllReadyH.cons rfl (fun K hK => ?_) AllReadyH.nil
            go_simp
            refine HCL.out.mono ?_
            rintro e y6 ⟨rfl, hb6⟩
            have HY6 := Lib.hid (HY5.out.trans (hb6.mono HY5.out.size))
            replace HC := Lib.hid (HC.out.on hb6)
            replace HD := Lib.hid (HD.out.on hb6)
            replace HV := Lib.hid (HV.out.on hb6)
            clear hb6 HCL p0 p1 p2 q0 q1 q2
            have p0 := HC.out.c0
            have p1 := HC.out.c1
            have p2 := HC.out.c2
            have q0 := HD.out.c0
            have q1 := HD.out.c1
            have q2 := HD.out.c2
            go_wp2_with fail
            refine hK.out _ _ ?_ (fun hHeld => ?_)
            · exact ⟨p0, p1, p2, q0, q1, q2⟩
            exact HT _ _ ⟨⟨rfl, rfl, rfl, rfl, rfl, rfl, rfl, rfl, rfl, rfl, rfl, rfl, rfl, rfl⟩, HC.out, HD.out, HV.out, HY6.out⟩ ⟨p0, p1, p2, q0, q1, q2⟩
      · go_simp
        have hbn := below_new y0 (.cells #[.int .i64 (-2)] 3)
        have HY1 := Lib.hid (HY0.out.trans (hbn.mono HY0.out.size))
        have I10 : Hid (RowIn (y0.alloc (.cells #[.int .i64 (-2)] 3)) (y0.alloc (.cells #[.int .i64 (-2)] 3)).heap.size (some ⟨y0.heap.size, 0, none⟩) 1 1 [-2]) := RowIn.lit' y0 [-2] (by decide)
        replace HC := Lib.hid (HC.out.on hbn)
        replace HD := Lib.hid (HD.out.on hbn)
        replace HV := Lib.hid (HV.out.on hbn)
        obtain ⟨y1, hy1⟩ : ∃ y1, y1 = y0.alloc (.cells #[.int .i64 (-2)] 3) := ⟨_, rfl⟩
        rw [← hy1] at HC HD HV HY1 I10  ⊢
        obtain ⟨b10, hbb⟩ : ∃ b10, b10 = y0.heap.size := ⟨_, rfl⟩
        rw [← hbb] at I10 ⊢
        clear hbn hy1 hbb p0 p1 p2 q0 q1 q2
        have p0 := HC.out.c0
        have p1 := HC.out.c1
        have p2 := HC.out.c2
        have q0 := HD.out.c0
        have q1 := HD.out.c1
        have q2 := HD.out.c2
        refine hK.out _ _ ?_ (fun hHeld => ?_)
        · exact ⟨p0, p1, p2, q0, q1, q2⟩
        clear hK K
        refine wpAnyH_ready (rs := [5, 7, 11]) (by as_aux_lemma => kernel_rfl) (by simp) ?_
        refine AllReadyH.cons rfl (fun K hK => ?_) (AllReadyH.cons rfl (fun K hK => ?_) (AllReadyH.cons rfl (fun K hK => ?_) AllReadyH.nil))
        · go_simp
          have hbn := below_new y1 (.cells #[.int .i64 5, .int .i64 (-1)] 3)
          have HY2 := Lib.hid (HY1.out.trans (hbn.mono HY1.out.size))
          have I5 : Hid (LitAt (y1.alloc (.cells #[.int .i64 5, .int .i64 (-1)] 3)) (y1.alloc (.cells #[.int .i64 5, .int .i64 (-1)] 3)).heap.size (some ⟨y1.heap.size, 0, none⟩) 2 2 ⟨false, [5, -1]⟩) := LitAt.lit' y1 false [5, -1] (by decide)
          replace HC := Lib.hid (HC.out.on hbn)
          replace HD := Lib.hid (HD.out.on hbn)
          replace HV := Lib.hid (HV.out.on hbn)
          replace I10 := Lib.hid (I10.out.on hbn)
          obtain ⟨y2, hy2⟩ : ∃ y2, y2 = y1.alloc (.cells #[.int .i64 5, .int .i64 (-1)] 3) := ⟨_, rfl⟩
          rw [← hy2] at HC HD HV HY2 I5 I10 ⊢
          obtain ⟨b5, hbb⟩ : ∃ b5, b5 = y1.heap.size := ⟨_, rfl⟩
          rw [← hbb] at I5 ⊢
          clear hbn hy2 hbb p0 p1 p2 q0 q1 q2
          have p0 := HC.out.c0
          have p1 := HC.out.c1
          have p2 := HC.out.c2
          have q0 := HD.out.c0
          have q1 := HD.out.c1
          have q2 := HD.out.c2
          refine hK.out _ _ ?_ (fun hHeld => ?_)
          · exact ⟨p0, p1, p2, q0, q1, q2⟩
          clear hK K
          refine takeH (i := 6) (v := ?_) rfl rfl (by as_aux_lemma => kernel_rfl) (by as_aux_lemma => kernel_rfl) (by as_aux_lemma => kernel_rfl) (fun _ _ _ h => h) (by rfl) ?_ hHeld ?_
          rotate_left
          · (intro w hSw; (try dsimp only at hSw); first | (go_simp; done) | (go_simp; with_reducible rfl))
          simp only [Act.put, List.setIfInBounds_toArray, List.set_cons_zero, List.set_cons_succ]
          refine wpAnyH_ready (rs := [7, 11]) (by as_aux_lemma => kernel_rfl) (by simp) ?_
          refine AllReadyH.cons rfl (fun K hK => ?_) (AllReadyH.cons rfl (fun K hK => ?_) AllReadyH.nil)
          · go_simp
            have hbn := below_new y2 (.cells #[.int .i64 6, .int .i64 (-1), .int .i64 (-2)] 3)
            have HY3 := Lib.hid (HY2.out.trans (hbn.mono HY2.out.size))
            have I7 : Hid (LitAt (y2.alloc (.cells #[.int .i64 6, .int .i64 (-1), .int .i64 (-2)] 3)) (y2.alloc (.cells #[.int .i64 6, .int .i64 (-1), .int .i64 (-2)] 3)).heap.size (some ⟨y2.heap.size, 0, none⟩) 3 3 ⟨true, [6, -1, -2]⟩) := LitAt.lit' y2 true [6, -1, -2] (by decide)
            replace HC := Lib.hid (HC.out.on hbn)
            replace HD := Lib.hid (HD.out.on hbn)
            replace HV := Lib.hid (HV.out.on hbn)
            replace I10 := Lib.hid (I10.out.on hbn)
            replace I5 := Lib.hid (I5.out.on hbn)
            obtain ⟨y3, hy3⟩ : ∃ y3, y3 = y2.alloc (.cells #[.int .i64 6, .int .i64 (-1), .int .i64 (-2)] 3) := ⟨_, rfl⟩
            rw [← hy3] at HC HD HV HY3 I7 I10 I5 ⊢
            obtain ⟨b7, hbb⟩ : ∃ b7, b7 = y2.heap.size := ⟨_, rfl⟩
            rw [← hbb] at I7 ⊢
            clear hbn hy3 hbb p0 p1 p2 q0 q1 q2
            have p0 := HC.out.c0
            have p1 := HC.out.c1
            have p2 := HC.out.c2
            have q0 := HD.out.c0
            have q1 := HD.out.c1
            have q2 := HD.out.c2
            refine hK.out _ _ ?_ (fun hHeld => ?_)
            · exact ⟨p0, p1, p2, q0, q1, q2⟩
            clear hK K
            refine takeH (i := 8) (v := ?_) rfl rfl (by as_aux_lemma => kernel_rfl) (by as_aux_lemma => kernel_rfl) (by as_aux_lemma => kernel_rfl) (fun _ _ _ h => h) (by rfl) ?_ hHeld ?_
            rotate_left
            · (intro w hSw; (try dsimp only at hSw); first | (go_simp; done) | (go_simp; with_reducible rfl))
            simp only [Act.put, List.setIfInBounds_toArray, List.set_cons_zero, List.set_cons_succ]
            refine wpAnyH_ready (rs := [9, 11]) (by as_aux_lemma => kernel_rfl) (by simp) ?_
            refine AllReadyH.cons rfl (fun K hK => ?_) (AllReadyH.cons rfl (fun K hK => ?_) AllReadyH.nil)
            · go_simp
              have hbn := below_new y3 (.cells #[.bool false, .slice (some ⟨b5, 0, none⟩) 2 2, .bool true, .slice (some ⟨b7, 0, none⟩) 3 3] 44)
              have HY4 := Lib.hid (HY3.out.trans (hbn.mono HY3.out.size))
              have L9 : Hid (LitsAt (y3.alloc (.cells #[.bool false, .slice (some ⟨b5, 0, none⟩) 2 2, .bool true, .slice (some ⟨b7, 0, none⟩) 3 3] 44)) (y3.alloc (.cells #[.bool false, .slice (some ⟨b5, 0, none⟩) 2 2, .bool true, .slice (some ⟨b7, 0, none⟩) 3 3] 44)).heap.size (some ⟨y3.heap.size, 0, none⟩) 2 [⟨false, [5, -1]⟩, ⟨true, [6, -1, -2]⟩]) := LitsAt.of2 I5.out I7.out
              replace HC := Lib.hid (HC.out.on hbn)
              replace HD := Lib.hid (HD.out.on hbn)
              replace HV := Lib.hid (HV.out.on hbn)
              replace I10 := Lib.hid (I10.out.on hbn)
              replace I5 := Lib.hid (I5.out.on hbn)
              replace I7 := Lib.hid (I7.out.on hbn)
              obtain ⟨y4, hy4⟩ : ∃ y4, y4 = y3.alloc (.cells #[.bool false, .slice (some ⟨b5, 0, none⟩) 2 2, .bool true, .slice (some ⟨b7, 0, none⟩) 3 3] 44) := ⟨_, rfl⟩
              rw [← hy4] at HC HD HV HY4 L9 I10 I5 I7 ⊢
              obtain ⟨b9, hbb⟩ : ∃ b9, b9 = y3.heap.size := ⟨_, rfl⟩
              rw [← hbb] at L9 ⊢
              clear hbn hy4 hbb p0 p1 p2 q0 q1 q2
              have p0 := HC.out.c0
              have p1 := HC.out.c1
              have p2 := HC.out.c2
              have q0 := HD.out.c0
              have q1 := HD.out.c1
              have q2 := HD.out.c2
              refine hK.out _ _ ?_ (fun hHeld => ?_)
              · exact ⟨p0, p1, p2, q0, q1, q2⟩
              clear hK K
              refine wpAnyH_ready (rs := [11]) (by as_aux_lemma => kernel_rfl) (by simp) ?_
              refine AllReadyH.cons rfl (fun K hK => ?_) AllReadyH.nil
              go_simp
              have hbn := below_new y4 (.cells #[.slice (some ⟨b10, 0, none⟩) 1 1] 27)
              have HY5 := Lib.hid (HY4.out.trans (hbn.mono HY4.out.size))
              have T11 : Hid (TupsAt (y4.alloc (.cells #[.slice (some ⟨b10, 0, none⟩) 1 1] 27)) (y4.alloc (.cells #[.slice (some ⟨b10, 0, none⟩) 1 1] 27)).heap.size (some ⟨y4.heap.size, 0, none⟩) 1 [[-2]]) := TupsAt.of1 I10.out (fun q => by cases q)
              replace HC := Lib.hid (HC.out.on hbn)
              replace HD := Lib.hid (HD.out.on hbn)
              replace HV := Lib.hid (HV.out.on hbn)
              replace I10 := Lib.hid (I10.out.on hbn)
              replace I5 := Lib.hid (I5.out.on hbn)
              replace I7 := Lib.hid (I7.out.on hbn)
              replace L9 := Lib.hid (L9.out.on hbn)
              obtain ⟨y5, hy5⟩ : ∃ y5, y5 = y4.alloc (.cells #[.slice (some ⟨b10, 0, none⟩) 1 1] 27) := ⟨_, rfl⟩
              rw [← hy5] at HC HD HV HY5 T11 I10 I5 I7 L9 ⊢
              obtain ⟨b11, hbb⟩ : ∃ b11, b11 = y4.heap.size := ⟨_, rfl⟩
              rw [← hbb] at T11 ⊢
              clear hbn hy5 hbb p0 p1 p2 q0 q1 q2
              have p0 := HC.out.c0
              have p1 := HC.out.c1
              have p2 := HC.out.c2
              have q0 := HD.out.c0
              have q1 := HD.out.c1
              have q2 := HD.out.c2
              refine hK.out _ _ ?_ (fun hHeld => ?_)
              · exact ⟨p0, p1, p2, q0, q1, q2⟩
              clear hK K
              refine takeH (i := 12) (v := ?_) rfl rfl (by as_aux_lemma => kernel_rfl) (by as_aux_lemma => kernel_rfl) (by as_aux_lemma => kernel_rfl) (fun _ _ _ h => h) (by rfl) ?_ hHeld ?_
              rotate_left
              · (intro w hSw; (try dsimp only at hSw); first | (go_simp; done) | (go_simp; with_reducible rfl))
              simp only [Act.put, List.setIfInBounds_toArray, List.set_cons_zero, List.set_cons_succ]
              have hcl : ClAt y5 y5.heap.size ⟨some ⟨b9, 0, none⟩, 2, 2, some ⟨b11, 0, none⟩, 1, 1, none, 0, 0⟩ awD := ClAt.ofTwo L9.out T11.out (by decide) (by decide) (by simp)
              have HCL : Hid (Calls Try.prog 16 #[.agg #[.slice x.A1 x.n1 x.c1, .slice x.A2 x.n2 x.c2, .slice x.A3 x.n3 x.c3], .agg #[.slice (some ⟨b9, 0, none⟩) 2 2, .slice (some ⟨b11, 0, none⟩) 1 1, .slice none 0 0]] y5 fun e w' => e = .returned (.bool true) ∧ Below y5.heap.size y5 w') := sameClause_true x ⟨some ⟨b9, 0, none⟩, 2, 2, some ⟨b11, 0, none⟩, 1, 1, none, 0, 0⟩ awD y5 HD.out.cl hcl
              clear hcl
              refine wpAnyH_ready (rs := [13]) (by as_aux_lemma => kernel_rfl) (by simp) ?_
              refine AllReadyH.cons rfl (fun K hK => ?_) AllReadyH.nil
              go_simp
              refine HCL.out.mono ?_
              rintro e y6 ⟨rfl, hb6⟩
              have HY6 := Lib.hid (HY5.out.trans (hb6.mono HY5.out.size))
              replace HC := Lib.hid (HC.out.on hb6)
              replace HD := Lib.hid (HD.out.on hb6)
              replace HV := Lib.hid (HV.out.on hb6)
              clear hb6 HCL p0 p1 p2 q0 q1 q2
              have p0 := HC.out.c0
              have p1 := HC.out.c1
              have p2 := HC.out.c2
              have q0 := HD.out.c0
              have q1 := HD.out.c1
              have q2 := HD.out.c2
              go_wp2_with fail
              refine hK.out _ _ ?_ (fun hHeld => ?_)
              · exact ⟨p0, p1, p2, q0, q1, q2⟩
              exact HT _ _ ⟨⟨rfl, rfl, rfl, rfl, rfl, rfl, rfl, rfl, rfl, rfl, rfl, rfl, rfl, rfl⟩, HC.out, HD.out, HV.out, HY6.out⟩ ⟨p0, p1, p2, q0, q1, q2⟩
            · go_simp
              have hbn := below_new y3 (.cells #[.slice (some ⟨b10, 0, none⟩) 1 1] 27)
              have HY4 := Lib.hid (HY3.out.trans (hbn.mono HY3.out.size))
              have T11 : Hid (TupsAt (y3.alloc (.cells #[.slice (some ⟨b10, 0, none⟩) 1 1] 27)) (y3.alloc (.cells #[.slice (some ⟨b10, 0, none⟩) 1 1] 27)).heap.size (some ⟨y3.heap.size, 0, none⟩) 1 [[-2]]) := TupsAt.of1 I10.out (fun q => by cases q)
              replace HC := Lib.hid (HC.out.on hbn)
              replace HD := Lib.hid (HD.out.on hbn)
              replace HV := Lib.hid (HV.out.on hbn)
              replace I10 := Lib.hid (I10.out.on hbn)
              replace I5 := Lib.hid (I5.out.on hbn)
              replace I7 := Lib.hid (I7.out.on hbn)
              obtain ⟨y4, hy4⟩ : ∃ y4, y4 = y3.alloc (.cells #[.slice (some ⟨b10, 0, none⟩) 1 1] 27) := ⟨_, rfl⟩
              rw [← hy4] at HC HD HV HY4 T11 I10 I5 I7 ⊢
              obtain ⟨b11, hbb⟩ : ∃ b11, b11 = y3.heap.size := ⟨_, rfl⟩
              rw [← hbb] at T11 ⊢
              clear hbn hy4 hbb p0 p1 p2 q0 q1 q2
              have p0 := HC.out.c0
              have p1 := HC.out.c1
              have p2 := HC.out.c2
              have q0 := HD.out.c0
              have q1 := HD.out.c1
              have q2 := HD.out.c2
              refine hK.out _ _ ?_ (fun hHeld => ?_)
              · exact ⟨p0, p1, p2, q0, q1, q2⟩
              clear hK K
              refine wpAnyH_ready (rs := [9]) (by as_aux_lemma => kernel_rfl) (by simp) ?_
              refine AllReadyH.cons rfl (fun K hK => ?_) AllReadyH.nil
              go_simp
              have hbn := below_new y4 (.cells #[.bool false, .slice (some ⟨b5, 0, none⟩) 2 2, .bool true, .slice (some ⟨b7, 0, none⟩) 3 3] 44)
              have HY5 := Lib.hid (HY4.out.trans (hbn.mono HY4.out.size))
              have L9 : Hid (LitsAt (y4.alloc (.cells #[.bool false, .slice (some ⟨b5, 0, none⟩) 2 2, .bool true, .slice (some ⟨b7, 0, none⟩) 3 3] 44)) (y4.alloc (.cells #[.bool false, .slice (some ⟨b5, 0, none⟩) 2 2, .bool true, .slice (some ⟨b7, 0, none⟩) 3 3] 44)).heap.size (some ⟨y4.heap.size, 0, none⟩) 2 [⟨false, [5, -1]⟩, ⟨true, [6, -1, -2]⟩]) := LitsAt.of2 I5.out I7.out
              replace HC := Lib.hid (HC.out.on hbn)
              replace HD := Lib.hid (HD.out.on hbn)
              replace HV := Lib.hid (HV.out.on hbn)
              replace I10 := Lib.hid (I10.out.on hbn)
              replace I5 := Lib.hid (I5.out.on hbn)
              replace I7 := Lib.hid (I7.out.on hbn)
              replace T11 := Lib.hid (T11.out.on hbn)
              obtain ⟨y5, hy5⟩ : ∃ y5, y5 = y4.alloc (.cells #[.bool false, .slice (some ⟨b5, 0, none⟩) 2 2, .bool true, .slice (some ⟨b7, 0, none⟩) 3 3] 44) := ⟨_, rfl⟩
              rw [← hy5] at HC HD HV HY5 L9 I10 I5 I7 T11 ⊢
              obtain ⟨b9, hbb⟩ : ∃ b9, b9 = y4.heap.size := ⟨_, rfl⟩
              rw [← hbb] at L9 ⊢
              clear hbn hy5 hbb p0 p1 p2 q0 q1 q2
              have p0 := HC.out.c0
              have p1 := HC.out.c1
              have p2 := HC.out.c2
              have q0 := HD.out.c0
              have q1 := HD.out.c1
              have q2 := HD.out.c2
              refine hK.out _ _ ?_ (fun hHeld => ?_)
              · exact ⟨p0, p1, p2, q0, q1, q2⟩
              clear hK K
              refine takeH (i := 12) (v := ?_) rfl rfl (by as_aux_lemma => kernel_rfl) (by as_aux_lemma => kernel_rfl) (by as_aux_lemma => kernel_rfl) (fun _ _ _ h => h) (by rfl) ?_ hHeld ?_
              rotate_left
              · (intro w hSw; (try dsimp only at hSw); first | (go_simp; done) | (go_simp; with_reducible rfl))
              simp only [Act.put, List.setIfInBounds_toArray, List.set_cons_zero, List.set_cons_succ]
              have hcl : ClAt y5 y5.heap.size ⟨some ⟨b9, 0, none⟩, 2, 2, some ⟨b11, 0, none⟩, 1, 1, none, 0, 0⟩ awD := ClAt.ofTwo L9.out T11.out (by decide) (by decide) (by simp)
              have HCL : Hid (Calls Try.prog 16 #[.agg #[.slice x.A1 x.n1 x.c1, .slice x.A2 x.n2 x.c2, .slice x.A3 x.n3 x.c3], .agg #[.slice (some ⟨b9, 0, none⟩) 2 2, .slice (some ⟨b11, 0, none⟩) 1 1, .slice none 0 0]] y5 fun e w' => e = .returned (.bool true) ∧ Below y5.heap.size y5 w') := sameClause_true x ⟨some ⟨b9, 0, none⟩, 2, 2, some ⟨b11, 0, none⟩, 1, 1, none, 0, 0⟩ awD y5 HD.out.cl hcl
              clear hcl
              refine wpAnyH_ready (rs := [13]) (by as_aux_lemma => kernel_rfl) (by simp) ?_
              refine AllReadyH.cons rfl (fun K hK => ?_) AllReadyH.nil
              go_simp
              refine HCL.out.mono ?_
              rintro e y6 ⟨rfl, hb6⟩
              have HY6 := Lib.hid (HY5.out.trans (hb6.mono HY5.out.size))
              replace HC := Lib.hid (HC.out.on hb6)
              replace HD := Lib.hid (HD.out.on hb6)
              replace HV := Lib.hid (HV.out.on hb6)
              clear hb6 HCL p0 p1 p2 q0 q1 q2
              have p0 := HC.out.c0
              have p1 := HC.out.c1
              have p2 := HC.out.c2
              have q0 := HD.out.c0
              have q1 := HD.out.c1
              have q2 := HD.out.c2
              go_wp2_with fail
              refine hK.out _ _ ?_ (fun hHeld => ?_)
              · exact ⟨p0, p1, p2, q0, q1, q2⟩
              exact HT _ _ ⟨⟨rfl, rfl, rfl, rfl, rfl, rfl, rfl, rfl, rfl, rfl, rfl, rfl, rfl, rfl⟩, HC.out, HD.out, HV.out, HY6.out⟩ ⟨p0, p1, p2, q0, q1, q2⟩
          · go_simp
            have hbn := below_new y2 (.cells #[.slice (some ⟨b10, 0, none⟩) 1 1] 27)
            have HY3 := Lib.hid (HY2.out.trans (hbn.mono HY2.out.size))
            have T11 : Hid (TupsAt (y2.alloc (.cells #[.slice (some ⟨b10, 0, none⟩) 1 1] 27)) (y2.alloc (.cells #[.slice (some ⟨b10, 0, none⟩) 1 1] 27)).heap.size (some ⟨y2.heap.size, 0, none⟩) 1 [[-2]]) := TupsAt.of1 I10.out (fun q => by cases q)
            replace HC := Lib.hid (HC.out.on hbn)
            replace HD := Lib.hid (HD.out.on hbn)
            replace HV := Lib.hid (HV.out.on hbn)
            replace I10 := Lib.hid (I10.out.on hbn)
            replace I5 := Lib.hid (I5.out.on hbn)
            obtain ⟨y3, hy3⟩ : ∃ y3, y3 = y2.alloc (.cells #[.slice (some ⟨b10, 0, none⟩) 1 1] 27) := ⟨_, rfl⟩
            rw [← hy3] at HC HD HV HY3 T11 I10 I5 ⊢
            obtain ⟨b11, hbb⟩ : ∃ b11, b11 = y2.heap.size := ⟨_, rfl⟩
            rw [← hbb] at T11 ⊢
            clear hbn hy3 hbb p0 p1 p2 q0 q1 q2
            have p0 := HC.out.c0
            have p1 := HC.out.c1
            have p2 := HC.out.c2
            have q0 := HD.out.c0
            have q1 := HD.out.c1
            have q2 := HD.out.c2
            refine hK.out _ _ ?_ (fun hHeld => ?_)
            · exact ⟨p0, p1, p2, q0, q1, q2⟩
            clear hK K
            refine wpAnyH_ready (rs := [7]) (by as_aux_lemma => kernel_rfl) (by simp) ?_
            refine AllReadyH.cons rfl (fun K hK => ?_) AllReadyH.nil
            go_simp
            have hbn := below_new y3 (.cells #[.int .i64 6, .int .i64 (-1), .int .i64 (-2)] 3)
            have HY4 := Lib.hid (HY3.out.trans (hbn.mono HY3.out.size))
            have I7 : Hid (LitAt (y3.alloc (.cells #[.int .i64 6, .int .i64 (-1), .int .i64 (-2)] 3)) (y3.alloc (.cells #[.int .i64 6, .int .i64 (-1), .int .i64 (-2)] 3)).heap.size (some ⟨y3.heap.size, 0, none⟩) 3 3 ⟨true, [6, -1, -2]⟩) := LitAt.lit' y3 true [6, -1, -2] (by decide)
            replace HC := Lib.hid (HC.out.on hbn)
            replace HD := Lib.hid (HD.out.on hbn)
            replace HV := Lib.hid (HV.out.on hbn)
            replace I10 := Lib.hid (I10.out.on hbn)
            replace I5 := Lib.hid (I5.out.on hbn)
            replace T11 := Lib.hid (T11.out.on hbn)
            obtain ⟨y4, hy4⟩ : ∃ y4, y4 = y3.alloc (.cells #[.int .i64 6, .int .i64 (-1), .int .i64 (-2)] 3) := ⟨_, rfl⟩
            rw [← hy4] at HC HD HV HY4 I7 I10 I5 T11 ⊢
            obtain ⟨b7, hbb⟩ : ∃ b7, b7 = y3.heap.size := ⟨_, rfl⟩
            rw [← hbb] at I7 ⊢
            clear hbn hy4 hbb p0 p1 p2 q0 q1 q2
            have p0 := HC.out.c0
            have p1 := HC.out.c1
            have p2 := HC.out.c2
            have q0 := HD.out.c0
            have q1 := HD.out.c1
            have q2 := HD.out.c2
            refine hK.out _ _ ?_ (fun hHeld => ?_)
            · exact ⟨p0, p1, p2, q0, q1, q2⟩
            clear hK K
            refine takeH (i := 8) (v := ?_) rfl rfl (by as_aux_lemma => kernel_rfl) (by as_aux_lemma => kernel_rfl) (by as_aux_lemma => kernel_rfl) (fun _ _ _ h => h) (by rfl) ?_ hHeld ?_
            rotate_left
            · (intro w hSw; (try dsimp only at hSw); first | (go_simp; done) | (go_simp; with_reducible rfl))
            simp only [Act.put, List.setIfInBounds_toArray, List.set_cons_zero, List.set_cons_succ]
            refine wpAnyH_ready (rs := [9]) (by as_aux_lemma => kernel_rfl) (by simp) ?_
            refine AllReadyH.cons rfl (fun K hK => ?_) AllReadyH.nil
            go_simp
            have hbn := below_new y4 (.cells #[.bool false, .slice (some ⟨b5, 0, none⟩) 2 2, .bool true, .slice (some ⟨b7, 0, none⟩) 3 3] 44)
            have HY5 := Lib.hid (HY4.out.trans (hbn.mono HY4.out.size))
            have L9 : Hid (LitsAt (y4.alloc (.cells #[.bool false, .slice (some ⟨b5, 0, none⟩) 2 2, .bool true, .slice (some ⟨b7, 0, none⟩) 3 3] 44)) (y4.alloc (.cells #[.bool false, .slice (some ⟨b5, 0, none⟩) 2 2, .bool true, .slice (some ⟨b7, 0, none⟩) 3 3] 44)).heap.size (some ⟨y4.heap.size, 0, none⟩) 2 [⟨false, [5, -1]⟩, ⟨true, [6, -1, -2]⟩]) := LitsAt.of2 I5.out I7.out
            replace HC := Lib.hid (HC.out.on hbn)
            replace HD := Lib.hid (HD.out.on hbn)
            replace HV := Lib.hid (HV.out.on hbn)
            replace I10 := Lib.hid (I10.out.on hbn)
            replace I5 := Lib.hid (I5.out.on hbn)
            replace T11 := Lib.hid (T11.out.on hbn)
            replace I7 := Lib.hid (I7.out.on hbn)
            obtain ⟨y5, hy5⟩ : ∃ y5, y5 = y4.alloc (.cells #[.bool false, .slice (some ⟨b5, 0, none⟩) 2 2, .bool true, .slice (some ⟨b7, 0, none⟩) 3 3] 44) := ⟨_, rfl⟩
            rw [← hy5] at HC HD HV HY5 L9 I10 I5 T11 I7 ⊢
            obtain ⟨b9, hbb⟩ : ∃ b9, b9 = y4.heap.size := ⟨_, rfl⟩
            rw [← hbb] at L9 ⊢
            clear hbn hy5 hbb p0 p1 p2 q0 q1 q2
            have p0 := HC.out.c0
            have p1 := HC.out.c1
            have p2 := HC.out.c2
            have q0 := HD.out.c0
            have q1 := HD.out.c1
            have q2 := HD.out.c2
            refine hK.out _ _ ?_ (fun hHeld => ?_)
            · exact ⟨p0, p1, p2, q0, q1, q2⟩
            clear hK K
            refine takeH (i := 12) (v := ?_) rfl rfl (by as_aux_lemma => kernel_rfl) (by as_aux_lemma => kernel_rfl) (by as_aux_lemma => kernel_rfl) (fun _ _ _ h => h) (by rfl) ?_ hHeld ?_
            rotate_left
            · (intro w hSw; (try dsimp only at hSw); first | (go_simp; done) | (go_simp; with_reducible rfl))
            simp only [Act.put, List.setIfInBounds_toArray, List.set_cons_zero, List.set_cons_succ]
            have hcl : ClAt y5 y5.heap.size ⟨some ⟨b9, 0, none⟩, 2, 2, some ⟨b11, 0, none⟩, 1, 1, none, 0, 0⟩ awD := ClAt.ofTwo L9.out T11.out (by decide) (by decide) (by simp)
            have HCL : Hid (Calls Try.prog 16 #[.agg #[.slice x.A1 x.n1 x.c1, .slice x.A2 x.n2 x.c2, .slice x.A3 x.n3 x.c3], .agg #[.slice (some ⟨b9, 0, none⟩) 2 2, .slice (some ⟨b11, 0, none⟩) 1 1, .slice none 0 0]] y5 fun e w' => e = .returned (.bool true) ∧ Below y5.heap.size y5 w') := sameClause_true x ⟨some ⟨b9, 0, none⟩, 2, 2, some ⟨b11, 0, none⟩, 1, 1, none, 0, 0⟩ awD y5 HD.out.cl hcl
            clear hcl
            refine wpAnyH_ready (rs := [13]) (by as_aux_lemma => kernel_rfl) (by simp) ?_
            refine AllReadyH.cons rfl (fun K hK => ?_) AllReadyH.nil
            go_simp
            refine HCL.out.mono ?_
            rintro e y6 ⟨rfl, hb6⟩
            have HY6 := Lib.hid (HY5.out.trans (hb6.mono HY5.out.size))
            replace HC := Lib.hid (HC.out.on hb6)
            replace HD := Lib.hid (HD.out.on hb6)
            replace HV := Lib.hid (HV.out.on hb6)
            clear hb6 HCL p0 p1 p2 q0 q1 q2
            have p0 := HC.out.c0
            have p1 := HC.out.c1
            have p2 := HC.out.c2
            have q0 := HD.out.c0
            have q1 := HD.out.c1
            have q2 := HD.out.c2
            go_wp2_with fail
            refine hK.out _ _ ?_ (fun hHeld => ?_)
            · exact ⟨p0, p1, p2, q0, q1, q2⟩
            exact HT _ _ ⟨⟨rfl, rfl, rfl, rfl, rfl, rfl, rfl, rfl, rfl, rfl, rfl, rfl, rfl, rfl⟩, HC.out, HD.out, HV.out, HY6.out⟩ ⟨p0, p1, p2, q0, q1, q2⟩
        · go_simp
          have hbn := below_new y1 (.cells #[.int .i64 6, .int .i64 (-1), .int .i64 (-2)] 3)
          have HY2 := Lib.hid (HY1.out.trans (hbn.mono HY1.out.size))
          have I7 : Hid (LitAt (y1.alloc (.cells #[.int .i64 6, .int .i64 (-1), .int .i64 (-2)] 3)) (y1.alloc (.cells #[.int .i64 6, .int .i64 (-1), .int .i64 (-2)] 3)).heap.size (some ⟨y1.heap.size, 0, none⟩) 3 3 ⟨true, [6, -1, -2]⟩) := LitAt.lit' y1 true [6, -1, -2] (by decide)
          replace HC := Lib.hid (HC.out.on hbn)
          replace HD := Lib.hid (HD.out.on hbn)
          replace HV := Lib.hid (HV.out.on hbn)
          replace I10 := Lib.hid (I10.out.on hbn)
          obtain ⟨y2, hy2⟩ : ∃ y2, y2 = y1.alloc (.cells #[.int .i64 6, .int .i64 (-1), .int .i64 (-2)] 3) := ⟨_, rfl⟩
          rw [← hy2] at HC HD HV HY2 I7 I10 ⊢
          obtain ⟨b7, hbb⟩ : ∃ b7, b7 = y1.heap.size := ⟨_, rfl⟩
          rw [← hbb] at I7 ⊢
          clear hbn hy2 hbb p0 p1 p2 q0 q1 q2
          have p0 := HC.out.c0
          have p1 := HC.out.c1
          have p2 := HC.out.c2
          have q0 := HD.out.c0
          have q1 := HD.out.c1
          have q2 := HD.out.c2
          refine hK.out _ _ ?_ (fun hHeld => ?_)
          · exact ⟨p0, p1, p2, q0, q1, q2⟩
          clear hK K
          refine takeH (i := 8) (v := ?_) rfl rfl (by as_aux_lemma => kernel_rfl) (by as_aux_lemma => kernel_rfl) (by as_aux_lemma => kernel_rfl) (fun _ _ _ h => h) (by rfl) ?_ hHeld ?_
          rotate_left
          · (intro w hSw; (try dsimp only at hSw); first | (go_simp; done) | (go_simp; with_reducible rfl))
          simp only [Act.put, List.setIfInBounds_toArray, List.set_cons_zero, List.set_cons_succ]
          refine wpAnyH_ready (rs := [5, 11]) (by as_aux_lemma => kernel_rfl) (by simp) ?_
          refine AllReadyH.cons rfl (fun K hK => ?_) (AllReadyH.cons rfl (fun K hK => ?_) AllReadyH.nil)
          · go_simp
            have hbn := below_new y2 (.cells #[.int .i64 5, .int .i64 (-1)] 3)
            have HY3 := Lib.hid (HY2.out.trans (hbn.mono HY2.out.size))
            have I5 : Hid (LitAt (y2.alloc (.cells #[.int .i64 5, .int .i64 (-1)] 3)) (y2.alloc (.cells #[.int .i64 5, .int .i64 (-1)] 3)).heap.size (some ⟨y2.heap.size, 0, none⟩) 2 2 ⟨false, [5, -1]⟩) := LitAt.lit' y2 false [5, -1] (by decide)
            replace HC := Lib.hid (HC.out.on hbn)
            replace HD := Lib.hid (HD.out.on hbn)
            replace HV := Lib.hid (HV.out.on hbn)
            replace I10 := Lib.hid (I10.out.on hbn)
            replace I7 := Lib.hid (I7.out.on hbn)
            obtain ⟨y3, hy3⟩ : ∃ y3, y3 = y2.alloc (.cells #[.int .i64 5, .int .i64 (-1)] 3) := ⟨_, rfl⟩
            rw [← hy3] at HC HD HV HY3 I5 I10 I7 ⊢
            obtain ⟨b5, hbb⟩ : ∃ b5, b5 = y2.heap.size := ⟨_, rfl⟩
            rw [← hbb] at I5 ⊢
            clear hbn hy3 hbb p0 p1 p2 q0 q1 q2
            have p0 := HC.out.c0
            have p1 := HC.out.c1
            have p2 := HC.out.c2
            have q0 := HD.out.c0
            have q1 := HD.out.c1
            have q2 := HD.out.c2
            refine hK.out _ _ ?_ (fun hHeld => ?_)
            · exact ⟨p0, p1, p2, q0, q1, q2⟩
            clear hK K
            refine takeH (i := 6) (v := ?_) rfl rfl (by as_aux_lemma => kernel_rfl) (by as_aux_lemma => kernel_rfl) (by as_aux_lemma => kernel_rfl) (fun _ _ _ h => h) (by rfl) ?_ hHeld ?_
            rotate_left
            · (intro w hSw; (try dsimp only at hSw); first | (go_simp; done) | (go_simp; with_reducible rfl))
            simp only [Act.put, List.setIfInBounds_toArray, List.set_cons_zero, List.set_cons_succ]
            refine wpAnyH_ready (rs := [9, 11]) (by as_aux_lemma => kernel_rfl) (by simp) ?_
            refine AllReadyH.cons rfl (fun K hK => ?_) (AllReadyH.cons rfl (fun K hK => ?_) AllReadyH.nil)
            · go_simp
              have hbn := below_new y3 (.cells #[.bool false, .slice (some ⟨b5, 0, none⟩) 2 2, .bool true, .slice (some ⟨b7, 0, none⟩) 3 3] 44)
              have HY4 := Lib.hid (HY3.out.trans (hbn.mono HY3.out.size))
              have L9 : Hid (LitsAt (y3.alloc (.cells #[.bool false, .slice (some ⟨b5, 0, none⟩) 2 2, .bool true, .slice (some ⟨b7, 0, none⟩) 3 3] 44)) (y3.alloc (.cells #[.bool false, .slice (some ⟨b5, 0, none⟩) 2 2, .bool true, .slice (some ⟨b7, 0, none⟩) 3 3] 44)).heap.size (some ⟨y3.heap.size, 0, none⟩) 2 [⟨false, [5, -1]⟩, ⟨true, [6, -1, -2]⟩]) := LitsAt.of2 I5.out I7.out
              replace HC := Lib.hid (HC.out.on hbn)
              replace HD := Lib.hid (HD.out.on hbn)
              replace HV := Lib.hid (HV.out.on hbn)
              replace I10 := Lib.hid (I10.out.on hbn)
              replace I7 := Lib.hid (I7.out.on hbn)
              replace I5 := Lib.hid (I5.out.on hbn)
              obtain ⟨y4, hy4⟩ : ∃ y4, y4 = y3.alloc (.cells #[.bool false, .slice (some ⟨b5, 0, none⟩) 2 2, .bool true, .slice (some ⟨b7, 0, none⟩) 3 3] 44) := ⟨_, rfl⟩
              rw [← hy4] at HC HD HV HY4 L9 I10 I7 I5 ⊢
              obtain ⟨b9, hbb⟩ : ∃ b9, b9 = y3.heap.size := ⟨_, rfl⟩
              rw [← hbb] at L9 ⊢
              clear hbn hy4 hbb p0 p1 p2 q0 q1 q2
              have p0 := HC.out.c0
              have p1 := HC.out.c1
              have p2 := HC.out.c2
              have q0 := HD.out.c0
              have q1 := HD.out.c1
              have q2 := HD.out.c2
              refine hK.out _ _ ?_ (fun hHeld => ?_)
              · exact ⟨p0, p1, p2, q0, q1, q2⟩
              clear hK K
              refine wpAnyH_ready (rs := [11]) (by as_aux_lemma => kernel_rfl) (by simp) ?_
              refine AllReadyH.cons rfl (fun K hK => ?_) AllReadyH.nil
              go_simp
              have hbn := below_new y4 (.cells #[.slice (some ⟨b10, 0, none⟩) 1 1] 27)
              have HY5 := Lib.hid (HY4.out.trans (hbn.mono HY4.out.size))
              have T11 : Hid (TupsAt (y4.alloc (.cells #[.slice (some ⟨b10, 0, none⟩) 1 1] 27)) (y4.alloc (.cells #[.slice (some ⟨b10, 0, none⟩) 1 1] 27)).heap.size (some ⟨y4.heap.size, 0, none⟩) 1 [[-2]]) := TupsAt.of1 I10.out (fun q => by cases q)
              replace HC := Lib.hid (HC.out.on hbn)
              replace HD := Lib.hid (HD.out.on hbn)
              replace HV := Lib.hid (HV.out.on hbn)
              replace I10 := Lib.hid (I10.out.on hbn)
              replace I7 := Lib.hid (I7.out.on hbn)
              replace I5 := Lib.hid (I5.out.on hbn)
              replace L9 := Lib.hid (L9.out.on hbn)
              obtain ⟨y5, hy5⟩ : ∃ y5, y5 = y4.alloc (.cells #[.slice (some ⟨b10, 0, none⟩) 1 1] 27) := ⟨_, rfl⟩
              rw [← hy5] at HC HD HV HY5 T11 I10 I7 I5 L9 ⊢
              obtain ⟨b11, hbb⟩ : ∃ b11, b11 = y4.heap.size := ⟨_, rfl⟩
              rw [← hbb] at T11 ⊢
              clear hbn hy5 hbb p0 p1 p2 q0 q1 q2
              have p0 := HC.out.c0
              have p1 := HC.out.c1
              have p2 := HC.out.c2
              have q0 := HD.out.c0
              have q1 := HD.out.c1
              have q2 := HD.out.c2
              refine hK.out _ _ ?_ (fun hHeld => ?_)
              · exact ⟨p0, p1, p2, q0, q1, q2⟩
              clear hK K
              refine takeH (i := 12) (v := ?_) rfl rfl (by as_aux_lemma => kernel_rfl) (by as_aux_lemma => kernel_rfl) (by as_aux_lemma => kernel_rfl) (fun _ _ _ h => h) (by rfl) ?_ hHeld ?_
              rotate_left
              · (intro w hSw; (try dsimp only at hSw); first | (go_simp; done) | (go_simp; with_reducible rfl))
              simp only [Act.put, List.setIfInBounds_toArray, List.set_cons_zero, List.set_cons_succ]
              have hcl : ClAt y5 y5.heap.size ⟨some ⟨b9, 0, none⟩, 2, 2, some ⟨b11, 0, none⟩, 1, 1, none, 0, 0⟩ awD := ClAt.ofTwo L9.out T11.out (by decide) (by decide) (by simp)
              have HCL : Hid (Calls Try.prog 16 #[.agg #[.slice x.A1 x.n1 x.c1, .slice x.A2 x.n2 x.c2, .slice x.A3 x.n3 x.c3], .agg #[.slice (some ⟨b9, 0, none⟩) 2 2, .slice (some ⟨b11, 0, none⟩) 1 1, .slice none 0 0]] y5 fun e w' => e = .returned (.bool true) ∧ Below y5.heap.size y5 w') := sameClause_true x ⟨some ⟨b9, 0, none⟩, 2, 2, some ⟨b11, 0, none⟩, 1, 1, none, 0, 0⟩ awD y5 HD.out.cl hcl
              clear hcl
              refine wpAnyH_ready (rs := [13]) (by as_aux_lemma => kernel_rfl) (by simp) ?_
              refine AllReadyH.cons rfl (fun K hK => ?_) AllReadyH.nil
              go_simp
              refine HCL.out.mono ?_
              rintro e y6 ⟨rfl, hb6⟩
              have HY6 := Lib.hid (HY5.out.trans (hb6.mono HY5.out.size))
              replace HC := Lib.hid (HC.out.on hb6)
              replace HD := Lib.hid (HD.out.on hb6)
              replace HV := Lib.hid (HV.out.on hb6)
              clear hb6 HCL p0 p1 p2 q0 q1 q2
              have p0 := HC.out.c0
              have p1 := HC.out.c1
              have p2 := HC.out.c2
              have q0 := HD.out.c0
              have q1 := HD.out.c1
              have q2 := HD.out.c2
              go_wp2_with fail
              refine hK.out _ _ ?_ (fun hHeld => ?_)
              · exact ⟨p0, p1, p2, q0, q1, q2⟩
              exact HT _ _ ⟨⟨rfl, rfl, rfl, rfl, rfl, rfl, rfl, rfl, rfl, rfl, rfl, rfl, rfl, rfl⟩, HC.out, HD.out, HV.out, HY6.out⟩ ⟨p0, p1, p2, q0, q1, q2⟩
            · go_simp
              have hbn := below_new y3 (.cells #[.slice (some ⟨b10, 0, none⟩) 1 1] 27)
              have HY4 := Lib.hid (HY3.out.trans (hbn.mono HY3.out.size))
              have T11 : Hid (TupsAt (y3.alloc (.cells #[.slice (some ⟨b10, 0, none⟩) 1 1] 27)) (y3.alloc (.cells #[.slice (some ⟨b10, 0, none⟩) 1 1] 27)).heap.size (some ⟨y3.heap.size, 0, none⟩) 1 [[-2]]) := TupsAt.of1 I10.out (fun q => by cases q)
              replace HC := Lib.hid (HC.out.on hbn)
              replace HD := Lib.hid (HD.out.on hbn)
              replace HV := Lib.hid (HV.out.on hbn)
              replace I10 := Lib.hid (I10.out.on hbn)
              replace I7 := Lib.hid (I7.out.on hbn)
              replace I5 := Lib.hid (I5.out.on hbn)
              obtain ⟨y4, hy4⟩ : ∃ y4, y4 = y3.alloc (.cells #[.slice (some ⟨b10, 0, none⟩) 1 1] 27) := ⟨_, rfl⟩
              rw [← hy4] at HC HD HV HY4 T11 I10 I7 I5 ⊢
              obtain ⟨b11, hbb⟩ : ∃ b11, b11 = y3.heap.size := ⟨_, rfl⟩
              rw [← hbb] at T11 ⊢
              clear hbn hy4 hbb p0 p1 p2 q0 q1 q2
              have p0 := HC.out.c0
              have p1 := HC.out.c1
              have p2 := HC.out.c2
              have q0 := HD.out.c0
              have q1 := HD.out.c1
              have q2 := HD.out.c2
              refine hK.out _ _ ?_ (fun hHeld => ?_)
              · exact ⟨p0, p1, p2, q0, q1, q2⟩
              clear hK K
              refine wpAnyH_ready (rs := [9]) (by as_aux_lemma => kernel_rfl) (by simp) ?_
              refine AllReadyH.cons rfl (fun K hK => ?_) AllReadyH.nil
              go_simp
              have hbn := below_new y4 (.cells #[.bool false, .slice (some ⟨b5, 0, none⟩) 2 2, .bool true, .slice (some ⟨b7, 0, none⟩) 3 3] 44)
              have HY5 := Lib.hid (HY4.out.trans (hbn.mono HY4.out.size))
              have L9 : Hid (LitsAt (y4.alloc (.cells #[.bool false, .slice (some ⟨b5, 0, none⟩) 2 2, .bool true, .slice (some ⟨b7, 0, none⟩) 3 3] 44)) (y4.alloc (.cells #[.bool false, .slice (some ⟨b5, 0, none⟩) 2 2, .bool true, .slice (some ⟨b7, 0, none⟩) 3 3] 44)).heap.size (some ⟨y4.heap.size, 0, none⟩) 2 [⟨false, [5, -1]⟩, ⟨true, [6, -1, -2]⟩]) := LitsAt.of2 I5.out I7.out
              replace HC := Lib.hid (HC.out.on hbn)
              replace HD := Lib.hid (HD.out.on hbn)
              replace HV := Lib.hid (HV.out.on hbn)
              replace I10 := Lib.hid (I10.out.on hbn)
              replace I7 := Lib.hid (I7.out.on hbn)
              replace I5 := Lib.hid (I5.out.on hbn)
              replace T11 := Lib.hid (T11.out.on hbn)
              obtain ⟨y5, hy5⟩ : ∃ y5, y5 = y4.alloc (.cells #[.bool false, .slice (some ⟨b5, 0, none⟩) 2 2, .bool true, .slice (some ⟨b7, 0, none⟩) 3 3] 44) := ⟨_, rfl⟩
              rw [← hy5] at HC HD HV HY5 L9 I10 I7 I5 T11 ⊢
              obtain ⟨b9, hbb⟩ : ∃ b9, b9 = y4.heap.size := ⟨_, rfl⟩
              rw [← hbb] at L9 ⊢
              clear hbn hy5 hbb p0 p1 p2 q0 q1 q2
              have p0 := HC.out.c0
              have p1 := HC.out.c1
              have p2 := HC.out.c2
              have q0 := HD.out.c0
              have q1 := HD.out.c1
              have q2 := HD.out.c2
              refine hK.out _ _ ?_ (fun hHeld => ?_)
              · exact ⟨p0, p1, p2, q0, q1, q2⟩
              clear hK K
              refine takeH (i := 12) (v := ?_) rfl rfl (by as_aux_lemma => kernel_rfl) (by as_aux_lemma => kernel_rfl) (by as_aux_lemma => kernel_rfl) (fun _ _ _ h => h) (by rfl) ?_ hHeld ?_
              rotate_left
              · (intro w hSw; (try dsimp only at hSw); first | (go_simp; done) | (go_simp; with_reducible rfl))
              simp only [Act.put, List.setIfInBounds_toArray, List.set_cons_zero, List.set_cons_succ]
              have hcl : ClAt y5 y5.heap.size ⟨some ⟨b9, 0, none⟩, 2, 2, some ⟨b11, 0, none⟩, 1, 1, none, 0, 0⟩ awD := ClAt.ofTwo L9.out T11.out (by decide) (by decide) (by simp)
              have HCL : Hid (Calls Try.prog 16 #[.agg #[.slice x.A1 x.n1 x.c1, .slice x.A2 x.n2 x.c2, .slice x.A3 x.n3 x.c3], .agg #[.slice (some ⟨b9, 0, none⟩) 2 2, .slice (some ⟨b11, 0, none⟩) 1 1, .slice none 0 0]] y5 fun e w' => e = .returned (.bool true) ∧ Below y5.heap.size y5 w') := sameClause_true x ⟨some ⟨b9, 0, none⟩, 2, 2, some ⟨b11, 0, none⟩, 1, 1, none, 0, 0⟩ awD y5 HD.out.cl hcl
              clear hcl
              refine wpAnyH_ready (rs := [13]) (by as_aux_lemma => kernel_rfl) (by simp) ?_
              refine AllReadyH.cons rfl (fun K hK => ?_) AllReadyH.nil
              go_simp
              refine HCL.out.mono ?_
              rintro e y6 ⟨rfl, hb6⟩
              have HY6 := Lib.hid (HY5.out.trans (hb6.mono HY5.out.size))
              replace HC := Lib.hid (HC.out.on hb6)
              replace HD := Lib.hid (HD.out.on hb6)
              replace HV := Lib.hid (HV.out.on hb6)
              clear hb6 HCL p0 p1 p2 q0 q1 q2
              have p0 := HC.out.c0
              have p1 := HC.out.c1
              have p2 := HC.out.c2
              have q0 := HD.out.c0
              have q1 := HD.out.c1
              have q2 := HD.out.c2
              go_wp2_with fail
              refine hK.out _ _ ?_ (fun hHeld => ?_)
              · exact ⟨p0, p1, p2, q0, q1, q2⟩
              exact HT _ _ ⟨⟨rfl, rfl, rfl, rfl, rfl, rfl, rfl, rfl, rfl, rfl, rfl, rfl, rfl, rfl⟩, HC.out, HD.out, HV.out, HY6.out⟩ ⟨p0, p1, p2, q0, q1, q2⟩
          · go_simp
            have hbn := below_new y2 (.cells #[.slice (some ⟨b10, 0, none⟩) 1 1] 27)
            have HY3 := Lib.hid (HY2.out.trans (hbn.mono HY2.out.size))
            have T11 : Hid (TupsAt (y2.alloc (.cells #[.slice (some ⟨b10, 0, none⟩) 1 1] 27)) (y2.alloc (.cells #[.slice (some ⟨b10, 0, none⟩) 1 1] 27)).heap.size (some ⟨y2.heap.size, 0, none⟩) 1 [[-2]]) := TupsAt.of1 I10.out (fun q => by cases q)
            replace HC := Lib.hid (HC.out.on hbn)
            replace HD := Lib.hid (HD.out.on hbn)
            replace HV := Lib.hid (HV.out.on hbn)
            replace I10 := Lib.hid (I10.out.on hbn)
            replace I7 := Lib.hid (I7.out.on hbn)
            obtain ⟨y3, hy3⟩ : ∃ y3, y3 = y2.alloc (.cells #[.slice (some ⟨b10, 0, none⟩) 1 1] 27) := ⟨_, rfl⟩
            rw [← hy3] at HC HD HV HY3 T11 I10 I7 ⊢
            obtain ⟨b11, hbb⟩ : ∃ b11, b11 = y2.heap.size := ⟨_, rfl⟩
            rw [← hbb] at T11 ⊢
            clear hbn hy3 hbb p0 p1 p2 q0 q1 q2
            have p0 := HC.out.c0
            have p1 := HC.out.c1
            have p2 := HC.out.c2
            have q0 := HD.out.c0
            have q1 := HD.out.c1
            have q2 := HD.out.c2
            refine hK.out _ _ ?_ (fun hHeld => ?_)
            · exact ⟨p0, p1, p2, q0, q1, q2⟩
            clear hK K
            refine wpAnyH_ready (rs := [5]) (by as_aux_lemma => kernel_rfl) (by simp) ?_
            refine AllReadyH.cons rfl (fun K hK => ?_) AllReadyH.nil
            go_simp
            have hbn := below_new y3 (.cells #[.int .i64 5, .int .i64 (-1)] 3)
            have HY4 := Lib.hid (HY3.out.trans (hbn.mono HY3.out.size))
            have I5 : Hid (LitAt (y3.alloc (.cells #[.int .i64 5, .int .i64 (-1)] 3)) (y3.alloc (.cells #[.int .i64 5, .int .i64 (-1)] 3)).heap.size (some ⟨y3.heap.size, 0, none⟩) 2 2 ⟨false, [5, -1]⟩) := LitAt.lit' y3 false [5, -1] (by decide)
            replace HC := Lib.hid (HC.out.on hbn)
            replace HD := Lib.hid (HD.out.on hbn)
            replace HV := Lib.hid (HV.out.on hbn)
            replace I10 := Lib.hid (I10.out.on hbn)
            replace I7 := Lib.hid (I7.out.on hbn)
            replace T11 := Lib.hid (T11.out.on hbn)
            obtain ⟨y4, hy4⟩ : ∃ y4, y4 = y3.alloc (.cells #[.int .i64 5, .int .i64 (-1)] 3) := ⟨_, rfl⟩
            rw [← hy4] at HC HD HV HY4 I5 I10 I7 T11 ⊢
            obtain ⟨b5, hbb⟩ : ∃ b5, b5 = y3.heap.size := ⟨_, rfl⟩
            rw [← hbb] at I5 ⊢
            clear hbn hy4 hbb p0 p1 p2 q0 q1 q2
            have p0 := HC.out.c0
            have p1 := HC.out.c1
            have p2 := HC.out.c2
            have q0 := HD.out.c0
            have q1 := HD.out.c1
            have q2 := HD.out.c2
            refine hK.out _ _ ?_ (fun hHeld => ?_)
            · exact ⟨p0, p1, p2, q0, q1, q2⟩
            clear hK K
            refine takeH (i := 6) (v := ?_) rfl rfl (by as_aux_lemma => kernel_rfl) (by as_aux_lemma => kernel_rfl) (by as_aux_lemma => kernel_rfl) (fun _ _ _ h => h) (by rfl) ?_ hHeld ?_
            rotate_left
            · (intro w hSw; (try dsimp only at hSw); first | (go_simp; done) | (go_simp; with_reducible rfl))
            simp only [Act.put, List.setIfInBounds_toArray, List.set_cons_zero, List.set_cons_succ]
            refine wpAnyH_ready (rs := [9]) (by as_aux_lemma => kernel_rfl) (by simp) ?_
            refine AllReadyH.cons rfl (fun K hK => ?_) AllReadyH.nil
            go_simp
            have hbn := below_new y4 (.cells #[.bool false, .slice (some ⟨b5, 0, none⟩) 2 2, .bool true, .slice (some ⟨b7, 0, none⟩) 3 3] 44)
            have HY5 := Lib.hid (HY4.out.trans (hbn.mono HY4.out.size))
            have L9 : Hid (LitsAt (y4.alloc (.cells #[.bool false, .slice (some ⟨b5, 0, none⟩) 2 2, .bool true, .slice (some ⟨b7, 0, none⟩) 3 3] 44)) (y4.alloc (.cells #[.bool false, .slice (some ⟨b5, 0, none⟩) 2 2, .bool true, .slice (some ⟨b7, 0, none⟩) 3 3] 44)).heap.size (some ⟨y4.heap.size, 0, none⟩) 2 [⟨false, [5, -1]⟩, ⟨true, [6, -1, -2]⟩]) := LitsAt.of2 I5.out I7.out
            replace HC := Lib.hid (HC.out.on hbn)
            replace HD := Lib.hid (HD.out.on hbn)
            replace HV := Lib.hid (HV.out.on hbn)
            replace I10 := Lib.hid (I10.out.on hbn)
            replace I7 := Lib.hid (I7.out.on hbn)
            replace T11 := Lib.hid (T11.out.on hbn)
            replace I5 := Lib.hid (I5.out.on hbn)
            obtain ⟨y5, hy5⟩ : ∃ y5, y5 = y4.alloc (.cells #[.bool false, .slice (some ⟨b5, 0, none⟩) 2 2, .bool true, .slice (some ⟨b7, 0, none⟩) 3 3] 44) := ⟨_, rfl⟩
            rw [← hy5] at HC HD HV HY5 L9 I10 I7 T11 I5 ⊢
            obtain ⟨b9, hbb⟩ : ∃ b9, b9 = y4.heap.size := ⟨_, rfl⟩
            rw [← hbb] at L9 ⊢
            clear hbn hy5 hbb p0 p1 p2 q0 q1 q2
            have p0 := HC.out.c0
            have p1 := HC.out.c1
            have p2 := HC.out.c2
            have q0 := HD.out.c0
            have q1 := HD.out.c1
            have q2 := HD.out.c2
            refine hK.out _ _ ?_ (fun hHeld => ?_)
            · exact ⟨p0, p1, p2, q0, q1, q2⟩
            clear hK K
            refine takeH (i := 12) (v := ?_) rfl rfl (by as_aux_lemma => kernel_rfl) (by as_aux_lemma => kernel_rfl) (by as_aux_lemma => kernel_rfl) (fun _ _ _ h => h) (by rfl) ?_ hHeld ?_
            rotate_left
            · (intro w hSw; (try dsimp only at hSw); first | (go_simp; done) | (go_simp; with_reducible rfl))
            simp only [Act.put, List.setIfInBounds_toArray, List.set_cons_zero, List.set_cons_succ]
            have hcl : ClAt y5 y5.heap.size ⟨some ⟨b9, 0, none⟩, 2, 2, some ⟨b11, 0, none⟩, 1, 1, none, 0, 0⟩ awD := ClAt.ofTwo L9.out T11.out (by decide) (by decide) (by simp)
            have HCL : Hid (Calls Try.prog 16 #[.agg #[.slice x.A1 x.n1 x.c1, .slice x.A2 x.n2 x.c2, .slice x.A3 x.n3 x.c3], .agg #[.slice (some ⟨b9, 0, none⟩) 2 2, .slice (some ⟨b11, 0, none⟩) 1 1, .slice none 0 0]] y5 fun e w' => e = .returned (.bool true) ∧ Below y5.heap.size y5 w') := sameClause_true x ⟨some ⟨b9, 0, none⟩, 2, 2, some ⟨b11, 0, none⟩, 1, 1, none, 0, 0⟩ awD y5 HD.out.cl hcl
            clear hcl
            refine wpAnyH_ready (rs := [13]) (by as_aux_lemma => kernel_rfl) (by simp) ?_
            refine AllReadyH.cons rfl (fun K hK => ?_) AllReadyH.nil
            go_simp
            refine HCL.out.mono ?_
            rintro e y6 ⟨rfl, hb6⟩
            have HY6 := Lib.hid (HY5.out.trans (hb6.mono HY5.out.size))
            replace HC := Lib.hid (HC.out.on hb6)
            replace HD := Lib.hid (HD.out.on hb6)
            replace HV := Lib.hid (HV.out.on hb6)
            clear hb6 HCL p0 p1 p2 q0 q1 q2
            have p0 := HC.out.c0
            have p1 := HC.out.c1
            have p2 := HC.out.c2
            have q0 := HD.out.c0
            have q1 := HD.out.c1
            have q2 := HD.out.c2
            go_wp2_with fail
            refine hK.out _ _ ?_ (fun hHeld => ?_)
            · exact ⟨p0, p1, p2, q0, q1, q2⟩
            exact HT _ _ ⟨⟨rfl, rfl, rfl, rfl, rfl, rfl, rfl, rfl, rfl, rfl, rfl, rfl, rfl, rfl⟩, HC.out, HD.out, HV.out, HY6.out⟩ ⟨p0, p1, p2, q0, q1, q2⟩
        · go_simp
          have hbn := below_new y1 (.cells #[.slice (some ⟨b10, 0, none⟩) 1 1] 27)
          have HY2 := Lib.hid (HY1.out.trans (hbn.mono HY1.out.size))
          have T11 : Hid (TupsAt (y1.alloc (.cells #[.slice (some ⟨b10, 0, none⟩) 1 1] 27)) (y1.alloc (.cells #[.slice (some ⟨b10, 0, none⟩) 1 1] 27)).heap.size (some ⟨y1.heap.size, 0, none⟩) 1 [[-2]]) := TupsAt.of1 I10.out (fun q => by cases q)
          replace HC := Lib.hid (HC.out.on hbn)
          replace HD := Lib.hid (HD.out.on hbn)
          replace HV := Lib.hid (HV.out.on hbn)
          replace I10 := Lib.hid (I10.out.on hbn)
          obtain ⟨y2, hy2⟩ : ∃ y2, y2 = y1.alloc (.cells #[.slice (some ⟨b10, 0, none⟩) 1 1] 27) := ⟨_, rfl⟩
          rw [← hy2] at HC HD HV HY2 T11 I10 ⊢
          obtain ⟨b11, hbb⟩ : ∃ b11, b11 = y1.heap.size := ⟨_, rfl⟩
          rw [← hbb] at T11 ⊢
          clear hbn hy2 hbb p0 p1 p2 q0 q1 q2
          have p0 := HC.out.c0
          have p1 := HC.out.c1
          have p2 := HC.out.c2
          have q0 := HD.out.c0
          have q1 := HD.out.c1
          have q2 := HD.out.c2
          refine hK.out _ _ ?_ (fun hHeld => ?_)
          · exact ⟨p0, p1, p2, q0, q1, q2⟩
          clear hK K
          refine wpAnyH_ready (rs := [5, 7]) (by as_aux_lemma => kernel_rfl) (by simp) ?_
          refine AllReadyH.cons rfl (fun K hK => ?_) (AllReadyH.cons rfl (fun K hK => ?_) AllReadyH.nil)
          · go_simp
            have hbn := below_new y2 (.cells #[.int .i64 5, .int .i64 (-1)] 3)
            have HY3 := Lib.hid (HY2.out.trans (hbn.mono HY2.out.size))
            have I5 : Hid (LitAt (y2.alloc (.cells #[.int .i64 5, .int .i64 (-1)] 3)) (y2.alloc (.cells #[.int .i64 5, .int .i64 (-1)] 3)).heap.size (some ⟨y2.heap.size, 0, none⟩) 2 2 ⟨false, [5, -1]⟩) := LitAt.lit' y2 false [5, -1] (by decide)
            replace HC := Lib.hid (HC.out.on hbn)
            replace HD := Lib.hid (HD.out.on hbn)
            replace HV := Lib.hid (HV.out.on hbn)
            replace I10 := Lib.hid (I10.out.on hbn)
            replace T11 := Lib.hid (T11.out.on hbn)
            obtain ⟨y3, hy3⟩ : ∃ y3, y3 = y2.alloc (.cells #[.int .i64 5, .int .i64 (-1)] 3) := ⟨_, rfl⟩
            rw [← hy3] at HC HD HV HY3 I5 I10 T11 ⊢
            obtain ⟨b5, hbb⟩ : ∃ b5, b5 = y2.heap.size := ⟨_, rfl⟩
            rw [← hbb] at I5 ⊢
            clear hbn hy3 hbb p0 p1 p2 q0 q1 q2
            have p0 := HC.out.c0
            have p1 := HC.out.c1
            have p2 := HC.out.c2
            have q0 := HD.out.c0
            have q1 := HD.out.c1
            have q2 := HD.out.c2
            refine hK.out _ _ ?_ (fun hHeld => ?_)
            · exact ⟨p0, p1, p2, q0, q1, q2⟩
            clear hK K
            refine takeH (i := 6) (v := ?_) rfl rfl (by as_aux_lemma => kernel_rfl) (by as_aux_lemma => kernel_rfl) (by as_aux_lemma => kernel_rfl) (fun _ _ _ h => h) (by rfl) ?_ hHeld ?_
            rotate_left
            · (intro w hSw; (try dsimp only at hSw); first | (go_simp; done) | (go_simp; with_reducible rfl))
            simp only [Act.put, List.setIfInBounds_toArray, List.set_cons_zero, List.set_cons_succ]
            refine wpAnyH_ready (rs := [7]) (by as_aux_lemma => kernel_rfl) (by simp) ?_
            refine AllReadyH.cons rfl (fun K hK => ?_) AllReadyH.nil
            go_simp
            have hbn := below_new y3 (.cells #[.int .i64 6, .int .i64 (-1), .int .i64 (-2)] 3)
            have HY4 := Lib.hid (HY3.out.trans (hbn.mono HY3.out.size))
            have I7 : Hid (LitAt (y3.alloc (.cells #[.int .i64 6, .int .i64 (-1), .int .i64 (-2)] 3)) (y3.alloc (.cells #[.int .i64 6, .int .i64 (-1), .int .i64 (-2)] 3)).heap.size (some ⟨y3.heap.size, 0, none⟩) 3 3 ⟨true, [6, -1, -2]⟩) := LitAt.lit' y3 true [6, -1, -2] (by decide)
            replace HC := Lib.hid (HC.out.on hbn)
            replace HD := Lib.hid (HD.out.on hbn)
            replace HV := Lib.hid (HV.out.on hbn)
            replace I10 := Lib.hid (I10.out.on hbn)
            replace T11 := Lib.hid (T11.out.on hbn)
            replace I5 := Lib.hid (I5.out.on hbn)
            obtain ⟨y4, hy4⟩ : ∃ y4, y4 = y3.alloc (.cells #[.int .i64 6, .int .i64 (-1), .int .i64 (-2)] 3) := ⟨_, rfl⟩
            rw [← hy4] at HC HD HV HY4 I7 I10 T11 I5 ⊢
            obtain ⟨b7, hbb⟩ : ∃ b7, b7 = y3.heap.size := ⟨_, rfl⟩
            rw [← hbb] at I7 ⊢
            clear hbn hy4 hbb p0 p1 p2 q0 q1 q2
            have p0 := HC.out.c0
            have p1 := HC.out.c1
            have p2 := HC.out.c2
            have q0 := HD.out.c0
            have q1 := HD.out.c1
            have q2 := HD.out.c2
            refine hK.out _ _ ?_ (fun hHeld => ?_)
            · exact ⟨p0, p1, p2, q0, q1, q2⟩
            clear hK K
            refine takeH (i := 8) (v := ?_) rfl rfl (by as_aux_lemma => kernel_rfl) (by as_aux_lemma => kernel_rfl) (by as_aux_lemma => kernel_rfl) (fun _ _ _ h => h) (by rfl) ?_ hHeld ?_
            rotate_left
            · (intro w hSw; (try dsimp only at hSw); first | (go_simp; done) | (go_simp; with_reducible rfl))
            simp only [Act.put, List.setIfInBounds_toArray, List.set_cons_zero, List.set_cons_succ]
            refine wpAnyH_ready (rs := [9]) (by as_aux_lemma => kernel_rfl) (by simp) ?_
            refine AllReadyH.cons rfl (fun K hK => ?_) AllReadyH.nil
            go_simp
            have hbn := below_new y4 (.cells #[.bool false, .slice (some ⟨b5, 0, none⟩) 2 2, .bool true, .slice (some ⟨b7, 0, none⟩) 3 3] 44)
            have HY5 := Lib.hid (HY4.out.trans (hbn.mono HY4.out.size))
            have L9 : Hid (LitsAt (y4.alloc (.cells #[.bool false, .slice (some ⟨b5, 0, none⟩) 2 2, .bool true, .slice (some ⟨b7, 0, none⟩) 3 3] 44)) (y4.alloc (.cells #[.bool false, .slice (some ⟨b5, 0, none⟩) 2 2, .bool true, .slice (some ⟨b7, 0, none⟩) 3 3] 44)).heap.size (some ⟨y4.heap.size, 0, none⟩) 2 [⟨false, [5, -1]⟩, ⟨true, [6, -1, -2]⟩]) := LitsAt.of2 I5.out I7.out
            replace HC := Lib.hid (HC.out.on hbn)
            replace HD := Lib.hid (HD.out.on hbn)
            replace HV := Lib.hid (HV.out.on hbn)
            replace I10 := Lib.hid (I10.out.on hbn)
            replace T11 := Lib.hid (T11.out.on hbn)
            replace I5 := Lib.hid (I5.out.on hbn)
            replace I7 := Lib.hid (I7.out.on hbn)
            obtain ⟨y5, hy5⟩ : ∃ y5, y5 = y4.alloc (.cells #[.bool false, .slice (some ⟨b5, 0, none⟩) 2 2, .bool true, .slice (some ⟨b7, 0, none⟩) 3 3] 44) := ⟨_, rfl⟩
            rw [← hy5] at HC HD HV HY5 L9 I10 T11 I5 I7 ⊢
            obtain ⟨b9, hbb⟩ : ∃ b9, b9 = y4.heap.size := ⟨_, rfl⟩
            rw [← hbb] at L9 ⊢
            clear hbn hy5 hbb p0 p1 p2 q0 q1 q2
            have p0 := HC.out.c0
            have p1 := HC.out.c1
            have p2 := HC.out.c2
            have q0 := HD.out.c0
            have q1 := HD.out.c1
            have q2 := HD.out.c2
            refine hK.out _ _ ?_ (fun hHeld => ?_)
            · exact ⟨p0, p1, p2, q0, q1, q2⟩
            clear hK K
            refine takeH (i := 12) (v := ?_) rfl rfl (by as_aux_lemma => kernel_rfl) (by as_aux_lemma => kernel_rfl) (by as_aux_lemma => kernel_rfl) (fun _ _ _ h => h) (by rfl) ?_ hHeld ?_
            rotate_left
            · (intro w hSw; (try dsimp only at hSw); first | (go_simp; done) | (go_simp; with_reducible rfl))
            simp only [Act.put, List.setIfInBounds_toArray, List.set_cons_zero, List.set_cons_succ]
            have hcl : ClAt y5 y5.heap.size ⟨some ⟨b9, 0, none⟩, 2, 2, some ⟨b11, 0, none⟩, 1, 1, none, 0, 0⟩ awD := ClAt.ofTwo L9.out T11.out (by decide) (by decide) (by simp)
            have HCL : Hid (Calls Try.prog 16 #[.agg #[.slice x.A1 x.n1 x.c1, .slice x.A2 x.n2 x.c2, .slice x.A3 x.n3 x.c3], .agg #[.slice (some ⟨b9, 0, none⟩) 2 2, .slice (some ⟨b11, 0, none⟩) 1 1, .slice none 0 0]] y5 fun e w' => e = .returned (.bool true) ∧ Below y5.heap.size y5 w') := sameClause_true x ⟨some ⟨b9, 0, none⟩, 2, 2, some ⟨b11, 0, none⟩, 1, 1, none, 0, 0⟩ awD y5 HD.out.cl hcl
            clear hcl
            refine wpAnyH_ready (rs := [13]) (by as_aux_lemma => kernel_rfl) (by simp) ?_
            refine AllReadyH.cons rfl (fun K hK => ?_) AllReadyH.nil
            go_simp
            refine HCL.out.mono ?_
            rintro e y6 ⟨rfl, hb6⟩
            have HY6 := Lib.hid (HY5.out.trans (hb6.mono HY5.out.size))
            replace HC := Lib.hid (HC.out.on hb6)
            replace HD := Lib.hid (HD.out.on hb6)
            replace HV := Lib.hid (HV.out.on hb6)
            clear hb6 HCL p0 p1 p2 q0 q1 q2
            have p0 := HC.out.c0
            have p1 := HC.out.c1
            have p2 := HC.out.c2
            have q0 := HD.out.c0
            have q1 := HD.out.c1
            have q2 := HD.out.c2
            go_wp2_with fail
            refine hK.out _ _ ?_ (fun hHeld => ?_)
            · exact ⟨p0, p1, p2, q0, q1, q2⟩
            exact HT _ _ ⟨⟨rfl, rfl, rfl, rfl, rfl, rfl, rfl, rfl, rfl, rfl, rfl, rfl, rfl, rfl⟩, HC.out, HD.out, HV.out, HY6.out⟩ ⟨p0, p1, p2, q0, q1, q2⟩
          · go_simp
            have hbn := below_new y2 (.cells #[.int .i64 6, .int .i64 (-1), .int .i64 (-2)] 3)
            have HY3 := Lib.hid (HY2.out.trans (hbn.mono HY2.out.size))
            have I7 : Hid (LitAt (y2.alloc (.cells #[.int .i64 6, .int .i64 (-1), .int .i64 (-2)] 3)) (y2.alloc (.cells #[.int .i64 6, .int .i64 (-1), .int .i64 (-2)] 3)).heap.size (some ⟨y2.heap.size, 0, none⟩) 3 3 ⟨true, [6, -1, -2]⟩) := LitAt.lit' y2 true [6, -1, -2] (by decide)
            replace HC := Lib.hid (HC.out.on hbn)
            replace HD := Lib.hid (HD.out.on hbn)
            replace HV := Lib.hid (HV.out.on hbn)
            replace I10 := Lib.hid (I10.out.on hbn)
            replace T11 := Lib.hid (T11.out.on hbn)
            obtain ⟨y3, hy3⟩ : ∃ y3, y3 = y2.alloc (.cells #[.int .i64 6, .int .i64 (-1), .int .i64 (-2)] 3) := ⟨_, rfl⟩
            rw [← hy3] at HC HD HV HY3 I7 I10 T11 ⊢
            obtain ⟨b7, hbb⟩ : ∃ b7, b7 = y2.heap.size := ⟨_, rfl⟩
            rw [← hbb] at I7 ⊢
            clear hbn hy3 hbb p0 p1 p2 q0 q1 q2
            have p0 := HC.out.c0
            have p1 := HC.out.c1
            have p2 := HC.out.c2
            have q0 := HD.out.c0
            have q1 := HD.out.c1
            have q2 := HD.out.c2
            refine hK.out _ _ ?_ (fun hHeld => ?_)
            · exact ⟨p0, p1, p2, q0, q1, q2⟩
            clear hK K
            refine takeH (i := 8) (v := ?_) rfl rfl (by as_aux_lemma => kernel_rfl) (by as_aux_lemma => kernel_rfl) (by as_aux_lemma => kernel_rfl) (fun _ _ _ h => h) (by rfl) ?_ hHeld ?_
            rotate_left
            · (intro w hSw; (try dsimp only at hSw); first | (go_simp; done) | (go_simp; with_reducible rfl))
            simp only [Act.put, List.setIfInBounds_toArray, List.set_cons_zero, List.set_cons_succ]
            refine wpAnyH_ready (rs := [5]) (by as_aux_lemma => kernel_rfl) (by simp) ?_
            refine AllReadyH.cons rfl (fun K hK => ?_) AllReadyH.nil
            go_simp
            have hbn := below_new y3 (.cells #[.int .i64 5, .int .i64 (-1)] 3)
            have HY4 := Lib.hid (HY3.out.trans (hbn.mono HY3.out.size))
            have I5 : Hid (LitAt (y3.alloc (.cells #[.int .i64 5, .int .i64 (-1)] 3)) (y3.alloc (.cells #[.int .i64 5, .int .i64 (-1)] 3)).heap.size (some ⟨y3.heap.size, 0, none⟩) 2 2 ⟨false, [5, -1]⟩) := LitAt.lit' y3 false [5, -1] (by decide)
            replace HC := Lib.hid (HC.out.on hbn)
            replace HD := Lib.hid (HD.out.on hbn)
            replace HV := Lib.hid (HV.out.on hbn)
            replace I10 := Lib.hid (I10.out.on hbn)
            replace T11 := Lib.hid (T11.out.on hbn)
            replace I7 := Lib.hid (I7.out.on hbn)
            obtain ⟨y4, hy4⟩ : ∃ y4, y4 = y3.alloc (.cells #[.int .i64 5, .int .i64 (-1)] 3) := ⟨_, rfl⟩
            rw [← hy4] at HC HD HV HY4 I5 I10 T11 I7 ⊢
            obtain ⟨b5, hbb⟩ : ∃ b5, b5 = y3.heap.size := ⟨_, rfl⟩
            rw [← hbb] at I5 ⊢
            clear hbn hy4 hbb p0 p1 p2 q0 q1 q2
            have p0 := HC.out.c0
            have p1 := HC.out.c1
            have p2 := HC.out.c2
            have q0 := HD.out.c0
            have q1 := HD.out.c1
            have q2 := HD.out.c2
            refine hK.out _ _ ?_ (fun hHeld => ?_)
            · exact ⟨p0, p1, p2, q0, q1, q2⟩
            clear hK K
            refine takeH (i := 6) (v := ?_) rfl rfl (by as_aux_lemma => kernel_rfl) (by as_aux_lemma => kernel_rfl) (by as_aux_lemma => kernel_rfl) (fun _ _ _ h => h) (by rfl) ?_ hHeld ?_
            rotate_left
            · (intro w hSw; (try dsimp only at hSw); first | (go_simp; done) | (go_simp; with_reducible rfl))
            simp only [Act.put, List.setIfInBounds_toArray, List.set_cons_zero, List.set_cons_succ]
            refine wpAnyH_ready (rs := [9]) (by as_aux_lemma => kernel_rfl) (by simp) ?_
            refine AllReadyH.cons rfl (fun K hK => ?_) AllReadyH.nil
            go_simp
            have hbn := below_new y4 (.cells #[.bool false, .slice (some ⟨b5, 0, none⟩) 2 2, .bool true, .slice (some ⟨b7, 0, none⟩) 3 3] 44)
            have HY5 := Lib.hid (HY4.out.trans (hbn.mono HY4.out.size))
            have L9 : Hid (LitsAt (y4.alloc (.cells #[.bool false, .slice (some ⟨b5, 0, none⟩) 2 2, .bool true, .slice (some ⟨b7, 0, none⟩) 3 3] 44)) (y4.alloc (.cells #[.bool false, .slice (some ⟨b5, 0, none⟩) 2 2, .bool true, .slice (some ⟨b7, 0, none⟩) 3 3] 44)).heap.size (some ⟨y4.heap.size, 0, none⟩) 2 [⟨false, [5, -1]⟩, ⟨true, [6, -1, -2]⟩]) := LitsAt.of2 I5.out I7.out
            replace HC := Lib.hid (HC.out.on hbn)
            replace HD := Lib.hid (HD.out.on hbn)
            replace HV := Lib.hid (HV.out.on hbn)
            replace I10 := Lib.hid (I10.out.on hbn)
            replace T11 := Lib.hid (T11.out.on hbn)
            replace I7 := Lib.hid (I7.out.on hbn)
            replace I5 := Lib.hid (I5.out.on hbn)
            obtain ⟨y5, hy5⟩ : ∃ y5, y5 = y4.alloc (.cells #[.bool false, .slice (some ⟨b5, 0, none⟩) 2 2, .bool true, .slice (some ⟨b7, 0, none⟩) 3 3] 44) := ⟨_, rfl⟩
            rw [← hy5] at HC HD HV HY5 L9 I10 T11 I7 I5 ⊢
            obtain ⟨b9, hbb⟩ : ∃ b9, b9 = y4.heap.size := ⟨_, rfl⟩
            rw [← hbb] at L9 ⊢
            clear hbn hy5 hbb p0 p1 p2 q0 q1 q2
            have p0 := HC.out.c0
            have p1 := HC.out.c1
            have p2 := HC.out.c2
            have q0 := HD.out.c0
            have q1 := HD.out.c1
            have q2 := HD.out.c2
            refine hK.out _ _ ?_ (fun hHeld => ?_)
            · exact ⟨p0, p1, p2, q0, q1, q2⟩
            clear hK K
            refine takeH (i := 12) (v := ?_) rfl rfl (by as_aux_lemma => kernel_rfl) (by as_aux_lemma => kernel_rfl) (by as_aux_lemma => kernel_rfl) (fun _ _ _ h => h) (by rfl) ?_ hHeld ?_
            rotate_left
            · (intro w hSw; (try dsimp only at hSw); first | (go_simp; done) | (go_simp; with_reducible rfl))
            simp only [Act.put, List.setIfInBounds_toArray, List.set_cons_zero, List.set_cons_succ]
            have hcl : ClAt y5 y5.heap.size ⟨some ⟨b9, 0, none⟩, 2, 2, some ⟨b11, 0, none⟩, 1, 1, none, 0, 0⟩ awD := ClAt.ofTwo L9.out T11.out (by decide) (by decide) (by simp)
            have HCL : Hid (Calls Try.prog 16 #[.agg #[.slice x.A1 x.n1 x.c1, .slice x.A2 x.n2 x.c2, .slice x.A3 x.n3 x.c3], .agg #[.slice (some ⟨b9, 0, none⟩) 2 2, .slice (some ⟨b11, 0, none⟩) 1 1, .slice none 0 0]] y5 fun e w' => e = .returned (.bool true) ∧ Below y5.heap.size y5 w') := sameClause_true x ⟨some ⟨b9, 0, none⟩, 2, 2, some ⟨b11, 0, none⟩, 1, 1, none, 0, 0⟩ awD y5 HD.out.cl hcl
            clear hcl
            refine wpAnyH_ready (rs := [13]) (by as_aux_lemma => kernel_rfl) (by simp) ?_
            refine AllReadyH.cons rfl (fun K hK => ?_) AllReadyH.nil
            go_simp
            refine HCL.out.mono ?_
            rintro e y6 ⟨rfl, hb6⟩
            have HY6 := Lib.hid (HY5.out.trans (hb6.mono HY5.out.size))
            replace HC := Lib.hid (HC.out.on hb6)
            replace HD := Lib.hid (HD.out.on hb6)
            replace HV := Lib.hid (HV.out.on hb6)
            clear hb6 HCL p0 p1 p2 q0 q1 q2
            have p0 := HC.out.c0
            have p1 := HC.out.c1
            have p2 := HC.out.c2
            have q0 := HD.out.c0
            have q1 := HD.out.c1
            have q2 := HD.out.c2
            go_wp2_with fail
            refine hK.out _ _ ?_ (fun hHeld => ?_)
            · exact ⟨p0, p1, p2, q0, q1, q2⟩
            exact HT _ _ ⟨⟨rfl, rfl, rfl, rfl, rfl, rfl, rfl, rfl, rfl, rfl, rfl, rfl, rfl, rfl⟩, HC.out, HD.out, HV.out, HY6.out⟩ ⟨p0, p1, p2, q0, q1, q2⟩
    · rintro a y6 ⟨⟨hsz, hdf, s1, s4, s5, s6, s7, s8, s9, s10, s11, s13, s70, s80⟩, hc, hd, hv, hy⟩ hHeld
      obtain ⟨u, hu, ha⟩ := frame127 a hsz hdf
      have t1 := (hu 1).trans s1
      have t4 := (hu 4).trans s4
      have t5 := (hu 5).trans s5
      have t6 := (hu 6).trans s6
      have t7 := (hu 7).trans s7
      have t8 := (hu 8).trans s8
      have t9 := (hu 9).trans s9
      have t10 := (hu 10).trans s10
      have t11 := (hu 11).trans s11
      have t13 := (hu 13).trans s13
      have t70 := (hu 70).trans s70
      have t80 := (hu 80).trans s80
      subst ha
      rw [t1, t4, t5, t6, t7, t8, t9, t10, t11, t13, t70, t80]
      clear hsz hdf hu s1 s4 s5 s6 s7 s8 s9 s10 s11 s13 s70 s80 t1 t4 t5 t6 t7 t8 t9 t10 t11 t13 t70 t80
      replace HC := Lib.hid hc
      replace HD := Lib.hid hd
      replace HV := Lib.hid hv
      have HY6 := Lib.hid hy
      clear hc hd hv hy p0 p1 p2 q0 q1 q2
      have p0 := HC.out.c0
      have p1 := HC.out.c1
      have p2 := HC.out.c2
      have q0 := HD.out.c0
      have q1 := HD.out.c1
      have q2 := HD.out.c2
      refine takeH (i := 14) (v := ?_) rfl rfl (by as_aux_lemma => kernel_rfl) (by as_aux_lemma => kernel_rfl) (by as_aux_lemma => kernel_rfl) (fun _ _ _ h => h) (by rfl) ?_ hHeld ?_
      rotate_left
      · (intro w hSw; (try dsimp only at hSw); first | (go_simp; done) | (go_simp; with_reducible rfl))
      simp only [Act.put, List.setIfInBounds_toArray, List.set_cons_zero, List.set_cons_succ]
      refine takeH (i := 15) (v := ?_) rfl rfl (by as_aux_lemma => kernel_rfl) (by as_aux_lemma => kernel_rfl) (by as_aux_lemma => kernel_rfl) (fun _ _ _ h => h) (by rfl) ?_ hHeld ?_
      rotate_left
      · (intro w hSw; (try dsimp only at hSw); first | (go_simp; done) | (go_simp; with_reducible rfl))
      simp only [Act.put, List.setIfInBounds_toArray, List.set_cons_zero, List.set_cons_succ]
      refine takeH (i := 16) (v := ?_) rfl rfl (by as_aux_lemma => kernel_rfl) (by as_aux_lemma => kernel_rfl) (by as_aux_lemma => kernel_rfl) (fun _ _ _ h => h) (by rfl) ?_ hHeld ?_
      rotate_left
      · (intro w hSw; (try dsimp only at hSw); first | (go_simp; done) | (go_simp; with_reducible rfl))
      simp only [Act.put, List.setIfInBounds_toArray, List.set_cons_zero, List.set_cons_succ]
      refine takeH (i := 17) (v := ?_) rfl rfl (by as_aux_lemma => kernel_rfl) (by as_aux_lemma => kernel_rfl) (by as_aux_lemma => kernel_rfl) (fun _ _ _ h => h) (by rfl) ?_ hHeld ?_
      rotate_left
      · (intro w hSw; (try dsimp only at hSw); first | (go_simp; done) | (go_simp; with_reducible rfl))
      simp only [Act.put, List.setIfInBounds_toArray, List.set_cons_zero, List.set_cons_succ]
      refine takeH (i := 18) (v := ?_) rfl rfl (by as_aux_lemma => kernel_rfl) (by as_aux_lemma => kernel_rfl) (by as_aux_lemma => kernel_rfl) (fun _ _ _ h => h) (by rfl) ?_ hHeld ?_
      rotate_left
      · (intro w hSw; (try dsimp only at hSw); first | (go_simp; done) | (go_simp; with_reducible rfl))
      simp only [Act.put, List.setIfInBounds_toArray, List.set_cons_zero, List.set_cons_succ]
      refine takeH (i := 19) (v := ?_) rfl rfl (by as_aux_lemma => kernel_rfl) (by as_aux_lemma => kernel_rfl) (by as_aux_lemma => kernel_rfl) (fun _ _ _ h => h) (by rfl) ?_ hHeld ?_
      rotate_left
      · (intro w hSw; (try dsimp only at hSw); first | (go_simp; done) | (go_simp; with_reducible rfl))
      simp only [Act.put, List.setIfInBounds_toArray, List.set_cons_zero, List.set_cons_succ]
      refine takeH (i := 20) (v := ?_) rfl rfl (by as_aux_lemma => kernel_rfl) (by as_aux_lemma => kernel_rfl) (by as_aux_lemma => kernel_rfl) (fun _ _ _ h => h) (by rfl) ?_ hHeld ?_
      rotate_left
      · (intro w hSw; (try dsimp only at hSw); first | (go_simp; done) | (go_simp; with_reducible rfl))
      simp only [Act.put, List.setIfInBounds_toArray, List.set_cons_zero, List.set_cons_succ]
      refine wpAnyH_ready (rs := [21]) (by as_aux_lemma => kernel_rfl) (by simp) ?_
      refine AllReadyH.cons rfl (fun K hK => ?_) AllReadyH.nil
      go_simp
      refine (num_any _ _).mono ?_
      rintro e w' ⟨rfl, rfl⟩
      go_wp2_with fail
      refine hK.out _ _ ?_ (fun hHeld => ?_)
      · exact ⟨p0, p1, p2, q0, q1, q2⟩
      clear hK K
      refine takeH (i := 22) (v := ?_) rfl rfl (by as_aux_lemma => kernel_rfl) (by as_aux_lemma => kernel_rfl) (by as_aux_lemma => kernel_rfl) (fun _ _ _ h => h) (by rfl) ?_ hHeld ?_
      rotate_left
      · (intro w hSw; (try dsimp only at hSw); first | (go_simp; done) | (go_simp; with_reducible rfl))
      simp only [Act.put, List.setIfInBounds_toArray, List.set_cons_zero, List.set_cons_succ]
      refine takeH (i := 23) (v := ?_) rfl rfl (by as_aux_lemma => kernel_rfl) (by as_aux_lemma => kernel_rfl) (by as_aux_lemma => kernel_rfl) (fun _ _ _ h => h) (by rfl) ?_ hHeld ?_
      rotate_left
      · (intro w hSw; (try dsimp only at hSw); first | (go_simp; done) | (go_simp; with_reducible rfl))
      simp only [Act.put, List.setIfInBounds_toArray, List.set_cons_zero, List.set_cons_succ]
      refine takeH (i := 24) (v := ?_) rfl rfl (by as_aux_lemma => kernel_rfl) (by as_aux_lemma => kernel_rfl) (by as_aux_lemma => kernel_rfl) (fun _ _ _ h => h) (by rfl) ?_ hHeld ?_
      rotate_left
      · (intro w hSw; (try dsimp only at hSw); first | (go_simp; done) | (go_simp; with_reducible rfl))
      simp only [Act.put, List.setIfInBounds_toArray, List.set_cons_zero, List.set_cons_succ]
      refine takeH (i := 25) (v := ?_) rfl rfl (by as_aux_lemma => kernel_rfl) (by as_aux_lemma => kernel_rfl) (by as_aux_lemma => kernel_rfl) (fun _ _ _ h => h) (by rfl) ?_ hHeld ?_
      rotate_left
      · (intro w hSw; (try dsimp only at hSw); first | (go_simp; done) | (go_simp; with_reducible rfl))
      simp only [Act.put, List.setIfInBounds_toArray, List.set_cons_zero, List.set_cons_succ]
      refine wpAnyH_ready (rs := [26]) (by as_aux_lemma => kernel_rfl) (by simp) ?_
      refine AllReadyH.cons rfl (fun K hK => ?_) AllReadyH.nil
      go_simp
      have hb7 := below_new y6 (.cells #[.int .i64 2, .int .i64 5] 3)
      have HI := Lib.hid (IntsAt.news y6 [2, 5])
      have HY7 := Lib.hid (HY6.out.trans (hb7.mono HY6.out.size))
      replace HC := Lib.hid (HC.out.on hb7)
      replace HD := Lib.hid (HD.out.on hb7)
      replace HV := Lib.hid (HV.out.on hb7)
      clear hb7 p0 p1 p2 q0 q1 q2
      have p0 := HC.out.c0
      have p1 := HC.out.c1
      have p2 := HC.out.c2
      have q0 := HD.out.c0
      have q1 := HD.out.c1
      have q2 := HD.out.c2
      refine hK.out _ _ ?_ (fun hHeld => ?_)
      · exact ⟨p0, p1, p2, q0, q1, q2⟩
      clear hK K
      refine wpAnyH_ready (rs := [27]) (by as_aux_lemma => kernel_rfl) (by simp) ?_
      refine AllReadyH.cons rfl (fun K hK => ?_) AllReadyH.nil
      go_simp
      refine (sameInts_any A6 _ 2 c6 2 2 _ _ [2, 5] [2, 5] _ HV.out HI.out (by unfold maxLen; omega) (by unfold maxLen; omega)).mono ?_
      rintro e y8 ⟨rfl, hb8⟩
      have HY8 := Lib.hid (HY7.out.trans (hb8.mono HY7.out.size))
      replace HC := Lib.hid (HC.out.on hb8)
      replace HD := Lib.hid (HD.out.on hb8)
      clear hb8 HI HV p0 p1 p2 q0 q1 q2
      have p0 := HC.out.c0
      have p1 := HC.out.c1
      have p2 := HC.out.c2
      have q0 := HD.out.c0
      have q1 := HD.out.c1
      have q2 := HD.out.c2
      go_wp2_with fail
      refine hK.out _ _ ?_ (fun hHeld => ?_)
      · exact ⟨p0, p1, p2, q0, q1, q2⟩
      clear hK K
      rw [sameI_self]
      refine takeH (i := 28) (v := ?_) rfl rfl (by as_aux_lemma => kernel_rfl) (by as_aux_lemma => kernel_rfl) (by as_aux_lemma => kernel_rfl) (fun _ _ _ h => h) (by rfl) ?_ hHeld ?_
      rotate_left
      · (intro w hSw; (try dsimp only at hSw); first | (go_simp; done) | (go_simp; with_reducible rfl))
      simp only [Act.put, List.setIfInBounds_toArray, List.set_cons_zero, List.set_cons_succ]
      refine takeH (i := 29) (v := ?_) rfl rfl (by as_aux_lemma => kernel_rfl) (by as_aux_lemma => kernel_rfl) (by as_aux_lemma => kernel_rfl) (fun _ _ _ h => h) (by rfl) ?_ hHeld ?_
      rotate_left
      · (intro w hSw; (try dsimp only at hSw); first | (go_simp; done) | (go_simp; with_reducible rfl))
      simp only [Act.put, List.setIfInBounds_toArray, List.set_cons_zero, List.set_cons_succ]
      refine takeH (i := 30) (v := ?_) rfl rfl (by as_aux_lemma => kernel_rfl) (by as_aux_lemma => kernel_rfl) (by as_aux_lemma => kernel_rfl) (fun _ _ _ h => h) (by rfl) ?_ hHeld ?_
      rotate_left
      · (intro w hSw; (try dsimp only at hSw); first | (go_simp; done) | (go_simp; with_reducible rfl))
      simp only [Act.put, List.setIfInBounds_toArray, List.set_cons_zero, List.set_cons_succ]
      refine wpAnyH_ready (rs := [31]) (by as_aux_lemma => kernel_rfl) (by simp) ?_
      refine AllReadyH.cons rfl (fun K hK => ?_) AllReadyH.nil
      go_simp
      refine (num_any _ _).mono ?_
      rintro e w' ⟨rfl, rfl⟩
      go_wp2_with fail
      refine hK.out _ _ ?_ (fun hHeld => ?_)
      · exact ⟨p0, p1, p2, q0, q1, q2⟩
      clear hK K
      refine takeH (i := 32) (v := ?_) rfl rfl (by as_aux_lemma => kernel_rfl) (by as_aux_lemma => kernel_rfl) (by as_aux_lemma => kernel_rfl) (fun _ _ _ h => h) (by rfl) ?_ hHeld ?_
      rotate_left
      · (intro w hSw; (try dsimp only at hSw); first | (go_simp; done) | (go_simp; with_reducible rfl))
      simp only [Act.put, List.setIfInBounds_toArray, List.set_cons_zero, List.set_cons_succ]
      refine takeH (i := 33) (v := ?_) rfl rfl (by as_aux_lemma => kernel_rfl) (by as_aux_lemma => kernel_rfl) (by as_aux_lemma => kernel_rfl) (fun _ _ _ h => h) (by rfl) ?_ hHeld ?_
      rotate_left
      · (intro w hSw; (try dsimp only at hSw); first | (go_simp; done) | (go_simp; with_reducible rfl))
      simp only [Act.put, List.setIfInBounds_toArray, List.set_cons_zero, List.set_cons_succ]
      refine takeH (i := 34) (v := ?_) rfl rfl (by as_aux_lemma => kernel_rfl) (by as_aux_lemma => kernel_rfl) (by as_aux_lemma => kernel_rfl) (fun _ _ _ h => h) (by rfl) ?_ hHeld ?_
      rotate_left
      · (intro w hSw; (try dsimp only at hSw); first | (go_simp; done) | (go_simp; with_reducible rfl))
      simp only [Act.put, List.setIfInBounds_toArray, List.set_cons_zero, List.set_cons_succ]
      refine takeH (i := 35) (v := ?_) rfl rfl (by as_aux_lemma => kernel_rfl) (by as_aux_lemma => kernel_rfl) (by as_aux_lemma => kernel_rfl) (fun _ _ _ h => h) (by rfl) ?_ hHeld ?_
      rotate_left
      · (intro w hSw; (try dsimp only at hSw); first | (go_simp; done) | (go_simp; with_reducible rfl))
      simp only [Act.put, List.setIfInBounds_toArray, List.set_cons_zero, List.set_cons_succ]
      refine takeH (i := 36) (v := ?_) rfl rfl (by as_aux_lemma => kernel_rfl) (by as_aux_lemma => kernel_rfl) (by as_aux_lemma => kernel_rfl) (fun _ _ _ h => h) (by rfl) ?_ hHeld ?_
      rotate_left
      · (intro w hSw; (try dsimp only at hSw); first | (go_simp; done) | (go_simp; with_reducible rfl))
      simp only [Act.put, List.setIfInBounds_toArray, List.set_cons_zero, List.set_cons_succ]
      refine takeH (i := 37) (v := ?_) rfl rfl (by as_aux_lemma => kernel_rfl) (by as_aux_lemma => kernel_rfl) (by as_aux_lemma => kernel_rfl) (fun _ _ _ h => h) (by rfl) ?_ hHeld ?_
      rotate_left
      · (intro w hSw; (try dsimp only at hSw); first | (go_simp; done) | (go_simp; with_reducible rfl))
      simp only [Act.put, List.setIfInBounds_toArray, List.set_cons_zero, List.set_cons_succ]
      refine takeH (i := 38) (v := ?_) rfl rfl (by as_aux_lemma => kernel_rfl) (by as_aux_lemma => kernel_rfl) (by as_aux_lemma => kernel_rfl) (fun _ _ _ h => h) (by rfl) ?_ hHeld ?_
      rotate_left
      · (intro w hSw; (try dsimp only at hSw); first | (go_simp; done) | (go_simp; with_reducible rfl))
      simp only [Act.put, List.setIfInBounds_toArray, List.set_cons_zero, List.set_cons_succ]
      refine wpAnyH_ready (rs := [39]) (by as_aux_lemma => kernel_rfl) (by simp) ?_
      refine AllReadyH.cons rfl (fun K hK => ?_) AllReadyH.nil
      go_simp
      refine (num_any _ _).mono ?_
      rintro e w' ⟨rfl, rfl⟩
      go_wp2_with fail
      refine hK.out _ _ ?_ (fun hHeld => ?_)
      · exact ⟨p0, p1, p2, q0, q1, q2⟩
      clear hK K
      refine takeH (i := 40) (v := ?_) rfl rfl (by as_aux_lemma => kernel_rfl) (by as_aux_lemma => kernel_rfl) (by as_aux_lemma => kernel_rfl) (fun _ _ _ h => h) (by rfl) ?_ hHeld ?_
      rotate_left
      · (intro w hSw; (try dsimp only at hSw); first | (go_simp; done) | (go_simp; with_reducible rfl))
      simp only [Act.put, List.setIfInBounds_toArray, List.set_cons_zero, List.set_cons_succ]
      refine takeH (i := 41) (v := ?_) rfl rfl (by as_aux_lemma => kernel_rfl) (by as_aux_lemma => kernel_rfl) (by as_aux_lemma => kernel_rfl) (fun _ _ _ h => h) (by rfl) ?_ hHeld ?_
      rotate_left
      · (intro w hSw; (try dsimp only at hSw); first | (go_simp; done) | (go_simp; with_reducible rfl))
      simp only [Act.put, List.setIfInBounds_toArray, List.set_cons_zero, List.set_cons_succ]
      refine takeH (i := 42) (v := ?_) rfl rfl (by as_aux_lemma => kernel_rfl) (by as_aux_lemma => kernel_rfl) (by as_aux_lemma => kernel_rfl) (fun _ _ _ h => h) (by rfl) ?_ hHeld ?_
      rotate_left
      · (intro w hSw; (try dsimp only at hSw); first | (go_simp; done) | (go_simp; with_reducible rfl))
      simp only [Act.put, List.setIfInBounds_toArray, List.set_cons_zero, List.set_cons_succ]
      refine takeH (i := 43) (v := ?_) rfl rfl (by as_aux_lemma => kernel_rfl) (by as_aux_lemma => kernel_rfl) (by as_aux_lemma => kernel_rfl) (fun _ _ _ h => h) (by rfl) ?_ hHeld ?_
      rotate_left
      · (intro w hSw; (try dsimp only at hSw); first | (go_simp; done) | (go_simp; with_reducible rfl))
      simp only [Act.put, List.setIfInBounds_toArray, List.set_cons_zero, List.set_cons_succ]
      refine takeH (i := 44) (v := ?_) rfl rfl (by as_aux_lemma => kernel_rfl) (by as_aux_lemma => kernel_rfl) (by as_aux_lemma => kernel_rfl) (fun _ _ _ h => h) (by rfl) ?_ hHeld ?_
      rotate_left
      · (intro w hSw; (try dsimp only at hSw); first | (go_simp; done) | (go_simp; with_reducible rfl))
      simp only [Act.put, List.setIfInBounds_toArray, List.set_cons_zero, List.set_cons_succ]
      refine takeH (i := 45) (v := ?_) rfl rfl (by as_aux_lemma => kernel_rfl) (by as_aux_lemma => kernel_rfl) (by as_aux_lemma => kernel_rfl) (fun _ _ _ h => h) (by rfl) ?_ hHeld ?_
      rotate_left
      · (intro w hSw; (try dsimp only at hSw); first | (go_simp; done) | (go_simp; with_reducible rfl))
      simp only [Act.put, List.setIfInBounds_toArray, List.set_cons_zero, List.set_cons_succ]
      refine takeH (i := 46) (v := ?_) rfl rfl (by as_aux_lemma => kernel_rfl) (by as_aux_lemma => kernel_rfl) (by as_aux_lemma => kernel_rfl) (fun _ _ _ h => h) (by rfl) ?_ hHeld ?_
      rotate_left
      · (intro w hSw; (try dsimp only at hSw); first | (go_simp; done) | (go_simp; with_reducible rfl))
      simp only [Act.put, List.setIfInBounds_toArray, List.set_cons_zero, List.set_cons_succ]
      refine wpAnyH_ready (rs := [47]) (by as_aux_lemma => kernel_rfl) (by simp) ?_
      refine AllReadyH.cons rfl (fun K hK => ?_) AllReadyH.nil
      go_simp
      refine (num_any _ _).mono ?_
      rintro e w' ⟨rfl, rfl⟩
      go_wp2_with fail
      refine hK.out _ _ ?_ (fun hHeld => ?_)
      · exact ⟨p0, p1, p2, q0, q1, q2⟩
      clear hK K
      refine takeH (i := 48) (v := ?_) rfl rfl (by as_aux_lemma => kernel_rfl) (by as_aux_lemma => kernel_rfl) (by as_aux_lemma => kernel_rfl) (fun _ _ _ h => h) (by rfl) ?_ hHeld ?_
      rotate_left
      · (intro w hSw; (try dsimp only at hSw); first | (go_simp; done) | (go_simp; with_reducible rfl))
      simp only [Act.put, List.setIfInBounds_toArray, List.set_cons_zero, List.set_cons_succ]
      refine takeH (i := 49) (v := ?_) rfl rfl (by as_aux_lemma => kernel_rfl) (by as_aux_lemma => kernel_rfl) (by as_aux_lemma => kernel_rfl) (fun _ _ _ h => h) (by rfl) ?_ hHeld ?_
      rotate_left
      · (intro w hSw; (try dsimp only at hSw); first | (go_simp; done) | (go_simp; with_reducible rfl))
      simp only [Act.put, List.setIfInBounds_toArray, List.set_cons_zero, List.set_cons_succ]
      refine takeH (i := 50) (v := ?_) rfl rfl (by as_aux_lemma => kernel_rfl) (by as_aux_lemma => kernel_rfl) (by as_aux_lemma => kernel_rfl) (fun _ _ _ h => h) (by rfl) ?_ hHeld ?_
      rotate_left
      · (intro w hSw; (try dsimp only at hSw); first | (go_simp; done) | (go_simp; with_reducible rfl))
      simp only [Act.put, List.setIfInBounds_toArray, List.set_cons_zero, List.set_cons_succ]
      refine takeH (i := 51) (v := ?_) rfl rfl (by as_aux_lemma => kernel_rfl) (by as_aux_lemma => kernel_rfl) (by as_aux_lemma => kernel_rfl) (fun _ _ _ h => h) (by rfl) ?_ hHeld ?_
      rotate_left
      · (intro w hSw; (try dsimp only at hSw); first | (go_simp; done) | (go_simp; with_reducible rfl))
      simp only [Act.put, List.setIfInBounds_toArray, List.set_cons_zero, List.set_cons_succ]
      refine wpAnyH_ready (rs := [52]) (by as_aux_lemma => kernel_rfl) (by simp) ?_
      refine AllReadyH.cons rfl (fun K hK => ?_) AllReadyH.nil
      go_simp
      refine (num_any _ _).mono ?_
      rintro e w' ⟨rfl, rfl⟩
      go_wp2_with fail
      refine hK.out _ _ ?_ (fun hHeld => ?_)
      · exact ⟨p0, p1, p2, q0, q1, q2⟩
      clear hK K
      refine takeH (i := 53) (v := ?_) rfl rfl (by as_aux_lemma => kernel_rfl) (by as_aux_lemma => kernel_rfl) (by as_aux_lemma => kernel_rfl) (fun _ _ _ h => h) (by rfl) ?_ hHeld ?_
      rotate_left
      · (intro w hSw; (try dsimp only at hSw); first | (go_simp; done) | (go_simp; with_reducible rfl))
      simp only [Act.put, List.setIfInBounds_toArray, List.set_cons_zero, List.set_cons_succ]
      refine takeH (i := 54) (v := ?_) rfl rfl (by as_aux_lemma => kernel_rfl) (by as_aux_lemma => kernel_rfl) (by as_aux_lemma => kernel_rfl) (fun _ _ _ h => h) (by rfl) ?_ hHeld ?_
      rotate_left
      · (intro w hSw; (try dsimp only at hSw); first | (go_simp; done) | (go_simp; with_reducible rfl))
      simp only [Act.put, List.setIfInBounds_toArray, List.set_cons_zero, List.set_cons_succ]
      refine takeH (i := 55) (v := ?_) rfl rfl (by as_aux_lemma => kernel_rfl) (by as_aux_lemma => kernel_rfl) (by as_aux_lemma => kernel_rfl) (fun _ _ _ h => h) (by rfl) ?_ hHeld ?_
      rotate_left
      · (intro w hSw; (try dsimp only at hSw); first | (go_simp; done) | (go_simp; with_reducible rfl))
      simp only [Act.put, List.setIfInBounds_toArray, List.set_cons_zero, List.set_cons_succ]
      refine takeH (i := 57) (v := ?_) rfl rfl (by as_aux_lemma => kernel_rfl) (by as_aux_lemma => kernel_rfl) (by as_aux_lemma => kernel_rfl) (fun _ _ _ h => h) (by rfl) ?_ hHeld ?_
      rotate_left
      · (intro w hSw; (try dsimp only at hSw); first | (go_simp; done) | (go_simp; with_reducible rfl))
      simp only [Act.put, List.setIfInBounds_toArray, List.set_cons_zero, List.set_cons_succ]
      refine wpAnyH_ready (rs := [56]) (by as_aux_lemma => kernel_rfl) (by simp) ?_
      refine AllReadyH.cons rfl (fun K hK => ?_) AllReadyH.nil
      go_simp
      refine (words_any _).mono ?_
      rintro e y9 ⟨A9, rfl, hs9, hb9⟩
      have HY9 := Lib.hid (HY8.out.trans (hb9.mono HY8.out.size))
      have HS := Lib.hid hs9
      replace HC := Lib.hid (HC.out.on hb9)
      replace HD := Lib.hid (HD.out.on hb9)
      clear hb9 hs9 p0 p1 p2 q0 q1 q2
      have p0 := HC.out.c0
      have p1 := HC.out.c1
      have p2 := HC.out.c2
      have q0 := HD.out.c0
      have q1 := HD.out.c1
      have q2 := HD.out.c2
      go_wp2_with fail
      refine hK.out _ _ ?_ (fun hHeld => ?_)
      · exact ⟨p0, p1, p2, q0, q1, q2⟩
      clear hK K
      refine wpAnyH_ready (rs := [58]) (by as_aux_lemma => kernel_rfl) (by simp) ?_
      refine AllReadyH.cons rfl (fun K hK => ?_) AllReadyH.nil
      go_simp
      rw [← HVE.out]
      refine (mayC_any A9 7 7 wordsL v awC _ HS.out len7 (Nat.le_refl _) HC.out.cl).mono ?_
      rintro e y10 ⟨rfl, hb10⟩
      rw [aw_may]
      have HY10 := Lib.hid (HY9.out.trans (hb10.mono HY9.out.size))
      replace HC := Lib.hid (HC.out.on hb10)
      replace HD := Lib.hid (HD.out.on hb10)
      clear hb10 HS p0 p1 p2 q0 q1 q2
      have p0 := HC.out.c0
      have p1 := HC.out.c1
      have p2 := HC.out.c2
      have q0 := HD.out.c0
      have q1 := HD.out.c1
      have q2 := HD.out.c2
      go_wp2_with fail
      refine hK.out _ _ ?_ (fun hHeld => ?_)
      · exact ⟨p0, p1, p2, q0, q1, q2⟩
      clear hK K
      refine takeH (i := 59) (v := ?_) rfl rfl (by as_aux_lemma => kernel_rfl) (by as_aux_lemma => kernel_rfl) (by as_aux_lemma => kernel_rfl) (fun _ _ _ h => h) (by rfl) ?_ hHeld ?_
      rotate_left
      · (intro w hSw; (try dsimp only at hSw); first | (go_simp; done) | (go_simp; with_reducible rfl))
      simp only [Act.put, List.setIfInBounds_toArray, List.set_cons_zero, List.set_cons_succ]
      refine takeH (i := 60) (v := ?_) rfl rfl (by as_aux_lemma => kernel_rfl) (by as_aux_lemma => kernel_rfl) (by as_aux_lemma => kernel_rfl) (fun _ _ _ h => h) (by rfl) ?_ hHeld ?_
      rotate_left
      · (intro w hSw; (try dsimp only at hSw); first | (go_simp; done) | (go_simp; with_reducible rfl))
      simp only [Act.put, List.setIfInBounds_toArray, List.set_cons_zero, List.set_cons_succ]
      refine wpAnyH_done (by as_aux_lemma => kernel_rfl) ?_ _
      go_wp2
      go_ret
      exact ⟨rfl, HY10.out⟩
end Go.Proofs.Ytjdmnplkgimaiaa
