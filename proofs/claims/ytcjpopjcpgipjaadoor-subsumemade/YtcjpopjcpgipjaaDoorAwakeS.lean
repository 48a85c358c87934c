/-
  Clauses written out; contract of quaerelaw10: awake.
-/
import Derived.Test.YtcjpopjcpgipjaaDoorSubAll
import Derived.Deep.DeepCutAuto
namespace Go.Proofs.YtcjpopjcpgipjaaDoor
open Go.RowKit Go.Deep
set_option linter.unusedSimpArgs false
set_option linter.unusedVariables false
set_option maxRecDepth 100000

def awc : Cl := ⟨[⟨false, [5, -1]⟩], [[-1]], []⟩
def awd : Cl := ⟨[⟨false, [5, 2]⟩, ⟨false, [5, 1]⟩], [[1]], []⟩
def awe : Cl := ⟨[], [[5]], []⟩
theorem aw_okc : mayC wordsL awc = true := by decide +kernel
theorem aw_okd : mayC wordsL awd = true := by decide +kernel
theorem aw_oke : mayC wordsL awe = false := by decide +kernel
theorem aw_sub : subO wordsL awc awd = some [1, 0] := by decide +kernel
theorem aw_sub2 : subO wordsL awd awc = none := by decide +kernel
theorem aw_1 : subIs wordsL awc awd = true := by unfold subIs okC; rw [aw_okc, aw_okd, aw_sub]; rfl
theorem aw_2 : subE wordsL awc awd = 0 := by unfold subE okC; rw [aw_okc, aw_okd]; rfl
theorem aw_3 : subR wordsL awc awd = [1, 0] := by unfold subR okC; rw [aw_okc, aw_okd, aw_sub]; rfl
theorem aw_4 : subIs wordsL awd awc = false := by unfold subIs okC; rw [aw_okc, aw_okd, aw_sub2]; rfl
theorem aw_5 : subE wordsL awd awc = 0 := by unfold subE okC; rw [aw_okc, aw_okd]; rfl
theorem aw_6 : subE wordsL awe awc = 1000 := by unfold subE okC; rw [aw_oke]; rfl
section
variable {w : World} {A A1 A2 A3 : Option Addr} {n n1 n2 n3 c c1 c2 c3 : Nat} {p q r : Lt}
theorem LitAt.new' (h : LitAt w w.heap.size A n c p) (o : Obj) : LitAt (w.alloc o) (w.alloc o).heap.size A n c p := h.on (below_new w o)
theorem LitsAt.of1 (h1 : LitAt w w.heap.size A1 n1 c1 p) :
    LitsAt (w.alloc (.cells #[.bool p.neg, .slice A1 n1 c1] 75)) (w.alloc (.cells #[.bool p.neg, .slice A1 n1 c1] 75)).heap.size (some ⟨w.heap.size, 0, none⟩) 1 [p] := by
  obtain rfl := h1.at_.len
  refine ⟨rfl, fun _ => ⟨w.heap.size, 0, rfl, by simp, fun i h => ?_⟩, fun i h => ?_⟩
  · match i, h with
    | 0, _ => exact ⟨by rw [World.cell?_alloc_new]; rfl, A1, c1, by rw [World.cell?_alloc_new]; rfl, h1.cap, (h1.new' _).at_⟩
  · match i, h with
    | 0, _ => exact h1.fit
theorem LitsAt.of2 (h1 : LitAt w w.heap.size A1 n1 c1 p) (h2 : LitAt w w.heap.size A2 n2 c2 q) :
    LitsAt (w.alloc (.cells #[.bool p.neg, .slice A1 n1 c1, .bool q.neg, .slice A2 n2 c2] 75)) (w.alloc (.cells #[.bool p.neg, .slice A1 n1 c1, .bool q.neg, .slice A2 n2 c2] 75)).heap.size (some ⟨w.heap.size, 0, none⟩) 2 [p, q] := by
  obtain rfl := h1.at_.len
  obtain rfl := h2.at_.len
  refine ⟨rfl, fun _ => ⟨w.heap.size, 0, rfl, by simp, fun i h => ?_⟩, fun i h => ?_⟩
  · match i, h with
    | 0, _ => exact ⟨by rw [World.cell?_alloc_new]; rfl, A1, c1, by rw [World.cell?_alloc_new]; rfl, h1.cap, (h1.new' _).at_⟩
    | 1, _ => exact ⟨by rw [World.cell?_alloc_new]; rfl, A2, c2, by rw [World.cell?_alloc_new]; rfl, h2.cap, (h2.new' _).at_⟩
  · match i, h with
    | 0, _ => exact h1.fit
    | 1, _ => exact h2.fit
theorem TupsAt.of1 {x : List Int} (h1 : RowIn w w.heap.size A1 n1 c1 x) (hz : A1 = none → c1 = 0) :
    TupsAt (w.alloc (.cells #[.slice A1 n1 c1] 28)) (w.alloc (.cells #[.slice A1 n1 c1] 28)).heap.size (some ⟨w.heap.size, 0, none⟩) 1 [x] := by
  obtain rfl := h1.at_.len
  refine ⟨rfl, fun _ => ⟨w.heap.size, 0, rfl, by simp, fun i h => ?_⟩⟩
  match i, h with
  | 0, _ => exact ⟨A1, c1, by rw [World.cell?_alloc_new]; rfl, h1.on (below_new w _), hz⟩
end
theorem LitAt.lit' (w : World) (x : Bool) (t : List Int) (hf : t.length ≤ 9) : LitAt (w.alloc (.cells (intCells t).toArray 3)) (w.alloc (.cells (intCells t).toArray 3)).heap.size (some ⟨w.heap.size, 0, none⟩) t.length t.length ⟨x, t⟩ :=
  ⟨IntsAt.news w t, Nat.le_refl _, by omega⟩
theorem RowIn.lit' (w : World) (t : List Int) (hf : t.length ≤ 9) : RowIn (w.alloc (.cells (intCells t).toArray 3)) (w.alloc (.cells (intCells t).toArray 3)).heap.size (some ⟨w.heap.size, 0, none⟩) t.length t.length t :=
  ⟨IntsAt.news w t, Nat.le_refl _, by omega⟩
/-- A slice of literals alone, as a clause. -/
theorem ClAt.ofLits {w : World} {A : Option Addr} {n : Nat} {ls : List Lt} (h : LitsAt w w.heap.size A n ls) (hn : n ≤ 9) : ClAt w w.heap.size ⟨A, n, n, none, 0, 0, none, 0, 0⟩ ⟨ls, [], []⟩ :=
  ⟨h, TupsAt.nil_, LitsAt.nil_, Nat.le_refl _, Nat.le_refl _, Nat.le_refl _, fun _ => rfl, by show n * 32 ≤ _; omega, by show 0 * 24 ≤ _; omega, by show 0 * 32 ≤ _; omega⟩
theorem ClAt.ofTwo {w : World} {A A2 : Option Addr} {n m : Nat} {ls : List Lt} {ts : List (List Int)} (h : LitsAt w w.heap.size A n ls) (k : TupsAt w w.heap.size A2 m ts) (hn : n ≤ 9) (hm : m ≤ 9) (h0 : A2 ≠ none) : ClAt w w.heap.size ⟨A, n, n, A2, m, m, none, 0, 0⟩ ⟨ls, ts, []⟩ :=
  ⟨h, k, LitsAt.nil_, Nat.le_refl _, Nat.le_refl _, Nat.le_refl _, fun q => absurd q h0, by show n * 32 ≤ _; omega, by show m * 24 ≤ _; omega, by show 0 * 32 ≤ _; omega⟩

theorem aw_c (w : World) : ∃ w1, w1 = (((((w.alloc (.cells #[.int .i64 5, .int .i64 (-1)] 3)).alloc (.cells #[.bool false, .slice (some ⟨w.heap.size, 0, none⟩) 2 2] 75)).alloc (.cells #[.int .i64 (-1)] 3)).alloc (.cells #[.slice (some ⟨w.heap.size + 1 + 1, 0, none⟩) 1 1] 28)).alloc
      (.cells #[.slice (some ⟨w.heap.size + 1, 0, none⟩) 1 1, .slice (some ⟨w.heap.size + 1 + 1 + 1, 0, none⟩) 1 1, .slice none 0 0] 26)) ∧
    Below w.heap.size w w1 ∧ CBox w1 (w.heap.size + 1 + 1 + 1 + 1) ⟨some ⟨w.heap.size + 1, 0, none⟩, 1, 1, some ⟨w.heap.size + 1 + 1 + 1, 0, none⟩, 1, 1, none, 0, 0⟩ awc := by
  obtain ⟨wA, hwA⟩ : ∃ u, u = w.alloc (.cells #[.int .i64 5, .int .i64 (-1)] 3) := ⟨_, rfl⟩
  have swA : wA.heap.size = w.heap.size + 1 := by rw [hwA]; simp
  have bwA : Below w.heap.size w wA := by rw [hwA]; exact below_new _ _
  have a : LitAt wA wA.heap.size (some ⟨w.heap.size, 0, none⟩) 2 2 ⟨false, [5, -1]⟩ := by rw [hwA]; exact LitAt.lit' w false [5, -1] (by decide)
  obtain ⟨wB, hwB⟩ : ∃ u, u = wA.alloc (.cells #[.bool false, .slice (some ⟨w.heap.size, 0, none⟩) 2 2] 75) := ⟨_, rfl⟩
  have swB : wB.heap.size = wA.heap.size + 1 := by rw [hwB]; simp
  have bwB : Below wA.heap.size wA wB := by rw [hwB]; exact below_new _ _
  have b : LitsAt wB wB.heap.size (some ⟨wA.heap.size, 0, none⟩) 1 awc.lits := by rw [hwB]; exact LitsAt.of1 a
  obtain ⟨wC, hwC⟩ : ∃ u, u = wB.alloc (.cells #[.int .i64 (-1)] 3) := ⟨_, rfl⟩
  have swC : wC.heap.size = wB.heap.size + 1 := by rw [hwC]; simp
  have bwC : Below wB.heap.size wB wC := by rw [hwC]; exact below_new _ _
  have d : RowIn wC wC.heap.size (some ⟨wB.heap.size, 0, none⟩) 1 1 [-1] := by rw [hwC]; exact RowIn.lit' wB [-1] (by decide)
  obtain ⟨wD, hwD⟩ : ∃ u, u = wC.alloc (.cells #[.slice (some ⟨wB.heap.size, 0, none⟩) 1 1] 28) := ⟨_, rfl⟩
  have swD : wD.heap.size = wC.heap.size + 1 := by rw [hwD]; simp
  have bwD : Below wC.heap.size wC wD := by rw [hwD]; exact below_new _ _
  have e : TupsAt wD wD.heap.size (some ⟨wC.heap.size, 0, none⟩) 1 awc.tups := by rw [hwD]; exact TupsAt.of1 d (fun q => by cases q)
  have hc := ClAt.ofTwo ((b.on bwC).on bwD) e (by decide) (by decide) (by simp)
  have g := CBox.new hc
  have hb : Below w.heap.size w (wD.alloc (Cv.obj ⟨some ⟨wA.heap.size, 0, none⟩, 1, 1, some ⟨wC.heap.size, 0, none⟩, 1, 1, none, 0, 0⟩)) :=
    bwA.trans ((bwB.mono (by omega)).trans ((bwC.mono (by omega)).trans ((bwD.mono (by omega)).trans ((below_new _ _).mono (by omega)))))
  refine ⟨_, rfl, ?_⟩
  rw [← hwA]
  rw [← hwB]
  rw [← hwC]
  have x1 : w.heap.size + 1 + 1 = wB.heap.size := by omega
  have x2 : w.heap.size + 1 + 1 + 1 = wC.heap.size := by omega
  have x3 : w.heap.size + 1 = wA.heap.size := by omega
  have x4 : w.heap.size + 1 + 1 + 1 + 1 = wD.heap.size := by omega
  rw [x4, x2, x1, x3, ← hwD]
  exact ⟨hb, g⟩
theorem aw_d (w : World) : ∃ w1, w1 = ((((((w.alloc (.cells #[.int .i64 5, .int .i64 2] 3)).alloc (.cells #[.int .i64 5, .int .i64 1] 3)).alloc (.cells #[.bool false, .slice (some ⟨w.heap.size, 0, none⟩) 2 2, .bool false, .slice (some ⟨w.heap.size + 1, 0, none⟩) 2 2] 75)).alloc (.cells #[.int .i64 1] 3)).alloc (.cells #[.slice (some ⟨w.heap.size + 1 + 1 + 1, 0, none⟩) 1 1] 28)).alloc
      (.cells #[.slice (some ⟨w.heap.size + 1 + 1, 0, none⟩) 2 2, .slice (some ⟨w.heap.size + 1 + 1 + 1 + 1, 0, none⟩) 1 1, .slice none 0 0] 26)) ∧
    Below w.heap.size w w1 ∧ CBox w1 (w.heap.size + 1 + 1 + 1 + 1 + 1) ⟨some ⟨w.heap.size + 1 + 1, 0, none⟩, 2, 2, some ⟨w.heap.size + 1 + 1 + 1 + 1, 0, none⟩, 1, 1, none, 0, 0⟩ awd := by
  obtain ⟨wA, hwA⟩ : ∃ u, u = w.alloc (.cells #[.int .i64 5, .int .i64 2] 3) := ⟨_, rfl⟩
  have swA : wA.heap.size = w.heap.size + 1 := by rw [hwA]; simp
  have bwA : Below w.heap.size w wA := by rw [hwA]; exact below_new _ _
  have a : LitAt wA wA.heap.size (some ⟨w.heap.size, 0, none⟩) 2 2 ⟨false, [5, 2]⟩ := by rw [hwA]; exact LitAt.lit' w false [5, 2] (by decide)
  obtain ⟨wX, hwX⟩ : ∃ u, u = wA.alloc (.cells #[.int .i64 5, .int .i64 1] 3) := ⟨_, rfl⟩
  have swX : wX.heap.size = wA.heap.size + 1 := by rw [hwX]; simp
  have bwX : Below wA.heap.size wA wX := by rw [hwX]; exact below_new _ _
  have a2 : LitAt wX wX.heap.size (some ⟨wA.heap.size, 0, none⟩) 2 2 ⟨false, [5, 1]⟩ := by rw [hwX]; exact LitAt.lit' wA false [5, 1] (by decide)
  obtain ⟨wB, hwB⟩ : ∃ u, u = wX.alloc (.cells #[.bool false, .slice (some ⟨w.heap.size, 0, none⟩) 2 2, .bool false, .slice (some ⟨wA.heap.size, 0, none⟩) 2 2] 75) := ⟨_, rfl⟩
  have swB : wB.heap.size = wX.heap.size + 1 := by rw [hwB]; simp
  have bwB : Below wX.heap.size wX wB := by rw [hwB]; exact below_new _ _
  have b : LitsAt wB wB.heap.size (some ⟨wX.heap.size, 0, none⟩) 2 awd.lits := by rw [hwB]; exact LitsAt.of2 (a.on bwX) a2
  obtain ⟨wC, hwC⟩ : ∃ u, u = wB.alloc (.cells #[.int .i64 1] 3) := ⟨_, rfl⟩
  have swC : wC.heap.size = wB.heap.size + 1 := by rw [hwC]; simp
  have bwC : Below wB.heap.size wB wC := by rw [hwC]; exact below_new _ _
  have d : RowIn wC wC.heap.size (some ⟨wB.heap.size, 0, none⟩) 1 1 [1] := by rw [hwC]; exact RowIn.lit' wB [1] (by decide)
  obtain ⟨wD, hwD⟩ : ∃ u, u = wC.alloc (.cells #[.slice (some ⟨wB.heap.size, 0, none⟩) 1 1] 28) := ⟨_, rfl⟩
  have swD : wD.heap.size = wC.heap.size + 1 := by rw [hwD]; simp
  have bwD : Below wC.heap.size wC wD := by rw [hwD]; exact below_new _ _
  have e : TupsAt wD wD.heap.size (some ⟨wC.heap.size, 0, none⟩) 1 awd.tups := by rw [hwD]; exact TupsAt.of1 d (fun q => by cases q)
  have hc := ClAt.ofTwo ((b.on bwC).on bwD) e (by decide) (by decide) (by simp)
  have g := CBox.new hc
  have hb : Below w.heap.size w (wD.alloc (Cv.obj ⟨some ⟨wX.heap.size, 0, none⟩, 2, 2, some ⟨wC.heap.size, 0, none⟩, 1, 1, none, 0, 0⟩)) :=
    bwA.trans ((bwX.mono (by omega)).trans ((bwB.mono (by omega)).trans ((bwC.mono (by omega)).trans ((bwD.mono (by omega)).trans ((below_new _ _).mono (by omega))))))
  refine ⟨_, rfl, ?_⟩
  have x1 : w.heap.size + 1 + 1 + 1 = wB.heap.size := by omega
  have x2 : w.heap.size + 1 + 1 + 1 + 1 = wC.heap.size := by omega
  have x3 : w.heap.size + 1 = wA.heap.size := by omega
  have x5 : w.heap.size + 1 + 1 = wX.heap.size := by omega
  have x4 : w.heap.size + 1 + 1 + 1 + 1 + 1 = wD.heap.size := by omega
  rw [x4, x2, x1, x5, x3, ← hwA, ← hwX, ← hwB, ← hwC, ← hwD]
  exact ⟨hb, g⟩
theorem aw_pl {w w' : World} {e : Ending} (h : PlPost wordsL awc awd w e w') : ∃ A c, e = .returned (.tuple #[.slice A 2 c, .bool true, .int .i64 0]) ∧ IntsAt w' w'.heap.size A 2 [1, 0] ∧ Below w.heap.size w w' := by
  obtain ⟨v, he, ho, hb⟩ := h
  rw [aw_1, aw_2] at he
  rw [aw_3] at ho
  obtain ⟨A, c, rfl, _, hi⟩ := ho.intsAt
  exact ⟨A, c, he, hi, hb⟩
theorem aw_do {w w' : World} {e : Ending} (h : DoPost wordsL awd awc w e w') : e = .returned (.tuple #[.bool false, .int .i64 0]) ∧ Below w.heap.size w w' := by
  obtain ⟨he, hb⟩ := h
  rw [aw_4, aw_5] at he
  exact ⟨he, hb⟩
theorem aw_do2 {w w' : World} {e : Ending} (h : DoPost wordsL awe awc w e w') : ∃ x, e = .returned (.tuple #[.bool x, .int .i64 1000]) ∧ Below w.heap.size w w' := by
  obtain ⟨he, hb⟩ := h
  rw [aw_6] at he
  exact ⟨_, he, hb⟩
set_option maxHeartbeats 8000000 in
theorem awakeS_any (w : World) (hT : TabW w) (hTB : 0 < w.heap.size) : Calls Tryd.prog 16 #[] w fun e w' => e = .returned (.bool true) ∧ Below w.heap.size w w' := by
  have HT := Lib.hid hT
  have HTB := Lib.hid hTB
  clear hT hTB
  go_enter Tryd.func16, Tryd.ntmps16
  obtain ⟨w1, hw1, hb1, hx1⟩ := aw_c w
  go_upto_region 2 with (fail)
  rw [← hw1]
  clear hw1
  have HX := Lib.hid hx1
  have HB1 := Lib.hid hb1
  clear hx1 hb1
  obtain ⟨gx, hgx⟩ : ∃ g, g = w.heap.size + 1 + 1 + 1 + 1 := ⟨_, rfl⟩
  obtain ⟨ax, hax⟩ : ∃ g, g = w.heap.size + 1 := ⟨_, rfl⟩
  obtain ⟨bx, hbx⟩ : ∃ g, g = w.heap.size + 1 + 1 + 1 := ⟨_, rfl⟩
  rw [← hgx, ← hbx, ← hax] at HX ⊢
  clear hgx hbx hax
  obtain ⟨w2, hw2, hb2, hy2⟩ := aw_d w1
  go_upto_region 3 with (fail)
  rw [← hw2]
  clear hw2
  have HY := Lib.hid hy2
  have HB2 := Lib.hid (HB1.out.trans (hb2.mono HB1.out.size))
  replace HX := Lib.hid (HX.out.on hb2)
  clear hy2 hb2
  obtain ⟨gy, hgy⟩ : ∃ g, g = w1.heap.size + 1 + 1 + 1 + 1 + 1 := ⟨_, rfl⟩
  obtain ⟨ay, hay⟩ : ∃ g, g = w1.heap.size + 1 + 1 := ⟨_, rfl⟩
  obtain ⟨by_, hby⟩ : ∃ g, g = w1.heap.size + 1 + 1 + 1 + 1 := ⟨_, rfl⟩
  rw [← hgy, ← hby, ← hay] at HY ⊢
  clear hgy hby hay
  go_wp2_with fail
  have x0 := HX.out.c0
  have x1 := HX.out.c1
  have x2 := HX.out.c2
  have y0 := HY.out.c0
  have y1 := HY.out.c1
  have y2 := HY.out.c2
  refine wp_region_held_drew (S := (fun w' => w'.cell? ⟨gx, 0, none⟩ = some (.slice (some ⟨ax, 0, none⟩) 1 1) ∧ w'.cell? ⟨gx, 1, none⟩ = some (.slice (some ⟨bx, 0, none⟩) 1 1) ∧ w'.cell? ⟨gx, 2, none⟩ = some (.slice none 0 0) ∧ w'.cell? ⟨gy, 0, none⟩ = some (.slice (some ⟨ay, 0, none⟩) 2 2) ∧ w'.cell? ⟨gy, 1, none⟩ = some (.slice (some ⟨by_, 0, none⟩) 1 1) ∧ w'.cell? ⟨gy, 2, none⟩ = some (.slice none 0 0))) (by kernel_rfl) ⟨x0, x1, x2, y0, y1, y2⟩ (fun hHeld => ?_)
  have hb3 : Below w2.heap.size w2 w2.drew := (Below.refl w2.heap.size w2).drew
  obtain ⟨w3, hw3⟩ : ∃ v, v = w2.drew := ⟨_, rfl⟩
  rw [← hw3] at hb3 hHeld ⊢
  clear hw3 x0 x1 x2 y0 y1 y2
  have HB3 := Lib.hid (HB2.out.trans (hb3.mono HB2.out.size))
  replace HX := Lib.hid (HX.out.on hb3)
  replace HY := Lib.hid (HY.out.on hb3)
  clear hb3
  refine takeH (i := 1) (v := ?_) rfl rfl (by kernel_rfl) (by kernel_rfl) (by kernel_rfl) (fun _ _ _ h => h) (by rfl) ?_ hHeld ?_
  rotate_left
  · (intro w hSw; (try dsimp only at hSw); first | (go_simp; done) | (go_simp; with_reducible rfl))
  simp only [Act.put, List.setIfInBounds_toArray, List.set_cons_zero, List.set_cons_succ]
  refine takeH (i := 2) (v := ?_) rfl rfl (by kernel_rfl) (by kernel_rfl) (by kernel_rfl) (fun _ _ _ h => h) (by rfl) ?_ hHeld ?_
  rotate_left
  · (intro w hSw; (try dsimp only at hSw); first | (go_simp; done) | (go_simp; with_reducible rfl))
  simp only [Act.put, List.setIfInBounds_toArray, List.set_cons_zero, List.set_cons_succ]
  refine wpAnyH_ready (rs := [0]) (by kernel_rfl) (by simp) ?_
  refine AllReadyH.cons rfl (fun K hK => ?_) AllReadyH.nil
  go_simp
  refine (words_any _).mono ?_
  rintro e w4 ⟨A4, rfl, hs4, hb4⟩
  have HS4 := Lib.hid hs4
  have HB4 := Lib.hid (HB3.out.trans (hb4.mono HB3.out.size))
  replace HX := Lib.hid (HX.out.on hb4)
  replace HY := Lib.hid (HY.out.on hb4)
  clear hb4
  refine hK.out _ _ ?_ (fun hHeld => ?_)
  · exact ⟨HX.out.c0, HX.out.c1, HX.out.c2, HY.out.c0, HY.out.c1, HY.out.c2⟩
  clear hK K hs4
  refine wpAnyH_ready (rs := [3]) (by kernel_rfl) (by simp) ?_
  refine AllReadyH.cons rfl (fun K hK => ?_) AllReadyH.nil
  go_simp
  refine (places_any A4 7 7 wordsL ⟨some ⟨ax, 0, none⟩, 1, 1, some ⟨bx, 0, none⟩, 1, 1, none, 0, 0⟩ ⟨some ⟨ay, 0, none⟩, 2, 2, some ⟨by_, 0, none⟩, 1, 1, none, 0, 0⟩ awc awd w4 HS4.out len7 (Nat.le_refl _) HX.out.cl HY.out.cl (HT.out.below HTB.out HB4.out) (Nat.lt_of_lt_of_le HTB.out HB4.out.size)).mono ?_
  intro e w5 hpl
  obtain ⟨A5, c5, rfl, hi5, hb5⟩ := aw_pl hpl
  have HI5 := Lib.hid hi5
  clear hpl hi5 HS4
  have HB5 := Lib.hid (HB4.out.trans (hb5.mono HB4.out.size))
  replace HX := Lib.hid (HX.out.on hb5)
  replace HY := Lib.hid (HY.out.on hb5)
  clear hb5
  refine hK.out _ _ ?_ (fun hHeld => ?_)
  · exact ⟨HX.out.c0, HX.out.c1, HX.out.c2, HY.out.c0, HY.out.c1, HY.out.c2⟩
  clear hK K
  refine takeH (i := 4) (v := ?_) rfl rfl (by kernel_rfl) (by kernel_rfl) (by kernel_rfl) (fun _ _ _ h => h) (by rfl) ?_ hHeld ?_
  rotate_left
  · (intro w hSw; (try dsimp only at hSw); first | (go_simp; done) | (go_simp; with_reducible rfl))
  simp only [Act.put, List.setIfInBounds_toArray, List.set_cons_zero, List.set_cons_succ]
  refine takeH (i := 5) (v := ?_) rfl rfl (by kernel_rfl) (by kernel_rfl) (by kernel_rfl) (fun _ _ _ h => h) (by rfl) ?_ hHeld ?_
  rotate_left
  · (intro w hSw; (try dsimp only at hSw); first | (go_simp; done) | (go_simp; with_reducible rfl))
  simp only [Act.put, List.setIfInBounds_toArray, List.set_cons_zero, List.set_cons_succ]
  refine takeH (i := 6) (v := ?_) rfl rfl (by kernel_rfl) (by kernel_rfl) (by kernel_rfl) (fun _ _ _ h => h) (by rfl) ?_ hHeld ?_
  rotate_left
  · (intro w hSw; (try dsimp only at hSw); first | (go_simp; done) | (go_simp; with_reducible rfl))
  simp only [Act.put, List.setIfInBounds_toArray, List.set_cons_zero, List.set_cons_succ]
  refine takeH (i := 7) (v := ?_) rfl rfl (by kernel_rfl) (by kernel_rfl) (by kernel_rfl) (fun _ _ _ h => h) (by rfl) ?_ hHeld ?_
  rotate_left
  · (intro w hSw; (try dsimp only at hSw); first | (go_simp; done) | (go_simp; with_reducible rfl))
  simp only [Act.put, List.setIfInBounds_toArray, List.set_cons_zero, List.set_cons_succ]
  refine takeH (i := 8) (v := ?_) rfl rfl (by kernel_rfl) (by kernel_rfl) (by kernel_rfl) (fun _ _ _ h => h) (by rfl) ?_ hHeld ?_
  rotate_left
  · (intro w hSw; (try dsimp only at hSw); first | (go_simp; done) | (go_simp; with_reducible rfl))
  simp only [Act.put, List.setIfInBounds_toArray, List.set_cons_zero, List.set_cons_succ]
  refine takeH (i := 9) (v := ?_) rfl rfl (by kernel_rfl) (by kernel_rfl) (by kernel_rfl) (fun _ _ _ h => h) (by rfl) ?_ hHeld ?_
  rotate_left
  · (intro w hSw; (try dsimp only at hSw); first | (go_simp; done) | (go_simp; with_reducible rfl))
  simp only [Act.put, List.setIfInBounds_toArray, List.set_cons_zero, List.set_cons_succ]
  refine takeH (i := 10) (v := ?_) rfl rfl (by kernel_rfl) (by kernel_rfl) (by kernel_rfl) (fun _ _ _ h => h) (by rfl) ?_ hHeld ?_
  rotate_left
  · (intro w hSw; (try dsimp only at hSw); first | (go_simp; done) | (go_simp; with_reducible rfl))
  simp only [Act.put, List.setIfInBounds_toArray, List.set_cons_zero, List.set_cons_succ]
  refine wpAnyH_done (by kernel_rfl) ?_ _
  go_wp2_with fail
  have x0 := HX.out.c0
  have x1 := HX.out.c1
  have x2 := HX.out.c2
  have y0 := HY.out.c0
  have y1 := HY.out.c1
  have y2 := HY.out.c2
  refine wp_region_held_drew (S := (fun w' => w'.cell? ⟨gx, 0, none⟩ = some (.slice (some ⟨ax, 0, none⟩) 1 1) ∧ w'.cell? ⟨gx, 1, none⟩ = some (.slice (some ⟨bx, 0, none⟩) 1 1) ∧ w'.cell? ⟨gx, 2, none⟩ = some (.slice none 0 0) ∧ w'.cell? ⟨gy, 0, none⟩ = some (.slice (some ⟨ay, 0, none⟩) 2 2) ∧ w'.cell? ⟨gy, 1, none⟩ = some (.slice (some ⟨by_, 0, none⟩) 1 1) ∧ w'.cell? ⟨gy, 2, none⟩ = some (.slice none 0 0))) (by kernel_rfl) ⟨x0, x1, x2, y0, y1, y2⟩ (fun hHeld => ?_)
  have hb6 : Below w5.heap.size w5 w5.drew := (Below.refl w5.heap.size w5).drew
  obtain ⟨w6, hw6⟩ : ∃ v, v = w5.drew := ⟨_, rfl⟩
  rw [← hw6] at hb6 hHeld ⊢
  clear hw6 x0 x1 x2 y0 y1 y2
  have HB6 := Lib.hid (HB5.out.trans (hb6.mono HB5.out.size))
  replace HX := Lib.hid (HX.out.on hb6)
  replace HY := Lib.hid (HY.out.on hb6)
  replace HI5 := Lib.hid (HI5.out.on hb6)
  clear hb6
  refine takeH (i := 1) (v := ?_) rfl rfl (by kernel_rfl) (by kernel_rfl) (by kernel_rfl) (fun _ _ _ h => h) (by rfl) ?_ hHeld ?_
  rotate_left
  · (intro w hSw; (try dsimp only at hSw); first | (go_simp; done) | (go_simp; with_reducible rfl))
  simp only [Act.put, List.setIfInBounds_toArray, List.set_cons_zero, List.set_cons_succ]
  refine takeH (i := 2) (v := ?_) rfl rfl (by kernel_rfl) (by kernel_rfl) (by kernel_rfl) (fun _ _ _ h => h) (by rfl) ?_ hHeld ?_
  rotate_left
  · (intro w hSw; (try dsimp only at hSw); first | (go_simp; done) | (go_simp; with_reducible rfl))
  simp only [Act.put, List.setIfInBounds_toArray, List.set_cons_zero, List.set_cons_succ]
  refine wpAnyH_ready (rs := [0]) (by kernel_rfl) (by simp) ?_
  refine AllReadyH.cons rfl (fun K hK => ?_) AllReadyH.nil
  go_simp
  refine (words_any _).mono ?_
  rintro e w7 ⟨A7, rfl, hs7, hb7⟩
  have HS7 := Lib.hid hs7
  have HB7 := Lib.hid (HB6.out.trans (hb7.mono HB6.out.size))
  replace HX := Lib.hid (HX.out.on hb7)
  replace HY := Lib.hid (HY.out.on hb7)
  replace HI5 := Lib.hid (HI5.out.on hb7)
  clear hb7
  refine hK.out _ _ ?_ (fun hHeld => ?_)
  · exact ⟨HX.out.c0, HX.out.c1, HX.out.c2, HY.out.c0, HY.out.c1, HY.out.c2⟩
  clear hK K hs7
  refine wpAnyH_ready (rs := [3]) (by kernel_rfl) (by simp) ?_
  refine AllReadyH.cons rfl (fun K hK => ?_) AllReadyH.nil
  go_simp
  refine (does_any A7 7 7 wordsL ⟨some ⟨ay, 0, none⟩, 2, 2, some ⟨by_, 0, none⟩, 1, 1, none, 0, 0⟩ ⟨some ⟨ax, 0, none⟩, 1, 1, some ⟨bx, 0, none⟩, 1, 1, none, 0, 0⟩ awd awc w7 HS7.out len7 (Nat.le_refl _) HY.out.cl HX.out.cl (HT.out.below HTB.out HB7.out) (Nat.lt_of_lt_of_le HTB.out HB7.out.size)).mono ?_
  intro e w8 hpl
  obtain ⟨rfl, hb8⟩ := aw_do hpl
  clear hpl HS7
  have HB8 := Lib.hid (HB7.out.trans (hb8.mono HB7.out.size))
  replace HX := Lib.hid (HX.out.on hb8)
  replace HY := Lib.hid (HY.out.on hb8)
  replace HI5 := Lib.hid (HI5.out.on hb8)
  clear hb8
  refine hK.out _ _ ?_ (fun hHeld => ?_)
  · exact ⟨HX.out.c0, HX.out.c1, HX.out.c2, HY.out.c0, HY.out.c1, HY.out.c2⟩
  clear hK K
  refine takeH (i := 4) (v := ?_) rfl rfl (by kernel_rfl) (by kernel_rfl) (by kernel_rfl) (fun _ _ _ h => h) (by rfl) ?_ hHeld ?_
  rotate_left
  · (intro w hSw; (try dsimp only at hSw); first | (go_simp; done) | (go_simp; with_reducible rfl))
  simp only [Act.put, List.setIfInBounds_toArray, List.set_cons_zero, List.set_cons_succ]
  refine takeH (i := 5) (v := ?_) rfl rfl (by kernel_rfl) (by kernel_rfl) (by kernel_rfl) (fun _ _ _ h => h) (by rfl) ?_ hHeld ?_
  rotate_left
  · (intro w hSw; (try dsimp only at hSw); first | (go_simp; done) | (go_simp; with_reducible rfl))
  simp only [Act.put, List.setIfInBounds_toArray, List.set_cons_zero, List.set_cons_succ]
  refine takeH (i := 6) (v := ?_) rfl rfl (by kernel_rfl) (by kernel_rfl) (by kernel_rfl) (fun _ _ _ h => h) (by rfl) ?_ hHeld ?_
  rotate_left
  · (intro w hSw; (try dsimp only at hSw); first | (go_simp; done) | (go_simp; with_reducible rfl))
  simp only [Act.put, List.setIfInBounds_toArray, List.set_cons_zero, List.set_cons_succ]
  refine takeH (i := 7) (v := ?_) rfl rfl (by kernel_rfl) (by kernel_rfl) (by kernel_rfl) (fun _ _ _ h => h) (by rfl) ?_ hHeld ?_
  rotate_left
  · (intro w hSw; (try dsimp only at hSw); first | (go_simp; done) | (go_simp; with_reducible rfl))
  simp only [Act.put, List.setIfInBounds_toArray, List.set_cons_zero, List.set_cons_succ]
  refine takeH (i := 8) (v := ?_) rfl rfl (by kernel_rfl) (by kernel_rfl) (by kernel_rfl) (fun _ _ _ h => h) (by rfl) ?_ hHeld ?_
  rotate_left
  · (intro w hSw; (try dsimp only at hSw); first | (go_simp; done) | (go_simp; with_reducible rfl))
  simp only [Act.put, List.setIfInBounds_toArray, List.set_cons_zero, List.set_cons_succ]
  refine wpAnyH_done (by kernel_rfl) ?_ _
  go_wp2_with fail
  have x0 := HX.out.c0
  have x1 := HX.out.c1
  have x2 := HX.out.c2
  have y0 := HY.out.c0
  have y1 := HY.out.c1
  have y2 := HY.out.c2
  refine wp_region_held_drew (S := (fun w' => w'.cell? ⟨gx, 0, none⟩ = some (.slice (some ⟨ax, 0, none⟩) 1 1) ∧ w'.cell? ⟨gx, 1, none⟩ = some (.slice (some ⟨bx, 0, none⟩) 1 1) ∧ w'.cell? ⟨gx, 2, none⟩ = some (.slice none 0 0) ∧ w'.cell? ⟨gy, 0, none⟩ = some (.slice (some ⟨ay, 0, none⟩) 2 2) ∧ w'.cell? ⟨gy, 1, none⟩ = some (.slice (some ⟨by_, 0, none⟩) 1 1) ∧ w'.cell? ⟨gy, 2, none⟩ = some (.slice none 0 0))) (by kernel_rfl) ⟨x0, x1, x2, y0, y1, y2⟩ (fun hHeld => ?_)
  have hb9 : Below w8.heap.size w8 w8.drew := (Below.refl w8.heap.size w8).drew
  obtain ⟨w9, hw9⟩ : ∃ v, v = w8.drew := ⟨_, rfl⟩
  rw [← hw9] at hb9 hHeld ⊢
  clear hw9 x0 x1 x2 y0 y1 y2
  have HB9 := Lib.hid (HB8.out.trans (hb9.mono HB8.out.size))
  replace HX := Lib.hid (HX.out.on hb9)
  replace HY := Lib.hid (HY.out.on hb9)
  replace HI5 := Lib.hid (HI5.out.on hb9)
  clear hb9
  refine takeH (i := 4) (v := ?_) rfl rfl (by kernel_rfl) (by kernel_rfl) (by kernel_rfl) (fun _ _ _ h => h) (by rfl) ?_ hHeld ?_
  rotate_left
  · (intro w hSw; (try dsimp only at hSw); first | (go_simp; done) | (go_simp; with_reducible rfl))
  simp only [Act.put, List.setIfInBounds_toArray, List.set_cons_zero, List.set_cons_succ]
  refine wpAnyH_ready (rs := [0, 1]) (by kernel_rfl) (by simp) ?_
  refine AllReadyH.cons rfl (fun K hK => ?_) (AllReadyH.cons rfl (fun K hK => ?_) AllReadyH.nil)
  · skip
    go_simp
    refine (words_any _).mono ?_
    rintro e w10 ⟨A10, rfl, hs10, hb10⟩
    have HS10 := Lib.hid hs10
    have HB10 := Lib.hid (HB9.out.trans (hb10.mono HB9.out.size))
    replace HX := Lib.hid (HX.out.on hb10)
    replace HY := Lib.hid (HY.out.on hb10)
    replace HI5 := Lib.hid (HI5.out.on hb10)
    clear hb10
    refine hK.out _ _ ?_ (fun hHeld => ?_)
    · exact ⟨HX.out.c0, HX.out.c1, HX.out.c2, HY.out.c0, HY.out.c1, HY.out.c2⟩
    clear hK K hs10
    refine wpAnyH_ready (rs := [1]) (by kernel_rfl) (by simp) ?_
    refine AllReadyH.cons rfl (fun K hK => ?_) AllReadyH.nil
    go_simp
    obtain ⟨w11, hw11⟩ : ∃ u, u = w10.alloc (.cells #[.int .i64 5] 3) := ⟨_, rfl⟩
    rw [← hw11]
    have hb11 : Below w10.heap.size w10 w11 := by rw [hw11]; exact below_new _ _
    have HR : Hid (RowIn w11 w11.heap.size (some ⟨w10.heap.size, 0, none⟩) 1 1 [5]) := by rw [hw11]; exact RowIn.lit' w10 [5] (by decide)
    clear hw11
    have HB11 := Lib.hid (HB10.out.trans (hb11.mono HB10.out.size))
    replace HX := Lib.hid (HX.out.on hb11)
    replace HY := Lib.hid (HY.out.on hb11)
    replace HI5 := Lib.hid (HI5.out.on hb11)
    replace HS10 := Lib.hid (HS10.out.on hb11)
    clear hb11
    refine hK.out _ _ ?_ (fun hHeld => ?_)
    · exact ⟨HX.out.c0, HX.out.c1, HX.out.c2, HY.out.c0, HY.out.c1, HY.out.c2⟩
    clear hK K
    refine wpAnyH_ready (rs := [2]) (by kernel_rfl) (by simp) ?_
    refine AllReadyH.cons rfl (fun K hK => ?_) AllReadyH.nil
    go_simp
    obtain ⟨w12, hw12⟩ : ∃ u, u = w11.alloc (.cells #[.slice (some ⟨w10.heap.size, 0, none⟩) 1 1] 28) := ⟨_, rfl⟩
    rw [← hw12]
    have hb12 : Below w11.heap.size w11 w12 := by rw [hw12]; exact below_new _ _
    have HTU : Hid (TupsAt w12 w12.heap.size (some ⟨w11.heap.size, 0, none⟩) 1 [[5]]) := by rw [hw12]; exact TupsAt.of1 HR.out (fun q => by cases q)
    clear hw12
    have HB12 := Lib.hid (HB11.out.trans (hb12.mono HB11.out.size))
    replace HX := Lib.hid (HX.out.on hb12)
    replace HY := Lib.hid (HY.out.on hb12)
    replace HI5 := Lib.hid (HI5.out.on hb12)
    replace HS10 := Lib.hid (HS10.out.on hb12)
    clear hb12
    refine hK.out _ _ ?_ (fun hHeld => ?_)
    · exact ⟨HX.out.c0, HX.out.c1, HX.out.c2, HY.out.c0, HY.out.c1, HY.out.c2⟩
    clear hK K
    refine takeH (i := 3) (v := ?_) rfl rfl (by kernel_rfl) (by kernel_rfl) (by kernel_rfl) (fun _ _ _ h => h) (by rfl) ?_ hHeld ?_
    rotate_left
    · (intro w hSw; (try dsimp only at hSw); first | (go_simp; done) | (go_simp; with_reducible rfl))
    simp only [Act.put, List.setIfInBounds_toArray, List.set_cons_zero, List.set_cons_succ]
    refine wpAnyH_ready (rs := [5]) (by kernel_rfl) (by simp) ?_
    refine AllReadyH.cons rfl (fun K hK => ?_) AllReadyH.nil
    go_simp
    refine (does_any A10 7 7 wordsL ⟨none, 0, 0, some ⟨w11.heap.size, 0, none⟩, 1, 1, none, 0, 0⟩ ⟨some ⟨ax, 0, none⟩, 1, 1, some ⟨bx, 0, none⟩, 1, 1, none, 0, 0⟩ awe awc w12 HS10.out len7 (Nat.le_refl _) (ClAt.ofTwo LitsAt.nil_ HTU.out (by decide) (by decide) (by simp)) HX.out.cl (HT.out.below HTB.out HB12.out) (Nat.lt_of_lt_of_le HTB.out HB12.out.size)).mono ?_
    intro e w13 hpl
    obtain ⟨xx, rfl, hb13⟩ := aw_do2 hpl
    clear hpl HS10
    have HB13 := Lib.hid (HB12.out.trans (hb13.mono HB12.out.size))
    replace HX := Lib.hid (HX.out.on hb13)
    replace HY := Lib.hid (HY.out.on hb13)
    replace HI5 := Lib.hid (HI5.out.on hb13)
    clear hb13
    refine hK.out _ _ ?_ (fun hHeld => ?_)
    · exact ⟨HX.out.c0, HX.out.c1, HX.out.c2, HY.out.c0, HY.out.c1, HY.out.c2⟩
    clear hK K
    refine takeH (i := 6) (v := ?_) rfl rfl (by kernel_rfl) (by kernel_rfl) (by kernel_rfl) (fun _ _ _ h => h) (by rfl) ?_ hHeld ?_
    rotate_left
    · (intro w hSw; (try dsimp only at hSw); first | (go_simp; done) | (go_simp; with_reducible rfl))
    simp only [Act.put, List.setIfInBounds_toArray, List.set_cons_zero, List.set_cons_succ]
    refine takeH (i := 7) (v := ?_) rfl rfl (by kernel_rfl) (by kernel_rfl) (by kernel_rfl) (fun _ _ _ h => h) (by rfl) ?_ hHeld ?_
    rotate_left
    · (intro w hSw; (try dsimp only at hSw); first | (go_simp; done) | (go_simp; with_reducible rfl))
    simp only [Act.put, List.setIfInBounds_toArray, List.set_cons_zero, List.set_cons_succ]
    refine takeH (i := 8) (v := ?_) rfl rfl (by kernel_rfl) (by kernel_rfl) (by kernel_rfl) (fun _ _ _ h => h) (by rfl) ?_ hHeld ?_
    rotate_left
    · (intro w hSw; (try dsimp only at hSw); first | (go_simp; done) | (go_simp; with_reducible rfl))
    simp only [Act.put, List.setIfInBounds_toArray, List.set_cons_zero, List.set_cons_succ]
    refine takeH (i := 9) (v := ?_) rfl rfl (by kernel_rfl) (by kernel_rfl) (by kernel_rfl) (fun _ _ _ h => h) (by rfl) ?_ hHeld ?_
    rotate_left
    · (intro w hSw; (try dsimp only at hSw); first | (go_simp; done) | (go_simp; with_reducible rfl))
    simp only [Act.put, List.setIfInBounds_toArray, List.set_cons_zero, List.set_cons_succ]
    refine takeH (i := 10) (v := ?_) rfl rfl (by kernel_rfl) (by kernel_rfl) (by kernel_rfl) (fun _ _ _ h => h) (by rfl) ?_ hHeld ?_
    rotate_left
    · (intro w hSw; (try dsimp only at hSw); first | (go_simp; done) | (go_simp; with_reducible rfl))
    simp only [Act.put, List.setIfInBounds_toArray, List.set_cons_zero, List.set_cons_succ]
    refine wpAnyH_done (by kernel_rfl) ?_ _
    go_wp2_with (go_at_call 14; refine (num_any _ _).mono ?_; rintro e w' ⟨rfl, rfl⟩)
    have hb14 := below_new w13 (.cells #[.int .i64 1, .int .i64 0] 3)
    have HB14 := Lib.hid (HB13.out.trans (hb14.mono HB13.out.size))
    have HI14 := Lib.hid (HI5.out.on hb14)
    clear hb14
    refine (sameInts_any _ _ 2 c5 2 2 _ _ [1, 0] [1, 0] _ HI14.out (IntsAt.news w13 [1, 0]) (len_small (by decide)) (len_small (by decide))).mono ?_
    rintro e w15 ⟨rfl, hb15⟩
    rw [sameI_self]
    have HB15 := Lib.hid (HB14.out.trans (hb15.mono HB14.out.size))
    clear hb15
    go_wp2_with (go_at_call 14; refine (num_any _ _).mono ?_; rintro e w' ⟨rfl, rfl⟩)
    go_ret
    exact ⟨rfl, HB15.out⟩
  · skip
    go_simp
    obtain ⟨w10, hw10⟩ : ∃ u, u = w9.alloc (.cells #[.int .i64 5] 3) := ⟨_, rfl⟩
    rw [← hw10]
    have hb10 : Below w9.heap.size w9 w10 := by rw [hw10]; exact below_new _ _
    have HR : Hid (RowIn w10 w10.heap.size (some ⟨w9.heap.size, 0, none⟩) 1 1 [5]) := by rw [hw10]; exact RowIn.lit' w9 [5] (by decide)
    clear hw10
    have HB10 := Lib.hid (HB9.out.trans (hb10.mono HB9.out.size))
    replace HX := Lib.hid (HX.out.on hb10)
    replace HY := Lib.hid (HY.out.on hb10)
    replace HI5 := Lib.hid (HI5.out.on hb10)
    clear hb10
    refine hK.out _ _ ?_ (fun hHeld => ?_)
    · exact ⟨HX.out.c0, HX.out.c1, HX.out.c2, HY.out.c0, HY.out.c1, HY.out.c2⟩
    clear hK K
    refine wpAnyH_ready (rs := [0, 2]) (by kernel_rfl) (by simp) ?_
    refine AllReadyH.cons rfl (fun K hK => ?_) (AllReadyH.cons rfl (fun K hK => ?_) AllReadyH.nil)
    · skip
      go_simp
      refine (words_any _).mono ?_
      rintro e w11 ⟨A10, rfl, hs10, hb11⟩
      have HS10 := Lib.hid hs10
      have HB11 := Lib.hid (HB10.out.trans (hb11.mono HB10.out.size))
      replace HX := Lib.hid (HX.out.on hb11)
      replace HY := Lib.hid (HY.out.on hb11)
      replace HI5 := Lib.hid (HI5.out.on hb11)
      replace HR := Lib.hid (HR.out.on hb11)
      clear hb11
      refine hK.out _ _ ?_ (fun hHeld => ?_)
      · exact ⟨HX.out.c0, HX.out.c1, HX.out.c2, HY.out.c0, HY.out.c1, HY.out.c2⟩
      clear hK K hs10
      refine wpAnyH_ready (rs := [2]) (by kernel_rfl) (by simp) ?_
      refine AllReadyH.cons rfl (fun K hK => ?_) AllReadyH.nil
      go_simp
      obtain ⟨w12, hw12⟩ : ∃ u, u = w11.alloc (.cells #[.slice (some ⟨w9.heap.size, 0, none⟩) 1 1] 28) := ⟨_, rfl⟩
      rw [← hw12]
      have hb12 : Below w11.heap.size w11 w12 := by rw [hw12]; exact below_new _ _
      have HTU : Hid (TupsAt w12 w12.heap.size (some ⟨w11.heap.size, 0, none⟩) 1 [[5]]) := by rw [hw12]; exact TupsAt.of1 HR.out (fun q => by cases q)
      clear hw12
      have HB12 := Lib.hid (HB11.out.trans (hb12.mono HB11.out.size))
      replace HX := Lib.hid (HX.out.on hb12)
      replace HY := Lib.hid (HY.out.on hb12)
      replace HI5 := Lib.hid (HI5.out.on hb12)
      replace HS10 := Lib.hid (HS10.out.on hb12)
      clear hb12
      refine hK.out _ _ ?_ (fun hHeld => ?_)
      · exact ⟨HX.out.c0, HX.out.c1, HX.out.c2, HY.out.c0, HY.out.c1, HY.out.c2⟩
      clear hK K
      refine takeH (i := 3) (v := ?_) rfl rfl (by kernel_rfl) (by kernel_rfl) (by kernel_rfl) (fun _ _ _ h => h) (by rfl) ?_ hHeld ?_
      rotate_left
      · (intro w hSw; (try dsimp only at hSw); first | (go_simp; done) | (go_simp; with_reducible rfl))
      simp only [Act.put, List.setIfInBounds_toArray, List.set_cons_zero, List.set_cons_succ]
      refine wpAnyH_ready (rs := [5]) (by kernel_rfl) (by simp) ?_
      refine AllReadyH.cons rfl (fun K hK => ?_) AllReadyH.nil
      go_simp
      refine (does_any A10 7 7 wordsL ⟨none, 0, 0, some ⟨w11.heap.size, 0, none⟩, 1, 1, none, 0, 0⟩ ⟨some ⟨ax, 0, none⟩, 1, 1, some ⟨bx, 0, none⟩, 1, 1, none, 0, 0⟩ awe awc w12 HS10.out len7 (Nat.le_refl _) (ClAt.ofTwo LitsAt.nil_ HTU.out (by decide) (by decide) (by simp)) HX.out.cl (HT.out.below HTB.out HB12.out) (Nat.lt_of_lt_of_le HTB.out HB12.out.size)).mono ?_
      intro e w13 hpl
      obtain ⟨xx, rfl, hb13⟩ := aw_do2 hpl
      clear hpl HS10
      have HB13 := Lib.hid (HB12.out.trans (hb13.mono HB12.out.size))
      replace HX := Lib.hid (HX.out.on hb13)
      replace HY := Lib.hid (HY.out.on hb13)
      replace HI5 := Lib.hid (HI5.out.on hb13)
      clear hb13
      refine hK.out _ _ ?_ (fun hHeld => ?_)
      · exact ⟨HX.out.c0, HX.out.c1, HX.out.c2, HY.out.c0, HY.out.c1, HY.out.c2⟩
      clear hK K
      refine takeH (i := 6) (v := ?_) rfl rfl (by kernel_rfl) (by kernel_rfl) (by kernel_rfl) (fun _ _ _ h => h) (by rfl) ?_ hHeld ?_
      rotate_left
      · (intro w hSw; (try dsimp only at hSw); first | (go_simp; done) | (go_simp; with_reducible rfl))
      simp only [Act.put, List.setIfInBounds_toArray, List.set_cons_zero, List.set_cons_succ]
      refine takeH (i := 7) (v := ?_) rfl rfl (by kernel_rfl) (by kernel_rfl) (by kernel_rfl) (fun _ _ _ h => h) (by rfl) ?_ hHeld ?_
      rotate_left
      · (intro w hSw; (try dsimp only at hSw); first | (go_simp; done) | (go_simp; with_reducible rfl))
      simp only [Act.put, List.setIfInBounds_toArray, List.set_cons_zero, List.set_cons_succ]
      refine takeH (i := 8) (v := ?_) rfl rfl (by kernel_rfl) (by kernel_rfl) (by kernel_rfl) (fun _ _ _ h => h) (by rfl) ?_ hHeld ?_
      rotate_left
      · (intro w hSw; (try dsimp only at hSw); first | (go_simp; done) | (go_simp; with_reducible rfl))
      simp only [Act.put, List.setIfInBounds_toArray, List.set_cons_zero, List.set_cons_succ]
      refine takeH (i := 9) (v := ?_) rfl rfl (by kernel_rfl) (by kernel_rfl) (by kernel_rfl) (fun _ _ _ h => h) (by rfl) ?_ hHeld ?_
      rotate_left
      · (intro w hSw; (try dsimp only at hSw); first | (go_simp; done) | (go_simp; with_reducible rfl))
      simp only [Act.put, List.setIfInBounds_toArray, List.set_cons_zero, List.set_cons_succ]
      refine takeH (i := 10) (v := ?_) rfl rfl (by kernel_rfl) (by kernel_rfl) (by kernel_rfl) (fun _ _ _ h => h) (by rfl) ?_ hHeld ?_
      rotate_left
      · (intro w hSw; (try dsimp only at hSw); first | (go_simp; done) | (go_simp; with_reducible rfl))
      simp only [Act.put, List.setIfInBounds_toArray, List.set_cons_zero, List.set_cons_succ]
      refine wpAnyH_done (by kernel_rfl) ?_ _
      go_wp2_with (go_at_call 14; refine (num_any _ _).mono ?_; rintro e w' ⟨rfl, rfl⟩)
      have hb14 := below_new w13 (.cells #[.int .i64 1, .int .i64 0] 3)
      have HB14 := Lib.hid (HB13.out.trans (hb14.mono HB13.out.size))
      have HI14 := Lib.hid (HI5.out.on hb14)
      clear hb14
      refine (sameInts_any _ _ 2 c5 2 2 _ _ [1, 0] [1, 0] _ HI14.out (IntsAt.news w13 [1, 0]) (len_small (by decide)) (len_small (by decide))).mono ?_
      rintro e w15 ⟨rfl, hb15⟩
      rw [sameI_self]
      have HB15 := Lib.hid (HB14.out.trans (hb15.mono HB14.out.size))
      clear hb15
      go_wp2_with (go_at_call 14; refine (num_any _ _).mono ?_; rintro e w' ⟨rfl, rfl⟩)
      go_ret
      exact ⟨rfl, HB15.out⟩
    · skip
      go_simp
      obtain ⟨w11, hw11⟩ : ∃ u, u = w10.alloc (.cells #[.slice (some ⟨w9.heap.size, 0, none⟩) 1 1] 28) := ⟨_, rfl⟩
      rw [← hw11]
      have hb11 : Below w10.heap.size w10 w11 := by rw [hw11]; exact below_new _ _
      have HTU : Hid (TupsAt w11 w11.heap.size (some ⟨w10.heap.size, 0, none⟩) 1 [[5]]) := by rw [hw11]; exact TupsAt.of1 HR.out (fun q => by cases q)
      clear hw11
      have HB11 := Lib.hid (HB10.out.trans (hb11.mono HB10.out.size))
      replace HX := Lib.hid (HX.out.on hb11)
      replace HY := Lib.hid (HY.out.on hb11)
      replace HI5 := Lib.hid (HI5.out.on hb11)
      clear hb11
      refine hK.out _ _ ?_ (fun hHeld => ?_)
      · exact ⟨HX.out.c0, HX.out.c1, HX.out.c2, HY.out.c0, HY.out.c1, HY.out.c2⟩
      clear hK K
      refine takeH (i := 3) (v := ?_) rfl rfl (by kernel_rfl) (by kernel_rfl) (by kernel_rfl) (fun _ _ _ h => h) (by rfl) ?_ hHeld ?_
      rotate_left
      · (intro w hSw; (try dsimp only at hSw); first | (go_simp; done) | (go_simp; with_reducible rfl))
      simp only [Act.put, List.setIfInBounds_toArray, List.set_cons_zero, List.set_cons_succ]
      refine wpAnyH_ready (rs := [0]) (by kernel_rfl) (by simp) ?_
      refine AllReadyH.cons rfl (fun K hK => ?_) AllReadyH.nil
      go_simp
      refine (words_any _).mono ?_
      rintro e w12 ⟨A10, rfl, hs10, hb12⟩
      have HS10 := Lib.hid hs10
      have HB12 := Lib.hid (HB11.out.trans (hb12.mono HB11.out.size))
      replace HX := Lib.hid (HX.out.on hb12)
      replace HY := Lib.hid (HY.out.on hb12)
      replace HI5 := Lib.hid (HI5.out.on hb12)
      replace HTU := Lib.hid (HTU.out.on hb12)
      clear hb12
      refine hK.out _ _ ?_ (fun hHeld => ?_)
      · exact ⟨HX.out.c0, HX.out.c1, HX.out.c2, HY.out.c0, HY.out.c1, HY.out.c2⟩
      clear hK K hs10
      refine wpAnyH_ready (rs := [5]) (by kernel_rfl) (by simp) ?_
      refine AllReadyH.cons rfl (fun K hK => ?_) AllReadyH.nil
      go_simp
      refine (does_any A10 7 7 wordsL ⟨none, 0, 0, some ⟨w10.heap.size, 0, none⟩, 1, 1, none, 0, 0⟩ ⟨some ⟨ax, 0, none⟩, 1, 1, some ⟨bx, 0, none⟩, 1, 1, none, 0, 0⟩ awe awc w12 HS10.out len7 (Nat.le_refl _) (ClAt.ofTwo LitsAt.nil_ HTU.out (by decide) (by decide) (by simp)) HX.out.cl (HT.out.below HTB.out HB12.out) (Nat.lt_of_lt_of_le HTB.out HB12.out.size)).mono ?_
      intro e w13 hpl
      obtain ⟨xx, rfl, hb13⟩ := aw_do2 hpl
      clear hpl HS10
      have HB13 := Lib.hid (HB12.out.trans (hb13.mono HB12.out.size))
      replace HX := Lib.hid (HX.out.on hb13)
      replace HY := Lib.hid (HY.out.on hb13)
      replace HI5 := Lib.hid (HI5.out.on hb13)
      clear hb13
      refine hK.out _ _ ?_ (fun hHeld => ?_)
      · exact ⟨HX.out.c0, HX.out.c1, HX.out.c2, HY.out.c0, HY.out.c1, HY.out.c2⟩
      clear hK K
      refine takeH (i := 6) (v := ?_) rfl rfl (by kernel_rfl) (by kernel_rfl) (by kernel_rfl) (fun _ _ _ h => h) (by rfl) ?_ hHeld ?_
      rotate_left
      · (intro w hSw; (try dsimp only at hSw); first | (go_simp; done) | (go_simp; with_reducible rfl))
      simp only [Act.put, List.setIfInBounds_toArray, List.set_cons_zero, List.set_cons_succ]
      refine takeH (i := 7) (v := ?_) rfl rfl (by kernel_rfl) (by kernel_rfl) (by kernel_rfl) (fun _ _ _ h => h) (by rfl) ?_ hHeld ?_
      rotate_left
      · (intro w hSw; (try dsimp only at hSw); first | (go_simp; done) | (go_simp; with_reducible rfl))
      simp only [Act.put, List.setIfInBounds_toArray, List.set_cons_zero, List.set_cons_succ]
      refine takeH (i := 8) (v := ?_) rfl rfl (by kernel_rfl) (by kernel_rfl) (by kernel_rfl) (fun _ _ _ h => h) (by rfl) ?_ hHeld ?_
      rotate_left
      · (intro w hSw; (try dsimp only at hSw); first | (go_simp; done) | (go_simp; with_reducible rfl))
      simp only [Act.put, List.setIfInBounds_toArray, List.set_cons_zero, List.set_cons_succ]
      refine takeH (i := 9) (v := ?_) rfl rfl (by kernel_rfl) (by kernel_rfl) (by kernel_rfl) (fun _ _ _ h => h) (by rfl) ?_ hHeld ?_
      rotate_left
      · (intro w hSw; (try dsimp only at hSw); first | (go_simp; done) | (go_simp; with_reducible rfl))
      simp only [Act.put, List.setIfInBounds_toArray, List.set_cons_zero, List.set_cons_succ]
      refine takeH (i := 10) (v := ?_) rfl rfl (by kernel_rfl) (by kernel_rfl) (by kernel_rfl) (fun _ _ _ h => h) (by rfl) ?_ hHeld ?_
      rotate_left
      · (intro w hSw; (try dsimp only at hSw); first | (go_simp; done) | (go_simp; with_reducible rfl))
      simp only [Act.put, List.setIfInBounds_toArray, List.set_cons_zero, List.set_cons_succ]
      refine wpAnyH_done (by kernel_rfl) ?_ _
      go_wp2_with (go_at_call 14; refine (num_any _ _).mono ?_; rintro e w' ⟨rfl, rfl⟩)
      have hb14 := below_new w13 (.cells #[.int .i64 1, .int .i64 0] 3)
      have HB14 := Lib.hid (HB13.out.trans (hb14.mono HB13.out.size))
      have HI14 := Lib.hid (HI5.out.on hb14)
      clear hb14
      refine (sameInts_any _ _ 2 c5 2 2 _ _ [1, 0] [1, 0] _ HI14.out (IntsAt.news w13 [1, 0]) (len_small (by decide)) (len_small (by decide))).mono ?_
      rintro e w15 ⟨rfl, hb15⟩
      rw [sameI_self]
      have HB15 := Lib.hid (HB14.out.trans (hb15.mono HB14.out.size))
      clear hb15
      go_wp2_with (go_at_call 14; refine (num_any _ _).mono ?_; rintro e w' ⟨rfl, rfl⟩)
      go_ret
      exact ⟨rfl, HB15.out⟩
end Go.Proofs.YtcjpopjcpgipjaaDoor
