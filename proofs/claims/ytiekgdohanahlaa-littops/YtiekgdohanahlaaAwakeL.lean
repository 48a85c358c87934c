/-
  A literal in a box; contract of quaerelaw7: awake.
-/
import Derived.Test.YtiekgdohanahlaaLitTopsAll
import Derived.Deep.DeepCutAuto
namespace Go.Proofs.Ytiekgdohanahlaa
open Go.RowKit Go.Deep
set_option linter.unusedSimpArgs false
set_option linter.unusedVariables false
set_option maxRecDepth 100000

/-- Block b holds a literal. -/
structure BoxAt (w : World) (b : Nat) (A : Option Addr) (m c : Nat) (p : Lt) : Prop where
  lt : b < w.heap.size
  c0 : w.cell? ⟨b, 0, none⟩ = some (.bool p.neg)
  c1 : w.cell? ⟨b, 1, none⟩ = some (.slice A m c)
  lit : LitAt w w.heap.size A m c p
section
variable {w w' : World} {b m c : Nat} {A : Option Addr} {p : Lt}
theorem BoxAt.on (h : BoxAt w b A m c p) (hb : Below w.heap.size w w') : BoxAt w' b A m c p :=
  ⟨by have := h.lt; have := hb.size; omega, by rw [hb.cell (p := ⟨b, 0, none⟩) h.lt]; exact h.c0, by rw [hb.cell (p := ⟨b, 1, none⟩) h.lt]; exact h.c1, h.lit.on hb⟩
theorem BoxAt.new (w : World) (x : Bool) (h : LitAt w w.heap.size A m c ⟨x, p.atom⟩) : BoxAt (w.alloc (.cells #[.bool x, .slice A m c] 25)) w.heap.size A m c ⟨x, p.atom⟩ :=
  ⟨by simp, by rw [World.cell?_alloc_new]; rfl, by rw [World.cell?_alloc_new]; rfl, h.new _⟩
end
/-- Three literals, written out in a row. -/
theorem LitsAt.new3 {w : World} {A1 A2 A3 : Option Addr} {n1 n2 n3 c1 c2 c3 : Nat} {p q r : Lt} (h1 : LitAt w w.heap.size A1 n1 c1 p) (h2 : LitAt w w.heap.size A2 n2 c2 q) (h3 : LitAt w w.heap.size A3 n3 c3 r) :
    LitsAt (w.alloc (.cells #[.bool p.neg, .slice A1 n1 c1, .bool q.neg, .slice A2 n2 c2, .bool r.neg, .slice A3 n3 c3] 25)) (w.alloc (.cells #[.bool p.neg, .slice A1 n1 c1, .bool q.neg, .slice A2 n2 c2, .bool r.neg, .slice A3 n3 c3] 25)).heap.size (some ⟨w.heap.size, 0, none⟩) 3 [p, q, r] := by
  obtain rfl := h1.at_.len
  obtain rfl := h2.at_.len
  obtain rfl := h3.at_.len
  refine ⟨rfl, fun _ => ⟨w.heap.size, 0, rfl, by simp, fun i h => ?_⟩, fun i h => ?_⟩
  · match i, h with
    | 0, _ => exact ⟨by rw [World.cell?_alloc_new]; rfl, A1, c1, by rw [World.cell?_alloc_new]; rfl, h1.cap, (h1.new _).at_⟩
    | 1, _ => exact ⟨by rw [World.cell?_alloc_new]; rfl, A2, c2, by rw [World.cell?_alloc_new]; rfl, h2.cap, (h2.new _).at_⟩
    | 2, _ => exact ⟨by rw [World.cell?_alloc_new]; rfl, A3, c3, by rw [World.cell?_alloc_new]; rfl, h3.cap, (h3.new _).at_⟩
  · match i, h with
    | 0, _ => exact h1.fit
    | 1, _ => exact h2.fit
    | 2, _ => exact h3.fit
/-- A literal written out. -/
theorem LitAt.lit (w : World) (x : Bool) (t : List Int) (hf : t.length ≤ 9) : LitAt (w.alloc (.cells (intCells t).toArray 3)) (w.alloc (.cells (intCells t).toArray 3)).heap.size (some ⟨w.heap.size, 0, none⟩) t.length t.length ⟨x, t⟩ :=
  ⟨IntsAt.news w t, Nat.le_refl _, by omega⟩

theorem box_lit (w : World) (x : Bool) (t : List Int) (B : Nat) (hB : w.heap.size = B) (hf : t.length ≤ 9) :
    BoxAt ((w.alloc (.cells (intCells t).toArray 3)).alloc (.cells #[.bool x, .slice (some ⟨B, 0, none⟩) t.length t.length] 25)) (B + 1) (some ⟨B, 0, none⟩) t.length t.length ⟨x, t⟩ ∧
    Below w.heap.size w ((w.alloc (.cells (intCells t).toArray 3)).alloc (.cells #[.bool x, .slice (some ⟨B, 0, none⟩) t.length t.length] 25)) ∧
    ((w.alloc (.cells (intCells t).toArray 3)).alloc (.cells #[.bool x, .slice (some ⟨B, 0, none⟩) t.length t.length] 25)).heap.size = B + 1 + 1 := by
  subst hB
  refine ⟨?_, below_new2 w _ _, by simp⟩
  have := BoxAt.new (p := ⟨x, t⟩) (w.alloc (.cells (intCells t).toArray 3)) x (LitAt.lit w x t hf)
  have e : (w.alloc (.cells (intCells t).toArray 3)).heap.size = w.heap.size + 1 := by simp
  rw [e] at this
  exact this
theorem three_boxes (w : World) : ∃ w1, w1 = ((((((w.alloc (.cells #[.int .i64 5, .int .i64 (-1)] 3)).alloc (.cells #[.bool false, .slice (some ⟨w.heap.size, 0, none⟩) 2 2] 25)).alloc (.cells #[.int .i64 5, .int .i64 (-1)] 3)).alloc (.cells #[.bool true, .slice (some ⟨w.heap.size + 1 + 1, 0, none⟩) 2 2] 25)).alloc (.cells #[.int .i64 5, .int .i64 3, .int .i64 (-1)] 3)).alloc (.cells #[.bool false, .slice (some ⟨w.heap.size + 1 + 1 + 1 + 1, 0, none⟩) 3 3] 25)) ∧
    Below w.heap.size w w1 ∧ BoxAt w1 (w.heap.size + 1) (some ⟨w.heap.size, 0, none⟩) 2 2 ⟨false, [5, -1]⟩ ∧ BoxAt w1 (w.heap.size + 1 + 1 + 1) (some ⟨w.heap.size + 1 + 1, 0, none⟩) 2 2 ⟨true, [5, -1]⟩ ∧ BoxAt w1 (w.heap.size + 1 + 1 + 1 + 1 + 1) (some ⟨w.heap.size + 1 + 1 + 1 + 1, 0, none⟩) 3 3 ⟨false, [5, 3, -1]⟩ := by
  obtain ⟨a1, a2, a3⟩ := box_lit w false [5, -1] _ rfl (by decide)
  obtain ⟨b1, b2, b3⟩ := box_lit _ true [5, -1] _ a3 (by decide)
  obtain ⟨d1, d2, d3⟩ := box_lit _ false [5, 3, -1] _ b3 (by decide)
  exact ⟨_, rfl, (a2.trans (b2.mono a2.size)).trans (d2.mono (a2.trans (b2.mono a2.size)).size), (a1.on b2).on d2, b1.on d2, d1⟩
theorem aw1 : litW wordsL ⟨false, [5, 3, -1]⟩ = 3 := by kernel_rfl
theorem aw3 : LitR wordsL ⟨true, [5, -1]⟩ ⟨false, [5, -1]⟩ 0 2 := .inr ⟨by kernel_rfl, rfl, .inr (.inl ⟨.inr ⟨rfl, rfl, rfl⟩, rfl⟩)⟩
theorem aw_r {x y : Bool} : LMor wordsL ⟨x, [5, 3, -1]⟩ ⟨y, [5, -1]⟩ := .inl (.heavy ((oftB_iff (fun c hc => of_decide_eq_true (List.all_eq_true.1 (by kernel_rfl : ([5, -1] : List Int).all (fun c => decide (-24 ≤ c)) = true) c hc))).1 (by kernel_rfl)) (by show (2 : Int) < 3; decide))
def awL : List Lt := [⟨false, [5, -1]⟩, ⟨true, [5, -1]⟩, ⟨false, [5, 3, -1]⟩]
theorem aw_ok : topsOk wordsL awL = true := by kernel_rfl
theorem aw_t0 : topB wordsL awL 0 = false := topB_no (k := 2) (by decide) aw_r
theorem aw_t1 : topB wordsL awL 1 = false := topB_no (k := 2) (by decide) aw_r
theorem aw_t2 : topB wordsL awL 2 = true := topB_iff.2 fun k hk => by
  match k, hk with
  | 0, _ => exact fun h => aw_r.asymm h
  | 1, _ => exact fun h => aw_r.asymm h
  | 2, _ => exact LMor.irrefl
theorem aw4 : topsR wordsL awL = [2] := by
  rw [topsR_yes aw_ok]
  show topsN wordsL awL 3 = [2]
  rw [topsN_succ, topsN_succ, topsN_succ, aw_t0, aw_t1, aw_t2]; rfl
theorem aw5 : topsE wordsL awL = 0 := topsE_yes aw_ok
theorem aw6 : litE wordsL ⟨false, [3, 1]⟩ = 700 := by kernel_rfl
theorem aw7 : litW wordsL ⟨false, [3, 1]⟩ = 0 := by kernel_rfl
theorem aw8 : litB wordsL ⟨false, [5, -1]⟩ = true := by kernel_rfl
theorem aw2 : litE wordsL ⟨false, [5, 3, -1]⟩ = 0 := by kernel_rfl

set_option maxHeartbeats 2000000 in
theorem awakeL_any (w : World) : Calls Try.prog 18 #[] w fun e w' => e = .returned (.bool true) ∧ Below w.heap.size w w' := by
  go_enter Try.func18, Try.ntmps18
  go_wp2_with fail
  obtain ⟨w1, hw1, hb1, hp1, hq1, hr1⟩ := three_boxes w
  rw [← hw1]
  have HB1 := Lib.hid hb1
  have HP := Lib.hid hp1
  have HQ := Lib.hid hq1
  have HR := Lib.hid hr1
  have r0 := hr1.c0
  have r1 := hr1.c1
  obtain ⟨Ap, hAp⟩ : ∃ Ap : Option Addr, Ap = some ⟨w.heap.size, 0, none⟩ := ⟨_, rfl⟩
  obtain ⟨Aq, hAq⟩ : ∃ Aq : Option Addr, Aq = some ⟨w.heap.size + 1 + 1, 0, none⟩ := ⟨_, rfl⟩
  obtain ⟨Ar, hAr⟩ : ∃ Ar : Option Addr, Ar = some ⟨w.heap.size + 1 + 1 + 1 + 1, 0, none⟩ := ⟨_, rfl⟩
  rw [← hAr] at HR r1 ⊢
  rw [← hAq] at HQ ⊢
  rw [← hAp] at HP ⊢
  obtain ⟨bp, hbp⟩ : ∃ bp, bp = w.heap.size + 1 := ⟨_, rfl⟩
  obtain ⟨bq, hbq⟩ : ∃ bq, bq = w.heap.size + 1 + 1 + 1 := ⟨_, rfl⟩
  obtain ⟨br, hbr⟩ : ∃ br, br = w.heap.size + 1 + 1 + 1 + 1 + 1 := ⟨_, rfl⟩
  rw [← hbr] at HR r0 r1 ⊢
  rw [← hbq] at HQ ⊢
  rw [← hbp] at HP ⊢
  clear hw1 hb1 hp1 hq1 hr1 hbr hbq hbp hAp hAq hAr
  refine wp_region_held_drew (S := (fun w' => w'.cell? ⟨br, 0, none⟩ = some (.bool false) ∧ w'.cell? ⟨br, 1, none⟩ = some (.slice Ar 3 3))) (by kernel_rfl) ⟨r0, r1⟩ (fun hHeld => ?_)
  refine takeH (i := 1) (v := ?_) rfl rfl (by kernel_rfl) (by kernel_rfl) (by kernel_rfl) (fun _ _ _ h => h) (by rfl) ?_ hHeld ?_
  rotate_left
  · (intro w hSw; (try dsimp only at hSw); first | (go_simp; done) | (go_simp; with_reducible rfl))
  simp only [Act.put, List.setIfInBounds_toArray, List.set_cons_zero, List.set_cons_succ]
  refine wpAnyH_ready (rs := [0]) (by kernel_rfl) (by simp) ?_
  refine AllReadyH.cons rfl (fun K hK => ?_) AllReadyH.nil
  go_simp
  refine (words_any _).mono ?_
  rintro e w2 ⟨A2, rfl, hs2, hb2⟩
  have hd : Below w1.heap.size w1 w2 := (Below.refl w1.heap.size w1).drew.trans hb2
  replace HP := Lib.hid (HP.out.on hd)
  replace HQ := Lib.hid (HQ.out.on hd)
  replace HR := Lib.hid (HR.out.on hd)
  have HB2 := Lib.hid (HB1.out.trans (hd.mono HB1.out.size))
  have HS := Lib.hid hs2
  clear hb2 hd hs2 r0 r1
  have r0 := HR.out.c0
  have r1 := HR.out.c1
  go_wp2_with fail
  refine hK.out _ _ ?_ (fun hHeld => ?_)
  · exact ⟨r0, r1⟩
  clear hK K
  refine wpAnyH_ready (rs := [2]) (by kernel_rfl) (by simp) ?_
  refine AllReadyH.cons rfl (fun K hK => ?_) AllReadyH.nil
  go_simp
  refine (litWeight_any A2 Ar 7 7 3 3 wordsL ⟨false, [5, 3, -1]⟩ w2 HS.out len7 (Nat.le_refl _) HR.out.lit).mono ?_
  rintro e w3 ⟨rfl, hb3⟩
  rw [aw1, aw2]
  replace HP := Lib.hid (HP.out.on hb3)
  replace HQ := Lib.hid (HQ.out.on hb3)
  replace HR := Lib.hid (HR.out.on hb3)
  have HB3 := Lib.hid (HB2.out.trans (hb3.mono HB2.out.size))
  clear hb3 HS r0 r1
  have r0 := HR.out.c0
  have r1 := HR.out.c1
  go_wp2_with fail
  refine hK.out _ _ ?_ (fun hHeld => ?_)
  · exact ⟨r0, r1⟩
  clear hK K
  refine takeH (i := 3) (v := ?_) rfl rfl (by kernel_rfl) (by kernel_rfl) (by kernel_rfl) (fun _ _ _ h => h) (by rfl) ?_ hHeld ?_
  rotate_left
  · (intro w hSw; (try dsimp only at hSw); first | (go_simp; done) | (go_simp; with_reducible rfl))
  simp only [Act.put, List.setIfInBounds_toArray, List.set_cons_zero, List.set_cons_succ]
  refine takeH (i := 4) (v := ?_) rfl rfl (by kernel_rfl) (by kernel_rfl) (by kernel_rfl) (fun _ _ _ h => h) (by rfl) ?_ hHeld ?_
  rotate_left
  · (intro w hSw; (try dsimp only at hSw); first | (go_simp; done) | (go_simp; with_reducible rfl))
  simp only [Act.put, List.setIfInBounds_toArray, List.set_cons_zero, List.set_cons_succ]
  refine takeH (i := 5) (v := ?_) rfl rfl (by kernel_rfl) (by kernel_rfl) (by kernel_rfl) (fun _ _ _ h => h) (by rfl) ?_ hHeld ?_
  rotate_left
  · (intro w hSw; (try dsimp only at hSw); first | (go_simp; done) | (go_simp; with_reducible rfl))
  simp only [Act.put, List.setIfInBounds_toArray, List.set_cons_zero, List.set_cons_succ]
  refine takeH (i := 6) (v := ?_) rfl rfl (by kernel_rfl) (by kernel_rfl) (by kernel_rfl) (fun _ _ _ h => h) (by rfl) ?_ hHeld ?_
  rotate_left
  · (intro w hSw; (try dsimp only at hSw); first | (go_simp; done) | (go_simp; with_reducible rfl))
  simp only [Act.put, List.setIfInBounds_toArray, List.set_cons_zero, List.set_cons_succ]
  refine takeH (i := 7) (v := ?_) rfl rfl (by kernel_rfl) (by kernel_rfl) (by kernel_rfl) (fun _ _ _ h => h) (by rfl) ?_ hHeld ?_
  rotate_left
  · (intro w hSw; (try dsimp only at hSw); first | (go_simp; done) | (go_simp; with_reducible rfl))
  simp only [Act.put, List.setIfInBounds_toArray, List.set_cons_zero, List.set_cons_succ]
  refine wpAnyH_done (by kernel_rfl) ?_ _
  clear r0 r1
  have p0 := HP.out.c0
  have p1 := HP.out.c1
  have q0 := HQ.out.c0
  have q1 := HQ.out.c1
  go_wp2_with fail
  refine wp_region_held_drew (S := (fun w' => w'.cell? ⟨bq, 0, none⟩ = some (.bool true) ∧ w'.cell? ⟨bq, 1, none⟩ = some (.slice Aq 2 2) ∧ w'.cell? ⟨bp, 0, none⟩ = some (.bool false) ∧ w'.cell? ⟨bp, 1, none⟩ = some (.slice Ap 2 2))) (by kernel_rfl) ⟨q0, q1, p0, p1⟩ (fun hHeld => ?_)
  refine takeH (i := 1) (v := ?_) rfl rfl (by kernel_rfl) (by kernel_rfl) (by kernel_rfl) (fun _ _ _ h => h) (by rfl) ?_ hHeld ?_
  rotate_left
  · (intro w hSw; (try dsimp only at hSw); first | (go_simp; done) | (go_simp; with_reducible rfl))
  simp only [Act.put, List.setIfInBounds_toArray, List.set_cons_zero, List.set_cons_succ]
  refine takeH (i := 2) (v := ?_) rfl rfl (by kernel_rfl) (by kernel_rfl) (by kernel_rfl) (fun _ _ _ h => h) (by rfl) ?_ hHeld ?_
  rotate_left
  · (intro w hSw; (try dsimp only at hSw); first | (go_simp; done) | (go_simp; with_reducible rfl))
  simp only [Act.put, List.setIfInBounds_toArray, List.set_cons_zero, List.set_cons_succ]
  refine wpAnyH_ready (rs := [0]) (by kernel_rfl) (by simp) ?_
  refine AllReadyH.cons rfl (fun K hK => ?_) AllReadyH.nil
  go_simp
  refine (words_any _).mono ?_
  rintro e w4 ⟨A4, rfl, hs4, hb4⟩
  have hd : Below w3.heap.size w3 w4 := (Below.refl w3.heap.size w3).drew.trans hb4
  replace HP := Lib.hid (HP.out.on hd)
  replace HQ := Lib.hid (HQ.out.on hd)
  replace HR := Lib.hid (HR.out.on hd)
  have HB4 := Lib.hid (HB3.out.trans (hd.mono HB3.out.size))
  have HS := Lib.hid hs4
  clear hb4 hd hs4 p0 p1 q0 q1
  have p0 := HP.out.c0
  have p1 := HP.out.c1
  have q0 := HQ.out.c0
  have q1 := HQ.out.c1
  go_wp2_with fail
  refine hK.out _ _ ?_ (fun hHeld => ?_)
  · exact ⟨q0, q1, p0, p1⟩
  clear hK K
  refine wpAnyH_ready (rs := [3]) (by kernel_rfl) (by simp) ?_
  refine AllReadyH.cons rfl (fun K hK => ?_) AllReadyH.nil
  go_simp
  refine (litCompare_any A4 Aq Ap 7 7 2 2 2 2 wordsL ⟨true, [5, -1]⟩ ⟨false, [5, -1]⟩ w4 HS.out len7 (Nat.le_refl _) HQ.out.lit HP.out.lit).mono ?_
  rintro e w5 ⟨kk, E, rfl, hkk, hb5⟩
  obtain ⟨rfl, rfl⟩ := hkk.unique aw3
  replace HP := Lib.hid (HP.out.on hb5)
  replace HQ := Lib.hid (HQ.out.on hb5)
  replace HR := Lib.hid (HR.out.on hb5)
  have HB5 := Lib.hid (HB4.out.trans (hb5.mono HB4.out.size))
  clear hb5 HS p0 p1 q0 q1 hkk
  have p0 := HP.out.c0
  have p1 := HP.out.c1
  have q0 := HQ.out.c0
  have q1 := HQ.out.c1
  go_wp2_with fail
  refine hK.out _ _ ?_ (fun hHeld => ?_)
  · exact ⟨q0, q1, p0, p1⟩
  clear hK K
  refine takeH (i := 4) (v := ?_) rfl rfl (by kernel_rfl) (by kernel_rfl) (by kernel_rfl) (fun _ _ _ h => h) (by rfl) ?_ hHeld ?_
  rotate_left
  · (intro w hSw; (try dsimp only at hSw); first | (go_simp; done) | (go_simp; with_reducible rfl))
  simp only [Act.put, List.setIfInBounds_toArray, List.set_cons_zero, List.set_cons_succ]
  refine takeH (i := 5) (v := ?_) rfl rfl (by kernel_rfl) (by kernel_rfl) (by kernel_rfl) (fun _ _ _ h => h) (by rfl) ?_ hHeld ?_
  rotate_left
  · (intro w hSw; (try dsimp only at hSw); first | (go_simp; done) | (go_simp; with_reducible rfl))
  simp only [Act.put, List.setIfInBounds_toArray, List.set_cons_zero, List.set_cons_succ]
  refine takeH (i := 6) (v := ?_) rfl rfl (by kernel_rfl) (by kernel_rfl) (by kernel_rfl) (fun _ _ _ h => h) (by rfl) ?_ hHeld ?_
  rotate_left
  · (intro w hSw; (try dsimp only at hSw); first | (go_simp; done) | (go_simp; with_reducible rfl))
  simp only [Act.put, List.setIfInBounds_toArray, List.set_cons_zero, List.set_cons_succ]
  refine takeH (i := 7) (v := ?_) rfl rfl (by kernel_rfl) (by kernel_rfl) (by kernel_rfl) (fun _ _ _ h => h) (by rfl) ?_ hHeld ?_
  rotate_left
  · (intro w hSw; (try dsimp only at hSw); first | (go_simp; done) | (go_simp; with_reducible rfl))
  simp only [Act.put, List.setIfInBounds_toArray, List.set_cons_zero, List.set_cons_succ]
  refine takeH (i := 8) (v := ?_) rfl rfl (by kernel_rfl) (by kernel_rfl) (by kernel_rfl) (fun _ _ _ h => h) (by rfl) ?_ hHeld ?_
  rotate_left
  · (intro w hSw; (try dsimp only at hSw); first | (go_simp; done) | (go_simp; with_reducible rfl))
  simp only [Act.put, List.setIfInBounds_toArray, List.set_cons_zero, List.set_cons_succ]
  refine wpAnyH_done (by kernel_rfl) ?_ _
  clear p0 p1 q0 q1
  go_upto_region 6 with (fail)
  go_cut [8, 9] (fun s8 s9 wx => ∃ A8 c8, s8 = .slice A8 1 c8 ∧ s9 = .int .i64 0 ∧ IntsAt wx wx.heap.size A8 1 [2] ∧ BoxAt wx bp Ap 2 2 ⟨false, [5, -1]⟩ ∧ Below w.heap.size w wx)
  case first =>
    have p0 := HP.out.c0
    have p1 := HP.out.c1
    have q0 := HQ.out.c0
    have q1 := HQ.out.c1
    have r0 := HR.out.c0
    have r1 := HR.out.c1
    go_wp2_with fail
    refine wp_region_held_drew (S := (fun w' => w'.cell? ⟨bp, 0, none⟩ = some (.bool false) ∧ w'.cell? ⟨bp, 1, none⟩ = some (.slice Ap 2 2) ∧ w'.cell? ⟨bq, 0, none⟩ = some (.bool true) ∧ w'.cell? ⟨bq, 1, none⟩ = some (.slice Aq 2 2) ∧ w'.cell? ⟨br, 0, none⟩ = some (.bool false) ∧ w'.cell? ⟨br, 1, none⟩ = some (.slice Ar 3 3))) (by kernel_rfl) ⟨p0, p1, q0, q1, r0, r1⟩ (fun hHeld => ?_)
    have hd0 : Below w5.heap.size w5 w5.drew := (Below.refl w5.heap.size w5).drew
    refine takeH (i := 1) (v := ?_) rfl rfl (by kernel_rfl) (by kernel_rfl) (by kernel_rfl) (fun _ _ _ h => h) (by rfl) ?_ hHeld ?_
    rotate_left
    · (intro w hSw; (try dsimp only at hSw); first | (go_simp; done) | (go_simp; with_reducible rfl))
    simp only [Act.put, List.setIfInBounds_toArray, List.set_cons_zero, List.set_cons_succ]
    refine takeH (i := 2) (v := ?_) rfl rfl (by kernel_rfl) (by kernel_rfl) (by kernel_rfl) (fun _ _ _ h => h) (by rfl) ?_ hHeld ?_
    rotate_left
    · (intro w hSw; (try dsimp only at hSw); first | (go_simp; done) | (go_simp; with_reducible rfl))
    simp only [Act.put, List.setIfInBounds_toArray, List.set_cons_zero, List.set_cons_succ]
    refine takeH (i := 3) (v := ?_) rfl rfl (by kernel_rfl) (by kernel_rfl) (by kernel_rfl) (fun _ _ _ h => h) (by rfl) ?_ hHeld ?_
    rotate_left
    · (intro w hSw; (try dsimp only at hSw); first | (go_simp; done) | (go_simp; with_reducible rfl))
    simp only [Act.put, List.setIfInBounds_toArray, List.set_cons_zero, List.set_cons_succ]
    refine wpAnyH_ready (rs := [0, 4]) (by kernel_rfl) (by simp) ?_
    refine AllReadyH.cons rfl (fun K hK => ?_) (AllReadyH.cons rfl (fun K hK => ?_) AllReadyH.nil)
    · go_simp
      refine (words_any _).mono ?_
      rintro e w6 ⟨A6, rfl, hs6, hb6⟩
      have hd6 : Below w5.heap.size w5 w6 := hd0.trans hb6
      replace HP := Lib.hid (HP.out.on hd6)
      replace HQ := Lib.hid (HQ.out.on hd6)
      replace HR := Lib.hid (HR.out.on hd6)
      have HB6 := Lib.hid (HB5.out.trans (hd6.mono HB5.out.size))
      clear hb6 hd6 hd0 p0 p1 q0 q1 r0 r1
      have p0 := HP.out.c0
      have p1 := HP.out.c1
      have q0 := HQ.out.c0
      have q1 := HQ.out.c1
      have r0 := HR.out.c0
      have r1 := HR.out.c1
      go_wp2_with fail
      refine hK.out _ _ ?_ (fun hHeld => ?_)
      · exact ⟨p0, p1, q0, q1, r0, r1⟩
      clear hK K
      refine wpAnyH_ready (rs := [4]) (by kernel_rfl) (by simp) ?_
      refine AllReadyH.cons rfl (fun K hK => ?_) AllReadyH.nil
      go_simp
      have hb7 := below_new w6 (.cells #[.bool false, .slice Ap 2 2, .bool true, .slice Aq 2 2, .bool false, .slice Ar 3 3] 25)
      have HL := Lib.hid (LitsAt.new3 HP.out.lit HQ.out.lit HR.out.lit)
      have HS := Lib.hid (hs6.on hb7)
      replace HP := Lib.hid (HP.out.on hb7)
      replace HQ := Lib.hid (HQ.out.on hb7)
      replace HR := Lib.hid (HR.out.on hb7)
      have HB7 := Lib.hid (HB6.out.trans (hb7.mono HB6.out.size))
      clear hb7 hs6 p0 p1 q0 q1 r0 r1
      have p0 := HP.out.c0
      have p1 := HP.out.c1
      have q0 := HQ.out.c0
      have q1 := HQ.out.c1
      have r0 := HR.out.c0
      have r1 := HR.out.c1
      refine hK.out _ _ ?_ (fun hHeld => ?_)
      · exact ⟨p0, p1, q0, q1, r0, r1⟩
      clear hK K
      refine wpAnyH_ready (rs := [5]) (by kernel_rfl) (by simp) ?_
      refine AllReadyH.cons rfl (fun K hK => ?_) AllReadyH.nil
      go_simp
      refine (litTops_any A6 _ 7 7 3 3 wordsL awL _ HS.out len7 (Nat.le_refl _) HL.out (by omega)).mono ?_
      rintro e w8 ⟨v8, rfl, hv8, hb8⟩
      rw [aw5]
      rw [aw4] at hv8
      obtain ⟨A8, c8, rfl, -, hi8⟩ := hv8.intsAt
      replace HP := Lib.hid (HP.out.on hb8)
      replace HQ := Lib.hid (HQ.out.on hb8)
      replace HR := Lib.hid (HR.out.on hb8)
      have HB8 := Lib.hid (HB7.out.trans (hb8.mono HB7.out.size))
      have HI8 := Lib.hid hi8
      clear hb8 hv8 hi8 p0 p1 q0 q1 r0 r1
      have p0 := HP.out.c0
      have p1 := HP.out.c1
      have q0 := HQ.out.c0
      have q1 := HQ.out.c1
      have r0 := HR.out.c0
      have r1 := HR.out.c1
      go_wp2_with fail
      refine hK.out _ _ ?_ (fun hHeld => ?_)
      · exact ⟨p0, p1, q0, q1, r0, r1⟩
      clear hK K
      refine takeH (i := 6) (v := ?_) rfl rfl (by kernel_rfl) (by kernel_rfl) (by kernel_rfl) (fun _ _ _ h => h) (by rfl) ?_ hHeld ?_
      rotate_left
      · (intro w hSw; (try dsimp only at hSw); first | (go_simp; done) | (go_simp; with_reducible rfl))
      simp only [Act.put, List.setIfInBounds_toArray, List.set_cons_zero, List.set_cons_succ]
      refine takeH (i := 7) (v := ?_) rfl rfl (by kernel_rfl) (by kernel_rfl) (by kernel_rfl) (fun _ _ _ h => h) (by rfl) ?_ hHeld ?_
      rotate_left
      · (intro w hSw; (try dsimp only at hSw); first | (go_simp; done) | (go_simp; with_reducible rfl))
      simp only [Act.put, List.setIfInBounds_toArray, List.set_cons_zero, List.set_cons_succ]
      refine takeH (i := 8) (v := ?_) rfl rfl (by kernel_rfl) (by kernel_rfl) (by kernel_rfl) (fun _ _ _ h => h) (by rfl) ?_ hHeld ?_
      rotate_left
      · (intro w hSw; (try dsimp only at hSw); first | (go_simp; done) | (go_simp; with_reducible rfl))
      simp only [Act.put, List.setIfInBounds_toArray, List.set_cons_zero, List.set_cons_succ]
      refine takeH (i := 9) (v := ?_) rfl rfl (by kernel_rfl) (by kernel_rfl) (by kernel_rfl) (fun _ _ _ h => h) (by rfl) ?_ hHeld ?_
      rotate_left
      · (intro w hSw; (try dsimp only at hSw); first | (go_simp; done) | (go_simp; with_reducible rfl))
      simp only [Act.put, List.setIfInBounds_toArray, List.set_cons_zero, List.set_cons_succ]
      refine takeH (i := 10) (v := ?_) rfl rfl (by kernel_rfl) (by kernel_rfl) (by kernel_rfl) (fun _ _ _ h => h) (by rfl) ?_ hHeld ?_
      rotate_left
      · (intro w hSw; (try dsimp only at hSw); first | (go_simp; done) | (go_simp; with_reducible rfl))
      simp only [Act.put, List.setIfInBounds_toArray, List.set_cons_zero, List.set_cons_succ]
      refine wpAnyH_done (by kernel_rfl) ?_ _
      go_wp2_with fail
      go_meet
      case rel => exact ⟨A8, c8, rfl, rfl, HI8.out, HP.out, HB8.out⟩
    · go_simp
      have hb7 := below_new w5.drew (.cells #[.bool false, .slice Ap 2 2, .bool true, .slice Aq 2 2, .bool false, .slice Ar 3 3] 25)
      have HL7 := Lib.hid (LitsAt.new3 (HP.out.on hd0).lit (HQ.out.on hd0).lit (HR.out.on hd0).lit)
      have hd7 := hd0.trans hb7
      replace HP := Lib.hid (HP.out.on hd7)
      replace HQ := Lib.hid (HQ.out.on hd7)
      replace HR := Lib.hid (HR.out.on hd7)
      have HB6 := Lib.hid (HB5.out.trans (hd7.mono HB5.out.size))
      clear hb7 hd7 hd0 p0 p1 q0 q1 r0 r1
      have p0 := HP.out.c0
      have p1 := HP.out.c1
      have q0 := HQ.out.c0
      have q1 := HQ.out.c1
      have r0 := HR.out.c0
      have r1 := HR.out.c1
      refine hK.out _ _ ?_ (fun hHeld => ?_)
      · exact ⟨p0, p1, q0, q1, r0, r1⟩
      clear hK K
      refine wpAnyH_ready (rs := [0]) (by kernel_rfl) (by simp) ?_
      refine AllReadyH.cons rfl (fun K hK => ?_) AllReadyH.nil
      go_simp
      refine (words_any _).mono ?_
      rintro e w6 ⟨A6, rfl, hs6, hb6⟩
      replace HP := Lib.hid (HP.out.on hb6)
      replace HQ := Lib.hid (HQ.out.on hb6)
      replace HR := Lib.hid (HR.out.on hb6)
      have HB7 := Lib.hid (HB6.out.trans (hb6.mono HB6.out.size))
      have HL := Lib.hid (HL7.out.on hb6)
      have HS := Lib.hid hs6
      clear hb6 hs6 p0 p1 q0 q1 r0 r1
      have p0 := HP.out.c0
      have p1 := HP.out.c1
      have q0 := HQ.out.c0
      have q1 := HQ.out.c1
      have r0 := HR.out.c0
      have r1 := HR.out.c1
      go_wp2_with fail
      refine hK.out _ _ ?_ (fun hHeld => ?_)
      · exact ⟨p0, p1, q0, q1, r0, r1⟩
      clear hK K
      refine wpAnyH_ready (rs := [5]) (by kernel_rfl) (by simp) ?_
      refine AllReadyH.cons rfl (fun K hK => ?_) AllReadyH.nil
      go_simp
      refine (litTops_any A6 _ 7 7 3 3 wordsL awL _ HS.out len7 (Nat.le_refl _) HL.out (by omega)).mono ?_
      rintro e w8 ⟨v8, rfl, hv8, hb8⟩
      rw [aw5]
      rw [aw4] at hv8
      obtain ⟨A8, c8, rfl, -, hi8⟩ := hv8.intsAt
      replace HP := Lib.hid (HP.out.on hb8)
      replace HQ := Lib.hid (HQ.out.on hb8)
      replace HR := Lib.hid (HR.out.on hb8)
      have HB8 := Lib.hid (HB7.out.trans (hb8.mono HB7.out.size))
      have HI8 := Lib.hid hi8
      clear hb8 hv8 hi8 p0 p1 q0 q1 r0 r1
      have p0 := HP.out.c0
      have p1 := HP.out.c1
      have q0 := HQ.out.c0
      have q1 := HQ.out.c1
      have r0 := HR.out.c0
      have r1 := HR.out.c1
      go_wp2_with fail
      refine hK.out _ _ ?_ (fun hHeld => ?_)
      · exact ⟨p0, p1, q0, q1, r0, r1⟩
      clear hK K
      refine takeH (i := 6) (v := ?_) rfl rfl (by kernel_rfl) (by kernel_rfl) (by kernel_rfl) (fun _ _ _ h => h) (by rfl) ?_ hHeld ?_
      rotate_left
      · (intro w hSw; (try dsimp only at hSw); first | (go_simp; done) | (go_simp; with_reducible rfl))
      simp only [Act.put, List.setIfInBounds_toArray, List.set_cons_zero, List.set_cons_succ]
      refine takeH (i := 7) (v := ?_) rfl rfl (by kernel_rfl) (by kernel_rfl) (by kernel_rfl) (fun _ _ _ h => h) (by rfl) ?_ hHeld ?_
      rotate_left
      · (intro w hSw; (try dsimp only at hSw); first | (go_simp; done) | (go_simp; with_reducible rfl))
      simp only [Act.put, List.setIfInBounds_toArray, List.set_cons_zero, List.set_cons_succ]
      refine takeH (i := 8) (v := ?_) rfl rfl (by kernel_rfl) (by kernel_rfl) (by kernel_rfl) (fun _ _ _ h => h) (by rfl) ?_ hHeld ?_
      rotate_left
      · (intro w hSw; (try dsimp only at hSw); first | (go_simp; done) | (go_simp; with_reducible rfl))
      simp only [Act.put, List.setIfInBounds_toArray, List.set_cons_zero, List.set_cons_succ]
      refine takeH (i := 9) (v := ?_) rfl rfl (by kernel_rfl) (by kernel_rfl) (by kernel_rfl) (fun _ _ _ h => h) (by rfl) ?_ hHeld ?_
      rotate_left
      · (intro w hSw; (try dsimp only at hSw); first | (go_simp; done) | (go_simp; with_reducible rfl))
      simp only [Act.put, List.setIfInBounds_toArray, List.set_cons_zero, List.set_cons_succ]
      refine takeH (i := 10) (v := ?_) rfl rfl (by kernel_rfl) (by kernel_rfl) (by kernel_rfl) (fun _ _ _ h => h) (by rfl) ?_ hHeld ?_
      rotate_left
      · (intro w hSw; (try dsimp only at hSw); first | (go_simp; done) | (go_simp; with_reducible rfl))
      simp only [Act.put, List.setIfInBounds_toArray, List.set_cons_zero, List.set_cons_succ]
      refine wpAnyH_done (by kernel_rfl) ?_ _
      go_wp2_with fail
      go_meet
      case rel => exact ⟨A8, c8, rfl, rfl, HI8.out, HP.out, HB8.out⟩
  case rest =>
    obtain ⟨A8, c8, rfl, rfl, hi8, hp8, hb8⟩ := hcut
    clear HP HQ HR
    have HI := Lib.hid hi8
    have HP := Lib.hid hp8
    have HB8 := Lib.hid hb8
    clear hi8 hp8 hb8 HB1 HB2 HB3 HB4 HB5
    obtain ⟨w8, hw8⟩ : ∃ w8, w8 = wc := ⟨_, rfl⟩
    subst hw8
    go_wp2_with fail
    refine (words_any _).mono ?_
    rintro e w9 ⟨A9, rfl, hs9, hb9⟩
    have HB9 := Lib.hid (HB8.out.trans (hb9.mono HB8.out.size))
    replace HI := Lib.hid (HI.out.on hb9)
    replace HP := Lib.hid (HP.out.on hb9)
    clear hb9
    go_wp2_with fail
    have hbn := below_new w9 (.cells #[.int .i64 3, .int .i64 1] 3)
    refine (litWeight_any A9 _ 7 7 2 2 wordsL ⟨false, [3, 1]⟩ _ (hs9.on hbn) len7 (Nat.le_refl _) (LitAt.lit w9 false [3, 1] (by decide))).mono ?_
    rintro e w10 ⟨rfl, hb10⟩
    rw [aw6, aw7]
    have hbz := hbn.trans (hb10.mono hbn.size)
    have HB10 := Lib.hid (HB9.out.trans (hbz.mono HB9.out.size))
    replace HI := Lib.hid (HI.out.on hbz)
    replace HP := Lib.hid (HP.out.on hbz)
    clear hbn hb10 hbz hs9
    have p0 := HP.out.c0
    have p1 := HP.out.c1
    go_wp2_with fail
    refine wp_region_held_drew (S := (fun w' => w'.cell? ⟨bp, 0, none⟩ = some (.bool false) ∧ w'.cell? ⟨bp, 1, none⟩ = some (.slice Ap 2 2))) (by kernel_rfl) ⟨p0, p1⟩ (fun hHeld => ?_)
    have hd0 : Below w10.heap.size w10 w10.drew := (Below.refl w10.heap.size w10).drew
    replace HI := Lib.hid (HI.out.on hd0)
    replace HP := Lib.hid (HP.out.on hd0)
    replace HB10 := Lib.hid (HB10.out.trans (hd0.mono HB10.out.size))
    obtain ⟨w11, hw11⟩ : ∃ w11, w11 = w10.drew := ⟨_, rfl⟩
    rw [← hw11] at HI HP HB10 ⊢ hHeld
    clear hd0 p0 p1 hw11
    have p0 := HP.out.c0
    have p1 := HP.out.c1
    refine takeH (i := 0) (v := ?_) rfl rfl (by kernel_rfl) (by kernel_rfl) (by kernel_rfl) (fun _ _ _ h => h) (by rfl) ?_ hHeld ?_
    rotate_left
    · (intro w hSw; (try dsimp only at hSw); first | (go_simp; done) | (go_simp; with_reducible rfl))
    simp only [Act.put, List.setIfInBounds_toArray, List.set_cons_zero, List.set_cons_succ]
    refine takeH (i := 1) (v := ?_) rfl rfl (by kernel_rfl) (by kernel_rfl) (by kernel_rfl) (fun _ _ _ h => h) (by rfl) ?_ hHeld ?_
    rotate_left
    · (intro w hSw; (try dsimp only at hSw); first | (go_simp; done) | (go_simp; with_reducible rfl))
    simp only [Act.put, List.setIfInBounds_toArray, List.set_cons_zero, List.set_cons_succ]
    refine takeH (i := 2) (v := ?_) rfl rfl (by kernel_rfl) (by kernel_rfl) (by kernel_rfl) (fun _ _ _ h => h) (by rfl) ?_ hHeld ?_
    rotate_left
    · (intro w hSw; (try dsimp only at hSw); first | (go_simp; done) | (go_simp; with_reducible rfl))
    simp only [Act.put, List.setIfInBounds_toArray, List.set_cons_zero, List.set_cons_succ]
    refine takeH (i := 3) (v := ?_) rfl rfl (by kernel_rfl) (by kernel_rfl) (by kernel_rfl) (fun _ _ _ h => h) (by rfl) ?_ hHeld ?_
    rotate_left
    · (intro w hSw; (try dsimp only at hSw); first | (go_simp; done) | (go_simp; with_reducible rfl))
    simp only [Act.put, List.setIfInBounds_toArray, List.set_cons_zero, List.set_cons_succ]
    refine wpAnyH_ready (rs := [4]) (by kernel_rfl) (by simp) ?_
    refine AllReadyH.cons rfl (fun K hK => ?_) AllReadyH.nil
    go_simp
    refine (num_any _ _).mono ?_
    rintro e w' ⟨rfl, rfl⟩
    go_wp2_with fail
    refine hK.out _ _ ?_ (fun hHeld => ?_)
    · exact ⟨p0, p1⟩
    clear hK K
    refine takeH (i := 5) (v := ?_) rfl rfl (by kernel_rfl) (by kernel_rfl) (by kernel_rfl) (fun _ _ _ h => h) (by rfl) ?_ hHeld ?_
    rotate_left
    · (intro w hSw; (try dsimp only at hSw); first | (go_simp; done) | (go_simp; with_reducible rfl))
    simp only [Act.put, List.setIfInBounds_toArray, List.set_cons_zero, List.set_cons_succ]
    refine takeH (i := 6) (v := ?_) rfl rfl (by kernel_rfl) (by kernel_rfl) (by kernel_rfl) (fun _ _ _ h => h) (by rfl) ?_ hHeld ?_
    rotate_left
    · (intro w hSw; (try dsimp only at hSw); first | (go_simp; done) | (go_simp; with_reducible rfl))
    simp only [Act.put, List.setIfInBounds_toArray, List.set_cons_zero, List.set_cons_succ]
    refine takeH (i := 7) (v := ?_) rfl rfl (by kernel_rfl) (by kernel_rfl) (by kernel_rfl) (fun _ _ _ h => h) (by rfl) ?_ hHeld ?_
    rotate_left
    · (intro w hSw; (try dsimp only at hSw); first | (go_simp; done) | (go_simp; with_reducible rfl))
    simp only [Act.put, List.setIfInBounds_toArray, List.set_cons_zero, List.set_cons_succ]
    refine takeH (i := 8) (v := ?_) rfl rfl (by kernel_rfl) (by kernel_rfl) (by kernel_rfl) (fun _ _ _ h => h) (by rfl) ?_ hHeld ?_
    rotate_left
    · (intro w hSw; (try dsimp only at hSw); first | (go_simp; done) | (go_simp; with_reducible rfl))
    simp only [Act.put, List.setIfInBounds_toArray, List.set_cons_zero, List.set_cons_succ]
    refine takeH (i := 9) (v := ?_) rfl rfl (by kernel_rfl) (by kernel_rfl) (by kernel_rfl) (fun _ _ _ h => h) (by rfl) ?_ hHeld ?_
    rotate_left
    · (intro w hSw; (try dsimp only at hSw); first | (go_simp; done) | (go_simp; with_reducible rfl))
    simp only [Act.put, List.setIfInBounds_toArray, List.set_cons_zero, List.set_cons_succ]
    refine takeH (i := 10) (v := ?_) rfl rfl (by kernel_rfl) (by kernel_rfl) (by kernel_rfl) (fun _ _ _ h => h) (by rfl) ?_ hHeld ?_
    rotate_left
    · (intro w hSw; (try dsimp only at hSw); first | (go_simp; done) | (go_simp; with_reducible rfl))
    simp only [Act.put, List.setIfInBounds_toArray, List.set_cons_zero, List.set_cons_succ]
    refine takeH (i := 11) (v := ?_) rfl rfl (by kernel_rfl) (by kernel_rfl) (by kernel_rfl) (fun _ _ _ h => h) (by rfl) ?_ hHeld ?_
    rotate_left
    · (intro w hSw; (try dsimp only at hSw); first | (go_simp; done) | (go_simp; with_reducible rfl))
    simp only [Act.put, List.setIfInBounds_toArray, List.set_cons_zero, List.set_cons_succ]
    refine takeH (i := 12) (v := ?_) rfl rfl (by kernel_rfl) (by kernel_rfl) (by kernel_rfl) (fun _ _ _ h => h) (by rfl) ?_ hHeld ?_
    rotate_left
    · (intro w hSw; (try dsimp only at hSw); first | (go_simp; done) | (go_simp; with_reducible rfl))
    simp only [Act.put, List.setIfInBounds_toArray, List.set_cons_zero, List.set_cons_succ]
    refine wpAnyH_ready (rs := [13]) (by kernel_rfl) (by simp) ?_
    refine AllReadyH.cons rfl (fun K hK => ?_) AllReadyH.nil
    go_simp
    refine (num_any _ _).mono ?_
    rintro e w' ⟨rfl, rfl⟩
    go_wp2_with fail
    refine hK.out _ _ ?_ (fun hHeld => ?_)
    · exact ⟨p0, p1⟩
    clear hK K
    refine takeH (i := 14) (v := ?_) rfl rfl (by kernel_rfl) (by kernel_rfl) (by kernel_rfl) (fun _ _ _ h => h) (by rfl) ?_ hHeld ?_
    rotate_left
    · (intro w hSw; (try dsimp only at hSw); first | (go_simp; done) | (go_simp; with_reducible rfl))
    simp only [Act.put, List.setIfInBounds_toArray, List.set_cons_zero, List.set_cons_succ]
    refine takeH (i := 15) (v := ?_) rfl rfl (by kernel_rfl) (by kernel_rfl) (by kernel_rfl) (fun _ _ _ h => h) (by rfl) ?_ hHeld ?_
    rotate_left
    · (intro w hSw; (try dsimp only at hSw); first | (go_simp; done) | (go_simp; with_reducible rfl))
    simp only [Act.put, List.setIfInBounds_toArray, List.set_cons_zero, List.set_cons_succ]
    refine takeH (i := 16) (v := ?_) rfl rfl (by kernel_rfl) (by kernel_rfl) (by kernel_rfl) (fun _ _ _ h => h) (by rfl) ?_ hHeld ?_
    rotate_left
    · (intro w hSw; (try dsimp only at hSw); first | (go_simp; done) | (go_simp; with_reducible rfl))
    simp only [Act.put, List.setIfInBounds_toArray, List.set_cons_zero, List.set_cons_succ]
    refine takeH (i := 17) (v := ?_) rfl rfl (by kernel_rfl) (by kernel_rfl) (by kernel_rfl) (fun _ _ _ h => h) (by rfl) ?_ hHeld ?_
    rotate_left
    · (intro w hSw; (try dsimp only at hSw); first | (go_simp; done) | (go_simp; with_reducible rfl))
    simp only [Act.put, List.setIfInBounds_toArray, List.set_cons_zero, List.set_cons_succ]
    refine wpAnyH_ready (rs := [18]) (by kernel_rfl) (by simp) ?_
    refine AllReadyH.cons rfl (fun K hK => ?_) AllReadyH.nil
    go_simp
    have hbn := below_new w11 (.cells #[.int .i64 2] 3)
    have HN := Lib.hid (IntsAt.news w11 [2])
    replace HI := Lib.hid (HI.out.on hbn)
    replace HP := Lib.hid (HP.out.on hbn)
    have HB12 := Lib.hid (HB10.out.trans (hbn.mono HB10.out.size))
    clear hbn p0 p1
    have p0 := HP.out.c0
    have p1 := HP.out.c1
    refine hK.out _ _ ?_ (fun hHeld => ?_)
    · exact ⟨p0, p1⟩
    clear hK K
    refine wpAnyH_ready (rs := [19]) (by kernel_rfl) (by simp) ?_
    refine AllReadyH.cons rfl (fun K hK => ?_) AllReadyH.nil
    go_simp
    refine (sameInts_any A8 _ 1 c8 1 1 _ _ [2] [2] _ HI.out HN.out (by unfold maxLen; omega) (by unfold maxLen; omega)).mono ?_
    rintro e w13 ⟨rfl, hb13⟩
    rw [sameI_self]
    have HB13 := Lib.hid (HB12.out.trans (hb13.mono HB12.out.size))
    replace HP := Lib.hid (HP.out.on hb13)
    clear hb13 p0 p1 HN HI
    have p0 := HP.out.c0
    have p1 := HP.out.c1
    go_wp2_with fail
    refine hK.out _ _ ?_ (fun hHeld => ?_)
    · exact ⟨p0, p1⟩
    clear hK K
    refine takeH (i := 20) (v := ?_) rfl rfl (by kernel_rfl) (by kernel_rfl) (by kernel_rfl) (fun _ _ _ h => h) (by rfl) ?_ hHeld ?_
    rotate_left
    · (intro w hSw; (try dsimp only at hSw); first | (go_simp; done) | (go_simp; with_reducible rfl))
    simp only [Act.put, List.setIfInBounds_toArray, List.set_cons_zero, List.set_cons_succ]
    refine takeH (i := 21) (v := ?_) rfl rfl (by kernel_rfl) (by kernel_rfl) (by kernel_rfl) (fun _ _ _ h => h) (by rfl) ?_ hHeld ?_
    rotate_left
    · (intro w hSw; (try dsimp only at hSw); first | (go_simp; done) | (go_simp; with_reducible rfl))
    simp only [Act.put, List.setIfInBounds_toArray, List.set_cons_zero, List.set_cons_succ]
    refine takeH (i := 22) (v := ?_) rfl rfl (by kernel_rfl) (by kernel_rfl) (by kernel_rfl) (fun _ _ _ h => h) (by rfl) ?_ hHeld ?_
    rotate_left
    · (intro w hSw; (try dsimp only at hSw); first | (go_simp; done) | (go_simp; with_reducible rfl))
    simp only [Act.put, List.setIfInBounds_toArray, List.set_cons_zero, List.set_cons_succ]
    refine wpAnyH_ready (rs := [23]) (by kernel_rfl) (by simp) ?_
    refine AllReadyH.cons rfl (fun K hK => ?_) AllReadyH.nil
    go_simp
    refine (num_any _ _).mono ?_
    rintro e w' ⟨rfl, rfl⟩
    go_wp2_with fail
    refine hK.out _ _ ?_ (fun hHeld => ?_)
    · exact ⟨p0, p1⟩
    clear hK K
    refine takeH (i := 24) (v := ?_) rfl rfl (by kernel_rfl) (by kernel_rfl) (by kernel_rfl) (fun _ _ _ h => h) (by rfl) ?_ hHeld ?_
    rotate_left
    · (intro w hSw; (try dsimp only at hSw); first | (go_simp; done) | (go_simp; with_reducible rfl))
    simp only [Act.put, List.setIfInBounds_toArray, List.set_cons_zero, List.set_cons_succ]
    refine takeH (i := 25) (v := ?_) rfl rfl (by kernel_rfl) (by kernel_rfl) (by kernel_rfl) (fun _ _ _ h => h) (by rfl) ?_ hHeld ?_
    rotate_left
    · (intro w hSw; (try dsimp only at hSw); first | (go_simp; done) | (go_simp; with_reducible rfl))
    simp only [Act.put, List.setIfInBounds_toArray, List.set_cons_zero, List.set_cons_succ]
    refine takeH (i := 26) (v := ?_) rfl rfl (by kernel_rfl) (by kernel_rfl) (by kernel_rfl) (fun _ _ _ h => h) (by rfl) ?_ hHeld ?_
    rotate_left
    · (intro w hSw; (try dsimp only at hSw); first | (go_simp; done) | (go_simp; with_reducible rfl))
    simp only [Act.put, List.setIfInBounds_toArray, List.set_cons_zero, List.set_cons_succ]
    refine takeH (i := 27) (v := ?_) rfl rfl (by kernel_rfl) (by kernel_rfl) (by kernel_rfl) (fun _ _ _ h => h) (by rfl) ?_ hHeld ?_
    rotate_left
    · (intro w hSw; (try dsimp only at hSw); first | (go_simp; done) | (go_simp; with_reducible rfl))
    simp only [Act.put, List.setIfInBounds_toArray, List.set_cons_zero, List.set_cons_succ]
    refine wpAnyH_ready (rs := [28]) (by kernel_rfl) (by simp) ?_
    refine AllReadyH.cons rfl (fun K hK => ?_) AllReadyH.nil
    go_simp
    refine (num_any _ _).mono ?_
    rintro e w' ⟨rfl, rfl⟩
    go_wp2_with fail
    refine hK.out _ _ ?_ (fun hHeld => ?_)
    · exact ⟨p0, p1⟩
    clear hK K
    refine takeH (i := 29) (v := ?_) rfl rfl (by kernel_rfl) (by kernel_rfl) (by kernel_rfl) (fun _ _ _ h => h) (by rfl) ?_ hHeld ?_
    rotate_left
    · (intro w hSw; (try dsimp only at hSw); first | (go_simp; done) | (go_simp; with_reducible rfl))
    simp only [Act.put, List.setIfInBounds_toArray, List.set_cons_zero, List.set_cons_succ]
    refine takeH (i := 30) (v := ?_) rfl rfl (by kernel_rfl) (by kernel_rfl) (by kernel_rfl) (fun _ _ _ h => h) (by rfl) ?_ hHeld ?_
    rotate_left
    · (intro w hSw; (try dsimp only at hSw); first | (go_simp; done) | (go_simp; with_reducible rfl))
    simp only [Act.put, List.setIfInBounds_toArray, List.set_cons_zero, List.set_cons_succ]
    refine takeH (i := 31) (v := ?_) rfl rfl (by kernel_rfl) (by kernel_rfl) (by kernel_rfl) (fun _ _ _ h => h) (by rfl) ?_ hHeld ?_
    rotate_left
    · (intro w hSw; (try dsimp only at hSw); first | (go_simp; done) | (go_simp; with_reducible rfl))
    simp only [Act.put, List.setIfInBounds_toArray, List.set_cons_zero, List.set_cons_succ]
    refine takeH (i := 33) (v := ?_) rfl rfl (by kernel_rfl) (by kernel_rfl) (by kernel_rfl) (fun _ _ _ h => h) (by rfl) ?_ hHeld ?_
    rotate_left
    · (intro w hSw; (try dsimp only at hSw); first | (go_simp; done) | (go_simp; with_reducible rfl))
    simp only [Act.put, List.setIfInBounds_toArray, List.set_cons_zero, List.set_cons_succ]
    refine wpAnyH_ready (rs := [32]) (by kernel_rfl) (by simp) ?_
    refine AllReadyH.cons rfl (fun K hK => ?_) AllReadyH.nil
    go_simp
    refine (words_any _).mono ?_
    rintro e w14 ⟨A14, rfl, hs14, hb14⟩
    have HS := Lib.hid hs14
    have HB14 := Lib.hid (HB13.out.trans (hb14.mono HB13.out.size))
    replace HP := Lib.hid (HP.out.on hb14)
    clear hb14 p0 p1 hs14
    have p0 := HP.out.c0
    have p1 := HP.out.c1
    go_wp2_with fail
    refine hK.out _ _ ?_ (fun hHeld => ?_)
    · exact ⟨p0, p1⟩
    clear hK K
    refine wpAnyH_ready (rs := [34]) (by kernel_rfl) (by simp) ?_
    refine AllReadyH.cons rfl (fun K hK => ?_) AllReadyH.nil
    go_simp
    refine (litMay_any A14 Ap 7 7 2 2 wordsL ⟨false, [5, -1]⟩ _ HS.out len7 (Nat.le_refl _) HP.out.lit).mono ?_
    rintro e w15 ⟨rfl, hb15⟩
    rw [aw8]
    have HB15 := Lib.hid (HB14.out.trans (hb15.mono HB14.out.size))
    replace HP := Lib.hid (HP.out.on hb15)
    clear hb15 p0 p1 HS
    have p0 := HP.out.c0
    have p1 := HP.out.c1
    go_wp2_with fail
    refine hK.out _ _ ?_ (fun hHeld => ?_)
    · exact ⟨p0, p1⟩
    clear hK K
    refine takeH (i := 35) (v := ?_) rfl rfl (by kernel_rfl) (by kernel_rfl) (by kernel_rfl) (fun _ _ _ h => h) (by rfl) ?_ hHeld ?_
    rotate_left
    · (intro w hSw; (try dsimp only at hSw); first | (go_simp; done) | (go_simp; with_reducible rfl))
    simp only [Act.put, List.setIfInBounds_toArray, List.set_cons_zero, List.set_cons_succ]
    refine takeH (i := 36) (v := ?_) rfl rfl (by kernel_rfl) (by kernel_rfl) (by kernel_rfl) (fun _ _ _ h => h) (by rfl) ?_ hHeld ?_
    rotate_left
    · (intro w hSw; (try dsimp only at hSw); first | (go_simp; done) | (go_simp; with_reducible rfl))
    simp only [Act.put, List.setIfInBounds_toArray, List.set_cons_zero, List.set_cons_succ]
    refine wpAnyH_done (by kernel_rfl) ?_ _
    go_wp2
    go_ret
    exact ⟨rfl, HB15.out⟩
end Go.Proofs.Ytiekgdohanahlaa
