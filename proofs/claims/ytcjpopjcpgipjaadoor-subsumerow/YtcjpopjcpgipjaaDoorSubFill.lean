/-
  Contract of package subsume: fit.
-/
import Derived.Test.YtcjpopjcpgipjaaDoorSubFit
namespace Go.Proofs.YtcjpopjcpgipjaaDoor
open Go.RowKit Go.Deep
set_option linter.unusedSimpArgs false
set_option linter.unusedVariables false
set_option maxRecDepth 100000

/-- What stands still below block g: the search's object, its pairs and which of them belong to a part. -/
structure Stat (w : World) (g sb B : Nat) (v0 v1 v2 v3 v4 : Value) (PS : List Pr) (os : List Nat) : Prop where
  s : SB w sb v0 v1 v2 v3 v4
  lt : sb < g
  p : OwnP w (sb + 1) B v0 PS
  pl : ∀ b, v0.ownBlock = some b → b < g
  o : OwnW w (sb + 1) v1 os
  ol : ∀ b, v1.ownBlock = some b → b < g
  hB : B ≤ sb
  hg : g ≤ w.heap.size
theorem owns_low {w w' : World} {base e size n g : Nat} {v : Value} {xs : List Value} (h : w.ownsRow base e size v n xs) (hl : ∀ b, v.ownBlock = some b → b < g) (hb : Below g w w') : w'.ownsRow base e size v n xs := by
  obtain ⟨h1, h2⟩ := h
  refine ⟨h1, ?_⟩
  rcases h2 with h2 | ⟨k, cap, cur, q, hg, hc, r⟩
  · exact .inl h2
  · exact .inr ⟨k, cap, cur, q, hg, by rw [hb.block k (hl k (by rw [q]; rfl))]; exact hc, r⟩
theorem Stat.below {w w' : World} {g sb B : Nat} {v0 v1 v2 v3 v4 : Value} {PS : List Pr} {os : List Nat} (h : Stat w g sb B v0 v1 v2 v3 v4 PS os) (hb : Below g w w') : Stat w' g sb B v0 v1 v2 v3 v4 PS os := by
  refine ⟨by unfold SB; rw [hb.block sb h.lt]; exact h.s, h.lt, ?_, h.pl, owns_low h.o h.ol hb, h.ol, h.hB, Nat.le_trans h.hg hb.size⟩
  obtain ⟨cells, h1, h2⟩ := h.p
  exact ⟨cells, owns_low h1 h.pl hb, h2.below (hb.mono (by have := h.hB; have := h.lt; omega))⟩
/-- Which pairs agree, as far as it has been found out. -/
def FitK (PS : List Pr) (fs : List Nat) (i j0 : Nat) : Prop := ∀ j, j < PS.length → ∀ j', (wAt fs j).testBit j' = true ↔ j < j' ∧ (j' < i ∨ (j' = i ∧ j < j0)) ∧ j' < PS.length ∧ agrB (prAt PS j').pcs (prAt PS j).pcs = true
theorem FitK.zero {PS : List Pr} : FitK PS (List.replicate PS.length 0) 0 0 := fun j hj j' => by
  have e : wAt (List.replicate PS.length 0) j = 0 := by unfold wAt; rw [List.getD_eq_getElem?_getD, List.getElem?_replicate, if_pos hj]; rfl
  rw [e, Nat.zero_testBit]
  refine ⟨fun h => (by cases h), fun h => ?_⟩
  rcases h.2.1 with q | q <;> omega
theorem FitK.next {PS : List Pr} {fs : List Nat} {i : Nat} (h : FitK PS fs i i) : FitK PS fs (i + 1) 0 := fun j hj j' => by
  rw [h j hj j']
  constructor
  · rintro ⟨h1, h2, h3⟩
    exact ⟨h1, .inl (by omega), h3⟩
  · rintro ⟨h1, h2, h3⟩
    refine ⟨h1, ?_, h3⟩
    rcases h2 with q | q
    · rcases Nat.lt_or_ge j' i with q2 | q2
      · exact .inl q2
      · exact .inr ⟨by omega, by omega⟩
    · omega
theorem FitK.no {PS : List Pr} {fs : List Nat} {i j0 : Nat} (h : FitK PS fs i j0) (ha : agrB (prAt PS i).pcs (prAt PS j0).pcs = false) : FitK PS fs i (j0 + 1) := fun j hj j' => by
  rw [h j hj j']
  constructor
  · rintro ⟨h1, h2, h3⟩
    exact ⟨h1, h2.imp id fun q => ⟨q.1, by omega⟩, h3⟩
  · rintro ⟨h1, h2, h3, h4⟩
    refine ⟨h1, ?_, h3, h4⟩
    rcases h2 with q | ⟨q1, q2⟩
    · exact .inl q
    · rcases Nat.lt_or_ge j j0 with q3 | q3
      · exact .inr ⟨q1, q3⟩
      · obtain rfl : j = j0 := by omega
        subst q1
        rw [ha] at h4; cases h4
theorem FitK.yes {PS : List Pr} {fs : List Nat} {i j0 : Nat} (h : FitK PS fs i j0) (hl : fs.length = PS.length) (hi : i < PS.length) (hj0 : j0 < i) (ha : agrB (prAt PS i).pcs (prAt PS j0).pcs = true) : FitK PS (fs.set j0 (wAt fs j0 ||| 2 ^ i)) i (j0 + 1) := fun j hj j' => by
  by_cases e : j = j0
  · subst e
    have e1 : wAt (fs.set j (wAt fs j ||| 2 ^ i)) j = wAt fs j ||| 2 ^ i := by
      unfold wAt
      rw [List.getD_eq_getElem?_getD, List.getElem?_set_self (by omega)]; rfl
    rw [e1, Nat.testBit_or, Nat.testBit_two_pow, Bool.or_eq_true, decide_eq_true_eq, h j hj j']
    constructor
    · rintro (⟨h1, h2, h3⟩ | rfl)
      · exact ⟨h1, h2.imp id fun q => ⟨q.1, by omega⟩, h3⟩
      · exact ⟨hj0, .inr ⟨rfl, by omega⟩, hi, ha⟩
    · rintro ⟨h1, h2, h3⟩
      rcases h2 with q | ⟨q1, q2⟩
      · exact .inl ⟨h1, .inl q, h3⟩
      · exact .inr q1.symm
  · have e1 : wAt (fs.set j0 (wAt fs j0 ||| 2 ^ i)) j = wAt fs j := by
      unfold wAt
      rw [List.getD_eq_getElem?_getD, List.getElem?_set_ne (fun h => e h.symm), List.getD_eq_getElem?_getD]
    rw [e1, h j hj j']
    constructor
    · rintro ⟨h1, h2, h3⟩
      exact ⟨h1, h2.imp id fun q => ⟨q.1, by omega⟩, h3⟩
    · rintro ⟨h1, h2, h3⟩
      refine ⟨h1, h2.imp id fun q => ⟨q.1, by omega⟩, h3⟩
theorem FitK.few {PS : List Pr} {fs : List Nat} {i j0 j : Nat} (h : FitK PS fs i j0) (hj : j < PS.length) : wAt fs j < 2 ^ PS.length := lt_of_bits fun j' hj' => ((h j hj j').1 hj').2.2.1
theorem made_words (n : Nat) : madeCells #[Value.int .u64 0] n = (swCells (List.replicate n 0)).toArray := by
  unfold madeCells swCells
  apply Array.ext
  · simp
  · intro i h1 h2
    simp [Nat.mod_one]
theorem OwnW.made (w : World) (n : Nat) (hn : n ≤ 1000) : OwnW (w.alloc (.cells (madeCells #[Value.int .u64 0] n) 97)) w.heap.size (.slice (some ⟨w.heap.size, 0, none⟩) n n) (List.replicate n 0) := by
  have := World.ownsRow_lit (base := w.heap.size) (e := 97) (size := 1) w (swCells (List.replicate n 0)).toArray n (Nat.le_refl _) (by unfold maxLen; omega) (by unfold swCells; simp)
  rw [made_words]
  unfold OwnW
  rw [List.length_replicate]
  simpa using this
def FillPost (sb B : Nat) (PS : List Pr) (os : List Nat) (w : World) (e : Ending) (w' : World) : Prop :=
  e = .returned (.tuple #[]) ∧ (∃ v0 v1 fs, Stat w' w.heap.size sb B v0 v1 (.slice (some ⟨w.heap.size, 0, none⟩) PS.length PS.length) (.slice none 0 0) (.slice none 0 0) PS os ∧ OwnW w' w.heap.size (.slice (some ⟨w.heap.size, 0, none⟩) PS.length PS.length) fs ∧ fs.length = PS.length ∧ FitK PS fs PS.length 0) ∧ Below sb w w'
structure FW (w2 : World) (g : Nat) (PS : List Pr) (fs : List Nat) (i j0 : Nat) (wr : World) : Prop where
  bel : Below g w2 wr
  own : OwnW wr g (.slice (some ⟨g, 0, none⟩) PS.length PS.length) fs
  len : fs.length = PS.length
  fit : FitK PS fs i j0
set_option maxHeartbeats 4000000 in
theorem fit_any (sb B : Nat) (PS : List Pr) (os : List Nat) (w : World) (h : Bld w sb B PS os) (hn : PS.length ≤ 60) :
    Calls Tryd.prog 55 #[.pointer (some ⟨sb, 0, none⟩)] w (FillPost sb B PS os w) := by
  obtain ⟨v0, v1, h1, h2, h3⟩ := h.ex
  obtain ⟨A0, c0, rfl⟩ := h2.len_
  have HLT := Lib.hid h.lt
  have HLE := Lib.hid h.le
  have HG := Lib.hid h.good
  obtain ⟨N, hN⟩ : ∃ N, N = PS.length := ⟨_, rfl⟩
  rw [← hN] at h1 hn h2
  have hmk : (Instr.makeSlice 67 (.int .i64 (N : Int)) (.int .i64 (N : Int))).run Tryd.prog w = .ok (.slice (some ⟨w.heap.size, 0, none⟩) N N) (w.alloc (.cells (madeCells #[.int .u64 0] N) 97)) := run_make_row' (P := Tryd.prog) 67 97 (.int .u64 0) 8 Tryd.underlying67 set_info rfl .i64 .i64 N (by omega) (by omega) w
  have HMADE := Lib.hid (OwnW.made w N (by omega))
  have hbn := below_new w (.cells (madeCells #[.int .u64 0] N) 97)
  have hS1 := h1.on hbn
  have hP1 := h2.on hbn (by have := HLE.out; have := HLT.out; omega)
  have hO1 := h3.on hbn
  have hst : Stat ((w.alloc (.cells (madeCells #[.int .u64 0] N) 97)).setCell ⟨sb, 2, none⟩ (.slice (some ⟨w.heap.size, 0, none⟩) N N)) w.heap.size sb B (.slice A0 N c0) v1 (.slice (some ⟨w.heap.size, 0, none⟩) N N) (.slice none 0 0) (.slice none 0 0) PS os := by
    have hset := hS1.set_chg 2 (.slice (some ⟨w.heap.size, 0, none⟩) N N)
    refine ⟨hS1.set2 _, HLT.out, hP1.chg hset (by decide) HLE.out, fun b hb => ?_, hO1.chg hset (by decide), fun b hb => ?_, HLE.out, by simp⟩
    · obtain ⟨cells, q, _⟩ := h2; exact (q.lt b hb).2
    · exact (h3.lt b hb).2
  have HW2 : Hid (OwnW ((w.alloc (.cells (madeCells #[.int .u64 0] N) 97)).setCell ⟨sb, 2, none⟩ (.slice (some ⟨w.heap.size, 0, none⟩) N N)) w.heap.size (.slice (some ⟨w.heap.size, 0, none⟩) N N) (List.replicate N 0)) := HMADE.out.chg (hS1.set_chg 2 _) (by decide)
  have HB2 : Hid (Below sb w ((w.alloc (.cells (madeCells #[.int .u64 0] N) 97)).setCell ⟨sb, 2, none⟩ (.slice (some ⟨w.heap.size, 0, none⟩) N N))) := (hbn.mono (Nat.le_of_lt HLT.out)).trans (hS1.set_chg 2 _).bel
  have HST := Lib.hid hst
  have hc0 := h1.c0
  have hfz := hS1.frozen 2
  have hcc := hS1.c2
  obtain ⟨g, hg⟩ : ∃ g, g = w.heap.size := ⟨_, rfl⟩
  have HNN := Lib.hid hN
  have hc02 := hst.s.c0
  clear h h1 h2 h3 hbn hS1 hP1 hO1 hst hN
  go_enter Tryd.func55, Tryd.ntmps55
  go_wp2_with fail
  clear hmk hfz hcc hc02 hc0
  obtain ⟨w2, hw2⟩ : ∃ w2, w2 = (w.alloc (.cells (madeCells #[Value.int .u64 0] N) 97)).setCell ⟨sb, 2, none⟩ (.slice (some ⟨w.heap.size, 0, none⟩) N N) := ⟨_, rfl⟩
  rw [← hw2] at HST HW2 HB2 ⊢
  rw [← hg] at HST HW2 ⊢
  clear hw2 HMADE
  have HGG := Lib.hid hg
  clear hg
  have HF0 : Hid (FW w2 g PS (List.replicate N 0) 0 0 w2) := ⟨Below.refl _ _, by rw [← HNN.out]; exact HW2.out, by rw [List.length_replicate, HNN.out], by rw [HNN.out]; exact FitK.zero⟩
  go_loopw [18] (fun i wr => ∃ (k : Nat) (fs : List Nat), i = .int .i64 k ∧ k ≤ N ∧ Hid (FW w2 g PS fs k 0 wr)) (fun i _ => N - (intOf i).toNat)
  case atStart => exact ⟨0, _, rfl, by omega, HF0⟩
  case round =>
    obtain ⟨wA, hwA⟩ : ∃ wA, wA = wr := ⟨_, rfl⟩
    subst hwA
    obtain ⟨k, fs1, rfl, hk, HF1⟩ := hrel
    by_cases hlt : k < N
    · go_wp2
      go_loopw [22] (fun i wr => ∃ (j : Nat) (fs : List Nat), i = .int .i64 j ∧ j ≤ k ∧ Hid (FW w2 g PS fs k j wr)) (fun i _ => k - (intOf i).toNat)
      case atStart => exact ⟨0, fs1, rfl, by omega, HF1⟩
      case round =>
        obtain ⟨j, fs2, rfl, hj, HF2⟩ := hrel
        by_cases hlt2 : j < k
        · have HSr := Lib.hid (HST.out.below HF2.out.bel)
          have hd0 := HSr.out.s.c0
          obtain ⟨g0, cap0, e0, q1, q2, q3, q4⟩ := HSr.out.p.cells (by have := HNN.out; omega)
          injection e0 with e1 e2 e3
          subst e1
          subst e3
          have HP1 := Lib.hid (q4 k (by have := HNN.out; omega)).pcs
          have HP2 := Lib.hid (q4 j (by have := HNN.out; omega)).pcs
          have zj0 : (0 : Int) ≤ (j : Int) := by omega
          have zj1 : (j : Int) < (N : Int) := by omega
          have zk0 : (0 : Int) ≤ (k : Int) := by omega
          have zk1 : (k : Int) < (N : Int) := by omega
          clear q4 e2 q1
          go_wp2_with fail
          refine wp_region_held_drew (S := (fun w' => w'.cell? ⟨sb, 0, none⟩ = some (.slice (some ⟨g0, 0, none⟩) N c0))) (by kernel_rfl) hd0 (fun hHeld => ?_)
          have hd : Below wr.heap.size wr wr.drew := (Below.refl wr.heap.size wr).drew
          obtain ⟨w3, hw3⟩ : ∃ w3, w3 = wr.drew := ⟨_, rfl⟩
          rw [← hw3] at hd hHeld ⊢
          clear hw3
          have hgr : g ≤ wr.heap.size := HSr.out.hg
          have HF3 : Hid (FW w2 g PS fs2 k j w3) := ⟨HF2.out.bel.trans (hd.mono hgr), HF2.out.own.on hd, HF2.out.len, HF2.out.fit⟩
          have HS3 := Lib.hid (HST.out.below HF3.out.bel)
          have hBr : B ≤ wr.heap.size := by have := HSr.out.hB; have := HSr.out.lt; omega
          have HQ1 := Lib.hid (HP1.out.on q2 hBr hd)
          have HQ2 := Lib.hid (HP2.out.on q2 hBr hd)
          have q2' : g0 < w3.heap.size := Nat.lt_of_lt_of_le q2 hd.size
          have hB3 : B ≤ w3.heap.size := Nat.le_trans hBr hd.size
          have d0 := HS3.out.s.c0
          clear hd0 hd q2 hBr
          refine takeH (i := 0) (v := ?_) rfl rfl (by kernel_rfl) (by kernel_rfl) (by kernel_rfl) (fun _ _ _ h => h) (by rfl) ?_ hHeld ?_
          rotate_left
          · (intro w hSw; (try dsimp only at hSw); first | (go_simp; done) | (go_simp; with_reducible rfl))
          simp only [Act.put, List.setIfInBounds_toArray, List.set_cons_zero, List.set_cons_succ]
          refine takeH (i := 1) (v := ?_) rfl rfl (by kernel_rfl) (by kernel_rfl) (by kernel_rfl) (fun _ _ _ h => h) (by rfl) ?_ hHeld ?_
          rotate_left
          · (intro w hSw; (try dsimp only at hSw); first | (go_simp; done) | (go_simp; with_reducible rfl))
          simp only [Act.put, List.setIfInBounds_toArray, List.set_cons_zero, List.set_cons_succ]
          refine takeH (i := 2) (v := ?_) rfl rfl (by kernel_rfl) (by kernel_rfl) (by kernel_rfl) (fun _ _ _ h => h) (by rfl) ?_ hHeld ?_
          rotate_left
          · (intro w hSw; (try dsimp only at hSw); first | (go_simp; done) | (go_simp; with_reducible rfl))
          simp only [Act.put, List.setIfInBounds_toArray, List.set_cons_zero, List.set_cons_succ]
          refine takeH (i := 3) (v := ?_) rfl rfl (by kernel_rfl) (by kernel_rfl) (by kernel_rfl) (fun _ _ _ h => h) (by rfl) ?_ hHeld ?_
          rotate_left
          · (intro w hSw; (try dsimp only at hSw); first | (go_simp; done) | (go_simp; with_reducible rfl))
          simp only [Act.put, List.setIfInBounds_toArray, List.set_cons_zero, List.set_cons_succ]
          refine takeH (i := 4) (v := ?_) rfl rfl (by kernel_rfl) (by kernel_rfl) (by kernel_rfl) (fun _ _ _ h => h) (by rfl) ?_ hHeld ?_
          rotate_left
          · (intro w hSw; (try dsimp only at hSw); first | (go_simp; done) | (go_simp; with_reducible rfl))
          simp only [Act.put, List.setIfInBounds_toArray, List.set_cons_zero, List.set_cons_succ]
          refine takeH (i := 5) (v := ?_) rfl rfl (by kernel_rfl) (by kernel_rfl) (by kernel_rfl) (fun _ _ _ h => h) (by rfl) ?_ hHeld ?_
          rotate_left
          · (intro w hSw; (try dsimp only at hSw); first | (go_simp; done) | (go_simp; with_reducible rfl))
          simp only [Act.put, List.setIfInBounds_toArray, List.set_cons_zero, List.set_cons_succ]
          refine takeH (i := 6) (v := ?_) rfl rfl (by kernel_rfl) (by kernel_rfl) (by kernel_rfl) (fun _ _ _ h => h) (by rfl) ?_ hHeld ?_
          rotate_left
          · (intro w hSw; (try dsimp only at hSw); first | (go_simp; done) | (go_simp; with_reducible rfl))
          simp only [Act.put, List.setIfInBounds_toArray, List.set_cons_zero, List.set_cons_succ]
          refine takeH (i := 7) (v := ?_) rfl rfl (by kernel_rfl) (by kernel_rfl) (by kernel_rfl) (fun _ _ _ h => h) (by rfl) ?_ hHeld ?_
          rotate_left
          · (intro w hSw; (try dsimp only at hSw); first | (go_simp; done) | (go_simp; with_reducible rfl))
          simp only [Act.put, List.setIfInBounds_toArray, List.set_cons_zero, List.set_cons_succ]
          refine takeH (i := 8) (v := ?_) rfl rfl (by kernel_rfl) (by kernel_rfl) (by kernel_rfl) (fun _ _ _ h => h) (by rfl) ?_ hHeld ?_
          rotate_left
          · (intro w hSw; (try dsimp only at hSw); first | (go_simp; done) | (go_simp; with_reducible rfl))
          simp only [Act.put, List.setIfInBounds_toArray, List.set_cons_zero, List.set_cons_succ]
          refine takeH (i := 9) (v := ?_) rfl rfl (by kernel_rfl) (by kernel_rfl) (by kernel_rfl) (fun _ _ _ h => h) (by rfl) ?_ hHeld ?_
          rotate_left
          · (intro w hSw; (try dsimp only at hSw); first | (go_simp; done) | (go_simp; with_reducible rfl))
          simp only [Act.put, List.setIfInBounds_toArray, List.set_cons_zero, List.set_cons_succ]
          refine takeH (i := 10) (v := ?_) rfl rfl (by kernel_rfl) (by kernel_rfl) (by kernel_rfl) (fun _ _ _ h => h) (by rfl) ?_ hHeld ?_
          rotate_left
          · (intro w hSw; (try dsimp only at hSw); first | (go_simp; done) | (go_simp; with_reducible rfl))
          simp only [Act.put, List.setIfInBounds_toArray, List.set_cons_zero, List.set_cons_succ]
          refine takeH (i := 11) (v := ?_) rfl rfl (by kernel_rfl) (by kernel_rfl) (by kernel_rfl) (fun _ _ _ h => h) (by rfl) ?_ hHeld ?_
          rotate_left
          · (intro w hSw; (try dsimp only at hSw); first | (go_simp; done) | (go_simp; with_reducible rfl))
          simp only [Act.put, List.setIfInBounds_toArray, List.set_cons_zero, List.set_cons_succ]
          refine takeH (i := 12) (v := ?_) rfl rfl (by kernel_rfl) (by kernel_rfl) (by kernel_rfl) (fun _ _ _ h => h) (by rfl) ?_ hHeld ?_
          rotate_left
          · (intro w hSw; (try dsimp only at hSw); first | (go_simp; done) | (go_simp; with_reducible rfl))
          simp only [Act.put, List.setIfInBounds_toArray, List.set_cons_zero, List.set_cons_succ]
          refine takeH (i := 13) (v := ?_) rfl rfl (by kernel_rfl) (by kernel_rfl) (by kernel_rfl) (fun _ _ _ h => h) (by rfl) ?_ hHeld ?_
          rotate_left
          · (intro w hSw; (try dsimp only at hSw); first | (go_simp; done) | (go_simp; with_reducible rfl))
          simp only [Act.put, List.setIfInBounds_toArray, List.set_cons_zero, List.set_cons_succ]
          refine wpAnyH_ready (rs := [14]) (by kernel_rfl) (by simp) ?_
          refine AllReadyH.cons rfl (fun K hK => ?_) AllReadyH.nil
          go_simp
          refine (agrees_any B g0 (k * 25 + 1) g0 (j * 25 + 1) _ _ w3 HQ1.out HQ2.out q2' q2' hB3).mono ?_
          rintro e w4 ⟨rfl, hb4⟩
          have hg3 : g ≤ w3.heap.size := HS3.out.hg
          have HF4 : Hid (FW w2 g PS fs2 k j w4) := ⟨HF3.out.bel.trans (hb4.mono hg3), HF3.out.own.on hb4, HF3.out.len, HF3.out.fit⟩
          have HS4 := Lib.hid (HST.out.below HF4.out.bel)
          have d4 := HS4.out.s.c0
          clear hb4 hg3
          refine hK.out _ _ ?_ (fun hHeld => ?_)
          · exact d4
          clear hK K
          refine wpAnyH_done (by kernel_rfl) ?_ _
          cases hag : agrB (prAt PS k).pcs (prAt PS j).pcs
          · have HF5 : Hid (FW w2 g PS fs2 k (j + 1) w4) := ⟨HF4.out.bel, HF4.out.own, HF4.out.len, HF4.out.fit.no hag⟩
            clear hag
            go_wp2
            go_roundw
            case rel => exact ⟨j + 1, fs2, by go_num, by omega, HF5⟩
            case measure => simp [intOf]; omega
          · have HAG := Lib.hid hag
            clear hag
            obtain ⟨gg, cap, e9, r1, r2, r3, r4, r5⟩ := HF4.out.own.cells (by have := HF4.out.len; have := HNN.out; omega)
            injection e9 with e1 e2 e3
            injection e1 with e1
            injection e1 with e1
            subst e1
            have hcell := r4 j (by have := HF4.out.len; have := HNN.out; omega)
            obtain ⟨x, hx⟩ : ∃ x, x = wAt fs2 j := ⟨_, rfl⟩
            rw [← hx] at hcell
            have hxs : x < 2 ^ 64 := by
              have := HF4.out.fit.few (j := j) (by have := HNN.out; omega)
              rw [← hx] at this
              exact Nat.lt_trans this (Nat.pow_lt_pow_right (by omega) (by have := HNN.out; omega))
            have HQ : Hid (2 ^ k < 2 ^ 64) := Nat.pow_lt_pow_right (by omega) (by omega)
            obtain ⟨q, hq⟩ : ∃ q, q = 2 ^ k := ⟨_, rfl⟩
            have hq64 : q < 2 ^ 64 := by rw [hq]; exact HQ.out
            have hsh : ∀ yk, Op.shift .shl .u64 1 yk (k : Int) = pure (.int .u64 (q : Int)) := fun yk => by
              rw [shift_shl .u64 yk 1 (k : Int) (by omega) (by show (k : Int) ≤ 64; omega)]
              have : IntKind.u64.wrap (1 * 2 ^ ((k : Int)).toNat) = (q : Int) := by
                rw [Int.one_mul, Int.toNat_natCast]
                have e : ((2 : Int) ^ k) = ((2 ^ k : Nat) : Int) := by norm_cast
                rw [e, ← hq]
                exact wrap_u64_nat hq64
              rw [this]
            have hwr : IntKind.u64.wrap ((2 : Int) ^ k) = (q : Int) := by
              have e : ((2 : Int) ^ k) = ((2 ^ k : Nat) : Int) := by norm_cast
              rw [e, ← hq]
              exact wrap_u64_nat hq64
            obtain ⟨r, hr⟩ : ∃ r, r = x ||| q := ⟨_, rfl⟩
            have hor : bits .or .u64 (x : Int) (q : Int) = (r : Int) := by rw [hr]; exact bits_or_w hxs hq64
            have HR : Hid (r = wAt fs2 j ||| 2 ^ k) := by show _ = _; rw [hr, hx, hq]
            clear hx hq hr hxs hq64 r4 r5 r3 e2 e3
            go_wp2_with fail
            have d2 := HS4.out.s.c2
            refine wp_region_held_drew (S := (fun w' => w'.cell? ⟨sb, 2, none⟩ = some (.slice (some ⟨g, 0, none⟩) N N))) (by kernel_rfl) d2 (fun hHeld => ?_)
            have hd : Below w4.heap.size w4 w4.drew := (Below.refl w4.heap.size w4).drew
            obtain ⟨w5, hw5⟩ : ∃ w5, w5 = w4.drew := ⟨_, rfl⟩
            rw [← hw5] at hd hHeld ⊢
            clear hw5
            have HF5 : Hid (FW w2 g PS fs2 k j w5) := ⟨HF4.out.bel.trans (hd.mono HS4.out.hg), HF4.out.own.on hd, HF4.out.len, HF4.out.fit⟩
            have HS5 := Lib.hid (HST.out.below HF5.out.bel)
            have d5 := HS5.out.s.c2
            have hcell5 : w5.cell? ⟨g, j, none⟩ = some (.int .u64 (x : Int)) := by rw [hd.cell (p := ⟨g, j, none⟩) r2]; exact hcell
            have hfz5 : w5.frozen? ⟨g, j, none⟩ = false := HF5.out.own.frozen j
            clear hcell hd d2 d4 r1 r2
            refine takeH (i := 0) (v := ?_) rfl rfl (by kernel_rfl) (by kernel_rfl) (by kernel_rfl) (fun _ _ _ h => h) (by rfl) ?_ hHeld ?_
            rotate_left
            · (intro w hSw; (try dsimp only at hSw); first | (go_simp; done) | (go_simp; with_reducible rfl))
            simp only [Act.put, List.setIfInBounds_toArray, List.set_cons_zero, List.set_cons_succ]
            refine takeH (i := 1) (v := ?_) rfl rfl (by kernel_rfl) (by kernel_rfl) (by kernel_rfl) (fun _ _ _ h => h) (by rfl) ?_ hHeld ?_
            rotate_left
            · (intro w hSw; (try dsimp only at hSw); first | (go_simp; done) | (go_simp; with_reducible rfl))
            simp only [Act.put, List.setIfInBounds_toArray, List.set_cons_zero, List.set_cons_succ]
            refine takeH (i := 2) (v := ?_) rfl rfl (by kernel_rfl) (by kernel_rfl) (by kernel_rfl) (fun _ _ _ h => h) (by rfl) ?_ hHeld ?_
            rotate_left
            · (intro w hSw; (try dsimp only at hSw); first | (go_simp; done) | (go_simp; with_reducible rfl))
            simp only [Act.put, List.setIfInBounds_toArray, List.set_cons_zero, List.set_cons_succ]
            refine takeH (i := 3) (v := ?_) rfl rfl (by kernel_rfl) (by kernel_rfl) (by kernel_rfl) (fun _ _ _ h => h) (by rfl) ?_ hHeld ?_
            rotate_left
            · (intro w hSw; (try dsimp only at hSw); first | (go_simp; done) | (go_simp; with_reducible rfl))
            simp only [Act.put, List.setIfInBounds_toArray, List.set_cons_zero, List.set_cons_succ]
            refine takeH (i := 4) (v := ?_) rfl rfl (by kernel_rfl) (by kernel_rfl) (by kernel_rfl) (fun _ _ _ h => h) (by rfl) ?_ hHeld ?_
            rotate_left
            · (intro w hSw; (try dsimp only at hSw); first | (go_simp; done) | (go_simp; with_reducible rfl))
            simp only [Act.put, List.setIfInBounds_toArray, List.set_cons_zero, List.set_cons_succ]
            refine takeH (i := 5) (v := ?_) rfl rfl (by kernel_rfl) (by kernel_rfl) (by kernel_rfl) (fun _ _ _ h => h) (by rfl) ?_ hHeld ?_
            rotate_left
            · (intro w hSw; (try dsimp only at hSw); first | (go_simp; done) | (go_simp; with_reducible rfl))
            simp only [Act.put, List.setIfInBounds_toArray, List.set_cons_zero, List.set_cons_succ]
            refine takeH (i := 7) (v := ?_) rfl rfl (by kernel_rfl) (by kernel_rfl) (by kernel_rfl) (fun _ _ _ h => h) (by rfl) ?_ hHeld ?_
            rotate_left
            · (intro w hSw; (try dsimp only at hSw); first | (go_simp; done) | (go_simp; with_reducible rfl))
            simp only [Act.put, List.setIfInBounds_toArray, List.set_cons_zero, List.set_cons_succ]
            refine takeH (i := 8) (v := ?_) rfl rfl (by kernel_rfl) (by kernel_rfl) (by kernel_rfl) (fun _ _ _ h => h) (by rfl) ?_ hHeld ?_
            rotate_left
            · (intro w hSw; (try dsimp only at hSw); first | (go_simp; done) | (go_simp; with_reducible rfl))
            simp only [Act.put, List.setIfInBounds_toArray, List.set_cons_zero, List.set_cons_succ]
            refine wpAnyH_ready (rs := [6]) (by kernel_rfl) (by simp) ?_
            refine AllReadyH.cons rfl (fun K hK => ?_) AllReadyH.nil
            go_simp
            refine hK.out _ _ ?_ (fun hHeld => ?_)
            · exact d5
            clear hK K
            refine takeH (i := 9) (v := ?_) rfl rfl (by kernel_rfl) (by kernel_rfl) (by kernel_rfl) (fun _ _ _ h => h) (by rfl) ?_ hHeld ?_
            rotate_left
            · (intro w hSw; (try dsimp only at hSw); first | (go_simp; done) | (go_simp; with_reducible rfl))
            simp only [Act.put, List.setIfInBounds_toArray, List.set_cons_zero, List.set_cons_succ]
            refine takeH (i := 10) (v := ?_) rfl rfl (by kernel_rfl) (by kernel_rfl) (by kernel_rfl) (fun _ _ _ h => h) (by rfl) ?_ hHeld ?_
            rotate_left
            · (intro w hSw; (try dsimp only at hSw); first | (go_simp; done) | (go_simp; with_reducible rfl))
            simp only [Act.put, List.setIfInBounds_toArray, List.set_cons_zero, List.set_cons_succ]
            refine wpAnyH_ready (rs := [11]) (by kernel_rfl) (by simp) ?_
            refine AllReadyH.cons rfl (fun K hK => ?_) AllReadyH.nil
            go_simp
            have hset : Below g w5 (w5.setCell ⟨g, j, none⟩ (.int .u64 (r : Int))) := (Below.refl g w5).setCell (Nat.le_refl _) _
            have HF6 : Hid (FW w2 g PS (fs2.set j r) k (j + 1) (w5.setCell ⟨g, j, none⟩ (.int .u64 (r : Int)))) := ⟨HF5.out.bel.trans hset, HF5.out.own.put r, by rw [List.length_set]; exact HF5.out.len, by rw [HR.out]; exact HF5.out.fit.yes HF5.out.len (by have := HNN.out; omega) hlt2 HAG.out⟩
            have d6 := (HST.out.below HF6.out.bel).s.c2
            clear hset
            refine hK.out _ _ ?_ (fun hHeld => ?_)
            · exact d6
            clear hK K
            refine wpAnyH_done (by kernel_rfl) ?_ _
            go_wp2
            go_roundw
            case rel => exact ⟨j + 1, _, by go_num, by omega, HF6⟩
            case measure => simp [intOf]; omega
        · obtain rfl : j = k := by omega
          have HF3 : Hid (FW w2 g PS fs2 (j + 1) 0 wr) := ⟨HF2.out.bel, HF2.out.own, HF2.out.len, HF2.out.fit.next⟩
          go_wp2
          go_roundw
          case rel => exact ⟨j + 1, fs2, by go_num, by omega, HF3⟩
          case measure => simp [intOf]; omega
    · obtain rfl : k = N := by omega
      go_wp2
      (first | go_end0 | refine bodyPost_ret (results_none rfl _ _ _) rfl ?_)
      have hst := HST.out.below HF1.out.bel
      have hf := HF1.out
      refine ⟨rfl, ⟨.slice A0 PS.length c0, v1, fs1, ?_, ?_, hf.len, ?_⟩, HB2.out.trans (hf.bel.mono (by have := HST.out.lt; omega))⟩
      · rw [← HGG.out]; rw [HNN.out] at hst; exact hst
      · rw [← HGG.out]; exact hf.own
      · have := hf.fit; rw [HNN.out] at this; exact this
end Go.Proofs.YtcjpopjcpgipjaaDoor
