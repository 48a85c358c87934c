/-
  Contracts: equate.(*Classes).Term, equate.Rows, unify.binds, unify.Unify.
-/
import Derived.Test.YtmdajmdjmdbonaaEquAll
import Derived.Test.YtmdajmdjmdbonaaBaseBind
namespace Go.Proofs.Ytmdajmdjmdbonaa
open Go.RowKit
set_option linter.unusedSimpArgs false
set_option linter.unusedVariables false
set_option maxRecDepth 100000

def TermPost (M : Nat → List Int) (v : Nat) (w : World) (e : Ending) (w' : World) : Prop :=
  ((48 < (M v).length ∧ e = .returned (.tuple #[.slice none 0 0, .bool false])) ∨ ((M v).length ≤ 48 ∧ ∃ u, e = .returned (.tuple #[u, .bool true]) ∧ OwnI w' w.heap.size u (M v))) ∧ Below w.heap.size w w'

set_option maxHeartbeats 2000000 in
theorem term_any (V : Nat) (ss : List Sym) (D : Nat → List Int) (rt d : Nat → Nat) (L R : List Nat) (gb base : Nat) (G : List Nd) (M : Nat → List Int) (v : Nat) (w : World) (hmay : mayB ss = true) (h : GraphAt w base gb G) (hfull : Full V ss G D rt d L R M) (hN : G.length ≤ 1000) (hv : v < G.length) :
    Calls Try.prog 21 #[.pointer (some ⟨gb, 0, none⟩), .int .i64 (v : Int)] w (TermPost M v w) := by
  have HG := Lib.hid h
  have HF := Lib.hid hfull
  have HM := Lib.hid hmay
  have HNN := Lib.hid hN
  have HVG := Lib.hid hv
  obtain ⟨r1, r2, r3⟩ := hfull.cls.fo.root hv
  have hlow := hfull.low v hv
  have hlen := hfull.len _ r1
  rw [← hlow] at hlen
  obtain ⟨q, hq⟩ : ∃ q, q = rt v := ⟨_, rfl⟩
  have HQ := Lib.hid hq
  rw [← hq] at r1 hlen
  obtain ⟨nb, cap, _, hnb, hcap, hcell, hcells⟩ := h.cells (by omega)
  obtain ⟨_, _, c3, _⟩ := hcells q r1
  rw [ndAt_len, hlen] at c3
  obtain ⟨N, hNe⟩ : ∃ N, N = G.length := ⟨_, rfl⟩
  rw [← hNe] at hcell hcap r1
  obtain ⟨l, hl⟩ : ∃ l, l = (M v).length := ⟨_, rfl⟩
  rw [← hl] at c3
  have HL := Lib.hid hl
  have z0 : (0 : Int) ≤ (q : Int) := by omega
  have z1 : (q : Int) < (N : Int) := by omega
  clear h hfull hmay hN hv r2 r3 hlow hlen hq hcells hNe hl
  have hd : Below w.heap.size w w.drew := (Below.refl w.heap.size w).drew
  have HD := Lib.hid hd
  clear hd
  by_cases hlong : 48 < l
  · have hmin : min l 49 = 49 := by omega
    rw [hmin] at c3
    have HLONG := Lib.hid hlong
    clear hmin hlong
    go_enter Try.func21, Try.ntmps21
    go_wp2_with fail
    refine wp_region_held_drew (S := (fun y => y.cell? ⟨gb, 0, none⟩ = some (.slice (some ⟨nb, 0, none⟩) N cap) ∧ y.cell? ⟨nb, q * 4 + 3, none⟩ = some (.int .i64 ((49 : Nat) : Int)))) (by kernel_rfl) ⟨hcell, c3⟩ (fun hHeld => ?_)
    refine takeH (i := 0) (v := ?_) rfl rfl (by kernel_rfl) (by kernel_rfl) (by kernel_rfl) (fun _ _ _ h => h) (by rfl) ?_ hHeld ?_
    rotate_left
    · (intro w hSw; (try dsimp only at hSw); first | (go_simp; done) | (go_simp; with_reducible rfl))
    simp only [Act.put, List.setIfInBounds_toArray, List.set_cons_zero, List.set_cons_succ]
    refine takeH (i := 1) (v := ?_) rfl rfl (by kernel_rfl) (by kernel_rfl) (by kernel_rfl) (fun _ _ _ h => h) (by rfl) ?_ hHeld ?_
    rotate_left
    · (intro w hSw; (try dsimp only at hSw); first | (go_simp; done) | (go_simp; with_reducible rfl))
    simp only [Act.put, List.setIfInBounds_toArray, List.set_cons_zero, List.set_cons_succ]
    refine takeH (i := 2) (v := ?_) rfl rfl (by kernel_rfl) (by kernel_rfl) (by kernel_rfl) (fun _ _ _ h => h) (by rfl) ?_ hHeld ?_
    rotate_left
    · (intro w hSw; (try dsimp only at hSw); first | (go_simp; done) | (go_simp; with_reducible rfl))
    simp only [Act.put, List.setIfInBounds_toArray, List.set_cons_zero, List.set_cons_succ]
    refine takeH (i := 3) (v := ?_) rfl rfl (by kernel_rfl) (by kernel_rfl) (by kernel_rfl) (fun _ _ _ h => h) (by rfl) ?_ hHeld ?_
    rotate_left
    · (intro w hSw; (try dsimp only at hSw); first | (go_simp; done) | (go_simp; with_reducible rfl))
    simp only [Act.put, List.setIfInBounds_toArray, List.set_cons_zero, List.set_cons_succ]
    refine takeH (i := 4) (v := ?_) rfl rfl (by kernel_rfl) (by kernel_rfl) (by kernel_rfl) (fun _ _ _ h => h) (by rfl) ?_ hHeld ?_
    rotate_left
    · (intro w hSw; (try dsimp only at hSw); first | (go_simp; done) | (go_simp; with_reducible rfl))
    simp only [Act.put, List.setIfInBounds_toArray, List.set_cons_zero, List.set_cons_succ]
    refine takeH (i := 5) (v := ?_) rfl rfl (by kernel_rfl) (by kernel_rfl) (by kernel_rfl) (fun _ _ _ h => h) (by rfl) ?_ hHeld ?_
    rotate_left
    · (intro w hSw; (try dsimp only at hSw); first | (go_simp; done) | (go_simp; with_reducible rfl))
    simp only [Act.put, List.setIfInBounds_toArray, List.set_cons_zero, List.set_cons_succ]
    refine wpAnyH_ready (rs := [6]) (by kernel_rfl) (by simp) ?_
    refine AllReadyH.cons rfl (fun K hK => ?_) AllReadyH.nil
    go_simp
    refine (root_any gb base v G rt d _ (HG.out.on HD.out) HF.out.cls.fo HVG.out HNN.out).mono ?_
    rintro e w1 ⟨rfl, rfl⟩
    rw [← HQ.out]
    go_wp2_with fail
    refine hK.out _ _ ?_ (fun hHeld => ?_)
    · exact ⟨hcell, c3⟩
    clear hK K
    refine takeH (i := 7) (v := ?_) rfl rfl (by kernel_rfl) (by kernel_rfl) (by kernel_rfl) (fun _ _ _ h => h) (by rfl) ?_ hHeld ?_
    rotate_left
    · (intro w hSw; (try dsimp only at hSw); first | (go_simp; done) | (go_simp; with_reducible rfl))
    simp only [Act.put, List.setIfInBounds_toArray, List.set_cons_zero, List.set_cons_succ]
    refine takeH (i := 8) (v := ?_) rfl rfl (by kernel_rfl) (by kernel_rfl) (by kernel_rfl) (fun _ _ _ h => h) (by rfl) ?_ hHeld ?_
    rotate_left
    · (intro w hSw; (try dsimp only at hSw); first | (go_simp; done) | (go_simp; with_reducible rfl))
    simp only [Act.put, List.setIfInBounds_toArray, List.set_cons_zero, List.set_cons_succ]
    refine takeH (i := 9) (v := ?_) rfl rfl (by kernel_rfl) (by kernel_rfl) (by kernel_rfl) (fun _ _ _ h => h) (by rfl) ?_ hHeld ?_
    rotate_left
    · (intro w hSw; (try dsimp only at hSw); first | (go_simp; done) | (go_simp; with_reducible rfl))
    simp only [Act.put, List.setIfInBounds_toArray, List.set_cons_zero, List.set_cons_succ]
    refine takeH (i := 10) (v := ?_) rfl rfl (by kernel_rfl) (by kernel_rfl) (by kernel_rfl) (fun _ _ _ h => h) (by rfl) ?_ hHeld ?_
    rotate_left
    · (intro w hSw; (try dsimp only at hSw); first | (go_simp; done) | (go_simp; with_reducible rfl))
    simp only [Act.put, List.setIfInBounds_toArray, List.set_cons_zero, List.set_cons_succ]
    refine wpAnyH_done (by kernel_rfl) ?_ _
    clear hcell c3
    go_wp2
    go_ret2
    exact ⟨.inl ⟨by rw [← HL.out]; exact HLONG.out, rfl⟩, HD.out⟩
  · have hmin : min l 49 = l := by omega
    rw [hmin] at c3
    have hl48 : (l : Int) ≤ 48 := by omega
    have hg48 : decide ((l : Int) > 48) = false := by simp; omega
    have HML : Hid ((M v).length ≤ 48) := by show (M v).length ≤ 48; rw [← HL.out]; omega
    clear hmin hlong
    go_enter Try.func21, Try.ntmps21
    go_wp2_with fail
    refine wp_region_held_drew (S := (fun y => y.cell? ⟨gb, 0, none⟩ = some (.slice (some ⟨nb, 0, none⟩) N cap) ∧ y.cell? ⟨nb, q * 4 + 3, none⟩ = some (.int .i64 (l : Int)))) (by kernel_rfl) ⟨hcell, c3⟩ (fun hHeld => ?_)
    refine takeH (i := 0) (v := ?_) rfl rfl (by kernel_rfl) (by kernel_rfl) (by kernel_rfl) (fun _ _ _ h => h) (by rfl) ?_ hHeld ?_
    rotate_left
    · (intro w hSw; (try dsimp only at hSw); first | (go_simp; done) | (go_simp; with_reducible rfl))
    simp only [Act.put, List.setIfInBounds_toArray, List.set_cons_zero, List.set_cons_succ]
    refine takeH (i := 1) (v := ?_) rfl rfl (by kernel_rfl) (by kernel_rfl) (by kernel_rfl) (fun _ _ _ h => h) (by rfl) ?_ hHeld ?_
    rotate_left
    · (intro w hSw; (try dsimp only at hSw); first | (go_simp; done) | (go_simp; with_reducible rfl))
    simp only [Act.put, List.setIfInBounds_toArray, List.set_cons_zero, List.set_cons_succ]
    refine takeH (i := 2) (v := ?_) rfl rfl (by kernel_rfl) (by kernel_rfl) (by kernel_rfl) (fun _ _ _ h => h) (by rfl) ?_ hHeld ?_
    rotate_left
    · (intro w hSw; (try dsimp only at hSw); first | (go_simp; done) | (go_simp; with_reducible rfl))
    simp only [Act.put, List.setIfInBounds_toArray, List.set_cons_zero, List.set_cons_succ]
    refine takeH (i := 3) (v := ?_) rfl rfl (by kernel_rfl) (by kernel_rfl) (by kernel_rfl) (fun _ _ _ h => h) (by rfl) ?_ hHeld ?_
    rotate_left
    · (intro w hSw; (try dsimp only at hSw); first | (go_simp; done) | (go_simp; with_reducible rfl))
    simp only [Act.put, List.setIfInBounds_toArray, List.set_cons_zero, List.set_cons_succ]
    refine takeH (i := 4) (v := ?_) rfl rfl (by kernel_rfl) (by kernel_rfl) (by kernel_rfl) (fun _ _ _ h => h) (by rfl) ?_ hHeld ?_
    rotate_left
    · (intro w hSw; (try dsimp only at hSw); first | (go_simp; done) | (go_simp; with_reducible rfl))
    simp only [Act.put, List.setIfInBounds_toArray, List.set_cons_zero, List.set_cons_succ]
    refine takeH (i := 5) (v := ?_) rfl rfl (by kernel_rfl) (by kernel_rfl) (by kernel_rfl) (fun _ _ _ h => h) (by rfl) ?_ hHeld ?_
    rotate_left
    · (intro w hSw; (try dsimp only at hSw); first | (go_simp; done) | (go_simp; with_reducible rfl))
    simp only [Act.put, List.setIfInBounds_toArray, List.set_cons_zero, List.set_cons_succ]
    refine wpAnyH_ready (rs := [6]) (by kernel_rfl) (by simp) ?_
    refine AllReadyH.cons rfl (fun K hK => ?_) AllReadyH.nil
    go_simp
    refine (root_any gb base v G rt d _ (HG.out.on HD.out) HF.out.cls.fo HVG.out HNN.out).mono ?_
    rintro e w1 ⟨rfl, rfl⟩
    rw [← HQ.out]
    go_wp2_with fail
    refine hK.out _ _ ?_ (fun hHeld => ?_)
    · exact ⟨hcell, c3⟩
    clear hK K
    refine takeH (i := 7) (v := ?_) rfl rfl (by kernel_rfl) (by kernel_rfl) (by kernel_rfl) (fun _ _ _ h => h) (by rfl) ?_ hHeld ?_
    rotate_left
    · (intro w hSw; (try dsimp only at hSw); first | (go_simp; done) | (go_simp; with_reducible rfl))
    simp only [Act.put, List.setIfInBounds_toArray, List.set_cons_zero, List.set_cons_succ]
    refine takeH (i := 8) (v := ?_) rfl rfl (by kernel_rfl) (by kernel_rfl) (by kernel_rfl) (fun _ _ _ h => h) (by rfl) ?_ hHeld ?_
    rotate_left
    · (intro w hSw; (try dsimp only at hSw); first | (go_simp; done) | (go_simp; with_reducible rfl))
    simp only [Act.put, List.setIfInBounds_toArray, List.set_cons_zero, List.set_cons_succ]
    refine takeH (i := 9) (v := ?_) rfl rfl (by kernel_rfl) (by kernel_rfl) (by kernel_rfl) (fun _ _ _ h => h) (by rfl) ?_ hHeld ?_
    rotate_left
    · (intro w hSw; (try dsimp only at hSw); first | (go_simp; done) | (go_simp; with_reducible rfl))
    simp only [Act.put, List.setIfInBounds_toArray, List.set_cons_zero, List.set_cons_succ]
    refine takeH (i := 10) (v := ?_) rfl rfl (by kernel_rfl) (by kernel_rfl) (by kernel_rfl) (fun _ _ _ h => h) (by rfl) ?_ hHeld ?_
    rotate_left
    · (intro w hSw; (try dsimp only at hSw); first | (go_simp; done) | (go_simp; with_reducible rfl))
    simp only [Act.put, List.setIfInBounds_toArray, List.set_cons_zero, List.set_cons_succ]
    refine wpAnyH_done (by kernel_rfl) ?_ _
    clear hcell c3
    go_wp2_with fail
    refine (write_any V ss D rt d L R gb base G M w.drew HM.out (HG.out.on HD.out) HF.out HNN.out 48 v _ [] _ HVG.out HML.out (Below.refl _ _) OwnI.nil_ (by have := HML.out; simp; omega)).mono ?_
    rintro e w3 ⟨v3, rfl, hv3, hb3⟩
    have HV3 : Hid (OwnI w3 w.heap.size v3 (M v)) := (hv3.lower HD.out.size).cast (by simp)
    have HB3 := Lib.hid (HD.out.trans (hb3.mono HD.out.size))
    clear hv3 hb3
    go_wp2
    go_ret2
    exact ⟨.inr ⟨HML.out, _, rfl, HV3.out⟩, HB3.out⟩

theorem rows_ret {R : Ending → World → Prop} {a : Act} {w : World} {g : Nat} {b : Bool} {cs : Array Value} (h4 : a.tmps.getD 6 undef = .pointer (some ⟨g, 0, none⟩)) (h5 : a.tmps.getD 7 undef = .bool b) (hd : a.defers = [])
    (hg : w.heap[g]? = some (.cells cs 43 (0, 0))) (hs : cs.size = 1) (hR : R (.returned (.tuple #[.agg cs, .bool b])) w) : bodyPost Try.prog Try.f13 R .ret a w := by
  refine bodyPost_ret (v := .tuple #[.agg cs, .bool b]) ?_ hd hR
  rw [results_cell_tmp rfl, h4, h5]
  have := run_loadVar_row (P := Try.prog) w g 43 43 cs (0, 0) _ hg Try.underlying43 rfl (by rw [hs]; exact (zero_of_info classes_info).2)
  simp [asAddr, Result.andThen, this]
theorem rows_any (A A1 A2 : Option Addr) (n c n1 c1 n2 c2 : Nat) (ss : List Sym) (a b : List Int) (w : World) (hs : SymsAt w w.heap.size A n ss) (hn : n ≤ maxLen) (ha : IntsAt w w.heap.size A1 n1 a) (hb : IntsAt w w.heap.size A2 n2 b) (hra : rowB ss a = true) (hrb : rowB ss b = true) :
    Calls Try.prog 13 #[.slice A n c, .slice A1 n1 c1, .slice A2 n2 c2] w (EquPost 0 ss a b w) := by
  obtain ⟨hzC, hzsC⟩ := zero_of_info classes_info
  have HS := Lib.hid hs
  have HA := Lib.hid ha
  have HB := Lib.hid hb
  have HRA := Lib.hid hra
  have HRB := Lib.hid hrb
  clear hs ha hb hra hrb
  go_enter Try.func13, Try.ntmps13
  go_wp2_with fail
  obtain ⟨w1, hw1⟩ : ∃ w1, w1 = w.alloc (.cells #[.slice none 0 0] 43) := ⟨_, rfl⟩
  have hb1 := below_new w (.cells #[.slice none 0 0] 43)
  have hsz1 : w1.heap.size = w.heap.size + 1 := by rw [hw1]; simp
  have hg1 : w1.heap[w.heap.size]? = some (.cells #[.slice none 0 0] 43 (0, 0)) := by rw [hw1]; exact heap_alloc_new _ _
  rw [← hw1] at hb1 ⊢
  have HB1 := Lib.hid hb1
  have HG1 := Lib.hid hg1
  have HSZ := Lib.hid hsz1
  clear hw1 hb1 hg1 hsz1
  have H := equate_any A A1 A2 n c n1 c1 n2 c2 0 (by omega) ss a b w1 (HS.out.on HB1.out) hn (HA.out.on HB1.out) (HB.out.on HB1.out) HRA.out HRB.out
  have e0 : (((0 : Nat) : Int)) = 0 := rfl
  rw [e0] at H
  refine H.mono ?_
  rintro e w2 ⟨h2, hb2⟩
  have HB2 : Hid (Below w.heap.size w w2) := HB1.out.trans (hb2.mono HB1.out.size)
  have HRW : Hid (w2.heap[w.heap.size]? = some (.cells #[.slice none 0 0] 43 (0, 0))) := by
    show w2.heap[w.heap.size]? = _
    rw [hb2.block _ (by have := HSZ.out; omega)]; exact HG1.out
  have hcr : w2.cell? ⟨w.heap.size, 0, none⟩ = some (.slice none 0 0) := by rw [cell_of_row _ _ 0 _ _ _ HRW.out]; rfl
  have hfr : w2.frozen? ⟨w.heap.size, 0, none⟩ = false := frozen_of_row _ _ _ _ _ HRW.out
  rcases h2 with ⟨rfl, hno⟩ | ⟨v, G, D, rt, d, L, R, M, rfl, hown, hf, hN, hcan⟩
  · have HNO := Lib.hid hno
    clear hno hb2 H e0
    go_wp2
    refine rows_ret (cs := #[.slice none 0 0]) rfl rfl rfl ?_ rfl ?_
    · exact heap_setCell_same _ _ 0 _ _ _ HRW.out
    · exact ⟨.inl ⟨rfl, HNO.out⟩, HB2.out.setCell (Nat.le_refl _) _⟩
  · have HOWN : Hid (OwnN w2 (w.heap.size + 1) v G) := by rw [← HSZ.out]; exact hown
    have HF := Lib.hid hf
    have HCAN := Lib.hid hcan
    have HN := Lib.hid hN
    obtain ⟨A8, L8, c8, rfl⟩ : ∃ A8 L8 c8, v = .slice A8 L8 c8 := by
      obtain ⟨vs, _, q, _⟩ := hown
      rcases q.2 with ⟨q, q'⟩ | ⟨g, cap, cur, q, _⟩
      · exact ⟨none, 0, 0, q⟩
      · exact ⟨_, _, _, q⟩
    clear hown hf hN hcan hb2 H e0
    go_wp2
    refine rows_ret (cs := #[.slice A8 L8 c8]) rfl rfl rfl ?_ rfl ?_
    · exact heap_setCell_same _ _ 0 _ _ _ HRW.out
    · exact ⟨.inr ⟨_, G, D, rt, d, L, R, M, rfl, ownN_setCell HOWN.out _, HF.out, HN.out, HCAN.out⟩, HB2.out.setCell (Nat.le_refl _) _⟩

/-- What binds tells of what stands for variables. -/
def BindsTold (M : Nat → List Int) (w : World) (e : Ending) (w' : World) : Prop :=
  ∃ v E is bs, e = .returned (.tuple #[v, .bool is, .int .i64 E]) ∧ OwnB w' w.heap.size v bs ∧ Below w.heap.size w w' ∧
    (((∀ v, v < 24 → (M v).length ≤ 48) ∧ E = 0 ∧ is = true ∧ bs = bdsOf M 24) ∨ ((∃ v, v < 24 ∧ 48 < (M v).length) ∧ E = 401 ∧ is = false ∧ bs = []))
/-- A term that begins with a variable is just that variable. -/
theorem trm_isV {V : Nat} {ss : List Sym} {r : List Int} {v : Nat} (h : trm V ss r 1) : isV r v = decide (intAt r 0 = -1 - (v : Int)) := by
  cases r with
  | nil => have := trm_pos h; simp at this
  | cons c r =>
    by_cases e : c = -1 - (v : Int)
    · have hn : r = [] := by
        rcases trm_cons h with ⟨_, _, i, h3, h4⟩ | ⟨h1, _⟩
        · obtain rfl : i = 0 := by omega
          exact trm_zero h4
        · omega
      subst hn
      subst e
      rw [isV_iff.2 rfl]
      exact (decide_eq_true rfl).symm
    · rw [show decide (intAt (c :: r) 0 = -1 - (v : Int)) = false from decide_eq_false e]
      cases hv : isV (c :: r) v
      · rfl
      · have := isV_iff.1 hv
        injection this with q _
        exact absurd q e

set_option maxHeartbeats 4000000 in
theorem bindsU_any (ss : List Sym) (D : Nat → List Int) (rt d : Nat → Nat) (L R : List Nat) (base : Nat) (x : Value) (G : List Nd) (M : Nat → List Int) (w : World) (hmay : mayB ss = true) (h : OwnN w base x G) (hbase : base ≤ w.heap.size) (hfull : Full 24 ss G D rt d L R M) (hN : G.length ≤ 1000) :
    Calls Try.prog 14 #[.agg #[x]] w (BindsTold M w) := by
  obtain ⟨hzC, hzsC⟩ := zero_of_info classes_info
  have HX := Lib.hid h
  have HF := Lib.hid hfull
  have HM := Lib.hid hmay
  have HNN := Lib.hid hN
  have hmany := hfull.cls.st.many
  have HMANY := Lib.hid hmany
  clear h hfull hmay hN hmany
  go_enter Try.func14, Try.ntmps14
  go_wp2_with fail
  have HG0 : Hid (GraphAt (w.alloc (.cells #[x] 43)) base w.heap.size G) := by
    refine ⟨x, heap_alloc_new _ _, hbase, ?_⟩
    obtain ⟨vs, k1, k2, k3⟩ := HX.out
    exact ⟨vs, k1, World.ownsRow.alloc k2 _, fun i hi => (k3 i hi).alloc _⟩
  have HB0 : Hid (Below w.heap.size w (w.alloc (.cells #[x] 43))) := below_new _ _
  obtain ⟨w0, hw0⟩ : ∃ w0, w0 = w.alloc (.cells #[x] 43) := ⟨_, rfl⟩
  obtain ⟨gb, hgb⟩ : ∃ gb, gb = w.heap.size := ⟨_, rfl⟩
  have hB : w.heap.size = gb := hgb.symm
  rw [← hw0] at HG0 HB0 ⊢
  have HGBS := Lib.hid hB
  clear hw0 hgb hB HX
  go_loopw [5, 9] (fun q i wr => ∃ k : Nat, i = .int .i64 k ∧ k ≤ 24 ∧ OwnB wr w0.heap.size q (bdsOf M k) ∧ (∀ v, v < k → (M v).length ≤ 48) ∧ Below w0.heap.size w0 wr) (fun _ i _ => 24 - (intOf i).toNat)
  case atStart => exact ⟨0, rfl, by omega, OwnB.nil_, fun v hv => absurd hv (by omega), Below.refl _ _⟩
  case round =>
    obtain ⟨k, rfl, hk, hown, hall, hbw⟩ := hrel
    have HOWN := Lib.hid hown
    have HALL := Lib.hid hall
    have HBW := Lib.hid hbw
    have HBWW : Hid (Below w.heap.size w wr) := HB0.out.trans (hbw.mono HB0.out.size)
    have hsz := HBWW.out.size
    have hsz0 := hbw.size
    clear hown hall hbw
    by_cases hlt : k < 24
    · have HSUCC := Lib.hid (bdsOf_succ M k)
      have HTRM := Lib.hid (HF.out.trm (n := k) (by have := HMANY.out; omega))
      go_wp2_with fail
      refine (term_any 24 ss D rt d L R w.heap.size base G M k wr HM.out (HG0.out.on HBW.out) HF.out HNN.out (by have := HMANY.out; omega)).mono ?_
      rintro e w1 ⟨h1, hb1⟩
      have HB1 := Lib.hid (HBW.out.trans (hb1.mono HBW.out.size))
      have HB1W := Lib.hid (HBWW.out.trans (hb1.mono hsz))
      have HO1 := Lib.hid (HOWN.out.on hb1)
      have hsz1 := HB1W.out.size
      rcases h1 with ⟨hlong, rfl⟩ | ⟨hl, u, rfl, hu⟩
      · have HLONG := Lib.hid hlong
        clear hlong hb1
        go_wp2
        go_ret3
        exact ⟨_, 401, false, [], rfl, OwnB.nil_, HB1W.out, .inr ⟨⟨k, hlt, HLONG.out⟩, rfl, rfl, rfl⟩⟩
      · have HL1 := Lib.hid hl
        have HISV := Lib.hid (trm_isV (v := k) HTRM.out)
        have hpos := trm_pos HTRM.out
        have HU := Lib.hid (hu.lower hsz0)
        obtain ⟨A3, c3, rfl, _, hi3⟩ := hu.intsAt
        obtain ⟨b3, o3, rfl, _, hc3⟩ := hi3.at_ (by omega)
        have c0 : w1.cell? ⟨b3, o3, none⟩ = some (.int .i64 (intAt (M k) 0)) := by have := hc3 0 (by omega); rw [Nat.add_zero] at this; exact this
        obtain ⟨y, hy⟩ : ∃ y, y = intAt (M k) 0 := ⟨_, rfl⟩
        obtain ⟨l, hle⟩ : ∃ l, l = (M k).length := ⟨_, rfl⟩
        rw [← hy] at c0 HISV
        rw [← hle] at hpos ⊢
        have HLE := Lib.hid hle
        have hp0 : (0 : Int) < (l : Int) := by omega
        have HU2 : Hid (OwnI w1 w0.heap.size (.slice (some ⟨b3, o3, none⟩) l c3) (M k)) := by rw [hle]; exact HU.out
        clear hl hb1 hu hi3 hc3 hy hle HU
        by_cases hyk : y = -1 - (k : Int)
        · subst hyk
          have HVT : Hid (isV (M k) k = true) := by show isV (M k) k = true; rw [HISV.out]; exact decide_eq_true rfl
          clear HISV
          go_wp2
          go_roundw
          case rel => exact ⟨k + 1, by go_num, by omega, HO1.out.cast (by rw [HSUCC.out, HVT.out]; simp), fun v hv => if e : v = k then by rw [e]; exact HL1.out else HALL.out v (by omega), HB1.out⟩
          case measure => simp [intOf]; omega
        · have HVT : Hid (isV (M k) k = false) := by show isV (M k) k = false; rw [HISV.out]; exact decide_eq_false hyk
          have hne : (y != -1 - (k : Int)) = true := by simp [hyk]
          clear HISV
          go_wp2_with (at_builtin
                       refine app_bind1 rfl (.tmp 25) (.tmp 29) rfl w0.heap.size _ _ (k : Int) (M k) _ rfl HO1.out HU2.out rfl (by have := bdsOf_len M k; omega) HB1.out.size ?_
                       intro v5 w5 hown5 hb5
                       have HO5 := Lib.hid hown5
                       have HB5 := Lib.hid hb5
                       clear hown5 hb5)
          go_roundw
          case rel => exact ⟨k + 1, by go_num, by omega, HO5.out.cast (by rw [HSUCC.out, HVT.out]; simp), fun v hv => if e : v = k then by rw [e]; exact HL1.out else HALL.out v (by omega), HB1.out.trans HB5.out⟩
          case measure => simp [intOf]; omega
    · obtain rfl : k = 24 := by omega
      go_wp2
      go_ret3
      exact ⟨_, 0, true, _, rfl, HOWN.out.lower HB0.out.size, HBWW.out, .inl ⟨HALL.out, rfl, rfl, rfl⟩⟩

def UniPost (ss : List Sym) (a b : List Int) (w : World) (e : Ending) (w' : World) : Prop :=
  ∃ v E is bs, e = .returned (.tuple #[v, .bool is, .int .i64 E]) ∧ OwnB w' w.heap.size v bs ∧ Below w.heap.size w w' ∧ UniR ss a b E is bs

set_option maxHeartbeats 2000000 in
theorem unify_any (A A1 A2 : Option Addr) (n c n1 c1 n2 c2 : Nat) (ss : List Sym) (a b : List Int) (w : World) (hs : SymsAt w w.heap.size A n ss) (hn : n ≤ maxLen) (hnc : n ≤ c) (ha : IntsAt w w.heap.size A1 n1 a) (hn1 : n1 ≤ maxLen) (hb : IntsAt w w.heap.size A2 n2 b) (hn2 : n2 ≤ maxLen) :
    Calls Try.prog 6 #[.slice A n c, .slice A1 n1 c1, .slice A2 n2 c2] w (UniPost ss a b w) := by
  obtain ⟨hzC, hzsC⟩ := zero_of_info classes_info
  have HS := Lib.hid hs
  have HA := Lib.hid ha
  have HB := Lib.hid hb
  have HLA := Lib.hid ha.len
  have HLB := Lib.hid hb.len
  clear hs ha hb
  cases h1 : rowB ss a
  · have HNO : Hid (UniR ss a b 400 false []) := .inl ⟨by rw [h1]; rfl, rfl, rfl, rfl⟩
    go_enter Try.func6, Try.ntmps6
    go_wp2_with fail
    refine (isRow_any A A1 n c n1 c1 ss a _ HS.out hn hnc HA.out hn1).mono ?_
    rintro e w1 ⟨rfl, hb1⟩
    rw [h1]
    clear h1
    go_wp2
    go_ret3
    exact ⟨_, 400, false, [], rfl, OwnB.nil_, hb1, HNO.out⟩
  cases h2 : rowB ss b
  · have HNO : Hid (UniR ss a b 400 false []) := .inl ⟨by rw [h1, h2]; rfl, rfl, rfl, rfl⟩
    go_enter Try.func6, Try.ntmps6
    go_wp2_with fail
    refine (isRow_any A A1 n c n1 c1 ss a _ HS.out hn hnc HA.out hn1).mono ?_
    rintro e w1 ⟨rfl, hb1⟩
    rw [h1]
    have HB1 := Lib.hid hb1
    clear h1 hb1
    go_wp2_with fail
    refine (isRow_any A A2 n c n2 c2 ss b _ (HS.out.on HB1.out) hn hnc (HB.out.on HB1.out) hn2).mono ?_
    rintro e w2 ⟨rfl, hb2⟩
    rw [h2]
    have HB2 := Lib.hid (HB1.out.trans (hb2.mono HB1.out.size))
    clear h2 hb2
    go_wp2
    go_ret3
    exact ⟨_, 400, false, [], rfl, OwnB.nil_, HB2.out, HNO.out⟩
  have HM := Lib.hid (row_parts h1).1
  have HROW : Hid ((rowB ss a && rowB ss b) = true) := by show (rowB ss a && rowB ss b) = true; rw [h1, h2]; rfl
  have HR1 := Lib.hid h1
  have HR2 := Lib.hid h2
  go_enter Try.func6, Try.ntmps6
  go_wp2_with fail
  refine (isRow_any A A1 n c n1 c1 ss a _ HS.out hn hnc HA.out hn1).mono ?_
  rintro e w1 ⟨rfl, hb1⟩
  rw [h1]
  have HB1 := Lib.hid hb1
  clear h1 hb1
  go_wp2_with fail
  refine (isRow_any A A2 n c n2 c2 ss b _ (HS.out.on HB1.out) hn hnc (HB.out.on HB1.out) hn2).mono ?_
  rintro e w2 ⟨rfl, hb2⟩
  rw [h2]
  have HB2 := Lib.hid (HB1.out.trans (hb2.mono HB1.out.size))
  have hsz2 := HB2.out.size
  clear h2 hb2
  go_wp2_with fail
  refine (rows_any A A1 A2 n c n1 c1 n2 c2 ss a b w2 (HS.out.on HB2.out) hn (HA.out.on HB2.out) (HB.out.on HB2.out) HR1.out HR2.out).mono ?_
  rintro e w3 ⟨h3, hb3⟩
  have HB3 := Lib.hid (HB2.out.trans (hb3.mono hsz2))
  have hsz3 := HB3.out.size
  rcases h3 with ⟨rfl, hno⟩ | ⟨v, G, D, rt, d, L, R, M, rfl, hown, hf, hN, hcan⟩
  · have HU : Hid (UniR ss a b 0 false []) := .inr ⟨HROW.out, .inl ⟨fun θ hθ => by have := hno θ hθ; rw [farR_zero] at this; exact this, rfl, rfl, rfl⟩⟩
    clear hno hb3
    go_wp2
    go_ret3
    exact ⟨_, 0, false, [], rfl, OwnB.nil_, HB3.out.alloc hsz3 _, HU.out⟩
  · have HOWN : Hid (OwnN w3 w2.heap.size v G) := hown
    have HF : Hid (Full 24 ss G D rt d L R M) := hf
    have HN := Lib.hid hN
    have HCAN : Hid (Canon 24 ss a b M) := by
      have := hcan
      rw [farR_zero] at this
      exact this
    obtain ⟨A8, L8, c8, rfl⟩ : ∃ A8 L8 c8, v = .slice A8 L8 c8 := by
      obtain ⟨vs, _, q, _⟩ := hown
      rcases q.2 with ⟨q, q'⟩ | ⟨g, cap, cur, q, _⟩
      · exact ⟨none, 0, 0, q⟩
      · exact ⟨_, _, _, q⟩
    have hb4 := below_new w3 (.cells #[.slice A8 L8 c8] 43)
    have HOW4 : Hid (OwnN (w3.alloc (.cells #[.slice A8 L8 c8] 43)) w2.heap.size (.slice A8 L8 c8) G) := by
      obtain ⟨vs, k1, k2, k3⟩ := HOWN.out
      exact ⟨vs, k1, World.ownsRow.alloc k2 _, fun i hi => (k3 i hi).alloc _⟩
    have HB4 := Lib.hid (HB3.out.trans (hb4.mono hsz3))
    have HSZ4 : Hid (w2.heap.size ≤ (w3.alloc (.cells #[.slice A8 L8 c8] 43)).heap.size) := by have := hb3.size; show _ ≤ _; simp; omega
    clear hown hf hN hcan hb3 hb4
    go_wp2_with fail
    obtain ⟨w4, hw4⟩ : ∃ w4, w4 = w3.alloc (.cells #[.slice A8 L8 c8] 43) := ⟨_, rfl⟩
    rw [← hw4] at HOW4 HB4 HSZ4 ⊢
    clear hw4
    have hsz4 := HB4.out.size
    refine (bindsU_any ss D rt d L R w2.heap.size (.slice A8 L8 c8) G M w4 HM.out HOW4.out HSZ4.out HF.out HN.out).mono ?_
    rintro e w7 ⟨v7, E7, is7, bs7, rfl, hv7, hb7, hd7⟩
    have HV7 := Lib.hid (hv7.lower hsz4)
    have HB7 := Lib.hid (HB4.out.trans (hb7.mono hsz4))
    have HU : Hid (UniR ss a b E7 is7 bs7) := .inr ⟨HROW.out, .inr ⟨M, HCAN.out, hd7⟩⟩
    clear hv7 hb7 hd7
    go_wp2
    go_ret3
    exact ⟨_, E7, is7, bs7, rfl, HV7.out, HB7.out, HU.out⟩
end Go.Proofs.Ytmdajmdjmdbonaa
