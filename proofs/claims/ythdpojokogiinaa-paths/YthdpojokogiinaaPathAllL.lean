/-
  The paths of an expression, one by one, in plain words and in memory; the walk of the law PathAll.
-/
import Derived.Test.YthdpojokogiinaaAwakeR
namespace Go.Proofs.Ythdpojokogiinaa
open Go.RowKit
set_option linter.unusedSimpArgs false
set_option linter.unusedVariables false
set_option maxRecDepth 100000

/-- The positions that lead to code i. -/
def wyAt (ss : List Sym) (t : List Int) (i : Nat) : List Int := ((wk ss t []).getD i ([], 0)).1
section
variable {V : Nat} {ss : List Sym} {t : List Int} {i j : Nat}
theorem wk_at (hi : i < t.length) : (wk ss t [])[i]? = some (wyAt ss t i, intAt t i) := by
  have hl : i < (wk ss t []).length := by rw [wk_length]; exact hi
  have h2 : ((wk ss t []).map (·.2))[i]? = some (intAt t i) := by rw [wk_codes]; exact intAt_get hi
  rw [List.getElem?_map, List.getElem?_eq_getElem hl] at h2
  injection h2 with h2
  unfold wyAt
  rw [List.getD_eq_getElem?_getD, List.getElem?_eq_getElem hl, ← h2]; rfl
theorem wk_mem (hi : i < t.length) : (wyAt ss t i, intAt t i) ∈ wk ss t [] := List.mem_of_getElem? (wk_at hi)
theorem pth_at (hi : i < t.length) : rowOf (pths ss t []) i = wyAt ss t i ++ [max (intAt t i) (-1)] := by
  have h := rowOf_get (L := pths ss t []) (i := i) (by rw [pths_length]; exact hi)
  unfold pths at h
  rw [List.getElem?_map, wk_at hi] at h
  injection h with h
  unfold pths
  rw [← h]; rfl
theorem pops_len : ∀ st : List (Nat × Nat), (pops st).length ≤ st.length
  | [] => Nat.le_refl _
  | (k, 0) :: s => by rw [pops_zero]; have := pops_len s; simp; omega
  | (k, m + 1) :: s => by rw [pops_succ]; simp
theorem nxt_len (a : Nat) (st : List (Nat × Nat)) : (nxt a st).length ≤ st.length + 1 := by
  cases a with
  | zero => rw [nxt_zero]; have := pops_len st; omega
  | succ a => rw [nxt_pos (by omega)]; simp
theorem wk_few : ∀ (r : List Int) (st : List (Nat × Nat)) (i : Nat) (p : List Int × Int), (wk ss r st)[i]? = some p → p.1.length ≤ st.length + i
  | [], _, _, _, h => by rw [wk_nil] at h; simp at h
  | c :: r, st, 0, p, h => by
    rw [wk_cons] at h
    simp at h
    rw [← h]; simp [wayL_length]
  | c :: r, st, i + 1, p, h => by
    rw [wk_cons, List.getElem?_cons_succ] at h
    have h1 := wk_few r _ i p h
    have h2 := nxt_len (arc ss c) st
    omega
theorem wy_len (hi : i < t.length) : (wyAt ss t i).length ≤ i := by
  have := wk_few (ss := ss) t [] i _ (wk_at hi)
  simpa using this
theorem wy_ne (h : xpr V ss t) (hi : i < t.length) (hj : j < i) : wyAt ss t i ≠ wyAt ss t j := by
  have hp := List.pairwise_iff_getElem.1 (xpr_ordered h) j i (by rw [wk_length]; omega) (by rw [wk_length]; exact hi) hj
  have e1 := wk_at (ss := ss) hi
  have e2 := wk_at (ss := ss) (t := t) (i := j) (by omega)
  rw [List.getElem?_eq_getElem (by rw [wk_length]; exact hi)] at e1
  rw [List.getElem?_eq_getElem (by rw [wk_length]; omega)] at e2
  injection e1 with e1
  injection e2 with e2
  rw [e1, e2] at hp
  intro e
  rw [e] at hp
  exact lx_irr _ hp
theorem pths_fit (h : exprB ss t = true) : ∀ r ∈ pths ss t [], r.length * 8 ≤ 140737488351232 := by
  intro r hr
  obtain ⟨i, hi, e⟩ := List.getElem_of_mem hr
  have g := rowOf_get hi
  rw [List.getElem?_eq_getElem hi, e] at g
  injection g with g
  rw [pths_length] at hi
  rw [g, pth_at hi]
  have := wy_len (ss := ss) hi
  have := (expr_len h).2
  simp
  omega
/-- A path in memory: its positions, its code. -/
theorem path_cells {w : World} {B n : Nat} {A : Option Addr} (h : TupsAt w B A n (pths ss t [])) (hx : exprB ss t = true) (hi : i < t.length) :
    ∃ b off br offr cr, A = some ⟨b, off, none⟩ ∧ b < B ∧ w.cell? ⟨b, off + i, none⟩ = some (.slice (some ⟨br, offr, none⟩) ((wyAt ss t i).length + 1) cr) ∧ br < B ∧ (wyAt ss t i).length + 1 ≤ cr ∧ (wyAt ss t i).length ≤ 49 ∧
      w.cell? ⟨br, offr + (wyAt ss t i).length, none⟩ = some (.int .i64 (max (intAt t i) (-1))) ∧ IntsAt w B (some ⟨br, offr, none⟩) (wyAt ss t i).length (wyAt ss t i) := by
  have hl := h.len
  rw [pths_length] at hl
  obtain ⟨b, off, A', c, rfl, hb, hc, hr, _⟩ := h.one (i := i) (by omega)
  have hlen : (rowOf (pths ss t []) i).length = (wyAt ss t i).length + 1 := by rw [pth_at hi]; simp
  have hw := wy_len (ss := ss) hi
  have h49 := (expr_len hx).2
  rw [hlen] at hc hr
  obtain ⟨br, offr, rfl, hbr, hcl⟩ := hr.at_.at_ (by omega)
  refine ⟨b, off, br, offr, c, rfl, hb, hc, hbr, hr.cap, by omega, ?_, ?_⟩
  · have := hcl (wyAt ss t i).length (by omega)
    rw [this]
    show some (Value.int .i64 (intAt (rowOf (pths ss t []) i) (wyAt ss t i).length)) = _
    rw [pth_at hi]
    have e : intAt (wyAt ss t i ++ [max (intAt t i) (-1)]) (wyAt ss t i).length = max (intAt t i) (-1) := by
      have := intAt_get (xs := wyAt ss t i ++ [max (intAt t i) (-1)]) (i := (wyAt ss t i).length) (by simp)
      rw [List.getElem?_append_right (Nat.le_refl _), Nat.sub_self] at this
      injection this with this
      exact this.symm
    rw [e]
  · have := hr.at_.take (i := (wyAt ss t i).length) (by omega)
    rw [pth_at hi, List.take_append_of_le_length (Nat.le_refl _), List.take_of_length_le (Nat.le_refl _)] at this
    exact this
end
/-- Paths, where the argument is an expression, or is none. -/
theorem PthPost.yes {ss : List Sym} {t : List Int} {w w' : World} {e : Ending} (h : PthPost (pathsV ss t) (pathsE ss t) w e w') (hx : exprB ss t = true) :
    ∃ A c, e = .returned (.tuple #[.slice A t.length c, .int .i64 0]) ∧ TupsAt w' w'.heap.size A t.length (pths ss t []) ∧ Below w.heap.size w w' := by
  obtain ⟨v, rfl, h2, h3⟩ := h
  have e1 : pathsV ss t = pths ss t [] := by unfold pathsV; rw [hx]; rfl
  have e2 : pathsE ss t = 0 := by unfold pathsE; rw [hx]; rfl
  rw [e1] at h2
  obtain ⟨A, c, rfl, _, h4, _⟩ := h2.tupsAt (pths_fit hx)
  rw [pths_length] at h4
  exact ⟨A, c, by rw [e2, pths_length], h4, h3⟩
theorem PthPost.no {ss : List Sym} {t : List Int} {w w' : World} {e : Ending} (h : PthPost (pathsV ss t) (pathsE ss t) w e w') (hx : exprB ss t = false) :
    ∃ A c, e = .returned (.tuple #[.slice A 0 c, .int .i64 1200]) ∧ Below w.heap.size w w' := by
  obtain ⟨v, rfl, h2, h3⟩ := h
  have e1 : pathsV ss t = [] := by unfold pathsV; rw [hx]; rfl
  have e2 : pathsE ss t = 1200 := by unfold pathsE; rw [hx]; rfl
  rw [e1] at h2
  obtain ⟨A, c, rfl, _, _⟩ := h2.tupsAt (by simp)
  exact ⟨A, c, by rw [e2]; rfl, h3⟩

set_option maxHeartbeats 8000000 in
theorem pathAll_walk (A0 A1 : Option Addr) (n0 c0 n1 c1 : Nat) (ss : List Sym) (t : List Int) (w : World) (hs : SymsAt w w.heap.size A0 n0 ss) (hn0 : n0 ≤ maxLen) (hnc : n0 ≤ c0) (ha : IntsAt w w.heap.size A1 n1 t) (hn1 : n1 ≤ maxLen) (hnc1 : n1 ≤ c1) :
    Calls Try.prog 7 #[.slice A0 n0 c0, .slice A1 n1 c1] w fun e w' => e = .returned (.bool true) ∧ Below w.heap.size w w' := by
  have HS := Lib.hid hs
  have HA := Lib.hid ha
  have HLA := Lib.hid ha.len
  have HB0 := Lib.hid (Below.refl w.heap.size w)
  clear hs ha
  go_enter Try.func7, Try.ntmps7
  go_wp2_with fail
  refine (awakeR_any _).mono ?_
  rintro e w1 ⟨rfl, hb1⟩
  have HB1 := Lib.hid (HB0.out.trans (hb1.mono HB0.out.size))
  replace HS := Lib.hid (HS.out.on hb1)
  replace HA := Lib.hid (HA.out.on hb1)
  clear hb1
  cases hx : exprB ss t
  · go_wp2_with fail
    refine (paths_any A0 A1 n0 c0 n1 c1 ss t _ HS.out hn0 hnc HA.out hn1 hnc1).mono ?_
    rintro e w2 hp2
    obtain ⟨B2, d2, rfl, hb2⟩ := hp2.no hx
    have HB2 := Lib.hid (HB1.out.trans (hb2.mono HB1.out.size))
    clear hp2 hb2 hx
    go_wp2_with (go_at_call 13; refine (num_any _ _).mono ?_; rintro e w' ⟨rfl, rfl⟩)
    go_ret
    exact ⟨rfl, HB2.out⟩
  have HX := Lib.hid hx
  go_wp2_with fail
  refine (paths_any A0 A1 n0 c0 n1 c1 ss t _ HS.out hn0 hnc HA.out hn1 hnc1).mono ?_
  rintro e w2 hp2
  obtain ⟨B2, d2, rfl, ht2, hb2⟩ := hp2.yes hx
  rw [HLA.out] at ht2 ⊢
  have HT2 := Lib.hid ht2
  have HB2 := Lib.hid (HB1.out.trans (hb2.mono HB1.out.size))
  replace HA := Lib.hid (HA.out.on hb2)
  have hm49 : n1 ≤ 49 := by rw [← HLA.out]; exact (expr_len hx).2
  have hm1 : 1 ≤ n1 := by rw [← HLA.out]; exact (expr_len hx).1
  clear hp2 hb2 hx ht2
  go_wp2_with (go_at_call 13; refine (num_any _ _).mono ?_; rintro e w' ⟨rfl, rfl⟩)
  go_loopw [7] (fun i wr => ∃ k : Nat, i = .int .i64 (k : Int) ∧ k ≤ n1 ∧ Below w2.heap.size w2 wr) (fun i _ => n1 - (intOf i).toNat)
  case atStart => exact ⟨0, rfl, by omega, Below.refl _ _⟩
  case round =>
    obtain ⟨k, rfl, hk, hbw⟩ := hrel
    have HBW := Lib.hid hbw
    replace HA := Lib.hid (HA.out.on hbw)
    replace HT2 := Lib.hid (HT2.out.on hbw)
    clear hbw
    by_cases hlt : k < n1
    · obtain ⟨b, off, br, offr, cr, rfl, hb, hc1, hbr, hcr, hq, hc2, hi2⟩ := path_cells HT2.out HX.out (i := k) (by rw [HLA.out]; exact hlt)
      obtain ⟨bt, ot, rfl, hbt, hct⟩ := HA.out.at_ (by omega)
      have hcx : wr.cell? ⟨bt, ot + k, none⟩ = some (.int .i64 (intAt t k)) := hct k hlt
      obtain ⟨x, hxe⟩ : ∃ x, x = intAt t k := ⟨_, rfl⟩
      rw [← hxe] at hcx hc2
      have HI2 := Lib.hid hi2
      obtain ⟨q, hqe⟩ : ∃ q, q = (wyAt ss t k).length := ⟨_, rfl⟩
      rw [← hqe] at hc1 hcr hq hc2 HI2
      have hk0 : (0 : Int) ≤ (k : Int) := by omega
      have hk1 : (k : Int) < (n1 : Int) := by omega
      have hq0 : (0 : Int) ≤ (q : Int) := by omega
      have hq1 : ¬ ((q : Int) + 1 = 0) := by omega
      have hq2 : (((q + 1 : Nat) : Int) == 0) = false := by simp; omega
      have hq3 : ((q + 1 : Nat) : Int) - 1 = (q : Int) := by omega
      have hq4 : (q : Int) < ((q + 1 : Nat) : Int) := by omega
      have hq5 : (q : Int) < (q : Int) + 1 := by omega
      have hq6 : ((q : Int) + 1 == 0) = false := by simp; omega
      have hwq : IntKind.i64.wrap (q : Int) = (q : Int) := by rw [IntKind.wrap_i64]; omega
      clear hct hi2 hxe hqe
      by_cases hM : x < -1
      · have e : max x (-1) = -1 := by omega
        rw [e] at hc2
        clear e
        have hxx : (((-1) : Int) != (-1)) = false := by simp
        go_wp2_with fail
        refine wp_region_held_drew (S := (fun wx => wx.cell? ⟨b, off + k, none⟩ = some (.slice (some ⟨br, offr, none⟩) (q + 1) cr) ∧ wx.cell? ⟨br, offr + q, none⟩ = some (.int .i64 (-1)) ∧ wx.cell? ⟨bt, ot + k, none⟩ = some (.int .i64 x))) (by kernel_rfl) ⟨hc1, hc2, hcx⟩ (fun hHeld => ?_)
        refine takeH (i := 0) (v := ?_) rfl rfl (by kernel_rfl) (by kernel_rfl) (by kernel_rfl) (fun _ _ _ h => h) (by rfl) ?_ hHeld ?_
        rotate_left
        · (intro w hSw; (try dsimp only at hSw); first | (go_simp; done) | (go_simp; with_reducible rfl))
        simp only [Act.put, List.setIfInBounds_toArray, List.set_cons_zero, List.set_cons_succ]
        refine takeH (i := 1) (v := ?_) rfl rfl (by kernel_rfl) (by kernel_rfl) (by kernel_rfl) (fun _ _ _ h => h) (by rfl) ?_ hHeld ?_
        rotate_left
        · (intro w hSw; (try dsimp only at hSw); first | (go_simp; done) | (go_simp; with_reducible rfl))
        simp only [Act.put, List.setIfInBounds_toArray, List.set_cons_zero, List.set_cons_succ]
        refine takeH (i := 2) (v := ?_) rfl rfl (by kernel_rfl) (by kernel_rfl) (by kernel_rfl) (fun _ _ _ h => h) (by rfl) ?_ hHeld ?_
        rotate_left
        · (intro w hSw; (try dsimp only at hSw); first | (go_simp; done) | (go_simp; with_reducible rfl))
        simp only [Act.put, List.setIfInBounds_toArray, List.set_cons_zero, List.set_cons_succ]
        refine takeH (i := 3) (v := ?_) rfl rfl (by kernel_rfl) (by kernel_rfl) (by kernel_rfl) (fun _ _ _ h => h) (by rfl) ?_ hHeld ?_
        rotate_left
        · (intro w hSw; (try dsimp only at hSw); first | (go_simp; done) | (go_simp; with_reducible rfl))
        simp only [Act.put, List.setIfInBounds_toArray, List.set_cons_zero, List.set_cons_succ]
        refine takeH (i := 4) (v := ?_) rfl rfl (by kernel_rfl) (by kernel_rfl) (by kernel_rfl) (fun _ _ _ h => h) (by rfl) ?_ hHeld ?_
        rotate_left
        · (intro w hSw; (try dsimp only at hSw); first | (go_simp; done) | (go_simp; with_reducible rfl))
        simp only [Act.put, List.setIfInBounds_toArray, List.set_cons_zero, List.set_cons_succ]
        refine takeH (i := 5) (v := ?_) rfl rfl (by kernel_rfl) (by kernel_rfl) (by kernel_rfl) (fun _ _ _ h => h) (by rfl) ?_ hHeld ?_
        rotate_left
        · (intro w hSw; (try dsimp only at hSw); first | (go_simp; done) | (go_simp; with_reducible rfl))
        simp only [Act.put, List.setIfInBounds_toArray, List.set_cons_zero, List.set_cons_succ]
        refine takeH (i := 6) (v := ?_) rfl rfl (by kernel_rfl) (by kernel_rfl) (by kernel_rfl) (fun _ _ _ h => h) (by rfl) ?_ hHeld ?_
        rotate_left
        · (intro w hSw; (try dsimp only at hSw); first | (go_simp; done) | (go_simp; with_reducible rfl))
        simp only [Act.put, List.setIfInBounds_toArray, List.set_cons_zero, List.set_cons_succ]
        refine takeH (i := 7) (v := ?_) rfl rfl (by kernel_rfl) (by kernel_rfl) (by kernel_rfl) (fun _ _ _ h => h) (by rfl) ?_ hHeld ?_
        rotate_left
        · (intro w hSw; (try dsimp only at hSw); first | (go_simp; done) | (go_simp; with_reducible rfl))
        simp only [Act.put, List.setIfInBounds_toArray, List.set_cons_zero, List.set_cons_succ]
        refine takeH (i := 8) (v := ?_) rfl rfl (by kernel_rfl) (by kernel_rfl) (by kernel_rfl) (fun _ _ _ h => h) (by rfl) ?_ hHeld ?_
        rotate_left
        · (intro w hSw; (try dsimp only at hSw); first | (go_simp; done) | (go_simp; with_reducible rfl))
        simp only [Act.put, List.setIfInBounds_toArray, List.set_cons_zero, List.set_cons_succ]
        refine takeH (i := 9) (v := ?_) rfl rfl (by kernel_rfl) (by kernel_rfl) (by kernel_rfl) (fun _ _ _ h => h) (by rfl) ?_ hHeld ?_
        rotate_left
        · (intro w hSw; (try dsimp only at hSw); first | (go_simp; done) | (go_simp; with_reducible rfl))
        simp only [Act.put, List.setIfInBounds_toArray, List.set_cons_zero, List.set_cons_succ]
        refine takeH (i := 10) (v := ?_) rfl rfl (by kernel_rfl) (by kernel_rfl) (by kernel_rfl) (fun _ _ _ h => h) (by rfl) ?_ hHeld ?_
        rotate_left
        · (intro w hSw; (try dsimp only at hSw); first | (go_simp; done) | (go_simp; with_reducible rfl))
        simp only [Act.put, List.setIfInBounds_toArray, List.set_cons_zero, List.set_cons_succ]
        refine takeH (i := 11) (v := ?_) rfl rfl (by kernel_rfl) (by kernel_rfl) (by kernel_rfl) (fun _ _ _ h => h) (by rfl) ?_ hHeld ?_
        rotate_left
        · (intro w hSw; (try dsimp only at hSw); first | (go_simp; done) | (go_simp; with_reducible rfl))
        simp only [Act.put, List.setIfInBounds_toArray, List.set_cons_zero, List.set_cons_succ]
        refine takeH (i := 12) (v := ?_) rfl rfl (by kernel_rfl) (by kernel_rfl) (by kernel_rfl) (fun _ _ _ h => h) (by rfl) ?_ hHeld ?_
        rotate_left
        · (intro w hSw; (try dsimp only at hSw); first | (go_simp; done) | (go_simp; with_reducible rfl))
        simp only [Act.put, List.setIfInBounds_toArray, List.set_cons_zero, List.set_cons_succ]
        refine takeH (i := 13) (v := ?_) rfl rfl (by kernel_rfl) (by kernel_rfl) (by kernel_rfl) (fun _ _ _ h => h) (by rfl) ?_ hHeld ?_
        rotate_left
        · (intro w hSw; (try dsimp only at hSw); first | (go_simp; done) | (go_simp; with_reducible rfl))
        simp only [Act.put, List.setIfInBounds_toArray, List.set_cons_zero, List.set_cons_succ]
        refine takeH (i := 14) (v := ?_) rfl rfl (by kernel_rfl) (by kernel_rfl) (by kernel_rfl) (fun _ _ _ h => h) (by rfl) ?_ hHeld ?_
        rotate_left
        · (intro w hSw; (try dsimp only at hSw); first | (go_simp; done) | (go_simp; with_reducible rfl))
        simp only [Act.put, List.setIfInBounds_toArray, List.set_cons_zero, List.set_cons_succ]
        refine takeH (i := 15) (v := ?_) rfl rfl (by kernel_rfl) (by kernel_rfl) (by kernel_rfl) (fun _ _ _ h => h) (by rfl) ?_ hHeld ?_
        rotate_left
        · (intro w hSw; (try dsimp only at hSw); first | (go_simp; done) | (go_simp; with_reducible rfl))
        simp only [Act.put, List.setIfInBounds_toArray, List.set_cons_zero, List.set_cons_succ]
        refine takeH (i := 16) (v := ?_) rfl rfl (by kernel_rfl) (by kernel_rfl) (by kernel_rfl) (fun _ _ _ h => h) (by rfl) ?_ hHeld ?_
        rotate_left
        · (intro w hSw; (try dsimp only at hSw); first | (go_simp; done) | (go_simp; with_reducible rfl))
        simp only [Act.put, List.setIfInBounds_toArray, List.set_cons_zero, List.set_cons_succ]
        refine takeH (i := 17) (v := ?_) rfl rfl (by kernel_rfl) (by kernel_rfl) (by kernel_rfl) (fun _ _ _ h => h) (by rfl) ?_ hHeld ?_
        rotate_left
        · (intro w hSw; (try dsimp only at hSw); first | (go_simp; done) | (go_simp; with_reducible rfl))
        simp only [Act.put, List.setIfInBounds_toArray, List.set_cons_zero, List.set_cons_succ]
        refine takeH (i := 18) (v := ?_) rfl rfl (by kernel_rfl) (by kernel_rfl) (by kernel_rfl) (fun _ _ _ h => h) (by rfl) ?_ hHeld ?_
        rotate_left
        · (intro w hSw; (try dsimp only at hSw); first | (go_simp; done) | (go_simp; with_reducible rfl))
        simp only [Act.put, List.setIfInBounds_toArray, List.set_cons_zero, List.set_cons_succ]
        refine takeH (i := 19) (v := ?_) rfl rfl (by kernel_rfl) (by kernel_rfl) (by kernel_rfl) (fun _ _ _ h => h) (by rfl) ?_ hHeld ?_
        rotate_left
        · (intro w hSw; (try dsimp only at hSw); first | (go_simp; done) | (go_simp; with_reducible rfl))
        simp only [Act.put, List.setIfInBounds_toArray, List.set_cons_zero, List.set_cons_succ]
        refine takeH (i := 20) (v := ?_) rfl rfl (by kernel_rfl) (by kernel_rfl) (by kernel_rfl) (fun _ _ _ h => h) (by rfl) ?_ hHeld ?_
        rotate_left
        · (intro w hSw; (try dsimp only at hSw); first | (go_simp; done) | (go_simp; with_reducible rfl))
        simp only [Act.put, List.setIfInBounds_toArray, List.set_cons_zero, List.set_cons_succ]
        refine takeH (i := 21) (v := ?_) rfl rfl (by kernel_rfl) (by kernel_rfl) (by kernel_rfl) (fun _ _ _ h => h) (by rfl) ?_ hHeld ?_
        rotate_left
        · (intro w hSw; (try dsimp only at hSw); first | (go_simp; done) | (go_simp; with_reducible rfl))
        simp only [Act.put, List.setIfInBounds_toArray, List.set_cons_zero, List.set_cons_succ]
        refine takeH (i := 22) (v := ?_) rfl rfl (by kernel_rfl) (by kernel_rfl) (by kernel_rfl) (fun _ _ _ h => h) (by rfl) ?_ hHeld ?_
        rotate_left
        · (intro w hSw; (try dsimp only at hSw); first | (go_simp; done) | (go_simp; with_reducible rfl))
        simp only [Act.put, List.setIfInBounds_toArray, List.set_cons_zero, List.set_cons_succ]
        refine takeH (i := 23) (v := ?_) rfl rfl (by kernel_rfl) (by kernel_rfl) (by kernel_rfl) (fun _ _ _ h => h) (by rfl) ?_ hHeld ?_
        rotate_left
        · (intro w hSw; (try dsimp only at hSw); first | (go_simp; done) | (go_simp; with_reducible rfl))
        simp only [Act.put, List.setIfInBounds_toArray, List.set_cons_zero, List.set_cons_succ]
        refine takeH (i := 24) (v := ?_) rfl rfl (by kernel_rfl) (by kernel_rfl) (by kernel_rfl) (fun _ _ _ h => h) (by rfl) ?_ hHeld ?_
        rotate_left
        · (intro w hSw; (try dsimp only at hSw); first | (go_simp; done) | (go_simp; with_reducible rfl))
        simp only [Act.put, List.setIfInBounds_toArray, List.set_cons_zero, List.set_cons_succ]
        refine takeH (i := 25) (v := ?_) rfl rfl (by kernel_rfl) (by kernel_rfl) (by kernel_rfl) (fun _ _ _ h => h) (by rfl) ?_ hHeld ?_
        rotate_left
        · (intro w hSw; (try dsimp only at hSw); first | (go_simp; done) | (go_simp; with_reducible rfl))
        simp only [Act.put, List.setIfInBounds_toArray, List.set_cons_zero, List.set_cons_succ]
        refine wpAnyH_done (by kernel_rfl) ?_ _
        go_wp2_with fail
        obtain ⟨wA, hwA⟩ : ∃ wA, wA = wr.drew := ⟨_, rfl⟩
        have HBA : Hid (Below wr.heap.size wr wA) := by rw [hwA]; exact (Below.refl _ _).drew
        rw [← hwA]
        clear hwA hHeld hc1 hc2 hcx hxx
        go_loopw [8] (fun i wx => ∃ j : Nat, i = .int .i64 (j : Int) ∧ j ≤ k ∧ Below wA.heap.size wA wx) (fun i _ => k - (intOf i).toNat)
        case atStart => exact ⟨0, rfl, by omega, Below.refl _ _⟩
        case round =>
          obtain ⟨j, rfl, hj, hbx⟩ := hrel
          have HBX := Lib.hid (HBA.out.trans (hbx.mono HBA.out.size))
          have HBY := Lib.hid hbx
          clear hbx
          by_cases hjk : j < k
          · obtain ⟨b', off', br1, offr1, cr1, e0, hb1, hd1, hbr1, hcr1, hq1', hd2, hi1⟩ := path_cells (HT2.out.on HBX.out) HX.out (i := j) (by rw [HLA.out]; omega)
            obtain ⟨b2, off2, br2, offr2, cr2, e2, hb2, hd3, hbr2, hcr2, hq2', hd4, hi2⟩ := path_cells (HT2.out.on HBX.out) HX.out (i := k) (by rw [HLA.out]; omega)
            simp only [Option.some.injEq, Addr.mk.injEq] at e0 e2
            obtain ⟨rfl, rfl, -⟩ := e0
            obtain ⟨rfl, rfl, -⟩ := e2
            have HNE : Hid (sameI (wyAt ss t k) (wyAt ss t j) = false) := by
              have := wy_ne (expr_xpr HX.out) (i := k) (j := j) (by rw [HLA.out]; omega) hjk
              show sameI _ _ = false
              unfold sameI; exact decide_eq_false this
            have HI1 := Lib.hid hi1
            have HI3 := Lib.hid hi2
            obtain ⟨q1, hq1e⟩ : ∃ q1, q1 = (wyAt ss t j).length := ⟨_, rfl⟩
            obtain ⟨q3, hq3e⟩ : ∃ q3, q3 = (wyAt ss t k).length := ⟨_, rfl⟩
            rw [← hq1e] at hd1 hcr1 hq1' HI1
            rw [← hq3e] at hd3 hcr2 hq2' HI3
            have u0 : (0 : Int) ≤ (j : Int) := by omega
            have u1 : (j : Int) < (n1 : Int) := by omega
            have u2 : (0 : Int) ≤ (q1 : Int) := by omega
            have u3 : (q1 : Int) ≤ (cr1 : Int) := by omega
            have u4 : ((q1 + 1 : Nat) : Int) - 1 = (q1 : Int) := by omega
            have u5 : (0 : Int) ≤ (q3 : Int) := by omega
            have u6 : (q3 : Int) ≤ (cr2 : Int) := by omega
            have u7 : ((q3 + 1 : Nat) : Int) - 1 = (q3 : Int) := by omega
            clear hi1 hi2 hd2 hd4 hq1e hq3e
            go_wp2_with fail
            go_quiet ((go_at_call 20; exact sameInts_still (some ⟨br2, offr2, none⟩) (some ⟨br1, offr1, none⟩) q3 cr2 q1 cr1 _ _ _ (wyAt ss t k) (wyAt ss t j) _ HI3.out HI1.out (len_small (by omega)) (len_small (by omega)) HNE.out))
            go_wp2
            go_roundw
            case rel => exact ⟨j + 1, by go_num, by omega, HBY.out.trans (below_drewN _ _)⟩
            case measure => simp [intOf]; omega
          · obtain rfl : k = j := by omega
            go_wp2
            go_roundw
            case rel => exact ⟨k + 1, by go_num, by omega, HBW.out.trans (HBX.out.mono HBW.out.size)⟩
            case measure => simp [intOf]; omega
      · have e : max x (-1) = x := by omega
        rw [e] at hc2
        have hM' : -1 ≤ x := by omega
        clear e hM
        have hxx : ((x : Int) != x) = false := by simp
        go_wp2_with fail
        refine wp_region_held_drew (S := (fun wx => wx.cell? ⟨b, off + k, none⟩ = some (.slice (some ⟨br, offr, none⟩) (q + 1) cr) ∧ wx.cell? ⟨br, offr + q, none⟩ = some (.int .i64 x) ∧ wx.cell? ⟨bt, ot + k, none⟩ = some (.int .i64 x))) (by kernel_rfl) ⟨hc1, hc2, hcx⟩ (fun hHeld => ?_)
        refine takeH (i := 0) (v := ?_) rfl rfl (by kernel_rfl) (by kernel_rfl) (by kernel_rfl) (fun _ _ _ h => h) (by rfl) ?_ hHeld ?_
        rotate_left
        · (intro w hSw; (try dsimp only at hSw); first | (go_simp; done) | (go_simp; with_reducible rfl))
        simp only [Act.put, List.setIfInBounds_toArray, List.set_cons_zero, List.set_cons_succ]
        refine takeH (i := 1) (v := ?_) rfl rfl (by kernel_rfl) (by kernel_rfl) (by kernel_rfl) (fun _ _ _ h => h) (by rfl) ?_ hHeld ?_
        rotate_left
        · (intro w hSw; (try dsimp only at hSw); first | (go_simp; done) | (go_simp; with_reducible rfl))
        simp only [Act.put, List.setIfInBounds_toArray, List.set_cons_zero, List.set_cons_succ]
        refine takeH (i := 2) (v := ?_) rfl rfl (by kernel_rfl) (by kernel_rfl) (by kernel_rfl) (fun _ _ _ h => h) (by rfl) ?_ hHeld ?_
        rotate_left
        · (intro w hSw; (try dsimp only at hSw); first | (go_simp; done) | (go_simp; with_reducible rfl))
        simp only [Act.put, List.setIfInBounds_toArray, List.set_cons_zero, List.set_cons_succ]
        refine takeH (i := 3) (v := ?_) rfl rfl (by kernel_rfl) (by kernel_rfl) (by kernel_rfl) (fun _ _ _ h => h) (by rfl) ?_ hHeld ?_
        rotate_left
        · (intro w hSw; (try dsimp only at hSw); first | (go_simp; done) | (go_simp; with_reducible rfl))
        simp only [Act.put, List.setIfInBounds_toArray, List.set_cons_zero, List.set_cons_succ]
        refine takeH (i := 4) (v := ?_) rfl rfl (by kernel_rfl) (by kernel_rfl) (by kernel_rfl) (fun _ _ _ h => h) (by rfl) ?_ hHeld ?_
        rotate_left
        · (intro w hSw; (try dsimp only at hSw); first | (go_simp; done) | (go_simp; with_reducible rfl))
        simp only [Act.put, List.setIfInBounds_toArray, List.set_cons_zero, List.set_cons_succ]
        refine takeH (i := 5) (v := ?_) rfl rfl (by kernel_rfl) (by kernel_rfl) (by kernel_rfl) (fun _ _ _ h => h) (by rfl) ?_ hHeld ?_
        rotate_left
        · (intro w hSw; (try dsimp only at hSw); first | (go_simp; done) | (go_simp; with_reducible rfl))
        simp only [Act.put, List.setIfInBounds_toArray, List.set_cons_zero, List.set_cons_succ]
        refine takeH (i := 6) (v := ?_) rfl rfl (by kernel_rfl) (by kernel_rfl) (by kernel_rfl) (fun _ _ _ h => h) (by rfl) ?_ hHeld ?_
        rotate_left
        · (intro w hSw; (try dsimp only at hSw); first | (go_simp; done) | (go_simp; with_reducible rfl))
        simp only [Act.put, List.setIfInBounds_toArray, List.set_cons_zero, List.set_cons_succ]
        refine takeH (i := 7) (v := ?_) rfl rfl (by kernel_rfl) (by kernel_rfl) (by kernel_rfl) (fun _ _ _ h => h) (by rfl) ?_ hHeld ?_
        rotate_left
        · (intro w hSw; (try dsimp only at hSw); first | (go_simp; done) | (go_simp; with_reducible rfl))
        simp only [Act.put, List.setIfInBounds_toArray, List.set_cons_zero, List.set_cons_succ]
        refine takeH (i := 8) (v := ?_) rfl rfl (by kernel_rfl) (by kernel_rfl) (by kernel_rfl) (fun _ _ _ h => h) (by rfl) ?_ hHeld ?_
        rotate_left
        · (intro w hSw; (try dsimp only at hSw); first | (go_simp; done) | (go_simp; with_reducible rfl))
        simp only [Act.put, List.setIfInBounds_toArray, List.set_cons_zero, List.set_cons_succ]
        refine takeH (i := 9) (v := ?_) rfl rfl (by kernel_rfl) (by kernel_rfl) (by kernel_rfl) (fun _ _ _ h => h) (by rfl) ?_ hHeld ?_
        rotate_left
        · (intro w hSw; (try dsimp only at hSw); first | (go_simp; done) | (go_simp; with_reducible rfl))
        simp only [Act.put, List.setIfInBounds_toArray, List.set_cons_zero, List.set_cons_succ]
        refine takeH (i := 10) (v := ?_) rfl rfl (by kernel_rfl) (by kernel_rfl) (by kernel_rfl) (fun _ _ _ h => h) (by rfl) ?_ hHeld ?_
        rotate_left
        · (intro w hSw; (try dsimp only at hSw); first | (go_simp; done) | (go_simp; with_reducible rfl))
        simp only [Act.put, List.setIfInBounds_toArray, List.set_cons_zero, List.set_cons_succ]
        refine takeH (i := 11) (v := ?_) rfl rfl (by kernel_rfl) (by kernel_rfl) (by kernel_rfl) (fun _ _ _ h => h) (by rfl) ?_ hHeld ?_
        rotate_left
        · (intro w hSw; (try dsimp only at hSw); first | (go_simp; done) | (go_simp; with_reducible rfl))
        simp only [Act.put, List.setIfInBounds_toArray, List.set_cons_zero, List.set_cons_succ]
        refine takeH (i := 12) (v := ?_) rfl rfl (by kernel_rfl) (by kernel_rfl) (by kernel_rfl) (fun _ _ _ h => h) (by rfl) ?_ hHeld ?_
        rotate_left
        · (intro w hSw; (try dsimp only at hSw); first | (go_simp; done) | (go_simp; with_reducible rfl))
        simp only [Act.put, List.setIfInBounds_toArray, List.set_cons_zero, List.set_cons_succ]
        refine takeH (i := 13) (v := ?_) rfl rfl (by kernel_rfl) (by kernel_rfl) (by kernel_rfl) (fun _ _ _ h => h) (by rfl) ?_ hHeld ?_
        rotate_left
        · (intro w hSw; (try dsimp only at hSw); first | (go_simp; done) | (go_simp; with_reducible rfl))
        simp only [Act.put, List.setIfInBounds_toArray, List.set_cons_zero, List.set_cons_succ]
        refine takeH (i := 14) (v := ?_) rfl rfl (by kernel_rfl) (by kernel_rfl) (by kernel_rfl) (fun _ _ _ h => h) (by rfl) ?_ hHeld ?_
        rotate_left
        · (intro w hSw; (try dsimp only at hSw); first | (go_simp; done) | (go_simp; with_reducible rfl))
        simp only [Act.put, List.setIfInBounds_toArray, List.set_cons_zero, List.set_cons_succ]
        refine takeH (i := 15) (v := ?_) rfl rfl (by kernel_rfl) (by kernel_rfl) (by kernel_rfl) (fun _ _ _ h => h) (by rfl) ?_ hHeld ?_
        rotate_left
        · (intro w hSw; (try dsimp only at hSw); first | (go_simp; done) | (go_simp; with_reducible rfl))
        simp only [Act.put, List.setIfInBounds_toArray, List.set_cons_zero, List.set_cons_succ]
        refine takeH (i := 16) (v := ?_) rfl rfl (by kernel_rfl) (by kernel_rfl) (by kernel_rfl) (fun _ _ _ h => h) (by rfl) ?_ hHeld ?_
        rotate_left
        · (intro w hSw; (try dsimp only at hSw); first | (go_simp; done) | (go_simp; with_reducible rfl))
        simp only [Act.put, List.setIfInBounds_toArray, List.set_cons_zero, List.set_cons_succ]
        refine takeH (i := 17) (v := ?_) rfl rfl (by kernel_rfl) (by kernel_rfl) (by kernel_rfl) (fun _ _ _ h => h) (by rfl) ?_ hHeld ?_
        rotate_left
        · (intro w hSw; (try dsimp only at hSw); first | (go_simp; done) | (go_simp; with_reducible rfl))
        simp only [Act.put, List.setIfInBounds_toArray, List.set_cons_zero, List.set_cons_succ]
        refine takeH (i := 18) (v := ?_) rfl rfl (by kernel_rfl) (by kernel_rfl) (by kernel_rfl) (fun _ _ _ h => h) (by rfl) ?_ hHeld ?_
        rotate_left
        · (intro w hSw; (try dsimp only at hSw); first | (go_simp; done) | (go_simp; with_reducible rfl))
        simp only [Act.put, List.setIfInBounds_toArray, List.set_cons_zero, List.set_cons_succ]
        refine takeH (i := 19) (v := ?_) rfl rfl (by kernel_rfl) (by kernel_rfl) (by kernel_rfl) (fun _ _ _ h => h) (by rfl) ?_ hHeld ?_
        rotate_left
        · (intro w hSw; (try dsimp only at hSw); first | (go_simp; done) | (go_simp; with_reducible rfl))
        simp only [Act.put, List.setIfInBounds_toArray, List.set_cons_zero, List.set_cons_succ]
        refine takeH (i := 20) (v := ?_) rfl rfl (by kernel_rfl) (by kernel_rfl) (by kernel_rfl) (fun _ _ _ h => h) (by rfl) ?_ hHeld ?_
        rotate_left
        · (intro w hSw; (try dsimp only at hSw); first | (go_simp; done) | (go_simp; with_reducible rfl))
        simp only [Act.put, List.setIfInBounds_toArray, List.set_cons_zero, List.set_cons_succ]
        refine takeH (i := 21) (v := ?_) rfl rfl (by kernel_rfl) (by kernel_rfl) (by kernel_rfl) (fun _ _ _ h => h) (by rfl) ?_ hHeld ?_
        rotate_left
        · (intro w hSw; (try dsimp only at hSw); first | (go_simp; done) | (go_simp; with_reducible rfl))
        simp only [Act.put, List.setIfInBounds_toArray, List.set_cons_zero, List.set_cons_succ]
        refine takeH (i := 22) (v := ?_) rfl rfl (by kernel_rfl) (by kernel_rfl) (by kernel_rfl) (fun _ _ _ h => h) (by rfl) ?_ hHeld ?_
        rotate_left
        · (intro w hSw; (try dsimp only at hSw); first | (go_simp; done) | (go_simp; with_reducible rfl))
        simp only [Act.put, List.setIfInBounds_toArray, List.set_cons_zero, List.set_cons_succ]
        refine takeH (i := 23) (v := ?_) rfl rfl (by kernel_rfl) (by kernel_rfl) (by kernel_rfl) (fun _ _ _ h => h) (by rfl) ?_ hHeld ?_
        rotate_left
        · (intro w hSw; (try dsimp only at hSw); first | (go_simp; done) | (go_simp; with_reducible rfl))
        simp only [Act.put, List.setIfInBounds_toArray, List.set_cons_zero, List.set_cons_succ]
        refine takeH (i := 24) (v := ?_) rfl rfl (by kernel_rfl) (by kernel_rfl) (by kernel_rfl) (fun _ _ _ h => h) (by rfl) ?_ hHeld ?_
        rotate_left
        · (intro w hSw; (try dsimp only at hSw); first | (go_simp; done) | (go_simp; with_reducible rfl))
        simp only [Act.put, List.setIfInBounds_toArray, List.set_cons_zero, List.set_cons_succ]
        refine takeH (i := 25) (v := ?_) rfl rfl (by kernel_rfl) (by kernel_rfl) (by kernel_rfl) (fun _ _ _ h => h) (by rfl) ?_ hHeld ?_
        rotate_left
        · (intro w hSw; (try dsimp only at hSw); first | (go_simp; done) | (go_simp; with_reducible rfl))
        simp only [Act.put, List.setIfInBounds_toArray, List.set_cons_zero, List.set_cons_succ]
        refine wpAnyH_done (by kernel_rfl) ?_ _
        go_wp2_with fail
        obtain ⟨wA, hwA⟩ : ∃ wA, wA = wr.drew := ⟨_, rfl⟩
        have HBA : Hid (Below wr.heap.size wr wA) := by rw [hwA]; exact (Below.refl _ _).drew
        rw [← hwA]
        clear hwA hHeld hc1 hc2 hcx hxx
        go_loopw [8] (fun i wx => ∃ j : Nat, i = .int .i64 (j : Int) ∧ j ≤ k ∧ Below wA.heap.size wA wx) (fun i _ => k - (intOf i).toNat)
        case atStart => exact ⟨0, rfl, by omega, Below.refl _ _⟩
        case round =>
          obtain ⟨j, rfl, hj, hbx⟩ := hrel
          have HBX := Lib.hid (HBA.out.trans (hbx.mono HBA.out.size))
          have HBY := Lib.hid hbx
          clear hbx
          by_cases hjk : j < k
          · obtain ⟨b', off', br1, offr1, cr1, e0, hb1, hd1, hbr1, hcr1, hq1', hd2, hi1⟩ := path_cells (HT2.out.on HBX.out) HX.out (i := j) (by rw [HLA.out]; omega)
            obtain ⟨b2, off2, br2, offr2, cr2, e2, hb2, hd3, hbr2, hcr2, hq2', hd4, hi2⟩ := path_cells (HT2.out.on HBX.out) HX.out (i := k) (by rw [HLA.out]; omega)
            simp only [Option.some.injEq, Addr.mk.injEq] at e0 e2
            obtain ⟨rfl, rfl, -⟩ := e0
            obtain ⟨rfl, rfl, -⟩ := e2
            have HNE : Hid (sameI (wyAt ss t k) (wyAt ss t j) = false) := by
              have := wy_ne (expr_xpr HX.out) (i := k) (j := j) (by rw [HLA.out]; omega) hjk
              show sameI _ _ = false
              unfold sameI; exact decide_eq_false this
            have HI1 := Lib.hid hi1
            have HI3 := Lib.hid hi2
            obtain ⟨q1, hq1e⟩ : ∃ q1, q1 = (wyAt ss t j).length := ⟨_, rfl⟩
            obtain ⟨q3, hq3e⟩ : ∃ q3, q3 = (wyAt ss t k).length := ⟨_, rfl⟩
            rw [← hq1e] at hd1 hcr1 hq1' HI1
            rw [← hq3e] at hd3 hcr2 hq2' HI3
            have u0 : (0 : Int) ≤ (j : Int) := by omega
            have u1 : (j : Int) < (n1 : Int) := by omega
            have u2 : (0 : Int) ≤ (q1 : Int) := by omega
            have u3 : (q1 : Int) ≤ (cr1 : Int) := by omega
            have u4 : ((q1 + 1 : Nat) : Int) - 1 = (q1 : Int) := by omega
            have u5 : (0 : Int) ≤ (q3 : Int) := by omega
            have u6 : (q3 : Int) ≤ (cr2 : Int) := by omega
            have u7 : ((q3 + 1 : Nat) : Int) - 1 = (q3 : Int) := by omega
            clear hi1 hi2 hd2 hd4 hq1e hq3e
            go_wp2_with fail
            go_quiet ((go_at_call 20; exact sameInts_still (some ⟨br2, offr2, none⟩) (some ⟨br1, offr1, none⟩) q3 cr2 q1 cr1 _ _ _ (wyAt ss t k) (wyAt ss t j) _ HI3.out HI1.out (len_small (by omega)) (len_small (by omega)) HNE.out))
            go_wp2
            go_roundw
            case rel => exact ⟨j + 1, by go_num, by omega, HBY.out.trans (below_drewN _ _)⟩
            case measure => simp [intOf]; omega
          · obtain rfl : k = j := by omega
            go_wp2
            go_roundw
            case rel => exact ⟨k + 1, by go_num, by omega, HBW.out.trans (HBX.out.mono HBW.out.size)⟩
            case measure => simp [intOf]; omega
    · obtain ⟨b, off, br, offr, cr, rfl, hb, hc1, hbr, hcr, hq, hc2, hi2⟩ := path_cells HT2.out HX.out (i := 0) (by rw [HLA.out]; omega)
      have hq0 : (wyAt ss t 0).length = 0 := by have := wy_len (ss := ss) (t := t) (i := 0) (by rw [HLA.out]; omega); omega
      rw [hq0, Nat.zero_add, Nat.add_zero] at hc1
      have hn : ¬ n1 = 0 := by omega
      have hn' : (0 : Int) < (n1 : Int) := by omega
      clear hq0 hc2 hi2
      go_wp2
      go_ret
      exact ⟨rfl, HB2.out.trans (HBW.out.mono HB2.out.size)⟩
end Go.Proofs.Ythdpojokogiinaa
