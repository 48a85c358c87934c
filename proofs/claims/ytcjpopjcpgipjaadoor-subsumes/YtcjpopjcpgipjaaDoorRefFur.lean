/-
  Contract of quaereref8: further.
-/
import Derived.Test.YtcjpopjcpgipjaaDoorMemBd
namespace Go.Proofs.YtcjpopjcpgipjaaDoor
open Go.RowKit Go.Deep
set_option linter.unusedSimpArgs false
set_option linter.unusedVariables false
set_option maxRecDepth 100000

theorem intAt_piece {ss : List Sym} {b : List Int} {j i : Nat} (hi : i < (pieceAt ss b j).length) : intAt (pieceAt ss b j) i = intAt b (j + i) := by
  unfold pieceAt at hi ⊢
  rw [List.length_take] at hi
  unfold intAt
  rw [List.getD_eq_getElem?_getD, List.getD_eq_getElem?_getD, List.getElem?_take, if_pos (by omega), List.getElem?_drop]
theorem IntsAt.piece {ss : List Sym} {w : World} {B n : Nat} {bk off : Nat} {b : List Int} {j : Nat} (h : IntsAt w B (some ⟨bk, off, none⟩) n b) (hn : 0 < n) (hj : j + (pieceAt ss b j).length ≤ n) : IntsAt w B (some ⟨bk, off + j, none⟩) (pieceAt ss b j).length (pieceAt ss b j) := by
  obtain ⟨bk', off', e, hb, hc⟩ := h.at_ hn
  injection e with e
  injection e with e1 e2
  subst e1 e2
  refine ⟨rfl, fun _ => ⟨bk, off + j, rfl, hb, fun i hi => ?_⟩⟩
  have := hc (j + i) (by omega)
  dsimp only at this ⊢
  rw [intAt_piece hi, Nat.add_assoc]
  exact this
theorem OwnBv.empty (w : World) : OwnBv (w.alloc (.cells #[] 133)) w.heap.size (.slice (some ⟨w.heap.size, 0, none⟩) 0 0) [] [] :=
  ⟨rfl, World.ownsRow_lit (base := w.heap.size) (e := 133) (size := 2) w #[] 0 (Nat.le_refl _) (by unfold maxLen; omega) rfl⟩
def FurPost (ss : List Sym) (b a : List Int) (bs : List Bd) (w : World) (e : Ending) (w' : World) : Prop :=
  (mt ss b (tOf bs) 0 a = none ∧ ∃ v, e = .returned (.tuple #[v, .bool false]) ∧ Below w.heap.size w w') ∨
  ∃ T v bs' vs', mt ss b (tOf bs) 0 a = some T ∧ e = .returned (.tuple #[v, .bool true]) ∧ OwnBv w' w.heap.size v bs' vs' ∧ BdRd w bs' vs' ∧ tOf bs' = T ∧ (∀ x ∈ bs', x.t ≠ [] ∧ x.t.length ≤ 48) ∧ bs'.length ≤ bs.length + a.length ∧ Below w.heap.size w w'
theorem mt_over {ss : List Sym} {b a : List Int} {T : Nat → List Int} {j k : Nat} (hk : k < a.length) (hj : b.length ≤ j) : mt ss b T j (a.drop k) = none := by
  rw [drop_get hk (intAt_get hk)]
  show (if b.length ≤ j then none else _) = none
  rw [if_pos hj]
theorem mt_sym2 {ss : List Sym} {b a : List Int} {T : Nat → List Int} {j k : Nat} (hk : k < a.length) (hj : j < b.length) (hx : 0 ≤ intAt a k) : mt ss b T j (a.drop k) = if intAt a k = intAt b j then mt ss b T (j + 1) (a.drop (k + 1)) else none := by
  rw [drop_get hk (intAt_get hk)]
  show (if b.length ≤ j then none else if intAt a k < 0 then _ else _) = _
  rw [if_neg (by omega), if_neg (by omega)]
theorem mt_var2 {ss : List Sym} {b a : List Int} {T : Nat → List Int} {j k : Nat} (hk : k < a.length) (hj : j < b.length) (hx : intAt a k < 0) : mt ss b T j (a.drop k) = if T (-1 - intAt a k).toNat = [] ∨ T (-1 - intAt a k).toNat = pieceAt ss b j then mt ss b (bindV T (-1 - intAt a k).toNat (pieceAt ss b j)) (endAt ss b j) (a.drop (k + 1)) else none := by
  rw [drop_get hk (intAt_get hk)]
  show (if b.length ≤ j then none else if intAt a k < 0 then _ else _) = _
  rw [if_neg (by omega), if_pos hx]
theorem BdRd.cells {w : World} {bs : List Bd} {vs : List Value} (h : BdRd w bs vs) (hl : vs.length = bs.length) : ∀ u ∈ vs, u.oneCell' = true := fun u hu => by
  obtain ⟨i, hi, e⟩ := List.mem_iff_getElem.1 hu
  obtain ⟨A, c, q, _⟩ := h i (by omega)
  have : valAt vs i = u := by unfold valAt; rw [List.getD_eq_getElem?_getD, List.getElem?_eq_getElem hi]; exact e
  rw [← this, q]; exact slice_one _ _ _
set_option maxHeartbeats 16000000 in
theorem refFurther_any (A A1 A2 : Option Addr) (n c n1 c1 n2 c2 base0 : Nat) (ss : List Sym) (a b : List Int) (vS : Value) (bs : List Bd) (vs : List Value) (w : World) (h : SymsAt w w.heap.size A n ss) (hn : n ≤ maxLen) (ha : IntsAt w w.heap.size A1 n1 a) (hb : IntsAt w w.heap.size A2 n2 b) (hc2 : n2 ≤ c2)
    (hp : Pat ss a b) (hS : OwnBv w base0 vS bs vs) (hR : BdRd w bs vs) (ht : ∀ x ∈ bs, x.t ≠ [] ∧ x.t.length ≤ 48) (hl : bs.length ≤ 100000) :
    Calls Tryd.prog 86 #[.slice A n c, vS, .slice A1 n1 c1, .slice A2 n2 c2] w (FurPost ss b a bs w) := by
  have HS := Lib.hid h
  have HA := Lib.hid ha
  have HB := Lib.hid hb
  have HP := Lib.hid hp
  have HTG : Hid (Tgt ss b) := by
    rcases hp with ⟨_, q⟩ | ⟨_, q⟩
    · exact .inl q
    · exact .inr q
  have HRW : Hid (rowB ss b = true ∨ 0 ≤ intAt a 0) := by
    rcases hp with ⟨_, q⟩ | ⟨q, _⟩
    · exact .inl q
    · obtain ⟨x, r, rfl, hx, _⟩ := atom_parts q
      exact .inr hx
  have HGE : Hid (∀ x ∈ a, -24 ≤ x) := by
    rcases hp with ⟨q, _⟩ | ⟨q, _⟩
    · exact row_ge q
    · obtain ⟨p, r, rfl, hp0, _, _, hr0, _⟩ := atom_parts q
      intro x hx
      rcases List.mem_cons.1 hx with rfl | hx
      · omega
      · exact row_ge hr0 x hx
  have hla : a.length ≤ 49 := by
    rcases hp with ⟨q, _⟩ | ⟨q, _⟩
    · exact Tgt.len (.inl q)
    · exact Tgt.len (.inr q)
  have hlb := HTG.out.len
  have HLA := Lib.hid ha.len
  have HLB := Lib.hid hb.len
  rw [ha.len] at hla
  rw [hb.len] at hlb
  have HSO := Lib.hid hS
  have HRD := Lib.hid hR
  have HTT := Lib.hid ht
  have HCL := Lib.hid (hR.cells hS.1)
  clear h ha hb hp hS hR ht
  go_enter Tryd.func86, Tryd.ntmps86
  have HBN := Lib.hid (below_new w (.cells #[] 133))
  go_wp2_with (refine app_bds rfl (.tmp 15) (.tmp 16) rfl w.heap.size base0 _ vS bs vs rfl (OwnBv.empty w) rfl (HSO.out.on HBN.out) HCL.out (by omega) HBN.out.size ?_
               intro v0 w0 hown0 hc0
               have HO0 := Lib.hid hown0
               have HB0 := Lib.hid (below_un_new hc0.bel (Nat.le_refl _))
               clear hown0 hc0)
  go_loopw [10, 11, 12] (fun q jq iq wr => ∃ (j k : Nat) (cs : List Bd) (us : List Value), jq = .int .i64 j ∧ iq = .int .i64 k ∧ k ≤ n1 ∧ j ≤ n2 ∧ OwnBv wr w.heap.size q cs us ∧ BdRd w cs us ∧ mt ss b (tOf bs) 0 a = mt ss b (tOf cs) j (a.drop k) ∧ (rowB ss b = true ∨ 1 ≤ j ∨ (0 ≤ intAt a k ∧ k = 0)) ∧ cs.length ≤ bs.length + k ∧ (∀ x ∈ cs, x.t ≠ [] ∧ x.t.length ≤ 48) ∧ Below w.heap.size w wr) (fun _ _ i _ => n1 - (intOf i).toNat)
  case atStart => exact ⟨0, 0, bs, vs, rfl, rfl, by omega, by omega, HO0.out, HRD.out, by rw [List.drop_zero], HRW.out.elim .inl (fun q => .inr (.inr ⟨q, rfl⟩)), by omega, HTT.out, HB0.out⟩
  case round =>
    obtain ⟨j, k, cs, us, rfl, rfl, hk, hj, ho, hr, hm, hw, hcl, hct, hbw⟩ := hrel
    have HO := Lib.hid ho
    have HR := Lib.hid hr
    have HM := Lib.hid hm
    have HW := Lib.hid hw
    have HCT := Lib.hid hct
    have HBW := Lib.hid hbw
    have hsz := hbw.size
    clear ho hr hm hw hct hbw
    by_cases hlt : k < n1
    · have hka : k < a.length := by rw [HLA.out]; exact hlt
      by_cases hjn : n2 ≤ j
      · have HNO : Hid (mt ss b (tOf bs) 0 a = none) := HM.out.trans (mt_over hka (by rw [HLB.out]; exact hjn))
        have hj2 : (n2 : Int) ≤ (j : Int) := by omega
        go_wp2
        go_ret2
        exact .inl ⟨HNO.out, _, rfl, HBW.out⟩
      · have hjb : j < b.length := by rw [HLB.out]; omega
        obtain ⟨ba, oa, hA1, hba, hca⟩ := HA.out.at_ (by omega)
        obtain ⟨bb, ob, hA2, hbb, hcb⟩ := HB.out.at_ (by omega)
        have c0' := hca k hlt
        have d0' := hcb j (by omega)
        obtain ⟨x, hx⟩ : ∃ x, x = intAt a k := ⟨_, rfl⟩
        obtain ⟨y, hy⟩ : ∃ y, y = intAt b j := ⟨_, rfl⟩
        have c0 : wr.cell? ⟨ba, oa + k, none⟩ = some (.int .i64 x) := by rw [HBW.out.cell (p := ⟨ba, oa + k, none⟩) hba, hx]; exact c0'
        have d0 : wr.cell? ⟨bb, ob + j, none⟩ = some (.int .i64 y) := by rw [HBW.out.cell (p := ⟨bb, ob + j, none⟩) hbb, hy]; exact d0'
        have HXE := Lib.hid hx
        have HYE := Lib.hid hy
        have hx24 : -24 ≤ x := by rw [hx]; exact HGE.out _ (List.mem_of_getElem? (intAt_get hka))
        have hi0 : (0 : Int) ≤ (k : Int) := by omega
        have hi3 : (k : Int) < (n1 : Int) := by omega
        have hj0 : (0 : Int) ≤ (j : Int) := by omega
        have hj3 : (j : Int) < (n2 : Int) := by omega
        clear c0' d0' hx hy hca hcb
        subst hA1 hA2
        by_cases hx0 : 0 ≤ x
        · have HMS := Lib.hid (mt_sym2 (ss := ss) (T := tOf cs) hka hjb (by rw [← HXE.out]; exact hx0))
          rw [← HXE.out, ← HYE.out] at HMS
          go_wp2_with fail
          refine wp_region_held_drew (S := (fun w' => w'.cell? ⟨ba, oa + k, none⟩ = some (.int .i64 x) ∧ w'.cell? ⟨bb, ob + j, none⟩ = some (.int .i64 y))) (by kernel_rfl) ⟨c0, d0⟩ (fun hHeld => ?_)
          have hd : Below wr.heap.size wr wr.drew := (Below.refl wr.heap.size wr).drew
          have HO1 := Lib.hid (HO.out.on hd)
          have HB1 := Lib.hid (HBW.out.trans (hd.mono hsz))
          clear hd
          by_cases hxy : x = y
          · have HM1 : Hid (mt ss b (tOf bs) 0 a = mt ss b (tOf cs) (j + 1) (a.drop (k + 1))) := by show _ = _; rw [HM.out, HMS.out, if_pos hxy]
            have q1 : (x != y) = false := by simp [hxy]
            refine takeH (i := 0) (v := ?_) rfl rfl (by kernel_rfl) (by kernel_rfl) (by kernel_rfl) (fun _ _ _ h => h) (by rfl) ?_ hHeld ?_
            rotate_left
            · (intro w hSw; (try dsimp only at hSw); first | (go_simp; done) | (go_simp; with_reducible rfl))
            simp only [Act.put, List.setIfInBounds_toArray, List.set_cons_zero, List.set_cons_succ]
            refine takeH (i := 1) (v := ?_) rfl rfl (by kernel_rfl) (by kernel_rfl) (by kernel_rfl) (fun _ _ _ h => h) (by rfl) ?_ hHeld ?_
            rotate_left
            · (intro w hSw; (try dsimp only at hSw); first | (go_simp; done) | (go_simp; with_reducible rfl))
            simp only [Act.put, List.setIfInBounds_toArray, List.set_cons_zero, List.set_cons_succ]
            refine takeH (i := 2) (v := ?_) rfl rfl (by kernel_rfl) (by kernel_rfl) (by kernel_rfl) (fun _ _ _ h => h) (by rfl) ?_ hHeld ?_
            rotate_left
            · (intro w hSw; (try dsimp only at hSw); first | (go_simp; done) | (go_simp; with_reducible rfl))
            simp only [Act.put, List.setIfInBounds_toArray, List.set_cons_zero, List.set_cons_succ]
            refine takeH (i := 3) (v := ?_) rfl rfl (by kernel_rfl) (by kernel_rfl) (by kernel_rfl) (fun _ _ _ h => h) (by rfl) ?_ hHeld ?_
            rotate_left
            · (intro w hSw; (try dsimp only at hSw); first | (go_simp; done) | (go_simp; with_reducible rfl))
            simp only [Act.put, List.setIfInBounds_toArray, List.set_cons_zero, List.set_cons_succ]
            refine takeH (i := 4) (v := ?_) rfl rfl (by kernel_rfl) (by kernel_rfl) (by kernel_rfl) (fun _ _ _ h => h) (by rfl) ?_ hHeld ?_
            rotate_left
            · (intro w hSw; (try dsimp only at hSw); first | (go_simp; done) | (go_simp; with_reducible rfl))
            simp only [Act.put, List.setIfInBounds_toArray, List.set_cons_zero, List.set_cons_succ]
            refine takeH (i := 5) (v := ?_) rfl rfl (by kernel_rfl) (by kernel_rfl) (by kernel_rfl) (fun _ _ _ h => h) (by rfl) ?_ hHeld ?_
            rotate_left
            · (intro w hSw; (try dsimp only at hSw); first | (go_simp; done) | (go_simp; with_reducible rfl))
            simp only [Act.put, List.setIfInBounds_toArray, List.set_cons_zero, List.set_cons_succ]
            refine takeH (i := 6) (v := ?_) rfl rfl (by kernel_rfl) (by kernel_rfl) (by kernel_rfl) (fun _ _ _ h => h) (by rfl) ?_ hHeld ?_
            rotate_left
            · (intro w hSw; (try dsimp only at hSw); first | (go_simp; done) | (go_simp; with_reducible rfl))
            simp only [Act.put, List.setIfInBounds_toArray, List.set_cons_zero, List.set_cons_succ]
            refine takeH (i := 7) (v := ?_) rfl rfl (by kernel_rfl) (by kernel_rfl) (by kernel_rfl) (fun _ _ _ h => h) (by rfl) ?_ hHeld ?_
            rotate_left
            · (intro w hSw; (try dsimp only at hSw); first | (go_simp; done) | (go_simp; with_reducible rfl))
            simp only [Act.put, List.setIfInBounds_toArray, List.set_cons_zero, List.set_cons_succ]
            refine takeH (i := 8) (v := ?_) rfl rfl (by kernel_rfl) (by kernel_rfl) (by kernel_rfl) (fun _ _ _ h => h) (by rfl) ?_ hHeld ?_
            rotate_left
            · (intro w hSw; (try dsimp only at hSw); first | (go_simp; done) | (go_simp; with_reducible rfl))
            simp only [Act.put, List.setIfInBounds_toArray, List.set_cons_zero, List.set_cons_succ]
            refine wpAnyH_done (by kernel_rfl) ?_ _
            clear hxy
            go_wp2
            go_roundw
            case rel => exact ⟨j + 1, k + 1, cs, us, by go_num, by go_num, by omega, by omega, HO1.out, HR.out, HM1.out, .inr (.inl (by omega)), by omega, HCT.out, HB1.out⟩
            case measure => simp [intOf]; omega
          · have HNO : Hid (mt ss b (tOf bs) 0 a = none) := by show _ = _; rw [HM.out, HMS.out, if_neg hxy]
            have q1 : (x != y) = true := by simp [hxy]
            refine takeH (i := 0) (v := ?_) rfl rfl (by kernel_rfl) (by kernel_rfl) (by kernel_rfl) (fun _ _ _ h => h) (by rfl) ?_ hHeld ?_
            rotate_left
            · (intro w hSw; (try dsimp only at hSw); first | (go_simp; done) | (go_simp; with_reducible rfl))
            simp only [Act.put, List.setIfInBounds_toArray, List.set_cons_zero, List.set_cons_succ]
            refine takeH (i := 1) (v := ?_) rfl rfl (by kernel_rfl) (by kernel_rfl) (by kernel_rfl) (fun _ _ _ h => h) (by rfl) ?_ hHeld ?_
            rotate_left
            · (intro w hSw; (try dsimp only at hSw); first | (go_simp; done) | (go_simp; with_reducible rfl))
            simp only [Act.put, List.setIfInBounds_toArray, List.set_cons_zero, List.set_cons_succ]
            refine takeH (i := 2) (v := ?_) rfl rfl (by kernel_rfl) (by kernel_rfl) (by kernel_rfl) (fun _ _ _ h => h) (by rfl) ?_ hHeld ?_
            rotate_left
            · (intro w hSw; (try dsimp only at hSw); first | (go_simp; done) | (go_simp; with_reducible rfl))
            simp only [Act.put, List.setIfInBounds_toArray, List.set_cons_zero, List.set_cons_succ]
            refine takeH (i := 3) (v := ?_) rfl rfl (by kernel_rfl) (by kernel_rfl) (by kernel_rfl) (fun _ _ _ h => h) (by rfl) ?_ hHeld ?_
            rotate_left
            · (intro w hSw; (try dsimp only at hSw); first | (go_simp; done) | (go_simp; with_reducible rfl))
            simp only [Act.put, List.setIfInBounds_toArray, List.set_cons_zero, List.set_cons_succ]
            refine takeH (i := 4) (v := ?_) rfl rfl (by kernel_rfl) (by kernel_rfl) (by kernel_rfl) (fun _ _ _ h => h) (by rfl) ?_ hHeld ?_
            rotate_left
            · (intro w hSw; (try dsimp only at hSw); first | (go_simp; done) | (go_simp; with_reducible rfl))
            simp only [Act.put, List.setIfInBounds_toArray, List.set_cons_zero, List.set_cons_succ]
            refine takeH (i := 5) (v := ?_) rfl rfl (by kernel_rfl) (by kernel_rfl) (by kernel_rfl) (fun _ _ _ h => h) (by rfl) ?_ hHeld ?_
            rotate_left
            · (intro w hSw; (try dsimp only at hSw); first | (go_simp; done) | (go_simp; with_reducible rfl))
            simp only [Act.put, List.setIfInBounds_toArray, List.set_cons_zero, List.set_cons_succ]
            refine takeH (i := 6) (v := ?_) rfl rfl (by kernel_rfl) (by kernel_rfl) (by kernel_rfl) (fun _ _ _ h => h) (by rfl) ?_ hHeld ?_
            rotate_left
            · (intro w hSw; (try dsimp only at hSw); first | (go_simp; done) | (go_simp; with_reducible rfl))
            simp only [Act.put, List.setIfInBounds_toArray, List.set_cons_zero, List.set_cons_succ]
            refine takeH (i := 7) (v := ?_) rfl rfl (by kernel_rfl) (by kernel_rfl) (by kernel_rfl) (fun _ _ _ h => h) (by rfl) ?_ hHeld ?_
            rotate_left
            · (intro w hSw; (try dsimp only at hSw); first | (go_simp; done) | (go_simp; with_reducible rfl))
            simp only [Act.put, List.setIfInBounds_toArray, List.set_cons_zero, List.set_cons_succ]
            refine takeH (i := 8) (v := ?_) rfl rfl (by kernel_rfl) (by kernel_rfl) (by kernel_rfl) (fun _ _ _ h => h) (by rfl) ?_ hHeld ?_
            rotate_left
            · (intro w hSw; (try dsimp only at hSw); first | (go_simp; done) | (go_simp; with_reducible rfl))
            simp only [Act.put, List.setIfInBounds_toArray, List.set_cons_zero, List.set_cons_succ]
            refine wpAnyH_done (by kernel_rfl) ?_ _
            clear hxy
            go_wp2
            go_ret2
            exact .inl ⟨HNO.out, _, rfl, HB1.out⟩
        · have hxn : x < 0 := by omega
          have HMV := Lib.hid (mt_var2 (ss := ss) (T := tOf cs) hka hjb (by rw [← HXE.out]; exact hxn))
          rw [← HXE.out] at HMV
          have h1j : rowB ss b = true ∨ 1 ≤ j := by
            rcases HW.out with q | q | ⟨q, rfl⟩
            · exact .inl q
            · exact .inr q
            · rw [← HXE.out] at q; omega
          obtain ⟨p1, p2, p3, p4, p5, p6⟩ := HTG.out.piece hjb h1j
          have HSC := Lib.hid p1
          obtain ⟨E, hE⟩ : ∃ E, E = endAt ss b j := ⟨_, rfl⟩
          obtain ⟨P, hP⟩ : ∃ P, P = pieceAt ss b j := ⟨_, rfl⟩
          rw [← hE] at HMV HSC p3 p4 p5
          rw [← hP] at HMV p2 p5 p6
          rw [HLB.out] at p4
          have HPI : Hid (IntsAt w w.heap.size (some ⟨bb, ob + j, none⟩) P.length P) := by show IntsAt _ _ _ _ _; rw [hP]; exact HB.out.piece (by omega) (by rw [← hP]; omega)
          have hPne : P ≠ [] := fun q => by have := trm_pos p2; rw [q] at this; simp at this
          have HPL := Lib.hid p5
          have HP6 := Lib.hid p6
          clear hE hP p1 p2 p5 p6
          obtain ⟨AQ, cap, hq, hcap, hbd⟩ := HO.out.bindsAt (HR.out.on HBW.out) (fun i hi => by have := (HCT.out _ (bdAt_mem hi)).2; omega)
          subst hq
          have HBD := Lib.hid hbd
          clear hbd
          have hm1 : (0 : Int) ≤ -1 - x := by omega
          go_wp2_with fail
          refine (refEnd_any A (some ⟨bb, ob, none⟩) n c n2 c2 _ _ j ss b _ (HS.out.on HBW.out) hn (HB.out.on HBW.out) (by omega) HTG.out.may (by omega)).mono ?_
          rintro e w' ⟨rfl, rfl⟩
          rw [HSC.out]
          go_wp2_with fail
          refine (refOf_any AQ cs.length cap _ cs (-1 - x) _ HBD.out (by omega)).mono ?_
          rintro e w' ⟨rfl, ho⟩
          obtain ⟨v, hv⟩ : ∃ v, v = (-1 - x).toNat := ⟨_, rfl⟩
          have hvx : (v : Int) = -1 - x := by omega
          rw [← hv] at HMV
          rcases ho with ⟨rfl, hof⟩ | ⟨f, hf, rfl, hof⟩
          · have HM1 : Hid (mt ss b (tOf bs) 0 a = mt ss b (tOf (cs ++ [⟨(v : Int), P⟩])) E (a.drop (k + 1))) := by
              show _ = _
              rw [HM.out, HMV.out, if_pos (.inl (tOf_none (by rw [hvx]; exact hof))), tOf_new (by rw [hvx]; exact hof)]
            clear hof hv
            go_wp2_with fail
            refine wp_region_held_drew (S := fun _ => True) (by kernel_rfl) trivial (fun hHeld => ?_)
            have hd : Below wr.heap.size wr wr.drew := (Below.refl wr.heap.size wr).drew
            have ho1 := HO.out.on hd
            have hb1 := HBW.out.trans (hd.mono hsz)
            refine takeH (i := 0) (v := ?_) rfl rfl (by kernel_rfl) (by kernel_rfl) (by kernel_rfl) (fun _ _ _ h => h) (by rfl) ?_ hHeld ?_
            rotate_left
            · (intro w hSw; (try dsimp only at hSw); first | (go_simp; done) | (go_simp; with_reducible rfl))
            simp only [Act.put, List.setIfInBounds_toArray, List.set_cons_zero, List.set_cons_succ]
            refine takeH (i := 1) (v := ?_) rfl rfl (by kernel_rfl) (by kernel_rfl) (by kernel_rfl) (fun _ _ _ h => h) (by rfl) ?_ hHeld ?_
            rotate_left
            · (intro w hSw; (try dsimp only at hSw); first | (go_simp; done) | (go_simp; with_reducible rfl))
            simp only [Act.put, List.setIfInBounds_toArray, List.set_cons_zero, List.set_cons_succ]
            refine takeH (i := 2) (v := ?_) rfl rfl (by kernel_rfl) (by kernel_rfl) (by kernel_rfl) (fun _ _ _ h => h) (by rfl) ?_ hHeld ?_
            rotate_left
            · (intro w hSw; (try dsimp only at hSw); first | (go_simp; done) | (go_simp; with_reducible rfl))
            simp only [Act.put, List.setIfInBounds_toArray, List.set_cons_zero, List.set_cons_succ]
            refine passH (i := 3) rfl rfl (by kernel_rfl) (by kernel_rfl) (by kernel_rfl) (fun _ _ _ h => h) (by rfl) hHeld ?_
            simp only [Act.put, List.setIfInBounds_toArray, List.set_cons_zero, List.set_cons_succ]
            refine passH (i := 4) rfl rfl (by kernel_rfl) (by kernel_rfl) (by kernel_rfl) (fun _ _ _ h => h) (by rfl) hHeld ?_
            simp only [Act.put, List.setIfInBounds_toArray, List.set_cons_zero, List.set_cons_succ]
            refine passH (i := 5) rfl rfl (by kernel_rfl) (by kernel_rfl) (by kernel_rfl) (fun _ _ _ h => h) (by rfl) hHeld ?_
            simp only [Act.put, List.setIfInBounds_toArray, List.set_cons_zero, List.set_cons_succ]
            refine passH (i := 6) rfl rfl (by kernel_rfl) (by kernel_rfl) (by kernel_rfl) (fun _ _ _ h => h) (by rfl) hHeld ?_
            simp only [Act.put, List.setIfInBounds_toArray, List.set_cons_zero, List.set_cons_succ]
            refine passH (i := 7) rfl rfl (by kernel_rfl) (by kernel_rfl) (by kernel_rfl) (fun _ _ _ h => h) (by rfl) hHeld ?_
            simp only [Act.put, List.setIfInBounds_toArray, List.set_cons_zero, List.set_cons_succ]
            refine passH (i := 8) rfl rfl (by kernel_rfl) (by kernel_rfl) (by kernel_rfl) (fun _ _ _ h => h) (by rfl) hHeld ?_
            simp only [Act.put, List.setIfInBounds_toArray, List.set_cons_zero, List.set_cons_succ]
            refine passH (i := 9) rfl rfl (by kernel_rfl) (by kernel_rfl) (by kernel_rfl) (fun _ _ _ h => h) (by rfl) hHeld ?_
            simp only [Act.put, List.setIfInBounds_toArray, List.set_cons_zero, List.set_cons_succ]
            refine passH (i := 10) rfl rfl (by kernel_rfl) (by kernel_rfl) (by kernel_rfl) (fun _ _ _ h => h) (by rfl) hHeld ?_
            simp only [Act.put, List.setIfInBounds_toArray, List.set_cons_zero, List.set_cons_succ]
            refine passH (i := 11) rfl rfl (by kernel_rfl) (by kernel_rfl) (by kernel_rfl) (fun _ _ _ h => h) (by rfl) hHeld ?_
            simp only [Act.put, List.setIfInBounds_toArray, List.set_cons_zero, List.set_cons_succ]
            refine passH (i := 12) rfl rfl (by kernel_rfl) (by kernel_rfl) (by kernel_rfl) (fun _ _ _ h => h) (by rfl) hHeld ?_
            simp only [Act.put, List.setIfInBounds_toArray, List.set_cons_zero, List.set_cons_succ]
            refine passH (i := 13) rfl rfl (by kernel_rfl) (by kernel_rfl) (by kernel_rfl) (fun _ _ _ h => h) (by rfl) hHeld ?_
            simp only [Act.put, List.setIfInBounds_toArray, List.set_cons_zero, List.set_cons_succ]
            refine takeH (i := 14) (v := ?_) rfl rfl (by kernel_rfl) (by kernel_rfl) (by kernel_rfl) (fun _ _ _ h => h) (by rfl) ?_ hHeld ?_
            rotate_left
            · (intro w hSw; (try dsimp only at hSw); first | (go_simp; done) | (go_simp; with_reducible rfl))
            simp only [Act.put, List.setIfInBounds_toArray, List.set_cons_zero, List.set_cons_succ]
            refine wpAnyH_done (by kernel_rfl) ?_ _
            obtain ⟨w1, hw1⟩ : ∃ w1, w1 = wr.drew := ⟨_, rfl⟩
            rw [← hw1] at ho1 hb1 hd ⊢
            have c1 : w1.cell? ⟨ba, oa + k, none⟩ = some (.int .i64 x) := by rw [hw1]; exact c0
            have HO1 := Lib.hid ho1
            have HB1 := Lib.hid hb1
            have hba1 : ba < w1.heap.size := Nat.lt_of_lt_of_le hba hb1.size
            have hs1 := hb1.size
            have k1 : (j : Int) ≤ (E : Int) := by omega
            have k2 : (E : Int) ≤ (c2 : Int) := by omega
            have k3 : ¬ c2 = j := by omega
            clear hw1 ho1 hb1 hd c0 d0
            go_wp2_with fail
            refine wp_region_held_drew (S := (fun w' => w'.cell? ⟨ba, oa + k, none⟩ = some (.int .i64 x))) (by kernel_rfl) c1 (fun hHeld => ?_)
            have hd : Below w1.heap.size w1 w1.drew := (Below.refl w1.heap.size w1).drew
            have ho2 := HO1.out.on hd
            have hb2 := HB1.out.trans (hd.mono hs1)
            obtain ⟨w2, hw2⟩ : ∃ w2, w2 = w1.drew := ⟨_, rfl⟩
            rw [← hw2] at ho2 hb2 hHeld ⊢
            have c2' : w2.cell? ⟨ba, oa + k, none⟩ = some (.int .i64 x) := by rw [hw2]; exact c1
            have HO2 := Lib.hid ho2
            have HB2 := Lib.hid hb2
            have hs2 := hb2.size
            clear hw2 ho2 hb2 hd c1 hs1
            have hba2 : ba < w2.heap.size := Nat.lt_of_lt_of_le hba hs2
            have HWR : Hid (IntKind.i64.wrap (-1 - x) = -1 - x) := IntWalk.i64_in _ (by omega)
            refine takeH (i := 0) (v := ?_) rfl rfl (by kernel_rfl) (by kernel_rfl) (by kernel_rfl) (fun _ _ _ h => h) (by rfl) ?_ hHeld ?_
            rotate_left
            · (intro w hSw; (try dsimp only at hSw); first | (go_simp; done) | (go_simp; with_reducible rfl))
            simp only [Act.put, List.setIfInBounds_toArray, List.set_cons_zero, List.set_cons_succ]
            refine takeH (i := 1) (v := ?_) rfl rfl (by kernel_rfl) (by kernel_rfl) (by kernel_rfl) (fun _ _ _ h => h) (by rfl) ?_ hHeld ?_
            rotate_left
            · (intro w hSw; (try dsimp only at hSw); first | (go_simp; done) | (go_simp; with_reducible rfl))
            simp only [Act.put, List.setIfInBounds_toArray, List.set_cons_zero, List.set_cons_succ]
            refine takeH (i := 2) (v := ?_) rfl rfl (by kernel_rfl) (by kernel_rfl) (by kernel_rfl) (fun _ _ _ h => h) (by rfl) ?_ hHeld ?_
            rotate_left
            · (intro w hSw; (try dsimp only at hSw); first | (go_simp; done) | (go_simp; with_reducible rfl))
            simp only [Act.put, List.setIfInBounds_toArray, List.set_cons_zero, List.set_cons_succ]
            refine takeH (i := 3) (v := ?_) rfl rfl (by kernel_rfl) (by kernel_rfl) (by kernel_rfl) (fun _ _ _ h => h) (by rfl) ?_ hHeld ?_
            rotate_left
            · (intro w hSw; (try dsimp only at hSw); first | (go_simp; done) | (go_simp; with_reducible rfl))
            simp only [Act.put, List.setIfInBounds_toArray, List.set_cons_zero, List.set_cons_succ]
            refine takeH (i := 4) (v := ?_) rfl rfl (by kernel_rfl) (by kernel_rfl) (by kernel_rfl) (fun _ _ _ h => h) (by rfl) ?_ hHeld ?_
            rotate_left
            · (intro w hSw; (try dsimp only at hSw); first | (go_simp; done) | (go_simp; with_reducible rfl))
            simp only [Act.put, List.setIfInBounds_toArray, List.set_cons_zero, List.set_cons_succ]
            refine takeH (i := 5) (v := ?_) rfl rfl (by kernel_rfl) (by kernel_rfl) (by kernel_rfl) (fun _ _ _ h => h) (by rfl) ?_ hHeld ?_
            rotate_left
            · (intro w hSw; (try dsimp only at hSw); first | (go_simp; done) | (go_simp; with_reducible rfl))
            simp only [Act.put, List.setIfInBounds_toArray, List.set_cons_zero, List.set_cons_succ]
            refine takeH (i := 6) (v := ?_) rfl rfl (by kernel_rfl) (by kernel_rfl) (by kernel_rfl) (fun _ _ _ h => h) (by rfl) ?_ hHeld ?_
            rotate_left
            · (intro w hSw; (try dsimp only at hSw); first | (go_simp; done) | (go_simp; with_reducible rfl))
            simp only [Act.put, List.setIfInBounds_toArray, List.set_cons_zero, List.set_cons_succ]
            refine takeH (i := 7) (v := ?_) rfl rfl (by kernel_rfl) (by kernel_rfl) (by kernel_rfl) (fun _ _ _ h => h) (by rfl) ?_ hHeld ?_
            rotate_left
            · (intro w hSw; (try dsimp only at hSw); first | (go_simp; done) | (go_simp; with_reducible rfl))
            simp only [Act.put, List.setIfInBounds_toArray, List.set_cons_zero, List.set_cons_succ]
            refine takeH (i := 8) (v := ?_) rfl rfl (by kernel_rfl) (by kernel_rfl) (by kernel_rfl) (fun _ _ _ h => h) (by rfl) ?_ hHeld ?_
            rotate_left
            · (intro w hSw; (try dsimp only at hSw); first | (go_simp; done) | (go_simp; with_reducible rfl))
            simp only [Act.put, List.setIfInBounds_toArray, List.set_cons_zero, List.set_cons_succ]
            refine takeH (i := 9) (v := ?_) rfl rfl (by kernel_rfl) (by kernel_rfl) (by kernel_rfl) (fun _ _ _ h => h) (by rfl) ?_ hHeld ?_
            rotate_left
            · (intro w hSw; (try dsimp only at hSw); first | (go_simp; done) | (go_simp; with_reducible rfl))
            simp only [Act.put, List.setIfInBounds_toArray, List.set_cons_zero, List.set_cons_succ]
            refine takeH (i := 10) (v := ?_) rfl rfl (by kernel_rfl) (by kernel_rfl) (by kernel_rfl) (fun _ _ _ h => h) (by rfl) ?_ hHeld ?_
            rotate_left
            · (intro w hSw; (try dsimp only at hSw); first | (go_simp; done) | (go_simp; with_reducible rfl))
            simp only [Act.put, List.setIfInBounds_toArray, List.set_cons_zero, List.set_cons_succ]
            rw [HWR.out]
            refine wpAnyH_ready (rs := [11]) (by kernel_rfl) (by simp) ?_
            refine AllReadyH.cons rfl (fun K hK => ?_) AllReadyH.nil
            go_simp
            refine hK.out _ _ ?_ (fun hHeld => ?_)
            · have hbn := below_new w2 (.cells #[.int .i64 (-1 - x), .slice (some ⟨bb, ob + j, none⟩) (E - j) (c2 - j)] 133)
              show _ = _
              rw [hbn.cell (p := ⟨ba, oa + k, none⟩) hba2]; exact c2'
            clear hK K
            refine wpAnyH_ready (rs := [12]) (by kernel_rfl) (by simp) ?_
            refine AllReadyH.cons rfl (fun K hK => ?_) AllReadyH.nil
            refine app_bdv_step rfl (.tmp 72) (.tmp 83) rfl w.heap.size _ cs us (-1 - x) P _ rfl HO2.out (slice_one _ _ _) rfl rfl (by omega) hs2 ?_
            intro v3 w3 hown3 hc3
            have c3 : w3.cell? ⟨ba, oa + k, none⟩ = some (.int .i64 x) := by rw [hc3.bel.cell (p := ⟨ba, oa + k, none⟩) hba]; exact c2'
            have HO3 := Lib.hid hown3
            have HB3 := Lib.hid (HB2.out.trans hc3.bel)
            clear hown3 hc3
            refine hK.out _ _ ?_ (fun hHeld => ?_)
            · exact c3
            clear hK K
            refine takeH (i := 13) (v := ?_) rfl rfl (by kernel_rfl) (by kernel_rfl) (by kernel_rfl) (fun _ _ _ h => h) (by rfl) ?_ hHeld ?_
            rotate_left
            · (intro w hSw; (try dsimp only at hSw); first | (go_simp; done) | (go_simp; with_reducible rfl))
            simp only [Act.put, List.setIfInBounds_toArray, List.set_cons_zero, List.set_cons_succ]
            refine wpAnyH_done (by kernel_rfl) ?_ _
            go_wp2
            go_roundw
            case rel =>
              refine ⟨E, k + 1, cs ++ [⟨(v : Int), P⟩], us ++ [.slice (some ⟨bb, ob + j, none⟩) P.length (c2 - j)], by go_num, by go_num, by omega, by omega, ?_, ?_, HM1.out, .inr (.inl (by omega)), by rw [List.length_append]; simp only [List.length_cons, List.length_nil]; omega, fun z hz => ?_, HB3.out⟩
              · rw [hvx, HPL.out]; exact HO3.out
              · exact HR.out.snoc HO2.out.1 (by rw [HPL.out]; omega) HPI.out
              · rcases List.mem_append.1 hz with hz | hz
                · exact HCT.out z hz
                · rw [List.mem_singleton.1 hz]; exact ⟨hPne, HP6.out⟩
            case measure => simp [intOf]; omega
          · have hne : 0 < cs.length := by omega
            obtain ⟨bq, oq, hAQ, hbq, hcq⟩ := HBD.out.at_ hne
            obtain ⟨_, A', c', g0, g1, g2⟩ := hcq f hf
            subst hAQ
            obtain ⟨t0, ht0⟩ : ∃ t0, t0 = (bdAt cs f).t := ⟨_, rfl⟩
            rw [← ht0] at g0 g1 g2 hof
            have h48 : t0 ≠ [] ∧ t0.length ≤ 48 := by rw [ht0]; exact HCT.out _ (bdAt_mem hf)
            have HTV : Hid (tOf cs v = t0) := tOf_some (by rw [hvx]; exact hof)
            have HG2 := Lib.hid g2
            have f0 : (0 : Int) ≤ (f : Int) := by omega
            have f3 : (f : Int) < (cs.length : Int) := by omega
            have k1 : (j : Int) ≤ (E : Int) := by omega
            have k2 : (E : Int) ≤ (c2 : Int) := by omega
            have k3 : ¬ c2 = j := by omega
            clear hcq hof hv ht0 g2
            by_cases hsm : t0 = P
            · have HM1 : Hid (mt ss b (tOf bs) 0 a = mt ss b (tOf cs) E (a.drop (k + 1))) := by
                show _ = _
                rw [HM.out, HMV.out, if_pos (.inr (HTV.out.trans hsm)), bindV_same2 (HTV.out.trans hsm)]
              have HSM : Hid (sameI t0 P = true) := by show _ = _; rw [hsm]; exact sameI_self _
              clear hsm
              go_wp2_with fail
              refine wp_region_held_drew (S := (fun w' => w'.cell? ⟨bq, oq + f * 2 + 1, none⟩ = some (.slice A' t0.length c'))) (by kernel_rfl) g0 (fun hHeld => ?_)
              have hd : Below wr.heap.size wr wr.drew := (Below.refl wr.heap.size wr).drew
              refine takeH (i := 0) (v := ?_) rfl rfl (by kernel_rfl) (by kernel_rfl) (by kernel_rfl) (fun _ _ _ h => h) (by rfl) ?_ hHeld ?_
              rotate_left
              · (intro w hSw; (try dsimp only at hSw); first | (go_simp; done) | (go_simp; with_reducible rfl))
              simp only [Act.put, List.setIfInBounds_toArray, List.set_cons_zero, List.set_cons_succ]
              refine takeH (i := 1) (v := ?_) rfl rfl (by kernel_rfl) (by kernel_rfl) (by kernel_rfl) (fun _ _ _ h => h) (by rfl) ?_ hHeld ?_
              rotate_left
              · (intro w hSw; (try dsimp only at hSw); first | (go_simp; done) | (go_simp; with_reducible rfl))
              simp only [Act.put, List.setIfInBounds_toArray, List.set_cons_zero, List.set_cons_succ]
              refine takeH (i := 2) (v := ?_) rfl rfl (by kernel_rfl) (by kernel_rfl) (by kernel_rfl) (fun _ _ _ h => h) (by rfl) ?_ hHeld ?_
              rotate_left
              · (intro w hSw; (try dsimp only at hSw); first | (go_simp; done) | (go_simp; with_reducible rfl))
              simp only [Act.put, List.setIfInBounds_toArray, List.set_cons_zero, List.set_cons_succ]
              refine takeH (i := 3) (v := ?_) rfl rfl (by kernel_rfl) (by kernel_rfl) (by kernel_rfl) (fun _ _ _ h => h) (by rfl) ?_ hHeld ?_
              rotate_left
              · (intro w hSw; (try dsimp only at hSw); first | (go_simp; done) | (go_simp; with_reducible rfl))
              simp only [Act.put, List.setIfInBounds_toArray, List.set_cons_zero, List.set_cons_succ]
              refine takeH (i := 4) (v := ?_) rfl rfl (by kernel_rfl) (by kernel_rfl) (by kernel_rfl) (fun _ _ _ h => h) (by rfl) ?_ hHeld ?_
              rotate_left
              · (intro w hSw; (try dsimp only at hSw); first | (go_simp; done) | (go_simp; with_reducible rfl))
              simp only [Act.put, List.setIfInBounds_toArray, List.set_cons_zero, List.set_cons_succ]
              refine takeH (i := 5) (v := ?_) rfl rfl (by kernel_rfl) (by kernel_rfl) (by kernel_rfl) (fun _ _ _ h => h) (by rfl) ?_ hHeld ?_
              rotate_left
              · (intro w hSw; (try dsimp only at hSw); first | (go_simp; done) | (go_simp; with_reducible rfl))
              simp only [Act.put, List.setIfInBounds_toArray, List.set_cons_zero, List.set_cons_succ]
              refine takeH (i := 6) (v := ?_) rfl rfl (by kernel_rfl) (by kernel_rfl) (by kernel_rfl) (fun _ _ _ h => h) (by rfl) ?_ hHeld ?_
              rotate_left
              · (intro w hSw; (try dsimp only at hSw); first | (go_simp; done) | (go_simp; with_reducible rfl))
              simp only [Act.put, List.setIfInBounds_toArray, List.set_cons_zero, List.set_cons_succ]
              refine takeH (i := 7) (v := ?_) rfl rfl (by kernel_rfl) (by kernel_rfl) (by kernel_rfl) (fun _ _ _ h => h) (by rfl) ?_ hHeld ?_
              rotate_left
              · (intro w hSw; (try dsimp only at hSw); first | (go_simp; done) | (go_simp; with_reducible rfl))
              simp only [Act.put, List.setIfInBounds_toArray, List.set_cons_zero, List.set_cons_succ]
              refine takeH (i := 8) (v := ?_) rfl rfl (by kernel_rfl) (by kernel_rfl) (by kernel_rfl) (fun _ _ _ h => h) (by rfl) ?_ hHeld ?_
              rotate_left
              · (intro w hSw; (try dsimp only at hSw); first | (go_simp; done) | (go_simp; with_reducible rfl))
              simp only [Act.put, List.setIfInBounds_toArray, List.set_cons_zero, List.set_cons_succ]
              refine takeH (i := 9) (v := ?_) rfl rfl (by kernel_rfl) (by kernel_rfl) (by kernel_rfl) (fun _ _ _ h => h) (by rfl) ?_ hHeld ?_
              rotate_left
              · (intro w hSw; (try dsimp only at hSw); first | (go_simp; done) | (go_simp; with_reducible rfl))
              simp only [Act.put, List.setIfInBounds_toArray, List.set_cons_zero, List.set_cons_succ]
              refine takeH (i := 10) (v := ?_) rfl rfl (by kernel_rfl) (by kernel_rfl) (by kernel_rfl) (fun _ _ _ h => h) (by rfl) ?_ hHeld ?_
              rotate_left
              · (intro w hSw; (try dsimp only at hSw); first | (go_simp; done) | (go_simp; with_reducible rfl))
              simp only [Act.put, List.setIfInBounds_toArray, List.set_cons_zero, List.set_cons_succ]
              refine takeH (i := 11) (v := ?_) rfl rfl (by kernel_rfl) (by kernel_rfl) (by kernel_rfl) (fun _ _ _ h => h) (by rfl) ?_ hHeld ?_
              rotate_left
              · (intro w hSw; (try dsimp only at hSw); first | (go_simp; done) | (go_simp; with_reducible rfl))
              simp only [Act.put, List.setIfInBounds_toArray, List.set_cons_zero, List.set_cons_succ]
              refine wpAnyH_ready (rs := [12]) (by kernel_rfl) (by simp) ?_
              refine AllReadyH.cons rfl (fun K hK => ?_) AllReadyH.nil
              go_simp
              refine (refSame_any A' (some ⟨bb, ob + j, none⟩) t0.length c' (E - j) (c2 - j) _ _ t0 P _ (HG2.out.below hd) (by rw [← HPL.out]; exact HPI.out.below (HBW.out.trans (hd.mono hsz))) (by unfold maxLen; omega) (by unfold maxLen; omega)).mono ?_
              rintro e w3 ⟨rfl, hb3⟩
              rw [HSM.out]
              have hb2 := hd.trans (hb3.mono hd.size)
              have HO3 := Lib.hid (HO.out.on hb2)
              have HB3 := Lib.hid (HBW.out.trans (hb2.mono hsz))
              have g0' : w3.cell? ⟨bq, oq + f * 2 + 1, none⟩ = some (.slice A' t0.length c') := by rw [hb2.cell (p := ⟨bq, oq + f * 2 + 1, none⟩) hbq]; exact g0
              clear hd hb3 hb2 c0 d0
              go_wp2_with fail
              refine hK.out _ _ ?_ (fun hHeld => ?_)
              · exact g0'
              clear hK K
              refine takeH (i := 13) (v := ?_) rfl rfl (by kernel_rfl) (by kernel_rfl) (by kernel_rfl) (fun _ _ _ h => h) (by rfl) ?_ hHeld ?_
              rotate_left
              · (intro w hSw; (try dsimp only at hSw); first | (go_simp; done) | (go_simp; with_reducible rfl))
              simp only [Act.put, List.setIfInBounds_toArray, List.set_cons_zero, List.set_cons_succ]
              refine takeH (i := 14) (v := ?_) rfl rfl (by kernel_rfl) (by kernel_rfl) (by kernel_rfl) (fun _ _ _ h => h) (by rfl) ?_ hHeld ?_
              rotate_left
              · (intro w hSw; (try dsimp only at hSw); first | (go_simp; done) | (go_simp; with_reducible rfl))
              simp only [Act.put, List.setIfInBounds_toArray, List.set_cons_zero, List.set_cons_succ]
              refine wpAnyH_done (by kernel_rfl) ?_ _
              go_wp2
              go_roundw
              case rel => exact ⟨E, k + 1, cs, us, by go_num, by go_num, by omega, by omega, HO3.out, HR.out, HM1.out, .inr (.inl (by omega)), by omega, HCT.out, HB3.out⟩
              case measure => simp [intOf]; omega
            · have HNO : Hid (mt ss b (tOf bs) 0 a = none) := by
                show _ = _
                rw [HM.out, HMV.out, if_neg (by
                  rw [HTV.out]
                  rintro (q | q)
                  · exact h48.1 q
                  · exact hsm q)]
              have HSM : Hid (sameI t0 P = false) := by
                show _ = _
                unfold sameI
                exact decide_eq_false hsm
              clear hsm
              go_wp2_with fail
              refine wp_region_held_drew (S := (fun w' => w'.cell? ⟨bq, oq + f * 2 + 1, none⟩ = some (.slice A' t0.length c'))) (by kernel_rfl) g0 (fun hHeld => ?_)
              have hd : Below wr.heap.size wr wr.drew := (Below.refl wr.heap.size wr).drew
              refine takeH (i := 0) (v := ?_) rfl rfl (by kernel_rfl) (by kernel_rfl) (by kernel_rfl) (fun _ _ _ h => h) (by rfl) ?_ hHeld ?_
              rotate_left
              · (intro w hSw; (try dsimp only at hSw); first | (go_simp; done) | (go_simp; with_reducible rfl))
              simp only [Act.put, List.setIfInBounds_toArray, List.set_cons_zero, List.set_cons_succ]
              refine takeH (i := 1) (v := ?_) rfl rfl (by kernel_rfl) (by kernel_rfl) (by kernel_rfl) (fun _ _ _ h => h) (by rfl) ?_ hHeld ?_
              rotate_left
              · (intro w hSw; (try dsimp only at hSw); first | (go_simp; done) | (go_simp; with_reducible rfl))
              simp only [Act.put, List.setIfInBounds_toArray, List.set_cons_zero, List.set_cons_succ]
              refine takeH (i := 2) (v := ?_) rfl rfl (by kernel_rfl) (by kernel_rfl) (by kernel_rfl) (fun _ _ _ h => h) (by rfl) ?_ hHeld ?_
              rotate_left
              · (intro w hSw; (try dsimp only at hSw); first | (go_simp; done) | (go_simp; with_reducible rfl))
              simp only [Act.put, List.setIfInBounds_toArray, List.set_cons_zero, List.set_cons_succ]
              refine takeH (i := 3) (v := ?_) rfl rfl (by kernel_rfl) (by kernel_rfl) (by kernel_rfl) (fun _ _ _ h => h) (by rfl) ?_ hHeld ?_
              rotate_left
              · (intro w hSw; (try dsimp only at hSw); first | (go_simp; done) | (go_simp; with_reducible rfl))
              simp only [Act.put, List.setIfInBounds_toArray, List.set_cons_zero, List.set_cons_succ]
              refine takeH (i := 4) (v := ?_) rfl rfl (by kernel_rfl) (by kernel_rfl) (by kernel_rfl) (fun _ _ _ h => h) (by rfl) ?_ hHeld ?_
              rotate_left
              · (intro w hSw; (try dsimp only at hSw); first | (go_simp; done) | (go_simp; with_reducible rfl))
              simp only [Act.put, List.setIfInBounds_toArray, List.set_cons_zero, List.set_cons_succ]
              refine takeH (i := 5) (v := ?_) rfl rfl (by kernel_rfl) (by kernel_rfl) (by kernel_rfl) (fun _ _ _ h => h) (by rfl) ?_ hHeld ?_
              rotate_left
              · (intro w hSw; (try dsimp only at hSw); first | (go_simp; done) | (go_simp; with_reducible rfl))
              simp only [Act.put, List.setIfInBounds_toArray, List.set_cons_zero, List.set_cons_succ]
              refine takeH (i := 6) (v := ?_) rfl rfl (by kernel_rfl) (by kernel_rfl) (by kernel_rfl) (fun _ _ _ h => h) (by rfl) ?_ hHeld ?_
              rotate_left
              · (intro w hSw; (try dsimp only at hSw); first | (go_simp; done) | (go_simp; with_reducible rfl))
              simp only [Act.put, List.setIfInBounds_toArray, List.set_cons_zero, List.set_cons_succ]
              refine takeH (i := 7) (v := ?_) rfl rfl (by kernel_rfl) (by kernel_rfl) (by kernel_rfl) (fun _ _ _ h => h) (by rfl) ?_ hHeld ?_
              rotate_left
              · (intro w hSw; (try dsimp only at hSw); first | (go_simp; done) | (go_simp; with_reducible rfl))
              simp only [Act.put, List.setIfInBounds_toArray, List.set_cons_zero, List.set_cons_succ]
              refine takeH (i := 8) (v := ?_) rfl rfl (by kernel_rfl) (by kernel_rfl) (by kernel_rfl) (fun _ _ _ h => h) (by rfl) ?_ hHeld ?_
              rotate_left
              · (intro w hSw; (try dsimp only at hSw); first | (go_simp; done) | (go_simp; with_reducible rfl))
              simp only [Act.put, List.setIfInBounds_toArray, List.set_cons_zero, List.set_cons_succ]
              refine takeH (i := 9) (v := ?_) rfl rfl (by kernel_rfl) (by kernel_rfl) (by kernel_rfl) (fun _ _ _ h => h) (by rfl) ?_ hHeld ?_
              rotate_left
              · (intro w hSw; (try dsimp only at hSw); first | (go_simp; done) | (go_simp; with_reducible rfl))
              simp only [Act.put, List.setIfInBounds_toArray, List.set_cons_zero, List.set_cons_succ]
              refine takeH (i := 10) (v := ?_) rfl rfl (by kernel_rfl) (by kernel_rfl) (by kernel_rfl) (fun _ _ _ h => h) (by rfl) ?_ hHeld ?_
              rotate_left
              · (intro w hSw; (try dsimp only at hSw); first | (go_simp; done) | (go_simp; with_reducible rfl))
              simp only [Act.put, List.setIfInBounds_toArray, List.set_cons_zero, List.set_cons_succ]
              refine takeH (i := 11) (v := ?_) rfl rfl (by kernel_rfl) (by kernel_rfl) (by kernel_rfl) (fun _ _ _ h => h) (by rfl) ?_ hHeld ?_
              rotate_left
              · (intro w hSw; (try dsimp only at hSw); first | (go_simp; done) | (go_simp; with_reducible rfl))
              simp only [Act.put, List.setIfInBounds_toArray, List.set_cons_zero, List.set_cons_succ]
              refine wpAnyH_ready (rs := [12]) (by kernel_rfl) (by simp) ?_
              refine AllReadyH.cons rfl (fun K hK => ?_) AllReadyH.nil
              go_simp
              refine (refSame_any A' (some ⟨bb, ob + j, none⟩) t0.length c' (E - j) (c2 - j) _ _ t0 P _ (HG2.out.below hd) (by rw [← HPL.out]; exact HPI.out.below (HBW.out.trans (hd.mono hsz))) (by unfold maxLen; omega) (by unfold maxLen; omega)).mono ?_
              rintro e w3 ⟨rfl, hb3⟩
              rw [HSM.out]
              have hb2 := hd.trans (hb3.mono hd.size)
              have HO3 := Lib.hid (HO.out.on hb2)
              have HB3 := Lib.hid (HBW.out.trans (hb2.mono hsz))
              have g0' : w3.cell? ⟨bq, oq + f * 2 + 1, none⟩ = some (.slice A' t0.length c') := by rw [hb2.cell (p := ⟨bq, oq + f * 2 + 1, none⟩) hbq]; exact g0
              clear hd hb3 hb2 c0 d0
              go_wp2_with fail
              refine hK.out _ _ ?_ (fun hHeld => ?_)
              · exact g0'
              clear hK K
              refine takeH (i := 13) (v := ?_) rfl rfl (by kernel_rfl) (by kernel_rfl) (by kernel_rfl) (fun _ _ _ h => h) (by rfl) ?_ hHeld ?_
              rotate_left
              · (intro w hSw; (try dsimp only at hSw); first | (go_simp; done) | (go_simp; with_reducible rfl))
              simp only [Act.put, List.setIfInBounds_toArray, List.set_cons_zero, List.set_cons_succ]
              refine takeH (i := 14) (v := ?_) rfl rfl (by kernel_rfl) (by kernel_rfl) (by kernel_rfl) (fun _ _ _ h => h) (by rfl) ?_ hHeld ?_
              rotate_left
              · (intro w hSw; (try dsimp only at hSw); first | (go_simp; done) | (go_simp; with_reducible rfl))
              simp only [Act.put, List.setIfInBounds_toArray, List.set_cons_zero, List.set_cons_succ]
              refine wpAnyH_done (by kernel_rfl) ?_ _
              go_wp2
              go_ret2
              exact .inl ⟨HNO.out, _, rfl, HB3.out⟩
    · obtain rfl : k = n1 := by omega
      have hdn : a.drop k = [] := List.drop_eq_nil_iff.2 (by rw [HLA.out]; exact Nat.le_refl _)
      have HMN : Hid (mt ss b (tOf bs) 0 a = if b.length ≤ j then some (tOf cs) else none) := by show _ = _; rw [HM.out, hdn]; rfl
      clear hdn hlt
      by_cases hjn : j = n2
      · subst hjn
        have HY : Hid (mt ss b (tOf bs) 0 a = some (tOf cs)) := by show _ = _; rw [HMN.out, if_pos (by rw [HLB.out]; exact Nat.le_refl _)]
        go_wp2
        go_ret2
        exact .inr ⟨_, _, cs, us, HY.out, rfl, HO.out, HR.out, rfl, HCT.out, by rw [HLA.out]; exact hcl, HBW.out⟩
      · have HNO : Hid (mt ss b (tOf bs) 0 a = none) := by show _ = _; rw [HMN.out, if_neg (by rw [HLB.out]; omega)]
        have q0 : ((j : Int) == (n2 : Int)) = false := by simp; omega
        go_wp2
        go_ret2
        exact .inl ⟨HNO.out, _, rfl, HBW.out⟩
end Go.Proofs.YtcjpopjcpgipjaaDoor
