/-
  Contract: clause.Vars.
-/
import Derived.Test.YtcjpopjcpgipjaaDoorClauseWt
namespace Go.Proofs.YtcjpopjcpgipjaaDoor
open Go.RowKit Go.Deep
set_option linter.unusedSimpArgs false
set_option linter.unusedVariables false
set_option maxRecDepth 100000

/-- Block g tells which variables stand in the codes s; nothing else has turned. -/
structure SeenS (w0 : World) (g : Nat) (s : List Int) (wr : World) : Prop where
  ch : Chg [83] g w0 wr
  sh : wr.heap[g]? = some (.cells (boolsC (hasV s)) 83 (0, 0))
section
variable {w0 wr : World} {g q : Nat} {s : List Int} {x : Int}
theorem SeenS.cell (h : SeenS w0 g s wr) (j : Nat) (hj : j < 24) : wr.cell? ⟨g, j, none⟩ = some (.bool (hasV s j)) := by rw [cell_of_row _ _ _ _ _ _ h.sh, boolsC_at _ j hj]
theorem SeenS.frozen (h : SeenS w0 g s wr) (j : Nat) : wr.frozen? ⟨g, j, none⟩ = false := frozen_of_row _ _ _ _ _ h.sh
theorem SeenS.lt (h : SeenS w0 g s wr) : g < wr.heap.size := (Array.getElem?_eq_some_iff.1 h.sh).1
theorem snoc_at : intAt (s ++ [x]) s.length = x := by unfold intAt; simp
theorem SeenS.var (h : SeenS w0 g s wr) (hq : x = -1 - (q : Int)) (hq24 : q < 24) : SeenS w0 g (s ++ [x]) (wr.setCell ⟨g, q, none⟩ (.bool true)) := by
  refine ⟨h.ch.trans (Chg.set h.sh (Nat.le_refl _) _), ?_⟩
  have := heap_setCell_same _ _ q _ _ (.bool true) h.sh
  have e := seen_var (r := s ++ [x]) (k := s.length) (q := q) (by simp) (by rw [snoc_at]; exact hq) hq24
  have e1 : (s ++ [x]).take s.length = s := by simp
  have e2 : (s ++ [x]).take (s.length + 1) = s ++ [x] := List.take_of_length_le (by simp)
  rw [e1, e2] at e
  rw [e] at this; exact this
theorem SeenS.sym (h : SeenS w0 g s wr) (hx : 0 ≤ x) : SeenS w0 g (s ++ [x]) wr := by
  have e := seen_sym (r := s ++ [x]) (k := s.length) (by simp) (by rw [snoc_at]; exact hx)
  have e1 : (s ++ [x]).take s.length = s := by simp
  have e2 : (s ++ [x]).take (s.length + 1) = s ++ [x] := List.take_of_length_le (by simp)
  rw [e1, e2] at e
  exact ⟨h.ch, by rw [← e]; exact h.sh⟩
end
set_option maxHeartbeats 4000000 in
theorem varsC_any (A : Option Addr) (n cp : Nat) (ss : List Sym) (v : Cv) (c : Cl) (w : World) (h : SymsAt w w.heap.size A n ss) (hn : n ≤ maxLen) (hnc : n ≤ cp) (hc : ClAt w w.heap.size v c) :
    Calls Tryd.prog 20 #[.slice A n cp, v.val] w (IntsPost (varsO ss c) (clE ss c) w) := by
  have HWO : Hid (varsO ss c = if mayC ss c then varsC c else []) := rfl
  have hb0 := below_new w v.obj
  have hx0 := CBox.new hc
  have hs0 := h.on hb0
  have HMC : Hid (mayC ss c = true → MayC ss c) := fun q => mayC_iff.1 q
  have HNE : Hid (clE ss c = if mayC ss c then 0 else 800) := rfl
  rw [Cv.val_eq]
  have HVE := Lib.hid v.val_eq
  unfold Cv.obj at hb0 hx0 hs0
  have HX := Lib.hid hx0
  have HS := Lib.hid hs0
  have HB0 := Lib.hid hb0
  clear h hc hb0 hx0 hs0
  go_enter Tryd.func20, Tryd.ntmps20
  go_wp2_with fail
  rw [← HVE.out]
  refine (mayC_any A n cp ss v c _ HS.out hn hnc HX.out.cl).mono ?_
  rintro e w1 ⟨rfl, hb1⟩
  have HB1 := Lib.hid (HB0.out.trans (hb1.mono HB0.out.size))
  replace HX := Lib.hid (HX.out.on hb1)
  replace HS := Lib.hid (HS.out.on hb1)
  clear hb1 HB0
  have p0 := HX.out.c0
  have p1 := HX.out.c1
  have p2 := HX.out.c2
  obtain ⟨B, hB⟩ : ∃ B, B = w.heap.size := ⟨_, rfl⟩
  rw [← hB] at HX p0 p1 p2 ⊢
  have HBH := Lib.hid hB
  clear hB
  cases hm : mayC ss c
  · rw [hm] at HNE HWO
    clear hm
    go_wp2
    go_ret2
    exact ⟨_, ret_vi HNE.out.symm, OwnI.nil_.cast HWO.out.symm, HBH.out ▸ HB1.out⟩
  · rw [hm] at HNE HWO
    have HM := Lib.hid (HMC.out hm)
    have hlt1 := HX.out.lt
    obtain ⟨vs1, vs2, vs3, hcv, hvl, hrow⟩ := HX.out.cl.vals HM.out.small
    have hbn := below_new w1 (.cells (boolsC fun _ => false) 83)
    have HCV := Lib.hid (hcv.on hbn)
    have HX2 := Lib.hid (HX.out.on hbn)
    have hsh : (w1.alloc (.cells (boolsC fun _ => false) 83)).heap[w1.heap.size]? = some (.cells (boolsC (hasV [])) 83 (0, 0)) := by rw [heap_alloc_new]; rfl
    have HSH0 := Lib.hid hsh
    have HROW := Lib.hid hrow
    have HBN := Lib.hid hbn
    obtain ⟨vs, hvs⟩ : ∃ vs, vs = vs1 ++ vs2 ++ vs3 := ⟨_, rfl⟩
    have HPA := Lib.hid (parts_any v vs1 vs2 vs3)
    rw [← hvs] at HROW HPA hvl
    obtain ⟨L, hL⟩ : ∃ L, L = rowsC c := ⟨_, rfl⟩
    have H24 : Hid (∀ r ∈ L, ∀ x ∈ r, -24 ≤ x) := by rw [hL]; exact fun r hr => row24 HM.out hr
    have H49 : Hid (∀ r ∈ L, r.length ≤ 49) := by rw [hL]; exact HM.out.small.r
    have hL11 : L.length ≤ 11 := by rw [hL]; exact HM.out.small.rows
    have HCC : Hid (codesC c = L.flatten) := by show _ = _; rw [hL]; rfl
    rw [← hL] at HROW hvl
    have HVL := Lib.hid hvl
    have hz : boolsC (fun _ => false) = #[.bool false, .bool false, .bool false, .bool false, .bool false, .bool false, .bool false, .bool false, .bool false, .bool false, .bool false, .bool false, .bool false, .bool false, .bool false, .bool false, .bool false, .bool false, .bool false, .bool false, .bool false, .bool false, .bool false, .bool false] := rfl
    rw [hz] at HCV HX2 HSH0 HBN
    have r0 := HX2.out.c0
    have r1 := HX2.out.c1
    have r2 := HX2.out.c2
    clear hm hcv hbn hsh hrow hvs hL hvl hz p0 p1 p2
    go_wp2_with fail
    rw [← HVE.out]
    obtain ⟨w2, hw2⟩ : ∃ w2, w2 = w1.alloc (.cells #[.bool false, .bool false, .bool false, .bool false, .bool false, .bool false, .bool false, .bool false, .bool false, .bool false, .bool false, .bool false, .bool false, .bool false, .bool false, .bool false, .bool false, .bool false, .bool false, .bool false, .bool false, .bool false, .bool false, .bool false] 83) := ⟨_, rfl⟩
    have hsw2 : w2.heap.size = w1.heap.size + 1 := by rw [hw2]; simp
    rw [← hw2] at HCV HX2 HSH0 HBN r0 r1 r2 ⊢
    clear hw2
    refine (HPA.out _ HCV.out).mono ?_
    rintro e w3 ⟨v9, rfl, hv9, hb9⟩
    obtain ⟨A9, c9, hv9'⟩ := hv9.valued
    obtain ⟨nL, hnL⟩ : ∃ nL, vs.length = nL := ⟨_, rfl⟩
    rw [hnL] at hv9'
    subst hv9'
    have HOV := Lib.hid hv9
    have hLn : L.length = nL := by rw [← HVL.out]; exact hnL
    have HLN := Lib.hid hLn
    have HNL := Lib.hid hnL
    obtain ⟨g, hg⟩ : ∃ g, g = w1.heap.size := ⟨_, rfl⟩
    have hbg : Below g w1 w3 := hg ▸ (HBN.out.trans (hb9.mono HBN.out.size))
    have HBG := Lib.hid hbg
    have HSH3 : Hid (w3.heap[g]? = some (.cells (boolsC (hasV [])) 83 (0, 0))) := by
      show _ = _
      rw [hg, hb9.block _ (by rw [hsw2]; omega)]; exact HSH0.out
    have hs3 := hb9.size
    have hgt : g < w3.heap.size := by omega
    rw [hLn] at hL11
    rw [← hg] at HROW ⊢
    have HGE := Lib.hid hg
    clear hv9 hb9 hnL hLn hg hbg r0 r1 r2 HX2 HCV HSH0 HPA
    go_wp2
    go_loopw [21] (fun i wr => ∃ k : Nat, i = .int .i64 k ∧ k ≤ nL ∧ SeenS w3 g (L.take k).flatten wr) (fun i _ => nL - (intOf i).toNat)
    case atStart => exact ⟨0, rfl, by omega, Chg.refl, HSH3.out⟩
    case round =>
      obtain ⟨k, rfl, hk, hsn⟩ := hrel
      have HSN := Lib.hid hsn
      clear hsn
      by_cases hlt : k < nL
      · have hkL : k < L.length := by rw [HLN.out]; exact hlt
        have hkv : k < vs.length := by rw [HNL.out]; exact hlt
        obtain ⟨gv, cap', e, hgv, hgl, _, c0⟩ := (HOV.out.chg HSN.out.ch (by decide)).get hkv
        simp only [Value.slice.injEq] at e
        obtain ⟨rfl, -, -⟩ := e
        obtain ⟨A3, c3, hv3, hrow, _⟩ := HROW.out k hkL
        rw [hv3] at c0
        have HKL := Lib.hid hkL
        have HR := Lib.hid hrow
        have HTK := Lib.hid (rowOf_take hkL)
        have h49 := H49.out _ (rowOf_mem hkL)
        have HX24 := Lib.hid (H24.out _ (rowOf_mem hkL))
        obtain ⟨r, hr⟩ : ∃ r, r = rowOf L k := ⟨_, rfl⟩
        rw [← hr] at c0 HR HTK h49 HX24
        obtain ⟨m, hm⟩ : ∃ m, r.length = m := ⟨_, rfl⟩
        rw [hm] at c0 HR h49
        have HMM := Lib.hid hm
        obtain ⟨S0, hS0⟩ : ∃ S0, S0 = (L.take k).flatten := ⟨_, rfl⟩
        rw [← hS0] at HTK HSN
        have hi0 : (0 : Int) ≤ (k : Int) := by omega
        have hi3 : (k : Int) < (nL : Int) := by omega
        obtain ⟨wA, hwA⟩ : ∃ wA, wA = wr := ⟨_, rfl⟩
        subst hwA
        clear hrow hkL hkv hv3 hr hm hS0
        go_wp2
        go_loopw [27] (fun i wr => ∃ j : Nat, i = .int .i64 j ∧ j ≤ m ∧ SeenS w3 g (S0 ++ r.take j) wr) (fun i _ => m - (intOf i).toNat)
        case atStart => exact ⟨0, rfl, by omega, by simpa using HSN.out⟩
        case round =>
          obtain ⟨j, rfl, hj, hsn⟩ := hrel
          have HSJ := Lib.hid hsn
          clear hsn c0
          by_cases hjt : j < m
          · have hjr : j < r.length := by rw [HMM.out]; exact hjt
            obtain ⟨b', off', rfl, hb', hc'⟩ := (HR.out.at_.below (HBG.out.trans HSJ.out.ch.bel)).at_ (by omega)
            have hcx : wr.cell? ⟨b', off' + j, none⟩ = some (.int .i64 (intAt r j)) := hc' j hjt
            have x1 := HX24.out _ (List.mem_of_getElem? (intAt_get hjr))
            have HNX : Hid (S0 ++ r.take (j + 1) = (S0 ++ r.take j) ++ [intAt r j]) := by
              show _ = _
              rw [List.append_assoc, List.take_add_one, intAt_get hjr]; rfl
            obtain ⟨x, hx⟩ : ∃ x, x = intAt r j := ⟨_, rfl⟩
            rw [← hx] at hcx x1 HNX
            have hi0' : (0 : Int) ≤ (j : Int) := by omega
            have hi3' : (j : Int) < (m : Int) := by omega
            clear hc' hjr hx hb'
            by_cases hx0 : x < 0
            · obtain ⟨q, hq⟩ : ∃ q : Nat, x = -1 - (q : Int) := ⟨(-1 - x).toNat, by omega⟩
              have hq24 : q < 24 := by omega
              have hcb := HSJ.out.cell q hq24
              have hfb := HSJ.out.frozen q
              have hgl2 := HSJ.out.lt
              have hxv : -1 - x = (q : Int) := by omega
              have HQ := Lib.hid hq
              have u0 : (0 : Int) ≤ (q : Int) := by omega
              have u1 : (q : Int) < 24 := by omega
              clear hq
              go_wp2
              go_roundw
              case rel => exact ⟨j + 1, by go_num, by omega, by rw [HNX.out]; exact HSJ.out.var HQ.out hq24⟩
              case measure => simp [intOf]; omega
            · go_wp2
              go_roundw
              case rel => exact ⟨j + 1, by go_num, by omega, by rw [HNX.out]; exact HSJ.out.sym (by omega)⟩
              case measure => simp [intOf]; omega
          · obtain rfl : j = m := by omega
            have HSK : Hid (SeenS w3 g (L.take (k + 1)).flatten wr) := by
              show SeenS _ _ _ _
              have := HSJ.out
              rw [List.take_of_length_le (by rw [HMM.out]; omega)] at this
              rw [HTK.out]; exact this
            go_wp2
            go_roundw
            case rel => exact ⟨k + 1, by go_num, by omega, HSK.out⟩
            case measure => simp [intOf]; omega
      · obtain rfl : k = nL := by omega
        obtain ⟨wA, hwA⟩ : ∃ wA, wA = wr := ⟨_, rfl⟩
        subst hwA
        have HSH : Hid (wA.heap[g]? = some (.cells (boolsC (hasV (codesC c))) 83 (0, 0))) := by
          show _ = _
          have := HSN.out.sh
          rw [List.take_of_length_le (by rw [HLN.out]; omega)] at this
          rw [HCC.out]; exact this
        have HBA : Hid (Below w1.heap.size w1 wA) := HGE.out ▸ (HBG.out.trans HSN.out.ch.bel)
        have hsA := HBA.out.size
        have HVC : Hid (varsC c = varsN (codesC c) 24) := rfl
        obtain ⟨r, hr⟩ : ∃ r, r = codesC c := ⟨_, rfl⟩
        rw [← hr] at HSH HVC
        clear hr
        go_wp2_with (with_reducible refine wpList_load_row rfl 83 (.tmp 6) rfl g rfl 83 (boolsC (hasV r)) (0, 0) _ HSH.out Tryd.underlying83 rfl (by rw [boolsC_size]; kernel_rfl) ?_)
        go_loopw [11, 39] (fun q i wx => ∃ j : Nat, i = .int .i64 j ∧ j ≤ 24 ∧ OwnI wx wA.heap.size q (varsN r j) ∧ Below wA.heap.size wA wx) (fun _ i _ => 24 - (intOf i).toNat)
        case atStart => exact ⟨0, rfl, by omega, OwnI.nil_, Below.refl _ _⟩
        case round =>
          obtain ⟨j, rfl, hj, hown, hbx⟩ := hrel
          have HOWN := Lib.hid hown
          have HBX := Lib.hid hbx
          have hsx := hbx.size
          have hvl := varsN_length r j
          clear hown hbx
          by_cases hjt : j < 24
          · have HVS := Lib.hid (varsN_succ r j)
            have hidx := run_index_bool (hasV r) j hjt
            cases hv : hasV r j
            · rw [hv] at hidx
              have HV := Lib.hid hv
              clear hv
              go_wp2
              go_roundw
              case rel => exact ⟨j + 1, by go_num, by omega, HOWN.out.cast (by rw [HVS.out, HV.out]; rfl), HBX.out⟩
              case measure => simp [intOf]; omega
            · rw [hv] at hidx
              have HV := Lib.hid hv
              clear hv
              go_wp2_with (at_builtin
                           refine app_int1 rfl (.tmp 44) (.tmp 46) rfl wA.heap.size _ (varsN r j) (j : Int) rfl HOWN.out rfl (by omega) hsx ?_
                           intro v2 w2 hown2 hb2
                           have HOWN2 := Lib.hid hown2
                           have HB2 := Lib.hid hb2
                           clear hown2 hb2)
              go_roundw
              case rel => exact ⟨j + 1, by go_num, by omega, HOWN2.out.cast (by rw [HVS.out, HV.out]; rfl), HBX.out.trans HB2.out⟩
              case measure => simp [intOf]; omega
          · obtain rfl : j = 24 := by omega
            go_wp2
            go_ret2
            refine ⟨_, ret_vi (by rw [HNE.out]; rfl), (HOWN.out.cast (by rw [HWO.out, HVC.out]; rfl)).lower ?_, ?_⟩
            · have := HB1.out.size; omega
            · exact HB1.out.trans ((HBA.out.trans (HBX.out.mono hsA)).mono HB1.out.size)
end Go.Proofs.YtcjpopjcpgipjaaDoor
