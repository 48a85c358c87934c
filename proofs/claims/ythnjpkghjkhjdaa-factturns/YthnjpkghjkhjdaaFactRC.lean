/-
  Contract of the reference: Cut.
-/
import Derived.Test.YthnjpkghjkhjdaaMemTab3
import Derived.Test.YthnjpkghjkhjdaaFactM
import Derived.Test.YthnjpkghjkhjdaaFactCo
import Derived.Test.YthnjpkghjkhjdaaFactHas
namespace Go.Proofs.Ythnjpkghjkhjdaa
open Go.RowKit Go.Deep
set_option linter.unusedSimpArgs false
set_option linter.unusedVariables false
set_option maxRecDepth 100000

set_option maxHeartbeats 8000000 in
theorem cut_ref (A A' : Option Addr) (n cp m c' : Nat) (ss : List Sym) (v : Tv) (t : Tb) (a : List Int) (T : Tb) (b : Bool) (E : Int) (hpx : CutX ss t a T b E) (w : World) (h : SymsAt w w.heap.size A n ss) (hn : n ≤ maxLen) (hc : TabAt w w.heap.size v t) (hr : IntsAt w w.heap.size A' m a) (hm : m ≤ maxLen) (hmc : m ≤ c') :
    Calls Try.prog 24 #[.slice A n cp, v.val, .slice A' m c'] w (Tab3 T b E w) := by
  have HPX := Lib.hid hpx
  have HS := Lib.hid h
  have HR := Lib.hid hr
  have HC := Lib.hid hc
  have hx := TwoB.new w v
  obtain ⟨w0, hw0⟩ : ∃ w0, w0 = (w.alloc v.obj).alloc (.cells #[.slice none 0 0, .slice none 0 0] 26) := ⟨_, rfl⟩
  rw [← hw0] at hx
  have HX := Lib.hid hx
  rw [Tv.val_eq]
  unfold Tv.obj at hw0
  obtain ⟨A1, n1, c1, A2, n2, c2⟩ := v
  dsimp only at hw0 ⊢
  clear hpx h hr hc hx
  go_enter Try.func24, Try.ntmps24
  go_upto_region 1 with (fail)
  rw [← hw0]
  clear hw0
  have p0 := HX.out.c0
  have p1 := HX.out.c1
  dsimp only at p0 p1
  go_wp2_with fail
  refine (refMayT_any A n cp ss ⟨A1, n1, c1, A2, n2, c2⟩ t _ (HS.out.on HX.out.bel) hn (HC.out.on HX.out.bel)).mono ?_
  rintro e w1 ⟨rfl, hb1⟩
  replace HX := Lib.hid (HX.out.on hb1)
  clear p0 p1 hb1
  have p0 := HX.out.c0
  have p1 := HX.out.c1
  dsimp only at p0 p1
  cases htb : tabB ss t
  · have HN := Lib.hid (okT_no1 (a := a) htb)
    clear htb p0 p1
    obtain ⟨rfl, rfl, rfl⟩ := HPX.out.is_bad HN.out
    go_wp2_with (refine store_box rfl 26 (.tmp 6) (.tmp 24) rfl rfl (w.heap.size + 1) _ _ rfl rfl HX.out.b1 rfl (by kernel_rfl) two_one ?_
                 intro w9 hg9 hc9 hs9
                 have HG9 := Lib.hid hg9
                 have HC9 := Lib.hid hc9
                 clear hg9 hc9 hs9)
    refine tab_ret (g := w.heap.size + 1) (x := .bool false) (y := .int .i64 1100) rfl rfl rfl rfl rfl HG9.out rfl ?_
    have hfin : Below w.heap.size w w9 := HX.out.bel.trans (HC9.out.bel.mono (Nat.le_succ _))
    exact ⟨_, rfl, OwnTs.zero hfin.size, hfin⟩
  have HT := Lib.hid htb
  clear htb
  go_wp2_with fail
  refine (refIsFact_any A A' n cp m c' ss a _ (HS.out.on HX.out.bel) hn (HR.out.on HX.out.bel) hm hmc).mono ?_
  rintro e w2 ⟨rfl, hb2⟩
  replace HX := Lib.hid (HX.out.on hb2)
  clear p0 p1 hb2
  have p0 := HX.out.c0
  have p1 := HX.out.c1
  dsimp only at p0 p1
  cases hfb : factB ss a
  · have HN := Lib.hid (okT_no2 (t := t) hfb)
    clear hfb p0 p1
    obtain ⟨rfl, rfl, rfl⟩ := HPX.out.is_bad HN.out
    go_wp2_with (refine store_box rfl 26 (.tmp 6) (.tmp 24) rfl rfl (w.heap.size + 1) _ _ rfl rfl HX.out.b1 rfl (by kernel_rfl) two_one ?_
                 intro w9 hg9 hc9 hs9
                 have HG9 := Lib.hid hg9
                 have HC9 := Lib.hid hc9
                 clear hg9 hc9 hs9)
    refine tab_ret (g := w.heap.size + 1) (x := .bool false) (y := .int .i64 1100) rfl rfl rfl rfl rfl HG9.out rfl ?_
    have hfin : Below w.heap.size w w9 := HX.out.bel.trans (HC9.out.bel.mono (Nat.le_succ _))
    exact ⟨_, rfl, OwnTs.zero hfin.size, hfin⟩
  have HFC := Lib.hid (factB_c hfb)
  have HOK := Lib.hid (tabB_true HT.out).2
  have HOT := Lib.hid (okT_yes HT.out hfb)
  have h32 : n1 = 32 := by have := HOK.out.len; rw [HC.out.sl.len] at this; exact this
  have hn24 : n2 ≤ 24 := by have := HOK.out.few; rw [HC.out.fc.len] at this; exact this
  have HSM := Lib.hid HOK.out.small
  subst h32
  clear hfb
  go_wp2_with fail
  refine (refCopyT_any ⟨A1, 32, c1, A2, n2, c2⟩ t _ (HC.out.on HX.out.bel) HSM.out).mono ?_
  rintro e w4 ⟨v4, rfl, hv4, hb4⟩
  obtain ⟨D, d9, F, f9, e4⟩ := hv4.parts
  rw [HOK.out.len, HC.out.fc.len] at e4
  dsimp only at e4
  subst e4
  have HV4 := Lib.hid (hv4.lower HX.out.bel.size)
  replace HX := Lib.hid (HX.out.on hb4)
  obtain ⟨g, hg⟩ : ∃ g, g = w4.heap.size := ⟨_, rfl⟩
  have HG := Lib.hid hg
  clear p0 p1 hb4 hv4 hg
  have HGL : Hid (w.heap.size + 1 < g) := by show _ < _; rw [HG.out]; exact HX.out.sz
  have HM : Hid (∃ M, ∀ w5, w5.heap[g]? = some (.cells #[.slice D 32 d9, .slice F n2 f9] 26 (0, 0)) → Chg [26] g (w4.alloc (.cells #[.slice none 0 0, .slice none 0 0] 26)) w5 → TabV w M g t ⟨D, 32, d9, F, n2, f9⟩ w5 ∧ TwoB w ⟨A1, 32, c1, A2, n2, c2⟩ w5) := copy_box HV4.out HX.out HG.out
  obtain ⟨M, hM⟩ := HM.out
  have HMM := Lib.hid hM
  clear hM HM
  go_wp2_with (refine store_box rfl 26 (.tmp 9) (.tmp 26) rfl rfl w4.heap.size _ _ rfl rfl (heap_alloc_new w4 (.cells #[.slice none 0 0, .slice none 0 0] 26)) rfl (by kernel_rfl) two_one ?_
               intro w5 hg5 hc5 hs5
               obtain ⟨hF, hX⟩ := HMM.out w5 (by rw [HG.out]; exact hg5) (by rw [HG.out]; exact hc5)
               have HF := Lib.hid hF
               replace HX := Lib.hid hX
               have p0 := hX.c0
               have p1 := hX.c1
               dsimp only at p0 p1
               clear hg5 hc5 hs5 hF hX)
  rw [← HG.out]
  clear HG HMM HV4
  refine (refWhere_any A' m c' ⟨A1, 32, c1, A2, n2, c2⟩ t a _ (HC.out.on HX.out.bel) (HR.out.on HX.out.bel) hm).mono ?_
  rintro e w3 ⟨rfl, hb3⟩
  replace HX := Lib.hid (HX.out.on hb3)
  replace HF := Lib.hid (HF.out.on hb3)
  clear p0 p1 hb3
  have p0 := HX.out.c0
  have p1 := HX.out.c1
  dsimp only at p0 p1
  have u0 := HF.out.c0
  have u1 := HF.out.c1
  dsimp only at u0 u1
  have hsm := HOK.out.where_mem (a := a)
  by_cases g1 : a ∈ t.facts
  case neg =>
    have HIS := Lib.hid (HPX.out.is_gone HOT.out g1)
    obtain ⟨s, hs⟩ : ∃ s, s = whereR t a := ⟨_, rfl⟩
    rw [← hs] at hsm ⊢
    have g2 : s < 0 := by
      rcases Int.lt_or_le s 0 with z | z
      · exact z
      · exact absurd (hsm.1 z) g1
    clear hsm g1 hs
    obtain ⟨rfl, rfl, rfl⟩ := HIS.out
    go_wp2_with (refine store_box rfl 26 (.tmp 6) (.tmp 32) rfl rfl (w.heap.size + 1) _ _ rfl rfl HX.out.b1 rfl (by kernel_rfl) two_one ?_
                 intro w9 hg9 hc9 hs9
                 have HG9 := Lib.hid hg9
                 have HC9 := Lib.hid hc9
                 clear hg9 hc9 hs9)
    refine tab_ret (g := w.heap.size + 1) (x := .bool false) (y := .int .i64 0) rfl rfl rfl rfl rfl HG9.out rfl ?_
    have hfin : Below w.heap.size w w9 := HX.out.bel.trans (HC9.out.bel.mono (Nat.le_succ _))
    exact ⟨_, rfl, HF.out.own.chg HC9.out, hfin⟩
  obtain ⟨k, p2, r2, hk, hka, hp2, hr2, ep, er, rfl, rfl, rfl⟩ := HPX.out.is_done HOT.out g1
  have HKA := Lib.hid hka
  have hwk : whereR t a = (k : Int) := by rw [← hka]; exact HOK.out.where_ hk
  rw [hwk]
  obtain ⟨q, hqe⟩ : ∃ q, n2 = q + 1 := ⟨n2 - 1, by have := HC.out.fc.len; dsimp only at this; omega⟩
  subst hqe
  have hlen : t.facts.length = q + 1 := HC.out.fc.len
  have HLEN := Lib.hid hlen
  have HL1 : Hid (lastN t (k : Int) 32 = (p2 : Int)) := HOK.out.last hp2 ep
  have HL2 : Hid (lastN t (q : Int) 32 = (r2 : Int)) := HOK.out.last (k := q) hr2 (by rw [er, hlen]; rfl)
  have hkq : k < q + 1 := by omega
  clear hsm g1 hka hk ep er hlen hwk HT
  have g2 : ¬ (k : Int) < 0 := by omega
  have hq24 : q ≤ 23 := by omega
  have hqi : (q : Int) ≤ 23 := by omega
  have hqj : (0 : Int) ≤ (q : Int) := by omega
  have hqs : (q : Int) < (q : Int) + 1 := by omega
  have hks : (k : Int) < (q : Int) + 1 := by omega
  have hkj : (0 : Int) ≤ (k : Int) := by omega
  have hwq : IntKind.i64.wrap (q : Int) = (q : Int) := by rw [IntKind.wrap_i64]; omega
  obtain ⟨bS, hD, -⟩ := HF.out.slot (i := 0) (by rw [HOK.out.len]; omega) 0
  dsimp only at hD
  subst hD
  go_wp2_with fail
  have hd : Below w3.heap.size w3 w3.drew := (Below.refl w3.heap.size w3).drew
  have HF8 := Lib.hid (HF.out.on hd)
  have HX8 := Lib.hid (HX.out.on hd)
  refine wp_region_held_drew (S := (fun w' => w'.cell? ⟨w.heap.size, 0, none⟩ = some (.slice A1 32 c1) ∧ w'.cell? ⟨w.heap.size, 1, none⟩ = some (.slice A2 (q + 1) c2))) (by kernel_rfl) ⟨p0, p1⟩ (fun hHeld => ?_)
  obtain ⟨w8, hw8⟩ : ∃ w8, w8 = w3.drew := ⟨_, rfl⟩
  rw [← hw8] at HF8 HX8 hHeld ⊢
  clear hw8 hd HF HX p0 p1 u0 u1 hwq
  refine takeH (i := 0) (v := ?_) rfl rfl (by kernel_rfl) (by kernel_rfl) (by kernel_rfl) (fun _ _ _ h => h) (by rfl) ?_ hHeld ?_
  rotate_left
  · (intro w hSw; (try dsimp only at hSw); first | (go_simp; done) | (go_simp; with_reducible rfl))
  simp only [Act.put, List.setIfInBounds_toArray, List.set_cons_zero, List.set_cons_succ]
  refine takeH (i := 1) (v := ?_) rfl rfl (by kernel_rfl) (by kernel_rfl) (by kernel_rfl) (fun _ _ _ h => h) (by rfl) ?_ hHeld ?_
  rotate_left
  · (intro w hSw; (try dsimp only at hSw); first | (go_simp; done) | (go_simp; with_reducible rfl))
  simp only [Act.put, List.setIfInBounds_toArray, List.set_cons_zero, List.set_cons_succ]
  refine takeH (i := 3) (v := ?_) rfl rfl (by kernel_rfl) (by kernel_rfl) (by kernel_rfl) (fun _ _ _ h => h) (by rfl) ?_ hHeld ?_
  rotate_left
  · (intro w hSw; (try dsimp only at hSw); first | (go_simp; done) | (go_simp; with_reducible rfl))
  simp only [Act.put, List.setIfInBounds_toArray, List.set_cons_zero, List.set_cons_succ]
  refine takeH (i := 4) (v := ?_) rfl rfl (by kernel_rfl) (by kernel_rfl) (by kernel_rfl) (fun _ _ _ h => h) (by rfl) ?_ hHeld ?_
  rotate_left
  · (intro w hSw; (try dsimp only at hSw); first | (go_simp; done) | (go_simp; with_reducible rfl))
  simp only [Act.put, List.setIfInBounds_toArray, List.set_cons_zero, List.set_cons_succ]
  refine wpAnyH_ready (rs := [2]) (by kernel_rfl) (by simp) ?_
  refine AllReadyH.cons rfl (fun K hK => ?_) AllReadyH.nil
  go_simp
  refine (refSlot_any ⟨A1, 32, c1, A2, q + 1, c2⟩ t q _ (HC.out.on HX8.out.bel) rfl).mono ?_
  rintro e w10 ⟨rfl, hb10⟩
  replace HF8 := Lib.hid (HF8.out.on hb10)
  replace HX8 := Lib.hid (HX8.out.on hb10)
  clear hb10
  rw [HL2.out]
  have p0 := HX8.out.c0
  have p1 := HX8.out.c1
  dsimp only at p0 p1
  go_wp2_with fail
  refine hK.out _ _ ?_ (fun hHeld => ?_)
  · exact ⟨p0, p1⟩
  clear hK K p0 p1
  refine wpAnyH_ready (rs := [5]) (by kernel_rfl) (by simp) ?_
  refine AllReadyH.cons rfl (fun K hK => ?_) AllReadyH.nil
  go_simp
  refine (refSlot_any ⟨A1, 32, c1, A2, q + 1, c2⟩ t k _ (HC.out.on HX8.out.bel) rfl).mono ?_
  rintro e w11 ⟨rfl, hb11⟩
  replace HF8 := Lib.hid (HF8.out.on hb11)
  replace HX8 := Lib.hid (HX8.out.on hb11)
  clear hb11
  rw [HL1.out]
  have p0 := HX8.out.c0
  have p1 := HX8.out.c1
  dsimp only at p0 p1
  go_wp2_with fail
  refine hK.out _ _ ?_ (fun hHeld => ?_)
  · exact ⟨p0, p1⟩
  clear hK K
  refine takeH (i := 6) (v := ?_) rfl rfl (by kernel_rfl) (by kernel_rfl) (by kernel_rfl) (fun _ _ _ h => h) (by rfl) ?_ hHeld ?_
  rotate_left
  · (intro w hSw; (try dsimp only at hSw); first | (go_simp; done) | (go_simp; with_reducible rfl))
  simp only [Act.put, List.setIfInBounds_toArray, List.set_cons_zero, List.set_cons_succ]
  refine takeH (i := 7) (v := ?_) rfl rfl (by kernel_rfl) (by kernel_rfl) (by kernel_rfl) (fun _ _ _ h => h) (by rfl) ?_ hHeld ?_
  rotate_left
  · (intro w hSw; (try dsimp only at hSw); first | (go_simp; done) | (go_simp; with_reducible rfl))
  simp only [Act.put, List.setIfInBounds_toArray, List.set_cons_zero, List.set_cons_succ]
  refine wpAnyH_done (by kernel_rfl) ?_ _
  clear hHeld
  have u0 := HF8.out.c0
  have u1 := HF8.out.c1
  dsimp only at u0 u1
  have hri9 : (r2 : Int) < 32 := by omega
  have hrj : (0 : Int) ≤ (r2 : Int) := by omega
  have hpi9 : (p2 : Int) < 32 := by omega
  have hpj : (0 : Int) ≤ (p2 : Int) := by omega
  obtain ⟨bS2, eb, cc, ff, hF9, hk9⟩ := HF8.out.slot (i := r2) (by rw [HOK.out.len]; exact hr2) (k : Int)
  dsimp only at eb
  injection eb with eb
  injection eb with eb
  subst eb
  have hx9 := HX8.out.keep hk9 HGL.out hF9.bel
  obtain ⟨bS2, eb, cc2, ff2, hF12, hk12⟩ := hF9.slot (i := p2) (by rw [List.length_set, HOK.out.len]; exact hp2) (-2)
  dsimp only at eb
  injection eb with eb
  injection eb with eb
  subst eb
  have hx12 := hx9.keep hk12 HGL.out hF12.bel
  have HF9 := Lib.hid hF9
  have HF12 := Lib.hid hF12
  have HX12 := Lib.hid hx12
  clear hF9 hx9 hk9 hF12 hx12 hk12
  go_wp2_with (first
    | (refine put_cell rfl 3 (.tmp 47) (.tmp 46) rfl rfl bS r2 (.int .i64 (k : Int)) _ rfl rfl rfl rfl cc ff (by kernel_rfl) ?_
       obtain ⟨w12, hw12⟩ : ∃ w12, w12 = w11.setCell ⟨bS, r2, none⟩ (.int .i64 (k : Int)) := ⟨_, rfl⟩
       rw [← hw12] at HF9 HF12 HX12 cc2 ff2 ⊢
       clear hw12 cc ff u0 u1 p0 p1
       have u0 := HF9.out.c0
       dsimp only at u0)
    | (refine put_cell rfl 3 (.tmp 51) (.const (.int .i64 (-2))) rfl rfl bS p2 (.int .i64 (-2)) _ rfl rfl rfl rfl cc2 ff2 (by kernel_rfl) ?_
       obtain ⟨w13, hw13⟩ : ∃ w13, w13 = w12.setCell ⟨bS, p2, none⟩ (.int .i64 (-2)) := ⟨_, rfl⟩
       rw [← hw13] at HF12 HX12 ⊢
       clear hw13 cc2 ff2 u0 HF9))
  obtain ⟨s, hs⟩ : ∃ s, s = rowOf t.facts q := ⟨_, rfl⟩
  have hlR : Hid (rowOf t.facts q = s) := hs.symm
  have HSF : Hid (fcAt t q = s) := hs.symm
  clear hs
  obtain ⟨bF, AR, cR, zR, eF, f0, f1, f2, -⟩ := HF12.out.over (i := k) (j := q) (by show k < t.facts.length; rw [HLEN.out]; exact hkq) (by show q < t.facts.length; rw [HLEN.out]; exact Nat.lt_succ_self q)
  dsimp only at eF
  subst eF
  have f0' : w13.cell? ⟨bF, q, none⟩ = some (.slice AR s.length cR) := by rw [f0]; show some (Value.slice AR (rowOf t.facts q).length cR) = _; rw [hlR.out]
  clear f0 f1 f2
  have u1 := HF12.out.c1
  dsimp only at u1
  go_wp2_with fail
  have hd : Below w13.heap.size w13 w13.drew := (Below.refl w13.heap.size w13).drew
  have HF13 := Lib.hid (HF12.out.on hd)
  have HX13 := Lib.hid (HX12.out.on hd)
  refine wp_region_held_drew (S := (fun w' => w'.cell? ⟨g, 1, none⟩ = some (.slice (some ⟨bF, 0, none⟩) (q + 1) f9) ∧ w'.cell? ⟨bF, q, none⟩ = some (.slice AR s.length cR))) (by kernel_rfl) ⟨u1, f0'⟩ (fun hHeld => ?_)
  have f13 : w13.drew.cell? ⟨bF, q, none⟩ = some (.slice AR s.length cR) := f0'
  obtain ⟨w14, hw14⟩ : ∃ w14, w14 = w13.drew := ⟨_, rfl⟩
  rw [← hw14] at HF13 HX13 hHeld f13 ⊢
  clear hw14 hd HF12 HX12 u1 f0'
  refine takeH (i := 0) (v := ?_) rfl rfl (by kernel_rfl) (by kernel_rfl) (by kernel_rfl) (fun _ _ _ h => h) (by rfl) ?_ hHeld ?_
  rotate_left
  · (intro w hSw; (try dsimp only at hSw); first | (go_simp; done) | (go_simp; with_reducible rfl))
  simp only [Act.put, List.setIfInBounds_toArray, List.set_cons_zero, List.set_cons_succ]
  refine takeH (i := 1) (v := ?_) rfl rfl (by kernel_rfl) (by kernel_rfl) (by kernel_rfl) (fun _ _ _ h => h) (by rfl) ?_ hHeld ?_
  rotate_left
  · (intro w hSw; (try dsimp only at hSw); first | (go_simp; done) | (go_simp; with_reducible rfl))
  simp only [Act.put, List.setIfInBounds_toArray, List.set_cons_zero, List.set_cons_succ]
  refine takeH (i := 2) (v := ?_) rfl rfl (by kernel_rfl) (by kernel_rfl) (by kernel_rfl) (fun _ _ _ h => h) (by rfl) ?_ hHeld ?_
  rotate_left
  · (intro w hSw; (try dsimp only at hSw); first | (go_simp; done) | (go_simp; with_reducible rfl))
  simp only [Act.put, List.setIfInBounds_toArray, List.set_cons_zero, List.set_cons_succ]
  refine takeH (i := 3) (v := ?_) rfl rfl (by kernel_rfl) (by kernel_rfl) (by kernel_rfl) (fun _ _ _ h => h) (by rfl) ?_ hHeld ?_
  rotate_left
  · (intro w hSw; (try dsimp only at hSw); first | (go_simp; done) | (go_simp; with_reducible rfl))
  simp only [Act.put, List.setIfInBounds_toArray, List.set_cons_zero, List.set_cons_succ]
  refine takeH (i := 4) (v := ?_) rfl rfl (by kernel_rfl) (by kernel_rfl) (by kernel_rfl) (fun _ _ _ h => h) (by rfl) ?_ hHeld ?_
  rotate_left
  · (intro w hSw; (try dsimp only at hSw); first | (go_simp; done) | (go_simp; with_reducible rfl))
  simp only [Act.put, List.setIfInBounds_toArray, List.set_cons_zero, List.set_cons_succ]
  refine takeH (i := 5) (v := ?_) rfl rfl (by kernel_rfl) (by kernel_rfl) (by kernel_rfl) (fun _ _ _ h => h) (by rfl) ?_ hHeld ?_
  rotate_left
  · (intro w hSw; (try dsimp only at hSw); first | (go_simp; done) | (go_simp; with_reducible rfl))
  simp only [Act.put, List.setIfInBounds_toArray, List.set_cons_zero, List.set_cons_succ]
  refine takeH (i := 6) (v := ?_) rfl rfl (by kernel_rfl) (by kernel_rfl) (by kernel_rfl) (fun _ _ _ h => h) (by rfl) ?_ hHeld ?_
  rotate_left
  · (intro w hSw; (try dsimp only at hSw); first | (go_simp; done) | (go_simp; with_reducible rfl))
  simp only [Act.put, List.setIfInBounds_toArray, List.set_cons_zero, List.set_cons_succ]
  refine takeH (i := 7) (v := ?_) rfl rfl (by kernel_rfl) (by kernel_rfl) (by kernel_rfl) (fun _ _ _ h => h) (by rfl) ?_ hHeld ?_
  rotate_left
  · (intro w hSw; (try dsimp only at hSw); first | (go_simp; done) | (go_simp; with_reducible rfl))
  simp only [Act.put, List.setIfInBounds_toArray, List.set_cons_zero, List.set_cons_succ]
  refine takeH (i := 8) (v := ?_) rfl rfl (by kernel_rfl) (by kernel_rfl) (by kernel_rfl) (fun _ _ _ h => h) (by rfl) ?_ hHeld ?_
  rotate_left
  · (intro w hSw; (try dsimp only at hSw); first | (go_simp; done) | (go_simp; with_reducible rfl))
  simp only [Act.put, List.setIfInBounds_toArray, List.set_cons_zero, List.set_cons_succ]
  obtain ⟨bF2, AR2, cR2, zR2, eF, f0, f1, f2, hF9, hk9, f3⟩ := HF13.out.over (i := k) (j := q) (by show k < t.facts.length; rw [HLEN.out]; exact hkq) (by show q < t.facts.length; rw [HLEN.out]; exact Nat.lt_succ_self q)
  dsimp only at eF
  injection eF with eF
  injection eF with eF
  subst eF
  dsimp only at f0 hF9 hk9 f3
  rw [hlR.out] at f0 hF9 hk9 f3
  have hsame : AR2 = AR ∧ cR2 = cR := by
    rw [f13] at f0
    injection f0 with f0
    simp only [Value.slice.injEq] at f0
    exact ⟨f0.1.symm, f0.2.2.symm⟩
  obtain ⟨rfl, rfl⟩ := hsame
  have hx9 := HX13.out.keep hk9 HGL.out hF9.bel
  refine wpAnyH_ready (rs := [9]) (by kernel_rfl) (by simp) ?_
  refine AllReadyH.cons rfl (fun K hK => ?_) AllReadyH.nil
  refine put_cell_step rfl 23 (.tmp 60) (.tmp 59) rfl rfl bF k (.slice AR2 s.length cR2) _ rfl rfl rfl rfl f1 f2 (by kernel_rfl) ?_
  obtain ⟨w15, hw15⟩ : ∃ w15, w15 = w14.setCell ⟨bF, k, none⟩ (.slice AR2 s.length cR2) := ⟨_, rfl⟩
  rw [← hw15] at hF9 hx9 f3 ⊢
  have u1 := hF9.c1
  dsimp only at u1
  refine hK.out _ _ ?_ (fun hHeld => ?_)
  · exact ⟨u1, f3⟩
  clear hK K
  refine wpAnyH_done (by kernel_rfl) ?_ _
  have HF := Lib.hid hF9
  have HX := Lib.hid hx9
  clear hHeld hw15 hF9 hx9 hk9 f0 f1 f2 f3 f13 HF13 HX13
  obtain ⟨vs, hv1, hv2⟩ := HF.out.b.vals
  have hvl : vs.length = q + 1 := by rw [hv2.1]; show (t.facts.set k s).length = q + 1; rw [List.length_set, HLEN.out]
  have hcut : OwnR w15 M (.slice (some ⟨bF, 0, none⟩) q f9) vs.dropLast := OwnR.cut hv1 hvl
  have hqc : q + 1 ≤ f9 := OwnR.room hv1 hvl
  obtain ⟨D15, n15, e15, ee, f1, f2, hF16, hk16⟩ := HF.out.rows hcut Chg.refl hv2.dropLast
  simp only [Value.slice.injEq] at ee
  obtain ⟨rfl, rfl, rfl⟩ := ee
  have hx16 := HX.out.keep hk16 HGL.out hF16.bel
  have HF16 := Lib.hid hF16
  have HX16 := Lib.hid hx16
  have hqf : (q : Int) ≤ (f9 : Int) := by omega
  have hqf2 : q ≤ f9 := by omega
  clear hF16 hx16 hk16 hv1 hv2 hvl hcut HF HX
  go_wp2_with (first
    | (refine put_cell rfl 24 (.tmp 65) (.tmp 64) rfl rfl g 1 (.slice (some ⟨bF, 0, none⟩) q f9) _ rfl rfl rfl rfl f1 f2 (by kernel_rfl) ?_
       obtain ⟨w16, hw16⟩ : ∃ w16, w16 = w15.setCell ⟨g, 1, none⟩ (.slice (some ⟨bF, 0, none⟩) q f9) := ⟨_, rfl⟩
       rw [← hw16] at HF16 HX16 ⊢
       clear hw16 f1 f2 u1
       have u0 := HF16.out.c0
       have u1 := HF16.out.c1
       dsimp only at u0 u1)
    | (refine store_box rfl 26 (.tmp 6) (.tmp 66) rfl rfl (w.heap.size + 1) _ _ rfl rfl HX16.out.b1 rfl (by kernel_rfl) two_one ?_
       intro w9 hg9 hc9 hs9
       have HG9 := Lib.hid hg9
       have HC9 := Lib.hid hc9
       clear hg9 hc9 hs9))
  refine tab_ret (g := w.heap.size + 1) (x := .bool true) (y := .int .i64 0) rfl rfl rfl rfl rfl HG9.out rfl ?_
  have hfin : Below w.heap.size w w9 := HX16.out.bel.trans (HC9.out.bel.mono (Nat.le_succ _))
  have HE : Hid (cutT t k p2 r2 = ⟨(t.slots.set r2 (k : Int)).set p2 (-2), (t.facts.set k s).dropLast⟩) := by
    show _ = _
    unfold cutT
    rw [HLEN.out, Nat.add_sub_cancel, HSF.out]
  rw [HE.out]
  exact ⟨_, rfl, HF16.out.own.chg HC9.out, hfin⟩
end Go.Proofs.Ythnjpkghjkhjdaa
