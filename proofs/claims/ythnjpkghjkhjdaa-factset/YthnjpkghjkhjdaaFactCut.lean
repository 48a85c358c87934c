/-
  Contract of package fact: Cut.
-/
import Derived.Test.YthnjpkghjkhjdaaMemTab3
import Derived.Test.YthnjpkghjkhjdaaFactHas
namespace Go.Proofs.Ythnjpkghjkhjdaa
open Go.RowKit Go.Deep
set_option linter.unusedSimpArgs false
set_option linter.unusedVariables false
set_option maxRecDepth 100000

set_option maxHeartbeats 8000000 in
theorem cut_fact (A A' : Option Addr) (n cp m c' : Nat) (ss : List Sym) (v : Tv) (t : Tb) (a : List Int) (T : Tb) (b : Bool) (E : Int) (hpx : CutX ss t a T b E) (w : World) (h : SymsAt w w.heap.size A n ss) (hn : n ≤ maxLen) (hnc : n ≤ cp) (hc : TabAt w w.heap.size v t) (hr : IntsAt w w.heap.size A' m a) (hm : m ≤ maxLen) (hmc : m ≤ c') :
    Calls Try.prog 23 #[.slice A n cp, v.val, .slice A' m c'] w (Tab3 T b E w) := by
  have HPX := Lib.hid hpx
  have HS := Lib.hid h
  have HR := Lib.hid hr
  have HC := Lib.hid hc
  have hx := TwoB.new w v
  obtain ⟨w0, hw0⟩ : ∃ w0, w0 = (w.alloc v.obj).alloc (.cells #[.slice none 0 0, .slice none 0 0] 26) := ⟨_, rfl⟩
  rw [← hw0] at hx
  have HX := Lib.hid hx
  rw [Tv.val_eq]
  unfold Tv.obj at hw0
  obtain ⟨A1, n1, c1, A2, n2, c2⟩ := v
  dsimp only at hw0 ⊢
  clear hpx h hr hc hx
  go_enter Try.func23, Try.ntmps23
  go_upto_region 1 with (fail)
  rw [← hw0]
  clear hw0
  have p0 := HX.out.c0
  have p1 := HX.out.c1
  dsimp only at p0 p1
  go_wp2_with fail
  refine (mayF_any A n cp ss ⟨A1, n1, c1, A2, n2, c2⟩ t _ (HS.out.on HX.out.bel) hn hnc (HC.out.on HX.out.bel)).mono ?_
  rintro e w1 ⟨rfl, hb1⟩
  replace HX := Lib.hid (HX.out.on hb1)
  clear p0 p1 hb1
  have p0 := HX.out.c0
  have p1 := HX.out.c1
  dsimp only at p0 p1
  cases htb : tabB ss t
  · have HN := Lib.hid (okT_no1 (a := a) htb)
    clear htb p0 p1
    obtain ⟨rfl, rfl, rfl⟩ := HPX.out.is_bad HN.out
    go_wp2_with (refine store_box rfl 26 (.tmp 6) (.tmp 23) rfl rfl (w.heap.size + 1) _ _ rfl rfl HX.out.b1 rfl (by kernel_rfl) two_one ?_
                 intro w9 hg9 hc9 hs9
                 have HG9 := Lib.hid hg9
                 have HC9 := Lib.hid hc9
                 clear hg9 hc9 hs9)
    refine tab_ret (g := w.heap.size + 1) (x := .bool false) (y := .int .i64 1100) rfl rfl rfl rfl rfl HG9.out rfl ?_
    have hfin : Below w.heap.size w w9 := HX.out.bel.trans (HC9.out.bel.mono (Nat.le_succ _))
    exact ⟨_, rfl, OwnTs.zero hfin.size, hfin⟩
  have HT := Lib.hid htb
  clear htb
  go_wp2_with fail
  refine (isFact_any A A' n cp m c' ss a _ (HS.out.on HX.out.bel) hn hnc (HR.out.on HX.out.bel) hm hmc).mono ?_
  rintro e w2 ⟨rfl, hb2⟩
  replace HX := Lib.hid (HX.out.on hb2)
  clear p0 p1 hb2
  have p0 := HX.out.c0
  have p1 := HX.out.c1
  dsimp only at p0 p1
  cases hfb : factB ss a
  · have HN := Lib.hid (okT_no2 (t := t) hfb)
    clear hfb p0 p1
    obtain ⟨rfl, rfl, rfl⟩ := HPX.out.is_bad HN.out
    go_wp2_with (refine store_box rfl 26 (.tmp 6) (.tmp 23) rfl rfl (w.heap.size + 1) _ _ rfl rfl HX.out.b1 rfl (by kernel_rfl) two_one ?_
                 intro w9 hg9 hc9 hs9
                 have HG9 := Lib.hid hg9
                 have HC9 := Lib.hid hc9
                 clear hg9 hc9 hs9)
    refine tab_ret (g := w.heap.size + 1) (x := .bool false) (y := .int .i64 1100) rfl rfl rfl rfl rfl HG9.out rfl ?_
    have hfin : Below w.heap.size w w9 := HX.out.bel.trans (HC9.out.bel.mono (Nat.le_succ _))
    exact ⟨_, rfl, OwnTs.zero hfin.size, hfin⟩
  have HFC := Lib.hid (factB_c hfb)
  have HOK := Lib.hid (tabB_true HT.out).2
  have HOT := Lib.hid (okT_yes HT.out hfb)
  have h32 : n1 = 32 := by have := HOK.out.len; rw [HC.out.sl.len] at this; exact this
  have hn24 : n2 ≤ 24 := by have := HOK.out.few; rw [HC.out.fc.len] at this; exact this
  have HSM := Lib.hid HOK.out.small
  subst h32
  clear hfb
  go_wp2_with fail
  refine (cloneT_any ⟨A1, 32, c1, A2, n2, c2⟩ t _ (HC.out.on HX.out.bel) HSM.out).mono ?_
  rintro e w4 ⟨v4, rfl, hv4, hb4⟩
  obtain ⟨D, d9, F, f9, e4⟩ := hv4.parts
  rw [HOK.out.len, HC.out.fc.len] at e4
  dsimp only at e4
  subst e4
  have HV4 := Lib.hid (hv4.lower HX.out.bel.size)
  replace HX := Lib.hid (HX.out.on hb4)
  obtain ⟨g, hg⟩ : ∃ g, g = w4.heap.size := ⟨_, rfl⟩
  have HG := Lib.hid hg
  clear p0 p1 hb4 hv4 hg
  have HGL : Hid (w.heap.size + 1 < g) := by show _ < _; rw [HG.out]; exact HX.out.sz
  have HM : Hid (∃ M, ∀ w5, w5.heap[g]? = some (.cells #[.slice D 32 d9, .slice F n2 f9] 26 (0, 0)) → Chg [26] g (w4.alloc (.cells #[.slice none 0 0, .slice none 0 0] 26)) w5 → TabV w M g t ⟨D, 32, d9, F, n2, f9⟩ w5 ∧ TwoB w ⟨A1, 32, c1, A2, n2, c2⟩ w5) := by
    obtain ⟨M, v1, v2, q, hm1, hx1, h1, h3, h2⟩ := HV4.out
    refine ⟨M, fun w5 q1 q2 => ?_⟩
    injection q with q
    have e1 : v1 = .slice D 32 d9 := by injection q with q; injection q with q _; exact q.symm
    have e2 : v2 = .slice F n2 f9 := by injection q with q; injection q with _ q; injection q with q _; exact q.symm
    subst e1 e2
    have hbn := below_new w4 (.cells #[.slice none 0 0, .slice none 0 0] 26)
    have hgs : g = w4.heap.size := HG.out
    obtain ⟨vs, b1, b2⟩ := (h2.on hbn).vals
    have hF : TabV w M g t ⟨D, 32, d9, F, n2, f9⟩ w5 := ⟨by rw [hgs]; exact HX.out.bel.size, hm1, Nat.le_trans hx1 (Nat.le_trans hbn.size q2.bel.size), h3, q1, q2.own (by decide) (h1.on hbn), OwnT.mk (b1.chg q2 (by decide)) (b2.chg q2 (by decide)), (HX.out.bel.trans (hbn.mono HX.out.bel.size)).trans (q2.bel.mono (by rw [hgs]; exact HX.out.bel.size))⟩
    exact ⟨hF, HX.out.keep (keep_new hgs q2) HGL.out hF.bel⟩
  obtain ⟨M, hM⟩ := HM.out
  have HMM := Lib.hid hM
  clear hM HM
  go_wp2_with (first
    | (refine store_box rfl 26 (.tmp 9) (.tmp 25) rfl rfl w4.heap.size _ _ rfl rfl (heap_alloc_new w4 (.cells #[.slice none 0 0, .slice none 0 0] 26)) rfl (by kernel_rfl) two_one ?_
       intro w5 hg5 hc5 hs5
       obtain ⟨hF, hX⟩ := HMM.out w5 (by rw [HG.out]; exact hg5) (by rw [HG.out]; exact hc5)
       have HF := Lib.hid hF
       replace HX := Lib.hid hX
       have p0 := hX.c0
       have p1 := hX.c1
       dsimp only at p0 p1
       clear hg5 hc5 hs5 hF hX)
    | fail)
  rw [← HG.out]
  clear HG HMM HV4
  refine (slotOf_any A' m c' ⟨A1, 32, c1, A2, n2, c2⟩ t a _ (HC.out.on HX.out.bel) rfl HOK.out.rng (HR.out.on HX.out.bel) HFC.out).mono ?_
  rintro e w3 ⟨rfl, hb3⟩
  replace HX := Lib.hid (HX.out.on hb3)
  replace HF := Lib.hid (HF.out.on hb3)
  clear p0 p1 hb3
  have p0 := HX.out.c0
  have p1 := HX.out.c1
  dsimp only at p0 p1
  have u0 := HF.out.c0
  have u1 := HF.out.c1
  dsimp only at u0 u1
  have hsm := HOK.out.slot_mem (a := a)
  by_cases g1 : a ∈ t.facts
  case neg =>
    have HIS := Lib.hid (HPX.out.is_gone HOT.out g1)
    obtain ⟨s, hs⟩ : ∃ s, s = slotR t a := ⟨_, rfl⟩
    rw [← hs] at hsm ⊢
    have g2 : s < 0 := by
      rcases Int.lt_or_le s 0 with z | z
      · exact z
      · exact absurd (hsm.1 z) g1
    clear hsm g1 hs
    obtain ⟨rfl, rfl, rfl⟩ := HIS.out
    go_wp2_with (refine store_box rfl 26 (.tmp 6) (.tmp 31) rfl rfl (w.heap.size + 1) _ _ rfl rfl HX.out.b1 rfl (by kernel_rfl) two_one ?_
                 intro w9 hg9 hc9 hs9
                 have HG9 := Lib.hid hg9
                 have HC9 := Lib.hid hc9
                 clear hg9 hc9 hs9)
    refine tab_ret (g := w.heap.size + 1) (x := .bool false) (y := .int .i64 0) rfl rfl rfl rfl rfl HG9.out rfl ?_
    have hfin : Below w.heap.size w w9 := HX.out.bel.trans (HC9.out.bel.mono (Nat.le_succ _))
    exact ⟨_, rfl, HF.out.own.chg HC9.out, hfin⟩
  obtain ⟨k, p, r, hk, hka, hp, hq, ep, er, rfl, rfl, rfl⟩ := HPX.out.is_done HOT.out g1
  have HK := Lib.hid hka
  have HKL := Lib.hid hk
  have HEP := Lib.hid ep
  have HER := Lib.hid er
  obtain ⟨p2, hp2, es, ep2⟩ := HOK.out.slot hk
  have hpp : p2 = p := HOK.out.only p2 p hp2 hp (by rw [ep2, ep]) (by rw [ep2]; omega)
  subst hpp
  rw [hka] at es
  rw [es]
  obtain ⟨q, hqe⟩ : ∃ q, n2 = q + 1 := ⟨n2 - 1, by have := HC.out.fc.len; dsimp only at this; omega⟩
  subst hqe
  have hlen : t.facts.length = q + 1 := HC.out.fc.len
  have hql : q < t.facts.length := by omega
  obtain ⟨r2, hr2, es2, er2⟩ := HOK.out.slot hql
  have hrr : r2 = r := HOK.out.only r2 r hr2 hq (by rw [er2, er, hlen]; rfl) (by rw [er2]; omega)
  subst hrr
  have HES2 := Lib.hid es2
  have HLEN := Lib.hid hlen
  have hkq : k < q + 1 := by omega
  clear hsm g1 hka hk ep er ep2 er2 es es2 hlen hql HT
  have g2 : ¬ (p2 : Int) < 0 := by omega
  obtain ⟨bA, oA, hA, hbA, hcl⟩ := (HC.out.on HX.out.bel).sl.at_ (show 0 < 32 by omega)
  dsimp only at hA
  subst hA
  have hcx := hcl p2 hp2
  replace hcx : w3.cell? ⟨bA, oA + p2, none⟩ = some (.int .i64 (k : Int)) := by rw [hcx]; show some (Value.int .i64 (slAt t p2)) = _; rw [HEP.out]
  have hpi : (p2 : Int) < 32 := by omega
  have hpj : (0 : Int) ≤ (p2 : Int) := by omega
  have hq24 : q ≤ 23 := by omega
  have hqi : (q : Int) ≤ 23 := by omega
  have hqj : (0 : Int) ≤ (q : Int) := by omega
  have hqs : (q : Int) < (q : Int) + 1 := by omega
  have hks : (k : Int) < (q : Int) + 1 := by omega
  have hkj : (0 : Int) ≤ (k : Int) := by omega
  clear hcl
  go_wp2_with fail
  have hd : Below w3.heap.size w3 w3.drew := (Below.refl w3.heap.size w3).drew
  have HF7 := Lib.hid (HF.out.on hd)
  have HX7 := Lib.hid (HX.out.on hd)
  refine wp_region_held_drew (S := (fun w' => w'.cell? ⟨w.heap.size, 0, none⟩ = some (.slice (some ⟨bA, oA, none⟩) 32 c1) ∧ w'.cell? ⟨w.heap.size, 1, none⟩ = some (.slice A2 (q + 1) c2) ∧ w'.cell? ⟨bA, oA + p2, none⟩ = some (.int .i64 (k : Int)))) (by kernel_rfl) ⟨p0, p1, hcx⟩ (fun hHeld => ?_)
  obtain ⟨w7, hw7⟩ : ∃ w7, w7 = w3.drew := ⟨_, rfl⟩
  rw [← hw7] at HF7 HX7 hHeld ⊢
  clear hw7 hd HF HX p0 p1 u0 u1 hcx
  have hwq : IntKind.i64.wrap (q : Int) = (q : Int) := by rw [IntKind.wrap_i64]; omega
  refine takeH (i := 0) (v := ?_) rfl rfl (by kernel_rfl) (by kernel_rfl) (by kernel_rfl) (fun _ _ _ h => h) (by rfl) ?_ hHeld ?_
  rotate_left
  · (intro w hSw; (try dsimp only at hSw); first | (go_simp; done) | (go_simp; with_reducible rfl))
  simp only [Act.put, List.setIfInBounds_toArray, List.set_cons_zero, List.set_cons_succ]
  refine takeH (i := 1) (v := ?_) rfl rfl (by kernel_rfl) (by kernel_rfl) (by kernel_rfl) (fun _ _ _ h => h) (by rfl) ?_ hHeld ?_
  rotate_left
  · (intro w hSw; (try dsimp only at hSw); first | (go_simp; done) | (go_simp; with_reducible rfl))
  simp only [Act.put, List.setIfInBounds_toArray, List.set_cons_zero, List.set_cons_succ]
  refine takeH (i := 2) (v := ?_) rfl rfl (by kernel_rfl) (by kernel_rfl) (by kernel_rfl) (fun _ _ _ h => h) (by rfl) ?_ hHeld ?_
  rotate_left
  · (intro w hSw; (try dsimp only at hSw); first | (go_simp; done) | (go_simp; with_reducible rfl))
  simp only [Act.put, List.setIfInBounds_toArray, List.set_cons_zero, List.set_cons_succ]
  refine takeH (i := 3) (v := ?_) rfl rfl (by kernel_rfl) (by kernel_rfl) (by kernel_rfl) (fun _ _ _ h => h) (by rfl) ?_ hHeld ?_
  rotate_left
  · (intro w hSw; (try dsimp only at hSw); first | (go_simp; done) | (go_simp; with_reducible rfl))
  simp only [Act.put, List.setIfInBounds_toArray, List.set_cons_zero, List.set_cons_succ]
  refine takeH (i := 4) (v := ?_) rfl rfl (by kernel_rfl) (by kernel_rfl) (by kernel_rfl) (fun _ _ _ h => h) (by rfl) ?_ hHeld ?_
  rotate_left
  · (intro w hSw; (try dsimp only at hSw); first | (go_simp; done) | (go_simp; with_reducible rfl))
  simp only [Act.put, List.setIfInBounds_toArray, List.set_cons_zero, List.set_cons_succ]
  refine takeH (i := 5) (v := ?_) rfl rfl (by kernel_rfl) (by kernel_rfl) (by kernel_rfl) (fun _ _ _ h => h) (by rfl) ?_ hHeld ?_
  rotate_left
  · (intro w hSw; (try dsimp only at hSw); first | (go_simp; done) | (go_simp; with_reducible rfl))
  simp only [Act.put, List.setIfInBounds_toArray, List.set_cons_zero, List.set_cons_succ]
  refine takeH (i := 6) (v := ?_) rfl rfl (by kernel_rfl) (by kernel_rfl) (by kernel_rfl) (fun _ _ _ h => h) (by rfl) ?_ hHeld ?_
  rotate_left
  · (intro w hSw; (try dsimp only at hSw); first | (go_simp; done) | (go_simp; with_reducible rfl))
  simp only [Act.put, List.setIfInBounds_toArray, List.set_cons_zero, List.set_cons_succ]
  refine takeH (i := 7) (v := ?_) rfl rfl (by kernel_rfl) (by kernel_rfl) (by kernel_rfl) (fun _ _ _ h => h) (by rfl) ?_ hHeld ?_
  rotate_left
  · (intro w hSw; (try dsimp only at hSw); first | (go_simp; done) | (go_simp; with_reducible rfl))
  simp only [Act.put, List.setIfInBounds_toArray, List.set_cons_zero, List.set_cons_succ]
  refine takeH (i := 8) (v := ?_) rfl rfl (by kernel_rfl) (by kernel_rfl) (by kernel_rfl) (fun _ _ _ h => h) (by rfl) ?_ hHeld ?_
  rotate_left
  · (intro w hSw; (try dsimp only at hSw); first | (go_simp; done) | (go_simp; with_reducible rfl))
  simp only [Act.put, List.setIfInBounds_toArray, List.set_cons_zero, List.set_cons_succ]
  refine takeH (i := 9) (v := ?_) rfl rfl (by kernel_rfl) (by kernel_rfl) (by kernel_rfl) (fun _ _ _ h => h) (by rfl) ?_ hHeld ?_
  rotate_left
  · (intro w hSw; (try dsimp only at hSw); first | (go_simp; done) | (go_simp; with_reducible rfl))
  simp only [Act.put, List.setIfInBounds_toArray, List.set_cons_zero, List.set_cons_succ]
  refine takeH (i := 10) (v := ?_) rfl rfl (by kernel_rfl) (by kernel_rfl) (by kernel_rfl) (fun _ _ _ h => h) (by rfl) ?_ hHeld ?_
  rotate_left
  · (intro w hSw; (try dsimp only at hSw); first | (go_simp; done) | (go_simp; with_reducible rfl))
  simp only [Act.put, List.setIfInBounds_toArray, List.set_cons_zero, List.set_cons_succ]
  refine wpAnyH_done (by kernel_rfl) ?_ _
  clear hHeld
  clear hwq
  have HX := HX7
  have HF := HF7
  clear HX7 HF7
  have p0 := HX.out.c0
  have p1 := HX.out.c1
  dsimp only at p0 p1
  obtain ⟨bS, hD, -⟩ := HF.out.slot (i := 0) (by rw [HOK.out.len]; omega) 0
  dsimp only at hD
  subst hD
  have u0 := HF.out.c0
  dsimp only at u0
  obtain ⟨b2, o2, A3, c3, hA2, hb2B, d0, hri, _⟩ := (HC.out.on HX.out.bel).fc.one (i := q) (Nat.lt_succ_self q)
  dsimp only at hA2
  subst hA2
  obtain ⟨s, hs⟩ : ∃ s, s = rowOf t.facts q := ⟨_, rfl⟩
  rw [← hs] at d0 hri
  have HRI := Lib.hid hri
  have HSF : Hid (fcAt t q = s) := hs.symm
  have HBL : Hid (b2 < w.heap.size) := by
    obtain ⟨bz, oz, _, _, ez, hz, _⟩ := HC.out.fc.one (i := q) (Nat.lt_succ_self q)
    dsimp only at ez
    injection ez with ez
    injection ez with ez
    subst ez
    exact hz
  have HSC : Hid (FactC s) := by
    show FactC s
    rw [hs]
    exact factB_c (HOK.out.fact _ (fcAt_mem (t := t) (k := q) (by rw [HLEN.out]; exact Nat.lt_succ_self q)))
  clear hri hs
  go_wp2_with fail
  have hd : Below w7.heap.size w7 w7.drew := (Below.refl w7.heap.size w7).drew
  have HF8 := Lib.hid (HF.out.on hd)
  have HX8 := Lib.hid (HX.out.on hd)
  have HR8 := Lib.hid (HRI.out.on hd)
  refine wp_region_held_drew (S := (fun w' => w'.cell? ⟨w.heap.size, 0, none⟩ = some (.slice (some ⟨bA, oA, none⟩) 32 c1) ∧ w'.cell? ⟨w.heap.size, 1, none⟩ = some (.slice (some ⟨b2, o2, none⟩) (q + 1) c2) ∧ w'.cell? ⟨g, 0, none⟩ = some (.slice (some ⟨bS, 0, none⟩) 32 d9) ∧ w'.cell? ⟨b2, o2 + q, none⟩ = some (.slice A3 s.length c3))) (by kernel_rfl) ⟨p0, p1, u0, d0⟩ (fun hHeld => ?_)
  have d8 : w7.drew.cell? ⟨b2, o2 + q, none⟩ = some (.slice A3 s.length c3) := d0
  obtain ⟨w8, hw8⟩ : ∃ w8, w8 = w7.drew := ⟨_, rfl⟩
  have hb28 : b2 < w8.heap.size := by rw [hw8]; exact hb2B
  rw [← hw8] at HF8 HX8 HR8 hHeld d8 ⊢
  clear hw8 hd HF HX HRI p0 p1 u0 d0 hb2B
  refine takeH (i := 0) (v := ?_) rfl rfl (by kernel_rfl) (by kernel_rfl) (by kernel_rfl) (fun _ _ _ h => h) (by rfl) ?_ hHeld ?_
  rotate_left
  · (intro w hSw; (try dsimp only at hSw); first | (go_simp; done) | (go_simp; with_reducible rfl))
  simp only [Act.put, List.setIfInBounds_toArray, List.set_cons_zero, List.set_cons_succ]
  refine takeH (i := 1) (v := ?_) rfl rfl (by kernel_rfl) (by kernel_rfl) (by kernel_rfl) (fun _ _ _ h => h) (by rfl) ?_ hHeld ?_
  rotate_left
  · (intro w hSw; (try dsimp only at hSw); first | (go_simp; done) | (go_simp; with_reducible rfl))
  simp only [Act.put, List.setIfInBounds_toArray, List.set_cons_zero, List.set_cons_succ]
  refine takeH (i := 2) (v := ?_) rfl rfl (by kernel_rfl) (by kernel_rfl) (by kernel_rfl) (fun _ _ _ h => h) (by rfl) ?_ hHeld ?_
  rotate_left
  · (intro w hSw; (try dsimp only at hSw); first | (go_simp; done) | (go_simp; with_reducible rfl))
  simp only [Act.put, List.setIfInBounds_toArray, List.set_cons_zero, List.set_cons_succ]
  refine takeH (i := 3) (v := ?_) rfl rfl (by kernel_rfl) (by kernel_rfl) (by kernel_rfl) (fun _ _ _ h => h) (by rfl) ?_ hHeld ?_
  rotate_left
  · (intro w hSw; (try dsimp only at hSw); first | (go_simp; done) | (go_simp; with_reducible rfl))
  simp only [Act.put, List.setIfInBounds_toArray, List.set_cons_zero, List.set_cons_succ]
  refine takeH (i := 4) (v := ?_) rfl rfl (by kernel_rfl) (by kernel_rfl) (by kernel_rfl) (fun _ _ _ h => h) (by rfl) ?_ hHeld ?_
  rotate_left
  · (intro w hSw; (try dsimp only at hSw); first | (go_simp; done) | (go_simp; with_reducible rfl))
  simp only [Act.put, List.setIfInBounds_toArray, List.set_cons_zero, List.set_cons_succ]
  refine takeH (i := 5) (v := ?_) rfl rfl (by kernel_rfl) (by kernel_rfl) (by kernel_rfl) (fun _ _ _ h => h) (by rfl) ?_ hHeld ?_
  rotate_left
  · (intro w hSw; (try dsimp only at hSw); first | (go_simp; done) | (go_simp; with_reducible rfl))
  simp only [Act.put, List.setIfInBounds_toArray, List.set_cons_zero, List.set_cons_succ]
  refine takeH (i := 6) (v := ?_) rfl rfl (by kernel_rfl) (by kernel_rfl) (by kernel_rfl) (fun _ _ _ h => h) (by rfl) ?_ hHeld ?_
  rotate_left
  · (intro w hSw; (try dsimp only at hSw); first | (go_simp; done) | (go_simp; with_reducible rfl))
  simp only [Act.put, List.setIfInBounds_toArray, List.set_cons_zero, List.set_cons_succ]
  refine takeH (i := 7) (v := ?_) rfl rfl (by kernel_rfl) (by kernel_rfl) (by kernel_rfl) (fun _ _ _ h => h) (by rfl) ?_ hHeld ?_
  rotate_left
  · (intro w hSw; (try dsimp only at hSw); first | (go_simp; done) | (go_simp; with_reducible rfl))
  simp only [Act.put, List.setIfInBounds_toArray, List.set_cons_zero, List.set_cons_succ]
  refine takeH (i := 9) (v := ?_) rfl rfl (by kernel_rfl) (by kernel_rfl) (by kernel_rfl) (fun _ _ _ h => h) (by rfl) ?_ hHeld ?_
  rotate_left
  · (intro w hSw; (try dsimp only at hSw); first | (go_simp; done) | (go_simp; with_reducible rfl))
  simp only [Act.put, List.setIfInBounds_toArray, List.set_cons_zero, List.set_cons_succ]
  refine wpAnyH_ready (rs := [8]) (by kernel_rfl) (by simp) ?_
  refine AllReadyH.cons rfl (fun K hK => ?_) AllReadyH.nil
  go_simp
  refine (slotOf_any A3 s.length c3 ⟨some ⟨bA, oA, none⟩, 32, c1, some ⟨b2, o2, none⟩, q + 1, c2⟩ t s _ (HC.out.on HX8.out.bel) rfl HOK.out.rng HR8.out.at_ HSC.out).mono ?_
  rintro e w10 ⟨rfl, hb10⟩
  replace HF8 := Lib.hid (HF8.out.on hb10)
  replace HX8 := Lib.hid (HX8.out.on hb10)
  have d10 : w10.cell? ⟨b2, o2 + q, none⟩ = some (.slice A3 s.length c3) := by rw [hb10.cell (p := ⟨b2, o2 + q, none⟩) hb28]; exact d8
  clear hb10 d8
  have hesr : slotR t s = (r2 : Int) := by rw [← HSF.out]; exact HES2.out
  rw [hesr]
  have p0 := HX8.out.c0
  have p1 := HX8.out.c1
  have u0 := HF8.out.c0
  dsimp only at p0 p1 u0
  have hri9 : (r2 : Int) < 32 := by omega
  have hrj : (0 : Int) ≤ (r2 : Int) := by omega
  clear hesr
  go_wp2_with fail
  refine hK.out _ _ ?_ (fun hHeld => ?_)
  · exact ⟨p0, p1, u0, d10⟩
  clear hK K p0 p1 u0
  refine takeH (i := 10) (v := ?_) rfl rfl (by kernel_rfl) (by kernel_rfl) (by kernel_rfl) (fun _ _ _ h => h) (by rfl) ?_ hHeld ?_
  rotate_left
  · (intro w hSw; (try dsimp only at hSw); first | (go_simp; done) | (go_simp; with_reducible rfl))
  simp only [Act.put, List.setIfInBounds_toArray, List.set_cons_zero, List.set_cons_succ]
  obtain ⟨bS2, eb, cc, ff, hF9, hk9⟩ := HF8.out.slot (i := r2) (by rw [HOK.out.len]; exact hr2) (k : Int)
  dsimp only at eb
  injection eb with eb
  injection eb with eb
  subst eb
  have hx9 := HX8.out.keep hk9 HGL.out hF9.bel
  refine wpAnyH_ready (rs := [11]) (by kernel_rfl) (by simp) ?_
  refine AllReadyH.cons rfl (fun K hK => ?_) AllReadyH.nil
  refine put_cell_step rfl 3 (.tmp 51) (.tmp 50) rfl rfl bS r2 (.int .i64 (k : Int)) _ rfl rfl rfl rfl cc ff (by kernel_rfl) ?_
  have d11 : (w10.setCell ⟨bS, r2, none⟩ (.int .i64 (k : Int))).cell? ⟨b2, o2 + q, none⟩ = some (.slice A3 s.length c3) := by
    have hne : b2 ≠ bS := fun z => by
      have := HF8.out.ge
      obtain ⟨bz, cap, cur, ez, hbz, hgz, hlz⟩ := HF8.out.a.block (by rw [HOK.out.len]; omega)
      simp only [Value.slice.injEq] at ez
      obtain ⟨ez, -, -⟩ := ez
      injection ez with ez
      injection ez with ez
      have := HBL.out
      omega
    rw [World.cell?_setCell_far _ _ _ _ (fun z => hne z.symm)]
    exact d10
  obtain ⟨w11, hw11⟩ : ∃ w11, w11 = w10.setCell ⟨bS, r2, none⟩ (.int .i64 (k : Int)) := ⟨_, rfl⟩
  rw [← hw11] at hF9 hx9 d11 ⊢
  have p0 := hx9.c0
  have p1 := hx9.c1
  have u0 := hF9.c0
  dsimp only at p0 p1 u0
  refine hK.out _ _ ?_ (fun hHeld => ?_)
  · exact ⟨p0, p1, u0, d11⟩
  clear hK K p0 p1
  refine wpAnyH_done (by kernel_rfl) ?_ _
  have HF := Lib.hid hF9
  have HX := Lib.hid hx9
  clear hHeld hw11 hF9 hx9 hk9 cc ff HF8 HX8 HR8 d10 d11
  obtain ⟨bS2, eb, cc, ff, hF9, hk9⟩ := HF.out.slot (i := p2) (by rw [List.length_set, HOK.out.len]; exact hp2) (-2)
  dsimp only at eb
  injection eb with eb
  injection eb with eb
  subst eb
  have hx9 := HX.out.keep hk9 HGL.out hF9.bel
  have HF12 := Lib.hid hF9
  have HX12 := Lib.hid hx9
  clear hF9 hx9 hk9
  go_wp2_with (refine put_cell rfl 3 (.tmp 55) (.const (.int .i64 (-2))) rfl rfl bS p2 (.int .i64 (-2)) _ rfl rfl rfl rfl cc ff (by kernel_rfl) ?_)
  obtain ⟨w12, hw12⟩ : ∃ w12, w12 = w11.setCell ⟨bS, p2, none⟩ (.int .i64 (-2)) := ⟨_, rfl⟩
  rw [← hw12] at HF12 HX12 ⊢
  clear hw12 HF HX cc ff u0
  obtain ⟨bF, AR, cR, zR, eF, f0, f1, f2, -⟩ := HF12.out.over (i := k) (j := q) (by show k < t.facts.length; rw [HLEN.out]; exact hkq) (by show q < t.facts.length; rw [HLEN.out]; exact Nat.lt_succ_self q)
  dsimp only at eF
  subst eF
  have hlR : Hid (rowOf t.facts q = s) := HSF.out
  have f0' : w12.cell? ⟨bF, q, none⟩ = some (.slice AR s.length cR) := by rw [f0]; show some (Value.slice AR (rowOf t.facts q).length cR) = _; rw [hlR.out]
  clear f0 f1 f2
  have u1 := HF12.out.c1
  dsimp only at u1
  go_wp2_with fail
  have hd : Below w12.heap.size w12 w12.drew := (Below.refl w12.heap.size w12).drew
  have HF13 := Lib.hid (HF12.out.on hd)
  have HX13 := Lib.hid (HX12.out.on hd)
  refine wp_region_held_drew (S := (fun w' => w'.cell? ⟨g, 1, none⟩ = some (.slice (some ⟨bF, 0, none⟩) (q + 1) f9) ∧ w'.cell? ⟨bF, q, none⟩ = some (.slice AR s.length cR))) (by kernel_rfl) ⟨u1, f0'⟩ (fun hHeld => ?_)
  have f13 : w12.drew.cell? ⟨bF, q, none⟩ = some (.slice AR s.length cR) := f0'
  obtain ⟨w13, hw13⟩ : ∃ w13, w13 = w12.drew := ⟨_, rfl⟩
  rw [← hw13] at HF13 HX13 hHeld f13 ⊢
  clear hw13 hd HF12 HX12 u1 f0'
  refine takeH (i := 0) (v := ?_) rfl rfl (by kernel_rfl) (by kernel_rfl) (by kernel_rfl) (fun _ _ _ h => h) (by rfl) ?_ hHeld ?_
  rotate_left
  · (intro w hSw; (try dsimp only at hSw); first | (go_simp; done) | (go_simp; with_reducible rfl))
  simp only [Act.put, List.setIfInBounds_toArray, List.set_cons_zero, List.set_cons_succ]
  refine takeH (i := 1) (v := ?_) rfl rfl (by kernel_rfl) (by kernel_rfl) (by kernel_rfl) (fun _ _ _ h => h) (by rfl) ?_ hHeld ?_
  rotate_left
  · (intro w hSw; (try dsimp only at hSw); first | (go_simp; done) | (go_simp; with_reducible rfl))
  simp only [Act.put, List.setIfInBounds_toArray, List.set_cons_zero, List.set_cons_succ]
  refine takeH (i := 2) (v := ?_) rfl rfl (by kernel_rfl) (by kernel_rfl) (by kernel_rfl) (fun _ _ _ h => h) (by rfl) ?_ hHeld ?_
  rotate_left
  · (intro w hSw; (try dsimp only at hSw); first | (go_simp; done) | (go_simp; with_reducible rfl))
  simp only [Act.put, List.setIfInBounds_toArray, List.set_cons_zero, List.set_cons_succ]
  refine takeH (i := 3) (v := ?_) rfl rfl (by kernel_rfl) (by kernel_rfl) (by kernel_rfl) (fun _ _ _ h => h) (by rfl) ?_ hHeld ?_
  rotate_left
  · (intro w hSw; (try dsimp only at hSw); first | (go_simp; done) | (go_simp; with_reducible rfl))
  simp only [Act.put, List.setIfInBounds_toArray, List.set_cons_zero, List.set_cons_succ]
  refine takeH (i := 4) (v := ?_) rfl rfl (by kernel_rfl) (by kernel_rfl) (by kernel_rfl) (fun _ _ _ h => h) (by rfl) ?_ hHeld ?_
  rotate_left
  · (intro w hSw; (try dsimp only at hSw); first | (go_simp; done) | (go_simp; with_reducible rfl))
  simp only [Act.put, List.setIfInBounds_toArray, List.set_cons_zero, List.set_cons_succ]
  refine takeH (i := 5) (v := ?_) rfl rfl (by kernel_rfl) (by kernel_rfl) (by kernel_rfl) (fun _ _ _ h => h) (by rfl) ?_ hHeld ?_
  rotate_left
  · (intro w hSw; (try dsimp only at hSw); first | (go_simp; done) | (go_simp; with_reducible rfl))
  simp only [Act.put, List.setIfInBounds_toArray, List.set_cons_zero, List.set_cons_succ]
  refine takeH (i := 6) (v := ?_) rfl rfl (by kernel_rfl) (by kernel_rfl) (by kernel_rfl) (fun _ _ _ h => h) (by rfl) ?_ hHeld ?_
  rotate_left
  · (intro w hSw; (try dsimp only at hSw); first | (go_simp; done) | (go_simp; with_reducible rfl))
  simp only [Act.put, List.setIfInBounds_toArray, List.set_cons_zero, List.set_cons_succ]
  refine takeH (i := 7) (v := ?_) rfl rfl (by kernel_rfl) (by kernel_rfl) (by kernel_rfl) (fun _ _ _ h => h) (by rfl) ?_ hHeld ?_
  rotate_left
  · (intro w hSw; (try dsimp only at hSw); first | (go_simp; done) | (go_simp; with_reducible rfl))
  simp only [Act.put, List.setIfInBounds_toArray, List.set_cons_zero, List.set_cons_succ]
  refine takeH (i := 8) (v := ?_) rfl rfl (by kernel_rfl) (by kernel_rfl) (by kernel_rfl) (fun _ _ _ h => h) (by rfl) ?_ hHeld ?_
  rotate_left
  · (intro w hSw; (try dsimp only at hSw); first | (go_simp; done) | (go_simp; with_reducible rfl))
  simp only [Act.put, List.setIfInBounds_toArray, List.set_cons_zero, List.set_cons_succ]
  obtain ⟨bF2, AR2, cR2, zR2, eF, f0, f1, f2, hF9, hk9, f3⟩ := HF13.out.over (i := k) (j := q) (by show k < t.facts.length; rw [HLEN.out]; exact hkq) (by show q < t.facts.length; rw [HLEN.out]; exact Nat.lt_succ_self q)
  dsimp only at eF
  injection eF with eF
  injection eF with eF
  subst eF
  dsimp only at f0 hF9 hk9 f3
  rw [hlR.out] at f0 hF9 hk9 f3
  have hsame : AR2 = AR ∧ cR2 = cR := by
    rw [f13] at f0
    injection f0 with f0
    simp only [Value.slice.injEq] at f0
    exact ⟨f0.1.symm, f0.2.2.symm⟩
  obtain ⟨rfl, rfl⟩ := hsame
  have hx9 := HX13.out.keep hk9 HGL.out hF9.bel
  refine wpAnyH_ready (rs := [9]) (by kernel_rfl) (by simp) ?_
  refine AllReadyH.cons rfl (fun K hK => ?_) AllReadyH.nil
  refine put_cell_step rfl 23 (.tmp 64) (.tmp 63) rfl rfl bF k (.slice AR2 s.length cR2) _ rfl rfl rfl rfl f1 f2 (by kernel_rfl) ?_
  obtain ⟨w14, hw14⟩ : ∃ w14, w14 = w13.setCell ⟨bF, k, none⟩ (.slice AR2 s.length cR2) := ⟨_, rfl⟩
  rw [← hw14] at hF9 hx9 f3 ⊢
  have u1 := hF9.c1
  dsimp only at u1
  refine hK.out _ _ ?_ (fun hHeld => ?_)
  · exact ⟨u1, f3⟩
  clear hK K
  refine wpAnyH_done (by kernel_rfl) ?_ _
  have HF := Lib.hid hF9
  have HX := Lib.hid hx9
  clear hHeld hw14 hF9 hx9 hk9 f0 f1 f2 f3 f13 HF13 HX13
  have HVS := Lib.hid HF.out.b.vals
  obtain ⟨vs, hv1, hv2⟩ := HVS.out
  have hvl : vs.length = q + 1 := by rw [hv2.1]; show (t.facts.set k s).length = q + 1; rw [List.length_set, HLEN.out]
  have HV1 := Lib.hid hv1
  have HV2 := Lib.hid hv2
  clear hv1 hv2 HVS
  go_wp2_with fail
  refine (delete_any M q _ vs _ HV1.out hvl (by omega)).mono ?_
  rintro e w15 ⟨v15, rfl, hown15, hc15⟩
  obtain ⟨D15, n15, e15, rfl, f1, f2, hF16, hk16⟩ := HF.out.rows hown15 hc15 HV2.out.dropLast
  have hx16 := HX.out.keep hk16 HGL.out hF16.bel
  have HF16 := Lib.hid hF16
  have HX16 := Lib.hid hx16
  clear hown15 hc15 hF16 hx16 hk16 HV1 HV2 hvl u1 HF HX
  go_wp2_with (first
    | (refine put_cell rfl 24 (.tmp 71) (.tmp 70) rfl rfl g 1 (.slice D15 n15 e15) _ rfl rfl rfl rfl f1 f2 (by kernel_rfl) ?_
       obtain ⟨w16, hw16⟩ : ∃ w16, w16 = w15.setCell ⟨g, 1, none⟩ (.slice D15 n15 e15) := ⟨_, rfl⟩
       rw [← hw16] at HF16 HX16 ⊢
       clear hw16 f1 f2
       have u0 := HF16.out.c0
       have u1 := HF16.out.c1
       dsimp only at u0 u1)
    | (refine store_box rfl 26 (.tmp 6) (.tmp 72) rfl rfl (w.heap.size + 1) _ _ rfl rfl HX16.out.b1 rfl (by kernel_rfl) two_one ?_
       intro w9 hg9 hc9 hs9
       have HG9 := Lib.hid hg9
       have HC9 := Lib.hid hc9
       clear hg9 hc9 hs9))
  refine tab_ret (g := w.heap.size + 1) (x := .bool true) (y := .int .i64 0) rfl rfl rfl rfl rfl HG9.out rfl ?_
  have hfin : Below w.heap.size w w9 := HX16.out.bel.trans (HC9.out.bel.mono (Nat.le_succ _))
  have HE : Hid (cutT t k p2 r2 = ⟨(t.slots.set r2 (k : Int)).set p2 (-2), (t.facts.set k s).dropLast⟩) := by
    show _ = _
    unfold cutT
    rw [HLEN.out, Nat.add_sub_cancel, HSF.out]
  rw [HE.out]
  exact ⟨_, rfl, HF16.out.own.chg HC9.out, hfin⟩
end Go.Proofs.Ythnjpkghjkhjdaa
