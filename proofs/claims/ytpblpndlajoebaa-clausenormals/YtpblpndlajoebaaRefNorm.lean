/-
  Contract of quaereref8: Norm.
-/
import Derived.Test.YtpblpndlajoebaaMemNorm
import Derived.Test.YtpblpndlajoebaaRefCopy
namespace Go.Proofs.Ytpblpndlajoebaa
open Go.RowKit Go.Deep
set_option linter.unusedSimpArgs false
set_option linter.unusedVariables false
set_option maxRecDepth 100000

theorem own_lit9 (w : World) (t : List Int) (hf : t.length ≤ 9) : OwnI (w.alloc (.cells (intCells t).toArray 3)) w.heap.size (.slice (some ⟨w.heap.size, 0, none⟩) t.length t.length) t := by
  have := World.ownsRow_lit (base := w.heap.size) (e := 3) (size := 1) w (intCells t).toArray t.length (Nat.le_refl _) (by unfold maxLen; omega) (by simp [intCells])
  simpa [OwnI] using this
theorem hasR_next {r : List Int} {ts : List (List Int)} {m : Nat} (h : m < ts.length) : hasR r (ts.take (m + 1)) = (hasR r (ts.take m) || sameI (rowOf ts m) r) := by
  rw [rowOf_next h]
  unfold hasR
  rw [List.any_append]
  have : sameI r (rowOf ts m) = sameI (rowOf ts m) r := by unfold sameI; exact decide_eq_decide.2 ⟨fun h => h.symm, fun h => h.symm⟩
  simp [this]
theorem hasR_zero {r : List Int} {ts : List (List Int)} : hasR r (ts.take 0) = false := by simp [hasR]
theorem Small.once {c : Cl} (h : Small c) : Small (onceC c) where
  l := Nat.le_trans (once_length _) h.l
  t := Nat.le_trans (once_length _) h.t
  d := Nat.le_trans (once_length _) h.d
  al := fun l hl => h.al l (mem_once.1 hl)
  ad := fun l hl => h.ad l (mem_once.1 hl)
  r := fun r hr => h.r r (once_rows hr)
theorem take_snoc {xs : List Int} {i : Nat} (h : i < xs.length) : xs.take (i + 1) = xs.take i ++ [intAt xs i] := by
  rw [List.take_add_one, intAt_get h]; rfl
theorem of_none {F : List Nat} {x : Int} (hx : x < 0) (hs : F.Nodup) (h : ofB (bdsF F) (-1 - x) = none) : (-1 - x).toNat ∉ F := by
  intro q
  have := ofB_in hs q
  have e : (((-1 - x).toNat : Nat) : Int) = -1 - x := by omega
  rw [e, h] at this; cases this
theorem of_some {F : List Nat} {x : Int} {t : List Int} (hx : x < 0) (h : ofB (bdsF F) (-1 - x) = some t) : (-1 - x).toNat ∈ F := by
  by_cases q : (-1 - x).toNat ∈ F
  · exact q
  · have := ofB_out q
    have e : (((-1 - x).toNat : Nat) : Int) = -1 - x := by omega
    rw [e, h] at this; cases this
theorem bdsF_new {F : List Nat} {x : Int} (hx : x < 0) : bdsF (F ++ [(-1 - x).toNat]) = bdsF F ++ [⟨-1 - x, [-1 - (F.length : Int)]⟩] := by
  rw [bdsF_snoc]
  have e : (((-1 - x).toNat : Nat) : Int) = -1 - x := by omega
  rw [e]

theorem app_bindN {w : World} {ops : Array Oper} {rest : List Oper} {o : Oper} {a : Act} {Q : Exit → Act → World → Prop} (hgd : o.guard = none) (s x : Operand)
    (ho : o.op = .call { callee := .builtin .append, args := #[s, x], argTypes := #[92, 92] })
    (base : Nat) (v : Value) (bs : List Bd) (y : Int) (t : List Int) (u : Value) (hs : a.eval s = v) (hown : OwnB w base v bs) (hu : OwnI w base u t) {N : Nat} (hx : a.eval x = .slice (some ⟨N, 0, none⟩) 1 1) (hN : w.heap.size = N)
    (hlen : bs.length + 1 ≤ 4398046511104) (hbase : base ≤ w.heap.size)
    (h : ∀ v' w', OwnB w' base v' (bs ++ [⟨y, t⟩]) → Below base w w' → wpList Try.prog ops Q rest (a.put o.dst v') w') : wpList Try.prog ops Q (o :: rest) a (w.alloc (.cells #[.int .i64 y, u] 95)) := by
  subst hN
  exact app_bind1 hgd s x ho base v bs y t u hs hown hu hx hlen hbase h

set_option maxHeartbeats 8000000 in
theorem refNorm_any (v : Cv) (c : Cl) (w : World) (hc : ClAt w w.heap.size v c) (hs : Small c) (h24 : ∀ r ∈ rowsC c, ∀ x ∈ r, -24 ≤ x) : Calls Try.prog 43 #[v.val] w (ClRet (norm c) w) := by
  have l2 := hc.tups.len
  have q1 : v.n1 ≤ 5 := by rw [← hc.lits.len]; exact hs.l
  have q2 : v.n2 ≤ 3 := by rw [← l2]; exact hs.t
  have q3 : v.n3 ≤ 3 := by rw [← hc.conds.len]; exact hs.d
  have HL2 := Lib.hid l2
  have HSM := Lib.hid hs
  have H24R := Lib.hid h24
  have hb0 := below_new2 w v.obj (.cells #[.slice none 0 0, .slice none 0 0, .slice none 0 0] 26)
  have hx0 := (CBox.new hc).on (below_new _ (.cells #[.slice none 0 0, .slice none 0 0, .slice none 0 0] 26))
  have hz0 := ZBox.new (w.alloc v.obj)
  have e0 : (w.alloc v.obj).heap.size = w.heap.size + 1 := by simp
  rw [e0] at hz0
  rw [Cv.val_eq]
  unfold Cv.obj at hb0 hx0 hz0
  clear hc hs h24 l2 e0
  go_enter Try.func43, Try.ntmps43
  go_upto_region 1 with (fail)
  obtain ⟨w0, hw0⟩ : ∃ w0, w0 = (w.alloc (.cells #[.slice v.A1 v.n1 v.c1, .slice v.A2 v.n2 v.c2, .slice v.A3 v.n3 v.c3] 26)).alloc (.cells #[.slice none 0 0, .slice none 0 0, .slice none 0 0] 26) := ⟨_, rfl⟩
  have hsz0 : w0.heap.size = w.heap.size + 2 := by rw [hw0]; simp
  rw [← hw0] at hb0 hx0 hz0 ⊢
  have HX0 := Lib.hid hx0
  have HX := Lib.hid hx0
  have HB := Lib.hid hb0
  have HZ0 := Lib.hid hz0
  obtain ⟨B, hB⟩ : ∃ B, B = w.heap.size := ⟨_, rfl⟩
  rw [← hB] at HX HX0 HZ0 hsz0 ⊢
  have HBH := Lib.hid hB
  have hB0 : B < w0.heap.size := by omega
  have hB1 : B + 1 < w0.heap.size := by omega
  clear hw0 hb0 hx0 hz0 hB hsz0
  go_cut [3] (fun s wx => ∃ (g : Nat) (u : Cv), s = .pointer (some ⟨g, 0, none⟩) ∧ NrmD w0 wx.heap.size g (once c.lits) [] (once c.conds) u wx)
  case first =>
    have p0 := HX.out.c0
    have p2 := HX.out.c2
    go_wp2_with fail
    refine wp_region_held_drew (S := (fun w' => w'.cell? ⟨B, 0, none⟩ = some (.slice v.A1 v.n1 v.c1) ∧ w'.cell? ⟨B, 2, none⟩ = some (.slice v.A3 v.n3 v.c3))) (by kernel_rfl) ⟨p0, p2⟩ (fun hHeld => ?_)
    have hd0 : Below w0.heap.size w0 w0.drew := (Below.refl w0.heap.size w0).drew
    have hs1 : w0.heap.size ≤ w0.drew.heap.size := hd0.size
    refine takeH (i := 0) (v := ?_) rfl rfl (by kernel_rfl) (by kernel_rfl) (by kernel_rfl) (fun _ _ _ h => h) (by rfl) ?_ hHeld ?_
    rotate_left
    · (intro w hSw; (try dsimp only at hSw); first | (go_simp; done) | (go_simp; with_reducible rfl))
    simp only [Act.put, List.setIfInBounds_toArray, List.set_cons_zero, List.set_cons_succ]
    refine takeH (i := 1) (v := ?_) rfl rfl (by kernel_rfl) (by kernel_rfl) (by kernel_rfl) (fun _ _ _ h => h) (by rfl) ?_ hHeld ?_
    rotate_left
    · (intro w hSw; (try dsimp only at hSw); first | (go_simp; done) | (go_simp; with_reducible rfl))
    simp only [Act.put, List.setIfInBounds_toArray, List.set_cons_zero, List.set_cons_succ]
    refine takeH (i := 3) (v := ?_) rfl rfl (by kernel_rfl) (by kernel_rfl) (by kernel_rfl) (fun _ _ _ h => h) (by rfl) ?_ hHeld ?_
    rotate_left
    · (intro w hSw; (try dsimp only at hSw); first | (go_simp; done) | (go_simp; with_reducible rfl))
    simp only [Act.put, List.setIfInBounds_toArray, List.set_cons_zero, List.set_cons_succ]
    refine takeH (i := 4) (v := ?_) rfl rfl (by kernel_rfl) (by kernel_rfl) (by kernel_rfl) (fun _ _ _ h => h) (by rfl) ?_ hHeld ?_
    rotate_left
    · (intro w hSw; (try dsimp only at hSw); first | (go_simp; done) | (go_simp; with_reducible rfl))
    simp only [Act.put, List.setIfInBounds_toArray, List.set_cons_zero, List.set_cons_succ]
    replace HX := Lib.hid (HX.out.on hd0)
    have HB1 := Lib.hid hd0
    clear hd0
    obtain ⟨w1, hw1⟩ : ∃ w1, w1 = w0.drew := ⟨_, rfl⟩
    rw [← hw1] at HX HB1 hs1 ⊢
    clear hw1
    clear p0 p2
    have p0 := HX.out.c0
    have p2 := HX.out.c2
    refine wpAnyH_ready (rs := [2, 7]) (by kernel_rfl) (by simp) ?_
    refine AllReadyH.cons rfl (fun K hK => ?_) (AllReadyH.cons rfl (fun K hK => ?_) AllReadyH.nil)
    · go_simp
      refine (refLits_any v.A1 v.n1 v.c1 c.lits _ HX.out.cl.lits (by omega)).mono ?_
      rintro e w2 ⟨x1, rfl, ho1, hb2⟩
      obtain ⟨D1, d1, hd1⟩ := ho1.valued
      obtain ⟨n1, hn1⟩ : ∃ n1, n1 = (once c.lits).length := ⟨_, rfl⟩
      rw [← hn1] at hd1
      subst hd1
      have hs2 := hb2.size
      have HB2 := Lib.hid (HB1.out.trans (hb2.mono HB1.out.size))
      replace HX := Lib.hid (HX.out.on hb2)
      have H1 := Lib.hid ho1
      clear ho1 hb2 hn1
      clear p0 p2
      have p0 := HX.out.c0
      have p2 := HX.out.c2
      go_wp2_with fail
      refine hK.out _ _ ?_ (fun hHeld => ?_)
      · exact ⟨p0, p2⟩
      clear hK K
      refine wpAnyH_ready (rs := [5, 7]) (by kernel_rfl) (by simp) ?_
      refine AllReadyH.cons rfl (fun K hK => ?_) (AllReadyH.cons rfl (fun K hK => ?_) AllReadyH.nil)
      · go_simp
        refine (refLits_any v.A3 v.n3 v.c3 c.conds _ HX.out.cl.conds (by omega)).mono ?_
        rintro e w3 ⟨x3, rfl, ho3, hb3⟩
        obtain ⟨D3, d3, hd3⟩ := ho3.valued
        obtain ⟨n3, hn3⟩ : ∃ n3, n3 = (once c.conds).length := ⟨_, rfl⟩
        rw [← hn3] at hd3
        subst hd3
        have hs3 := hb3.size
        have HB3 := Lib.hid (HB2.out.trans (hb3.mono HB2.out.size))
        replace HX := Lib.hid (HX.out.on hb3)
        replace H1 := Lib.hid (H1.out.on hb3)
        have H3 := Lib.hid ho3
        clear ho3 hb3 hn3
        clear p0 p2
        have p0 := HX.out.c0
        have p2 := HX.out.c2
        go_wp2_with fail
        refine hK.out _ _ ?_ (fun hHeld => ?_)
        · exact ⟨p0, p2⟩
        clear hK K
        refine takeH (i := 6) (v := ?_) rfl rfl (by kernel_rfl) (by kernel_rfl) (by kernel_rfl) (fun _ _ _ h => h) (by rfl) ?_ hHeld ?_
        rotate_left
        · (intro w hSw; (try dsimp only at hSw); first | (go_simp; done) | (go_simp; with_reducible rfl))
        simp only [Act.put, List.setIfInBounds_toArray, List.set_cons_zero, List.set_cons_succ]
        refine wpAnyH_ready (rs := [7]) (by kernel_rfl) (by simp) ?_
        refine AllReadyH.cons rfl (fun K hK => ?_) AllReadyH.nil
        go_simp
        have hb4 := below_new w3 (.cells #[.slice none 0 0, .slice none 0 0, .slice none 0 0] 26)
        have HZ := Lib.hid (ZBox.new w3)
        have HB4 := Lib.hid (HB3.out.trans (hb4.mono HB3.out.size))
        replace HX := Lib.hid (HX.out.on hb4)
        replace H1 := Lib.hid (H1.out.on hb4)
        replace H3 := Lib.hid (H3.out.on hb4)
        obtain ⟨w4, hw4⟩ : ∃ w4, w4 = w3.alloc (.cells #[.slice none 0 0, .slice none 0 0, .slice none 0 0] 26) := ⟨_, rfl⟩
        obtain ⟨g, hg⟩ : ∃ g, g = w3.heap.size := ⟨_, rfl⟩
        have hs4 : w3.heap.size ≤ w4.heap.size := by rw [hw4]; simp
        have hgw : w0.heap.size ≤ g := by rw [hg]; exact HB3.out.size
        rw [← hw4] at HX HZ HB4 H1 H3 ⊢
        rw [← hg] at HZ ⊢
        clear hb4 hw4 hg
        clear p0 p2
        have p0 := HX.out.c0
        have p2 := HX.out.c2
        refine hK.out _ _ ?_ (fun hHeld => ?_)
        · exact ⟨p0, p2⟩
        clear hK K
        refine wpAnyH_ready (rs := [8]) (by kernel_rfl) (by simp) ?_
        refine AllReadyH.cons rfl (fun K hK => ?_) AllReadyH.nil
        refine store_row_step rfl 26 (.tmp 3) (.tmp 18) rfl rfl g _ #[.slice D1 n1 d1, .slice none 0 0, .slice D3 n3 d3] rfl rfl HZ.out.z rfl (by kernel_rfl) three_one ?_
        have hN := NrmD.start H1.out H3.out HZ.out HB4.out hgw (by omega) (by omega)
        have HN := Lib.hid hN
        have HC9 := Lib.hid (HX0.out.on hN.bel)
        have p0' := HC9.out.c0
        have p2' := HC9.out.c2
        clear hN p0 p2
        refine hK.out _ _ ?_ (fun hHeld => ?_)
        · exact ⟨p0', p2'⟩
        clear hK K
        refine wpAnyH_done (by kernel_rfl) ?_ _
        go_wp2
        go_meet
        case rel => exact ⟨g, _, rfl, HN.out⟩
      · go_simp
        have hb3 := below_new w2 (.cells #[.slice none 0 0, .slice none 0 0, .slice none 0 0] 26)
        have HZ := Lib.hid (ZBox.new w2)
        have HB3 := Lib.hid (HB2.out.trans (hb3.mono HB2.out.size))
        replace HX := Lib.hid (HX.out.on hb3)
        replace H1 := Lib.hid (H1.out.on hb3)
        obtain ⟨w3, hw3⟩ : ∃ w3, w3 = w2.alloc (.cells #[.slice none 0 0, .slice none 0 0, .slice none 0 0] 26) := ⟨_, rfl⟩
        obtain ⟨g, hg⟩ : ∃ g, g = w2.heap.size := ⟨_, rfl⟩
        have hs3 : w2.heap.size ≤ w3.heap.size := by rw [hw3]; simp
        have hgw : w0.heap.size ≤ g := by rw [hg]; exact HB2.out.size
        rw [← hw3] at HX HZ HB3 H1 ⊢
        rw [← hg] at HZ ⊢
        clear hb3 hw3 hg
        clear p0 p2
        have p0 := HX.out.c0
        have p2 := HX.out.c2
        refine hK.out _ _ ?_ (fun hHeld => ?_)
        · exact ⟨p0, p2⟩
        clear hK K
        refine wpAnyH_ready (rs := [5]) (by kernel_rfl) (by simp) ?_
        refine AllReadyH.cons rfl (fun K hK => ?_) AllReadyH.nil
        go_simp
        refine (refLits_any v.A3 v.n3 v.c3 c.conds _ HX.out.cl.conds (by omega)).mono ?_
        rintro e w4 ⟨x3, rfl, ho3, hb4⟩
        obtain ⟨D3, d3, hd3⟩ := ho3.valued
        obtain ⟨n3, hn3⟩ : ∃ n3, n3 = (once c.conds).length := ⟨_, rfl⟩
        rw [← hn3] at hd3
        subst hd3
        have hs4 := hb4.size
        have HB4 := Lib.hid (HB3.out.trans (hb4.mono HB3.out.size))
        replace HX := Lib.hid (HX.out.on hb4)
        replace HZ := Lib.hid (HZ.out.on hb4)
        replace H1 := Lib.hid (H1.out.on hb4)
        have H3 := Lib.hid ho3
        clear ho3 hb4 hn3
        clear p0 p2
        have p0 := HX.out.c0
        have p2 := HX.out.c2
        go_wp2_with fail
        refine hK.out _ _ ?_ (fun hHeld => ?_)
        · exact ⟨p0, p2⟩
        clear hK K
        refine takeH (i := 6) (v := ?_) rfl rfl (by kernel_rfl) (by kernel_rfl) (by kernel_rfl) (fun _ _ _ h => h) (by rfl) ?_ hHeld ?_
        rotate_left
        · (intro w hSw; (try dsimp only at hSw); first | (go_simp; done) | (go_simp; with_reducible rfl))
        simp only [Act.put, List.setIfInBounds_toArray, List.set_cons_zero, List.set_cons_succ]
        refine wpAnyH_ready (rs := [8]) (by kernel_rfl) (by simp) ?_
        refine AllReadyH.cons rfl (fun K hK => ?_) AllReadyH.nil
        refine store_row_step rfl 26 (.tmp 3) (.tmp 18) rfl rfl g _ #[.slice D1 n1 d1, .slice none 0 0, .slice D3 n3 d3] rfl rfl HZ.out.z rfl (by kernel_rfl) three_one ?_
        have hN := NrmD.start H1.out H3.out HZ.out HB4.out hgw (by omega) (by omega)
        have HN := Lib.hid hN
        have HC9 := Lib.hid (HX0.out.on hN.bel)
        have p0' := HC9.out.c0
        have p2' := HC9.out.c2
        clear hN p0 p2
        refine hK.out _ _ ?_ (fun hHeld => ?_)
        · exact ⟨p0', p2'⟩
        clear hK K
        refine wpAnyH_done (by kernel_rfl) ?_ _
        go_wp2
        go_meet
        case rel => exact ⟨g, _, rfl, HN.out⟩
    · go_simp
      have hb2 := below_new w1 (.cells #[.slice none 0 0, .slice none 0 0, .slice none 0 0] 26)
      have HZ := Lib.hid (ZBox.new w1)
      have HB2 := Lib.hid (HB1.out.trans (hb2.mono HB1.out.size))
      replace HX := Lib.hid (HX.out.on hb2)
      obtain ⟨w2, hw2⟩ : ∃ w2, w2 = w1.alloc (.cells #[.slice none 0 0, .slice none 0 0, .slice none 0 0] 26) := ⟨_, rfl⟩
      obtain ⟨g, hg⟩ : ∃ g, g = w1.heap.size := ⟨_, rfl⟩
      have hs2 : w1.heap.size ≤ w2.heap.size := by rw [hw2]; simp
      have hgw : w0.heap.size ≤ g := by rw [hg]; exact HB1.out.size
      rw [← hw2] at HX HZ HB2  ⊢
      rw [← hg] at HZ ⊢
      clear hb2 hw2 hg
      clear p0 p2
      have p0 := HX.out.c0
      have p2 := HX.out.c2
      refine hK.out _ _ ?_ (fun hHeld => ?_)
      · exact ⟨p0, p2⟩
      clear hK K
      refine wpAnyH_ready (rs := [2]) (by kernel_rfl) (by simp) ?_
      refine AllReadyH.cons rfl (fun K hK => ?_) AllReadyH.nil
      go_simp
      refine (refLits_any v.A1 v.n1 v.c1 c.lits _ HX.out.cl.lits (by omega)).mono ?_
      rintro e w3 ⟨x1, rfl, ho1, hb3⟩
      obtain ⟨D1, d1, hd1⟩ := ho1.valued
      obtain ⟨n1, hn1⟩ : ∃ n1, n1 = (once c.lits).length := ⟨_, rfl⟩
      rw [← hn1] at hd1
      subst hd1
      have hs3 := hb3.size
      have HB3 := Lib.hid (HB2.out.trans (hb3.mono HB2.out.size))
      replace HX := Lib.hid (HX.out.on hb3)
      replace HZ := Lib.hid (HZ.out.on hb3)
      have H1 := Lib.hid ho1
      clear ho1 hb3 hn1
      clear p0 p2
      have p0 := HX.out.c0
      have p2 := HX.out.c2
      go_wp2_with fail
      refine hK.out _ _ ?_ (fun hHeld => ?_)
      · exact ⟨p0, p2⟩
      clear hK K
      refine wpAnyH_ready (rs := [5]) (by kernel_rfl) (by simp) ?_
      refine AllReadyH.cons rfl (fun K hK => ?_) AllReadyH.nil
      go_simp
      refine (refLits_any v.A3 v.n3 v.c3 c.conds _ HX.out.cl.conds (by omega)).mono ?_
      rintro e w4 ⟨x3, rfl, ho3, hb4⟩
      obtain ⟨D3, d3, hd3⟩ := ho3.valued
      obtain ⟨n3, hn3⟩ : ∃ n3, n3 = (once c.conds).length := ⟨_, rfl⟩
      rw [← hn3] at hd3
      subst hd3
      have hs4 := hb4.size
      have HB4 := Lib.hid (HB3.out.trans (hb4.mono HB3.out.size))
      replace HX := Lib.hid (HX.out.on hb4)
      replace HZ := Lib.hid (HZ.out.on hb4)
      replace H1 := Lib.hid (H1.out.on hb4)
      have H3 := Lib.hid ho3
      clear ho3 hb4 hn3
      clear p0 p2
      have p0 := HX.out.c0
      have p2 := HX.out.c2
      go_wp2_with fail
      refine hK.out _ _ ?_ (fun hHeld => ?_)
      · exact ⟨p0, p2⟩
      clear hK K
      refine takeH (i := 6) (v := ?_) rfl rfl (by kernel_rfl) (by kernel_rfl) (by kernel_rfl) (fun _ _ _ h => h) (by rfl) ?_ hHeld ?_
      rotate_left
      · (intro w hSw; (try dsimp only at hSw); first | (go_simp; done) | (go_simp; with_reducible rfl))
      simp only [Act.put, List.setIfInBounds_toArray, List.set_cons_zero, List.set_cons_succ]
      refine wpAnyH_ready (rs := [8]) (by kernel_rfl) (by simp) ?_
      refine AllReadyH.cons rfl (fun K hK => ?_) AllReadyH.nil
      refine store_row_step rfl 26 (.tmp 3) (.tmp 18) rfl rfl g _ #[.slice D1 n1 d1, .slice none 0 0, .slice D3 n3 d3] rfl rfl HZ.out.z rfl (by kernel_rfl) three_one ?_
      have hN := NrmD.start H1.out H3.out HZ.out HB4.out hgw (by omega) (by omega)
      have HN := Lib.hid hN
      have HC9 := Lib.hid (HX0.out.on hN.bel)
      have p0' := HC9.out.c0
      have p2' := HC9.out.c2
      clear hN p0 p2
      refine hK.out _ _ ?_ (fun hHeld => ?_)
      · exact ⟨p0', p2'⟩
      clear hK K
      refine wpAnyH_done (by kernel_rfl) ?_ _
      go_wp2
      go_meet
      case rel => exact ⟨g, _, rfl, HN.out⟩
  case rest =>
    obtain ⟨g, u0, rfl, hN0⟩ := hcut
    obtain ⟨lo, hlo⟩ : ∃ lo, lo = wc.heap.size := ⟨_, rfl⟩
    rw [← hlo] at hN0
    have HN0 := Lib.hid hN0
    obtain ⟨LS, hLS⟩ : ∃ LS, LS = once c.lits := ⟨_, rfl⟩
    obtain ⟨DS, hDS⟩ : ∃ DS, DS = once c.conds := ⟨_, rfl⟩
    rw [← hLS, ← hDS] at HN0
    have HLS := Lib.hid hLS
    have HDS := Lib.hid hDS
    clear hN0 hlo hLS hDS HX
    go_wp2_with fail
    go_loopw [4] (fun i wr => ∃ k : Nat, i = .int .i64 k ∧ k ≤ v.n2 ∧ ∃ u : Cv, NrmD w0 lo g LS (once (c.tups.take k)) DS u wr) (fun i _ => v.n2 - (intOf i).toNat)
    case atStart => exact ⟨0, rfl, by omega, u0, HN0.out⟩
    case round =>
      clear HN0
      obtain ⟨k, rfl, hk, u, hF⟩ := hrel
      have HF := Lib.hid hF
      have HBW := Lib.hid hF.bel
      have hsz := hF.bel.size
      have x1 := (HX0.out.on hF.bel).c1
      clear hF
      by_cases hlt : k < v.n2
      · have hkl : k < c.tups.length := by rw [HL2.out]; exact hlt
        have HYES := Lib.hid (fun q => onceR_has hkl q)
        have HNO := Lib.hid (fun q => onceR_new hkl q)
        obtain ⟨b, off, A3, c3, hA, hb, d0, hr, hnil⟩ := HX0.out.cl.tups.one hlt
        rw [hA] at x1
        have HA := Lib.hid hA
        have hol : (once (c.tups.take k)).length ≤ 6 := by have := once_few (xs := c.tups) (k := k); have := HL2.out; omega
        obtain ⟨r, hrr⟩ : ∃ r, r = rowOf c.tups k := ⟨_, rfl⟩
        rw [← hrr] at d0 hr HYES HNO
        have HR := Lib.hid hr
        have D0 := Lib.hid d0
        have HLT := Lib.hid hb
        have HNIL := Lib.hid hnil
        obtain ⟨Am, cm, hvm, _, htm, _⟩ := HF.out.b.tupsAt hsz
        obtain ⟨O, hO⟩ : ∃ O, O = once (c.tups.take k) := ⟨_, rfl⟩
        rw [← hO] at hvm htm hol HF HYES HNO
        obtain ⟨M, hM⟩ : ∃ M, O.length = M := ⟨_, rfl⟩
        rw [hM] at hvm htm hol
        have HM := Lib.hid hM
        have HOL := Lib.hid htm
        have HVM := Lib.hid hvm
        have hi0 : (0 : Int) ≤ (k : Int) := by omega
        have hi3 : (k : Int) < (v.n2 : Int) := by omega
        obtain ⟨wA, hwA⟩ : ∃ wA, wA = wr := ⟨_, rfl⟩
        subst hwA
        clear hr hrr hkl htm hM hO d0 hvm hnil hA
        go_wp2_with fail
        go_loopw [5, 6] (fun s j wr => ∃ m : Nat, j = .int .i64 m ∧ m ≤ M ∧ s = .bool (hasR r (O.take m)) ∧ Below wA.heap.size wA wr) (fun _ j _ => M - (intOf j).toNat)
        case atStart => exact ⟨0, rfl, by omega, by rw [hasR_zero], Below.refl _ _⟩
        case round =>
          clear x1
          obtain ⟨m, rfl, hm, rfl, hbm⟩ := hrel
          have HBM := Lib.hid hbm
          have HBA := Lib.hid (HBW.out.trans (hbm.mono hsz))
          have HF2 := Lib.hid (HF.out.on hbm)
          clear hbm
          have x1 := (HX0.out.on HBA.out).c1
          rw [HA.out] at x1
          have d0 : wr.cell? ⟨b, off + k, none⟩ = some (.slice A3 r.length c3) := by rw [HBA.out.cell (p := ⟨b, off + k, none⟩) HLT.out]; exact D0.out
          have y1 := HF2.out.c1
          rw [HVM.out] at y1
          by_cases hmt : m < M
          · have hml : m < O.length := by rw [HM.out]; exact hmt
            obtain ⟨b', off', A4, c4, hA', hb', e0, hr4, -⟩ := (HOL.out.on HBM.out).one hmt
            subst hA'
            have HNX := Lib.hid (hasR_next (r := r) hml)
            obtain ⟨q, hq⟩ : ∃ q, q = rowOf O m := ⟨_, rfl⟩
            rw [← hq] at e0 hr4 HNX
            have HR4 := Lib.hid hr4
            have E0 := Lib.hid e0
            have HLT4 := Lib.hid hb'
            have HR3 := Lib.hid (HR.out.on HBA.out)
            have hj0 : (0 : Int) ≤ (m : Int) := by omega
            have hj3 : (m : Int) < (M : Int) := by omega
            clear hr4 hq hb' hml
            cases hpb : hasR r (O.take m)
            case true =>
              rw [hpb] at HNX
              have HZ : Hid (hasR r (O.take (m + 1)) = true) := HNX.out
              clear hpb
              go_wp2_with fail
              refine wp_region_held_drew (S := (fun w' => True)) (by kernel_rfl) trivial (fun hHeld => ?_)
              refine takeH (i := 0) (v := ?_) rfl rfl (by kernel_rfl) (by kernel_rfl) (by kernel_rfl) (fun _ _ _ h => h) (by rfl) ?_ hHeld ?_
              rotate_left
              · (intro w hSw; (try dsimp only at hSw); first | (go_simp; done) | (go_simp; with_reducible rfl))
              simp only [Act.put, List.setIfInBounds_toArray, List.set_cons_zero, List.set_cons_succ]
              refine takeH (i := 1) (v := ?_) rfl rfl (by kernel_rfl) (by kernel_rfl) (by kernel_rfl) (fun _ _ _ h => h) (by rfl) ?_ hHeld ?_
              rotate_left
              · (intro w hSw; (try dsimp only at hSw); first | (go_simp; done) | (go_simp; with_reducible rfl))
              simp only [Act.put, List.setIfInBounds_toArray, List.set_cons_zero, List.set_cons_succ]
              refine passH (i := 2) rfl rfl (by kernel_rfl) (by kernel_rfl) (by kernel_rfl) (fun _ _ _ h => h) (by rfl) hHeld ?_
              simp only [Act.put, List.setIfInBounds_toArray, List.set_cons_zero, List.set_cons_succ]
              refine passH (i := 3) rfl rfl (by kernel_rfl) (by kernel_rfl) (by kernel_rfl) (fun _ _ _ h => h) (by rfl) hHeld ?_
              simp only [Act.put, List.setIfInBounds_toArray, List.set_cons_zero, List.set_cons_succ]
              refine passH (i := 4) rfl rfl (by kernel_rfl) (by kernel_rfl) (by kernel_rfl) (fun _ _ _ h => h) (by rfl) hHeld ?_
              simp only [Act.put, List.setIfInBounds_toArray, List.set_cons_zero, List.set_cons_succ]
              refine passH (i := 5) rfl rfl (by kernel_rfl) (by kernel_rfl) (by kernel_rfl) (fun _ _ _ h => h) (by rfl) hHeld ?_
              simp only [Act.put, List.setIfInBounds_toArray, List.set_cons_zero, List.set_cons_succ]
              refine passH (i := 6) rfl rfl (by kernel_rfl) (by kernel_rfl) (by kernel_rfl) (fun _ _ _ h => h) (by rfl) hHeld ?_
              simp only [Act.put, List.setIfInBounds_toArray, List.set_cons_zero, List.set_cons_succ]
              refine passH (i := 7) rfl rfl (by kernel_rfl) (by kernel_rfl) (by kernel_rfl) (fun _ _ _ h => h) (by rfl) hHeld ?_
              simp only [Act.put, List.setIfInBounds_toArray, List.set_cons_zero, List.set_cons_succ]
              refine passH (i := 8) rfl rfl (by kernel_rfl) (by kernel_rfl) (by kernel_rfl) (fun _ _ _ h => h) (by rfl) hHeld ?_
              simp only [Act.put, List.setIfInBounds_toArray, List.set_cons_zero, List.set_cons_succ]
              refine passH (i := 9) rfl rfl (by kernel_rfl) (by kernel_rfl) (by kernel_rfl) (fun _ _ _ h => h) (by rfl) hHeld ?_
              simp only [Act.put, List.setIfInBounds_toArray, List.set_cons_zero, List.set_cons_succ]
              refine passH (i := 10) rfl rfl (by kernel_rfl) (by kernel_rfl) (by kernel_rfl) (fun _ _ _ h => h) (by rfl) hHeld ?_
              simp only [Act.put, List.setIfInBounds_toArray, List.set_cons_zero, List.set_cons_succ]
              refine passH (i := 11) rfl rfl (by kernel_rfl) (by kernel_rfl) (by kernel_rfl) (fun _ _ _ h => h) (by rfl) hHeld ?_
              simp only [Act.put, List.setIfInBounds_toArray, List.set_cons_zero, List.set_cons_succ]
              refine passH (i := 12) rfl rfl (by kernel_rfl) (by kernel_rfl) (by kernel_rfl) (fun _ _ _ h => h) (by rfl) hHeld ?_
              simp only [Act.put, List.setIfInBounds_toArray, List.set_cons_zero, List.set_cons_succ]
              refine takeH (i := 13) (v := ?_) rfl rfl (by kernel_rfl) (by kernel_rfl) (by kernel_rfl) (fun _ _ _ h => h) (by rfl) ?_ hHeld ?_
              rotate_left
              · (intro w hSw; (try dsimp only at hSw); first | (go_simp; done) | (go_simp; with_reducible rfl))
              simp only [Act.put, List.setIfInBounds_toArray, List.set_cons_zero, List.set_cons_succ]
              refine takeH (i := 14) (v := ?_) rfl rfl (by kernel_rfl) (by kernel_rfl) (by kernel_rfl) (fun _ _ _ h => h) (by rfl) ?_ hHeld ?_
              rotate_left
              · (intro w hSw; (try dsimp only at hSw); first | (go_simp; done) | (go_simp; with_reducible rfl))
              simp only [Act.put, List.setIfInBounds_toArray, List.set_cons_zero, List.set_cons_succ]
              refine wpAnyH_done (by kernel_rfl) ?_ _
              go_wp2
              go_roundw
              case rel => exact ⟨m + 1, by go_num, by omega, by rw [HZ.out], HBM.out.drew⟩
              case measure => simp [intOf]; omega
            rw [hpb] at HNX
            clear hpb
            go_wp2_with fail
            refine wp_region_held_drew (S := (fun w' => w'.cell? ⟨g, 1, none⟩ = some (.slice (some ⟨b', off', none⟩) M cm) ∧ w'.cell? ⟨b', off' + m, none⟩ = some (.slice A4 q.length c4) ∧ w'.cell? ⟨B, 1, none⟩ = some (.slice (some ⟨b, off, none⟩) v.n2 v.c2) ∧ w'.cell? ⟨b, off + k, none⟩ = some (.slice A3 r.length c3))) (by kernel_rfl) ⟨y1, e0, x1, d0⟩ (fun hHeld => ?_)
            have hd : Below wr.heap.size wr wr.drew := (Below.refl wr.heap.size wr).drew
            have HR4d := Lib.hid (HR4.out.on hd)
            have HR3d := Lib.hid (HR3.out.on hd)
            refine takeH (i := 0) (v := ?_) rfl rfl (by kernel_rfl) (by kernel_rfl) (by kernel_rfl) (fun _ _ _ h => h) (by rfl) ?_ hHeld ?_
            rotate_left
            · (intro w hSw; (try dsimp only at hSw); first | (go_simp; done) | (go_simp; with_reducible rfl))
            simp only [Act.put, List.setIfInBounds_toArray, List.set_cons_zero, List.set_cons_succ]
            refine takeH (i := 1) (v := ?_) rfl rfl (by kernel_rfl) (by kernel_rfl) (by kernel_rfl) (fun _ _ _ h => h) (by rfl) ?_ hHeld ?_
            rotate_left
            · (intro w hSw; (try dsimp only at hSw); first | (go_simp; done) | (go_simp; with_reducible rfl))
            simp only [Act.put, List.setIfInBounds_toArray, List.set_cons_zero, List.set_cons_succ]
            refine takeH (i := 2) (v := ?_) rfl rfl (by kernel_rfl) (by kernel_rfl) (by kernel_rfl) (fun _ _ _ h => h) (by rfl) ?_ hHeld ?_
            rotate_left
            · (intro w hSw; (try dsimp only at hSw); first | (go_simp; done) | (go_simp; with_reducible rfl))
            simp only [Act.put, List.setIfInBounds_toArray, List.set_cons_zero, List.set_cons_succ]
            refine takeH (i := 3) (v := ?_) rfl rfl (by kernel_rfl) (by kernel_rfl) (by kernel_rfl) (fun _ _ _ h => h) (by rfl) ?_ hHeld ?_
            rotate_left
            · (intro w hSw; (try dsimp only at hSw); first | (go_simp; done) | (go_simp; with_reducible rfl))
            simp only [Act.put, List.setIfInBounds_toArray, List.set_cons_zero, List.set_cons_succ]
            refine takeH (i := 4) (v := ?_) rfl rfl (by kernel_rfl) (by kernel_rfl) (by kernel_rfl) (fun _ _ _ h => h) (by rfl) ?_ hHeld ?_
            rotate_left
            · (intro w hSw; (try dsimp only at hSw); first | (go_simp; done) | (go_simp; with_reducible rfl))
            simp only [Act.put, List.setIfInBounds_toArray, List.set_cons_zero, List.set_cons_succ]
            refine takeH (i := 5) (v := ?_) rfl rfl (by kernel_rfl) (by kernel_rfl) (by kernel_rfl) (fun _ _ _ h => h) (by rfl) ?_ hHeld ?_
            rotate_left
            · (intro w hSw; (try dsimp only at hSw); first | (go_simp; done) | (go_simp; with_reducible rfl))
            simp only [Act.put, List.setIfInBounds_toArray, List.set_cons_zero, List.set_cons_succ]
            refine takeH (i := 6) (v := ?_) rfl rfl (by kernel_rfl) (by kernel_rfl) (by kernel_rfl) (fun _ _ _ h => h) (by rfl) ?_ hHeld ?_
            rotate_left
            · (intro w hSw; (try dsimp only at hSw); first | (go_simp; done) | (go_simp; with_reducible rfl))
            simp only [Act.put, List.setIfInBounds_toArray, List.set_cons_zero, List.set_cons_succ]
            refine takeH (i := 7) (v := ?_) rfl rfl (by kernel_rfl) (by kernel_rfl) (by kernel_rfl) (fun _ _ _ h => h) (by rfl) ?_ hHeld ?_
            rotate_left
            · (intro w hSw; (try dsimp only at hSw); first | (go_simp; done) | (go_simp; with_reducible rfl))
            simp only [Act.put, List.setIfInBounds_toArray, List.set_cons_zero, List.set_cons_succ]
            refine takeH (i := 8) (v := ?_) rfl rfl (by kernel_rfl) (by kernel_rfl) (by kernel_rfl) (fun _ _ _ h => h) (by rfl) ?_ hHeld ?_
            rotate_left
            · (intro w hSw; (try dsimp only at hSw); first | (go_simp; done) | (go_simp; with_reducible rfl))
            simp only [Act.put, List.setIfInBounds_toArray, List.set_cons_zero, List.set_cons_succ]
            refine takeH (i := 9) (v := ?_) rfl rfl (by kernel_rfl) (by kernel_rfl) (by kernel_rfl) (fun _ _ _ h => h) (by rfl) ?_ hHeld ?_
            rotate_left
            · (intro w hSw; (try dsimp only at hSw); first | (go_simp; done) | (go_simp; with_reducible rfl))
            simp only [Act.put, List.setIfInBounds_toArray, List.set_cons_zero, List.set_cons_succ]
            refine takeH (i := 10) (v := ?_) rfl rfl (by kernel_rfl) (by kernel_rfl) (by kernel_rfl) (fun _ _ _ h => h) (by rfl) ?_ hHeld ?_
            rotate_left
            · (intro w hSw; (try dsimp only at hSw); first | (go_simp; done) | (go_simp; with_reducible rfl))
            simp only [Act.put, List.setIfInBounds_toArray, List.set_cons_zero, List.set_cons_succ]
            refine takeH (i := 11) (v := ?_) rfl rfl (by kernel_rfl) (by kernel_rfl) (by kernel_rfl) (fun _ _ _ h => h) (by rfl) ?_ hHeld ?_
            rotate_left
            · (intro w hSw; (try dsimp only at hSw); first | (go_simp; done) | (go_simp; with_reducible rfl))
            simp only [Act.put, List.setIfInBounds_toArray, List.set_cons_zero, List.set_cons_succ]
            refine wpAnyH_ready (rs := [12]) (by kernel_rfl) (by simp) ?_
            refine AllReadyH.cons rfl (fun K hK => ?_) AllReadyH.nil
            go_simp
            refine (refSame_any A4 A3 _ c4 _ c3 _ _ q r _ HR4d.out.at_ HR3d.out.at_ HR4d.out.big HR3d.out.big).mono ?_
            rintro e w5 ⟨rfl, hb5⟩
            have hb5' := hd.trans (hb5.mono hd.size)
            have HB5 := Lib.hid (HBM.out.trans (hb5'.mono HBM.out.size))
            have hbw5 := HBA.out.trans (hb5'.mono HBA.out.size)
            have x1' := (HX0.out.on hbw5).c1
            rw [HA.out] at x1'
            have d0' : w5.cell? ⟨b, off + k, none⟩ = some (.slice A3 r.length c3) := by rw [hbw5.cell (p := ⟨b, off + k, none⟩) HLT.out]; exact D0.out
            have e0' : w5.cell? ⟨b', off' + m, none⟩ = some (.slice A4 q.length c4) := by rw [hb5'.cell (p := ⟨b', off' + m, none⟩) HLT4.out]; exact E0.out
            have y1' := (HF2.out.on hb5').c1
            rw [HVM.out] at y1'
            clear hb5 hb5' hd d0 e0 x1 y1 hbw5
            obtain ⟨sb, hsb⟩ : ∃ sb, sb = sameI q r := ⟨_, rfl⟩
            rw [← hsb] at HNX ⊢
            have HZ : Hid (hasR r (O.take (m + 1)) = sb) := by show _ = _; rw [HNX.out]; rfl
            clear hsb
            go_wp2_with fail
            refine hK.out _ _ ?_ (fun hHeld => ?_)
            · exact ⟨y1', e0', x1', d0'⟩
            clear hK K
            refine takeH (i := 13) (v := ?_) rfl rfl (by kernel_rfl) (by kernel_rfl) (by kernel_rfl) (fun _ _ _ h => h) (by rfl) ?_ hHeld ?_
            rotate_left
            · (intro w hSw; (try dsimp only at hSw); first | (go_simp; done) | (go_simp; with_reducible rfl))
            simp only [Act.put, List.setIfInBounds_toArray, List.set_cons_zero, List.set_cons_succ]
            refine takeH (i := 14) (v := ?_) rfl rfl (by kernel_rfl) (by kernel_rfl) (by kernel_rfl) (fun _ _ _ h => h) (by rfl) ?_ hHeld ?_
            rotate_left
            · (intro w hSw; (try dsimp only at hSw); first | (go_simp; done) | (go_simp; with_reducible rfl))
            simp only [Act.put, List.setIfInBounds_toArray, List.set_cons_zero, List.set_cons_succ]
            refine wpAnyH_done (by kernel_rfl) ?_ _
            go_wp2
            go_roundw
            case rel => exact ⟨m + 1, by go_num, by omega, by rw [HZ.out], HB5.out⟩
            case measure => simp [intOf]; omega
          · obtain rfl : m = M := by omega
            have HT : Hid (O.take m = O) := List.take_of_length_le (by rw [HM.out]; exact Nat.le_refl _)
            rw [HT.out]
            have hsz2 := HBA.out.size
            have hlo1 := HF2.out.lo1
            have hlo0 := HF2.out.lo0
            cases hpb : hasR r O
            · have HX9 := Lib.hid (HNO.out hpb)
              have HR0 : Hid (RowIn wr w0.heap.size A3 r.length c3 r) := HR.out.below HBA.out
              obtain ⟨vs, hvl0, hvo, hvr⟩ := HF2.out.b
              rw [HVM.out] at hvo
              have HVL := Lib.hid hvl0
              have HOW := Lib.hid hvo
              have HVR := Lib.hid hvr
              have hvl : vs.length + 1 ≤ 5864062014634 := by rw [hvl0, HM.out]; omega
              clear hpb hvl0 hvo hvr
              go_wp2_with fail
              refine wp_region_held_drew (S := (fun w' => w'.cell? ⟨B, 1, none⟩ = some (.slice (some ⟨b, off, none⟩) v.n2 v.c2) ∧ w'.cell? ⟨b, off + k, none⟩ = some (.slice A3 r.length c3))) (by kernel_rfl) ⟨x1, d0⟩ (fun hHeld => ?_)
              have hd : Below wr.heap.size wr wr.drew := (Below.refl wr.heap.size wr).drew
              refine takeH (i := 0) (v := ?_) rfl rfl (by kernel_rfl) (by kernel_rfl) (by kernel_rfl) (fun _ _ _ h => h) (by rfl) ?_ hHeld ?_
              rotate_left
              · (intro w hSw; (try dsimp only at hSw); first | (go_simp; done) | (go_simp; with_reducible rfl))
              simp only [Act.put, List.setIfInBounds_toArray, List.set_cons_zero, List.set_cons_succ]
              refine takeH (i := 2) (v := ?_) rfl rfl (by kernel_rfl) (by kernel_rfl) (by kernel_rfl) (fun _ _ _ h => h) (by rfl) ?_ hHeld ?_
              rotate_left
              · (intro w hSw; (try dsimp only at hSw); first | (go_simp; done) | (go_simp; with_reducible rfl))
              simp only [Act.put, List.setIfInBounds_toArray, List.set_cons_zero, List.set_cons_succ]
              refine takeH (i := 3) (v := ?_) rfl rfl (by kernel_rfl) (by kernel_rfl) (by kernel_rfl) (fun _ _ _ h => h) (by rfl) ?_ hHeld ?_
              rotate_left
              · (intro w hSw; (try dsimp only at hSw); first | (go_simp; done) | (go_simp; with_reducible rfl))
              simp only [Act.put, List.setIfInBounds_toArray, List.set_cons_zero, List.set_cons_succ]
              refine takeH (i := 4) (v := ?_) rfl rfl (by kernel_rfl) (by kernel_rfl) (by kernel_rfl) (fun _ _ _ h => h) (by rfl) ?_ hHeld ?_
              rotate_left
              · (intro w hSw; (try dsimp only at hSw); first | (go_simp; done) | (go_simp; with_reducible rfl))
              simp only [Act.put, List.setIfInBounds_toArray, List.set_cons_zero, List.set_cons_succ]
              refine takeH (i := 5) (v := ?_) rfl rfl (by kernel_rfl) (by kernel_rfl) (by kernel_rfl) (fun _ _ _ h => h) (by rfl) ?_ hHeld ?_
              rotate_left
              · (intro w hSw; (try dsimp only at hSw); first | (go_simp; done) | (go_simp; with_reducible rfl))
              simp only [Act.put, List.setIfInBounds_toArray, List.set_cons_zero, List.set_cons_succ]
              refine takeH (i := 6) (v := ?_) rfl rfl (by kernel_rfl) (by kernel_rfl) (by kernel_rfl) (fun _ _ _ h => h) (by rfl) ?_ hHeld ?_
              rotate_left
              · (intro w hSw; (try dsimp only at hSw); first | (go_simp; done) | (go_simp; with_reducible rfl))
              simp only [Act.put, List.setIfInBounds_toArray, List.set_cons_zero, List.set_cons_succ]
              have HFD := Lib.hid (HF2.out.on hd)
              have HOD := Lib.hid (HOW.out.on hd)
              have HRD : Hid (RowIn wr.drew w0.heap.size A3 r.length c3 r) := HR0.out.below (hd.mono hsz2)
              have HVD : Hid (∀ i, i < O.length → ∃ A c, valAt vs i = .slice A (rowOf O i).length c ∧ RowIn wr.drew w0.heap.size A (rowOf O i).length c (rowOf O i) ∧ (A = none → c = 0)) := fun i hi => by
                obtain ⟨A, c, h1, h2, h3⟩ := HVR.out i hi
                exact ⟨A, c, h1, h2.below (hd.mono hsz2), h3⟩
              have HBD := Lib.hid (HBA.out.trans (hd.mono hsz2))
              have hszd := hd.size
              obtain ⟨wB, hwB⟩ : ∃ wB, wB = wr.drew := ⟨_, rfl⟩
              rw [← hwB] at HFD HOD HRD HVD HBD hszd hHeld ⊢
              clear hwB hd x1 d0 y1
              have x1 := (HX0.out.on HBD.out).c1
              rw [HA.out] at x1
              have d0 : wB.cell? ⟨b, off + k, none⟩ = some (.slice A3 r.length c3) := by rw [HBD.out.cell (p := ⟨b, off + k, none⟩) HLT.out]; exact D0.out
              have y1 := HFD.out.c1
              rw [HVM.out] at y1
              have HB3 := Lib.hid (HBD.out.trans ((below_new wB (.cells #[.slice A3 r.length c3] 33)).mono (show w0.heap.size ≤ wB.heap.size by omega)))
              have y3 := (HFD.out.on (below_new wB (.cells #[.slice A3 r.length c3] 33))).c1
              rw [HVM.out] at y3
              refine wpAnyH_ready (rs := [1, 7]) (by kernel_rfl) (by simp) ?_
              refine AllReadyH.cons rfl (fun K hK => ?_) (AllReadyH.cons rfl (fun K hK => ?_) AllReadyH.nil)
              · go_simp
                refine hK.out _ _ ?_ (fun hHeld => ?_)
                · exact ⟨x1, d0⟩
                clear hK K
                refine wpAnyH_ready (rs := [7]) (by kernel_rfl) (by simp) ?_
                refine AllReadyH.cons rfl (fun K hK => ?_) AllReadyH.nil
                go_simp
                refine hK.out _ _ ?_ (fun hHeld => ?_)
                · exact ⟨by rw [HB3.out.cell (p := ⟨B, 1, none⟩) hB0]; exact (HX0.out.c1).trans (by rw [HA.out]), by rw [HB3.out.cell (p := ⟨b, off + k, none⟩) HLT.out]; exact D0.out⟩
                clear hK K
                refine wpAnyH_ready (rs := [8]) (by kernel_rfl) (by simp) ?_
                refine AllReadyH.cons rfl (fun K hK => ?_) AllReadyH.nil
                refine app_rowv_step rfl (.tmp 50) (.tmp 56) rfl lo _ vs _ rfl HOD.out rfl rfl rfl hvl (show lo ≤ wB.heap.size by omega) ?_
                intro v3 w3 hown3 hc3
                have HB4 := Lib.hid (HBD.out.trans (hc3.bel.mono hlo0))
                obtain ⟨D, L9, e9, rfl, b0, b1, hgl2, q3⟩ := NrmD.app HFD.out HVL.out HVD.out hown3 hc3 HRD.out HNIL.out
                rw [HVM.out] at b0
                have HQ := Lib.hid q3
                clear q3 hown3 hc3 hgl2
                refine hK.out _ _ ?_ (fun hHeld => ?_)
                · exact ⟨by rw [HB4.out.cell (p := ⟨B, 1, none⟩) hB0]; exact (HX0.out.c1).trans (by rw [HA.out]), by rw [HB4.out.cell (p := ⟨b, off + k, none⟩) HLT.out]; exact D0.out⟩
                clear hK K
                refine takeH (i := 9) (v := ?_) rfl rfl (by kernel_rfl) (by kernel_rfl) (by kernel_rfl) (fun _ _ _ h => h) (by rfl) ?_ hHeld ?_
                rotate_left
                · (intro w hSw; (try dsimp only at hSw); first | (go_simp; done) | (go_simp; with_reducible rfl))
                simp only [Act.put, List.setIfInBounds_toArray, List.set_cons_zero, List.set_cons_succ]
                refine wpAnyH_ready (rs := [10]) (by kernel_rfl) (by simp) ?_
                refine AllReadyH.cons rfl (fun K hK => ?_) AllReadyH.nil
                refine store_slice_step rfl 24 (.tmp 58) (.tmp 57) rfl rfl g 1 D L9 e9 _ rfl rfl b0 b1 (by kernel_rfl) ?_
                refine hK.out _ _ ?_ (fun hHeld => ?_)
                · exact ⟨by rw [HQ.out.bel.cell (p := ⟨B, 1, none⟩) hB0]; exact (HX0.out.c1).trans (by rw [HA.out]), by rw [HQ.out.bel.cell (p := ⟨b, off + k, none⟩) HLT.out]; exact D0.out⟩
                clear hK K
                refine wpAnyH_done (by kernel_rfl) ?_ _
                clear b0 b1 x1 d0 y1 y3
                go_wp2
                go_roundw
                case rel => exact ⟨k + 1, by go_num, by omega, _, by rw [HX9.out]; exact HQ.out⟩
                case measure => simp [intOf]; omega
              · go_simp
                refine hK.out _ _ ?_ (fun hHeld => ?_)
                · exact ⟨by rw [HB3.out.cell (p := ⟨B, 1, none⟩) hB0]; exact (HX0.out.c1).trans (by rw [HA.out]), by rw [HB3.out.cell (p := ⟨b, off + k, none⟩) HLT.out]; exact D0.out⟩
                clear hK K
                refine wpAnyH_ready (rs := [1]) (by kernel_rfl) (by simp) ?_
                refine AllReadyH.cons rfl (fun K hK => ?_) AllReadyH.nil
                go_simp
                refine hK.out _ _ ?_ (fun hHeld => ?_)
                · exact ⟨by rw [HB3.out.cell (p := ⟨B, 1, none⟩) hB0]; exact (HX0.out.c1).trans (by rw [HA.out]), by rw [HB3.out.cell (p := ⟨b, off + k, none⟩) HLT.out]; exact D0.out⟩
                clear hK K
                refine wpAnyH_ready (rs := [8]) (by kernel_rfl) (by simp) ?_
                refine AllReadyH.cons rfl (fun K hK => ?_) AllReadyH.nil
                refine app_rowv_step rfl (.tmp 50) (.tmp 56) rfl lo _ vs _ rfl HOD.out rfl rfl rfl hvl (show lo ≤ wB.heap.size by omega) ?_
                intro v3 w3 hown3 hc3
                have HB4 := Lib.hid (HBD.out.trans (hc3.bel.mono hlo0))
                obtain ⟨D, L9, e9, rfl, b0, b1, hgl2, q3⟩ := NrmD.app HFD.out HVL.out HVD.out hown3 hc3 HRD.out HNIL.out
                rw [HVM.out] at b0
                have HQ := Lib.hid q3
                clear q3 hown3 hc3 hgl2
                refine hK.out _ _ ?_ (fun hHeld => ?_)
                · exact ⟨by rw [HB4.out.cell (p := ⟨B, 1, none⟩) hB0]; exact (HX0.out.c1).trans (by rw [HA.out]), by rw [HB4.out.cell (p := ⟨b, off + k, none⟩) HLT.out]; exact D0.out⟩
                clear hK K
                refine takeH (i := 9) (v := ?_) rfl rfl (by kernel_rfl) (by kernel_rfl) (by kernel_rfl) (fun _ _ _ h => h) (by rfl) ?_ hHeld ?_
                rotate_left
                · (intro w hSw; (try dsimp only at hSw); first | (go_simp; done) | (go_simp; with_reducible rfl))
                simp only [Act.put, List.setIfInBounds_toArray, List.set_cons_zero, List.set_cons_succ]
                refine wpAnyH_ready (rs := [10]) (by kernel_rfl) (by simp) ?_
                refine AllReadyH.cons rfl (fun K hK => ?_) AllReadyH.nil
                refine store_slice_step rfl 24 (.tmp 58) (.tmp 57) rfl rfl g 1 D L9 e9 _ rfl rfl b0 b1 (by kernel_rfl) ?_
                refine hK.out _ _ ?_ (fun hHeld => ?_)
                · exact ⟨by rw [HQ.out.bel.cell (p := ⟨B, 1, none⟩) hB0]; exact (HX0.out.c1).trans (by rw [HA.out]), by rw [HQ.out.bel.cell (p := ⟨b, off + k, none⟩) HLT.out]; exact D0.out⟩
                clear hK K
                refine wpAnyH_done (by kernel_rfl) ?_ _
                clear b0 b1 x1 d0 y1 y3
                go_wp2
                go_roundw
                case rel => exact ⟨k + 1, by go_num, by omega, _, by rw [HX9.out]; exact HQ.out⟩
                case measure => simp [intOf]; omega
            · have HX9 := Lib.hid (HYES.out hpb)
              clear hpb
              go_wp2
              go_roundw
              case rel => exact ⟨k + 1, by go_num, by omega, u, by rw [HX9.out]; exact HF2.out⟩
              case measure => simp [intOf]; omega
      · obtain rfl : k = v.n2 := by omega
        have HT2 : Hid (c.tups.take v.n2 = c.tups) := List.take_of_length_le (by rw [HL2.out]; exact Nat.le_refl _)
        rw [HT2.out] at HF
        have HSO := Lib.hid HSM.out.once
        have hcl : ClAt wr wr.heap.size u (onceC c) := by
          have := HF.out.clAt (by rw [HLS.out]; have := HSO.out.l; show (once c.lits).length ≤ 6; have h2 : (once c.lits).length ≤ 5 := this; omega) (by have h2 : (once c.tups).length ≤ 3 := HSO.out.t; omega) (by rw [HDS.out]; have h2 : (once c.conds).length ≤ 3 := HSO.out.d; omega)
          rw [HLS.out, HDS.out] at this
          exact this
        have HCL := Lib.hid hcl
        have HUE := Lib.hid u.val_eq
        have HPA := Lib.hid (refRowsR_any u (onceC c))
        have H24O : Hid (∀ r ∈ rowsC (onceC c), ∀ x ∈ r, -24 ≤ x) := fun r hr => H24R.out r (once_rows hr)
        obtain ⟨L, hL⟩ : ∃ L, L = rowsC (onceC c) := ⟨_, rfl⟩
        have HLE := Lib.hid hL
        have H49 : Hid (∀ r ∈ L, r.length ≤ 49) := by rw [hL]; exact HSO.out.r
        have hL11 : L.length ≤ 11 := by rw [hL]; exact HSO.out.rows
        have H24L : Hid (∀ r ∈ L, ∀ x ∈ r, -24 ≤ x) := by rw [hL]; exact H24O.out
        rw [← hL] at HPA
        have u0 := HF.out.c0
        have u1 := HF.out.c1
        have u2 := HF.out.c2
        clear hL hcl
        go_wp2_with fail
        rw [← HUE.out]
        refine (HPA.out _ HCL.out HSO.out).mono ?_
        rintro e w5 ⟨A5, cap, rfl, hcap, ht, hb5⟩
        have HT := Lib.hid ht
        have HFW := Lib.hid (HF.out.on hb5)
        obtain ⟨m, hm⟩ : ∃ m, m = L.length := ⟨_, rfl⟩
        rw [← hm] at HT hcap hL11 ⊢
        have HMM := Lib.hid hm
        have HFL : Hid (∀ k, (L.take k).flatten.length ≤ 539) := fun k => Nat.le_trans (flat_few fun r hr => H49.out r (List.mem_of_mem_take hr)) (by have := HMM.out; rw [List.length_take]; omega)
        clear ht hb5 hm x1 u0 u1 u2 HF HBW hsz
        go_wp2
        go_loopw [7, 9] (fun s i wr => ∃ k : Nat, i = .int .i64 k ∧ k ≤ m ∧ OwnB wr w5.heap.size s (bdsF (firsts (L.take k).flatten)) ∧ Below w5.heap.size w5 wr) (fun _ i _ => m - (intOf i).toNat)
        case atStart => exact ⟨0, rfl, by omega, OwnB.nil_, Below.refl _ _⟩
        case round =>
          obtain ⟨k, rfl, hk, hown, hbw⟩ := hrel
          have HOWN := Lib.hid hown
          have HBW := Lib.hid hbw
          have hsz := hbw.size
          clear hown hbw
          have hone : ∀ F : List Nat, ∀ i, i < (bdsF F).length → (bdAt (bdsF F) i).t.length * 8 ≤ 140737488351232 := fun F i hi => by have := (bdsF_one hi).2; omega
          have HONE := Lib.hid hone
          clear hone
          by_cases hlt : k < m
          · have hkL : k < L.length := by rw [← HMM.out]; exact hlt
            obtain ⟨b, off, A2, c2, rfl, hb, d0, hr, -⟩ := HT.out.one hlt
            have HNX := Lib.hid (rowOf_take hkL)
            have hf1 := HFL.out k
            have h49 := H49.out _ (rowOf_mem hkL)
            have HX24 := Lib.hid (H24L.out _ (rowOf_mem hkL))
            obtain ⟨r, hrr⟩ : ∃ r, r = rowOf L k := ⟨_, rfl⟩
            rw [← hrr] at d0 hr HNX h49 HX24
            obtain ⟨Lr, hLr⟩ : ∃ Lr, r.length = Lr := ⟨_, rfl⟩
            rw [hLr] at d0 hr h49
            have HLr := Lib.hid hLr
            have HR := Lib.hid hr
            have D0 := Lib.hid d0
            have HLT := Lib.hid hb
            have hi0 : (0 : Int) ≤ (k : Int) := by omega
            have hi3 : (k : Int) < (m : Int) := by omega
            obtain ⟨wA, hwA⟩ : ∃ wA, wA = wr := ⟨_, rfl⟩
            subst hwA
            obtain ⟨P, hP⟩ : ∃ P, P = (L.take k).flatten := ⟨_, rfl⟩
            rw [← hP] at hf1 HOWN HNX
            clear hr hrr hkL hLr hb d0 hP
            go_wp2_with fail
            go_loopw [7, 10] (fun s j wr => ∃ q : Nat, j = .int .i64 q ∧ q ≤ Lr ∧ OwnB wr w5.heap.size s (bdsF (firsts (P ++ r.take q))) ∧ Below w5.heap.size w5 wr) (fun _ j _ => Lr - (intOf j).toNat)
            case atStart => exact ⟨0, rfl, by omega, by simpa using HOWN.out, HBW.out⟩
            case round =>
              obtain ⟨q, rfl, hq, hown, hbv⟩ := hrel
              have HBV := Lib.hid hbv
              have hs5 := hbv.size
              have d0 : wr.cell? ⟨b, off + k, none⟩ = some (.slice A2 Lr c2) := by rw [hbv.cell (p := ⟨b, off + k, none⟩) HLT.out]; exact D0.out
              have hfl := firsts_len (P ++ r.take q)
              rw [List.length_append, List.length_take] at hfl
              obtain ⟨F, hF⟩ : ∃ F, F = firsts (P ++ r.take q) := ⟨_, rfl⟩
              rw [← hF] at hown hfl
              have HND : Hid F.Nodup := by show F.Nodup; rw [hF]; exact once_nodup _
              have HFE := Lib.hid hF
              have HOB := Lib.hid hown
              have hF600 : F.length ≤ 600 := by omega
              clear hbv hown hF hfl
              by_cases hqt : q < Lr
              · have hql : q < r.length := by rw [HLr.out]; exact hqt
                have HTS := Lib.hid (take_snoc hql)
                obtain ⟨b2, o2, hA2, hb2, hc2⟩ := (HR.out.on HBV.out).at_.at_ (by omega)
                subst hA2
                have cx : wr.cell? ⟨b2, o2 + q, none⟩ = some (.int .i64 (intAt r q)) := hc2 q hqt
                have h24 := HX24.out _ (intAt_mem hql)
                obtain ⟨x, hx⟩ : ∃ x, x = intAt r q := ⟨_, rfl⟩
                rw [← hx] at cx h24 HTS
                have hj0 : (0 : Int) ≤ (q : Int) := by omega
                have hj3 : (q : Int) < (Lr : Int) := by omega
                clear hc2 hql hx
                by_cases hx0 : x < 0
                · obtain ⟨A6, c6, hv6, hc6, hb6⟩ := HOB.out.bindsAt (HONE.out F)
                  have HFO := Lib.hid (of_none (F := F) hx0 HND.out)
                  have HFS := Lib.hid (fun t => of_some (F := F) (t := t) hx0)
                  have HBN := Lib.hid (bdsF_new (F := F) hx0)
                  have HF1 := Lib.hid (firsts_old (cs := P ++ r.take q) hx0)
                  have HF2 := Lib.hid (firsts_new (cs := P ++ r.take q) hx0)
                  rw [bdsF_len] at hv6 hc6 hb6
                  obtain ⟨N, hN⟩ : ∃ N, N = F.length := ⟨_, rfl⟩
                  rw [← hN] at hv6 hc6 hb6 hF600 HBN
                  have HNN := Lib.hid hN
                  have HB6 := Lib.hid hb6
                  subst hv6
                  have hn6 : N ≤ 4398046511104 := by omega
                  clear hb6 hN
                  go_wp2_with fail
                  refine (refOf_any A6 N c6 _ (bdsF F) (-1 - x) _ HB6.out hn6).mono ?_
                  rintro e w6 ⟨rfl, ⟨rfl, ho⟩ | ⟨j, hj, rfl, ho⟩⟩
                  · have HX9 : Hid (firsts (P ++ r.take (q + 1)) = F ++ [(-1 - x).toNat]) := by
                      show _ = _
                      rw [HTS.out, ← List.append_assoc, HF2.out (by rw [← HFE.out]; exact HFO.out ho), ← HFE.out]
                    have HNW := Lib.hid ((own_lit9 wr [-1 - (N : Int)] (by simp)).lower hs5)
                    have HOA := Lib.hid (HOB.out.on (below_new wr (.cells #[.int .i64 (-1 - (N : Int))] 3)))
                    have hss : w5.heap.size ≤ (wr.alloc (.cells #[.int .i64 (-1 - (N : Int))] 3)).heap.size := by simp; omega
                    have hbl : (bdsF F).length + 1 ≤ 4398046511104 := by rw [bdsF_len, ← HNN.out]; omega
                    clear ho
                    go_wp2_with (at_builtin
                                 refine app_bindN (w := wr.alloc (.cells #[.int .i64 (-1 - (N : Int))] 3)) rfl (.tmp 92) (.tmp 100) rfl w5.heap.size (.slice A6 N c6) (bdsF F) (-1 - x) [-1 - (N : Int)] (.slice (some ⟨wr.heap.size, 0, none⟩) 1 1) rfl HOA.out HNW.out rfl (by simp) hbl hss ?_
                                 intro v7 w7 hown7 hb7
                                 have HO7 := Lib.hid hown7
                                 have HB7 := Lib.hid hb7
                                 clear hown7 hb7)
                    go_roundw
                    case rel => exact ⟨q + 1, by go_num, by omega, HO7.out.cast (by rw [HX9.out, HBN.out]), HBV.out.trans (((below_new wr _).mono hs5).trans HB7.out)⟩
                    case measure => simp [intOf]; omega
                  · have HX9 : Hid (firsts (P ++ r.take (q + 1)) = F) := by
                      show _ = _
                      rw [HTS.out, ← List.append_assoc, HF1.out (by rw [← HFE.out]; exact HFS.out _ ho), ← HFE.out]
                    have hj0 : (0 : Int) ≤ (j : Int) := by omega
                    clear ho
                    go_wp2
                    go_roundw
                    case rel => exact ⟨q + 1, by go_num, by omega, HOB.out.cast (by rw [HX9.out]), HBV.out⟩
                    case measure => simp [intOf]; omega
                · have HX9 : Hid (firsts (P ++ r.take (q + 1)) = F) := by
                    show _ = _
                    rw [HTS.out, ← List.append_assoc, firsts_pos hx0, ← HFE.out]
                  go_wp2
                  go_roundw
                  case rel => exact ⟨q + 1, by go_num, by omega, HOB.out.cast (by rw [HX9.out]), HBV.out⟩
                  case measure => simp [intOf]; omega
              · obtain rfl : q = Lr := by omega
                have HTQ : Hid (r.take q = r) := List.take_of_length_le (by rw [HLr.out]; exact Nat.le_refl _)
                go_wp2
                go_roundw
                case rel => exact ⟨k + 1, by go_num, by omega, HOB.out.cast (by rw [HNX.out, HFE.out, HTQ.out]), HBV.out⟩
                case measure => simp [intOf]; omega
          · obtain rfl : k = m := by omega
            have HLT : Hid (L.take k = L) := List.take_of_length_le (by rw [HMM.out]; exact Nat.le_refl _)
            rw [HLT.out] at HOWN
            have HFV := Lib.hid (HFW.out.on HBW.out)
            have HCV : Hid (ClAt wr wr.heap.size u (onceC c)) := by
              have := HFV.out.clAt (by rw [HLS.out]; have h2 : (once c.lits).length ≤ 5 := HSO.out.l; omega) (by have h2 : (once c.tups).length ≤ 3 := HSO.out.t; omega) (by rw [HDS.out]; have h2 : (once c.conds).length ≤ 3 := HSO.out.d; omega)
              rw [HLS.out, HDS.out] at this
              exact this
            obtain ⟨A6, c6, hv6, hc6, hb6⟩ := HOWN.out.bindsAt (HONE.out _)
            have hfl := firsts_len L.flatten
            have hf1 := HFL.out k
            rw [HLT.out] at hf1
            rw [bdsF_len] at hv6 hc6 hb6
            obtain ⟨N, hN⟩ : ∃ N, N = (firsts L.flatten).length := ⟨_, rfl⟩
            rw [← hN] at hv6 hc6 hb6 hfl
            have HB6 := Lib.hid hb6
            subst hv6
            have hn6 : N ≤ 4398046511104 := by omega
            have u0 := HFV.out.c0
            have u1 := HFV.out.c1
            have u2 := HFV.out.c2
            have HZ2 : Hid (ZBox wr (B + 1)) := HZ0.out.on HFV.out.bel
            have HPUT : Hid (putC (bdsF (firsts L.flatten)) (onceC c) = norm c) := by show _ = _; rw [norm_put, HLE.out]; rfl
            have HBF := Lib.hid HFV.out.bel
            clear hb6 hN HOWN
            go_wp2_with fail
            rw [← HUE.out]
            refine (refCopy_any A6 N c6 (bdsF (firsts L.flatten)) u (onceC c) _ HB6.out hn6 (fun i hi => bdsF_one hi) HCV.out HSO.out H24O.out).mono ?_
            rintro e w7 ⟨v7, rfl, hv7, hb7⟩
            rw [HPUT.out] at hv7
            obtain ⟨E1, e1, E2, e2, E3, e3, rfl⟩ := hv7.slices
            have HV7 := Lib.hid hv7
            replace HZ2 := Lib.hid (HZ2.out.on hb7)
            have HB7 := Lib.hid (HBF.out.trans (hb7.mono HBF.out.size))
            have hs7 := HBF.out.size
            obtain ⟨m1, hm1⟩ : ∃ m1, m1 = (norm c).lits.length := ⟨_, rfl⟩
            obtain ⟨m2, hm2⟩ : ∃ m2, m2 = (norm c).tups.length := ⟨_, rfl⟩
            obtain ⟨m3, hm3⟩ : ∃ m3, m3 = (norm c).conds.length := ⟨_, rfl⟩
            rw [← hm1, ← hm2, ← hm3] at HV7 ⊢
            clear hv7 hb7 u0 u1 u2 hm1 hm2 hm3
            go_wp2_with (refine store_box rfl 26 (.tmp 2) (.tmp 104) rfl rfl (B + 1) _ _ rfl rfl HZ2.out.z rfl (by kernel_rfl) three_one ?_
                         intro w8 hg8 hc8 hs8
                         have HG8 := Lib.hid hg8
                         have HC8 := Lib.hid hc8
                         clear hg8 hc8 hs8)
            refine bodyPost_ret (results_cell_row rfl _ _ (B + 1) _ _ _ _ rfl HG8.out Try.underlying26 rfl (by kernel_rfl)) rfl ?_
            exact ⟨_, rfl, (HV7.out.chg HC8.out (by decide) (by decide) (by decide)).lower (by have := HBH.out; omega), (HB.out.trans (HB7.out.mono HB.out.size)).trans (HC8.out.bel.mono (by have := HBH.out; omega))⟩
end Go.Proofs.Ytpblpndlajoebaa
