/-
  Contract of quaerelaw11: same; words for the law FactSet.
-/
import Derived.Test.YthnjpkghjkhjdaaFactLaw
import Derived.Test.YthnjpkghjkhjdaaMemTab3
namespace Go.Proofs.Ythnjpkghjkhjdaa
open Go.RowKit Go.Deep
set_option linter.unusedSimpArgs false
set_option linter.unusedVariables false
set_option maxRecDepth 100000

set_option maxHeartbeats 1000000 in
theorem same_any (A A' : Option Addr) (n c m c' : Nat) (sl : List Int) (L : List (List Int)) (a : List Int) (w : World) (h : TupsAt w w.heap.size A n L) (hn : n ≤ 1000000000000) (ha : IntsAt w w.heap.size A' m a) (hm : m ≤ maxLen) :
    Calls Try.prog 26 #[.slice A n c, .slice A' m c'] w fun e w' => e = .returned (.int .i64 (whereR ⟨sl, L⟩ a)) ∧ Below w.heap.size w w' := by
  have HX := Lib.hid h
  have HA := Lib.hid ha
  have H2 := Lib.hid h.len
  clear h ha
  go_enter Try.func26, Try.ntmps26
  go_wp2
  go_loopw [5] (fun i wr => ∃ k : Nat, i = .int .i64 k ∧ k ≤ n ∧ Hid (whereR ⟨sl, L⟩ a = firstGo ⟨sl, L⟩ a (L.length - k)) ∧ Below w.heap.size w wr) (fun i _ => n - (intOf i).toNat)
  case atStart => exact ⟨0, rfl, by omega, Lib.hid (p := whereR ⟨sl, L⟩ a = firstGo ⟨sl, L⟩ a (L.length - 0)) rfl, Below.refl _ _⟩
  case round =>
    obtain ⟨k, rfl, hk, HS, hbw⟩ := hrel
    have HBW := Lib.hid hbw
    have HXR := Lib.hid (HX.out.on hbw)
    have HAR := Lib.hid (HA.out.on hbw)
    clear hbw
    by_cases hlt : k < n
    · obtain ⟨b2, o2, A3, c3, rfl, _, d0, hri, _⟩ := HXR.out.one (i := k) hlt
      have hkl : k < L.length := by rw [H2.out]; exact hlt
      have HST := Lib.hid (firstGo_step (t := ⟨sl, L⟩) (a := a) hkl)
      obtain ⟨r, hrr⟩ : ∃ r, r = rowOf L k := ⟨_, rfl⟩
      rw [← hrr] at d0 hri
      have HRI := Lib.hid hri
      have HRR : Hid (fcAt ⟨sl, L⟩ k = r) := hrr.symm
      have q1 : (k : Int) < (n : Int) := by omega
      have q0 : (0 : Int) ≤ (k : Int) := by omega
      clear hri hrr hkl
      go_wp2_with fail
      refine (sameInts_any A3 A' r.length c3 m c' _ _ r a _ HRI.out.at_ HAR.out HRI.out.big hm).mono ?_
      rintro e w2 ⟨rfl, hb2⟩
      have HB2 := Lib.hid (HBW.out.trans (hb2.mono HBW.out.size))
      clear hb2
      cases hsm : sameI r a
      · have HN : Hid (whereR ⟨sl, L⟩ a = firstGo ⟨sl, L⟩ a (L.length - (k + 1))) := by
          show _ = _
          rw [HS.out]
          refine HST.out.trans ?_
          rw [if_neg]
          intro z
          rw [HRR.out] at z
          rw [z, sameI_self] at hsm; cases hsm
        clear hsm
        go_wp2
        go_roundw
        case rel => exact ⟨k + 1, by go_num, by omega, HN, HB2.out⟩
        case measure => simp [intOf]; omega
      · have HN : Hid (whereR ⟨sl, L⟩ a = k) := by
          show _ = _
          rw [HS.out]
          refine HST.out.trans ?_
          rw [if_pos (by rw [HRR.out]; exact of_decide_eq_true hsm)]
        clear hsm
        go_wp2
        go_ret
        exact ⟨by rw [HN.out]; rfl, HB2.out⟩
    · obtain rfl : k = n := by omega
      have HN : Hid (whereR ⟨sl, L⟩ a = -1) := by show _ = _; rw [HS.out, H2.out, Nat.sub_self]; rfl
      go_wp2
      go_ret
      exact ⟨by rw [HN.out]; rfl, HBW.out⟩
/-- 'x = append(x, r)' of rows, x made by the call: but for x's own block nothing turns. -/
theorem app_rowg {w : World} {ops : Array Oper} {rest : List Oper} {o : Oper} {a : Act} {Q : Exit → Act → World → Prop} (hgd : o.guard = none) (s x : Operand)
    (ho : o.op = .call { callee := .builtin .append, args := #[s, x], argTypes := #[24, 24] })
    (base : Nat) (v : Value) (vs : List Value) (u : Value) (hs : a.eval s = v) (hown : OwnR w base v vs) (hu : u.oneCell' = true) (hx : a.eval x = .slice (some ⟨w.heap.size, 0, none⟩) 1 1)
    (hlen : vs.length + 1 ≤ 5864062014634) (hbase : base ≤ w.heap.size)
    (h : ∀ v' w', OwnR w' base v' (vs ++ [u]) → Chg [23] base w w' → (∀ i, i < w.heap.size → v.ownBlock ≠ some i → w'.heap[i]? = w.heap[i]?) → wpList Try.prog ops Q rest (a.put o.dst v') w') : wpList Try.prog ops Q (o :: rest) a (w.alloc (.cells #[u] 23)) := by
  obtain ⟨i0, hi0, hz0, hz1, hz2⟩ := info_parts rows_info
  have k2' : OwnR (w.alloc (.cells #[u] 23)) base v vs := World.ownsRow.alloc hown _
  refine wpList_append_own _ hgd s x 24 ho base 23 i0 _ 1 24 Try.underlying24 hi0 hz0 hz1 hz2 rfl (by omega) v vs.length vs hs k2' ⟨w.heap.size, 0, none⟩ 1 1 [u] hx rfl
    (World.news_of_block (cs := #[u]) (t := 23) (fr := (0, 0)) (heap_alloc_new w _)) (by simpa using hu) (by unfold maxLen; omega) (by omega) (by simp; omega) ?_
  intro v' w' h1 h2 _
  refine h v' w' ?_ ((Chg.of_below (below_new w _) hbase).trans (Chg.grown h2 k2' (by simp; omega))) (fun i hi hne => ?_)
  · unfold OwnR; simpa using h1
  · rw [h2.block i (by simp; omega) (fun q => hne q.symm), (below_new w _).block i hi]
section
variable {w w' : World} {base : Nat} {u : Value} {t : Tb}
theorem owns_hi {e : TypeId} {size n : Nat} {v : Value} {ys : List Value} (h : w.ownsRow base e size v n ys) (hk : ∀ i, base ≤ i → i < w.heap.size → w'.heap[i]? = w.heap[i]?) : w'.ownsRow base e size v n ys := by
  obtain ⟨h1, h2⟩ := h
  refine ⟨h1, ?_⟩
  rcases h2 with h2 | ⟨g, cap, cur, q, hg, hc, r⟩
  · exact .inl h2
  · exact .inr ⟨g, cap, cur, q, hg, by rw [hk g hg (Array.getElem?_eq_some_iff.1 hc).1]; exact hc, r⟩
theorem OwnTs.hi (h : OwnTs w base u t) (hk : ∀ i, base ≤ i → i < w.heap.size → w'.heap[i]? = w.heap[i]?) (hs : w.heap.size ≤ w'.heap.size) : OwnTs w' base u t := by
  obtain ⟨m, v1, v2, e, hm, hx, h1, h3, h2⟩ := h
  obtain ⟨vs, b1, b2⟩ := h2.vals
  exact ⟨m, v1, v2, e, hm, Nat.le_trans hx hs, owns_hi h1 hk, h3, OwnT.mk (owns_hi b1 fun i hi => hk i (by omega)) ⟨b2.1, fun j hj => owns_hi (b2.2 j hj) fun i hi => hk i (by omega)⟩⟩
end
theorem tabr_no3' {ss : List Sym} {t : Tb} (h : mayB ss = false) : tabB ss t = false := tabB_no fun q _ => by rw [h] at q; cases q
/-- Where the law stands: the table in its box g, the set by hand beside it. -/
structure SetV (ss : List Sym) (w0 : World) (g : Nat) (T : Tb) (x : Tv) (D : Option Addr) (L c : Nat) (wr : World) : Prop where
  ok : TabOk (factB ss) T
  blk : wr.heap[g]? = some (.cells #[.slice x.A1 x.n1 x.c1, .slice x.A2 x.n2 x.c2] 26 (0, 0))
  tab : ∃ base, OwnTs wr base (.agg #[.slice x.A1 x.n1 x.c1, .slice x.A2 x.n2 x.c2]) T
  own : OwnT wr w0.heap.size (.slice D L c) T.facts
  ge : w0.heap.size ≤ g
  bel : Below w0.heap.size w0 wr
section
variable {ss : List Sym} {w0 wr w2 : World} {g : Nat} {T : Tb} {x : Tv} {D : Option Addr} {L c : Nat}
theorem SetV.lt (h : SetV ss w0 g T x D L c wr) : g < wr.heap.size := (Array.getElem?_eq_some_iff.1 h.blk).1
theorem SetV.on (h : SetV ss w0 g T x D L c wr) (hb : Below wr.heap.size wr w2) : SetV ss w0 g T x D L c w2 := by
  obtain ⟨base, ht⟩ := h.tab
  exact ⟨h.ok, by rw [hb.block g h.lt]; exact h.blk, ⟨base, ht.on hb⟩, h.own.on hb, h.ge, h.bel.trans (hb.mono h.bel.size)⟩
theorem SetV.c0 (h : SetV ss w0 g T x D L c wr) : wr.cell? ⟨g, 0, none⟩ = some (.slice x.A1 x.n1 x.c1) := by rw [cell_of_row _ _ 0 _ _ _ h.blk]; rfl
theorem SetV.c1 (h : SetV ss w0 g T x D L c wr) : wr.cell? ⟨g, 1, none⟩ = some (.slice x.A2 x.n2 x.c2) := by rw [cell_of_row _ _ 1 _ _ _ h.blk]; rfl
theorem SetV.tb (h : SetV ss w0 g T x D L c wr) : TabAt wr wr.heap.size x T := by
  obtain ⟨base, ht⟩ := h.tab
  obtain ⟨y, e, hy⟩ := ht.tab h.ok.small.fit
  obtain ⟨a1, a2, a3, a4, a5, a6⟩ := x
  obtain ⟨b1, b2, b3, b4, b5, b6⟩ := y
  simp only [Value.agg.injEq, Array.mk.injEq, List.cons.injEq, Value.slice.injEq, and_true] at e
  obtain ⟨⟨rfl, rfl, rfl⟩, rfl, rfl, rfl⟩ := e
  exact hy
theorem SetV.len (h : SetV ss w0 g T x D L c wr) : L = T.facts.length := by
  obtain ⟨A, c', e⟩ := h.own.valued
  injection e
theorem SetV.tups (h : SetV ss w0 g T x D L c wr) : TupsAt wr wr.heap.size D L T.facts := by
  obtain ⟨A, c', e, _, ht, _⟩ := h.own.tupsAt h.ok.small.fit.r
  have hl := h.len
  injection e with e1 e2 e3
  rw [e1, hl]
  exact ht
theorem SetV.start (h : mayB ss = true) (ho : OwnTs wr w0.heap.size (.agg #[.slice x.A1 x.n1 x.c1, .slice x.A2 x.n2 x.c2]) newT) (hb : wr.heap[g]? = some (.cells #[.slice x.A1 x.n1 x.c1, .slice x.A2 x.n2 x.c2] 26 (0, 0))) (hg : w0.heap.size ≤ g) (hbel : Below w0.heap.size w0 wr) : SetV ss w0 g newT x none 0 0 wr :=
  ⟨newT_ok, hb, ⟨_, ho⟩, OwnT.nil_, hg, hbel⟩
/-- The table is told anew: what was made, stored in the box. -/
theorem SetV.store {w1 : World} {T' : Tb} {y : Tv} {base' : Nat} (h : SetV ss w0 g T x D L c w1) (hok : TabOk (factB ss) T') (ho : OwnTs w1 base' (.agg #[.slice y.A1 y.n1 y.c1, .slice y.A2 y.n2 y.c2]) T')
    (hg2 : w2.heap[g]? = some (.cells #[.slice y.A1 y.n1 y.c1, .slice y.A2 y.n2 y.c2] 26 (0, 0))) (hc : Chg [26] g w1 w2) :
    OwnTs w2 base' (.agg #[.slice y.A1 y.n1 y.c1, .slice y.A2 y.n2 y.c2]) T' ∧ OwnT w2 w0.heap.size (.slice D L c) T.facts ∧ Below w0.heap.size w0 w2 := by
  obtain ⟨vs, b1, b2⟩ := h.own.vals
  exact ⟨ho.chg hc, OwnT.mk (b1.chg hc (by decide)) (b2.chg hc (by decide)), h.bel.trans (hc.bel.mono h.ge)⟩
end
theorem OwnT.over {w : World} {base b n c i j : Nat} {L : List (List Int)} (h : OwnT w base (.slice (some ⟨b, 0, none⟩) n c) L) (hi : i < L.length) (hj : j < L.length) :
    ∃ A cc z, w.cell? ⟨b, j, none⟩ = some (.slice A (rowOf L j).length cc) ∧ w.cell? ⟨b, i, none⟩ = some z ∧ w.frozen? ⟨b, i, none⟩ = false ∧
      OwnT (w.setCell ⟨b, i, none⟩ (.slice A (rowOf L j).length cc)) base (.slice (some ⟨b, 0, none⟩) n c) (L.set i (rowOf L j)) ∧ Chg [23] base w (w.setCell ⟨b, i, none⟩ (.slice A (rowOf L j).length cc)) ∧ base ≤ b := by
  obtain ⟨vs, b1, b2⟩ := h.vals
  obtain ⟨hl, hh⟩ := b1
  have hvl := b2.1
  rcases hh with ⟨q0, _⟩ | ⟨b', cap, cur, hv, hg, hb, hc1, hc2, hc3, hc4⟩
  · cases q0
  simp only [Value.slice.injEq, Option.some.injEq, Addr.mk.injEq] at hv
  obtain ⟨⟨rfl, -, -⟩, e2, e3⟩ := hv
  have b1' : OwnR w base (.slice (some ⟨b, 0, none⟩) vs.length cap) vs := ⟨hl, .inr ⟨b, cap, cur, rfl, hg, hb, hc1, hc2, hc3, hc4⟩⟩
  obtain ⟨A, cc, eA⟩ := (b2.2 j hj).value
  have hcell : ∀ a, a < vs.length → w.cell? ⟨b, a, none⟩ = some (valAt vs a) := fun a ha => by
    rw [own_get b1' a ha]
    unfold valAt
    rw [List.getD_eq_getElem?_getD, List.getElem?_eq_getElem ha]; rfl
  have cs : Chg [23] base w (w.setCell ⟨b, i, none⟩ (.slice A (rowOf L j).length cc)) := Chg.set hb hg _
  have hst := (World.ownsRow.stored b1' i (.slice A (rowOf L j).length cc)).1
  have hr : OwnR (w.setCell ⟨b, i, none⟩ (.slice A (rowOf L j).length cc)) base (.slice (some ⟨b, 0, none⟩) n c) (vs.set i (.slice A (rowOf L j).length cc)) := by
    unfold OwnR
    rw [List.length_set, e2, e3]
    exact hst
  have hrs := b2.set hi hj
  rw [eA] at hrs
  exact ⟨A, cc, _, by rw [hcell j (by omega), eA], hcell i (by omega), frozen_of_row _ _ _ _ _ hb, OwnT.mk hr (hrs.chg cs (by decide)), cs, hg⟩
theorem OwnT.room {w : World} {base b q c : Nat} {L : List (List Int)} (h : OwnT w base (.slice (some ⟨b, 0, none⟩) (q + 1) c) L) (hl : L.length = q + 1) : q + 1 ≤ c := by
  obtain ⟨vs, b1, b2⟩ := h.vals
  exact OwnR.room b1 (by rw [b2.1]; exact hl)
theorem OwnT.cut {w : World} {base b q c : Nat} {L : List (List Int)} (h : OwnT w base (.slice (some ⟨b, 0, none⟩) (q + 1) c) L) (hl : L.length = q + 1) : OwnT w base (.slice (some ⟨b, 0, none⟩) q c) L.dropLast := by
  obtain ⟨vs, b1, b2⟩ := h.vals
  exact OwnT.mk (OwnR.cut b1 (by rw [b2.1]; exact hl)) b2.dropLast
theorem OwnT.blk {w : World} {base i : Nat} {v : Value} {L : List (List Int)} (h : OwnT w base v L) (hb : v.ownBlock = some i) : i < w.heap.size := by
  obtain ⟨vs, b1, b2⟩ := h.vals
  exact (World.ownsRow.lt b1 i hb).2
theorem OwnT.head {w : World} {base n c : Nat} {D : Option Addr} {L : List (List Int)} (h : OwnT w base (.slice D n c) L) (hl : 0 < L.length) : ∃ g, D = some ⟨g, 0, none⟩ := by
  obtain ⟨vs, b1, b2⟩ := h.vals
  rcases b1.2 with ⟨_, q⟩ | ⟨g, cap, cur, q, _⟩
  · have := b2.1; omega
  · injection q with q
    exact ⟨g, q⟩
end Go.Proofs.Ythnjpkghjkhjdaa
