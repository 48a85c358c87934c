/-
  What binds make of a clause: the walk of the law SubsumeMade.
-/
import Derived.Test.YtcjpopjcpgipjaaDoorSubPutW
namespace Go.Proofs.YtcjpopjcpgipjaaDoor
open Go.RowKit Go.Deep
set_option linter.unusedSimpArgs false
set_option linter.unusedVariables false
set_option maxRecDepth 100000

theorem Cv.val_inj {x y : Cv} (h : x.val = y.val) : x = y := by
  obtain ⟨a1, a2, a3, a4, a5, a6, a7, a8, a9⟩ := x
  obtain ⟨b1, b2, b3, b4, b5, b6, b7, b8, b9⟩ := y
  simp [Cv.val] at h
  obtain ⟨⟨rfl, rfl, rfl⟩, ⟨rfl, rfl, rfl⟩, rfl, rfl, rfl⟩ := h
  rfl
def cutV (v : Cv) : Cv := ⟨v.A1, v.n1, v.c1, v.A2, v.n2, v.c2, none, 0, 0⟩
theorem ClAt.cut {w : World} {v : Cv} {c : Cl} (h : ClAt w w.heap.size v c) : ClAt w w.heap.size (cutV v) (cutD c) :=
  ⟨h.lits, h.tups, LitsAt.nil_, h.m1, h.m2, Nat.le_refl _, h.z2, h.f1, h.f2, by show 0 * 32 ≤ _; omega⟩
theorem litCells_app (ls ms : List Lt) (vs us : List Value) (h : vs.length = ls.length) : litCells (ls ++ ms) (vs ++ us) = litCells ls vs ++ litCells ms us := by
  unfold litCells
  rw [List.zip_append h.symm, List.flatMap_append]
theorem lit_cells {w : World} {base n cap : Nat} {A : Option Addr} {ms : List Lt} {us : List Value} (h : OwnLv w base (.slice A n cap) ms us) (hp : 0 < n) : ∃ b off, A = some ⟨b, off, none⟩ ∧ b < w.heap.size ∧ ∀ j u, (litCells ms us)[j]? = some u → w.cell? ⟨b, off + j, none⟩ = some u := by
  have hn0 : n = ms.length := by
    obtain ⟨A', c', e⟩ := h.valued
    injection e
  rcases h.2.2 with ⟨_, e⟩ | ⟨g, cap', cur, hv, hg, hc, _⟩
  · omega
  · injection hv with q1 q2 q3
    subst q1
    refine ⟨g, 0, rfl, (Array.getElem?_eq_some_iff.1 hc).1, fun j u hj => ?_⟩
    have hlen : j < ms.length * 2 := by
      have := (List.getElem?_eq_some_iff.1 hj).1
      rw [litCells_length ms us h.1] at this
      exact this
    have hh := h.2
    rw [← hn0] at hh
    rw [Nat.zero_add, hh.cellAt j (by omega)]; exact hj
theorem litCells_one {ls : List Lt} {vs : List Value} (h : ∀ i, i < vs.length → (valAt vs i).oneCell' = true) : ∀ u ∈ litCells ls vs, u.oneCell' = true := by
  intro u hu
  unfold litCells at hu
  obtain ⟨p, hp, hu⟩ := List.mem_flatMap.1 hu
  have hp2 := (List.of_mem_zip hp).2
  simp only [List.mem_cons, List.not_mem_nil, or_false] at hu
  rcases hu with rfl | rfl
  · rfl
  · obtain ⟨i, hi, e⟩ := List.mem_iff_getElem.1 hp2
    have := h i hi
    unfold valAt at this
    rw [List.getD_eq_getElem?_getD, List.getElem?_eq_getElem hi] at this
    rw [← e]; exact this
/-- 'x = append(x, y...)' of literals, x made by the call, y anywhere. -/
theorem app_lits_step {w : World} {ops : Array Oper} {o : Oper} {a : Act} {K : Act → World → Prop} {Q : Exit → Act → World → Prop} {E : Prop} (hgd : o.guard = none) (s x : Operand)
    (ho : o.op = .call { callee := .builtin .append, args := #[s, x], argTypes := #[23, 23] })
    (base : Nat) (v : Value) (ls ms : List Lt) (vs us : List Value) (A : Option Addr) (n c : Nat) (hs : a.eval s = v) (hown : OwnLv w base v ls vs) (hx : a.eval x = .slice A n c) (hn : ms.length = n) (hul : us.length = ms.length) (hnil : A = none → c = 0)
    (hu : 0 < n → ∃ b off, A = some ⟨b, off, none⟩ ∧ ∀ j u, (litCells ms us)[j]? = some u → w.cell? ⟨b, off + j, none⟩ = some u) (hone : ∀ u ∈ litCells ms us, u.oneCell' = true)
    (hlen : ls.length + n ≤ 4398046511104) (hbase : base ≤ w.heap.size)
    (h : ∀ v' w', OwnLv w' base v' (ls ++ ms) (vs ++ us) → Chg [75] base w w' → K (a.put o.dst v') w') : if Region.wanted o (yielded ops a.tmps) = true then Oper.wp Tryd.prog o a w K Q else E := by
  have hw : Region.wanted o (yielded ops a.tmps) = true := by simp [Region.wanted, hgd]
  rw [if_pos hw]
  obtain ⟨i0, hi0, hz0, hz1, hz2⟩ := info_parts lit_info
  cases A with
  | none =>
    have hn0 : n = 0 := by
      rcases Nat.eq_zero_or_pos n with q | q
      · exact q
      · obtain ⟨b, off, e, _⟩ := hu q; cases e
    subst hn0
    obtain rfl := hnil rfl
    have hy : ms = [] := List.length_eq_zero_iff.1 hn
    subst hy
    have hz : us = [] := List.length_eq_zero_iff.1 hul
    subst hz
    have hrun := run_append_owned_none (P := Tryd.prog) (w := w) base 23 o.type 75 i0 2 Tryd.underlying23 hi0 v ls.length (litCells ls vs) hown.2
    have hK := h v w (by rw [List.append_nil, List.append_nil]; exact hown) Chg.refl
    unfold Oper.wp
    simp [execOp, ho, resolve, invoke, builtin, hs, hx, hrun, Result.andThen]
    exact hK
  | some ad =>
    have key : (∀ j u, (litCells ms us)[j]? = some u → w.cell? (ad.add j) = some u) := by
      intro j u hju
      have hj : 0 < n := by
        rcases Nat.eq_zero_or_pos n with q | q
        · have h0 := (List.getElem?_eq_some_iff.1 hju).1
          rw [litCells_length ms us hul] at h0
          omega
        · exact q
      obtain ⟨b', off', e, hc⟩ := hu hj
      injection e with e
      subst e
      rw [addr_plus]
      exact hc j u hju
    refine wp_append_own _ s x 23 ho base 75 i0 _ 2 32 Tryd.underlying23 hi0 hz0 hz1 hz2 rfl (by omega) v ls.length (litCells ls vs) hs hown.2 ad n c (litCells ms us) hx (by rw [litCells_length ms us hul, hn])
      key (fun u hm => hone u hm) (by unfold maxLen; omega) (by omega) hbase ?_
    intro v' w' h1 h2 _
    refine h v' w' ⟨by rw [List.length_append, List.length_append, hown.1, hul], ?_⟩ (Chg.grown h2 hown.2 hbase)
    rw [List.length_append, hn, litCells_app ls ms vs us hown.1]
    exact h1
theorem clAt_made {w : World} {b1 b2 n1 e n2 c2 c3 : Nat} {D A2 A3 : Option Addr} {ls : List Lt} {ts : List (List Int)} (h1 : OwnL w b1 (.slice D n1 e) ls) (h2 : OwnT w b2 (.slice A2 n2 c2) ts) (hf : Fit ⟨ls, ts, []⟩) : ClAt w w.heap.size ⟨D, n1, e, A2, n2, c2, A3, 0, c3⟩ ⟨ls, ts, []⟩ := by
  obtain ⟨A1', c1', e1, m1, k1⟩ := h1.litsAt fun i hi => hf.r _ (lit_row (c := ⟨ls, ts, []⟩) (ltAt_mem hi))
  obtain ⟨A2', c2', e2, m2, k2, z2⟩ := h2.tupsAt fun t ht => hf.r _ (tup_row (c := ⟨ls, ts, []⟩) ht)
  simp only [Value.slice.injEq] at e1 e2
  obtain ⟨rfl, rfl, rfl⟩ := e1
  obtain ⟨rfl, rfl, rfl⟩ := e2
  exact ⟨k1, k2, ⟨rfl, fun h => absurd h (Nat.lt_irrefl 0), fun _ h => absurd h (Nat.not_lt_zero _)⟩, m1, m2, Nat.zero_le _, z2, hf.l, hf.t, by show 0 * 32 ≤ _; omega⟩
theorem OwnC.lits_of {w : World} {b : Nat} {x : Cv} {d : Cl} (h : OwnC w b x.val d) : OwnL w b (.slice x.A1 x.n1 x.c1) d.lits := by
  obtain ⟨u1, u2, u3, e, oo, -, -⟩ := h
  obtain ⟨a1, a2, a3, a4, a5, a6, a7, a8, a9⟩ := x
  simp [Cv.val] at e
  obtain ⟨rfl, rfl, rfl⟩ := e
  exact oo
theorem OwnLv.nilc {w : World} {base n cap : Nat} {A : Option Addr} {ms : List Lt} {us : List Value} (h : OwnLv w base (.slice A n cap) ms us) : A = none → cap = 0 := by
  rintro rfl
  rcases h.2.2 with ⟨e, _⟩ | ⟨g, cap', cur, hv, _⟩
  · injection e
  · injection hv with q
    cases q
theorem rws_one {w : World} {base : Nat} {us : List Value} {L : List (List Int)} (h : Rws w base us L) : ∀ i, i < us.length → (valAt us i).oneCell' = true := fun i hi => by
  obtain ⟨A, c, e⟩ := (h.2 i (by rw [← h.1]; exact hi)).value
  rw [e]; rfl
theorem fit_more {w : World} {B n : Nat} {A : Option Addr} {ls : List Lt} {d : Cl} (h : LitsAt w B A n ls) (hf : Fit d) (h5 : d.lits.length + n ≤ 5) : Fit ⟨ls ++ d.lits, d.tups, []⟩ := by
  refine ⟨by show (ls ++ d.lits).length * 32 ≤ _; rw [List.length_append, h.len]; omega, hf.t, by show 0 * 32 ≤ _; omega, fun r hr => ?_⟩
  unfold rowsC at hr
  simp only [List.map_append, List.map_nil, List.append_nil, List.mem_append, List.mem_map] at hr
  rcases hr with (⟨l, hl, rfl⟩ | ⟨l, hl, rfl⟩) | hr
  · obtain ⟨i, hi, e⟩ := List.mem_iff_getElem.1 hl
    have hh := h.fit i (by rw [← h.len]; exact hi)
    have e2 : ltAt ls i = l := by
      have := ltAt_get hi
      rw [List.getElem?_eq_getElem hi] at this
      injection this with this
      rw [← this, e]
    rwa [e2] at hh
  · exact hf.r _ (lit_row hl)
  · exact hf.r _ (tup_row hr)
end Go.Proofs.YtcjpopjcpgipjaaDoor
