/-
  Words for Put and Cut: the two boxes at their start, what they hand back, what they answer.
-/
import Derived.Test.YthnjpkghjkhjdaaFactCl
namespace Go.Proofs.Ythnjpkghjkhjdaa
open Go.RowKit Go.Deep
set_option linter.unusedSimpArgs false
set_option linter.unusedVariables false
set_option maxRecDepth 100000

theorem tab_ret {fn : Func} {p u z : Tmp} (h : fn.results = #[.cell p 26, .tmp u, .tmp z]) {R : Ending → World → Prop} {a : Act} {w : World} {g : Nat} {x y : Value} {cs : Array Value} (h4 : a.tmps.getD p undef = .pointer (some ⟨g, 0, none⟩)) (h5 : a.tmps.getD u undef = x) (h6 : a.tmps.getD z undef = y) (hd : a.defers = [])
    (hg : w.heap[g]? = some (.cells cs 26 (0, 0))) (hs : cs.size = 2) (hR : R (.returned (.tuple #[.agg cs, x, y])) w) : bodyPost Try.prog fn R .ret a w := by
  refine bodyPost_ret (v := .tuple #[.agg cs, x, y]) ?_ hd hR
  have hl := run_loadVar_row (P := Try.prog) w g 26 26 cs (0, 0) _ hg Try.underlying26 rfl (by rw [hs]; kernel_rfl)
  have hr : (results fn a.tmps).run Try.prog w = ((asAddr (a.tmps.getD p undef)).run Try.prog w).andThen fun d w₁ => ((loadVar 26 d).run Try.prog w₁).andThen fun v w₂ => .ok (.tuple #[v, a.tmps.getD u undef, a.tmps.getD z undef]) w₂ := by
    simp only [results, h]
    simp [Sem.run_bind, Result.andThen]
  rw [hr, h4, h5, h6]
  simp [asAddr, Result.andThen, hl]
def Tab3 (T : Tb) (b : Bool) (E : Int) (w : World) (e : Ending) (w' : World) : Prop := ∃ v, e = .returned (.tuple #[v, .bool b, .int .i64 E]) ∧ OwnTs w' w.heap.size v T ∧ Below w.heap.size w w'
/-- The argument's box and the result's. -/
structure TwoB (w : World) (v : Tv) (wr : World) : Prop where
  b0 : wr.heap[w.heap.size]? = some (.cells #[.slice v.A1 v.n1 v.c1, .slice v.A2 v.n2 v.c2] 26 (0, 0))
  b1 : wr.heap[w.heap.size + 1]? = some (.cells #[.slice none 0 0, .slice none 0 0] 26 (0, 0))
  bel : Below w.heap.size w wr
section
variable {w wr w2 : World} {v : Tv} {g : Nat}
theorem TwoB.sz (h : TwoB w v wr) : w.heap.size + 1 < wr.heap.size := (Array.getElem?_eq_some_iff.1 h.b1).1
theorem TwoB.on (h : TwoB w v wr) (hb : Below wr.heap.size wr w2) : TwoB w v w2 :=
  ⟨by rw [hb.block w.heap.size (by have := h.sz; omega)]; exact h.b0, by rw [hb.block (w.heap.size + 1) h.sz]; exact h.b1, h.bel.trans (hb.mono h.bel.size)⟩
theorem TwoB.keep (h : TwoB w v wr) (hk : KeepT g wr w2) (hg : w.heap.size + 1 < g) (hb : Below w.heap.size w w2) : TwoB w v w2 := ⟨hk _ _ _ (by omega) h.b0, hk _ _ _ (by omega) h.b1, hb⟩
theorem TwoB.c0 (h : TwoB w v wr) : wr.cell? ⟨w.heap.size, 0, none⟩ = some (.slice v.A1 v.n1 v.c1) := by rw [cell_of_row _ _ 0 _ _ _ h.b0]; rfl
theorem TwoB.c1 (h : TwoB w v wr) : wr.cell? ⟨w.heap.size, 1, none⟩ = some (.slice v.A2 v.n2 v.c2) := by rw [cell_of_row _ _ 1 _ _ _ h.b0]; rfl
theorem TwoB.new (w : World) (v : Tv) : TwoB w v ((w.alloc v.obj).alloc (.cells #[.slice none 0 0, .slice none 0 0] 26)) := by
  obtain ⟨w2, rfl, b1, b2, hb, _⟩ := two_tabs w v.obj (.cells #[.slice none 0 0, .slice none 0 0] 26)
  exact ⟨b1, b2, hb⟩
end
theorem OwnTs.zero {w : World} {base : Nat} (h : base ≤ w.heap.size) : OwnTs w base (.agg #[.slice none 0 0, .slice none 0 0]) ⟨[], []⟩ := ⟨base, _, _, rfl, Nat.le_refl _, h, OwnI.nil_, (fun b q => by cases q), OwnT.nil_⟩
/-- A copy that was made, in a new box. -/
theorem TabV.of_store {w wn w2 : World} {g : Nat} {t : Tb} {D E : Option Addr} {n d k e : Nat} {old : Array Value} (h : OwnTs wn w.heap.size (.agg #[.slice D n d, .slice E k e]) t) (hb : Below w.heap.size w wn) (hgn : g = wn.heap.size)
    (hg2 : w2.heap[g]? = some (.cells #[.slice D n d, .slice E k e] 26 (0, 0))) (hc : Chg [26] g (wn.alloc (.cells old 26)) w2) : ∃ m, TabV w m g t ⟨D, n, d, E, k, e⟩ w2 := by
  subst hgn
  obtain ⟨m, v1, v2, q, hm, hx, h1, h3, h2⟩ := h
  injection q with q
  have q1 : v1 = .slice D n d := by injection q with q; injection q with q _; exact q.symm
  have q2 : v2 = .slice E k e := by injection q with q; injection q with _ q; injection q with q _; exact q.symm
  subst q1 q2
  have hn := below_new wn (.cells old 26)
  obtain ⟨vs, b1, b2⟩ := (h2.on hn).vals
  exact ⟨m, hb.size, hm, Nat.le_trans hx (Nat.le_trans hn.size hc.bel.size), h3, hg2, hc.own (by decide) (h1.on hn), OwnT.mk (b1.chg hc (by decide)) (b2.chg hc (by decide)), (hb.trans (hn.mono hb.size)).trans (hc.bel.mono hb.size)⟩
theorem keep_new {wn w2 : World} {g : Nat} {o : Obj} (hgn : g = wn.heap.size) (hc : Chg [26] g (wn.alloc o) w2) : KeepT g wn w2 := by
  subst hgn
  refine (KeepT.of_below (below_new wn o)).trans fun k cs fr hk h => ?_
  have := (Array.getElem?_eq_some_iff.1 h).1
  rw [hc.bel.block k (by simp at this; omega)]
  exact h
theorem copy_box {w w4 : World} {g : Nat} {t : Tb} {u : Tv} {D F : Option Addr} {n d k e : Nat} (h : OwnTs w4 w.heap.size (.agg #[.slice D n d, .slice F k e]) t) (hx : TwoB w u w4) (hgs : g = w4.heap.size) :
    ∃ M, ∀ w5, w5.heap[g]? = some (.cells #[.slice D n d, .slice F k e] 26 (0, 0)) → Chg [26] g (w4.alloc (.cells #[.slice none 0 0, .slice none 0 0] 26)) w5 → TabV w M g t ⟨D, n, d, F, k, e⟩ w5 ∧ TwoB w u w5 := by
  obtain ⟨M, v1, v2, q, hm1, hx1, h1, h3, h2⟩ := h
  refine ⟨M, fun w5 q1 q2 => ?_⟩
  injection q with q
  have e1 : v1 = .slice D n d := by injection q with q; injection q with q _; exact q.symm
  have e2 : v2 = .slice F k e := by injection q with q; injection q with _ q; injection q with q _; exact q.symm
  subst e1 e2
  have hbn := below_new w4 (.cells #[.slice none 0 0, .slice none 0 0] 26)
  obtain ⟨vs, b1, b2⟩ := (h2.on hbn).vals
  have hF : TabV w M g t ⟨D, n, d, F, k, e⟩ w5 := ⟨by rw [hgs]; exact hx.bel.size, hm1, Nat.le_trans hx1 (Nat.le_trans hbn.size q2.bel.size), h3, q1, q2.own (by decide) (h1.on hbn), OwnT.mk (b1.chg q2 (by decide)) (b2.chg q2 (by decide)), (hx.bel.trans (hbn.mono hx.bel.size)).trans (q2.bel.mono (by rw [hgs]; exact hx.bel.size))⟩
  exact ⟨hF, hx.keep (keep_new hgs q2) (by rw [hgs]; exact hx.sz) hF.bel⟩
theorem OwnTs.parts {w : World} {base : Nat} {u : Value} {t : Tb} (h : OwnTs w base u t) : ∃ D d E e, u = .agg #[.slice D t.slots.length d, .slice E t.facts.length e] := by
  obtain ⟨m, v1, v2, rfl, _, _, h1, _, h2⟩ := h
  obtain ⟨D, d, rfl⟩ := h1.value
  obtain ⟨E, e, rfl⟩ := h2.valued
  exact ⟨D, d, E, e, rfl⟩
section
variable {ss : List Sym} {t T : Tb} {a : List Int} {b : Bool} {E : Int}
theorem PutX.is_bad (h : PutX ss t a T b E) (q : okT ss t a = false) : T = ⟨[], []⟩ ∧ b = false ∧ E = 1100 := by
  cases h with
  | bad h => exact ⟨rfl, rfl, rfl⟩
  | there h => rw [q] at h; cases h
  | full h => rw [q] at h; cases h
  | done h => rw [q] at h; cases h
theorem PutX.is_there (h : PutX ss t a T b E) (q : okT ss t a = true) (hm : a ∈ t.facts) : T = t ∧ b = false ∧ E = 0 := by
  cases h with
  | bad h => rw [q] at h; cases h
  | there h => exact ⟨rfl, rfl, rfl⟩
  | full h k => exact absurd hm k
  | done h k => exact absurd hm k
theorem PutX.is_full (h : PutX ss t a T b E) (q : okT ss t a = true) (hm : a ∉ t.facts) (hf : t.facts.length = 24) : T = ⟨[], []⟩ ∧ b = false ∧ E = 1101 := by
  cases h with
  | bad h => rw [q] at h; cases h
  | there h k => exact absurd k hm
  | full h k => exact ⟨rfl, rfl, rfl⟩
  | done h k l => omega
theorem PutX.is_done (h : PutX ss t a T b E) (q : okT ss t a = true) (hm : a ∉ t.facts) (hf : t.facts.length ≠ 24) : ∃ d, d < 32 ∧ slAt t (atF a d) < 0 ∧ (∀ e, e < d → 0 ≤ slAt t (atF a e)) ∧ T = putT t a d ∧ b = true ∧ E = 0 := by
  cases h with
  | bad h => rw [q] at h; cases h
  | there h k => exact absurd k hm
  | full h k l => exact absurd l hf
  | done h k l d hd hb =>
    refine ⟨d, ?_, hd, hb, rfl, rfl, rfl⟩
    obtain ⟨d', h1, h2, h3⟩ := (okT_true h).2.1.there a
    rcases Nat.lt_or_ge d' d with z | z
    · have := hb d' z; omega
    · omega
theorem CutX.is_bad (h : CutX ss t a T b E) (q : okT ss t a = false) : T = ⟨[], []⟩ ∧ b = false ∧ E = 1100 := by
  cases h with
  | bad h => exact ⟨rfl, rfl, rfl⟩
  | gone h => rw [q] at h; cases h
  | done h => rw [q] at h; cases h
theorem CutX.is_gone (h : CutX ss t a T b E) (q : okT ss t a = true) (hm : a ∉ t.facts) : T = t ∧ b = false ∧ E = 0 := by
  cases h with
  | bad h => rw [q] at h; cases h
  | gone h => exact ⟨rfl, rfl, rfl⟩
  | done h k p q hk ha => exact absurd (ha ▸ fcAt_mem hk) hm
theorem CutX.is_done (h : CutX ss t a T b E) (q : okT ss t a = true) (hm : a ∈ t.facts) : ∃ k p r, k < t.facts.length ∧ fcAt t k = a ∧ p < 32 ∧ r < 32 ∧ slAt t p = k ∧ slAt t r = (t.facts.length - 1 : Nat) ∧ T = cutT t k p r ∧ b = true ∧ E = 0 := by
  cases h with
  | bad h => rw [q] at h; cases h
  | gone h k => exact absurd hm k
  | done h k p q hk ha hp hq ep eq => exact ⟨k, p, q, hk, ha, hp, hq, ep, eq, rfl, rfl, rfl⟩
end
end Go.Proofs.Ythnjpkghjkhjdaa
