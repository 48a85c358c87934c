/-
  Words for memory: a slice of rows, a clause, those that a call has made; appends of rows and of literals that tell where the rows lie.
-/
import Derived.Test.YtlpafnaokpjoiaaMemChg
import Derived.Test.YtlpafnaokpjoiaaPartsR2
import Derived.Test.YtlpafnaokpjoiaaLitHas2
import Derived.Test.YtlpafnaokpjoiaaPlainCl
namespace Go.Proofs.Ytlpafnaokpjoiaa
open Go.RowKit Go.Deep
set_option linter.unusedSimpArgs false
set_option linter.unusedVariables false
set_option maxRecDepth 100000

/-- The slice value '.slice A m c' holds the row r. -/
structure RowIn (w : World) (B : Nat) (A : Option Addr) (m c : Nat) (r : List Int) : Prop where
  at_ : IntsAt w B A m r
  cap : m ≤ c
  fit : m * 8 ≤ 140737488351232
section
variable {w w' : World} {B B' m c n : Nat} {A : Option Addr} {r : List Int} {ts : List (List Int)}
theorem RowIn.keep (h : RowIn w B A m c r) (hk : ∀ p : Addr, p.block < B → w'.cell? p = w.cell? p) : RowIn w' B A m c r := ⟨h.at_.keep hk, h.cap, h.fit⟩
theorem RowIn.more (h : RowIn w B A m c r) (hB : B ≤ B') : RowIn w B' A m c r := ⟨h.at_.more hB, h.cap, h.fit⟩
theorem RowIn.on (h : RowIn w w.heap.size A m c r) (hb : Below w.heap.size w w') : RowIn w' w'.heap.size A m c r := ⟨h.at_.on hb, h.cap, h.fit⟩
theorem RowIn.below (h : RowIn w B A m c r) (hb : Below B w w') : RowIn w' B A m c r := ⟨h.at_.below hb, h.cap, h.fit⟩
theorem RowIn.big (h : RowIn w B A m c r) : m ≤ maxLen := by have := h.fit; unfold maxLen; omega
theorem LitAt.row {p : Lt} (h : LitAt w B A m c p) : RowIn w B A m c p.atom := ⟨h.at_, h.cap, h.fit⟩
theorem RowIn.lit {x : Bool} (h : RowIn w B A m c r) : LitAt w B A m c ⟨x, r⟩ := ⟨h.at_, h.cap, h.fit⟩
/-- The slice value '.slice A n _' holds the rows ts. -/
structure TupsAt (w : World) (B : Nat) (A : Option Addr) (n : Nat) (ts : List (List Int)) : Prop where
  len : ts.length = n
  at_ : 0 < n → ∃ b off, A = some ⟨b, off, none⟩ ∧ b < B ∧ ∀ i, i < n → ∃ A' c, w.cell? ⟨b, off + i, none⟩ = some (.slice A' (rowOf ts i).length c) ∧ RowIn w B A' (rowOf ts i).length c (rowOf ts i) ∧ (A' = none → c = 0)
theorem TupsAt.keep (h : TupsAt w B A n ts) (hk : ∀ p : Addr, p.block < B → w'.cell? p = w.cell? p) : TupsAt w' B A n ts :=
  ⟨h.len, fun hn => by
    obtain ⟨b, off, e, hb, hc⟩ := h.at_ hn
    refine ⟨b, off, e, hb, fun i hi => ?_⟩
    obtain ⟨A', c, h2, h3, h4⟩ := hc i hi
    exact ⟨A', c, by rw [hk ⟨b, _, none⟩ hb]; exact h2, h3.keep hk, h4⟩⟩
theorem TupsAt.below (h : TupsAt w B A n ts) (hb : Below B w w') : TupsAt w' B A n ts := h.keep fun _ hp => hb.cell hp
theorem TupsAt.more (h : TupsAt w B A n ts) (hB : B ≤ B') : TupsAt w B' A n ts :=
  ⟨h.len, fun hn => by
    obtain ⟨b, off, e, hb, hc⟩ := h.at_ hn
    refine ⟨b, off, e, by omega, fun i hi => ?_⟩
    obtain ⟨A', c, h2, h3, h4⟩ := hc i hi
    exact ⟨A', c, h2, h3.more hB, h4⟩⟩
theorem TupsAt.on (h : TupsAt w w.heap.size A n ts) (hb : Below w.heap.size w w') : TupsAt w' w'.heap.size A n ts := (h.below hb).more hb.size
theorem TupsAt.nil_ : TupsAt w B A 0 [] := ⟨rfl, fun h => absurd h (by omega)⟩
theorem TupsAt.one {i : Nat} (h : TupsAt w B A n ts) (hi : i < n) : ∃ b off A' c, A = some ⟨b, off, none⟩ ∧ b < B ∧ w.cell? ⟨b, off + i, none⟩ = some (.slice A' (rowOf ts i).length c) ∧ RowIn w B A' (rowOf ts i).length c (rowOf ts i) ∧ (A' = none → c = 0) := by
  obtain ⟨b, off, e, hb, hc⟩ := h.at_ (by omega)
  obtain ⟨A', c, h2, h3, h4⟩ := hc i hi
  exact ⟨b, off, A', c, e, hb, h2, h3, h4⟩
end
/-- The parts of a clause's value. -/
structure Cv where
  A1 : Option Addr
  n1 : Nat
  c1 : Nat
  A2 : Option Addr
  n2 : Nat
  c2 : Nat
  A3 : Option Addr
  n3 : Nat
  c3 : Nat
def Cv.val (v : Cv) : Value := .agg #[.slice v.A1 v.n1 v.c1, .slice v.A2 v.n2 v.c2, .slice v.A3 v.n3 v.c3]
/-- A clause, as a value. -/
structure ClAt (w : World) (B : Nat) (v : Cv) (c : Cl) : Prop where
  lits : LitsAt w B v.A1 v.n1 c.lits
  tups : TupsAt w B v.A2 v.n2 c.tups
  conds : LitsAt w B v.A3 v.n3 c.conds
  m1 : v.n1 ≤ v.c1
  m2 : v.n2 ≤ v.c2
  m3 : v.n3 ≤ v.c3
  z2 : v.A2 = none → v.c2 = 0
  f1 : v.n1 * 32 ≤ 140737488351232
  f2 : v.n2 * 24 ≤ 140737488351232
  f3 : v.n3 * 32 ≤ 140737488351232
/-- Block b holds a clause. -/
structure CBox (w : World) (b : Nat) (v : Cv) (c : Cl) : Prop where
  lt : b < w.heap.size
  c0 : w.cell? ⟨b, 0, none⟩ = some (.slice v.A1 v.n1 v.c1)
  c1 : w.cell? ⟨b, 1, none⟩ = some (.slice v.A2 v.n2 v.c2)
  c2 : w.cell? ⟨b, 2, none⟩ = some (.slice v.A3 v.n3 v.c3)
  cl : ClAt w w.heap.size v c
section
variable {w w' : World} {B B' b : Nat} {v : Cv} {c : Cl}
theorem ClAt.on (h : ClAt w w.heap.size v c) (hb : Below w.heap.size w w') : ClAt w' w'.heap.size v c := ⟨h.lits.on hb, h.tups.on hb, h.conds.on hb, h.m1, h.m2, h.m3, h.z2, h.f1, h.f2, h.f3⟩
theorem CBox.on (h : CBox w b v c) (hb : Below w.heap.size w w') : CBox w' b v c :=
  ⟨by have := h.lt; have := hb.size; omega, by rw [hb.cell (p := ⟨b, 0, none⟩) h.lt]; exact h.c0, by rw [hb.cell (p := ⟨b, 1, none⟩) h.lt]; exact h.c1, by rw [hb.cell (p := ⟨b, 2, none⟩) h.lt]; exact h.c2, h.cl.on hb⟩
end

/-- The value is a row of these rows, all of it in blocks from base on (or nil). -/
def OwnT (w : World) (base : Nat) (v : Value) (ts : List (List Int)) : Prop :=
  ∃ vs : List Value, vs.length = ts.length ∧ OwnR w base v vs ∧ ∀ i, i < ts.length → OwnI w base (valAt vs i) (rowOf ts i)
/-- The values are rows that the call has made. -/
def Rws (w : World) (base : Nat) (vs : List Value) (L : List (List Int)) : Prop := vs.length = L.length ∧ ∀ i, i < L.length → OwnI w base (valAt vs i) (rowOf L i)
/-- No two of them lie in one block. -/
def Apart (vs : List Value) : Prop := ∀ i j, i < j → j < vs.length → ∀ g, (valAt vs i).ownBlock = some g → (valAt vs j).ownBlock ≠ some g
theorem rowOf_left {L M : List (List Int)} {i : Nat} (h : i < L.length) : rowOf (L ++ M) i = rowOf L i := by
  unfold rowOf; rw [List.getD_eq_getElem?_getD, List.getD_eq_getElem?_getD, List.getElem?_append_left h]
theorem rowOf_right {L M : List (List Int)} {i : Nat} (h : L.length ≤ i) : rowOf (L ++ M) i = rowOf M (i - L.length) := by
  unfold rowOf; rw [List.getD_eq_getElem?_getD, List.getD_eq_getElem?_getD, List.getElem?_append_right h]
theorem valAt_lefts {L M : List Value} {i : Nat} (h : i < L.length) : valAt (L ++ M) i = valAt L i := by
  unfold valAt; rw [List.getD_eq_getElem?_getD, List.getD_eq_getElem?_getD, List.getElem?_append_left h]
theorem valAt_rights {L M : List Value} {i : Nat} (h : L.length ≤ i) : valAt (L ++ M) i = valAt M (i - L.length) := by
  unfold valAt; rw [List.getD_eq_getElem?_getD, List.getD_eq_getElem?_getD, List.getElem?_append_right h]
theorem rowOf_atoms {ls : List Lt} {i : Nat} (h : i < ls.length) : rowOf (ls.map Lt.atom) i = (ltAt ls i).atom := by
  unfold rowOf ltAt; rw [List.getD_eq_getElem?_getD, List.getD_eq_getElem?_getD, List.getElem?_map, List.getElem?_eq_getElem h]; rfl
section
variable {w w' : World} {base base' m : Nat} {v : Value} {vs us : List Value} {L M : List (List Int)} {ls : List Lt} {ts : List (List Int)}
theorem Rws.nil_ : Rws w base [] [] := ⟨rfl, fun i h => absurd h (by simp)⟩
theorem Rws.lower (h : Rws w base vs L) (hb : base' ≤ base) : Rws w base' vs L := ⟨h.1, fun i hi => (h.2 i hi).lower hb⟩
theorem Rws.on (h : Rws w base vs L) (hb : Below w.heap.size w w') : Rws w' base vs L := ⟨h.1, fun i hi => (h.2 i hi).on hb⟩
theorem Rws.chg {es : List TypeId} (h : Rws w base vs L) (hc : Chg es base' w w') (he : 3 ∉ es) : Rws w' base vs L := ⟨h.1, fun i hi => hc.own he (h.2 i hi)⟩
theorem Rws.append (h : Rws w base vs L) (k : Rws w base us M) : Rws w base (vs ++ us) (L ++ M) := by
  refine ⟨by simp [h.1, k.1], fun i hi => ?_⟩
  rw [List.length_append] at hi
  by_cases e : i < L.length
  · rw [rowOf_left e, valAt_lefts (by rw [h.1]; exact e)]; exact h.2 i e
  · rw [rowOf_right (by omega), valAt_rights (by rw [h.1]; omega), h.1]; exact k.2 _ (by omega)
theorem Rws.snoc {u : Value} {r : List Int} (h : Rws w base vs L) (k : OwnI w base u r) : Rws w base (vs ++ [u]) (L ++ [r]) :=
  h.append ⟨rfl, fun i hi => by
    have : i = 0 := by simp at hi; omega
    subst this; exact k⟩
theorem Rws.left (h : Rws w base (vs ++ us) (L ++ M)) (e : vs.length = L.length) : Rws w base vs L := ⟨e, fun i hi => by
  have := h.2 i (by simp; omega)
  rwa [rowOf_left hi, valAt_lefts (by omega)] at this⟩
theorem Rws.right (h : Rws w base (vs ++ us) (L ++ M)) (e : vs.length = L.length) : Rws w base us M := by
  have hl := h.1
  simp only [List.length_append] at hl
  refine ⟨by omega, fun i hi => ?_⟩
  have := h.2 (L.length + i) (by simp; omega)
  rw [rowOf_right (by omega), valAt_rights (by omega), ← e] at this
  have e2 : vs.length + i - vs.length = i := by omega
  rwa [e2] at this
theorem Rws.lt (h : Rws w base vs L) : ∀ i, i < vs.length → ∀ g, (valAt vs i).ownBlock = some g → base ≤ g ∧ g < w.heap.size := fun i hi g hg => World.ownsRow.lt (h.2 i (by rw [← h.1]; exact hi)) g hg
theorem Apart.nil_ : Apart [] := fun i j _ h => absurd h (by simp)
theorem Apart.append (h : Apart vs) (k : Apart us) (h1 : ∀ i, i < vs.length → ∀ g, (valAt vs i).ownBlock = some g → g < m) (h2 : ∀ i, i < us.length → ∀ g, (valAt us i).ownBlock = some g → m ≤ g) : Apart (vs ++ us) := by
  intro i j hij hj g hg
  rw [List.length_append] at hj
  by_cases ej : j < vs.length
  · rw [valAt_lefts ej]; rw [valAt_lefts (by omega)] at hg; exact h i j hij ej g hg
  · rw [valAt_rights (by omega)]
    by_cases ei : i < vs.length
    · rw [valAt_lefts ei] at hg
      intro q
      have := h1 i ei g hg
      have := h2 _ (by omega) g q
      omega
    · rw [valAt_rights (by omega)] at hg
      exact k _ _ (by omega) (by omega) g hg
theorem Apart.snoc {u : Value} (h : Apart vs) (h1 : ∀ i, i < vs.length → ∀ g, (valAt vs i).ownBlock = some g → g < m) (h2 : ∀ g, u.ownBlock = some g → m ≤ g) : Apart (vs ++ [u]) :=
  h.append (us := [u]) (fun i j hij hj => by simp at hj; omega) h1 (fun i hi g hg => by
    have : i = 0 := by simp at hi; omega
    subst this; exact h2 g hg)
theorem OwnR.on (h : OwnR w base v vs) (hb : Below w.heap.size w w') : OwnR w' base v vs := owns_on h hb
theorem OwnR.chg {es : List TypeId} (h : OwnR w base v vs) (hc : Chg es base' w w') (he : 23 ∉ es) : OwnR w' base v vs := hc.rows he h
theorem OwnT.mk (h : OwnR w base v vs) (k : Rws w base vs ts) : OwnT w base v ts := ⟨vs, k.1, h, k.2⟩
theorem OwnT.vals (h : OwnT w base v ts) : ∃ vs, OwnR w base v vs ∧ Rws w base vs ts := by
  obtain ⟨vs, h1, h2, h3⟩ := h
  exact ⟨vs, h2, h1, h3⟩
theorem OwnT.nil_ : OwnT w base (.slice none 0 0) [] := ⟨[], rfl, OwnR.nil_, fun i h => absurd h (by simp)⟩
theorem OwnT.lower (h : OwnT w base v ts) (hb : base' ≤ base) : OwnT w base' v ts := by
  obtain ⟨vs, h1, h2⟩ := h.vals
  exact OwnT.mk (h1.lower hb) (h2.lower hb)
theorem OwnT.on (h : OwnT w base v ts) (hb : Below w.heap.size w w') : OwnT w' base v ts := by
  obtain ⟨vs, h1, h2⟩ := h.vals
  exact OwnT.mk (h1.on hb) (h2.on hb)
theorem OwnT.cast {us : List (List Int)} (h : OwnT w base v ts) (e : ts = us) : OwnT w base v us := e ▸ h
theorem OwnR.get {i : Nat} (h : OwnR w base v vs) (hi : i < vs.length) : ∃ g cap, v = .slice (some ⟨g, 0, none⟩) vs.length cap ∧ base ≤ g ∧ g < w.heap.size ∧ vs.length ≤ cap ∧ w.cell? ⟨g, i, none⟩ = some (valAt vs i) := by
  rcases h.shape with ⟨rfl, e⟩ | ⟨g, cap, rfl, hg, hl, hc⟩
  · subst e; simp at hi
  · refine ⟨g, cap, rfl, hg, hl, hc, ?_⟩
    rw [own_get h i hi]
    unfold valAt
    rw [List.getD_eq_getElem?_getD, List.getElem?_eq_getElem hi]; rfl
/-- A made row of rows is one to read; the rows may lie anywhere. -/
theorem TupsAt.of_own (h : OwnR w base v vs) (e : vs.length = ts.length) (hr : ∀ i, i < ts.length → ∃ A c, valAt vs i = .slice A (rowOf ts i).length c ∧ RowIn w w.heap.size A (rowOf ts i).length c (rowOf ts i) ∧ (A = none → c = 0)) :
    ∃ A cap, v = .slice A ts.length cap ∧ ts.length ≤ cap ∧ TupsAt w w.heap.size A ts.length ts ∧ (A = none → cap = 0) := by
  rcases h.shape with ⟨rfl, rfl⟩ | ⟨g, cap, rfl, hg, hl, hc⟩
  · have : ts = [] := List.eq_nil_of_length_eq_zero e.symm
    subst this
    exact ⟨_, _, rfl, Nat.le_refl _, TupsAt.nil_, fun _ => rfl⟩
  · rw [e] at hc
    refine ⟨_, _, by rw [e], hc, ⟨rfl, fun hn => ⟨g, 0, rfl, hl, fun i hi => ?_⟩⟩, fun q => by cases q⟩
    obtain ⟨A, c, h1, h2, h3⟩ := hr i hi
    refine ⟨A, c, ?_, h2, h3⟩
    rw [Nat.zero_add, own_get h i (by omega)]
    unfold valAt at h1
    rw [List.getD_eq_getElem?_getD, List.getElem?_eq_getElem (by omega)] at h1
    rw [List.getElem?_eq_getElem (by omega), ← h1]; rfl
theorem OwnI.rowIn {u : Value} {r : List Int} (h : OwnI w base u r) (hf : r.length * 8 ≤ 140737488351232) : ∃ A c, u = .slice A r.length c ∧ RowIn w w.heap.size A r.length c r ∧ (A = none → c = 0) := by
  obtain ⟨A, c, e, hc, hi⟩ := h.intsAt
  refine ⟨A, c, e, ⟨hi, hc, hf⟩, fun q => ?_⟩
  subst q
  rcases h.shape with ⟨q, _⟩ | ⟨g, cap, q, _⟩
  · rw [q] at e; injection e with _ _ e3; exact e3.symm
  · rw [q] at e; cases e
theorem OwnT.tupsAt (h : OwnT w base v ts) (hf : ∀ t ∈ ts, t.length * 8 ≤ 140737488351232) : ∃ A cap, v = .slice A ts.length cap ∧ ts.length ≤ cap ∧ TupsAt w w.heap.size A ts.length ts ∧ (A = none → cap = 0) := by
  obtain ⟨vs, h1, h2⟩ := h.vals
  exact TupsAt.of_own h1 h2.1 fun i hi => (h2.2 i hi).rowIn (hf _ (rowOf_mem hi))
end
/-- What makes a clause that was made one to read: nothing in it is beyond bounds. -/
structure Fit (c : Cl) : Prop where
  l : c.lits.length * 32 ≤ 140737488351232
  t : c.tups.length * 24 ≤ 140737488351232
  d : c.conds.length * 32 ≤ 140737488351232
  r : ∀ r ∈ rowsC c, r.length * 8 ≤ 140737488351232
theorem ClAt.fit {w : World} {B : Nat} {v : Cv} {c : Cl} (h : ClAt w B v c) : Fit c where
  l := by rw [h.lits.len]; exact h.f1
  t := by rw [h.tups.len]; exact h.f2
  d := by rw [h.conds.len]; exact h.f3
  r := by
    intro r hr
    unfold rowsC at hr
    rcases List.mem_append.1 hr with hr | hr
    · obtain ⟨l, hl, rfl⟩ := List.mem_map.1 hr
      obtain ⟨i, hi, rfl⟩ := mem_ltAt hl
      exact h.lits.fit i (by rw [h.lits.len] at hi; exact hi)
    · rcases List.mem_append.1 hr with hr | hr
      · obtain ⟨i, hi, rfl⟩ := List.getElem_of_mem hr
        have e : rowOf c.tups i = c.tups[i] := by unfold rowOf; rw [List.getD_eq_getElem?_getD, List.getElem?_eq_getElem hi]; rfl
        obtain ⟨_, _, _, _, _, _, _, hR, _⟩ := h.tups.one (i := i) (by rw [h.tups.len] at hi; exact hi)
        rw [← e]; exact hR.fit
      · obtain ⟨l, hl, rfl⟩ := List.mem_map.1 hr
        obtain ⟨i, hi, rfl⟩ := mem_ltAt hl
        exact h.conds.fit i (by rw [h.conds.len] at hi; exact hi)
section
variable {w w' : World} {base : Nat} {v : Value} {ls : List Lt} {vs : List Value}
/-- 'x = append(x, r)' of rows, x made by the call, r anywhere. -/
theorem app_rowv_op {o : Oper} {a : Act} {K : Act → World → Prop} {Q : Exit → Act → World → Prop} (s x : Operand)
    (ho : o.op = .call { callee := .builtin .append, args := #[s, x], argTypes := #[75, 75] })
    (base : Nat) (v : Value) (vs : List Value) (u : Value) (hs : a.eval s = v) (hown : OwnR w base v vs) (hu : u.oneCell' = true) {N : Nat} (hx : a.eval x = .slice (some ⟨N, 0, none⟩) 1 1) (hN : w.heap.size = N)
    (hlen : vs.length + 1 ≤ 5864062014634) (hbase : base ≤ w.heap.size)
    (h : ∀ v' w', OwnR w' base v' (vs ++ [u]) → Chg [23] base w w' → K (a.put o.dst v') w') : o.wp Try.prog a (w.alloc (.cells #[u] 23)) K Q := by
  subst hN
  obtain ⟨i0, hi0, hz0, hz1, hz2⟩ := info_parts rows_info
  have k2' : OwnR (w.alloc (.cells #[u] 23)) base v vs := World.ownsRow.alloc hown _
  refine wp_append_own _ s x 75 ho base 23 i0 _ 1 24 Try.underlying75 hi0 hz0 hz1 hz2 rfl (by omega) v vs.length vs hs k2' ⟨w.heap.size, 0, none⟩ 1 1 [u] hx rfl
    (World.news_of_block (cs := #[u]) (t := 23) (fr := (0, 0)) (heap_alloc_new w _)) (by simpa using hu) (by unfold maxLen; omega) (by omega) (by simp; omega) ?_
  intro v' w' h1 h2 _
  refine h v' w' ?_ ((Chg.of_below (below_new w _) hbase).trans (Chg.grown h2 k2' (by simp; omega)))
  unfold OwnR; simpa using h1
theorem app_rowv {ops : Array Oper} {rest : List Oper} {o : Oper} {a : Act} {Q : Exit → Act → World → Prop} (hgd : o.guard = none) (s x : Operand)
    (ho : o.op = .call { callee := .builtin .append, args := #[s, x], argTypes := #[75, 75] })
    (base : Nat) (v : Value) (vs : List Value) (u : Value) (hs : a.eval s = v) (hown : OwnR w base v vs) (hu : u.oneCell' = true) {N : Nat} (hx : a.eval x = .slice (some ⟨N, 0, none⟩) 1 1) (hN : w.heap.size = N)
    (hlen : vs.length + 1 ≤ 5864062014634) (hbase : base ≤ w.heap.size)
    (h : ∀ v' w', OwnR w' base v' (vs ++ [u]) → Chg [23] base w w' → wpList Try.prog ops Q rest (a.put o.dst v') w') : wpList Try.prog ops Q (o :: rest) a (w.alloc (.cells #[u] 23)) :=
  wpList_plain hgd fun _ hK => app_rowv_op s x ho base v vs u hs hown hu hx hN hlen hbase fun v' w' h1 h2 => hK _ _ (h v' w' h1 h2)
theorem app_rowv_step {ops : Array Oper} {o : Oper} {a : Act} {K : Act → World → Prop} {Q : Exit → Act → World → Prop} {E : Prop} (hgd : o.guard = none) (s x : Operand)
    (ho : o.op = .call { callee := .builtin .append, args := #[s, x], argTypes := #[75, 75] })
    (base : Nat) (v : Value) (vs : List Value) (u : Value) (hs : a.eval s = v) (hown : OwnR w base v vs) (hu : u.oneCell' = true) {N : Nat} (hx : a.eval x = .slice (some ⟨N, 0, none⟩) 1 1) (hN : w.heap.size = N)
    (hlen : vs.length + 1 ≤ 5864062014634) (hbase : base ≤ w.heap.size)
    (h : ∀ v' w', OwnR w' base v' (vs ++ [u]) → Chg [23] base w w' → K (a.put o.dst v') w') : if Region.wanted o (yielded ops a.tmps) = true then Oper.wp Try.prog o a (w.alloc (.cells #[u] 23)) K Q else E := by
  have hw : Region.wanted o (yielded ops a.tmps) = true := by simp [Region.wanted, hgd]
  rw [if_pos hw]
  exact app_rowv_op s x ho base v vs u hs hown hu hx hN hlen hbase h
/-- 'x = append(x, rs...)' of rows. -/
theorem app_rows_op {o : Oper} {a : Act} {K : Act → World → Prop} {Q : Exit → Act → World → Prop} (s x : Operand)
    (ho : o.op = .call { callee := .builtin .append, args := #[s, x], argTypes := #[75, 75] })
    (base : Nat) (v : Value) (vs us : List Value) (A : Option Addr) (n c : Nat) (hs : a.eval s = v) (hown : OwnR w base v vs) (hx : a.eval x = .slice A n c) (hn : us.length = n) (hnil : A = none → c = 0)
    (hu : 0 < n → ∃ b off, A = some ⟨b, off, none⟩ ∧ ∀ i, i < n → w.cell? ⟨b, off + i, none⟩ = some (valAt us i)) (hone : ∀ i, i < n → (valAt us i).oneCell' = true)
    (hlen : vs.length + us.length ≤ 5864062014634) (hbase : base ≤ w.heap.size)
    (h : ∀ v' w', OwnR w' base v' (vs ++ us) → Chg [23] base w w' → K (a.put o.dst v') w') : o.wp Try.prog a w K Q := by
  obtain ⟨i0, hi0, hz0, hz1, hz2⟩ := info_parts rows_info
  cases A with
  | none =>
    have hn0 : n = 0 := by
      rcases Nat.eq_zero_or_pos n with q | q
      · exact q
      · obtain ⟨b, off, e, _⟩ := hu q; cases e
    subst hn0
    obtain rfl := hnil rfl
    have hy : us = [] := List.length_eq_zero_iff.1 hn
    subst hy
    have hrun := run_append_owned_none (P := Try.prog) (w := w) base 75 o.type 23 i0 1 Try.underlying75 hi0 v vs.length vs hown
    have hK := h v w (hown.cast (by simp)) Chg.refl
    unfold Oper.wp
    simp [execOp, ho, resolve, invoke, builtin, hs, hx, hrun, Result.andThen]
    exact hK
  | some ad =>
    have key : (∀ j u, us[j]? = some u → w.cell? (ad.add j) = some u) := by
      intro j u hju
      have hj : j < us.length := (List.getElem?_eq_some_iff.1 hju).1
      obtain ⟨b', off', e, hc⟩ := hu (by omega)
      injection e with e
      subst e
      have := hc j (by omega)
      rw [addr_plus, this]
      unfold valAt
      rw [List.getD_eq_getElem?_getD, hju]; rfl
    refine wp_append_own _ s x 75 ho base 23 i0 _ 1 24 Try.underlying75 hi0 hz0 hz1 hz2 rfl (by omega) v vs.length vs hs hown ad n c us hx (by rw [hn, Nat.mul_one])
      key (fun u hm => ?_) (by unfold maxLen; omega) (by omega) hbase ?_
    · obtain ⟨i, hi, rfl⟩ := List.getElem_of_mem hm
      have := hone i (by omega)
      unfold valAt at this
      rwa [List.getD_eq_getElem?_getD, List.getElem?_eq_getElem hi] at this
    · intro v' w' h1 h2 _
      refine h v' w' ?_ (Chg.grown h2 hown hbase)
      unfold OwnR
      rw [List.length_append, hn]
      exact h1
theorem app_rows {ops : Array Oper} {rest : List Oper} {o : Oper} {a : Act} {Q : Exit → Act → World → Prop} (hgd : o.guard = none) (s x : Operand)
    (ho : o.op = .call { callee := .builtin .append, args := #[s, x], argTypes := #[75, 75] })
    (base : Nat) (v : Value) (vs us : List Value) (A : Option Addr) (n c : Nat) (hs : a.eval s = v) (hown : OwnR w base v vs) (hx : a.eval x = .slice A n c) (hn : us.length = n) (hnil : A = none → c = 0)
    (hu : 0 < n → ∃ b off, A = some ⟨b, off, none⟩ ∧ ∀ i, i < n → w.cell? ⟨b, off + i, none⟩ = some (valAt us i)) (hone : ∀ i, i < n → (valAt us i).oneCell' = true)
    (hlen : vs.length + us.length ≤ 5864062014634) (hbase : base ≤ w.heap.size)
    (h : ∀ v' w', OwnR w' base v' (vs ++ us) → Chg [23] base w w' → wpList Try.prog ops Q rest (a.put o.dst v') w') : wpList Try.prog ops Q (o :: rest) a w :=
  wpList_plain hgd fun _ hK => app_rows_op s x ho base v vs us A n c hs hown hx hn hnil hu hone hlen hbase fun v' w' h1 h2 => hK _ _ (h v' w' h1 h2)
end
end Go.Proofs.Ytlpafnaokpjoiaa
