/-
  The order in plain words, as the programs reckon it; contracts of package order: hasVariablesOf, weight.
  Contracts of package order: firstDifferent, more.
  Contracts: shape.IsAtom, rank.Compare, order.Compare.
-/
import Derived.Test.YtlpafnaokpjoiaaPlainOrder
import Derived.Test.YtlpafnaokpjoiaaShape
namespace Go.Proofs.Ytlpafnaokpjoiaa
open Go.RowKit
set_option linter.unusedSimpArgs false
set_option linter.unusedVariables false
set_option maxRecDepth 100000

/-- Each variable below 24 stands in a at least as often as in b. -/
def oftB (a b : List Int) : Bool := (List.range 24).all fun v => decide (b.count (-1 - (v : Int)) ≤ a.count (-1 - (v : Int)))
/-- Is a more than b? -/
noncomputable def morB (ss : List Sym) (a b : List Int) : Bool := @decide (Mor ss a b) (Classical.propDecidable _)
/-- How often a variable stands in a row, as a number. -/
def cntI (r : List Int) (v : Nat) : Int := ((r.count (-1 - (v : Int)) : Nat) : Int)
/-- The codes of a row may be. -/
def CodesOk (ss : List Sym) (a : List Int) : Prop := ∀ c ∈ a, -24 ≤ c ∧ c < (ss.length : Int)
section
variable {ss : List Sym} {a b x y : List Int}
theorem oftB_iff (hb : ∀ c ∈ b, -24 ≤ c) : oftB a b = true ↔ Often a b := by
  unfold oftB
  rw [List.all_eq_true]
  constructor
  · intro h c hc
    by_cases hin : c ∈ b
    · have h1 := hb c hin
      have h2 := h (-1 - c).toNat (List.mem_range.2 (by omega))
      have h3 := of_decide_eq_true h2
      have e : -1 - (((-1 - c).toNat : Nat) : Int) = c := by omega
      rw [e] at h3
      exact h3
    · rw [List.count_eq_zero.2 hin]; omega
  · intro h v _
    exact decide_eq_true (h _ (by omega))
theorem oftB_no (hb : ∀ c ∈ b, -24 ≤ c) (h : oftB a b = false) : ¬ Often a b := fun q => by rw [(oftB_iff hb).2 q] at h; cases h
theorem oft_not {v : Nat} (hv : v < 24) (h : cntI a v < cntI b v) : oftB a b = false := by
  cases hc : oftB a b
  · rfl
  · unfold oftB at hc
    rw [List.all_eq_true] at hc
    have := of_decide_eq_true (hc v (List.mem_range.2 hv))
    unfold cntI at h
    omega
theorem oft_yes (h : ∀ v : Nat, v < 24 → cntI b v ≤ cntI a v) : oftB a b = true := by
  unfold oftB
  rw [List.all_eq_true]
  intro v hv
  have := h v (List.mem_range.1 hv)
  unfold cntI at this
  exact decide_eq_true (by omega)
theorem morB_iff : morB ss a b = true ↔ Mor ss a b := by unfold morB; exact @decide_eq_true_iff _ (Classical.propDecidable _)
theorem morB_no (h : ¬ Mor ss a b) : morB ss a b = false := by unfold morB; exact @decide_eq_false _ (Classical.propDecidable _) h
theorem morB_not (h : morB ss a b = false) : ¬ Mor ss a b := by unfold morB at h; exact @of_decide_eq_false _ (Classical.propDecidable _) h
theorem mor_oft (hb : ∀ c ∈ b, -24 ≤ c) (h : oftB a b = false) : morB ss a b = false := morB_no fun q => oftB_no hb h q.often
theorem mor_heavy (ho : Often a b) (h : wtSum ss b < wtSum ss a) : morB ss a b = true := morB_iff.2 (.heavy ho h)
theorem mor_light (h : wtSum ss a < wtSum ss b) : morB ss a b = false := morB_no fun q => by have := q.wt; omega
theorem mor_code {c d : Int} {r s : List Int} (ho : Often (c :: r) (d :: s)) (h : wtSum ss (c :: r) = wtSum ss (d :: s)) (hne : c ≠ d) : morB ss (c :: r) (d :: s) = decide (d < c) := by
  by_cases hlt : d < c
  · rw [decide_eq_true hlt]; exact morB_iff.2 (.code ho h.symm hlt)
  · rw [decide_eq_false hlt]
    refine morB_no fun q => ?_
    obtain ⟨_, q | ⟨_, ⟨c', r', d', s', h1, h2, h3⟩ | ⟨c', k, p, x, y, s', t, h1, h2, _⟩⟩⟩ := q.inv
    · omega
    · injection h1 with h1 _; injection h2 with h2 _; omega
    · injection h1 with h1 _; injection h2 with h2 _; omega
theorem mor_args {c : Int} {k : Nat} {p x y s t : List Int} (ho : Often (c :: (p ++ (x ++ s))) (c :: (p ++ (y ++ t)))) (h : wtSum ss (c :: (p ++ (x ++ s))) = wtSum ss (c :: (p ++ (y ++ t)))) (hp : trm 24 ss p k) (hx : trm 24 ss x 1) (hy : trm 24 ss y 1) (hne : x ≠ y) :
    morB ss (c :: (p ++ (x ++ s))) (c :: (p ++ (y ++ t))) = morB ss x y := by
  by_cases hm : Mor ss x y
  · rw [morB_iff.2 hm]; exact morB_iff.2 (.args ho h.symm hp hx hy hne hm)
  · rw [morB_no hm]
    refine morB_no fun q => ?_
    obtain ⟨_, q | ⟨_, ⟨c', r', d', s', h1, h2, h3⟩ | ⟨c', k', p', x', y', s', t', h1, h2, h3, h4, h5, h6, h7⟩⟩⟩ := q.inv
    · omega
    · injection h1 with h1 _; injection h2 with h2 _; omega
    · injection h1 with _ h1
      injection h2 with _ h2
      rcases Nat.lt_trichotomy k k' with hk | hk | hk
      · obtain ⟨m1, e1, e2, e3⟩ := trm_longer hp h3 h1 (by omega)
        have e3' : trm 24 ss m1 (1 + (k' - k - 1)) := by rw [show 1 + (k' - k - 1) = k' - k by omega]; exact e3
        obtain ⟨z, m2, e4, f1, f2⟩ := trm_split e3'
        subst e4
        rw [List.append_assoc] at e2
        have g1 := (trm_uniq hx f1 e2).1
        rw [e1, List.append_assoc] at h2
        have h2 := List.append_cancel_left h2
        rw [List.append_assoc] at h2
        have g2 := (trm_uniq hy f1 h2).1
        exact hne (g1.trans g2.symm)
      · subst hk
        obtain ⟨g1, g2⟩ := trm_uniq hp h3 h1
        obtain ⟨g3, g4⟩ := trm_uniq hp h3 h2
        have e1 := (trm_uniq hx h4 g2).1
        have e2 := (trm_uniq hy h5 g4).1
        rw [e1, e2] at hm
        exact hm h7
      · obtain ⟨m1, e1, e2, e3⟩ := trm_longer h3 hp h1.symm (by omega)
        have e3' : trm 24 ss m1 (1 + (k - k' - 1)) := by rw [show 1 + (k - k' - 1) = k - k' by omega]; exact e3
        obtain ⟨z, m2, e4, f1, f2⟩ := trm_split e3'
        subst e4
        rw [List.append_assoc] at e2
        have g1 := (trm_uniq h4 f1 e2).1
        rw [e1, List.append_assoc] at h2
        have h2 := List.append_cancel_left h2
        rw [List.append_assoc] at h2
        have g2 := (trm_uniq h5 f1 h2.symm).1
        exact h6 (g1.trans g2.symm)
theorem Ex.codes (hm : mayB ss = true) (h : Ex ss a) : CodesOk ss a := by
  intro c hc
  refine ⟨h.ge c hc, ?_⟩
  have key : ∀ {r : List Int} {k : Nat}, trm 24 ss r k → ∀ c ∈ r, c < (ss.length : Int) := by
    intro r k ht c hc
    obtain ⟨ms, h1, _⟩ := tl_of_trm ht
    obtain ⟨ar, har⟩ := tl_codes r h1 c hc
    by_cases h0 : c < 0
    · omega
    · have := (ar_sym hm (by omega) har).1; omega
  rcases h with h | ⟨d, r, rfl, h2, h3, _, h4⟩
  · exact key h c hc
  · rcases List.mem_cons.1 hc with rfl | hc
    · omega
    · exact key h4 c hc
theorem code_at (h : CodesOk ss a) {k : Nat} (hk : k < a.length) : -24 ≤ intAt a k ∧ intAt a k < (ss.length : Int) := h _ (List.mem_of_getElem? (intAt_get hk))
theorem wtOf_ok (hm : mayB ss = true) (h : CodesOk ss a) {k : Nat} (hk : k < a.length) : 1 ≤ wtOf ss (intAt a k) ∧ wtOf ss (intAt a k) ≤ 20 := by
  obtain ⟨h1, h2⟩ := code_at h hk
  unfold wtOf
  split
  · omega
  · have := may_bd hm (i := (intAt a k).toNat) (by omega); omega
theorem wtSum_ok (hm : mayB ss = true) (h : CodesOk ss a) (k : Nat) (hk : k ≤ a.length) : 0 ≤ wtSum ss (a.take k) ∧ wtSum ss (a.take k) ≤ 20 * k := by
  induction k with
  | zero => simp [wtSum]
  | succ k ih =>
    have := ih (by omega)
    rw [wtSum_take ss a k (by omega)]
    have := wtOf_ok hm h (k := k) (by omega)
    omega
theorem cntI_take {k v : Nat} (h : k < a.length) : cntI (a.take (k + 1)) v = cntI (a.take k) v + (if intAt a k = -1 - (v : Int) then 1 else 0) := by
  unfold cntI
  rw [List.take_add_one, intAt_get h, List.count_append]
  by_cases e : intAt a k = -1 - (v : Int)
  · rw [if_pos e, e]; simp
  · rw [if_neg e]
    have : ([intAt a k] : List Int).count (-1 - (v : Int)) = 0 := List.count_eq_zero.2 (by simp; omega)
    simp [this]
theorem cntI_bd {v : Nat} : 0 ≤ cntI a v ∧ cntI a v ≤ a.length := by
  unfold cntI
  have := List.count_le_length (a := -1 - (v : Int)) (l := a)
  omega
theorem cntI_bdt {v k : Nat} : 0 ≤ cntI (a.take k) v ∧ cntI (a.take k) v ≤ k := by
  have := cntI_bd (a := a.take k) (v := v)
  rw [List.length_take] at this
  omega
theorem cntI_mono {v k : Nat} : cntI (a.take k) v ≤ cntI a v := by
  unfold cntI
  have := (List.take_sublist k a).count_le (-1 - (v : Int))
  omega
end

def intsC (f : Nat → Int) : Array Value := ((List.range 24).map fun i => Value.int .i64 (f i)).toArray
theorem intsC_size (f : Nat → Int) : (intsC f).size = 24 := by simp [intsC]
theorem intsC_at (f : Nat → Int) (i : Nat) (h : i < 24) : (intsC f)[i]? = some (.int .i64 (f i)) := by simp [intsC, h]
theorem intsC_set (f g : Nat → Int) (k : Nat) (v : Int) (h : k < 24) (hv : v = g k) (hg : ∀ i, i < 24 → i ≠ k → g i = f i) : (intsC f).setIfInBounds k (.int .i64 v) = intsC g := by
  subst hv
  apply Array.ext_getElem?
  intro i
  rw [Array.getElem?_setIfInBounds]
  by_cases hi : i < 24
  · rw [intsC_at g i hi]
    by_cases e : k = i
    · subst e; rw [if_pos rfl, if_pos (by rw [intsC_size]; exact hi)]
    · rw [if_neg e, intsC_at f i hi, hg i hi (fun x => e x.symm)]
  · rw [if_neg (by omega), Array.getElem?_eq_none (by rw [intsC_size]; omega), Array.getElem?_eq_none (by rw [intsC_size]; omega)]
theorem intsC_congr {f g : Nat → Int} (h : ∀ i, i < 24 → g i = f i) : intsC f = intsC g := by
  apply Array.ext_getElem?
  intro i
  by_cases hi : i < 24
  · rw [intsC_at _ i hi, intsC_at _ i hi, h i hi]
  · rw [Array.getElem?_eq_none (by rw [intsC_size]; omega), Array.getElem?_eq_none (by rw [intsC_size]; omega)]
/-- The world where an array of 24 numbers lies in block g. -/
structure CntW (w0 : World) (g : Nat) (f : Nat → Int) (wr : World) : Prop where
  bel : Below g w0 wr
  sh : wr.heap[g]? = some (.cells (intsC f) 46 (0, 0))
theorem CntW.start (w : World) (f : Nat → Int) (hf : ∀ i, i < 24 → f i = 0) : CntW w w.heap.size f (w.alloc (.cells (intsC fun _ => 0) 46)) := by
  refine ⟨below_new w _, ?_⟩
  rw [← intsC_congr (f := f) (g := fun _ => 0) (fun i hi => (hf i hi).symm), heap_alloc_new]
section
variable {w0 wr : World} {g k q : Nat} {f f' : Nat → Int} {v : Int}
theorem CntW.cell (h : CntW w0 g f wr) (j : Nat) (hj : j < 24) : wr.cell? ⟨g, j, none⟩ = some (.int .i64 (f j)) := by rw [cell_of_row _ _ _ _ _ _ h.sh, intsC_at _ j hj]
theorem CntW.frozen (h : CntW w0 g f wr) (j : Nat) : wr.frozen? ⟨g, j, none⟩ = false := frozen_of_row _ _ _ _ _ h.sh
theorem CntW.lt (h : CntW w0 g f wr) : g < wr.heap.size := (Array.getElem?_eq_some_iff.1 h.sh).1
theorem CntW.put (h : CntW w0 g f wr) (hq : q < 24) (hv : v = f' q) (hf : ∀ i, i < 24 → i ≠ q → f' i = f i) : CntW w0 g f' (wr.setCell ⟨g, q, none⟩ (.int .i64 v)) := by
  refine ⟨h.bel.setCell (Nat.le_refl _) _, ?_⟩
  have := heap_setCell_same _ _ q _ _ (.int .i64 v) h.sh
  rw [intsC_set f f' q v hq hv hf] at this; exact this
theorem CntW.same (h : CntW w0 g f wr) (hf : ∀ i, i < 24 → f' i = f i) : CntW w0 g f' wr := ⟨h.bel, by rw [← intsC_congr hf]; exact h.sh⟩
end

end Go.Proofs.Ytlpafnaokpjoiaa

namespace Go.Proofs.Ytlpafnaokpjoiaa
open Go.RowKit
set_option linter.unusedSimpArgs false
set_option linter.unusedVariables false
set_option maxRecDepth 100000

theorem scan_term {ss : List Sym} {x u : List Int} (h : trm 24 ss x 1) : scanAt ss (x ++ u) 1 0 = ((x.length : Nat) : Int) := by
  obtain ⟨ms, h1, h2⟩ := tl_of_trm h
  have h3 := scan_front x u h1 1 (by omega)
  have h4 := tl_all _ h1
  have e : ms.take 1 = ms := List.take_of_length_le (by omega)
  rw [e, h4] at h3
  unfold scanAt
  rw [List.drop_zero, h3]
  simp
def sliLen (v : Value) : Nat := match v with | .slice _ n _ => n | _ => 0
/-- Where the rest of a row lies. -/
structure Rest (w : World) (base b1 o1 n1 c1 O L K : Nat) (pa t : List Int) : Prop where
  o : O = o1 + pa.length
  l : L + pa.length = n1
  k : K + pa.length = c1
  row : IntsAt w base (some ⟨b1, O, none⟩) L t
  cap : L ≤ K
  few : L ≤ 48
section
variable {w : World} {base b1 o1 n1 c1 O L K : Nat} {pa t z t' : List Int}
theorem Rest.start (h : RowAt w base (some ⟨b1, o1, none⟩) n1 c1 t) : Rest w base b1 o1 n1 c1 o1 n1 c1 [] t := ⟨rfl, rfl, rfl, h.at_, h.cap, h.few⟩
theorem Rest.drewN (h : Rest w base b1 o1 n1 c1 O L K pa t) (q : Nat) : Rest (w.drewN q) base b1 o1 n1 c1 O L K pa t := ⟨h.o, h.l, h.k, h.row.drewN q, h.cap, h.few⟩
theorem Rest.front (h : Rest w base b1 o1 n1 c1 O L K pa (z ++ t)) : IntsAt w base (some ⟨b1, O, none⟩) z.length z ∧ z.length ≤ L ∧ L = z.length + t.length := by
  have hl := h.row.len
  rw [List.length_append] at hl
  have := h.row.take (i := z.length) (by omega)
  rw [List.take_left] at this
  exact ⟨this, by omega, by omega⟩
theorem Rest.next (h : Rest w base b1 o1 n1 c1 O L K pa (z ++ t)) : Rest w base b1 o1 n1 c1 (O + z.length) (L - z.length) (K - z.length) (pa ++ z) t := by
  have hf := h.front
  have := h.row.drop (k := z.length) (by omega)
  rw [List.drop_left] at this
  have h1 := h.o
  have h2 := h.l
  have h3 := h.k
  have h4 := h.cap
  have h5 := h.few
  exact ⟨by rw [List.length_append]; omega, by rw [List.length_append]; omega, by rw [List.length_append]; omega, this, by omega, by omega⟩
end
theorem ret_tup2 {a b a' b' : Value} (h1 : a = a') (h2 : b = b') : Ending.returned (.tuple #[a, b]) = .returned (.tuple #[a', b']) := by rw [h1, h2]

/-- The slice value '.slice A n c' holds the expression a, below block base. -/
structure ExAt (w : World) (base : Nat) (A : Option Addr) (n c : Nat) (a : List Int) : Prop where
  at_ : IntsAt w base A n a
  cap : n ≤ c
  few : n ≤ 49
section
variable {w w' : World} {base : Nat} {A : Option Addr} {n c : Nat} {a r : List Int} {x : Int}
theorem ExAt.below (h : ExAt w base A n c a) (hb : Below base w w') : ExAt w' base A n c a := ⟨h.at_.below hb, h.cap, h.few⟩
theorem ExAt.head (h : ExAt w base A n c (x :: r)) : ∃ b off, A = some ⟨b, off, none⟩ ∧ b < base ∧ w.cell? ⟨b, off, none⟩ = some (.int .i64 x) ∧ n = r.length + 1 := by
  have hl := h.at_.len
  have hn : n = r.length + 1 := by rw [← hl]; rfl
  obtain ⟨b, off, e, hb, hc⟩ := h.at_.at_ (by omega)
  refine ⟨b, off, e, hb, ?_, hn⟩
  have := hc 0 (by omega)
  rw [Nat.add_zero] at this
  exact this
theorem ExAt.tail {b off : Nat} (h : ExAt w base (some ⟨b, off, none⟩) n c (x :: r)) : RowAt w base (some ⟨b, off + 1, none⟩) (n - 1) (c - 1) r := by
  have hl := h.at_.len
  have hn : n = r.length + 1 := by rw [← hl]; rfl
  have h1 := h.at_.drop (k := 1) (by omega)
  have h2 := h.cap
  have h3 := h.few
  exact ⟨h1, by omega, by omega⟩
end
theorem Ex.cons {ss : List Sym} {a : List Int} (hm : mayB ss = true) (h : Ex ss a) : ∃ c r, a = c :: r := by
  rcases h.shape hm with ⟨v, _, e⟩ | ⟨c, r, e, _⟩
  · exact ⟨_, _, e⟩
  · exact ⟨_, _, e⟩
/-- The same first code: the arguments. -/
theorem Ex.tails {ss : List Sym} {c : Int} {r s : List Int} (hm : mayB ss = true) (ha : Ex ss (c :: r)) (hb : Ex ss (c :: s)) (hne : c :: r ≠ c :: s) : ∃ k, trm 24 ss r k ∧ trm 24 ss s k ∧ r ≠ s := by
  have hrs : r ≠ s := fun e => hne (by rw [e])
  rcases ha.shape hm with ⟨v, _, e⟩ | ⟨c', r', e, h0, h1, h2⟩
  · injection e with e e'
    rcases hb.shape hm with ⟨v', _, f⟩ | ⟨d', s', f, k0, k1, k2⟩
    · injection f with f f'
      rw [e', f'] at hrs
      exact absurd rfl hrs
    · injection f with f f'
      omega
  · injection e with e e'
    subst e; subst e'
    rcases hb.shape hm with ⟨v', _, f⟩ | ⟨d', s', f, k0, k1, k2⟩
    · injection f with f f'
      omega
    · injection f with f f'
      subst f; subst f'
      exact ⟨_, h2, k2, hrs⟩

end Go.Proofs.Ytlpafnaokpjoiaa

namespace Go.Proofs.Ytlpafnaokpjoiaa
open Go.RowKit
set_option linter.unusedSimpArgs false
set_option linter.unusedVariables false
set_option maxRecDepth 100000

theorem atomB_cons {ss : List Sym} {c : Int} {r : List Int} : atomB ss (c :: r) = (decide (0 ≤ c) && decide (c.toNat < ss.length) && decide ((symAt ss c.toNat).kind = 0) && rowB ss r && decide (((tlD ss r).length : Int) = (symAt ss c.toNat).arity)) := rfl
/-- A row behind its first code. -/
theorem IntsAt.tail1 {w : World} {B b off n c : Nat} {x : Int} {r : List Int} (h : IntsAt w B (some ⟨b, off, none⟩) n (x :: r)) (hc : n ≤ c) :
    IntsAt w B (if c = 1 then some ⟨b, off, none⟩ else some ⟨b, off + 1, none⟩) (n - 1) r := by
  have hl := h.len
  have hn : n = r.length + 1 := by rw [← hl]; rfl
  by_cases e : c = 1
  · rw [if_pos e]
    have hr : r = [] := List.length_eq_zero_iff.1 (by omega)
    subst hr
    exact ⟨by simp; omega, fun hp => absurd hp (by simp at hn; omega)⟩
  · rw [if_neg e]
    exact h.drop (k := 1) (by omega)

/-- What Compare answers. -/
def OrdPost (ss : List Sym) (a b : List Int) (w : World) (e : Ending) (w' : World) : Prop :=
  ∃ k E : Int, e = .returned (.tuple #[.int .i64 k, .int .i64 E]) ∧ CmpR ss a b E k ∧ Below w.heap.size w w'
theorem ExAt.on {w w' : World} {A : Option Addr} {n c : Nat} {a : List Int} (h : ExAt w w.heap.size A n c a) (hb : Below w.heap.size w w') : ExAt w' w'.heap.size A n c a := ⟨h.at_.on hb, h.cap, h.few⟩
theorem ExAt.of_one {w : World} {base : Nat} {A : Option Addr} {n c : Nat} {a : List Int} {ss : List Sym} (h : IntsAt w base A n a) (hc : n ≤ c) (ho : oneB ss a = true) : ExAt w base A n c a := by
  have hl := h.len
  have := (row_parts (one_parts ho).1).2.1
  exact ⟨h, hc, by omega⟩
theorem ExAt.of_atom {w : World} {base : Nat} {A : Option Addr} {n c : Nat} {a : List Int} {ss : List Sym} (h : IntsAt w base A n a) (hc : n ≤ c) (ho : atomB ss a = true) : ExAt w base A n c a := by
  have hl := h.len
  obtain ⟨c0, r, rfl, _, _, _, h5, _⟩ := atom_parts ho
  have := (row_parts h5).2.1
  simp at hl
  exact ⟨h, hc, by omega⟩
theorem OrdPost.bad {ss : List Sym} {a b : List Int} {w w' : World} (h : exB ss a b = false) (hb : Below w.heap.size w w') : OrdPost ss a b w (.returned (.tuple #[.int .i64 0, .int .i64 600])) w' :=
  ⟨0, 600, rfl, .inl ⟨h, rfl, rfl⟩, hb⟩
theorem exB_no {ss : List Sym} {a b : List Int} (h1 : (oneB ss a && oneB ss b) = false) (h2 : (atomB ss a && atomB ss b) = false) : exB ss a b = false := by unfold exB; rw [h1, h2]; rfl

/-- Of two expressions: which is more. -/
def CmpK (ss : List Sym) (a b : List Int) (k : Int) : Prop := (a = b ∧ k = 1) ∨ (Mor ss a b ∧ k = 2) ∨ (Mor ss b a ∧ k = 0) ∨ (a ≠ b ∧ ¬ Mor ss a b ∧ ¬ Mor ss b a ∧ k = 3)
def RankPost (ss : List Sym) (a b : List Int) (w : World) (e : Ending) (w' : World) : Prop := ∃ k : Int, e = .returned (.int .i64 k) ∧ CmpK ss a b k ∧ Below w.heap.size w w'
theorem CmpK.cmpR {ss : List Sym} {a b : List Int} {k : Int} (h : CmpK ss a b k) (he : exB ss a b = true) : CmpR ss a b 0 k := .inr ⟨he, rfl, h⟩

end Go.Proofs.Ytlpafnaokpjoiaa
