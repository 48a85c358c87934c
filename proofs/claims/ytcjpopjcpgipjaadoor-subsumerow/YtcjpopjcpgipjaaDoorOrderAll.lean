/-
  The order in plain words, as the programs reckon it; contracts of package order: hasVariablesOf, weight.
-/
import Derived.Test.YtcjpopjcpgipjaaDoorPlainOrder
import Derived.Test.YtcjpopjcpgipjaaDoorShape
namespace Go.Proofs.YtcjpopjcpgipjaaDoor
open Go.RowKit
set_option linter.unusedSimpArgs false
set_option linter.unusedVariables false
set_option maxRecDepth 100000

/-- Each variable below 24 stands in a at least as often as in b. -/
def oftB (a b : List Int) : Bool := (List.range 24).all fun v => decide (b.count (-1 - (v : Int)) ≤ a.count (-1 - (v : Int)))
/-- Is a more than b? -/
noncomputable def morB (ss : List Sym) (a b : List Int) : Bool := @decide (Mor ss a b) (Classical.propDecidable _)
/-- How often a variable stands in a row, as a number. -/
def cntI (r : List Int) (v : Nat) : Int := ((r.count (-1 - (v : Int)) : Nat) : Int)
/-- The codes of a row may be. -/
def CodesOk (ss : List Sym) (a : List Int) : Prop := ∀ c ∈ a, -24 ≤ c ∧ c < (ss.length : Int)
section
variable {ss : List Sym} {a b x y : List Int}
theorem oftB_iff (hb : ∀ c ∈ b, -24 ≤ c) : oftB a b = true ↔ Often a b := by
  unfold oftB
  rw [List.all_eq_true]
  constructor
  · intro h c hc
    by_cases hin : c ∈ b
    · have h1 := hb c hin
      have h2 := h (-1 - c).toNat (List.mem_range.2 (by omega))
      have h3 := of_decide_eq_true h2
      have e : -1 - (((-1 - c).toNat : Nat) : Int) = c := by omega
      rw [e] at h3
      exact h3
    · rw [List.count_eq_zero.2 hin]; omega
  · intro h v _
    exact decide_eq_true (h _ (by omega))
theorem oftB_no (hb : ∀ c ∈ b, -24 ≤ c) (h : oftB a b = false) : ¬ Often a b := fun q => by rw [(oftB_iff hb).2 q] at h; cases h
theorem oft_not {v : Nat} (hv : v < 24) (h : cntI a v < cntI b v) : oftB a b = false := by
  cases hc : oftB a b
  · rfl
  · unfold oftB at hc
    rw [List.all_eq_true] at hc
    have := of_decide_eq_true (hc v (List.mem_range.2 hv))
    unfold cntI at h
    omega
theorem oft_yes (h : ∀ v : Nat, v < 24 → cntI b v ≤ cntI a v) : oftB a b = true := by
  unfold oftB
  rw [List.all_eq_true]
  intro v hv
  have := h v (List.mem_range.1 hv)
  unfold cntI at this
  exact decide_eq_true (by omega)
theorem morB_iff : morB ss a b = true ↔ Mor ss a b := by unfold morB; exact @decide_eq_true_iff _ (Classical.propDecidable _)
theorem morB_no (h : ¬ Mor ss a b) : morB ss a b = false := by unfold morB; exact @decide_eq_false _ (Classical.propDecidable _) h
theorem morB_not (h : morB ss a b = false) : ¬ Mor ss a b := by unfold morB at h; exact @of_decide_eq_false _ (Classical.propDecidable _) h
theorem mor_oft (hb : ∀ c ∈ b, -24 ≤ c) (h : oftB a b = false) : morB ss a b = false := morB_no fun q => oftB_no hb h q.often
theorem mor_heavy (ho : Often a b) (h : wtSum ss b < wtSum ss a) : morB ss a b = true := morB_iff.2 (.heavy ho h)
theorem mor_light (h : wtSum ss a < wtSum ss b) : morB ss a b = false := morB_no fun q => by have := q.wt; omega
theorem mor_code {c d : Int} {r s : List Int} (ho : Often (c :: r) (d :: s)) (h : wtSum ss (c :: r) = wtSum ss (d :: s)) (hne : c ≠ d) : morB ss (c :: r) (d :: s) = decide (d < c) := by
  by_cases hlt : d < c
  · rw [decide_eq_true hlt]; exact morB_iff.2 (.code ho h.symm hlt)
  · rw [decide_eq_false hlt]
    refine morB_no fun q => ?_
    obtain ⟨_, q | ⟨_, ⟨c', r', d', s', h1, h2, h3⟩ | ⟨c', k, p, x, y, s', t, h1, h2, _⟩⟩⟩ := q.inv
    · omega
    · injection h1 with h1 _; injection h2 with h2 _; omega
    · injection h1 with h1 _; injection h2 with h2 _; omega
theorem mor_args {c : Int} {k : Nat} {p x y s t : List Int} (ho : Often (c :: (p ++ (x ++ s))) (c :: (p ++ (y ++ t)))) (h : wtSum ss (c :: (p ++ (x ++ s))) = wtSum ss (c :: (p ++ (y ++ t)))) (hp : trm 24 ss p k) (hx : trm 24 ss x 1) (hy : trm 24 ss y 1) (hne : x ≠ y) :
    morB ss (c :: (p ++ (x ++ s))) (c :: (p ++ (y ++ t))) = morB ss x y := by
  by_cases hm : Mor ss x y
  · rw [morB_iff.2 hm]; exact morB_iff.2 (.args ho h.symm hp hx hy hne hm)
  · rw [morB_no hm]
    refine morB_no fun q => ?_
    obtain ⟨_, q | ⟨_, ⟨c', r', d', s', h1, h2, h3⟩ | ⟨c', k', p', x', y', s', t', h1, h2, h3, h4, h5, h6, h7⟩⟩⟩ := q.inv
    · omega
    · injection h1 with h1 _; injection h2 with h2 _; omega
    · injection h1 with _ h1
      injection h2 with _ h2
      rcases Nat.lt_trichotomy k k' with hk | hk | hk
      · obtain ⟨m1, e1, e2, e3⟩ := trm_longer hp h3 h1 (by omega)
        have e3' : trm 24 ss m1 (1 + (k' - k - 1)) := by rw [show 1 + (k' - k - 1) = k' - k by omega]; exact e3
        obtain ⟨z, m2, e4, f1, f2⟩ := trm_split e3'
        subst e4
        rw [List.append_assoc] at e2
        have g1 := (trm_uniq hx f1 e2).1
        rw [e1, List.append_assoc] at h2
        have h2 := List.append_cancel_left h2
        rw [List.append_assoc] at h2
        have g2 := (trm_uniq hy f1 h2).1
        exact hne (g1.trans g2.symm)
      · subst hk
        obtain ⟨g1, g2⟩ := trm_uniq hp h3 h1
        obtain ⟨g3, g4⟩ := trm_uniq hp h3 h2
        have e1 := (trm_uniq hx h4 g2).1
        have e2 := (trm_uniq hy h5 g4).1
        rw [e1, e2] at hm
        exact hm h7
      · obtain ⟨m1, e1, e2, e3⟩ := trm_longer h3 hp h1.symm (by omega)
        have e3' : trm 24 ss m1 (1 + (k - k' - 1)) := by rw [show 1 + (k - k' - 1) = k - k' by omega]; exact e3
        obtain ⟨z, m2, e4, f1, f2⟩ := trm_split e3'
        subst e4
        rw [List.append_assoc] at e2
        have g1 := (trm_uniq h4 f1 e2).1
        rw [e1, List.append_assoc] at h2
        have h2 := List.append_cancel_left h2
        rw [List.append_assoc] at h2
        have g2 := (trm_uniq h5 f1 h2.symm).1
        exact h6 (g1.trans g2.symm)
theorem Ex.codes (hm : mayB ss = true) (h : Ex ss a) : CodesOk ss a := by
  intro c hc
  refine ⟨h.ge c hc, ?_⟩
  have key : ∀ {r : List Int} {k : Nat}, trm 24 ss r k → ∀ c ∈ r, c < (ss.length : Int) := by
    intro r k ht c hc
    obtain ⟨ms, h1, _⟩ := tl_of_trm ht
    obtain ⟨ar, har⟩ := tl_codes r h1 c hc
    by_cases h0 : c < 0
    · omega
    · have := (ar_sym hm (by omega) har).1; omega
  rcases h with h | ⟨d, r, rfl, h2, h3, _, h4⟩
  · exact key h c hc
  · rcases List.mem_cons.1 hc with rfl | hc
    · omega
    · exact key h4 c hc
theorem code_at (h : CodesOk ss a) {k : Nat} (hk : k < a.length) : -24 ≤ intAt a k ∧ intAt a k < (ss.length : Int) := h _ (List.mem_of_getElem? (intAt_get hk))
theorem wtOf_ok (hm : mayB ss = true) (h : CodesOk ss a) {k : Nat} (hk : k < a.length) : 1 ≤ wtOf ss (intAt a k) ∧ wtOf ss (intAt a k) ≤ 20 := by
  obtain ⟨h1, h2⟩ := code_at h hk
  unfold wtOf
  split
  · omega
  · have := may_bd hm (i := (intAt a k).toNat) (by omega); omega
theorem wtSum_ok (hm : mayB ss = true) (h : CodesOk ss a) (k : Nat) (hk : k ≤ a.length) : 0 ≤ wtSum ss (a.take k) ∧ wtSum ss (a.take k) ≤ 20 * k := by
  induction k with
  | zero => simp [wtSum]
  | succ k ih =>
    have := ih (by omega)
    rw [wtSum_take ss a k (by omega)]
    have := wtOf_ok hm h (k := k) (by omega)
    omega
theorem cntI_take {k v : Nat} (h : k < a.length) : cntI (a.take (k + 1)) v = cntI (a.take k) v + (if intAt a k = -1 - (v : Int) then 1 else 0) := by
  unfold cntI
  rw [List.take_add_one, intAt_get h, List.count_append]
  by_cases e : intAt a k = -1 - (v : Int)
  · rw [if_pos e, e]; simp
  · rw [if_neg e]
    have : ([intAt a k] : List Int).count (-1 - (v : Int)) = 0 := List.count_eq_zero.2 (by simp; omega)
    simp [this]
theorem cntI_bd {v : Nat} : 0 ≤ cntI a v ∧ cntI a v ≤ a.length := by
  unfold cntI
  have := List.count_le_length (a := -1 - (v : Int)) (l := a)
  omega
theorem cntI_bdt {v k : Nat} : 0 ≤ cntI (a.take k) v ∧ cntI (a.take k) v ≤ k := by
  have := cntI_bd (a := a.take k) (v := v)
  rw [List.length_take] at this
  omega
theorem cntI_mono {v k : Nat} : cntI (a.take k) v ≤ cntI a v := by
  unfold cntI
  have := (List.take_sublist k a).count_le (-1 - (v : Int))
  omega
end

def intsC (f : Nat → Int) : Array Value := ((List.range 24).map fun i => Value.int .i64 (f i)).toArray
theorem intsC_size (f : Nat → Int) : (intsC f).size = 24 := by simp [intsC]
theorem intsC_at (f : Nat → Int) (i : Nat) (h : i < 24) : (intsC f)[i]? = some (.int .i64 (f i)) := by simp [intsC, h]
theorem intsC_set (f g : Nat → Int) (k : Nat) (v : Int) (h : k < 24) (hv : v = g k) (hg : ∀ i, i < 24 → i ≠ k → g i = f i) : (intsC f).setIfInBounds k (.int .i64 v) = intsC g := by
  subst hv
  apply Array.ext_getElem?
  intro i
  rw [Array.getElem?_setIfInBounds]
  by_cases hi : i < 24
  · rw [intsC_at g i hi]
    by_cases e : k = i
    · subst e; rw [if_pos rfl, if_pos (by rw [intsC_size]; exact hi)]
    · rw [if_neg e, intsC_at f i hi, hg i hi (fun x => e x.symm)]
  · rw [if_neg (by omega), Array.getElem?_eq_none (by rw [intsC_size]; omega), Array.getElem?_eq_none (by rw [intsC_size]; omega)]
theorem intsC_congr {f g : Nat → Int} (h : ∀ i, i < 24 → g i = f i) : intsC f = intsC g := by
  apply Array.ext_getElem?
  intro i
  by_cases hi : i < 24
  · rw [intsC_at _ i hi, intsC_at _ i hi, h i hi]
  · rw [Array.getElem?_eq_none (by rw [intsC_size]; omega), Array.getElem?_eq_none (by rw [intsC_size]; omega)]
/-- The world where an array of 24 numbers lies in block g. -/
structure CntW (w0 : World) (g : Nat) (f : Nat → Int) (wr : World) : Prop where
  bel : Below g w0 wr
  sh : wr.heap[g]? = some (.cells (intsC f) 146 (0, 0))
theorem CntW.start (w : World) (f : Nat → Int) (hf : ∀ i, i < 24 → f i = 0) : CntW w w.heap.size f (w.alloc (.cells (intsC fun _ => 0) 146)) := by
  refine ⟨below_new w _, ?_⟩
  rw [← intsC_congr (f := f) (g := fun _ => 0) (fun i hi => (hf i hi).symm), heap_alloc_new]
section
variable {w0 wr : World} {g k q : Nat} {f f' : Nat → Int} {v : Int}
theorem CntW.cell (h : CntW w0 g f wr) (j : Nat) (hj : j < 24) : wr.cell? ⟨g, j, none⟩ = some (.int .i64 (f j)) := by rw [cell_of_row _ _ _ _ _ _ h.sh, intsC_at _ j hj]
theorem CntW.frozen (h : CntW w0 g f wr) (j : Nat) : wr.frozen? ⟨g, j, none⟩ = false := frozen_of_row _ _ _ _ _ h.sh
theorem CntW.lt (h : CntW w0 g f wr) : g < wr.heap.size := (Array.getElem?_eq_some_iff.1 h.sh).1
theorem CntW.put (h : CntW w0 g f wr) (hq : q < 24) (hv : v = f' q) (hf : ∀ i, i < 24 → i ≠ q → f' i = f i) : CntW w0 g f' (wr.setCell ⟨g, q, none⟩ (.int .i64 v)) := by
  refine ⟨h.bel.setCell (Nat.le_refl _) _, ?_⟩
  have := heap_setCell_same _ _ q _ _ (.int .i64 v) h.sh
  rw [intsC_set f f' q v hq hv hf] at this; exact this
theorem CntW.same (h : CntW w0 g f wr) (hf : ∀ i, i < 24 → f' i = f i) : CntW w0 g f' wr := ⟨h.bel, by rw [← intsC_congr hf]; exact h.sh⟩
end

set_option maxHeartbeats 1000000 in
theorem weightO_any (A A' : Option Addr) (n c m c' B B' : Nat) (ss : List Sym) (r : List Int) (w : World) (h : SymsAt w B A n ss) (hr : IntsAt w B' A' m r) (hmay : mayB ss = true) (hc : CodesOk ss r) (hm : m ≤ 49) :
    Calls Tryd.prog 47 #[.slice A n c, .slice A' m c'] w fun e w' => e = .returned (.int .i64 (wtSum ss r)) ∧ w = w' := by
  have HL := Lib.hid hr.len
  have HM := Lib.hid hmay
  have HC := Lib.hid hc
  have HSL := Lib.hid h.len
  have hn : n ≤ 20 := by have := (may_len hmay).2; rw [HSL.out] at this; exact this
  clear hmay hc
  go_enter Tryd.func47, Tryd.ntmps47
  go_wp2
  go_loop [5, 10] (fun q i => ∃ (k : Nat) (s : Int), q = .int .i64 s ∧ i = .int .i64 k ∧ k ≤ m ∧ s = wtSum ss (r.take k)) (fun _ i => m - (intOf i).toNat)
  case atStart => exact ⟨0, 0, rfl, rfl, by omega, rfl⟩
  case round =>
    obtain ⟨k, s, rfl, rfl, hk, hs⟩ := hrel
    have HS := Lib.hid hs
    obtain ⟨b1, b2⟩ := wtSum_ok HM.out HC.out k (by rw [HL.out]; exact hk)
    rw [← hs] at b1 b2
    clear hs
    by_cases hlt : k < m
    · obtain ⟨b', off', rfl, hb', hc'⟩ := hr.at_ (by omega)
      have hcx : w.cell? ⟨b', off' + k, none⟩ = some (.int .i64 (intAt r k)) := hc' k hlt
      clear hc'
      have hlr : k < r.length := by rw [HL.out]; exact hlt
      obtain ⟨x1, x2⟩ := code_at HC.out hlr
      obtain ⟨y1, y2⟩ := wtOf_ok HM.out HC.out hlr
      have HT := Lib.hid (wtSum_take ss r k hlr)
      rw [HSL.out] at x2
      clear hlr
      by_cases hx : intAt r k < 0
      · go_wp2
        go_round
        case rel => exact ⟨k + 1, s + 1, by go_num, by go_num, by omega, by rw [HT.out, ← HS.out]; unfold wtOf; rw [if_pos hx]⟩
        case measure => simp [intOf]; omega
      · obtain ⟨q, hq⟩ : ∃ q : Nat, intAt r k = (q : Int) := ⟨(intAt r k).toNat, by omega⟩
        rw [hq] at hcx x2 hx
        have hw : wtOf ss (intAt r k) = (symAt ss q).weight := by unfold wtOf; rw [hq, if_neg (by omega), Int.toNat_natCast]
        rw [hw] at y1 y2
        have HW := Lib.hid hw
        clear hq hw x1
        obtain ⟨b, off, rfl, hb0, hc⟩ := h.at_ (by omega)
        obtain ⟨_, _, _, c3⟩ := hc q (by omega)
        clear hc
        go_wp2
        go_round
        case rel => exact ⟨k + 1, s + (symAt ss q).weight, rfl, by go_num, by omega, by rw [HT.out, ← HS.out, HW.out]⟩
        case measure => simp [intOf]; omega
    · obtain rfl : k = m := by omega
      have H : Hid (wtSum ss r = s) := by show wtSum ss r = s; rw [HS.out, List.take_of_length_le (by rw [HL.out]; omega)]
      go_wp2
      go_ret
      exact ⟨ret_int H.out.symm, rfl⟩
end Go.Proofs.YtcjpopjcpgipjaaDoor
