/-
  Words for memory: package match's parts; contracts of firstTerm, take, and of slices.Equal for rows of integers.
  Contract: match.compare.
  Contracts: match.parts.binds, match.isRow, match.Match.
-/
import Derived.Test.YtcjihomjfhneaaaPlainMatch
import Derived.Test.YtcjihomjfhneaaaMemStore
import Derived.Test.YtcjihomjfhneaaaBaseTerm
import Derived.Lib.SliceRun
import Derived.Test.YtcjihomjfhneaaaBaseBind
namespace Go.Proofs.Ytcjihomjfhneaaa
open Go.RowKit
set_option linter.unusedSimpArgs false
set_option linter.unusedVariables false
set_option maxRecDepth 100000

/-- The slice value u holds the piece r; nil: nothing. -/
def PieceV (w : World) (base : Nat) (u : Value) (r : List Int) : Prop :=
  (u = .slice none 0 0 ∧ r = []) ∨ ∃ b off n c, u = .slice (some ⟨b, off, none⟩) n c ∧ RowAt w base (some ⟨b, off, none⟩) n c r ∧ 1 ≤ n
/-- The cells of an array of 24 pieces. -/
def PartsC (w : World) (base : Nat) (cs : Array Value) (T : Nat → List Int) : Prop := cs.size = 24 ∧ ∀ v, v < 24 → ∃ u, cs[v]? = some u ∧ PieceV w base u (T v)
structure PartsAt (w : World) (base sb : Nat) (T : Nat → List Int) : Prop where
  blk : ∃ cs : Array Value, w.heap[sb]? = some (.cells cs 46 (0, 0)) ∧ PartsC w base cs T
  le : base ≤ sb
section
variable {w w' : World} {base sb : Nat} {T : Nat → List Int} {A : Option Addr} {n c : Nat} {r : List Int} {u : Value} {cs : Array Value}
theorem PieceV.keep (h : PieceV w base u r) (hk : ∀ p : Addr, p.block < base → w'.cell? p = w.cell? p) : PieceV w' base u r := by
  rcases h with h | ⟨b, off, n, c, e, h, h1⟩
  · exact .inl h
  · exact .inr ⟨b, off, n, c, e, h.keep hk, h1⟩
theorem PieceV.of (h : RowAt w base A n c r) (h1 : r ≠ []) : PieceV w base (.slice A n c) r := by
  have hl := h.at_.len
  have hn : 1 ≤ n := by
    rcases Nat.eq_zero_or_pos n with e | e
    · rw [e] at hl; exact absurd (List.length_eq_zero_iff.1 hl) h1
    · exact e
  obtain ⟨b, off, e, _, _⟩ := h.at_.at_ (by omega)
  subst e
  exact .inr ⟨b, off, n, c, rfl, h, hn⟩
theorem PieceV.one (h : PieceV w base u r) : u.oneCell' = true := by
  rcases h with ⟨rfl, _⟩ | ⟨b, off, n, c, rfl, _⟩ <;> rfl
theorem PartsC.keep (h : PartsC w base cs T) (hk : ∀ p : Addr, p.block < base → w'.cell? p = w.cell? p) : PartsC w' base cs T := by
  refine ⟨h.1, fun v hv => ?_⟩
  obtain ⟨u, e, hu⟩ := h.2 v hv
  exact ⟨u, e, hu.keep hk⟩
theorem PartsC.below (h : PartsC w base cs T) (hb : Below base w w') : PartsC w' base cs T := h.keep fun _ hp => hb.cell hp
theorem PartsC.one (h : PartsC w base cs T) : cs.all (·.oneCell') = true := by
  apply Array.all_eq_true_iff_forall_mem.2
  intro v hv
  obtain ⟨i, hi, e⟩ := Array.mem_iff_getElem.1 hv
  obtain ⟨u, e1, hu⟩ := h.2 i (by rw [← h.1]; exact hi)
  rw [Array.getElem?_eq_getElem hi] at e1
  injection e1 with e1
  rw [← e, e1]
  exact hu.one
theorem PartsAt.lt (h : PartsAt w base sb T) : sb < w.heap.size := by
  obtain ⟨cs, h1, _⟩ := h.blk
  exact (Array.getElem?_eq_some_iff.1 h1).1
theorem PartsAt.keep (h : PartsAt w base sb T) (hb : w'.heap[sb]? = w.heap[sb]?) (hk : ∀ p : Addr, p.block < base → w'.cell? p = w.cell? p) : PartsAt w' base sb T := by
  obtain ⟨cs, h1, h2⟩ := h.blk
  exact ⟨⟨cs, by rw [hb]; exact h1, h2.keep hk⟩, h.le⟩
theorem PartsAt.on (h : PartsAt w base sb T) (hb : Below w.heap.size w w') : PartsAt w' base sb T := by
  have hlt := h.lt
  have hle := h.le
  exact h.keep (hb.block sb hlt) fun p hp => hb.cell (by omega)
theorem PartsAt.cell (h : PartsAt w base sb T) {v : Nat} (hv : v < 24) : ∃ u, w.cell? ⟨sb, v, none⟩ = some u ∧ PieceV w base u (T v) := by
  obtain ⟨cs, h1, h2⟩ := h.blk
  obtain ⟨u, e, hu⟩ := h2.2 v hv
  exact ⟨u, by rw [cell_of_row _ _ v _ _ _ h1]; exact e, hu⟩
theorem PartsAt.frozen (h : PartsAt w base sb T) (v : Nat) : w.frozen? ⟨sb, v, none⟩ = false := by
  obtain ⟨cs, h1, _⟩ := h.blk
  exact frozen_of_row _ _ _ _ _ h1
theorem PartsAt.put (h : PartsAt w base sb T) {v : Nat} (hv : v < 24) (hr : PieceV w base u r) : PartsAt (w.setCell ⟨sb, v, none⟩ u) base sb (bindV T v r) ∧ w.grownBy (w.setCell ⟨sb, v, none⟩ u) (some sb) := by
  have hle := h.le
  obtain ⟨cs, h1, h2, h3⟩ := h.blk
  have hk : ∀ p : Addr, p.block < base → (w.setCell ⟨sb, v, none⟩ u).cell? p = w.cell? p := fun p hp => World.cell?_of_block (w := w) (Below.heap_setCell _ _ _ _ (by show p.block ≠ sb; omega))
  refine ⟨⟨⟨_, heap_setCell_same w sb v cs _ u h1, by simp [h2], fun x hx => ?_⟩, hle⟩, ⟨rfl, rfl, rfl, by simp, fun k _ hk => heap_setCell_other w ⟨sb, v, none⟩ k _ (fun e => hk (by simp [e]))⟩⟩
  by_cases e : x = v
  · subst e
    refine ⟨u, by rw [Array.getElem?_setIfInBounds]; simp [h2, hv], ?_⟩
    rw [bindV_at]
    exact hr.keep hk
  · obtain ⟨u', e1, hu⟩ := h3 x hx
    refine ⟨u', by rw [Array.getElem?_setIfInBounds, if_neg (fun h => e h.symm)]; exact e1, ?_⟩
    rw [bindV_ne _ _ e]
    exact hu.keep hk
end
/-- May the variable become the term? -/
def tkB (T : Nat → List Int) (v : Nat) (t : List Int) : Bool := decide (T v = [] ∨ T v = t)
def headB (t : List Int) (x : Int) : Bool := intAt t 0 == x

set_option maxHeartbeats 1000000 in
theorem take_sym (p : Value) (A : Option Addr) (n c B : Nat) (x : Int) (t : List Int) (w : World) (hx : 0 ≤ x) (h : IntsAt w B A n t) (hn : 1 ≤ n) :
    Calls Try.prog 41 #[p, .int .i64 x, .slice A n c] w fun e w' => e = .returned (.bool (headB t x)) ∧ w = w' := by
  obtain ⟨b, off, rfl, _, hc⟩ := h.at_ (by omega)
  have hc0 : w.cell? ⟨b, off, none⟩ = some (.int .i64 (intAt t 0)) := hc 0 (by omega)
  clear hc
  go_enter Try.func41, Try.ntmps41
  go_wp2
  go_ret
  exact ⟨rfl, rfl⟩

/-- What take tells of a variable. -/
def TakePost (base sb : Nat) (T : Nat → List Int) (v : Nat) (t : List Int) (w : World) (e : Ending) (w' : World) : Prop :=
  e = .returned (.bool (tkB T v t)) ∧ (tkB T v t = true → PartsAt w' base sb (bindV T v t)) ∧ w.grownBy w' (some sb)
theorem bindV_same {T : Nat → List Int} {v : Nat} : bindV T v (T v) = T := by
  funext x
  by_cases e : x = v
  · subst e; exact bindV_at _ _ _
  · exact bindV_ne _ _ e
set_option maxHeartbeats 1000000 in
theorem take_var (base sb v : Nat) (T : Nat → List Int) (A : Option Addr) (n c : Nat) (t : List Int) (w : World) (h : PartsAt w base sb T) (hv : v < 24) (ht : RowAt w base A n c t) (hne : t ≠ []) :
    Calls Try.prog 41 #[.pointer (some ⟨sb, 0, none⟩), .int .i64 (-1 - (v : Int)), .slice A n c] w (TakePost base sb T v t w) := by
  have HP := Lib.hid h
  have HT := Lib.hid ht
  have HNE := Lib.hid hne
  have HLE := Lib.hid h.le
  have HLT := Lib.hid h.lt
  have hfz := h.frozen v
  obtain ⟨u, hc, hu⟩ := h.cell hv
  have HPUT := Lib.hid (h.put hv (PieceV.of ht hne))
  have hxv : -1 - (-1 - (v : Int)) = (v : Int) := by omega
  have hx0 : ¬ 0 ≤ -1 - (v : Int) := by omega
  have u0 : (0 : Int) ≤ (v : Int) := by omega
  have u1 : (v : Int) < 24 := by omega
  rcases hu with ⟨rfl, he⟩ | ⟨b, off, n', c', rfl, hr, hn'⟩
  · have H : Hid (tkB T v t = true) := by show tkB T v t = true; unfold tkB; rw [he]; simp
    clear h ht hne he
    have hq := Lib.run_eql_slice_nil (P := Try.prog) w 23 3 none 0 0 0 0 Try.underlying23
    go_enter Try.func41, Try.ntmps41
    go_wp2_with fail
    refine (equal_any A A n c n c base base t t _ (HT.out.grown HPUT.out.2 HLE.out (by have := HLT.out; have := HLE.out; omega)).at_ (HT.out.grown HPUT.out.2 HLE.out (by have := HLT.out; have := HLE.out; omega)).at_ (by have := HT.out.few; unfold maxLen; omega) (by have := HT.out.few; unfold maxLen; omega)).mono ?_
    rintro e w1 ⟨rfl, hb1⟩
    rw [sameI_self]
    go_wp2
    go_ret
    exact ⟨ret_b H.out.symm, fun _ => HPUT.out.1.on hb1, grown_trans HPUT.out.2 (grown_of_below hb1)⟩
  · have HR := Lib.hid hr
    have HTV : Hid (T v ≠ []) := by
      intro e
      have hl := hr.at_.len
      rw [e] at hl
      simp at hl
      omega
    have H : Hid (tkB T v t = sameI (T v) t) := by
      show tkB T v t = sameI (T v) t
      unfold tkB sameI
      have := HTV.out
      simp [this]
    clear h ht hne hr
    have hq := Lib.run_eql_slice_nil (P := Try.prog) w 23 3 (some ⟨b, off, none⟩) n' c' 0 0 Try.underlying23
    go_enter Try.func41, Try.ntmps41
    go_wp2_with fail
    refine (equal_any _ A n' c' n c base base (T v) t _ HR.out.at_ HT.out.at_ (by have := HR.out.few; unfold maxLen; omega) (by have := HT.out.few; unfold maxLen; omega)).mono ?_
    rintro e w1 ⟨rfl, hb1⟩
    rw [← H.out]
    go_wp2
    go_ret
    refine ⟨rfl, fun hk => ?_, grown_of_below hb1⟩
    rw [H.out] at hk
    unfold sameI at hk
    have := of_decide_eq_true hk
    rw [← this, bindV_same]
    exact HP.out.on hb1
end Go.Proofs.Ytcjihomjfhneaaa

namespace Go.Proofs.Ytcjihomjfhneaaa
open Go.RowKit
set_option linter.unusedSimpArgs false
set_option linter.unusedVariables false
set_option maxRecDepth 100000

def nilC : Array Value := (List.replicate 24 (Value.slice none 0 0)).toArray
theorem parts_info : (Try.prog.info? 46).map (fun i => (i.zero, i.size)) = some (some (.agg nilC), 24) := by kernel_rfl
theorem parts_built : Try.prog.built 46 [] = some nilC := by kernel_rfl
theorem nilC_ok (w : World) (base : Nat) : PartsC w base nilC noT := by
  refine ⟨rfl, fun v hv => ⟨.slice none 0 0, ?_, .inl ⟨rfl, rfl⟩⟩⟩
  unfold nilC
  rw [List.getElem?_toArray, List.getElem?_replicate, if_pos hv]
section
variable {ss : List Sym} {b : List Int} {T : Nat → List Int} {j : Nat} {a : List Int}
theorem mt_nil : mt ss b T j [] = if b.length ≤ j then some T else none := by unfold mt; rfl
theorem mt_end {c : Int} (h : b.length ≤ j) : mt ss b T j (c :: a) = none := by unfold mt; rw [if_pos h]
theorem mt_sym {c : Int} (h : j < b.length) (hc : 0 ≤ c) : mt ss b T j (c :: a) = if headB (b.drop j) c then mt ss b T (j + 1) a else none := by
  conv => lhs; unfold mt
  rw [if_neg (by omega), if_neg (by omega)]
  have e : intAt (b.drop j) 0 = intAt b j := by rw [intAt_drop, Nat.add_zero]
  unfold headB
  rw [e]
  by_cases q : c = intAt b j
  · subst q; simp
  · have q' : ¬ intAt b j = c := fun h => q h.symm
    simp [q, q']
theorem mt_var {v : Nat} (h : j < b.length) : mt ss b T j ((-1 - (v : Int)) :: a) = if tkB T v (pieceAt ss b j) then mt ss b (bindV T v (pieceAt ss b j)) (endAt ss b j) a else none := by
  conv => lhs; unfold mt
  have e : (-1 - (-1 - (v : Int))).toNat = v := by omega
  rw [if_neg (by omega), if_pos (by omega), e]
  unfold tkB
  by_cases q : T v = [] ∨ T v = pieceAt ss b j
  · rw [if_pos q, decide_eq_true q]; rfl
  · rw [if_neg q, decide_eq_false q]; rfl
theorem scan_piece (hb : rowB ss b = true) (hj : j < b.length) : scanAt ss (b.drop j) 1 0 = ((endAt ss b j - j : Nat) : Int) := by
  obtain ⟨_, _, hr⟩ := row_parts hb
  obtain ⟨ns, hns⟩ := tl_drop_some hr j
  have := piece_facts hb hj
  have e1 : scanAt ss b 1 j = (endAt ss b j : Int) := scan_start hb hj
  unfold scanAt at e1 ⊢
  rw [List.drop_zero]
  rw [scan_tl _ hns 1] at e1 ⊢
  cases ns with
  | nil => have := (tl_nil_iff hns).1 rfl; simp at this; omega
  | cons m ns =>
    simp [sumL] at e1 ⊢
    omega
end
/-- What compare hands back: the parts, whether a can become b. -/
def CmpPost (ss : List Sym) (a b : List Int) (w : World) (e : Ending) (w' : World) : Prop :=
  ∃ cs T, e = .returned (.tuple #[.agg cs, .bool (mt ss b noT 0 a).isSome]) ∧ PartsC w' w.heap.size cs T ∧ ((mt ss b noT 0 a).isSome = true → mt ss b noT 0 a = some T) ∧ Below w.heap.size w w'
theorem CmpPost.no {ss : List Sym} {a b : List Int} {w w' : World} {e : Ending} {cs : Array Value} {T : Nat → List Int} (h : mt ss b noT 0 a = none) (he : e = .returned (.tuple #[.agg cs, .bool false])) (hp : PartsC w' w.heap.size cs T) (hb : Below w.heap.size w w') : CmpPost ss a b w e w' :=
  ⟨cs, T, by rw [h]; exact he, hp, fun q => (by rw [h] at q; cases q), hb⟩
theorem CmpPost.yes {ss : List Sym} {a b : List Int} {w w' : World} {e : Ending} {cs : Array Value} {T : Nat → List Int} (h : mt ss b noT 0 a = some T) (he : e = .returned (.tuple #[.agg cs, .bool true])) (hp : PartsC w' w.heap.size cs T) (hb : Below w.heap.size w w') : CmpPost ss a b w e w' :=
  ⟨cs, T, by rw [h]; exact he, hp, fun _ => h, hb⟩
theorem cmp_ret {R : Ending → World → Prop} {a : Act} {w : World} {g : Nat} {b : Bool} {cs : Array Value} (h4 : a.tmps.getD 6 undef = .pointer (some ⟨g, 0, none⟩)) (h5 : a.tmps.getD 7 undef = .bool b) (hd : a.defers = [])
    (hg : w.heap[g]? = some (.cells cs 46 (0, 0))) (hs : cs.size = 24) (hR : R (.returned (.tuple #[.agg cs, .bool b])) w) : bodyPost Try.prog Try.f23 R .ret a w := by
  refine bodyPost_ret (v := .tuple #[.agg cs, .bool b]) ?_ hd hR
  rw [results_cell_tmp rfl, h4, h5]
  have := run_loadVar_row (P := Try.prog) w g 46 46 cs (0, 0) _ hg Try.underlying46 rfl (by rw [hs]; exact (zero_of_info parts_info).2)
  simp [asAddr, Result.andThen, this]
/-- The world in the loop: the result's cell and the parts in two new blocks; j codes of b are behind, i of a. -/
structure CmpW (ss : List Sym) (a b : List Int) (w : World) (i j L : Nat) (T : Nat → List Int) (A : Option Addr) (c : Nat) (w' : World) : Prop where
  bel : Below w.heap.size w w'
  out : w'.heap[w.heap.size]? = some (.cells nilC 46 (0, 0))
  pts : PartsAt w' w.heap.size (w.heap.size + 1) T
  row : RowAt w' w.heap.size A L c (b.drop j)
  mts : mt ss b T j (a.drop i) = mt ss b noT 0 a
section
variable {ss : List Sym} {a b : List Int} {w w1 w2 : World} {i j L c : Nat} {T T' : Nat → List Int} {A : Option Addr}
theorem CmpW.lt (h : CmpW ss a b w i j L T A c w1) : w.heap.size + 1 < w1.heap.size := h.pts.lt
theorem CmpW.start (h : IntsAt w w.heap.size A L b) (hc : L ≤ c) (h48 : L ≤ 48) : CmpW ss a b w 0 0 L noT A c ((w.alloc (.cells nilC 46)).alloc (.cells nilC 46)) := by
  have hb := below_alloc2 w (.cells nilC 46) (.cells nilC 46)
  refine ⟨hb, heap_alloc2_old _ _ _, ⟨⟨nilC, ?_, nilC_ok _ _⟩, by omega⟩, ⟨h.below hb, hc, h48⟩, rfl⟩
  have := heap_alloc_new (w.alloc (.cells nilC 46)) (.cells nilC 46)
  simpa using this
theorem CmpW.on (h : CmpW ss a b w i j L T A c w1) (hb : Below w1.heap.size w1 w2) : CmpW ss a b w i j L T A c w2 := by
  have hlt := h.lt
  exact ⟨h.bel.trans (hb.mono h.bel.size), by rw [hb.block _ (by omega)]; exact h.out, h.pts.on hb, h.row.below (hb.mono h.bel.size), h.mts⟩
theorem CmpW.next {b' off L' E : Nat} (h : CmpW ss a b w i j L T (some ⟨b', off, none⟩) c w1) (hg : w1.grownBy w2 (some (w.heap.size + 1))) (hp : PartsAt w2 w.heap.size (w.heap.size + 1) T') (hE : L = L' + E)
    (hm : mt ss b T' (j + E) (a.drop (i + 1)) = mt ss b T j (a.drop i)) : CmpW ss a b w (i + 1) (j + E) L' T' (if c = E then some ⟨b', off, none⟩ else some ⟨b', off + E, none⟩) (c - E) w2 := by
  have hlt := h.lt
  have hcap := h.row.cap
  have hfew := h.row.few
  refine ⟨⟨hg.os.trans h.bel.os, hg.tape.trans h.bel.tape, hg.output.trans h.bel.output, Nat.le_trans h.bel.size hg.size, fun k hk => (hg.block k (by omega) (by simp; omega)).trans (h.bel.block k hk)⟩, ?_, hp, ⟨?_, by omega, by omega⟩, hm.trans h.mts⟩
  · rw [hg.block _ (by omega) (by simp)]; exact h.out
  · have := (h.row.at_.drop (k := E) (by omega)).keep (w' := w2) fun p hp => World.cell?_of_block (w := w1) (hg.block p.block (by omega) (by simp; omega))
    rw [List.drop_drop] at this
    have e : L - E = L' := by omega
    rw [e] at this
    by_cases q : c = E
    · have hL' : L' = 0 := by omega
      have hl := this.len
      rw [hL'] at hl
      rw [List.length_eq_zero_iff.1 hl, hL']
      exact IntsAt.nil_
    · rw [if_neg q]; exact this
theorem CmpW.piece {E : Nat} (h : CmpW ss a b w i j L T A c w1) (hE : E ≤ L) : RowAt w1 w.heap.size A E c ((b.drop j).take E) :=
  ⟨h.row.at_.take hE, by have := h.row.cap; omega, by have := h.row.few; omega⟩
end

set_option maxHeartbeats 1000000 in
theorem compare_any (A A' A2 : Option Addr) (n c m c' m2 c2 : Nat) (ss : List Sym) (a b : List Int) (w : World) (h : SymsAt w w.heap.size A n ss) (hn : n ≤ maxLen) (ha : IntsAt w w.heap.size A' m a) (hb : IntsAt w w.heap.size A2 m2 b) (hc2 : m2 ≤ c2) (hra : rowB ss a = true) (hrb : rowB ss b = true) :
    Calls Try.prog 23 #[.slice A n c, .slice A' m c', .slice A2 m2 c2] w (CmpPost ss a b w) := by
  obtain ⟨hz, hzs⟩ := zero_of_info parts_info
  have HLA := Lib.hid ha.len
  have HLB := Lib.hid hb.len
  have hm48 : m ≤ 48 := by have := (row_parts hra).2.1; rw [HLA.out] at this; exact this
  have hm2 : m2 ≤ 48 := by have := (row_parts hrb).2.1; rw [HLB.out] at this; exact this
  have HMAY := Lib.hid (row_parts hra).1
  have HRA := Lib.hid hra
  have HRB := Lib.hid hrb
  have HS := Lib.hid h
  have HA := Lib.hid ha
  have HB := Lib.hid hb
  have HN := Lib.hid hn
  clear hra hrb h ha hb hn
  go_enter Try.func23, Try.ntmps23
  go_wp2_with fail
  go_loopw [2, 14] (fun q i wr => ∃ (k j L : Nat) (T : Nat → List Int) (A3 : Option Addr) (c3 : Nat), q = .slice A3 L c3 ∧ i = .int .i64 k ∧ k ≤ m ∧ j + L = m2 ∧ L ≤ c3 ∧ CmpW ss a b w k j L T A3 c3 wr) (fun _ i _ => m - (intOf i).toNat)
  case atStart => exact ⟨0, 0, m2, noT, A2, c2, rfl, rfl, by omega, by omega, hc2, CmpW.start HB.out hc2 hm2⟩
  case round =>
    obtain ⟨k, j, L, T, A3, c3, rfl, rfl, hk, hj, hc3, hw⟩ := hrel
    have HW := Lib.hid hw
    have HLB' : Hid (b.length = j + L) := by show b.length = j + L; rw [HLB.out, hj]
    by_cases hlt : k < m
    · obtain ⟨ba, oa, hA', hba, hca⟩ := HA.out.at_ (by omega)
      subst hA'
      have hca0 : wr.cell? ⟨ba, oa + k, none⟩ = some (.int .i64 (intAt a k)) := by rw [hw.bel.cell (p := ⟨ba, oa + k, none⟩) hba]; exact hca k hlt
      have HDA : Hid (a.drop k = intAt a k :: a.drop (k + 1)) := drop_get (by rw [HLA.out]; exact hlt) (intAt_get (by rw [HLA.out]; exact hlt))
      clear hca hba hw
      by_cases hL : L = 0
      · subst hL
        have H : Hid (mt ss b noT 0 a = none) := by
          show mt ss b noT 0 a = none
          rw [← HW.out.mts, HDA.out]
          exact mt_end (by rw [HLB.out]; omega)
        have hsc := run_storeC (P := Try.prog) wr w.heap.size _ nilC nilC HW.out.out rfl (nilC_ok wr 0).one
        go_wp2
        clear hsc
        refine cmp_ret (cs := nilC) rfl rfl rfl ?_ rfl ?_
        · exact setRow_heap _ _ _ _ _ _ HW.out.out
        · exact CmpPost.no H.out rfl (nilC_ok _ _) (below_setRow HW.out.bel (Nat.le_refl _) _)
      · obtain ⟨bb, ob, hA3, _, _⟩ := HW.out.row.at_.at_ (by omega)
        subst hA3
        have hjb : Hid (j < b.length) := by show j < b.length; rw [HLB'.out]; omega
        by_cases hx : intAt a k < 0
        · obtain ⟨v, hv⟩ : ∃ v : Nat, intAt a k = -1 - (v : Int) := ⟨(-1 - intAt a k).toNat, by omega⟩
          have hv24 : v < 24 := by have := row_ge HRA.out (intAt a k) (List.mem_of_getElem? (intAt_get (by rw [HLA.out]; exact hlt))); omega
          rw [hv] at hca0 hx
          have HV := Lib.hid hv
          clear hv
          obtain ⟨p1, p2, p3, p4, p5⟩ := piece_facts HRB.out hjb.out
          obtain ⟨E, hE⟩ : ∃ E, E = endAt ss b j - j := ⟨_, rfl⟩
          have HE : Hid (endAt ss b j = j + E) := by show endAt ss b j = j + E; omega
          have hEL : E ≤ L := by have := HLB'.out; omega
          have hE1 : 1 ≤ E := by omega
          have HSC : Hid (scanAt ss (b.drop j) 1 0 = (E : Int)) := by have := scan_piece HRB.out hjb.out; rw [← hE] at this; exact this
          have HPC : Hid (pieceAt ss b j = (b.drop j).take E) := by show pieceAt ss b j = _; unfold pieceAt; rw [← hE]
          have HPN := Lib.hid (piece_ne HRB.out hjb.out)
          have HMT : Hid (mt ss b T j (a.drop k) = if tkB T v (pieceAt ss b j) then mt ss b (bindV T v (pieceAt ss b j)) (j + E) (a.drop (k + 1)) else none) := by
            show mt ss b T j (a.drop k) = _
            rw [HDA.out, HV.out, mt_var hjb.out, HE.out]
          clear p1 p2 p3 p4 p5 hE
          go_wp2_with fail
          refine (firstTerm_any A _ n c L c3 w.heap.size w.heap.size E ss (b.drop j) wr (HS.out.below HW.out.bel) HN.out HW.out.row.at_ HW.out.row.few HMAY.out HSC.out).mono ?_
          rintro e w1 ⟨rfl, rfl⟩
          go_wp2_with fail
          refine (take_var w.heap.size (w.heap.size + 1) v T _ E c3 (pieceAt ss b j) wr HW.out.pts hv24 (by rw [HPC.out]; exact HW.out.piece hEL) HPN.out).mono ?_
          rintro e w1 ⟨rfl, hp1, hg1⟩
          have HP1 := Lib.hid hp1
          have HG1 := Lib.hid hg1
          clear hp1 hg1
          cases htk : tkB T v (pieceAt ss b j)
          · have H : Hid (mt ss b noT 0 a = none) := by
              show mt ss b noT 0 a = none
              rw [← HW.out.mts, HMT.out, htk]; rfl
            have ho : w1.heap[w.heap.size]? = some (.cells nilC 46 (0, 0)) := by
              rw [HG1.out.block _ (by have := HW.out.lt; omega) (by simp)]; exact HW.out.out
            have HO := Lib.hid ho
            have hsc := run_storeC (P := Try.prog) w1 w.heap.size _ nilC nilC ho rfl (nilC_ok wr 0).one
            clear ho htk
            go_wp2
            clear hsc
            refine cmp_ret (cs := nilC) rfl rfl rfl ?_ rfl ?_
            · exact setRow_heap _ _ _ _ _ _ HO.out
            · have hbel : Below w.heap.size w w1 := ⟨HG1.out.os.trans HW.out.bel.os, HG1.out.tape.trans HW.out.bel.tape, HG1.out.output.trans HW.out.bel.output, Nat.le_trans HW.out.bel.size HG1.out.size, fun x hx => (HG1.out.block x (by have := HW.out.lt; omega) (by simp; omega)).trans (HW.out.bel.block x hx)⟩
              exact CmpPost.no H.out rfl (nilC_ok _ _) (below_setRow hbel (Nat.le_refl _) _)
          · have HNX : Hid (CmpW ss a b w (k + 1) (j + E) (L - E) (bindV T v (pieceAt ss b j)) (if c3 = E then some ⟨bb, ob, none⟩ else some ⟨bb, ob + E, none⟩) (c3 - E) w1) :=
              HW.out.next HG1.out (HP1.out htk) (by omega) (by rw [HMT.out, htk]; rfl)
            clear htk
            go_wp2
            go_roundw
            case rel => exact ⟨k + 1, j + E, L - E, _, _, _, rfl, by go_num, by omega, by omega, by omega, HNX.out⟩
            case measure => simp [intOf]; omega
        · have HMT : Hid (mt ss b T j (a.drop k) = if headB (b.drop j) (intAt a k) then mt ss b T (j + 1) (a.drop (k + 1)) else none) := by
            show mt ss b T j (a.drop k) = _
            rw [HDA.out, mt_sym hjb.out (by omega)]
          have HHD : Hid (headB ((b.drop j).take 1) (intAt a k) = headB (b.drop j) (intAt a k)) := by
            show headB _ _ = headB _ _
            unfold headB; rw [intAt_take (by omega)]
          go_wp2_with fail
          refine (take_sym _ _ 1 c3 w.heap.size (intAt a k) ((b.drop j).take 1) wr (by omega) (HW.out.piece (by omega)).at_ (by omega)).mono ?_
          rintro e w1 ⟨rfl, rfl⟩
          rw [HHD.out]
          cases htk : headB (b.drop j) (intAt a k)
          · have H : Hid (mt ss b noT 0 a = none) := by
              show mt ss b noT 0 a = none
              rw [← HW.out.mts, HMT.out, htk]; rfl
            have hsc := run_storeC (P := Try.prog) wr w.heap.size _ nilC nilC HW.out.out rfl (nilC_ok wr 0).one
            clear htk
            go_wp2
            clear hsc
            refine cmp_ret (cs := nilC) rfl rfl rfl ?_ rfl ?_
            · exact setRow_heap _ _ _ _ _ _ HW.out.out
            · exact CmpPost.no H.out rfl (nilC_ok _ _) (below_setRow HW.out.bel (Nat.le_refl _) _)
          · have HNX : Hid (CmpW ss a b w (k + 1) (j + 1) (L - 1) T (if c3 = 1 then some ⟨bb, ob, none⟩ else some ⟨bb, ob + 1, none⟩) (c3 - 1) wr) :=
              HW.out.next grown_refl HW.out.pts (by omega) (by rw [HMT.out, htk]; rfl)
            clear htk
            go_wp2
            go_roundw
            case rel => exact ⟨k + 1, j + 1, L - 1, _, _, _, rfl, by go_num, by omega, by omega, by omega, HNX.out⟩
            case measure => simp [intOf]; omega
    · have hkm : k = m := by omega
      subst hkm
      obtain ⟨⟨cs, hcs, hpc⟩, _⟩ := HW.out.pts
      have HPC := Lib.hid hpc
      have HCS := Lib.hid hcs
      have hcsz := hpc.1
      have HMT : Hid (mt ss b noT 0 a = if b.length ≤ j then some T else none) := by
        show mt ss b noT 0 a = _
        rw [← HW.out.mts, List.drop_eq_nil_of_le (by rw [HLA.out]; omega), mt_nil]
      have hsc := run_storeC (P := Try.prog) wr w.heap.size _ nilC cs HW.out.out (by rw [hcsz]; rfl) hpc.one
      clear hw hpc hcs
      by_cases hL : L = 0
      · subst hL
        have H : Hid (mt ss b noT 0 a = some T) := by show mt ss b noT 0 a = _; rw [HMT.out, if_pos (by rw [HLB'.out]; omega)]
        go_wp2_with (with_reducible refine wpList_load_row rfl 46 (.tmp 8) rfl (w.heap.size + 1) rfl 46 cs (0, 0) _ HCS.out Try.underlying46 rfl (by rw [hcsz]; exact hzs) ?_)
        clear hsc
        refine cmp_ret (cs := cs) rfl rfl rfl ?_ hcsz ?_
        · exact setRow_heap _ _ _ _ _ _ HW.out.out
        · exact CmpPost.yes H.out rfl (HPC.out.keep fun p hp => World.cell?_of_block (w := wr) (setRow_other wr w.heap.size p.block cs (by omega))) (below_setRow HW.out.bel (Nat.le_refl _) _)
      · have H : Hid (mt ss b noT 0 a = none) := by show mt ss b noT 0 a = _; rw [HMT.out, if_neg (by rw [HLB'.out]; omega)]
        have hL' : (L : Int) ≠ 0 := by omega
        have hL2 : ((L : Int) == 0) = false := by simpa using hL
        clear hL hL'
        go_wp2_with (with_reducible refine wpList_load_row rfl 46 (.tmp 8) rfl (w.heap.size + 1) rfl 46 cs (0, 0) _ HCS.out Try.underlying46 rfl (by rw [hcsz]; exact hzs) ?_)
        clear hsc
        refine cmp_ret (cs := cs) rfl rfl rfl ?_ hcsz ?_
        · exact setRow_heap _ _ _ _ _ _ HW.out.out
        · refine CmpPost.no H.out ?_ (HPC.out.keep fun p hp => World.cell?_of_block (w := wr) (setRow_other wr w.heap.size p.block cs (by omega))) (below_setRow HW.out.bel (Nat.le_refl _) _)
          first | rfl | (simp [hL2])
end Go.Proofs.Ytcjihomjfhneaaa

namespace Go.Proofs.Ytcjihomjfhneaaa
open Go.RowKit
set_option linter.unusedSimpArgs false
set_option linter.unusedVariables false
set_option maxRecDepth 100000

theorem run_neq_nil {P : Program} (w : World) (t e : TypeId) (a : Option Addr) (n c n' c' : Nat) (h : P.underlying t = some (.slice e)) :
    (binOp .neq t (.slice a n c) (.slice none n' c')).run P w = .ok (.bool (!a.isNone)) w := by
  simp only [binOp]
  simp [Op.equal, Op.maxDepth, Lib.run_equalIn_slice_nil w 9999 t e a n c n' c' h]
theorem head_isV {ss : List Sym} {t : List Int} {v : Nat} (h : trm 24 ss t 1) : isV t v = decide (intAt t 0 = -1 - (v : Int)) := by
  rcases trm_one h with ⟨x, hx, e⟩ | ⟨c, ar, s, e, h0, _, _⟩
  · subst e
    unfold isV sameI
    by_cases q : x = v
    · subst q; simp [intAt]
    · have q' : ¬ (-1 - (x : Int)) = -1 - (v : Int) := by omega
      simp [intAt]
  · subst e
    unfold isV sameI
    have q' : ¬ c = -1 - (v : Int) := by omega
    simp [intAt, q']

set_option maxHeartbeats 1000000 in
theorem bindsM_any (ss : List Sym) (base sb : Nat) (T : Nat → List Int) (w : World) (h : PartsAt w base sb T) (hT : TOk ss T) :
    Calls Try.prog 24 #[.pointer (some ⟨sb, 0, none⟩)] w (BindsRet (bdsOf (stT T) 24) w) := by
  have HP := Lib.hid h
  have HT := Lib.hid hT
  clear h hT
  go_enter Try.func24, Try.ntmps24
  go_wp2
  go_loopw [3, 8] (fun q i wr => ∃ k : Nat, i = .int .i64 k ∧ k ≤ 24 ∧ OwnB wr w.heap.size q (bdsOf (stT T) k) ∧ Below w.heap.size w wr) (fun _ i _ => 24 - (intOf i).toNat)
  case atStart => exact ⟨0, rfl, by omega, OwnB.nil_, Below.refl _ _⟩
  case round =>
    obtain ⟨k, rfl, hk, hown, hbw⟩ := hrel
    have HOWN := Lib.hid hown
    have HBW := Lib.hid hbw
    have hsz := hbw.size
    clear hown hbw
    by_cases hlt : k < 24
    · have HSUCC := Lib.hid (bdsOf_succ (stT T) k)
      obtain ⟨u, hc, hu⟩ := (HP.out.on HBW.out).cell hlt
      have z0 : (0 : Int) ≤ (k : Int) := by omega
      have z1 : (k : Int) < 24 := by omega
      rcases hu with ⟨rfl, he⟩ | ⟨b, off, n', c', rfl, hr, hn'⟩
      · have HVT : Hid (isV (stT T k) k = true) := by show isV (stT T k) k = true; unfold stT; rw [if_pos he]; exact isV_iff.2 rfl
        go_wp2_with fail
        go_quiet (fail)
        have hq := run_neq_nil (P := Try.prog) (wr.drewN nq) 23 3 none 0 0 0 0 Try.underlying23
        go_wp2
        go_roundw
        case rel => exact ⟨k + 1, by go_num, by omega, (HOWN.out.on (below_drewN _ _)).cast (by rw [HSUCC.out, HVT.out]; simp), HBW.out.trans (below_drewN _ _)⟩
        case measure => simp [intOf]; omega
      · have HNE : Hid (T k ≠ []) := by
          intro e
          have hl := hr.at_.len
          rw [e] at hl
          simp at hl
          omega
        have HST : Hid (stT T k = T k) := by show stT T k = T k; unfold stT; rw [if_neg HNE.out]
        have htr : trm 24 ss (T k) 1 := by
          rcases HT.out k with e | e
          · exact absurd e HNE.out
          · exact e.1
        have HVT := Lib.hid (head_isV (v := k) htr)
        have HR := Lib.hid hr
        have hc0 : wr.cell? ⟨b, off, none⟩ = some (.int .i64 (intAt (T k) 0)) := by
          obtain ⟨b1, o1, e1, _, h1⟩ := hr.at_.at_ (by omega)
          injection e1 with e1
          injection e1 with e1 e2
          subst e1; subst e2
          exact h1 0 (by omega)
        clear hr htr
        by_cases hx : intAt (T k) 0 = -1 - (k : Int)
        · have HV : Hid (isV (stT T k) k = true) := by show isV (stT T k) k = true; rw [HST.out, HVT.out]; exact decide_eq_true hx
          rw [hx] at hc0
          go_wp2_with fail
          go_quiet (fail)
          have hq := run_neq_nil (P := Try.prog) (wr.drewN nq) 23 3 (some ⟨b, off, none⟩) n' c' 0 0 Try.underlying23
          go_wp2
          go_roundw
          case rel => exact ⟨k + 1, by go_num, by omega, (HOWN.out.on (below_drewN _ _)).cast (by rw [HSUCC.out, HV.out]; simp), HBW.out.trans (below_drewN _ _)⟩
          case measure => simp [intOf]; omega
        · have HV : Hid (isV (stT T k) k = false) := by show isV (stT T k) k = false; rw [HST.out, HVT.out]; exact decide_eq_false hx
          go_wp2_with fail
          go_quiet (fail)
          have hq := run_neq_nil (P := Try.prog) (wr.drewN nq) 23 3 (some ⟨b, off, none⟩) n' c' 0 0 Try.underlying23
          have hx2 : (intAt (T k) 0 != -1 - (k : Int)) = true := by simpa using hx
          go_wp2_with fail
          have HBN := Lib.hid (below_drewN (B := wr.heap.size) wr nq)
          have hbase : base ≤ wr.heap.size := by have := HP.out.le; have := HP.out.lt; omega
          refine (clone_any _ n' c' (T k) (wr.drewN nq) ((HR.out.at_.more hbase).on HBN.out) (fun h => by cases h) (by have := HR.out.few; omega)).mono ?_
          rintro e w3 ⟨v3, rfl, hv3, hb3⟩
          have HO3 := Lib.hid ((HOWN.out.on HBN.out).on hb3)
          have HV3 := Lib.hid ((hv3.lower (base' := w.heap.size) hsz).cast (ys := stT T k) HST.out.symm)
          have HB3 := Lib.hid ((HBW.out.trans (HBN.out.mono hsz)).trans (hb3.mono hsz))
          have hsz3 := HB3.out.size
          obtain ⟨A3, cap3, rfl, _, _⟩ := hv3.intsAt
          clear hv3 hb3 hq hx2 hx
          go_wp2_with (at_builtin
                       refine app_bind1 rfl (.tmp 24) (.tmp 29) rfl w.heap.size _ _ (k : Int) (stT T k) _ rfl HO3.out HV3.out rfl (by have := bdsOf_len (stT T) k; omega) hsz3 ?_
                       intro v5 w5 hown5 hb5
                       have HO5 := Lib.hid hown5
                       have HB5 := Lib.hid (HB3.out.trans hb5)
                       clear hown5 hb5)
          go_roundw
          case rel => exact ⟨k + 1, by go_num, by omega, HO5.out.cast (by rw [HSUCC.out, HV.out]; simp), HB5.out⟩
          case measure => simp [intOf]; omega
    · obtain rfl : k = 24 := by omega
      go_wp2
      go_ret
      exact ⟨_, rfl, HOWN.out, HBW.out⟩

set_option maxHeartbeats 1000000 in
theorem isRowM_any (A A' : Option Addr) (n c m c' : Nat) (ss : List Sym) (r : List Int) (w : World) (h : SymsAt w w.heap.size A n ss) (hn : n ≤ maxLen) (hnc : n ≤ c) (hr : IntsAt w w.heap.size A' m r) (hm : m ≤ maxLen) :
    Calls Try.prog 22 #[.slice A n c, .slice A' m c'] w fun e w' => e = .returned (.bool (rowB ss r)) ∧ Below w.heap.size w w' := by
  cases hb : rowB ss r
  all_goals
    (first | (have he := rowE_yes hb; have h0 : 1 = 1 := rfl) | have he := rowE_no hb)
    clear hb
    go_enter Try.func22, Try.ntmps22
    go_wp2_with fail
    refine (row_any A A' n c m c' ss r _ h hn hnc hr hm).mono ?_
    rintro e w1 ⟨rfl, hb1⟩
    rw [he]
    clear he
    go_wp2
    go_ret
    exact ⟨rfl, hb1⟩

/-- What Match hands back. -/
def MatPost (ss : List Sym) (a b : List Int) (w : World) (e : Ending) (w' : World) : Prop :=
  ∃ v, e = .returned (.tuple #[v, .bool (mtIs ss a b), .int .i64 (mtE ss a b)]) ∧ OwnB w' w.heap.size v (mtB ss a b) ∧ Below w.heap.size w w'
theorem MatPost.no {ss : List Sym} {a b : List Int} {w w' : World} {e : Ending} {E : Int} (he : e = .returned (.tuple #[.slice none 0 0, .bool false, .int .i64 E])) (h1 : mtIs ss a b = false) (h2 : mtE ss a b = E) (hb : Below w.heap.size w w') : MatPost ss a b w e w' :=
  ⟨_, by rw [h1, h2]; exact he, by rw [mtB_no h1]; exact OwnB.nil_, hb⟩
theorem MatPost.yes {ss : List Sym} {a b : List Int} {w w' : World} {e : Ending} {v : Value} {T : Nat → List Int} (he : e = .returned (.tuple #[v, .bool true, .int .i64 0])) (h1 : mtO ss a b = some T) (hv : OwnB w' w.heap.size v (bdsOf (stT T) 24)) (hb : Below w.heap.size w w') : MatPost ss a b w e w' := by
  have h2 : mtIs ss a b = true := by unfold mtIs; rw [h1]; rfl
  exact ⟨v, by rw [h2, mtE_yes h2]; exact he, by rw [mtB_yes h1]; exact hv, hb⟩

set_option maxHeartbeats 1000000 in
theorem match_any (A A1 A2 : Option Addr) (n c n1 c1 n2 c2 : Nat) (ss : List Sym) (a b : List Int) (w : World) (h : SymsAt w w.heap.size A n ss) (hn : n ≤ maxLen) (hnc : n ≤ c) (ha : IntsAt w w.heap.size A1 n1 a) (hn1 : n1 ≤ maxLen) (hb : IntsAt w w.heap.size A2 n2 b) (hn2 : n2 ≤ maxLen) (hc2 : n2 ≤ c2) :
    Calls Try.prog 10 #[.slice A n c, .slice A1 n1 c1, .slice A2 n2 c2] w (MatPost ss a b w) := by
  obtain ⟨hz, hzs⟩ := zero_of_info parts_info
  have HS := Lib.hid h
  have HA := Lib.hid ha
  have HBB := Lib.hid hb
  have HN1 := Lib.hid hn1
  have HN2 := Lib.hid hn2
  have HN := Lib.hid hn
  clear h ha hb hn hn1 hn2
  cases h1 : rowB ss a
  · have HNO := Lib.hid (mtE_bad (ss := ss) (a := a) (b := b) (by rw [h1]; rfl))
    go_enter Try.func10, Try.ntmps10
    go_wp2_with fail
    refine (isRowM_any A A1 n c n1 c1 ss a _ HS.out HN.out hnc HA.out HN1.out).mono ?_
    rintro e w1 ⟨rfl, hb1⟩
    rw [h1]
    clear h1
    go_wp2
    go_ret3
    exact MatPost.no rfl HNO.out.2.1 HNO.out.1 hb1
  cases h2 : rowB ss b
  · have HNO := Lib.hid (mtE_bad (ss := ss) (a := a) (b := b) (by rw [h1, h2]; rfl))
    go_enter Try.func10, Try.ntmps10
    go_wp2_with fail
    refine (isRowM_any A A1 n c n1 c1 ss a _ HS.out HN.out hnc HA.out HN1.out).mono ?_
    rintro e w1 ⟨rfl, hb1⟩
    rw [h1]
    clear h1
    go_wp2_with fail
    refine (isRowM_any A A2 n c n2 c2 ss b _ (HS.out.on hb1) HN.out hnc (HBB.out.on hb1) HN2.out).mono ?_
    rintro e w2 ⟨rfl, hb2⟩
    rw [h2]
    clear h2
    go_wp2
    go_ret3
    exact MatPost.no rfl HNO.out.2.1 HNO.out.1 (hb1.trans (hb2.mono hb1.size))
  have H1 := Lib.hid h1
  have H2 := Lib.hid h2
  have HE : Hid (mtE ss a b = 0) := by show mtE ss a b = 0; unfold mtE; rw [h1, h2]; rfl
  have HO : Hid (mtO ss a b = mt ss b noT 0 a) := by show mtO ss a b = _; unfold mtO; rw [h1, h2]; rfl
  go_enter Try.func10, Try.ntmps10
  go_wp2_with fail
  refine (isRowM_any A A1 n c n1 c1 ss a _ HS.out HN.out hnc HA.out HN1.out).mono ?_
  rintro e w1 ⟨rfl, hb1⟩
  rw [h1]
  clear h1
  go_wp2_with fail
  refine (isRowM_any A A2 n c n2 c2 ss b _ (HS.out.on hb1) HN.out hnc (HBB.out.on hb1) HN2.out).mono ?_
  rintro e w2 ⟨rfl, hb2⟩
  rw [h2]
  have HB2 := Lib.hid (hb1.trans (hb2.mono hb1.size))
  have HSS := Lib.hid ((HS.out.on hb1).on hb2)
  have HAA := Lib.hid ((HA.out.on hb1).on hb2)
  have HB3 := Lib.hid ((HBB.out.on hb1).on hb2)
  clear h2 hb1 hb2
  go_wp2_with fail
  refine (compare_any A A1 A2 n c n1 c1 n2 c2 ss a b w2 HSS.out HN.out HAA.out HB3.out hc2 H1.out H2.out).mono ?_
  rintro e w3 ⟨cs, T, rfl, hp, hT, hb3⟩
  have HP := Lib.hid hp
  have HT := Lib.hid hT
  have HB4 := Lib.hid hb3
  have hcsz := hp.1
  have hsc := run_storeC (P := Try.prog) (w3.alloc (.cells nilC 46)) w3.heap.size _ nilC cs (heap_alloc_new _ _) (by rw [hcsz]; rfl) hp.one
  rw [World.setRow_alloc_new] at hsc
  clear hp hT hb3
  cases hm : (mt ss b noT 0 a).isSome
  · have H : Hid (mtIs ss a b = false) := by show mtIs ss a b = false; unfold mtIs; rw [HO.out]; exact hm
    clear hm
    go_wp2
    clear hsc
    go_ret3
    exact MatPost.no rfl H.out HE.out (HB2.out.trans ((HB4.out.trans ((below_new w3 _).mono HB4.out.size)).mono HB2.out.size))
  · have HMT := Lib.hid (HT.out hm)
    have HIS : Hid (mtIs ss a b = true) := by show mtIs ss a b = true; unfold mtIs; rw [HO.out]; exact hm
    have HOT : Hid (mtO ss a b = some T) := by show mtO ss a b = some T; rw [HO.out]; exact HMT.out
    have HOK := Lib.hid (mtO_yes HOT.out).2.2.1
    have HPA : Hid (PartsAt (w3.alloc (.cells cs 46)) w2.heap.size w3.heap.size T) :=
      ⟨⟨cs, heap_alloc_new _ _, HP.out.below ((below_new w3 _).mono HB4.out.size)⟩, HB4.out.size⟩
    have HB5 := Lib.hid (HB2.out.trans ((HB4.out.trans ((below_new w3 (.cells cs 46)).mono HB4.out.size)).mono HB2.out.size))
    clear hm
    go_wp2_with fail
    clear hsc
    refine (bindsM_any ss w2.heap.size w3.heap.size T _ HPA.out HOK.out).mono ?_
    rintro e w5 ⟨v5, rfl, hv5, hb5⟩
    have HV5 := Lib.hid (hv5.lower (base' := w.heap.size) HB5.out.size)
    have HB6 := Lib.hid (HB5.out.trans (hb5.mono HB5.out.size))
    clear hv5 hb5
    go_wp2
    go_ret3
    exact MatPost.yes rfl HOT.out HV5.out HB6.out
end Go.Proofs.Ytcjihomjfhneaaa
