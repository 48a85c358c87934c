/-
  Words for memory: package match's parts; contracts of firstTerm, take, and of slices.Equal for rows of integers.
  Contract: match.compare.
  Contracts: change.Pieces.binds, match.isRow, match.Match.
-/
import Derived.Test.YtmdajmdjmdbonaaPlainMatch
import Derived.Test.YtmdajmdjmdbonaaMemStore
import Derived.Test.YtmdajmdjmdbonaaBaseTerm
import Derived.Lib.SliceRun
import Derived.Test.YtmdajmdjmdbonaaBaseBind
namespace Go.Proofs.Ytmdajmdjmdbonaa
open Go.RowKit
set_option linter.unusedSimpArgs false
set_option linter.unusedVariables false
set_option maxRecDepth 100000

/-- The slice value u holds the piece r; nil: nothing. -/
def PieceV (w : World) (base : Nat) (u : Value) (r : List Int) : Prop :=
  (u = .slice none 0 0 ∧ r = []) ∨ ∃ b off n c, u = .slice (some ⟨b, off, none⟩) n c ∧ RowAt w base (some ⟨b, off, none⟩) n c r ∧ 1 ≤ n
/-- The cells of an array of 24 pieces. -/
def PartsC (w : World) (base : Nat) (cs : Array Value) (T : Nat → List Int) : Prop := cs.size = 24 ∧ ∀ v, v < 24 → ∃ u, cs[v]? = some u ∧ PieceV w base u (T v)
structure PartsAt (w : World) (base sb : Nat) (T : Nat → List Int) : Prop where
  blk : ∃ cs : Array Value, w.heap[sb]? = some (.cells cs 37 (0, 0)) ∧ PartsC w base cs T
  le : base ≤ sb
section
variable {w w' : World} {base sb : Nat} {T : Nat → List Int} {A : Option Addr} {n c : Nat} {r : List Int} {u : Value} {cs : Array Value}
theorem PieceV.keep (h : PieceV w base u r) (hk : ∀ p : Addr, p.block < base → w'.cell? p = w.cell? p) : PieceV w' base u r := by
  rcases h with h | ⟨b, off, n, c, e, h, h1⟩
  · exact .inl h
  · exact .inr ⟨b, off, n, c, e, h.keep hk, h1⟩
theorem PieceV.of (h : RowAt w base A n c r) (h1 : r ≠ []) : PieceV w base (.slice A n c) r := by
  have hl := h.at_.len
  have hn : 1 ≤ n := by
    rcases Nat.eq_zero_or_pos n with e | e
    · rw [e] at hl; exact absurd (List.length_eq_zero_iff.1 hl) h1
    · exact e
  obtain ⟨b, off, e, _, _⟩ := h.at_.at_ (by omega)
  subst e
  exact .inr ⟨b, off, n, c, rfl, h, hn⟩
theorem PieceV.one (h : PieceV w base u r) : u.oneCell' = true := by
  rcases h with ⟨rfl, _⟩ | ⟨b, off, n, c, rfl, _⟩ <;> rfl
theorem PartsC.keep (h : PartsC w base cs T) (hk : ∀ p : Addr, p.block < base → w'.cell? p = w.cell? p) : PartsC w' base cs T := by
  refine ⟨h.1, fun v hv => ?_⟩
  obtain ⟨u, e, hu⟩ := h.2 v hv
  exact ⟨u, e, hu.keep hk⟩
theorem PartsC.below (h : PartsC w base cs T) (hb : Below base w w') : PartsC w' base cs T := h.keep fun _ hp => hb.cell hp
theorem PartsC.one (h : PartsC w base cs T) : cs.all (·.oneCell') = true := by
  apply Array.all_eq_true_iff_forall_mem.2
  intro v hv
  obtain ⟨i, hi, e⟩ := Array.mem_iff_getElem.1 hv
  obtain ⟨u, e1, hu⟩ := h.2 i (by rw [← h.1]; exact hi)
  rw [Array.getElem?_eq_getElem hi] at e1
  injection e1 with e1
  rw [← e, e1]
  exact hu.one
theorem PartsAt.lt (h : PartsAt w base sb T) : sb < w.heap.size := by
  obtain ⟨cs, h1, _⟩ := h.blk
  exact (Array.getElem?_eq_some_iff.1 h1).1
theorem PartsAt.keep (h : PartsAt w base sb T) (hb : w'.heap[sb]? = w.heap[sb]?) (hk : ∀ p : Addr, p.block < base → w'.cell? p = w.cell? p) : PartsAt w' base sb T := by
  obtain ⟨cs, h1, h2⟩ := h.blk
  exact ⟨⟨cs, by rw [hb]; exact h1, h2.keep hk⟩, h.le⟩
theorem PartsAt.on (h : PartsAt w base sb T) (hb : Below w.heap.size w w') : PartsAt w' base sb T := by
  have hlt := h.lt
  have hle := h.le
  exact h.keep (hb.block sb hlt) fun p hp => hb.cell (by omega)
theorem PartsAt.cell (h : PartsAt w base sb T) {v : Nat} (hv : v < 24) : ∃ u, w.cell? ⟨sb, v, none⟩ = some u ∧ PieceV w base u (T v) := by
  obtain ⟨cs, h1, h2⟩ := h.blk
  obtain ⟨u, e, hu⟩ := h2.2 v hv
  exact ⟨u, by rw [cell_of_row _ _ v _ _ _ h1]; exact e, hu⟩
theorem PartsAt.frozen (h : PartsAt w base sb T) (v : Nat) : w.frozen? ⟨sb, v, none⟩ = false := by
  obtain ⟨cs, h1, _⟩ := h.blk
  exact frozen_of_row _ _ _ _ _ h1
theorem PartsAt.put (h : PartsAt w base sb T) {v : Nat} (hv : v < 24) (hr : PieceV w base u r) : PartsAt (w.setCell ⟨sb, v, none⟩ u) base sb (bindV T v r) ∧ w.grownBy (w.setCell ⟨sb, v, none⟩ u) (some sb) := by
  have hle := h.le
  obtain ⟨cs, h1, h2, h3⟩ := h.blk
  have hk : ∀ p : Addr, p.block < base → (w.setCell ⟨sb, v, none⟩ u).cell? p = w.cell? p := fun p hp => World.cell?_of_block (w := w) (Below.heap_setCell _ _ _ _ (by show p.block ≠ sb; omega))
  refine ⟨⟨⟨_, heap_setCell_same w sb v cs _ u h1, by simp [h2], fun x hx => ?_⟩, hle⟩, ⟨rfl, rfl, rfl, by simp, fun k _ hk => heap_setCell_other w ⟨sb, v, none⟩ k _ (fun e => hk (by simp [e]))⟩⟩
  by_cases e : x = v
  · subst e
    refine ⟨u, by rw [Array.getElem?_setIfInBounds]; simp [h2, hv], ?_⟩
    rw [bindV_at]
    exact hr.keep hk
  · obtain ⟨u', e1, hu⟩ := h3 x hx
    refine ⟨u', by rw [Array.getElem?_setIfInBounds, if_neg (fun h => e h.symm)]; exact e1, ?_⟩
    rw [bindV_ne _ _ e]
    exact hu.keep hk
end
/-- May the variable become the term? -/
def tkB (T : Nat → List Int) (v : Nat) (t : List Int) : Bool := decide (T v = [] ∨ T v = t)
def headB (t : List Int) (x : Int) : Bool := intAt t 0 == x

set_option maxHeartbeats 1000000 in
theorem take_sym (p : Value) (A : Option Addr) (n c B : Nat) (x : Int) (t : List Int) (w : World) (hx : 0 ≤ x) (h : IntsAt w B A n t) (hn : 1 ≤ n) :
    Calls Try.prog 18 #[p, .int .i64 x, .slice A n c] w fun e w' => e = .returned (.bool (headB t x)) ∧ w = w' := by
  obtain ⟨b, off, rfl, _, hc⟩ := h.at_ (by omega)
  have hc0 : w.cell? ⟨b, off, none⟩ = some (.int .i64 (intAt t 0)) := hc 0 (by omega)
  clear hc
  go_enter Try.func18, Try.ntmps18
  go_wp2
  go_ret
  exact ⟨rfl, rfl⟩

/-- What take tells of a variable. -/
def TakePost (base sb : Nat) (T : Nat → List Int) (v : Nat) (t : List Int) (w : World) (e : Ending) (w' : World) : Prop :=
  e = .returned (.bool (tkB T v t)) ∧ (tkB T v t = true → PartsAt w' base sb (bindV T v t)) ∧ w.grownBy w' (some sb)
theorem bindV_same {T : Nat → List Int} {v : Nat} : bindV T v (T v) = T := by
  funext x
  by_cases e : x = v
  · subst e; exact bindV_at _ _ _
  · exact bindV_ne _ _ e
set_option maxHeartbeats 1000000 in
theorem take_var (base sb v : Nat) (T : Nat → List Int) (A : Option Addr) (n c : Nat) (t : List Int) (w : World) (h : PartsAt w base sb T) (hv : v < 24) (ht : RowAt w base A n c t) (hne : t ≠ []) :
    Calls Try.prog 18 #[.pointer (some ⟨sb, 0, none⟩), .int .i64 (-1 - (v : Int)), .slice A n c] w (TakePost base sb T v t w) := by
  have HP := Lib.hid h
  have HT := Lib.hid ht
  have HNE := Lib.hid hne
  have HLE := Lib.hid h.le
  have HLT := Lib.hid h.lt
  have hfz := h.frozen v
  obtain ⟨u, hc, hu⟩ := h.cell hv
  have HPUT := Lib.hid (h.put hv (PieceV.of ht hne))
  have hxv : -1 - (-1 - (v : Int)) = (v : Int) := by omega
  have hx0 : ¬ 0 ≤ -1 - (v : Int) := by omega
  have u0 : (0 : Int) ≤ (v : Int) := by omega
  have u1 : (v : Int) < 24 := by omega
  rcases hu with ⟨rfl, he⟩ | ⟨b, off, n', c', rfl, hr, hn'⟩
  · have H : Hid (tkB T v t = true) := by show tkB T v t = true; unfold tkB; rw [he]; simp
    clear h ht hne he
    have hq := Lib.run_eql_slice_nil (P := Try.prog) w 23 3 none 0 0 0 0 Try.underlying23
    go_enter Try.func18, Try.ntmps18
    go_wp2_with fail
    refine (equal_any A A n c n c base base t t _ (HT.out.grown HPUT.out.2 HLE.out (by have := HLT.out; have := HLE.out; omega)).at_ (HT.out.grown HPUT.out.2 HLE.out (by have := HLT.out; have := HLE.out; omega)).at_ (by have := HT.out.few; unfold maxLen; omega) (by have := HT.out.few; unfold maxLen; omega)).mono ?_
    rintro e w1 ⟨rfl, hb1⟩
    rw [sameI_self]
    go_wp2
    go_ret
    exact ⟨ret_b H.out.symm, fun _ => HPUT.out.1.on hb1, grown_trans HPUT.out.2 (grown_of_below hb1)⟩
  · have HR := Lib.hid hr
    have HTV : Hid (T v ≠ []) := by
      intro e
      have hl := hr.at_.len
      rw [e] at hl
      simp at hl
      omega
    have H : Hid (tkB T v t = sameI (T v) t) := by
      show tkB T v t = sameI (T v) t
      unfold tkB sameI
      have := HTV.out
      simp [this]
    clear h ht hne hr
    have hq := Lib.run_eql_slice_nil (P := Try.prog) w 23 3 (some ⟨b, off, none⟩) n' c' 0 0 Try.underlying23
    go_enter Try.func18, Try.ntmps18
    go_wp2_with fail
    refine (equal_any _ A n' c' n c base base (T v) t _ HR.out.at_ HT.out.at_ (by have := HR.out.few; unfold maxLen; omega) (by have := HT.out.few; unfold maxLen; omega)).mono ?_
    rintro e w1 ⟨rfl, hb1⟩
    rw [← H.out]
    go_wp2
    go_ret
    refine ⟨rfl, fun hk => ?_, grown_of_below hb1⟩
    rw [H.out] at hk
    unfold sameI at hk
    have := of_decide_eq_true hk
    rw [← this, bindV_same]
    exact HP.out.on hb1
end Go.Proofs.Ytmdajmdjmdbonaa

namespace Go.Proofs.Ytmdajmdjmdbonaa
open Go.RowKit
set_option linter.unusedSimpArgs false
set_option linter.unusedVariables false
set_option maxRecDepth 100000

def nilC : Array Value := (List.replicate 24 (Value.slice none 0 0)).toArray
theorem parts_info : (Try.prog.info? 37).map (fun i => (i.zero, i.size)) = some (some (.agg nilC), 24) := by kernel_rfl
theorem parts_built : Try.prog.built 37 [] = some nilC := by kernel_rfl
theorem nilC_ok (w : World) (base : Nat) : PartsC w base nilC noT := by
  refine ⟨rfl, fun v hv => ⟨.slice none 0 0, ?_, .inl ⟨rfl, rfl⟩⟩⟩
  unfold nilC
  rw [List.getElem?_toArray, List.getElem?_replicate, if_pos hv]
section
variable {ss : List Sym} {b : List Int} {T : Nat → List Int} {j : Nat} {a : List Int}
theorem mt_nil : mt ss b T j [] = if b.length ≤ j then some T else none := by unfold mt; rfl
theorem mt_end {c : Int} (h : b.length ≤ j) : mt ss b T j (c :: a) = none := by unfold mt; rw [if_pos h]
theorem mt_sym {c : Int} (h : j < b.length) (hc : 0 ≤ c) : mt ss b T j (c :: a) = if headB (b.drop j) c then mt ss b T (j + 1) a else none := by
  conv => lhs; unfold mt
  rw [if_neg (by omega), if_neg (by omega)]
  have e : intAt (b.drop j) 0 = intAt b j := by rw [intAt_drop, Nat.add_zero]
  unfold headB
  rw [e]
  by_cases q : c = intAt b j
  · subst q; simp
  · have q' : ¬ intAt b j = c := fun h => q h.symm
    simp [q, q']
theorem mt_var {v : Nat} (h : j < b.length) : mt ss b T j ((-1 - (v : Int)) :: a) = if tkB T v (pieceAt ss b j) then mt ss b (bindV T v (pieceAt ss b j)) (endAt ss b j) a else none := by
  conv => lhs; unfold mt
  have e : (-1 - (-1 - (v : Int))).toNat = v := by omega
  rw [if_neg (by omega), if_pos (by omega), e]
  unfold tkB
  by_cases q : T v = [] ∨ T v = pieceAt ss b j
  · rw [if_pos q, decide_eq_true q]; rfl
  · rw [if_neg q, decide_eq_false q]; rfl
theorem scan_piece (hb : rowB ss b = true) (hj : j < b.length) : scanAt ss (b.drop j) 1 0 = ((endAt ss b j - j : Nat) : Int) := by
  obtain ⟨_, _, hr⟩ := row_parts hb
  obtain ⟨ns, hns⟩ := tl_drop_some hr j
  have := piece_facts hb hj
  have e1 : scanAt ss b 1 j = (endAt ss b j : Int) := scan_start hb hj
  unfold scanAt at e1 ⊢
  rw [List.drop_zero]
  rw [scan_tl _ hns 1] at e1 ⊢
  cases ns with
  | nil => have := (tl_nil_iff hns).1 rfl; simp at this; omega
  | cons m ns =>
    simp [sumL] at e1 ⊢
    omega
end
/-- What compare hands back: the parts, whether a can become b. -/
def CmpPost (ss : List Sym) (a b : List Int) (B : Nat) (w : World) (e : Ending) (w' : World) : Prop :=
  ∃ cs T, e = .returned (.tuple #[.agg cs, .bool (mt ss b noT 0 a).isSome]) ∧ PartsC w' B cs T ∧ ((mt ss b noT 0 a).isSome = true → mt ss b noT 0 a = some T) ∧ Below w.heap.size w w'
theorem CmpPost.no {ss : List Sym} {a b : List Int} {B : Nat} {w w' : World} {e : Ending} {cs : Array Value} {T : Nat → List Int} (h : mt ss b noT 0 a = none) (he : e = .returned (.tuple #[.agg cs, .bool false])) (hp : PartsC w' B cs T) (hb : Below w.heap.size w w') : CmpPost ss a b B w e w' :=
  ⟨cs, T, by rw [h]; exact he, hp, fun q => (by rw [h] at q; cases q), hb⟩
theorem CmpPost.yes {ss : List Sym} {a b : List Int} {B : Nat} {w w' : World} {e : Ending} {cs : Array Value} {T : Nat → List Int} (h : mt ss b noT 0 a = some T) (he : e = .returned (.tuple #[.agg cs, .bool true])) (hp : PartsC w' B cs T) (hb : Below w.heap.size w w') : CmpPost ss a b B w e w' :=
  ⟨cs, T, by rw [h]; exact he, hp, fun _ => h, hb⟩
theorem cmp_ret {R : Ending → World → Prop} {a : Act} {w : World} {g : Nat} {b : Bool} {cs : Array Value} (h4 : a.tmps.getD 6 undef = .pointer (some ⟨g, 0, none⟩)) (h5 : a.tmps.getD 7 undef = .bool b) (hd : a.defers = [])
    (hg : w.heap[g]? = some (.cells cs 37 (0, 0))) (hs : cs.size = 24) (hR : R (.returned (.tuple #[.agg cs, .bool b])) w) : bodyPost Try.prog Try.f11 R .ret a w := by
  refine bodyPost_ret (v := .tuple #[.agg cs, .bool b]) ?_ hd hR
  rw [results_cell_tmp rfl, h4, h5]
  have := run_loadVar_row (P := Try.prog) w g 37 37 cs (0, 0) _ hg Try.underlying37 rfl (by rw [hs]; exact (zero_of_info parts_info).2)
  simp [asAddr, Result.andThen, this]
/-- The world in the loop: the result's cell and the parts in two new blocks; j codes of b are behind, i of a. -/
structure CmpW (ss : List Sym) (a b : List Int) (B : Nat) (w : World) (i j L : Nat) (T : Nat → List Int) (A : Option Addr) (c : Nat) (w' : World) : Prop where
  hB : B ≤ w.heap.size
  bel : Below w.heap.size w w'
  out : w'.heap[w.heap.size]? = some (.cells nilC 37 (0, 0))
  pts : PartsAt w' B (w.heap.size + 1) T
  row : RowAt w' B A L c (b.drop j)
  mts : mt ss b T j (a.drop i) = mt ss b noT 0 a
section
variable {ss : List Sym} {a b : List Int} {B : Nat} {w w1 w2 : World} {i j L c : Nat} {T T' : Nat → List Int} {A : Option Addr}
theorem CmpW.lt (h : CmpW ss a b B w i j L T A c w1) : w.heap.size + 1 < w1.heap.size := h.pts.lt
theorem CmpW.start (h : IntsAt w B A L b) (hB : B ≤ w.heap.size) (hc : L ≤ c) (h48 : L ≤ 48) : CmpW ss a b B w 0 0 L noT A c ((w.alloc (.cells nilC 37)).alloc (.cells nilC 37)) := by
  have hb := below_alloc2 w (.cells nilC 37) (.cells nilC 37)
  refine ⟨hB, hb, heap_alloc2_old _ _ _, ⟨⟨nilC, ?_, nilC_ok _ _⟩, by omega⟩, ⟨h.below (hb.mono hB), hc, h48⟩, rfl⟩
  have := heap_alloc_new (w.alloc (.cells nilC 37)) (.cells nilC 37)
  simpa using this
theorem CmpW.on (h : CmpW ss a b B w i j L T A c w1) (hb : Below w1.heap.size w1 w2) : CmpW ss a b B w i j L T A c w2 := by
  have hlt := h.lt
  exact ⟨h.hB, h.bel.trans (hb.mono h.bel.size), by rw [hb.block _ (by omega)]; exact h.out, h.pts.on hb, h.row.below (hb.mono (Nat.le_trans h.hB h.bel.size)), h.mts⟩
theorem CmpW.next {b' off L' E : Nat} (h : CmpW ss a b B w i j L T (some ⟨b', off, none⟩) c w1) (hg : w1.grownBy w2 (some (w.heap.size + 1))) (hp : PartsAt w2 B (w.heap.size + 1) T') (hE : L = L' + E)
    (hm : mt ss b T' (j + E) (a.drop (i + 1)) = mt ss b T j (a.drop i)) : CmpW ss a b B w (i + 1) (j + E) L' T' (if c = E then some ⟨b', off, none⟩ else some ⟨b', off + E, none⟩) (c - E) w2 := by
  have hlt := h.lt
  have hcap := h.row.cap
  have hfew := h.row.few
  have hBle := h.hB
  refine ⟨h.hB, ⟨hg.os.trans h.bel.os, hg.tape.trans h.bel.tape, hg.output.trans h.bel.output, Nat.le_trans h.bel.size hg.size, fun k hk => (hg.block k (by omega) (by simp; omega)).trans (h.bel.block k hk)⟩, ?_, hp, ⟨?_, by omega, by omega⟩, hm.trans h.mts⟩
  · rw [hg.block _ (by omega) (by simp)]; exact h.out
  · have := (h.row.at_.drop (k := E) (by omega)).keep (w' := w2) fun p hp => World.cell?_of_block (w := w1) (hg.block p.block (by omega) (by simp; omega))
    rw [List.drop_drop] at this
    have e : L - E = L' := by omega
    rw [e] at this
    by_cases q : c = E
    · have hL' : L' = 0 := by omega
      have hl := this.len
      rw [hL'] at hl
      rw [List.length_eq_zero_iff.1 hl, hL']
      exact IntsAt.nil_
    · rw [if_neg q]; exact this
theorem CmpW.piece {E : Nat} (h : CmpW ss a b B w i j L T A c w1) (hE : E ≤ L) : RowAt w1 B A E c ((b.drop j).take E) :=
  ⟨h.row.at_.take hE, by have := h.row.cap; omega, by have := h.row.few; omega⟩
end

set_option maxHeartbeats 1000000 in
theorem compare_any (A A' A2 : Option Addr) (n c m c' m2 c2 B : Nat) (ss : List Sym) (a b : List Int) (w : World) (h : SymsAt w w.heap.size A n ss) (hn : n ≤ maxLen) (ha : IntsAt w w.heap.size A' m a) (hb : IntsAt w B A2 m2 b) (hBw : B ≤ w.heap.size) (hc2 : m2 ≤ c2) (hra : rowB ss a = true) (hrb : rowB ss b = true) :
    Calls Try.prog 11 #[.slice A n c, .slice A' m c', .slice A2 m2 c2] w (CmpPost ss a b B w) := by
  obtain ⟨hz, hzs⟩ := zero_of_info parts_info
  have HLA := Lib.hid ha.len
  have HLB := Lib.hid hb.len
  have hm48 : m ≤ 48 := by have := (row_parts hra).2.1; rw [HLA.out] at this; exact this
  have hm2 : m2 ≤ 48 := by have := (row_parts hrb).2.1; rw [HLB.out] at this; exact this
  have HMAY := Lib.hid (row_parts hra).1
  have HRA := Lib.hid hra
  have HRB := Lib.hid hrb
  have HS := Lib.hid h
  have HA := Lib.hid ha
  have HB := Lib.hid hb
  have HBW := Lib.hid hBw
  have HN := Lib.hid hn
  clear hra hrb h ha hb hn hBw
  go_enter Try.func11, Try.ntmps11
  go_wp2_with fail
  go_loopw [2, 14] (fun q i wr => ∃ (k j L : Nat) (T : Nat → List Int) (A3 : Option Addr) (c3 : Nat), q = .slice A3 L c3 ∧ i = .int .i64 k ∧ k ≤ m ∧ j + L = m2 ∧ L ≤ c3 ∧ CmpW ss a b B w k j L T A3 c3 wr) (fun _ i _ => m - (intOf i).toNat)
  case atStart => exact ⟨0, 0, m2, noT, A2, c2, rfl, rfl, by omega, by omega, hc2, CmpW.start HB.out HBW.out hc2 hm2⟩
  case round =>
    obtain ⟨k, j, L, T, A3, c3, rfl, rfl, hk, hj, hc3, hw⟩ := hrel
    have HW := Lib.hid hw
    have HLB' : Hid (b.length = j + L) := by show b.length = j + L; rw [HLB.out, hj]
    by_cases hlt : k < m
    · obtain ⟨ba, oa, hA', hba, hca⟩ := HA.out.at_ (by omega)
      subst hA'
      have hca0 : wr.cell? ⟨ba, oa + k, none⟩ = some (.int .i64 (intAt a k)) := by rw [hw.bel.cell (p := ⟨ba, oa + k, none⟩) hba]; exact hca k hlt
      have HDA : Hid (a.drop k = intAt a k :: a.drop (k + 1)) := drop_get (by rw [HLA.out]; exact hlt) (intAt_get (by rw [HLA.out]; exact hlt))
      clear hca hba hw
      by_cases hL : L = 0
      · subst hL
        have H : Hid (mt ss b noT 0 a = none) := by
          show mt ss b noT 0 a = none
          rw [← HW.out.mts, HDA.out]
          exact mt_end (by rw [HLB.out]; omega)
        have hsc := run_storeC (P := Try.prog) wr w.heap.size _ nilC nilC HW.out.out rfl (nilC_ok wr 0).one
        go_wp2
        clear hsc
        refine cmp_ret (cs := nilC) rfl rfl rfl ?_ rfl ?_
        · exact setRow_heap _ _ _ _ _ _ HW.out.out
        · exact CmpPost.no H.out rfl (nilC_ok _ _) (below_setRow HW.out.bel (Nat.le_refl _) _)
      · obtain ⟨bb, ob, hA3, _, _⟩ := HW.out.row.at_.at_ (by omega)
        subst hA3
        have hjb : Hid (j < b.length) := by show j < b.length; rw [HLB'.out]; omega
        by_cases hx : intAt a k < 0
        · obtain ⟨v, hv⟩ : ∃ v : Nat, intAt a k = -1 - (v : Int) := ⟨(-1 - intAt a k).toNat, by omega⟩
          have hv24 : v < 24 := by have := row_ge HRA.out (intAt a k) (List.mem_of_getElem? (intAt_get (by rw [HLA.out]; exact hlt))); omega
          rw [hv] at hca0 hx
          have HV := Lib.hid hv
          clear hv
          obtain ⟨p1, p2, p3, p4, p5⟩ := piece_facts HRB.out hjb.out
          obtain ⟨E, hE⟩ : ∃ E, E = endAt ss b j - j := ⟨_, rfl⟩
          have HE : Hid (endAt ss b j = j + E) := by show endAt ss b j = j + E; omega
          have hEL : E ≤ L := by have := HLB'.out; omega
          have hE1 : 1 ≤ E := by omega
          have HSC : Hid (scanAt ss (b.drop j) 1 0 = (E : Int)) := by have := scan_piece HRB.out hjb.out; rw [← hE] at this; exact this
          have HPC : Hid (pieceAt ss b j = (b.drop j).take E) := by show pieceAt ss b j = _; unfold pieceAt; rw [← hE]
          have HPN := Lib.hid (piece_ne HRB.out hjb.out)
          have HMT : Hid (mt ss b T j (a.drop k) = if tkB T v (pieceAt ss b j) then mt ss b (bindV T v (pieceAt ss b j)) (j + E) (a.drop (k + 1)) else none) := by
            show mt ss b T j (a.drop k) = _
            rw [HDA.out, HV.out, mt_var hjb.out, HE.out]
          clear p1 p2 p3 p4 p5 hE
          go_wp2_with fail
          refine (firstTerm_any A _ n c L c3 w.heap.size B E ss (b.drop j) wr (HS.out.below HW.out.bel) HN.out HW.out.row.at_ HW.out.row.few HMAY.out HSC.out).mono ?_
          rintro e w1 ⟨rfl, rfl⟩
          go_wp2_with fail
          refine (take_var B (w.heap.size + 1) v T _ E c3 (pieceAt ss b j) wr HW.out.pts hv24 (by rw [HPC.out]; exact HW.out.piece hEL) HPN.out).mono ?_
          rintro e w1 ⟨rfl, hp1, hg1⟩
          have HP1 := Lib.hid hp1
          have HG1 := Lib.hid hg1
          clear hp1 hg1
          cases htk : tkB T v (pieceAt ss b j)
          · have H : Hid (mt ss b noT 0 a = none) := by
              show mt ss b noT 0 a = none
              rw [← HW.out.mts, HMT.out, htk]; rfl
            have ho : w1.heap[w.heap.size]? = some (.cells nilC 37 (0, 0)) := by
              rw [HG1.out.block _ (by have := HW.out.lt; omega) (by simp)]; exact HW.out.out
            have HO := Lib.hid ho
            have hsc := run_storeC (P := Try.prog) w1 w.heap.size _ nilC nilC ho rfl (nilC_ok wr 0).one
            clear ho htk
            go_wp2
            clear hsc
            refine cmp_ret (cs := nilC) rfl rfl rfl ?_ rfl ?_
            · exact setRow_heap _ _ _ _ _ _ HO.out
            · have hbel : Below w.heap.size w w1 := ⟨HG1.out.os.trans HW.out.bel.os, HG1.out.tape.trans HW.out.bel.tape, HG1.out.output.trans HW.out.bel.output, Nat.le_trans HW.out.bel.size HG1.out.size, fun x hx => (HG1.out.block x (by have := HW.out.lt; omega) (by simp; omega)).trans (HW.out.bel.block x hx)⟩
              exact CmpPost.no H.out rfl (nilC_ok _ _) (below_setRow hbel (Nat.le_refl _) _)
          · have HNX : Hid (CmpW ss a b B w (k + 1) (j + E) (L - E) (bindV T v (pieceAt ss b j)) (if c3 = E then some ⟨bb, ob, none⟩ else some ⟨bb, ob + E, none⟩) (c3 - E) w1) :=
              HW.out.next HG1.out (HP1.out htk) (by omega) (by rw [HMT.out, htk]; rfl)
            clear htk
            go_wp2
            go_roundw
            case rel => exact ⟨k + 1, j + E, L - E, _, _, _, rfl, by go_num, by omega, by omega, by omega, HNX.out⟩
            case measure => simp [intOf]; omega
        · have HMT : Hid (mt ss b T j (a.drop k) = if headB (b.drop j) (intAt a k) then mt ss b T (j + 1) (a.drop (k + 1)) else none) := by
            show mt ss b T j (a.drop k) = _
            rw [HDA.out, mt_sym hjb.out (by omega)]
          have HHD : Hid (headB ((b.drop j).take 1) (intAt a k) = headB (b.drop j) (intAt a k)) := by
            show headB _ _ = headB _ _
            unfold headB; rw [intAt_take (by omega)]
          go_wp2_with fail
          refine (take_sym _ _ 1 c3 B (intAt a k) ((b.drop j).take 1) wr (by omega) (HW.out.piece (by omega)).at_ (by omega)).mono ?_
          rintro e w1 ⟨rfl, rfl⟩
          rw [HHD.out]
          cases htk : headB (b.drop j) (intAt a k)
          · have H : Hid (mt ss b noT 0 a = none) := by
              show mt ss b noT 0 a = none
              rw [← HW.out.mts, HMT.out, htk]; rfl
            have hsc := run_storeC (P := Try.prog) wr w.heap.size _ nilC nilC HW.out.out rfl (nilC_ok wr 0).one
            clear htk
            go_wp2
            clear hsc
            refine cmp_ret (cs := nilC) rfl rfl rfl ?_ rfl ?_
            · exact setRow_heap _ _ _ _ _ _ HW.out.out
            · exact CmpPost.no H.out rfl (nilC_ok _ _) (below_setRow HW.out.bel (Nat.le_refl _) _)
          · have HNX : Hid (CmpW ss a b B w (k + 1) (j + 1) (L - 1) T (if c3 = 1 then some ⟨bb, ob, none⟩ else some ⟨bb, ob + 1, none⟩) (c3 - 1) wr) :=
              HW.out.next grown_refl HW.out.pts (by omega) (by rw [HMT.out, htk]; rfl)
            clear htk
            go_wp2
            go_roundw
            case rel => exact ⟨k + 1, j + 1, L - 1, _, _, _, rfl, by go_num, by omega, by omega, by omega, HNX.out⟩
            case measure => simp [intOf]; omega
    · have hkm : k = m := by omega
      subst hkm
      obtain ⟨⟨cs, hcs, hpc⟩, _⟩ := HW.out.pts
      have HPC := Lib.hid hpc
      have HCS := Lib.hid hcs
      have hcsz := hpc.1
      have HMT : Hid (mt ss b noT 0 a = if b.length ≤ j then some T else none) := by
        show mt ss b noT 0 a = _
        rw [← HW.out.mts, List.drop_eq_nil_of_le (by rw [HLA.out]; omega), mt_nil]
      by_cases hL : L = 0
      · subst hL
        have hsc := run_storeC (P := Try.prog) wr w.heap.size _ nilC cs HW.out.out (by rw [hcsz]; rfl) hpc.one
        clear hw hpc hcs
        have H : Hid (mt ss b noT 0 a = some T) := by show mt ss b noT 0 a = _; rw [HMT.out, if_pos (by rw [HLB'.out]; omega)]
        go_wp2_with (with_reducible refine wpList_load_row rfl 37 (.tmp 8) rfl (w.heap.size + 1) rfl 37 cs (0, 0) _ HCS.out Try.underlying37 rfl (by rw [hcsz]; exact hzs) ?_)
        clear hsc
        refine cmp_ret (cs := cs) rfl rfl rfl ?_ hcsz ?_
        · exact setRow_heap _ _ _ _ _ _ HW.out.out
        · exact CmpPost.yes H.out rfl (HPC.out.keep fun p hp => World.cell?_of_block (w := wr) (setRow_other wr w.heap.size p.block cs (by have := HBW.out; omega))) (below_setRow HW.out.bel (Nat.le_refl _) _)
      · have hsc := run_storeC (P := Try.prog) wr w.heap.size _ nilC nilC HW.out.out rfl (nilC_ok wr 0).one
        clear hw hpc hcs
        have H : Hid (mt ss b noT 0 a = none) := by show mt ss b noT 0 a = _; rw [HMT.out, if_neg (by rw [HLB'.out]; omega)]
        have hL' : (0 : Int) < (L : Int) := by omega
        clear hL
        go_wp2
        clear hsc
        refine cmp_ret (cs := nilC) rfl rfl rfl ?_ rfl ?_
        · exact setRow_heap _ _ _ _ _ _ HW.out.out
        · exact CmpPost.no H.out rfl (nilC_ok _ _) (below_setRow HW.out.bel (Nat.le_refl _) _)
end Go.Proofs.Ytmdajmdjmdbonaa
