/-
  Words for memory: package match's parts; contracts of firstTerm, take, and of slices.Equal for rows of integers.
-/
import Derived.Test.YtlmpapdpmmkjnaaPlainMatch
import Derived.Test.YtlmpapdpmmkjnaaMemStore
import Derived.Test.YtlmpapdpmmkjnaaRefEnd
import Derived.Lib.SliceRun
namespace Go.Proofs.Ytlmpapdpmmkjnaa
open Go.RowKit
set_option linter.unusedSimpArgs false
set_option linter.unusedVariables false
set_option maxRecDepth 100000

/-- The slice value u holds the piece r; nil: nothing. -/
def PieceV (w : World) (base : Nat) (u : Value) (r : List Int) : Prop :=
  (u = .slice none 0 0 ∧ r = []) ∨ ∃ b off n c, u = .slice (some ⟨b, off, none⟩) n c ∧ RowAt w base (some ⟨b, off, none⟩) n c r ∧ 1 ≤ n
/-- The cells of an array of 24 pieces. -/
def PartsC (w : World) (base : Nat) (cs : Array Value) (T : Nat → List Int) : Prop := cs.size = 24 ∧ ∀ v, v < 24 → ∃ u, cs[v]? = some u ∧ PieceV w base u (T v)
structure PartsAt (w : World) (base sb : Nat) (T : Nat → List Int) : Prop where
  blk : ∃ cs : Array Value, w.heap[sb]? = some (.cells cs 46 (0, 0)) ∧ PartsC w base cs T
  le : base ≤ sb
section
variable {w w' : World} {base sb : Nat} {T : Nat → List Int} {A : Option Addr} {n c : Nat} {r : List Int} {u : Value} {cs : Array Value}
theorem PieceV.keep (h : PieceV w base u r) (hk : ∀ p : Addr, p.block < base → w'.cell? p = w.cell? p) : PieceV w' base u r := by
  rcases h with h | ⟨b, off, n, c, e, h, h1⟩
  · exact .inl h
  · exact .inr ⟨b, off, n, c, e, h.keep hk, h1⟩
theorem PieceV.of (h : RowAt w base A n c r) (h1 : r ≠ []) : PieceV w base (.slice A n c) r := by
  have hl := h.at_.len
  have hn : 1 ≤ n := by
    rcases Nat.eq_zero_or_pos n with e | e
    · rw [e] at hl; exact absurd (List.length_eq_zero_iff.1 hl) h1
    · exact e
  obtain ⟨b, off, e, _, _⟩ := h.at_.at_ (by omega)
  subst e
  exact .inr ⟨b, off, n, c, rfl, h, hn⟩
theorem PieceV.one (h : PieceV w base u r) : u.oneCell' = true := by
  rcases h with ⟨rfl, _⟩ | ⟨b, off, n, c, rfl, _⟩ <;> rfl
theorem PartsC.keep (h : PartsC w base cs T) (hk : ∀ p : Addr, p.block < base → w'.cell? p = w.cell? p) : PartsC w' base cs T := by
  refine ⟨h.1, fun v hv => ?_⟩
  obtain ⟨u, e, hu⟩ := h.2 v hv
  exact ⟨u, e, hu.keep hk⟩
theorem PartsC.below (h : PartsC w base cs T) (hb : Below base w w') : PartsC w' base cs T := h.keep fun _ hp => hb.cell hp
theorem PartsC.one (h : PartsC w base cs T) : cs.all (·.oneCell') = true := by
  apply Array.all_eq_true_iff_forall_mem.2
  intro v hv
  obtain ⟨i, hi, e⟩ := Array.mem_iff_getElem.1 hv
  obtain ⟨u, e1, hu⟩ := h.2 i (by rw [← h.1]; exact hi)
  rw [Array.getElem?_eq_getElem hi] at e1
  injection e1 with e1
  rw [← e, e1]
  exact hu.one
theorem PartsAt.lt (h : PartsAt w base sb T) : sb < w.heap.size := by
  obtain ⟨cs, h1, _⟩ := h.blk
  exact (Array.getElem?_eq_some_iff.1 h1).1
theorem PartsAt.keep (h : PartsAt w base sb T) (hb : w'.heap[sb]? = w.heap[sb]?) (hk : ∀ p : Addr, p.block < base → w'.cell? p = w.cell? p) : PartsAt w' base sb T := by
  obtain ⟨cs, h1, h2⟩ := h.blk
  exact ⟨⟨cs, by rw [hb]; exact h1, h2.keep hk⟩, h.le⟩
theorem PartsAt.on (h : PartsAt w base sb T) (hb : Below w.heap.size w w') : PartsAt w' base sb T := by
  have hlt := h.lt
  have hle := h.le
  exact h.keep (hb.block sb hlt) fun p hp => hb.cell (by omega)
theorem PartsAt.cell (h : PartsAt w base sb T) {v : Nat} (hv : v < 24) : ∃ u, w.cell? ⟨sb, v, none⟩ = some u ∧ PieceV w base u (T v) := by
  obtain ⟨cs, h1, h2⟩ := h.blk
  obtain ⟨u, e, hu⟩ := h2.2 v hv
  exact ⟨u, by rw [cell_of_row _ _ v _ _ _ h1]; exact e, hu⟩
theorem PartsAt.frozen (h : PartsAt w base sb T) (v : Nat) : w.frozen? ⟨sb, v, none⟩ = false := by
  obtain ⟨cs, h1, _⟩ := h.blk
  exact frozen_of_row _ _ _ _ _ h1
theorem PartsAt.put (h : PartsAt w base sb T) {v : Nat} (hv : v < 24) (hr : PieceV w base u r) : PartsAt (w.setCell ⟨sb, v, none⟩ u) base sb (bindV T v r) ∧ w.grownBy (w.setCell ⟨sb, v, none⟩ u) (some sb) := by
  have hle := h.le
  obtain ⟨cs, h1, h2, h3⟩ := h.blk
  have hk : ∀ p : Addr, p.block < base → (w.setCell ⟨sb, v, none⟩ u).cell? p = w.cell? p := fun p hp => World.cell?_of_block (w := w) (Below.heap_setCell _ _ _ _ (by show p.block ≠ sb; omega))
  refine ⟨⟨⟨_, heap_setCell_same w sb v cs _ u h1, by simp [h2], fun x hx => ?_⟩, hle⟩, ⟨rfl, rfl, rfl, by simp, fun k _ hk => heap_setCell_other w ⟨sb, v, none⟩ k _ (fun e => hk (by simp [e]))⟩⟩
  by_cases e : x = v
  · subst e
    refine ⟨u, by rw [Array.getElem?_setIfInBounds]; simp [h2, hv], ?_⟩
    rw [bindV_at]
    exact hr.keep hk
  · obtain ⟨u', e1, hu⟩ := h3 x hx
    refine ⟨u', by rw [Array.getElem?_setIfInBounds, if_neg (fun h => e h.symm)]; exact e1, ?_⟩
    rw [bindV_ne _ _ e]
    exact hu.keep hk
end
/-- May the variable become the term? -/
def tkB (T : Nat → List Int) (v : Nat) (t : List Int) : Bool := decide (T v = [] ∨ T v = t)
def headB (t : List Int) (x : Int) : Bool := intAt t 0 == x

set_option maxHeartbeats 1000000 in
theorem firstTerm_any (A A' : Option Addr) (n c m c' B B' E : Nat) (ss : List Sym) (r : List Int) (w : World) (h : SymsAt w B A n ss) (hn : n ≤ maxLen) (hr : IntsAt w B' A' m r) (hm : m ≤ 48) (hmay : mayB ss = true) (hs : scanAt ss r 1 0 = (E : Int)) :
    Calls Try.prog 42 #[.slice A n c, .slice A' m c'] w fun e w' => e = .returned (.int .i64 (E : Int)) ∧ w = w' := by
  unfold maxLen at hn
  have HM := Lib.hid hmay
  have HS := Lib.hid hs
  have HL := Lib.hid hr.len
  have HSL := Lib.hid h.len
  clear hmay hs
  go_enter Try.func42, Try.ntmps42
  go_wp2
  go_loop [6, 5] (fun q i => ∃ k j : Nat, q = .int .i64 k ∧ i = .int .i64 j ∧ j ≤ m ∧ k ≤ 3 * j + 1 ∧ scanAt ss r k j = (E : Int)) (fun _ i => m + 1 - (intOf i).toNat)
  case atStart => exact ⟨1, 0, rfl, rfl, by omega, by omega, HS.out⟩
  case round =>
    obtain ⟨k, j, rfl, rfl, hj, hk, hsc⟩ := hrel
    have HSC := Lib.hid hsc
    clear hsc
    by_cases hk0 : k = 0
    · subst hk0
      go_wp2
      go_ret
      exact ⟨ret_int (by rw [← HSC.out, scanAt_zero]), rfl⟩
    · obtain ⟨k, rfl⟩ : ∃ q, k = q + 1 := ⟨k - 1, by omega⟩
      clear hk0
      have hlt : j < m := by
        rcases Nat.lt_or_ge j m with h | h
        · exact h
        · have := HSC.out
          rw [scanAt_end (by rw [HL.out]; exact h)] at this
          omega
      obtain ⟨b', off', rfl, _, hc'⟩ := hr.at_ (by omega)
      have hcx : w.cell? ⟨b', off' + j, none⟩ = some (.int .i64 (intAt r j)) := hc' j hlt
      have hlr : j < r.length := by rw [HL.out]; exact hlt
      have HX := Lib.hid (intAt_get hlr)
      have HLR := Lib.hid hlr
      clear hlr hc'
      cases ha : arOf ss (intAt r j)
      · have H := scanAt_bad (k := k) HLR.out HX.out ha
        rw [HSC.out] at H
        omega
      · rename_i a
        have H := Lib.hid (scanAt_step (k := k) HLR.out HX.out ha)
        by_cases hx : intAt r j < 0
        · obtain ⟨h1, rfl⟩ := ar_var hx ha
          have h4 : ¬ 0 ≤ intAt r j := by omega
          clear ha h1
          go_wp2
          go_round
          case rel => exact ⟨k, j + 1, by go_num, by go_num, by omega, by omega, by rw [← HSC.out, H.out]; rfl⟩
          case measure => simp [intOf]; omega
        · obtain ⟨h1, h2, h3, h4⟩ := ar_sym HM.out (by omega) ha
          obtain ⟨q, hq⟩ : ∃ q : Nat, intAt r j = (q : Int) := ⟨(intAt r j).toNat, by omega⟩
          rw [hq] at hcx h1 h2 h3 hx
          rw [Int.toNat_natCast] at h1 h2 h3
          rw [HSL.out] at h1
          obtain ⟨b, off, rfl, _, hc⟩ := h.at_ (by omega)
          obtain ⟨_, c1, c2, _⟩ := hc q h1
          rw [h3] at c2
          clear ha hc h2 h3 hq hx
          go_wp2
          go_round
          case rel => exact ⟨k + a, j + 1, by go_num, by go_num, by omega, by omega, by rw [← HSC.out, H.out]⟩
          case measure => simp [intOf]; omega

set_option maxHeartbeats 1000000 in
theorem equal_any (A B : Option Addr) (n c m d B1 B2 : Nat) (xs ys : List Int) (w : World) (hA : IntsAt w B1 A n xs) (hB : IntsAt w B2 B m ys) (hn : n ≤ maxLen) (hm : m ≤ maxLen) :
    Calls Try.prog 60 #[.slice A n c, .slice B m d] w fun e w' => e = .returned (.bool (sameI xs ys)) ∧ Below w.heap.size w w' := by
  unfold maxLen at hn hm
  have HX := Lib.hid hA.len
  have HY := Lib.hid hB.len
  by_cases hnm : n = m
  · subst hnm
    go_enter Try.func60, Try.ntmps60
    go_wp2
    go_loopw [13] (fun i wr => ∃ k q : Nat, k ≤ n ∧ i = .int .i64 k ∧ wr = w.drewN q ∧ ∀ i, i < k → intAt xs i = intAt ys i) (fun i _ => n - (intOf i).toNat)
    case atStart => exact ⟨0, 0, by omega, rfl, rfl, fun i hi => absurd hi (by omega)⟩
    case round =>
      obtain ⟨k, q, hk, rfl, rfl, hall⟩ := hrel
      have HALL := Lib.hid hall
      clear hall
      by_cases hlt : k < n
      · obtain ⟨b1, o1, rfl, _, h1⟩ := hA.at_ (by omega)
        obtain ⟨b2, o2, rfl, _, h2⟩ := hB.at_ (by omega)
        have c0 : w.cell? ⟨b1, o1 + k, none⟩ = some (.int .i64 (intAt xs k)) := h1 k hlt
        have d0 : w.cell? ⟨b2, o2 + k, none⟩ = some (.int .i64 (intAt ys k)) := h2 k hlt
        clear h1 h2
        have hi0 : (0 : Int) ≤ (k : Int) := by omega
        have hi2 : (k : Int) < (n : Int) := by omega
        by_cases he : intAt xs k = intAt ys k
        · have he' : (intAt xs k != intAt ys k) = false := by simp [he]
          have HE := Lib.hid he
          clear he
          go_wp2_with fail
          go_quiet (fail)
          go_wp2
          go_roundw
          case rel => exact ⟨k + 1, _, by omega, by go_num, rfl, fun i hi => if e : i = k then e ▸ HE.out else HALL.out i (by omega)⟩
          case measure => simp [intOf]; omega
        · have he' : (intAt xs k != intAt ys k) = true := by simp [he]
          have H := Lib.hid (sameI_not he)
          clear he
          go_wp2_with fail
          go_quiet (fail)
          go_wp2
          go_ret
          exact ⟨ret_b H.out.symm, (below_drewN w _).trans (below_drewN _ _)⟩
      · obtain rfl : k = n := by omega
        have H : Hid (sameI xs ys = true) := by
          show sameI xs ys = true
          unfold sameI
          exact decide_eq_true (list_int_ext (by rw [HX.out, HY.out]) (by rw [HX.out]; exact HALL.out))
        go_wp2
        go_ret
        exact ⟨ret_b H.out.symm, below_drewN w _⟩
  · have H := Lib.hid (sameI_len (xs := xs) (ys := ys) (by rw [HX.out, HY.out]; exact hnm))
    go_enter Try.func60, Try.ntmps60
    go_wp2
    go_ret
    exact ⟨ret_b H.out.symm, Below.refl _ _⟩

set_option maxHeartbeats 1000000 in
theorem take_sym (p : Value) (A : Option Addr) (n c B : Nat) (x : Int) (t : List Int) (w : World) (hx : 0 ≤ x) (h : IntsAt w B A n t) (hn : 1 ≤ n) :
    Calls Try.prog 43 #[p, .int .i64 x, .slice A n c] w fun e w' => e = .returned (.bool (headB t x)) ∧ w = w' := by
  obtain ⟨b, off, rfl, _, hc⟩ := h.at_ (by omega)
  have hc0 : w.cell? ⟨b, off, none⟩ = some (.int .i64 (intAt t 0)) := hc 0 (by omega)
  clear hc
  go_enter Try.func43, Try.ntmps43
  go_wp2
  go_ret
  exact ⟨rfl, rfl⟩

/-- What take tells of a variable. -/
def TakePost (base sb : Nat) (T : Nat → List Int) (v : Nat) (t : List Int) (w : World) (e : Ending) (w' : World) : Prop :=
  e = .returned (.bool (tkB T v t)) ∧ (tkB T v t = true → PartsAt w' base sb (bindV T v t)) ∧ w.grownBy w' (some sb)
theorem bindV_same {T : Nat → List Int} {v : Nat} : bindV T v (T v) = T := by
  funext x
  by_cases e : x = v
  · subst e; exact bindV_at _ _ _
  · exact bindV_ne _ _ e
set_option maxHeartbeats 1000000 in
theorem take_var (base sb v : Nat) (T : Nat → List Int) (A : Option Addr) (n c : Nat) (t : List Int) (w : World) (h : PartsAt w base sb T) (hv : v < 24) (ht : RowAt w base A n c t) (hne : t ≠ []) :
    Calls Try.prog 43 #[.pointer (some ⟨sb, 0, none⟩), .int .i64 (-1 - (v : Int)), .slice A n c] w (TakePost base sb T v t w) := by
  have HP := Lib.hid h
  have HT := Lib.hid ht
  have HNE := Lib.hid hne
  have HLE := Lib.hid h.le
  have HLT := Lib.hid h.lt
  have hfz := h.frozen v
  obtain ⟨u, hc, hu⟩ := h.cell hv
  have HPUT := Lib.hid (h.put hv (PieceV.of ht hne))
  have hxv : -1 - (-1 - (v : Int)) = (v : Int) := by omega
  have hx0 : ¬ 0 ≤ -1 - (v : Int) := by omega
  have u0 : (0 : Int) ≤ (v : Int) := by omega
  have u1 : (v : Int) < 24 := by omega
  rcases hu with ⟨rfl, he⟩ | ⟨b, off, n', c', rfl, hr, hn'⟩
  · have H : Hid (tkB T v t = true) := by show tkB T v t = true; unfold tkB; rw [he]; simp
    clear h ht hne he
    have hq := Lib.run_eql_slice_nil (P := Try.prog) w 23 3 none 0 0 0 0 Try.underlying23
    go_enter Try.func43, Try.ntmps43
    go_wp2_with fail
    refine (equal_any A A n c n c base base t t _ (HT.out.grown HPUT.out.2 HLE.out (by have := HLT.out; have := HLE.out; omega)).at_ (HT.out.grown HPUT.out.2 HLE.out (by have := HLT.out; have := HLE.out; omega)).at_ (by have := HT.out.few; unfold maxLen; omega) (by have := HT.out.few; unfold maxLen; omega)).mono ?_
    rintro e w1 ⟨rfl, hb1⟩
    rw [sameI_self]
    go_wp2
    go_ret
    exact ⟨ret_b H.out.symm, fun _ => HPUT.out.1.on hb1, grown_trans HPUT.out.2 (grown_of_below hb1)⟩
  · have HR := Lib.hid hr
    have HTV : Hid (T v ≠ []) := by
      intro e
      have hl := hr.at_.len
      rw [e] at hl
      simp at hl
      omega
    have H : Hid (tkB T v t = sameI (T v) t) := by
      show tkB T v t = sameI (T v) t
      unfold tkB sameI
      have := HTV.out
      simp [this]
    clear h ht hne hr
    have hq := Lib.run_eql_slice_nil (P := Try.prog) w 23 3 (some ⟨b, off, none⟩) n' c' 0 0 Try.underlying23
    go_enter Try.func43, Try.ntmps43
    go_wp2_with fail
    refine (equal_any _ A n' c' n c base base (T v) t _ HR.out.at_ HT.out.at_ (by have := HR.out.few; unfold maxLen; omega) (by have := HT.out.few; unfold maxLen; omega)).mono ?_
    rintro e w1 ⟨rfl, hb1⟩
    rw [← H.out]
    go_wp2
    go_ret
    refine ⟨rfl, fun hk => ?_, grown_of_below hb1⟩
    rw [H.out] at hk
    unfold sameI at hk
    have := of_decide_eq_true hk
    rw [← this, bindV_same]
    exact HP.out.on hb1
end Go.Proofs.Ytlmpapdpmmkjnaa
