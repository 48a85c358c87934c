/-
  Contracts of quaerelaw0: Num, SameInts, CopyInts, LendInts, KeptInts.
-/
import Derived.Test.YtlmpapdpmmkjnaaOwn
import Derived.WalkKit
import Derived.WalkSpells
import Derived.WalkLawsBesides
import Derived.Deep.QuietTactic
import Derived.BigQuiet
import Derived.Deep.DrawnRows
namespace Go.Proofs.Ytlmpapdpmmkjnaa
open Go.RowKit
set_option linter.unusedSimpArgs false
set_option linter.unusedVariables false

theorem num_any (n : Int) (w : World) : Calls Try.prog 13 #[.int .i64 n] w fun e w' => e = .returned (.int .i64 n) ∧ w = w' := by
  go_enter Try.func13, Try.ntmps13
  go_wp2
  go_ret
  exact ⟨rfl, rfl⟩

def sameI (xs ys : List Int) : Bool := decide (xs = ys)
theorem sameI_self (xs : List Int) : sameI xs xs = true := by simp [sameI]
theorem list_int_ext {xs ys : List Int} (hl : xs.length = ys.length) (h : ∀ i, i < xs.length → intAt xs i = intAt ys i) : xs = ys := by
  apply List.ext_getElem?
  intro i
  by_cases hi : i < xs.length
  · rw [intAt_get hi, intAt_get (by omega), h i hi]
  · rw [List.getElem?_eq_none (by omega), List.getElem?_eq_none (by omega)]
theorem sameI_len {xs ys : List Int} (h : xs.length ≠ ys.length) : sameI xs ys = false := by unfold sameI; exact decide_eq_false (fun e => h (by rw [e]))
theorem sameI_not {xs ys : List Int} {i : Nat} (h : intAt xs i ≠ intAt ys i) : sameI xs ys = false := by unfold sameI; exact decide_eq_false (fun e => h (by rw [e]))
theorem below_drewN {B : Nat} (w : World) (k : Nat) : Below B w (w.drewN k) := ⟨rfl, rfl, rfl, Nat.le_refl _, fun _ _ => rfl⟩
theorem ret_b {a b : Bool} (h : a = b) : Ending.returned (.bool a) = .returned (.bool b) := by rw [h]

set_option maxHeartbeats 1000000 in
theorem sameInts_any (A B : Option Addr) (n c m d B1 B2 : Nat) (xs ys : List Int) (w : World) (hA : IntsAt w B1 A n xs) (hB : IntsAt w B2 B m ys) (hn : n ≤ maxLen) (hm : m ≤ maxLen) :
    Calls Try.prog 19 #[.slice A n c, .slice B m d] w fun e w' => e = .returned (.bool (sameI xs ys)) ∧ Below w.heap.size w w' := by
  unfold maxLen at hn hm
  have HX := Lib.hid hA.len
  have HY := Lib.hid hB.len
  by_cases hnm : n = m
  · subst hnm
    go_enter Try.func19, Try.ntmps19
    go_wp2
    go_loopw [5] (fun i wr => ∃ k q : Nat, k ≤ n ∧ i = .int .i64 k ∧ wr = w.drewN q ∧ ∀ i, i < k → intAt xs i = intAt ys i) (fun i _ => n - (intOf i).toNat)
    case atStart => exact ⟨0, 0, by omega, rfl, rfl, fun i hi => absurd hi (by omega)⟩
    case round =>
      obtain ⟨k, q, hk, rfl, rfl, hall⟩ := hrel
      have HALL := Lib.hid hall
      clear hall
      by_cases hlt : k < n
      · obtain ⟨b1, o1, rfl, _, h1⟩ := hA.at_ (by omega)
        obtain ⟨b2, o2, rfl, _, h2⟩ := hB.at_ (by omega)
        have c0 : w.cell? ⟨b1, o1 + k, none⟩ = some (.int .i64 (intAt xs k)) := h1 k hlt
        have d0 : w.cell? ⟨b2, o2 + k, none⟩ = some (.int .i64 (intAt ys k)) := h2 k hlt
        clear h1 h2
        have hi0 : (0 : Int) ≤ (k : Int) := by omega
        have hi2 : (k : Int) < (n : Int) := by omega
        by_cases he : intAt xs k = intAt ys k
        · have he' : (intAt xs k != intAt ys k) = false := by simp [he]
          have HE := Lib.hid he
          clear he
          go_wp2_with fail
          go_quiet (fail)
          go_wp2
          go_roundw
          case rel => exact ⟨k + 1, _, by omega, by go_num, rfl, fun i hi => if e : i = k then e ▸ HE.out else HALL.out i (by omega)⟩
          case measure => simp [intOf]; omega
        · have he' : (intAt xs k != intAt ys k) = true := by simp [he]
          have H := Lib.hid (sameI_not he)
          clear he
          go_wp2_with fail
          go_quiet (fail)
          go_wp2
          go_ret
          exact ⟨ret_b H.out.symm, (below_drewN w _).trans (below_drewN _ _)⟩
      · obtain rfl : k = n := by omega
        have H : Hid (sameI xs ys = true) := by
          show sameI xs ys = true
          unfold sameI
          exact decide_eq_true (list_int_ext (by rw [HX.out, HY.out]) (by rw [HX.out]; exact HALL.out))
        go_wp2
        go_ret
        exact ⟨ret_b H.out.symm, below_drewN w _⟩
  · have H := Lib.hid (sameI_len (xs := xs) (ys := ys) (by rw [HX.out, HY.out]; exact hnm))
    go_enter Try.func19, Try.ntmps19
    go_wp2
    go_ret
    exact ⟨ret_b H.out.symm, Below.refl _ _⟩

theorem OwnI.empty (w : World) : OwnI (w.alloc (.cells #[] 3)) w.heap.size (.slice (some ⟨w.heap.size, 0, none⟩) 0 0) [] :=
  World.ownsRow_lit w #[] 0 (Nat.le_refl _) (by unfold maxLen; omega) rfl
theorem OwnI.lit (w : World) (xs : List Int) (h : xs.length ≤ maxLen) : OwnI (w.alloc (.cells (intCells xs).toArray 3)) w.heap.size (.slice (some ⟨w.heap.size, 0, none⟩) xs.length xs.length) xs := by
  have := World.ownsRow_lit (base := w.heap.size) (e := 3) (size := 1) w (intCells xs).toArray xs.length (Nat.le_refl _) h (by simp [intCells_length])
  simpa [OwnI] using this
theorem IntsAt.lit (w : World) (xs : List Int) : IntsAt (w.alloc (.cells (intCells xs).toArray 3)) (w.heap.size + 1) (some ⟨w.heap.size, 0, none⟩) xs.length xs :=
  ⟨rfl, fun hn => ⟨w.heap.size, 0, rfl, by omega, fun i hi => by
    rw [World.cell?_alloc_new, Nat.zero_add, List.getElem?_toArray, intCells_get xs i hi]⟩⟩

theorem IntsAt.news (w : World) (xs : List Int) : IntsAt (w.alloc (.cells (intCells xs).toArray 3)) (w.alloc (.cells (intCells xs).toArray 3)).heap.size (some ⟨w.heap.size, 0, none⟩) xs.length xs :=
  (IntsAt.lit w xs).more (by simp)

set_option maxHeartbeats 1000000 in
theorem copyInts_any (A : Option Addr) (n c : Nat) (xs : List Int) (w : World) (h : IntsAt w w.heap.size A n xs) (hn : n * 8 ≤ 140737488351232) :
    Calls Try.prog 21 #[.slice A n c] w (IntsRet xs w) := by
  by_cases h0 : n = 0
  · subst h0
    have hss : xs = [] := List.eq_nil_of_length_eq_zero h.len
    subst hss
    cases A with
    | none =>
      go_enter Try.func21, Try.ntmps21
      go_wp2
      go_ret
      exact ⟨_, rfl, OwnI.empty w, below_new w _⟩
    | some ad =>
      go_enter Try.func21, Try.ntmps21
      go_wp2
      go_ret
      exact ⟨_, rfl, OwnI.empty w, below_new w _⟩
  · obtain ⟨b, off, rfl, hb, _⟩ := h.at_ (by omega)
    go_enter Try.func21, Try.ntmps21
    go_wp2_with (at_builtin
                 refine app_ints rfl (.tmp 3) (.tmp 4) rfl w.heap.size _ [] rfl (OwnI.empty w) (some ⟨b, off, none⟩) n c w.heap.size xs rfl (fun h => by cases h) (h.below (below_new w _)) (by simp; omega) (by simp) ?_
                 intro v2 w2 hown2 hb2
                 have HOWN2 := Lib.hid hown2
                 have HB2 := Lib.hid hb2
                 clear hown2 hb2)
    go_ret
    exact ⟨_, rfl, HOWN2.out, (below_new w _).trans HB2.out⟩

/-- A row in a place with marked room behind it. -/
def Lent (w : World) (base : Nat) (v : Value) (xs : List Int) : Prop :=
  ∃ g cap : Nat, v = .slice (some ⟨g, 0, none⟩) xs.length cap ∧ xs.length + 2 ≤ cap ∧ OwnI w base (.slice (some ⟨g, 0, none⟩) (xs.length + 2) cap) (xs ++ [-7777, -8888])
theorem Lent.below {w w' : World} {base : Nat} {v : Value} {xs : List Int} (h : Lent w base v xs) (hb : Below w.heap.size w w') : Lent w' base v xs := by
  obtain ⟨g, cap, h1, h2, h3⟩ := h
  exact ⟨g, cap, h1, h2, h3.below hb⟩
theorem Lent.on {w w' : World} {base : Nat} {v : Value} {xs : List Int} (h : Lent w base v xs) (hb : Below w.heap.size w w') : Lent w' base v xs := h.below hb
theorem Lent.ints {w : World} {base : Nat} {v : Value} {xs : List Int} (h : Lent w base v xs) : ∃ A cap, v = .slice A xs.length cap ∧ xs.length ≤ cap ∧ IntsAt w w.heap.size A xs.length xs := by
  obtain ⟨g, cap, rfl, h2, h3⟩ := h
  obtain ⟨A, cap', e, _, hi⟩ := h3.intsAt
  injection e with e1 e2 e3
  subst e1
  have := hi.take (i := xs.length) (by simp)
  rw [List.take_append_of_le_length (Nat.le_refl _), List.take_length] at this
  exact ⟨_, _, rfl, by omega, this⟩
def LentRet (xs : List Int) (w : World) (e : Ending) (w' : World) : Prop :=
  ∃ v, e = .returned v ∧ Lent w' w.heap.size v xs ∧ Below w.heap.size w w'

set_option maxHeartbeats 1000000 in
theorem lendInts_any (A : Option Addr) (n c : Nat) (xs : List Int) (w : World) (h : IntsAt w w.heap.size A n xs) (hn : n * 8 ≤ 140737488351232) :
    Calls Try.prog 9 #[.slice A n c] w (LentRet xs w) := by
  have HL := Lib.hid h.len
  go_enter Try.func9, Try.ntmps9
  go_wp2_with fail
  refine (copyInts_any A n c xs _ h hn).mono ?_
  rintro e w1 ⟨v1, rfl, hown1, hb1⟩
  have HO1 := Lib.hid hown1
  have HB1 := Lib.hid hb1
  have hz1 := hb1.size
  clear hown1 hb1
  go_wp2_with (at_builtin
               refine app_ints rfl (.tmp 5) (.tmp 6) rfl w.heap.size _ xs rfl (HO1.out.alloc _) (some ⟨w1.heap.size, 0, none⟩) 2 2 (w1.heap.size + 1) [-7777, -8888] rfl (fun h => by cases h) (IntsAt.lit w1 [-7777, -8888]) (by rw [HL.out]; omega) (by simp; omega) ?_
               intro v2 w2 hown2 hb2
               obtain ⟨g, cap, rfl, hg1, hg2, hg3⟩ : ∃ g cap, v2 = .slice (some ⟨g, 0, none⟩) (n + 2) cap ∧ w.heap.size ≤ g ∧ g < w2.heap.size ∧ n + 2 ≤ cap := by
                 rcases hown2.shape with ⟨_, e⟩ | ⟨g, cap, e, e1, e2, e3⟩
                 · simp at e
                 · rw [List.length_append, HL.out] at e e3
                   exact ⟨g, cap, e, e1, e2, e3⟩
               have hown3 : OwnI w2 w.heap.size (.slice (some ⟨g, 0, none⟩) (n + 2) cap) (xs ++ [-7777, -8888]) := hown2
               have HOWN2 := Lib.hid hown3
               have HB2 := Lib.hid hb2
               clear hown2 hb2 hown3)
  go_ret
  refine ⟨_, rfl, ⟨g, cap, by rw [HL.out]; rfl, by rw [HL.out]; exact hg3, by rw [HL.out]; exact HOWN2.out⟩, HB1.out.trans (((below_new w1 _).mono hz1).trans HB2.out)⟩

set_option maxHeartbeats 1000000 in
theorem keptInts_any (v : Value) (base : Nat) (A : Option Addr) (n c : Nat) (xs : List Int) (w : World) (hv : Lent w base v xs) (h : IntsAt w w.heap.size A n xs) (hn : n * 8 ≤ 140737488351232) :
    Calls Try.prog 15 #[v, .slice A n c] w fun e w' => e = .returned (.bool true) ∧ Below w.heap.size w w' := by
  have HL := Lib.hid h.len
  obtain ⟨A', cap', e1, e2, e3⟩ := hv.ints
  obtain ⟨g, cap, rfl, hc2, hown⟩ := hv
  injection e1 with q1 q2 q3
  subst q1 q3
  rw [HL.out] at e2 e3 hc2 hown ⊢
  clear q2
  obtain ⟨A2, cap2, e4, _, hi⟩ := hown.intsAt
  injection e4 with q1 q2 q3
  subst q1 q3
  clear q2
  obtain ⟨b2, o2, q1, _, hcc⟩ := hi.at_ (by simp)
  injection q1 with q1
  injection q1 with q1 q2
  subst q1 q2
  have k0 : w.cell? ⟨g, n, none⟩ = some (.int .i64 (-7777)) := by
    have : w.cell? ⟨g, 0 + n, none⟩ = some (.int .i64 (intAt (xs ++ [-7777, -8888]) n)) := hcc n (by simp; have := HL.out; omega)
    rw [Nat.zero_add] at this
    rw [this]
    have e : intAt (xs ++ [-7777, -8888]) n = -7777 := by
      unfold intAt; rw [List.getD_eq_getElem?_getD, List.getElem?_append_right (by rw [HL.out]; omega), HL.out]; simp
    rw [e]
  have k1 : w.cell? ⟨g, n + 1, none⟩ = some (.int .i64 (-8888)) := by
    have : w.cell? ⟨g, 0 + (n + 1), none⟩ = some (.int .i64 (intAt (xs ++ [-7777, -8888]) (n + 1))) := hcc (n + 1) (by simp; have := HL.out; omega)
    rw [Nat.zero_add] at this
    rw [this]
    have e : intAt (xs ++ [-7777, -8888]) (n + 1) = -8888 := by
      unfold intAt; rw [List.getD_eq_getElem?_getD, List.getElem?_append_right (by rw [HL.out]; omega), HL.out]
      have : n + 1 - n = 1 := by omega
      rw [this]; rfl
    rw [e]
  have hlt : g < w.heap.size := World.block_lt_of_cell? _ _ k0
  clear hcc hi hown
  go_enter Try.func15, Try.ntmps15
  go_wp2_with fail
  refine (sameInts_any _ _ n _ n c _ _ xs xs _ e3 h (by unfold maxLen; omega) (by unfold maxLen; omega)).mono ?_
  rintro e w1 ⟨rfl, hb1⟩
  rw [sameI_self]
  have k0' : w1.cell? ⟨g, n, none⟩ = some (.int .i64 (-7777)) := by rw [hb1.cell hlt]; exact k0
  have k1' : w1.cell? ⟨g, n + 1, none⟩ = some (.int .i64 (-8888)) := by rw [hb1.cell hlt]; exact k1
  clear k0 k1
  go_wp2
  go_ret
  exact ⟨rfl, hb1⟩

end Go.Proofs.Ytlmpapdpmmkjnaa
