/-
  Words for memory: a row. Contracts: shape.FirstTerm, and slices.Equal for rows of integers.
-/
import Derived.Test.YtmdajmdjmdbonaaPlainUni
import Derived.Test.YtmdajmdjmdbonaaBaseMore
import Derived.Test.YtmdajmdjmdbonaaBaseTerm
import Derived.Test.YtmdajmdjmdbonaaBaseSym
import Derived.BigQuiet
import Derived.Lib.SliceRun
namespace Go.Proofs.Ytmdajmdjmdbonaa
open Go.RowKit
set_option linter.unusedSimpArgs false
set_option linter.unusedVariables false
set_option maxRecDepth 100000

/-- The slice value '.slice A n c' holds the row r, below block base. -/
structure RowAt (w : World) (base : Nat) (A : Option Addr) (n c : Nat) (r : List Int) : Prop where
  at_ : IntsAt w base A n r
  cap : n ≤ c
  few : n ≤ 48
def RowV (w : World) (base : Nat) (v : Value) (r : List Int) : Prop := ∃ A n c, v = .slice A n c ∧ RowAt w base A n c r
section
variable {w w' : World} {base sb : Nat} {A : Option Addr} {n c : Nat} {r : List Int} {u : Value}
theorem RowAt.keep (h : RowAt w base A n c r) (hk : ∀ p : Addr, p.block < base → w'.cell? p = w.cell? p) : RowAt w' base A n c r := ⟨h.at_.keep hk, h.cap, h.few⟩
theorem RowV.keep (h : RowV w base u r) (hk : ∀ p : Addr, p.block < base → w'.cell? p = w.cell? p) : RowV w' base u r := by
  obtain ⟨A, n, c, e, h⟩ := h
  exact ⟨A, n, c, e, h.keep hk⟩
theorem RowAt.below (h : RowAt w base A n c r) (hb : Below base w w') : RowAt w' base A n c r := h.keep fun _ hp => hb.cell hp
theorem grown_of_below {row : Option Nat} (h : Below w.heap.size w w') : w.grownBy w' row := ⟨h.os, h.tape, h.output, h.size, fun k hk _ => h.block k hk⟩
theorem grown_trans {row : Option Nat} {w2 : World} (h : w.grownBy w' row) (k : w'.grownBy w2 row) : w.grownBy w2 row :=
  ⟨k.os.trans h.os, k.tape.trans h.tape, k.output.trans h.output, Nat.le_trans h.size k.size, fun i hi hr => (k.block i (Nat.lt_of_lt_of_le hi h.size) hr).trans (h.block i hi hr)⟩
theorem grown_refl {row : Option Nat} : w.grownBy w row := ⟨rfl, rfl, rfl, Nat.le_refl _, fun _ _ _ => rfl⟩
theorem RowAt.grown (h : RowAt w base A n c r) (hg : w.grownBy w' (some sb)) (hle : base ≤ sb) (hw : base ≤ w.heap.size) : RowAt w' base A n c r :=
  h.keep fun p hp => World.cell?_of_block (w := w) (hg.block p.block (by omega) (by simp; omega))
theorem RowAt.var {v : Nat} (h : RowAt w base A n c [-1 - (v : Int)]) : n = 1 ∧ ∃ b off, A = some ⟨b, off, none⟩ ∧ b < base ∧ w.cell? ⟨b, off, none⟩ = some (.int .i64 (-1 - (v : Int))) := by
  have hl := h.at_.len
  have hn : n = 1 := by rw [← hl]; rfl
  subst hn
  obtain ⟨b, off, e, hb, hc⟩ := h.at_.at_ (by omega)
  refine ⟨rfl, b, off, e, hb, ?_⟩
  have := hc 0 (by omega)
  rw [Nat.add_zero] at this
  exact this
theorem RowAt.head {x : Int} {s : List Int} (h : RowAt w base A n c (x :: s)) : ∃ b off, A = some ⟨b, off, none⟩ ∧ b < base ∧ w.cell? ⟨b, off, none⟩ = some (.int .i64 x) ∧ n = s.length + 1 := by
  have hl := h.at_.len
  have hn : n = s.length + 1 := by rw [← hl]; rfl
  obtain ⟨b, off, e, hb, hc⟩ := h.at_.at_ (by omega)
  refine ⟨b, off, e, hb, ?_, hn⟩
  have := hc 0 (by omega)
  rw [Nat.add_zero] at this
  exact this
end

set_option maxHeartbeats 1000000 in
theorem firstTerm_any (A A' : Option Addr) (n c m c' B B' E : Nat) (ss : List Sym) (r : List Int) (w : World) (h : SymsAt w B A n ss) (hn : n ≤ maxLen) (hr : IntsAt w B' A' m r) (hm : m ≤ 48) (hmay : mayB ss = true) (hs : scanAt ss r 1 0 = (E : Int)) :
    Calls Try.prog 17 #[.slice A n c, .slice A' m c'] w fun e w' => e = .returned (.int .i64 (E : Int)) ∧ w = w' := by
  unfold maxLen at hn
  have HM := Lib.hid hmay
  have HS := Lib.hid hs
  have HL := Lib.hid hr.len
  have HSL := Lib.hid h.len
  clear hmay hs
  go_enter Try.func17, Try.ntmps17
  go_wp2
  go_loop [6, 5] (fun q i => ∃ k j : Nat, q = .int .i64 k ∧ i = .int .i64 j ∧ j ≤ m ∧ k ≤ 3 * j + 1 ∧ scanAt ss r k j = (E : Int)) (fun _ i => m + 1 - (intOf i).toNat)
  case atStart => exact ⟨1, 0, rfl, rfl, by omega, by omega, HS.out⟩
  case round =>
    obtain ⟨k, j, rfl, rfl, hj, hk, hsc⟩ := hrel
    have HSC := Lib.hid hsc
    clear hsc
    by_cases hk0 : k = 0
    · subst hk0
      go_wp2
      go_ret
      exact ⟨ret_int (by rw [← HSC.out, scanAt_zero]), rfl⟩
    · obtain ⟨k, rfl⟩ : ∃ q, k = q + 1 := ⟨k - 1, by omega⟩
      clear hk0
      have hlt : j < m := by
        rcases Nat.lt_or_ge j m with h | h
        · exact h
        · have := HSC.out
          rw [scanAt_end (by rw [HL.out]; exact h)] at this
          omega
      obtain ⟨b', off', rfl, _, hc'⟩ := hr.at_ (by omega)
      have hcx : w.cell? ⟨b', off' + j, none⟩ = some (.int .i64 (intAt r j)) := hc' j hlt
      have hlr : j < r.length := by rw [HL.out]; exact hlt
      have HX := Lib.hid (intAt_get hlr)
      have HLR := Lib.hid hlr
      clear hlr hc'
      cases ha : arOf ss (intAt r j)
      · have H := scanAt_bad (k := k) HLR.out HX.out ha
        rw [HSC.out] at H
        omega
      · rename_i a
        have H := Lib.hid (scanAt_step (k := k) HLR.out HX.out ha)
        by_cases hx : intAt r j < 0
        · obtain ⟨h1, rfl⟩ := ar_var hx ha
          have h4 : ¬ 0 ≤ intAt r j := by omega
          clear ha h1
          go_wp2
          go_round
          case rel => exact ⟨k, j + 1, by go_num, by go_num, by omega, by omega, by rw [← HSC.out, H.out]; rfl⟩
          case measure => simp [intOf]; omega
        · obtain ⟨h1, h2, h3, h4⟩ := ar_sym HM.out (by omega) ha
          obtain ⟨q, hq⟩ : ∃ q : Nat, intAt r j = (q : Int) := ⟨(intAt r j).toNat, by omega⟩
          rw [hq] at hcx h1 h2 h3 hx
          rw [Int.toNat_natCast] at h1 h2 h3
          rw [HSL.out] at h1
          obtain ⟨b, off, rfl, _, hc⟩ := h.at_ (by omega)
          obtain ⟨_, c1, c2, _⟩ := hc q h1
          rw [h3] at c2
          clear ha hc h2 h3 hq hx
          go_wp2
          go_round
          case rel => exact ⟨k + a, j + 1, by go_num, by go_num, by omega, by omega, by rw [← HSC.out, H.out]⟩
          case measure => simp [intOf]; omega

set_option maxHeartbeats 1000000 in
theorem equal_quiet (A B : Option Addr) (n c m d B1 B2 : Nat) (xs ys : List Int) (w : World) (hA : IntsAt w B1 A n xs) (hB : IntsAt w B2 B m ys) (hn : n ≤ maxLen) (hm : m ≤ maxLen) :
    Calls Try.prog 23 #[.slice A n c, .slice B m d] w fun e w' => e = .returned (.bool (sameI xs ys)) ∧ ∃ m, w' = w.drewN m := by
  unfold maxLen at hn hm
  have HX := Lib.hid hA.len
  have HY := Lib.hid hB.len
  by_cases hnm : n = m
  · subst hnm
    go_enter Try.func23, Try.ntmps23
    go_wp2
    go_loopw [13] (fun i wr => ∃ k q : Nat, k ≤ n ∧ i = .int .i64 k ∧ wr = w.drewN q ∧ ∀ i, i < k → intAt xs i = intAt ys i) (fun i _ => n - (intOf i).toNat)
    case atStart => exact ⟨0, 0, by omega, rfl, rfl, fun i hi => absurd hi (by omega)⟩
    case round =>
      obtain ⟨k, q, hk, rfl, rfl, hall⟩ := hrel
      have HALL := Lib.hid hall
      clear hall
      by_cases hlt : k < n
      · obtain ⟨b1, o1, rfl, _, h1⟩ := hA.at_ (by omega)
        obtain ⟨b2, o2, rfl, _, h2⟩ := hB.at_ (by omega)
        have c0 : w.cell? ⟨b1, o1 + k, none⟩ = some (.int .i64 (intAt xs k)) := h1 k hlt
        have d0 : w.cell? ⟨b2, o2 + k, none⟩ = some (.int .i64 (intAt ys k)) := h2 k hlt
        clear h1 h2
        have hi0 : (0 : Int) ≤ (k : Int) := by omega
        have hi2 : (k : Int) < (n : Int) := by omega
        by_cases he : intAt xs k = intAt ys k
        · have he' : (intAt xs k != intAt ys k) = false := by simp [he]
          have HE := Lib.hid he
          clear he
          go_wp2_with fail
          go_quiet (fail)
          go_wp2
          go_roundw
          case rel => exact ⟨k + 1, _, by omega, by go_num, rfl, fun i hi => if e : i = k then e ▸ HE.out else HALL.out i (by omega)⟩
          case measure => simp [intOf]; omega
        · have he' : (intAt xs k != intAt ys k) = true := by simp [he]
          have H := Lib.hid (sameI_not he)
          clear he
          go_wp2_with fail
          go_quiet (fail)
          go_wp2
          go_ret
          exact ⟨ret_b H.out.symm, _, World.drewN_drewN ..⟩
      · obtain rfl : k = n := by omega
        have H : Hid (sameI xs ys = true) := by
          show sameI xs ys = true
          unfold sameI
          exact decide_eq_true (list_int_ext (by rw [HX.out, HY.out]) (by rw [HX.out]; exact HALL.out))
        go_wp2
        go_ret
        exact ⟨ret_b H.out.symm, _, rfl⟩
  · have H := Lib.hid (sameI_len (xs := xs) (ys := ys) (by rw [HX.out, HY.out]; exact hnm))
    go_enter Try.func23, Try.ntmps23
    go_wp2
    go_ret
    exact ⟨ret_b H.out.symm, 0, rfl⟩

theorem equal_any (A B : Option Addr) (n c m d B1 B2 : Nat) (xs ys : List Int) (w : World) (hA : IntsAt w B1 A n xs) (hB : IntsAt w B2 B m ys) (hn : n ≤ maxLen) (hm : m ≤ maxLen) :
    Calls Try.prog 23 #[.slice A n c, .slice B m d] w fun e w' => e = .returned (.bool (sameI xs ys)) ∧ Below w.heap.size w w' := by
  refine (equal_quiet A B n c m d B1 B2 xs ys w hA hB hn hm).mono fun e w' ⟨h1, k, h2⟩ => ⟨h1, ?_⟩
  rw [h2]
  exact below_drewN w _
theorem equal_still (A B : Option Addr) (n c m d B1 B2 q : Nat) (xs ys : List Int) (w : World) (hA : IntsAt w B1 A n xs) (hB : IntsAt w B2 B m ys) (hn : n ≤ maxLen) (hm : m ≤ maxLen) {b : Bool} (hb : sameI xs ys = b) :
    Calls Try.prog 23 #[.slice A n c, .slice B m d] (w.drewN q) fun e w' => e = .returned (.bool b) ∧ ∃ m, w' = w.drewN m := by
  subst hb
  refine (equal_quiet A B n c m d B1 B2 xs ys _ (hA.drewN q) (hB.drewN q) hn hm).mono fun e w' ⟨h1, k, h2⟩ => ⟨h1, q + k, ?_⟩
  rw [h2]
  simp [World.drewN, Nat.add_assoc]
end Go.Proofs.Ytmdajmdjmdbonaa
