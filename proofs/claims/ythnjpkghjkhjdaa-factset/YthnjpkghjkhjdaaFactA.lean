/-
  Contracts of package fact and of the reference that only read: the sum of a fact, what is a fact, its slot, its place.
-/
import Derived.Test.YthnjpkghjkhjdaaMemTab
import Derived.Test.YthnjpkghjkhjdaaRefLits
import Derived.Test.YthnjpkghjkhjdaaRefVarsAll
namespace Go.Proofs.Ythnjpkghjkhjdaa
open Go.RowKit Go.Deep
set_option linter.unusedSimpArgs false
set_option linter.unusedVariables false
set_option maxRecDepth 100000

theorem hash_any (A : Option Addr) (n c B : Nat) (a : List Int) (w : World) (h : IntsAt w B A n a) (hc : FactC a) :
    Calls Try.prog 31 #[.slice A n c] w fun e w' => e = .returned (.int .i64 (hashF a : Nat)) ∧ w = w' := by
  have HL := Lib.hid h.len
  have HC := Lib.hid hc
  have hn : n ≤ 49 := by rw [← h.len]; exact hc.len
  clear hc
  go_enter Try.func31, Try.ntmps31
  go_wp2
  go_loop [3, 8] (fun q i => ∃ k : Nat, q = .int .i64 (hashF (a.take k) : Nat) ∧ i = .int .i64 k ∧ k ≤ n) (fun _ i => n - (intOf i).toNat)
  case atStart => exact ⟨0, rfl, rfl, by omega⟩
  case round =>
    obtain ⟨k, rfl, rfl, hk⟩ := hrel
    by_cases hlt : k < n
    · obtain ⟨b', off', rfl, hb', hc'⟩ := h.at_ (by omega)
      have hcx : w.cell? ⟨b', off' + k, none⟩ = some (.int .i64 (intAt a k)) := hc' k hlt
      clear hc'
      have hlr : k < a.length := by rw [HL.out]; exact hlt
      have x1 := HC.out.lo k hlr
      have x2 := HC.out.hi k hlr
      have HT := Lib.hid (hashF_next hlr)
      obtain ⟨x, hx⟩ : ∃ x : Nat, intAt a k = x := ⟨(intAt a k).toNat, by omega⟩
      obtain ⟨m, hm⟩ : ∃ m : Nat, m = hashF (a.take k) := ⟨_, rfl⟩
      have hm2 : m < 1009 := by rw [hm]; exact hashF_lt _
      rw [hx, ← hm] at HT
      rw [hx] at hcx x1 x2
      rw [← hm]
      clear hx hm hlr
      go_wp2
      go_round
      case rel => exact ⟨k + 1, by rw [HT.out]; go_num, by go_num, by omega⟩
      case measure => simp [intOf]; omega
    · obtain rfl : k = n := by omega
      go_wp2
      go_ret
      exact ⟨by rw [List.take_of_length_le (by rw [HL.out]; exact Nat.le_refl _)]; rfl, rfl⟩
theorem refSum_any (A : Option Addr) (n c B : Nat) (a : List Int) (w : World) (h : IntsAt w B A n a) (hc : FactC a) :
    Calls Try.prog 33 #[.slice A n c] w fun e w' => e = .returned (.int .i64 (hashF a : Nat)) ∧ w = w' := by
  have HL := Lib.hid h.len
  have HC := Lib.hid hc
  have hn : n ≤ 49 := by rw [← h.len]; exact hc.len
  clear hc
  go_enter Try.func33, Try.ntmps33
  go_wp2
  go_loop [3, 4] (fun q i => ∃ k : Nat, q = .int .i64 (hashF (a.take k) : Nat) ∧ i = .int .i64 k ∧ k ≤ n) (fun _ i => n - (intOf i).toNat)
  case atStart => exact ⟨0, rfl, rfl, by omega⟩
  case round =>
    obtain ⟨k, rfl, rfl, hk⟩ := hrel
    by_cases hlt : k < n
    · obtain ⟨b', off', rfl, hb', hc'⟩ := h.at_ (by omega)
      have hcx : w.cell? ⟨b', off' + k, none⟩ = some (.int .i64 (intAt a k)) := hc' k hlt
      clear hc'
      have hlr : k < a.length := by rw [HL.out]; exact hlt
      have x1 := HC.out.lo k hlr
      have x2 := HC.out.hi k hlr
      have HT := Lib.hid (hashF_next hlr)
      obtain ⟨x, hx⟩ : ∃ x : Nat, intAt a k = x := ⟨(intAt a k).toNat, by omega⟩
      obtain ⟨m, hm⟩ : ∃ m : Nat, m = hashF (a.take k) := ⟨_, rfl⟩
      have hm2 : m < 1009 := by rw [hm]; exact hashF_lt _
      rw [hx, ← hm] at HT
      rw [hx] at hcx x1 x2
      rw [← hm]
      clear hx hm hlr
      go_wp2
      go_round
      case rel => exact ⟨k + 1, by rw [HT.out]; go_num, by go_num, by omega⟩
      case measure => simp [intOf]; omega
    · obtain rfl : k = n := by omega
      go_wp2
      go_ret
      exact ⟨by rw [List.take_of_length_le (by rw [HL.out]; exact Nat.le_refl _)]; rfl, rfl⟩

/-- The least of some codes is 0 or more just if each of them is. -/
def MinPost (a : List Int) (w : World) (e : Ending) (w' : World) : Prop := ∃ v : Int, e = .returned (.int .i64 v) ∧ (0 ≤ v ↔ ∀ j, j < a.length → 0 ≤ intAt a j) ∧ w = w'
theorem min_step {a : List Int} {k : Nat} {v x : Int} (h : 0 ≤ v ↔ ∀ j, j < k → 0 ≤ intAt a j) (hx : intAt a k = x) : 0 ≤ min v x ↔ ∀ j, j < k + 1 → 0 ≤ intAt a j := by
  constructor
  · intro q j hj
    by_cases z : j = k
    · rw [z, hx]; omega
    · exact h.1 (by omega) j (by omega)
  · intro q
    have h1 := h.2 fun j hj => q j (by omega)
    have h2 := q k (by omega)
    rw [hx] at h2
    omega
theorem run_min_two (w : World) (ts : Array TypeId) (t : TypeId) (k k' : IntKind) (x y : Int) : (Builtin.min_ ts t #[.int k x, .int k' y]).run Try.prog w = .ok (.int k (min x y)) w := by
  have e : (if y < x then y else x) = min x y := by
    rw [Int.min_def]
    split <;> split <;> omega
  simp [Builtin.min_, Builtin.min2, e]
theorem min_any (A : Option Addr) (n c B : Nat) (a : List Int) (w : World) (h : IntsAt w B A n a) (h1 : 1 ≤ n) (hn : n ≤ maxLen) :
    Calls Try.prog 52 #[.slice A n c] w (MinPost a w) := by
  have HL := Lib.hid h.len
  unfold maxLen at hn
  obtain ⟨b', off', rfl, hb', hc'⟩ := h.at_ (by omega)
  have HC : Hid (∀ k, k < n → w.cell? ⟨b', off' + k, none⟩ = some (.int .i64 (intAt a k))) := hc'
  have c0 : w.cell? ⟨b', off', none⟩ = some (.int .i64 (intAt a 0)) := by have := HC.out 0 (by omega); rwa [Nat.add_zero] at this
  obtain ⟨x0, hx0⟩ : ∃ x0, x0 = intAt a 0 := ⟨_, rfl⟩
  rw [← hx0] at c0
  have HX0 := Lib.hid hx0
  have hz : ¬ (n : Int) < 1 := by omega
  have hz1 : ¬ n < 1 := by omega
  have hz2 : 0 < n := by omega
  have hz3 : (0 : Int) < (n : Int) := by omega
  clear hc' h hx0
  go_enter Try.func52, Try.ntmps52
  go_wp2
  go_loop [3, 4] (fun q i => ∃ (k : Nat) (v : Int), q = .int .i64 v ∧ i = .int .i64 k ∧ 1 ≤ k ∧ k ≤ n ∧ Hid (0 ≤ v ↔ ∀ j, j < k → 0 ≤ intAt a j)) (fun _ i => n - (intOf i).toNat)
  case atStart =>
    refine ⟨1, x0, rfl, rfl, Nat.le_refl _, h1, ?_⟩
    show _ ↔ _
    rw [HX0.out]
    exact ⟨fun q j hj => by obtain rfl : j = 0 := by omega
                            exact q, fun q => q 0 (by omega)⟩
  case round =>
    obtain ⟨k, v, rfl, rfl, hk1, hk, HV⟩ := hrel
    by_cases hlt : k < n
    · have hcx := HC.out k hlt
      obtain ⟨x, hx⟩ : ∃ x, x = intAt a k := ⟨_, rfl⟩
      rw [← hx] at hcx
      have HX := Lib.hid hx
      have hmin := fun w ts t => run_min_two w ts t .i64 .i64 v x
      clear hx
      go_wp2
      go_round
      case rel => exact ⟨k + 1, min v x, rfl, by go_num, by omega, by omega, min_step HV.out HX.out.symm⟩
      case measure => simp [intOf]; omega
    · obtain rfl : k = n := by omega
      go_wp2
      go_ret
      exact ⟨v, rfl, by rw [HL.out]; exact HV.out, rfl⟩
theorem all_codes {a : List Int} : (a.all fun c => decide (0 ≤ c)) = true ↔ ∀ j, j < a.length → 0 ≤ intAt a j := by
  rw [List.all_eq_true]
  constructor
  · intro h j hj
    exact of_decide_eq_true (h _ (List.mem_of_getElem? (intAt_get hj)))
  · intro h x hx
    obtain ⟨j, hj, rfl⟩ := List.mem_iff_getElem.1 hx
    have := h j hj
    have e := intAt_get hj
    rw [List.getElem?_eq_getElem hj] at e
    injection e with e
    exact decide_eq_true (by rw [e]; exact this)
theorem factB_min {ss : List Sym} {a : List Int} {v : Int} (h : 0 ≤ v ↔ ∀ j, j < a.length → 0 ≤ intAt a j) (hat : atomB ss a = true) : factB ss a = decide (0 ≤ v) := by
  unfold factB
  rw [hat, Bool.true_and]
  by_cases q : 0 ≤ v
  · rw [decide_eq_true q]; exact all_codes.2 (h.1 q)
  · rw [decide_eq_false q]
    cases z : a.all fun c => decide (0 ≤ c)
    · rfl
    · exact absurd (h.2 (all_codes.1 z)) q
theorem factB_no {ss : List Sym} {a : List Int} (h : atomB ss a = false) : factB ss a = false := by unfold factB; rw [h]; rfl
set_option maxHeartbeats 1000000 in
theorem isFact_any (A A' : Option Addr) (n c m c' : Nat) (ss : List Sym) (a : List Int) (w : World) (h : SymsAt w w.heap.size A n ss) (hn : n ≤ maxLen) (hnc : n ≤ c) (hr : IntsAt w w.heap.size A' m a) (hm : m ≤ maxLen) (hmc : m ≤ c') :
    Calls Try.prog 30 #[.slice A n c, .slice A' m c'] w fun e w' => e = .returned (.bool (factB ss a)) ∧ Below w.heap.size w w' := by
  have HS := Lib.hid h
  have HR := Lib.hid hr
  clear h hr
  go_enter Try.func30, Try.ntmps30
  go_wp2_with fail
  refine (isAtom_any A A' n c m c' ss a _ HS.out hn hnc HR.out hm hmc).mono ?_
  rintro e w1 ⟨rfl, hb1⟩
  have HB1 := Lib.hid hb1
  cases hat : atomB ss a
  · have HX := Lib.hid (factB_no hat)
    clear hat hb1
    go_wp2
    go_ret
    exact ⟨ret_b HX.out.symm, HB1.out⟩
  · have HAT := Lib.hid hat
    have h1 : 1 ≤ m := by
      obtain ⟨x, r, e, _⟩ := atom_parts hat
      rw [← HR.out.len, e]; simp
    clear hat hb1
    go_wp2_with fail
    refine (min_any A' m c' _ a _ (HR.out.on HB1.out) h1 hm).mono ?_
    rintro e w2 ⟨v, rfl, hv, rfl⟩
    have HX := Lib.hid (factB_min hv HAT.out)
    clear hv
    by_cases q : 0 ≤ v
    · have q' := decide_eq_true q
      have HX2 : Hid (factB ss a = true) := by show _ = _; rw [HX.out]; exact q'
      go_wp2
      go_ret
      exact ⟨ret_b HX2.out.symm, HB1.out⟩
    · have q' := decide_eq_false q
      have HX2 : Hid (factB ss a = false) := by show _ = _; rw [HX.out]; exact q'
      go_wp2
      go_ret
      exact ⟨ret_b HX2.out.symm, HB1.out⟩
/-- No variable is below 24 in an atom just if no code is below 0. -/
theorem factB_vars {ss : List Sym} {a : List Int} (hat : atomB ss a = true) : factB ss a = decide ((varsN a 24).length = 0) := by
  obtain ⟨hm, hx⟩ := atom_ex hat
  have hc := hx.codes hm
  unfold factB
  rw [hat, Bool.true_and]
  have key : (a.all fun c => decide (0 ≤ c)) = true ↔ (varsN a 24).length = 0 := by
    rw [all_codes]
    constructor
    · intro h
      rw [List.length_eq_zero_iff]
      unfold varsN
      rw [List.map_eq_nil_iff, List.filter_eq_nil_iff]
      intro v _ q
      unfold hasV at q
      obtain ⟨c, hmem, hce⟩ := List.any_eq_true.1 q
      have hce := beq_iff_eq.1 hce
      obtain ⟨j, hj, e⟩ := List.mem_iff_getElem.1 hmem
      have h2 := h j hj
      have e2 := intAt_get hj
      rw [List.getElem?_eq_getElem hj] at e2
      injection e2 with e2
      rw [← e2, e] at h2
      omega
    · intro h j hj
      rw [List.length_eq_zero_iff] at h
      unfold varsN at h
      rw [List.map_eq_nil_iff, List.filter_eq_nil_iff] at h
      have b := (code_at hc hj).1
      rcases Int.lt_or_le (intAt a j) 0 with z | z
      · exfalso
        refine h (-1 - intAt a j).toNat (List.mem_range.2 (by omega)) ?_
        unfold hasV
        exact List.any_eq_true.2 ⟨_, List.mem_of_getElem? (intAt_get hj), beq_iff_eq.2 (by omega)⟩
      · exact z
  cases q : a.all fun c => decide (0 ≤ c)
  · rw [decide_eq_false (fun z => by rw [key.2 z] at q; cases q)]
  · rw [decide_eq_true (key.1 q)]
set_option maxHeartbeats 1000000 in
theorem refIsFact_any (A A' : Option Addr) (n c m c' : Nat) (ss : List Sym) (a : List Int) (w : World) (h : SymsAt w w.heap.size A n ss) (hn : n ≤ maxLen) (hr : IntsAt w w.heap.size A' m a) (hm : m ≤ maxLen) (hmc : m ≤ c') :
    Calls Try.prog 32 #[.slice A n c, .slice A' m c'] w fun e w' => e = .returned (.bool (factB ss a)) ∧ Below w.heap.size w w' := by
  have HS := Lib.hid h
  have HR := Lib.hid hr
  clear h hr
  go_enter Try.func32, Try.ntmps32
  go_wp2_with fail
  refine (signMay_any A n c ss _ HS.out hn).mono ?_
  rintro e w1 ⟨rfl, hb1⟩
  have HB1 := Lib.hid hb1
  clear hb1
  cases hmay : mayB ss
  · have hat : atomB ss a = false := by
      cases q : atomB ss a
      · rfl
      · rw [(atom_ex q).1] at hmay; cases hmay
    have HX := Lib.hid (factB_no hat)
    clear hmay hat
    go_wp2
    go_ret
    exact ⟨ret_b HX.out.symm, HB1.out⟩
  have HM := Lib.hid hmay
  clear hmay
  go_wp2_with fail
  refine (refIsAtom_any A A' n c m c' ss a _ (HS.out.on HB1.out) hn (HR.out.on HB1.out) hm hmc HM.out).mono ?_
  rintro e w2 ⟨rfl, hb2⟩
  have HB2 := Lib.hid (HB1.out.trans (hb2.mono HB1.out.size))
  clear hb2
  cases hat : atomB ss a
  · have HX := Lib.hid (factB_no hat)
    clear hat
    go_wp2
    go_ret
    exact ⟨ret_b HX.out.symm, HB2.out⟩
  have HX := Lib.hid (factB_vars hat)
  clear hat
  go_wp2_with fail
  refine (refVarsOf_any A' m c' a _ (HR.out.on HB2.out) hm).mono ?_
  rintro e w3 ⟨v, rfl, hv, hb3⟩
  have HB3 := Lib.hid (HB2.out.trans (hb3.mono HB2.out.size))
  obtain ⟨A3, c3, rfl⟩ := hv.value
  have hvl := varsN_length a 24
  obtain ⟨L, hL⟩ : ∃ L, L = (varsN a 24).length := ⟨_, rfl⟩
  rw [← hL] at HX hvl ⊢
  clear hv hb3 hL
  by_cases q : L = 0
  · have HX2 : Hid (factB ss a = true) := by show _ = _; rw [HX.out]; exact decide_eq_true q
    subst q
    clear HX
    go_wp2
    go_ret
    exact ⟨ret_b HX2.out.symm, HB3.out⟩
  · have HX2 : Hid (factB ss a = false) := by show _ = _; rw [HX.out]; exact decide_eq_false q
    have q2 : ((L : Int) == 0) = false := by rw [beq_eq_false_iff_ne]; omega
    clear HX
    go_wp2
    go_ret
    exact ⟨ret_b HX2.out.symm, HB3.out⟩
end Go.Proofs.Ythnjpkghjkhjdaa
