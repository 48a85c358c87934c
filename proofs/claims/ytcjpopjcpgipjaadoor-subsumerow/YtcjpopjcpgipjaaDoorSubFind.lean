/-
  Contract of package subsume: find.
-/
import Derived.Test.YtcjpopjcpgipjaaDoorSubChoose
namespace Go.Proofs.YtcjpopjcpgipjaaDoor
open Go.RowKit Go.Deep
set_option linter.unusedSimpArgs false
set_option linter.unusedVariables false
set_option maxRecDepth 100000

theorem Stat.raise {w : World} {g g' sb B : Nat} {v0 v1 v2 v3 v4 : Value} {PS : List Pr} {os : List Nat} (h : Stat w g sb B v0 v1 v2 v3 v4 PS os) (h1 : g ≤ g') (h2 : g' ≤ w.heap.size) : Stat w g' sb B v0 v1 v2 v3 v4 PS os :=
  ⟨h.s, by have := h.lt; omega, h.p, fun b hb => by have := h.pl b hb; omega, h.o, fun b hb => by have := h.ol b hb; omega, h.hB, h2⟩
theorem Stat.set3 {w : World} {g sb B : Nat} {v0 v1 v2 v3 v4 : Value} {PS : List Pr} {os : List Nat} (h : Stat w g sb B v0 v1 v2 v3 v4 PS os) (u : Value) : Stat (w.setCell ⟨sb, 3, none⟩ u) g sb B v0 v1 v2 u v4 PS os :=
  ⟨h.s.set3 u, h.lt, h.p.chg (h.s.set_chg 3 u) (by decide) h.hB, h.pl, h.o.chg (h.s.set_chg 3 u) (by decide), h.ol, h.hB, by have := (h.s.set_chg 3 u).bel.size; have := h.hg; omega⟩
theorem Stat.set4 {w : World} {g sb B : Nat} {v0 v1 v2 v3 v4 : Value} {PS : List Pr} {os : List Nat} (h : Stat w g sb B v0 v1 v2 v3 v4 PS os) (u : Value) : Stat (w.setCell ⟨sb, 4, none⟩ u) g sb B v0 v1 v2 v3 u PS os :=
  ⟨h.s.set4 u, h.lt, h.p.chg (h.s.set_chg 4 u) (by decide) h.hB, h.pl, h.o.chg (h.s.set_chg 4 u) (by decide), h.ol, h.hB, by have := (h.s.set_chg 4 u).bel.size; have := h.hg; omega⟩
/-- A set by its bits. -/
def bitsOf (P : Nat → Bool) : Nat → Nat
  | 0 => 0
  | n + 1 => if P n then bitsOf P n ||| 2 ^ n else bitsOf P n
theorem bitsOf_bit {P : Nat → Bool} {n j : Nat} : (bitsOf P n).testBit j = (decide (j < n) && P j) := by
  induction n with
  | zero => unfold bitsOf; simp
  | succ n ih =>
    unfold bitsOf
    by_cases q : j = n
    · subst q
      cases hp : P j
      · simp [ih, hp]
      · rw [if_pos rfl, Nat.testBit_or, Nat.testBit_two_pow, ih, hp]; simp
    · have e : decide (j < n + 1) = decide (j < n) := by
        by_cases h : j < n
        · simp [h]; omega
        · have : ¬ j < n + 1 := by omega
          simp [h, this]
      rw [e]
      split
      · rw [Nat.testBit_or, Nat.testBit_two_pow, ih]
        have : ¬ n = j := fun h => q h.symm
        simp [this]
      · exact ih
def fsOf (PS : List Pr) : List Nat := (List.range PS.length).map fun j => bitsOf (fun j' => decide (j < j') && agrB (prAt PS j').pcs (prAt PS j).pcs) PS.length
theorem fsOf_fit {PS : List Pr} : FitK PS (fsOf PS) PS.length 0 := fun j hj j' => by
  have e : wAt (fsOf PS) j = bitsOf (fun j' => decide (j < j') && agrB (prAt PS j').pcs (prAt PS j).pcs) PS.length := by
    unfold wAt fsOf
    rw [List.getD_eq_getElem?_getD, List.getElem?_map, List.getElem?_range hj]; rfl
  rw [e, bitsOf_bit]
  simp only [Bool.and_eq_true, decide_eq_true_eq]
  constructor
  · rintro ⟨h1, h2, h3⟩; exact ⟨h2, .inl h1, h1, h3⟩
  · rintro ⟨h1, _, h2, h3⟩; exact ⟨h2, h1, h3⟩
theorem Good.prs {ss : List Sym} {xs : List Lt} {ys : List (List Lt)} {PS : List Pr} {os fs : List Nat} (h : Good PS os) (hall : PS = allPr ss xs ys xs.length) (hK : os.length = xs.length) (hf : FitK PS fs PS.length 0) : Prs ss xs ys PS os fs := by
  refine ⟨hall, fun k hk j => h.of_ k (by omega) j, fun j j' hj => ?_⟩
  rw [hf j hj j']
  constructor
  · rintro ⟨h1, _, h2, h3⟩
    exact ⟨h1, _, _, prAt_get hj, prAt_get h2, h3⟩
  · rintro ⟨h1, p, q, hp, hq, h3⟩
    have h2 := (List.getElem?_eq_some_iff.1 hq).1
    rw [prAt_get hj] at hp
    rw [prAt_get h2] at hq
    injection hp with hp
    injection hq with hq
    subst hp
    subst hq
    exact ⟨h1, .inl h2, h2, h3⟩
def FindPost (sb : Nat) (ss : List Sym) (xs : List Lt) (ys : List (List Lt)) (w : World) (e : Ending) (w' : World) : Prop :=
  Below sb w w' ∧ ((fitP ss xs ys noT = none ∧ e = .returned (.bool false)) ∨ ∃ ps v, fitP ss xs ys noT = some ps ∧ e = .returned (.bool true) ∧ w'.cell? ⟨sb, 4, none⟩ = some v ∧ OwnI w' sb v (natsJ ps))
set_option maxHeartbeats 4000000 in
theorem find_any (sb B : Nat) (ss : List Sym) (xs : List Lt) (ys : List (List Lt)) (PS : List Pr) (os : List Nat) (w : World) (h : Bld w sb B PS os) (hall : PS = allPr ss xs ys xs.length) (hK : os.length = xs.length) (hp : PatAll ss xs ys) (hl : ys.length = xs.length) (hn : PS.length ≤ 60) (hK1 : xs.length ≤ 100) (hT : TabW w) (hTB : 0 < B) :
    Calls Tryd.prog 30 #[.pointer (some ⟨sb, 0, none⟩)] w (FindPost sb ss xs ys w) := by
  have HBL := Lib.hid h
  have HALL := Lib.hid hall
  have HK := Lib.hid hK
  have HP := Lib.hid hp
  have HL := Lib.hid hl
  have HT := Lib.hid hT
  have HTB := Lib.hid hTB
  obtain ⟨v0, v1, h1, h2, h3⟩ := h.ex
  obtain ⟨A0, c0, rfl⟩ := h2.len_
  have hc0 := h1.c0
  obtain ⟨N, hN⟩ : ∃ N, N = PS.length := ⟨_, rfl⟩
  rw [← hN] at hc0 hn
  have HN := Lib.hid hN
  have HQ : Hid (2 ^ N < 2 ^ 64) := Nat.pow_lt_pow_right (by omega) (by omega)
  have HQ1 : Hid (1 ≤ 2 ^ N) := Nat.one_le_two_pow
  obtain ⟨q, hq⟩ : ∃ q, q = 2 ^ N := ⟨_, rfl⟩
  have hq64 : q < 2 ^ 64 := by rw [hq]; exact HQ.out
  have hwr : IntKind.u64.wrap ((2 : Int) ^ N) = (q : Int) := by
    have e : ((2 : Int) ^ N) = ((2 ^ N : Nat) : Int) := by norm_cast
    rw [e, ← hq]
    exact wrap_u64_nat hq64
  have hsh : ∀ yk, Op.shift .shl .u64 1 yk (N : Int) = pure (.int .u64 (q : Int)) := fun yk => by
    rw [shift_shl .u64 yk 1 (N : Int) (by omega) (by show (N : Int) ≤ 64; omega), Int.one_mul, Int.toNat_natCast, hwr]
  obtain ⟨a, ha⟩ : ∃ a, a = q - 1 := ⟨_, rfl⟩
  have hsub : IntKind.u64.wrap ((q : Int) - 1) = (a : Int) := by
    have e : (q : Int) - 1 = ((q - 1 : Nat) : Int) := by rw [hq]; have := HQ1.out; omega
    rw [e, ← ha]
    exact wrap_u64_nat (by omega)
  have HA : Hid (∀ j, a.testBit j = true ↔ j < PS.length) := fun j => by rw [ha, hq, Nat.testBit_two_pow_sub_one, decide_eq_true_eq, hN]
  have ha64 : a < 2 ^ 64 := by omega
  have han : Hid (a < 2 ^ N) := by show _ < _; rw [ha, hq]; have := HQ1.out; omega
  have hGof : ∀ m, m < os.length → wAt os m < 2 ^ N := fun m hm => by rw [hN]; exact h.good.few hm
  have HOF := Lib.hid hGof
  have hop := isOpen_any sb 0 a (sb + 1) _ _ _ _ _ os w h1 h3 (by omega) (fun m hm => Nat.lt_trans (hGof m hm) HQ.out) ha64 (by omega)
  rw [show ((0 : Nat) : Int) = 0 from rfl] at hop
  clear h hall hK hp hl hT hTB h1 h2 h3 hN hq hq64 ha ha64 hGof
  go_enter Tryd.func30, Tryd.ntmps30
  go_wp2_with fail
  refine hop.mono ?_
  rintro e w1 ⟨rfl, rfl⟩
  clear hop
  cases hopen : openB os 0 a
  · have H : Hid (fitP ss xs ys noT = none) := (HBL.out.good.prs HALL.out HK.out fsOf_fit).none_ HP.out HL.out HA.out fun js hs => by
      have h2 := openB_iff.2 fun m h1 h2 => hs.open_ m h1 (by rw [HK.out] at h2; exact h2)
      rw [hopen] at h2; cases h2
    clear hopen
    go_wp2
    go_ret
    exact ⟨Below.refl _ _, .inl ⟨H.out, rfl⟩⟩
  · clear hopen
    go_wp2_with fail
    refine (fit_any sb B PS os w HBL.out (by have := HN.out; omega)).mono ?_
    rintro e w2 ⟨rfl, ⟨v0, v1, fs, hst, hof, hfl, hfit⟩, hb2⟩
    obtain ⟨A1, c1, rfl⟩ := hst.o.len_
    obtain ⟨K, hKK⟩ : ∃ K, K = os.length := ⟨_, rfl⟩
    rw [← hKK] at hst
    have HKK := Lib.hid hKK
    have hK2 : K ≤ 100 := by have := HK.out; omega
    have HB2 := Lib.hid hb2
    have HFIT := Lib.hid hfit
    have HFL := Lib.hid hfl
    have HOFS := Lib.hid hof
    have HST := Lib.hid hst
    have hmk1 : (Instr.makeSlice 67 (.int .i64 (K : Int)) (.int .i64 (K : Int))).run Tryd.prog w2 = .ok (.slice (some ⟨w2.heap.size, 0, none⟩) K K) (w2.alloc (.cells (madeCells #[.int .u64 0] K) 97)) := run_make_row' (P := Tryd.prog) 67 97 (.int .u64 0) 8 Tryd.underlying67 set_info rfl .i64 .i64 K (by omega) (by omega) w2
    have hc1 := hst.s.c1
    obtain ⟨w3, hw3⟩ : ∃ w3, w3 = (w2.alloc (.cells (madeCells #[.int .u64 0] K) 97)).setCell ⟨sb, 3, none⟩ (.slice (some ⟨w2.heap.size, 0, none⟩) K K) := ⟨_, rfl⟩
    have hbn := below_new w2 (.cells (madeCells #[.int .u64 0] K) 97)
    have hst2 := (hst.below (hbn.mono hst.hg)).raise (g' := w2.heap.size) hst.hg (by simp)
    have hst3 := hst2.set3 (.slice (some ⟨w2.heap.size, 0, none⟩) K K)
    have hfz3 := hst2.s.frozen 3
    have hcc3 := hst2.s.c3
    rw [← hw3] at hst3
    have hw3s : w3.heap.size = w2.heap.size + 1 := by rw [hw3]; simp
    have hmade3 : OwnW w3 w2.heap.size (.slice (some ⟨w2.heap.size, 0, none⟩) K K) (List.replicate K 0) := by rw [hw3]; exact (OwnW.made w2 K (by omega)).chg (hst2.s.set_chg 3 _) (by decide)
    have hb3 : Below sb w2 w3 := by rw [hw3]; exact (hbn.mono (by have := hst.lt; have := hst.hg; omega)).trans (hst2.s.set_chg 3 _).bel
    have hof3 : OwnW w3 w.heap.size (.slice (some ⟨w.heap.size, 0, none⟩) PS.length PS.length) fs := by rw [hw3]; exact (HOFS.out.on hbn).chg (hst2.s.set_chg 3 _) (by decide)
    have hmk2 : (Instr.makeSlice 28 (.int .i64 (K : Int)) (.int .i64 (K : Int))).run Tryd.prog w3 = .ok (.slice (some ⟨w3.heap.size, 0, none⟩) K K) (w3.alloc (.cells (madeCells #[.int .i64 0] K) 3)) := run_make_row' (P := Tryd.prog) 28 3 (.int .i64 0) 8 Tryd.underlying28 int_info rfl .i64 .i64 K (by omega) (by omega) w3
    have hbn4 := below_new w3 (.cells (madeCells #[.int .i64 0] K) 3)
    have hst4 := hst3.below (hbn4.mono hst3.hg)
    have hfz4 := hst4.s.frozen 4
    have hcc4 := hst4.s.c4
    have hc13 := hst3.s.c1
    obtain ⟨w4, hw4⟩ : ∃ w4, w4 = (w3.alloc (.cells (madeCells #[.int .i64 0] K) 3)).setCell ⟨sb, 4, none⟩ (.slice (some ⟨w3.heap.size, 0, none⟩) K K) := ⟨_, rfl⟩
    have HST4 : Hid (Stat w4 w2.heap.size sb B v0 (.slice A1 K c1) (.slice (some ⟨w.heap.size, 0, none⟩) PS.length PS.length) (.slice (some ⟨w2.heap.size, 0, none⟩) K K) (.slice (some ⟨w3.heap.size, 0, none⟩) K K) PS os) := by rw [hw4]; exact hst4.set4 _
    have HFL4 : Hid (OwnW w4 w2.heap.size (.slice (some ⟨w2.heap.size, 0, none⟩) K K) (List.replicate K 0)) := by rw [hw4]; exact (hmade3.on hbn4).chg (hst4.s.set_chg 4 _) (by decide)
    have HFS4 : Hid (OwnW w4 (sb + 1) (.slice (some ⟨w.heap.size, 0, none⟩) PS.length PS.length) fs) := by
      show OwnW _ _ _ _
      rw [hw4]
      exact ((hof3.on hbn4).chg (hst4.s.set_chg 4 _) (by decide)).lower (by have := hst.lt; omega)
    have HPL4 : Hid (OwnI w4 (w2.heap.size + 1) (.slice (some ⟨w3.heap.size, 0, none⟩) K K) (List.replicate K 0)) := by
      rw [hw4]
      refine (hst4.s.set_chg 4 _).own (by decide) ?_
      have := World.ownsRow_lit (base := w3.heap.size) (e := 3) (size := 1) w3 (intCells (List.replicate K 0)).toArray K (Nat.le_refl _) (by unfold maxLen; omega) (by unfold intCells; simp)
      have e : madeCells #[Value.int .i64 0] K = (intCells (List.replicate K 0)).toArray := by
        unfold madeCells intCells
        apply Array.ext
        · simp
        · intro i h1 h2
          simp [Nat.mod_one]
      rw [e]
      unfold OwnI
      rw [List.length_replicate]
      have h9 : (w3.alloc (.cells (intCells (List.replicate K 0)).toArray 3)).ownsRow w3.heap.size 3 1 (.slice (some ⟨w3.heap.size, 0, none⟩) K K) K (intCells (List.replicate K 0)) := by simpa using this
      exact own_base h9 (by omega)
    have HB4 : Hid (Below sb w w4) := by
      show Below _ _ _
      rw [hw4]
      exact HB2.out.trans (hb3.trans ((hbn4.mono (by have := hst.lt; have := hst.hg; omega)).trans (hst4.s.set_chg 4 _).bel))
    have HGB : Hid (w.heap.size < w2.heap.size) := by
      show _ < _
      rcases HOFS.out.shape with ⟨q, _⟩ | ⟨g, cap, q, _, h2, _⟩
      · cases q
      · have e1 := (Value.slice.inj q).1
        injection e1 with e1
        injection e1 with e1
        subst e1
        exact h2
    rw [hw3s] at hmk2 hw4 HST4 HPL4
    clear hbn hst2 hst3 hw3s hmade3 hb3 hof3 hbn4 hst4 hst hof hfl hfit hb2 hKK
    subst hw3
    go_wp2_with fail
    rw [← hw4]
    clear hmk1 hmk2 hfz3 hcc3 hfz4 hcc4 hc13 hc1 hw4
    have hTB2 := HTB.out
    have hsc : StatC w4 w2.heap.size (w2.heap.size + 1) sb B K v0 (.slice A1 K c1) (.slice (some ⟨w.heap.size, 0, none⟩) PS.length PS.length) PS os fs :=
      ⟨HST4.out, HFS4.out, fun b hb => by
        simp only [Value.ownBlock, Option.some.injEq] at hb
        have := HGB.out
        omega, HT.out.below hTB2 (HB4.out.mono HBL.out.le), hTB2⟩
    have hdy : Dyn w4 w2.heap.size (w2.heap.size + 1) K N os fs (List.replicate K 0) (List.replicate K 0) := by
      refine ⟨HFL4.out, HPL4.out, by simp, by simp, fun m hm => ?_, fun m hm js hs => ?_⟩
      · have e : wAt (List.replicate K 0) m = 0 := by unfold wAt; rw [List.getD_eq_getElem?_getD, List.getElem?_replicate, if_pos hm]; rfl
        rw [e]; exact Nat.pow_pos (by omega)
      · have e : wAt (List.replicate K 0) m = 0 := by unfold wAt; rw [List.getD_eq_getElem?_getD, List.getElem?_replicate, if_pos hm]; rfl
        rw [e] at hs
        cases js with
        | nil => have : m = K := hs; omega
        | cons j js => have := hs.2.1; rw [Nat.zero_testBit] at this; cases this
    have hch := choose_any w2.heap.size (w2.heap.size + 1) sb B K N v0 _ _ PS os fs HN.out.symm (by omega) HKK.out.symm hK2 (by rw [HFL.out, HN.out]) (fun m hm => HOF.out m (by have := HKK.out; omega)) (fun j hj => by rw [HN.out]; exact HFIT.out.few (by have := HN.out; omega)) K 0 a (List.replicate K 0) (List.replicate K 0) w4 (by omega) han.out hsc hdy
    rw [show ((0 : Nat) : Int) = 0 from rfl] at hch
    refine hch.mono ?_
    have hlt : sb < w2.heap.size := HST4.out.lt
    have hprs := HBL.out.good.prs HALL.out HK.out HFIT.out
    have hKx : K = xs.length := by rw [HKK.out, HK.out]
    rintro e w5 ⟨hb5, fl', ⟨rfl, js, hs, hm, hd⟩ | ⟨rfl, hno, hd⟩⟩
    · have H : Hid (fitP ss xs ys noT = some (js.map (idxAt PS))) := hprs.some_ HP.out HL.out HA.out (by rw [← hKx]; exact hs) (by rw [← hKx]; exact hm)
      have HPL : Hid (OwnI w5 sb (.slice (some ⟨w2.heap.size + 1, 0, none⟩) K K) (natsJ (js.map (idxAt PS)))) := by
        have := hd.pls.lower (base' := sb) (by omega)
        rw [List.take_zero, List.nil_append] at this
        unfold natsJ
        rw [List.map_map]
        exact this
      have HC5 : Hid (w5.cell? ⟨sb, 4, none⟩ = some (.slice (some ⟨w2.heap.size + 1, 0, none⟩) K K)) := (hsc.below hb5).st.s.c4
      have HB5 : Hid (Below sb w w5) := HB4.out.trans (hb5.mono (Nat.le_of_lt hlt))
      clear hch hsc hdy hb5 hs hm hd hprs
      go_wp2
      go_ret
      exact ⟨HB5.out, .inr ⟨_, _, H.out, rfl, HC5.out, HPL.out⟩⟩
    · have H : Hid (fitP ss xs ys noT = none) := hprs.none_ HP.out HL.out HA.out (by rw [← hKx]; exact hno)
      have HB5 : Hid (Below sb w w5) := HB4.out.trans (hb5.mono (Nat.le_of_lt hlt))
      clear hch hsc hdy hb5 hno hd hprs
      go_wp2
      go_ret
      exact ⟨HB5.out, .inl ⟨H.out, rfl⟩⟩
end Go.Proofs.YtcjpopjcpgipjaaDoor
