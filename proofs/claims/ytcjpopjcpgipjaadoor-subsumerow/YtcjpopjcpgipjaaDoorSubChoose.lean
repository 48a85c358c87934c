/-
  Contract of package subsume: choose.
-/
import Derived.Test.YtcjpopjcpgipjaaDoorSubFill
namespace Go.Proofs.YtcjpopjcpgipjaaDoor
open Go.RowKit Go.Deep
set_option linter.unusedSimpArgs false
set_option linter.unusedVariables false
set_option maxRecDepth 100000

/-- From what has failed nothing can be chosen. -/
structure ChI (os fs : List Nat) (K n : Nat) (fl : List Nat) : Prop where
  len : fl.length = K
  few : ∀ m, m < K → wAt fl m < 2 ^ n
  no : ∀ m, m < K → ∀ js, ¬ Sel os fs K m (wAt fl m) js
theorem ChI.put {os fs fl : List Nat} {K n k S : Nat} (h : ChI os fs K n fl) (hk : k < K) (hS : S < 2 ^ n) (hno : ∀ js, ¬ Sel os fs K k S js) : ChI os fs K n (fl.set k S) := by
  have e : ∀ m, wAt (fl.set k S) m = if m = k then S else wAt fl m := fun m => by
    unfold wAt
    by_cases q : m = k
    · subst q
      rw [if_pos rfl, List.getD_eq_getElem?_getD, List.getElem?_set_self (by rw [h.len]; exact hk)]; rfl
    · rw [if_neg q, List.getD_eq_getElem?_getD, List.getElem?_set_ne (fun h => q h.symm), List.getD_eq_getElem?_getD]
  refine ⟨by rw [List.length_set]; exact h.len, fun m hm => ?_, fun m hm => ?_⟩
  · rw [e]
    by_cases q : m = k
    · rw [if_pos q]; exact hS
    · rw [if_neg q]; exact h.few m hm
  · rw [e]
    by_cases q : m = k
    · rw [if_pos q, q]; exact hno
    · rw [if_neg q]; exact h.no m hm
/-- What stands still while pairs are chosen. -/
structure StatC (w : World) (g g4 sb B K : Nat) (v0 v1 v2 : Value) (PS : List Pr) (os fs : List Nat) : Prop where
  st : Stat w g sb B v0 v1 v2 (.slice (some ⟨g, 0, none⟩) K K) (.slice (some ⟨g4, 0, none⟩) K K) PS os
  f : OwnW w (sb + 1) v2 fs
  fl : ∀ b, v2.ownBlock = some b → b < g
  tab : TabW w
  tb : 0 < B
theorem StatC.below {w w' : World} {g g4 sb B K : Nat} {v0 v1 v2 : Value} {PS : List Pr} {os fs : List Nat} (h : StatC w g g4 sb B K v0 v1 v2 PS os fs) (hb : Below g w w') : StatC w' g g4 sb B K v0 v1 v2 PS os fs :=
  ⟨h.st.below hb, owns_low h.f h.fl hb, h.fl, h.tab.below h.tb (hb.mono (by have := h.st.hB; have := h.st.lt; omega)), h.tb⟩
/-- What is written while pairs are chosen. -/
structure Dyn (w : World) (g g4 K n : Nat) (os fs fl : List Nat) (pl : List Int) : Prop where
  own : OwnW w g (.slice (some ⟨g, 0, none⟩) K K) fl
  pls : OwnI w (g + 1) (.slice (some ⟨g4, 0, none⟩) K K) pl
  plen : pl.length = K
  ch : ChI os fs K n fl
theorem Dyn.on {w w' : World} {g g4 K n : Nat} {os fs fl : List Nat} {pl : List Int} (h : Dyn w g g4 K n os fs fl pl) (hb : Below w.heap.size w w') : Dyn w' g g4 K n os fs fl pl := ⟨h.own.on hb, h.pls.on hb, h.plen, h.ch⟩
def ChoPost (g g4 K n k S : Nat) (PS : List Pr) (os fs : List Nat) (pl : List Int) (w : World) (e : Ending) (w' : World) : Prop :=
  Below g w w' ∧ ∃ fl', (e = .returned (.bool true) ∧ ∃ js, Sel os fs K k S js ∧ (∀ is, Sel os fs K k S is → leL js is) ∧ Dyn w' g g4 K n os fs fl' (pl.take k ++ js.map fun j => (idxAt PS j : Int))) ∨
    (e = .returned (.bool false) ∧ (∀ js, ¬ Sel os fs K k S js) ∧ Dyn w' g g4 K n os fs fl' pl)
/-- The pairs of a part that have not been tried yet. -/
structure OwnS (os fs : List Nat) (K k S own : Nat) : Prop where
  sub : ∀ j, own.testBit j = true → S.testBit j = true ∧ (wAt os k).testBit j = true
  tried : ∀ j js, own.testBit j = false → ¬ Sel os fs K k S (j :: js)
theorem OwnS.start {os fs : List Nat} {K k S : Nat} : OwnS os fs K k S (S &&& wAt os k) := by
  refine ⟨fun j hj => ?_, fun j js hj h => ?_⟩
  · rw [Nat.testBit_and, Bool.and_eq_true] at hj; exact hj
  · rw [Nat.testBit_and, h.2.1, h.2.2.1] at hj; cases hj
theorem OwnS.next {os fs : List Nat} {K k S own : Nat} (h : OwnS os fs K k S own) (h0 : own ≠ 0) (h64 : own < 2 ^ 64) (hno : ∀ js, ¬ Sel os fs K (k + 1) (restW os fs k S (Lib.ctz 64 own)) js) : OwnS os fs K k S (own &&& (own - 1)) := by
  obtain ⟨c1, c2, c3, c4⟩ := ctz_bits h0 h64
  refine ⟨fun j hj => ?_, fun j js hj hs => ?_⟩
  · rw [c3, Bool.and_eq_true] at hj; exact h.sub j hj.1
  · rw [c3] at hj
    by_cases e : j = Lib.ctz 64 own
    · subst e; exact hno js hs.2.2.2
    · have hj' : own.testBit j = false := by simpa [e] using hj
      exact h.tried j js hj' hs
theorem OwnS.none_ {os fs : List Nat} {K k S : Nat} (h : OwnS os fs K k S 0) (hk : k < K) : ∀ js, ¬ Sel os fs K k S js
  | [], hs => by have : k = K := hs; omega
  | j :: js, hs => h.tried j js (Nat.zero_testBit j) hs
theorem OwnS.some_ {os fs : List Nat} {K k S own : Nat} {js : List Nat} (h : OwnS os fs K k S own) (hk : k < K) (h0 : own ≠ 0) (h64 : own < 2 ^ 64) (hs : Sel os fs K (k + 1) (restW os fs k S (Lib.ctz 64 own)) js) (hm : ∀ is, Sel os fs K (k + 1) (restW os fs k S (Lib.ctz 64 own)) is → leL js is) :
    Sel os fs K k S (Lib.ctz 64 own :: js) ∧ ∀ is, Sel os fs K k S is → leL (Lib.ctz 64 own :: js) is := by
  obtain ⟨c1, c2, c3, c4⟩ := ctz_bits h0 h64
  obtain ⟨s1, s2⟩ := h.sub _ c1
  refine ⟨⟨hk, s1, s2, hs⟩, fun is hi => ?_⟩
  cases is with
  | nil => have : k = K := hi; omega
  | cons j is =>
    by_cases e : j = Lib.ctz 64 own
    · subst e
      exact .inr ⟨rfl, hm is hi.2.2.2⟩
    · refine .inl ?_
      rcases Nat.lt_or_ge j (Lib.ctz 64 own) with q | q
      · exact absurd hi (h.tried j is (c2 j q))
      · omega
theorem BW1 {g : Nat} {w w1 w2 : World} (h : Below g w w1) (k : Below g w1 w2) : Below g w w2 := h.trans k
theorem pl_put {pl : List Int} {k K x : Nat} {xs : List Int} (hl : pl.length = K) (hk : k < K) (hx : xs.length + (k + 1) = K) : (pl.take (k + 1) ++ xs).set k (x : Int) = pl.take k ++ ((x : Int) :: xs) := by
  have e : pl.take (k + 1) = pl.take k ++ [pl[k]'(by omega)] := by rw [List.take_succ_eq_append_getElem (by omega)]
  rw [e, List.append_assoc, List.set_append_right _ _ (by rw [List.length_take]; omega), List.length_take, Nat.min_eq_left (by omega), Nat.sub_self]
  rfl
set_option maxHeartbeats 8000000 in
theorem choose_any (g g4 sb B K n : Nat) (v0 v1 v2 : Value) (PS : List Pr) (os fs : List Nat) (hn : PS.length = n) (hn60 : n ≤ 60) (hK : os.length = K) (hK1 : K ≤ 100) (hfs : fs.length = n) (hof : ∀ m, m < K → wAt os m < 2 ^ n) (hff : ∀ j, j < n → wAt fs j < 2 ^ n) : ∀ (d k S : Nat) (fl : List Nat) (pl : List Int) (w : World),
    k + d = K → S < 2 ^ n → StatC w g g4 sb B K v0 v1 v2 PS os fs → Dyn w g g4 K n os fs fl pl →
    Calls Tryd.prog 56 #[.pointer (some ⟨sb, 0, none⟩), .int .i64 (k : Int), .int .u64 (S : Int)] w (ChoPost g g4 K n k S PS os fs pl w) := by
  have H64 : Hid (2 ^ n ≤ 2 ^ 64) := Nat.pow_le_pow_right (by omega) (by omega)
  have HN := Lib.hid hn
  have HKK := Lib.hid hK
  have HFS := Lib.hid hfs
  have HOF := Lib.hid hof
  have HFF := Lib.hid hff
  clear hn hK hfs hof hff
  intro d
  induction d with
  | zero =>
    intro k S fl pl w hkd hS hst hdy
    have HST := Lib.hid hst
    have HDY := Lib.hid hdy
    obtain ⟨A1, c1, rfl⟩ := hst.st.o.len_
    have hc1 := hst.st.s.c1
    rw [HKK.out] at hc1
    have e : k = K := by omega
    subst e
    clear hst hdy
    go_enter Tryd.func56, Tryd.ntmps56
    go_wp2
    go_ret
    refine ⟨Below.refl _ _, fl, .inl ⟨rfl, [], rfl, fun is _ => by simp [leL], ?_⟩⟩
    rw [List.map_nil, List.append_nil, List.take_of_length_le (by rw [HDY.out.plen]; exact Nat.le_refl _)]
    exact HDY.out
  | succ d ih =>
    intro k S fl pl w hkd hS hst hdy
    have IH := Lib.hid ih
    have HST := Lib.hid hst
    have HDY := Lib.hid hdy
    have HS := Lib.hid hS
    obtain ⟨A1, c1, rfl⟩ := hst.st.o.len_
    have hc1 := hst.st.s.c1
    have hc3 := hst.st.s.c3
    rw [HKK.out] at hc1
    have hkK : k < K := by omega
    have hne : ((k : Int) == (K : Int)) = false := by simp; omega
    have zk0 : (0 : Int) ≤ (k : Int) := by omega
    have zk1 : (k : Int) < (K : Int) := by omega
    obtain ⟨gg, cp, e9, r1, r2, r3, r4, r5⟩ := hdy.own.cells (by have := hdy.ch.len; omega)
    injection e9 with e1 e2 e3
    injection e1 with e1
    injection e1 with e1
    subst e1
    have hcell := r4 k (by have := hdy.ch.len; omega)
    obtain ⟨f, hf⟩ : ∃ f, f = wAt fl k := ⟨_, rfl⟩
    rw [← hf] at hcell
    have hf64 : f < 2 ^ 64 := by rw [hf]; exact Nat.lt_of_lt_of_le (hdy.ch.few k hkK) H64.out
    have hS64 : S < 2 ^ 64 := Nat.lt_of_lt_of_le hS H64.out
    have hdf := bits_andNot_w hS64 hf64
    obtain ⟨y, hy⟩ : ∃ y, y = dif S f := ⟨_, rfl⟩
    rw [← hy] at hdf
    have HY := Lib.hid hy
    have HF := Lib.hid hf
    have HS64 := Lib.hid hS64
    clear ih hst hdy hS hf hf64 hS64 hy r4 r5 e2 e3 r1 r3
    by_cases hy0 : y = 0
    · have H : Hid (∀ js, ¬ Sel os fs K k S js) := fun js hs => by
        refine HDY.out.ch.no k hkK js (hs.mono fun i hi => ?_)
        have q : (dif S f).testBit i = false := by rw [← HY.out, hy0]; exact Nat.zero_testBit i
        rw [dif_bit, hi] at q
        rw [← HF.out]
        simpa using q
      subst hy0
      go_enter Tryd.func56, Tryd.ntmps56
      go_wp2
      go_ret
      exact ⟨Below.refl _ _, fl, .inr ⟨rfl, H.out, HDY.out⟩⟩
    · have hy1 : ((y : Int) == 0) = false := by simp; omega
      have hO := HST.out.st.o
      obtain ⟨g1, cp1, e9, r1, r2', r3, r4, r5⟩ := hO.cells (by rw [HKK.out]; omega)
      rw [HKK.out] at e9
      injection e9 with e1 e2 e3
      subst e1
      subst e3
      have hcell1 := r4 k (by rw [HKK.out]; omega)
      obtain ⟨o, ho⟩ : ∃ o, o = wAt os k := ⟨_, rfl⟩
      rw [← ho] at hcell1
      have ho64 : o < 2 ^ 64 := by rw [ho]; exact Nat.lt_of_lt_of_le (HOF.out k hkK) H64.out
      have hand := bits_and_w HS64.out ho64
      obtain ⟨z, hz⟩ : ∃ z, z = S &&& o := ⟨_, rfl⟩
      rw [← hz] at hand
      have HO64 := Lib.hid ho64
      have HO := Lib.hid ho
      have hg1 : g1 < g := HST.out.st.ol g1 rfl
      have HZ : Hid (OwnS os fs K k S z) := by show OwnS _ _ _ _ _ _; rw [hz, ho]; exact OwnS.start
      have HZ2 : Hid (z < 2 ^ n) := by show _ < _; rw [hz]; exact Nat.lt_of_le_of_lt Nat.and_le_left HS.out
      clear ho64 ho hz hO r4 r5 e2 r1 r3 hy0
      go_enter Tryd.func56, Tryd.ntmps56
      go_wp2
      go_loopw [7] (fun i wr => ∃ (own : Nat) (fl' : List Nat), i = .int .u64 own ∧ Hid (OwnS os fs K k S own) ∧ Hid (own < 2 ^ n) ∧ Below g w wr ∧ Hid (Dyn wr g g4 K n os fs fl' pl)) (fun i _ => (intOf i).toNat)
      case atStart => exact ⟨z, fl, rfl, HZ, HZ2, Below.refl _ _, HDY⟩
      case round =>
        obtain ⟨own, fl1, rfl, HOW, HOW2, hbw, HD1⟩ := hrel
        have HBW := Lib.hid hbw
        have HS1 := Lib.hid (HST.out.below hbw)
        clear hbw
        by_cases hw0 : own = 0
        · subst hw0
          have H : Hid (∀ js, ¬ Sel os fs K k S js) := HOW.out.none_ hkK
          have hc3w := HS1.out.st.s.c3
          obtain ⟨gg, cp, e9, r1, r2w, r3, r4, r5⟩ := HD1.out.own.cells (by have := HD1.out.ch.len; omega)
          injection e9 with e1 e2 e3
          injection e1 with e1
          injection e1 with e1
          subst e1
          have hcellw := r4 k (by have := HD1.out.ch.len; omega)
          have hfzw := r5 k
          clear r1 r3 r4 r5 e2 e3
          go_wp2
          go_ret
          have hset := HD1.out.own.put_chg (i := k) (.int .u64 (S : Int))
          exact ⟨BW1 HBW.out hset.bel, fl1.set k S, .inr ⟨rfl, H.out, HD1.out.own.put S, hset.own (by decide) HD1.out.pls, HD1.out.plen, HD1.out.ch.put hkK HS.out H.out⟩⟩
        · have hw1 : ((own : Int) == 0) = false := by simp; omega
          have hw2 : ((own : Int) != 0) = true := by simp; omega
          have hw64 : own < 2 ^ 64 := Nat.lt_of_lt_of_le HOW2.out H64.out
          have HC := Lib.hid (ctz_bits hw0 hw64)
          have HW0 := Lib.hid hw0
          have HW64 := Lib.hid hw64
          obtain ⟨i, hi⟩ : ∃ i, i = Lib.ctz 64 own := ⟨_, rfl⟩
          have hin : i < n := by
            rw [hi]
            rcases Nat.lt_or_ge (Lib.ctz 64 own) n with q | q
            · exact q
            · have := HC.out.1
              rw [Nat.testBit_lt_two_pow (Nat.lt_of_lt_of_le HOW2.out (Nat.pow_le_pow_right (by omega) q))] at this
              cases this
          have HI := Lib.hid hi
          have htz := tz_any own wr hw64 hw0 HS1.out.tab
          rw [← hi] at htz
          clear hw0 hw64 hi
          go_wp2_with fail
          refine htz.mono ?_
          rintro e wT ⟨rfl, rfl⟩
          clear htz
          -- the rest of the round
          obtain ⟨g2, cp2, e9, s1, s2, s3, s4, s5⟩ := HS1.out.f.cells (by rw [HFS.out]; omega)
          have HV2 := Lib.hid e9
          have hc2w := HS1.out.st.s.c2
          have hc1w := HS1.out.st.s.c1
          rw [e9, HFS.out] at hc2w
          rw [HKK.out] at hc1w
          have hcf := s4 i (by rw [HFS.out]; exact hin)
          obtain ⟨fw, hfw⟩ : ∃ fw, fw = wAt fs i := ⟨_, rfl⟩
          rw [← hfw] at hcf
          have hco : wT.cell? ⟨g1, k, none⟩ = some (.int .u64 (o : Int)) := by rw [HBW.out.cell (p := ⟨g1, k, none⟩) hg1]; exact hcell1
          have hfw64 : fw < 2 ^ 64 := by rw [hfw]; exact Nat.lt_of_lt_of_le (HFF.out i hin) H64.out
          have hb1 := bits_and_w HS64.out hfw64
          obtain ⟨m1, hm1⟩ : ∃ m1, m1 = S &&& fw := ⟨_, rfl⟩
          rw [← hm1] at hb1
          have hm164 : m1 < 2 ^ 64 := by rw [hm1]; exact Nat.lt_of_le_of_lt Nat.and_le_left HS64.out
          have hm1n : m1 < 2 ^ n := by rw [hm1]; exact Nat.lt_of_le_of_lt Nat.and_le_left HS.out
          have hb2 := bits_andNot_w hm164 HO64.out
          obtain ⟨rw_, hrw⟩ : ∃ r, r = dif m1 o := ⟨_, rfl⟩
          rw [← hrw] at hb2
          have hrn : rw_ < 2 ^ n := by rw [hrw]; exact dif_lt hm1n
          have HR : Hid (rw_ = restW os fs k S i) := by show _ = _; rw [hrw, hm1, hfw, HO.out]; rfl
          have HRN := Lib.hid hrn
          have zi0 : (0 : Int) ≤ (i : Int) := by omega
          have zi1 : (i : Int) < (n : Int) := by omega
          clear e9 s1 s3 s4 s5 hfw hm1 hrw hfw64 hm164 hm1n hrn
          go_wp2_with fail
          go_quiet (fail)
          obtain ⟨w5, hw5⟩ : ∃ w5, w5 = wT.drewN nq := ⟨_, rfl⟩
          rw [← hw5]
          have hb5 : Below wT.heap.size wT w5 := by rw [hw5]; exact below_drewN _ _
          clear hw5
          have hgT : g ≤ wT.heap.size := HS1.out.st.hg
          have HS5 := Lib.hid (HS1.out.below (hb5.mono hgT))
          have HD5 := Lib.hid (HD1.out.on hb5)
          have HB5 : Hid (Below g w w5) := HBW.out.trans (hb5.mono hgT)
          have hop := isOpen_any sb (k + 1) rw_ (sb + 1) _ _ _ _ _ os w5 HS5.out.st.s HS5.out.st.o (by rw [HKK.out]; omega) (fun m hm => Nat.lt_of_lt_of_le (HOF.out m (by rw [HKK.out] at hm; exact hm)) H64.out) (Nat.lt_of_lt_of_le HRN.out H64.out) (by rw [HKK.out]; omega)
          rw [show (((k + 1 : Nat)) : Int) = (k : Int) + 1 from rfl] at hop
          have HCT : Hid (own &&& (own - 1) < own) := HC.out.2.2.2
          obtain ⟨o1, ho1⟩ : ∃ o1, o1 = own - 1 := ⟨_, rfl⟩
          obtain ⟨o2, ho2⟩ : ∃ o2, o2 = own &&& (own - 1) := ⟨_, rfl⟩
          have hsub : IntKind.u64.wrap ((own : Int) - 1) = (o1 : Int) := by
            have e : (own : Int) - 1 = ((own - 1 : Nat) : Int) := by have := HW0.out; omega
            rw [e, ← ho1]
            exact wrap_u64_nat (by have := HW64.out; omega)
          have hb3 : bits .and .u64 (own : Int) (o1 : Int) = (o2 : Int) := by rw [ho2, ← ho1]; exact bits_and_w HW64.out (by have := HW64.out; omega)
          have HO2 := Lib.hid ho2
          have hlt2 : o2 < own := by rw [ho2]; exact HCT.out
          have HO2N : Hid (o2 < 2 ^ n) := Nat.lt_trans hlt2 HOW2.out
          clear ho1 ho2 hb5 hc2w hc1w hcf hco hb1 hb2
          go_wp2_with fail
          refine hop.mono ?_
          rintro e w6 ⟨rfl, rfl⟩
          clear hop
          cases hopen : openB os (k + 1) rw_
          · have HNO : Hid (OwnS os fs K k S o2) := by
              show OwnS _ _ _ _ _ _
              rw [HO2.out]
              refine HOW.out.next HW0.out HW64.out fun js hs => ?_
              have h2 := openB_iff.2 fun m h1 h2 => hs.open_ m h1 (by rw [HKK.out] at h2; exact h2)
              rw [← HI.out, ← HR.out, hopen] at h2
              cases h2
            clear hopen
            go_wp2
            go_roundw
            case rel => exact ⟨o2, fl1, rfl, HNO, HO2N, HB5.out, HD5⟩
            case measure => simp [intOf]; omega
          · clear hopen
            have hrec := IH.out (k + 1) rw_ fl1 pl w5 (by omega) HRN.out HS5.out HD5.out
            rw [show (((k + 1 : Nat)) : Int) = (k : Int) + 1 from rfl] at hrec
            go_wp2_with fail
            refine hrec.mono ?_
            rintro e w7 ⟨hb7, fl7, ⟨rfl, js, hs, hm, hd⟩ | ⟨rfl, hno, hd⟩⟩
            · have HB7 := Lib.hid (HB5.out.trans hb7)
              have HS7 := Lib.hid (HS5.out.below hb7)
              have HD7 := Lib.hid hd
              have HSEL : Hid (Sel os fs K k S (Lib.ctz 64 own :: js) ∧ ∀ is, Sel os fs K k S is → leL (Lib.ctz 64 own :: js) is) := by
                rw [HR.out, HI.out] at hs hm
                exact HOW.out.some_ hkK HW0.out HW64.out hs hm
              have HJL := Lib.hid hs.length
              clear hrec hb7 hd hs hm
              obtain ⟨g0, cp0, e9, t1, t2, t3, t4⟩ := HS7.out.st.p.cells (by rw [HN.out]; omega)
              rw [HN.out] at e9
              have hg0 : g0 < g := HS7.out.st.pl g0 (by rw [e9]; rfl)
              obtain ⟨hix, -⟩ := t4 i (by rw [HN.out]; exact hin)
              have hc0w := HS7.out.st.s.c0
              have hc4w := HS7.out.st.s.c4
              rw [e9] at hc0w
              obtain ⟨x, hx⟩ : ∃ x, x = (prAt PS i).idx := ⟨_, rfl⟩
              rw [← hx] at hix
              have HX : Hid (x = idxAt PS (Lib.ctz 64 own)) := by show _ = _; rw [← HI.out, hx]; rfl
              obtain ⟨gp, cpp, cur, e8, p1, p2, p3⟩ := HD7.out.pls.block (by rw [HD7.out.plen]; omega)
              have e1 := (Value.slice.inj e8).1
              clear e8
              injection e1 with e1
              injection e1 with e1
              subst e1
              have hfzp : w7.frozen? ⟨g4, k, none⟩ = false := frozen_of_row _ _ _ _ _ p2
              obtain ⟨A9, cap9, e7, p4, p5⟩ := HD7.out.pls.intsAt
              have e1 := (Value.slice.inj e7).1
              clear e7
              subst e1
              obtain ⟨b9, o9, e6, p6, p7⟩ := p5.at_ (by rw [HD7.out.plen]; omega)
              injection e6 with e6
              injection e6 with e1 e2
              subst e1
              subst e2
              have hcp := p7 k (by rw [HD7.out.plen]; exact hkK)
              rw [Nat.zero_add] at hcp
              have HP2 := Lib.hid p2
              have HP1 := Lib.hid p1
              clear e9 t1 t2 t3 t4 hx p2 p3 p4 p5 p6 p7
              go_wp2_with fail
              refine wp_region_held_drew (S := (fun w' => w'.cell? ⟨sb, 0, none⟩ = some (.slice (some ⟨g0, 0, none⟩) n cp0) ∧ w'.cell? ⟨sb, 4, none⟩ = some (.slice (some ⟨g4, 0, none⟩) K K) ∧ w'.cell? ⟨g0, i * 25, none⟩ = some (.int .i64 (x : Int)))) (by kernel_rfl) ⟨hc0w, hc4w, hix⟩ (fun hHeld => ?_)
              have hd : Below w7.heap.size w7 w7.drew := (Below.refl w7.heap.size w7).drew
              obtain ⟨w8, hw8⟩ : ∃ w8, w8 = w7.drew := ⟨_, rfl⟩
              rw [← hw8] at hd hHeld ⊢
              clear hw8
              have hg7 : g ≤ w7.heap.size := HS7.out.st.hg
              have HB8 : Hid (Below g w w8) := HB7.out.trans (hd.mono hg7)
              have HD8 := Lib.hid (HD7.out.on hd)
              have e0 : w8.cell? ⟨sb, 0, none⟩ = some (.slice (some ⟨g0, 0, none⟩) n cp0) := by rw [hd.cell (p := ⟨sb, 0, none⟩) (by have := HS7.out.st.lt; show sb < _; omega)]; exact hc0w
              have e4 : w8.cell? ⟨sb, 4, none⟩ = some (.slice (some ⟨g4, 0, none⟩) K K) := by rw [hd.cell (p := ⟨sb, 4, none⟩) (by have := HS7.out.st.lt; show sb < _; omega)]; exact hc4w
              have ei : w8.cell? ⟨g0, i * 25, none⟩ = some (.int .i64 (x : Int)) := by rw [hd.cell (p := ⟨g0, i * 25, none⟩) (by show g0 < _; omega)]; exact hix
              have hlt4 : g4 < w7.heap.size := (Array.getElem?_eq_some_iff.1 HP2.out).1
              have hfz8 : w8.frozen? ⟨g4, k, none⟩ = false := frozen_of_row _ _ _ _ _ (by rw [hd.block g4 hlt4]; exact HP2.out)
              have hcp8 : w8.cell? ⟨g4, k, none⟩ = some (.int .i64 (intAt (pl.take (k + 1) ++ js.map fun j => (idxAt PS j : Int)) k)) := by rw [hd.cell (p := ⟨g4, k, none⟩) hlt4]; exact hcp
              have HP8 : Hid (w8.heap[g4]? = some (.cells cur 3 (0, 0))) := by show _ = _; rw [hd.block g4 hlt4]; exact HP2.out
              have hsb : sb < g := HS7.out.st.lt
              have hset8 : Chg [3] (g + 1) w8 (w8.setCell ⟨g4, k, none⟩ (.int .i64 (x : Int))) := Chg.set HP8.out HP1.out _
              have HSET8 := Lib.hid hset8
              clear hc0w hc4w hix hfzp hcp hd hset8
              refine takeH (i := 0) (v := ?_) rfl rfl (by kernel_rfl) (by kernel_rfl) (by kernel_rfl) (fun _ _ _ h => h) (by rfl) ?_ hHeld ?_
              rotate_left
              · (intro w hSw; (try dsimp only at hSw); first | (go_simp; done) | (go_simp; with_reducible rfl))
              simp only [Act.put, List.setIfInBounds_toArray, List.set_cons_zero, List.set_cons_succ]
              refine takeH (i := 1) (v := ?_) rfl rfl (by kernel_rfl) (by kernel_rfl) (by kernel_rfl) (fun _ _ _ h => h) (by rfl) ?_ hHeld ?_
              rotate_left
              · (intro w hSw; (try dsimp only at hSw); first | (go_simp; done) | (go_simp; with_reducible rfl))
              simp only [Act.put, List.setIfInBounds_toArray, List.set_cons_zero, List.set_cons_succ]
              refine takeH (i := 2) (v := ?_) rfl rfl (by kernel_rfl) (by kernel_rfl) (by kernel_rfl) (fun _ _ _ h => h) (by rfl) ?_ hHeld ?_
              rotate_left
              · (intro w hSw; (try dsimp only at hSw); first | (go_simp; done) | (go_simp; with_reducible rfl))
              simp only [Act.put, List.setIfInBounds_toArray, List.set_cons_zero, List.set_cons_succ]
              refine takeH (i := 3) (v := ?_) rfl rfl (by kernel_rfl) (by kernel_rfl) (by kernel_rfl) (fun _ _ _ h => h) (by rfl) ?_ hHeld ?_
              rotate_left
              · (intro w hSw; (try dsimp only at hSw); first | (go_simp; done) | (go_simp; with_reducible rfl))
              simp only [Act.put, List.setIfInBounds_toArray, List.set_cons_zero, List.set_cons_succ]
              refine takeH (i := 4) (v := ?_) rfl rfl (by kernel_rfl) (by kernel_rfl) (by kernel_rfl) (fun _ _ _ h => h) (by rfl) ?_ hHeld ?_
              rotate_left
              · (intro w hSw; (try dsimp only at hSw); first | (go_simp; done) | (go_simp; with_reducible rfl))
              simp only [Act.put, List.setIfInBounds_toArray, List.set_cons_zero, List.set_cons_succ]
              refine takeH (i := 5) (v := ?_) rfl rfl (by kernel_rfl) (by kernel_rfl) (by kernel_rfl) (fun _ _ _ h => h) (by rfl) ?_ hHeld ?_
              rotate_left
              · (intro w hSw; (try dsimp only at hSw); first | (go_simp; done) | (go_simp; with_reducible rfl))
              simp only [Act.put, List.setIfInBounds_toArray, List.set_cons_zero, List.set_cons_succ]
              refine takeH (i := 6) (v := ?_) rfl rfl (by kernel_rfl) (by kernel_rfl) (by kernel_rfl) (fun _ _ _ h => h) (by rfl) ?_ hHeld ?_
              rotate_left
              · (intro w hSw; (try dsimp only at hSw); first | (go_simp; done) | (go_simp; with_reducible rfl))
              simp only [Act.put, List.setIfInBounds_toArray, List.set_cons_zero, List.set_cons_succ]
              refine takeH (i := 7) (v := ?_) rfl rfl (by kernel_rfl) (by kernel_rfl) (by kernel_rfl) (fun _ _ _ h => h) (by rfl) ?_ hHeld ?_
              rotate_left
              · (intro w hSw; (try dsimp only at hSw); first | (go_simp; done) | (go_simp; with_reducible rfl))
              simp only [Act.put, List.setIfInBounds_toArray, List.set_cons_zero, List.set_cons_succ]
              refine takeH (i := 8) (v := ?_) rfl rfl (by kernel_rfl) (by kernel_rfl) (by kernel_rfl) (fun _ _ _ h => h) (by rfl) ?_ hHeld ?_
              rotate_left
              · (intro w hSw; (try dsimp only at hSw); first | (go_simp; done) | (go_simp; with_reducible rfl))
              simp only [Act.put, List.setIfInBounds_toArray, List.set_cons_zero, List.set_cons_succ]
              refine takeH (i := 9) (v := ?_) rfl rfl (by kernel_rfl) (by kernel_rfl) (by kernel_rfl) (fun _ _ _ h => h) (by rfl) ?_ hHeld ?_
              rotate_left
              · (intro w hSw; (try dsimp only at hSw); first | (go_simp; done) | (go_simp; with_reducible rfl))
              simp only [Act.put, List.setIfInBounds_toArray, List.set_cons_zero, List.set_cons_succ]
              refine takeH (i := 10) (v := ?_) rfl rfl (by kernel_rfl) (by kernel_rfl) (by kernel_rfl) (fun _ _ _ h => h) (by rfl) ?_ hHeld ?_
              rotate_left
              · (intro w hSw; (try dsimp only at hSw); first | (go_simp; done) | (go_simp; with_reducible rfl))
              simp only [Act.put, List.setIfInBounds_toArray, List.set_cons_zero, List.set_cons_succ]
              refine takeH (i := 11) (v := ?_) rfl rfl (by kernel_rfl) (by kernel_rfl) (by kernel_rfl) (fun _ _ _ h => h) (by rfl) ?_ hHeld ?_
              rotate_left
              · (intro w hSw; (try dsimp only at hSw); first | (go_simp; done) | (go_simp; with_reducible rfl))
              simp only [Act.put, List.setIfInBounds_toArray, List.set_cons_zero, List.set_cons_succ]
              refine takeH (i := 12) (v := ?_) rfl rfl (by kernel_rfl) (by kernel_rfl) (by kernel_rfl) (fun _ _ _ h => h) (by rfl) ?_ hHeld ?_
              rotate_left
              · (intro w hSw; (try dsimp only at hSw); first | (go_simp; done) | (go_simp; with_reducible rfl))
              simp only [Act.put, List.setIfInBounds_toArray, List.set_cons_zero, List.set_cons_succ]
              refine takeH (i := 13) (v := ?_) rfl rfl (by kernel_rfl) (by kernel_rfl) (by kernel_rfl) (fun _ _ _ h => h) (by rfl) ?_ hHeld ?_
              rotate_left
              · (intro w hSw; (try dsimp only at hSw); first | (go_simp; done) | (go_simp; with_reducible rfl))
              simp only [Act.put, List.setIfInBounds_toArray, List.set_cons_zero, List.set_cons_succ]
              refine wpAnyH_ready (rs := [14]) (by kernel_rfl) (by simp) ?_
              refine AllReadyH.cons rfl (fun K hK => ?_) AllReadyH.nil
              go_simp
              refine hK.out _ _ ?_ (fun hHeld => ?_)
              · exact ⟨by rw [HSET8.out.bel.cell (p := ⟨sb, 0, none⟩) (by show sb < _; omega)]; exact e0, by rw [HSET8.out.bel.cell (p := ⟨sb, 4, none⟩) (by show sb < _; omega)]; exact e4, by rw [HSET8.out.bel.cell (p := ⟨g0, i * 25, none⟩) (by show g0 < _; omega)]; exact ei⟩
              clear hK K
              refine wpAnyH_done (by kernel_rfl) ?_ _
              go_wp2
              go_ret
              refine ⟨HB8.out.trans (HSET8.out.bel.mono (by omega)), fl7, .inl ⟨rfl, _, HSEL.out.1, HSEL.out.2, HD8.out.own.chg HSET8.out (by decide), ?_, ?_, HD8.out.ch⟩⟩
              · have hput := HD8.out.pls.put (i := k) (x : Int)
                rw [pl_put HDY.out.plen hkK (by rw [List.length_map]; have := HJL.out; omega)] at hput
                rw [List.map_cons, ← HX.out]
                exact hput
              · rw [List.length_append, List.length_take, List.length_map, List.length_cons, HDY.out.plen]
                have := HJL.out
                omega
            · have HNO : Hid (OwnS os fs K k S o2) := by
                show OwnS _ _ _ _ _ _
                rw [HO2.out]
                rw [HR.out, HI.out] at hno
                exact HOW.out.next HW0.out HW64.out hno
              have HB7 := Lib.hid (HB5.out.trans hb7)
              have HD7 := Lib.hid hd
              clear hrec hb7 hd hno
              go_wp2
              go_roundw
              case rel => exact ⟨o2, fl7, rfl, HNO, HO2N, HB7.out, HD7⟩
              case measure => simp [intOf]; omega
end Go.Proofs.YtcjpopjcpgipjaaDoor
