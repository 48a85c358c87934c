/-
  The walk of the law PathWays.
-/
import Derived.Test.YthdpojokogiinaaAwakeR
import Derived.Test.YthdpojokogiinaaPathWaysP
namespace Go.Proofs.Ythdpojokogiinaa
open Go.RowKit
set_option linter.unusedSimpArgs false
set_option linter.unusedVariables false
set_option maxRecDepth 100000

theorem among_any (A : Option Addr) (n c B : Nat) (xs : List Int) (z : Int) (w : World) (h : IntsAt w B A n xs) (hn : n ≤ maxLen) :
    Calls Try.prog 21 #[.slice A n c, .int .i64 z] w fun e w' => e = .returned (.bool (amongB xs z)) ∧ w = w' := by
  have HX := Lib.hid h
  have HL := Lib.hid h.len
  unfold maxLen at hn
  clear h
  go_enter Try.func21, Try.ntmps21
  go_wp2
  go_loopw [5] (fun i wr => ∃ k : Nat, i = .int .i64 (k : Int) ∧ k ≤ n ∧ (∀ j, j < k → intAt xs j ≠ z) ∧ wr = w) (fun i _ => n - (intOf i).toNat)
  case atStart => exact ⟨0, rfl, by omega, fun j hj => absurd hj (by omega), rfl⟩
  case round =>
    obtain ⟨k, rfl, hk, hall, rfl⟩ := hrel
    have HALL := Lib.hid hall
    clear hall
    by_cases hlt : k < n
    · obtain ⟨b, off, rfl, hb, hc⟩ := HX.out.at_ (by omega)
      have hcx : wr.cell? ⟨b, off + k, none⟩ = some (.int .i64 (intAt xs k)) := hc k hlt
      obtain ⟨x, hxe⟩ : ∃ x, x = intAt xs k := ⟨_, rfl⟩
      rw [← hxe] at hcx
      have HXE := Lib.hid hxe
      have hk0 : (0 : Int) ≤ (k : Int) := by omega
      clear hc hxe
      by_cases he : x = z
      · have HYES : Hid (amongB xs z = true) := by
          show decide (z ∈ xs) = true
          rw [decide_eq_true_iff, ← he, HXE.out]
          exact List.mem_of_getElem? (intAt_get (by rw [HL.out]; exact hlt))
        have he' : (x == z) = true := by rw [he]; simp
        clear he
        go_wp2
        go_ret
        exact ⟨ret_b HYES.out.symm, rfl⟩
      · have he' : (x == z) = false := by simp; exact he
        have HNX : Hid (∀ j, j < k + 1 → intAt xs j ≠ z) := by
          intro j hj
          by_cases e : j = k
          · subst e; rw [← HXE.out]; exact he
          · exact HALL.out j (by omega)
        clear he
        go_wp2
        go_roundw
        case rel => exact ⟨k + 1, by go_num, by omega, HNX.out, trivial⟩
        case measure => simp [intOf]; omega
    · have HNO : Hid (amongB xs z = false) := by
        show decide (z ∈ xs) = false
        rw [decide_eq_false_iff_not]
        intro hm
        obtain ⟨j, hj, e⟩ := List.getElem_of_mem hm
        have g := intAt_get hj
        rw [List.getElem?_eq_getElem hj] at g
        injection g with g
        exact HALL.out j (by have := HL.out; omega) (by rw [← g]; exact e)
      have hkn : n ≤ k := by omega
      clear hlt
      go_wp2
      go_ret
      exact ⟨ret_b HNO.out.symm, rfl⟩
theorem among_quiet (A : Option Addr) (n c B : Nat) (xs : List Int) (z : Int) (w : World) (h : IntsAt w B A n xs) (hn : n ≤ maxLen) {b : Bool} (hb : amongB xs z = b) :
    Calls Try.prog 21 #[.slice A n c, .int .i64 z] w fun e w' => e = .returned (.bool b) ∧ w = w' := hb ▸ among_any A n c B xs z w h hn
/-- Find, where all that is given is right. -/
theorem FindPost.right {ss : List Sym} {ts : List (List Int)} {t : List Int} {way : Int} {w w' : World} {e : Ending} (h : FindPost ss ts t way w e w') (k : findOk ss ts t way = true) :
    ∃ A L c out, e = .returned (.tuple #[.slice A L c, .int .i64 0]) ∧ L = out.length ∧ L ≤ ts.length ∧ IntsAt w' w'.heap.size A L out ∧ Fnd (fun i => Hit ss t way (rowOf ts i)) ts.length out ∧ Below w.heap.size w w' := by
  obtain ⟨v, out, E, rfl, h2, h3, h4⟩ := h
  rcases h3 with ⟨q, _⟩ | ⟨_, rfl, h3⟩
  · rw [k] at q; cases q
  · obtain ⟨A, c, rfl, _, hi⟩ := h2.intsAt
    exact ⟨A, _, c, out, rfl, rfl, h3.len, hi, h3, h4⟩
theorem FindPost.wrong {ss : List Sym} {ts : List (List Int)} {t : List Int} {way : Int} {w w' : World} {e : Ending} (h : FindPost ss ts t way w e w') (k : findOk ss ts t way = false) :
    ∃ A c, e = .returned (.tuple #[.slice A 0 c, .int .i64 1200]) ∧ Below w.heap.size w w' := by
  obtain ⟨v, out, E, rfl, h2, h3, h4⟩ := h
  rcases h3 with ⟨_, rfl, rfl⟩ | ⟨q, _⟩
  · obtain ⟨A, c, rfl, _, hi⟩ := h2.intsAt
    exact ⟨A, c, rfl, h4⟩
  · rw [k] at q; cases q
theorem one_len {P : Nat → Prop} {a : List Int} {Q : Prop} {b : Bool} (h : Fnd P 1 a) (hpq : P 0 ↔ Q) (hb : b = true ↔ Q) : a.length = if b = true then 1 else 0 := by
  rcases h.one with ⟨rfl, hp⟩ | ⟨rfl, hp⟩
  · rw [if_pos (hb.2 (hpq.1 hp))]; rfl
  · rw [if_neg (fun e => hp (hpq.2 (hb.1 e)))]; rfl
theorem FindPost.one {ss : List Sym} {t u : List Int} {way : Int} {w w' : World} {e : Ending} (h : FindPost ss [t] u way w e w') (k : findOk ss [t] u way = true) {Q : Prop} {b : Bool} (hpq : Hit ss u way t ↔ Q) (hb : b = true ↔ Q) :
    ∃ A c, e = .returned (.tuple #[.slice A (if b = true then 1 else 0) c, .int .i64 0]) ∧ Below w.heap.size w w' := by
  obtain ⟨A, L, c, out, rfl, hl, _, _, hf, hbl⟩ := h.right k
  exact ⟨A, c, by rw [hl, one_len hf hpq hb], hbl⟩
theorem one_tup {w : World} {A2 : Option Addr} {n2 c2 : Nat} {t : List Int} (ha : IntsAt w w.heap.size A2 n2 t) (hl : t.length = n2) (hnc : n2 ≤ c2) (hn : n2 * 8 ≤ 140737488351232) (hz : A2 = none → c2 = 0) :
    TupsAt (w.alloc (.cells #[.slice A2 n2 c2] 23)) (w.alloc (.cells #[.slice A2 n2 c2] 23)).heap.size (some ⟨w.heap.size, 0, none⟩) 1 [t] :=
  tups_new (w := w) (us := [.slice A2 n2 c2]) (ts := [t]) (n := 1) rfl rfl fun i hi => by
    match i, hi with
    | 0, _ =>
      refine ⟨A2, c2, ?_, ?_, hz⟩
      · show Value.slice A2 n2 c2 = Value.slice A2 t.length c2
        rw [hl]
      · show RowIn w w.heap.size A2 t.length c2 t
        rw [hl]; exact ⟨ha, hnc, hn⟩
set_option maxHeartbeats 8000000 in
theorem pathWays_walk (A0 A1 A2 : Option Addr) (n0 c0 n1 c1 n2 c2 : Nat) (ss : List Sym) (ts : List (List Int)) (t : List Int) (w : World) (hs : SymsAt w w.heap.size A0 n0 ss) (hn0 : n0 ≤ maxLen) (hnc : n0 ≤ c0) (ht : TupsAt w w.heap.size A1 n1 ts) (hn1 : n1 * 24 ≤ 140737488351232)
    (ha : IntsAt w w.heap.size A2 n2 t) (hn2 : n2 * 8 ≤ 140737488351232) (hnc2 : n2 ≤ c2) (hz2 : A2 = none → c2 = 0) :
    Calls Try.prog 5 #[.slice A0 n0 c0, .slice A1 n1 c1, .slice A2 n2 c2] w fun e w' => e = .returned (.bool true) ∧ Below w.heap.size w w' := by
  have hm2 : n2 ≤ maxLen := by unfold maxLen; omega
  have HS := Lib.hid hs
  have HT := Lib.hid ht
  have HA := Lib.hid ha
  have HLT := Lib.hid ht.len
  have HLA := Lib.hid ha.len
  have HB0 := Lib.hid (Below.refl w.heap.size w)
  clear hs ht ha
  go_enter Try.func5, Try.ntmps5
  go_wp2_with fail
  refine (awakeR_any _).mono ?_
  rintro e w1 ⟨rfl, hb1⟩
  have HB1 := Lib.hid (HB0.out.trans (hb1.mono HB0.out.size))
  replace HS := Lib.hid (HS.out.on hb1)
  replace HT := Lib.hid (HT.out.on hb1)
  replace HA := Lib.hid (HA.out.on hb1)
  clear hb1
  obtain ⟨k0, k1, k2⟩ := findOk_ways ss ts t
  cases hok : (exprB ss t && ts.all (okRow ss))
  · rw [hok] at k0 k1 k2
    go_wp2_with fail
    refine (find_any A0 A1 A2 n0 c0 n1 c1 n2 c2 0 ss ts t _ HS.out hn0 hnc HT.out hn1 HA.out hm2 hnc2).mono ?_
    rintro e w2 hp2
    obtain ⟨B2, d2, rfl, hb2⟩ := hp2.wrong k0
    have HB2 := Lib.hid (HB1.out.trans (hb2.mono HB1.out.size))
    replace HS := Lib.hid (HS.out.on hb2)
    replace HT := Lib.hid (HT.out.on hb2)
    replace HA := Lib.hid (HA.out.on hb2)
    clear hp2 hb2 k0
    go_wp2_with fail
    refine (find_any A0 A1 A2 n0 c0 n1 c1 n2 c2 1 ss ts t _ HS.out hn0 hnc HT.out hn1 HA.out hm2 hnc2).mono ?_
    rintro e w3 hp3
    obtain ⟨B3, d3, rfl, hb3⟩ := hp3.wrong k1
    have HB3 := Lib.hid (HB2.out.trans (hb3.mono HB2.out.size))
    replace HS := Lib.hid (HS.out.on hb3)
    replace HT := Lib.hid (HT.out.on hb3)
    replace HA := Lib.hid (HA.out.on hb3)
    clear hp3 hb3 k1
    go_wp2_with fail
    refine (find_any A0 A1 A2 n0 c0 n1 c1 n2 c2 2 ss ts t _ HS.out hn0 hnc HT.out hn1 HA.out hm2 hnc2).mono ?_
    rintro e w4 hp4
    obtain ⟨B4, d4, rfl, hb4⟩ := hp4.wrong k2
    have HB4 := Lib.hid (HB3.out.trans (hb4.mono HB3.out.size))
    clear hp4 hb4 k2 hok
    go_wp2_with (go_at_call 13; refine (num_any _ _).mono ?_; rintro e w' ⟨rfl, rfl⟩)
    go_ret
    exact ⟨rfl, HB4.out⟩
  rw [hok] at k0 k1 k2
  have hxt : exprB ss t = true := by rw [Bool.and_eq_true] at hok; exact hok.1
  have hxs : ∀ i, i < ts.length → okRow ss (rowOf ts i) = true := by
    rw [Bool.and_eq_true, List.all_eq_true] at hok
    intro i hi
    exact hok.2 _ (rowOf_mem hi)
  have HXT := Lib.hid hxt
  have HXS := Lib.hid hxs
  clear hok hxt hxs
  go_wp2_with fail
  refine (find_any A0 A1 A2 n0 c0 n1 c1 n2 c2 0 ss ts t _ HS.out hn0 hnc HT.out hn1 HA.out hm2 hnc2).mono ?_
  rintro e w2 hp2
  obtain ⟨Aa, La, ca, xa, rfl, -, hla, hia, hfa, hb2⟩ := hp2.right k0
  have HIA := Lib.hid hia
  have HFA := Lib.hid hfa
  have HB2 := Lib.hid (HB1.out.trans (hb2.mono HB1.out.size))
  replace HS := Lib.hid (HS.out.on hb2)
  replace HT := Lib.hid (HT.out.on hb2)
  replace HA := Lib.hid (HA.out.on hb2)
  clear hp2 hb2 k0 hia hfa
  go_wp2_with fail
  refine (find_any A0 A1 A2 n0 c0 n1 c1 n2 c2 1 ss ts t _ HS.out hn0 hnc HT.out hn1 HA.out hm2 hnc2).mono ?_
  rintro e w3 hp3
  obtain ⟨Ab, Lb, cb, xb, rfl, -, hlb, hib, hfb, hb3⟩ := hp3.right k1
  have HIB := Lib.hid hib
  have HFB := Lib.hid hfb
  have HB3 := Lib.hid (HB2.out.trans (hb3.mono HB2.out.size))
  replace HS := Lib.hid (HS.out.on hb3)
  replace HT := Lib.hid (HT.out.on hb3)
  replace HA := Lib.hid (HA.out.on hb3)
  replace HIA := Lib.hid (HIA.out.on hb3)
  clear hp3 hb3 k1 hib hfb
  go_wp2_with fail
  refine (find_any A0 A1 A2 n0 c0 n1 c1 n2 c2 2 ss ts t _ HS.out hn0 hnc HT.out hn1 HA.out hm2 hnc2).mono ?_
  rintro e w4 hp4
  obtain ⟨Ac, Lc, cc, xc, rfl, -, hlc, hic, hfc, hb4⟩ := hp4.right k2
  have HIC := Lib.hid hic
  have HFC := Lib.hid hfc
  have HB4 := Lib.hid (HB3.out.trans (hb4.mono HB3.out.size))
  replace HS := Lib.hid (HS.out.on hb4)
  replace HT := Lib.hid (HT.out.on hb4)
  replace HA := Lib.hid (HA.out.on hb4)
  replace HIA := Lib.hid (HIA.out.on hb4)
  replace HIB := Lib.hid (HIB.out.on hb4)
  have hl : La ≤ maxLen ∧ Lb ≤ maxLen ∧ Lc ≤ maxLen := by have := HLT.out; unfold maxLen; omega
  obtain ⟨hla', hlb', hlc'⟩ := hl
  clear hp4 hb4 k2 hic hfc
  go_wp2_with (go_at_call 13; refine (num_any _ _).mono ?_; rintro e w' ⟨rfl, rfl⟩)
  go_loopw [13] (fun i wr => ∃ k : Nat, i = .int .i64 (k : Int) ∧ k ≤ n1 ∧ Below w4.heap.size w4 wr) (fun i _ => n1 - (intOf i).toNat)
  case atStart => exact ⟨0, rfl, by omega, Below.refl _ _⟩
  case round =>
    obtain ⟨k, rfl, hk, hbw⟩ := hrel
    have HBW := Lib.hid hbw
    have hsz := hbw.size
    replace HS := Lib.hid (HS.out.on hbw)
    replace HA := Lib.hid (HA.out.on hbw)
    replace HIA := Lib.hid (HIA.out.on hbw)
    replace HIB := Lib.hid (HIB.out.on hbw)
    replace HIC := Lib.hid (HIC.out.on hbw)
    replace HT := Lib.hid (HT.out.on hbw)
    clear hbw
    by_cases hlt : k < n1
    · obtain ⟨b, off, Au, cu, rfl, hb, hcell, hrow, hnil⟩ := HT.out.one hlt
      have HU := Lib.hid hrow
      have MA := HFA.out.among (k := k) (by rw [HLT.out]; exact hlt)
      have MB := HFB.out.among (k := k) (by rw [HLT.out]; exact hlt)
      have MC := HFC.out.among (k := k) (by rw [HLT.out]; exact hlt)
      have hokr := HXS.out k (by rw [HLT.out]; exact hlt)
      obtain ⟨u, hu⟩ : ∃ u, u = rowOf ts k := ⟨_, rfl⟩
      rw [← hu] at hcell HU MA MB MC hokr
      obtain ⟨m, hm⟩ : ∃ m, m = u.length := ⟨_, rfl⟩
      rw [← hm] at hcell HU
      have HM := Lib.hid hm
      have HMA := Lib.hid MA
      have HMB := Lib.hid MB
      have HMC := Lib.hid MC
      have HOK := Lib.hid hokr
      clear hrow hnil hu hm MA MB MC hokr
      by_cases h0 : m = 0
      · subst h0
        have hu0 : u = [] := List.length_eq_zero_iff.1 HM.out.symm
        have no : ∀ {a : List Int} {way : Int}, (amongB a (k : Int) = true ↔ Hit ss t way u) → amongB a (k : Int) = false := by
          intro a way h
          cases h1 : amongB a (k : Int)
          · rfl
          · exact absurd hu0 (h.1 h1).1
        have na := no HMA.out
        have nb := no HMB.out
        have nc := no HMC.out
        have GA := Lib.hid (among_quiet Aa La ca _ xa (k : Int) wr HIA.out hla' na)
        have GB := Lib.hid (among_quiet Ab Lb cb _ xb (k : Int) wr HIB.out hlb' nb)
        have GC := Lib.hid (among_quiet Ac Lc cc _ xc (k : Int) wr HIC.out hlc' nc)
        clear no na nb nc hu0
        go_wp2_with (first
          | (go_at_call 21; with_reducible refine GA.out.mono ?_; rintro e w' ⟨rfl, rfl⟩)
          | (go_at_call 21; with_reducible refine GB.out.mono ?_; rintro e w' ⟨rfl, rfl⟩)
          | (go_at_call 21; with_reducible refine GC.out.mono ?_; rintro e w' ⟨rfl, rfl⟩))
        go_roundw
        case rel => exact ⟨k + 1, by go_num, by omega, HBW.out⟩
        case measure => simp [intOf]; omega
      · have hne : ((m : Int) == 0) = false := by simp; omega
        have hun : u ≠ [] := by intro e; have := HM.out; rw [e] at this; exact h0 this
        have hxu : exprB ss u = true := by
          have := HOK.out
          unfold okRow at this
          cases hu : u with
          | nil => exact absurd hu hun
          | cons _ _ => rw [hu] at this; simpa using this
        have HXU := Lib.hid hxu
        have hkt : okRow ss t = true := by unfold okRow; rw [HXT.out, Bool.or_true]
        have HFK : Hid (findOk ss [t] u 2 = true) := by show findOk ss [t] u 2 = true; unfold findOk; rw [hxu]; simp only [List.all_cons, List.all_nil, hkt]; rfl
        have HFK0 : Hid (findOk ss [t] u 0 = true) := by show findOk ss [t] u 0 = true; unfold findOk; rw [hxu]; simp only [List.all_cons, List.all_nil, hkt]; rfl
        have HBA : Hid (amongB xb (k : Int) = true → amongB xa (k : Int) = true) := fun e => HMA.out.2 (hit_inst HXU.out HXT.out (HMB.out.1 e))
        have HCA : Hid (amongB xc (k : Int) = true → amongB xa (k : Int) = true) := fun e => HMA.out.2 (hit_gen HXU.out HXT.out (HMC.out.1 e))
        clear h0 hun hxu hkt
        cases ea : amongB xa (k : Int)
        · have eb : amongB xb (k : Int) = false := by cases q : amongB xb (k : Int); { rfl }; { have := HBA.out q; rw [ea] at this; cases this }
          have ec : amongB xc (k : Int) = false := by cases q : amongB xc (k : Int); { rfl }; { have := HCA.out q; rw [ea] at this; cases this }
          have GA := Lib.hid (among_quiet Aa La ca _ xa (k : Int) wr HIA.out hla' ea)
          have GB := Lib.hid (among_quiet Ab Lb cb _ xb (k : Int) wr HIB.out hlb' eb)
          have GC := Lib.hid (among_quiet Ac Lc cc _ xc (k : Int) wr HIC.out hlc' ec)
          have HEA := Lib.hid ea
          have HEB := Lib.hid eb
          have HEC := Lib.hid ec
          have hb5 := below_new wr (.cells #[.slice A2 n2 c2] 23)
          have hcell5 := (hb5.cell (p := ⟨b, off + k, none⟩) hb).trans hcell
          clear ea eb ec
          go_wp2_with (first
            | (go_at_call 21; with_reducible refine GA.out.mono ?_; rintro e w' ⟨rfl, rfl⟩)
            | (go_at_call 21; with_reducible refine GB.out.mono ?_; rintro e w' ⟨rfl, rfl⟩)
            | (go_at_call 21; with_reducible refine GC.out.mono ?_; rintro e w' ⟨rfl, rfl⟩)
            | (go_at_call 13; refine (num_any _ _).mono ?_; rintro e w' ⟨rfl, rfl⟩))
          obtain ⟨w5, hw5⟩ : ∃ w5, w5 = wr.alloc (.cells #[.slice A2 n2 c2] 23) := ⟨_, rfl⟩
          have HT5 : Hid (TupsAt w5 w5.heap.size (some ⟨wr.heap.size, 0, none⟩) 1 [t]) := by rw [hw5]; exact one_tup HA.out HLA.out hnc2 hn2 hz2
          rw [← hw5] at hb5 ⊢
          have HB5 := Lib.hid hb5
          clear hw5 hcell5 GA GB GC
          refine (find_any A0 (some ⟨wr.heap.size, 0, none⟩) Au n0 c0 1 1 m cu 2 ss [t] u w5 (HS.out.on HB5.out) hn0 hnc HT5.out (by omega) (HU.out.at_.on HB5.out) HU.out.big HU.out.cap).mono ?_
          rintro e w6 hp6
          obtain ⟨A6, c6, rfl, hb6⟩ := hp6.one HFK.out (hit_turn HXU.out HXT.out) HMB.out
          have HB6 : Hid (Below wr.heap.size wr w6) := HB5.out.trans (hb6.mono HB5.out.size)
          rw [HEB.out]
          have hb7 := below_new w6 (.cells #[.slice A2 n2 c2] 23)
          have hcell7 := ((HB6.out.trans (hb7.mono HB6.out.size)).cell (p := ⟨b, off + k, none⟩) hb).trans hcell
          clear hp6 hb6 HT5 hb5
          go_wp2_with fail
          obtain ⟨w7, hw7⟩ : ∃ w7, w7 = w6.alloc (.cells #[.slice A2 n2 c2] 23) := ⟨_, rfl⟩
          have HT7 : Hid (TupsAt w7 w7.heap.size (some ⟨w6.heap.size, 0, none⟩) 1 [t]) := by rw [hw7]; exact one_tup (HA.out.on HB6.out) HLA.out hnc2 hn2 hz2
          rw [← hw7] at hb7 ⊢
          have HB7 : Hid (Below wr.heap.size wr w7) := HB6.out.trans (hb7.mono HB6.out.size)
          clear hw7 hcell7 hb7
          refine (find_any A0 (some ⟨w6.heap.size, 0, none⟩) Au n0 c0 1 1 m cu 0 ss [t] u w7 (HS.out.on HB7.out) hn0 hnc HT7.out (by omega) (HU.out.at_.on HB7.out) HU.out.big HU.out.cap).mono ?_
          rintro e w8 hp8
          obtain ⟨A8, c8, rfl, hb8⟩ := hp8.one HFK0.out (hit_swap HXU.out HXT.out) HMA.out
          have HB8 : Hid (Below wr.heap.size wr w8) := HB7.out.trans (hb8.mono HB7.out.size)
          rw [HEA.out]
          have GA := Lib.hid (among_quiet Aa La ca _ xa (k : Int) w8 (HIA.out.on HB8.out) hla' HEA.out)
          have GB := Lib.hid (among_quiet Ab Lb cb _ xb (k : Int) w8 (HIB.out.on HB8.out) hlb' HEB.out)
          have GC := Lib.hid (among_quiet Ac Lc cc _ xc (k : Int) w8 (HIC.out.on HB8.out) hlc' HEC.out)
          clear hp8 hb8 HT7
          go_wp2_with (first
            | (go_at_call 21; with_reducible refine GA.out.mono ?_; rintro e w' ⟨rfl, rfl⟩)
            | (go_at_call 21; with_reducible refine GB.out.mono ?_; rintro e w' ⟨rfl, rfl⟩)
            | (go_at_call 21; with_reducible refine GC.out.mono ?_; rintro e w' ⟨rfl, rfl⟩)
            | (go_at_call 13; refine (num_any _ _).mono ?_; rintro e w' ⟨rfl, rfl⟩))
          go_roundw
          case rel => exact ⟨k + 1, by go_num, by omega, HBW.out.trans (HB8.out.mono hsz)⟩
          case measure => simp [intOf]; omega
        · cases eb : amongB xb (k : Int)
          · cases ec : amongB xc (k : Int)
            · skip
              have GA := Lib.hid (among_quiet Aa La ca _ xa (k : Int) wr HIA.out hla' ea)
              have GB := Lib.hid (among_quiet Ab Lb cb _ xb (k : Int) wr HIB.out hlb' eb)
              have GC := Lib.hid (among_quiet Ac Lc cc _ xc (k : Int) wr HIC.out hlc' ec)
              have HEA := Lib.hid ea
              have HEB := Lib.hid eb
              have HEC := Lib.hid ec
              have hb5 := below_new wr (.cells #[.slice A2 n2 c2] 23)
              have hcell5 := (hb5.cell (p := ⟨b, off + k, none⟩) hb).trans hcell
              clear ea eb ec
              go_wp2_with (first
                | (go_at_call 21; with_reducible refine GA.out.mono ?_; rintro e w' ⟨rfl, rfl⟩)
                | (go_at_call 21; with_reducible refine GB.out.mono ?_; rintro e w' ⟨rfl, rfl⟩)
                | (go_at_call 21; with_reducible refine GC.out.mono ?_; rintro e w' ⟨rfl, rfl⟩)
                | (go_at_call 13; refine (num_any _ _).mono ?_; rintro e w' ⟨rfl, rfl⟩))
              obtain ⟨w5, hw5⟩ : ∃ w5, w5 = wr.alloc (.cells #[.slice A2 n2 c2] 23) := ⟨_, rfl⟩
              have HT5 : Hid (TupsAt w5 w5.heap.size (some ⟨wr.heap.size, 0, none⟩) 1 [t]) := by rw [hw5]; exact one_tup HA.out HLA.out hnc2 hn2 hz2
              rw [← hw5] at hb5 ⊢
              have HB5 := Lib.hid hb5
              clear hw5 hcell5 GA GB GC
              refine (find_any A0 (some ⟨wr.heap.size, 0, none⟩) Au n0 c0 1 1 m cu 2 ss [t] u w5 (HS.out.on HB5.out) hn0 hnc HT5.out (by omega) (HU.out.at_.on HB5.out) HU.out.big HU.out.cap).mono ?_
              rintro e w6 hp6
              obtain ⟨A6, c6, rfl, hb6⟩ := hp6.one HFK.out (hit_turn HXU.out HXT.out) HMB.out
              have HB6 : Hid (Below wr.heap.size wr w6) := HB5.out.trans (hb6.mono HB5.out.size)
              rw [HEB.out]
              have hb7 := below_new w6 (.cells #[.slice A2 n2 c2] 23)
              have hcell7 := ((HB6.out.trans (hb7.mono HB6.out.size)).cell (p := ⟨b, off + k, none⟩) hb).trans hcell
              clear hp6 hb6 HT5 hb5
              go_wp2_with fail
              obtain ⟨w7, hw7⟩ : ∃ w7, w7 = w6.alloc (.cells #[.slice A2 n2 c2] 23) := ⟨_, rfl⟩
              have HT7 : Hid (TupsAt w7 w7.heap.size (some ⟨w6.heap.size, 0, none⟩) 1 [t]) := by rw [hw7]; exact one_tup (HA.out.on HB6.out) HLA.out hnc2 hn2 hz2
              rw [← hw7] at hb7 ⊢
              have HB7 : Hid (Below wr.heap.size wr w7) := HB6.out.trans (hb7.mono HB6.out.size)
              clear hw7 hcell7 hb7
              refine (find_any A0 (some ⟨w6.heap.size, 0, none⟩) Au n0 c0 1 1 m cu 0 ss [t] u w7 (HS.out.on HB7.out) hn0 hnc HT7.out (by omega) (HU.out.at_.on HB7.out) HU.out.big HU.out.cap).mono ?_
              rintro e w8 hp8
              obtain ⟨A8, c8, rfl, hb8⟩ := hp8.one HFK0.out (hit_swap HXU.out HXT.out) HMA.out
              have HB8 : Hid (Below wr.heap.size wr w8) := HB7.out.trans (hb8.mono HB7.out.size)
              rw [HEA.out]
              have GA := Lib.hid (among_quiet Aa La ca _ xa (k : Int) w8 (HIA.out.on HB8.out) hla' HEA.out)
              have GB := Lib.hid (among_quiet Ab Lb cb _ xb (k : Int) w8 (HIB.out.on HB8.out) hlb' HEB.out)
              have GC := Lib.hid (among_quiet Ac Lc cc _ xc (k : Int) w8 (HIC.out.on HB8.out) hlc' HEC.out)
              clear hp8 hb8 HT7
              go_wp2_with (first
                | (go_at_call 21; with_reducible refine GA.out.mono ?_; rintro e w' ⟨rfl, rfl⟩)
                | (go_at_call 21; with_reducible refine GB.out.mono ?_; rintro e w' ⟨rfl, rfl⟩)
                | (go_at_call 21; with_reducible refine GC.out.mono ?_; rintro e w' ⟨rfl, rfl⟩)
                | (go_at_call 13; refine (num_any _ _).mono ?_; rintro e w' ⟨rfl, rfl⟩))
              go_roundw
              case rel => exact ⟨k + 1, by go_num, by omega, HBW.out.trans (HB8.out.mono hsz)⟩
              case measure => simp [intOf]; omega
            · skip
              have GA := Lib.hid (among_quiet Aa La ca _ xa (k : Int) wr HIA.out hla' ea)
              have GB := Lib.hid (among_quiet Ab Lb cb _ xb (k : Int) wr HIB.out hlb' eb)
              have GC := Lib.hid (among_quiet Ac Lc cc _ xc (k : Int) wr HIC.out hlc' ec)
              have HEA := Lib.hid ea
              have HEB := Lib.hid eb
              have HEC := Lib.hid ec
              have hb5 := below_new wr (.cells #[.slice A2 n2 c2] 23)
              have hcell5 := (hb5.cell (p := ⟨b, off + k, none⟩) hb).trans hcell
              clear ea eb ec
              go_wp2_with (first
                | (go_at_call 21; with_reducible refine GA.out.mono ?_; rintro e w' ⟨rfl, rfl⟩)
                | (go_at_call 21; with_reducible refine GB.out.mono ?_; rintro e w' ⟨rfl, rfl⟩)
                | (go_at_call 21; with_reducible refine GC.out.mono ?_; rintro e w' ⟨rfl, rfl⟩)
                | (go_at_call 13; refine (num_any _ _).mono ?_; rintro e w' ⟨rfl, rfl⟩))
              obtain ⟨w5, hw5⟩ : ∃ w5, w5 = wr.alloc (.cells #[.slice A2 n2 c2] 23) := ⟨_, rfl⟩
              have HT5 : Hid (TupsAt w5 w5.heap.size (some ⟨wr.heap.size, 0, none⟩) 1 [t]) := by rw [hw5]; exact one_tup HA.out HLA.out hnc2 hn2 hz2
              rw [← hw5] at hb5 ⊢
              have HB5 := Lib.hid hb5
              clear hw5 hcell5 GA GB GC
              refine (find_any A0 (some ⟨wr.heap.size, 0, none⟩) Au n0 c0 1 1 m cu 2 ss [t] u w5 (HS.out.on HB5.out) hn0 hnc HT5.out (by omega) (HU.out.at_.on HB5.out) HU.out.big HU.out.cap).mono ?_
              rintro e w6 hp6
              obtain ⟨A6, c6, rfl, hb6⟩ := hp6.one HFK.out (hit_turn HXU.out HXT.out) HMB.out
              have HB6 : Hid (Below wr.heap.size wr w6) := HB5.out.trans (hb6.mono HB5.out.size)
              rw [HEB.out]
              have hb7 := below_new w6 (.cells #[.slice A2 n2 c2] 23)
              have hcell7 := ((HB6.out.trans (hb7.mono HB6.out.size)).cell (p := ⟨b, off + k, none⟩) hb).trans hcell
              clear hp6 hb6 HT5 hb5
              go_wp2_with fail
              obtain ⟨w7, hw7⟩ : ∃ w7, w7 = w6.alloc (.cells #[.slice A2 n2 c2] 23) := ⟨_, rfl⟩
              have HT7 : Hid (TupsAt w7 w7.heap.size (some ⟨w6.heap.size, 0, none⟩) 1 [t]) := by rw [hw7]; exact one_tup (HA.out.on HB6.out) HLA.out hnc2 hn2 hz2
              rw [← hw7] at hb7 ⊢
              have HB7 : Hid (Below wr.heap.size wr w7) := HB6.out.trans (hb7.mono HB6.out.size)
              clear hw7 hcell7 hb7
              refine (find_any A0 (some ⟨w6.heap.size, 0, none⟩) Au n0 c0 1 1 m cu 0 ss [t] u w7 (HS.out.on HB7.out) hn0 hnc HT7.out (by omega) (HU.out.at_.on HB7.out) HU.out.big HU.out.cap).mono ?_
              rintro e w8 hp8
              obtain ⟨A8, c8, rfl, hb8⟩ := hp8.one HFK0.out (hit_swap HXU.out HXT.out) HMA.out
              have HB8 : Hid (Below wr.heap.size wr w8) := HB7.out.trans (hb8.mono HB7.out.size)
              rw [HEA.out]
              have GA := Lib.hid (among_quiet Aa La ca _ xa (k : Int) w8 (HIA.out.on HB8.out) hla' HEA.out)
              have GB := Lib.hid (among_quiet Ab Lb cb _ xb (k : Int) w8 (HIB.out.on HB8.out) hlb' HEB.out)
              have GC := Lib.hid (among_quiet Ac Lc cc _ xc (k : Int) w8 (HIC.out.on HB8.out) hlc' HEC.out)
              clear hp8 hb8 HT7
              go_wp2_with (first
                | (go_at_call 21; with_reducible refine GA.out.mono ?_; rintro e w' ⟨rfl, rfl⟩)
                | (go_at_call 21; with_reducible refine GB.out.mono ?_; rintro e w' ⟨rfl, rfl⟩)
                | (go_at_call 21; with_reducible refine GC.out.mono ?_; rintro e w' ⟨rfl, rfl⟩)
                | (go_at_call 13; refine (num_any _ _).mono ?_; rintro e w' ⟨rfl, rfl⟩))
              go_roundw
              case rel => exact ⟨k + 1, by go_num, by omega, HBW.out.trans (HB8.out.mono hsz)⟩
              case measure => simp [intOf]; omega
          · cases ec : amongB xc (k : Int)
            · skip
              have GA := Lib.hid (among_quiet Aa La ca _ xa (k : Int) wr HIA.out hla' ea)
              have GB := Lib.hid (among_quiet Ab Lb cb _ xb (k : Int) wr HIB.out hlb' eb)
              have GC := Lib.hid (among_quiet Ac Lc cc _ xc (k : Int) wr HIC.out hlc' ec)
              have HEA := Lib.hid ea
              have HEB := Lib.hid eb
              have HEC := Lib.hid ec
              have hb5 := below_new wr (.cells #[.slice A2 n2 c2] 23)
              have hcell5 := (hb5.cell (p := ⟨b, off + k, none⟩) hb).trans hcell
              clear ea eb ec
              go_wp2_with (first
                | (go_at_call 21; with_reducible refine GA.out.mono ?_; rintro e w' ⟨rfl, rfl⟩)
                | (go_at_call 21; with_reducible refine GB.out.mono ?_; rintro e w' ⟨rfl, rfl⟩)
                | (go_at_call 21; with_reducible refine GC.out.mono ?_; rintro e w' ⟨rfl, rfl⟩)
                | (go_at_call 13; refine (num_any _ _).mono ?_; rintro e w' ⟨rfl, rfl⟩))
              obtain ⟨w5, hw5⟩ : ∃ w5, w5 = wr.alloc (.cells #[.slice A2 n2 c2] 23) := ⟨_, rfl⟩
              have HT5 : Hid (TupsAt w5 w5.heap.size (some ⟨wr.heap.size, 0, none⟩) 1 [t]) := by rw [hw5]; exact one_tup HA.out HLA.out hnc2 hn2 hz2
              rw [← hw5] at hb5 ⊢
              have HB5 := Lib.hid hb5
              clear hw5 hcell5 GA GB GC
              refine (find_any A0 (some ⟨wr.heap.size, 0, none⟩) Au n0 c0 1 1 m cu 2 ss [t] u w5 (HS.out.on HB5.out) hn0 hnc HT5.out (by omega) (HU.out.at_.on HB5.out) HU.out.big HU.out.cap).mono ?_
              rintro e w6 hp6
              obtain ⟨A6, c6, rfl, hb6⟩ := hp6.one HFK.out (hit_turn HXU.out HXT.out) HMB.out
              have HB6 : Hid (Below wr.heap.size wr w6) := HB5.out.trans (hb6.mono HB5.out.size)
              rw [HEB.out]
              have hb7 := below_new w6 (.cells #[.slice A2 n2 c2] 23)
              have hcell7 := ((HB6.out.trans (hb7.mono HB6.out.size)).cell (p := ⟨b, off + k, none⟩) hb).trans hcell
              clear hp6 hb6 HT5 hb5
              go_wp2_with fail
              obtain ⟨w7, hw7⟩ : ∃ w7, w7 = w6.alloc (.cells #[.slice A2 n2 c2] 23) := ⟨_, rfl⟩
              have HT7 : Hid (TupsAt w7 w7.heap.size (some ⟨w6.heap.size, 0, none⟩) 1 [t]) := by rw [hw7]; exact one_tup (HA.out.on HB6.out) HLA.out hnc2 hn2 hz2
              rw [← hw7] at hb7 ⊢
              have HB7 : Hid (Below wr.heap.size wr w7) := HB6.out.trans (hb7.mono HB6.out.size)
              clear hw7 hcell7 hb7
              refine (find_any A0 (some ⟨w6.heap.size, 0, none⟩) Au n0 c0 1 1 m cu 0 ss [t] u w7 (HS.out.on HB7.out) hn0 hnc HT7.out (by omega) (HU.out.at_.on HB7.out) HU.out.big HU.out.cap).mono ?_
              rintro e w8 hp8
              obtain ⟨A8, c8, rfl, hb8⟩ := hp8.one HFK0.out (hit_swap HXU.out HXT.out) HMA.out
              have HB8 : Hid (Below wr.heap.size wr w8) := HB7.out.trans (hb8.mono HB7.out.size)
              rw [HEA.out]
              have GA := Lib.hid (among_quiet Aa La ca _ xa (k : Int) w8 (HIA.out.on HB8.out) hla' HEA.out)
              have GB := Lib.hid (among_quiet Ab Lb cb _ xb (k : Int) w8 (HIB.out.on HB8.out) hlb' HEB.out)
              have GC := Lib.hid (among_quiet Ac Lc cc _ xc (k : Int) w8 (HIC.out.on HB8.out) hlc' HEC.out)
              clear hp8 hb8 HT7
              go_wp2_with (first
                | (go_at_call 21; with_reducible refine GA.out.mono ?_; rintro e w' ⟨rfl, rfl⟩)
                | (go_at_call 21; with_reducible refine GB.out.mono ?_; rintro e w' ⟨rfl, rfl⟩)
                | (go_at_call 21; with_reducible refine GC.out.mono ?_; rintro e w' ⟨rfl, rfl⟩)
                | (go_at_call 13; refine (num_any _ _).mono ?_; rintro e w' ⟨rfl, rfl⟩))
              go_roundw
              case rel => exact ⟨k + 1, by go_num, by omega, HBW.out.trans (HB8.out.mono hsz)⟩
              case measure => simp [intOf]; omega
            · skip
              have GA := Lib.hid (among_quiet Aa La ca _ xa (k : Int) wr HIA.out hla' ea)
              have GB := Lib.hid (among_quiet Ab Lb cb _ xb (k : Int) wr HIB.out hlb' eb)
              have GC := Lib.hid (among_quiet Ac Lc cc _ xc (k : Int) wr HIC.out hlc' ec)
              have HEA := Lib.hid ea
              have HEB := Lib.hid eb
              have HEC := Lib.hid ec
              have hb5 := below_new wr (.cells #[.slice A2 n2 c2] 23)
              have hcell5 := (hb5.cell (p := ⟨b, off + k, none⟩) hb).trans hcell
              clear ea eb ec
              go_wp2_with (first
                | (go_at_call 21; with_reducible refine GA.out.mono ?_; rintro e w' ⟨rfl, rfl⟩)
                | (go_at_call 21; with_reducible refine GB.out.mono ?_; rintro e w' ⟨rfl, rfl⟩)
                | (go_at_call 21; with_reducible refine GC.out.mono ?_; rintro e w' ⟨rfl, rfl⟩)
                | (go_at_call 13; refine (num_any _ _).mono ?_; rintro e w' ⟨rfl, rfl⟩))
              obtain ⟨w5, hw5⟩ : ∃ w5, w5 = wr.alloc (.cells #[.slice A2 n2 c2] 23) := ⟨_, rfl⟩
              have HT5 : Hid (TupsAt w5 w5.heap.size (some ⟨wr.heap.size, 0, none⟩) 1 [t]) := by rw [hw5]; exact one_tup HA.out HLA.out hnc2 hn2 hz2
              rw [← hw5] at hb5 ⊢
              have HB5 := Lib.hid hb5
              clear hw5 hcell5 GA GB GC
              refine (find_any A0 (some ⟨wr.heap.size, 0, none⟩) Au n0 c0 1 1 m cu 2 ss [t] u w5 (HS.out.on HB5.out) hn0 hnc HT5.out (by omega) (HU.out.at_.on HB5.out) HU.out.big HU.out.cap).mono ?_
              rintro e w6 hp6
              obtain ⟨A6, c6, rfl, hb6⟩ := hp6.one HFK.out (hit_turn HXU.out HXT.out) HMB.out
              have HB6 : Hid (Below wr.heap.size wr w6) := HB5.out.trans (hb6.mono HB5.out.size)
              rw [HEB.out]
              have hb7 := below_new w6 (.cells #[.slice A2 n2 c2] 23)
              have hcell7 := ((HB6.out.trans (hb7.mono HB6.out.size)).cell (p := ⟨b, off + k, none⟩) hb).trans hcell
              clear hp6 hb6 HT5 hb5
              go_wp2_with fail
              obtain ⟨w7, hw7⟩ : ∃ w7, w7 = w6.alloc (.cells #[.slice A2 n2 c2] 23) := ⟨_, rfl⟩
              have HT7 : Hid (TupsAt w7 w7.heap.size (some ⟨w6.heap.size, 0, none⟩) 1 [t]) := by rw [hw7]; exact one_tup (HA.out.on HB6.out) HLA.out hnc2 hn2 hz2
              rw [← hw7] at hb7 ⊢
              have HB7 : Hid (Below wr.heap.size wr w7) := HB6.out.trans (hb7.mono HB6.out.size)
              clear hw7 hcell7 hb7
              refine (find_any A0 (some ⟨w6.heap.size, 0, none⟩) Au n0 c0 1 1 m cu 0 ss [t] u w7 (HS.out.on HB7.out) hn0 hnc HT7.out (by omega) (HU.out.at_.on HB7.out) HU.out.big HU.out.cap).mono ?_
              rintro e w8 hp8
              obtain ⟨A8, c8, rfl, hb8⟩ := hp8.one HFK0.out (hit_swap HXU.out HXT.out) HMA.out
              have HB8 : Hid (Below wr.heap.size wr w8) := HB7.out.trans (hb8.mono HB7.out.size)
              rw [HEA.out]
              have GA := Lib.hid (among_quiet Aa La ca _ xa (k : Int) w8 (HIA.out.on HB8.out) hla' HEA.out)
              have GB := Lib.hid (among_quiet Ab Lb cb _ xb (k : Int) w8 (HIB.out.on HB8.out) hlb' HEB.out)
              have GC := Lib.hid (among_quiet Ac Lc cc _ xc (k : Int) w8 (HIC.out.on HB8.out) hlc' HEC.out)
              clear hp8 hb8 HT7
              go_wp2_with (first
                | (go_at_call 21; with_reducible refine GA.out.mono ?_; rintro e w' ⟨rfl, rfl⟩)
                | (go_at_call 21; with_reducible refine GB.out.mono ?_; rintro e w' ⟨rfl, rfl⟩)
                | (go_at_call 21; with_reducible refine GC.out.mono ?_; rintro e w' ⟨rfl, rfl⟩)
                | (go_at_call 13; refine (num_any _ _).mono ?_; rintro e w' ⟨rfl, rfl⟩))
              go_roundw
              case rel => exact ⟨k + 1, by go_num, by omega, HBW.out.trans (HB8.out.mono hsz)⟩
              case measure => simp [intOf]; omega
    · go_wp2
      go_ret
      exact ⟨rfl, HB4.out.trans (HBW.out.mono HB4.out.size)⟩
end Go.Proofs.Ythdpojokogiinaa
