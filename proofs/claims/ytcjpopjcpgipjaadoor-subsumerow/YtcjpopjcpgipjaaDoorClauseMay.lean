/-
  Contracts: clause.size, mayLits, mayTuples, May.
-/
import Derived.Test.YtcjpopjcpgipjaaDoorClauseRows
namespace Go.Proofs.YtcjpopjcpgipjaaDoor
open Go.RowKit Go.Deep
set_option linter.unusedSimpArgs false
set_option linter.unusedVariables false
set_option maxRecDepth 100000

section
variable {w w' : World} {B n : Nat} {A : Option Addr} {ls : List Lt} {ts : List (List Int)} {v : Cv} {c : Cl}
theorem LitsAt.vals (h : LitsAt w B A n ls) : ∃ vs, LVals w B A n vs ∧ ∀ i, i < n → ∃ A' c, valAt vs i = .slice A' (ltAt ls i).atom.length c ∧ LitAt w B A' (ltAt ls i).atom.length c (ltAt ls i) := by
  by_cases hn : 0 < n
  · obtain ⟨b, off, e, hb, hc⟩ := h.at_ hn
    obtain ⟨vs, h1, h2⟩ := exists_vals (P := fun i u => ∃ A' c, u = .slice A' (ltAt ls i).atom.length c ∧ w.cell? ⟨b, off + i * 2 + 1, none⟩ = some u ∧ LitAt w B A' (ltAt ls i).atom.length c (ltAt ls i)) n (fun i hi => by
      obtain ⟨_, A', c, k1, k2, k3⟩ := hc i hi
      exact ⟨_, A', c, rfl, k1, k3, k2, h.fit i hi⟩)
    refine ⟨vs, ⟨h1, fun _ => ⟨b, off, e, hb, fun i hi => ?_⟩⟩, fun i hi => ?_⟩
    · obtain ⟨A', c, k1, k2, k3⟩ := h2 i hi
      rw [k1] at k2
      exact ⟨_, A', _, c, (hc i hi).1, k2, k1⟩
    · obtain ⟨A', c, k1, k2, k3⟩ := h2 i hi
      exact ⟨A', c, k1, k3⟩
  · obtain rfl : n = 0 := by omega
    exact ⟨[], ⟨rfl, fun h => absurd h (by omega)⟩, fun i hi => absurd hi (by omega)⟩
theorem TupsAt.vals (h : TupsAt w B A n ts) : ∃ vs, TVals w B A n vs ∧ ∀ i, i < n → ∃ A' c, valAt vs i = .slice A' (rowOf ts i).length c ∧ RowIn w B A' (rowOf ts i).length c (rowOf ts i) ∧ (A' = none → c = 0) := by
  by_cases hn : 0 < n
  · obtain ⟨b, off, e, hb, hc⟩ := h.at_ hn
    obtain ⟨vs, h1, h2⟩ := exists_vals (P := fun i u => ∃ A' c, u = .slice A' (rowOf ts i).length c ∧ w.cell? ⟨b, off + i, none⟩ = some u ∧ RowIn w B A' (rowOf ts i).length c (rowOf ts i) ∧ (A' = none → c = 0)) n (fun i hi => by
      obtain ⟨A', c, k1, k2, k3⟩ := hc i hi
      exact ⟨_, A', c, rfl, k1, k2, k3⟩)
    refine ⟨vs, ⟨h1, fun _ => ⟨b, off, e, hb, fun i hi => ?_⟩⟩, fun i hi => ?_⟩
    · obtain ⟨A', c, k1, k2, k3⟩ := h2 i hi
      rw [k1] at k2
      exact ⟨A', _, c, k2, k1⟩
    · obtain ⟨A', c, k1, k2, k3⟩ := h2 i hi
      exact ⟨A', c, k1, k3⟩
  · obtain rfl : n = 0 := by omega
    exact ⟨[], ⟨rfl, fun h => absurd h (by omega)⟩, fun i hi => absurd hi (by omega)⟩
/-- A clause of few parts, none of whose atoms is empty. -/
structure Small (c : Cl) : Prop where
  l : c.lits.length ≤ 5
  t : c.tups.length ≤ 3
  d : c.conds.length ≤ 3
  al : ∀ l ∈ c.lits, 0 < l.atom.length
  ad : ∀ l ∈ c.conds, 0 < l.atom.length
  r : ∀ r ∈ rowsC c, r.length ≤ 49
theorem lit_pos {ss : List Sym} {l : Lt} (h : litB ss l = true) : 0 < l.atom.length ∧ l.atom.length ≤ 49 := by
  obtain ⟨x, a⟩ := l
  cases a with
  | nil => cases h
  | cons c0 r =>
    have h' : atomB ss (c0 :: r) = true := h
    unfold atomB at h'
    simp only [Bool.and_eq_true, decide_eq_true_eq] at h'
    obtain ⟨⟨⟨⟨h1, h2⟩, h3⟩, h4⟩, h5⟩ := h'
    have := (row_parts h4).2.1
    simp only [List.length_cons]
    omega
theorem small_of {ss : List Sym} (h1 : c.lits.length ≤ 5) (h2 : c.tups.length ≤ 3) (h3 : c.conds.length ≤ 3) (k1 : c.lits.all (litB ss) = true) (k2 : c.conds.all (litB ss) = true) (k3 : tupsB ss c.tups = true) : Small c := by
  rw [List.all_eq_true] at k1 k2
  unfold tupsB at k3
  rw [List.all_eq_true] at k3
  refine ⟨h1, h2, h3, fun l hl => (lit_pos (k1 l hl)).1, fun l hl => (lit_pos (k2 l hl)).1, fun r hr => ?_⟩
  unfold rowsC at hr
  rcases List.mem_append.1 hr with hr | hr
  · obtain ⟨l, hl, rfl⟩ := List.mem_map.1 hr
    exact (lit_pos (k1 l hl)).2
  · rcases List.mem_append.1 hr with hr | hr
    · have := k3 r hr
      rw [Bool.and_eq_true] at this
      have := (row_parts this.1).2.1
      omega
    · obtain ⟨l, hl, rfl⟩ := List.mem_map.1 hr
      exact (lit_pos (k2 l hl)).2
theorem MayC.small {ss : List Sym} (h : MayC ss c) : Small c :=
  small_of (ss := ss) h.nl h.nt h.nc (List.all_eq_true.2 h.lits) (List.all_eq_true.2 h.conds) (by unfold tupsB; rw [List.all_eq_true]; intro t ht; rw [(h.tups t ht).1, Bool.true_and, decide_eq_true_iff]; exact (h.tups t ht).2)
theorem IntsAt.some_ {r : List Int} (h : IntsAt w B A n r) (hp : 0 < n) : A ≠ none := by
  obtain ⟨b, off, e, _⟩ := h.at_ hp
  rw [e]; exact fun q => by cases q
theorem ClAt.vals (h : ClAt w w.heap.size v c) (hs : Small c) : ∃ vs1 vs2 vs3, CVals w v vs1 vs2 vs3 ∧ (vs1 ++ vs2 ++ vs3).length = (rowsC c).length ∧
    ∀ i, i < (rowsC c).length → ∃ A c', valAt (vs1 ++ vs2 ++ vs3) i = .slice A (rowOf (rowsC c) i).length c' ∧ RowIn w w.heap.size A (rowOf (rowsC c) i).length c' (rowOf (rowsC c) i) ∧ (A = none → c' = 0) := by
  obtain ⟨vs1, a1, a2⟩ := h.lits.vals
  obtain ⟨vs2, b1, b2⟩ := h.tups.vals
  obtain ⟨vs3, d1, d2⟩ := h.conds.vals
  have l1 := h.lits.len
  have l2 := h.tups.len
  have l3 := h.conds.len
  have m1 := a1.len
  have m2 := b1.len
  have m3 := d1.len
  have q1 := hs.l
  have q2 := hs.t
  have q3 := hs.d
  have e : (rowsC c).length = c.lits.length + (c.tups.length + c.conds.length) := by unfold rowsC; simp
  refine ⟨vs1, vs2, vs3, ⟨a1, b1, d1, h.z2, by omega, by omega, by omega⟩, by rw [e]; simp; omega, fun i hi => ?_⟩
  rw [e] at hi
  rw [List.append_assoc]
  unfold rowsC
  by_cases i1 : i < c.lits.length
  · rw [valAt_lefts (by omega), rowOf_left (by simpa using i1), rowOf_atoms i1]
    obtain ⟨A', c', k1, k2⟩ := a2 i (by omega)
    refine ⟨A', c', k1, k2.row, fun q => absurd q (k2.at_.some_ (hs.al _ (ltAt_mem i1)))⟩
  · rw [valAt_rights (by omega), rowOf_right (by simp; omega), m1, ← l1]
    simp only [List.length_map]
    by_cases i2 : i - c.lits.length < c.tups.length
    · rw [valAt_lefts (by omega), rowOf_left i2]
      exact b2 _ (by omega)
    · rw [valAt_rights (by omega), rowOf_right (by omega), m2, ← l2]
      have i3 : i - c.lits.length - c.tups.length < c.conds.length := by omega
      rw [rowOf_atoms i3]
      obtain ⟨A', c', k1, k2⟩ := d2 _ (show i - c.lits.length - c.tups.length < v.n3 by omega)
      exact ⟨A', c', k1, k2.row, fun q => absurd q (k2.at_.some_ (hs.ad _ (ltAt_mem i3)))⟩
end
def RowsPost (L : List (List Int)) (w : World) (e : Ending) (w' : World) : Prop := ∃ A cap, e = .returned (.slice A L.length cap) ∧ L.length ≤ cap ∧ TupsAt w' w'.heap.size A L.length L ∧ Below w.heap.size w w'
theorem rows_post {w w' : World} {e : Ending} {vs : List Value} {L : List (List Int)} (h : ValsPost vs w e w') (hl : vs.length = L.length) (hr : ∀ i, i < L.length → ∃ A c', valAt vs i = .slice A (rowOf L i).length c' ∧ RowIn w w.heap.size A (rowOf L i).length c' (rowOf L i) ∧ (A = none → c' = 0)) : RowsPost L w e w' := by
  obtain ⟨v, rfl, hv, hb⟩ := h
  obtain ⟨A, cap, rfl, h1, h2, _⟩ := TupsAt.of_own hv hl fun i hi => by
    obtain ⟨A, c', k1, k2, k3⟩ := hr i hi
    exact ⟨A, c', k1, k2.on hb, k3⟩
  exact ⟨A, cap, rfl, h1, h2, hb⟩
theorem partsR_any (v : Cv) (c : Cl) (w : World) (h : ClAt w w.heap.size v c) (hs : Small c) : Calls Tryd.prog 42 #[v.val] w (RowsPost (rowsC c) w) := by
  obtain ⟨vs1, vs2, vs3, h1, h2, h3⟩ := h.vals hs
  exact (parts_any v vs1 vs2 vs3 w h1).mono fun e w' q => rows_post q h2 h3
theorem refRowsR_any (v : Cv) (c : Cl) (w : World) (h : ClAt w w.heap.size v c) (hs : Small c) : Calls Tryd.prog 60 #[v.val] w (RowsPost (rowsC c) w) := by
  obtain ⟨vs1, vs2, vs3, h1, h2, h3⟩ := h.vals hs
  exact (refRows_any v vs1 vs2 vs3 w h1).mono fun e w' q => rows_post q h2 h3
theorem Small.rows {c : Cl} (h : Small c) : (rowsC c).length ≤ 11 := by
  have := h.l
  have := h.t
  have := h.d
  unfold rowsC; simp; omega
theorem flat_few {L : List (List Int)} (h : ∀ r ∈ L, r.length ≤ 49) : L.flatten.length ≤ 49 * L.length := by
  induction L with
  | nil => simp
  | cons r L ih =>
    have := ih fun x hx => h x (List.mem_cons_of_mem _ hx)
    have := h r (List.mem_cons_self ..)
    simp only [List.flatten_cons, List.length_append, List.length_cons]; omega

set_option maxHeartbeats 1000000 in
theorem size_any (v : Cv) (c : Cl) (w : World) (h : ClAt w w.heap.size v c) (hs : Small c) :
    Calls Tryd.prog 40 #[v.val] w fun e w' => e = .returned (.int .i64 (codesC c).length) ∧ Below w.heap.size w w' := by
  have hb0 := below_new w v.obj
  have hv := h.on hb0
  have HSM := Lib.hid hs
  have HR : Hid (∀ k, ((rowsC c).take k).flatten.length ≤ 49 * 11) := fun k => Nat.le_trans (flat_few fun r hr => hs.r r (List.mem_of_mem_take hr)) (by have := hs.rows; rw [List.length_take]; omega)
  have hrl := hs.rows
  have hv0 : v.val = .agg #[.slice v.A1 v.n1 v.c1, .slice v.A2 v.n2 v.c2, .slice v.A3 v.n3 v.c3] := rfl
  rw [hv0]
  have HV0 := Lib.hid hv0
  unfold Cv.obj at hv hb0
  have HV := Lib.hid hv
  have HB0 := Lib.hid hb0
  clear h hs hb0 hv hv0
  obtain ⟨L, hL⟩ : ∃ L, L = rowsC c := ⟨_, rfl⟩
  have HE : Hid ((codesC c).length = L.flatten.length) := by show _ = _; rw [hL]; rfl
  have HPA := Lib.hid (partsR_any v c)
  rw [← hL] at HR hrl HPA
  clear hL
  go_enter Tryd.func40, Tryd.ntmps40
  go_wp2_with fail
  rw [← HV0.out]
  refine (HPA.out _ HV.out HSM.out).mono ?_
  rintro e w1 ⟨A, cap, rfl, hcap, ht, hb1⟩
  have HT := Lib.hid ht
  have HB1 := Lib.hid (HB0.out.trans (hb1.mono HB0.out.size))
  obtain ⟨n, hn⟩ : ∃ n, n = L.length := ⟨_, rfl⟩
  rw [← hn] at HT hcap hrl ⊢
  have HN := Lib.hid hn
  clear ht hb1 hn
  go_wp2
  go_loopw [3, 9] (fun q i wr => ∃ k s : Nat, q = .int .i64 s ∧ i = .int .i64 k ∧ k ≤ n ∧ s = (L.take k).flatten.length ∧ wr = w1) (fun _ i _ => n - (intOf i).toNat)
  case atStart => exact ⟨0, 0, rfl, rfl, by omega, rfl, rfl⟩
  case round =>
    obtain ⟨k, s, rfl, rfl, hk, hs, rfl⟩ := hrel
    have HS := Lib.hid hs
    have hs2 : s ≤ 49 * 11 := by rw [hs]; exact HR.out k
    clear hs
    by_cases hlt : k < n
    · obtain ⟨b, off, A2, c2, rfl, hb, d0, hr, -⟩ := HT.out.one hlt
      have HX : Hid ((L.take (k + 1)).flatten.length = s + (rowOf L k).length) := by
        show _ = _
        rw [rowOf_take (by rw [← HN.out]; exact hlt), List.length_append, ← HS.out]
      have hs3 := HR.out (k + 1)
      rw [HX.out] at hs3
      obtain ⟨m, hm⟩ : ∃ m, m = (rowOf L k).length := ⟨_, rfl⟩
      rw [← hm] at d0 HX hs3
      have hi0 : (0 : Int) ≤ (k : Int) := by omega
      have hi3 : (k : Int) < (n : Int) := by omega
      clear hr hm
      go_wp2
      go_roundw
      case rel => exact ⟨k + 1, s + m, by go_num, by go_num, by omega, HX.out.symm, trivial⟩
      case measure => simp [intOf]; omega
    · obtain rfl : k = n := by omega
      go_wp2
      go_ret
      have e2 : (codesC c).length = s := by rw [HE.out, HS.out, List.take_of_length_le (by have := HN.out; omega)]
      exact ⟨ret_int (by rw [e2]), HB1.out⟩

theorem all_not {ss : List Sym} {ls : List Lt} {k : Nat} (hk : k < ls.length) (h : litB ss (ltAt ls k) = false) : ls.all (litB ss) = false := by
  rw [List.all_eq_false]
  exact ⟨_, ltAt_mem hk, by rw [h]; simp⟩
theorem all_yes {ss : List Sym} {ls : List Lt} (h : ∀ j, j < ls.length → litB ss (ltAt ls j) = true) : ls.all (litB ss) = true := by
  rw [List.all_eq_true]
  intro p hp
  obtain ⟨j, hj, rfl⟩ := mem_ltAt hp
  exact h j hj
set_option maxHeartbeats 1000000 in
theorem mayLits_any (A A1 : Option Addr) (n c n1 c1 : Nat) (ss : List Sym) (ls : List Lt) (w : World) (h : SymsAt w w.heap.size A n ss) (hn : n ≤ maxLen) (hnc : n ≤ c) (hl : LitsAt w w.heap.size A1 n1 ls) (hn1 : n1 ≤ 4398046511104) :
    Calls Tryd.prog 38 #[.slice A n c, .slice A1 n1 c1] w fun e w' => e = .returned (.bool (ls.all (litB ss))) ∧ Below w.heap.size w w' := by
  have HS := Lib.hid h
  have HL := Lib.hid hl
  have HN := Lib.hid hl.len
  clear h hl
  go_enter Tryd.func38, Tryd.ntmps38
  go_wp2
  go_loopw [9] (fun j wr => ∃ k : Nat, j = .int .i64 k ∧ k ≤ n1 ∧ (∀ j, j < k → litB ss (ltAt ls j) = true) ∧ Below w.heap.size w wr) (fun j _ => n1 - (intOf j).toNat)
  case atStart => exact ⟨0, rfl, by omega, fun j hj => absurd hj (by omega), Below.refl _ _⟩
  case round =>
    obtain ⟨k, rfl, hk, hyes, hbw⟩ := hrel
    have HBW := Lib.hid hbw
    have HY := Lib.hid hyes
    clear hbw hyes
    by_cases hlt : k < n1
    · obtain ⟨b, off, A2, c2, rfl, hb, d0, d1, hk1⟩ := (HL.out.on HBW.out).one hlt
      have HNX : Hid (litB ss (ltAt ls k) = true → ∀ j, j < k + 1 → litB ss (ltAt ls j) = true) := by
        intro q j hj
        by_cases e : j = k
        · rw [e]; exact q
        · exact HY.out j (by omega)
      have HNO : Hid (litB ss (ltAt ls k) = false → ls.all (litB ss) = false) := fun q => all_not (by rw [HN.out]; exact hlt) q
      obtain ⟨p, hp⟩ : ∃ p, p = ltAt ls k := ⟨_, rfl⟩
      rw [← hp] at d0 d1 hk1 HNX HNO
      have HK1 := Lib.hid hk1
      have HS1 := Lib.hid (HS.out.on HBW.out)
      have hi0 : (0 : Int) ≤ (k : Int) := by omega
      have hi3 : (k : Int) < (n1 : Int) := by omega
      clear hk1 hp
      go_wp2_with fail
      have hb0 := below_new wr (.cells #[.bool p.neg, .slice A2 p.atom.length c2] 75)
      refine (litMay_any A A2 n c _ c2 ss p _ (HS1.out.on hb0) hn hnc (HK1.out.on hb0)).mono ?_
      rintro e w1 ⟨rfl, hb1⟩
      have HB1 := Lib.hid (HBW.out.trans ((hb0.trans (hb1.mono hb0.size)).mono HBW.out.size))
      clear hb1 hb0
      cases hpb : litB ss p
      · have HX := Lib.hid (HNO.out hpb)
        clear hpb
        go_wp2
        go_ret
        exact ⟨ret_b HX.out.symm, HB1.out⟩
      · have HX := Lib.hid (HNX.out hpb)
        clear hpb
        go_wp2
        go_roundw
        case rel => exact ⟨k + 1, by go_num, by omega, HX.out, HB1.out⟩
        case measure => simp [intOf]; omega
    · obtain rfl : k = n1 := by omega
      have HX : Hid (ls.all (litB ss) = true) := all_yes fun j hj => HY.out j (by rw [HN.out] at hj; exact hj)
      go_wp2
      go_ret
      exact ⟨ret_b HX.out.symm, HBW.out⟩
/-- One tuple as it should be, beside the first one. -/
def tupB (ss : List Sym) (ts : List (List Int)) (i : Nat) : Bool := rowB ss (rowOf ts i) && decide ((tlD ss (rowOf ts i)).length = (tlD ss (rowOf ts 0)).length)
theorem headD_rowOf (ts : List (List Int)) : ts.headD [] = rowOf ts 0 := by cases ts <;> rfl
theorem mem_rowOf {ts : List (List Int)} {t : List Int} (h : t ∈ ts) : ∃ i, i < ts.length ∧ rowOf ts i = t := by
  obtain ⟨i, hi, e⟩ := List.getElem_of_mem h
  exact ⟨i, hi, by unfold rowOf; rw [List.getD_eq_getElem?_getD, List.getElem?_eq_getElem hi]; exact e⟩
theorem tups_not {ss : List Sym} {ts : List (List Int)} {k : Nat} (hk : k < ts.length) (h : tupB ss ts k = false) : tupsB ss ts = false := by
  unfold tupsB
  rw [List.all_eq_false]
  refine ⟨_, rowOf_mem hk, ?_⟩
  rw [headD_rowOf]
  unfold tupB at h
  rw [h]; simp
theorem tups_yes {ss : List Sym} {ts : List (List Int)} (h : ∀ j, j < ts.length → tupB ss ts j = true) : tupsB ss ts = true := by
  unfold tupsB
  rw [List.all_eq_true]
  intro t ht
  obtain ⟨j, hj, rfl⟩ := mem_rowOf ht
  rw [headD_rowOf]
  exact h j hj
theorem tupB_rowK {ss : List Sym} {ts : List (List Int)} {k : Nat} (h0 : 0 < k → rowB ss (rowOf ts 0) = true) (hk : rowB ss (rowOf ts k) = true) : (rowK ss (rowOf ts k) = rowK ss (rowOf ts 0)) ↔ tupB ss ts k = true := by
  unfold tupB rowK
  rw [hk]
  have h0' : rowB ss (rowOf ts 0) = true := by
    rcases Nat.eq_zero_or_pos k with e | e
    · subst e; exact hk
    · exact h0 e
  rw [h0']
  simp
  omega
set_option maxHeartbeats 1000000 in
theorem mayTuples_any (A A1 : Option Addr) (n c n1 c1 : Nat) (ss : List Sym) (ts : List (List Int)) (w : World) (h : SymsAt w w.heap.size A n ss) (hn : n ≤ maxLen) (hnc : n ≤ c) (hl : TupsAt w w.heap.size A1 n1 ts) (hn1 : n1 ≤ 4398046511104) :
    Calls Tryd.prog 39 #[.slice A n c, .slice A1 n1 c1] w fun e w' => e = .returned (.bool (tupsB ss ts)) ∧ Below w.heap.size w w' := by
  have HS := Lib.hid h
  have HL := Lib.hid hl
  have HN := Lib.hid hl.len
  clear h hl
  go_enter Tryd.func39, Tryd.ntmps39
  go_wp2
  go_loopw [5, 12] (fun q j wr => ∃ (k : Nat) (f : Int), q = .int .i64 f ∧ j = .int .i64 k ∧ k ≤ n1 ∧ (∀ j, j < k → tupB ss ts j = true) ∧ (0 < k → f = rowK ss (rowOf ts 0)) ∧ Below w.heap.size w wr) (fun _ j _ => n1 - (intOf j).toNat)
  case atStart => exact ⟨0, 0, rfl, rfl, by omega, fun j hj => absurd hj (by omega), fun h => absurd h (by omega), Below.refl _ _⟩
  case round =>
    obtain ⟨k, f, rfl, rfl, hk, hyes, hf, hbw⟩ := hrel
    have HBW := Lib.hid hbw
    have HY := Lib.hid hyes
    have HF := Lib.hid hf
    clear hbw hyes hf
    by_cases hlt : k < n1
    · obtain ⟨b, off, A2, c2, rfl, hb, d0, hk1, -⟩ := (HL.out.on HBW.out).one hlt
      have HR0 : Hid (0 < k → rowB ss (rowOf ts 0) = true) := fun q => by
        have := HY.out 0 q
        unfold tupB at this
        rw [Bool.and_eq_true] at this
        exact this.1
      have HNX : Hid (tupB ss ts k = true → ∀ j, j < k + 1 → tupB ss ts j = true) := by
        intro q j hj
        by_cases e : j = k
        · rw [e]; exact q
        · exact HY.out j (by omega)
      have HNO : Hid (tupB ss ts k = false → tupsB ss ts = false) := fun q => tups_not (by rw [HN.out]; exact hlt) q
      have HBK : Hid (rowB ss (rowOf ts k) = false → tupB ss ts k = false) := fun q => by unfold tupB; rw [q]; rfl
      have HKK : Hid (rowB ss (rowOf ts k) = true → ((rowK ss (rowOf ts k) = rowK ss (rowOf ts 0)) ↔ tupB ss ts k = true)) := fun q => tupB_rowK HR0.out q
      have HZ : Hid (k = 0 → rowOf ts k = rowOf ts 0) := fun q => by rw [q]
      obtain ⟨r, hr⟩ : ∃ r, r = rowOf ts k := ⟨_, rfl⟩
      rw [← hr] at d0 hk1 HBK HKK HZ
      obtain ⟨f0, hf0⟩ : ∃ f0, f0 = rowK ss (rowOf ts 0) := ⟨_, rfl⟩
      rw [← hf0] at HF HKK
      have HF0 := Lib.hid hf0
      have HK1 := Lib.hid hk1
      have HS1 := Lib.hid (HS.out.on HBW.out)
      have hi0 : (0 : Int) ≤ (k : Int) := by omega
      have hi3 : (k : Int) < (n1 : Int) := by omega
      clear hk1 hr hf0
      go_wp2_with fail
      refine (row_any A A2 n c _ c2 ss r _ HS1.out hn hnc HK1.out.at_ HK1.out.big).mono ?_
      rintro e w1 ⟨rfl, hb1⟩
      have HB1 := Lib.hid (HBW.out.trans (hb1.mono HBW.out.size))
      clear hb1
      obtain ⟨kk, hkk⟩ : ∃ kk, kk = rowK ss r := ⟨_, rfl⟩
      obtain ⟨ee, hee⟩ : ∃ ee, ee = rowE ss r := ⟨_, rfl⟩
      rw [← hkk, ← hee]
      rw [← hkk] at HKK
      have HE : Hid (rowB ss r = true ∧ ee = 0 ∨ rowB ss r = false ∧ ee = 200) := by
        show _ ∨ _
        rw [hee]; unfold rowE
        cases rowB ss r
        · exact .inr ⟨rfl, rfl⟩
        · exact .inl ⟨rfl, rfl⟩
      have HZ2 : Hid (k = 0 → kk = f0) := fun q => by rw [hkk, HZ.out q, HF0.out]
      clear hee hkk
      rcases HE.out with ⟨hb2, rfl⟩ | ⟨hb2, rfl⟩
      · have HKI := Lib.hid (HKK.out hb2)
        clear hb2
        by_cases hk0 : k = 0
        · have hkf := HZ2.out hk0
          have HX := Lib.hid (HNX.out (HKI.out.1 hkf))
          have hk2 : (kk != kk) = false := by simp
          subst hk0
          have HKF := Lib.hid hkf
          clear hkf
          go_wp2
          go_roundw
          case rel => exact ⟨1, kk, by go_num, by go_num, by omega, HX.out, fun _ => by rw [HKF.out, HF0.out], HB1.out⟩
          case measure => simp [intOf]; omega
        · have hff := HF.out (by omega)
          subst hff
          have hk0' : ((k : Int) == 0) = false := by simp; omega
          by_cases hkf : kk = f
          · have HX := Lib.hid (HNX.out (HKI.out.1 hkf))
            have hk2 : (kk != f) = false := by simp [hkf]
            clear hkf
            go_wp2
            go_roundw
            case rel => exact ⟨k + 1, f, by go_num, by go_num, by omega, HX.out, fun _ => HF0.out, HB1.out⟩
            case measure => simp [intOf]; omega
          · have HX : Hid (tupsB ss ts = false) := HNO.out (by
              cases q : tupB ss ts k
              · rfl
              · exact absurd (HKI.out.2 q) hkf)
            have hk2 : (kk != f) = true := by simp [hkf]
            clear hkf
            go_wp2
            go_ret
            exact ⟨ret_b HX.out.symm, HB1.out⟩
      · have HX := Lib.hid (HNO.out (HBK.out hb2))
        clear hb2
        by_cases hk0 : k = 0
        · subst hk0
          go_wp2
          go_ret
          exact ⟨ret_b HX.out.symm, HB1.out⟩
        · have hk0' : ((k : Int) == 0) = false := by simp; omega
          go_wp2
          go_ret
          exact ⟨ret_b HX.out.symm, HB1.out⟩
    · obtain rfl : k = n1 := by omega
      have HX : Hid (tupsB ss ts = true) := tups_yes fun j hj => HY.out j (by rw [HN.out] at hj; exact hj)
      go_wp2
      go_ret
      exact ⟨ret_b HX.out.symm, HBW.out⟩
end Go.Proofs.YtcjpopjcpgipjaaDoor
