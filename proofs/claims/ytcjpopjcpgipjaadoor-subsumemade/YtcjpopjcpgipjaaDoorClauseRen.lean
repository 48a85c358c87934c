/-
  Contract: clause.renumber.
-/
import Derived.Test.YtcjpopjcpgipjaaDoorClauseOnce
namespace Go.Proofs.YtcjpopjcpgipjaaDoor
open Go.RowKit Go.Deep
set_option linter.unusedSimpArgs false
set_option linter.unusedVariables false
set_option maxRecDepth 100000

/-- What the array says while the variables s are met. -/
def toF (s : List Nat) (v : Nat) : Int := if v ∈ s then -1 - (s.idxOf v : Int) else 0
theorem vrs_pos {cs : List Int} {x : Int} (h : ¬ x < 0) : vrs (cs ++ [x]) = vrs cs := by
  unfold vrs; rw [List.filterMap_append]; simp [h]
theorem vrs_neg {cs : List Int} {x : Int} (h : x < 0) : vrs (cs ++ [x]) = vrs cs ++ [(-1 - x).toNat] := by
  unfold vrs; rw [List.filterMap_append]; simp [h]
theorem firsts_pos {cs : List Int} {x : Int} (h : ¬ x < 0) : firsts (cs ++ [x]) = firsts cs := by unfold firsts; rw [vrs_pos h]
theorem firsts_old {cs : List Int} {x : Int} (h : x < 0) (hm : (-1 - x).toNat ∈ firsts cs) : firsts (cs ++ [x]) = firsts cs := by
  unfold firsts at *; rw [vrs_neg h, once_snoc]; unfold put1st; rw [if_pos hm]
theorem firsts_new {cs : List Int} {x : Int} (h : x < 0) (hm : (-1 - x).toNat ∉ firsts cs) : firsts (cs ++ [x]) = firsts cs ++ [(-1 - x).toNat] := by
  unfold firsts at *; rw [vrs_neg h, once_snoc]; unfold put1st; rw [if_neg hm]
theorem firsts_front (cs ds : List Int) : ∃ t, firsts (cs ++ ds) = firsts cs ++ t := by
  induction ds using snoc_ind with
  | h0 => exact ⟨[], by simp⟩
  | h1 xs x ih =>
    obtain ⟨t, ht⟩ := ih
    rw [← List.append_assoc]
    by_cases hx : x < 0
    · by_cases hm : (-1 - x).toNat ∈ firsts (cs ++ xs)
      · exact ⟨t, by rw [firsts_old hx hm, ht]⟩
      · exact ⟨t ++ [(-1 - x).toNat], by rw [firsts_new hx hm, ht, List.append_assoc]⟩
    · exact ⟨t, by rw [firsts_pos hx, ht]⟩
theorem firsts_idx {cs ds : List Int} {v : Nat} (h : v ∈ firsts cs) : (firsts (cs ++ ds)).idxOf v = (firsts cs).idxOf v := by
  obtain ⟨t, ht⟩ := firsts_front cs ds
  rw [ht, List.idxOf_append, if_pos h]
theorem firsts_len (cs : List Int) : (firsts cs).length ≤ cs.length := by
  unfold firsts
  have := once_length (vrs cs)
  have h2 : (vrs cs).length ≤ cs.length := by unfold vrs; exact List.length_filterMap_le _ _
  omega
def mixR (f : Nat → Nat) (r : List Int) (j : Nat) : List Int := renR f (r.take j) ++ r.drop j
theorem renR_len (f : Nat → Nat) (r : List Int) : (renR f r).length = r.length := by unfold renR; simp
theorem mixR_zero (f : Nat → Nat) (r : List Int) : mixR f r 0 = r := by unfold mixR renR; simp
theorem mixR_full (f : Nat → Nat) (r : List Int) : mixR f r r.length = renR f r := by unfold mixR; simp
theorem mixR_len (f : Nat → Nat) (r : List Int) (j : Nat) : (mixR f r j).length = r.length := by unfold mixR; rw [List.length_append, renR_len]; simp; omega
theorem mixR_at {f : Nat → Nat} {r : List Int} {j : Nat} (h : j < r.length) : intAt (mixR f r j) j = intAt r j := by
  unfold intAt mixR
  rw [List.getD_eq_getElem?_getD, List.getD_eq_getElem?_getD, List.getElem?_append_right (by rw [renR_len]; simp; omega), renR_len, List.length_take, List.getElem?_drop]
  congr 2
  omega
theorem mixR_next {f : Nat → Nat} {r : List Int} {j : Nat} (h : j < r.length) : mixR f r (j + 1) = (mixR f r j).set j (ren f (intAt r j)) := by
  unfold mixR
  have e1 : r.take (j + 1) = r.take j ++ [intAt r j] := by rw [List.take_add_one, intAt_get h]; rfl
  have e2 : r.drop j = intAt r j :: r.drop (j + 1) := by
    have := intAt_get h
    rw [List.getElem?_eq_getElem h] at this
    injection this with this
    rw [← this]; exact List.drop_eq_getElem_cons h
  rw [e1, e2, List.set_append_right _ _ (by rw [renR_len]; simp; omega), renR_len, List.length_take]
  have e3 : j - min j r.length = 0 := by omega
  rw [e3]
  unfold renR
  simp
theorem mixR_pos {f : Nat → Nat} {r : List Int} {j : Nat} (h : j < r.length) (hx : ¬ intAt r j < 0) : mixR f r (j + 1) = mixR f r j := by
  rw [mixR_next h]
  have e : ren f (intAt r j) = intAt r j := by unfold ren; rw [if_neg hx]
  have hg := intAt_get (xs := mixR f r j) (i := j) (by rw [mixR_len]; exact h)
  rw [mixR_at h] at hg
  rw [e]
  apply List.ext_getElem?
  intro k
  rw [List.getElem?_set]
  by_cases hk : j = k
  · subst hk; rw [if_pos rfl, if_pos (by rw [mixR_len]; exact h), hg]
  · rw [if_neg hk]
/-- How many codes of row k are done at row i, place j. -/
def cntR (L : List (List Int)) (i j k : Nat) : Nat := if k < i then (rowOf L k).length else if k = i then j else 0
def mixF (f : Nat → Nat) (L : List (List Int)) (i j k : Nat) : List Int := mixR f (rowOf L k) (cntR L i j k)
theorem mixF_self {f : Nat → Nat} {L : List (List Int)} {i j : Nat} : mixF f L i j i = mixR f (rowOf L i) j := by unfold mixF cntR; rw [if_neg (by omega), if_pos rfl]
theorem mixF_other {f : Nat → Nat} {L : List (List Int)} {i j j' k : Nat} (h : k ≠ i) : mixF f L i j k = mixF f L i j' k := by unfold mixF cntR; simp only [if_neg h]
theorem mixF_zero {f : Nat → Nat} {L : List (List Int)} {k : Nat} : mixF f L 0 0 k = rowOf L k := by
  unfold mixF cntR; rw [if_neg (by omega)]
  split <;> exact mixR_zero _ _
theorem mixF_next {f : Nat → Nat} {L : List (List Int)} {i k : Nat} : mixF f L i (rowOf L i).length k = mixF f L (i + 1) 0 k := by
  unfold mixF cntR
  by_cases h1 : k < i
  · rw [if_pos h1, if_pos (by omega)]
  · by_cases h2 : k = i
    · subst h2; rw [if_neg (by omega), if_pos rfl, if_pos (by omega)]
    · rw [if_neg h1, if_neg h2, if_neg (by omega)]
      split <;> rfl
theorem mixF_done {f : Nat → Nat} {L : List (List Int)} {k : Nat} (h : k < L.length) : mixF f L L.length 0 k = rowOf (L.map (renR f)) k := by
  unfold mixF cntR
  rw [if_pos h, mixR_full]
  unfold rowOf
  rw [List.getD_eq_getElem?_getD, List.getD_eq_getElem?_getD, List.getElem?_map, List.getElem?_eq_getElem h]; rfl
/-- The new number of a variable in a list of rows. -/
def plcL (L : List (List Int)) (v : Nat) : Nat := (firsts L.flatten).idxOf v
theorem codes_split {L : List (List Int)} {i j : Nat} (h : i < L.length) : ∃ ds, L.flatten = ((L.take i).flatten ++ (rowOf L i).take j) ++ ds := by
  refine ⟨(rowOf L i).drop j ++ (L.drop (i + 1)).flatten, ?_⟩
  rw [List.append_assoc, ← List.append_assoc ((rowOf L i).take j), List.take_append_drop, ← List.append_assoc, ← rowOf_take h, ← List.flatten_append, List.take_append_drop]
theorem ren_met {L : List (List Int)} {i j : Nat} {x : Int} (h : i < L.length) (hx : x < 0) (hm : (-1 - x).toNat ∈ firsts ((L.take i).flatten ++ (rowOf L i).take j)) : toF (firsts ((L.take i).flatten ++ (rowOf L i).take j)) (-1 - x).toNat = ren (plcL L) x := by
  obtain ⟨ds, hd⟩ := codes_split (j := j) h
  unfold toF ren plcL
  rw [if_pos hm, if_pos hx, hd, firsts_idx hm]
theorem toF_snoc_other {s : List Nat} {v q : Nat} (h : v ≠ q) : toF (s ++ [q]) v = toF s v := by
  unfold toF
  by_cases hv : v ∈ s
  · rw [if_pos hv, if_pos (List.mem_append_left _ hv), List.idxOf_append, if_pos hv]
  · rw [if_neg hv, if_neg (by simp [hv, h])]
theorem toF_snoc_self {s : List Nat} {q : Nat} (h : q ∉ s) : toF (s ++ [q]) q = -1 - (s.length : Int) := by
  unfold toF
  rw [if_pos (by simp), List.idxOf_append, if_neg h]
  simp
theorem toF_old {s : List Nat} {q : Nat} (h : q ∈ s) : toF s q < 0 ∧ -1 - (s.length : Int) ≤ toF s q := by
  unfold toF
  rw [if_pos h]
  have := List.idxOf_lt_length_of_mem h
  omega
theorem toF_no {s : List Nat} {q : Nat} (h : q ∉ s) : toF s q = 0 := by unfold toF; rw [if_neg h]

/-- The rows k, each as R says. -/
def RwF (w : World) (base : Nat) (vs : List Value) (R : Nat → List Int) : Prop := ∀ k, k < vs.length → OwnI w base (valAt vs k) (R k)
theorem RwF.chg {es : List TypeId} {w w' : World} {base base' : Nat} {vs : List Value} {R : Nat → List Int} (h : RwF w base vs R) (hc : Chg es base' w w') (he : 3 ∉ es) : RwF w' base vs R := fun k hk => hc.own he (h k hk)
theorem RwF.on {w w' : World} {base : Nat} {vs : List Value} {R : Nat → List Int} (h : RwF w base vs R) (hb : Below w.heap.size w w') : RwF w' base vs R := fun k hk => (h k hk).on hb
theorem RwF.same {w : World} {base : Nat} {vs : List Value} {R S : Nat → List Int} (h : RwF w base vs R) (e : ∀ k, k < vs.length → R k = S k) : RwF w base vs S := fun k hk => (h k hk).cast (e k hk)
theorem RwF.put {w : World} {base : Nat} {vs : List Value} {f : Nat → Nat} {L : List (List Int)} {i j g n cap : Nat} (h : RwF w base vs (mixF f L i j)) (ha : Apart vs) (hi : i < vs.length) (hj : j < (rowOf L i).length) (hv : valAt vs i = .slice (some ⟨g, 0, none⟩) n cap) {z : Int} (hz : z = ren f (intAt (rowOf L i) j)) :
    RwF (w.setCell ⟨g, j, none⟩ (.int .i64 z)) base vs (mixF f L i (j + 1)) := by
  intro k hk
  by_cases e : k = i
  · subst e
    have h1 := h k hk
    rw [hv, mixF_self] at h1
    rw [hv, mixF_self, mixR_next hj, ← hz]
    exact h1.put z
  · have h1 := h k hk
    rw [mixF_other (j' := j + 1) e] at h1
    refine h1.set_ne ?_ _
    have hg : (valAt vs i).ownBlock = some g := by rw [hv]; rfl
    rcases Nat.lt_or_gt_of_ne e with q | q
    · exact fun q' => ha k i q hi g q' hg
    · exact fun q' => ha i k q hk g hg q'
/-- The array of the new numbers. -/
def TorW (g : Nat) (F : Nat → Int) (w : World) : Prop := CntW w g F w
theorem TorW.put {g q : Nat} {F F' : Nat → Int} {w : World} {v : Int} (h : TorW g F w) (hq : q < 24) (hv : v = F' q) (hf : ∀ i, i < 24 → i ≠ q → F' i = F i) : TorW g F' (w.setCell ⟨g, q, none⟩ (.int .i64 v)) := ⟨Below.refl _ _, (CntW.put h hq hv hf).sh⟩
theorem TorW.chg {es : List TypeId} {g base : Nat} {F : Nat → Int} {w w' : World} (h : TorW g F w) (hc : Chg es base w w') (he : 146 ∉ es) : TorW g F w' := ⟨Below.refl _ _, hc.blk _ _ _ _ h.sh he⟩
theorem TorW.on {g : Nat} {F : Nat → Int} {w w' : World} (h : TorW g F w) (hb : Below w.heap.size w w') : TorW g F w' := ⟨Below.refl _ _, by rw [hb.block g h.lt]; exact h.sh⟩
def RenPost (vs : List Value) (L : List (List Int)) (base : Nat) (w : World) (e : Ending) (w' : World) : Prop := e = .returned (.tuple #[]) ∧ Rws w' base vs (L.map (renR (plcL L))) ∧ Chg [3, 146] base w w'
theorem intsC_none : (intsC fun _ => 0) = #[.int .i64 0, .int .i64 0, .int .i64 0, .int .i64 0, .int .i64 0, .int .i64 0, .int .i64 0, .int .i64 0, .int .i64 0, .int .i64 0, .int .i64 0, .int .i64 0, .int .i64 0, .int .i64 0, .int .i64 0, .int .i64 0, .int .i64 0, .int .i64 0, .int .i64 0, .int .i64 0, .int .i64 0, .int .i64 0, .int .i64 0, .int .i64 0] := rfl

set_option maxHeartbeats 4000000 in
theorem renumber_any (v : Cv) (vs1 vs2 vs3 : List Value) (L : List (List Int)) (base : Nat) (w : World) (h : CVals w v vs1 vs2 vs3) (hr : Rws w base (vs1 ++ vs2 ++ vs3) L) (ha : Apart (vs1 ++ vs2 ++ vs3)) (hbase : base ≤ w.heap.size)
    (h49 : ∀ r ∈ L, r.length ≤ 49) (h24 : ∀ r ∈ L, ∀ x ∈ r, -24 ≤ x) (hL : L.length ≤ 11) :
    Calls Tryd.prog 78 #[v.val] w (RenPost (vs1 ++ vs2 ++ vs3) L base w) := by
  have hbb := below_new2 w v.obj (.cells (intsC fun _ => 0) 146)
  have hv := h.on hbb
  have htor : TorW (w.heap.size + 1) (toF []) ((w.alloc v.obj).alloc (.cells (intsC fun _ => 0) 146)) := by
    have := (CntW.start (w.alloc v.obj) (toF []) (fun i _ => rfl)).sh
    have e : (w.alloc v.obj).heap.size = w.heap.size + 1 := by simp
    rw [e] at this
    exact ⟨Below.refl _ _, this⟩
  have HPA := Lib.hid (parts_any v vs1 vs2 vs3)
  have hv0 : v.val = .agg #[.slice v.A1 v.n1 v.c1, .slice v.A2 v.n2 v.c2, .slice v.A3 v.n3 v.c3] := rfl
  rw [hv0]
  have HV0 := Lib.hid hv0
  unfold Cv.obj at hbb hv htor
  rw [intsC_none] at hbb hv htor
  have HB0 := Lib.hid hbb
  have HV := Lib.hid hv
  have HT := Lib.hid htor
  have HR := Lib.hid hr
  have HA := Lib.hid ha
  have H49 := Lib.hid h49
  have H24 := Lib.hid h24
  obtain ⟨vs, hvs⟩ : ∃ vs, vs = vs1 ++ vs2 ++ vs3 := ⟨_, rfl⟩
  rw [← hvs] at HPA HR HA ⊢
  have HLN := Lib.hid HR.out.1
  have HFL : Hid (∀ i, i < L.length → ∀ j, (firsts ((L.take i).flatten ++ (rowOf L i).take j)).length ≤ 539) := by
    intro i hi j
    have k1 := firsts_len ((L.take i).flatten ++ (rowOf L i).take j)
    have k2 := flat_few (L := L.take (i + 1)) fun r hr => h49 r (List.mem_of_mem_take hr)
    rw [rowOf_take hi, List.length_append, List.length_take] at k2
    rw [List.length_append, List.length_take] at k1
    omega
  clear h hbb hv htor hv0 hr ha h49 h24 hvs
  go_enter Tryd.func78, Tryd.ntmps78
  go_wp2_with fail
  rw [← HV0.out]
  obtain ⟨w0, hw0⟩ : ∃ w0, w0 = ((w.alloc (.cells #[.slice v.A1 v.n1 v.c1, .slice v.A2 v.n2 v.c2, .slice v.A3 v.n3 v.c3] 26)).alloc (.cells #[.int .i64 0, .int .i64 0, .int .i64 0, .int .i64 0, .int .i64 0, .int .i64 0, .int .i64 0, .int .i64 0, .int .i64 0, .int .i64 0, .int .i64 0, .int .i64 0, .int .i64 0, .int .i64 0, .int .i64 0, .int .i64 0, .int .i64 0, .int .i64 0, .int .i64 0, .int .i64 0, .int .i64 0, .int .i64 0, .int .i64 0, .int .i64 0] 146)) := ⟨_, rfl⟩
  have hsw : w0.heap.size = w.heap.size + 2 := by rw [hw0]; simp
  rw [← hw0] at HV HB0 HT ⊢
  clear hw0
  refine (HPA.out _ HV.out).mono ?_
  rintro e wP ⟨v9, rfl, hv9, hb9⟩
  obtain ⟨A9, c9, hv9'⟩ := hv9.valued
  obtain ⟨n, hn⟩ : ∃ n, vs.length = n := ⟨_, rfl⟩
  rw [hn] at hv9'
  subst hv9'
  have HBP := Lib.hid (HB0.out.trans (hb9.mono HB0.out.size))
  have HTP := Lib.hid (HT.out.on hb9)
  have HRP : Hid (RwF wP base vs (mixF (plcL L) L 0 0)) := by
    intro k hk
    rw [mixF_zero]
    exact (HR.out.2 k (by rw [← HLN.out]; exact hk)).on HBP.out
  have HP9 := Lib.hid hv9
  have HN := Lib.hid hn
  have hnL : L.length = n := by rw [← HLN.out]; exact hn
  have HNL := Lib.hid hnL
  have hszP := HBP.out.size
  have hg9 : w0.heap.size ≤ wP.heap.size := hb9.size
  rw [hnL] at hL
  obtain ⟨gT, hgT⟩ : ∃ gT, w.heap.size + 1 = gT := ⟨_, rfl⟩
  rw [hgT] at HTP ⊢
  have hgTb : base ≤ gT := by omega
  clear hv9 hb9 hn hnL HT HV HB0 hgT
  go_wp2
  go_loopw [3, 11] (fun q i wr => ∃ (k : Nat) (s : List Nat), q = .int .i64 s.length ∧ i = .int .i64 k ∧ k ≤ n ∧ s = firsts (L.take k).flatten ∧ TorW gT (toF s) wr ∧ RwF wr base vs (mixF (plcL L) L k 0) ∧ Chg [3, 146] base wP wr) (fun _ i _ => n - (intOf i).toNat)
  case atStart => exact ⟨0, [], rfl, rfl, by omega, rfl, HTP.out, HRP.out, Chg.refl⟩
  case round =>
    obtain ⟨k, s, rfl, rfl, hk, hs, htw, hrw, hch⟩ := hrel
    have HS := Lib.hid hs
    have HTW := Lib.hid htw
    have HRW := Lib.hid hrw
    have HCH := Lib.hid hch
    clear hs htw hrw hch
    by_cases hlt : k < n
    · have hkL : k < L.length := by rw [HNL.out]; exact hlt
      have hkv : k < vs.length := by rw [HN.out]; exact hlt
      have HKL := Lib.hid hkL
      have HKV := Lib.hid hkv
      obtain ⟨g, cap', e, hg, hgl, _, c0⟩ := (HP9.out.chg HCH.out (by decide)).get hkv
      simp only [Value.slice.injEq] at e
      obtain ⟨rfl, -, -⟩ := e
      have hown := HRW.out k hkv
      rw [mixF_self, mixR_zero] at hown
      obtain ⟨A2, cap2, hv2⟩ := hown.value
      obtain ⟨m, hm⟩ : ∃ m, (rowOf L k).length = m := ⟨_, rfl⟩
      rw [hm] at hv2
      have HM := Lib.hid hm
      have HVK := Lib.hid hv2
      rw [hv2] at c0
      have hm49 : m ≤ 49 := by rw [← hm]; exact H49.out _ (rowOf_mem hkL)
      have hi0 : (0 : Int) ≤ (k : Int) := by omega
      have hi3 : (k : Int) < (n : Int) := by omega
      have HS0 : Hid (s = firsts ((L.take k).flatten ++ (rowOf L k).take 0)) := by show _ = _; rw [HS.out]; simp
      have hgw : w.heap.size ≤ g := by omega
      obtain ⟨wA, hwA⟩ : ∃ wA, wA = wr := ⟨_, rfl⟩
      subst hwA
      clear hown hv2 hm hkL hkv
      go_wp2
      go_loopw [3, 17] (fun q i wr => ∃ (j : Nat) (s : List Nat), q = .int .i64 s.length ∧ i = .int .i64 j ∧ j ≤ m ∧ s = firsts ((L.take k).flatten ++ (rowOf L k).take j) ∧ TorW gT (toF s) wr ∧ RwF wr base vs (mixF (plcL L) L k j) ∧ Chg [3, 146] base wP wr) (fun _ i _ => m - (intOf i).toNat)
      case atStart => exact ⟨0, s, rfl, rfl, by omega, HS0.out, HTW.out, HRW.out, HCH.out⟩
      case round =>
        obtain ⟨j, s1, rfl, rfl, hj, hs1, htw1, hrw1, hch1⟩ := hrel
        have HS1 := Lib.hid hs1
        have HTW1 := Lib.hid htw1
        have HRW1 := Lib.hid hrw1
        have HCH1 := Lib.hid hch1
        have hsl : s1.length ≤ 539 := by rw [hs1]; exact HFL.out k HKL.out j
        clear hs1 htw1 hrw1 hch1 c0
        by_cases hjt : j < m
        · have hjr : j < (rowOf L k).length := by rw [HM.out]; exact hjt
          have hown := HRW1.out k HKV.out
          rw [mixF_self] at hown
          obtain ⟨g2, cap3, cur, hv3, hg2, hblk, _⟩ := hown.block (by rw [mixR_len]; omega)
          rw [HVK.out, mixR_len, HM.out] at hv3
          simp only [Value.slice.injEq] at hv3
          obtain ⟨rfl, -, rfl⟩ := hv3
          have hcx : wr.cell? ⟨g2, j, none⟩ = some (.int .i64 (intAt (rowOf L k) j)) := by
            obtain ⟨A', c', e, _, hi⟩ := hown.intsAt
            rw [HVK.out, mixR_len, HM.out] at e
            simp only [Value.slice.injEq] at e
            obtain ⟨rfl, -, -⟩ := e
            obtain ⟨b, off, e2, _, hc⟩ := hi.at_ (by rw [mixR_len]; omega)
            simp only [Option.some.injEq, Addr.mk.injEq] at e2
            obtain ⟨rfl, rfl, -⟩ := e2
            have := hc j (by rw [mixR_len]; exact hjr)
            dsimp only at this
            rw [mixR_at hjr, Nat.zero_add] at this
            exact this
          have hfx : wr.frozen? ⟨g2, j, none⟩ = false := frozen_of_row _ _ _ _ _ hblk
          have hx24 := H24.out _ (rowOf_mem HKL.out) _ (List.mem_of_getElem? (intAt_get hjr))
          have htk : (L.take k).flatten ++ (rowOf L k).take (j + 1) = ((L.take k).flatten ++ (rowOf L k).take j) ++ [intAt (rowOf L k) j] := by
            rw [List.append_assoc]
            congr 1
            rw [List.take_add_one, intAt_get hjr]; rfl
          have HPOS := Lib.hid (fun q => mixR_pos (f := plcL L) hjr q)
          have HMET := Lib.hid (fun q r => ren_met (x := intAt (rowOf L k) j) (j := j + 1) HKL.out q r)
          have hne : ¬ g2 = gT := by
            rintro rfl
            have := HTW1.out.sh
            rw [hblk] at this
            injection this with this
            injection this with _ this
            exact absurd this (by decide)
          have hne' : ¬ gT = g2 := fun q => hne q.symm
          have hc1 : ∀ u, Chg [3, 146] base wr (wr.setCell ⟨g2, j, none⟩ u) := fun u => (Chg.set hblk hg2 u).wide (by simp)
          have hc2 : ∀ u, Chg [3] base wr (wr.setCell ⟨g2, j, none⟩ u) := fun u => Chg.set hblk hg2 u
          have HPUT := Lib.hid (fun (z : Int) (hz : z = ren (plcL L) (intAt (rowOf L k) j)) => HRW1.out.put HA.out HKV.out hjr HVK.out hz)
          have HC1 := Lib.hid hc1
          have HC2 := Lib.hid hc2
          have HBLK := Lib.hid hblk
          have HG2 := Lib.hid hg2
          have HJR := Lib.hid hjr
          have HTK := Lib.hid htk
          obtain ⟨x, hx⟩ : ∃ x, x = intAt (rowOf L k) j := ⟨_, rfl⟩
          rw [← hx] at hcx hx24 HPOS HMET HPUT HTK
          have HXX := Lib.hid hx
          have hi0' : (0 : Int) ≤ (j : Int) := by omega
          have hi3' : (j : Int) < (m : Int) := by omega
          clear hown hblk hjr htk hc1 hc2 hx hg2
          by_cases hx0 : x < 0
          · obtain ⟨q, hq⟩ : ∃ q : Nat, x = -1 - (q : Int) := ⟨(-1 - x).toNat, by omega⟩
            have hq24 : q < 24 := by omega
            have hqn : (-1 - x).toNat = q := by omega
            have HQN := Lib.hid hqn
            have HX0 := Lib.hid hx0
            have hcb := CntW.cell HTW1.out q hq24
            have hfb := CntW.frozen HTW1.out q
            have hTl := CntW.lt HTW1.out
            have hxv : -1 - x = (q : Int) := by omega
            have u0 : (0 : Int) ≤ (q : Int) := by omega
            have u1 : (q : Int) < 24 := by omega
            by_cases hmem : q ∈ s1
            · obtain ⟨f0, f1⟩ := toF_old hmem
              have HS2 : Hid (s1 = firsts ((L.take k).flatten ++ (rowOf L k).take (j + 1))) := by
                show _ = _
                rw [HTK.out, firsts_old hx0 (by rw [hqn, ← HS1.out]; exact hmem), ← HS1.out]
              have HZ : Hid (toF s1 q = ren (plcL L) x) := by
                have := HMET.out hx0 (by rw [hqn, ← HS2.out]; exact hmem)
                rw [hqn, ← HS2.out] at this
                exact this
              obtain ⟨F, hF⟩ : ∃ F, toF s1 q = F := ⟨_, rfl⟩
              rw [hF] at hcb f0 f1 HZ
              have hF0 : ¬ F = 0 := by omega
              have HF := Lib.hid hF
              clear hq hqn hmem hF
              go_wp2
              go_roundw
              case rel => exact ⟨j + 1, s1, rfl, by go_num, by omega, HS2.out, HTW1.out.chg (HC2.out _) (by decide), HPUT.out _ HZ.out, HCH1.out.trans (HC1.out _)⟩
              case measure => simp [intOf]; omega
            · have HS2 : Hid (s1 ++ [q] = firsts ((L.take k).flatten ++ (rowOf L k).take (j + 1))) := by
                show _ = _
                rw [HTK.out, firsts_new hx0 (by rw [hqn, ← HS1.out]; exact hmem), ← HS1.out, hqn]
              have HZ : Hid (-1 - (s1.length : Int) = ren (plcL L) x) := by
                have := HMET.out hx0 (by rw [hqn, ← HS2.out]; simp)
                rw [hqn, ← HS2.out, toF_snoc_self hmem] at this
                exact this
              rw [toF_no hmem] at hcb
              have HT2 := Lib.hid (TorW.put (F' := toF (s1 ++ [q])) (v := -1 - (s1.length : Int)) HTW1.out hq24 (toF_snoc_self hmem).symm (fun i _ hi => toF_snoc_other hi))
              have HRS := Lib.hid ((HRW1.out.chg (Chg.set (j := q) (base := base) HTW1.out.sh hgTb (.int .i64 (-1 - (s1.length : Int)))) (by decide)).put HA.out HKV.out HJR.out HVK.out (HZ.out.trans (by rw [HXX.out])))
              have HCA : Hid (Chg [3, 146] base wr (wr.setCell ⟨gT, q, none⟩ (.int .i64 (-1 - (s1.length : Int))))) := (Chg.set HTW1.out.sh hgTb _).wide (by simp)
              have HB2 : Hid ((wr.setCell ⟨gT, q, none⟩ (.int .i64 (-1 - (s1.length : Int)))).heap[g2]? = some (.cells cur 3 (0, 0))) := (Chg.set HTW1.out.sh hgTb _).blk _ _ _ _ HBLK.out (by decide)
              clear hq hqn hmem
              go_wp2
              go_roundw
              case rel =>
                refine ⟨j + 1, s1 ++ [q], by rw [List.length_append]; go_num, by go_num, by omega, HS2.out, HT2.out.chg (Chg.set HB2.out HG2.out _) (by decide), HRS.out, (HCH1.out.trans HCA.out).trans ((Chg.set HB2.out HG2.out _).wide (by simp))⟩
              case measure => simp [intOf]; omega
          · have HS2 : Hid (s1 = firsts ((L.take k).flatten ++ (rowOf L k).take (j + 1))) := by
              show _ = _
              rw [HTK.out, firsts_pos hx0, ← HS1.out]
            have HRW2 : Hid (RwF wr base vs (mixF (plcL L) L k (j + 1))) := HRW1.out.same fun k' _ => by
              by_cases e : k' = k
              · subst e; rw [mixF_self, mixF_self, HPOS.out hx0]
              · exact mixF_other e
            go_wp2
            go_roundw
            case rel => exact ⟨j + 1, s1, rfl, by go_num, by omega, HS2.out, HTW1.out, HRW2.out, HCH1.out⟩
            case measure => simp [intOf]; omega
        · obtain rfl : j = m := by omega
          have HS2 : Hid (s1 = firsts (L.take (k + 1)).flatten) := by
            show _ = _
            rw [HS1.out, rowOf_take HKL.out, List.take_of_length_le (l := rowOf L k) (by rw [HM.out]; omega)]
          have HRW2 : Hid (RwF wr base vs (mixF (plcL L) L (k + 1) 0)) := HRW1.out.same fun k' _ => by rw [← HM.out]; exact mixF_next
          go_wp2
          go_roundw
          case rel => exact ⟨k + 1, s1, rfl, by go_num, by omega, HS2.out, HTW1.out, HRW2.out, HCH1.out⟩
          case measure => simp [intOf]; omega
    · obtain rfl : k = n := by omega
      go_wp2
      (first | go_end0 | refine bodyPost_ret (results_none rfl _ _ _) rfl ?_)
      refine ⟨rfl, ⟨by rw [List.length_map]; exact HLN.out, fun i hi => ?_⟩, (Chg.of_below HBP.out hbase).trans HCH.out⟩
      rw [List.length_map] at hi
      have := HRW.out i (by rw [HLN.out]; exact hi)
      rw [← HNL.out] at this
      rw [mixF_done hi] at this
      exact this
end Go.Proofs.YtcjpopjcpgipjaaDoor
