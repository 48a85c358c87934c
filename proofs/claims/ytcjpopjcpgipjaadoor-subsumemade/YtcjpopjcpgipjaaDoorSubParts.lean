/-
  Contract of package subsume: addLits.
  Contract of package subsume: pairs.
-/
import Derived.Test.YtcjpopjcpgipjaaDoorSubMem
import Derived.Test.YtcjpopjcpgipjaaDoorOrderAll2
import Derived.Test.YtcjpopjcpgipjaaDoorMemLits
import Derived.Test.YtcjpopjcpgipjaaDoorClauseMays
namespace Go.Proofs.YtcjpopjcpgipjaaDoor
open Go.RowKit Go.Deep
set_option linter.unusedSimpArgs false
set_option linter.unusedVariables false
set_option maxRecDepth 100000

/-- The pairs of some parts, from the K-th on. -/
def partsPr (ss : List Sym) (K : Nat) (ls ms : List Lt) (n : Nat) : List Pr := (List.range n).flatMap fun k => rowPr ss (K + k) (ltAt ls k) ms ms.length
theorem partsPr_zero {ss : List Sym} {K : Nat} {ls ms : List Lt} : partsPr ss K ls ms 0 = [] := rfl
theorem partsPr_succ {ss : List Sym} {K n : Nat} {ls ms : List Lt} : partsPr ss K ls ms (n + 1) = partsPr ss K ls ms n ++ rowPr ss (K + n) (ltAt ls n) ms ms.length := by unfold partsPr; rw [List.range_succ, List.flatMap_append]; simp
theorem partsPr_length {ss : List Sym} {K n : Nat} {ls ms : List Lt} : (partsPr ss K ls ms n).length ≤ n * ms.length := by
  induction n with
  | zero => simp [partsPr_zero]
  | succ n ih =>
    rw [partsPr_succ, List.length_append, Nat.succ_mul]
    have := rowPr_length (ss := ss) (k := K + n) (x := ltAt ls n) (y := ms) (n := ms.length)
    omega
theorem onePr_atom {ss : List Sym} {k i : Nat} {x y : Bool} {p q : Int} {s r : List Int} (hp : 0 ≤ p) : onePr ss k ⟨x, p :: s⟩ ⟨y, q :: r⟩ i = if (x == y && p == q) = true then addP ss k i s r else [] := by
  unfold onePr addP
  show (if y = x then (match mt ss (q :: r) noT 0 (p :: s) with | some P => [(⟨k, i, P⟩ : Pr)] | none => []) else []) = _
  rw [mt_atom hp]
  by_cases h : x = y
  · subst h
    rw [if_pos rfl]
    by_cases e : p = q
    · subst e
      simp
      rfl
    · simp [e]
  · have h' : ¬ y = x := fun e => h e.symm
    rw [if_neg h', if_neg (by simp [h])]
theorem onePr_tup {ss : List Sym} {k i : Nat} {s r : List Int} : onePr ss k (mkT s) (mkT r) i = addP ss k i s r := by
  unfold onePr addP mkT
  rw [if_pos rfl]
  rfl
theorem lits_one {w : World} {B n i : Nat} {A : Option Addr} {ls : List Lt} (h : LitsAt w B A n ls) (hi : i < n) :
    ∃ b off A' c, A = some ⟨b, off, none⟩ ∧ b < B ∧ w.cell? ⟨b, off + i * 2, none⟩ = some (.bool (ltAt ls i).neg) ∧ w.cell? ⟨b, off + i * 2 + 1, none⟩ = some (.slice A' (ltAt ls i).atom.length c) ∧ (ltAt ls i).atom.length ≤ c ∧ IntsAt w B A' (ltAt ls i).atom.length (ltAt ls i).atom := by
  obtain ⟨b, off, e, hb, hc⟩ := h.at_ (by omega)
  obtain ⟨h1, A', c, h2, h3, h4⟩ := hc i hi
  exact ⟨b, off, A', c, e, hb, h1, h2, h3, h4⟩
/-- A literal's atom in memory: its head, its rest. -/
theorem atom_mem {ss : List Sym} {w : World} {B c : Nat} {A : Option Addr} {a : List Int} (ha : atomB ss a = true) (h : IntsAt w B A a.length a) (hc : a.length ≤ c) :
    ∃ p s b off, a = p :: s ∧ 0 ≤ p ∧ rowB ss s = true ∧ A = some ⟨b, off, none⟩ ∧ b < B ∧ w.cell? ⟨b, off, none⟩ = some (.int .i64 p) ∧ a.length = s.length + 1 ∧ s.length + 1 ≤ c ∧ IntsAt w B (if c = 1 then some ⟨b, off, none⟩ else some ⟨b, off + 1, none⟩) s.length s := by
  obtain ⟨p, s, rfl, hp, _, _, hs, _⟩ := atom_parts ha
  obtain ⟨b, off, rfl, hb, hcl⟩ := h.at_ (by simp)
  have h0 := hcl 0 (by simp)
  refine ⟨p, s, b, off, rfl, hp, hs, rfl, hb, h0, rfl, hc, ?_⟩
  have hd := h.drop (k := 1) (by simp)
  rw [List.length_cons, Nat.add_sub_cancel] at hd
  rw [List.drop_succ_cons, List.drop_zero] at hd
  by_cases q : c = 1
  · have hl : s.length = 0 := by rw [List.length_cons] at hc; omega
    have e : s = [] := List.length_eq_zero_iff.1 hl
    subst e
    exact IntsAt.nil_
  · rw [if_neg q]; exact hd
def AddLPost (sb B K : Nat) (ss : List Sym) (ls ms : List Lt) (PS : List Pr) (os : List Nat) (w : World) (e : Ending) (w' : World) : Prop :=
  e = .returned (.tuple #[]) ∧ (∃ os', os'.length = K + ls.length ∧ Bld w' sb B (PS ++ partsPr ss K ls ms ls.length) os') ∧ Chg SK sb w w'
set_option maxHeartbeats 4000000 in
theorem addLits_any (sb B D : Nat) (A A1 A2 : Option Addr) (n cp n1 c1 n2 c2 : Nat) (ss : List Sym) (ls ms : List Lt) (PS : List Pr) (os : List Nat) (w : World) (h : Bld w sb B PS os) (hk : os.length = D) (hK : D ≤ 100)
    (hs : SymsAt w B A n ss) (hn : n ≤ maxLen) (h1 : LitsAt w B A1 n1 ls) (h2 : LitsAt w B A2 n2 ms) (hb1 : ∀ l ∈ ls, litB ss l = true) (hb2 : ∀ l ∈ ms, litB ss l = true) (hn1 : n1 ≤ 5) (hn2 : n2 ≤ 5) (hN : PS.length ≤ 34) :
    Calls Tryd.prog 51 #[.pointer (some ⟨sb, 0, none⟩), .slice A n cp, .slice A1 n1 c1, .slice A2 n2 c2] w (AddLPost sb B D ss ls ms PS os w) := by
  have HS := Lib.hid hs
  have H1 := Lib.hid h1
  have H2 := Lib.hid h2
  have HL1 := Lib.hid h1.len
  have HL2 := Lib.hid h2.len
  have HB1 := Lib.hid hb1
  have HB2 := Lib.hid hb2
  have HN := Lib.hid hn
  have HBL := Lib.hid h
  have HLE := Lib.hid h.le
  have HLT := Lib.hid h.lt
  have HK := Lib.hid hk
  have HPN := Lib.hid hN
  clear hs h1 h2 hb1 hb2 hn h hk hN
  go_enter Tryd.func51, Tryd.ntmps51
  go_wp2
  go_loopw [14] (fun i wr => ∃ (k : Nat) (os' : List Nat), i = .int .i64 k ∧ k ≤ n1 ∧ Hid (os'.length = D + k) ∧ Bld wr sb B (PS ++ partsPr ss D ls ms k) os' ∧ Chg SK sb w wr) (fun i _ => n1 - (intOf i).toNat)
  case atStart => exact ⟨0, os, rfl, by omega, Lib.hid (p := os.length = D + 0) HK.out, by rw [partsPr_zero, List.append_nil]; exact HBL.out, Chg.refl⟩
  case round =>
    obtain ⟨k, os1, rfl, hkn, HO, hbl, hch⟩ := hrel
    obtain ⟨wA, hwA⟩ : ∃ wA, wA = wr := ⟨_, rfl⟩
    subst hwA
    have HCH := Lib.hid hch
    have HBLr := Lib.hid hbl
    have hbw : Below B w wA := hch.bel.mono HLE.out
    by_cases hlt : k < n1
    · obtain ⟨b1, o1, A3, c3, rfl, q1, q2, q3, q4, q5⟩ := lits_one (H1.out.below hbw) hlt
      obtain ⟨p, s, ba, oa, e1, hp, hrs, rfl, qa, qa0, ql, qc, qi⟩ := atom_mem (HB1.out _ (ltAt_mem (by rw [HL1.out]; exact hlt))) q5 q4
      obtain ⟨x, hx⟩ : ∃ x, x = (ltAt ls k).neg := ⟨_, rfl⟩
      have HX : Hid (ltAt ls k = ⟨x, p :: s⟩) := by show _ = _; rw [hx, ← e1]
      rw [← hx] at q2
      rw [ql] at q3
      have HRS := Lib.hid hrs
      have HQI := Lib.hid qi
      have HP0 := Lib.hid hp
      clear hx e1 q4 q5 ql qi hrs hp hbl hch
      have hbB : B ≤ wA.heap.size := by have := HLE.out; have := HLT.out; have := HCH.out.bel.size; omega
      go_wp2_with fail
      obtain ⟨w1, hw1⟩ : ∃ w1, w1 = wA.alloc (.cells #[.bool x, .slice (some ⟨ba, oa, none⟩) (s.length + 1) c3] 75) := ⟨_, rfl⟩
      rw [← hw1]
      have hb1 : Below wA.heap.size wA w1 := by rw [hw1]; exact below_new _ _
      have HX1 : Hid (w1.heap[wA.heap.size]? = some (.cells #[.bool x, .slice (some ⟨ba, oa, none⟩) (s.length + 1) c3] 75 (0, 0))) := by rw [hw1]; exact heap_alloc_new _ _
      have hC1 : Chg SK sb w w1 := HCH.out.trans (Chg.of_below hb1 (by have := HLT.out; have := HCH.out.bel.size; omega))
      have hBL1 := HBLr.out.on hb1
      clear hw1 hb1 hbw
      refine (addPart_any sb B _ os1 w1 hBL1 (by rw [HO.out]; omega)).mono ?_
      rintro e w2 ⟨rfl, hbl2, hc2⟩
      have HX2 : Hid (w2.heap[wA.heap.size]? = some (.cells #[.bool x, .slice (some ⟨ba, oa, none⟩) (s.length + 1) c3] 75 (0, 0))) := hc2.blk _ _ _ _ HX1.out (by decide)
      have HC2 : Hid (Chg SK sb w w2) := hC1.trans hc2
      have HB2' := Lib.hid hbl2
      have HO2 : Hid ((os1 ++ [0]).length = D + k + 1) := by show _ = _; rw [List.length_append, HO.out]; rfl
      clear hbl2 hc2 hC1 hBL1
      go_wp2
      go_loopw [22] (fun i wr => ∃ (j : Nat) (os2 : List Nat), i = .int .i64 j ∧ j ≤ n2 ∧ Hid (os2.length = D + k + 1) ∧ Bld wr sb B (PS ++ partsPr ss D ls ms k ++ rowPr ss (D + k) (ltAt ls k) ms j) os2 ∧ Chg SK sb w wr ∧ Hid (wr.heap[wA.heap.size]? = some (.cells #[.bool x, .slice (some ⟨ba, oa, none⟩) (s.length + 1) c3] 75 (0, 0)))) (fun i _ => n2 - (intOf i).toNat)
      case atStart => exact ⟨0, _, rfl, by omega, HO2, by rw [rowPr_zero, List.append_nil]; exact HB2'.out, HC2.out, HX2⟩
      case round =>
        obtain ⟨j, os2, rfl, hjn, HOj, hblj, hcj, HXj⟩ := hrel
        have HCj := Lib.hid hcj
        have HBj := Lib.hid hblj
        have hbwj : Below B w wr := hcj.bel.mono HLE.out
        by_cases hlt2 : j < n2
        · obtain ⟨b2, o2, A4, c4, rfl, t1, t2, t3, t4, t5⟩ := lits_one (H2.out.below hbwj) hlt2
          obtain ⟨q, r, bb, ob, e2, hq, hrr, rfl, ta, ta0, tl, tc, ti⟩ := atom_mem (HB2.out _ (ltAt_mem (by rw [HL2.out]; exact hlt2))) t5 t4
          obtain ⟨y, hy⟩ : ∃ y, y = (ltAt ms j).neg := ⟨_, rfl⟩
          have HY : Hid (ltAt ms j = ⟨y, q :: r⟩) := by show _ = _; rw [hy, ← e2]
          rw [← hy] at t2
          rw [tl] at t3
          have HRR := Lib.hid hrr
          have HTI := Lib.hid ti
          clear hy e2 t4 t5 tl ti hrr hq hblj hcj
          have hbBj : B ≤ wr.heap.size := by have := HLE.out; have := HLT.out; have := HCj.out.bel.size; omega
          have HONE : Hid (rowPr ss (D + k) (ltAt ls k) ms (j + 1) = rowPr ss (D + k) (ltAt ls k) ms j ++ if (x == y && p == q) = true then addP ss (D + k) j s r else []) := by
            show _ = _; rw [rowPr_succ, HX.out, HY.out, onePr_atom HP0.out]
          go_wp2_with fail
          obtain ⟨w3, hw3⟩ : ∃ w3, w3 = wr.alloc (.cells #[.bool y, .slice (some ⟨bb, ob, none⟩) (r.length + 1) c4] 75) := ⟨_, rfl⟩
          rw [← hw3]
          have hb3 : Below wr.heap.size wr w3 := by rw [hw3]; exact below_new _ _
          have HZ3 : Hid (w3.heap[wr.heap.size]? = some (.cells #[.bool y, .slice (some ⟨bb, ob, none⟩) (r.length + 1) c4] 75 (0, 0))) := by rw [hw3]; exact heap_alloc_new _ _
          have HX3 : Hid (w3.heap[wA.heap.size]? = some (.cells #[.bool x, .slice (some ⟨ba, oa, none⟩) (s.length + 1) c3] 75 (0, 0))) := by show _ = _; rw [hb3.block _ (Array.getElem?_eq_some_iff.1 HXj.out).1]; exact HXj.out
          have HC3 : Hid (Chg SK sb w w3) := HCj.out.trans (Chg.of_below hb3 (by have := HLT.out; have := HCj.out.bel.size; omega))
          have HB3 := Lib.hid (HBj.out.on hb3)
          have f0 : w3.cell? ⟨wA.heap.size, 0, none⟩ = some (.bool x) := by rw [cell_of_row _ _ 0 _ _ _ HX3.out]; rfl
          have f1 : w3.cell? ⟨wA.heap.size, 1, none⟩ = some (.slice (some ⟨ba, oa, none⟩) (s.length + 1) c3) := by rw [cell_of_row _ _ 1 _ _ _ HX3.out]; rfl
          have f2 : w3.cell? ⟨wr.heap.size, 0, none⟩ = some (.bool y) := by rw [cell_of_row _ _ 0 _ _ _ HZ3.out]; rfl
          have f3 : w3.cell? ⟨wr.heap.size, 1, none⟩ = some (.slice (some ⟨bb, ob, none⟩) (r.length + 1) c4) := by rw [cell_of_row _ _ 1 _ _ _ HZ3.out]; rfl
          have f4 : w3.cell? ⟨ba, oa, none⟩ = some (.int .i64 p) := by rw [HC3.out.bel.cell (p := ⟨ba, oa, none⟩) (by have := HLE.out; show ba < sb; omega), ← HCH.out.bel.cell (p := ⟨ba, oa, none⟩) (by have := HLE.out; show ba < sb; omega)]; exact qa0
          have f5 : w3.cell? ⟨bb, ob, none⟩ = some (.int .i64 q) := by rw [hb3.cell (p := ⟨bb, ob, none⟩) (by show bb < wr.heap.size; omega)]; exact ta0
          have HQ1 : Hid (IntsAt w3 B (if c3 = 1 then some ⟨ba, oa, none⟩ else some ⟨ba, oa + 1, none⟩) s.length s) := (HQI.out.keep (fun p hp => (HCH.out.bel.cell (by have := HLE.out; omega)).trans (HC3.out.bel.cell (by have := HLE.out; omega)).symm |>.symm))
          have HT1 : Hid (IntsAt w3 B (if c4 = 1 then some ⟨bb, ob, none⟩ else some ⟨bb, ob + 1, none⟩) r.length r) := HTI.out.below (hb3.mono hbBj)
          clear hw3 hb3 hbwj t2 t3
          by_cases hxy : x = y
          · by_cases hpq : p = q
            · have HON : Hid (rowPr ss (D + k) (ltAt ls k) ms (j + 1) = rowPr ss (D + k) (ltAt ls k) ms j ++ addP ss (D + k) j s r) := by show _ = _; rw [HONE.out, hxy, hpq]; simp
              subst hpq
              subst hxy
              go_quiet (fail)
              obtain ⟨w4, hw4⟩ : ∃ w4, w4 = w3.drewN nq := ⟨_, rfl⟩
              rw [← hw4]
              have hb4 : Below w3.heap.size w3 w4 := by rw [hw4]; exact below_drewN _ _
              go_wp2_with fail
              have g9 : wA.heap.size < w3.heap.size := (Array.getElem?_eq_some_iff.1 HX3.out).1
              have g11 : wr.heap.size < w3.heap.size := (Array.getElem?_eq_some_iff.1 HZ3.out).1
              have e1 : w4.cell? ⟨wA.heap.size, 1, none⟩ = some (.slice (some ⟨ba, oa, none⟩) (s.length + 1) c3) := by rw [hb4.cell (p := ⟨wA.heap.size, 1, none⟩) g9]; exact f1
              have e3 : w4.cell? ⟨wr.heap.size, 1, none⟩ = some (.slice (some ⟨bb, ob, none⟩) (r.length + 1) c4) := by rw [hb4.cell (p := ⟨wr.heap.size, 1, none⟩) g11]; exact f3
              refine wp_region_held_drew (S := (fun w' => w'.cell? ⟨wA.heap.size, 1, none⟩ = some (.slice (some ⟨ba, oa, none⟩) (s.length + 1) c3) ∧ w'.cell? ⟨wr.heap.size, 1, none⟩ = some (.slice (some ⟨bb, ob, none⟩) (r.length + 1) c4))) (by kernel_rfl) ⟨e1, e3⟩ (fun hHeld => ?_)
              have hd : Below w4.heap.size w4 w4.drew := (Below.refl w4.heap.size w4).drew
              obtain ⟨w5, hw5⟩ : ∃ w5, w5 = w4.drew := ⟨_, rfl⟩
              rw [← hw5] at hd hHeld ⊢
              have hb5 : Below w3.heap.size w3 w5 := hb4.trans (hd.mono hb4.size)
              have hB3 : B ≤ w3.heap.size := by have := HLE.out; have := HLT.out; have := HC3.out.bel.size; omega
              have HQ5 : Hid (IntsAt w5 w5.heap.size (if c3 = 1 then some ⟨ba, oa, none⟩ else some ⟨ba, oa + 1, none⟩) s.length s) := (HQ1.out.below (hb5.mono hB3)).more (by have := hb5.size; omega)
              have HT5 : Hid (IntsAt w5 B (if c4 = 1 then some ⟨bb, ob, none⟩ else some ⟨bb, ob + 1, none⟩) r.length r) := HT1.out.below (hb5.mono hB3)
              have HX5 : Hid (w5.heap[wA.heap.size]? = some (.cells #[.bool x, .slice (some ⟨ba, oa, none⟩) (s.length + 1) c3] 75 (0, 0))) := by show _ = _; rw [hb5.block _ g9]; exact HX3.out
              have HZ5 : Hid (w5.heap[wr.heap.size]? = some (.cells #[.bool x, .slice (some ⟨bb, ob, none⟩) (r.length + 1) c4] 75 (0, 0))) := by show _ = _; rw [hb5.block _ g11]; exact HZ3.out
              have HC5 : Hid (Chg SK sb w w5) := HC3.out.trans (Chg.of_below hb5 (by have := HLT.out; have := HC3.out.bel.size; omega))
              have HB5 := Lib.hid (HB3.out.on hb5)
              have HS5 : Hid (SymsAt w5 w5.heap.size A n ss) := (HS.out.below (HC5.out.bel.mono HLE.out)).more (by have := hb5.size; omega)
              have HPL : Hid ((PS ++ partsPr ss D ls ms k ++ rowPr ss (D + k) (ltAt ls k) ms j).length < 60) := by
                show _ < _
                rw [List.length_append, List.length_append]
                have y1 := partsPr_length (ss := ss) (K := D) (ls := ls) (ms := ms) (n := k)
                have y2 := rowPr_length (ss := ss) (k := D + k) (x := ltAt ls k) (y := ms) (n := j)
                have y3 := HPN.out
                have y4 : k * ms.length ≤ 4 * 5 := Nat.mul_le_mul (by omega) (by rw [HL2.out]; exact hn2)
                omega
              have zs0 : (0 : Int) ≤ (s.length : Int) := by omega
              have zr0 : (0 : Int) ≤ (r.length : Int) := by omega
              have zs1 : (1 : Int) ≤ (s.length : Int) + 1 := by omega
              have zr1 : (1 : Int) ≤ (r.length : Int) + 1 := by omega
              have zs2 : 1 ≤ s.length + 1 := by omega
              have zr2 : 1 ≤ r.length + 1 := by omega
              clear hw4 hw5 hb4 hd hb5 hB3 f0 f1 f2 f3 f4 f5
              refine takeH (i := 0) (v := ?_) rfl rfl (by kernel_rfl) (by kernel_rfl) (by kernel_rfl) (fun _ _ _ h => h) (by rfl) ?_ hHeld ?_
              rotate_left
              · (intro w hSw; (try dsimp only at hSw); first | (go_simp; done) | (go_simp; with_reducible rfl))
              simp only [Act.put, List.setIfInBounds_toArray, List.set_cons_zero, List.set_cons_succ]
              refine takeH (i := 1) (v := ?_) rfl rfl (by kernel_rfl) (by kernel_rfl) (by kernel_rfl) (fun _ _ _ h => h) (by rfl) ?_ hHeld ?_
              rotate_left
              · (intro w hSw; (try dsimp only at hSw); first | (go_simp; done) | (go_simp; with_reducible rfl))
              simp only [Act.put, List.setIfInBounds_toArray, List.set_cons_zero, List.set_cons_succ]
              refine takeH (i := 2) (v := ?_) rfl rfl (by kernel_rfl) (by kernel_rfl) (by kernel_rfl) (fun _ _ _ h => h) (by rfl) ?_ hHeld ?_
              rotate_left
              · (intro w hSw; (try dsimp only at hSw); first | (go_simp; done) | (go_simp; with_reducible rfl))
              simp only [Act.put, List.setIfInBounds_toArray, List.set_cons_zero, List.set_cons_succ]
              refine takeH (i := 3) (v := ?_) rfl rfl (by kernel_rfl) (by kernel_rfl) (by kernel_rfl) (fun _ _ _ h => h) (by rfl) ?_ hHeld ?_
              rotate_left
              · (intro w hSw; (try dsimp only at hSw); first | (go_simp; done) | (go_simp; with_reducible rfl))
              simp only [Act.put, List.setIfInBounds_toArray, List.set_cons_zero, List.set_cons_succ]
              refine takeH (i := 4) (v := ?_) rfl rfl (by kernel_rfl) (by kernel_rfl) (by kernel_rfl) (fun _ _ _ h => h) (by rfl) ?_ hHeld ?_
              rotate_left
              · (intro w hSw; (try dsimp only at hSw); first | (go_simp; done) | (go_simp; with_reducible rfl))
              simp only [Act.put, List.setIfInBounds_toArray, List.set_cons_zero, List.set_cons_succ]
              refine takeH (i := 5) (v := ?_) rfl rfl (by kernel_rfl) (by kernel_rfl) (by kernel_rfl) (fun _ _ _ h => h) (by rfl) ?_ hHeld ?_
              rotate_left
              · (intro w hSw; (try dsimp only at hSw); first | (go_simp; done) | (go_simp; with_reducible rfl))
              simp only [Act.put, List.setIfInBounds_toArray, List.set_cons_zero, List.set_cons_succ]
              refine takeH (i := 6) (v := ?_) rfl rfl (by kernel_rfl) (by kernel_rfl) (by kernel_rfl) (fun _ _ _ h => h) (by rfl) ?_ hHeld ?_
              rotate_left
              · (intro w hSw; (try dsimp only at hSw); first | (go_simp; done) | (go_simp; with_reducible rfl))
              simp only [Act.put, List.setIfInBounds_toArray, List.set_cons_zero, List.set_cons_succ]
              refine takeH (i := 7) (v := ?_) rfl rfl (by kernel_rfl) (by kernel_rfl) (by kernel_rfl) (fun _ _ _ h => h) (by rfl) ?_ hHeld ?_
              rotate_left
              · (intro w hSw; (try dsimp only at hSw); first | (go_simp; done) | (go_simp; with_reducible rfl))
              simp only [Act.put, List.setIfInBounds_toArray, List.set_cons_zero, List.set_cons_succ]
              refine takeH (i := 8) (v := ?_) rfl rfl (by kernel_rfl) (by kernel_rfl) (by kernel_rfl) (fun _ _ _ h => h) (by rfl) ?_ hHeld ?_
              rotate_left
              · (intro w hSw; (try dsimp only at hSw); first | (go_simp; done) | (go_simp; with_reducible rfl))
              simp only [Act.put, List.setIfInBounds_toArray, List.set_cons_zero, List.set_cons_succ]
              refine wpAnyH_ready (rs := [9]) (by kernel_rfl) (by simp) ?_
              refine AllReadyH.cons rfl (fun K hK => ?_) AllReadyH.nil
              go_simp
              refine (addPair_any sb B (D + k) j A _ _ n cp s.length (c3 - 1) r.length (c4 - 1) ss s r _ os2 w5 HB5.out HOj.out (by omega) HPL.out HS5.out HN.out HQ5.out HT5.out (by omega) HRS.out HRR.out).mono ?_
              rintro e w6 ⟨rfl, ⟨os6, ho6, hbl6⟩, hc6⟩
              have HO6 : Hid (os6.length = D + k + 1) := by show _ = _; rw [ho6]; exact HOj.out
              have HB6 : Hid (Bld w6 sb B (PS ++ partsPr ss D ls ms k ++ rowPr ss (D + k) (ltAt ls k) ms (j + 1)) os6) := by show Bld _ _ _ _ _; rw [HON.out, ← List.append_assoc]; exact hbl6
              have HX6 : Hid (w6.heap[wA.heap.size]? = some (.cells #[.bool x, .slice (some ⟨ba, oa, none⟩) (s.length + 1) c3] 75 (0, 0))) := hc6.blk _ _ _ _ HX5.out (by decide)
              have HC6 : Hid (Chg SK sb w w6) := HC5.out.trans hc6
              have i1 := hc6.blk _ _ _ _ HX5.out (by decide : 75 ∉ SK)
              have i2 := hc6.blk _ _ _ _ HZ5.out (by decide : 75 ∉ SK)
              clear ho6 hbl6 hc6
              refine hK.out _ _ ?_ (fun hHeld => ?_)
              · exact ⟨by rw [cell_of_row _ _ 1 _ _ _ i1]; rfl, by rw [cell_of_row _ _ 1 _ _ _ i2]; rfl⟩
              clear hK K i1 i2
              refine wpAnyH_done (by kernel_rfl) ?_ _
              go_wp2
              go_roundw
              case rel => exact ⟨j + 1, os6, by go_num, by omega, HO6, HB6.out, HC6.out, HX6⟩
              case measure => simp [intOf]; omega
            · have HON : Hid (rowPr ss (D + k) (ltAt ls k) ms (j + 1) = rowPr ss (D + k) (ltAt ls k) ms j) := by show _ = _; rw [HONE.out]; simp [hpq]
              have hpq2 : (p == q) = false := by simpa using hpq
              subst hxy
              go_quiet (fail)
              go_wp2
              go_roundw
              case rel => exact ⟨j + 1, _, by go_num, by omega, HOj, by rw [HON.out]; exact HB3.out.on (below_drewN _ _), HC3.out.trans (Chg.of_below (below_drewN _ _) (by have := HLT.out; have := HC3.out.bel.size; omega)), HX3⟩
              case measure => simp [intOf]; omega
          · have HON : Hid (rowPr ss (D + k) (ltAt ls k) ms (j + 1) = rowPr ss (D + k) (ltAt ls k) ms j) := by show _ = _; rw [HONE.out]; simp [hxy]
            have hxy2 : (x == y) = false := by simpa using hxy
            go_quiet (fail)
            go_wp2
            go_roundw
            case rel => exact ⟨j + 1, _, by go_num, by omega, HOj, by rw [HON.out]; exact HB3.out.on (below_drewN _ _), HC3.out.trans (Chg.of_below (below_drewN _ _) (by have := HLT.out; have := HC3.out.bel.size; omega)), HX3⟩
            case measure => simp [intOf]; omega
        · obtain rfl : j = n2 := by omega
          have HBE : Hid (Bld wr sb B (PS ++ partsPr ss D ls ms (k + 1)) os2) := by show Bld _ _ _ _ _; rw [partsPr_succ, HL2.out, ← List.append_assoc]; exact HBj.out
          go_wp2
          go_roundw
          case rel => exact ⟨k + 1, _, by go_num, by omega, Lib.hid (p := os2.length = D + (k + 1)) (by rw [HOj.out]; omega), HBE.out, HCj.out⟩
          case measure => simp [intOf]; omega
    · obtain rfl : k = n1 := by omega
      have HBE : Hid (Bld wA sb B (PS ++ partsPr ss D ls ms ls.length) os1) := by rw [HL1.out]; exact HBLr.out
      have HOE : Hid (os1.length = D + ls.length) := by rw [HL1.out]; exact HO.out
      clear hbl hch hbw
      go_wp2
      (first | go_end0 | refine bodyPost_ret (results_none rfl _ _ _) rfl ?_)
      exact ⟨rfl, ⟨os1, HOE.out, HBE.out⟩, HCH.out⟩
end Go.Proofs.YtcjpopjcpgipjaaDoor

namespace Go.Proofs.YtcjpopjcpgipjaaDoor
open Go.RowKit Go.Deep
set_option linter.unusedSimpArgs false
set_option linter.unusedVariables false
set_option maxRecDepth 100000

theorem flat_congr {α : Type} {f g : Nat → List α} {n : Nat} (h : ∀ k, k < n → f k = g k) : (List.range n).flatMap f = (List.range n).flatMap g := by
  induction n with
  | zero => rfl
  | succ n ih =>
    rw [List.range_succ, List.flatMap_append, List.flatMap_append, ih fun k hk => h k (by omega)]
    simp [h n (by omega)]
theorem flat_add {α : Type} {f : Nat → List α} {a b : Nat} : (List.range (a + b)).flatMap f = (List.range a).flatMap f ++ (List.range b).flatMap fun k => f (a + k) := by
  induction b with
  | zero => simp
  | succ b ih => rw [← Nat.add_assoc, List.range_succ, List.flatMap_append, ih, List.range_succ, List.flatMap_append]; simp
theorem item_lits {c : Cl} {k : Nat} (h : k < c.lits.length) : ltAt (itemsC c) k = ltAt c.lits k := by
  unfold ltAt itemsC
  rw [List.getD_eq_getElem?_getD, List.getD_eq_getElem?_getD, List.getElem?_append_left h]
theorem item_tups {c : Cl} {k : Nat} (h : k < c.tups.length) : ltAt (itemsC c) (c.lits.length + k) = ltAt (c.tups.map mkT) k := by
  unfold ltAt itemsC
  rw [List.getD_eq_getElem?_getD, List.getD_eq_getElem?_getD, List.getElem?_append_right (by omega), Nat.add_sub_cancel_left, List.getElem?_append_left (by rw [List.length_map]; exact h)]
theorem item_conds {c : Cl} {k : Nat} : ltAt (itemsC c) (c.lits.length + c.tups.length + k) = ltAt c.conds k := by
  unfold ltAt itemsC
  rw [List.getD_eq_getElem?_getD, List.getD_eq_getElem?_getD, List.getElem?_append_right (by omega), List.getElem?_append_right (by rw [List.length_map]; omega), List.length_map]
  congr 2
  omega
theorem allPr_parts {ss : List Sym} {c d : Cl} : allPr ss (itemsC c) (targC c d) (itemsC c).length = partsPr ss 0 c.lits d.lits c.lits.length ++ partsPr ss c.lits.length (c.tups.map mkT) (d.tups.map mkT) c.tups.length ++ partsPr ss (c.lits.length + c.tups.length) c.conds d.conds c.conds.length := by
  unfold allPr partsPr
  rw [items_len, flat_add, flat_add]
  congr 1
  · congr 1
    · exact flat_congr fun k hk => by rw [item_lits hk, targ_lits hk, Nat.zero_add]
    · exact flat_congr fun k hk => by rw [item_tups hk, targ_tups (by omega) (by omega)]
  · exact flat_congr fun k hk => by rw [item_conds, targ_conds (by omega) (by omega)]
theorem tup_at {ts : List (List Int)} {k : Nat} (h : k < ts.length) : ltAt (ts.map mkT) k = mkT (rowOf ts k) := by
  unfold ltAt
  rw [List.getD_eq_getElem?_getD, List.getElem?_map, rowOf_get h]; rfl
def PairsPost (ss : List Sym) (c d : Cl) (w : World) (e : Ending) (w' : World) : Prop :=
  e = .returned (.pointer (some ⟨w.heap.size + 2, 0, none⟩)) ∧ (∃ os, os.length = (itemsC c).length ∧ Bld w' (w.heap.size + 2) w.heap.size (allPr ss (itemsC c) (targC c d) (itemsC c).length) os) ∧ Below w.heap.size w w'
set_option maxHeartbeats 4000000 in
theorem pairs_any (A : Option Addr) (n cp : Nat) (ss : List Sym) (v u : Cv) (c d : Cl) (w : World) (h : SymsAt w w.heap.size A n ss) (hn : n ≤ maxLen) (hc : ClAt w w.heap.size v c) (hd : ClAt w w.heap.size u d) (hm : MayC ss c) (hm2 : MayC ss d) :
    Calls Tryd.prog 29 #[.slice A n cp, v.val, u.val] w (PairsPost ss c d w) := by
  have HS := Lib.hid h
  have HN := Lib.hid hn
  have HC := Lib.hid hc
  have HD := Lib.hid hd
  have HM := Lib.hid hm
  have HM2 := Lib.hid hm2
  have HL1 := Lib.hid hc.lits.len
  have HL2 := Lib.hid hc.tups.len
  have HL3 := Lib.hid hc.conds.len
  have HK1 := Lib.hid hd.lits.len
  have HK2 := Lib.hid hd.tups.len
  have HK3 := Lib.hid hd.conds.len
  have b1 : v.n1 ≤ 5 := by have := hm.nl; have := HL1.out; omega
  have b2 : v.n2 ≤ 3 := by have := hm.nt; have := HL2.out; omega
  have b3 : v.n3 ≤ 3 := by have := hm.nc; have := HL3.out; omega
  have b4 : u.n1 ≤ 5 := by have := hm2.nl; have := HK1.out; omega
  have b5 : u.n2 ≤ 3 := by have := hm2.nt; have := HK2.out; omega
  have b6 : u.n3 ≤ 3 := by have := hm2.nc; have := HK3.out; omega
  rw [v.val_eq, u.val_eq]
  clear h hn hc hd hm hm2
  go_enter Tryd.func29, Tryd.ntmps29
  go_wp2_with fail
  obtain ⟨sb, hsb⟩ : ∃ sb, sb = w.heap.size + 1 + 1 := ⟨_, rfl⟩
  obtain ⟨db, hdb⟩ : ∃ db, db = w.heap.size + 1 := ⟨_, rfl⟩
  obtain ⟨w3, hw3⟩ : ∃ w3, w3 = (((w.alloc (.cells #[.slice v.A1 v.n1 v.c1, .slice v.A2 v.n2 v.c2, .slice v.A3 v.n3 v.c3] 26)).alloc (.cells #[.slice u.A1 u.n1 u.c1, .slice u.A2 u.n2 u.c2, .slice u.A3 u.n3 u.c3] 26)).alloc (.cells #[.slice none 0 0, .slice none 0 0, .slice none 0 0, .slice none 0 0, .slice none 0 0] 69)) := ⟨_, rfl⟩
  rw [← hw3, ← hsb, ← hdb]
  have hb3 : Below w.heap.size w w3 := by
    rw [hw3]
    exact (below_new w _).trans (((below_new _ _).mono (by simp)).trans ((below_new _ _).mono (by simp; omega)))
  have HX : Hid (w3.heap[w.heap.size]? = some (.cells #[.slice v.A1 v.n1 v.c1, .slice v.A2 v.n2 v.c2, .slice v.A3 v.n3 v.c3] 26 (0, 0))) := by
    show _ = _
    rw [hw3, (below_new _ _).block w.heap.size (by simp; omega), (below_new _ _).block w.heap.size (by simp)]
    exact heap_alloc_new _ _
  have HY : Hid (w3.heap[db]? = some (.cells #[.slice u.A1 u.n1 u.c1, .slice u.A2 u.n2 u.c2, .slice u.A3 u.n3 u.c3] 26 (0, 0))) := by
    show _ = _
    rw [hw3, hdb, (below_new _ _).block (w.heap.size + 1) (by simp)]
    have := heap_alloc_new (w.alloc (.cells #[.slice v.A1 v.n1 v.c1, .slice v.A2 v.n2 v.c2, .slice v.A3 v.n3 v.c3] 26)) (.cells #[.slice u.A1 u.n1 u.c1, .slice u.A2 u.n2 u.c2, .slice u.A3 u.n3 u.c3] 26)
    simpa using this
  have HZ : Hid (SB w3 sb (.slice none 0 0) (.slice none 0 0) (.slice none 0 0) (.slice none 0 0) (.slice none 0 0)) := by
    show _ = _
    rw [hw3, hsb]
    have := heap_alloc_new ((w.alloc (.cells #[.slice v.A1 v.n1 v.c1, .slice v.A2 v.n2 v.c2, .slice v.A3 v.n3 v.c3] 26)).alloc (.cells #[.slice u.A1 u.n1 u.c1, .slice u.A2 u.n2 u.c2, .slice u.A3 u.n3 u.c3] 26)) (.cells #[.slice none 0 0, .slice none 0 0, .slice none 0 0, .slice none 0 0, .slice none 0 0] 69)
    simpa using this
  have HSB : Hid (sb = w.heap.size + 2) := by show _ = _; omega
  have HDB : Hid (db < sb) := by show _ < _; omega
  have HWB : Hid (w.heap.size < sb) := by show _ < _; omega
  have HB3 := Lib.hid hb3
  have HBL3 : Hid (Bld w3 sb w.heap.size [] []) := ⟨⟨_, _, HZ.out, OwnP.nil_, OwnW.nil_⟩, by omega, Good.nil_⟩
  obtain ⟨B, hB⟩ : ∃ B, B = w.heap.size := ⟨_, rfl⟩
  have hcells : ∀ wr, Chg SK sb w3 wr → wr.cell? ⟨B, 1, none⟩ = some (.slice v.A2 v.n2 v.c2) ∧ wr.cell? ⟨B, 2, none⟩ = some (.slice v.A3 v.n3 v.c3) ∧ wr.cell? ⟨db, 1, none⟩ = some (.slice u.A2 u.n2 u.c2) ∧ wr.cell? ⟨db, 2, none⟩ = some (.slice u.A3 u.n3 u.c3) := fun wr hc => by
    have k1 := hc.blk _ _ _ _ HX.out (by decide)
    have k2 := hc.blk _ _ _ _ HY.out (by decide)
    rw [hB]
    exact ⟨by rw [cell_of_row _ _ 1 _ _ _ k1]; rfl, by rw [cell_of_row _ _ 2 _ _ _ k1]; rfl, by rw [cell_of_row _ _ 1 _ _ _ k2]; rfl, by rw [cell_of_row _ _ 2 _ _ _ k2]; rfl⟩
  have HCELL := Lib.hid hcells
  have HBB := Lib.hid hB
  clear hw3 hb3 hsb hdb hcells
  have hS3 : SymsAt w3 w.heap.size A n ss := HS.out.below HB3.out
  have hC3 : LitsAt w3 w.heap.size v.A1 v.n1 c.lits := HC.out.lits.below HB3.out
  have hD3 : LitsAt w3 w.heap.size u.A1 u.n1 d.lits := HD.out.lits.below HB3.out
  refine (addLits_any sb w.heap.size 0 A v.A1 u.A1 n cp v.n1 v.c1 u.n1 u.c1 ss c.lits d.lits [] [] w3 HBL3.out rfl (by omega) hS3 HN.out hC3 hD3 HM.out.lits HM2.out.lits b1 b4 (by simp)).mono ?_
  rintro e w4 ⟨rfl, ⟨os4, ho4, hbl4⟩, hc4⟩
  rw [List.nil_append] at hbl4
  rw [Nat.zero_add] at ho4
  have HC4 := Lib.hid hc4
  have HO4 := Lib.hid ho4
  have HB4 := Lib.hid hbl4
  obtain ⟨k1, -, -, -⟩ := HCELL.out w4 hc4
  rw [hB] at k1
  clear hS3 hC3 hD3 ho4 hbl4 hc4 hB
  go_wp2_with fail
  go_loopw [24] (fun i wr => ∃ (k : Nat) (os' : List Nat), i = .int .i64 k ∧ k ≤ v.n2 ∧ Hid (os'.length = c.lits.length + k) ∧ Bld wr sb w.heap.size (partsPr ss 0 c.lits d.lits c.lits.length ++ partsPr ss c.lits.length (c.tups.map mkT) (d.tups.map mkT) k) os' ∧ Chg SK sb w3 wr) (fun i _ => v.n2 - (intOf i).toNat)
  case atStart => exact ⟨0, os4, rfl, by omega, Lib.hid (p := os4.length = c.lits.length + 0) HO4.out, by rw [partsPr_zero, List.append_nil]; exact HB4.out, HC4.out⟩
  case round =>
    obtain ⟨wA, hwA⟩ : ∃ wA, wA = wr := ⟨_, rfl⟩
    subst hwA
    obtain ⟨k, os5, rfl, hk, HO5, hbl5, hc5⟩ := hrel
    have HB5 := Lib.hid hbl5
    have HC5 := Lib.hid hc5
    by_cases hlt : k < v.n2
    · obtain ⟨b1', o1', A6, c6, hA6, hbB, q1, q2, -⟩ := ((HC.out.tups.below HB3.out).below (hc5.bel.mono (Nat.le_of_lt HWB.out))).one hlt
      have HRB := Lib.hid (HM.out.tups _ (List.mem_of_getElem? (rowOf_get (L := c.tups) (by rw [HL2.out]; exact hlt)))).1
      have HTA : Hid (ltAt (c.tups.map mkT) k = mkT (rowOf c.tups k)) := tup_at (by rw [HL2.out]; exact hlt)
      obtain ⟨t, ht⟩ : ∃ t, t = rowOf c.tups k := ⟨_, rfl⟩
      rw [← ht] at q1 q2 HRB HTA
      have HQ := Lib.hid q2
      rw [hA6]
      clear ht q2 hbl5 hc5 hA6
      go_wp2_with fail
      refine (addPart_any sb w.heap.size _ os5 wA HB5.out (by have := HO5.out; have := HL1.out; omega)).mono ?_
      rintro e w6 ⟨rfl, hbl6, hc6⟩
      have HO6 : Hid ((os5 ++ [0]).length = c.lits.length + k + 1) := by show _ = _; rw [List.length_append, HO5.out]; rfl
      have HB6 := Lib.hid hbl6
      have HC6 : Hid (Chg SK sb w3 w6) := HC5.out.trans hc6
      obtain ⟨-, -, m1, -⟩ := HCELL.out w6 HC6.out
      clear hbl6 hc6
      go_wp2_with fail
      go_loopw [33] (fun i wr => ∃ (j : Nat) (os2 : List Nat), i = .int .i64 j ∧ j ≤ u.n2 ∧ Hid (os2.length = c.lits.length + k + 1) ∧ Bld wr sb w.heap.size (partsPr ss 0 c.lits d.lits c.lits.length ++ partsPr ss c.lits.length (c.tups.map mkT) (d.tups.map mkT) k ++ rowPr ss (c.lits.length + k) (mkT t) (d.tups.map mkT) j) os2 ∧ Chg SK sb w3 wr) (fun i _ => u.n2 - (intOf i).toNat)
      case atStart => exact ⟨0, _, rfl, by omega, HO6, by rw [rowPr_zero, List.append_nil]; exact HB6.out, HC6.out⟩
      case round =>
        obtain ⟨j, os7, rfl, hj, HO7, hbl7, hc7⟩ := hrel
        have HB7 := Lib.hid hbl7
        have HC7 := Lib.hid hc7
        by_cases hlt2 : j < u.n2
        · obtain ⟨b2', o2', A8, c8, hA8, hbB2, p1, p2, -⟩ := ((HD.out.tups.below HB3.out).below (hc7.bel.mono (Nat.le_of_lt HWB.out))).one hlt2
          have HRB2 := Lib.hid (HM2.out.tups _ (List.mem_of_getElem? (rowOf_get (L := d.tups) (by rw [HK2.out]; exact hlt2)))).1
          have HTA2 : Hid (ltAt (d.tups.map mkT) j = mkT (rowOf d.tups j)) := tup_at (by rw [HK2.out]; exact hlt2)
          obtain ⟨r, hr⟩ : ∃ r, r = rowOf d.tups j := ⟨_, rfl⟩
          rw [← hr] at p1 p2 HRB2 HTA2
          have HP := Lib.hid p2
          have hle : w.heap.size ≤ wr.heap.size := by have := HB3.out.size; have := HC7.out.bel.size; omega
          have HSr : Hid (SymsAt wr wr.heap.size A n ss) := ((HS.out.below HB3.out).below (hc7.bel.mono (Nat.le_of_lt HWB.out))).more hle
          have HQr : Hid (IntsAt wr wr.heap.size A6 t.length t) := (((HQ.out.at_).keep (fun p hp => (HC5.out.bel.cell (by have := HWB.out; omega)).trans (HC7.out.bel.cell (by have := HWB.out; omega)).symm |>.symm))).more hle
          have HPL : Hid ((partsPr ss 0 c.lits d.lits c.lits.length ++ partsPr ss c.lits.length (c.tups.map mkT) (d.tups.map mkT) k ++ rowPr ss (c.lits.length + k) (mkT t) (d.tups.map mkT) j).length < 60) := by
            show _ < _
            rw [List.length_append, List.length_append]
            have y1 := partsPr_length (ss := ss) (K := 0) (ls := c.lits) (ms := d.lits) (n := c.lits.length)
            have y2 := partsPr_length (ss := ss) (K := c.lits.length) (ls := c.tups.map mkT) (ms := d.tups.map mkT) (n := k)
            have y3 := rowPr_length (ss := ss) (k := c.lits.length + k) (x := mkT t) (y := d.tups.map mkT) (n := j)
            have y4 : c.lits.length * d.lits.length ≤ 5 * 5 := Nat.mul_le_mul HM.out.nl HM2.out.nl
            have y5 : k * (d.tups.map mkT).length ≤ 3 * 3 := Nat.mul_le_mul (by omega) (by rw [List.length_map]; exact HM2.out.nt)
            omega
          rw [hA8]
          clear hr p2 hbl7 hc7 hA8 hle
          go_wp2_with fail
          refine (addPair_any sb w.heap.size (c.lits.length + k) j A _ _ n cp t.length c6 r.length c8 ss t r _ os7 wr HB7.out HO7.out (by have := HL1.out; omega) HPL.out HSr.out HN.out HQr.out HP.out.at_ HP.out.cap HRB.out HRB2.out).mono ?_
          rintro e w8 ⟨rfl, ⟨os8, ho8, hbl8⟩, hc8⟩
          have HO8 : Hid (os8.length = c.lits.length + k + 1) := by show _ = _; rw [ho8]; exact HO7.out
          have HB8 : Hid (Bld w8 sb w.heap.size (partsPr ss 0 c.lits d.lits c.lits.length ++ partsPr ss c.lits.length (c.tups.map mkT) (d.tups.map mkT) k ++ rowPr ss (c.lits.length + k) (mkT t) (d.tups.map mkT) (j + 1)) os8) := by
            show Bld _ _ _ _ _
            rw [rowPr_succ, HTA2.out, onePr_tup, ← List.append_assoc]
            exact hbl8
          have HC8 : Hid (Chg SK sb w3 w8) := HC7.out.trans hc8
          clear ho8 hbl8 hc8
          go_wp2
          go_roundw
          case rel => exact ⟨j + 1, os8, by go_num, by omega, HO8, HB8.out, HC8.out⟩
          case measure => simp [intOf]; omega
        · obtain rfl : j = u.n2 := by omega
          have HBE : Hid (Bld wr sb w.heap.size (partsPr ss 0 c.lits d.lits c.lits.length ++ partsPr ss c.lits.length (c.tups.map mkT) (d.tups.map mkT) (k + 1)) os7) := by
            show Bld _ _ _ _ _
            rw [partsPr_succ, HTA.out, List.length_map, HK2.out, ← List.append_assoc]
            exact HB7.out
          clear hbl7 hc7
          go_wp2
          go_roundw
          case rel => exact ⟨k + 1, os7, by go_num, by omega, Lib.hid (p := os7.length = c.lits.length + (k + 1)) (by rw [HO7.out]; omega), HBE.out, HC7.out⟩
          case measure => simp [intOf]; omega
    · obtain rfl : k = v.n2 := by omega
      obtain ⟨-, m2, -, m4⟩ := HCELL.out wA hc5
      rw [HBB.out] at m2
      have HPL : Hid ((partsPr ss 0 c.lits d.lits c.lits.length ++ partsPr ss c.lits.length (c.tups.map mkT) (d.tups.map mkT) v.n2).length ≤ 34) := by
        show _ ≤ _
        rw [List.length_append]
        have y1 := partsPr_length (ss := ss) (K := 0) (ls := c.lits) (ms := d.lits) (n := c.lits.length)
        have y2 := partsPr_length (ss := ss) (K := c.lits.length) (ls := c.tups.map mkT) (ms := d.tups.map mkT) (n := v.n2)
        have y4 : c.lits.length * d.lits.length ≤ 5 * 5 := Nat.mul_le_mul HM.out.nl HM2.out.nl
        have y5 : v.n2 * (d.tups.map mkT).length ≤ 3 * 3 := Nat.mul_le_mul (by omega) (by rw [List.length_map]; exact HM2.out.nt)
        omega
      have hbe := hc5.bel.mono (Nat.le_of_lt HWB.out)
      have HSr : Hid (SymsAt wA w.heap.size A n ss) := (HS.out.below HB3.out).below hbe
      have HC3r : Hid (LitsAt wA w.heap.size v.A3 v.n3 c.conds) := (HC.out.conds.below HB3.out).below hbe
      have HD3r : Hid (LitsAt wA w.heap.size u.A3 u.n3 d.conds) := (HD.out.conds.below HB3.out).below hbe
      clear hbl5 hc5 hbe
      go_wp2_with fail
      refine (addLits_any sb w.heap.size (c.lits.length + v.n2) A v.A3 u.A3 n cp v.n3 v.c3 u.n3 u.c3 ss c.conds d.conds _ os5 wA HB5.out HO5.out (by have := HL1.out; omega) HSr.out HN.out HC3r.out HD3r.out HM.out.conds HM2.out.conds (by omega) (by omega) HPL.out).mono ?_
      rintro e w9 ⟨rfl, ⟨os9, ho9, hbl9⟩, hc9⟩
      have HO9 : Hid (os9.length = (itemsC c).length) := by show _ = _; rw [items_len, HL2.out]; exact ho9
      have HB9 : Hid (Bld w9 (w.heap.size + 2) w.heap.size (allPr ss (itemsC c) (targC c d) (itemsC c).length) os9) := by
        show Bld _ _ _ _ _
        rw [allPr_parts, HL2.out, ← HSB.out]; exact hbl9
      have HBE : Hid (Below w.heap.size w w9) := HB3.out.trans ((HC5.out.bel.trans hc9.bel).mono (Nat.le_of_lt HWB.out))
      clear ho9 hbl9 hc9
      go_wp2
      go_ret
      exact ⟨by rw [HSB.out]; rfl, ⟨os9, HO9.out, HB9.out⟩, HBE.out⟩
end Go.Proofs.YtcjpopjcpgipjaaDoor
