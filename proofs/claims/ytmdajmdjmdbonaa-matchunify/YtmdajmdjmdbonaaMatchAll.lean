/-
  Contracts: match.binds, shape.IsRow, match.Match.
-/
import Derived.Test.YtmdajmdjmdbonaaChange
namespace Go.Proofs.Ytmdajmdjmdbonaa
open Go.RowKit
set_option linter.unusedSimpArgs false
set_option linter.unusedVariables false
set_option maxRecDepth 100000

theorem run_neq_nil {P : Program} (w : World) (t e : TypeId) (a : Option Addr) (n c n' c' : Nat) (h : P.underlying t = some (.slice e)) :
    (binOp .neq t (.slice a n c) (.slice none n' c')).run P w = .ok (.bool (!a.isNone)) w := by
  simp only [binOp]
  simp [Op.equal, Op.maxDepth, Lib.run_equalIn_slice_nil w 9999 t e a n c n' c' h]
theorem head_isV {ss : List Sym} {t : List Int} {v : Nat} (h : trm 24 ss t 1) : isV t v = decide (intAt t 0 = -1 - (v : Int)) := by
  rcases trm_one h with ⟨x, hx, e⟩ | ⟨c, ar, s, e, h0, _, _⟩
  · subst e
    unfold isV sameI
    by_cases q : x = v
    · subst q; simp [intAt]
    · have q' : ¬ (-1 - (x : Int)) = -1 - (v : Int) := by omega
      simp [intAt]
  · subst e
    unfold isV sameI
    have q' : ¬ c = -1 - (v : Int) := by omega
    simp [intAt, q']

theorem index_pcs {w : World} {cs : Array Value} {k : Nat} {u : Value} (hk : k < 24) (hc : cs[k]? = some u) : (Instr.index 37 (.agg cs) (.int .i64 (k : Int))).run Try.prog w = .ok u w := by
  have h1 : ∀ w, (isAgg 23).run Try.prog w = .ok false w := fun w => by kernel_rfl
  have h2 : ∀ w, (sizeOf 23).run Try.prog w = .ok 1 w := fun w => by kernel_rfl
  have h3 : ∀ w, (underlying 37).run Try.prog w = .ok (.array 24 23) w := fun w => by kernel_rfl
  have z0 : (0 : Int) ≤ (k : Int) := by omega
  have z1 : (k : Int) < 24 := by omega
  unfold Instr.index part
  simp only [asIntOf, Sem.run_bind, Sem.run_pure, Result.andThen_ok, h3]
  simp [z0, z1, Sem.run_bind, Result.andThen, h1, h2, hc, Sem.run_pure]
set_option maxHeartbeats 1000000 in
theorem bindsM_any (ss : List Sym) (base : Nat) (cs : Array Value) (T : Nat → List Int) (w : World) (h : PartsC w base cs T) (hBw : base ≤ w.heap.size) (hT : TOk ss T) :
    Calls Try.prog 12 #[.agg cs] w (BindsRet (bdsOf (stT T) 24) w) := by
  obtain ⟨hz, hzs⟩ := zero_of_info parts_info
  have HP := Lib.hid h
  have HT := Lib.hid hT
  have HBW := Lib.hid hBw
  have hcsz := h.1
  clear h hT hBw
  go_enter Try.func12, Try.ntmps12
  go_wp2_with (with_reducible refine wpList_load_row rfl 37 (.tmp 1) rfl w.heap.size rfl 37 cs (0, 0) _ (heap_alloc_new _ _) Try.underlying37 rfl (by rw [hcsz]; exact hzs) ?_)
  go_loopw [3, 7] (fun q i wr => ∃ k : Nat, i = .int .i64 k ∧ k ≤ 24 ∧ OwnB wr w.heap.size q (bdsOf (stT T) k) ∧ Below w.heap.size w wr) (fun _ i _ => 24 - (intOf i).toNat)
  case atStart => exact ⟨0, rfl, by omega, OwnB.nil_, below_new _ _⟩
  case round =>
    obtain ⟨k, rfl, hk, hown, hbw⟩ := hrel
    have HOWN := Lib.hid hown
    have HBW2 := Lib.hid hbw
    have hsz := hbw.size
    clear hown hbw
    by_cases hlt : k < 24
    · have HSUCC := Lib.hid (bdsOf_succ (stT T) k)
      obtain ⟨u, hc, hu⟩ := (HP.out.below (HBW2.out.mono HBW.out)).2 k hlt
      have z0 : (0 : Int) ≤ (k : Int) := by omega
      have z1 : (k : Int) < 24 := by omega
      have hidx := index_pcs (w := wr) hlt hc
      rcases hu with ⟨rfl, he⟩ | ⟨b, off, n', c', rfl, hr, hn'⟩
      · have HVT : Hid (isV (stT T k) k = true) := by show isV (stT T k) k = true; unfold stT; rw [if_pos he]; exact isV_iff.2 rfl
        have hq := run_neq_nil (P := Try.prog) wr 23 3 none 0 0 0 0 Try.underlying23
        go_wp2
        go_roundw
        case rel => exact ⟨k + 1, by go_num, by omega, (HOWN.out.on (Below.refl _ _)).cast (by rw [HSUCC.out, HVT.out]; simp), HBW2.out.trans (Below.refl _ _)⟩
        case measure => simp [intOf]; omega
      · have HNE : Hid (T k ≠ []) := by
          intro e
          have hl := hr.at_.len
          rw [e] at hl
          simp at hl
          omega
        have HST : Hid (stT T k = T k) := by show stT T k = T k; unfold stT; rw [if_neg HNE.out]
        have htr : trm 24 ss (T k) 1 := by
          rcases HT.out k with e | e
          · exact absurd e HNE.out
          · exact e.1
        have HVT := Lib.hid (head_isV (v := k) htr)
        have HR := Lib.hid hr
        have hc0 : wr.cell? ⟨b, off, none⟩ = some (.int .i64 (intAt (T k) 0)) := by
          obtain ⟨b1, o1, e1, _, h1⟩ := hr.at_.at_ (by omega)
          injection e1 with e1
          injection e1 with e1 e2
          subst e1; subst e2
          exact h1 0 (by omega)
        clear hr htr
        by_cases hx : intAt (T k) 0 = -1 - (k : Int)
        · have HV : Hid (isV (stT T k) k = true) := by show isV (stT T k) k = true; rw [HST.out, HVT.out]; exact decide_eq_true hx
          rw [hx] at hc0
          have hq := run_neq_nil (P := Try.prog) wr 23 3 (some ⟨b, off, none⟩) n' c' 0 0 Try.underlying23
          go_wp2
          go_roundw
          case rel => exact ⟨k + 1, by go_num, by omega, (HOWN.out.on (Below.refl _ _)).cast (by rw [HSUCC.out, HV.out]; simp), HBW2.out.trans (Below.refl _ _)⟩
          case measure => simp [intOf]; omega
        · have HV : Hid (isV (stT T k) k = false) := by show isV (stT T k) k = false; rw [HST.out, HVT.out]; exact decide_eq_false hx
          have hq := run_neq_nil (P := Try.prog) wr 23 3 (some ⟨b, off, none⟩) n' c' 0 0 Try.underlying23
          have hx2 : (intAt (T k) 0 != -1 - (k : Int)) = true := by simpa using hx
          go_wp2_with fail
          have HBN := Lib.hid (Below.refl wr.heap.size wr)
          have hbase : base ≤ wr.heap.size := by have := HBW.out; have := HBW2.out.size; omega
          refine (clone_any _ n' c' (T k) wr ((HR.out.at_.more hbase).on HBN.out) (fun h => by cases h) (by have := HR.out.few; omega)).mono ?_
          rintro e w3 ⟨v3, rfl, hv3, hb3⟩
          have HO3 := Lib.hid ((HOWN.out.on HBN.out).on hb3)
          have HV3 := Lib.hid ((hv3.lower (base' := w.heap.size) hsz).cast (ys := stT T k) HST.out.symm)
          have HB3 := Lib.hid ((HBW2.out.trans (HBN.out.mono hsz)).trans (hb3.mono hsz))
          have hsz3 := HB3.out.size
          obtain ⟨A3, cap3, rfl, _, _⟩ := hv3.intsAt
          clear hv3 hb3 hq hx2 hx
          go_wp2_with (at_builtin
                       refine app_bind1 rfl (.tmp 21) (.tmp 26) rfl w.heap.size _ _ (k : Int) (stT T k) _ rfl HO3.out HV3.out rfl (by have := bdsOf_len (stT T) k; omega) hsz3 ?_
                       intro v5 w5 hown5 hb5
                       have HO5 := Lib.hid hown5
                       have HB5 := Lib.hid (HB3.out.trans hb5)
                       clear hown5 hb5)
          go_roundw
          case rel => exact ⟨k + 1, by go_num, by omega, HO5.out.cast (by rw [HSUCC.out, HV.out]; simp), HB5.out⟩
          case measure => simp [intOf]; omega
    · obtain rfl : k = 24 := by omega
      go_wp2
      go_ret
      exact ⟨_, rfl, HOWN.out, HBW2.out⟩

set_option maxHeartbeats 1000000 in
theorem isRowM_any (A A' : Option Addr) (n c m c' : Nat) (ss : List Sym) (r : List Int) (w : World) (h : SymsAt w w.heap.size A n ss) (hn : n ≤ maxLen) (hnc : n ≤ c) (hr : IntsAt w w.heap.size A' m r) (hm : m ≤ maxLen) :
    Calls Try.prog 10 #[.slice A n c, .slice A' m c'] w fun e w' => e = .returned (.bool (rowB ss r)) ∧ Below w.heap.size w w' := by
  cases hb : rowB ss r
  all_goals
    (first | (have he := rowE_yes hb; have h0 : 1 = 1 := rfl) | have he := rowE_no hb)
    clear hb
    go_enter Try.func10, Try.ntmps10
    go_wp2_with fail
    refine (row_any A A' n c m c' ss r _ h hn hnc hr hm).mono ?_
    rintro e w1 ⟨rfl, hb1⟩
    rw [he]
    clear he
    go_wp2
    go_ret
    exact ⟨rfl, hb1⟩

/-- What Match hands back. -/
def MatPost (ss : List Sym) (a b : List Int) (w : World) (e : Ending) (w' : World) : Prop :=
  ∃ v, e = .returned (.tuple #[v, .bool (mtIs ss a b), .int .i64 (mtE ss a b)]) ∧ OwnB w' w.heap.size v (mtB ss a b) ∧ Below w.heap.size w w'
theorem MatPost.no {ss : List Sym} {a b : List Int} {w w' : World} {e : Ending} {E : Int} (he : e = .returned (.tuple #[.slice none 0 0, .bool false, .int .i64 E])) (h1 : mtIs ss a b = false) (h2 : mtE ss a b = E) (hb : Below w.heap.size w w') : MatPost ss a b w e w' :=
  ⟨_, by rw [h1, h2]; exact he, by rw [mtB_no h1]; exact OwnB.nil_, hb⟩
theorem MatPost.yes {ss : List Sym} {a b : List Int} {w w' : World} {e : Ending} {v : Value} {T : Nat → List Int} (he : e = .returned (.tuple #[v, .bool true, .int .i64 0])) (h1 : mtO ss a b = some T) (hv : OwnB w' w.heap.size v (bdsOf (stT T) 24)) (hb : Below w.heap.size w w') : MatPost ss a b w e w' := by
  have h2 : mtIs ss a b = true := by unfold mtIs; rw [h1]; rfl
  exact ⟨v, by rw [h2, mtE_yes h2]; exact he, by rw [mtB_yes h1]; exact hv, hb⟩

set_option maxHeartbeats 1000000 in
theorem match_any (A A1 A2 : Option Addr) (n c n1 c1 n2 c2 : Nat) (ss : List Sym) (a b : List Int) (w : World) (h : SymsAt w w.heap.size A n ss) (hn : n ≤ maxLen) (hnc : n ≤ c) (ha : IntsAt w w.heap.size A1 n1 a) (hn1 : n1 ≤ maxLen) (hb : IntsAt w w.heap.size A2 n2 b) (hn2 : n2 ≤ maxLen) (hc2 : n2 ≤ c2) :
    Calls Try.prog 5 #[.slice A n c, .slice A1 n1 c1, .slice A2 n2 c2] w (MatPost ss a b w) := by
  obtain ⟨hz, hzs⟩ := zero_of_info parts_info
  have HS := Lib.hid h
  have HA := Lib.hid ha
  have HBB := Lib.hid hb
  have HN1 := Lib.hid hn1
  have HN2 := Lib.hid hn2
  have HN := Lib.hid hn
  clear h ha hb hn hn1 hn2
  cases h1 : rowB ss a
  · have HNO := Lib.hid (mtE_bad (ss := ss) (a := a) (b := b) (by rw [h1]; rfl))
    go_enter Try.func5, Try.ntmps5
    go_wp2_with fail
    refine (isRowM_any A A1 n c n1 c1 ss a _ HS.out HN.out hnc HA.out HN1.out).mono ?_
    rintro e w1 ⟨rfl, hb1⟩
    rw [h1]
    clear h1
    go_wp2
    go_ret3
    exact MatPost.no rfl HNO.out.2.1 HNO.out.1 hb1
  cases h2 : rowB ss b
  · have HNO := Lib.hid (mtE_bad (ss := ss) (a := a) (b := b) (by rw [h1, h2]; rfl))
    go_enter Try.func5, Try.ntmps5
    go_wp2_with fail
    refine (isRowM_any A A1 n c n1 c1 ss a _ HS.out HN.out hnc HA.out HN1.out).mono ?_
    rintro e w1 ⟨rfl, hb1⟩
    rw [h1]
    clear h1
    go_wp2_with fail
    refine (isRowM_any A A2 n c n2 c2 ss b _ (HS.out.on hb1) HN.out hnc (HBB.out.on hb1) HN2.out).mono ?_
    rintro e w2 ⟨rfl, hb2⟩
    rw [h2]
    clear h2
    go_wp2
    go_ret3
    exact MatPost.no rfl HNO.out.2.1 HNO.out.1 (hb1.trans (hb2.mono hb1.size))
  have H1 := Lib.hid h1
  have H2 := Lib.hid h2
  have HE : Hid (mtE ss a b = 0) := by show mtE ss a b = 0; unfold mtE; rw [h1, h2]; rfl
  have HO : Hid (mtO ss a b = mt ss b noT 0 a) := by show mtO ss a b = _; unfold mtO; rw [h1, h2]; rfl
  go_enter Try.func5, Try.ntmps5
  go_wp2_with fail
  refine (isRowM_any A A1 n c n1 c1 ss a _ HS.out HN.out hnc HA.out HN1.out).mono ?_
  rintro e w1 ⟨rfl, hb1⟩
  rw [h1]
  clear h1
  go_wp2_with fail
  refine (isRowM_any A A2 n c n2 c2 ss b _ (HS.out.on hb1) HN.out hnc (HBB.out.on hb1) HN2.out).mono ?_
  rintro e w2 ⟨rfl, hb2⟩
  rw [h2]
  have HB2 := Lib.hid (hb1.trans (hb2.mono hb1.size))
  have HSS := Lib.hid ((HS.out.on hb1).on hb2)
  have HAA := Lib.hid ((HA.out.on hb1).on hb2)
  have HB3 := Lib.hid ((HBB.out.on hb1).on hb2)
  clear h2 hb1 hb2
  go_wp2_with fail
  refine (compare_any A A1 A2 n c n1 c1 n2 c2 w2.heap.size ss a b w2 HSS.out HN.out HAA.out HB3.out (Nat.le_refl _) hc2 H1.out H2.out).mono ?_
  rintro e w3 ⟨cs, T, rfl, hp, hT, hb3⟩
  have HP := Lib.hid hp
  have HT := Lib.hid hT
  have HB4 := Lib.hid hb3
  have hcsz := hp.1
  have hsc := run_storeC (P := Try.prog) (w3.alloc (.cells nilC 37)) w3.heap.size _ nilC cs (heap_alloc_new _ _) (by rw [hcsz]; rfl) hp.one
  rw [World.setRow_alloc_new] at hsc
  clear hp hT hb3
  cases hm : (mt ss b noT 0 a).isSome
  · have H : Hid (mtIs ss a b = false) := by show mtIs ss a b = false; unfold mtIs; rw [HO.out]; exact hm
    clear hm
    go_wp2
    clear hsc
    go_ret3
    exact MatPost.no rfl H.out HE.out (HB2.out.trans ((HB4.out.trans ((below_new w3 _).mono HB4.out.size)).mono HB2.out.size))
  · have HMT := Lib.hid (HT.out hm)
    have HIS : Hid (mtIs ss a b = true) := by show mtIs ss a b = true; unfold mtIs; rw [HO.out]; exact hm
    have HOT : Hid (mtO ss a b = some T) := by show mtO ss a b = some T; rw [HO.out]; exact HMT.out
    have HOK := Lib.hid (mtO_yes HOT.out).2.2.1
    have HPA : Hid (PartsC (w3.alloc (.cells cs 37)) w2.heap.size cs T) := HP.out.below ((below_new w3 _).mono HB4.out.size)
    have HB5 := Lib.hid (HB2.out.trans ((HB4.out.trans ((below_new w3 (.cells cs 37)).mono HB4.out.size)).mono HB2.out.size))
    clear hm
    go_wp2_with (with_reducible refine wpList_load_row rfl 37 (.tmp 9) rfl w3.heap.size rfl 37 cs (0, 0) _ (heap_alloc_new _ _) Try.underlying37 rfl (by rw [hcsz]; exact hzs) ?_)
    clear hsc
    refine (bindsM_any ss w2.heap.size cs T _ HPA.out (by have := HB4.out.size; simp; omega) HOK.out).mono ?_
    rintro e w5 ⟨v5, rfl, hv5, hb5⟩
    have HV5 := Lib.hid (hv5.lower (base' := w.heap.size) HB5.out.size)
    have HB6 := Lib.hid (HB5.out.trans (hb5.mono HB5.out.size))
    clear hv5 hb5
    go_wp2
    go_ret3
    exact MatPost.yes rfl HOT.out HV5.out HB6.out
end Go.Proofs.Ytmdajmdjmdbonaa
