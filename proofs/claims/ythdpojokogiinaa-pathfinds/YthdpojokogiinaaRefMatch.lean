/-
  Contracts of the reference: become, Become, Match.
-/
import Derived.Test.YthdpojokogiinaaMatchAll
import Derived.Test.YthdpojokogiinaaPartsR2
import Derived.Test.YthdpojokogiinaaBaseBind
import Derived.BigQuiet
namespace Go.Proofs.Ythdpojokogiinaa
open Go.RowKit
set_option linter.unusedSimpArgs false
set_option linter.unusedVariables false
set_option maxRecDepth 100000

/-- What become tells. -/
def BecPost (ss : List Sym) (a b : List Int) (T : Nat → List Int) (base sb : Nat) (w : World) (e : Ending) (w' : World) : Prop :=
  e = .returned (.bool (mt ss b T 0 a).isSome) ∧ (∀ T', mt ss b T 0 a = some T' → StoreAt w' base sb T') ∧ w.grownBy w' (some sb)
theorem BecPost.no {ss : List Sym} {a b : List Int} {T : Nat → List Int} {base sb : Nat} {w w' : World} {e : Ending} (h : mt ss b T 0 a = none) (he : e = .returned (.bool false)) (hg : w.grownBy w' (some sb)) : BecPost ss a b T base sb w e w' :=
  ⟨by rw [h]; exact he, fun T' hT => (by rw [h] at hT; cases hT), hg⟩
theorem BecPost.yes {ss : List Sym} {a b : List Int} {T T' : Nat → List Int} {base sb : Nat} {w w' : World} {e : Ending} (h : mt ss b T 0 a = some T') (he : e = .returned (.bool true)) (hs : StoreAt w' base sb T') (hg : w.grownBy w' (some sb)) : BecPost ss a b T base sb w e w' :=
  ⟨by rw [h]; exact he, fun T2 hT => (by rw [h] at hT; injection hT with hT; subst hT; exact hs), hg⟩
structure BecW (ss : List Sym) (a b : List Int) (T0 : Nat → List Int) (base sb : Nat) (w : World) (i j : Nat) (T : Nat → List Int) (w' : World) : Prop where
  gr : w.grownBy w' (some sb)
  st : StoreAt w' base sb T
  mts : mt ss b T j (a.drop i) = mt ss b T0 0 a
theorem BecW.on {ss : List Sym} {a b : List Int} {T0 T : Nat → List Int} {base sb : Nat} {w w1 w2 : World} {i j : Nat} (h : BecW ss a b T0 base sb w i j T w1) (hb : Below w1.heap.size w1 w2) : BecW ss a b T0 base sb w i j T w2 :=
  ⟨grown_trans h.gr (grown_of_below hb), h.st.on hb, h.mts⟩
theorem below_drew {B : Nat} (w : World) : Below B w w.drew := ⟨rfl, rfl, rfl, Nat.le_refl _, fun _ _ => rfl⟩

set_option maxHeartbeats 1000000 in
theorem become_any (A A1 A2 : Option Addr) (n c n1 c1 n2 c2 base sb : Nat) (ss : List Sym) (a b : List Int) (T0 : Nat → List Int) (w : World) (hst : StoreAt w base sb T0) (h : SymsAt w base A n ss) (hn : n ≤ maxLen) (ha : IntsAt w base A1 n1 a) (hb : RowAt w base A2 n2 c2 b) (hra : rowB ss a = true) (hrb : rowB ss b = true) :
    Calls Try.prog 62 #[.pointer (some ⟨sb, 0, none⟩), .slice A n c, .slice A1 n1 c1, .slice A2 n2 c2] w (BecPost ss a b T0 base sb w) := by
  have HLA := Lib.hid ha.len
  have HLB := Lib.hid hb.at_.len
  have hm1 : n1 ≤ 48 := by have := (row_parts hra).2.1; rw [HLA.out] at this; exact this
  have hm2 := hb.few
  have hcap := hb.cap
  have HMAY := Lib.hid (row_parts hra).1
  have HRA := Lib.hid hra
  have HRB := Lib.hid hrb
  have HS := Lib.hid h
  have HA := Lib.hid ha
  have HB := Lib.hid hb
  have HN := Lib.hid hn
  have HBS : Hid (base ≤ sb ∧ sb < w.heap.size) := ⟨hst.le, hst.lt⟩
  have HK : Hid (∀ w', w.grownBy w' (some sb) → ∀ p : Addr, p.block < base → w'.cell? p = w.cell? p) := fun w' hg p hp => by
    have := HBS.out
    exact World.cell?_of_block (w := w) (hg.block p.block (by omega) (by simp; omega))
  have HW0 : Hid (BecW ss a b T0 base sb w 0 0 T0 w) := ⟨grown_refl, hst, rfl⟩
  clear hra hrb h ha hb hn hst
  go_enter Try.func62, Try.ntmps62
  go_wp2
  go_loopw [9, 10] (fun q i wr => ∃ (k j : Nat) (T : Nat → List Int), q = .int .i64 (j : Int) ∧ i = .int .i64 (k : Int) ∧ k ≤ n1 ∧ j ≤ n2 ∧ BecW ss a b T0 base sb w k j T wr) (fun _ i _ => n1 - (intOf i).toNat)
  case atStart => exact ⟨0, 0, T0, rfl, rfl, by omega, by omega, HW0.out⟩
  case round =>
    obtain ⟨k, j, T, rfl, rfl, hk, hj, hw⟩ := hrel
    have HW := Lib.hid hw
    clear hw
    by_cases hlt : k < n1
    · obtain ⟨ba, oa, hA', hba, hca⟩ := HA.out.at_ (by omega)
      subst hA'
      have hca0 : wr.cell? ⟨ba, oa + k, none⟩ = some (.int .i64 (intAt a k)) := by rw [HK.out wr HW.out.gr ⟨ba, oa + k, none⟩ hba]; exact hca k hlt
      have HDA : Hid (a.drop k = intAt a k :: a.drop (k + 1)) := drop_get (by rw [HLA.out]; exact hlt) (intAt_get (by rw [HLA.out]; exact hlt))
      clear hca hba
      by_cases hjl : j < n2
      · have hjb : Hid (j < b.length) := by show j < b.length; rw [HLB.out]; exact hjl
        obtain ⟨bb, ob, hA2, hbb, hcb⟩ := HB.out.at_.at_ (by omega)
        subst hA2
        have hcb0 : wr.cell? ⟨bb, ob + j, none⟩ = some (.int .i64 (intAt b j)) := by rw [HK.out wr HW.out.gr ⟨bb, ob + j, none⟩ hbb]; exact hcb j hjl
        have z0 : (0 : Int) ≤ (k : Int) := by omega
        have z1 : (k : Int) < (n1 : Int) := by omega
        have z2 : (0 : Int) ≤ (j : Int) := by omega
        have z3 : (j : Int) < (n2 : Int) := by omega
        clear hcb hbb
        by_cases hx : 0 ≤ intAt a k
        · have HMT : Hid (mt ss b T j (a.drop k) = if headB (b.drop j) (intAt a k) then mt ss b T (j + 1) (a.drop (k + 1)) else none) := by
            show mt ss b T j (a.drop k) = _
            rw [HDA.out, mt_sym hjb.out hx]
          have HHD : Hid (headB (b.drop j) (intAt a k) = (intAt b j == intAt a k)) := by
            show headB _ _ = _
            unfold headB; rw [intAt_drop, Nat.add_zero]
          by_cases he : intAt a k = intAt b j
          · have he' : (intAt a k != intAt b j) = false := by simp [he]
            have HNX : Hid (BecW ss a b T0 base sb w (k + 1) (j + 1) T wr) := by
              refine ⟨HW.out.gr, HW.out.st, ?_⟩
              rw [← HW.out.mts, HMT.out, HHD.out, he]; simp
            clear he
            go_wp2_with fail
            go_quiet (fail)
            go_wp2
            go_roundw
            case rel => exact ⟨k + 1, j + 1, T, by go_num, by go_num, by omega, by omega, ⟨grown_trans HNX.out.gr (grown_of_below (below_drewN _ _)), HNX.out.st.on (below_drewN _ _), HNX.out.mts⟩⟩
            case measure => simp [intOf]; omega
          · have he' : (intAt a k != intAt b j) = true := by simpa using he
            have H : Hid (mt ss b T0 0 a = none) := by
              show mt ss b T0 0 a = none
              have e2 : (intAt b j == intAt a k) = false := beq_eq_false_iff_ne.2 (fun q => he q.symm)
              rw [← HW.out.mts, HMT.out, HHD.out, e2]; rfl
            clear he
            go_wp2_with fail
            go_quiet (fail)
            go_wp2
            go_ret
            exact BecPost.no H.out rfl (grown_trans HW.out.gr (grown_of_below (below_drewN _ _)))
        · obtain ⟨v, hv⟩ : ∃ v : Nat, intAt a k = -1 - (v : Int) := ⟨(-1 - intAt a k).toNat, by omega⟩
          have hv24 : v < 24 := by have := row_ge HRA.out (intAt a k) (List.mem_of_getElem? (intAt_get (by rw [HLA.out]; exact hlt))); omega
          rw [hv] at hca0 hx
          have HV := Lib.hid hv
          clear hv
          obtain ⟨p1, p2, p3, p4, p5⟩ := piece_facts HRB.out hjb.out
          have HSC := Lib.hid (scan_start HRB.out hjb.out)
          have HPN := Lib.hid (piece_ne HRB.out hjb.out)
          have HMT : Hid (mt ss b T j (a.drop k) = if tkB T v (pieceAt ss b j) then mt ss b (bindV T v (pieceAt ss b j)) (endAt ss b j) (a.drop (k + 1)) else none) := by
            show mt ss b T j (a.drop k) = _
            rw [HDA.out, HV.out, mt_var hjb.out]
          obtain ⟨E, hE⟩ : ∃ E, E = endAt ss b j := ⟨_, rfl⟩
          rw [← hE] at HSC HMT p3 p4 p5
          rw [HLB.out] at p4
          have HRW : Hid (RowAt wr base (some ⟨bb, ob + j, none⟩) (E - j) (c2 - j) (pieceAt ss b j)) := by
            have h1 := HB.out.keep (HK.out wr HW.out.gr)
            have h2 := (h1.at_.drop (k := j) (by omega)).take (i := E - j) (by omega)
            refine ⟨?_, by omega, by omega⟩
            unfold pieceAt
            rw [← hE]
            exact h2
          have HE := Lib.hid hE
          clear p1 p2 p5 hE
          obtain ⟨A3, n3, c3, hc3, hr3⟩ := HW.out.st.cell (v := v) (by omega)
          have hfz := HW.out.st.frozen v
          have hl3 := hr3.at_.len
          have HR3 := Lib.hid hr3
          have HPUT := Lib.hid (HW.out.st.put (v := v) (by omega) HRW.out)
          have hxv : -1 - (-1 - (v : Int)) = (v : Int) := by omega
          have hx' : decide (0 ≤ -1 - (v : Int)) = false := by simpa using hx
          have u0 : (0 : Int) ≤ (v : Int) := by omega
          have u1 : (v : Int) < 48 := by omega
          clear hr3
          go_wp2_with fail
          refine (refEnd_any A _ n c n2 c2 base base j ss b wr (HS.out.keep (HK.out wr HW.out.gr)) HN.out (HB.out.at_.keep (HK.out wr HW.out.gr)) (by omega) HMAY.out (by omega)).mono ?_
          rintro e w1 ⟨rfl, rfl⟩
          rw [HSC.out]
          by_cases hn3 : n3 = 0
          · subst hn3
            have HTK : Hid (tkB T v (pieceAt ss b j) = true) := by
              show tkB T v (pieceAt ss b j) = true
              unfold tkB
              rw [List.length_eq_zero_iff.1 hl3]; simp
            go_wp2_with fail
            go_quiet (fail)
            go_wp2_with fail
            obtain ⟨wB, hwB⟩ : ∃ wB, wB = wr.drewN nq := ⟨_, rfl⟩
            have HBD : Hid (Below wr.heap.size wr wB) := by rw [hwB]; exact below_drewN _ _
            have HWB : Hid (BecW ss a b T0 base sb w k j T wB) := ⟨grown_trans HW.out.gr (grown_of_below HBD.out), HW.out.st.on HBD.out, HW.out.mts⟩
            have HRWB : Hid (RowAt wB base (some ⟨bb, ob + j, none⟩) (E - j) (c2 - j) (pieceAt ss b j)) := HRW.out.below (HBD.out.mono (by have := HBS.out; have := HW.out.gr.size; omega))
            have HPUTB := Lib.hid (HWB.out.st.put (v := v) (by omega) HRWB.out)
            obtain ⟨A4, n4, c4, hc4, _⟩ := HWB.out.st.cell (v := v) (by omega)
            have hfz4 := HWB.out.st.frozen v
            have HNX : Hid (BecW ss a b T0 base sb w (k + 1) E (bindV T v (pieceAt ss b j)) (wB.setCell ⟨sb, v, none⟩ (.slice (some ⟨bb, ob + j, none⟩) (E - j) (c2 - j)))) := by
              refine ⟨grown_trans HWB.out.gr HPUTB.out.2, HPUTB.out.1, ?_⟩
              rw [← HW.out.mts, HMT.out, HTK.out]; rfl
            rw [← hwB]
            clear hc3 hfz hca0 hcb0 hwB
            go_region
            go_wp2
            go_roundw
            case rel => exact ⟨k + 1, E, _, rfl, by go_num, by omega, by omega, HNX.out.on (below_drew _)⟩
            case measure => simp [intOf]; omega
          · have HTK0 : Hid (tkB T v (pieceAt ss b j) = sameI (T v) (pieceAt ss b j)) := by
              show tkB T v (pieceAt ss b j) = sameI (T v) (pieceAt ss b j)
              have hne : T v ≠ [] := fun e => hn3 (by rw [← hl3, e]; rfl)
              unfold tkB sameI
              simp [hne]
            have hn3' : decide (0 < n3) = true := by simp; omega
            cases htk : sameI (T v) (pieceAt ss b j)
            · have H : Hid (mt ss b T0 0 a = none) := by
                show mt ss b T0 0 a = none
                rw [← HW.out.mts, HMT.out, HTK0.out, htk]; rfl
              have HTT := Lib.hid htk
              clear htk
              go_wp2_with fail
              go_quiet ((go_at_call 63; exact refSame_still A3 _ n3 c3 _ _ base base _ (T v) (pieceAt ss b j) _ HR3.out.at_ HRW.out.at_ (by have := HR3.out.few; unfold maxLen; omega) (by unfold maxLen; omega) HTT.out))
              go_wp2
              go_ret
              exact BecPost.no H.out rfl (grown_trans HW.out.gr (grown_of_below (below_drewN _ _)))
            · have HTK : Hid (tkB T v (pieceAt ss b j) = true) := by show tkB T v (pieceAt ss b j) = true; rw [HTK0.out]; exact htk
              have HTT := Lib.hid htk
              clear htk
              go_wp2_with fail
              go_quiet ((go_at_call 63; exact refSame_still A3 _ n3 c3 _ _ base base _ (T v) (pieceAt ss b j) _ HR3.out.at_ HRW.out.at_ (by have := HR3.out.few; unfold maxLen; omega) (by unfold maxLen; omega) HTT.out))
              go_wp2_with fail
              obtain ⟨wB, hwB⟩ : ∃ wB, wB = wr.drewN nq := ⟨_, rfl⟩
              have HBD : Hid (Below wr.heap.size wr wB) := by rw [hwB]; exact below_drewN _ _
              have HWB : Hid (BecW ss a b T0 base sb w k j T wB) := ⟨grown_trans HW.out.gr (grown_of_below HBD.out), HW.out.st.on HBD.out, HW.out.mts⟩
              have HRWB : Hid (RowAt wB base (some ⟨bb, ob + j, none⟩) (E - j) (c2 - j) (pieceAt ss b j)) := HRW.out.below (HBD.out.mono (by have := HBS.out; have := HW.out.gr.size; omega))
              have HPUTB := Lib.hid (HWB.out.st.put (v := v) (by omega) HRWB.out)
              obtain ⟨A4, n4, c4, hc4, _⟩ := HWB.out.st.cell (v := v) (by omega)
              have hfz4 := HWB.out.st.frozen v
              have HNX : Hid (BecW ss a b T0 base sb w (k + 1) E (bindV T v (pieceAt ss b j)) (wB.setCell ⟨sb, v, none⟩ (.slice (some ⟨bb, ob + j, none⟩) (E - j) (c2 - j)))) := by
                refine ⟨grown_trans HWB.out.gr HPUTB.out.2, HPUTB.out.1, ?_⟩
                rw [← HW.out.mts, HMT.out, HTK.out]; rfl
              rw [← hwB]
              clear hc3 hfz hca0 hcb0 hwB
              go_region
              go_wp2
              go_roundw
              case rel => exact ⟨k + 1, E, _, rfl, by go_num, by omega, by omega, HNX.out.on (below_drew _)⟩
              case measure => simp [intOf]; omega
      · have H : Hid (mt ss b T0 0 a = none) := by
          show mt ss b T0 0 a = none
          rw [← HW.out.mts, HDA.out]
          exact mt_end (by rw [HLB.out]; omega)
        go_wp2
        go_ret
        exact BecPost.no H.out rfl HW.out.gr
    · obtain rfl : k = n1 := by omega
      have HMT : Hid (mt ss b T0 0 a = if b.length ≤ j then some T else none) := by
        show mt ss b T0 0 a = _
        rw [← HW.out.mts, List.drop_eq_nil_of_le (by rw [HLA.out]; omega), mt_nil]
      by_cases hjl : j = n2
      · subst hjl
        have H : Hid (mt ss b T0 0 a = some T) := by show mt ss b T0 0 a = _; rw [HMT.out, if_pos (by rw [HLB.out]; omega)]
        have g : ((j : Int) == (j : Int)) = true := by simp
        go_wp2
        go_ret
        exact BecPost.yes H.out rfl HW.out.st HW.out.gr
      · have H : Hid (mt ss b T0 0 a = none) := by show mt ss b T0 0 a = _; rw [HMT.out, if_neg (by rw [HLB.out]; omega)]
        have g : ((j : Int) == (n2 : Int)) = false := beq_eq_false_iff_ne.2 (by omega)
        go_wp2
        go_ret
        exact BecPost.no H.out rfl HW.out.gr

/-- What Become hands back. -/
def BecomePost (ss : List Sym) (a b : List Int) (w : World) (e : Ending) (w' : World) : Prop :=
  ∃ v, e = .returned (.tuple #[v, .bool (mtIs ss a b)]) ∧ OwnB w' w.heap.size v (mtB ss a b) ∧ Below w.heap.size w w'
theorem BecomePost.no {ss : List Sym} {a b : List Int} {w w' : World} {e : Ending} (h1 : mtIs ss a b = false) (he : e = .returned (.tuple #[.slice none 0 0, .bool false])) (hb : Below w.heap.size w w') : BecomePost ss a b w e w' :=
  ⟨_, by rw [h1]; exact he, by rw [mtB_no h1]; exact OwnB.nil_, hb⟩
theorem BecomePost.yes {ss : List Sym} {a b : List Int} {w w' : World} {e : Ending} {v : Value} {T : Nat → List Int} (h1 : mtO ss a b = some T) (he : e = .returned (.tuple #[v, .bool true])) (hv : OwnB w' w.heap.size v (bdsOf (stT T) 24)) (hb : Below w.heap.size w w') : BecomePost ss a b w e w' := by
  have h2 : mtIs ss a b = true := by unfold mtIs; rw [h1]; rfl
  exact ⟨v, by rw [h2]; exact he, by rw [mtB_yes h1]; exact hv, hb⟩

set_option maxHeartbeats 400000 in
theorem refBecome_any (A A1 A2 : Option Addr) (n c n1 c1 n2 c2 : Nat) (ss : List Sym) (a b : List Int) (w : World) (hs : SymsAt w w.heap.size A n ss) (hn : n ≤ maxLen) (ha : IntsAt w w.heap.size A1 n1 a) (hb : RowAt w w.heap.size A2 n2 c2 b) (hra : rowB ss a = true) (hrb : rowB ss b = true) :
    Calls Try.prog 50 #[.slice A n c, .slice A1 n1 c1, .slice A2 n2 c2] w (BecomePost ss a b w) := by
  have HS := Lib.hid hs
  have HA := Lib.hid ha
  have HB := Lib.hid hb
  have HRA := Lib.hid hra
  have HRB := Lib.hid hrb
  have HO : Hid (mtO ss a b = mt ss b noT 0 a) := by show mtO ss a b = _; unfold mtO; rw [hra, hrb]; rfl
  obtain ⟨w3, hw3⟩ : ∃ w3, w3 = w.alloc (.cells noneC 90) := ⟨_, rfl⟩
  obtain ⟨sb, hsb⟩ : ∃ sb, sb = w.heap.size := ⟨_, rfl⟩
  have hb3 : Below w.heap.size w w3 := by rw [hw3]; exact below_new w _
  have HST3 : Hid (StoreAt w3 w.heap.size sb noT) := by
    rw [hw3, hsb]
    exact StoreAt.empty w w.heap.size (Nat.le_refl _)
  have HB3 := Lib.hid hb3
  rw [noneC_lit] at hw3
  have HW3 := Lib.hid hw3
  have HSB := Lib.hid hsb
  have hsbw : w.heap.size ≤ sb := by omega
  clear hs ha hb hra hrb hw3 hsb hb3
  go_enter Try.func50, Try.ntmps50
  go_wp2_with fail
  rw [← HW3.out, ← HSB.out]
  refine (become_any A A1 A2 n c n1 c1 n2 c2 w.heap.size sb ss a b noT w3 HST3.out (HS.out.below HB3.out) hn (HA.out.below HB3.out) (HB.out.below HB3.out) HRA.out HRB.out).mono ?_
  rintro e w4 ⟨rfl, hst4, hg4⟩
  have HST := Lib.hid hst4
  have HB4 := Lib.hid (HB3.out.grown hg4 (by have := HB3.out.size; omega) (fun k hk => by injection hk with hk; omega))
  have hsz4 := HB4.out.size
  clear hst4 hg4
  cases hm : mt ss b noT 0 a with
  | none =>
    have H : Hid (mtIs ss a b = false) := by show mtIs ss a b = false; unfold mtIs; rw [HO.out, hm]; rfl
    rw [Option.isSome_none]
    clear hm
    go_wp2
    go_ret2
    exact BecomePost.no H.out rfl HB4.out
  | some T =>
    have HST4 := Lib.hid (HST.out T hm)
    have HOT : Hid (mtO ss a b = some T) := by show mtO ss a b = some T; rw [HO.out]; exact hm
    rw [Option.isSome_some]
    clear hm
    go_wp2
    go_loopw [9, 10] (fun q i wr => ∃ k : Nat, i = .int .i64 (k : Int) ∧ k ≤ 24 ∧ OwnB wr w4.heap.size q (bdsOf (stT T) k) ∧ Below w4.heap.size w4 wr) (fun _ i _ => 24 - (intOf i).toNat)
    case atStart => exact ⟨0, rfl, by omega, OwnB.nil_, Below.refl _ _⟩
    case round =>
      obtain ⟨k, rfl, hk, hown, hbw⟩ := hrel
      have HOWN := Lib.hid hown
      have HBW := Lib.hid hbw
      have hsz := hbw.size
      clear hown hbw
      by_cases hlt : k < 24
      · have HSTR := Lib.hid (HST4.out.on HBW.out)
        obtain ⟨A5, n5, c5, hc5, hr5⟩ := HSTR.out.cell (v := k) (by omega)
        have HR5 := Lib.hid hr5
        have HL5 := Lib.hid hr5.at_.len
        have h48 := hr5.few
        have HSUCC := Lib.hid (bdsOf_succ (stT T) k)
        have i0 : (0 : Int) ≤ (k : Int) := by omega
        have i1 : (k : Int) < 48 := by omega
        have i2 : (k : Int) ≤ 23 := by omega
        clear hr5
        by_cases hn5 : n5 = 0
        · subst hn5
          have HVT : Hid (isV (stT T k) k = true) := by show isV (stT T k) k = true; unfold stT; rw [if_pos (List.eq_nil_of_length_eq_zero HL5.out)]; exact isV_iff.2 rfl
          go_wp2
          go_roundw
          case rel => exact ⟨k + 1, by go_num, by omega, HOWN.out.cast (by rw [HSUCC.out, HVT.out]; simp), HBW.out⟩
          case measure => simp [intOf]; omega
        · have HTS : Hid (stT T k = T k) := by show stT T k = T k; unfold stT; rw [if_neg (fun e => hn5 (by rw [← HL5.out, e]; rfl))]
          have hn5' : (0 : Int) < (n5 : Int) := by omega
          obtain ⟨b5, o5, hA5, _, _⟩ := HR5.out.at_.at_ (by omega)
          subst hA5
          have hbn := below_new wr (.cells #[.int .i64 (-1 - (k : Int))] 3)
          have HBN := Lib.hid hbn
          have HLIT : Hid (IntsAt (wr.alloc (.cells #[.int .i64 (-1 - (k : Int))] 3)) (wr.alloc (.cells #[.int .i64 (-1 - (k : Int))] 3)).heap.size (some ⟨wr.heap.size, 0, none⟩) 1 [-1 - (k : Int)]) := IntsAt.news wr [-1 - (k : Int)]
          clear hn5 hbn
          cases hsv : isV (T k) k
          all_goals
            have HSV := hsv
            rw [← HTS.out] at HSV
            replace HSV := Lib.hid HSV
            unfold isV at hsv
            go_wp2_with fail
            refine (refSame_any _ _ n5 c5 1 1 w.heap.size _ (T k) [-1 - (k : Int)] _ (HR5.out.at_.below (HBN.out.mono (by omega))) HLIT.out (by unfold maxLen; omega) (by unfold maxLen; omega)).mono ?_
            rintro e w5 ⟨rfl, hb5⟩
            rw [hsv]
            have HB5 := Lib.hid ((HBW.out.trans (HBN.out.mono hsz)).trans (hb5.mono (by simp; omega)))
            have HO5 := Lib.hid ((HOWN.out.on HBN.out).on hb5)
            have HR6 := Lib.hid ((HR5.out.at_.below (HBN.out.mono (by omega))).below (hb5.mono (by simp; omega)))
            have hsz5 := HB5.out.size
            have hsblt := HSTR.out.lt
            have hc6 : w5.cell? ⟨sb, k, none⟩ = some (.slice (some ⟨b5, o5, none⟩) n5 c5) := by
              rw [hb5.cell (p := ⟨sb, k, none⟩) (by simp; omega), HBN.out.cell (p := ⟨sb, k, none⟩) hsblt]; exact hc5
            have hsblt5 : sb < w5.heap.size := by have := hb5.size; simp at this; omega
            clear hb5 hsv hc5
          · go_wp2_with (at_builtin
                         first
                         | (refine app_ints rfl (.tmp 46) (.tmp 52) rfl w5.heap.size _ [] rfl (OwnI.empty w5) _ n5 c5 w.heap.size (T k) rfl (fun h => by cases h) (HR6.out.below ((below_new w5 _).mono (by omega))) (by simp; omega) (by simp) ?_
                            intro v7 w7 hown7 hb7
                            have HO7 := Lib.hid (HO5.out.on ((below_new w5 (.cells #[] 3)).trans hb7))
                            have HV7 := Lib.hid ((hown7.lower (base' := w4.heap.size) (by omega)).cast (ys := stT T k) (by rw [HTS.out]; rfl))
                            have HB7 := Lib.hid (HB5.out.trans (((below_new w5 (.cells #[] 3)).trans hb7).mono hsz5))
                            have hsz7 := HB7.out.size
                            obtain ⟨A7, cap7, hv7e, _, _⟩ := hown7.intsAt
                            subst hv7e
                            clear hown7 hb7 hc6)
                         | (refine app_bind1 rfl (.tmp 44) (.tmp 55) rfl w4.heap.size _ _ (k : Int) (stT T k) _ rfl HO7.out HV7.out rfl (by have := bdsOf_len (stT T) k; omega) hsz7 ?_
                            intro v8 w8 hown8 hb8
                            have HO8 := Lib.hid hown8
                            have HB8 := Lib.hid (HB7.out.trans hb8)
                            clear hown8 hb8))
            go_roundw
            case rel => exact ⟨k + 1, by go_num, by omega, HO8.out.cast (by rw [HSUCC.out, HSV.out]; simp), HB8.out⟩
            case measure => simp [intOf]; omega
          · go_wp2
            go_roundw
            case rel => exact ⟨k + 1, by go_num, by omega, HO5.out.cast (by rw [HSUCC.out, HSV.out]; simp), HB5.out⟩
            case measure => simp [intOf]; omega
      · obtain rfl : k = 24 := by omega
        go_wp2
        go_ret2
        exact BecomePost.yes HOT.out rfl (HOWN.out.lower hsz4) (HB4.out.trans (HBW.out.mono hsz4))

/-- What the reference's Match hands back. -/
def RefMatPost (ss : List Sym) (a b : List Int) (w : World) (e : Ending) (w' : World) : Prop :=
  ∃ v, e = .returned (.tuple #[v, .bool (mtIs ss a b), .int .i64 (mtE ss a b)]) ∧ OwnB w' w.heap.size v (mtB ss a b) ∧ Below w.heap.size w w'
theorem RefMatPost.no {ss : List Sym} {a b : List Int} {w w' : World} {e : Ending} (h : (rowB ss a && rowB ss b) = false) (he : e = .returned (.tuple #[.slice none 0 0, .bool false, .int .i64 500])) (hb : Below w.heap.size w w') : RefMatPost ss a b w e w' := by
  obtain ⟨h1, h2, h3⟩ := mtE_bad h
  exact ⟨_, by rw [h1, h2]; exact he, by rw [h3]; exact OwnB.nil_, hb⟩

end Go.Proofs.Ythdpojokogiinaa
