/-
  Contracts: bind.replace, bind.Apply.
-/
import Derived.Test.YtlmpapdpmmkjnaaBindMay
namespace Go.Proofs.Ytlmpapdpmmkjnaa
open Go.RowKit Go.Deep
set_option linter.unusedSimpArgs false
set_option linter.unusedVariables false

/-- The row of terms by their variables, when the first k binds are in it. -/
structure Filled (w : World) (B : Nat) (bs : List Bd) (k : Nat) (f : Nat → Value) : Prop where
  in_ : ∀ j, j < k → ∃ A c, f (bdAt bs j).v.toNat = .slice A (bdAt bs j).t.length c ∧ IntsAt w B A (bdAt bs j).t.length (bdAt bs j).t
  out : ∀ i, (∀ j, j < k → (bdAt bs j).v.toNat ≠ i) → f i = .slice none 0 0
section
variable {ss : List Sym} {bs : List Bd} {w w' : World} {B k : Nat} {f : Nat → Value}
theorem Filled.zero : Filled w B bs 0 (fun _ => .slice none 0 0) := ⟨fun j hj => absurd hj (by omega), fun _ _ => rfl⟩
theorem Filled.step (h : Filled w B bs k f) (hv : bdsB ss 0 bs = true) (hk : k < bs.length) {A : Option Addr} {c : Nat} (hi : IntsAt w B A (bdAt bs k).t.length (bdAt bs k).t) :
    Filled w B bs (k + 1) (fun j => if j = (bdAt bs k).v.toNat then .slice A (bdAt bs k).t.length c else f j) := by
  refine ⟨fun j hj => ?_, fun i hi' => ?_⟩
  · by_cases e : j = k
    · subst e
      exact ⟨A, c, by simp, hi⟩
    · have h1 := bdsB_asc hv (i := j) (j := k) (by omega) hk
      have h2 := (bdsB_at hv (i := j) (by omega)).1
      have h3 := (bdsB_at hv (i := k) hk).1
      have ne : (bdAt bs j).v.toNat ≠ (bdAt bs k).v.toNat := by omega
      obtain ⟨A', c', q1, q2⟩ := h.in_ j (by omega)
      exact ⟨A', c', by simp only [if_neg ne]; exact q1, q2⟩
  · have := hi' k (by omega)
    rw [if_neg (fun e => this e.symm)]
    exact h.out i fun j hj => hi' j (by omega)
theorem Filled.keep (h : Filled w B bs k f) (hb : Below B w w') : Filled w' B bs k f :=
  ⟨fun j hj => by obtain ⟨A, c, q1, q2⟩ := h.in_ j hj; exact ⟨A, c, q1, q2.below hb⟩, h.out⟩
theorem Filled.look (h : Filled w B bs bs.length f) (hv : bdsB ss 0 bs = true) (i : Nat) :
    (∃ t b off c, ofB bs (i : Int) = some t ∧ 0 < t.length ∧ t.length ≤ 48 ∧ f i = .slice (some ⟨b, off, none⟩) t.length c ∧ IntsAt w B (some ⟨b, off, none⟩) t.length t) ∨ (ofB bs (i : Int) = none ∧ f i = .slice none 0 0) := by
  by_cases e : ∃ j, j < bs.length ∧ (bdAt bs j).v.toNat = i
  · obtain ⟨j, hj, rfl⟩ := e
    obtain ⟨A, c, q1, q2⟩ := h.in_ j hj
    obtain ⟨h1, _, h3, _⟩ := bdsB_at hv hj
    obtain ⟨_, _, l1, l2⟩ := one_parts h3
    obtain ⟨b, off, rfl, _⟩ := q2.at_ l1
    refine .inl ⟨_, b, off, c, ?_, l1, l2, q1, q2⟩
    have : ((bdAt bs j).v.toNat : Int) = (bdAt bs j).v := by omega
    rw [this]
    exact ofB_at hv hj
  · refine .inr ⟨ofB_none_of fun b hb he => ?_, h.out i fun j hj he => e ⟨j, hj, he⟩⟩
    obtain ⟨j, hj, rfl⟩ := List.mem_iff_getElem.1 hb
    have : bdAt bs j = bs[j] := by unfold bdAt; rw [List.getD_eq_getElem?_getD, List.getElem?_eq_getElem hj]; rfl
    exact e ⟨j, hj, by rw [this]; omega⟩
end
/-- What 'replace' hands back. -/
def putOk (bs : List Bd) (r : List Int) : Bool := decide ((put bs r).length ≤ 48)
def putR (bs : List Bd) (r : List Int) : List Int := if putOk bs r then put bs r else []
def PutPost (bs : List Bd) (r : List Int) (w : World) (e : Ending) (w' : World) : Prop :=
  ∃ v, e = .returned (.tuple #[v, .bool (putOk bs r)]) ∧ OwnI w' w.heap.size v (putR bs r) ∧ Below w.heap.size w w'
theorem ret_vb {v : Value} {a b : Bool} (h : a = b) : Ending.returned (.tuple #[v, .bool a]) = .returned (.tuple #[v, .bool b]) := by rw [h]
theorem put_take_le {bs : List Bd} {r : List Int} {k : Nat} : (put bs (r.take k)).length ≤ (put bs r).length := by
  have : put bs r = put bs (r.take k) ++ put bs (r.drop k) := by rw [← put_append, List.take_append_drop]
  rw [this]; simp

theorem BAD {bs : List Bd} {r : List Int} {j L : Nat} (h : L = (put bs (r.take j)).length) (hL : 48 < L) : putOk bs r = false := by
  have := put_take_le (bs := bs) (r := r) (k := j)
  unfold putOk
  exact decide_eq_false (by omega)
theorem badR {bs : List Bd} {r : List Int} {j L : Nat} (h : L = (put bs (r.take j)).length) (hL : 48 < L) : putR bs r = [] := by
  unfold putR; rw [BAD h hL]; rfl
theorem rows24 (w : World) : (w.alloc (.cells #[.slice none 0 0, .slice none 0 0, .slice none 0 0, .slice none 0 0, .slice none 0 0, .slice none 0 0, .slice none 0 0, .slice none 0 0, .slice none 0 0, .slice none 0 0, .slice none 0 0, .slice none 0 0, .slice none 0 0, .slice none 0 0, .slice none 0 0, .slice none 0 0, .slice none 0 0, .slice none 0 0, .slice none 0 0, .slice none 0 0, .slice none 0 0, .slice none 0 0, .slice none 0 0, .slice none 0 0] 45)).rowIs w.heap.size 45 24 (fun _ => .slice none 0 0) := by
  refine World.rowIs_alloc w _ 45 _ fun i hi => ?_
  have e : (#[.slice none 0 0, .slice none 0 0, .slice none 0 0, .slice none 0 0, .slice none 0 0, .slice none 0 0, .slice none 0 0, .slice none 0 0, .slice none 0 0, .slice none 0 0, .slice none 0 0, .slice none 0 0, .slice none 0 0, .slice none 0 0, .slice none 0 0, .slice none 0 0, .slice none 0 0, .slice none 0 0, .slice none 0 0, .slice none 0 0, .slice none 0 0, .slice none 0 0, .slice none 0 0, .slice none 0 0] : Array Value) = Array.replicate 24 (.slice none 0 0) := rfl
  rw [e] at hi ⊢
  simp at hi
  simp [hi]
set_option maxHeartbeats 2000000 in
theorem replace_any (A A' : Option Addr) (n c m c' : Nat) (ss : List Sym) (bs : List Bd) (r : List Int) (w : World) (h : BindsAt w w.heap.size A n bs) (hn : n ≤ 4398046511104) (hv : bdsB ss 0 bs = true) (hr : IntsAt w w.heap.size A' m r) (hm : m ≤ 48) (h24 : ∀ i, i < m → -24 ≤ intAt r i) :
    Calls Try.prog 31 #[.slice A n c, .slice A' m c'] w (PutPost bs r w) := by
  have HS := Lib.hid h
  have HR := Lib.hid hr
  have HL := Lib.hid hr.len
  have HLB := Lib.hid h.len
  have HV := Lib.hid hv
  have H24 := Lib.hid h24
  have HROW : Hid ((w.alloc (.cells #[.slice none 0 0, .slice none 0 0, .slice none 0 0, .slice none 0 0, .slice none 0 0, .slice none 0 0, .slice none 0 0, .slice none 0 0, .slice none 0 0, .slice none 0 0, .slice none 0 0, .slice none 0 0, .slice none 0 0, .slice none 0 0, .slice none 0 0, .slice none 0 0, .slice none 0 0, .slice none 0 0, .slice none 0 0, .slice none 0 0, .slice none 0 0, .slice none 0 0, .slice none 0 0, .slice none 0 0] 45)).rowIs w.heap.size 45 24 (fun _ => .slice none 0 0)) :=
    rows24 w
  clear h hr hv h24
  go_enter Try.func31, Try.ntmps31
  go_wp2
  go_loopw [14] (fun i wr => ∃ (k : Nat) (f : Nat → Value), i = .int .i64 k ∧ k ≤ n ∧ wr.rowIs w.heap.size 45 24 f ∧ Filled w w.heap.size bs k f ∧ Below w.heap.size w wr) (fun i _ => n - (intOf i).toNat)
  case atStart => exact ⟨0, _, rfl, by omega, HROW.out, Filled.zero, below_new _ _⟩
  case round =>
    clear HROW
    obtain ⟨k, f, rfl, hk, hrow, hfil, hbw⟩ := hrel
    have HBW := Lib.hid hbw
    have HROW := Lib.hid hrow
    have HFIL := Lib.hid hfil
    clear hbw hrow hfil
    by_cases hlt : k < n
    · have hkl : k < bs.length := by rw [HLB.out]; exact hlt
      obtain ⟨b, off, rfl, hb, hc⟩ := HS.out.at_ (by omega)
      obtain ⟨c0, A2, c2, c1, hc2, hi2⟩ := hc k hlt
      rw [← HBW.out.cell (p := ⟨b, _, none⟩) hb] at c0 c1
      have HF2 := Lib.hid (HFIL.out.step HV.out hkl (c := c2) hi2)
      obtain ⟨hv0, hv1, _, _⟩ := bdsB_at HV.out hkl
      obtain ⟨v, hv⟩ : ∃ v : Nat, (bdAt bs k).v = (v : Int) := ⟨(bdAt bs k).v.toNat, by omega⟩
      rw [hv] at c0 hv1 HF2
      rw [Int.toNat_natCast] at HF2
      have hcA : ∀ o, (wr.alloc o).cell? ⟨w.heap.size, v, none⟩ = some (f v) := fun o => (HROW.out.alloc o).cell (by omega)
      have hfA : ∀ o, (wr.alloc o).frozen? ⟨w.heap.size, v, none⟩ = false := fun o => (HROW.out.alloc o).frozen v
      clear hc hi2 hv0 hv
      have hi0 : (0 : Int) ≤ (k : Int) := by omega
      have hi3 : (k : Int) < (n : Int) := by omega
      have hj0 : (0 : Int) ≤ (v : Int) := by omega
      have hj1 : (v : Int) < 24 := by omega
      go_wp2
      go_roundw
      case rel => exact ⟨k + 1, _, by go_num, by omega, (HROW.out.alloc _).set v _, HF2.out, ((HBW.out.trans ((below_new _ _).mono HBW.out.size))).setCell (Nat.le_refl _) _⟩
      case measure => simp [intOf]; omega
    · obtain rfl : k = n := by omega
      obtain ⟨wA, hwA⟩ : ∃ wA, wA = wr := ⟨_, rfl⟩
      subst hwA
      have hsz := HBW.out.size
      have hgl := HROW.out.lt
      rw [← HLB.out] at HFIL
      go_wp2
      go_loopw [9, 26] (fun q i wr => ∃ j : Nat, i = .int .i64 j ∧ j ≤ m ∧ OwnI wr (w.heap.size + 1) q (put bs (r.take j)) ∧ (put bs (r.take j)).length ≤ 48 ∧ Below (w.heap.size + 1) wA wr) (fun _ i _ => m - (intOf i).toNat)
      case atStart => exact ⟨0, rfl, by omega, OwnI.nil_, by simp [put], Below.refl _ _⟩
      case round =>
        obtain ⟨j, rfl, hj, hown, h48, hbr⟩ := hrel
        have HOWN := Lib.hid hown
        have H48 := Lib.hid h48
        have HBR := Lib.hid hbr
        have hgr := hbr.size
        have HROW2 := Lib.hid (HROW.out.of_block (hbr.block w.heap.size (by omega)))
        clear hown h48 hbr
        by_cases hjm : j < m
        · have hjl : j < r.length := by rw [HL.out]; exact hjm
          have HPT := Lib.hid (put_take (bs := bs) hjl)
          obtain ⟨b', off', rfl, hb', hc'⟩ := HR.out.at_ (by omega)
          have hcx : wr.cell? ⟨b', off' + j, none⟩ = some (.int .i64 (intAt r j)) := by
            rw [HBR.out.cell (p := ⟨b', _, none⟩) (by show b' < _; omega), HBW.out.cell (p := ⟨b', _, none⟩) hb']; exact hc' j hjm
          have h24 := H24.out j hjm
          obtain ⟨x, hx⟩ : ∃ x, x = intAt r j := ⟨_, rfl⟩
          rw [← hx] at hcx h24 HPT
          clear hc' hjl hx
          have hi0 : (0 : Int) ≤ (j : Int) := by omega
          have hi3 : (j : Int) < (m : Int) := by omega
          by_cases hx0 : x < 0
          · obtain ⟨v, rfl⟩ : ∃ v : Nat, x = -1 - (v : Int) := ⟨(-1 - x).toNat, by omega⟩
            have hcell := HROW2.out.cell (i := v) (by omega)
            have hj0 : (0 : Int) ≤ (v : Int) := by omega
            have hj1 : (v : Int) < 24 := by omega
            have hxv : -1 - (-1 - (v : Int)) = (v : Int) := by omega
            rcases HFIL.out.look HV.out v with ⟨t, b3, o3, c3, q1, q2, q3, q4, q5⟩ | ⟨q1, q4⟩
            · rw [q4] at hcell
              have HP1 : Hid (put1 bs (-1 - (v : Int)) = t) := put1_var (by omega) (by rw [hxv]; exact q1)
              have HI3 := Lib.hid (q5.below (HBW.out.trans (HBR.out.mono (by omega))))
              clear q1 q4 q5
              go_wp2_with (at_builtin
                           refine app_ints rfl (.tmp 39) (.tmp 43) rfl (w.heap.size + 1) _ (put bs (r.take j)) rfl HOWN.out (some ⟨b3, o3, none⟩) t.length c3 w.heap.size t rfl (fun h => by cases h) HI3.out (by have := H48.out; omega) (by omega) ?_
                           intro v2 w2 hown2 hb2
                           obtain ⟨A4, cap4, rfl, _, _⟩ := hown2.intsAt
                           have HO2 := Lib.hid (hown2.cast (ys := put bs (r.take (j + 1))) (by rw [HPT.out, HP1.out]))
                           have HB2 := Lib.hid hb2
                           obtain ⟨L, hL⟩ : ∃ L, L = (put bs (r.take j) ++ t).length := ⟨_, rfl⟩
                           have HLL : Hid (L = (put bs (r.take (j + 1))).length) := by show L = _; rw [hL, HPT.out, HP1.out]
                           have hL2 : L ≤ 96 := by rw [hL, List.length_append]; have := H48.out; simp; omega
                           rw [← hL] at HO2 ⊢
                           clear hown2 hb2 hL)
              · rename_i hover
                go_ret2
                exact ⟨_, ret_vb (BAD HLL.out (by omega)).symm, OwnI.nil_.cast (badR HLL.out (by omega)).symm, (HBW.out.trans (HBR.out.mono (by omega))).trans (HB2.out.mono (by omega))⟩
              · rename_i hover
                go_roundw
                case rel => exact ⟨j + 1, by go_num, by omega, HO2.out, by rw [← HLL.out]; omega, HBR.out.trans HB2.out⟩
                case measure => simp [intOf]; omega
            · have HP1 : Hid (put1 bs (-1 - (v : Int)) = [-1 - (v : Int)]) := put1_free (by rw [hxv]; exact q1)
              rw [q4] at hcell
              clear q1 q4
              go_wp2_with (at_builtin
                           refine app_int1 rfl (.tmp 45) (.tmp 47) rfl (w.heap.size + 1) _ (put bs (r.take j)) (-1 - (v : Int)) rfl HOWN.out rfl (by have := H48.out; omega) (by omega) ?_
                           intro v2 w2 hown2 hb2
                           obtain ⟨A4, cap4, rfl, _, _⟩ := hown2.intsAt
                           have HO2 := Lib.hid (hown2.cast (ys := put bs (r.take (j + 1))) (by rw [HPT.out, HP1.out]))
                           have HB2 := Lib.hid hb2
                           obtain ⟨L, hL⟩ : ∃ L, L = (put bs (r.take j) ++ [-1 - (v : Int)]).length := ⟨_, rfl⟩
                           have HLL : Hid (L = (put bs (r.take (j + 1))).length) := by show L = _; rw [hL, HPT.out, HP1.out]
                           have hL2 : L ≤ 96 := by rw [hL, List.length_append]; have := H48.out; simp; omega
                           rw [← hL] at HO2 ⊢
                           clear hown2 hb2 hL)
              · rename_i hover
                go_ret2
                exact ⟨_, ret_vb (BAD HLL.out (by omega)).symm, OwnI.nil_.cast (badR HLL.out (by omega)).symm, (HBW.out.trans (HBR.out.mono (by omega))).trans (HB2.out.mono (by omega))⟩
              · rename_i hover
                go_roundw
                case rel => exact ⟨j + 1, by go_num, by omega, HO2.out, by rw [← HLL.out]; omega, HBR.out.trans HB2.out⟩
                case measure => simp [intOf]; omega
          · have HP1 : Hid (put1 bs x = [x]) := put1_sym hx0
            go_wp2_with (at_builtin
                         refine app_int1 rfl (.tmp 45) (.tmp 47) rfl (w.heap.size + 1) _ (put bs (r.take j)) x rfl HOWN.out rfl (by have := H48.out; omega) (by omega) ?_
                         intro v2 w2 hown2 hb2
                         obtain ⟨A4, cap4, rfl, _, _⟩ := hown2.intsAt
                         have HO2 := Lib.hid (hown2.cast (ys := put bs (r.take (j + 1))) (by rw [HPT.out, HP1.out]))
                         have HB2 := Lib.hid hb2
                         obtain ⟨L, hL⟩ : ∃ L, L = (put bs (r.take j) ++ [x]).length := ⟨_, rfl⟩
                         have HLL : Hid (L = (put bs (r.take (j + 1))).length) := by show L = _; rw [hL, HPT.out, HP1.out]
                         have hL2 : L ≤ 96 := by rw [hL, List.length_append]; have := H48.out; simp; omega
                         rw [← hL] at HO2 ⊢
                         clear hown2 hb2 hL)
            · rename_i hover
              go_ret2
              exact ⟨_, ret_vb (BAD HLL.out (by omega)).symm, OwnI.nil_.cast (badR HLL.out (by omega)).symm, (HBW.out.trans (HBR.out.mono (by omega))).trans (HB2.out.mono (by omega))⟩
            · rename_i hover
              go_roundw
              case rel => exact ⟨j + 1, by go_num, by omega, HO2.out, by rw [← HLL.out]; omega, HBR.out.trans HB2.out⟩
              case measure => simp [intOf]; omega
        · obtain rfl : j = m := by omega
          have HE : Hid (put bs (r.take j) = put bs r) := by show put bs (r.take j) = put bs r; rw [List.take_of_length_le (by rw [HL.out]; omega)]
          have HOK : Hid (putOk bs r = true) := by show putOk bs r = true; unfold putOk; rw [← HE.out]; exact decide_eq_true H48.out
          have HRR : Hid (putR bs r = put bs r) := by show putR bs r = put bs r; unfold putR; rw [HOK.out]; rfl
          go_wp2
          go_ret2
          exact ⟨_, ret_vb HOK.out.symm, (HOWN.out.lower (by omega)).cast (by rw [HRR.out, HE.out]), HBW.out.trans (HBR.out.mono (by omega))⟩

end Go.Proofs.Ytlmpapdpmmkjnaa
