/-
  Contracts of the reference: behind, Parts, depth, Deep.
-/
import Derived.Test.YtpblpndlajoebaaBaseTerm
namespace Go.Proofs.Ytpblpndlajoebaa
open Go.RowKit
set_option linter.unusedSimpArgs false
set_option linter.unusedVariables false

set_option maxHeartbeats 1000000 in
theorem refBehind_any (A A' : Option Addr) (n c m c' B B' at_ en : Nat) (ss : List Sym) (r : List Int) (w : World) (h : SymsAt w B A n ss) (hn : n ≤ maxLen) (hr : IntsAt w B' A' m r) (hm : m ≤ 17592186044416) (hmay : mayB ss = true) (hat : at_ ≤ m)
    (hen : scanAt ss (nrm r) 1 at_ = (en : Int)) :
    Calls Try.prog 92 #[.slice A n c, .slice A' m c', .int .i64 at_] w fun e w' => e = .returned (.int .i64 (en : Int)) ∧ w = w' := by
  unfold maxLen at hn
  have HM := Lib.hid hmay
  have HL := Lib.hid hr.len
  have HSL := Lib.hid h.len
  have HE := Lib.hid hen
  clear hmay hen
  go_enter Try.func92, Try.ntmps92
  go_wp2
  go_loop [7, 8] (fun q i => ∃ k j : Nat, q = .int .i64 k ∧ i = .int .i64 j ∧ j ≤ m ∧ k ≤ 3 * j + 1 ∧ scanAt ss (nrm r) k j = (en : Int)) (fun _ i => m + 1 - (intOf i).toNat)
  case atStart => exact ⟨1, at_, rfl, rfl, hat, by omega, HE.out⟩
  case round =>
    obtain ⟨k, j, rfl, rfl, hj, hk, hsc⟩ := hrel
    have HSC := Lib.hid hsc
    clear hsc
    by_cases hk0 : k = 0
    · subst hk0
      go_wp2
      go_ret
      exact ⟨ret_int (by rw [← HSC.out, scanAt_zero]), rfl⟩
    · obtain ⟨k, rfl⟩ : ∃ q, k = q + 1 := ⟨k - 1, by omega⟩
      clear hk0
      have hlt : j < m := by
        rcases Nat.lt_or_ge j m with h' | h'
        · exact h'
        · have := HSC.out
          rw [scanAt_end (by rw [nrm_length, HL.out]; exact h')] at this
          omega
      obtain ⟨b', off', rfl, _, hc'⟩ := hr.at_ (by omega)
      have hcx : w.cell? ⟨b', off' + j, none⟩ = some (.int .i64 (intAt r j)) := hc' j hlt
      have hlr : j < r.length := by rw [HL.out]; exact hlt
      have HX := Lib.hid (nrm_get hlr)
      have HLR : Hid (j < (nrm r).length) := by show j < (nrm r).length; rw [nrm_length]; exact hlr
      clear hlr hc'
      cases ha : arOf ss (vn (intAt r j))
      · exfalso
        have := HSC.out
        rw [scanAt_bad HLR.out HX.out ha] at this
        omega
      · rename_i a
        have H := Lib.hid (scanAt_step (k := k) HLR.out HX.out ha)
        by_cases hx : intAt r j < 0
        · have hv : vn (intAt r j) = -1 := by unfold vn; rw [if_pos hx]
          rw [hv] at ha
          obtain ⟨_, rfl⟩ := ar_var (by omega) ha
          have h4 : ¬ 0 ≤ intAt r j := by omega
          clear ha hv
          go_wp2
          go_round
          case rel => exact ⟨k, j + 1, by go_num, by go_num, by omega, by omega, by rw [← HSC.out, H.out]; rfl⟩
          case measure => simp [intOf]; omega
        · have hv : vn (intAt r j) = intAt r j := by unfold vn; rw [if_neg hx]
          rw [hv] at ha
          obtain ⟨h1, h2, h3, h4⟩ := ar_sym HM.out (by omega) ha
          obtain ⟨q, hq⟩ : ∃ q : Nat, intAt r j = (q : Int) := ⟨(intAt r j).toNat, by omega⟩
          rw [hq] at hcx h1 h2 h3 hx
          rw [Int.toNat_natCast] at h1 h2 h3
          rw [HSL.out] at h1
          obtain ⟨b, off, rfl, _, hc⟩ := h.at_ (by omega)
          obtain ⟨_, _, c2, _⟩ := hc q h1
          rw [h3] at c2
          clear ha hc h2 h3 hq hx hv
          go_wp2
          go_round
          case rel => exact ⟨k + a, j + 1, by go_num, by go_num, by omega, by omega, by rw [← HSC.out, H.out]⟩
          case measure => simp [intOf]; omega

theorem scan_part {ss : List Sym} {r : List Int} {ms : List (Nat × Nat)} (h : tl ss r = some ms) {q : Nat} (hq : q < ms.length) : scanAt ss r 1 (sumL (ms.take q)) = ((sumL (ms.take (q + 1)) : Nat) : Int) := by
  obtain ⟨h1, h2⟩ := tl_skip r h q (by omega)
  obtain ⟨m, _, _, hd, hs, _⟩ := part_of h hq
  unfold scanAt
  rw [scan_tl _ h1 1, if_pos (by simp; omega), hd]
  show ((sumL (ms.take q) + sumL [m] : Nat) : Int) = _
  rw [hs]; simp [sumL]

/-- The first p parts of a row that lies at an address, as slices. -/
def partsV (b off cap : Nat) (ms : List (Nat × Nat)) (p : Nat) : List Value :=
  (List.range p).map fun q => .slice (some ⟨b, off + sumL (ms.take q), none⟩) (sumL (ms.take (q + 1)) - sumL (ms.take q)) (cap - sumL (ms.take q))
theorem partsV_succ (b off cap : Nat) (ms : List (Nat × Nat)) (p : Nat) : partsV b off cap ms (p + 1) = partsV b off cap ms p ++ [.slice (some ⟨b, off + sumL (ms.take p), none⟩) (sumL (ms.take (p + 1)) - sumL (ms.take p)) (cap - sumL (ms.take p))] := by
  unfold partsV; rw [List.range_succ, List.map_append]; rfl
theorem partsV_length (b off cap : Nat) (ms : List (Nat × Nat)) (p : Nat) : (partsV b off cap ms p).length = p := by unfold partsV; simp
theorem partsV_get (b off cap : Nat) (ms : List (Nat × Nat)) (p q : Nat) (h : q < p) : (partsV b off cap ms p)[q]? = some (.slice (some ⟨b, off + sumL (ms.take q), none⟩) (sumL (ms.take (q + 1)) - sumL (ms.take q)) (cap - sumL (ms.take q))) := by
  unfold partsV; simp [h]
theorem rows_info : (Try.prog.info? 33).map (fun i => (i.zero, i.size, i.bytes)) = some (some (.slice none 0 0), 1, 24) := by kernel_rfl
/-- The value is a row of these values (rows of integers), in a block from base on (or nil). -/
def OwnR (w : World) (base : Nat) (v : Value) (xs : List Value) : Prop := w.ownsRow base 33 1 v xs.length xs
theorem OwnR.nil_ {w : World} {base : Nat} : OwnR w base (.slice none 0 0) [] := ⟨rfl, .inl ⟨rfl, rfl⟩⟩
theorem OwnR.lower {w : World} {base base' : Nat} {v : Value} {xs : List Value} (h : OwnR w base v xs) (hb : base' ≤ base) : OwnR w base' v xs := own_base h hb
theorem OwnR.cast {w : World} {base : Nat} {v : Value} {xs ys : List Value} (h : OwnR w base v xs) (e : xs = ys) : OwnR w base v ys := e ▸ h
theorem OwnR.shape {w : World} {base : Nat} {v : Value} {xs : List Value} (h : OwnR w base v xs) : (v = .slice none 0 0 ∧ xs = []) ∨ ∃ g cap, v = .slice (some ⟨g, 0, none⟩) xs.length cap ∧ base ≤ g ∧ g < w.heap.size ∧ xs.length ≤ cap := by
  rcases h.2 with ⟨h1, h2⟩ | ⟨g, cap, cur, hv, hg, hc, hn, _⟩
  · exact .inl ⟨h1, List.length_eq_zero_iff.1 h2⟩
  · exact .inr ⟨g, cap, hv, hg, (Array.getElem?_eq_some_iff.1 hc).1, hn⟩
/-- 'x = append(x, y)' of rows, x made by the call. -/
theorem app_row1 {w : World} {ops : Array Oper} {rest : List Oper} {o : Oper} {a : Act} {Q : Exit → Act → World → Prop} (hgd : o.guard = none) (s x : Operand)
    (ho : o.op = .call { callee := .builtin .append, args := #[s, x], argTypes := #[24, 24] })
    (base : Nat) (v : Value) (xs : List Value) (y : Value) (hs : a.eval s = v) (hown : OwnR w base v xs) (hx : a.eval x = .slice (some ⟨w.heap.size, 0, none⟩) 1 1) (hy : y.oneCell' = true)
    (hlen : xs.length + 1 ≤ 5000000000000) (hbase : base ≤ w.heap.size)
    (h : ∀ v' w', OwnR w' base v' (xs ++ [y]) → Below base w w' → wpList Try.prog ops Q rest (a.put o.dst v') w') : wpList Try.prog ops Q (o :: rest) a (w.alloc (.cells #[y] 33)) := by
  obtain ⟨i0, hi0, hz0, hz1, hz2⟩ := info_parts rows_info
  have hown' : OwnR (w.alloc (.cells #[y] 33)) base v xs := World.ownsRow.alloc hown _
  refine wpList_append_own _ hgd s x 24 ho base 33 i0 _ 1 24 Try.underlying24 hi0 hz0 hz1 hz2 rfl (by omega) v xs.length xs hs hown' ⟨w.heap.size, 0, none⟩ 1 1 [y] hx rfl
    (World.news_of_block (cs := #[y]) (t := 33) (fr := (0, 0)) (heap_alloc_new w _)) (by simpa using hy) (by unfold maxLen; omega) (by omega) (by simp; omega) ?_
  intro v' w' h1 h2 _
  refine h v' w' ?_ (below_un_new (o := .cells #[y] 33) ?_ hbase)
  · unfold OwnR; simpa using h1
  · exact (Below.refl base _).grown h2 (by simp; omega) (fun k hk => by
      rcases hown'.shape with ⟨rfl, _⟩ | ⟨g, cap, rfl, hg, _⟩
      · simp [Value.ownBlock] at hk
      · simp [Value.ownBlock] at hk; omega)
/-- The parts of a row, in a new row. -/
def PartsRet (b off cap : Nat) (ms : List (Nat × Nat)) (w : World) (e : Ending) (w' : World) : Prop :=
  ∃ v, e = .returned v ∧ OwnR w' w.heap.size v (partsV b off cap ms ms.length) ∧ Below w.heap.size w w'

set_option maxHeartbeats 1000000 in
theorem refParts_any (A : Option Addr) (b' off' n c m c' : Nat) (ss : List Sym) (r : List Int) (ms : List (Nat × Nat)) (w : World) (h : SymsAt w w.heap.size A n ss) (hn : n ≤ maxLen) (hr : IntsAt w w.heap.size (some ⟨b', off', none⟩) m r) (hm : m ≤ 1000000) (hmc : m ≤ c') (hmay : mayB ss = true)
    (ht : tl ss (nrm r) = some ms) :
    Calls Try.prog 65 #[.slice A n c, .slice (some ⟨b', off', none⟩) m c'] w (PartsRet b' off' c' ms w) := by
  have HS := Lib.hid h
  have HR := Lib.hid hr
  have HL := Lib.hid hr.len
  have HM := Lib.hid hmay
  have HT := Lib.hid ht
  have hml : ms.length ≤ m := by have := tl_len _ ht; rw [nrm_length, HL.out] at this; exact this
  have HA := Lib.hid (tl_all _ ht)
  clear h hr hmay ht
  go_enter Try.func65, Try.ntmps65
  go_wp2
  go_loopw [5, 6] (fun q i wr => ∃ p t : Nat, i = .int .i64 t ∧ p ≤ ms.length ∧ t = sumL (ms.take p) ∧ OwnR wr w.heap.size q (partsV b' off' c' ms p) ∧ Below w.heap.size w wr) (fun _ i _ => m - (intOf i).toNat)
  case atStart => exact ⟨0, 0, rfl, by omega, by simp [sumL], OwnR.nil_, Below.refl _ _⟩
  case round =>
    obtain ⟨p, t, rfl, hp, hte, hown, hbw⟩ := hrel
    have HTE := Lib.hid hte
    have HOWN := Lib.hid hown
    have HBW := Lib.hid hbw
    have hsz := hbw.size
    obtain ⟨u1, u2⟩ := tl_skip _ HT.out p hp
    rw [← hte, nrm_length, HL.out] at u2
    clear hte hown hbw u1
    by_cases hlt : t < m
    · have hpl : p < ms.length := by
        rcases Nat.lt_or_ge p ms.length with h' | h'
        · exact h'
        · have e : p = ms.length := by omega
          have := HTE.out
          rw [e, List.take_length, HA.out, nrm_length, HL.out] at this
          omega
      obtain ⟨en, hen⟩ : ∃ en, en = sumL (ms.take (p + 1)) := ⟨_, rfl⟩
      obtain ⟨mm, _, _, _, s1, s2, s3, _⟩ := part_of HT.out hpl
      rw [← hen] at s1
      rw [← HTE.out] at s1 s3
      rw [nrm_length, HL.out] at s3
      have hsc := scan_part HT.out hpl
      rw [← HTE.out, ← hen] at hsc
      have HEN := Lib.hid hen
      have HSC := Lib.hid hsc
      have hen1 : t < en := by omega
      have hen2 : en ≤ m := by omega
      clear hen hsc s1 s2 s3
      go_wp2_with fail
      refine (refBehind_any A _ n c m c' _ _ t en ss r _ (HS.out.on HBW.out) hn (HR.out.on HBW.out) (by omega) HM.out (by omega) HSC.out).mono ?_
      rintro e w2 ⟨rfl, rfl⟩
      have z0 : (0 : Int) ≤ (t : Int) := by omega
      have z1 : (t : Int) ≤ (en : Int) := by omega
      have z2 : (en : Int) ≤ (c' : Int) := by omega
      have z3 : ¬ c' = t := by omega
      go_wp2_with (at_builtin
                   refine app_row1 rfl (.tmp 16) (.tmp 21) rfl w.heap.size _ (partsV b' off' c' ms p) (.slice (some ⟨b', off' + t, none⟩) (en - t) (c' - t)) rfl HOWN.out rfl rfl (by rw [partsV_length]; omega) hsz ?_
                   intro v2 w2 hown2 hb2
                   have HOWN2 := Lib.hid hown2
                   have HB2 := Lib.hid hb2
                   clear hown2 hb2)
      go_roundw
      case rel => exact ⟨p + 1, en, rfl, by omega, HEN.out, HOWN2.out.cast (by rw [partsV_succ, ← HTE.out, ← HEN.out]), HBW.out.trans HB2.out⟩
      case measure => simp [intOf]; omega
    · have hpl : p = ms.length := by
        rcases Nat.lt_or_ge p ms.length with h' | h'
        · obtain ⟨mm, _, _, _, s1, s2, s3, _⟩ := part_of HT.out h'
          rw [← HTE.out, nrm_length, HL.out] at s3
          omega
        · omega
      have HPL := Lib.hid hpl
      clear hpl
      go_wp2
      go_ret
      exact ⟨_, rfl, HOWN.out.cast (by rw [HPL.out]), HBW.out⟩

end Go.Proofs.Ytpblpndlajoebaa
