/-
  Contracts of the reference: behind, Parts, depth, Deep.
  Words for memory: a row of rows; contract of the reference: Parts, by rows.
-/
import Derived.Test.YtlpafnaokpjoiaaBaseTerm
import Derived.Test.YtlpafnaokpjoiaaShape
namespace Go.Proofs.Ytlpafnaokpjoiaa
open Go.RowKit
set_option linter.unusedSimpArgs false
set_option linter.unusedVariables false

set_option maxHeartbeats 1000000 in
theorem refBehind_any (A A' : Option Addr) (n c m c' B B' at_ en : Nat) (ss : List Sym) (r : List Int) (w : World) (h : SymsAt w B A n ss) (hn : n ≤ maxLen) (hr : IntsAt w B' A' m r) (hm : m ≤ 17592186044416) (hmay : mayB ss = true) (hat : at_ ≤ m)
    (hen : scanAt ss (nrm r) 1 at_ = (en : Int)) :
    Calls Try.prog 55 #[.slice A n c, .slice A' m c', .int .i64 at_] w fun e w' => e = .returned (.int .i64 (en : Int)) ∧ w = w' := by
  unfold maxLen at hn
  have HM := Lib.hid hmay
  have HL := Lib.hid hr.len
  have HSL := Lib.hid h.len
  have HE := Lib.hid hen
  clear hmay hen
  go_enter Try.func55, Try.ntmps55
  go_wp2
  go_loop [7, 8] (fun q i => ∃ k j : Nat, q = .int .i64 k ∧ i = .int .i64 j ∧ j ≤ m ∧ k ≤ 3 * j + 1 ∧ scanAt ss (nrm r) k j = (en : Int)) (fun _ i => m + 1 - (intOf i).toNat)
  case atStart => exact ⟨1, at_, rfl, rfl, hat, by omega, HE.out⟩
  case round =>
    obtain ⟨k, j, rfl, rfl, hj, hk, hsc⟩ := hrel
    have HSC := Lib.hid hsc
    clear hsc
    by_cases hk0 : k = 0
    · subst hk0
      go_wp2
      go_ret
      exact ⟨ret_int (by rw [← HSC.out, scanAt_zero]), rfl⟩
    · obtain ⟨k, rfl⟩ : ∃ q, k = q + 1 := ⟨k - 1, by omega⟩
      clear hk0
      have hlt : j < m := by
        rcases Nat.lt_or_ge j m with h' | h'
        · exact h'
        · have := HSC.out
          rw [scanAt_end (by rw [nrm_length, HL.out]; exact h')] at this
          omega
      obtain ⟨b', off', rfl, _, hc'⟩ := hr.at_ (by omega)
      have hcx : w.cell? ⟨b', off' + j, none⟩ = some (.int .i64 (intAt r j)) := hc' j hlt
      have hlr : j < r.length := by rw [HL.out]; exact hlt
      have HX := Lib.hid (nrm_get hlr)
      have HLR : Hid (j < (nrm r).length) := by show j < (nrm r).length; rw [nrm_length]; exact hlr
      clear hlr hc'
      cases ha : arOf ss (vn (intAt r j))
      · exfalso
        have := HSC.out
        rw [scanAt_bad HLR.out HX.out ha] at this
        omega
      · rename_i a
        have H := Lib.hid (scanAt_step (k := k) HLR.out HX.out ha)
        by_cases hx : intAt r j < 0
        · have hv : vn (intAt r j) = -1 := by unfold vn; rw [if_pos hx]
          rw [hv] at ha
          obtain ⟨_, rfl⟩ := ar_var (by omega) ha
          have h4 : ¬ 0 ≤ intAt r j := by omega
          clear ha hv
          go_wp2
          go_round
          case rel => exact ⟨k, j + 1, by go_num, by go_num, by omega, by omega, by rw [← HSC.out, H.out]; rfl⟩
          case measure => simp [intOf]; omega
        · have hv : vn (intAt r j) = intAt r j := by unfold vn; rw [if_neg hx]
          rw [hv] at ha
          obtain ⟨h1, h2, h3, h4⟩ := ar_sym HM.out (by omega) ha
          obtain ⟨q, hq⟩ : ∃ q : Nat, intAt r j = (q : Int) := ⟨(intAt r j).toNat, by omega⟩
          rw [hq] at hcx h1 h2 h3 hx
          rw [Int.toNat_natCast] at h1 h2 h3
          rw [HSL.out] at h1
          obtain ⟨b, off, rfl, _, hc⟩ := h.at_ (by omega)
          obtain ⟨_, _, c2, _⟩ := hc q h1
          rw [h3] at c2
          clear ha hc h2 h3 hq hx hv
          go_wp2
          go_round
          case rel => exact ⟨k + a, j + 1, by go_num, by go_num, by omega, by omega, by rw [← HSC.out, H.out]⟩
          case measure => simp [intOf]; omega

theorem scan_part {ss : List Sym} {r : List Int} {ms : List (Nat × Nat)} (h : tl ss r = some ms) {q : Nat} (hq : q < ms.length) : scanAt ss r 1 (sumL (ms.take q)) = ((sumL (ms.take (q + 1)) : Nat) : Int) := by
  obtain ⟨h1, h2⟩ := tl_skip r h q (by omega)
  obtain ⟨m, _, _, hd, hs, _⟩ := part_of h hq
  unfold scanAt
  rw [scan_tl _ h1 1, if_pos (by simp; omega), hd]
  show ((sumL (ms.take q) + sumL [m] : Nat) : Int) = _
  rw [hs]; simp [sumL]

/-- The first p parts of a row that lies at an address, as slices. -/
def partsV (b off cap : Nat) (ms : List (Nat × Nat)) (p : Nat) : List Value :=
  (List.range p).map fun q => .slice (some ⟨b, off + sumL (ms.take q), none⟩) (sumL (ms.take (q + 1)) - sumL (ms.take q)) (cap - sumL (ms.take q))
theorem partsV_succ (b off cap : Nat) (ms : List (Nat × Nat)) (p : Nat) : partsV b off cap ms (p + 1) = partsV b off cap ms p ++ [.slice (some ⟨b, off + sumL (ms.take p), none⟩) (sumL (ms.take (p + 1)) - sumL (ms.take p)) (cap - sumL (ms.take p))] := by
  unfold partsV; rw [List.range_succ, List.map_append]; rfl
theorem partsV_length (b off cap : Nat) (ms : List (Nat × Nat)) (p : Nat) : (partsV b off cap ms p).length = p := by unfold partsV; simp
theorem partsV_get (b off cap : Nat) (ms : List (Nat × Nat)) (p q : Nat) (h : q < p) : (partsV b off cap ms p)[q]? = some (.slice (some ⟨b, off + sumL (ms.take q), none⟩) (sumL (ms.take (q + 1)) - sumL (ms.take q)) (cap - sumL (ms.take q))) := by
  unfold partsV; simp [h]
theorem rows_info : (Try.prog.info? 23).map (fun i => (i.zero, i.size, i.bytes)) = some (some (.slice none 0 0), 1, 24) := by kernel_rfl
/-- The value is a row of these values (rows of integers), in a block from base on (or nil). -/
def OwnR (w : World) (base : Nat) (v : Value) (xs : List Value) : Prop := w.ownsRow base 23 1 v xs.length xs
theorem OwnR.nil_ {w : World} {base : Nat} : OwnR w base (.slice none 0 0) [] := ⟨rfl, .inl ⟨rfl, rfl⟩⟩
theorem OwnR.lower {w : World} {base base' : Nat} {v : Value} {xs : List Value} (h : OwnR w base v xs) (hb : base' ≤ base) : OwnR w base' v xs := own_base h hb
theorem OwnR.cast {w : World} {base : Nat} {v : Value} {xs ys : List Value} (h : OwnR w base v xs) (e : xs = ys) : OwnR w base v ys := e ▸ h
theorem OwnR.shape {w : World} {base : Nat} {v : Value} {xs : List Value} (h : OwnR w base v xs) : (v = .slice none 0 0 ∧ xs = []) ∨ ∃ g cap, v = .slice (some ⟨g, 0, none⟩) xs.length cap ∧ base ≤ g ∧ g < w.heap.size ∧ xs.length ≤ cap := by
  rcases h.2 with ⟨h1, h2⟩ | ⟨g, cap, cur, hv, hg, hc, hn, _⟩
  · exact .inl ⟨h1, List.length_eq_zero_iff.1 h2⟩
  · exact .inr ⟨g, cap, hv, hg, (Array.getElem?_eq_some_iff.1 hc).1, hn⟩
/-- 'x = append(x, y)' of rows, x made by the call. -/
theorem app_row1 {w : World} {ops : Array Oper} {rest : List Oper} {o : Oper} {a : Act} {Q : Exit → Act → World → Prop} (hgd : o.guard = none) (s x : Operand)
    (ho : o.op = .call { callee := .builtin .append, args := #[s, x], argTypes := #[75, 75] })
    (base : Nat) (v : Value) (xs : List Value) (y : Value) (hs : a.eval s = v) (hown : OwnR w base v xs) (hx : a.eval x = .slice (some ⟨w.heap.size, 0, none⟩) 1 1) (hy : y.oneCell' = true)
    (hlen : xs.length + 1 ≤ 5000000000000) (hbase : base ≤ w.heap.size)
    (h : ∀ v' w', OwnR w' base v' (xs ++ [y]) → Below base w w' → wpList Try.prog ops Q rest (a.put o.dst v') w') : wpList Try.prog ops Q (o :: rest) a (w.alloc (.cells #[y] 23)) := by
  obtain ⟨i0, hi0, hz0, hz1, hz2⟩ := info_parts rows_info
  have hown' : OwnR (w.alloc (.cells #[y] 23)) base v xs := World.ownsRow.alloc hown _
  refine wpList_append_own _ hgd s x 75 ho base 23 i0 _ 1 24 Try.underlying75 hi0 hz0 hz1 hz2 rfl (by omega) v xs.length xs hs hown' ⟨w.heap.size, 0, none⟩ 1 1 [y] hx rfl
    (World.news_of_block (cs := #[y]) (t := 23) (fr := (0, 0)) (heap_alloc_new w _)) (by simpa using hy) (by unfold maxLen; omega) (by omega) (by simp; omega) ?_
  intro v' w' h1 h2 _
  refine h v' w' ?_ (below_un_new (o := .cells #[y] 23) ?_ hbase)
  · unfold OwnR; simpa using h1
  · exact (Below.refl base _).grown h2 (by simp; omega) (fun k hk => by
      rcases hown'.shape with ⟨rfl, _⟩ | ⟨g, cap, rfl, hg, _⟩
      · simp [Value.ownBlock] at hk
      · simp [Value.ownBlock] at hk; omega)
/-- The parts of a row, in a new row. -/
def PartsRet (b off cap : Nat) (ms : List (Nat × Nat)) (w : World) (e : Ending) (w' : World) : Prop :=
  ∃ v, e = .returned v ∧ OwnR w' w.heap.size v (partsV b off cap ms ms.length) ∧ Below w.heap.size w w'

set_option maxHeartbeats 1000000 in
theorem refParts_any (A : Option Addr) (b' off' n c m c' : Nat) (ss : List Sym) (r : List Int) (ms : List (Nat × Nat)) (w : World) (h : SymsAt w w.heap.size A n ss) (hn : n ≤ maxLen) (hr : IntsAt w w.heap.size (some ⟨b', off', none⟩) m r) (hm : m ≤ 1000000) (hmc : m ≤ c') (hmay : mayB ss = true)
    (ht : tl ss (nrm r) = some ms) :
    Calls Try.prog 41 #[.slice A n c, .slice (some ⟨b', off', none⟩) m c'] w (PartsRet b' off' c' ms w) := by
  have HS := Lib.hid h
  have HR := Lib.hid hr
  have HL := Lib.hid hr.len
  have HM := Lib.hid hmay
  have HT := Lib.hid ht
  have hml : ms.length ≤ m := by have := tl_len _ ht; rw [nrm_length, HL.out] at this; exact this
  have HA := Lib.hid (tl_all _ ht)
  clear h hr hmay ht
  go_enter Try.func41, Try.ntmps41
  go_wp2
  go_loopw [5, 6] (fun q i wr => ∃ p t : Nat, i = .int .i64 t ∧ p ≤ ms.length ∧ t = sumL (ms.take p) ∧ OwnR wr w.heap.size q (partsV b' off' c' ms p) ∧ Below w.heap.size w wr) (fun _ i _ => m - (intOf i).toNat)
  case atStart => exact ⟨0, 0, rfl, by omega, by simp [sumL], OwnR.nil_, Below.refl _ _⟩
  case round =>
    obtain ⟨p, t, rfl, hp, hte, hown, hbw⟩ := hrel
    have HTE := Lib.hid hte
    have HOWN := Lib.hid hown
    have HBW := Lib.hid hbw
    have hsz := hbw.size
    obtain ⟨u1, u2⟩ := tl_skip _ HT.out p hp
    rw [← hte, nrm_length, HL.out] at u2
    clear hte hown hbw u1
    by_cases hlt : t < m
    · have hpl : p < ms.length := by
        rcases Nat.lt_or_ge p ms.length with h' | h'
        · exact h'
        · have e : p = ms.length := by omega
          have := HTE.out
          rw [e, List.take_length, HA.out, nrm_length, HL.out] at this
          omega
      obtain ⟨en, hen⟩ : ∃ en, en = sumL (ms.take (p + 1)) := ⟨_, rfl⟩
      obtain ⟨mm, _, _, _, s1, s2, s3, _⟩ := part_of HT.out hpl
      rw [← hen] at s1
      rw [← HTE.out] at s1 s3
      rw [nrm_length, HL.out] at s3
      have hsc := scan_part HT.out hpl
      rw [← HTE.out, ← hen] at hsc
      have HEN := Lib.hid hen
      have HSC := Lib.hid hsc
      have hen1 : t < en := by omega
      have hen2 : en ≤ m := by omega
      clear hen hsc s1 s2 s3
      go_wp2_with fail
      refine (refBehind_any A _ n c m c' _ _ t en ss r _ (HS.out.on HBW.out) hn (HR.out.on HBW.out) (by omega) HM.out (by omega) HSC.out).mono ?_
      rintro e w2 ⟨rfl, rfl⟩
      have z0 : (0 : Int) ≤ (t : Int) := by omega
      have z1 : (t : Int) ≤ (en : Int) := by omega
      have z2 : (en : Int) ≤ (c' : Int) := by omega
      have z3 : ¬ c' = t := by omega
      go_wp2_with (at_builtin
                   refine app_row1 rfl (.tmp 16) (.tmp 21) rfl w.heap.size _ (partsV b' off' c' ms p) (.slice (some ⟨b', off' + t, none⟩) (en - t) (c' - t)) rfl HOWN.out rfl rfl (by rw [partsV_length]; omega) hsz ?_
                   intro v2 w2 hown2 hb2
                   have HOWN2 := Lib.hid hown2
                   have HB2 := Lib.hid hb2
                   clear hown2 hb2)
      go_roundw
      case rel => exact ⟨p + 1, en, rfl, by omega, HEN.out, HOWN2.out.cast (by rw [partsV_succ, ← HTE.out, ← HEN.out]), HBW.out.trans HB2.out⟩
      case measure => simp [intOf]; omega
    · have hpl : p = ms.length := by
        rcases Nat.lt_or_ge p ms.length with h' | h'
        · obtain ⟨mm, _, _, _, s1, s2, s3, _⟩ := part_of HT.out h'
          rw [← HTE.out, nrm_length, HL.out] at s3
          omega
        · omega
      have HPL := Lib.hid hpl
      clear hpl
      go_wp2
      go_ret
      exact ⟨_, rfl, HOWN.out.cast (by rw [HPL.out]), HBW.out⟩

end Go.Proofs.Ytlpafnaokpjoiaa

namespace Go.Proofs.Ytlpafnaokpjoiaa
open Go.RowKit
set_option linter.unusedSimpArgs false
set_option linter.unusedVariables false
set_option maxRecDepth 100000

def rowOf (L : List (List Int)) (i : Nat) : List Int := L.getD i []
theorem rowOf_get {L : List (List Int)} {i : Nat} (h : i < L.length) : L[i]? = some (rowOf L i) := by
  unfold rowOf; rw [List.getD_eq_getElem?_getD, List.getElem?_eq_getElem h]; rfl
theorem rowOf_mem {L : List (List Int)} {i : Nat} (h : i < L.length) : rowOf L i ∈ L := List.mem_of_getElem? (rowOf_get h)
theorem rowOf_take {L : List (List Int)} {i : Nat} (h : i < L.length) : (L.take (i + 1)).flatten = (L.take i).flatten ++ rowOf L i := by
  rw [List.take_add_one, rowOf_get h]; simp
theorem rowOf_drop {L : List (List Int)} {i : Nat} (h : i < L.length) : L.flatten = (L.take i).flatten ++ (rowOf L i ++ (L.drop (i + 1)).flatten) := by
  have e : L = L.take i ++ rowOf L i :: L.drop (i + 1) := by
    have := List.take_append_drop i L
    rw [List.drop_eq_getElem_cons h] at this
    have g := rowOf_get h
    rw [List.getElem?_eq_getElem h] at g
    injection g with g
    rw [g] at this
    exact this.symm
  have := congrArg List.flatten e
  rw [List.flatten_append, List.flatten_cons] at this
  exact this
theorem trm_flatten {V : Nat} {ss : List Sym} : ∀ {L : List (List Int)}, (∀ r ∈ L, trm V ss r 1) → trm V ss L.flatten L.length
  | [], _ => trm_nil
  | r :: L, h => by
    rw [List.flatten_cons, List.length_cons, Nat.add_comm]
    exact trm_append (h r (List.mem_cons_self ..)) (trm_flatten fun x hx => h x (List.mem_cons_of_mem _ hx))
/-- A row of rows, in a block from ob on; the rows lie below base. -/
def RowsAt (w : World) (base ob : Nat) (v : Value) (L : List (List Int)) : Prop :=
  ∃ vals, vals.length = L.length ∧ OwnR w ob v vals ∧ ∀ i, i < L.length → RowV w base (valAt vals i) (rowOf L i)
section
variable {w w' : World} {base ob sb : Nat} {v : Value} {L : List (List Int)}
theorem RowsAt.value (h : RowsAt w base ob v L) : ∃ A c, v = .slice A L.length c := by
  obtain ⟨vals, h1, h2, _⟩ := h
  rcases h2.shape with ⟨rfl, e⟩ | ⟨g, cap, rfl, _⟩
  · subst e; rw [← h1]; exact ⟨_, _, rfl⟩
  · rw [h1]; exact ⟨_, _, rfl⟩
theorem RowsAt.grown (h : RowsAt w base ob v L) (hg : w.grownBy w' (some sb)) (hle : base ≤ sb) (hw : base ≤ w.heap.size) (hne : v.ownBlock ≠ some sb) : RowsAt w' base ob v L := by
  obtain ⟨vals, h1, h2, h3⟩ := h
  refine ⟨vals, h1, World.ownsRow.kept h2 hg (.inr hne), fun i hi => ?_⟩
  obtain ⟨A, n, c, e, hr⟩ := h3 i hi
  exact ⟨A, n, c, e, hr.grown hg hle hw⟩
theorem RowsAt.off (h : RowsAt w base ob v L) (hob : sb < ob) : v.ownBlock ≠ some sb := by
  obtain ⟨vals, h1, h2, h3⟩ := h
  intro q
  have := (World.ownsRow.lt h2 sb q).1
  omega
theorem RowsAt.before (h : RowsAt w base ob v L) (hob : w.heap.size ≤ sb) : v.ownBlock ≠ some sb := by
  obtain ⟨vals, h1, h2, h3⟩ := h
  intro q
  have := (World.ownsRow.lt h2 sb q).2
  omega
theorem RowsAt.lower {ob' : Nat} (h : RowsAt w base ob v L) (hob : ob' ≤ ob) : RowsAt w base ob' v L := by
  obtain ⟨vals, h1, h2, h3⟩ := h
  exact ⟨vals, h1, h2.lower hob, h3⟩
theorem RowsAt.on (h : RowsAt w base ob v L) (hb : Below w.heap.size w w') (hw : base ≤ w.heap.size) : RowsAt w' base ob v L := by
  obtain ⟨vals, h1, h2, h3⟩ := h
  refine ⟨vals, h1, owns_on h2 hb, fun i hi => ?_⟩
  obtain ⟨A, n, c, e, hr⟩ := h3 i hi
  exact ⟨A, n, c, e, hr.below (hb.mono hw)⟩
theorem RowsAt.cell (h : RowsAt w base ob v L) {i : Nat} (hi : i < L.length) : ∃ g cap A n c, v = .slice (some ⟨g, 0, none⟩) L.length cap ∧ ob ≤ g ∧ w.cell? ⟨g, i, none⟩ = some (.slice A n c) ∧ RowAt w base A n c (rowOf L i) := by
  obtain ⟨vals, h1, h2, h3⟩ := h
  rcases h2.shape with ⟨rfl, e⟩ | ⟨g, cap, rfl, hob, _, _⟩
  · subst e; simp at h1; omega
  · obtain ⟨A, n, c, e, hr⟩ := h3 i hi
    refine ⟨g, cap, A, n, c, by rw [h1], hob, ?_, hr⟩
    have := own_get h2 i (by omega)
    rw [this]
    have hl : i < vals.length := by omega
    rw [List.getElem?_eq_getElem hl]
    unfold valAt at e
    rw [List.getD_eq_getElem?_getD, List.getElem?_eq_getElem hl] at e
    rw [← e]; rfl
theorem SymsAt.grownS {A : Option Addr} {n : Nat} {ss : List Sym} (h : SymsAt w base A n ss) (hg : w.grownBy w' (some sb)) (hle : base ≤ sb) (hw : base ≤ w.heap.size) : SymsAt w' base A n ss :=
  h.keep fun p hp => World.cell?_of_block (w := w) (hg.block p.block (by omega) (by simp; omega))
end

/-- The parts of a row. -/
def partL (r : List Int) (ms : List (Nat × Nat)) (q : Nat) : List Int := (r.drop (sumL (ms.take q))).take (sumL (ms.take (q + 1)) - sumL (ms.take q))
def partsL (r : List Int) (ms : List (Nat × Nat)) : List (List Int) := (List.range ms.length).map (partL r ms)
section
variable {V : Nat} {ss : List Sym} {r : List Int} {ms : List (Nat × Nat)}
theorem partsL_length : (partsL r ms).length = ms.length := by unfold partsL; simp
theorem partsL_at {q : Nat} (h : q < ms.length) : rowOf (partsL r ms) q = partL r ms q := by
  unfold rowOf partsL; rw [List.getD_eq_getElem?_getD]; simp [h]
theorem sum_next (ms : List (Nat × Nat)) (q : Nat) : sumL (ms.take (q + 1)) = sumL (ms.take q) + sumL ((ms.drop q).take 1) := by rw [take_add', sumL_append]
theorem partsL_flat (h : tl ss (nrm r) = some ms) : (partsL r ms).flatten = r := by
  have key : ∀ p, p ≤ ms.length → ((List.range p).map (partL r ms)).flatten = r.take (sumL (ms.take p)) := by
    intro p
    induction p with
    | zero => intro _; simp [sumL]
    | succ p ih =>
      intro hp
      rw [List.range_succ, List.map_append, List.flatten_append, ih (by omega)]
      have e : sumL (ms.take (p + 1)) = sumL (ms.take p) + (sumL (ms.take (p + 1)) - sumL (ms.take p)) := by have := sum_next ms p; omega
      have e2 : r.take (sumL (ms.take (p + 1))) = r.take (sumL (ms.take p)) ++ partL r ms p := by
        rw [e, List.take_add]; unfold partL; rfl
      rw [e2]; simp
  have := key ms.length (Nat.le_refl _)
  unfold partsL
  rw [this, List.take_length, tl_all _ h, nrm_length, List.take_length]
theorem partsL_trm (h : tl ss (nrm r) = some ms) (hc : ∀ c ∈ r, -(V : Int) ≤ c) : ∀ x ∈ partsL r ms, trm V ss x 1 := by
  intro x hx
  unfold partsL at hx
  obtain ⟨q, hq, rfl⟩ := List.mem_map.1 hx
  have hq' : q < ms.length := by simpa using hq
  have h1 := (tl_skip _ h q (by omega)).1
  have h2 := tl_take _ h1 1 (by simp; omega)
  have e : sumL (ms.take (q + 1)) - sumL (ms.take q) = sumL ((ms.drop q).take 1) := by have := sum_next ms q; omega
  refine ⟨⟨(ms.drop q).take 1, ?_, by simp; omega⟩, fun c hc' => hc c ?_⟩
  · unfold partL; rw [e, ← nrm_take, ← nrm_drop]; exact h2
  · unfold partL at hc'; exact List.mem_of_mem_drop (List.mem_of_mem_take hc')
theorem ap_in_flat {σ : Nat → List Int} {L : List (List Int)} {x : List Int} (h : x ∈ L) : (ap σ x).length ≤ (ap σ L.flatten).length := by
  induction L with
  | nil => cases h
  | cons y L ih =>
    rw [List.flatten_cons, ap_append, List.length_append]
    rcases List.mem_cons.1 h with rfl | h
    · omega
    · have := ih h; omega
theorem RowsAt.parts {w w' : World} {base b off c m : Nat} {v : Value} (hr : RowAt w base (some ⟨b, off, none⟩) m c r) (h : tl ss (nrm r) = some ms) (hv : OwnR w' w.heap.size v (partsV b off c ms ms.length)) (hb : Below w.heap.size w w') (hbase : base ≤ w.heap.size) : RowsAt w' base w.heap.size v (partsL r ms) := by
  refine ⟨partsV b off c ms ms.length, by rw [partsV_length, partsL_length], hv, fun q hq => ?_⟩
  rw [partsL_length] at hq
  rw [partsL_at hq]
  have hs := sum_next ms q
  have hle : sumL (ms.take (q + 1)) ≤ r.length := by have := (tl_skip _ h (q + 1) (by omega)).2; rw [nrm_length] at this; exact this
  have hl := hr.at_.len
  have e : valAt (partsV b off c ms ms.length) q = .slice (some ⟨b, off + sumL (ms.take q), none⟩) (sumL (ms.take (q + 1)) - sumL (ms.take q)) (c - sumL (ms.take q)) := by
    unfold valAt; rw [List.getD_eq_getElem?_getD, partsV_get _ _ _ _ _ _ hq]; rfl
  refine ⟨_, _, _, e, ?_, ?_, ?_⟩
  · have h1 := (hr.at_.drop (k := sumL (ms.take q)) (by omega)).take (i := sumL (ms.take (q + 1)) - sumL (ms.take q)) (by omega)
    exact (h1.below (hb.mono hbase))
  · have := hr.cap; omega
  · have := hr.few; omega
end
set_option maxHeartbeats 400000 in
theorem refPartsR_any (A0 A : Option Addr) (n0 c0 m c base : Nat) (ss : List Sym) (r : List Int) (ms : List (Nat × Nat)) (w : World) (hs : SymsAt w base A0 n0 ss) (hn0 : n0 ≤ maxLen) (hr : RowAt w base A m c r) (hmay : mayB ss = true) (ht : tl ss (nrm r) = some ms) (hbase : base ≤ w.heap.size) :
    Calls Try.prog 41 #[.slice A0 n0 c0, .slice A m c] w fun e w' => ∃ v, e = .returned v ∧ RowsAt w' base w.heap.size v (partsL r ms) ∧ Below w.heap.size w w' := by
  by_cases hm : m = 0
  · subst hm
    have h0 : r = [] := List.eq_nil_of_length_eq_zero hr.at_.len
    subst h0
    have hms : ms = [] := (tl_nil_iff ht).2 rfl
    subst hms
    have HE : Hid (RowsAt w base w.heap.size (.slice none 0 0) (partsL [] [])) := ⟨[], rfl, OwnR.nil_, fun i hi => absurd hi (by simp [partsL])⟩
    clear hr hs ht
    go_enter Try.func41, Try.ntmps41
    go_wp2
    go_loopw [5, 6] (fun q i wr => q = .slice none 0 0 ∧ i = .int .i64 0 ∧ wr = w) (fun _ _ _ => 0)
    case atStart => exact ⟨rfl, rfl, rfl⟩
    case round =>
      obtain ⟨rfl, rfl, rfl⟩ := hrel
      go_wp2
      go_ret
      exact ⟨_, rfl, HE.out, Below.refl _ _⟩
  · obtain ⟨b, off, hA, hb, _⟩ := hr.at_.at_ (by omega)
    subst hA
    have hf := hr.few
    refine (refParts_any A0 b off n0 c0 m c ss r ms w (hs.more hbase) hn0 (hr.at_.more hbase) (by omega) hr.cap hmay ht).mono ?_
    rintro e w' ⟨v, rfl, hv, hb'⟩
    exact ⟨v, rfl, RowsAt.parts hr ht hv hb' hbase, hb'⟩

set_option maxHeartbeats 1000000 in
theorem refSame_quiet (A B : Option Addr) (n c m d B1 B2 : Nat) (xs ys : List Int) (w : World) (hA : IntsAt w B1 A n xs) (hB : IntsAt w B2 B m ys) (hn : n ≤ maxLen) (hm : m ≤ maxLen) :
    Calls Try.prog 67 #[.slice A n c, .slice B m d] w fun e w' => e = .returned (.bool (sameI xs ys)) ∧ ∃ m, w' = w.drewN m := by
  unfold maxLen at hn hm
  have HX := Lib.hid hA.len
  have HY := Lib.hid hB.len
  by_cases hnm : n = m
  · subst hnm
    go_enter Try.func67, Try.ntmps67
    go_wp2
    go_loopw [5] (fun i wr => ∃ k q : Nat, k ≤ n ∧ i = .int .i64 k ∧ wr = w.drewN q ∧ ∀ i, i < k → intAt xs i = intAt ys i) (fun i _ => n - (intOf i).toNat)
    case atStart => exact ⟨0, 0, by omega, rfl, rfl, fun i hi => absurd hi (by omega)⟩
    case round =>
      obtain ⟨k, q, hk, rfl, rfl, hall⟩ := hrel
      have HALL := Lib.hid hall
      clear hall
      by_cases hlt : k < n
      · obtain ⟨b1, o1, rfl, _, h1⟩ := hA.at_ (by omega)
        obtain ⟨b2, o2, rfl, _, h2⟩ := hB.at_ (by omega)
        have c0 : w.cell? ⟨b1, o1 + k, none⟩ = some (.int .i64 (intAt xs k)) := h1 k hlt
        have d0 : w.cell? ⟨b2, o2 + k, none⟩ = some (.int .i64 (intAt ys k)) := h2 k hlt
        clear h1 h2
        have hi0 : (0 : Int) ≤ (k : Int) := by omega
        have hi2 : (k : Int) < (n : Int) := by omega
        by_cases he : intAt xs k = intAt ys k
        · have he' : (intAt xs k != intAt ys k) = false := by simp [he]
          have HE := Lib.hid he
          clear he
          go_wp2_with fail
          go_quiet (fail)
          go_wp2
          go_roundw
          case rel => exact ⟨k + 1, _, by omega, by go_num, rfl, fun i hi => if e : i = k then e ▸ HE.out else HALL.out i (by omega)⟩
          case measure => simp [intOf]; omega
        · have he' : (intAt xs k != intAt ys k) = true := by simp [he]
          have H := Lib.hid (sameI_not he)
          clear he
          go_wp2_with fail
          go_quiet (fail)
          go_wp2
          go_ret
          exact ⟨ret_b H.out.symm, _, World.drewN_drewN ..⟩
      · obtain rfl : k = n := by omega
        have H : Hid (sameI xs ys = true) := by
          show sameI xs ys = true
          unfold sameI
          exact decide_eq_true (list_int_ext (by rw [HX.out, HY.out]) (by rw [HX.out]; exact HALL.out))
        go_wp2
        go_ret
        exact ⟨ret_b H.out.symm, _, rfl⟩
  · have H := Lib.hid (sameI_len (xs := xs) (ys := ys) (by rw [HX.out, HY.out]; exact hnm))
    go_enter Try.func67, Try.ntmps67
    go_wp2
    go_ret
    exact ⟨ret_b H.out.symm, 0, rfl⟩

theorem refSame_still (A B : Option Addr) (n c m d B1 B2 q : Nat) (xs ys : List Int) (w : World) (hA : IntsAt w B1 A n xs) (hB : IntsAt w B2 B m ys) (hn : n ≤ maxLen) (hm : m ≤ maxLen) {b : Bool} (hb : sameI xs ys = b) :
    Calls Try.prog 67 #[.slice A n c, .slice B m d] (w.drewN q) fun e w' => e = .returned (.bool b) ∧ ∃ m, w' = w.drewN m := by
  subst hb
  refine (refSame_quiet A B n c m d B1 B2 xs ys _ (hA.drewN q) (hB.drewN q) hn hm).mono fun e w' ⟨h1, k, h2⟩ => ⟨h1, q + k, ?_⟩
  rw [h2]
  simp [World.drewN, Nat.add_assoc]

end Go.Proofs.Ytlpafnaokpjoiaa
