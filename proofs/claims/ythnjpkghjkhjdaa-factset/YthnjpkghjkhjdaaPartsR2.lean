/-
  Contracts of the reference: behind, Parts, depth, Deep.
  Words for memory: a row of rows; contract of the reference: Parts, by rows.
-/
import Derived.Test.YthnjpkghjkhjdaaBaseTerm
import Derived.Test.YthnjpkghjkhjdaaShape
namespace Go.Proofs.Ythnjpkghjkhjdaa
open Go.RowKit
set_option linter.unusedSimpArgs false
set_option linter.unusedVariables false

theorem scan_part {ss : List Sym} {r : List Int} {ms : List (Nat × Nat)} (h : tl ss r = some ms) {q : Nat} (hq : q < ms.length) : scanAt ss r 1 (sumL (ms.take q)) = ((sumL (ms.take (q + 1)) : Nat) : Int) := by
  obtain ⟨h1, h2⟩ := tl_skip r h q (by omega)
  obtain ⟨m, _, _, hd, hs, _⟩ := part_of h hq
  unfold scanAt
  rw [scan_tl _ h1 1, if_pos (by simp; omega), hd]
  show ((sumL (ms.take q) + sumL [m] : Nat) : Int) = _
  rw [hs]; simp [sumL]

/-- The first p parts of a row that lies at an address, as slices. -/
def partsV (b off cap : Nat) (ms : List (Nat × Nat)) (p : Nat) : List Value :=
  (List.range p).map fun q => .slice (some ⟨b, off + sumL (ms.take q), none⟩) (sumL (ms.take (q + 1)) - sumL (ms.take q)) (cap - sumL (ms.take q))
theorem partsV_succ (b off cap : Nat) (ms : List (Nat × Nat)) (p : Nat) : partsV b off cap ms (p + 1) = partsV b off cap ms p ++ [.slice (some ⟨b, off + sumL (ms.take p), none⟩) (sumL (ms.take (p + 1)) - sumL (ms.take p)) (cap - sumL (ms.take p))] := by
  unfold partsV; rw [List.range_succ, List.map_append]; rfl
theorem partsV_length (b off cap : Nat) (ms : List (Nat × Nat)) (p : Nat) : (partsV b off cap ms p).length = p := by unfold partsV; simp
theorem partsV_get (b off cap : Nat) (ms : List (Nat × Nat)) (p q : Nat) (h : q < p) : (partsV b off cap ms p)[q]? = some (.slice (some ⟨b, off + sumL (ms.take q), none⟩) (sumL (ms.take (q + 1)) - sumL (ms.take q)) (cap - sumL (ms.take q))) := by
  unfold partsV; simp [h]
theorem rows_info : (Try.prog.info? 23).map (fun i => (i.zero, i.size, i.bytes)) = some (some (.slice none 0 0), 1, 24) := by kernel_rfl
/-- The value is a row of these values (rows of integers), in a block from base on (or nil). -/
def OwnR (w : World) (base : Nat) (v : Value) (xs : List Value) : Prop := w.ownsRow base 23 1 v xs.length xs
theorem OwnR.nil_ {w : World} {base : Nat} : OwnR w base (.slice none 0 0) [] := ⟨rfl, .inl ⟨rfl, rfl⟩⟩
theorem OwnR.lower {w : World} {base base' : Nat} {v : Value} {xs : List Value} (h : OwnR w base v xs) (hb : base' ≤ base) : OwnR w base' v xs := own_base h hb
theorem OwnR.cast {w : World} {base : Nat} {v : Value} {xs ys : List Value} (h : OwnR w base v xs) (e : xs = ys) : OwnR w base v ys := e ▸ h
theorem OwnR.shape {w : World} {base : Nat} {v : Value} {xs : List Value} (h : OwnR w base v xs) : (v = .slice none 0 0 ∧ xs = []) ∨ ∃ g cap, v = .slice (some ⟨g, 0, none⟩) xs.length cap ∧ base ≤ g ∧ g < w.heap.size ∧ xs.length ≤ cap := by
  rcases h.2 with ⟨h1, h2⟩ | ⟨g, cap, cur, hv, hg, hc, hn, _⟩
  · exact .inl ⟨h1, List.length_eq_zero_iff.1 h2⟩
  · exact .inr ⟨g, cap, hv, hg, (Array.getElem?_eq_some_iff.1 hc).1, hn⟩
/-- 'x = append(x, y)' of rows, x made by the call. -/
theorem app_row1 {w : World} {ops : Array Oper} {rest : List Oper} {o : Oper} {a : Act} {Q : Exit → Act → World → Prop} (hgd : o.guard = none) (s x : Operand)
    (ho : o.op = .call { callee := .builtin .append, args := #[s, x], argTypes := #[24, 24] })
    (base : Nat) (v : Value) (xs : List Value) (y : Value) (hs : a.eval s = v) (hown : OwnR w base v xs) (hx : a.eval x = .slice (some ⟨w.heap.size, 0, none⟩) 1 1) (hy : y.oneCell' = true)
    (hlen : xs.length + 1 ≤ 5000000000000) (hbase : base ≤ w.heap.size)
    (h : ∀ v' w', OwnR w' base v' (xs ++ [y]) → Below base w w' → wpList Try.prog ops Q rest (a.put o.dst v') w') : wpList Try.prog ops Q (o :: rest) a (w.alloc (.cells #[y] 23)) := by
  obtain ⟨i0, hi0, hz0, hz1, hz2⟩ := info_parts rows_info
  have hown' : OwnR (w.alloc (.cells #[y] 23)) base v xs := World.ownsRow.alloc hown _
  refine wpList_append_own _ hgd s x 24 ho base 23 i0 _ 1 24 Try.underlying24 hi0 hz0 hz1 hz2 rfl (by omega) v xs.length xs hs hown' ⟨w.heap.size, 0, none⟩ 1 1 [y] hx rfl
    (World.news_of_block (cs := #[y]) (t := 23) (fr := (0, 0)) (heap_alloc_new w _)) (by simpa using hy) (by unfold maxLen; omega) (by omega) (by simp; omega) ?_
  intro v' w' h1 h2 _
  refine h v' w' ?_ (below_un_new (o := .cells #[y] 23) ?_ hbase)
  · unfold OwnR; simpa using h1
  · exact (Below.refl base _).grown h2 (by simp; omega) (fun k hk => by
      rcases hown'.shape with ⟨rfl, _⟩ | ⟨g, cap, rfl, hg, _⟩
      · simp [Value.ownBlock] at hk
      · simp [Value.ownBlock] at hk; omega)
/-- The parts of a row, in a new row. -/
def PartsRet (b off cap : Nat) (ms : List (Nat × Nat)) (w : World) (e : Ending) (w' : World) : Prop :=
  ∃ v, e = .returned v ∧ OwnR w' w.heap.size v (partsV b off cap ms ms.length) ∧ Below w.heap.size w w'

end Go.Proofs.Ythnjpkghjkhjdaa

namespace Go.Proofs.Ythnjpkghjkhjdaa
open Go.RowKit
set_option linter.unusedSimpArgs false
set_option linter.unusedVariables false
set_option maxRecDepth 100000

def rowOf (L : List (List Int)) (i : Nat) : List Int := L.getD i []
theorem rowOf_get {L : List (List Int)} {i : Nat} (h : i < L.length) : L[i]? = some (rowOf L i) := by
  unfold rowOf; rw [List.getD_eq_getElem?_getD, List.getElem?_eq_getElem h]; rfl
theorem rowOf_mem {L : List (List Int)} {i : Nat} (h : i < L.length) : rowOf L i ∈ L := List.mem_of_getElem? (rowOf_get h)
theorem rowOf_take {L : List (List Int)} {i : Nat} (h : i < L.length) : (L.take (i + 1)).flatten = (L.take i).flatten ++ rowOf L i := by
  rw [List.take_add_one, rowOf_get h]; simp
theorem rowOf_drop {L : List (List Int)} {i : Nat} (h : i < L.length) : L.flatten = (L.take i).flatten ++ (rowOf L i ++ (L.drop (i + 1)).flatten) := by
  have e : L = L.take i ++ rowOf L i :: L.drop (i + 1) := by
    have := List.take_append_drop i L
    rw [List.drop_eq_getElem_cons h] at this
    have g := rowOf_get h
    rw [List.getElem?_eq_getElem h] at g
    injection g with g
    rw [g] at this
    exact this.symm
  have := congrArg List.flatten e
  rw [List.flatten_append, List.flatten_cons] at this
  exact this
theorem trm_flatten {V : Nat} {ss : List Sym} : ∀ {L : List (List Int)}, (∀ r ∈ L, trm V ss r 1) → trm V ss L.flatten L.length
  | [], _ => trm_nil
  | r :: L, h => by
    rw [List.flatten_cons, List.length_cons, Nat.add_comm]
    exact trm_append (h r (List.mem_cons_self ..)) (trm_flatten fun x hx => h x (List.mem_cons_of_mem _ hx))
/-- A row of rows, in a block from ob on; the rows lie below base. -/
def RowsAt (w : World) (base ob : Nat) (v : Value) (L : List (List Int)) : Prop :=
  ∃ vals, vals.length = L.length ∧ OwnR w ob v vals ∧ ∀ i, i < L.length → RowV w base (valAt vals i) (rowOf L i)
section
variable {w w' : World} {base ob sb : Nat} {v : Value} {L : List (List Int)}
theorem RowsAt.value (h : RowsAt w base ob v L) : ∃ A c, v = .slice A L.length c := by
  obtain ⟨vals, h1, h2, _⟩ := h
  rcases h2.shape with ⟨rfl, e⟩ | ⟨g, cap, rfl, _⟩
  · subst e; rw [← h1]; exact ⟨_, _, rfl⟩
  · rw [h1]; exact ⟨_, _, rfl⟩
theorem RowsAt.grown (h : RowsAt w base ob v L) (hg : w.grownBy w' (some sb)) (hle : base ≤ sb) (hw : base ≤ w.heap.size) (hne : v.ownBlock ≠ some sb) : RowsAt w' base ob v L := by
  obtain ⟨vals, h1, h2, h3⟩ := h
  refine ⟨vals, h1, World.ownsRow.kept h2 hg (.inr hne), fun i hi => ?_⟩
  obtain ⟨A, n, c, e, hr⟩ := h3 i hi
  exact ⟨A, n, c, e, hr.grown hg hle hw⟩
theorem RowsAt.off (h : RowsAt w base ob v L) (hob : sb < ob) : v.ownBlock ≠ some sb := by
  obtain ⟨vals, h1, h2, h3⟩ := h
  intro q
  have := (World.ownsRow.lt h2 sb q).1
  omega
theorem RowsAt.before (h : RowsAt w base ob v L) (hob : w.heap.size ≤ sb) : v.ownBlock ≠ some sb := by
  obtain ⟨vals, h1, h2, h3⟩ := h
  intro q
  have := (World.ownsRow.lt h2 sb q).2
  omega
theorem RowsAt.lower {ob' : Nat} (h : RowsAt w base ob v L) (hob : ob' ≤ ob) : RowsAt w base ob' v L := by
  obtain ⟨vals, h1, h2, h3⟩ := h
  exact ⟨vals, h1, h2.lower hob, h3⟩
theorem RowsAt.on (h : RowsAt w base ob v L) (hb : Below w.heap.size w w') (hw : base ≤ w.heap.size) : RowsAt w' base ob v L := by
  obtain ⟨vals, h1, h2, h3⟩ := h
  refine ⟨vals, h1, owns_on h2 hb, fun i hi => ?_⟩
  obtain ⟨A, n, c, e, hr⟩ := h3 i hi
  exact ⟨A, n, c, e, hr.below (hb.mono hw)⟩
theorem RowsAt.cell (h : RowsAt w base ob v L) {i : Nat} (hi : i < L.length) : ∃ g cap A n c, v = .slice (some ⟨g, 0, none⟩) L.length cap ∧ ob ≤ g ∧ w.cell? ⟨g, i, none⟩ = some (.slice A n c) ∧ RowAt w base A n c (rowOf L i) := by
  obtain ⟨vals, h1, h2, h3⟩ := h
  rcases h2.shape with ⟨rfl, e⟩ | ⟨g, cap, rfl, hob, _, _⟩
  · subst e; simp at h1; omega
  · obtain ⟨A, n, c, e, hr⟩ := h3 i hi
    refine ⟨g, cap, A, n, c, by rw [h1], hob, ?_, hr⟩
    have := own_get h2 i (by omega)
    rw [this]
    have hl : i < vals.length := by omega
    rw [List.getElem?_eq_getElem hl]
    unfold valAt at e
    rw [List.getD_eq_getElem?_getD, List.getElem?_eq_getElem hl] at e
    rw [← e]; rfl
theorem SymsAt.grownS {A : Option Addr} {n : Nat} {ss : List Sym} (h : SymsAt w base A n ss) (hg : w.grownBy w' (some sb)) (hle : base ≤ sb) (hw : base ≤ w.heap.size) : SymsAt w' base A n ss :=
  h.keep fun p hp => World.cell?_of_block (w := w) (hg.block p.block (by omega) (by simp; omega))
end

/-- The parts of a row. -/
def partL (r : List Int) (ms : List (Nat × Nat)) (q : Nat) : List Int := (r.drop (sumL (ms.take q))).take (sumL (ms.take (q + 1)) - sumL (ms.take q))
def partsL (r : List Int) (ms : List (Nat × Nat)) : List (List Int) := (List.range ms.length).map (partL r ms)
section
variable {V : Nat} {ss : List Sym} {r : List Int} {ms : List (Nat × Nat)}
theorem partsL_length : (partsL r ms).length = ms.length := by unfold partsL; simp
theorem partsL_at {q : Nat} (h : q < ms.length) : rowOf (partsL r ms) q = partL r ms q := by
  unfold rowOf partsL; rw [List.getD_eq_getElem?_getD]; simp [h]
theorem sum_next (ms : List (Nat × Nat)) (q : Nat) : sumL (ms.take (q + 1)) = sumL (ms.take q) + sumL ((ms.drop q).take 1) := by rw [take_add', sumL_append]
theorem partsL_flat (h : tl ss (nrm r) = some ms) : (partsL r ms).flatten = r := by
  have key : ∀ p, p ≤ ms.length → ((List.range p).map (partL r ms)).flatten = r.take (sumL (ms.take p)) := by
    intro p
    induction p with
    | zero => intro _; simp [sumL]
    | succ p ih =>
      intro hp
      rw [List.range_succ, List.map_append, List.flatten_append, ih (by omega)]
      have e : sumL (ms.take (p + 1)) = sumL (ms.take p) + (sumL (ms.take (p + 1)) - sumL (ms.take p)) := by have := sum_next ms p; omega
      have e2 : r.take (sumL (ms.take (p + 1))) = r.take (sumL (ms.take p)) ++ partL r ms p := by
        rw [e, List.take_add]; unfold partL; rfl
      rw [e2]; simp
  have := key ms.length (Nat.le_refl _)
  unfold partsL
  rw [this, List.take_length, tl_all _ h, nrm_length, List.take_length]
theorem partsL_trm (h : tl ss (nrm r) = some ms) (hc : ∀ c ∈ r, -(V : Int) ≤ c) : ∀ x ∈ partsL r ms, trm V ss x 1 := by
  intro x hx
  unfold partsL at hx
  obtain ⟨q, hq, rfl⟩ := List.mem_map.1 hx
  have hq' : q < ms.length := by simpa using hq
  have h1 := (tl_skip _ h q (by omega)).1
  have h2 := tl_take _ h1 1 (by simp; omega)
  have e : sumL (ms.take (q + 1)) - sumL (ms.take q) = sumL ((ms.drop q).take 1) := by have := sum_next ms q; omega
  refine ⟨⟨(ms.drop q).take 1, ?_, by simp; omega⟩, fun c hc' => hc c ?_⟩
  · unfold partL; rw [e, ← nrm_take, ← nrm_drop]; exact h2
  · unfold partL at hc'; exact List.mem_of_mem_drop (List.mem_of_mem_take hc')
theorem ap_in_flat {σ : Nat → List Int} {L : List (List Int)} {x : List Int} (h : x ∈ L) : (ap σ x).length ≤ (ap σ L.flatten).length := by
  induction L with
  | nil => cases h
  | cons y L ih =>
    rw [List.flatten_cons, ap_append, List.length_append]
    rcases List.mem_cons.1 h with rfl | h
    · omega
    · have := ih h; omega
theorem RowsAt.parts {w w' : World} {base b off c m : Nat} {v : Value} (hr : RowAt w base (some ⟨b, off, none⟩) m c r) (h : tl ss (nrm r) = some ms) (hv : OwnR w' w.heap.size v (partsV b off c ms ms.length)) (hb : Below w.heap.size w w') (hbase : base ≤ w.heap.size) : RowsAt w' base w.heap.size v (partsL r ms) := by
  refine ⟨partsV b off c ms ms.length, by rw [partsV_length, partsL_length], hv, fun q hq => ?_⟩
  rw [partsL_length] at hq
  rw [partsL_at hq]
  have hs := sum_next ms q
  have hle : sumL (ms.take (q + 1)) ≤ r.length := by have := (tl_skip _ h (q + 1) (by omega)).2; rw [nrm_length] at this; exact this
  have hl := hr.at_.len
  have e : valAt (partsV b off c ms ms.length) q = .slice (some ⟨b, off + sumL (ms.take q), none⟩) (sumL (ms.take (q + 1)) - sumL (ms.take q)) (c - sumL (ms.take q)) := by
    unfold valAt; rw [List.getD_eq_getElem?_getD, partsV_get _ _ _ _ _ _ hq]; rfl
  refine ⟨_, _, _, e, ?_, ?_, ?_⟩
  · have h1 := (hr.at_.drop (k := sumL (ms.take q)) (by omega)).take (i := sumL (ms.take (q + 1)) - sumL (ms.take q)) (by omega)
    exact (h1.below (hb.mono hbase))
  · have := hr.cap; omega
  · have := hr.few; omega
end
set_option maxHeartbeats 1000000 in
theorem refSame_quiet (A B : Option Addr) (n c m d B1 B2 : Nat) (xs ys : List Int) (w : World) (hA : IntsAt w B1 A n xs) (hB : IntsAt w B2 B m ys) (hn : n ≤ maxLen) (hm : m ≤ maxLen) :
    Calls Try.prog 56 #[.slice A n c, .slice B m d] w fun e w' => e = .returned (.bool (sameI xs ys)) ∧ ∃ m, w' = w.drewN m := by
  unfold maxLen at hn hm
  have HX := Lib.hid hA.len
  have HY := Lib.hid hB.len
  by_cases hnm : n = m
  · subst hnm
    go_enter Try.func56, Try.ntmps56
    go_wp2
    go_loopw [5] (fun i wr => ∃ k q : Nat, k ≤ n ∧ i = .int .i64 k ∧ wr = w.drewN q ∧ ∀ i, i < k → intAt xs i = intAt ys i) (fun i _ => n - (intOf i).toNat)
    case atStart => exact ⟨0, 0, by omega, rfl, rfl, fun i hi => absurd hi (by omega)⟩
    case round =>
      obtain ⟨k, q, hk, rfl, rfl, hall⟩ := hrel
      have HALL := Lib.hid hall
      clear hall
      by_cases hlt : k < n
      · obtain ⟨b1, o1, rfl, _, h1⟩ := hA.at_ (by omega)
        obtain ⟨b2, o2, rfl, _, h2⟩ := hB.at_ (by omega)
        have c0 : w.cell? ⟨b1, o1 + k, none⟩ = some (.int .i64 (intAt xs k)) := h1 k hlt
        have d0 : w.cell? ⟨b2, o2 + k, none⟩ = some (.int .i64 (intAt ys k)) := h2 k hlt
        clear h1 h2
        have hi0 : (0 : Int) ≤ (k : Int) := by omega
        have hi2 : (k : Int) < (n : Int) := by omega
        by_cases he : intAt xs k = intAt ys k
        · have he' : (intAt xs k != intAt ys k) = false := by simp [he]
          have HE := Lib.hid he
          clear he
          go_wp2_with fail
          go_quiet (fail)
          go_wp2
          go_roundw
          case rel => exact ⟨k + 1, _, by omega, by go_num, rfl, fun i hi => if e : i = k then e ▸ HE.out else HALL.out i (by omega)⟩
          case measure => simp [intOf]; omega
        · have he' : (intAt xs k != intAt ys k) = true := by simp [he]
          have H := Lib.hid (sameI_not he)
          clear he
          go_wp2_with fail
          go_quiet (fail)
          go_wp2
          go_ret
          exact ⟨ret_b H.out.symm, _, World.drewN_drewN ..⟩
      · obtain rfl : k = n := by omega
        have H : Hid (sameI xs ys = true) := by
          show sameI xs ys = true
          unfold sameI
          exact decide_eq_true (list_int_ext (by rw [HX.out, HY.out]) (by rw [HX.out]; exact HALL.out))
        go_wp2
        go_ret
        exact ⟨ret_b H.out.symm, _, rfl⟩
  · have H := Lib.hid (sameI_len (xs := xs) (ys := ys) (by rw [HX.out, HY.out]; exact hnm))
    go_enter Try.func56, Try.ntmps56
    go_wp2
    go_ret
    exact ⟨ret_b H.out.symm, 0, rfl⟩

theorem refSame_still (A B : Option Addr) (n c m d B1 B2 q : Nat) (xs ys : List Int) (w : World) (hA : IntsAt w B1 A n xs) (hB : IntsAt w B2 B m ys) (hn : n ≤ maxLen) (hm : m ≤ maxLen) {b : Bool} (hb : sameI xs ys = b) :
    Calls Try.prog 56 #[.slice A n c, .slice B m d] (w.drewN q) fun e w' => e = .returned (.bool b) ∧ ∃ m, w' = w.drewN m := by
  subst hb
  refine (refSame_quiet A B n c m d B1 B2 xs ys _ (hA.drewN q) (hB.drewN q) hn hm).mono fun e w' ⟨h1, k, h2⟩ => ⟨h1, q + k, ?_⟩
  rw [h2]
  simp [World.drewN, Nat.add_assoc]

end Go.Proofs.Ythnjpkghjkhjdaa
