/-
  Contract of package subsume: addPair.
-/
import Derived.Test.YtcjpopjcpgipjaaDoorSubAdd
namespace Go.Proofs.YtcjpopjcpgipjaaDoor
open Go.RowKit Go.Deep
set_option linter.unusedSimpArgs false
set_option linter.unusedVariables false
set_option maxRecDepth 100000

/-- What addPair adds. -/
def addP (ss : List Sym) (k i : Nat) (a b : List Int) : List Pr := match mt ss b noT 0 a with
  | some P => [⟨k, i, P⟩]
  | none => []
def AddPost (sb B k i : Nat) (ss : List Sym) (a b : List Int) (PS : List Pr) (os : List Nat) (w : World) (e : Ending) (w' : World) : Prop :=
  e = .returned (.tuple #[]) ∧ (∃ os', os'.length = os.length ∧ Bld w' sb B (PS ++ addP ss k i a b) os') ∧ Chg SK sb w w'
theorem bits_or_w {x q : Nat} (hx : x < 2 ^ 64) (hq : q < 2 ^ 64) : bits .or .u64 (x : Int) (q : Int) = ((x ||| q : Nat) : Int) := bits_or_u64_nat x q (by simpa using hx) (by simpa using hq)
theorem wrap_u64_nat {q : Nat} (hq : q < 2 ^ 64) : IntKind.u64.wrap (q : Int) = (q : Int) := by
  rw [IntKind.wrap_u64]
  have : q < 18446744073709551616 := by simpa using hq
  omega
theorem fold_set : ∀ (l : List Value) (k : Nat) (p q : List Value), p.length = 1 + k → q.length = l.length → List.foldl (fun (cs : Array Value) (x : Value × Nat) => cs.setIfInBounds (1 + x.snd) x.fst) (p ++ q).toArray (l.zipIdx k) = (p ++ l).toArray
  | [], k, p, q, hp, hq => by
    have : q = [] := List.length_eq_zero_iff.1 hq
    subst this; rfl
  | x :: l, k, p, [], hp, hq => by simp at hq
  | x :: l, k, p, y :: q, hp, hq => by
    rw [List.zipIdx_cons, List.foldl_cons]
    have e : ((p ++ y :: q).toArray.setIfInBounds (1 + k) x) = ((p ++ [x]) ++ q).toArray := by
      rw [List.setIfInBounds_toArray, List.set_append_right _ _ (by omega), ← hp, Nat.sub_self, List.set_cons_zero, List.append_assoc]; rfl
    show List.foldl _ ((p ++ y :: q).toArray.setIfInBounds (1 + k) x) _ = _
    rw [e, fold_set l (k + 1) (p ++ [x]) q (by rw [List.length_append]; simp; omega) (by simpa using hq), List.append_assoc]; rfl
theorem fold_pair (u : Value) (cs : Array Value) (h : cs.size = 24) : Array.foldl (fun (cs : Array Value) (x : Value × Nat) => cs.setIfInBounds (1 + x.snd) x.fst) #[u, .slice none 0 0, .slice none 0 0, .slice none 0 0, .slice none 0 0, .slice none 0 0, .slice none 0 0, .slice none 0 0, .slice none 0 0, .slice none 0 0, .slice none 0 0, .slice none 0 0, .slice none 0 0, .slice none 0 0, .slice none 0 0, .slice none 0 0, .slice none 0 0, .slice none 0 0, .slice none 0 0, .slice none 0 0, .slice none 0 0, .slice none 0 0, .slice none 0 0, .slice none 0 0, .slice none 0 0] cs.zipIdx 0 24 = #[u] ++ cs := by
  have e : (24 : Nat) = cs.zipIdx.size := by simp [h]
  have e2 : Array.foldl (fun (cs : Array Value) (x : Value × Nat) => cs.setIfInBounds (1 + x.snd) x.fst) #[u, .slice none 0 0, .slice none 0 0, .slice none 0 0, .slice none 0 0, .slice none 0 0, .slice none 0 0, .slice none 0 0, .slice none 0 0, .slice none 0 0, .slice none 0 0, .slice none 0 0, .slice none 0 0, .slice none 0 0, .slice none 0 0, .slice none 0 0, .slice none 0 0, .slice none 0 0, .slice none 0 0, .slice none 0 0, .slice none 0 0, .slice none 0 0, .slice none 0 0, .slice none 0 0, .slice none 0 0] cs.zipIdx 0 24 = List.foldl (fun (cs : Array Value) (x : Value × Nat) => cs.setIfInBounds (1 + x.snd) x.fst) #[u, .slice none 0 0, .slice none 0 0, .slice none 0 0, .slice none 0 0, .slice none 0 0, .slice none 0 0, .slice none 0 0, .slice none 0 0, .slice none 0 0, .slice none 0 0, .slice none 0 0, .slice none 0 0, .slice none 0 0, .slice none 0 0, .slice none 0 0, .slice none 0 0, .slice none 0 0, .slice none 0 0, .slice none 0 0, .slice none 0 0, .slice none 0 0, .slice none 0 0, .slice none 0 0, .slice none 0 0] (cs.toList.zipIdx 0) := by
    rw [e, ← Array.foldl_toList, Array.toList_zipIdx]
  rw [e2]
  have := fold_set cs.toList 0 [u] [.slice none 0 0, .slice none 0 0, .slice none 0 0, .slice none 0 0, .slice none 0 0, .slice none 0 0, .slice none 0 0, .slice none 0 0, .slice none 0 0, .slice none 0 0, .slice none 0 0, .slice none 0 0, .slice none 0 0, .slice none 0 0, .slice none 0 0, .slice none 0 0, .slice none 0 0, .slice none 0 0, .slice none 0 0, .slice none 0 0, .slice none 0 0, .slice none 0 0, .slice none 0 0, .slice none 0 0] rfl (by have e3 : cs.toList.length = 24 := h; rw [e3]; rfl)
  refine Eq.trans this ?_
  simp
theorem fold_set0 : ∀ (l : List Value) (k : Nat) (p q : List Value), p.length = k → q.length = l.length → List.foldl (fun (cs : Array Value) (x : Value × Nat) => cs.setIfInBounds x.snd x.fst) (p ++ q).toArray (l.zipIdx k) = (p ++ l).toArray
  | [], k, p, q, hp, hq => by
    have : q = [] := List.length_eq_zero_iff.1 hq
    subst this; rfl
  | x :: l, k, p, [], hp, hq => by simp at hq
  | x :: l, k, p, y :: q, hp, hq => by
    rw [List.zipIdx_cons, List.foldl_cons]
    have e : ((p ++ y :: q).toArray.setIfInBounds k x) = ((p ++ [x]) ++ q).toArray := by
      rw [List.setIfInBounds_toArray, List.set_append_right _ _ (by omega), ← hp, Nat.sub_self, List.set_cons_zero, List.append_assoc]; rfl
    show List.foldl _ ((p ++ y :: q).toArray.setIfInBounds k x) _ = _
    rw [e, fold_set0 l (k + 1) (p ++ [x]) q (by rw [List.length_append]; simp; omega) (by simpa using hq), List.append_assoc]; rfl
theorem fold_pair2 (u : Value) (cs : Array Value) (h : cs.size = 25) : Array.foldl (fun (cs : Array Value) (x : Value × Nat) => cs.setIfInBounds x.snd x.fst) #[u, .slice none 0 0, .slice none 0 0, .slice none 0 0, .slice none 0 0, .slice none 0 0, .slice none 0 0, .slice none 0 0, .slice none 0 0, .slice none 0 0, .slice none 0 0, .slice none 0 0, .slice none 0 0, .slice none 0 0, .slice none 0 0, .slice none 0 0, .slice none 0 0, .slice none 0 0, .slice none 0 0, .slice none 0 0, .slice none 0 0, .slice none 0 0, .slice none 0 0, .slice none 0 0, .slice none 0 0] cs.zipIdx 0 25 = cs := by
  have e : (25 : Nat) = cs.zipIdx.size := by simp [h]
  have e2 : Array.foldl (fun (cs : Array Value) (x : Value × Nat) => cs.setIfInBounds x.snd x.fst) #[u, .slice none 0 0, .slice none 0 0, .slice none 0 0, .slice none 0 0, .slice none 0 0, .slice none 0 0, .slice none 0 0, .slice none 0 0, .slice none 0 0, .slice none 0 0, .slice none 0 0, .slice none 0 0, .slice none 0 0, .slice none 0 0, .slice none 0 0, .slice none 0 0, .slice none 0 0, .slice none 0 0, .slice none 0 0, .slice none 0 0, .slice none 0 0, .slice none 0 0, .slice none 0 0, .slice none 0 0] cs.zipIdx 0 25 = List.foldl (fun (cs : Array Value) (x : Value × Nat) => cs.setIfInBounds x.snd x.fst) #[u, .slice none 0 0, .slice none 0 0, .slice none 0 0, .slice none 0 0, .slice none 0 0, .slice none 0 0, .slice none 0 0, .slice none 0 0, .slice none 0 0, .slice none 0 0, .slice none 0 0, .slice none 0 0, .slice none 0 0, .slice none 0 0, .slice none 0 0, .slice none 0 0, .slice none 0 0, .slice none 0 0, .slice none 0 0, .slice none 0 0, .slice none 0 0, .slice none 0 0, .slice none 0 0, .slice none 0 0] (cs.toList.zipIdx 0) := by
    rw [e, ← Array.foldl_toList, Array.toList_zipIdx]
  rw [e2]
  have := fold_set0 cs.toList 0 [] [u, .slice none 0 0, .slice none 0 0, .slice none 0 0, .slice none 0 0, .slice none 0 0, .slice none 0 0, .slice none 0 0, .slice none 0 0, .slice none 0 0, .slice none 0 0, .slice none 0 0, .slice none 0 0, .slice none 0 0, .slice none 0 0, .slice none 0 0, .slice none 0 0, .slice none 0 0, .slice none 0 0, .slice none 0 0, .slice none 0 0, .slice none 0 0, .slice none 0 0, .slice none 0 0, .slice none 0 0] rfl (by have e3 : cs.toList.length = 25 := h; rw [e3]; rfl)
  exact this
theorem load_box {w : World} {o : Oper} {f : Operand → Value} {x : Operand} {ty : TypeId} {cs : Array Value} (g : Nat) (hx : f x = .pointer (some ⟨g, 0, none⟩)) (ho : o.op = .load ty x)
    (hld : (loadVar ty ⟨g, 0, none⟩).run Tryd.prog w = .ok (.agg cs) w) : (execOp f o).run Tryd.prog w = .ok (.value (.agg cs)) w := by
  unfold execOp
  simp only [ho, hx, Instr.loadAt, Instr.sureAddr, Sem.run_bind, Sem.run_pure, Result.andThen_ok, hld]
set_option maxHeartbeats 4000000 in
theorem addPair_any (sb B k i : Nat) (A A1 A2 : Option Addr) (n cp n1 c1 n2 c2 : Nat) (ss : List Sym) (a b : List Int) (PS : List Pr) (os : List Nat) (w : World) (h : Bld w sb B PS os) (hk : os.length = k + 1) (hk3 : k ≤ 1000) (hN : PS.length < 60)
    (hs : SymsAt w w.heap.size A n ss) (hn : n ≤ maxLen) (ha : IntsAt w w.heap.size A1 n1 a) (hb : IntsAt w B A2 n2 b) (hc2 : n2 ≤ c2) (hra : rowB ss a = true) (hrb : rowB ss b = true) :
    Calls Tryd.prog 53 #[.pointer (some ⟨sb, 0, none⟩), .slice A n cp, .slice A1 n1 c1, .int .i64 (i : Int), .slice A2 n2 c2] w (AddPost sb B k i ss a b PS os w) := by
  obtain ⟨hz, hzs⟩ := zero_of_info parts_info
  have HLE := Lib.hid h.le
  have HLT := Lib.hid h.lt
  have hBw : B ≤ w.heap.size := by have := h.le; have := h.lt; omega
  have HBL := Lib.hid h
  have HG := Lib.hid h.good
  have HK := Lib.hid hk
  clear h hk
  go_enter Tryd.func53, Tryd.ntmps53
  go_wp2_with fail
  refine (compare_any A A1 A2 n cp n1 c1 n2 c2 B ss a b w hs hn ha hb hBw hc2 hra hrb).mono ?_
  rintro e w3 ⟨cs, T, rfl, hp, hT, hb3⟩
  have HPC := Lib.hid hp
  have HT := Lib.hid hT
  have HB3 := Lib.hid hb3
  have hcsz := hp.1
  have hsc := run_storeC (P := Tryd.prog) (w3.alloc (.cells nilC 119)) w3.heap.size _ nilC cs (heap_alloc_new _ _) (by rw [hcsz]; rfl) hp.one
  rw [World.setRow_alloc_new] at hsc
  clear hp hT hb3 hs hn ha hb hc2 hra hrb hBw
  cases hm : (mt ss b noT 0 a).isSome
  · have H : Hid (addP ss k i a b = []) := by show addP ss k i a b = []; unfold addP; rw [Option.isSome_eq_false_iff, Option.isNone_iff_eq_none] at hm; rw [hm]
    clear hm
    go_wp2
    clear hsc
    (first | go_end0 | refine bodyPost_ret (results_none rfl _ _ _) rfl ?_)
    have hb4 : Below w.heap.size w (w3.alloc (.cells cs 119)) := HB3.out.trans ((below_new w3 _).mono HB3.out.size)
    exact ⟨rfl, ⟨os, rfl, by rw [H.out, List.append_nil]; exact HBL.out.on hb4⟩, Chg.of_below hb4 (Nat.le_of_lt HLT.out)⟩
  · have HM := Lib.hid (HT.out hm)
    have H : Hid (addP ss k i a b = [⟨k, i, T⟩]) := by show addP ss k i a b = _; unfold addP; rw [HM.out]
    clear hm
    go_wp2_with fail
    clear hsc
    obtain ⟨w4, hw4⟩ : ∃ w4, w4 = w3.alloc (.cells cs 119) := ⟨_, rfl⟩
    rw [← hw4]
    have hb4 : Below w.heap.size w w4 := by rw [hw4]; exact HB3.out.trans ((below_new w3 _).mono HB3.out.size)
    have hx4 : w4.heap[w3.heap.size]? = some (.cells cs 119 (0, 0)) := by rw [hw4]; exact heap_alloc_new _ _
    have HX4 := Lib.hid hx4
    have HPC4 : Hid (PartsC w4 B cs T) := by rw [hw4]; exact HPC.out.below ((below_new w3 _).mono (by have := HLE.out; have := HLT.out; have := HB3.out.size; omega))
    have HB4 := Lib.hid hb4
    have hBL := HBL.out.on hb4
    obtain ⟨v0, v1, hS, hP, hW⟩ := hBL.ex
    obtain ⟨A0, c0, rfl⟩ := hP.len_
    obtain ⟨g1, cap1, rfl, q1, q2, q3, q4, q5⟩ := hW.cells (by have := HK.out; omega)
    rw [HK.out] at hS hW q3 q4
    have d0 := hS.c0
    have d1 := hS.c1
    have hcell := q4 k (by omega)
    have hfz := q5 k
    obtain ⟨x, hx⟩ : ∃ x, x = wAt os k := ⟨_, rfl⟩
    obtain ⟨N, hNN⟩ : ∃ N, N = PS.length := ⟨_, rfl⟩
    rw [← hx] at hcell
    rw [← hNN] at hS d0 hN hP
    have HQ : Hid (2 ^ N < 2 ^ 64) := Nat.pow_lt_pow_right (by omega) (by omega)
    have hxs : x < 2 ^ 64 := by
      have := HG.out.few (k := k) (by rw [HK.out]; omega)
      rw [← hx, ← hNN] at this
      exact Nat.lt_trans this HQ.out
    obtain ⟨q, hq⟩ : ∃ q, q = 2 ^ N := ⟨_, rfl⟩
    have hq64 : q < 2 ^ 64 := by rw [hq]; exact HQ.out
    have hsh : ∀ yk, Op.shift .shl .u64 1 yk (N : Int) = pure (.int .u64 (q : Int)) := fun yk => by
      rw [shift_shl .u64 yk 1 (N : Int) (by omega) (by show (N : Int) ≤ 64; omega)]
      have : IntKind.u64.wrap (1 * 2 ^ ((N : Int)).toNat) = (q : Int) := by
        rw [Int.one_mul, Int.toNat_natCast]
        have e : ((2 : Int) ^ N) = ((2 ^ N : Nat) : Int) := by norm_cast
        rw [e, ← hq]
        exact wrap_u64_nat hq64
      rw [this]
    obtain ⟨r, hr⟩ : ∃ r, r = x ||| q := ⟨_, rfl⟩
    have hor : bits .or .u64 (x : Int) (q : Int) = (r : Int) := by rw [hr]; exact bits_or_w hxs hq64
    have HR : Hid (r = wAt os k ||| 2 ^ PS.length) := by show _ = _; rw [hr, hx, hq, hNN]
    have HN2 := Lib.hid hNN
    have HN3 := Lib.hid hN
    clear hx hq hr hNN hxs hq64 hN
    have hix : IntKind.i64.wrap (k : Int) = (k : Int) := IntWalk.i64_in _ (by omega)
    refine wp_region_held_drew (S := (fun w' => w'.cell? ⟨sb, 1, none⟩ = some (.slice (some ⟨g1, 0, none⟩) (k + 1) cap1) ∧ w'.cell? ⟨sb, 0, none⟩ = some (.slice A0 N c0))) (by kernel_rfl) ⟨d1, d0⟩ (fun hHeld => ?_)
    have hd : Below w4.heap.size w4 w4.drew := (Below.refl w4.heap.size w4).drew
    obtain ⟨w5, hw5⟩ : ∃ w5, w5 = w4.drew := ⟨_, rfl⟩
    rw [← hw5] at hd hHeld ⊢
    clear hw5
    have HX5 : Hid (w5.heap[w3.heap.size]? = some (.cells cs 119 (0, 0))) := by show _ = _; rw [hd.block _ (Array.getElem?_eq_some_iff.1 HX4.out).1]; exact HX4.out
    have hcell5 : w5.cell? ⟨g1, k, none⟩ = some (.int .u64 (x : Int)) := by rw [hd.cell (p := ⟨g1, k, none⟩) q2]; exact hcell
    have hB4 : B ≤ w4.heap.size := by have := HLE.out; have := HLT.out; have := HB4.out.size; omega
    have HPC5 : Hid (PartsC w5 B cs T) := HPC4.out.below (hd.mono hB4)
    have HS5 := Lib.hid (hS.on hd)
    have HP5 := Lib.hid (hP.on hd hB4)
    have HW5 := Lib.hid (hW.on hd)
    have hfz5 : w5.frozen? ⟨g1, k, none⟩ = false := HW5.out.frozen k
    have d1' := HS5.out.c1
    have d0' := HS5.out.c0
    have hg1 : sb + 1 ≤ g1 := q1
    have HB5 := Lib.hid (HB4.out.trans (hd.mono HB4.out.size))
    have zk0 : (0 : Int) ≤ (k : Int) := by omega
    have zk1 : (k : Int) < (k : Int) + 1 := by omega
    clear hcell hfz hS hP hW d0 d1 hd q4 q5 hx4 hw4 hb4 hBL
    refine takeH (i := 0) (v := ?_) rfl rfl (by kernel_rfl) (by kernel_rfl) (by kernel_rfl) (fun _ _ _ h => h) (by rfl) ?_ hHeld ?_
    rotate_left
    · (intro w hSw; (try dsimp only at hSw); first | (go_simp; done) | (go_simp; with_reducible rfl))
    simp only [Act.put, List.setIfInBounds_toArray, List.set_cons_zero, List.set_cons_succ]
    refine takeH (i := 1) (v := ?_) rfl rfl (by kernel_rfl) (by kernel_rfl) (by kernel_rfl) (fun _ _ _ h => h) (by rfl) ?_ hHeld ?_
    rotate_left
    · (intro w hSw; (try dsimp only at hSw); first | (go_simp; done) | (go_simp; with_reducible rfl))
    simp only [Act.put, List.setIfInBounds_toArray, List.set_cons_zero, List.set_cons_succ]
    refine takeH (i := 2) (v := ?_) rfl rfl (by kernel_rfl) (by kernel_rfl) (by kernel_rfl) (fun _ _ _ h => h) (by rfl) ?_ hHeld ?_
    rotate_left
    · (intro w hSw; (try dsimp only at hSw); first | (go_simp; done) | (go_simp; with_reducible rfl))
    simp only [Act.put, List.setIfInBounds_toArray, List.set_cons_zero, List.set_cons_succ]
    refine takeH (i := 3) (v := ?_) rfl rfl (by kernel_rfl) (by kernel_rfl) (by kernel_rfl) (fun _ _ _ h => h) (by rfl) ?_ hHeld ?_
    rotate_left
    · (intro w hSw; (try dsimp only at hSw); first | (go_simp; done) | (go_simp; with_reducible rfl))
    simp only [Act.put, List.setIfInBounds_toArray, List.set_cons_zero, List.set_cons_succ]
    refine takeH (i := 4) (v := ?_) rfl rfl (by kernel_rfl) (by kernel_rfl) (by kernel_rfl) (fun _ _ _ h => h) (by rfl) ?_ hHeld ?_
    rotate_left
    · (intro w hSw; (try dsimp only at hSw); first | (go_simp; done) | (go_simp; with_reducible rfl))
    simp only [Act.put, List.setIfInBounds_toArray, List.set_cons_zero, List.set_cons_succ]
    refine takeH (i := 5) (v := ?_) rfl rfl (by kernel_rfl) (by kernel_rfl) (by kernel_rfl) (fun _ _ _ h => h) (by rfl) ?_ hHeld ?_
    rotate_left
    · (intro w hSw; (try dsimp only at hSw); first | (go_simp; done) | (go_simp; with_reducible rfl))
    simp only [Act.put, List.setIfInBounds_toArray, List.set_cons_zero, List.set_cons_succ]
    refine takeH (i := 6) (v := ?_) rfl rfl (by kernel_rfl) (by kernel_rfl) (by kernel_rfl) (fun _ _ _ h => h) (by rfl) ?_ hHeld ?_
    rotate_left
    · (intro w hSw; (try dsimp only at hSw); first | (go_simp; done) | (go_simp; with_reducible rfl))
    simp only [Act.put, List.setIfInBounds_toArray, List.set_cons_zero, List.set_cons_succ]
    refine takeH (i := 7) (v := ?_) rfl rfl (by kernel_rfl) (by kernel_rfl) (by kernel_rfl) (fun _ _ _ h => h) (by rfl) ?_ hHeld ?_
    rotate_left
    · (intro w hSw; (try dsimp only at hSw); first | (go_simp; done) | (go_simp; with_reducible rfl))
    simp only [Act.put, List.setIfInBounds_toArray, List.set_cons_zero, List.set_cons_succ]
    refine takeH (i := 8) (v := ?_) rfl rfl (by kernel_rfl) (by kernel_rfl) (by kernel_rfl) (fun _ _ _ h => h) (by rfl) ?_ hHeld ?_
    rotate_left
    · (intro w hSw; (try dsimp only at hSw); first | (go_simp; done) | (go_simp; with_reducible rfl))
    simp only [Act.put, List.setIfInBounds_toArray, List.set_cons_zero, List.set_cons_succ]
    refine takeH (i := 9) (v := ?_) rfl rfl (by kernel_rfl) (by kernel_rfl) (by kernel_rfl) (fun _ _ _ h => h) (by rfl) ?_ hHeld ?_
    rotate_left
    · (intro w hSw; (try dsimp only at hSw); first | (go_simp; done) | (go_simp; with_reducible rfl))
    simp only [Act.put, List.setIfInBounds_toArray, List.set_cons_zero, List.set_cons_succ]
    refine takeH (i := 10) (v := ?_) rfl rfl (by kernel_rfl) (by kernel_rfl) (by kernel_rfl) (fun _ _ _ h => h) (by rfl) ?_ hHeld ?_
    rotate_left
    · (intro w hSw; (try dsimp only at hSw); first | (go_simp; done) | (go_simp; with_reducible rfl))
    simp only [Act.put, List.setIfInBounds_toArray, List.set_cons_zero, List.set_cons_succ]
    refine takeH (i := 12) (v := ?_) rfl rfl (by kernel_rfl) (by kernel_rfl) (by kernel_rfl) (fun _ _ _ h => h) (by rfl) ?_ hHeld ?_
    rotate_left
    · (intro w hSw; (try dsimp only at hSw); first | (go_simp; done) | (go_simp; with_reducible rfl))
    simp only [Act.put, List.setIfInBounds_toArray, List.set_cons_zero, List.set_cons_succ]
    refine takeH (i := 13) (v := ?_) rfl rfl (by kernel_rfl) (by kernel_rfl) (by kernel_rfl) (fun _ _ _ h => h) (by rfl) ?_ hHeld ?_
    rotate_left
    · (intro w hSw; (try dsimp only at hSw); first | (go_simp; done) | (go_simp; with_reducible rfl))
    simp only [Act.put, List.setIfInBounds_toArray, List.set_cons_zero, List.set_cons_succ]
    refine takeH (i := 14) (v := ?_) rfl rfl (by kernel_rfl) (by kernel_rfl) (by kernel_rfl) (fun _ _ _ h => h) (by rfl) ?_ hHeld ?_
    rotate_left
    · (intro w hSw; (try dsimp only at hSw); first | (go_simp; done) | (go_simp; with_reducible rfl))
    simp only [Act.put, List.setIfInBounds_toArray, List.set_cons_zero, List.set_cons_succ]
    refine takeH (i := 15) (v := ?_) rfl rfl (by kernel_rfl) (by kernel_rfl) (by kernel_rfl) (fun _ _ _ h => h) (by rfl) ?_ hHeld ?_
    rotate_left
    · (intro w hSw; (try dsimp only at hSw); first | (go_simp; done) | (go_simp; with_reducible rfl))
    simp only [Act.put, List.setIfInBounds_toArray, List.set_cons_zero, List.set_cons_succ]
    refine takeH (i := 16) (v := ?_) rfl rfl (by kernel_rfl) (by kernel_rfl) (by kernel_rfl) (fun _ _ _ h => h) (by rfl) ?_ hHeld ?_
    rotate_left
    · (intro w hSw; (try dsimp only at hSw); first | (go_simp; done) | (go_simp; with_reducible rfl))
    simp only [Act.put, List.setIfInBounds_toArray, List.set_cons_zero, List.set_cons_succ]
    refine takeH (i := 17) (v := ?_) rfl rfl (by kernel_rfl) (by kernel_rfl) (by kernel_rfl) (fun _ _ _ h => h) (by rfl) ?_ hHeld ?_
    rotate_left
    · (intro w hSw; (try dsimp only at hSw); first | (go_simp; done) | (go_simp; with_reducible rfl))
    simp only [Act.put, List.setIfInBounds_toArray, List.set_cons_zero, List.set_cons_succ]
    refine wpAnyH_ready (rs := [11]) (by kernel_rfl) (by simp) ?_
    refine AllReadyH.cons rfl (fun K hK => ?_) AllReadyH.nil
    go_simp
    refine hK.out _ _ ?_ (fun hHeld => ?_)
    · exact ⟨d1', d0'⟩
    clear hK K
    refine takeH (i := 18) (v := ?_) rfl rfl (by kernel_rfl) (by kernel_rfl) (by kernel_rfl) (fun _ _ _ h => h) (by rfl) ?_ hHeld ?_
    rotate_left
    · (intro w hSw; (try dsimp only at hSw); first | (go_simp; done) | (go_simp; with_reducible rfl))
    simp only [Act.put, List.setIfInBounds_toArray, List.set_cons_zero, List.set_cons_succ]
    refine takeH (i := 19) (v := ?_) rfl rfl (by kernel_rfl) (by kernel_rfl) (by kernel_rfl) (fun _ _ _ h => h) (by rfl) ?_ hHeld ?_
    rotate_left
    · (intro w hSw; (try dsimp only at hSw); first | (go_simp; done) | (go_simp; with_reducible rfl))
    simp only [Act.put, List.setIfInBounds_toArray, List.set_cons_zero, List.set_cons_succ]
    refine wpAnyH_ready (rs := [20]) (by kernel_rfl) (by simp) ?_
    refine AllReadyH.cons rfl (fun K hK => ?_) AllReadyH.nil
    go_simp
    refine hK.out _ _ ?_ (fun hHeld => ?_)
    · have hc6 : Chg [97] (sb + 1) w5 (w5.setCell ⟨g1, k, none⟩ (.int .u64 (r : Int))) := HW5.out.put_chg _
      exact ⟨(HS5.out.chg hc6 (by decide)).c1, (HS5.out.chg hc6 (by decide)).c0⟩
    clear hK K
    refine wpAnyH_done (by kernel_rfl) ?_ _
    have hc6 : Chg [97] (sb + 1) w5 (w5.setCell ⟨g1, k, none⟩ (.int .u64 (r : Int))) := HW5.out.put_chg _
    have hW6 := HW5.out.put (i := k) r
    obtain ⟨w6, hw6⟩ : ∃ w6, w6 = w5.setCell ⟨g1, k, none⟩ (.int .u64 (r : Int)) := ⟨_, rfl⟩
    rw [← hw6] at hc6 hW6 ⊢
    clear hw6
    have hS6 := HS5.out.chg hc6 (by decide)
    have hP6 := HP5.out.chg hc6 (by decide) (by have := HLE.out; omega)
    have hX6 := hc6.blk _ _ _ _ HX5.out (by decide)
    have HPC6 : Hid (PartsC w6 B cs T) := HPC5.out.below (hc6.bel.mono (by have := HLE.out; omega))
    have HC6 : Hid (Chg SK sb w w6) := ((Chg.of_below HB5.out (Nat.le_of_lt HLT.out)).trans ((hc6.lower (by omega)).wide (by decide)))
    clear hcell5 hfz5 d1' d0' zk0 zk1 hix hor hsh hc6 q2 q3
    go_wp2_with fail
    refine wp_region_held_drew (S := (fun w' => w'.heap[w3.heap.size]? = some (.cells cs 119 (0, 0)))) (by kernel_rfl) hX6 (fun hHeld => ?_)
    have hd : Below w6.heap.size w6 w6.drew := (Below.refl w6.heap.size w6).drew
    obtain ⟨w7, hw7⟩ : ∃ w7, w7 = w6.drew := ⟨_, rfl⟩
    rw [← hw7] at hd hHeld ⊢
    clear hw7
    have hB6 : B ≤ w6.heap.size := by have := HLE.out; have := HLT.out; have := HC6.out.bel.size; omega
    have HS7 := Lib.hid (hS6.on hd)
    have HP7 := Lib.hid (hP6.on hd hB6)
    have HW7 := Lib.hid (hW6.on hd)
    have HX7 : Hid (w7.heap[w3.heap.size]? = some (.cells cs 119 (0, 0))) := by show _ = _; rw [hd.block _ (Array.getElem?_eq_some_iff.1 hX6).1]; exact hX6
    have HPC7 : Hid (PartsC w7 B cs T) := HPC6.out.below (hd.mono hB6)
    have HC7 : Hid (Chg SK sb w w7) := HC6.out.trans (Chg.of_below hd (by have := HLT.out; have := HC6.out.bel.size; omega))
    have d0 := HS7.out.c0
    clear hS6 hP6 hW6 hX6 hd hB6
    have FP := fold_pair (.int .i64 (i : Int)) cs hcsz
    have FP := Lib.hid FP
    refine takeH (i := 0) (v := ?_) rfl rfl (by kernel_rfl) (by kernel_rfl) (by kernel_rfl) (fun _ _ _ h => h) (by rfl) ?_ hHeld ?_
    rotate_left
    · (intro w hSw; (try dsimp only at hSw); first | (go_simp; done) | (go_simp; with_reducible rfl))
    simp only [Act.put, List.setIfInBounds_toArray, List.set_cons_zero, List.set_cons_succ]
    refine takeH (i := 1) (v := ?_) rfl rfl (by kernel_rfl) (by kernel_rfl) (by kernel_rfl) (fun _ _ _ h => h) (by rfl) ?_ hHeld ?_
    rotate_left
    · (intro w hSw; (try dsimp only at hSw); first | (go_simp; done) | (go_simp; with_reducible rfl))
    simp only [Act.put, List.setIfInBounds_toArray, List.set_cons_zero, List.set_cons_succ]
    refine takeH (i := 2) (v := ?_) rfl rfl (by kernel_rfl) (by kernel_rfl) (by kernel_rfl) (fun _ _ _ h => h) (by rfl) ?_ hHeld ?_
    rotate_left
    · (intro w hSw; (try dsimp only at hSw); first | (go_simp; done) | (go_simp; with_reducible rfl))
    simp only [Act.put, List.setIfInBounds_toArray, List.set_cons_zero, List.set_cons_succ]
    refine takeH (i := 3) (v := ?_) rfl rfl (by kernel_rfl) (by kernel_rfl) (by kernel_rfl) (fun _ _ _ h => h) (by rfl) ?_ hHeld ?_
    rotate_left
    · (intro w hSw; (try dsimp only at hSw); first | (go_simp; done) | (go_simp; with_reducible rfl))
    simp only [Act.put, List.setIfInBounds_toArray, List.set_cons_zero, List.set_cons_succ]
    refine takeH (i := 5) (v := ?_) rfl rfl (by kernel_rfl) (by kernel_rfl) (by kernel_rfl) (fun _ _ _ h => h) (by rfl) ?_ hHeld ?_
    rotate_left
    · (intro w hSw; (try dsimp only at hSw); first | (go_simp; done) | (go_simp; with_reducible rfl))
    simp only [Act.put, List.setIfInBounds_toArray, List.set_cons_zero, List.set_cons_succ]
    refine takeH (i := 6) (v := .agg cs) rfl rfl (by kernel_rfl) (by kernel_rfl) (by kernel_rfl) (fun _ _ _ h => h) (by rfl) ?_ hHeld ?_
    · intro w hSw
      exact load_box w3.heap.size rfl rfl (run_loadVar_row (P := Tryd.prog) w w3.heap.size 119 119 cs (0, 0) _ hSw Tryd.underlying119 rfl (by rw [hcsz]; exact hzs))
    simp only [Act.put, List.setIfInBounds_toArray, List.set_cons_zero, List.set_cons_succ]
    refine takeH (i := 7) (v := .agg (#[.int .i64 (i : Int)] ++ cs)) rfl rfl (by kernel_rfl) (by kernel_rfl) (by kernel_rfl) (fun _ _ _ h => h) (by rfl) ?_ hHeld ?_
    · intro w hSw
      go_simp
      all_goals exact FP.out
    simp only [Act.put, List.setIfInBounds_toArray, List.set_cons_zero, List.set_cons_succ]
    have hbase : sb + 1 ≤ w7.heap.size := by have := HLT.out; have := HC7.out.bel.size; omega
    have hna := below_new w7 (.cells (#[.int .i64 (i : Int)] ++ cs) 123)
    have d0n : (w7.alloc (.cells (#[.int .i64 (i : Int)] ++ cs) 123)).cell? ⟨sb, 0, none⟩ = some (.slice A0 N c0) := by rw [hna.cell (p := ⟨sb, 0, none⟩) hbase]; exact d0
    have HXN : Hid ((w7.alloc (.cells (#[.int .i64 (i : Int)] ++ cs) 123)).heap[w3.heap.size]? = some (.cells cs 119 (0, 0))) := by
      show _ = _; rw [hna.block _ (Array.getElem?_eq_some_iff.1 HX7.out).1]; exact HX7.out
    clear hna
    have FP2 := fold_pair2 (.int .i64 0) (#[.int .i64 (i : Int)] ++ cs) (by rw [Array.size_append, hcsz]; rfl)
    refine wpAnyH_ready (rs := [4, 8]) (by kernel_rfl) (by simp) ?_
    refine AllReadyH.cons rfl (fun K hK => ?_) (AllReadyH.cons rfl (fun K hK => ?_) AllReadyH.nil)
    · skip
      go_simp
      refine hK.out _ _ ?_ (fun hHeld => ?_)
      · exact HX7.out
      clear hK K
      refine wpAnyH_ready (rs := [8]) (by kernel_rfl) (by simp) ?_
      refine AllReadyH.cons rfl (fun K hK => ?_) AllReadyH.nil
      go_simp
      refine hK.out _ _ ?_ (fun hHeld => ?_)
      · exact HXN.out
      clear hK K
      refine wpAnyH_ready (rs := [9]) (by kernel_rfl) (by simp) ?_
      refine AllReadyH.cons rfl (fun K hK => ?_) AllReadyH.nil
      refine app_p_step rfl (.tmp 44) (.tmp 48) rfl (sb + 1) B _ PS ⟨k, i, T⟩ cs rfl HP7.out HPC7.out rfl rfl (by have := HN3.out; have := HN2.out; omega) hbase (by have := HLE.out; omega) ?_
      intro v8 w8 hown8 hc8
      obtain ⟨A8, n8, c8, rfl⟩ := hown8.slice_
      have HX8 : Hid (w8.heap[w3.heap.size]? = some (.cells cs 119 (0, 0))) := hc8.blk _ _ _ _ HX7.out (by decide)
      have HP8 := Lib.hid hown8
      have HS8 := Lib.hid (HS7.out.chg hc8 (by decide))
      have HW8 := Lib.hid (HW7.out.chg hc8 (by decide))
      have HC8 : Hid (Chg SK sb w w8) := HC7.out.trans ((hc8.lower (by omega)).wide (by decide))
      have e0 := HS8.out.c0
      have efz := HS8.out.frozen 0
      clear hown8 hc8
      refine hK.out _ _ ?_ (fun hHeld => ?_)
      · exact HX8.out
      clear hK K
      refine takeH (i := 10) (v := ?_) rfl rfl (by kernel_rfl) (by kernel_rfl) (by kernel_rfl) (fun _ _ _ h => h) (by rfl) ?_ hHeld ?_
      rotate_left
      · (intro w hSw; (try dsimp only at hSw); first | (go_simp; done) | (go_simp; with_reducible rfl))
      simp only [Act.put, List.setIfInBounds_toArray, List.set_cons_zero, List.set_cons_succ]
      refine takeH (i := 11) (v := ?_) rfl rfl (by kernel_rfl) (by kernel_rfl) (by kernel_rfl) (fun _ _ _ h => h) (by rfl) ?_ hHeld ?_
      rotate_left
      · (intro w hSw; (try dsimp only at hSw); first | (go_simp; done) | (go_simp; with_reducible rfl))
      simp only [Act.put, List.setIfInBounds_toArray, List.set_cons_zero, List.set_cons_succ]
      refine wpAnyH_ready (rs := [12]) (by kernel_rfl) (by simp) ?_
      refine AllReadyH.cons rfl (fun K hK => ?_) AllReadyH.nil
      go_simp
      refine hK.out _ _ ?_ (fun hHeld => ?_)
      · exact (HS8.out.set_chg 0 _).blk _ _ _ _ HX8.out (by decide)
      clear hK K
      refine wpAnyH_done (by kernel_rfl) ?_ _
      go_wp2
      (first | go_end0 | refine bodyPost_ret (results_none rfl _ _ _) rfl ?_)
      have hset := HS8.out.set_chg 0 (.slice A8 n8 c8)
      refine ⟨rfl, ⟨os.set k r, by rw [List.length_set], ⟨⟨_, _, HS8.out.set0 _, ?_, HW8.out.chg hset (by decide)⟩, HLE.out, ?_⟩⟩, HC8.out.trans (hset.wide (by decide))⟩
      · rw [H.out]; exact HP8.out.chg hset (by decide) HLE.out
      · rw [H.out, HR.out]; exact HG.out.pair HK.out
    · skip
      go_simp
      refine hK.out _ _ ?_ (fun hHeld => ?_)
      · exact HXN.out
      clear hK K
      refine wpAnyH_ready (rs := [4]) (by kernel_rfl) (by simp) ?_
      refine AllReadyH.cons rfl (fun K hK => ?_) AllReadyH.nil
      go_simp
      refine hK.out _ _ ?_ (fun hHeld => ?_)
      · exact HXN.out
      clear hK K
      refine wpAnyH_ready (rs := [9]) (by kernel_rfl) (by simp) ?_
      refine AllReadyH.cons rfl (fun K hK => ?_) AllReadyH.nil
      refine app_p_step rfl (.tmp 44) (.tmp 48) rfl (sb + 1) B _ PS ⟨k, i, T⟩ cs rfl HP7.out HPC7.out rfl rfl (by have := HN3.out; have := HN2.out; omega) hbase (by have := HLE.out; omega) ?_
      intro v8 w8 hown8 hc8
      obtain ⟨A8, n8, c8, rfl⟩ := hown8.slice_
      have HX8 : Hid (w8.heap[w3.heap.size]? = some (.cells cs 119 (0, 0))) := hc8.blk _ _ _ _ HX7.out (by decide)
      have HP8 := Lib.hid hown8
      have HS8 := Lib.hid (HS7.out.chg hc8 (by decide))
      have HW8 := Lib.hid (HW7.out.chg hc8 (by decide))
      have HC8 : Hid (Chg SK sb w w8) := HC7.out.trans ((hc8.lower (by omega)).wide (by decide))
      have e0 := HS8.out.c0
      have efz := HS8.out.frozen 0
      clear hown8 hc8
      refine hK.out _ _ ?_ (fun hHeld => ?_)
      · exact HX8.out
      clear hK K
      refine takeH (i := 10) (v := ?_) rfl rfl (by kernel_rfl) (by kernel_rfl) (by kernel_rfl) (fun _ _ _ h => h) (by rfl) ?_ hHeld ?_
      rotate_left
      · (intro w hSw; (try dsimp only at hSw); first | (go_simp; done) | (go_simp; with_reducible rfl))
      simp only [Act.put, List.setIfInBounds_toArray, List.set_cons_zero, List.set_cons_succ]
      refine takeH (i := 11) (v := ?_) rfl rfl (by kernel_rfl) (by kernel_rfl) (by kernel_rfl) (fun _ _ _ h => h) (by rfl) ?_ hHeld ?_
      rotate_left
      · (intro w hSw; (try dsimp only at hSw); first | (go_simp; done) | (go_simp; with_reducible rfl))
      simp only [Act.put, List.setIfInBounds_toArray, List.set_cons_zero, List.set_cons_succ]
      refine wpAnyH_ready (rs := [12]) (by kernel_rfl) (by simp) ?_
      refine AllReadyH.cons rfl (fun K hK => ?_) AllReadyH.nil
      go_simp
      refine hK.out _ _ ?_ (fun hHeld => ?_)
      · exact (HS8.out.set_chg 0 _).blk _ _ _ _ HX8.out (by decide)
      clear hK K
      refine wpAnyH_done (by kernel_rfl) ?_ _
      go_wp2
      (first | go_end0 | refine bodyPost_ret (results_none rfl _ _ _) rfl ?_)
      have hset := HS8.out.set_chg 0 (.slice A8 n8 c8)
      refine ⟨rfl, ⟨os.set k r, by rw [List.length_set], ⟨⟨_, _, HS8.out.set0 _, ?_, HW8.out.chg hset (by decide)⟩, HLE.out, ?_⟩⟩, HC8.out.trans (hset.wide (by decide))⟩
      · rw [H.out]; exact HP8.out.chg hset (by decide) HLE.out
      · rw [H.out, HR.out]; exact HG.out.pair HK.out
end Go.Proofs.YtcjpopjcpgipjaaDoor
