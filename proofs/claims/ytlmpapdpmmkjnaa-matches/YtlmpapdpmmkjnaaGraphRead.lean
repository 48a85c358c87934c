/-
  Contracts: the program's add, and slices.Clone, slices.Reverse.
  Contract: the program's read.
-/
import Derived.Test.YtlmpapdpmmkjnaaGraphLen
import Derived.Lib.SliceRun
namespace Go.Proofs.Ytlmpapdpmmkjnaa
open Go.RowKit
set_option linter.unusedSimpArgs false
set_option linter.unusedVariables false
set_option maxRecDepth 100000

/-- As OwnN, GraphAt; and no node's row lies in block x. -/
def OwnX (w : World) (base : Nat) (v : Value) (G : List Nd) (x : Option Nat) : Prop :=
  ∃ vs : List Value, vs.length = G.length ∧ w.ownsRow base 80 4 v G.length (ndCells G vs) ∧ ∀ i, i < G.length → OwnI w base (valAt vs i) (nats (ndAt G i).args) ∧ ((valAt vs i).ownBlock = none ∨ (valAt vs i).ownBlock ≠ x)
def GraphOff (w : World) (base gb : Nat) (G : List Nd) (x : Option Nat) : Prop := ∃ v, w.heap[gb]? = some (.cells #[v] 61 (0, 0)) ∧ base ≤ gb ∧ OwnX w base v G x
section
variable {w w' : World} {base gb : Nat} {v u : Value} {G : List Nd} {x : Option Nat}
theorem OwnX.value (h : OwnX w base v G x) : ∃ A c, v = .slice A G.length c := by
  obtain ⟨vs, h1, h2, h3⟩ := h
  rcases h2.2 with ⟨q, e⟩ | ⟨g, cap, cur, q, _⟩
  · rw [e]; exact ⟨_, _, q⟩
  · exact ⟨_, _, q⟩
theorem OwnX.chg {es : List TypeId} {b : Nat} (h : OwnX w base v G x) (hc : Chg es b w w') (h2 : 80 ∉ es) (h3 : 3 ∉ es) : OwnX w' base v G x := by
  obtain ⟨vs, q3, q4, q5⟩ := h
  exact ⟨vs, q3, hc.rows h2 q4, fun i hi => ⟨hc.own h3 (q5 i hi).1, (q5 i hi).2⟩⟩
/-- 'x = append(x, node{..})', x and the node's row made by the call. -/
theorem app_node_op {o : Oper} {a : Act} {K : Act → World → Prop} {Q : Exit → Act → World → Prop} (s x : Operand)
    (ho : o.op = .call { callee := .builtin .append, args := #[s, x], argTypes := #[59, 59] })
    (base : Nat) (v : Value) (G : List Nd) (nd : Nd) (u : Value) (y : Option Nat) (hs : a.eval s = v) (hown : OwnX w base v G y) (hu : OwnI w base u (nats nd.args)) (huy : u.ownBlock = none ∨ u.ownBlock ≠ y) (hx : a.eval x = .slice (some ⟨w.heap.size, 0, none⟩) 1 1)
    (hlen : G.length + 1 ≤ 1000000) (hbase : base ≤ w.heap.size)
    (h : ∀ v' w', OwnX w' base v' (G ++ [nd]) y → Chg [80] base w w' → K (a.put o.dst v') w') : o.wp Try.prog a (w.alloc (.cells #[.int .i64 nd.code, u, .int .i64 (nd.up : Int), .int .i64 (nd.len : Int)] 80)) K Q := by
  obtain ⟨i0, hi0, hz0, hz1, hz2⟩ := info_parts node_info
  obtain ⟨vs, k1, k2, k3⟩ := hown
  have k2' := World.ownsRow.alloc k2 (.cells #[.int .i64 nd.code, u, .int .i64 (nd.up : Int), .int .i64 (nd.len : Int)] 80)
  have hu1 : u.oneCell' = true := by rcases hu.shape with ⟨rfl, _⟩ | ⟨g, cap, rfl, _⟩ <;> rfl
  refine wp_append_own _ s x 59 ho base 80 i0 _ 4 48 Try.underlying59 hi0 hz0 hz1 hz2 rfl (by omega) v G.length (ndCells G vs) hs k2' ⟨w.heap.size, 0, none⟩ 1 1 [.int .i64 nd.code, u, .int .i64 (nd.up : Int), .int .i64 (nd.len : Int)] hx rfl
    (World.news_of_block (cs := #[.int .i64 nd.code, u, .int .i64 (nd.up : Int), .int .i64 (nd.len : Int)]) (t := 80) (fr := (0, 0)) (heap_alloc_new w _)) (by simp [hu1]; exact ⟨rfl, rfl, rfl⟩) (by unfold maxLen; omega) (by omega) (by simp; omega) ?_
  intro v' w' h1 h2 _
  have hc : Chg [80] base w w' := (Chg.of_below (below_new w _) hbase).trans (Chg.grown h2 k2' (by simp; omega))
  have hni : (3 : TypeId) ∉ [(80 : TypeId)] := by decide
  refine h v' w' ⟨vs ++ [u], by simp [k1], ?_, fun i hi => ?_⟩ hc
  · rw [ndCells_snoc G vs _ u k1, List.length_append]
    exact h1
  · by_cases e : i = G.length
    · subst e
      rw [ndAt_right, ← k1, valAt_right]
      exact ⟨hc.own hni hu, huy⟩
    · have hi' : i < G.length := by simp at hi; omega
      rw [ndAt_left hi', valAt_left (by omega)]
      exact ⟨hc.own hni (k3 i hi').1, (k3 i hi').2⟩
theorem app_node {ops : Array Oper} {rest : List Oper} {o : Oper} {a : Act} {Q : Exit → Act → World → Prop} (hgd : o.guard = none) (s x : Operand)
    (ho : o.op = .call { callee := .builtin .append, args := #[s, x], argTypes := #[59, 59] })
    (base : Nat) (v : Value) (G : List Nd) (nd : Nd) (u : Value) (y : Option Nat) (hs : a.eval s = v) (hown : OwnX w base v G y) (hu : OwnI w base u (nats nd.args)) (huy : u.ownBlock = none ∨ u.ownBlock ≠ y) (hx : a.eval x = .slice (some ⟨w.heap.size, 0, none⟩) 1 1)
    (hlen : G.length + 1 ≤ 1000000) (hbase : base ≤ w.heap.size)
    (h : ∀ v' w', OwnX w' base v' (G ++ [nd]) y → Chg [80] base w w' → wpList Try.prog ops Q rest (a.put o.dst v') w') : wpList Try.prog ops Q (o :: rest) a (w.alloc (.cells #[.int .i64 nd.code, u, .int .i64 (nd.up : Int), .int .i64 (nd.len : Int)] 80)) :=
  wpList_plain hgd fun _ hK => app_node_op s x ho base v G nd u y hs hown hu huy hx hlen hbase fun v' w' h1 h2 => hK _ _ (h v' w' h1 h2)
end

set_option maxHeartbeats 2000000 in
theorem add_any (gb base : Nat) (G : List Nd) (code : Int) (u : Value) (xs : List Nat) (w : World) (x : Option Nat) (h : GraphOff w base gb G x) (hu : OwnI w base u (nats xs)) (hux : u.ownBlock = none ∨ u.ownBlock ≠ x) (hN : G.length ≤ 1000) :
    Calls Try.prog 36 #[.pointer (some ⟨gb, 0, none⟩), .int .i64 code, u] w fun e w' => e = .returned (.int .i64 (G.length : Int)) ∧ GraphOff w' base gb (G ++ [⟨code, xs, G.length, 0⟩]) x ∧ Chg [80, 61] base w w' := by
  obtain ⟨v, hv, hle, hown⟩ := h
  have hgb := (Array.getElem?_eq_some_iff.1 hv).1
  have HUX := Lib.hid hux
  have HOWN := Lib.hid hown
  have HU := Lib.hid hu
  obtain ⟨A, c, rfl⟩ := hown.value
  obtain ⟨A1, c1, rfl⟩ := hu.value_len
  have hcell : w.cell? ⟨gb, 0, none⟩ = some (.slice A G.length c) := by rw [cell_of_row _ _ 0 _ _ _ hv]; rfl
  have HV := Lib.hid hv
  obtain ⟨N, hNe⟩ : ∃ N, N = G.length := ⟨_, rfl⟩
  rw [← hNe] at hcell hN HOWN HV ⊢
  have HN := Lib.hid hNe
  have hbase : base ≤ w.heap.size := by omega
  clear hv hown hu hNe hux
  go_enter Try.func36, Try.ntmps36
  go_wp2_with (at_builtin
               refine app_node rfl (.tmp 17) (.tmp 22) rfl base _ G ⟨code, xs, N, 0⟩ _ x rfl HOWN.out HU.out HUX.out rfl (by rw [← HN.out]; omega) hbase ?_
               intro v' w' hown' hch
               have HO2 := Lib.hid hown'
               have HC2 := Lib.hid hch
               have hblk := hch.blk _ _ _ _ HV.out (by decide)
               have hfz : w'.frozen? ⟨gb, 0, none⟩ = false := frozen_of_row _ _ _ _ _ hblk
               have hcell' : w'.cell? ⟨gb, 0, none⟩ = some (.slice A N c) := by rw [cell_of_row _ _ 0 _ _ _ hblk]; rfl
               obtain ⟨L2, A2, c2, rfl⟩ : ∃ L2 A2 c2, v' = .slice A2 L2 c2 := ⟨_, hown'.value⟩
               have HBK := Lib.hid hblk
               clear hown' hch hblk)
  go_ret
  have hset : Chg [61] base w' (w'.setCell ⟨gb, 0, none⟩ (.slice A2 L2 c2)) := Chg.set HBK.out hle _
  refine ⟨rfl, ⟨_, heap_setCell_same _ _ 0 _ _ _ HBK.out, hle, HO2.out.chg hset (by decide) (by decide)⟩, (HC2.out.wide (fs := [80, 61]) (by simp)).trans (hset.wide (by simp))⟩

theorem GraphOff.forget {w : World} {base gb : Nat} {G : List Nd} {x : Option Nat} (h : GraphOff w base gb G x) : GraphAt w base gb G := by
  obtain ⟨v, q1, q2, vs, q3, q4, q5⟩ := h
  exact ⟨v, q1, q2, vs, q3, q4, fun i hi => (q5 i hi).1⟩
theorem GraphAt.off {w : World} {base gb : Nat} {G : List Nd} (h : GraphAt w base gb G) {x : Option Nat} (hx : ∀ g, x = some g → w.heap.size ≤ g) : GraphOff w base gb G x := by
  obtain ⟨v, q1, q2, vs, q3, q4, q5⟩ := h
  refine ⟨v, q1, q2, vs, q3, q4, fun i hi => ⟨q5 i hi, ?_⟩⟩
  cases e : (valAt vs i).ownBlock with
  | none => exact .inl rfl
  | some k =>
    refine .inr fun e' => ?_
    have h1 := (World.ownsRow.lt (q5 i hi) k e).2
    have h2 := hx k e'.symm
    omega
theorem GraphOff.on {w w' : World} {base gb : Nat} {G : List Nd} {x : Option Nat} (h : GraphOff w base gb G x) (hb : Below w.heap.size w w') : GraphOff w' base gb G x := by
  have hc : Chg [] 0 w w' := Chg.of_below hb (by omega)
  obtain ⟨v, q1, q2, q3⟩ := h
  exact ⟨v, hc.blk _ _ _ _ q1 (by simp), q2, q3.chg hc (by simp) (by simp)⟩
/-- A row of integers grows: the graph stands. -/
theorem GraphOff.grown {w w' : World} {base gb b : Nat} {G : List Nd} {v v' : Value} {xs : List Int} (h : GraphOff w base gb G v.ownBlock) (hv : OwnI w b v xs) (hg : w.grownBy w' v.ownBlock) (hv' : v'.ownBlock = v.ownBlock ∨ ∃ k, w.heap.size ≤ k ∧ v'.ownBlock = some k) : GraphOff w' base gb G v'.ownBlock := by
  obtain ⟨u, q1, q2, vs, q3, q4, q5⟩ := h
  have tag : ∀ (k : Nat) (cs : Array Value) (e : TypeId) (fr : Nat × Nat), w.heap[k]? = some (.cells cs e fr) → e ≠ 3 → some k ≠ v.ownBlock := by
    intro k cs e fr hk he hb
    rcases hv.2 with ⟨rfl, _⟩ | ⟨g, cap, cur, rfl, _, hc, _⟩
    · simp [Value.ownBlock] at hb
    · simp only [Value.ownBlock, Option.some.injEq] at hb
      subst hb
      rw [hk] at hc
      injection hc with hc
      injection hc with _ q
      exact he q
  have stay : ∀ (k : Nat) (cs : Array Value) (e : TypeId) (fr : Nat × Nat), w.heap[k]? = some (.cells cs e fr) → e ≠ 3 → w'.heap[k]? = some (.cells cs e fr) := fun k cs e fr hk he => by
    rw [hg.block k (Array.getElem?_eq_some_iff.1 hk).1 (tag k cs e fr hk he)]; exact hk
  refine ⟨u, stay _ _ _ _ q1 (by decide), q2, vs, q3, ⟨q4.1, ?_⟩, fun i hi => ⟨World.ownsRow.kept (q5 i hi).1 hg (q5 i hi).2, ?_⟩⟩
  · rcases q4.2 with q | ⟨g, cap, cur, r1, r2, r3, r4⟩
    · exact .inl q
    · exact .inr ⟨g, cap, cur, r1, r2, stay _ _ _ _ r3 (by decide), r4⟩
  · rcases hv' with e | ⟨k, hk, e⟩
    · rw [e]; exact (q5 i hi).2
    · cases e2 : (valAt vs i).ownBlock with
      | none => exact .inl rfl
      | some j =>
        refine .inr fun e' => ?_
        rw [e] at e'
        injection e' with e'
        have := (World.ownsRow.lt (q5 i hi).1 j e2).2
        omega
/-- 'x = append(x, y)' of integers, x made by the call: and where it lies. -/
theorem app_int_op {w : World} {o : Oper} {a : Act} {K : Act → World → Prop} {Q : Exit → Act → World → Prop} (s x : Operand)
    (ho : o.op = .call { callee := .builtin .append, args := #[s, x], argTypes := #[23, 23] })
    (base : Nat) (v : Value) (xs : List Int) (y : Int) (hs : a.eval s = v) (hown : OwnI w base v xs) (hx : a.eval x = .slice (some ⟨w.heap.size, 0, none⟩) 1 1)
    (hlen : xs.length + 1 ≤ 1000000) (hbase : base ≤ w.heap.size)
    (h : ∀ v' w', OwnI w' base v' (xs ++ [y]) → (w.alloc (.cells #[.int .i64 y] 3)).grownBy w' v.ownBlock → (v'.ownBlock = v.ownBlock ∨ ∃ k, (w.alloc (.cells #[.int .i64 y] 3)).heap.size ≤ k ∧ v'.ownBlock = some k) → K (a.put o.dst v') w') : o.wp Try.prog a (w.alloc (.cells #[.int .i64 y] 3)) K Q := by
  obtain ⟨i0, hi0, hz0, hz1, hz2⟩ := info_parts int_info
  have hown' := hown.alloc (.cells #[.int .i64 y] 3)
  have hnews := World.news_of_block (cs := #[.int .i64 y]) (t := 3) (fr := (0, 0)) (heap_alloc_new w (.cells #[.int .i64 y] 3))
  obtain ⟨v', w', hr, h2, h3, _⟩ := run_append_own (P := Try.prog) (w.alloc (.cells #[.int .i64 y] 3)) base 23 o.type 3 i0 _ 1 8 Try.underlying23 hi0 hz0 hz1 hz2 rfl (by omega) v xs.length (intCells xs) hown' ⟨w.heap.size, 0, none⟩ 1 1 (intCells [y]) rfl hnews (intCells_oneCell _) (by unfold maxLen; omega) (by omega) (by simp; omega)
  have hblk : v'.ownBlock = v.ownBlock ∨ ∃ k, (w.alloc (.cells #[.int .i64 y] 3)).heap.size ≤ k ∧ v'.ownBlock = some k := by
    rcases hown'.2 with ⟨rfl, h0⟩ | ⟨g, cap, cur, rfl, hbg, hg, hnc, hcm, hcs, htake⟩
    · have hr' := run_append_nil (P := Try.prog) (w.alloc (.cells #[.int .i64 y] 3)) 23 o.type 3 i0 _ Try.underlying23 hi0 hz0 ⟨w.heap.size, 0, none⟩ 1 1 (intCells [y]) (by rw [hz1]; rfl) hnews (by omega) (by omega) (by rw [hz2]; omega)
      rw [hr] at hr'
      injection hr' with e1 e2
      right
      rw [e1]
      exact ⟨_, Nat.le_refl _, rfl⟩
    · by_cases hroom : xs.length + 1 ≤ cap
      · have hr' := run_append_room (P := Try.prog) (w.alloc (.cells #[.int .i64 y] 3)) 23 o.type 3 i0 Try.underlying23 hi0 g xs.length cap cur hg ⟨w.heap.size, 0, none⟩ 1 1 (intCells [y]) (by rw [hz1]; rfl) hnews (intCells_oneCell _) hroom (by rw [hz1, hcs]; simp [intCells]; omega)
        rw [hr] at hr'
        injection hr' with e1 e2
        left
        rw [e1]
        rfl
      · have hr' := run_append_grow (P := Try.prog) (w.alloc (.cells #[.int .i64 y] 3)) 23 o.type 3 i0 _ Try.underlying23 hi0 hz0 ⟨g, 0, none⟩ xs.length cap (intCells xs) (by rw [hz1]; exact hown'.1) (World.ownsRow.cells hown' (g := g) rfl) ⟨w.heap.size, 0, none⟩ 1 1 (intCells [y]) (by rw [hz1]; rfl) hnews (by omega) (by omega) (growslice_fits (by omega) (by rw [hz2]; omega))
        rw [hr] at hr'
        injection hr' with e1 e2
        right
        rw [e1]
        exact ⟨_, Nat.le_refl _, rfl⟩
  unfold Oper.wp execOp
  simp only [ho, resolve, invoke, builtin, Sem.run_bind, Sem.run_pure, Result.andThen_ok, List.map_toArray, List.map_cons, List.map_nil, hs, hx, hr]
  refine h v' w' ?_ h3 hblk
  unfold OwnI
  rw [intCells_append, List.length_append]
  exact h2

set_option maxHeartbeats 1000000 in
theorem clone_any (A : Option Addr) (n c : Nat) (xs : List Int) (w : World) (h : IntsAt w w.heap.size A n xs) (hnil : A = none → n = 0 ∧ c = 0) (hn : n ≤ 1000000) :
    Calls Try.prog 44 #[.slice A n c] w (IntsRet xs w) := by
  cases A with
  | none =>
    obtain ⟨rfl, rfl⟩ := hnil rfl
    have hss : xs = [] := List.eq_nil_of_length_eq_zero h.len
    subst hss
    have hq := Lib.run_eql_slice_nil (P := Try.prog) w 23 3 none 0 0 0 0 Try.underlying23
    go_enter Try.func44, Try.ntmps44
    go_wp2
    go_ret
    exact ⟨_, rfl, OwnI.nil_, Below.refl _ _⟩
  | some ad =>
    have HI := Lib.hid h
    have hq := Lib.run_eql_slice_nil (P := Try.prog) w 23 3 (some ad) n c 0 0 Try.underlying23
    clear h hnil
    go_enter Try.func44, Try.ntmps44
    go_wp2_with (at_builtin
                 refine app_ints rfl (.tmp 5) (.tmp 6) rfl w.heap.size _ [] rfl (OwnI.empty w) (some ad) n c w.heap.size xs rfl (fun h => by cases h) (HI.out.below (below_new w _)) (by simp; omega) (by simp) ?_
                 intro v2 w2 hown2 hb2
                 have HOWN2 := Lib.hid hown2
                 have HB2 := Lib.hid hb2
                 clear hown2 hb2)
    go_ret
    exact ⟨_, rfl, HOWN2.out, (below_new w _).trans HB2.out⟩

theorem intAt_set {xs : List Int} {i k : Nat} {z : Int} (h : i < xs.length) : intAt (xs.set i z) k = if k = i then z else intAt xs k := by
  unfold intAt
  rw [List.getD_eq_getElem?_getD, List.getD_eq_getElem?_getD, List.getElem?_set]
  by_cases e : k = i
  · subst e; simp [h]
  · rw [if_neg (fun h => e h.symm), if_neg e]
theorem intAt_rev {xs : List Int} {p : Nat} (h : p < xs.length) : intAt xs.reverse p = intAt xs (xs.length - 1 - p) := by
  unfold intAt
  rw [List.getD_eq_getElem?_getD, List.getD_eq_getElem?_getD, List.getElem?_reverse h]
theorem OwnI.put {w : World} {base g n cap i : Nat} {xs : List Int} (h : OwnI w base (.slice (some ⟨g, 0, none⟩) n cap) xs) (z : Int) : OwnI (w.setCell ⟨g, i, none⟩ (.int .i64 z)) base (.slice (some ⟨g, 0, none⟩) n cap) (xs.set i z) := by
  have hn : n = xs.length := by
    rcases h.2 with ⟨q, _⟩ | ⟨_, _, _, q, _⟩
    · cases q
    · injection q
  subst hn
  have := (World.ownsRow.stored h i (.int .i64 z)).1
  unfold OwnI
  have e2 : intCells (xs.set i z) = (intCells xs).set i (.int .i64 z) := by unfold intCells; rw [List.map_set]
  rw [e2, List.length_set]
  exact this
set_option maxHeartbeats 2000000 in
theorem reverse_any (base : Nat) (v : Value) (xs : List Int) (w : World) (h : OwnI w base v xs) (hn : xs.length ≤ 1000000) :
    Calls Try.prog 53 #[v] w fun e w' => e = .returned (.tuple #[]) ∧ OwnI w' base v xs.reverse ∧ Below base w w' := by
  obtain ⟨A, c, rfl, hcap, _⟩ := h.intsAt
  have HOWN := Lib.hid h
  obtain ⟨n, hne⟩ : ∃ n, n = xs.length := ⟨_, rfl⟩
  rw [← hne] at hn HOWN ⊢
  have HN := Lib.hid hne
  clear h hne
  go_enter Try.func53, Try.ntmps53
  go_wp2
  go_loopw [2, 3] (fun i j wr => ∃ (k : Nat) (cur : List Int), i = .int .i64 (k : Int) ∧ j = .int .i64 ((n : Int) - 1 - k) ∧ 2 * k ≤ n + 1 ∧ OwnI wr base (.slice A n c) cur ∧ cur.length = n ∧ (∀ p, p < n → intAt cur p = if p < k ∨ n - 1 - p < k then intAt xs (n - 1 - p) else intAt xs p) ∧ Below base w wr) (fun i _ _ => n + 1 - (intOf i).toNat)
  case atStart => exact ⟨0, xs, rfl, by go_num, by omega, HOWN.out, HN.out.symm, fun p hp => by simp, Below.refl _ _⟩
  case round =>
    obtain ⟨k, cur, rfl, rfl, hk, hown, hlen, hat, hbw⟩ := hrel
    have HO := Lib.hid hown
    have HLEN := Lib.hid hlen
    have HAT := Lib.hid hat
    have HBW := Lib.hid hbw
    clear hown hlen hat hbw
    by_cases hlt : 2 * k + 1 < n
    · obtain ⟨g, cap, e1, hg, hgl, _⟩ : ∃ g cap, Value.slice A n c = .slice (some ⟨g, 0, none⟩) n cap ∧ base ≤ g ∧ g < wr.heap.size ∧ n ≤ cap := by
        rcases HO.out.shape with ⟨_, e⟩ | ⟨g, cap, h1, h2, h3, h4⟩
        · have := HLEN.out; rw [e] at this; simp at this; omega
        · rw [HLEN.out] at h1 h4; exact ⟨g, cap, h1, h2, h3, h4⟩
      simp only [Value.slice.injEq] at e1
      obtain ⟨rfl, -, rfl⟩ := e1
      obtain ⟨j, hj⟩ : ∃ j : Nat, j = n - 1 - k := ⟨_, rfl⟩
      have hj' : (n : Int) - 1 - k = (j : Int) := by omega
      rw [hj']
      have HJ := Lib.hid hj
      have hO' := HO.out
      unfold OwnI at hO'
      rw [HLEN.out] at hO'
      have q1 := own_get hO' k (by omega)
      have q2 := own_get hO' j (by omega)
      rw [intCells_get _ _ (by rw [HLEN.out]; omega)] at q1 q2
      have f1 := hO'.frozenAt k
      have f2 := hO'.frozenAt j
      have hk0 : (0 : Int) ≤ (k : Int) := by omega
      have hk1 : (k : Int) < (n : Int) := by omega
      have hj0 : (0 : Int) ≤ (j : Int) := by omega
      have hj1 : (j : Int) < (n : Int) := by omega
      have hkj : (k : Int) < (j : Int) := by omega
      clear hO' hj hj'
      go_wp2_with fail
      go_region
      have HP := Lib.hid ((HO.out.put (i := k) (intAt cur j)).put (i := j) (intAt cur k))
      have HB2 := Lib.hid (((HBW.out.setCell (p := ⟨g, k, none⟩) hg (.int .i64 (intAt cur j))).setCell (p := ⟨g, j, none⟩) hg (.int .i64 (intAt cur k))).drew)
      go_wp2
      go_roundw
      case rel =>
        have hj := HJ.out
        refine ⟨k + 1, (cur.set k (intAt cur j)).set j (intAt cur k), by go_num, ?_, by omega, HP.out, by simp [HLEN.out], fun p hp => ?_, HB2.out⟩
        · show Value.int .i64 _ = _
          congr 1
          omega
        · have hl := HLEN.out
          rw [intAt_set (by simp; omega), intAt_set (by omega)]
          have hA := HAT.out
          by_cases e1 : p = j
          · subst e1
            rw [if_pos rfl, hA k (by omega), if_neg (by omega), if_pos (by omega)]
            congr 1; omega
          · rw [if_neg e1]
            by_cases e2 : p = k
            · subst e2
              rw [if_pos rfl, hA j (by omega), if_neg (by omega), if_pos (by omega), hj]
            · rw [if_neg e2, hA p hp]
              by_cases e3 : p < k ∨ n - 1 - p < k
              · rw [if_pos e3, if_pos (by omega)]
              · rw [if_neg e3, if_neg (by omega)]
      case measure => simp [intOf]; omega
    · have hge : ¬ (k : Int) < (n : Int) - 1 - k := by omega
      have HREV : Hid (cur = xs.reverse) := by
        show cur = xs.reverse
        apply list_int_ext
        · rw [HLEN.out, HN.out]; simp
        · intro p hp
          have hl := HLEN.out
          have hnl := HN.out
          rw [HAT.out p (by omega), intAt_rev (by omega)]
          by_cases e3 : p < k ∨ n - 1 - p < k
          · rw [if_pos e3, hnl]
          · rw [if_neg e3]; congr 1; omega
      go_wp2
      go_end0
      exact ⟨rfl, HO.out.cast HREV.out, HBW.out⟩

end Go.Proofs.Ytlmpapdpmmkjnaa

namespace Go.Proofs.Ytlmpapdpmmkjnaa
open Go.RowKit
set_option linter.unusedSimpArgs false
set_option linter.unusedVariables false
set_option maxRecDepth 100000

/-- Each node is a class of its own, and has no length. -/
def Fresh (G : List Nd) : Prop := ∀ n, n < G.length → (ndAt G n).up = n ∧ lenAt G n = 0
def newD (D : Nat → List Int) (n : Nat) (r : List Int) : Nat → List Int := fun k => if k = n then r else D k
section
variable {ss : List Sym} {G : List Nd} {D : Nat → List Int}
theorem Fresh.add (h : Fresh G) (c : Int) (xs : List Nat) : Fresh (G ++ [⟨c, xs, G.length, 0⟩]) := by
  intro n hn
  by_cases e : n = G.length
  · subst e; unfold lenAt; rw [ndAt_right]; exact ⟨rfl, rfl⟩
  · have hn' : n < G.length := by simp at hn; omega
    unfold lenAt; rw [ndAt_left hn']; exact h n hn'
theorem newD_old {n k : Nat} {r : List Int} (h : k ≠ n) : newD D n r k = D k := by unfold newD; rw [if_neg h]
theorem newD_new {n : Nat} {r : List Int} : newD D n r n = r := by unfold newD; rw [if_pos rfl]
theorem newD_flat {n : Nat} {r : List Int} {xs : List Nat} (h : ∀ x ∈ xs, x < n) : xs.flatMap (newD D n r) = xs.flatMap D := flatMap_congr' fun x hx => newD_old (by have := h x hx; omega)
theorem Stands.add (h : Stands ss G D) {c : Int} {xs : List Nat} (h0 : 0 ≤ c) (ha : arOf ss c = some xs.length) (hx : ∀ x ∈ xs, x < G.length) : Stands ss (G ++ [⟨c, xs, G.length, 0⟩]) (newD D G.length (c :: xs.flatMap D)) := by
  have hm := h.many
  have old : ∀ n, n < (G ++ [(⟨c, xs, G.length, 0⟩ : Nd)]).length → n ≠ G.length → n < G.length := fun n hn e => by simp at hn; omega
  have ht : trm 24 ss (c :: xs.flatMap D) 1 := by
    have := trm_sym h0 ha (trm_flatMap (V := 24) (F := D) fun x hx' => h.one x (hx x hx')) (Nat.le_refl _)
    rw [Nat.sub_self, Nat.zero_add] at this
    exact this
  refine ⟨by simp; omega, fun v hv => ?_, fun n h1 h2 => ?_, fun n hn => ?_, fun n hn => ?_, fun n hn => ?_⟩
  · rw [ndAt_left (by omega), newD_old (by omega)]; exact h.var v hv
  · by_cases e : n = G.length
    · subst e; rw [ndAt_right]; exact ⟨h0, ha⟩
    · rw [ndAt_left (old n h2 e)]; exact h.sym n h1 (old n h2 e)
  · by_cases e : n = G.length
    · subst e; rw [ndAt_right]; intro x hx'; have := hx x hx'; simp; omega
    · rw [ndAt_left (old n hn e)]; intro x hx'; have := h.arg n (old n hn e) x hx'; simp; omega
  · by_cases e : n = G.length
    · subst e; rw [ndAt_right, newD_new, newD_flat hx]
    · rw [ndAt_left (old n hn e), newD_old e, newD_flat (h.arg n (old n hn e))]; exact h.eqn n (old n hn e)
  · by_cases e : n = G.length
    · subst e; rw [newD_new]; exact ht
    · rw [newD_old e]; exact h.one n (old n hn e)
end
/-- The graph with the nodes of a row's codes from a place on; ts: the nodes of the terms, the last one first. -/
structure Readd (ss : List Sym) (G0 : List Nd) (D0 : Nat → List Int) (r : List Int) (k : Nat) (G : List Nd) (D : Nat → List Int) (ts : List Nat) : Prop where
  st : Stands ss G D
  fresh : Fresh G
  grow : G0.length ≤ G.length
  few : G.length + k ≤ G0.length + r.length
  old : ∀ n, n < G0.length → D n = D0 n
  lt : ∀ t ∈ ts, t < G.length
  eq : ts.reverse.flatMap D = r.drop k
section
variable {ss : List Sym} {G0 G : List Nd} {D0 D : Nat → List Int} {r : List Int} {k : Nat} {ts : List Nat}
theorem Readd.start (h : Stands ss G0 D0) (hf : Fresh G0) : Readd ss G0 D0 r r.length G0 D0 [] :=
  ⟨h, hf, Nat.le_refl _, Nat.le_refl _, fun _ _ => rfl, by simp, by simp⟩
theorem Readd.count (h : Readd ss G0 D0 r k G D ts) : trm 24 ss (r.drop k) ts.length := by
  rw [← h.eq]
  have := trm_flatMap (V := 24) (ss := ss) (xs := ts.reverse) (F := D) fun x hx => h.st.one x (h.lt x (by simpa using hx))
  simpa using this
theorem Readd.var (h : Readd ss G0 D0 r (k + 1) G D ts) (hk : k < r.length) {v : Nat} (hv : v < 24) (hc : intAt r k = -1 - (v : Int)) : Readd ss G0 D0 r k G D (ts ++ [v]) := by
  refine ⟨h.st, h.fresh, h.grow, by have := h.few; omega, h.old, fun t ht => ?_, ?_⟩
  · rcases List.mem_append.1 ht with h' | h'
    · exact h.lt t h'
    · simp at h'; subst h'; exact Nat.lt_of_lt_of_le hv h.st.many
  · rw [List.reverse_append, List.flatMap_append, h.eq, drop_get hk (intAt_get hk), hc]
    simp [(h.st.var v hv).2.2]
theorem Readd.arity (h : Readd ss G0 D0 r (k + 1) G D ts) {ms : List (Nat × Nat)} (hr : tl ss r = some ms) (hk : k < r.length) : ∃ a, arOf ss (intAt r k) = some a ∧ a ≤ ts.length := by
  obtain ⟨ns, hn⟩ := tl_drop_some hr k
  rw [drop_get hk (intAt_get hk)] at hn
  obtain ⟨qs, a, h1, h2, h3, _⟩ := tl_cons_inv hn
  have := trm_uniq' (trm_of_tl h1) h.count rfl
  exact ⟨a, h2, by omega⟩
theorem Readd.sym (h : Readd ss G0 D0 r (k + 1) G D ts) (hk : k < r.length) {a p : Nat} (h0 : 0 ≤ intAt r k) (ha : arOf ss (intAt r k) = some a) (hp : p + a = ts.length) :
    Readd ss G0 D0 r k (G ++ [⟨intAt r k, (ts.drop p).reverse, G.length, 0⟩]) (newD D G.length (intAt r k :: (ts.drop p).reverse.flatMap D)) (ts.take p ++ [G.length]) := by
  have hx : ∀ x ∈ (ts.drop p).reverse, x < G.length := fun x hx => h.lt x (List.mem_of_mem_drop (by simpa using hx))
  have hx2 : ∀ x ∈ (ts.take p).reverse, x < G.length := fun x hx => h.lt x (List.mem_of_mem_take (by simpa using hx))
  refine ⟨h.st.add h0 (by rw [ha]; congr 1; simp; omega) hx, h.fresh.add _ _, by have := h.grow; simp; omega, by have := h.few; simp; omega, fun n hn => ?_, fun t ht => ?_, ?_⟩
  · rw [newD_old (by have := h.grow; omega)]; exact h.old n hn
  · rcases List.mem_append.1 ht with h' | h'
    · have := h.lt t (List.mem_of_mem_take h'); simp; omega
    · simp at h'; subst h'; simp
  · rw [List.reverse_append, List.flatMap_append]
    have e1 : ([G.length] : List Nat).reverse.flatMap (newD D G.length (intAt r k :: (ts.drop p).reverse.flatMap D)) = intAt r k :: (ts.drop p).reverse.flatMap D := by simp [newD_new]
    rw [e1, newD_flat hx2, drop_get hk (intAt_get hk), List.cons_append, ← List.flatMap_append, ← List.reverse_append, List.take_append_drop, h.eq]
end
section
variable {w w' w2 : World} {base b : Nat} {v : Value} {xs : List Int}
theorem Chg.then_below {es : List TypeId} (h : Chg es base w w') (hb : Below w.heap.size w' w2) (hl : base ≤ w.heap.size) : Chg es base w w2 :=
  ⟨h.bel.trans (hb.mono hl), fun k cs e fr hk he => by rw [hb.block k (Array.getElem?_eq_some_iff.1 hk).1]; exact h.blk k cs e fr hk he⟩
theorem OwnI.takes {g n cap k : Nat} (h : OwnI w base (.slice (some ⟨g, 0, none⟩) n cap) xs) (hk : k ≤ n) : OwnI w base (.slice (some ⟨g, 0, none⟩) k cap) (xs.take k) := by
  have hn : n = xs.length := by
    rcases h.2 with ⟨q, _⟩ | ⟨_, _, _, q, _⟩
    · cases q
    · injection q
  subst hn
  have hl : (xs.take k).length = k := by simp; omega
  rcases h.2 with ⟨q, _⟩ | ⟨g', cap', cur, q, h1, h2, h3, h4, h5, h6⟩
  · cases q
  · simp only [Value.slice.injEq, Option.some.injEq, Addr.mk.injEq] at q
    obtain ⟨⟨rfl, -, -⟩, -, rfl⟩ := q
    unfold OwnI
    rw [hl]
    refine ⟨by rw [intCells_length, hl, Nat.mul_one], .inr ⟨g, cap, cur, rfl, h1, h2, by omega, h4, h5, ?_⟩⟩
    rw [Nat.mul_one] at h6 ⊢
    have := congrArg (List.take k) h6
    rw [List.take_take, Nat.min_eq_left hk] at this
    rw [this]
    unfold intCells
    rw [List.map_take]
end

set_option maxHeartbeats 1000000 in
theorem read_any (A A' : Option Addr) (n c m c' gb base : Nat) (ss : List Sym) (r : List Int) (ms : List (Nat × Nat)) (G0 : List Nd) (D0 : Nat → List Int) (w : World) (hs : SymsAt w base A n ss) (hn : n ≤ maxLen) (hr : IntsAt w base A' m r) (hm : m ≤ 48) (hmay : mayB ss = true) (ht : tl ss r = some ms)
    (h : GraphAt w base gb G0) (hst : Stands ss G0 D0) (hf : Fresh G0) (hN : G0.length ≤ 100) :
    Calls Try.prog 37 #[.pointer (some ⟨gb, 0, none⟩), .slice A n c, .slice A' m c'] w fun e w' => ∃ v G D ts, e = .returned v ∧ OwnI w' base v (nats ts) ∧ GraphAt w' base gb G ∧ Readd ss G0 D0 r 0 G D ts ∧ Chg [80, 61] base w w' := by
  unfold maxLen at hn
  have HS := Lib.hid hs
  have HR := Lib.hid hr
  have HM := Lib.hid hmay
  have HT := Lib.hid ht
  have HL := Lib.hid hr.len
  have HSL := Lib.hid hs.len
  have hbase : base ≤ w.heap.size := by
    have h1 := h.lt
    obtain ⟨_, _, h2, _⟩ := h
    omega
  have HST : Hid (Readd ss G0 D0 r m G0 D0 []) := by
    show Readd ss G0 D0 r m G0 D0 []
    rw [← hr.len]; exact Readd.start hst hf
  have HG0 := Lib.hid (h.off (x := none) (fun g e => by cases e))
  clear hs hr hmay ht h hst hf
  go_enter Try.func37, Try.ntmps37
  go_wp2
  go_loopw [7, 8] (fun q i wr => ∃ (k : Nat) (G : List Nd) (D : Nat → List Int) (ts : List Nat), i = .int .i64 ((k : Int) - 1) ∧ k ≤ m ∧ Readd ss G0 D0 r k G D ts ∧ OwnI wr w.heap.size q (nats ts) ∧ GraphOff wr base gb G q.ownBlock ∧ Chg [80, 61] base w wr) (fun _ i _ => (intOf i + 1).toNat)
  case atStart => exact ⟨m, G0, D0, [], by go_num, by omega, HST.out, OwnI.nil_, HG0.out, Chg.refl⟩
  case round =>
    obtain ⟨k, G, D, ts, rfl, hk, hrd, hown, hgr, hch⟩ := hrel
    have HRD := Lib.hid hrd
    have HOWN := Lib.hid hown
    have HGR := Lib.hid hgr
    have HCH := Lib.hid hch
    have hsz := hch.bel.size
    clear hrd hown hgr hch
    by_cases hk0 : k = 0
    · subst hk0
      go_wp2
      go_ret
      exact ⟨_, G, D, ts, rfl, HOWN.out.lower hbase, HGR.out.forget, HRD.out, HCH.out⟩
    · obtain ⟨j, rfl⟩ : ∃ j, k = j + 1 := ⟨k - 1, by omega⟩
      have hkj : ((j + 1 : Nat) : Int) - 1 = (j : Int) := by omega
      rw [hkj]
      have hjr : j < r.length := by rw [HL.out]; omega
      have HJR := Lib.hid hjr
      obtain ⟨a, har, hal⟩ := HRD.out.arity HT.out hjr
      obtain ⟨b', off', rfl, hb', hc'⟩ := HR.out.at_ (by omega)
      have hcx : wr.cell? ⟨b', off' + j, none⟩ = some (.int .i64 (intAt r j)) := (HCH.out.bel.cell (p := ⟨b', off' + j, none⟩) hb').trans (hc' j (by omega))
      have htl : ts.length ≤ 48 := by
        have := trm_len HRD.out.count
        simp at this
        have := HL.out
        omega
      have HTL := Lib.hid htl
      have hi0 : (0 : Int) ≤ (j : Int) := by omega
      have hi1 : (j : Int) < (m : Int) := by omega
      have HAR := Lib.hid har
      have HAL := Lib.hid hal
      obtain ⟨A2, c2, hval⟩ := HOWN.out.value_len
      clear hc' hkj hk0 hjr
      by_cases hx : intAt r j < 0
      · obtain ⟨hx24, rfl⟩ := ar_var hx har
        obtain ⟨v, hv⟩ : ∃ v : Nat, intAt r j = -1 - (v : Int) := ⟨(-1 - intAt r j).toNat, by omega⟩
        have HRD2 := Lib.hid (HRD.out.var HJR.out (v := v) (by omega) hv)
        obtain ⟨x, hxe⟩ : ∃ x, x = intAt r j := ⟨_, rfl⟩
        rw [← hxe] at hcx hx hx24 hv
        have HV : Hid ((v : Int) = -1 - x) := by show (v : Int) = -1 - x; omega
        clear har hal hv hxe
        subst hval
        go_wp2_with (at_builtin
                     refine wpList_plain rfl fun _ hK => ?_
                     refine app_int_op (.tmp 25) (.tmp 28) rfl w.heap.size _ (nats ts) (-1 - x) rfl HOWN.out rfl (by rw [nats_length]; omega) (by omega) ?_
                     intro v2 w2 hown2 hg2 hb2
                     have HO2 := Lib.hid (hown2.cast (by rw [nats_append, ← HV.out]; rfl : _ = nats (ts ++ [v])))
                     have HG2 := Lib.hid ((HGR.out.on (below_new _ _)).grown (HOWN.out.alloc _) hg2 hb2)
                     have HB2 := Lib.hid (HCH.out.then_below (((below_new wr _).mono hsz).trans ((Below.refl _ _).grown hg2 (by simp; omega) (fun g hg => (World.ownsRow.lt HOWN.out g hg).1))) hbase)
                     clear hown2 hg2 hb2
                     refine hK _ _ ?_)
        go_roundw
        case rel => exact ⟨j, G, D, ts ++ [v], by go_num, by omega, HRD2.out, HO2.out, HG2.out, HB2.out⟩
        case measure => simp [intOf]
      · obtain ⟨h1, h2, h3, h4⟩ := ar_sym HM.out (by omega) har
        obtain ⟨q, hq⟩ : ∃ q : Nat, intAt r j = (q : Int) := ⟨(intAt r j).toNat, by omega⟩
        obtain ⟨p, hp⟩ : ∃ p, p + a = ts.length := ⟨ts.length - a, by omega⟩
        have HRD2 := Lib.hid (HRD.out.sym HJR.out (p := p) (by omega) har hp)
        rw [hq] at hcx h1 h2 h3 hx HRD2
        rw [Int.toNat_natCast] at h1 h2 h3
        rw [HSL.out] at h1
        obtain ⟨b, off, rfl, hb, hc⟩ := HS.out.at_ (by omega)
        obtain ⟨_, _, cc2, _⟩ := hc q h1
        rw [h3] at cc2
        have c2' := (HCH.out.bel.cell (p := ⟨b, off + q * 4 + 2, none⟩) hb).trans cc2
        obtain ⟨L, hL⟩ : ∃ L, L = ts.length := ⟨_, rfl⟩
        have HLL := Lib.hid hL
        rw [← hL] at hp htl hal hval
        have HP := Lib.hid hp
        have hp1 : ((L : Int) - (a : Int)) = (p : Int) := by omega
        have z0 : (0 : Int) ≤ (p : Int) := by omega
        have z1 : (p : Int) ≤ (L : Int) := by omega
        clear har hc h2 h3 hq hx cc2 hL
        rcases HOWN.out.shape with ⟨hnil, hts⟩ | ⟨g, cap, hsome, hg, hgl, hgc⟩
        · rw [hnil] at hval
          simp only [Value.slice.injEq] at hval
          obtain ⟨rfl, rfl, rfl⟩ := hval
          have hts0 : ts = [] := by
            cases ts with
            | nil => rfl
            | cons _ _ => simp [nats] at hts
          subst hts0
          obtain rfl : p = 0 := by have := HP.out; omega
          obtain rfl : a = 0 := by have := HP.out; omega
          subst hnil
          clear hp1 z0 z1 hts
          go_wp2_with fail
          refine (clone_any _ _ _ (nats (([] : List Nat).drop 0)) wr IntsAt.nil_ (fun _ => ⟨rfl, rfl⟩) (by omega)).mono ?_
          rintro e w1 ⟨u, rfl, hu, hb1⟩
          have HU := Lib.hid hu
          have HB1 := Lib.hid hb1
          clear hu hb1
          go_wp2_with fail
          refine (reverse_any wr.heap.size u _ w1 HU.out (by simp [nats])).mono ?_
          rintro e w2 ⟨rfl, hu2, hb2⟩
          have HB2 := Lib.hid (HB1.out.trans hb2)
          rw [nats_reverse] at hu2
          have HU2 := Lib.hid hu2
          have hsz2 := HB2.out.size
          have HG2 := Lib.hid (HGR.out.on HB2.out)
          have HO2 := Lib.hid (HOWN.out.on HB2.out)
          have HCH2 := Lib.hid (HCH.out.then_below (HB2.out.mono hsz) hbase)
          have HUB : Hid (u.ownBlock = none ∨ u.ownBlock ≠ none) := by
            show u.ownBlock = none ∨ u.ownBlock ≠ none
            cases e : u.ownBlock with
            | none => exact .inl rfl
            | some z =>
              refine .inr fun e' => ?_
              have q1 := (World.ownsRow.lt hu2 z e).1
              cases e'
          obtain ⟨L5, A5, c5, hu5⟩ : ∃ L5 A5 c5, u = .slice A5 L5 c5 := ⟨_, hu2.value_len⟩
          have HGN : Hid (G.length ≤ 1000) := by show G.length ≤ 1000; have := HRD.out.few; have := HL.out; omega
          clear hb2 hu2 HB1 HU
          subst hu5
          go_wp2_with fail
          refine wp_region_held_drew (S := (fun _ => True)) (by kernel_rfl) trivial (fun hHeld => ?_)
          refine takeH (i := 0) (v := ?_) rfl rfl (by kernel_rfl) (by kernel_rfl) (by kernel_rfl) (fun _ _ _ h => h) (by rfl) ?_ hHeld ?_
          rotate_left
          · (intro w hSw; (try dsimp only at hSw); first | (go_simp; done) | (go_simp; with_reducible rfl))
          simp only [Act.put, List.setIfInBounds_toArray, List.set_cons_zero, List.set_cons_succ]
          refine takeH (i := 1) (v := ?_) rfl rfl (by kernel_rfl) (by kernel_rfl) (by kernel_rfl) (fun _ _ _ h => h) (by rfl) ?_ hHeld ?_
          rotate_left
          · (intro w hSw; (try dsimp only at hSw); first | (go_simp; done) | (go_simp; with_reducible rfl))
          simp only [Act.put, List.setIfInBounds_toArray, List.set_cons_zero, List.set_cons_succ]
          refine takeH (i := 2) (v := ?_) rfl rfl (by kernel_rfl) (by kernel_rfl) (by kernel_rfl) (fun _ _ _ h => h) (by rfl) ?_ hHeld ?_
          rotate_left
          · (intro w hSw; (try dsimp only at hSw); first | (go_simp; done) | (go_simp; with_reducible rfl))
          simp only [Act.put, List.setIfInBounds_toArray, List.set_cons_zero, List.set_cons_succ]
          refine takeH (i := 3) (v := ?_) rfl rfl (by kernel_rfl) (by kernel_rfl) (by kernel_rfl) (fun _ _ _ h => h) (by rfl) ?_ hHeld ?_
          rotate_left
          · (intro w hSw; (try dsimp only at hSw); first | (go_simp; done) | (go_simp; with_reducible rfl))
          simp only [Act.put, List.setIfInBounds_toArray, List.set_cons_zero, List.set_cons_succ]
          refine takeH (i := 4) (v := ?_) rfl rfl (by kernel_rfl) (by kernel_rfl) (by kernel_rfl) (fun _ _ _ h => h) (by rfl) ?_ hHeld ?_
          rotate_left
          · (intro w hSw; (try dsimp only at hSw); first | (go_simp; done) | (go_simp; with_reducible rfl))
          simp only [Act.put, List.setIfInBounds_toArray, List.set_cons_zero, List.set_cons_succ]
          refine takeH (i := 5) (v := ?_) rfl rfl (by kernel_rfl) (by kernel_rfl) (by kernel_rfl) (fun _ _ _ h => h) (by rfl) ?_ hHeld ?_
          rotate_left
          · (intro w hSw; (try dsimp only at hSw); first | (go_simp; done) | (go_simp; with_reducible rfl))
          simp only [Act.put, List.setIfInBounds_toArray, List.set_cons_zero, List.set_cons_succ]
          refine wpAnyH_ready (rs := [6]) (by kernel_rfl) (by simp) ?_
          refine AllReadyH.cons rfl (fun K hK => ?_) AllReadyH.nil
          go_simp
          refine (add_any gb base G (q : Int) _ _ w2.drew none (HG2.out.on (Below.refl _ _).drew) ((HU2.out.lower (base' := base) (by omega)).on (Below.refl _ _).drew) HUB.out HGN.out).mono ?_
          rintro e w3 ⟨rfl, hg3, hc3⟩
          have HG3 := Lib.hid hg3
          have HCC3 := Lib.hid hc3
          have HO3 := Lib.hid (hc3.own (by decide) (HO2.out.on (w' := w2.drew) (Below.refl _ _).drew))
          have hsz3 := hc3.bel.size
          have hsz3' : w2.heap.size ≤ w3.heap.size := hsz3
          have HTK : Hid (OwnI w3 w.heap.size (.slice none 0 0) (nats (([] : List Nat).take 0))) := OwnI.nil_
          clear hg3 hc3
          go_wp2_with fail
          refine hK.out _ _ ?_ (fun hHeld => ?_)
          · trivial
          clear hK K
          refine wpAnyH_ready (rs := [7]) (by kernel_rfl) (by simp) ?_
          refine AllReadyH.cons rfl (fun K hK => ?_) AllReadyH.nil
          go_simp
          refine hK.out _ _ ?_ (fun hHeld => ?_)
          · trivial
          clear hK K
          refine wpAnyH_ready (rs := [8]) (by kernel_rfl) (by simp) ?_
          refine AllReadyH.cons rfl (fun K hK => ?_) AllReadyH.nil
          rw [if_pos (by rfl)]
          refine app_int_op (w := w3) (.tmp 46) (.tmp 51) rfl w.heap.size _ (nats (([] : List Nat).take 0)) (G.length : Int) rfl HTK.out rfl (by simp [nats]) (by omega) ?_
          intro v4 w4 hown4 hg4 hb4
          have HO4 := Lib.hid (hown4.cast (by rw [nats_append]; rfl : _ = nats (([] : List Nat).take 0 ++ [G.length])))
          have HG4 := Lib.hid ((HG3.out.on (below_new _ _)).grown (b := w.heap.size) (v := .slice none 0 0) (xs := nats (([] : List Nat).take 0)) (OwnI.alloc HTK.out _) hg4 hb4)
          have HC4 := Lib.hid ((HCH2.out.trans (Chg.trans (Chg.of_below (Below.refl _ _).drew (by omega)) HCC3.out)).then_below (((below_new w3 _).mono (by omega)).trans ((Below.refl _ _).grown hg4 (by simp; omega) (fun y hy => (World.ownsRow.lt HTK.out y hy).1))) hbase)
          clear hown4 hg4 hb4
          refine hK.out _ _ ?_ (fun hHeld => ?_)
          · trivial
          clear hK K
          refine takeH (i := 9) (v := ?_) rfl rfl (by kernel_rfl) (by kernel_rfl) (by kernel_rfl) (fun _ _ _ h => h) (by rfl) ?_ hHeld ?_
          rotate_left
          · (intro w hSw; (try dsimp only at hSw); first | (go_simp; done) | (go_simp; with_reducible rfl))
          simp only [Act.put, List.setIfInBounds_toArray, List.set_cons_zero, List.set_cons_succ]
          refine wpAnyH_done (by kernel_rfl) ?_ _
          go_wp2
          go_roundw
          case rel => exact ⟨j, _, _, ([] : List Nat).take 0 ++ [G.length], by go_num, by omega, HRD2.out, HO4.out, HG4.out, HC4.out⟩
          case measure => simp [intOf]
        · rw [hsome] at hval
          simp only [Value.slice.injEq] at hval
          obtain ⟨rfl, e2, rfl⟩ := hval
          rw [e2] at hsome hgc
          subst hsome
          have z2 : (p : Int) ≤ (cap : Int) := by omega
          have hO' := HOWN.out
          obtain ⟨A3, c3, e3, _, hI3⟩ := HOWN.out.intsAt
          rw [e2] at e3 hI3
          simp only [Value.slice.injEq] at e3
          obtain ⟨rfl, -, rfl⟩ := e3
          have HI3 := Lib.hid hI3
          clear hI3 hO' hp e2
          have HDROP : Hid (IntsAt wr wr.heap.size (some ⟨g, p, none⟩) (L - p) (nats (ts.drop p))) := by
            show IntsAt _ _ _ _ _
            have := HI3.out.drop (k := p) (by omega)
            rw [nats_drop, Nat.zero_add] at this
            exact this
          have HLP : Hid (cap = p → IntsAt wr wr.heap.size (some ⟨g, 0, none⟩) 0 (nats (ts.drop p))) := by
            intro e
            have hd : ts.drop p = [] := by rw [List.drop_eq_nil_iff]; have := HLL.out; omega
            rw [hd]
            exact IntsAt.nil_
          by_cases hpc : cap = p
          · have HPC := Lib.hid (HLP.out hpc)
            obtain rfl : p = cap := hpc.symm
            go_wp2_with fail
            refine (clone_any _ _ _ (nats (ts.drop p)) wr HPC.out (fun e => by cases e) (by omega)).mono ?_
            rintro e w1 ⟨u, rfl, hu, hb1⟩
            have HU := Lib.hid hu
            have HB1 := Lib.hid hb1
            clear hu hb1
            go_wp2_with fail
            refine (reverse_any wr.heap.size u _ w1 HU.out (by rw [nats_length]; simp; have := HTL.out; omega)).mono ?_
            rintro e w2 ⟨rfl, hu2, hb2⟩
            have HB2 := Lib.hid (HB1.out.trans hb2)
            rw [nats_reverse] at hu2
            have HU2 := Lib.hid hu2
            have hsz2 := HB2.out.size
            have HG2 := Lib.hid (HGR.out.on HB2.out)
            have HO2 := Lib.hid (HOWN.out.on HB2.out)
            have HCH2 := Lib.hid (HCH.out.then_below (HB2.out.mono hsz) hbase)
            have HUB : Hid (u.ownBlock = none ∨ u.ownBlock ≠ (some g)) := by
              show u.ownBlock = none ∨ u.ownBlock ≠ (some g)
              cases e : u.ownBlock with
              | none => exact .inl rfl
              | some z =>
                refine .inr fun e' => ?_
                have q1 := (World.ownsRow.lt hu2 z e).1
                injection e' with e'
                omega
            obtain ⟨L5, A5, c5, hu5⟩ : ∃ L5 A5 c5, u = .slice A5 L5 c5 := ⟨_, hu2.value_len⟩
            have HGN : Hid (G.length ≤ 1000) := by show G.length ≤ 1000; have := HRD.out.few; have := HL.out; omega
            clear hb2 hu2 HB1 HU
            subst hu5
            go_wp2_with fail
            refine wp_region_held_drew (S := (fun _ => True)) (by kernel_rfl) trivial (fun hHeld => ?_)
            refine takeH (i := 0) (v := ?_) rfl rfl (by kernel_rfl) (by kernel_rfl) (by kernel_rfl) (fun _ _ _ h => h) (by rfl) ?_ hHeld ?_
            rotate_left
            · (intro w hSw; (try dsimp only at hSw); first | (go_simp; done) | (go_simp; with_reducible rfl))
            simp only [Act.put, List.setIfInBounds_toArray, List.set_cons_zero, List.set_cons_succ]
            refine takeH (i := 1) (v := ?_) rfl rfl (by kernel_rfl) (by kernel_rfl) (by kernel_rfl) (fun _ _ _ h => h) (by rfl) ?_ hHeld ?_
            rotate_left
            · (intro w hSw; (try dsimp only at hSw); first | (go_simp; done) | (go_simp; with_reducible rfl))
            simp only [Act.put, List.setIfInBounds_toArray, List.set_cons_zero, List.set_cons_succ]
            refine takeH (i := 2) (v := ?_) rfl rfl (by kernel_rfl) (by kernel_rfl) (by kernel_rfl) (fun _ _ _ h => h) (by rfl) ?_ hHeld ?_
            rotate_left
            · (intro w hSw; (try dsimp only at hSw); first | (go_simp; done) | (go_simp; with_reducible rfl))
            simp only [Act.put, List.setIfInBounds_toArray, List.set_cons_zero, List.set_cons_succ]
            refine takeH (i := 3) (v := ?_) rfl rfl (by kernel_rfl) (by kernel_rfl) (by kernel_rfl) (fun _ _ _ h => h) (by rfl) ?_ hHeld ?_
            rotate_left
            · (intro w hSw; (try dsimp only at hSw); first | (go_simp; done) | (go_simp; with_reducible rfl))
            simp only [Act.put, List.setIfInBounds_toArray, List.set_cons_zero, List.set_cons_succ]
            refine takeH (i := 4) (v := ?_) rfl rfl (by kernel_rfl) (by kernel_rfl) (by kernel_rfl) (fun _ _ _ h => h) (by rfl) ?_ hHeld ?_
            rotate_left
            · (intro w hSw; (try dsimp only at hSw); first | (go_simp; done) | (go_simp; with_reducible rfl))
            simp only [Act.put, List.setIfInBounds_toArray, List.set_cons_zero, List.set_cons_succ]
            refine takeH (i := 5) (v := ?_) rfl rfl (by kernel_rfl) (by kernel_rfl) (by kernel_rfl) (fun _ _ _ h => h) (by rfl) ?_ hHeld ?_
            rotate_left
            · (intro w hSw; (try dsimp only at hSw); first | (go_simp; done) | (go_simp; with_reducible rfl))
            simp only [Act.put, List.setIfInBounds_toArray, List.set_cons_zero, List.set_cons_succ]
            refine wpAnyH_ready (rs := [6]) (by kernel_rfl) (by simp) ?_
            refine AllReadyH.cons rfl (fun K hK => ?_) AllReadyH.nil
            go_simp
            refine (add_any gb base G (q : Int) _ _ w2.drew (some g) (HG2.out.on (Below.refl _ _).drew) ((HU2.out.lower (base' := base) (by omega)).on (Below.refl _ _).drew) HUB.out HGN.out).mono ?_
            rintro e w3 ⟨rfl, hg3, hc3⟩
            have HG3 := Lib.hid hg3
            have HCC3 := Lib.hid hc3
            have HO3 := Lib.hid (hc3.own (by decide) (HO2.out.on (w' := w2.drew) (Below.refl _ _).drew))
            have hsz3 := hc3.bel.size
            have hsz3' : w2.heap.size ≤ w3.heap.size := hsz3
            have HTK : Hid (OwnI w3 w.heap.size (.slice (some ⟨g, 0, none⟩) p p) (nats (ts.take p))) := by
              have := HO3.out.takes (k := p) (by omega)
              rw [nats_take] at this
              exact this
            clear hg3 hc3
            go_wp2_with fail
            refine hK.out _ _ ?_ (fun hHeld => ?_)
            · trivial
            clear hK K
            refine wpAnyH_ready (rs := [7]) (by kernel_rfl) (by simp) ?_
            refine AllReadyH.cons rfl (fun K hK => ?_) AllReadyH.nil
            go_simp
            refine hK.out _ _ ?_ (fun hHeld => ?_)
            · trivial
            clear hK K
            refine wpAnyH_ready (rs := [8]) (by kernel_rfl) (by simp) ?_
            refine AllReadyH.cons rfl (fun K hK => ?_) AllReadyH.nil
            rw [if_pos (by rfl)]
            refine app_int_op (w := w3) (.tmp 46) (.tmp 51) rfl w.heap.size _ (nats (ts.take p)) (G.length : Int) rfl HTK.out rfl (by rw [nats_length]; have := HTL.out; simp; omega) (by omega) ?_
            intro v4 w4 hown4 hg4 hb4
            have HO4 := Lib.hid (hown4.cast (by rw [nats_append]; rfl : _ = nats (ts.take p ++ [G.length])))
            have HG4 := Lib.hid ((HG3.out.on (below_new _ _)).grown (b := w.heap.size) (v := .slice (some ⟨g, 0, none⟩) p p) (xs := nats (ts.take p)) (OwnI.alloc HTK.out _) hg4 hb4)
            have HC4 := Lib.hid ((HCH2.out.trans (Chg.trans (Chg.of_below (Below.refl _ _).drew (by omega)) HCC3.out)).then_below (((below_new w3 _).mono (by omega)).trans ((Below.refl _ _).grown hg4 (by simp; omega) (fun y hy => (World.ownsRow.lt HTK.out y hy).1))) hbase)
            clear hown4 hg4 hb4
            refine hK.out _ _ ?_ (fun hHeld => ?_)
            · trivial
            clear hK K
            refine takeH (i := 9) (v := ?_) rfl rfl (by kernel_rfl) (by kernel_rfl) (by kernel_rfl) (fun _ _ _ h => h) (by rfl) ?_ hHeld ?_
            rotate_left
            · (intro w hSw; (try dsimp only at hSw); first | (go_simp; done) | (go_simp; with_reducible rfl))
            simp only [Act.put, List.setIfInBounds_toArray, List.set_cons_zero, List.set_cons_succ]
            refine wpAnyH_done (by kernel_rfl) ?_ _
            go_wp2
            go_roundw
            case rel => exact ⟨j, _, _, ts.take p ++ [G.length], by go_num, by omega, HRD2.out, HO4.out, HG4.out, HC4.out⟩
            case measure => simp [intOf]

          · go_wp2_with fail
            refine (clone_any _ _ _ (nats (ts.drop p)) wr HDROP.out (fun e => by cases e) (by omega)).mono ?_
            rintro e w1 ⟨u, rfl, hu, hb1⟩
            have HU := Lib.hid hu
            have HB1 := Lib.hid hb1
            clear hu hb1
            go_wp2_with fail
            refine (reverse_any wr.heap.size u _ w1 HU.out (by rw [nats_length]; simp; have := HTL.out; omega)).mono ?_
            rintro e w2 ⟨rfl, hu2, hb2⟩
            have HB2 := Lib.hid (HB1.out.trans hb2)
            rw [nats_reverse] at hu2
            have HU2 := Lib.hid hu2
            have hsz2 := HB2.out.size
            have HG2 := Lib.hid (HGR.out.on HB2.out)
            have HO2 := Lib.hid (HOWN.out.on HB2.out)
            have HCH2 := Lib.hid (HCH.out.then_below (HB2.out.mono hsz) hbase)
            have HUB : Hid (u.ownBlock = none ∨ u.ownBlock ≠ (some g)) := by
              show u.ownBlock = none ∨ u.ownBlock ≠ (some g)
              cases e : u.ownBlock with
              | none => exact .inl rfl
              | some z =>
                refine .inr fun e' => ?_
                have q1 := (World.ownsRow.lt hu2 z e).1
                injection e' with e'
                omega
            obtain ⟨L5, A5, c5, hu5⟩ : ∃ L5 A5 c5, u = .slice A5 L5 c5 := ⟨_, hu2.value_len⟩
            have HGN : Hid (G.length ≤ 1000) := by show G.length ≤ 1000; have := HRD.out.few; have := HL.out; omega
            clear hb2 hu2 HB1 HU
            subst hu5
            go_wp2_with fail
            refine wp_region_held_drew (S := (fun _ => True)) (by kernel_rfl) trivial (fun hHeld => ?_)
            refine takeH (i := 0) (v := ?_) rfl rfl (by kernel_rfl) (by kernel_rfl) (by kernel_rfl) (fun _ _ _ h => h) (by rfl) ?_ hHeld ?_
            rotate_left
            · (intro w hSw; (try dsimp only at hSw); first | (go_simp; done) | (go_simp; with_reducible rfl))
            simp only [Act.put, List.setIfInBounds_toArray, List.set_cons_zero, List.set_cons_succ]
            refine takeH (i := 1) (v := ?_) rfl rfl (by kernel_rfl) (by kernel_rfl) (by kernel_rfl) (fun _ _ _ h => h) (by rfl) ?_ hHeld ?_
            rotate_left
            · (intro w hSw; (try dsimp only at hSw); first | (go_simp; done) | (go_simp; with_reducible rfl))
            simp only [Act.put, List.setIfInBounds_toArray, List.set_cons_zero, List.set_cons_succ]
            refine takeH (i := 2) (v := ?_) rfl rfl (by kernel_rfl) (by kernel_rfl) (by kernel_rfl) (fun _ _ _ h => h) (by rfl) ?_ hHeld ?_
            rotate_left
            · (intro w hSw; (try dsimp only at hSw); first | (go_simp; done) | (go_simp; with_reducible rfl))
            simp only [Act.put, List.setIfInBounds_toArray, List.set_cons_zero, List.set_cons_succ]
            refine takeH (i := 3) (v := ?_) rfl rfl (by kernel_rfl) (by kernel_rfl) (by kernel_rfl) (fun _ _ _ h => h) (by rfl) ?_ hHeld ?_
            rotate_left
            · (intro w hSw; (try dsimp only at hSw); first | (go_simp; done) | (go_simp; with_reducible rfl))
            simp only [Act.put, List.setIfInBounds_toArray, List.set_cons_zero, List.set_cons_succ]
            refine takeH (i := 4) (v := ?_) rfl rfl (by kernel_rfl) (by kernel_rfl) (by kernel_rfl) (fun _ _ _ h => h) (by rfl) ?_ hHeld ?_
            rotate_left
            · (intro w hSw; (try dsimp only at hSw); first | (go_simp; done) | (go_simp; with_reducible rfl))
            simp only [Act.put, List.setIfInBounds_toArray, List.set_cons_zero, List.set_cons_succ]
            refine takeH (i := 5) (v := ?_) rfl rfl (by kernel_rfl) (by kernel_rfl) (by kernel_rfl) (fun _ _ _ h => h) (by rfl) ?_ hHeld ?_
            rotate_left
            · (intro w hSw; (try dsimp only at hSw); first | (go_simp; done) | (go_simp; with_reducible rfl))
            simp only [Act.put, List.setIfInBounds_toArray, List.set_cons_zero, List.set_cons_succ]
            refine wpAnyH_ready (rs := [6]) (by kernel_rfl) (by simp) ?_
            refine AllReadyH.cons rfl (fun K hK => ?_) AllReadyH.nil
            go_simp
            refine (add_any gb base G (q : Int) _ _ w2.drew (some g) (HG2.out.on (Below.refl _ _).drew) ((HU2.out.lower (base' := base) (by omega)).on (Below.refl _ _).drew) HUB.out HGN.out).mono ?_
            rintro e w3 ⟨rfl, hg3, hc3⟩
            have HG3 := Lib.hid hg3
            have HCC3 := Lib.hid hc3
            have HO3 := Lib.hid (hc3.own (by decide) (HO2.out.on (w' := w2.drew) (Below.refl _ _).drew))
            have hsz3 := hc3.bel.size
            have hsz3' : w2.heap.size ≤ w3.heap.size := hsz3
            have HTK : Hid (OwnI w3 w.heap.size (.slice (some ⟨g, 0, none⟩) p cap) (nats (ts.take p))) := by
              have := HO3.out.takes (k := p) (by omega)
              rw [nats_take] at this
              exact this
            clear hg3 hc3
            go_wp2_with fail
            refine hK.out _ _ ?_ (fun hHeld => ?_)
            · trivial
            clear hK K
            refine wpAnyH_ready (rs := [7]) (by kernel_rfl) (by simp) ?_
            refine AllReadyH.cons rfl (fun K hK => ?_) AllReadyH.nil
            go_simp
            refine hK.out _ _ ?_ (fun hHeld => ?_)
            · trivial
            clear hK K
            refine wpAnyH_ready (rs := [8]) (by kernel_rfl) (by simp) ?_
            refine AllReadyH.cons rfl (fun K hK => ?_) AllReadyH.nil
            rw [if_pos (by rfl)]
            refine app_int_op (w := w3) (.tmp 46) (.tmp 51) rfl w.heap.size _ (nats (ts.take p)) (G.length : Int) rfl HTK.out rfl (by rw [nats_length]; have := HTL.out; simp; omega) (by omega) ?_
            intro v4 w4 hown4 hg4 hb4
            have HO4 := Lib.hid (hown4.cast (by rw [nats_append]; rfl : _ = nats (ts.take p ++ [G.length])))
            have HG4 := Lib.hid ((HG3.out.on (below_new _ _)).grown (b := w.heap.size) (v := .slice (some ⟨g, 0, none⟩) p cap) (xs := nats (ts.take p)) (OwnI.alloc HTK.out _) hg4 hb4)
            have HC4 := Lib.hid ((HCH2.out.trans (Chg.trans (Chg.of_below (Below.refl _ _).drew (by omega)) HCC3.out)).then_below (((below_new w3 _).mono (by omega)).trans ((Below.refl _ _).grown hg4 (by simp; omega) (fun y hy => (World.ownsRow.lt HTK.out y hy).1))) hbase)
            clear hown4 hg4 hb4
            refine hK.out _ _ ?_ (fun hHeld => ?_)
            · trivial
            clear hK K
            refine takeH (i := 9) (v := ?_) rfl rfl (by kernel_rfl) (by kernel_rfl) (by kernel_rfl) (fun _ _ _ h => h) (by rfl) ?_ hHeld ?_
            rotate_left
            · (intro w hSw; (try dsimp only at hSw); first | (go_simp; done) | (go_simp; with_reducible rfl))
            simp only [Act.put, List.setIfInBounds_toArray, List.set_cons_zero, List.set_cons_succ]
            refine wpAnyH_done (by kernel_rfl) ?_ _
            go_wp2
            go_roundw
            case rel => exact ⟨j, _, _, ts.take p ++ [G.length], by go_num, by omega, HRD2.out, HO4.out, HG4.out, HC4.out⟩
            case measure => simp [intOf]


end Go.Proofs.Ytlmpapdpmmkjnaa
