/-
  Words for the memory of package path's walk: the paths so far, the positions and what is left, each in blocks of its own; one append of a number whose source lies anywhere. A law for a scope with two labels.
-/
import Derived.Test.YthdpojokogiinaaPathA
import Derived.Test.YthdpojokogiinaaHelpCl
namespace Go.Proofs.Ythdpojokogiinaa
open Go.RowKit
set_option linter.unusedSimpArgs false
set_option linter.unusedVariables false
set_option maxRecDepth 100000

def jump2 (J0 J1 : Nat → Act → World → Prop) (N : Nat) (Q : Exit → Act → World → Prop) : Exit → Act → World → Prop
  | .goto 0, a, w => ∃ n, n < N ∧ J0 n a w
  | .goto 1, a, w => ∃ n, n < N ∧ J1 n a w
  | .goto _, _, _ => False
  | e, a, w => Q e a w
section
variable {P : Program} {a : Act} {w : World} {Q : Exit → Act → World → Prop} {J0 J1 : Nat → Act → World → Prop} {N : Nat}
theorem jump2_more {N' : Nat} (h : N ≤ N') : ∀ e a w, jump2 J0 J1 N Q e a w → jump2 J0 J1 N' Q e a w := by
  intro e a w hq
  unfold jump2 at *
  split <;> simp_all
  all_goals (obtain ⟨n, h1, h2⟩ := hq; exact ⟨n, by omega, h2⟩)
theorem wp_scope2 {c X0 X1 : Code} (J0 J1 : Nat → Act → World → Prop) (N : Nat) (h0 : findLabel c 0 = some (.seq .skip X0)) (h1 : findLabel c 1 = some (.seq .skip X1))
    (pass1 : ∀ n a w, J1 n a w → X1.wp P (jump2 J0 J1 n Q) a w)
    (pass0 : (∀ N n a w, n ≤ N → J1 n a w → X1.wp P (jump2 J0 J1 N Q) a w) → ∀ n a w, J0 n a w → X0.wp P (jump2 J0 J1 n Q) a w)
    (first : (∀ n a w, n ≤ N → J0 n a w → X0.wp P (jump2 J0 J1 N Q) a w) → c.wp P (jump2 J0 J1 N Q) a w) : (Code.scope c).wp P Q a w := by
  have p1 : ∀ N n a w, n ≤ N → J1 n a w → X1.wp P (jump2 J0 J1 N Q) a w := fun N n a w h hj => wp_mono (pass1 n a w hj) (jump2_more h)
  have p0 := pass0 p1
  have fst := first fun n a w h hj => wp_mono (p0 n a w hj) (jump2_more h)
  intro b k cs
  have key : ∀ n, (∀ a w, (∃ m, m < n ∧ J0 m a w) → ∃ e a' w', Q e a' w' ∧ Arrives P (lone (b.at a (.code (.seq .skip X0) :: .inScope c :: k)) cs w) b k cs e a' w') ∧
      (∀ a w, (∃ m, m < n ∧ J1 m a w) → ∃ e a' w', Q e a' w' ∧ Arrives P (lone (b.at a (.code (.seq .skip X1) :: .inScope c :: k)) cs w) b k cs e a' w') := by
    intro n
    induction n with
    | zero => exact ⟨fun a w ⟨m, h, _⟩ => absurd h (by omega), fun a w ⟨m, h, _⟩ => absurd h (by omega)⟩
    | succ n ih =>
      obtain ⟨i0, i1⟩ := ih
      have go : ∀ X : Code, (∀ a w m, m ≤ n → X.wp P (jump2 J0 J1 m Q) a w → ∃ e a' w', Q e a' w' ∧ Arrives P (lone (b.at a (.code (.seq .skip X) :: .inScope c :: k)) cs w) b k cs e a' w') := by
        intro X a w m hm hX
        obtain ⟨e, a₁, w₁, hq, harr⟩ := (wp_seq (wp_skip (Q := Exit.then (X.wp P (jump2 J0 J1 m Q)) (jump2 J0 J1 m Q)) hX)) b (.inScope c :: k) cs
        cases e with
        | normal => exact ⟨.normal, a₁, w₁, hq, Steps.trans harr (.one step_inScope)⟩
        | exit id => exact ⟨.exit id, a₁, w₁, hq, fun k' hk => harr k' (by simp [exitTo, hk])⟩
        | goto l' =>
          match l', hq, harr with
          | 0, hq, harr =>
            obtain ⟨j, hj, hJ⟩ := hq
            obtain ⟨e₂, a₂, w₂, hq₂, harr₂⟩ := i0 a₁ w₁ ⟨j, by omega, hJ⟩
            exact ⟨e₂, a₂, w₂, hq₂, .of_steps (harr _ (by simp [gotoIn, h0])) harr₂⟩
          | 1, hq, harr =>
            obtain ⟨j, hj, hJ⟩ := hq
            obtain ⟨e₂, a₂, w₂, hq₂, harr₂⟩ := i1 a₁ w₁ ⟨j, by omega, hJ⟩
            exact ⟨e₂, a₂, w₂, hq₂, .of_steps (harr _ (by simp [gotoIn, h1])) harr₂⟩
        | ret => exact ⟨_, a₁, w₁, hq, harr⟩
        | panic ch => exact ⟨_, a₁, w₁, hq, harr⟩
        | outgrown => exact ⟨_, a₁, w₁, hq, harr⟩
      exact ⟨fun a w ⟨m, h, hJ⟩ => go X0 a w m (by omega) (p0 m a w hJ), fun a w ⟨m, h, hJ⟩ => go X1 a w m (by omega) (pass1 m a w hJ)⟩
  obtain ⟨e, a₁, w₁, hq, harr⟩ := fst b (.inScope c :: k) cs
  obtain ⟨i0, i1⟩ := key N
  cases e with
  | normal => exact ⟨.normal, a₁, w₁, hq, .head step_scope (Steps.trans harr (.one step_inScope))⟩
  | exit id => exact ⟨.exit id, a₁, w₁, hq, fun k' hk => .head step_scope (harr k' (by simp [exitTo, hk]))⟩
  | goto l' =>
    match l', hq, harr with
    | 0, hq, harr =>
      obtain ⟨e₂, a₂, w₂, hq₂, harr₂⟩ := i0 a₁ w₁ hq
      exact ⟨e₂, a₂, w₂, hq₂, .of_steps (.head step_scope (harr _ (by simp [gotoIn, h0]))) harr₂⟩
    | 1, hq, harr =>
      obtain ⟨e₂, a₂, w₂, hq₂, harr₂⟩ := i1 a₁ w₁ hq
      exact ⟨e₂, a₂, w₂, hq₂, .of_steps (.head step_scope (harr _ (by simp [gotoIn, h1]))) harr₂⟩
  | ret => exact ⟨_, a₁, w₁, hq, .of_steps (.one step_scope) harr⟩
  | panic ch => exact ⟨_, a₁, w₁, hq, .of_steps (.one step_scope) harr⟩
  | outgrown => exact ⟨_, a₁, w₁, hq, .of_steps (.one step_scope) harr⟩
end

/-- One number appended, from a block that lies anywhere; what turns is v's own block, or the row is new. -/
theorem app_intg_op {w : World} {o : Oper} {a : Act} {K : Act → World → Prop} {Q : Exit → Act → World → Prop} (s x : Operand)
    (ho : o.op = .call { callee := .builtin .append, args := #[s, x], argTypes := #[23, 23] })
    {d : Nat} (hd : o.dst = some d) (base : Nat) (v : Value) (xs : List Int) (y : Int) (b : Nat) (hs : a.eval s = v) (hown : OwnI w base v xs) (hx : a.eval x = .slice (some ⟨b, 0, none⟩) 1 1) (hb : w.cell? ⟨b, 0, none⟩ = some (.int .i64 y))
    (hlen : xs.length + 1 ≤ 1000000) (hbase : base ≤ w.heap.size)
    (h : ∀ v' w', OwnI w' base v' (xs ++ [y]) → w.grownBy w' v.ownBlock → (v'.ownBlock = v.ownBlock ∨ ∃ k, w.heap.size ≤ k ∧ v'.ownBlock = some k) → K (a.put (some d) v') w') : o.wp Try.prog a w K Q := by
  rw [← hd] at h
  obtain ⟨i0, hi0, hz0, hz1, hz2⟩ := info_parts int_info
  have hnews : ∀ j u, (intCells [y])[j]? = some u → w.cell? ((⟨b, 0, none⟩ : Addr).add j) = some u := by
    intro j u hu
    cases j with
    | zero => simp [intCells] at hu; subst hu; rw [addr_plus]; exact hb
    | succ j => simp [intCells] at hu
  obtain ⟨v', w', hr, h2, h3, _⟩ := run_append_own (P := Try.prog) w base 23 o.type 3 i0 _ 1 8 Try.underlying23 hi0 hz0 hz1 hz2 rfl (by omega) v xs.length (intCells xs) hown ⟨b, 0, none⟩ 1 1 (intCells [y]) rfl hnews (intCells_oneCell _) (by unfold maxLen; omega) (by omega) hbase
  have hblk : v'.ownBlock = v.ownBlock ∨ ∃ k, w.heap.size ≤ k ∧ v'.ownBlock = some k := by
    rcases hown.2 with ⟨rfl, h0⟩ | ⟨g, cap, cur, rfl, hbg, hg, hnc, hcm, hcs, htake⟩
    · have hr' := run_append_nil (P := Try.prog) w 23 o.type 3 i0 _ Try.underlying23 hi0 hz0 ⟨b, 0, none⟩ 1 1 (intCells [y]) (by rw [hz1]; rfl) hnews (by omega) (by omega) (by rw [hz2]; omega)
      rw [hr] at hr'
      injection hr' with e1 e2
      right
      rw [e1]
      exact ⟨_, Nat.le_refl _, rfl⟩
    · by_cases hroom : xs.length + 1 ≤ cap
      · have hr' := run_append_room (P := Try.prog) w 23 o.type 3 i0 Try.underlying23 hi0 g xs.length cap cur hg ⟨b, 0, none⟩ 1 1 (intCells [y]) (by rw [hz1]; rfl) hnews (intCells_oneCell _) hroom (by rw [hz1, hcs]; simp [intCells]; omega)
        rw [hr] at hr'
        injection hr' with e1 e2
        left
        rw [e1]
        rfl
      · have hr' := run_append_grow (P := Try.prog) w 23 o.type 3 i0 _ Try.underlying23 hi0 hz0 ⟨g, 0, none⟩ xs.length cap (intCells xs) (by rw [hz1]; exact hown.1) (World.ownsRow.cells hown (g := g) rfl) ⟨b, 0, none⟩ 1 1 (intCells [y]) (by rw [hz1]; rfl) hnews (by omega) (by omega) (growslice_fits (by omega) (by rw [hz2]; omega))
        rw [hr] at hr'
        injection hr' with e1 e2
        right
        rw [e1]
        exact ⟨_, Nat.le_refl _, rfl⟩
  unfold Oper.wp execOp
  simp only [ho, resolve, invoke, builtin, Sem.run_bind, Sem.run_pure, Result.andThen_ok, List.map_toArray, List.map_cons, List.map_nil, hs, hx, hr]
  refine h v' w' ?_ h3 hblk
  unfold OwnI
  rw [intCells_append, List.length_append]
  exact h2

/-- Two rows do not lie in one block. -/
def sepV (u v : Value) : Prop := ∀ g, u.ownBlock = some g → v.ownBlock ≠ some g
section
variable {w w' w1 w2 w3 : World} {base b size size' n m : Nat} {e e' : TypeId} {u v v' vo vo' vw vw' vl vl' : Value} {xs ys W F : List Int} {vs us zs : List Value} {L : List (List Int)}
theorem sepV.symm (h : sepV u v) : sepV v u := fun g hg hu => h g hu hg
theorem sepV.row (h : sepV u v) : u.ownBlock = none ∨ u.ownBlock ≠ v.ownBlock := by
  cases hu : u.ownBlock with
  | none => exact .inl rfl
  | some g => exact .inr fun e => h g hu e.symm
theorem sepV.set {g : Nat} (h : sepV u v) (hv : v.ownBlock = some g) : u.ownBlock ≠ some g := fun hu => h g hu hv
theorem sep_kind (h : w.ownsRow base e size u n us) (k : w.ownsRow b e' size' v m zs) (hne : e ≠ e') : sepV u v := by
  intro g hu hv
  rcases h.2 with ⟨rfl, _⟩ | ⟨g1, cap, cur, rfl, _, h1, _⟩
  · simp [Value.ownBlock] at hu
  · rcases k.2 with ⟨rfl, _⟩ | ⟨g2, cap2, cur2, rfl, _, h2, _⟩
    · simp [Value.ownBlock] at hv
    · simp only [Value.ownBlock, Option.some.injEq] at hu hv
      subst hu
      subst hv
      rw [h1] at h2
      injection h2 with h2
      injection h2 with _ q
      exact hne q
theorem sep_new (h : w.ownsRow base e size u n us) (hv : v'.ownBlock = v.ownBlock ∨ ∃ k, w.heap.size ≤ k ∧ v'.ownBlock = some k) (hs : sepV u v) : sepV u v' := by
  intro g hu hg
  rcases hv with q | ⟨k, hk, q⟩
  · rw [q] at hg; exact hs g hu hg
  · rw [q] at hg
    injection hg with hg
    have := (World.ownsRow.lt h g hu).2
    omega
theorem sep_above (h : w.ownsRow base e size u n us) (hv : ∀ g, v.ownBlock = some g → w.heap.size ≤ g) : sepV u v := by
  intro g hu hg
  have := (World.ownsRow.lt h g hu).2
  have := hv g hg
  omega
theorem own_set_ne {g j : Nat} (h : w.ownsRow base e size v n us) (hne : v.ownBlock ≠ some g) (z : Value) : (w.setCell ⟨g, j, none⟩ z).ownsRow base e size v n us := by
  obtain ⟨h1, h2⟩ := h
  refine ⟨h1, ?_⟩
  rcases h2 with h2 | ⟨k, cap, cur, q, hg, hc, r⟩
  · exact .inl h2
  · refine .inr ⟨k, cap, cur, q, hg, ?_, r⟩
    rw [Below.heap_setCell _ _ _ _ (by rintro rfl; apply hne; rw [q]; rfl)]
    exact hc

/-- The paths so far, the positions, what is left, each in blocks of its own. -/
structure WlkM (w wr : World) (vo vw vl : Value) (vs : List Value) (L : List (List Int)) (W F : List Int) : Prop where
  rows : OwnR wr w.heap.size vo vs
  rws : Rws wr w.heap.size vs L
  way : OwnI wr w.heap.size vw W
  lef : OwnI wr w.heap.size vl F
  sep : sepV vw vl
  offw : ∀ i, i < vs.length → sepV (valAt vs i) vw
  offl : ∀ i, i < vs.length → sepV (valAt vs i) vl
  bel : Below w.heap.size w wr
theorem WlkM.start : WlkM w w (.slice none 0 0) (.slice none 0 0) (.slice none 0 0) [] [] [] [] :=
  ⟨OwnR.nil_, Rws.nil_, OwnI.nil_, OwnI.nil_, fun g h => by simp [Value.ownBlock] at h, fun i h => absurd h (by simp), fun i h => absurd h (by simp), Below.refl _ _⟩
theorem WlkM.on (h : WlkM w w1 vo vw vl vs L W F) (hb : Below w1.heap.size w1 w2) : WlkM w w2 vo vw vl vs L W F :=
  ⟨owns_on h.rows hb, h.rws.on hb, h.way.on hb, h.lef.on hb, h.sep, h.offw, h.offl, h.bel.trans (hb.mono h.bel.size)⟩
theorem WlkM.snoc {r : List Int} (h : WlkM w w1 vo vw vl vs L W F) (hb : Below w1.heap.size w1 w2) (hu : OwnI w2 w1.heap.size u r) (hr : OwnR w3 w.heap.size vo' (vs ++ [u])) (hc : Chg [23] w.heap.size w2 w3) :
    WlkM w w3 vo' vw vl (vs ++ [u]) (L ++ [r]) W F := by
  have h2 := h.on hb
  have hi : (3 : TypeId) ∉ [(23 : TypeId)] := by decide
  have hsz := h.bel.size
  have hup : ∀ g, u.ownBlock = some g → w1.heap.size ≤ g := fun g hg => (World.ownsRow.lt hu g hg).1
  refine ⟨hr, (h2.rws.chg hc hi).snoc (hc.own hi (hu.lower hsz)), hc.own hi h2.way, hc.own hi h2.lef, h.sep, fun i hi' => ?_, fun i hi' => ?_, h2.bel.trans hc.bel⟩
  · by_cases q : i < vs.length
    · rw [valAt_left q]; exact h.offw i q
    · have : i = vs.length := by simp at hi'; omega
      subst this
      rw [valAt_right]
      exact (sep_above h.way hup).symm
  · by_cases q : i < vs.length
    · rw [valAt_left q]; exact h.offl i q
    · have : i = vs.length := by simp at hi'; omega
      subst this
      rw [valAt_right]
      exact (sep_above h.lef hup).symm
/-- An append to the positions. -/
theorem WlkM.growW {W' : List Int} (h : WlkM w w1 vo vw vl vs L W F) (hw : OwnI w2 w.heap.size vw' W') (hg : w1.grownBy w2 vw.ownBlock) (hv : vw'.ownBlock = vw.ownBlock ∨ ∃ k, w1.heap.size ≤ k ∧ vw'.ownBlock = some k) : WlkM w w2 vo vw' vl vs L W' F := by
  have hne : (23 : TypeId) ≠ 3 := by decide
  have hsz := h.bel.size
  refine ⟨World.ownsRow.kept h.rows hg (sep_kind h.rows h.way hne).row, ⟨h.rws.1, fun i hi => World.ownsRow.kept (h.rws.2 i hi) hg (h.offw i (by rw [h.rws.1]; exact hi)).row⟩, hw, World.ownsRow.kept h.lef hg h.sep.symm.row, (sep_new h.lef hv h.sep.symm).symm, fun i hi => sep_new (h.rws.2 i (by rw [← h.rws.1]; exact hi)) hv (h.offw i hi), h.offl, h.bel.trans ((Below.refl _ _).grown hg hsz (fun k hk => (World.ownsRow.lt h.way k hk).1))⟩
/-- An append to what is left. -/
theorem WlkM.growL {F' : List Int} (h : WlkM w w1 vo vw vl vs L W F) (hw : OwnI w2 w.heap.size vl' F') (hg : w1.grownBy w2 vl.ownBlock) (hv : vl'.ownBlock = vl.ownBlock ∨ ∃ k, w1.heap.size ≤ k ∧ vl'.ownBlock = some k) : WlkM w w2 vo vw vl' vs L W F' := by
  have hne : (23 : TypeId) ≠ 3 := by decide
  have hsz := h.bel.size
  refine ⟨World.ownsRow.kept h.rows hg (sep_kind h.rows h.lef hne).row, ⟨h.rws.1, fun i hi => World.ownsRow.kept (h.rws.2 i hi) hg (h.offl i (by rw [h.rws.1]; exact hi)).row⟩, World.ownsRow.kept h.way hg h.sep.row, hw, sep_new h.way hv h.sep, h.offw, fun i hi => sep_new (h.rws.2 i (by rw [← h.rws.1]; exact hi)) hv (h.offl i hi), h.bel.trans ((Below.refl _ _).grown hg hsz (fun k hk => (World.ownsRow.lt h.lef k hk).1))⟩
theorem WlkM.setW {g k cap i : Nat} (h : WlkM w w1 vo (.slice (some ⟨g, 0, none⟩) k cap) vl vs L W F) (z : Int) : WlkM w (w1.setCell ⟨g, i, none⟩ (.int .i64 z)) vo (.slice (some ⟨g, 0, none⟩) k cap) vl vs L (W.set i z) F := by
  have hne : (23 : TypeId) ≠ 3 := by decide
  have hg := (World.ownsRow.lt h.way g rfl).1
  exact ⟨own_set_ne h.rows ((sep_kind h.rows h.way hne).set rfl) _, ⟨h.rws.1, fun j hj => (h.rws.2 j hj).set_ne ((h.offw j (by rw [h.rws.1]; exact hj)).set rfl) _⟩, h.way.put z, h.lef.set_ne (h.sep.symm.set rfl) _, h.sep, h.offw, h.offl, h.bel.setCell hg _⟩
theorem WlkM.setL {g k cap i : Nat} (h : WlkM w w1 vo vw (.slice (some ⟨g, 0, none⟩) k cap) vs L W F) (z : Int) : WlkM w (w1.setCell ⟨g, i, none⟩ (.int .i64 z)) vo vw (.slice (some ⟨g, 0, none⟩) k cap) vs L W (F.set i z) := by
  have hne : (23 : TypeId) ≠ 3 := by decide
  have hg := (World.ownsRow.lt h.lef g rfl).1
  exact ⟨own_set_ne h.rows ((sep_kind h.rows h.lef hne).set rfl) _, ⟨h.rws.1, fun j hj => (h.rws.2 j hj).set_ne ((h.offl j (by rw [h.rws.1]; exact hj)).set rfl) _⟩, h.way.set_ne (h.sep.set rfl) _, h.lef.put z, h.sep, h.offw, h.offl, h.bel.setCell hg _⟩
theorem WlkM.cut {g1 g2 n1 n2 c1 c2 k : Nat} (h : WlkM w w1 vo (.slice (some ⟨g1, 0, none⟩) n1 c1) (.slice (some ⟨g2, 0, none⟩) n2 c2) vs L W F) (h1 : k ≤ n1) (h2 : k ≤ n2) :
    WlkM w w1 vo (.slice (some ⟨g1, 0, none⟩) k c1) (.slice (some ⟨g2, 0, none⟩) k c2) vs L (W.take k) (F.take k) :=
  ⟨h.rows, h.rws, h.way.takes h1, h.lef.takes h2, h.sep, h.offw, h.offl, h.bel⟩
theorem WlkM.out (h : WlkM w w1 vo vw vl vs L W F) : OwnT w1 w.heap.size vo L := OwnT.mk h.rows h.rws
end

/-- A row appended: what turns is of the kind of rows. -/
theorem app_rowc {w : World} {ops : Array Oper} {rest : List Oper} {o : Oper} {a : Act} {Q : Exit → Act → World → Prop} (hgd : o.guard = none) (s x : Operand)
    (ho : o.op = .call { callee := .builtin .append, args := #[s, x], argTypes := #[25, 25] })
    (base : Nat) (v : Value) (vs : List Value) (u : Value) (hs : a.eval s = v) (hown : OwnR w base v vs) (hu : u.oneCell' = true) (hx : a.eval x = .slice (some ⟨w.heap.size, 0, none⟩) 1 1)
    (hlen : vs.length + 1 ≤ 5864062014634) (hbase : base ≤ w.heap.size)
    (h : ∀ v' w', OwnR w' base v' (vs ++ [u]) → Chg [23] base w w' → wpList Try.prog ops Q rest (a.put o.dst v') w') : wpList Try.prog ops Q (o :: rest) a (w.alloc (.cells #[u] 23)) := by
  obtain ⟨i0, hi0, hz0, hz1, hz2⟩ := info_parts rows_info
  have k2' : OwnR (w.alloc (.cells #[u] 23)) base v vs := World.ownsRow.alloc hown _
  refine wpList_append_own _ hgd s x 25 ho base 23 i0 _ 1 24 Try.underlying25 hi0 hz0 hz1 hz2 rfl (by omega) v vs.length vs hs k2' ⟨w.heap.size, 0, none⟩ 1 1 [u] hx rfl
    (World.news_of_block (cs := #[u]) (t := 23) (fr := (0, 0)) (heap_alloc_new w _)) (by simpa using hu) (by unfold maxLen; omega) (by omega) (by simp; omega) ?_
  intro v' w' h1 h2 _
  refine h v' w' ?_ ((Chg.of_below (below_new w _) hbase).trans (Chg.grown h2 k2' (by simp; omega)))
  unfold OwnR; simpa using h1
/-- Two rows in a slice that is written out: the positions, one number. -/
theorem two_rows {wr : World} {b0 S cw : Nat} {Aw : Option Addr} {W : List Int} {y : Int} (h : OwnI wr b0 (.slice Aw S cw) W) (hS : W.length = S) (hcw : S ≤ cw) (hnw : Aw = none → cw = 0) (hf : S ≤ 1000) :
    TupsAt ((wr.alloc (.cells #[.int .i64 y] 3)).alloc (.cells #[.slice Aw S cw, .slice (some ⟨wr.heap.size, 0, none⟩) 1 1] 23)) ((wr.alloc (.cells #[.int .i64 y] 3)).alloc (.cells #[.slice Aw S cw, .slice (some ⟨wr.heap.size, 0, none⟩) 1 1] 23)).heap.size (some ⟨wr.heap.size + 1, 0, none⟩) 2 [W, [y]] := by
  have hb := below_alloc2 wr (.cells #[.int .i64 y] 3) (.cells #[.slice Aw S cw, .slice (some ⟨wr.heap.size, 0, none⟩) 1 1] 23)
  have h1 : IntsAt ((wr.alloc (.cells #[.int .i64 y] 3)).alloc (.cells #[.slice Aw S cw, .slice (some ⟨wr.heap.size, 0, none⟩) 1 1] 23)) ((wr.alloc (.cells #[.int .i64 y] 3)).alloc (.cells #[.slice Aw S cw, .slice (some ⟨wr.heap.size, 0, none⟩) 1 1] 23)).heap.size Aw S W := by
    obtain ⟨A3, c3, e, _, hi⟩ := h.intsAt
    rw [hS] at e hi
    simp only [Value.slice.injEq] at e
    obtain ⟨rfl, -, -⟩ := e
    exact hi.on hb
  have h2 : IntsAt ((wr.alloc (.cells #[.int .i64 y] 3)).alloc (.cells #[.slice Aw S cw, .slice (some ⟨wr.heap.size, 0, none⟩) 1 1] 23)) ((wr.alloc (.cells #[.int .i64 y] 3)).alloc (.cells #[.slice Aw S cw, .slice (some ⟨wr.heap.size, 0, none⟩) 1 1] 23)).heap.size (some ⟨wr.heap.size, 0, none⟩) 1 [y] :=
    (IntsAt.news wr [y]).on (below_new _ _)
  have hn := heap_alloc_new (wr.alloc (.cells #[.int .i64 y] 3)) (.cells #[.slice Aw S cw, .slice (some ⟨wr.heap.size, 0, none⟩) 1 1] 23)
  have hsz : (wr.alloc (.cells #[.int .i64 y] 3)).heap.size = wr.heap.size + 1 := by simp
  rw [hsz] at hn
  refine ⟨rfl, fun _ => ⟨wr.heap.size + 1, 0, rfl, by simp, fun i hi => ?_⟩⟩
  match i, hi with
  | 0, _ =>
    refine ⟨Aw, cw, ?_, ?_, hnw⟩
    · rw [cell_of_row _ _ _ _ _ _ hn]
      show (some (Value.slice Aw S cw)) = some (Value.slice Aw W.length cw)
      rw [hS]
    · show RowIn _ _ Aw W.length cw W
      rw [hS]; exact ⟨h1, hcw, by omega⟩
  | 1, _ =>
    refine ⟨some ⟨wr.heap.size, 0, none⟩, 1, ?_, ⟨h2, Nat.le_refl _, by show 1 * 8 ≤ _; omega⟩, fun e => by cases e⟩
    rw [cell_of_row _ _ _ _ _ _ hn]; rfl
/-- At the first label: at code k, the stack. -/
structure NCp (ss : List Sym) (t : List Int) (k : Nat) (st : List (Nat × Nat)) (L : List (List Int)) : Prop where
  lt : k < t.length
  len : L.length = k
  eq : pths ss t [] = L ++ pths ss (t.drop k) st
  row : trm 24 ss (t.drop (k + 1)) (arc ss (intAt t k) + sumS st)
  few : st.length ≤ k
  small : ∀ p ∈ st, p.1 + p.2 ≤ 3
/-- At the second one: k codes are behind. -/
structure NAp (ss : List Sym) (t : List Int) (k : Nat) (st : List (Nat × Nat)) (L : List (List Int)) : Prop where
  le : k ≤ t.length
  len : L.length = k
  eq : pths ss t [] = L ++ pths ss (t.drop k) (pops st)
  row : trm 24 ss (t.drop k) (sumS st)
  few : st.length ≤ k
  small : ∀ p ∈ st, p.1 + p.2 ≤ 3
section
variable {ss : List Sym} {t : List Int} {k j l : Nat} {st s : List (Nat × Nat)} {L : List (List Int)}
theorem NCp.start (h : exprB ss t = true) : NCp ss t 0 [] [] := by
  obtain ⟨c, r, rfl, _, h1⟩ := expr_xpr h
  exact ⟨by simp, rfl, rfl, h1, Nat.le_refl _, fun p hp => by cases hp⟩
theorem NCp.own (h : NCp ss t k st L) : pths ss (t.drop k) st = (wayL st ++ [max (intAt t k) (-1)]) :: pths ss (t.drop (k + 1)) (nxt (arc ss (intAt t k)) st) := by
  rw [drop_get h.lt (intAt_get h.lt), pths_cons]
theorem NCp.push (h : NCp ss t k st L) (ha : 0 < arc ss (intAt t k)) (ha3 : arc ss (intAt t k) ≤ 3) : NCp ss t (k + 1) ((0, arc ss (intAt t k) - 1) :: st) (L ++ [wayL st ++ [max (intAt t k) (-1)]]) := by
  have hr := h.row
  have hl := trm_len hr
  rw [List.length_drop] at hl
  have hlt : k + 1 < t.length := by omega
  rw [drop_get hlt (intAt_get hlt)] at hr
  obtain ⟨i, h1, _, h2⟩ := trm_head hr
  refine ⟨hlt, by simp [h.len], ?_, ?_, by have := h.few; simp; omega, fun p hp => ?_⟩
  rotate_left 2
  · rcases List.mem_cons.1 hp with rfl | hp
    · show 0 + (arc ss (intAt t k) - 1) ≤ 3; omega
    · exact h.small p hp
  · rw [h.eq, h.own, nxt_pos ha]; simp
  · have e : sumS ((0, arc ss (intAt t k) - 1) :: st) = i := by simp only [sumS]; omega
    rw [e]; exact h2
theorem NCp.leaf (h : NCp ss t k st L) (ha : arc ss (intAt t k) = 0) : NAp ss t (k + 1) st (L ++ [wayL st ++ [max (intAt t k) (-1)]]) := by
  refine ⟨h.lt, by simp [h.len], ?_, ?_, by have := h.few; omega, h.small⟩
  · rw [h.eq, h.own, ha, nxt_zero]; simp
  · have := h.row; rw [ha, Nat.zero_add] at this; exact this
theorem NAp.done (h : NAp ss t k [] L) : L = pths ss t [] := by
  have := trm_zero h.row
  rw [h.eq, this, pths_nil, List.append_nil]
theorem NAp.next (h : NAp ss t k ((j, l + 1) :: s) L) : NCp ss t k ((j + 1, l) :: s) L := by
  have hr := h.row
  have hl := trm_len hr
  rw [List.length_drop] at hl
  simp only [sumS] at hl
  have hlt : k < t.length := by omega
  rw [drop_get hlt (intAt_get hlt)] at hr
  obtain ⟨i, h1, _, h2⟩ := trm_head hr
  refine ⟨hlt, h.len, ?_, ?_, by have := h.few; simp at this ⊢; omega, fun p hp => ?_⟩
  rotate_left 2
  · rcases List.mem_cons.1 hp with rfl | hp
    · have := h.small (j, l + 1) (List.mem_cons_self ..); simp only at this ⊢; omega
    · exact h.small p (List.mem_cons_of_mem _ hp)
  · rw [h.eq, pops_succ]
  · have e : sumS ((j + 1, l) :: s) = i := by simp only [sumS] at h1 ⊢; omega
    rw [e]; exact h2
theorem NAp.pop (h : NAp ss t k ((j, 0) :: s) L) : NAp ss t k s L :=
  ⟨h.le, h.len, by rw [h.eq, pops_zero], by have := h.row; simpa [sumS] using this, by have := h.few; simp at this; omega, fun p hp => h.small p (List.mem_cons_of_mem _ hp)⟩
end
end Go.Proofs.Ythdpojokogiinaa
