/-
  The walk of the law UnifyVars.
-/
import Derived.Test.YtlpafnaokpjoiaaUnifyDeep
import Derived.BigQuiet
namespace Go.Proofs.Ytlpafnaokpjoiaa
open Go.RowKit
set_option linter.unusedSimpArgs false
set_option linter.unusedVariables false
set_option maxRecDepth 100000

/-- The least variable of each class, and what that means. -/
structure Rank (f : Nat → Nat) (ps : List (Nat × Nat)) : Prop where
  le : ∀ v, v < 24 → f v ≤ v
  self : ∀ v, v < 24 → f (f v) = f v
  mean : ∀ F : Nat → List Int, (∀ p ∈ ps, F p.1 = F p.2) ↔ ∀ v, v < 24 → F v = F (f v)
def glue (f : Nat → Nat) (x y k : Nat) : Nat → Nat := fun v => if v < k ∧ f v = x then y else f v
theorem Rank.start : Rank (fun v => v) [] := ⟨fun _ _ => Nat.le_refl _, fun _ _ => rfl, fun F => ⟨fun _ _ _ => rfl, fun _ p hp => by cases hp⟩⟩
theorem Rank.step {f : Nat → Nat} {ps : List (Nat × Nat)} (h : Rank f ps) {v w : Nat} (hv : v < 24) (hw : w < 24) : Rank (glue f (max (f v) (f w)) (min (f v) (f w)) 24) (ps ++ [(v, w)]) := by
  obtain ⟨x, hx⟩ : ∃ x, x = max (f v) (f w) := ⟨_, rfl⟩
  obtain ⟨y, hy⟩ : ∃ y, y = min (f v) (f w) := ⟨_, rfl⟩
  rw [← hx, ← hy]
  have hv1 := h.le v hv
  have hw1 := h.le w hw
  have fx : f x = x := by
    rcases Nat.le_total (f v) (f w) with e | e
    · rw [Nat.max_eq_right e] at hx; rw [hx]; exact h.self w hw
    · rw [Nat.max_eq_left e] at hx; rw [hx]; exact h.self v hv
  have fy : f y = y := by
    rcases Nat.le_total (f v) (f w) with e | e
    · rw [Nat.min_eq_left e] at hy; rw [hy]; exact h.self v hv
    · rw [Nat.min_eq_right e] at hy; rw [hy]; exact h.self w hw
  have hxy : y ≤ x := by omega
  have hx24 : x < 24 := by omega
  have gx : ∀ k, k < 24 → f k = x → glue f x y 24 k = y := fun k hk e => by unfold glue; rw [if_pos ⟨hk, e⟩]
  have go : ∀ k, f k ≠ x → glue f x y 24 k = f k := fun k e => by unfold glue; rw [if_neg (fun hh => e hh.2)]
  refine ⟨fun k hk => ?_, fun k hk => ?_, fun F => ?_⟩
  · have := h.le k hk
    by_cases e : f k = x
    · rw [gx k hk e]; omega
    · rw [go k e]; exact this
  · have := h.le k hk
    by_cases e : f k = x
    · rw [gx k hk e]
      by_cases e2 : f y = x
      · rw [gx y (by omega) e2]
      · rw [go y e2, fy]
    · rw [go k e, go (f k) (by rw [h.self k hk]; exact e), h.self k hk]
  · constructor
    · intro hp k hk
      have h1 := (h.mean F).1 fun p hp' => hp p (List.mem_append_left _ hp')
      have h2 : F v = F w := hp (v, w) (by simp)
      have h3 : F x = F y := by
        have e1 := h1 v hv
        have e2 := h1 w hw
        have e3 : F (f v) = F (f w) := by rw [← e1, ← e2, h2]
        rcases Nat.le_total (f v) (f w) with e | e
        · rw [hx, hy, Nat.max_eq_right e, Nat.min_eq_left e]; exact e3.symm
        · rw [hx, hy, Nat.max_eq_left e, Nat.min_eq_right e]; exact e3
      have h4 := h1 k hk
      by_cases e : f k = x
      · rw [gx k hk e, h4, e, h3]
      · rw [go k e]; exact h4
    · intro hk
      have h3 : F x = F y := by have := hk x hx24; rw [gx x hx24 fx] at this; exact this
      have h1 : ∀ k, k < 24 → F k = F (f k) := fun k hk' => by
        have := hk k hk'
        by_cases e : f k = x
        · rw [gx k hk' e] at this; rw [this, e, h3]
        · rw [go k e] at this; exact this
      have h2 : F v = F w := by
        rw [h1 v hv, h1 w hw]
        rcases Nat.le_total (f v) (f w) with e | e
        · rw [Nat.max_eq_right e] at hx; rw [Nat.min_eq_left e] at hy; rw [← hx, ← hy]; exact h3.symm
        · rw [Nat.max_eq_left e] at hx; rw [Nat.min_eq_right e] at hy; rw [← hx, ← hy]; exact h3
      intro p hp
      rcases List.mem_append.1 hp with h' | h'
      · exact (h.mean F).2 h1 p h'
      · simp at h'; subst h'; exact h2
theorem glue_zero (f : Nat → Nat) (x y : Nat) : glue f x y 0 = f := by funext v; unfold glue; rw [if_neg (by omega)]
theorem glue_yes {f : Nat → Nat} {x y k : Nat} (h : f k = x) : glue f x y (k + 1) = fun v => if v = k then y else glue f x y k v := by
  funext v
  unfold glue
  by_cases e : v = k
  · subst e; rw [if_pos ⟨by omega, h⟩, if_pos rfl]
  · rw [if_neg e]
    by_cases q : v < k ∧ f v = x
    · rw [if_pos q, if_pos ⟨by omega, q.2⟩]
    · rw [if_neg q, if_neg (fun hh => q ⟨by omega, hh.2⟩)]
theorem glue_no {f : Nat → Nat} {x y k : Nat} (h : f k ≠ x) : glue f x y (k + 1) = glue f x y k := by
  funext v
  unfold glue
  by_cases q : v < k ∧ f v = x
  · rw [if_pos q, if_pos ⟨by omega, q.2⟩]
  · rw [if_neg q, if_neg]
    intro hh
    have hvk : v ≠ k := fun e => h (by rw [← e]; exact hh.2)
    exact q ⟨by omega, hh.2⟩
theorem glue_at {f : Nat → Nat} {x y k : Nat} : glue f x y k k = f k := by unfold glue; rw [if_neg (by omega)]

/-- The codes of variables. -/
def vcs (vs : List Nat) : List Int := vs.flatMap fun v : Nat => [-1 - (v : Int)]
theorem vcs_snoc (vs : List Nat) (v : Nat) : vcs (vs ++ [v]) = vcs vs ++ [-1 - (v : Int)] := by unfold vcs; simp
theorem vcs_length (vs : List Nat) : (vcs vs).length = vs.length := by unfold vcs; induction vs with | nil => rfl | cons v vs ih => simp [ih]
theorem ap_vcs (θ : Nat → List Int) (vs : List Nat) : ap θ (vcs vs) = vs.flatMap θ := by
  unfold vcs; rw [ap_flatMap]; exact flatMap_congr' fun v _ => ap_var v
theorem trm_vcs {ss : List Sym} {vs : List Nat} (h : ∀ v ∈ vs, v < 24) : trm 24 ss (vcs vs) vs.length := trm_flatMap fun v hv => trm_var (h v hv)
theorem vars_told {f : Nat → Nat} {vs ws : List Nat} {E : Int} {is : Bool} {bs : List Bd} (hr : Rank f (vs.zip ws)) (hl : vs.length = ws.length) (h20 : vs.length ≤ 20) (hv : ∀ v ∈ vs, v < 24) (hw : ∀ v ∈ ws, v < 24) (hu : UniR wordsL (vcs vs) (vcs ws) E is bs) :
    E = 0 ∧ is = true ∧ bs = bdsOf (fun v => [-1 - (f v : Int)]) 24 := by
  have row : ∀ us : List Nat, (∀ v ∈ us, v < 24) → us.length ≤ 20 → rowB wordsL (vcs us) = true := fun us h h2 => by
    obtain ⟨ms, q, _⟩ := tl_of_trm (trm_vcs (ss := wordsL) h)
    exact one_row may_words (by rw [vcs_length]; omega) q
  have key : ∀ θ, Sub 24 wordsL θ → (ap θ (vcs vs) = ap θ (vcs ws) ↔ ∀ v, v < 24 → θ v = θ (f v)) := fun θ hθ => by
    rw [ap_vcs, ap_vcs, flatMap_pairs (V := 24) (ss := wordsL) hl (fun v h => hθ v (hv v h)) (fun v h => hθ v (hw v h)), hr.mean θ]
  have hf : ∀ v, v < 24 → f v < 24 := fun v hv => by have := hr.le v hv; omega
  have hs : Sub 24 wordsL (fun v => [-1 - (f v : Int)]) := fun v hv => trm_var (hf v hv)
  have hc : Canon 24 wordsL (vcs vs) (vcs ws) (fun v => [-1 - (f v : Int)]) := by
    refine ⟨hs, (key _ hs).2 fun v hv => ?_, fun θ hθ e v hv => ?_, fun v w hv e => ?_⟩
    · show [-1 - (f v : Int)] = [-1 - (f (f v) : Int)]; rw [hr.self v hv]
    · show ap θ [-1 - (f v : Int)] = θ v
      rw [ap_var]; exact ((key θ hθ).1 e v hv).symm
    · injection e with e
      have := hr.le v hv
      omega
  have k : UniR wordsL (vcs vs) (vcs ws) 0 true (bdsOf (fun v => [-1 - (f v : Int)]) 24) := .inr ⟨by rw [row vs hv h20, row ws hw (by omega)]; rfl, .inr ⟨_, hc, .inl ⟨fun v _ => by simp, rfl, rfl, rfl⟩⟩⟩
  exact hu.unique k
theorem bdsOf_front {σ : Nat → List Int} {v : Nat} : ∀ {n : Nat}, v < n → isV (σ v) v = false → ∃ rest, bdsOf σ n = bdsOf σ v ++ ⟨v, σ v⟩ :: rest
  | 0, h, _ => by omega
  | n + 1, h, hi => by
    rw [bdsOf_succ]
    by_cases e : v = n
    · subst e; rw [hi]; exact ⟨[], by simp⟩
    · obtain ⟨rest, hr⟩ := bdsOf_front (n := n) (by omega) hi
      rw [hr]; exact ⟨rest ++ _, by rw [List.append_assoc]; rfl⟩
theorem bdAt_mid {xs rest : List Bd} {x : Bd} : bdAt (xs ++ x :: rest) xs.length = x ∧ xs.length < (xs ++ x :: rest).length := by
  constructor
  · unfold bdAt; simp
  · simp
theorem isV_rank {f : Nat → Nat} (v : Nat) : isV [-1 - (f v : Int)] v = decide (f v = v) := by
  by_cases e : f v = v
  · rw [decide_eq_true e, isV_iff, e]
  · rw [decide_eq_false e, isV_not]; intro h; injection h with h; exact e (by omega)

/-- The array of ranks in block rb. -/
def rankC (f : Nat → Nat) : Array Value := ((List.range 24).map fun v : Nat => Value.int .i64 (f v : Int)).toArray
def RankAt (w : World) (rb : Nat) (f : Nat → Nat) : Prop := w.heap[rb]? = some (.cells (rankC f) 46 (0, 0))
section
variable {w w' : World} {rb base : Nat} {f : Nat → Nat}
theorem RankAt.cell (h : RankAt w rb f) {v : Nat} (hv : v < 24) : w.cell? ⟨rb, v, none⟩ = some (.int .i64 (f v : Int)) := by
  rw [cell_of_row _ _ _ _ _ _ h]
  unfold rankC
  simp [hv]
theorem RankAt.frozen (h : RankAt w rb f) (v : Nat) : w.frozen? ⟨rb, v, none⟩ = false := frozen_of_row _ _ _ _ _ h
theorem RankAt.lt (h : RankAt w rb f) : rb < w.heap.size := (Array.getElem?_eq_some_iff.1 h).1
theorem RankAt.set (h : RankAt w rb f) {v : Nat} (hv : v < 24) (y : Nat) : RankAt (w.setCell ⟨rb, v, none⟩ (.int .i64 (y : Int))) rb (fun k => if k = v then y else f k) := by
  have := heap_setCell_same _ _ v _ _ (.int .i64 (y : Int)) h
  unfold RankAt
  rw [this]
  congr 2
  unfold rankC
  apply Array.ext'
  simp only [Array.toList_setIfInBounds]
  apply List.ext_getElem?
  intro i
  rw [List.getElem?_set]
  by_cases e : v = i
  · subst e; simp [hv]
  · rw [if_neg e]
    by_cases hi : i < 24
    · have e' : ¬ i = v := fun h => e h.symm
      simp [hi, e']
    · simp [hi]
theorem RankAt.on (h : RankAt w rb f) (hb : Below w.heap.size w w') : RankAt w' rb f := by
  unfold RankAt; rw [hb.block rb h.lt]; exact h
theorem int_stay {b : Nat} {v : Value} {xs : List Int} (hv : OwnI w b v xs) (hg : w.grownBy w' v.ownBlock) {k : Nat} {cs : Array Value} {e : TypeId} {fr : Nat × Nat} (hk : w.heap[k]? = some (.cells cs e fr)) (he : e ≠ 3) : w'.heap[k]? = some (.cells cs e fr) := by
  rw [hg.block k (Array.getElem?_eq_some_iff.1 hk).1 ?_]
  · exact hk
  · intro hb
    rcases hv.2 with ⟨rfl, _⟩ | ⟨g, cap, cur, rfl, _, hc, _⟩
    · simp [Value.ownBlock] at hb
    · simp only [Value.ownBlock, Option.some.injEq] at hb
      subst hb
      rw [hk] at hc
      injection hc with hc
      injection hc with _ q
      exact he q
theorem OwnI.set_other {b g j : Nat} {v : Value} {xs : List Int} {cur : Array Value} {e : TypeId} (hv : OwnI w b v xs) (hg : w.heap[g]? = some (.cells cur e (0, 0))) (he : e ≠ 3) (u : Value) : OwnI (w.setCell ⟨g, j, none⟩ u) b v xs := by
  have := Chg.set (base := 0) (j := j) hg (by omega) u
  exact this.own (by simp; exact fun h => he h.symm) hv
end
/-- Two rows of integers of the call's own that don't lie in the same block. -/
def apart (u v : Value) : Prop := u.ownBlock = none ∨ u.ownBlock ≠ v.ownBlock
theorem apart_symm {u v : Value} (h : apart u v) : apart v u := by
  unfold apart at *
  rcases h with h | h
  · cases e : v.ownBlock with
    | none => exact .inl rfl
    | some k => right; rw [h]; simp
  · exact .inr fun e => h e.symm
theorem apart_new {w : World} {b : Nat} {u v v' : Value} {ys : List Int} (h : apart u v) (hu : OwnI w b u ys) (hv' : v'.ownBlock = v.ownBlock ∨ ∃ k, w.heap.size ≤ k ∧ v'.ownBlock = some k) : apart u v' := by
  unfold apart at *
  rcases hv' with e | ⟨k, hk, e⟩
  · rw [e]; exact h
  · cases eu : u.ownBlock with
    | none => exact .inl rfl
    | some j =>
      right
      rw [e]
      intro q
      injection q with q
      have := (World.ownsRow.lt hu j eu).2
      omega

/-- Where the law stands behind k pairs. -/
structure VarW (base rb : Nat) (w : World) (k : Nat) (qa qb : Value) (f : Nat → Nat) (vs ws : List Nat) : Prop where
  lv : vs.length = k
  lw : ws.length = k
  v8 : ∀ v ∈ vs, v < 24
  w8 : ∀ v ∈ ws, v < 24
  rank : Rank f (vs.zip ws)
  oa : OwnI w base qa (vcs vs)
  ob : OwnI w base qb (vcs ws)
  ap_ : apart qa qb
  at_ : RankAt w rb f
theorem zip_snoc {vs ws : List Nat} (h : vs.length = ws.length) (v w : Nat) : (vs ++ [v]).zip (ws ++ [w]) = vs.zip ws ++ [(v, w)] := by
  rw [List.zip_append h]; rfl

theorem two_app {w w' : World} {base rb : Nat} {qa qb qa' : Value} {A B : List Int} {f : Nat → Nat} (oa : OwnI w base qa A) (ob : OwnI w base qb B) (hap : apart qa qb) (ra : RankAt w rb f) (hg : w.grownBy w' qa.ownBlock) (hblk : qa'.ownBlock = qa.ownBlock ∨ ∃ k, w.heap.size ≤ k ∧ qa'.ownBlock = some k) (hb : base ≤ w.heap.size) :
    OwnI w' base qb B ∧ apart qa' qb ∧ RankAt w' rb f ∧ Below base w w' :=
  ⟨World.ownsRow.kept ob hg (apart_symm hap), apart_symm (apart_new (apart_symm hap) ob hblk), int_stay oa hg ra (by decide), (Below.refl base _).grown hg hb (fun k hk => (World.ownsRow.lt oa k hk).1)⟩

set_option maxHeartbeats 1000000 in
theorem unifyVars_walk (A0 A1 : Option Addr) (n0 c0 n1 c1 : Nat) (xs ys : List Int) (w : World) (ha : IntsAt w w.heap.size A0 n0 xs) (hn0 : n0 ≤ maxLen) (hb : IntsAt w w.heap.size A1 n1 ys) (hn1 : n1 ≤ maxLen) :
    Calls Try.prog 7 #[.slice A0 n0 c0, .slice A1 n1 c1] w fun e w' => e = .returned (.bool true) ∧ Below w.heap.size w w' := by
  have HA := Lib.hid ha
  have HB := Lib.hid hb
  have HB0 := Lib.hid (Below.refl w.heap.size w)
  unfold maxLen at hn0 hn1
  clear ha hb
  by_cases h20 : n0 ≤ 20
  · by_cases hle : n0 ≤ n1
    · have g1 : ¬ (20 : Int) < (n0 : Int) := by omega
      have g2 : ¬ (n1 : Int) < (n0 : Int) := by omega
      go_enter Try.func7, Try.ntmps7
      go_wp2_with fail
      refine (awakeU_any _).mono ?_
      rintro e w1 ⟨rfl, hb1⟩
      have HB1 := Lib.hid (HB0.out.trans (hb1.mono HB0.out.size))
      replace HA := Lib.hid (HA.out.on hb1)
      replace HB := Lib.hid (HB.out.on hb1)
      clear hb1
      go_wp2
      obtain ⟨rb, hrb⟩ : ∃ rb, rb = w1.heap.size := ⟨_, rfl⟩
      have HR0 : Hid (RankAt (w1.alloc (.cells (rankC fun _ => 0) 46)) rb (fun _ => 0)) := by rw [hrb]; exact heap_alloc_new _ _
      have HBA := Lib.hid (below_new w1 (.cells (rankC fun _ => 0) 46))
      have hrbl : w1.heap.size ≤ rb := by omega
      rw [← hrb]
      clear hrb
      go_loopw [8] (fun i wr => ∃ k : Nat, i = .int .i64 (k : Int) ∧ k ≤ 24 ∧ RankAt wr rb (fun v => if v < k then v else 0) ∧ Below w1.heap.size w1 wr) (fun i _ => 24 - (intOf i).toNat)
      case atStart => exact ⟨0, rfl, by omega, HR0.out, HBA.out⟩
      case round =>
        obtain ⟨k, rfl, hk, hra, hbw⟩ := hrel
        have HRA := Lib.hid hra
        have HBW := Lib.hid hbw
        clear hra hbw
        by_cases hlt : k < 24
        · have hcl := HRA.out.cell hlt
          have hfz := HRA.out.frozen k
          have HRS := Lib.hid (HRA.out.set hlt k)
          have HBS := Lib.hid (HBW.out.setCell (p := ⟨rb, k, none⟩) hrbl (.int .i64 (k : Int)))
          have hi0 : (0 : Int) ≤ (k : Int) := by omega
          have hi1 : (k : Int) < 24 := by omega
          go_wp2
          go_roundw
          case rel =>
            refine ⟨k + 1, by go_num, by omega, ?_, HBS.out⟩
            have e : (fun v => if v < k + 1 then v else 0) = (fun j => if j = k then k else (fun v => if v < k then v else 0) j) := by
              funext v
              by_cases e1 : v = k
              · subst e1; simp
              · by_cases e2 : v < k
                · simp [e1, e2]; omega
                · simp [e1, e2]; omega
            rw [e]; exact HRS.out
          case measure => simp [intOf]; omega
        · obtain rfl : k = 24 := by omega
          obtain ⟨wA, hwA⟩ : ∃ wA, wA = wr := ⟨_, rfl⟩
          subst hwA
          have HST : Hid (VarW w1.heap.size rb wA 0 (.slice none 0 0) (.slice none 0 0) (fun v => if v < 24 then v else 0) [] []) := by
            refine ⟨rfl, rfl, by simp, by simp, ⟨fun v hv => by simp [hv], fun v hv => by simp [hv], fun F => ⟨fun _ v hv => by simp [hv], fun _ p hp => by cases hp⟩⟩, OwnI.nil_, OwnI.nil_, .inl rfl, HRA.out⟩
          go_wp2
          go_loopw [5, 6, 9] (fun qa qb i wr => ∃ (k : Nat) (f : Nat → Nat) (vs ws : List Nat), i = .int .i64 (k : Int) ∧ k ≤ n0 ∧ VarW w1.heap.size rb wr k qa qb f vs ws ∧ Below w1.heap.size w1 wr) (fun _ _ i _ => n0 - (intOf i).toNat)
          case atStart => exact ⟨0, _, [], [], rfl, by omega, HST.out, HBW.out⟩
          case round =>
            obtain ⟨k, f, vs, ws, rfl, hk0, hvw, hbw2⟩ := hrel
            have HVW := Lib.hid hvw
            have HB2 := Lib.hid hbw2
            clear hvw hbw2 HST
            by_cases hlt2 : k < n0
            · obtain ⟨b1, o1, hA0, hb1', hc1⟩ := (HA.out.below HB2.out).at_ (by omega)
              obtain ⟨b2, o2, hA1, hb2', hc2⟩ := (HB.out.below HB2.out).at_ (by omega)
              have e1 : wr.cell? ⟨b1, o1 + k, none⟩ = some (.int .i64 (intAt xs k)) := hc1 k hlt2
              have e2 : wr.cell? ⟨b2, o2 + k, none⟩ = some (.int .i64 (intAt ys k)) := hc2 k (by omega)
              subst hA0; subst hA1
              obtain ⟨xk, hxk⟩ : ∃ xk, xk = intAt xs k := ⟨_, rfl⟩
              obtain ⟨yk, hyk⟩ : ∃ yk, yk = intAt ys k := ⟨_, rfl⟩
              rw [← hxk] at e1
              rw [← hyk] at e2
              obtain ⟨v, hv8, hve⟩ := u_mod4 xk 8 (by omega)
              obtain ⟨u, hu8, hue⟩ := u_mod4 yk 8 (by omega)
              have HMV := Lib.hid hve
              have HMU := Lib.hid hue
              clear hc1 hc2 hxk hyk hve hue
              have i0 : (0 : Int) ≤ (k : Int) := by omega
              have i1 : (k : Int) < (n0 : Int) := by omega
              have i2 : (k : Int) < (n1 : Int) := by omega
              go_wp2_with fail
              go_quiet (fail)
              have hve : (IntKind.u64.wrap xk).tmod 8 = (v : Int) := HMV.out
              have hue : (IntKind.u64.wrap yk).tmod 8 = (u : Int) := HMU.out
              simp only [hve, hue, same_var (show v < 24 by omega), same_var (show u < 24 by omega)]
              clear hve hue HMV HMU e1 e2
              obtain ⟨w3, hw3⟩ : ∃ w3, w3 = wr.drewN nq := ⟨_, rfl⟩
              rw [← hw3]
              have hb3 : Below wr.heap.size wr w3 := by rw [hw3]; exact below_drewN wr _
              have HOA := Lib.hid (HVW.out.oa.on hb3)
              have HOB := Lib.hid (HVW.out.ob.on hb3)
              have HRK := Lib.hid (HVW.out.at_.on hb3)
              have HB3 := Lib.hid (HB2.out.trans (hb3.mono HB2.out.size))
              have hsz3 := HB3.out.size
              have HVL : Hid ((vcs vs).length + 1 ≤ 1000000) := by show _ ≤ _; rw [vcs_length, HVW.out.lv]; omega
              have HWL : Hid ((vcs ws).length + 1 ≤ 1000000) := by show _ ≤ _; rw [vcs_length, HVW.out.lw]; omega
              have hv24 : v < 24 := by omega
              have hu24 : u < 24 := by omega
              clear hw3 hb3
              go_wp2_with (at_builtin
                           first
                           | (refine wpList_plain rfl fun _ hK => ?_
                              refine app_int_op (.tmp 59) (.tmp 62) rfl w1.heap.size _ (vcs vs) (-1 - (v : Int)) rfl HOA.out rfl HVL.out hsz3 ?_
                              intro v4 w4 hown4 hg4 hb4
                              obtain ⟨k1, k2, k3, k4⟩ := two_app (HOA.out.alloc _) (HOB.out.alloc _) HVW.out.ap_ (HRK.out.on (below_new _ _)) hg4 hb4 (by simp; omega)
                              have HOA4 := Lib.hid (hown4.cast (vcs_snoc vs v).symm)
                              have HOB4 := Lib.hid k1
                              have HAP4 := Lib.hid k2
                              have HRK4 := Lib.hid k3
                              have HB4 := Lib.hid (HB3.out.trans (((below_new w3 _).mono hsz3).trans k4))
                              have hsz4 := HB4.out.size
                              clear hown4 hg4 hb4 k1 k2 k3 k4
                              refine hK _ _ ?_)
                           | (refine wpList_plain rfl fun _ hK => ?_
                              refine app_int_op (.tmp 64) (.tmp 67) rfl w1.heap.size _ (vcs ws) (-1 - (u : Int)) rfl HOB4.out rfl HWL.out hsz4 ?_
                              intro v5 w5 hown5 hg5 hb5
                              obtain ⟨k1, k2, k3, k4⟩ := two_app (HOB4.out.alloc _) (HOA4.out.alloc _) (apart_symm HAP4.out) (HRK4.out.on (below_new _ _)) hg5 hb5 (by simp; omega)
                              have HOB5 := Lib.hid (hown5.cast (vcs_snoc ws u).symm)
                              have HOA5 := Lib.hid k1
                              have HAP5 := Lib.hid (apart_symm k2)
                              have HRK5 := Lib.hid k3
                              have HB5 := Lib.hid (HB4.out.trans (((below_new w4 _).mono hsz4).trans k4))
                              clear hown5 hg5 hb5 k1 k2 k3 k4
                              refine hK _ _ ?_))
              have hfv := HVW.out.rank.le v hv24
              have hfu := HVW.out.rank.le u hu24
              have c1v := HRK5.out.cell hv24
              have c1u := HRK5.out.cell hu24
              have hv0 : (0 : Int) ≤ (v : Int) := by omega
              have hv1 : (v : Int) < 24 := by omega
              have hu0 : (0 : Int) ≤ (u : Int) := by omega
              have hu1 : (u : Int) < 24 := by omega
              obtain ⟨fv, hfve⟩ : ∃ fv, fv = f v := ⟨_, rfl⟩
              obtain ⟨fu, hfue⟩ : ∃ fu, fu = f u := ⟨_, rfl⟩
              rw [← hfve] at c1v hfv
              rw [← hfue] at c1u hfu
              have HFV := Lib.hid hfve
              have HFU := Lib.hid hfue
              clear hfve hfue
              refine wp_region_held_drew (S := (fun w' => w'.cell? ⟨rb, v, none⟩ = some (.int .i64 (fv : Int)) ∧ w'.cell? ⟨rb, u, none⟩ = some (.int .i64 (fu : Int)))) (by kernel_rfl) ⟨c1v, c1u⟩ (fun hHeld => ?_)
              refine takeH (i := 0) (v := ?_) rfl rfl (by kernel_rfl) (by kernel_rfl) (by kernel_rfl) (fun _ _ _ h => h) (by rfl) ?_ hHeld ?_
              rotate_left
              · (intro w hSw; (try dsimp only at hSw); first | (go_simp; done) | (go_simp; with_reducible rfl))
              simp only [Act.put, List.setIfInBounds_toArray, List.set_cons_zero, List.set_cons_succ]
              refine takeH (i := 1) (v := ?_) rfl rfl (by kernel_rfl) (by kernel_rfl) (by kernel_rfl) (fun _ _ _ h => h) (by rfl) ?_ hHeld ?_
              rotate_left
              · (intro w hSw; (try dsimp only at hSw); first | (go_simp; done) | (go_simp; with_reducible rfl))
              simp only [Act.put, List.setIfInBounds_toArray, List.set_cons_zero, List.set_cons_succ]
              refine takeH (i := 2) (v := ?_) rfl rfl (by kernel_rfl) (by kernel_rfl) (by kernel_rfl) (fun _ _ _ h => h) (by rfl) ?_ hHeld ?_
              rotate_left
              · (intro w hSw; (try dsimp only at hSw); first | (go_simp; done) | (go_simp; with_reducible rfl))
              simp only [Act.put, List.setIfInBounds_toArray, List.set_cons_zero, List.set_cons_succ]
              refine takeH (i := 3) (v := ?_) rfl rfl (by kernel_rfl) (by kernel_rfl) (by kernel_rfl) (fun _ _ _ h => h) (by rfl) ?_ hHeld ?_
              rotate_left
              · (intro w hSw; (try dsimp only at hSw); first | (go_simp; done) | (go_simp; with_reducible rfl))
              simp only [Act.put, List.setIfInBounds_toArray, List.set_cons_zero, List.set_cons_succ]
              refine takeH (i := 4) (v := ?_) rfl rfl (by kernel_rfl) (by kernel_rfl) (by kernel_rfl) (fun _ _ _ h => h) (by rfl) ?_ hHeld ?_
              rotate_left
              · (intro w hSw; (try dsimp only at hSw); first | (go_simp; done) | (go_simp; with_reducible rfl))
              simp only [Act.put, List.setIfInBounds_toArray, List.set_cons_zero, List.set_cons_succ]
              refine takeH (i := 5) (v := ?_) rfl rfl (by kernel_rfl) (by kernel_rfl) (by kernel_rfl) (fun _ _ _ h => h) (by rfl) ?_ hHeld ?_
              rotate_left
              · (intro w hSw; (try dsimp only at hSw); first | (go_simp; done) | (go_simp; with_reducible rfl))
              simp only [Act.put, List.setIfInBounds_toArray, List.set_cons_zero, List.set_cons_succ]
              refine takeH (i := 6) (v := ?_) rfl rfl (by kernel_rfl) (by kernel_rfl) (by kernel_rfl) (fun _ _ _ h => h) (by rfl) ?_ hHeld ?_
              rotate_left
              · (intro w hSw; (try dsimp only at hSw); first | (go_simp; done) | (go_simp; with_reducible rfl))
              simp only [Act.put, List.setIfInBounds_toArray, List.set_cons_zero, List.set_cons_succ]
              refine takeH (i := 7) (v := ?_) rfl rfl (by kernel_rfl) (by kernel_rfl) (by kernel_rfl) (fun _ _ _ h => h) (by rfl) ?_ hHeld ?_
              rotate_left
              · (intro w hSw; (try dsimp only at hSw); first | (go_simp; done) | (go_simp; with_reducible rfl))
              simp only [Act.put, List.setIfInBounds_toArray, List.set_cons_zero, List.set_cons_succ]
              refine takeH (i := 8) (v := ?_) rfl rfl (by kernel_rfl) (by kernel_rfl) (by kernel_rfl) (fun _ _ _ h => h) (by rfl) ?_ hHeld ?_
              rotate_left
              · (intro w hSw; (try dsimp only at hSw); first | (go_simp; done) | (go_simp; with_reducible rfl))
              simp only [Act.put, List.setIfInBounds_toArray, List.set_cons_zero, List.set_cons_succ]
              refine takeH (i := 9) (v := ?_) rfl rfl (by kernel_rfl) (by kernel_rfl) (by kernel_rfl) (fun _ _ _ h => h) (by rfl) ?_ hHeld ?_
              rotate_left
              · (intro w hSw; (try dsimp only at hSw); first | (go_simp; done) | (go_simp; with_reducible rfl))
              simp only [Act.put, List.setIfInBounds_toArray, List.set_cons_zero, List.set_cons_succ]
              refine takeH (i := 10) (v := ?_) rfl rfl (by kernel_rfl) (by kernel_rfl) (by kernel_rfl) (fun _ _ _ h => h) (by rfl) ?_ hHeld ?_
              rotate_left
              · (intro w hSw; (try dsimp only at hSw); first | (go_simp; done) | (go_simp; with_reducible rfl))
              simp only [Act.put, List.setIfInBounds_toArray, List.set_cons_zero, List.set_cons_succ]
              refine takeH (i := 11) (v := ?_) rfl rfl (by kernel_rfl) (by kernel_rfl) (by kernel_rfl) (fun _ _ _ h => h) (by rfl) ?_ hHeld ?_
              rotate_left
              · (intro w hSw; (try dsimp only at hSw); first | (go_simp; done) | (go_simp; with_reducible rfl))
              simp only [Act.put, List.setIfInBounds_toArray, List.set_cons_zero, List.set_cons_succ]
              refine takeH (i := 12) (v := ?_) rfl rfl (by kernel_rfl) (by kernel_rfl) (by kernel_rfl) (fun _ _ _ h => h) (by rfl) ?_ hHeld ?_
              rotate_left
              · (intro w hSw; (try dsimp only at hSw); first | (go_simp; done) | (go_simp; with_reducible rfl))
              simp only [Act.put, List.setIfInBounds_toArray, List.set_cons_zero, List.set_cons_succ]
              refine takeH (i := 13) (v := ?_) rfl rfl (by kernel_rfl) (by kernel_rfl) (by kernel_rfl) (fun _ _ _ h => h) (by rfl) ?_ hHeld ?_
              rotate_left
              · (intro w hSw; (try dsimp only at hSw); first | (go_simp; done) | (go_simp; with_reducible rfl))
              simp only [Act.put, List.setIfInBounds_toArray, List.set_cons_zero, List.set_cons_succ]
              refine takeH (i := 14) (v := ?_) rfl rfl (by kernel_rfl) (by kernel_rfl) (by kernel_rfl) (fun _ _ _ h => h) (by rfl) ?_ hHeld ?_
              rotate_left
              · (intro w hSw; (try dsimp only at hSw); first | (go_simp; done) | (go_simp; with_reducible rfl))
              simp only [Act.put, List.setIfInBounds_toArray, List.set_cons_zero, List.set_cons_succ]
              refine takeH (i := 15) (v := ?_) rfl rfl (by kernel_rfl) (by kernel_rfl) (by kernel_rfl) (fun _ _ _ h => h) (by rfl) ?_ hHeld ?_
              rotate_left
              · (intro w hSw; (try dsimp only at hSw); first | (go_simp; done) | (go_simp; with_reducible rfl))
              simp only [Act.put, List.setIfInBounds_toArray, List.set_cons_zero, List.set_cons_succ]
              refine wpAnyH_done (by kernel_rfl) ?_ _
              obtain ⟨mx, hmxe⟩ : ∃ mx, mx = max fv fu := ⟨_, rfl⟩
              obtain ⟨mn, hmne⟩ : ∃ mn, mn = min fv fu := ⟨_, rfl⟩
              have hmx : (if fv < fu then (fu : Int) else (fv : Int)) = (mx : Int) := by split <;> omega
              have hmn : (if fu < fv then (fu : Int) else (fv : Int)) = (mn : Int) := by split <;> omega
              simp only [hmx, hmn]
              have HRANK : Hid (Rank (glue f mx mn 24) ((vs ++ [v]).zip (ws ++ [u]))) := by
                show Rank _ _
                rw [zip_snoc (by rw [HVW.out.lv, HVW.out.lw]), hmxe, hmne, HFV.out, HFU.out]
                exact HVW.out.rank.step hv24 hu24
              have HLV : Hid ((vs ++ [v]).length = k + 1) := by show _ = _; simp [HVW.out.lv]
              have HLW : Hid ((ws ++ [u]).length = k + 1) := by show _ = _; simp [HVW.out.lw]
              have HV8 : Hid (∀ x ∈ vs ++ [v], x < 24) := by
                intro x hx
                rcases List.mem_append.1 hx with h' | h'
                · exact HVW.out.v8 x h'
                · simp at h'; omega
              have HW8 : Hid (∀ x ∈ ws ++ [u], x < 24) := by
                intro x hx
                rcases List.mem_append.1 hx with h' | h'
                · exact HVW.out.w8 x h'
                · simp at h'; omega
              have hmn24 : mn < 24 := by omega
              have HRKD : Hid (RankAt w5.drew rb (glue f mx mn 0)) := by show RankAt _ _ _; rw [glue_zero]; exact HRK5.out.on (Below.refl _ _).drew
              have HBD : Hid (Below w1.heap.size w1 w5.drew) := HB5.out.drew
              have HOAD := Lib.hid (HOA5.out.on (w' := w5.drew) (Below.refl _ _).drew)
              have HOBD := Lib.hid (HOB5.out.on (w' := w5.drew) (Below.refl _ _).drew)
              clear hmx hmn hmxe hmne c1v c1u
              go_wp2
              go_loopw [14] (fun i wr => ∃ j : Nat, i = .int .i64 (j : Int) ∧ j ≤ 24 ∧ RankAt wr rb (glue f mx mn j) ∧ Below w1.heap.size w1 wr ∧ OwnI wr w1.heap.size v4 (vcs (vs ++ [v])) ∧ OwnI wr w1.heap.size v5 (vcs (ws ++ [u]))) (fun i _ => 24 - (intOf i).toNat)
              case atStart => exact ⟨0, rfl, by omega, HRKD.out, HBD.out, HOAD.out, HOBD.out⟩
              case round =>
                obtain ⟨j, rfl, hj, hr6, hb6, ho6, ho6'⟩ := hrel
                have HR6 := Lib.hid hr6
                have HB6 := Lib.hid hb6
                have HO6 := Lib.hid ho6
                have HO6' := Lib.hid ho6'
                clear hr6 hb6 ho6 ho6'
                by_cases hjl : j < 24
                · have cj := HR6.out.cell hjl
                  rw [glue_at] at cj
                  have fj := HR6.out.frozen j
                  have HRS := Lib.hid (HR6.out.set hjl mn)
                  have HBS := Lib.hid (HB6.out.setCell (p := ⟨rb, j, none⟩) hrbl (.int .i64 (mn : Int)))
                  have HOS := Lib.hid (HO6.out.set_other (j := j) HR6.out (by decide) (.int .i64 (mn : Int)))
                  have HOS' := Lib.hid (HO6'.out.set_other (j := j) HR6.out (by decide) (.int .i64 (mn : Int)))
                  obtain ⟨fjj, hfj⟩ : ∃ fjj, fjj = f j := ⟨_, rfl⟩
                  rw [← hfj] at cj
                  have HFJ := Lib.hid hfj
                  have j0 : (0 : Int) ≤ (j : Int) := by omega
                  have j1 : (j : Int) < 24 := by omega
                  clear hfj
                  by_cases hq : fjj = mx
                  · have hq' : (fjj : Int) = (mx : Int) := by omega
                    have HGL : Hid (glue f mx mn (j + 1) = fun v => if v = j then mn else glue f mx mn j v) := glue_yes (by rw [← HFJ.out]; exact hq)
                    clear hq
                    go_wp2
                    go_roundw
                    case rel => exact ⟨j + 1, by go_num, by omega, by rw [HGL.out]; exact HRS.out, HBS.out, HOS.out, HOS'.out⟩
                    case measure => simp [intOf]; omega
                  · have hq' : ¬ (fjj : Int) = (mx : Int) := by omega
                    have HGL : Hid (glue f mx mn (j + 1) = glue f mx mn j) := glue_no (by rw [← HFJ.out]; exact hq)
                    clear hq
                    go_wp2
                    go_roundw
                    case rel => exact ⟨j + 1, by go_num, by omega, by rw [HGL.out]; exact HR6.out, HB6.out, HO6.out, HO6'.out⟩
                    case measure => simp [intOf]; omega
                · obtain rfl : j = 24 := by omega
                  go_wp2
                  go_roundw
                  case rel => exact ⟨k + 1, glue f mx mn 24, vs ++ [v], ws ++ [u], by go_num, by omega, ⟨HLV.out, HLW.out, HV8.out, HW8.out, HRANK.out, HO6.out, HO6'.out, HAP5.out, HR6.out⟩, HB6.out⟩
                  case measure => simp [intOf]; omega
            · obtain rfl : k = n0 := by omega
              have HBX := Lib.hid (HB1.out.trans (HB2.out.mono HB1.out.size))
              obtain ⟨Aa, ca, hqa, _, hia⟩ := HVW.out.oa.intsAt
              obtain ⟨Ab, cb, hqb, _, hib⟩ := HVW.out.ob.intsAt
              have HIA := Lib.hid hia
              have HIB := Lib.hid hib
              have HRK := Lib.hid HVW.out.at_
              have HLA : Hid ((vcs vs).length = k) := by show _ = _; rw [vcs_length, HVW.out.lv]
              have HLB : Hid ((vcs ws).length = k) := by show _ = _; rw [vcs_length, HVW.out.lw]
              rw [HLA.out] at hqa HIA
              rw [HLB.out] at hqb HIB
              have HTOLD := Lib.hid (fun (E : Int) (is : Bool) (bs : List Bd) (hu : UniR wordsL (vcs vs) (vcs ws) E is bs) => vars_told HVW.out.rank (by rw [HVW.out.lv, HVW.out.lw]) (by rw [HVW.out.lv]; omega) HVW.out.v8 HVW.out.w8 hu)
              have HRLE : Hid (∀ v, v < 24 → f v ≤ v) := HVW.out.rank.le
              subst hqa; subst hqb
              clear hia hib HVW
              go_wp2_with fail
              refine (words_any _).mono ?_
              rintro e w4 ⟨A4, rfl, hs4, hb4⟩
              have HB4 := Lib.hid (HBX.out.trans (hb4.mono HBX.out.size))
              replace HIA := Lib.hid (HIA.out.on hb4)
              replace HIB := Lib.hid (HIB.out.on hb4)
              replace HRK := Lib.hid (HRK.out.on hb4)
              clear hb4
              go_wp2_with fail
              refine (unify_any A4 Aa Ab 7 7 k ca k cb wordsL (vcs vs) (vcs ws) _ hs4 len7 (Nat.le_refl _) HIA.out (len_small (by omega)) HIB.out (len_small (by omega))).mono ?_
              rintro e w5 ⟨v5, E, is, bs, rfl, hv5, hb5, hu5⟩
              have HB5 := Lib.hid (HB4.out.trans (hb5.mono HB4.out.size))
              replace HRK := Lib.hid (HRK.out.on hb5)
              clear hb5
              obtain ⟨rfl, rfl, hbse⟩ := HTOLD.out E is bs hu5
              obtain ⟨A7, c7, rfl, _, hbs⟩ := hv5.bindsAt hu5.fit
              have HBS := Lib.hid hbs
              have hbl := hu5.few.1
              obtain ⟨L, hL⟩ : ∃ L, L = bs.length := ⟨_, rfl⟩
              rw [← hL] at HBS hbl ⊢
              have HL := Lib.hid hL
              have HBSE := Lib.hid hbse
              clear hbs hv5 hu5 hL hbse hs4
              go_wp2_with (go_at_call 13; refine (num_any _ _).mono ?_; rintro e w' ⟨rfl, rfl⟩)
              go_loopw [18, 19] (fun q i wr => ∃ v m : Nat, i = .int .i64 (v : Int) ∧ q = .int .i64 (m : Int) ∧ v ≤ 24 ∧ m = (bdsOf (fun v => [-1 - (f v : Int)]) v).length ∧ Below w5.heap.size w5 wr) (fun _ i _ => 24 - (intOf i).toNat)
              case atStart => exact ⟨0, 0, rfl, rfl, by omega, rfl, Below.refl _ _⟩
              case round =>
                obtain ⟨v, m, rfl, rfl, hv, hm, hb9⟩ := hrel
                have HM := Lib.hid hm
                have HB9 := Lib.hid hb9
                clear hm hb9
                by_cases hvl : v < 24
                · have HSU := Lib.hid (bdsOf_succ (fun v => [-1 - (f v : Int)]) v)
                  have cv := (HRK.out.on HB9.out).cell hvl
                  have HIS := Lib.hid (isV_rank (f := f) v)
                  have j0 : (0 : Int) ≤ (v : Int) := by omega
                  have j1 : (v : Int) < 24 := by omega
                  have HFR := Lib.hid (fun (h : isV [-1 - (f v : Int)] v = false) => bdsOf_front (σ := fun v => [-1 - (f v : Int)]) (n := 24) hvl h)
                  obtain ⟨fv, hfv⟩ : ∃ fv, fv = f v := ⟨_, rfl⟩
                  rw [← hfv] at cv HIS HFR
                  have HFV := Lib.hid hfv
                  clear hfv
                  by_cases hq : fv = v
                  · subst hq
                    have HLEN : Hid (m = (bdsOf (fun v => [-1 - (f v : Int)]) (fv + 1)).length) := by
                      show m = _
                      rw [HSU.out, HM.out]
                      show _ = (_ ++ if isV [-1 - (f fv : Int)] fv then [] else _).length
                      rw [← HFV.out, HIS.out]; simp
                    have gq : ((fv : Int) == (fv : Int)) = true := by simp
                    go_wp2
                    go_roundw
                    case rel => exact ⟨fv + 1, m, by go_num, rfl, by omega, HLEN.out, HB9.out⟩
                    case measure => simp [intOf]; omega
                  · have hq' : ¬ (fv : Int) = (v : Int) := by omega
                    have HISF : Hid (isV [-1 - (fv : Int)] v = false) := by show _ = false; rw [HIS.out]; exact decide_eq_false hq
                    obtain ⟨rest, hrest⟩ := HFR.out HISF.out
                    have hmid := bdAt_mid (xs := bdsOf (fun v => [-1 - (f v : Int)]) v) (x := ⟨v, [-1 - (fv : Int)]⟩) (rest := rest)
                    rw [← hrest, ← HBSE.out, ← HM.out, ← HL.out] at hmid
                    obtain ⟨hbd, hmL⟩ := hmid
                    obtain ⟨b3, o3, hA7, hb3', hc3⟩ := (HBS.out.on HB9.out).at_ (by omega)
                    obtain ⟨d0, A8, c8, d1, hc8, hi8⟩ := hc3 m hmL
                    rw [hbd] at d0 d1 hc8 hi8
                    subst hA7
                    have d0' : wr.cell? ⟨b3, o3 + m * 2, none⟩ = some (.int .i64 (v : Int)) := d0
                    have d1' : wr.cell? ⟨b3, o3 + m * 2 + 1, none⟩ = some (.slice A8 1 c8) := d1
                    have HI8 : Hid (IntsAt wr wr.heap.size A8 1 [-1 - (fv : Int)]) := hi8
                    have HLEN : Hid (m + 1 = (bdsOf (fun v => [-1 - (f v : Int)]) (v + 1)).length) := by
                      show m + 1 = _
                      rw [HSU.out, HM.out]
                      show _ = (_ ++ if isV [-1 - (f v : Int)] v then [] else _).length
                      rw [← HFV.out, HISF.out]; simp
                    have k0 : (0 : Int) ≤ (m : Int) := by omega
                    have k1 : (m : Int) < (L : Int) := by omega
                    have k2 : ¬ (L : Int) ≤ (m : Int) := by omega
                    have k3 : ¬ L ≤ m := by omega
                    have k4 : fv ≤ 23 := by have := HRLE.out v hvl; rw [← HFV.out] at this; omega
                    have gv : ((v : Int) != (v : Int)) = false := by simp
                    have hwr : IntKind.i64.wrap (-1 - (fv : Int)) = -1 - (fv : Int) := IntWalk.i64_in _ ⟨by omega, by omega⟩
                    have hrbw := (HRK.out.on HB9.out).lt
                    clear hc3 hbd d0 d1 hi8 hrest hq
                    go_wp2_with fail
                    refine wp_region_held_drew (S := (fun w' => w'.cell? ⟨b3, o3 + m * 2, none⟩ = some (.int .i64 (v : Int)) ∧ w'.cell? ⟨b3, o3 + m * 2 + 1, none⟩ = some (.slice A8 1 c8) ∧ w'.cell? ⟨rb, v, none⟩ = some (.int .i64 (fv : Int)))) (by kernel_rfl) ⟨d0', d1', cv⟩ (fun hHeld => ?_)
                    refine takeH (i := 0) (v := ?_) rfl rfl (by kernel_rfl) (by kernel_rfl) (by kernel_rfl) (fun _ _ _ h => h) (by rfl) ?_ hHeld ?_
                    rotate_left
                    · (intro w hSw; (try dsimp only at hSw); first | (go_simp; done) | (go_simp; with_reducible rfl))
                    simp only [Act.put, List.setIfInBounds_toArray, List.set_cons_zero, List.set_cons_succ]
                    refine takeH (i := 1) (v := ?_) rfl rfl (by kernel_rfl) (by kernel_rfl) (by kernel_rfl) (fun _ _ _ h => h) (by rfl) ?_ hHeld ?_
                    rotate_left
                    · (intro w hSw; (try dsimp only at hSw); first | (go_simp; done) | (go_simp; with_reducible rfl))
                    simp only [Act.put, List.setIfInBounds_toArray, List.set_cons_zero, List.set_cons_succ]
                    refine takeH (i := 2) (v := ?_) rfl rfl (by kernel_rfl) (by kernel_rfl) (by kernel_rfl) (fun _ _ _ h => h) (by rfl) ?_ hHeld ?_
                    rotate_left
                    · (intro w hSw; (try dsimp only at hSw); first | (go_simp; done) | (go_simp; with_reducible rfl))
                    simp only [Act.put, List.setIfInBounds_toArray, List.set_cons_zero, List.set_cons_succ]
                    refine takeH (i := 3) (v := ?_) rfl rfl (by kernel_rfl) (by kernel_rfl) (by kernel_rfl) (fun _ _ _ h => h) (by rfl) ?_ hHeld ?_
                    rotate_left
                    · (intro w hSw; (try dsimp only at hSw); first | (go_simp; done) | (go_simp; with_reducible rfl))
                    simp only [Act.put, List.setIfInBounds_toArray, List.set_cons_zero, List.set_cons_succ]
                    refine takeH (i := 4) (v := ?_) rfl rfl (by kernel_rfl) (by kernel_rfl) (by kernel_rfl) (fun _ _ _ h => h) (by rfl) ?_ hHeld ?_
                    rotate_left
                    · (intro w hSw; (try dsimp only at hSw); first | (go_simp; done) | (go_simp; with_reducible rfl))
                    simp only [Act.put, List.setIfInBounds_toArray, List.set_cons_zero, List.set_cons_succ]
                    refine takeH (i := 5) (v := ?_) rfl rfl (by kernel_rfl) (by kernel_rfl) (by kernel_rfl) (fun _ _ _ h => h) (by rfl) ?_ hHeld ?_
                    rotate_left
                    · (intro w hSw; (try dsimp only at hSw); first | (go_simp; done) | (go_simp; with_reducible rfl))
                    simp only [Act.put, List.setIfInBounds_toArray, List.set_cons_zero, List.set_cons_succ]
                    refine takeH (i := 6) (v := ?_) rfl rfl (by kernel_rfl) (by kernel_rfl) (by kernel_rfl) (fun _ _ _ h => h) (by rfl) ?_ hHeld ?_
                    rotate_left
                    · (intro w hSw; (try dsimp only at hSw); first | (go_simp; done) | (go_simp; with_reducible rfl))
                    simp only [Act.put, List.setIfInBounds_toArray, List.set_cons_zero, List.set_cons_succ]
                    refine takeH (i := 7) (v := ?_) rfl rfl (by kernel_rfl) (by kernel_rfl) (by kernel_rfl) (fun _ _ _ h => h) (by rfl) ?_ hHeld ?_
                    rotate_left
                    · (intro w hSw; (try dsimp only at hSw); first | (go_simp; done) | (go_simp; with_reducible rfl))
                    simp only [Act.put, List.setIfInBounds_toArray, List.set_cons_zero, List.set_cons_succ]
                    refine takeH (i := 8) (v := ?_) rfl rfl (by kernel_rfl) (by kernel_rfl) (by kernel_rfl) (fun _ _ _ h => h) (by rfl) ?_ hHeld ?_
                    rotate_left
                    · (intro w hSw; (try dsimp only at hSw); first | (go_simp; done) | (go_simp; with_reducible rfl))
                    simp only [Act.put, List.setIfInBounds_toArray, List.set_cons_zero, List.set_cons_succ]
                    refine takeH (i := 9) (v := ?_) rfl rfl (by kernel_rfl) (by kernel_rfl) (by kernel_rfl) (fun _ _ _ h => h) (by rfl) ?_ hHeld ?_
                    rotate_left
                    · (intro w hSw; (try dsimp only at hSw); first | (go_simp; done) | (go_simp; with_reducible rfl))
                    simp only [Act.put, List.setIfInBounds_toArray, List.set_cons_zero, List.set_cons_succ]
                    refine takeH (i := 10) (v := ?_) rfl rfl (by kernel_rfl) (by kernel_rfl) (by kernel_rfl) (fun _ _ _ h => h) (by rfl) ?_ hHeld ?_
                    rotate_left
                    · (intro w hSw; (try dsimp only at hSw); first | (go_simp; done) | (go_simp; with_reducible rfl))
                    simp only [Act.put, List.setIfInBounds_toArray, List.set_cons_zero, List.set_cons_succ]
                    refine takeH (i := 11) (v := ?_) rfl rfl (by kernel_rfl) (by kernel_rfl) (by kernel_rfl) (fun _ _ _ h => h) (by rfl) ?_ hHeld ?_
                    rotate_left
                    · (intro w hSw; (try dsimp only at hSw); first | (go_simp; done) | (go_simp; with_reducible rfl))
                    simp only [Act.put, List.setIfInBounds_toArray, List.set_cons_zero, List.set_cons_succ]
                    refine takeH (i := 12) (v := ?_) rfl rfl (by kernel_rfl) (by kernel_rfl) (by kernel_rfl) (fun _ _ _ h => h) (by rfl) ?_ hHeld ?_
                    rotate_left
                    · (intro w hSw; (try dsimp only at hSw); first | (go_simp; done) | (go_simp; with_reducible rfl))
                    simp only [Act.put, List.setIfInBounds_toArray, List.set_cons_zero, List.set_cons_succ]
                    refine takeH (i := 13) (v := ?_) rfl rfl (by kernel_rfl) (by kernel_rfl) (by kernel_rfl) (fun _ _ _ h => h) (by rfl) ?_ hHeld ?_
                    rotate_left
                    · (intro w hSw; (try dsimp only at hSw); first | (go_simp; done) | (go_simp; with_reducible rfl))
                    simp only [Act.put, List.setIfInBounds_toArray, List.set_cons_zero, List.set_cons_succ]
                    refine takeH (i := 14) (v := ?_) rfl rfl (by kernel_rfl) (by kernel_rfl) (by kernel_rfl) (fun _ _ _ h => h) (by rfl) ?_ hHeld ?_
                    rotate_left
                    · (intro w hSw; (try dsimp only at hSw); first | (go_simp; done) | (go_simp; with_reducible rfl))
                    simp only [Act.put, List.setIfInBounds_toArray, List.set_cons_zero, List.set_cons_succ]
                    refine takeH (i := 15) (v := ?_) rfl rfl (by kernel_rfl) (by kernel_rfl) (by kernel_rfl) (fun _ _ _ h => h) (by rfl) ?_ hHeld ?_
                    rotate_left
                    · (intro w hSw; (try dsimp only at hSw); first | (go_simp; done) | (go_simp; with_reducible rfl))
                    simp only [Act.put, List.setIfInBounds_toArray, List.set_cons_zero, List.set_cons_succ]
                    refine takeH (i := 16) (v := ?_) rfl rfl (by kernel_rfl) (by kernel_rfl) (by kernel_rfl) (fun _ _ _ h => h) (by rfl) ?_ hHeld ?_
                    rotate_left
                    · (intro w hSw; (try dsimp only at hSw); first | (go_simp; done) | (go_simp; with_reducible rfl))
                    simp only [Act.put, List.setIfInBounds_toArray, List.set_cons_zero, List.set_cons_succ]
                    refine takeH (i := 17) (v := ?_) rfl rfl (by kernel_rfl) (by kernel_rfl) (by kernel_rfl) (fun _ _ _ h => h) (by rfl) ?_ hHeld ?_
                    rotate_left
                    · (intro w hSw; (try dsimp only at hSw); first | (go_simp; done) | (go_simp; with_reducible rfl))
                    simp only [Act.put, List.setIfInBounds_toArray, List.set_cons_zero, List.set_cons_succ]
                    refine takeH (i := 18) (v := ?_) rfl rfl (by kernel_rfl) (by kernel_rfl) (by kernel_rfl) (fun _ _ _ h => h) (by rfl) ?_ hHeld ?_
                    rotate_left
                    · (intro w hSw; (try dsimp only at hSw); first | (go_simp; done) | (go_simp; with_reducible rfl))
                    simp only [Act.put, List.setIfInBounds_toArray, List.set_cons_zero, List.set_cons_succ]
                    refine takeH (i := 19) (v := ?_) rfl rfl (by kernel_rfl) (by kernel_rfl) (by kernel_rfl) (fun _ _ _ h => h) (by rfl) ?_ hHeld ?_
                    rotate_left
                    · (intro w hSw; (try dsimp only at hSw); first | (go_simp; done) | (go_simp; with_reducible rfl))
                    simp only [Act.put, List.setIfInBounds_toArray, List.set_cons_zero, List.set_cons_succ]
                    refine takeH (i := 20) (v := ?_) rfl rfl (by kernel_rfl) (by kernel_rfl) (by kernel_rfl) (fun _ _ _ h => h) (by rfl) ?_ hHeld ?_
                    rotate_left
                    · (intro w hSw; (try dsimp only at hSw); first | (go_simp; done) | (go_simp; with_reducible rfl))
                    simp only [Act.put, List.setIfInBounds_toArray, List.set_cons_zero, List.set_cons_succ]
                    refine takeH (i := 21) (v := ?_) rfl rfl (by kernel_rfl) (by kernel_rfl) (by kernel_rfl) (fun _ _ _ h => h) (by rfl) ?_ hHeld ?_
                    rotate_left
                    · (intro w hSw; (try dsimp only at hSw); first | (go_simp; done) | (go_simp; with_reducible rfl))
                    simp only [Act.put, List.setIfInBounds_toArray, List.set_cons_zero, List.set_cons_succ]
                    refine takeH (i := 22) (v := ?_) rfl rfl (by kernel_rfl) (by kernel_rfl) (by kernel_rfl) (fun _ _ _ h => h) (by rfl) ?_ hHeld ?_
                    rotate_left
                    · (intro w hSw; (try dsimp only at hSw); first | (go_simp; done) | (go_simp; with_reducible rfl))
                    simp only [Act.put, List.setIfInBounds_toArray, List.set_cons_zero, List.set_cons_succ]
                    refine wpAnyH_ready (rs := [23]) (by kernel_rfl) (by simp) ?_
                    refine AllReadyH.cons rfl (fun K hK => ?_) AllReadyH.nil
                    go_simp
                    have hbn := below_new wr (.cells #[.int .i64 (-1 - (fv : Int))] 3)
                    have d2 : (wr.alloc (.cells #[.int .i64 (-1 - (fv : Int))] 3)).cell? ⟨b3, o3 + m * 2, none⟩ = some (.int .i64 (v : Int)) := (hbn.cell (p := ⟨b3, _, none⟩) hb3').trans d0'
                    have d3 : (wr.alloc (.cells #[.int .i64 (-1 - (fv : Int))] 3)).cell? ⟨b3, o3 + m * 2 + 1, none⟩ = some (.slice A8 1 c8) := (hbn.cell (p := ⟨b3, _, none⟩) hb3').trans d1'
                    have d4 : (wr.alloc (.cells #[.int .i64 (-1 - (fv : Int))] 3)).cell? ⟨rb, v, none⟩ = some (.int .i64 (fv : Int)) := (hbn.cell (p := ⟨rb, v, none⟩) hrbw).trans cv
                    refine hK.out _ _ ?_ (fun hHeld => ?_)
                    · exact ⟨d2, d3, d4⟩
                    clear hK K
                    have HLIT : Hid (IntsAt (wr.alloc (.cells #[.int .i64 (-1 - (fv : Int))] 3)) (wr.alloc (.cells #[.int .i64 (-1 - (fv : Int))] 3)).heap.size (some ⟨wr.heap.size, 0, none⟩) 1 [-1 - (fv : Int)]) := IntsAt.news wr [-1 - (fv : Int)]
                    have HI9 := Lib.hid (HI8.out.on hbn)
                    have hcall : Calls Try.prog 19 #[.slice A8 1 c8, .slice (some ⟨wr.heap.size, 0, none⟩) 1 1] (wr.alloc (.cells #[.int .i64 (-1 - (fv : Int))] 3)).drew (fun e w' => e = .returned (.bool (sameI [-1 - (fv : Int)] [-1 - (fv : Int)])) ∧ Below (wr.alloc (.cells #[.int .i64 (-1 - (fv : Int))] 3)).drew.heap.size (wr.alloc (.cells #[.int .i64 (-1 - (fv : Int))] 3)).drew w') :=
                      sameInts_any A8 _ 1 c8 1 1 _ _ _ _ _ (HI9.out.on (w' := (wr.alloc (.cells #[.int .i64 (-1 - (fv : Int))] 3)).drew) ⟨rfl, rfl, rfl, Nat.le_refl _, fun _ _ => rfl⟩) (HLIT.out.on (w' := (wr.alloc (.cells #[.int .i64 (-1 - (fv : Int))] 3)).drew) ⟨rfl, rfl, rfl, Nat.le_refl _, fun _ _ => rfl⟩) (len_small (by omega)) (len_small (by omega))
                    have HBN := Lib.hid hbn
                    clear hbn
                    refine wpAnyH_ready (rs := [24]) (by kernel_rfl) (by simp) ?_
                    refine AllReadyH.cons rfl (fun K hK => ?_) AllReadyH.nil
                    go_simp
                    refine hcall.mono ?_
                    rintro e w6 ⟨rfl, hb6⟩
                    rw [sameI_self]
                    have hb6' : Below wr.heap.size wr w6 := (HBN.out.drew (w := wr.alloc _)).trans ((hb6 : Below (wr.alloc (.cells #[.int .i64 (-1 - (fv : Int))] 3)).heap.size _ _).mono HBN.out.size)
                    have HB10 := Lib.hid (HB9.out.trans (hb6'.mono HB9.out.size))
                    have d5 : w6.cell? ⟨b3, o3 + m * 2, none⟩ = some (.int .i64 (v : Int)) := (hb6'.cell (p := ⟨b3, _, none⟩) hb3').trans d0'
                    have d6 : w6.cell? ⟨b3, o3 + m * 2 + 1, none⟩ = some (.slice A8 1 c8) := (hb6'.cell (p := ⟨b3, _, none⟩) hb3').trans d1'
                    have d7 : w6.cell? ⟨rb, v, none⟩ = some (.int .i64 (fv : Int)) := (hb6'.cell (p := ⟨rb, v, none⟩) hrbw).trans cv
                    clear hb6 hb6' hcall
                    go_wp2_with fail
                    refine hK.out _ _ ?_ (fun hHeld => ?_)
                    · exact ⟨d5, d6, d7⟩
                    clear hK K d0' d1' cv d2 d3 d4
                    refine takeH (i := 25) (v := ?_) rfl rfl (by kernel_rfl) (by kernel_rfl) (by kernel_rfl) (fun _ _ _ h => h) (by rfl) ?_ hHeld ?_
                    rotate_left
                    · (intro w hSw; (try dsimp only at hSw); first | (go_simp; done) | (go_simp; with_reducible rfl))
                    simp only [Act.put, List.setIfInBounds_toArray, List.set_cons_zero, List.set_cons_succ]
                    refine takeH (i := 26) (v := ?_) rfl rfl (by kernel_rfl) (by kernel_rfl) (by kernel_rfl) (fun _ _ _ h => h) (by rfl) ?_ hHeld ?_
                    rotate_left
                    · (intro w hSw; (try dsimp only at hSw); first | (go_simp; done) | (go_simp; with_reducible rfl))
                    simp only [Act.put, List.setIfInBounds_toArray, List.set_cons_zero, List.set_cons_succ]
                    refine wpAnyH_done (by kernel_rfl) ?_ _
                    go_wp2
                    go_roundw
                    case rel => exact ⟨v + 1, m + 1, by go_num, by go_num, by omega, HLEN.out, HB10.out⟩
                    case measure => simp [intOf]; omega
                · obtain rfl : v = 24 := by omega
                  have hmL : m = L := by rw [HM.out, HL.out, HBSE.out]
                  subst hmL
                  have gm : ((m : Int) == (m : Int)) = true := by simp
                  have HZ := Lib.hid (HB5.out.trans (HB9.out.mono HB5.out.size))
                  go_wp2
                  go_ret
                  exact ⟨rfl, HZ.out⟩
    · have g1 : ¬ (20 : Int) < (n0 : Int) := by omega
      have g2 : (n1 : Int) < (n0 : Int) := by omega
      go_enter Try.func7, Try.ntmps7
      go_wp2_with fail
      refine (awakeU_any _).mono ?_
      rintro e w1 ⟨rfl, hb1⟩
      have HB1 := Lib.hid (HB0.out.trans (hb1.mono HB0.out.size))
      replace HA := Lib.hid (HA.out.on hb1)
      replace HB := Lib.hid (HB.out.on hb1)
      clear hb1
      go_wp2
      go_ret
      exact ⟨rfl, HB1.out⟩
  · have g1 : (20 : Int) < (n0 : Int) := by omega
    go_enter Try.func7, Try.ntmps7
    go_wp2_with fail
    refine (awakeU_any _).mono ?_
    rintro e w1 ⟨rfl, hb1⟩
    have HB1 := Lib.hid (HB0.out.trans (hb1.mono HB0.out.size))
    replace HA := Lib.hid (HA.out.on hb1)
    replace HB := Lib.hid (HB.out.on hb1)
    clear hb1
    go_wp2
    go_ret
    exact ⟨rfl, HB1.out⟩

end Go.Proofs.Ytlpafnaokpjoiaa
