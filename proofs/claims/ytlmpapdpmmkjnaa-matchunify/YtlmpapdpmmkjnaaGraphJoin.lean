/-
  A law for a scope with one label that the run jumps back to: what holds at it, with a number that every pass lowers.
  Contract: the program's join.
-/
import Derived.ScopeJumps
import Derived.WalkMore
import Derived.Test.YtlmpapdpmmkjnaaGraphLen
namespace Go.Proofs.Ytlmpapdpmmkjnaa
/-- As Q; by a goto to the label: what holds there, with a number below N. -/
def jump1 (J : Nat → Act → World → Prop) (N : Nat) (Q : Exit → Act → World → Prop) : Exit → Act → World → Prop
  | .goto 0, a, w => ∃ n, n < N ∧ J n a w
  | .goto _, _, _ => False
  | e, a, w => Q e a w
section
variable {P : Program} {a : Act} {w : World} {Q : Exit → Act → World → Prop} {J : Nat → Act → World → Prop} {N : Nat}
theorem jump1_more {N' : Nat} (h : N ≤ N') : ∀ e a w, jump1 J N Q e a w → jump1 J N' Q e a w := by
  intro e a w hq
  unfold jump1 at *
  split <;> simp_all
  all_goals (obtain ⟨n, h1, h2⟩ := hq; exact ⟨n, by omega, h2⟩)
theorem wp_scope1 {c X : Code} (J : Nat → Act → World → Prop) (N : Nat) (h0 : findLabel c 0 = some (.seq .skip X))
    (pass : ∀ n a w, J n a w → X.wp P (jump1 J n Q) a w)
    (first : (∀ n a w, n ≤ N → J n a w → X.wp P (jump1 J N Q) a w) → c.wp P (jump1 J N Q) a w) : (Code.scope c).wp P Q a w := by
  have fst := first fun n a w h hj => wp_mono (pass n a w hj) (jump1_more h)
  intro b k cs
  have key : ∀ n, ∀ a w, (∃ m, m < n ∧ J m a w) → ∃ e a' w', Q e a' w' ∧ Arrives P (lone (b.at a (.code (.seq .skip X) :: .inScope c :: k)) cs w) b k cs e a' w' := by
    intro n
    induction n with
    | zero => exact fun a w ⟨m, h, _⟩ => absurd h (by omega)
    | succ n i0 =>
      rintro a w ⟨m, hm, hJ⟩
      obtain ⟨e, a₁, w₁, hq, harr⟩ := (wp_seq (wp_skip (Q := Exit.then (X.wp P (jump1 J m Q)) (jump1 J m Q)) (pass m a w hJ))) b (.inScope c :: k) cs
      cases e with
      | normal => exact ⟨.normal, a₁, w₁, hq, Steps.trans harr (.one step_inScope)⟩
      | exit id => exact ⟨.exit id, a₁, w₁, hq, fun k' hk => harr k' (by simp [exitTo, hk])⟩
      | goto l' =>
        match l', hq, harr with
        | 0, hq, harr =>
          obtain ⟨j, hj, hJ⟩ := hq
          obtain ⟨e₂, a₂, w₂, hq₂, harr₂⟩ := i0 a₁ w₁ ⟨j, by omega, hJ⟩
          exact ⟨e₂, a₂, w₂, hq₂, .of_steps (harr _ (by simp [gotoIn, h0])) harr₂⟩
      | ret => exact ⟨_, a₁, w₁, hq, harr⟩
      | panic ch => exact ⟨_, a₁, w₁, hq, harr⟩
      | outgrown => exact ⟨_, a₁, w₁, hq, harr⟩
  obtain ⟨e, a₁, w₁, hq, harr⟩ := fst b (.inScope c :: k) cs
  cases e with
  | normal => exact ⟨.normal, a₁, w₁, hq, .head step_scope (Steps.trans harr (.one step_inScope))⟩
  | exit id => exact ⟨.exit id, a₁, w₁, hq, fun k' hk => .head step_scope (harr k' (by simp [exitTo, hk]))⟩
  | goto l' =>
    match l', hq, harr with
    | 0, hq, harr =>
      obtain ⟨e₂, a₂, w₂, hq₂, harr₂⟩ := key N a₁ w₁ hq
      exact ⟨e₂, a₂, w₂, hq₂, .of_steps (.head step_scope (harr _ (by simp [gotoIn, h0]))) harr₂⟩
  | ret => exact ⟨_, a₁, w₁, hq, .of_steps (.one step_scope) harr⟩
  | panic ch => exact ⟨_, a₁, w₁, hq, .of_steps (.one step_scope) harr⟩
  | outgrown => exact ⟨_, a₁, w₁, hq, .of_steps (.one step_scope) harr⟩
end
end Go.Proofs.Ytlmpapdpmmkjnaa

namespace Go.Proofs.Ytlmpapdpmmkjnaa
open Go.RowKit
set_option linter.unusedSimpArgs false
set_option linter.unusedVariables false
set_option maxRecDepth 100000

/-- Where pairs are being joined. -/
structure JoinW (ss : List Sym) (D : Nat → List Int) (L R : List Nat) (gb base N : Nat) (w wr : World) (v : Value) (G : List Nd) (rt d : Nat → Nat) (ps : List (Nat × Nat)) : Prop where
  at_ : GraphAt wr base gb G
  own : OwnP wr base v ps
  cls : Cls ss G D rt d ps L R
  many : G.length = N
  zero : ∀ k, k < N → lenAt G k = 0
  chg : Chg [80, 84] base w wr
  few : ps.length + 3 * roots G ≤ 3 * N + 100
section
variable {ss : List Sym} {D : Nat → List Int} {L R : List Nat} {gb base N : Nat} {w wr w' : World} {v : Value} {G : List Nd} {rt d : Nat → Nat} {ps : List (Nat × Nat)}
theorem OwnP.value (h : OwnP w base v ps) : ∃ A c, v = .slice A ps.length c := by
  rcases h.shape with ⟨rfl, rfl⟩ | ⟨g, cap, rfl, _⟩
  · exact ⟨_, _, rfl⟩
  · exact ⟨_, _, rfl⟩
theorem GraphAt.arg {nb cap i : Nat} (h : GraphAt w base gb G) (hcell : w.cell? ⟨gb, 0, none⟩ = some (.slice (some ⟨nb, 0, none⟩) N cap)) (hi : i < G.length) :
    ∃ A l c, w.cell? ⟨nb, i * 4 + 1, none⟩ = some (.slice A l c) ∧ OwnI w base (.slice A l c) (nats (ndAt G i).args) := by
  obtain ⟨v, q1, q2, vs, q3, q4, q5⟩ := h
  rw [cell_of_row _ _ 0 _ _ _ q1] at hcell
  have hv : v = .slice (some ⟨nb, 0, none⟩) N cap := by simpa using hcell
  subst hv
  have hN : N = G.length := by
    rcases q4.2 with ⟨q, _⟩ | ⟨nb', cap', cur, q, _⟩
    · cases q
    · injection q
  subst hN
  obtain ⟨d0, d1, d2, d3⟩ := ndCells_get G vs q3 i hi
  have c1 := q4.cellAt (i * 4 + 1) (by omega)
  rw [d1] at c1
  obtain ⟨A, c, e, _, _⟩ := (q5 i hi).intsAt
  rw [e] at c1
  have := q5 i hi
  rw [e] at this
  exact ⟨A, _, c, c1, this⟩
theorem GraphAt.same {es : List TypeId} {b nb cap : Nat} (h : GraphAt w base gb G) (hcell : w.cell? ⟨gb, 0, none⟩ = some (.slice (some ⟨nb, 0, none⟩) N cap)) (hc : Chg es b w w') (h1 : 61 ∉ es) (h2 : 80 ∉ es) (j : Nat) :
    w'.cell? ⟨gb, j, none⟩ = w.cell? ⟨gb, j, none⟩ ∧ w'.cell? ⟨nb, j, none⟩ = w.cell? ⟨nb, j, none⟩ := by
  obtain ⟨v, q1, q2, vs, q3, q4, q5⟩ := h
  rw [cell_of_row _ _ 0 _ _ _ q1] at hcell
  have hv : v = .slice (some ⟨nb, 0, none⟩) N cap := by simpa using hcell
  subst hv
  refine ⟨World.cell?_of_block (w := w) ?_, World.cell?_of_block (w := w) ?_⟩
  · show w'.heap[gb]? = w.heap[gb]?
    rw [q1]; exact hc.blk _ _ _ _ q1 h1
  · show w'.heap[nb]? = w.heap[nb]?
    rcases q4.2 with ⟨q, _⟩ | ⟨nb', cap', cur, q, _, hh, _⟩
    · cases q
    · simp only [Value.slice.injEq, Option.some.injEq, Addr.mk.injEq] at q
      obtain ⟨⟨rfl, -, -⟩, -, -⟩ := q
      rw [hh]; exact hc.blk _ _ _ _ hh h2
end
def JJ (ss : List Sym) (D : Nat → List Int) (L R : List Nat) (gb base N : Nat) (w : World) (vL vR : Value) (g : Nat) (a : Act) (wr : World) : Prop := ∃ (v : Value) (G : List Nd) (rt d : Nat → Nat) (ps : List (Nat × Nat)) (u : Nat → Value),
  a = ({ tmps := #[.pointer (some ⟨gb, 0, none⟩), vL, vR, u 3, u 4, u 5, u 6, v, u 8, u 9, u 10, u 11, u 12, u 13, u 14, u 15, u 16, u 17, u 18, u 19, u 20, u 21, u 22, u 23, u 24, u 25, u 26, u 27, u 28, u 29, u 30, u 31, u 32, u 33, u 34, u 35, u 36, u 37, u 38, u 39, u 40, u 41, u 42, u 43, u 44, u 45, u 46, u 47, u 48, u 49, u 50, u 51, u 52, u 53, u 54, u 55, u 56, u 57, u 58, u 59, u 60, u 61, u 62, u 63, u 64, u 65, u 66, u 67, u 68, u 69, u 70, u 71, u 72, u 73, u 74, u 75, u 76, u 77, u 78, u 79, u 80, u 81, u 82, u 83, u 84, u 85, u 86, u 87, u 88, u 89, u 90, u 91, u 92, u 93, u 94, u 95], defers := [] } : Act) ∧ g = 4 * roots G + ps.length ∧ JoinW ss D L R gb base N w wr v G rt d ps
theorem JJ.mk {ss : List Sym} {D : Nat → List Int} {L R : List Nat} {gb base N g : Nat} {w wr : World} {vL vR v : Value} {G : List Nd} {rt d : Nat → Nat} {ps : List (Nat × Nat)} {a : Act} (ha : a = ({ tmps := #[.pointer (some ⟨gb, 0, none⟩), vL, vR, a.tmps.getD 3 undef, a.tmps.getD 4 undef, a.tmps.getD 5 undef, a.tmps.getD 6 undef, v, a.tmps.getD 8 undef, a.tmps.getD 9 undef, a.tmps.getD 10 undef, a.tmps.getD 11 undef, a.tmps.getD 12 undef, a.tmps.getD 13 undef, a.tmps.getD 14 undef, a.tmps.getD 15 undef, a.tmps.getD 16 undef, a.tmps.getD 17 undef, a.tmps.getD 18 undef, a.tmps.getD 19 undef, a.tmps.getD 20 undef, a.tmps.getD 21 undef, a.tmps.getD 22 undef, a.tmps.getD 23 undef, a.tmps.getD 24 undef, a.tmps.getD 25 undef, a.tmps.getD 26 undef, a.tmps.getD 27 undef, a.tmps.getD 28 undef, a.tmps.getD 29 undef, a.tmps.getD 30 undef, a.tmps.getD 31 undef, a.tmps.getD 32 undef, a.tmps.getD 33 undef, a.tmps.getD 34 undef, a.tmps.getD 35 undef, a.tmps.getD 36 undef, a.tmps.getD 37 undef, a.tmps.getD 38 undef, a.tmps.getD 39 undef, a.tmps.getD 40 undef, a.tmps.getD 41 undef, a.tmps.getD 42 undef, a.tmps.getD 43 undef, a.tmps.getD 44 undef, a.tmps.getD 45 undef, a.tmps.getD 46 undef, a.tmps.getD 47 undef, a.tmps.getD 48 undef, a.tmps.getD 49 undef, a.tmps.getD 50 undef, a.tmps.getD 51 undef, a.tmps.getD 52 undef, a.tmps.getD 53 undef, a.tmps.getD 54 undef, a.tmps.getD 55 undef, a.tmps.getD 56 undef, a.tmps.getD 57 undef, a.tmps.getD 58 undef, a.tmps.getD 59 undef, a.tmps.getD 60 undef, a.tmps.getD 61 undef, a.tmps.getD 62 undef, a.tmps.getD 63 undef, a.tmps.getD 64 undef, a.tmps.getD 65 undef, a.tmps.getD 66 undef, a.tmps.getD 67 undef, a.tmps.getD 68 undef, a.tmps.getD 69 undef, a.tmps.getD 70 undef, a.tmps.getD 71 undef, a.tmps.getD 72 undef, a.tmps.getD 73 undef, a.tmps.getD 74 undef, a.tmps.getD 75 undef, a.tmps.getD 76 undef, a.tmps.getD 77 undef, a.tmps.getD 78 undef, a.tmps.getD 79 undef, a.tmps.getD 80 undef, a.tmps.getD 81 undef, a.tmps.getD 82 undef, a.tmps.getD 83 undef, a.tmps.getD 84 undef, a.tmps.getD 85 undef, a.tmps.getD 86 undef, a.tmps.getD 87 undef, a.tmps.getD 88 undef, a.tmps.getD 89 undef, a.tmps.getD 90 undef, a.tmps.getD 91 undef, a.tmps.getD 92 undef, a.tmps.getD 93 undef, a.tmps.getD 94 undef, a.tmps.getD 95 undef], defers := [] } : Act)) (hg : g = 4 * roots G + ps.length) (h : JoinW ss D L R gb base N w wr v G rt d ps) :
    JJ ss D L R gb base N w vL vR g a wr := ⟨v, G, rt, d, ps, fun i => a.tmps.getD i undef, ha, hg, h⟩
def JoinTold (ss : List Sym) (D : Nat → List Int) (L R : List Nat) (gb base N : Nat) (w : World) (e : Ending) (w' : World) : Prop :=
  ((e = .returned (.bool true) ∧ ∃ G rt d, GraphAt w' base gb G ∧ Cls ss G D rt d [] L R ∧ G.length = N ∧ ∀ k, k < N → lenAt G k = 0) ∨
   (e = .returned (.bool false) ∧ ∀ θ, Sub 24 ss θ → ¬ ∀ p ∈ L.zip R, ap θ (D p.1) = ap θ (D p.2))) ∧ Chg [80, 84] base w w'

set_option maxHeartbeats 1000000 in
theorem join_any (ss : List Sym) (D : Nat → List Int) (L R : List Nat) (gb base b1 b2 : Nat) (vL vR : Value) (G : List Nd) (w : World) (hmay : mayB ss = true) (h : GraphAt w base gb G) (hst : Stands ss G D) (hf : ∀ n, n < G.length → (ndAt G n).up = n ∧ lenAt G n = 0)
    (hL : OwnI w b1 vL (nats L)) (hR : OwnI w b2 vR (nats R)) (hl : L.length = R.length) (hll : L.length ≤ 48) (hLN : ∀ x ∈ L, x < G.length) (hRN : ∀ x ∈ R, x < G.length) (hN : G.length ≤ 1000) :
    Calls Try.prog 38 #[.pointer (some ⟨gb, 0, none⟩), vL, vR] w (JoinTold ss D L R gb base G.length w) := by
  have HM := Lib.hid hmay
  have hbase : base ≤ w.heap.size := by
    have h1 := h.lt
    obtain ⟨_, _, h2, _⟩ := h
    omega
  have hmany := hst.many
  have HG := Lib.hid h
  have HL := Lib.hid hL
  have HR := Lib.hid hR
  have HCL := Lib.hid (Cls.start (L := L) (R := R) hst (fun n hn => (hf n hn).1) hLN hRN)
  have HZ := Lib.hid (fun n hn => (hf n hn).2)
  have HLL := Lib.hid hll
  have HLR := Lib.hid hl
  obtain ⟨N, hNe⟩ : ∃ N, N = G.length := ⟨_, rfl⟩
  rw [← hNe] at hmany hN HZ ⊢
  have HN := Lib.hid hNe
  clear hmay h hst hf hL hR hl hll hLN hRN hNe
  go_enter Try.func38, Try.ntmps38
  go_wp2
  refine wp_scope1 (X := ?X) (JJ ss D L R gb base N w vL vR) (3 * N + N + 200) ?h0 ?_ ?_
  case h0 => exact rfl
  · rintro g a wr ⟨v, G1, rt, d, ps, u, rfl, rfl, hj⟩
    have HJ := Lib.hid hj
    obtain ⟨A1, c1, hv⟩ := hj.own.value
    by_cases hps : ps = []
    · subst hps
      subst hv
      have HE : Hid (JoinTold ss D L R gb base N w (.returned (.bool true)) wr) := ⟨.inl ⟨rfl, G1, rt, d, hj.at_, hj.cls, hj.many, hj.zero⟩, hj.chg⟩
      clear hj
      go_wp2
      go_ret
      exact HE.out
    · obtain ⟨P, x, y, rfl⟩ : ∃ P x y, ps = P ++ [(x, y)] := ⟨ps.dropLast, (ps.getLast hps).1, (ps.getLast hps).2, (List.dropLast_concat_getLast hps).symm⟩
      clear hps
      obtain ⟨g, cap, hg, hgb, hgl, hgc⟩ : ∃ g cap, v = .slice (some ⟨g, 0, none⟩) (P.length + 1) cap ∧ base ≤ g ∧ g < wr.heap.size ∧ P.length + 1 ≤ cap := by
        rcases hj.own.shape with ⟨_, e⟩ | ⟨g, cap, e, h1, h2, h3⟩
        · simp at e
        · simp at e h3; exact ⟨g, cap, e, h1, h2, h3⟩
      subst hg
      clear hv A1 c1
      obtain ⟨k1, k2, k3⟩ := hj.own.last
      have HK3 := Lib.hid k3
      obtain ⟨pl, hpl⟩ : ∃ pl, pl = P.length := ⟨_, rfl⟩
      rw [← hpl] at k1 k2 hgc HK3 ⊢
      have HPL := Lib.hid hpl
      have hpl9 : pl ≤ 4000 := by
        have := hj.few
        simp only [List.length_append, List.length_cons, List.length_nil] at this
        omega
      have z0 : (0 : Int) ≤ (pl : Int) := by omega
      have z1 : (pl : Int) ≤ (cap : Int) := by omega
      clear hj k3 hpl
      have HNG : Hid (G1.length ≤ 1000) := by show G1.length ≤ 1000; rw [HJ.out.many]; exact hN
      obtain ⟨hxN, hyN⟩ := HJ.out.cls.pin (x, y) (by simp)
      have HXN := Lib.hid hxN
      have HYN := Lib.hid hyN
      obtain ⟨x1, x2, x3⟩ := HJ.out.cls.fo.root hxN
      obtain ⟨y1, y2, y3⟩ := HJ.out.cls.fo.root hyN
      have HX1 := Lib.hid x1
      have HY1 := Lib.hid y1
      clear hxN hyN x1 x2 x3 y1 y2 y3
      have hq := below_new wr (.cells #[.int .i64 (x : Int), .int .i64 (y : Int)] 84)
      have HG2 := Lib.hid (HJ.out.at_.on hq)
      have HP2 := Lib.hid (HK3.out.on hq)
      have HC2 := Lib.hid (HJ.out.chg.trans (Chg.of_below hq (by omega)))
      have s1 : (wr.alloc (.cells #[.int .i64 (x : Int), .int .i64 (y : Int)] 84)).cell? ⟨wr.heap.size, 0, none⟩ = some (.int .i64 (x : Int)) := by rw [World.cell?_alloc_new]; rfl
      have s2 : (wr.alloc (.cells #[.int .i64 (x : Int), .int .i64 (y : Int)] 84)).cell? ⟨wr.heap.size, 1, none⟩ = some (.int .i64 (y : Int)) := by rw [World.cell?_alloc_new]; rfl
      have hlb : wr.heap.size < (wr.alloc (.cells #[.int .i64 (x : Int), .int .i64 (y : Int)] 84)).heap.size := by simp
      clear hq
      go_wp2_with fail
      obtain ⟨lb, hlbe⟩ : ∃ lb, lb = wr.heap.size := ⟨_, rfl⟩
      obtain ⟨w2, hw2⟩ : ∃ w2, w2 = wr.alloc (.cells #[.int .i64 (x : Int), .int .i64 (y : Int)] 84) := ⟨_, rfl⟩
      rw [← hw2, ← hlbe]
      rw [← hw2] at HG2 HP2 HC2 s1 s2 hlb
      rw [← hlbe] at s1 s2 hlb
      clear hw2 hlbe k1 k2 hgl
      refine wp_region_held_drew (S := (fun w' => w'.cell? ⟨lb, 0, none⟩ = some (.int .i64 (x : Int)) ∧ w'.cell? ⟨lb, 1, none⟩ = some (.int .i64 (y : Int)))) (by kernel_rfl) ⟨s1, s2⟩ (fun hHeld => ?_)
      refine takeH (i := 0) (v := ?_) rfl rfl (by kernel_rfl) (by kernel_rfl) (by kernel_rfl) (fun _ _ _ h => h) (by rfl) ?_ hHeld ?_
      rotate_left
      · (intro w hSw; (try dsimp only at hSw); first | (go_simp; done) | (go_simp; with_reducible rfl))
      simp only [Act.put, List.setIfInBounds_toArray, List.set_cons_zero, List.set_cons_succ]
      refine takeH (i := 1) (v := ?_) rfl rfl (by kernel_rfl) (by kernel_rfl) (by kernel_rfl) (fun _ _ _ h => h) (by rfl) ?_ hHeld ?_
      rotate_left
      · (intro w hSw; (try dsimp only at hSw); first | (go_simp; done) | (go_simp; with_reducible rfl))
      simp only [Act.put, List.setIfInBounds_toArray, List.set_cons_zero, List.set_cons_succ]
      refine takeH (i := 2) (v := ?_) rfl rfl (by kernel_rfl) (by kernel_rfl) (by kernel_rfl) (fun _ _ _ h => h) (by rfl) ?_ hHeld ?_
      rotate_left
      · (intro w hSw; (try dsimp only at hSw); first | (go_simp; done) | (go_simp; with_reducible rfl))
      simp only [Act.put, List.setIfInBounds_toArray, List.set_cons_zero, List.set_cons_succ]
      refine takeH (i := 3) (v := ?_) rfl rfl (by kernel_rfl) (by kernel_rfl) (by kernel_rfl) (fun _ _ _ h => h) (by rfl) ?_ hHeld ?_
      rotate_left
      · (intro w hSw; (try dsimp only at hSw); first | (go_simp; done) | (go_simp; with_reducible rfl))
      simp only [Act.put, List.setIfInBounds_toArray, List.set_cons_zero, List.set_cons_succ]
      refine takeH (i := 5) (v := ?_) rfl rfl (by kernel_rfl) (by kernel_rfl) (by kernel_rfl) (fun _ _ _ h => h) (by rfl) ?_ hHeld ?_
      rotate_left
      · (intro w hSw; (try dsimp only at hSw); first | (go_simp; done) | (go_simp; with_reducible rfl))
      simp only [Act.put, List.setIfInBounds_toArray, List.set_cons_zero, List.set_cons_succ]
      refine takeH (i := 6) (v := ?_) rfl rfl (by kernel_rfl) (by kernel_rfl) (by kernel_rfl) (fun _ _ _ h => h) (by rfl) ?_ hHeld ?_
      rotate_left
      · (intro w hSw; (try dsimp only at hSw); first | (go_simp; done) | (go_simp; with_reducible rfl))
      simp only [Act.put, List.setIfInBounds_toArray, List.set_cons_zero, List.set_cons_succ]
      refine takeH (i := 7) (v := ?_) rfl rfl (by kernel_rfl) (by kernel_rfl) (by kernel_rfl) (fun _ _ _ h => h) (by rfl) ?_ hHeld ?_
      rotate_left
      · (intro w hSw; (try dsimp only at hSw); first | (go_simp; done) | (go_simp; with_reducible rfl))
      simp only [Act.put, List.setIfInBounds_toArray, List.set_cons_zero, List.set_cons_succ]
      refine wpAnyH_ready (rs := [4]) (by kernel_rfl) (by simp) ?_
      refine AllReadyH.cons rfl (fun K hK => ?_) AllReadyH.nil
      go_simp
      refine (root_any gb base x G1 rt d _ (HG2.out.on (Below.refl _ _).drew) HJ.out.cls.fo HXN.out HNG.out).mono ?_
      rintro e w3 ⟨rfl, rfl⟩
      go_wp2_with fail
      refine hK.out _ _ ?_ (fun hHeld => ?_)
      · exact ⟨s1, s2⟩
      clear hK K
      refine wpAnyH_ready (rs := [8]) (by kernel_rfl) (by simp) ?_
      refine AllReadyH.cons rfl (fun K hK => ?_) AllReadyH.nil
      go_simp
      refine (root_any gb base y G1 rt d _ (HG2.out.on (Below.refl _ _).drew) HJ.out.cls.fo HYN.out HNG.out).mono ?_
      rintro e w3 ⟨rfl, rfl⟩
      go_wp2_with fail
      refine hK.out _ _ ?_ (fun hHeld => ?_)
      · exact ⟨s1, s2⟩
      clear hK K
      refine wpAnyH_ready (rs := [9]) (by kernel_rfl) (by simp) ?_
      refine AllReadyH.cons rfl (fun K hK => ?_) AllReadyH.nil
      go_simp
      refine (rootFirst_any gb base (rt x) (rt y) G1 _ (HG2.out.on (Below.refl _ _).drew) HX1.out HY1.out HNG.out).mono ?_
      rintro e w3 ⟨⟨r, o, rfl, hor, hcode⟩, hb3⟩
      have hb3' : Below w2.heap.size w2 w3 := (Below.refl _ _).drew.trans hb3
      have HOR := Lib.hid hor
      have HCODE := Lib.hid hcode
      have HG3 := Lib.hid (HG2.out.on hb3')
      have HP3 := Lib.hid (HP2.out.on hb3')
      have HC3 := Lib.hid (HC2.out.trans (Chg.of_below hb3' (by have := HC2.out.bel.size; omega)))
      have t1 : w3.cell? ⟨lb, 0, none⟩ = some (.int .i64 (x : Int)) := (hb3'.cell (p := ⟨lb, 0, none⟩) hlb).trans s1
      have t2 : w3.cell? ⟨lb, 1, none⟩ = some (.int .i64 (y : Int)) := (hb3'.cell (p := ⟨lb, 1, none⟩) hlb).trans s2
      clear hor hcode hb3 hb3'
      go_wp2_with fail
      refine hK.out _ _ ?_ (fun hHeld => ?_)
      · exact ⟨t1, t2⟩
      clear hK K
      refine takeH (i := 10) (v := ?_) rfl rfl (by kernel_rfl) (by kernel_rfl) (by kernel_rfl) (fun _ _ _ h => h) (by rfl) ?_ hHeld ?_
      rotate_left
      · (intro w hSw; (try dsimp only at hSw); first | (go_simp; done) | (go_simp; with_reducible rfl))
      simp only [Act.put, List.setIfInBounds_toArray, List.set_cons_zero, List.set_cons_succ]
      refine takeH (i := 11) (v := ?_) rfl rfl (by kernel_rfl) (by kernel_rfl) (by kernel_rfl) (fun _ _ _ h => h) (by rfl) ?_ hHeld ?_
      rotate_left
      · (intro w hSw; (try dsimp only at hSw); first | (go_simp; done) | (go_simp; with_reducible rfl))
      simp only [Act.put, List.setIfInBounds_toArray, List.set_cons_zero, List.set_cons_succ]
      refine takeH (i := 12) (v := ?_) rfl rfl (by kernel_rfl) (by kernel_rfl) (by kernel_rfl) (fun _ _ _ h => h) (by rfl) ?_ hHeld ?_
      rotate_left
      · (intro w hSw; (try dsimp only at hSw); first | (go_simp; done) | (go_simp; with_reducible rfl))
      simp only [Act.put, List.setIfInBounds_toArray, List.set_cons_zero, List.set_cons_succ]
      refine takeH (i := 13) (v := ?_) rfl rfl (by kernel_rfl) (by kernel_rfl) (by kernel_rfl) (fun _ _ _ h => h) (by rfl) ?_ hHeld ?_
      rotate_left
      · (intro w hSw; (try dsimp only at hSw); first | (go_simp; done) | (go_simp; with_reducible rfl))
      simp only [Act.put, List.setIfInBounds_toArray, List.set_cons_zero, List.set_cons_succ]
      refine takeH (i := 14) (v := ?_) rfl rfl (by kernel_rfl) (by kernel_rfl) (by kernel_rfl) (fun _ _ _ h => h) (by rfl) ?_ hHeld ?_
      rotate_left
      · (intro w hSw; (try dsimp only at hSw); first | (go_simp; done) | (go_simp; with_reducible rfl))
      simp only [Act.put, List.setIfInBounds_toArray, List.set_cons_zero, List.set_cons_succ]
      refine wpAnyH_done (by kernel_rfl) ?_ _
      have HPOP : Hid (rt x = rt y → JoinW ss D L R gb base N w w3 (.slice (some ⟨g, 0, none⟩) pl cap) G1 rt d P) := fun e =>
        ⟨HG3.out, HP3.out, HJ.out.cls.pop e, HJ.out.many, HJ.out.zero, HC3.out, by have := HJ.out.few; simp only [List.length_append, List.length_cons, List.length_nil] at this; omega⟩
      by_cases hro : r = o
      · have hEQ : rt x = rt y := by rcases HOR.out with ⟨e1, e2⟩ | ⟨e1, e2⟩ <;> omega
        have HPP := Lib.hid (HPOP.out hEQ)
        have hro' : (r : Int) = (o : Int) := by omega
        clear hEQ hro
        go_wp2
        go_step3
        exact ⟨4 * roots G1 + P.length, by simp, JJ.mk rfl rfl HPP.out⟩
      · have hro' : ¬ (r : Int) = (o : Int) := by omega
        have HNE := Lib.hid hro
        have HOR2 : Hid ((rt x = r ∧ rt y = o) ∨ (rt x = o ∧ rt y = r)) := HOR.out
        obtain ⟨hrN, hoN, hru, hou⟩ := HJ.out.cls.ends HOR2.out
        have HRN := Lib.hid hrN
        have HON := Lib.hid hoN
        have HROOTS := Lib.hid (roots_link (r := r) hoN hou hro)
        obtain ⟨nb, cap2, _, hnb, hcap2, hcell, _⟩ := HG3.out.cells (by omega)
        obtain ⟨hgn, -, hfz, hkeep, hall⟩ := HG3.out.nodes hcell
        obtain ⟨⟨hGset, hCset⟩, _, _⟩ := HG3.out.set hoN hcell r
        have HGS := Lib.hid hGset
        have HCS := Lib.hid hCset
        have hf := hfz (o * 4 + 2)
        obtain ⟨_, c2, _⟩ := hall o hoN
        have hcell4 := hkeep (o * 4 + 2) (.int .i64 (r : Int))
        rw [HJ.out.many] at hcell hcap2 hcell4 hrN hoN
        obtain ⟨-, -, hfz4, -, hall4⟩ := HGS.out.nodes hcell4
        obtain ⟨e0, _, _⟩ := hall4 o (by rw [setUp_length]; exact HON.out)
        obtain ⟨f0, _, _⟩ := hall4 r (by rw [setUp_length]; exact HRN.out)
        rw [setUp_code HON.out] at e0 f0
        obtain ⟨w4, hw4⟩ : ∃ w4, w4 = w3.setCell ⟨nb, o * 4 + 2, none⟩ (.int .i64 (r : Int)) := ⟨_, rfl⟩
        have i0 : (0 : Int) ≤ (o : Int) := by omega
        have i1 : (o : Int) < (N : Int) := by omega
        have i2 : (0 : Int) ≤ (r : Int) := by omega
        have i3 : (r : Int) < (N : Int) := by omega
        obtain ⟨co, hco⟩ : ∃ co, co = (ndAt G1 o).code := ⟨_, rfl⟩
        obtain ⟨cr, hcr⟩ : ∃ cr, cr = (ndAt G1 r).code := ⟨_, rfl⟩
        rw [← hco] at e0
        rw [← hcr] at f0
        have HCO := Lib.hid hco
        have HCR := Lib.hid hcr
        have HPS : Hid (OwnP (w3.setCell ⟨nb, o * 4 + 2, none⟩ (.int .i64 (r : Int))) base (.slice (some ⟨g, 0, none⟩) pl cap) P) := hCset.rows (by decide) HP3.out
        have HCC := Lib.hid (HC3.out.trans (hCset.wide (fs := [80, 84]) (by simp)))
        have HMANY : Hid ((setUp G1 o r).length = N) := by show (setUp G1 o r).length = N; rw [setUp_length]; exact HJ.out.many
        have HZERO : Hid (∀ k, k < N → lenAt (setUp G1 o r) k = 0) := by
          intro k hk
          show (ndAt (setUp G1 o r) k).len = 0
          rw [setUp_len HON.out]
          exact HJ.out.zero k hk
        have HFEW : Hid (P.length + 3 + 3 * roots (setUp G1 o r) ≤ 3 * N + 100) := by
          show _ ≤ _
          have h1 := HJ.out.few
          have h2 := HROOTS.out
          simp only [List.length_append, List.length_cons, List.length_nil] at h1
          omega
        clear hGset hCset hall hfz hkeep hall4 hfz4 hw4 hco hcr hro hru hou
        by_cases hneg : co < 0
        · have HL1 := Lib.hid (HJ.out.cls.link_var HOR2.out HNE.out HCODE.out (by rw [← HCO.out]; exact hneg))
          go_wp2
          go_step3
          exact ⟨4 * roots (setUp G1 o r) + P.length, by have := HROOTS.out; simp; omega, JJ.mk rfl rfl ⟨HGS.out, HPS.out, HL1.out, HMANY.out, HZERO.out, HCC.out, by have := HFEW.out; omega⟩⟩
        · have hco0 : 0 ≤ co := by omega
          have HCO0 : Hid (0 ≤ (ndAt G1 o).code) := by show 0 ≤ (ndAt G1 o).code; rw [← HCO.out]; exact hco0
          have HCR0 : Hid (0 ≤ (ndAt G1 r).code) := by have := HCODE.out; have := HCO0.out; show 0 ≤ (ndAt G1 r).code; omega
          clear hneg
          go_wp2_with fail
          refine wp_region_held_drew (S := (fun w' => w'.cell? ⟨gb, 0, none⟩ = some (.slice (some ⟨nb, 0, none⟩) N cap2) ∧ w'.cell? ⟨nb, o * 4, none⟩ = some (.int .i64 co) ∧ w'.cell? ⟨nb, r * 4, none⟩ = some (.int .i64 cr))) (by kernel_rfl) ⟨hcell4, e0, f0⟩ (fun hHeld => ?_)
          refine takeH (i := 0) (v := ?_) rfl rfl (by kernel_rfl) (by kernel_rfl) (by kernel_rfl) (fun _ _ _ h => h) (by rfl) ?_ hHeld ?_
          rotate_left
          · (intro w hSw; (try dsimp only at hSw); first | (go_simp; done) | (go_simp; with_reducible rfl))
          simp only [Act.put, List.setIfInBounds_toArray, List.set_cons_zero, List.set_cons_succ]
          refine takeH (i := 1) (v := ?_) rfl rfl (by kernel_rfl) (by kernel_rfl) (by kernel_rfl) (fun _ _ _ h => h) (by rfl) ?_ hHeld ?_
          rotate_left
          · (intro w hSw; (try dsimp only at hSw); first | (go_simp; done) | (go_simp; with_reducible rfl))
          simp only [Act.put, List.setIfInBounds_toArray, List.set_cons_zero, List.set_cons_succ]
          refine takeH (i := 2) (v := ?_) rfl rfl (by kernel_rfl) (by kernel_rfl) (by kernel_rfl) (fun _ _ _ h => h) (by rfl) ?_ hHeld ?_
          rotate_left
          · (intro w hSw; (try dsimp only at hSw); first | (go_simp; done) | (go_simp; with_reducible rfl))
          simp only [Act.put, List.setIfInBounds_toArray, List.set_cons_zero, List.set_cons_succ]
          refine takeH (i := 3) (v := ?_) rfl rfl (by kernel_rfl) (by kernel_rfl) (by kernel_rfl) (fun _ _ _ h => h) (by rfl) ?_ hHeld ?_
          rotate_left
          · (intro w hSw; (try dsimp only at hSw); first | (go_simp; done) | (go_simp; with_reducible rfl))
          simp only [Act.put, List.setIfInBounds_toArray, List.set_cons_zero, List.set_cons_succ]
          refine takeH (i := 4) (v := ?_) rfl rfl (by kernel_rfl) (by kernel_rfl) (by kernel_rfl) (fun _ _ _ h => h) (by rfl) ?_ hHeld ?_
          rotate_left
          · (intro w hSw; (try dsimp only at hSw); first | (go_simp; done) | (go_simp; with_reducible rfl))
          simp only [Act.put, List.setIfInBounds_toArray, List.set_cons_zero, List.set_cons_succ]
          refine takeH (i := 5) (v := ?_) rfl rfl (by kernel_rfl) (by kernel_rfl) (by kernel_rfl) (fun _ _ _ h => h) (by rfl) ?_ hHeld ?_
          rotate_left
          · (intro w hSw; (try dsimp only at hSw); first | (go_simp; done) | (go_simp; with_reducible rfl))
          simp only [Act.put, List.setIfInBounds_toArray, List.set_cons_zero, List.set_cons_succ]
          refine takeH (i := 6) (v := ?_) rfl rfl (by kernel_rfl) (by kernel_rfl) (by kernel_rfl) (fun _ _ _ h => h) (by rfl) ?_ hHeld ?_
          rotate_left
          · (intro w hSw; (try dsimp only at hSw); first | (go_simp; done) | (go_simp; with_reducible rfl))
          simp only [Act.put, List.setIfInBounds_toArray, List.set_cons_zero, List.set_cons_succ]
          refine takeH (i := 7) (v := ?_) rfl rfl (by kernel_rfl) (by kernel_rfl) (by kernel_rfl) (fun _ _ _ h => h) (by rfl) ?_ hHeld ?_
          rotate_left
          · (intro w hSw; (try dsimp only at hSw); first | (go_simp; done) | (go_simp; with_reducible rfl))
          simp only [Act.put, List.setIfInBounds_toArray, List.set_cons_zero, List.set_cons_succ]
          refine takeH (i := 8) (v := ?_) rfl rfl (by kernel_rfl) (by kernel_rfl) (by kernel_rfl) (fun _ _ _ h => h) (by rfl) ?_ hHeld ?_
          rotate_left
          · (intro w hSw; (try dsimp only at hSw); first | (go_simp; done) | (go_simp; with_reducible rfl))
          simp only [Act.put, List.setIfInBounds_toArray, List.set_cons_zero, List.set_cons_succ]
          refine takeH (i := 9) (v := ?_) rfl rfl (by kernel_rfl) (by kernel_rfl) (by kernel_rfl) (fun _ _ _ h => h) (by rfl) ?_ hHeld ?_
          rotate_left
          · (intro w hSw; (try dsimp only at hSw); first | (go_simp; done) | (go_simp; with_reducible rfl))
          simp only [Act.put, List.setIfInBounds_toArray, List.set_cons_zero, List.set_cons_succ]
          refine takeH (i := 10) (v := ?_) rfl rfl (by kernel_rfl) (by kernel_rfl) (by kernel_rfl) (fun _ _ _ h => h) (by rfl) ?_ hHeld ?_
          rotate_left
          · (intro w hSw; (try dsimp only at hSw); first | (go_simp; done) | (go_simp; with_reducible rfl))
          simp only [Act.put, List.setIfInBounds_toArray, List.set_cons_zero, List.set_cons_succ]
          refine takeH (i := 11) (v := ?_) rfl rfl (by kernel_rfl) (by kernel_rfl) (by kernel_rfl) (fun _ _ _ h => h) (by rfl) ?_ hHeld ?_
          rotate_left
          · (intro w hSw; (try dsimp only at hSw); first | (go_simp; done) | (go_simp; with_reducible rfl))
          simp only [Act.put, List.setIfInBounds_toArray, List.set_cons_zero, List.set_cons_succ]
          refine takeH (i := 12) (v := ?_) rfl rfl (by kernel_rfl) (by kernel_rfl) (by kernel_rfl) (fun _ _ _ h => h) (by rfl) ?_ hHeld ?_
          rotate_left
          · (intro w hSw; (try dsimp only at hSw); first | (go_simp; done) | (go_simp; with_reducible rfl))
          simp only [Act.put, List.setIfInBounds_toArray, List.set_cons_zero, List.set_cons_succ]
          refine takeH (i := 13) (v := ?_) rfl rfl (by kernel_rfl) (by kernel_rfl) (by kernel_rfl) (fun _ _ _ h => h) (by rfl) ?_ hHeld ?_
          rotate_left
          · (intro w hSw; (try dsimp only at hSw); first | (go_simp; done) | (go_simp; with_reducible rfl))
          simp only [Act.put, List.setIfInBounds_toArray, List.set_cons_zero, List.set_cons_succ]
          refine takeH (i := 14) (v := ?_) rfl rfl (by kernel_rfl) (by kernel_rfl) (by kernel_rfl) (fun _ _ _ h => h) (by rfl) ?_ hHeld ?_
          rotate_left
          · (intro w hSw; (try dsimp only at hSw); first | (go_simp; done) | (go_simp; with_reducible rfl))
          simp only [Act.put, List.setIfInBounds_toArray, List.set_cons_zero, List.set_cons_succ]
          refine takeH (i := 15) (v := ?_) rfl rfl (by kernel_rfl) (by kernel_rfl) (by kernel_rfl) (fun _ _ _ h => h) (by rfl) ?_ hHeld ?_
          rotate_left
          · (intro w hSw; (try dsimp only at hSw); first | (go_simp; done) | (go_simp; with_reducible rfl))
          simp only [Act.put, List.setIfInBounds_toArray, List.set_cons_zero, List.set_cons_succ]
          refine takeH (i := 16) (v := ?_) rfl rfl (by kernel_rfl) (by kernel_rfl) (by kernel_rfl) (fun _ _ _ h => h) (by rfl) ?_ hHeld ?_
          rotate_left
          · (intro w hSw; (try dsimp only at hSw); first | (go_simp; done) | (go_simp; with_reducible rfl))
          simp only [Act.put, List.setIfInBounds_toArray, List.set_cons_zero, List.set_cons_succ]
          refine wpAnyH_done (by kernel_rfl) ?_ _
          obtain ⟨w5, hw5⟩ : ∃ w5, w5 = (w3.setCell ⟨nb, o * 4 + 2, none⟩ (.int .i64 (r : Int))).drew := ⟨_, rfl⟩
          rw [← hw5]
          have hb5 : Below (w3.setCell ⟨nb, o * 4 + 2, none⟩ (.int .i64 (r : Int))).heap.size (w3.setCell ⟨nb, o * 4 + 2, none⟩ (.int .i64 (r : Int))) w5 := by rw [hw5]; exact (Below.refl _ _).drew
          have hcell5 : w5.cell? ⟨gb, 0, none⟩ = some (.slice (some ⟨nb, 0, none⟩) N cap2) := by rw [hw5]; exact hcell4
          have hbb : base ≤ (w3.setCell ⟨nb, o * 4 + 2, none⟩ (.int .i64 (r : Int))).heap.size := by have := HCC.out.bel.size; omega
          have HG5 := Lib.hid (HGS.out.on hb5)
          have HP5 := Lib.hid (HPS.out.on hb5)
          have HC5 := Lib.hid (HCC.out.trans (Chg.of_below hb5 hbb))
          clear hb5 hw5 hbb HGS HPS HCC HCS e0 f0 hcell4 hcell c2 hf HG3 HP3 HC3 t1 t2 s1 s2 hHeld
          by_cases hne : cr = co
          · have hne' : (cr != co) = false := by simp [hne]
            obtain ⟨HLK', hlen'⟩ := HJ.out.cls.link_sym HOR2.out HNE.out HCO0.out (by rw [← HCO.out, ← HCR.out]; exact hne)
            have HLK := Lib.hid HLK'
            have HLEN := Lib.hid hlen'
            have hal := ar_le HM.out (HJ.out.cls.st.sym r (HJ.out.cls.sym_of HRN.out HCR0.out) HRN.out).2
            have HAL := Lib.hid hal
            obtain ⟨Ar, lr, cr2, q1, o1⟩ := HG5.out.arg hcell5 (i := r) (by rw [setUp_length]; exact HRN.out)
            obtain ⟨Ao, lo, co2, q2, o2⟩ := HG5.out.arg hcell5 (i := o) (by rw [setUp_length]; exact HON.out)
            rw [setUp_args HON.out] at o1 o2
            have HO1 := Lib.hid o1
            have HO2 := Lib.hid o2
            have hbw5 : base ≤ w5.heap.size := by have := HC5.out.bel.size; omega
            clear HLK' hlen' hal o1 o2 hne
            go_wp2_with fail
            refine wp_region_held_drew (S := (fun w' => w'.cell? ⟨gb, 0, none⟩ = some (.slice (some ⟨nb, 0, none⟩) N cap2) ∧ w'.cell? ⟨nb, r * 4 + 1, none⟩ = some (.slice Ar lr cr2) ∧ w'.cell? ⟨nb, o * 4 + 1, none⟩ = some (.slice Ao lo co2))) (by kernel_rfl) ⟨hcell5, q1, q2⟩ (fun hHeld => ?_)
            refine takeH (i := 0) (v := ?_) rfl rfl (by kernel_rfl) (by kernel_rfl) (by kernel_rfl) (fun _ _ _ h => h) (by rfl) ?_ hHeld ?_
            rotate_left
            · (intro w hSw; (try dsimp only at hSw); first | (go_simp; done) | (go_simp; with_reducible rfl))
            simp only [Act.put, List.setIfInBounds_toArray, List.set_cons_zero, List.set_cons_succ]
            refine takeH (i := 1) (v := ?_) rfl rfl (by kernel_rfl) (by kernel_rfl) (by kernel_rfl) (fun _ _ _ h => h) (by rfl) ?_ hHeld ?_
            rotate_left
            · (intro w hSw; (try dsimp only at hSw); first | (go_simp; done) | (go_simp; with_reducible rfl))
            simp only [Act.put, List.setIfInBounds_toArray, List.set_cons_zero, List.set_cons_succ]
            refine takeH (i := 2) (v := ?_) rfl rfl (by kernel_rfl) (by kernel_rfl) (by kernel_rfl) (fun _ _ _ h => h) (by rfl) ?_ hHeld ?_
            rotate_left
            · (intro w hSw; (try dsimp only at hSw); first | (go_simp; done) | (go_simp; with_reducible rfl))
            simp only [Act.put, List.setIfInBounds_toArray, List.set_cons_zero, List.set_cons_succ]
            refine takeH (i := 3) (v := ?_) rfl rfl (by kernel_rfl) (by kernel_rfl) (by kernel_rfl) (fun _ _ _ h => h) (by rfl) ?_ hHeld ?_
            rotate_left
            · (intro w hSw; (try dsimp only at hSw); first | (go_simp; done) | (go_simp; with_reducible rfl))
            simp only [Act.put, List.setIfInBounds_toArray, List.set_cons_zero, List.set_cons_succ]
            refine takeH (i := 4) (v := ?_) rfl rfl (by kernel_rfl) (by kernel_rfl) (by kernel_rfl) (fun _ _ _ h => h) (by rfl) ?_ hHeld ?_
            rotate_left
            · (intro w hSw; (try dsimp only at hSw); first | (go_simp; done) | (go_simp; with_reducible rfl))
            simp only [Act.put, List.setIfInBounds_toArray, List.set_cons_zero, List.set_cons_succ]
            refine takeH (i := 5) (v := ?_) rfl rfl (by kernel_rfl) (by kernel_rfl) (by kernel_rfl) (fun _ _ _ h => h) (by rfl) ?_ hHeld ?_
            rotate_left
            · (intro w hSw; (try dsimp only at hSw); first | (go_simp; done) | (go_simp; with_reducible rfl))
            simp only [Act.put, List.setIfInBounds_toArray, List.set_cons_zero, List.set_cons_succ]
            refine takeH (i := 6) (v := ?_) rfl rfl (by kernel_rfl) (by kernel_rfl) (by kernel_rfl) (fun _ _ _ h => h) (by rfl) ?_ hHeld ?_
            rotate_left
            · (intro w hSw; (try dsimp only at hSw); first | (go_simp; done) | (go_simp; with_reducible rfl))
            simp only [Act.put, List.setIfInBounds_toArray, List.set_cons_zero, List.set_cons_succ]
            refine takeH (i := 7) (v := ?_) rfl rfl (by kernel_rfl) (by kernel_rfl) (by kernel_rfl) (fun _ _ _ h => h) (by rfl) ?_ hHeld ?_
            rotate_left
            · (intro w hSw; (try dsimp only at hSw); first | (go_simp; done) | (go_simp; with_reducible rfl))
            simp only [Act.put, List.setIfInBounds_toArray, List.set_cons_zero, List.set_cons_succ]
            refine takeH (i := 8) (v := ?_) rfl rfl (by kernel_rfl) (by kernel_rfl) (by kernel_rfl) (fun _ _ _ h => h) (by rfl) ?_ hHeld ?_
            rotate_left
            · (intro w hSw; (try dsimp only at hSw); first | (go_simp; done) | (go_simp; with_reducible rfl))
            simp only [Act.put, List.setIfInBounds_toArray, List.set_cons_zero, List.set_cons_succ]
            refine takeH (i := 9) (v := ?_) rfl rfl (by kernel_rfl) (by kernel_rfl) (by kernel_rfl) (fun _ _ _ h => h) (by rfl) ?_ hHeld ?_
            rotate_left
            · (intro w hSw; (try dsimp only at hSw); first | (go_simp; done) | (go_simp; with_reducible rfl))
            simp only [Act.put, List.setIfInBounds_toArray, List.set_cons_zero, List.set_cons_succ]
            refine takeH (i := 10) (v := ?_) rfl rfl (by kernel_rfl) (by kernel_rfl) (by kernel_rfl) (fun _ _ _ h => h) (by rfl) ?_ hHeld ?_
            rotate_left
            · (intro w hSw; (try dsimp only at hSw); first | (go_simp; done) | (go_simp; with_reducible rfl))
            simp only [Act.put, List.setIfInBounds_toArray, List.set_cons_zero, List.set_cons_succ]
            refine takeH (i := 11) (v := ?_) rfl rfl (by kernel_rfl) (by kernel_rfl) (by kernel_rfl) (fun _ _ _ h => h) (by rfl) ?_ hHeld ?_
            rotate_left
            · (intro w hSw; (try dsimp only at hSw); first | (go_simp; done) | (go_simp; with_reducible rfl))
            simp only [Act.put, List.setIfInBounds_toArray, List.set_cons_zero, List.set_cons_succ]
            refine takeH (i := 12) (v := ?_) rfl rfl (by kernel_rfl) (by kernel_rfl) (by kernel_rfl) (fun _ _ _ h => h) (by rfl) ?_ hHeld ?_
            rotate_left
            · (intro w hSw; (try dsimp only at hSw); first | (go_simp; done) | (go_simp; with_reducible rfl))
            simp only [Act.put, List.setIfInBounds_toArray, List.set_cons_zero, List.set_cons_succ]
            refine takeH (i := 13) (v := ?_) rfl rfl (by kernel_rfl) (by kernel_rfl) (by kernel_rfl) (fun _ _ _ h => h) (by rfl) ?_ hHeld ?_
            rotate_left
            · (intro w hSw; (try dsimp only at hSw); first | (go_simp; done) | (go_simp; with_reducible rfl))
            simp only [Act.put, List.setIfInBounds_toArray, List.set_cons_zero, List.set_cons_succ]
            refine takeH (i := 14) (v := ?_) rfl rfl (by kernel_rfl) (by kernel_rfl) (by kernel_rfl) (fun _ _ _ h => h) (by rfl) ?_ hHeld ?_
            rotate_left
            · (intro w hSw; (try dsimp only at hSw); first | (go_simp; done) | (go_simp; with_reducible rfl))
            simp only [Act.put, List.setIfInBounds_toArray, List.set_cons_zero, List.set_cons_succ]
            refine takeH (i := 15) (v := ?_) rfl rfl (by kernel_rfl) (by kernel_rfl) (by kernel_rfl) (fun _ _ _ h => h) (by rfl) ?_ hHeld ?_
            rotate_left
            · (intro w hSw; (try dsimp only at hSw); first | (go_simp; done) | (go_simp; with_reducible rfl))
            simp only [Act.put, List.setIfInBounds_toArray, List.set_cons_zero, List.set_cons_succ]
            refine takeH (i := 16) (v := ?_) rfl rfl (by kernel_rfl) (by kernel_rfl) (by kernel_rfl) (fun _ _ _ h => h) (by rfl) ?_ hHeld ?_
            rotate_left
            · (intro w hSw; (try dsimp only at hSw); first | (go_simp; done) | (go_simp; with_reducible rfl))
            simp only [Act.put, List.setIfInBounds_toArray, List.set_cons_zero, List.set_cons_succ]
            refine wpAnyH_ready (rs := [17]) (by kernel_rfl) (by simp) ?_
            refine AllReadyH.cons rfl (fun K hK => ?_) AllReadyH.nil
            go_simp
            refine (both_any' base base base _ _ _ P (ndAt G1 r).args (ndAt G1 o).args w5.drew (HP5.out.on (Below.refl _ _).drew) (HO1.out.on (Below.refl _ _).drew) (HO2.out.on (Below.refl _ _).drew) HLEN.out (by have := HAL.out; have := HPL.out; omega) hbw5).mono ?_
            rintro e w6 ⟨⟨v6, rfl, hv6⟩, hc6⟩
            have HV6 := Lib.hid hv6
            have HC6 := Lib.hid (HC5.out.trans ((Chg.of_below (Below.refl _ _).drew hbw5).trans (hc6.wide (by simp))))
            have HG6 := Lib.hid ((HG5.out.on (w' := w5.drew) (Below.refl _ _).drew).chg hc6 (by decide) (by decide) (by decide))
            have hS6 : w6.cell? ⟨gb, 0, none⟩ = some (.slice (some ⟨nb, 0, none⟩) N cap2) ∧ w6.cell? ⟨nb, r * 4 + 1, none⟩ = some (.slice Ar lr cr2) ∧ w6.cell? ⟨nb, o * 4 + 1, none⟩ = some (.slice Ao lo co2) := by
              have hS := (HG5.out.on (w' := w5.drew) (Below.refl _ _).drew).same hcell5 hc6 (by decide) (by decide)
              exact ⟨(hS 0).1.trans hcell5, (hS _).2.trans q1, (hS _).2.trans q2⟩
            clear hv6 hc6
            go_wp2_with fail
            refine hK.out _ _ ?_ (fun hHeld => ?_)
            · exact hS6
            clear hK K
            refine takeH (i := 18) (v := ?_) rfl rfl (by kernel_rfl) (by kernel_rfl) (by kernel_rfl) (fun _ _ _ h => h) (by rfl) ?_ hHeld ?_
            rotate_left
            · (intro w hSw; (try dsimp only at hSw); first | (go_simp; done) | (go_simp; with_reducible rfl))
            simp only [Act.put, List.setIfInBounds_toArray, List.set_cons_zero, List.set_cons_succ]
            refine wpAnyH_done (by kernel_rfl) ?_ _
            go_wp2
            go_step3
            have hz : (P ++ (ndAt G1 r).args.zip (ndAt G1 o).args).length ≤ P.length + 3 := by have := HAL.out; simp; omega
            exact ⟨4 * roots (setUp G1 o r) + (P ++ (ndAt G1 r).args.zip (ndAt G1 o).args).length, by have := HROOTS.out; simp only [List.length_append, List.length_cons, List.length_nil] at hz ⊢; omega, JJ.mk rfl rfl ⟨HG6.out, HV6.out, HLK.out, HMANY.out, HZERO.out, HC6.out, by have := HFEW.out; omega⟩⟩
          · have hne' : (cr != co) = true := by simp [hne]
            have HNO := Lib.hid (HJ.out.cls.clash HOR2.out HCO0.out HCR0.out (by rw [← HCO.out, ← HCR.out]; exact hne))
            clear hne
            go_wp2
            go_ret
            exact ⟨.inr ⟨rfl, HNO.out⟩, HC5.out⟩
  · intro P0
    have HP0 := Lib.hid P0
    clear P0
    go_wp2_with fail
    refine (both_any' base b1 b2 _ vL vR [] L R _ OwnP.nil_ HL.out HR.out HLR.out (by have := HLL.out; simp; omega) hbase).mono ?_
    rintro e w1 ⟨⟨v1, rfl, hv1⟩, hc1⟩
    have HV1 := Lib.hid hv1
    have HC1 := Lib.hid hc1
    have HRT : Hid (roots G ≤ N) := by show roots G ≤ N; rw [HN.out]; exact cnt_le _ _
    have HZL : Hid ((L.zip R).length ≤ 48) := by have := HLL.out; show (L.zip R).length ≤ 48; simp; omega
    clear hv1 hc1
    go_wp2_with fail
    go_step3
    rename_i hK
    refine hK _ _ (HP0.out (4 * roots G + (L.zip R).length) _ _ ?_ (JJ.mk rfl rfl ⟨HG.out.chg HC1.out (by decide) (by decide) (by decide), HV1.out, HCL.out, HN.out.symm, HZ.out, HC1.out.wide (by simp), ?_⟩))
    · have := HRT.out; have := HZL.out; omega
    · have := HRT.out; have := HZL.out; omega

end Go.Proofs.Ytlmpapdpmmkjnaa
