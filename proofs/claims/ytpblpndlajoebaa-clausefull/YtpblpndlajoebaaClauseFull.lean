/-
  The walk of the law ClauseFull.
-/
import Derived.Test.YtpblpndlajoebaaClauseAgain
import Derived.Deep.DeepCutAuto
namespace Go.Proofs.Ytpblpndlajoebaa
open Go.RowKit Go.Deep
set_option linter.unusedSimpArgs false
set_option linter.unusedVariables false
set_option maxRecDepth 100000

theorem u_mod8 (k : Int) (n : Nat) (hn : 0 < n) : ∃ z : Nat, z < n ∧ (IntKind.u64.wrap k).tmod n = (z : Int) := by
  have h1 : 0 ≤ IntKind.u64.wrap k := by
    have : IntKind.u64.wrap k = k % 18446744073709551616 := by rfl
    omega
  have h2 : 0 ≤ (IntKind.u64.wrap k).tmod n := Int.tmod_nonneg _ h1
  have h3 : (IntKind.u64.wrap k).tmod n < n := Int.tmod_lt_of_pos _ (by omega)
  exact ⟨((IntKind.u64.wrap k).tmod n).toNat, by omega, by omega⟩
def fp : Lt := ⟨false, [5, 1]⟩
def fr : List Int := [1, 2]
/-- So many Lits, Tuples, Conds. -/
def fc (x y z : Nat) : Cl := ⟨List.replicate x fp, List.replicate y fr, List.replicate z fp⟩
def fIs (x y z : Nat) : Bool := decide (x ≤ 5) && (decide (y ≤ 3) && decide (z ≤ 3))
theorem fc_all : ∀ x, x < 8 → ∀ y, y < 6 → ∀ z, z < 6 → mayC wordsL (fc x y z) = fIs x y z := by decide +kernel
theorem fc_norm : ∀ x, x < 8 → ∀ y, y < 6 → ∀ z, z < 6 → (norm (fc x y z)).lits.length = min x 1 ∧ (norm (fc x y z)).tups.length = min y 1 ∧ (norm (fc x y z)).conds.length = min z 1 := by decide +kernel
theorem fc_fit {x y z : Nat} (hx : x < 8) (hy : y < 6) (hz : z < 6) : Fit (fc x y z) where
  l := by show (List.replicate x fp).length * 32 ≤ _; simp; omega
  t := by show (List.replicate y fr).length * 24 ≤ _; simp; omega
  d := by show (List.replicate z fp).length * 32 ≤ _; simp; omega
  r := by
    intro r hr
    unfold rowsC fc at hr
    simp only [List.map_replicate, List.mem_append, List.mem_replicate] at hr
    rcases hr with ⟨_, rfl⟩ | ⟨_, rfl⟩ | ⟨_, rfl⟩
    · show 2 * 8 ≤ _; omega
    · show 2 * 8 ≤ _; omega
    · show 2 * 8 ≤ _; omega
theorem OwnI.lit9 (w : World) (t : List Int) (hf : t.length ≤ 9) : OwnI (w.alloc (.cells (intCells t).toArray 3)) w.heap.size (.slice (some ⟨w.heap.size, 0, none⟩) t.length t.length) t := by
  have := World.ownsRow_lit (base := w.heap.size) (e := 3) (size := 1) w (intCells t).toArray t.length (Nat.le_refl _) (by unfold maxLen; omega) (by simp [intCells])
  simpa [OwnI] using this
/-- The clause that is made, in its box g; its Conds lie from h on, its Lits below. -/
structure FullV (w0 : World) (g h x y z : Nat) (v : Cv) (wr : World) : Prop where
  blk : wr.heap[g]? = some (.cells #[.slice v.A1 v.n1 v.c1, .slice v.A2 v.n2 v.c2, .slice v.A3 v.n3 v.c3] 26 (0, 0))
  a : OwnL wr g (.slice v.A1 v.n1 v.c1) (List.replicate x fp)
  lb : ∀ b, (Value.slice v.A1 v.n1 v.c1).ownBlock = some b → b < h
  b : OwnT wr g (.slice v.A2 v.n2 v.c2) (List.replicate y fr)
  d : OwnL wr h (.slice v.A3 v.n3 v.c3) (List.replicate z fp)
  ch : Chg [26, 57, 33] g w0 wr
  gh : g ≤ h
  hs : h ≤ wr.heap.size
theorem rep_snoc {α : Type} (n : Nat) (a : α) : List.replicate n a ++ [a] = List.replicate (n + 1) a := by
  rw [List.replicate_succ']
section
variable {w0 wr wn w2 : World} {g h x y z k : Nat} {v : Cv} {D : Option Addr} {L e : Nat} {vs : List Value} {u v2 : Value}
theorem FullV.c0 (q : FullV w0 g h x y z v wr) : wr.cell? ⟨g, 0, none⟩ = some (.slice v.A1 v.n1 v.c1) := by rw [cell_of_row _ _ 0 _ _ _ q.blk]; rfl
theorem FullV.c1 (q : FullV w0 g h x y z v wr) : wr.cell? ⟨g, 1, none⟩ = some (.slice v.A2 v.n2 v.c2) := by rw [cell_of_row _ _ 1 _ _ _ q.blk]; rfl
theorem FullV.c2 (q : FullV w0 g h x y z v wr) : wr.cell? ⟨g, 2, none⟩ = some (.slice v.A3 v.n3 v.c3) := by rw [cell_of_row _ _ 2 _ _ _ q.blk]; rfl
theorem FullV.fz (q : FullV w0 g h x y z v wr) (i : Nat) : wr.frozen? ⟨g, i, none⟩ = false := frozen_of_row _ _ _ _ _ q.blk
theorem FullV.lt (q : FullV w0 g h x y z v wr) : g < wr.heap.size := (Array.getElem?_eq_some_iff.1 q.blk).1
theorem FullV.on (q : FullV w0 g h x y z v wr) (hb : Below wr.heap.size wr w2) : FullV w0 g h x y z v w2 :=
  ⟨by rw [hb.block g q.lt]; exact q.blk, q.a.on hb, q.lb, q.b.on hb, q.d.on hb, q.ch.trans (Chg.of_below hb (Nat.le_of_lt q.lt)), q.gh, by have := q.hs; have := hb.size; omega⟩
theorem OwnL.below_lits {ls : List Lt} (q : OwnL wn g v2 ls) (hc : Chg [57] h wn w2) (hl : ∀ b, v2.ownBlock = some b → b < h) : OwnL w2 g v2 ls := by
  obtain ⟨vs, a, r⟩ := q.vals
  refine OwnLv.own ⟨a.1, a.2.1, ?_⟩ (r.chg hc (by decide))
  rcases a.2.2 with e | ⟨k, cap, cur, e, hg, hb, rest⟩
  · exact .inl e
  · exact .inr ⟨k, cap, cur, e, hg, by rw [hc.bel.block k (hl k (by rw [e]; rfl))]; exact hb, rest⟩
theorem OwnL.blk_lt {ls : List Lt} (q : OwnL wn g v2 ls) : ∀ b, v2.ownBlock = some b → b < wn.heap.size := by
  obtain ⟨vs, a, r⟩ := q.vals
  exact fun b hb => a.lt hb
/-- Behind an append to the Lits, the Tuples, the Conds. -/
theorem FullV.app1 (q : FullV w0 g h x 0 0 ⟨v.A1, v.n1, v.c1, none, 0, 0, none, 0, 0⟩ wn) (hown2 : OwnLv w2 g v2 (List.replicate x fp ++ [⟨false, [5, 1]⟩]) (vs ++ [u])) (hc2 : Chg [57] g wn w2) (hrw : Rws wn g (vs ++ [u]) ((List.replicate x fp).map Lt.atom ++ [[5, 1]])) :
    ∃ D L e, v2 = .slice D L e ∧ w2.cell? ⟨g, 0, none⟩ = some (.slice v.A1 v.n1 v.c1) ∧ w2.frozen? ⟨g, 0, none⟩ = false ∧ g < w2.heap.size ∧ FullV w0 g (w2.setCell ⟨g, 0, none⟩ (.slice D L e)).heap.size (x + 1) 0 0 ⟨D, L, e, none, 0, 0, none, 0, 0⟩ (w2.setCell ⟨g, 0, none⟩ (.slice D L e)) := by
  obtain ⟨D, e, hv⟩ := hown2.valued
  obtain ⟨L, hL⟩ : ∃ L, L = (List.replicate x fp ++ [(⟨false, [5, 1]⟩ : Lt)]).length := ⟨_, rfl⟩
  rw [← hL] at hv
  subst hv
  have o : OwnL w2 g (.slice D L e) (List.replicate x fp ++ [fp]) := hown2.own (by rw [List.map_append]; exact hrw.chg hc2 (by decide))
  rw [rep_snoc] at o
  have hb2 := hc2.blk _ _ _ _ q.blk (by decide)
  have cs : Chg [26] g w2 (w2.setCell ⟨g, 0, none⟩ (.slice D L e)) := Chg.set hb2 (Nat.le_refl _) _
  have o2 := o.chg cs (by decide) (by decide)
  have hgl := (Array.getElem?_eq_some_iff.1 hb2).1
  refine ⟨D, L, e, rfl, by rw [cell_of_row _ _ 0 _ _ _ hb2]; rfl, frozen_of_row _ _ _ _ _ hb2, hgl, heap_setCell_same _ _ 0 _ _ _ hb2, o2, o2.blk_lt, OwnT.nil_, OwnL.nil_, (q.ch.trans (hc2.wide (by simp))).trans (cs.wide (by simp)), ?_, Nat.le_refl _⟩
  have := cs.bel.size
  omega
theorem FullV.app2 (q : FullV w0 g h x k z v wn) (hown2 : OwnR w2 g v2 (vs ++ [u])) (hc2 : Chg [33] g wn w2) (hrw : Rws wn g (vs ++ [u]) (List.replicate k fr ++ [[1, 2]])) :
    ∃ D L e, v2 = .slice D L e ∧ w2.cell? ⟨g, 1, none⟩ = some (.slice v.A2 v.n2 v.c2) ∧ w2.frozen? ⟨g, 1, none⟩ = false ∧ g < w2.heap.size ∧ FullV w0 g h x (k + 1) z ⟨v.A1, v.n1, v.c1, D, L, e, v.A3, v.n3, v.c3⟩ (w2.setCell ⟨g, 1, none⟩ (.slice D L e)) := by
  obtain ⟨D, e, rfl⟩ := hown2.valued
  have o := OwnT.mk hown2 (hrw.chg hc2 (by decide))
  rw [show ([1, 2] : List Int) = fr from rfl, rep_snoc] at o
  have hb2 := hc2.blk _ _ _ _ q.blk (by decide)
  have cs : Chg [26] g w2 (w2.setCell ⟨g, 1, none⟩ (.slice D (vs ++ [u]).length e)) := Chg.set hb2 (Nat.le_refl _) _
  have hgl := (Array.getElem?_eq_some_iff.1 hb2).1
  refine ⟨D, _, e, rfl, by rw [cell_of_row _ _ 1 _ _ _ hb2]; rfl, frozen_of_row _ _ _ _ _ hb2, hgl, heap_setCell_same _ _ 1 _ _ _ hb2, (q.a.chg hc2 (by decide) (by decide)).chg cs (by decide) (by decide), q.lb, o.chg cs (by decide) (by decide), (q.d.chg hc2 (by decide) (by decide)).chg cs (by decide) (by decide), (q.ch.trans (hc2.wide (by simp))).trans (cs.wide (by simp)), q.gh, ?_⟩
  have := cs.bel.size
  have := hc2.bel.size
  have := q.hs
  omega
theorem FullV.app3 (q : FullV w0 g h x y k v wn) (hown2 : OwnLv w2 h v2 (List.replicate k fp ++ [⟨false, [5, 1]⟩]) (vs ++ [u])) (hc2 : Chg [57] h wn w2) (hrw : Rws wn h (vs ++ [u]) ((List.replicate k fp).map Lt.atom ++ [[5, 1]])) :
    ∃ D L e, v2 = .slice D L e ∧ w2.cell? ⟨g, 2, none⟩ = some (.slice v.A3 v.n3 v.c3) ∧ w2.frozen? ⟨g, 2, none⟩ = false ∧ g < w2.heap.size ∧ FullV w0 g h x y (k + 1) ⟨v.A1, v.n1, v.c1, v.A2, v.n2, v.c2, D, L, e⟩ (w2.setCell ⟨g, 2, none⟩ (.slice D L e)) := by
  obtain ⟨D, e, hv⟩ := hown2.valued
  obtain ⟨L, hL⟩ : ∃ L, L = (List.replicate k fp ++ [(⟨false, [5, 1]⟩ : Lt)]).length := ⟨_, rfl⟩
  rw [← hL] at hv
  subst hv
  have o : OwnL w2 h (.slice D L e) (List.replicate k fp ++ [fp]) := hown2.own (by rw [List.map_append]; exact hrw.chg hc2 (by decide))
  rw [rep_snoc] at o
  have hb2 := hc2.blk _ _ _ _ q.blk (by decide)
  have cs : Chg [26] g w2 (w2.setCell ⟨g, 2, none⟩ (.slice D L e)) := Chg.set hb2 (Nat.le_refl _) _
  have hgl := (Array.getElem?_eq_some_iff.1 hb2).1
  refine ⟨D, L, e, rfl, by rw [cell_of_row _ _ 2 _ _ _ hb2]; rfl, frozen_of_row _ _ _ _ _ hb2, hgl, heap_setCell_same _ _ 2 _ _ _ hb2, (q.a.below_lits hc2 q.lb).chg cs (by decide) (by decide), q.lb, (q.b.chg hc2 (by decide) (by decide)).chg cs (by decide) (by decide), o.chg cs (by decide) (by decide), (q.ch.trans ((hc2.lower q.gh).wide (by simp))).trans (cs.wide (by simp)), q.gh, ?_⟩
  have := cs.bel.size
  have := hc2.bel.size
  have := q.hs
  omega
theorem FullV.box (q : FullV w0 g h x y z v wr) (hx : x < 8) (hy : y < 6) (hz : z < 6) : CBox wr g v (fc x y z) := by
  have o : OwnC wr g v.val (fc x y z) := ⟨_, _, _, v.val_eq, q.a, q.b, q.d.lower q.gh⟩
  obtain ⟨u, e, hu⟩ := o.clAt (fc_fit hx hy hz)
  have e' : v = u := by
    rw [Cv.val_eq, Cv.val_eq] at e
    simp only [Value.agg.injEq, Array.mk.injEq, List.cons.injEq, Value.slice.injEq, and_true] at e
    cases v; cases u
    simp_all
  subst e'
  exact ⟨q.lt, q.c0, q.c1, q.c2, hu⟩
end
set_option maxHeartbeats 4000000 in
theorem clauseFull_walk (haw : AwakeC) (a b d : Int) (w : World) :
    Calls Try.prog 8 #[.int .i64 a, .int .i64 b, .int .i64 d] w fun e w' => e = .returned (.bool true) ∧ Below w.heap.size w w' := by
  have HAW := Lib.hid haw
  have HB0 := Lib.hid (Below.refl w.heap.size w)
  obtain ⟨x, hx, ex⟩ := u_mod8 a 8 (by omega)
  obtain ⟨y, hy, ey⟩ := u_mod8 b 6 (by omega)
  obtain ⟨z, hz, ez⟩ := u_mod8 d 6 (by omega)
  have ex' : (IntKind.u64.wrap a).tmod 8 = (x : Int) := ex
  have ey' : (IntKind.u64.wrap b).tmod 6 = (y : Int) := ey
  have ez' : (IntKind.u64.wrap d).tmod 6 = (z : Int) := ez
  clear haw ex ey ez
  go_enter Try.func8, Try.ntmps8
  go_wp2_with fail
  refine (HAW.out _).mono ?_
  rintro e w1 ⟨rfl, hb1⟩
  have HB1 := Lib.hid (HB0.out.trans (hb1.mono HB0.out.size))
  clear hb1
  have hz0 := ZBox.new w1
  have hbn := below_new w1 (.cells #[.slice none 0 0, .slice none 0 0, .slice none 0 0] 26)
  have HF0 : Hid (FullV w1 w1.heap.size (w1.alloc (.cells #[.slice none 0 0, .slice none 0 0, .slice none 0 0] 26)).heap.size 0 0 0 ⟨none, 0, 0, none, 0, 0, none, 0, 0⟩ (w1.alloc (.cells #[.slice none 0 0, .slice none 0 0, .slice none 0 0] 26))) := ⟨hz0.z, OwnL.nil_, fun b hb => (by cases hb), OwnT.nil_, OwnL.nil_, Chg.of_below hbn (Nat.le_refl _), by simp, Nat.le_refl _⟩
  have HEX := Lib.hid ex'
  have HEY := Lib.hid ey'
  have HEZ := Lib.hid ez'
  clear hz0 hbn
  go_wp2
  clear ex' ey' ez'
  obtain ⟨g, hg⟩ : ∃ g, g = w1.heap.size := ⟨_, rfl⟩
  rw [← hg] at HF0 ⊢
  have HG := Lib.hid hg
  clear hg
  obtain ⟨wz, hwz⟩ : ∃ wz, wz = w1.alloc (.cells #[.slice none 0 0, .slice none 0 0, .slice none 0 0] 26) := ⟨_, rfl⟩
  rw [← hwz] at HF0 ⊢
  clear hwz
  go_loopw [11] (fun i wr => ∃ k : Nat, i = .int .i64 k ∧ k ≤ x ∧ ∃ v : Cv, FullV w1 g wr.heap.size k 0 0 ⟨v.A1, v.n1, v.c1, none, 0, 0, none, 0, 0⟩ wr) (fun i _ => x - (intOf i).toNat)
  case atStart => exact ⟨0, rfl, by omega, ⟨⟨none, 0, 0, none, 0, 0, none, 0, 0⟩, HF0.out⟩⟩
  case round =>
    obtain ⟨k, rfl, hk, v, hF⟩ := hrel
    by_cases hlt : k < x
    · have hgl := hF.lt
      have hgh := hF.gh
      have hhs := hF.hs
      have hbn := below_new wr (.cells #[.int .i64 5, .int .i64 1] 3)
      have hF2 := hF.on hbn
      obtain ⟨vs, hv1, hv2⟩ := hF2.a.vals
      have p := hF2.c0
      have p0 := hF.c0
      have hsn : g ≤ (wr.alloc (.cells #[.int .i64 5, .int .i64 1] 3)).heap.size := by simp; omega
      have HRW := Lib.hid (hv2.snoc ((show OwnI (wr.alloc (.cells #[.int .i64 5, .int .i64 1] 3)) wr.heap.size (.slice (some ⟨wr.heap.size, 0, none⟩) 2 2) [5, 1] from OwnI.lit9 wr [5, 1] (by decide)).lower (show g ≤ wr.heap.size by omega)))
      have HOW := Lib.hid hv1
      have HF2 := Lib.hid hF2
      have hvl : (List.replicate k fp).length + 1 ≤ 4398046511104 := by simp; omega
      have hi0 : (k : Int) < (x : Int) := by omega
      clear hv1 hv2 hbn hF hF2 p
      go_wp2_with (at_builtin
                   refine app_litv (w := wr.alloc (.cells #[.int .i64 5, .int .i64 1] 3)) rfl (.tmp 37) (.tmp 40) rfl g (.slice v.A1 v.n1 v.c1) (List.replicate k fp) vs false [5, 1] (.slice (some ⟨wr.heap.size, 0, none⟩) 2 2) rfl HOW.out rfl rfl (by simp) hvl hsn ?_
                   intro v2 w2 hown2 hc2
                   obtain ⟨D, L9, e9, rfl, b0, b1, hgl2, q3⟩ := FullV.app1 (v := v) HF2.out hown2 hc2 HRW.out
                   have HQ := Lib.hid q3
                   clear q3 hown2 hc2)
      go_roundw
      case rel => exact ⟨k + 1, by go_num, by omega, ⟨D, L9, e9, none, 0, 0, none, 0, 0⟩, HQ.out⟩
      case measure => simp [intOf]; omega
    · obtain rfl : x = k := by omega
      obtain ⟨wz0, hwz⟩ : ∃ wz0, wz0 = wr := ⟨_, rfl⟩
      subst hwz
      obtain ⟨h, hh⟩ : ∃ h, h = wz0.heap.size := ⟨_, rfl⟩
      rw [← hh] at hF
      clear hh
      have HF1 := Lib.hid hF
      clear hF
      go_wp2
      go_loopw [12] (fun i wr => ∃ k : Nat, i = .int .i64 k ∧ k ≤ y ∧ ∃ v : Cv, FullV w1 g h x k 0 v wr) (fun i _ => y - (intOf i).toNat)
      case atStart => exact ⟨0, rfl, by omega, ⟨_, HF1.out⟩⟩
      case round =>
        obtain ⟨k, rfl, hk, v, hF⟩ := hrel
        by_cases hlt : k < y
        · have hgl := hF.lt
          have hgh := hF.gh
          have hhs := hF.hs
          have hbn := below_new wr (.cells #[.int .i64 1, .int .i64 2] 3)
          have hF2 := hF.on hbn
          obtain ⟨vs, hv1, hv2⟩ := hF2.b.vals
          have p := hF2.c1
          have p0 := hF.c1
          have hsn : g ≤ (wr.alloc (.cells #[.int .i64 1, .int .i64 2] 3)).heap.size := by simp; omega
          have HRW := Lib.hid (hv2.snoc ((show OwnI (wr.alloc (.cells #[.int .i64 1, .int .i64 2] 3)) wr.heap.size (.slice (some ⟨wr.heap.size, 0, none⟩) 2 2) [1, 2] from OwnI.lit9 wr [1, 2] (by decide)).lower (show g ≤ wr.heap.size by omega)))
          have HOW := Lib.hid hv1
          have HF2 := Lib.hid hF2
          have hvl : vs.length + 1 ≤ 5864062014634 := by have := hv2.1; simp at this; omega
          have hi0 : (k : Int) < (y : Int) := by omega
          clear hv1 hv2 hbn hF hF2 p
          go_wp2_with (at_builtin
                       refine app_rowv (w := wr.alloc (.cells #[.int .i64 1, .int .i64 2] 3)) rfl (.tmp 49) (.tmp 51) rfl g (.slice v.A2 v.n2 v.c2) vs (.slice (some ⟨wr.heap.size, 0, none⟩) 2 2) rfl HOW.out rfl rfl (by simp) hvl hsn ?_
                       intro v2 w2 hown2 hc2
                       obtain ⟨D, L9, e9, rfl, b0, b1, hgl2, q3⟩ := FullV.app2 HF2.out hown2 hc2 HRW.out
                       have HQ := Lib.hid q3
                       clear q3 hown2 hc2)
          go_roundw
          case rel => exact ⟨k + 1, by go_num, by omega, _, HQ.out⟩
          case measure => simp [intOf]; omega
        · obtain rfl : y = k := by omega
          obtain ⟨wz1, hwz⟩ : ∃ wz1, wz1 = wr := ⟨_, rfl⟩
          subst hwz
          have HF2 := Lib.hid hF
          clear hF
          go_wp2
          go_loopw [13] (fun i wr => ∃ k : Nat, i = .int .i64 k ∧ k ≤ z ∧ ∃ v : Cv, FullV w1 g h x y k v wr) (fun i _ => z - (intOf i).toNat)
          case atStart => exact ⟨0, rfl, by omega, ⟨_, HF2.out⟩⟩
          case round =>
            obtain ⟨k, rfl, hk, v, hF⟩ := hrel
            by_cases hlt : k < z
            · have hgl := hF.lt
              have hgh := hF.gh
              have hhs := hF.hs
              have hbn := below_new wr (.cells #[.int .i64 5, .int .i64 1] 3)
              have hF2 := hF.on hbn
              obtain ⟨vs, hv1, hv2⟩ := hF2.d.vals
              have p := hF2.c2
              have p0 := hF.c2
              have hsn : h ≤ (wr.alloc (.cells #[.int .i64 5, .int .i64 1] 3)).heap.size := by simp; omega
              have HRW := Lib.hid (hv2.snoc ((show OwnI (wr.alloc (.cells #[.int .i64 5, .int .i64 1] 3)) wr.heap.size (.slice (some ⟨wr.heap.size, 0, none⟩) 2 2) [5, 1] from OwnI.lit9 wr [5, 1] (by decide)).lower (show h ≤ wr.heap.size by omega)))
              have HOW := Lib.hid hv1
              have HF2 := Lib.hid hF2
              have hvl : (List.replicate k fp).length + 1 ≤ 4398046511104 := by simp; omega
              have hi0 : (k : Int) < (z : Int) := by omega
              clear hv1 hv2 hbn hF hF2 p
              go_wp2_with (at_builtin
                           refine app_litv (w := wr.alloc (.cells #[.int .i64 5, .int .i64 1] 3)) rfl (.tmp 60) (.tmp 63) rfl h (.slice v.A3 v.n3 v.c3) (List.replicate k fp) vs false [5, 1] (.slice (some ⟨wr.heap.size, 0, none⟩) 2 2) rfl HOW.out rfl rfl (by simp) hvl hsn ?_
                           intro v2 w2 hown2 hc2
                           obtain ⟨D, L9, e9, rfl, b0, b1, hgl2, q3⟩ := FullV.app3 HF2.out hown2 hc2 HRW.out
                           have HQ := Lib.hid q3
                           clear q3 hown2 hc2)
              go_roundw
              case rel => exact ⟨k + 1, by go_num, by omega, _, HQ.out⟩
              case measure => simp [intOf]; omega
            · obtain rfl : z = k := by omega
              obtain ⟨wz2, hwz⟩ : ∃ wz2, wz2 = wr := ⟨_, rfl⟩
              subst hwz
              have HF3 := Lib.hid hF
              clear hF
              have HC := Lib.hid (HF3.out.box hx hy hz)
              have hbz : Below w.heap.size w wz2 := HB1.out.trans (HF3.out.ch.bel.mono (by rw [HG.out]; exact HB1.out.size))
              have HBZ := Lib.hid hbz
              have HMAY := Lib.hid (fc_all x hx y hy z hz)
              have HNRM := Lib.hid (fc_norm x hx y hy z hz)
              obtain ⟨C, hC⟩ : ∃ C, C = fc x y z := ⟨_, rfl⟩
              rw [← hC] at HC HMAY HNRM
              have HVE := Lib.hid v.val_eq
              obtain ⟨w3, hw3⟩ : ∃ w3, w3 = wz2 := ⟨_, rfl⟩
              subst hw3
              clear hbz hC HF0 HF1 HF2 HF3 HB1 HB0
              go_upto_region 17 with (fail)
              go_cut [14, 15] (fun s14 s15 wx => ∃ (g2 : Nat) (x' : Cv), s14 = .pointer (some ⟨g2, 0, none⟩) ∧ s15 = .int .i64 (clE wordsL C) ∧ BoxV wx g2 x' ∧ x'.n1 = (normO wordsL C).lits.length ∧ x'.n2 = (normO wordsL C).tups.length ∧ x'.n3 = (normO wordsL C).conds.length ∧ CBox wx g v C ∧ Below w3.heap.size w3 wx)
              case first =>
                have HC1 := HC
                have p0 := HC.out.c0
                have p1 := HC.out.c1
                have p2 := HC.out.c2
                go_wp2_with fail
                refine wp_region_held_drew (S := (fun w' => w'.cell? ⟨g, 0, none⟩ = some (.slice v.A1 v.n1 v.c1) ∧ w'.cell? ⟨g, 1, none⟩ = some (.slice v.A2 v.n2 v.c2) ∧ w'.cell? ⟨g, 2, none⟩ = some (.slice v.A3 v.n3 v.c3))) (by kernel_rfl) ⟨p0, p1, p2⟩ (fun hHeld => ?_)
                have hd0 : Below w3.heap.size w3 w3.drew := (Below.refl w3.heap.size w3).drew
                refine takeH (i := 1) (v := ?_) rfl rfl (by kernel_rfl) (by kernel_rfl) (by kernel_rfl) (fun _ _ _ h => h) (by rfl) ?_ hHeld ?_
                rotate_left
                · (intro w hSw; (try dsimp only at hSw); first | (go_simp; done) | (go_simp; with_reducible rfl))
                simp only [Act.put, List.setIfInBounds_toArray, List.set_cons_zero, List.set_cons_succ]
                replace HC := Lib.hid (HC1.out.on hd0)
                have HB4 := Lib.hid hd0
                clear hd0
                obtain ⟨w4, hw4⟩ : ∃ w4, w4 = w3.drew := ⟨_, rfl⟩
                rw [← hw4] at HC HB4 ⊢
                clear hw4
                clear p0 p1 p2
                have p0 := HC.out.c0
                have p1 := HC.out.c1
                have p2 := HC.out.c2
                refine wpAnyH_ready (rs := [0, 6]) (by kernel_rfl) (by simp) ?_
                refine AllReadyH.cons rfl (fun K hK => ?_) (AllReadyH.cons rfl (fun K hK => ?_) AllReadyH.nil)
                · go_simp
                  refine (words_any _).mono ?_
                  rintro e w5 ⟨A5, rfl, hs5, hb5⟩
                  have HB5 := Lib.hid (HB4.out.trans (hb5.mono HB4.out.size))
                  have HS := Lib.hid hs5
                  replace HC := Lib.hid (HC.out.on hb5)
                  clear hb5 hs5
                  clear p0 p1 p2
                  have p0 := HC.out.c0
                  have p1 := HC.out.c1
                  have p2 := HC.out.c2
                  go_wp2_with fail
                  refine hK.out _ _ ?_ (fun hHeld => ?_)
                  · exact ⟨p0, p1, p2⟩
                  clear hK K
                  refine wpAnyH_ready (rs := [2, 6]) (by kernel_rfl) (by simp) ?_
                  refine AllReadyH.cons rfl (fun K hK => ?_) (AllReadyH.cons rfl (fun K hK => ?_) AllReadyH.nil)
                  · go_simp
                    rw [← HVE.out]
                    refine (normalC_any A5 7 7 wordsL v C _ HS.out len7 (Nat.le_refl _) HC.out.cl).mono ?_
                    rintro e w6 ⟨x0, rfl, hx, hb6⟩
                    have HB6 := Lib.hid (HB5.out.trans (hb6.mono HB5.out.size))
                    obtain ⟨D1, d1, D2, d2, D3, d3, rfl⟩ := hx.slices
                    obtain ⟨m1, hm1⟩ : ∃ m1, m1 = (normO wordsL C).lits.length := ⟨_, rfl⟩
                    obtain ⟨m2, hm2⟩ : ∃ m2, m2 = (normO wordsL C).tups.length := ⟨_, rfl⟩
                    obtain ⟨m3, hm3⟩ : ∃ m3, m3 = (normO wordsL C).conds.length := ⟨_, rfl⟩
                    rw [← hm1, ← hm2, ← hm3]
                    have HM1 := Lib.hid hm1
                    have HM2 := Lib.hid hm2
                    have HM3 := Lib.hid hm3
                    obtain ⟨E, hE⟩ : ∃ E, E = clE wordsL C := ⟨_, rfl⟩
                    rw [← hE]
                    have HEE := Lib.hid hE
                    clear hm1 hm2 hm3 hE
                    replace HC := Lib.hid (HC.out.on hb6)
                    clear hb6 hx HS
                    clear p0 p1 p2
                    have p0 := HC.out.c0
                    have p1 := HC.out.c1
                    have p2 := HC.out.c2
                    go_wp2_with fail
                    refine hK.out _ _ ?_ (fun hHeld => ?_)
                    · exact ⟨p0, p1, p2⟩
                    clear hK K
                    refine takeH (i := 3) (v := ?_) rfl rfl (by kernel_rfl) (by kernel_rfl) (by kernel_rfl) (fun _ _ _ h => h) (by rfl) ?_ hHeld ?_
                    rotate_left
                    · (intro w hSw; (try dsimp only at hSw); first | (go_simp; done) | (go_simp; with_reducible rfl))
                    simp only [Act.put, List.setIfInBounds_toArray, List.set_cons_zero, List.set_cons_succ]
                    refine takeH (i := 4) (v := ?_) rfl rfl (by kernel_rfl) (by kernel_rfl) (by kernel_rfl) (fun _ _ _ h => h) (by rfl) ?_ hHeld ?_
                    rotate_left
                    · (intro w hSw; (try dsimp only at hSw); first | (go_simp; done) | (go_simp; with_reducible rfl))
                    simp only [Act.put, List.setIfInBounds_toArray, List.set_cons_zero, List.set_cons_succ]
                    refine takeH (i := 5) (v := ?_) rfl rfl (by kernel_rfl) (by kernel_rfl) (by kernel_rfl) (fun _ _ _ h => h) (by rfl) ?_ hHeld ?_
                    rotate_left
                    · (intro w hSw; (try dsimp only at hSw); first | (go_simp; done) | (go_simp; with_reducible rfl))
                    simp only [Act.put, List.setIfInBounds_toArray, List.set_cons_zero, List.set_cons_succ]
                    refine wpAnyH_ready (rs := [6]) (by kernel_rfl) (by simp) ?_
                    refine AllReadyH.cons rfl (fun K hK => ?_) AllReadyH.nil
                    go_simp
                    have hb7 := below_new w6 (.cells #[.slice none 0 0, .slice none 0 0, .slice none 0 0] 26)
                    have HZ := Lib.hid (ZBox.new w6)
                    have HB7 := Lib.hid (HB6.out.trans (hb7.mono HB6.out.size))
                    replace HC := Lib.hid (HC.out.on hb7)
                    obtain ⟨w7, hw7⟩ : ∃ w7, w7 = w6.alloc (.cells #[.slice none 0 0, .slice none 0 0, .slice none 0 0] 26) := ⟨_, rfl⟩
                    obtain ⟨g2, hg⟩ : ∃ g2, g2 = w6.heap.size := ⟨_, rfl⟩
                    have hgw : w3.heap.size ≤ g2 := by rw [hg]; exact HB6.out.size
                    rw [← hw7] at HC HZ HB7  ⊢
                    rw [← hg] at HZ ⊢
                    clear hb7 hw7 hg
                    clear p0 p1 p2
                    have p0 := HC.out.c0
                    have p1 := HC.out.c1
                    have p2 := HC.out.c2
                    refine hK.out _ _ ?_ (fun hHeld => ?_)
                    · exact ⟨p0, p1, p2⟩
                    clear hK K
                    refine wpAnyH_ready (rs := [7]) (by kernel_rfl) (by simp) ?_
                    refine AllReadyH.cons rfl (fun K hK => ?_) AllReadyH.nil
                    refine store_box_step rfl 26 (.tmp 14) (.tmp 70) rfl rfl g2 _ _ rfl rfl HZ.out.z rfl (by kernel_rfl) three_one ?_
                    intro w9 hg9 hc9 hs9
                    have HBX : Hid (BoxV w9 g2 ⟨D1, m1, d1, D2, m2, d2, D3, m3, d3⟩) := ⟨(Array.getElem?_eq_some_iff.1 hg9).1, by rw [cell_of_row _ _ 0 _ _ _ hg9]; rfl, by rw [cell_of_row _ _ 1 _ _ _ hg9]; rfl, by rw [cell_of_row _ _ 2 _ _ _ hg9]; rfl⟩
                    have HB9 := Lib.hid (HB7.out.trans (hc9.bel.mono hgw))
                    have HC9 := Lib.hid (HC1.out.on HB9.out)
                    have p0' := HC9.out.c0
                    have p1' := HC9.out.c1
                    have p2' := HC9.out.c2
                    clear hg9 hc9 hs9 p0 p1 p2
                    refine hK.out _ _ ?_ (fun hHeld => ?_)
                    · exact ⟨p0', p1', p2'⟩
                    clear hK K
                    refine takeH (i := 8) (v := ?_) rfl rfl (by kernel_rfl) (by kernel_rfl) (by kernel_rfl) (fun _ _ _ h => h) (by rfl) ?_ hHeld ?_
                    rotate_left
                    · (intro w hSw; (try dsimp only at hSw); first | (go_simp; done) | (go_simp; with_reducible rfl))
                    simp only [Act.put, List.setIfInBounds_toArray, List.set_cons_zero, List.set_cons_succ]
                    refine wpAnyH_done (by kernel_rfl) ?_ _
                    go_wp2
                    go_meet
                    case rel => exact ⟨g2, _, rfl, by rw [HEE.out], HBX.out, HM1.out, HM2.out, HM3.out, HC9.out, HB9.out⟩
                  · go_simp
                    have hb6 := below_new w5 (.cells #[.slice none 0 0, .slice none 0 0, .slice none 0 0] 26)
                    have HZ := Lib.hid (ZBox.new w5)
                    have HB6 := Lib.hid (HB5.out.trans (hb6.mono HB5.out.size))
                    replace HC := Lib.hid (HC.out.on hb6)
                    replace HS := Lib.hid (HS.out.on hb6)
                    obtain ⟨w6, hw6⟩ : ∃ w6, w6 = w5.alloc (.cells #[.slice none 0 0, .slice none 0 0, .slice none 0 0] 26) := ⟨_, rfl⟩
                    obtain ⟨g2, hg⟩ : ∃ g2, g2 = w5.heap.size := ⟨_, rfl⟩
                    have hgw : w3.heap.size ≤ g2 := by rw [hg]; exact HB5.out.size
                    rw [← hw6] at HC HZ HB6 HS ⊢
                    rw [← hg] at HZ ⊢
                    clear hb6 hw6 hg
                    clear p0 p1 p2
                    have p0 := HC.out.c0
                    have p1 := HC.out.c1
                    have p2 := HC.out.c2
                    refine hK.out _ _ ?_ (fun hHeld => ?_)
                    · exact ⟨p0, p1, p2⟩
                    clear hK K
                    refine wpAnyH_ready (rs := [2]) (by kernel_rfl) (by simp) ?_
                    refine AllReadyH.cons rfl (fun K hK => ?_) AllReadyH.nil
                    go_simp
                    rw [← HVE.out]
                    refine (normalC_any A5 7 7 wordsL v C _ HS.out len7 (Nat.le_refl _) HC.out.cl).mono ?_
                    rintro e w7 ⟨x0, rfl, hx, hb7⟩
                    have HB7 := Lib.hid (HB6.out.trans (hb7.mono HB6.out.size))
                    obtain ⟨D1, d1, D2, d2, D3, d3, rfl⟩ := hx.slices
                    obtain ⟨m1, hm1⟩ : ∃ m1, m1 = (normO wordsL C).lits.length := ⟨_, rfl⟩
                    obtain ⟨m2, hm2⟩ : ∃ m2, m2 = (normO wordsL C).tups.length := ⟨_, rfl⟩
                    obtain ⟨m3, hm3⟩ : ∃ m3, m3 = (normO wordsL C).conds.length := ⟨_, rfl⟩
                    rw [← hm1, ← hm2, ← hm3]
                    have HM1 := Lib.hid hm1
                    have HM2 := Lib.hid hm2
                    have HM3 := Lib.hid hm3
                    obtain ⟨E, hE⟩ : ∃ E, E = clE wordsL C := ⟨_, rfl⟩
                    rw [← hE]
                    have HEE := Lib.hid hE
                    clear hm1 hm2 hm3 hE
                    replace HC := Lib.hid (HC.out.on hb7)
                    replace HZ := Lib.hid (HZ.out.on hb7)
                    clear hb7 hx HS
                    clear p0 p1 p2
                    have p0 := HC.out.c0
                    have p1 := HC.out.c1
                    have p2 := HC.out.c2
                    go_wp2_with fail
                    refine hK.out _ _ ?_ (fun hHeld => ?_)
                    · exact ⟨p0, p1, p2⟩
                    clear hK K
                    refine takeH (i := 3) (v := ?_) rfl rfl (by kernel_rfl) (by kernel_rfl) (by kernel_rfl) (fun _ _ _ h => h) (by rfl) ?_ hHeld ?_
                    rotate_left
                    · (intro w hSw; (try dsimp only at hSw); first | (go_simp; done) | (go_simp; with_reducible rfl))
                    simp only [Act.put, List.setIfInBounds_toArray, List.set_cons_zero, List.set_cons_succ]
                    refine takeH (i := 4) (v := ?_) rfl rfl (by kernel_rfl) (by kernel_rfl) (by kernel_rfl) (fun _ _ _ h => h) (by rfl) ?_ hHeld ?_
                    rotate_left
                    · (intro w hSw; (try dsimp only at hSw); first | (go_simp; done) | (go_simp; with_reducible rfl))
                    simp only [Act.put, List.setIfInBounds_toArray, List.set_cons_zero, List.set_cons_succ]
                    refine takeH (i := 5) (v := ?_) rfl rfl (by kernel_rfl) (by kernel_rfl) (by kernel_rfl) (fun _ _ _ h => h) (by rfl) ?_ hHeld ?_
                    rotate_left
                    · (intro w hSw; (try dsimp only at hSw); first | (go_simp; done) | (go_simp; with_reducible rfl))
                    simp only [Act.put, List.setIfInBounds_toArray, List.set_cons_zero, List.set_cons_succ]
                    refine wpAnyH_ready (rs := [7]) (by kernel_rfl) (by simp) ?_
                    refine AllReadyH.cons rfl (fun K hK => ?_) AllReadyH.nil
                    refine store_box_step rfl 26 (.tmp 14) (.tmp 70) rfl rfl g2 _ _ rfl rfl HZ.out.z rfl (by kernel_rfl) three_one ?_
                    intro w9 hg9 hc9 hs9
                    have HBX : Hid (BoxV w9 g2 ⟨D1, m1, d1, D2, m2, d2, D3, m3, d3⟩) := ⟨(Array.getElem?_eq_some_iff.1 hg9).1, by rw [cell_of_row _ _ 0 _ _ _ hg9]; rfl, by rw [cell_of_row _ _ 1 _ _ _ hg9]; rfl, by rw [cell_of_row _ _ 2 _ _ _ hg9]; rfl⟩
                    have HB9 := Lib.hid (HB7.out.trans (hc9.bel.mono hgw))
                    have HC9 := Lib.hid (HC1.out.on HB9.out)
                    have p0' := HC9.out.c0
                    have p1' := HC9.out.c1
                    have p2' := HC9.out.c2
                    clear hg9 hc9 hs9 p0 p1 p2
                    refine hK.out _ _ ?_ (fun hHeld => ?_)
                    · exact ⟨p0', p1', p2'⟩
                    clear hK K
                    refine takeH (i := 8) (v := ?_) rfl rfl (by kernel_rfl) (by kernel_rfl) (by kernel_rfl) (fun _ _ _ h => h) (by rfl) ?_ hHeld ?_
                    rotate_left
                    · (intro w hSw; (try dsimp only at hSw); first | (go_simp; done) | (go_simp; with_reducible rfl))
                    simp only [Act.put, List.setIfInBounds_toArray, List.set_cons_zero, List.set_cons_succ]
                    refine wpAnyH_done (by kernel_rfl) ?_ _
                    go_wp2
                    go_meet
                    case rel => exact ⟨g2, _, rfl, by rw [HEE.out], HBX.out, HM1.out, HM2.out, HM3.out, HC9.out, HB9.out⟩
                · go_simp
                  have hb5 := below_new w4 (.cells #[.slice none 0 0, .slice none 0 0, .slice none 0 0] 26)
                  have HZ := Lib.hid (ZBox.new w4)
                  have HB5 := Lib.hid (HB4.out.trans (hb5.mono HB4.out.size))
                  replace HC := Lib.hid (HC.out.on hb5)
                  obtain ⟨w5, hw5⟩ : ∃ w5, w5 = w4.alloc (.cells #[.slice none 0 0, .slice none 0 0, .slice none 0 0] 26) := ⟨_, rfl⟩
                  obtain ⟨g2, hg⟩ : ∃ g2, g2 = w4.heap.size := ⟨_, rfl⟩
                  have hgw : w3.heap.size ≤ g2 := by rw [hg]; exact HB4.out.size
                  rw [← hw5] at HC HZ HB5  ⊢
                  rw [← hg] at HZ ⊢
                  clear hb5 hw5 hg
                  clear p0 p1 p2
                  have p0 := HC.out.c0
                  have p1 := HC.out.c1
                  have p2 := HC.out.c2
                  refine hK.out _ _ ?_ (fun hHeld => ?_)
                  · exact ⟨p0, p1, p2⟩
                  clear hK K
                  refine wpAnyH_ready (rs := [0]) (by kernel_rfl) (by simp) ?_
                  refine AllReadyH.cons rfl (fun K hK => ?_) AllReadyH.nil
                  go_simp
                  refine (words_any _).mono ?_
                  rintro e w6 ⟨A6, rfl, hs6, hb6⟩
                  have HB6 := Lib.hid (HB5.out.trans (hb6.mono HB5.out.size))
                  have HS := Lib.hid hs6
                  replace HC := Lib.hid (HC.out.on hb6)
                  replace HZ := Lib.hid (HZ.out.on hb6)
                  clear hb6 hs6
                  clear p0 p1 p2
                  have p0 := HC.out.c0
                  have p1 := HC.out.c1
                  have p2 := HC.out.c2
                  go_wp2_with fail
                  refine hK.out _ _ ?_ (fun hHeld => ?_)
                  · exact ⟨p0, p1, p2⟩
                  clear hK K
                  refine wpAnyH_ready (rs := [2]) (by kernel_rfl) (by simp) ?_
                  refine AllReadyH.cons rfl (fun K hK => ?_) AllReadyH.nil
                  go_simp
                  rw [← HVE.out]
                  refine (normalC_any A6 7 7 wordsL v C _ HS.out len7 (Nat.le_refl _) HC.out.cl).mono ?_
                  rintro e w7 ⟨x0, rfl, hx, hb7⟩
                  have HB7 := Lib.hid (HB6.out.trans (hb7.mono HB6.out.size))
                  obtain ⟨D1, d1, D2, d2, D3, d3, rfl⟩ := hx.slices
                  obtain ⟨m1, hm1⟩ : ∃ m1, m1 = (normO wordsL C).lits.length := ⟨_, rfl⟩
                  obtain ⟨m2, hm2⟩ : ∃ m2, m2 = (normO wordsL C).tups.length := ⟨_, rfl⟩
                  obtain ⟨m3, hm3⟩ : ∃ m3, m3 = (normO wordsL C).conds.length := ⟨_, rfl⟩
                  rw [← hm1, ← hm2, ← hm3]
                  have HM1 := Lib.hid hm1
                  have HM2 := Lib.hid hm2
                  have HM3 := Lib.hid hm3
                  obtain ⟨E, hE⟩ : ∃ E, E = clE wordsL C := ⟨_, rfl⟩
                  rw [← hE]
                  have HEE := Lib.hid hE
                  clear hm1 hm2 hm3 hE
                  replace HC := Lib.hid (HC.out.on hb7)
                  replace HZ := Lib.hid (HZ.out.on hb7)
                  clear hb7 hx HS
                  clear p0 p1 p2
                  have p0 := HC.out.c0
                  have p1 := HC.out.c1
                  have p2 := HC.out.c2
                  go_wp2_with fail
                  refine hK.out _ _ ?_ (fun hHeld => ?_)
                  · exact ⟨p0, p1, p2⟩
                  clear hK K
                  refine takeH (i := 3) (v := ?_) rfl rfl (by kernel_rfl) (by kernel_rfl) (by kernel_rfl) (fun _ _ _ h => h) (by rfl) ?_ hHeld ?_
                  rotate_left
                  · (intro w hSw; (try dsimp only at hSw); first | (go_simp; done) | (go_simp; with_reducible rfl))
                  simp only [Act.put, List.setIfInBounds_toArray, List.set_cons_zero, List.set_cons_succ]
                  refine takeH (i := 4) (v := ?_) rfl rfl (by kernel_rfl) (by kernel_rfl) (by kernel_rfl) (fun _ _ _ h => h) (by rfl) ?_ hHeld ?_
                  rotate_left
                  · (intro w hSw; (try dsimp only at hSw); first | (go_simp; done) | (go_simp; with_reducible rfl))
                  simp only [Act.put, List.setIfInBounds_toArray, List.set_cons_zero, List.set_cons_succ]
                  refine takeH (i := 5) (v := ?_) rfl rfl (by kernel_rfl) (by kernel_rfl) (by kernel_rfl) (fun _ _ _ h => h) (by rfl) ?_ hHeld ?_
                  rotate_left
                  · (intro w hSw; (try dsimp only at hSw); first | (go_simp; done) | (go_simp; with_reducible rfl))
                  simp only [Act.put, List.setIfInBounds_toArray, List.set_cons_zero, List.set_cons_succ]
                  refine wpAnyH_ready (rs := [7]) (by kernel_rfl) (by simp) ?_
                  refine AllReadyH.cons rfl (fun K hK => ?_) AllReadyH.nil
                  refine store_box_step rfl 26 (.tmp 14) (.tmp 70) rfl rfl g2 _ _ rfl rfl HZ.out.z rfl (by kernel_rfl) three_one ?_
                  intro w9 hg9 hc9 hs9
                  have HBX : Hid (BoxV w9 g2 ⟨D1, m1, d1, D2, m2, d2, D3, m3, d3⟩) := ⟨(Array.getElem?_eq_some_iff.1 hg9).1, by rw [cell_of_row _ _ 0 _ _ _ hg9]; rfl, by rw [cell_of_row _ _ 1 _ _ _ hg9]; rfl, by rw [cell_of_row _ _ 2 _ _ _ hg9]; rfl⟩
                  have HB9 := Lib.hid (HB7.out.trans (hc9.bel.mono hgw))
                  have HC9 := Lib.hid (HC1.out.on HB9.out)
                  have p0' := HC9.out.c0
                  have p1' := HC9.out.c1
                  have p2' := HC9.out.c2
                  clear hg9 hc9 hs9 p0 p1 p2
                  refine hK.out _ _ ?_ (fun hHeld => ?_)
                  · exact ⟨p0', p1', p2'⟩
                  clear hK K
                  refine takeH (i := 8) (v := ?_) rfl rfl (by kernel_rfl) (by kernel_rfl) (by kernel_rfl) (fun _ _ _ h => h) (by rfl) ?_ hHeld ?_
                  rotate_left
                  · (intro w hSw; (try dsimp only at hSw); first | (go_simp; done) | (go_simp; with_reducible rfl))
                  simp only [Act.put, List.setIfInBounds_toArray, List.set_cons_zero, List.set_cons_succ]
                  refine wpAnyH_done (by kernel_rfl) ?_ _
                  go_wp2
                  go_meet
                  case rel => exact ⟨g2, _, rfl, by rw [HEE.out], HBX.out, HM1.out, HM2.out, HM3.out, HC9.out, HB9.out⟩
              case rest =>
                obtain ⟨g2, x', rfl, rfl, hbx, hn1, hn2, hn3, hcx, hbw⟩ := hcut
                replace HC := Lib.hid hcx
                have HD := Lib.hid hbx
                have HB4 := Lib.hid (HBZ.out.trans (hbw.mono HBZ.out.size))
                have HN1 := Lib.hid hn1
                have HN2 := Lib.hid hn2
                have HN3 := Lib.hid hn3
                obtain ⟨w4, hw4⟩ : ∃ w4, w4 = wc := ⟨_, rfl⟩
                subst hw4
                clear hbx hcx hbw hn1 hn2 hn3 HBZ
                go_upto_region 18 with (fail)
                go_cut [16] (fun s16 wx => s16 = .bool (fIs x y z) ∧ w4 = wx)
                case first =>
                  by_cases h1 : x ≤ 5
                  · have i1 : (x : Int) ≤ 5 := by omega
                    by_cases h2 : y ≤ 3
                    · have i2 : (y : Int) ≤ 3 := by omega
                      by_cases h3 : z ≤ 3
                      · have i3 : (z : Int) ≤ 3 := by omega
                        have HI : Hid (fIs x y z = true) := by show _ = _; unfold fIs; simp [h1, h2, h3]
                        clear h1 h2 h3
                        go_wp2
                        go_meet
                        case rel => exact ⟨by rw [HI.out], rfl⟩
                      · have i3 : ¬ (z : Int) ≤ 3 := by omega
                        have HI : Hid (fIs x y z = false) := by show _ = _; unfold fIs; simp [h1, h2, h3]
                        clear h1 h2 h3
                        go_wp2
                        go_meet
                        case rel => exact ⟨by rw [HI.out], rfl⟩
                    · have i2 : ¬ (y : Int) ≤ 3 := by omega
                      have HI : Hid (fIs x y z = false) := by show _ = _; unfold fIs; simp [h1, h2]
                      clear h1 h2
                      go_wp2
                      go_meet
                      case rel => exact ⟨by rw [HI.out], rfl⟩
                  · have i1 : ¬ (x : Int) ≤ 5 := by omega
                    have HI : Hid (fIs x y z = false) := by show _ = _; unfold fIs; simp [h1]
                    clear h1
                    go_wp2
                    go_meet
                    case rel => exact ⟨by rw [HI.out], rfl⟩
                case rest =>
                  obtain ⟨rfl, rfl⟩ := hcut
                  have HME : Hid (clE wordsL C = if fIs x y z then 0 else 800) := by show _ = _; unfold clE; rw [HMAY.out]
                  have HLE : Hid (fIs x y z = true → x'.n1 = min x 1 ∧ x'.n2 = min y 1 ∧ x'.n3 = min z 1) := by
                    intro q
                    have e : normO wordsL C = norm C := by unfold normO; rw [HMAY.out, q]; rfl
                    rw [HN1.out, HN2.out, HN3.out, e]
                    exact HNRM.out
                  obtain ⟨I, hI⟩ : ∃ I, I = fIs x y z := ⟨_, rfl⟩
                  rw [← hI] at HMAY HME HLE ⊢
                  obtain ⟨E, hE⟩ : ∃ E, E = clE wordsL C := ⟨_, rfl⟩
                  rw [← hE] at HME ⊢
                  clear hI hE HNRM HN1 HN2 HN3
                  have p0 := HC.out.c0
                  have p1 := HC.out.c1
                  have p2 := HC.out.c2
                  have q0 := HD.out.c0
                  have q1 := HD.out.c1
                  have q2 := HD.out.c2
                  go_wp2_with fail
                  refine wp_region_held_drew (S := (fun w' => w'.cell? ⟨g, 0, none⟩ = some (.slice v.A1 v.n1 v.c1) ∧ w'.cell? ⟨g, 1, none⟩ = some (.slice v.A2 v.n2 v.c2) ∧ w'.cell? ⟨g, 2, none⟩ = some (.slice v.A3 v.n3 v.c3))) (by kernel_rfl) ⟨p0, p1, p2⟩ (fun hHeld => ?_)
                  have hd0 : Below w4.heap.size w4 w4.drew := (Below.refl w4.heap.size w4).drew
                  refine takeH (i := 1) (v := ?_) rfl rfl (by kernel_rfl) (by kernel_rfl) (by kernel_rfl) (fun _ _ _ h => h) (by rfl) ?_ hHeld ?_
                  rotate_left
                  · (intro w hSw; (try dsimp only at hSw); first | (go_simp; done) | (go_simp; with_reducible rfl))
                  simp only [Act.put, List.setIfInBounds_toArray, List.set_cons_zero, List.set_cons_succ]
                  refine takeH (i := 3) (v := ?_) rfl rfl (by kernel_rfl) (by kernel_rfl) (by kernel_rfl) (fun _ _ _ h => h) (by rfl) ?_ hHeld ?_
                  rotate_left
                  · (intro w hSw; (try dsimp only at hSw); first | (go_simp; done) | (go_simp; with_reducible rfl))
                  simp only [Act.put, List.setIfInBounds_toArray, List.set_cons_zero, List.set_cons_succ]
                  replace HC := Lib.hid (HC.out.on hd0)
                  replace HD := Lib.hid (HD.out.on hd0)
                  have HB5 := Lib.hid (HB4.out.trans (hd0.mono HB4.out.size))
                  clear hd0
                  obtain ⟨w5, hw5⟩ : ∃ w5, w5 = w4.drew := ⟨_, rfl⟩
                  rw [← hw5] at HC HD HB5 ⊢
                  clear hw5
                  refine wpAnyH_ready (rs := [0]) (by kernel_rfl) (by simp) ?_
                  refine AllReadyH.cons rfl (fun K hK => ?_) AllReadyH.nil
                  go_simp
                  refine (words_any _).mono ?_
                  rintro e w6 ⟨A6, rfl, hs6, hb6⟩
                  have HB6 := Lib.hid (HB5.out.trans (hb6.mono HB5.out.size))
                  have HS := Lib.hid hs6
                  replace HC := Lib.hid (HC.out.on hb6)
                  replace HD := Lib.hid (HD.out.on hb6)
                  clear hb6 hs6
                  clear p0 p1 p2
                  have p0 := HC.out.c0
                  have p1 := HC.out.c1
                  have p2 := HC.out.c2
                  go_wp2_with fail
                  refine hK.out _ _ ?_ (fun hHeld => ?_)
                  · exact ⟨p0, p1, p2⟩
                  clear hK K
                  refine wpAnyH_ready (rs := [2]) (by kernel_rfl) (by simp) ?_
                  refine AllReadyH.cons rfl (fun K hK => ?_) AllReadyH.nil
                  go_simp
                  rw [← HVE.out]
                  refine (mayC_any A6 7 7 wordsL v C _ HS.out len7 (Nat.le_refl _) HC.out.cl).mono ?_
                  rintro e w7 ⟨rfl, hb7⟩
                  rw [HMAY.out]
                  have HB7 := Lib.hid (HB6.out.trans (hb7.mono HB6.out.size))
                  replace HC := Lib.hid (HC.out.on hb7)
                  replace HD := Lib.hid (HD.out.on hb7)
                  clear hb7 HS
                  clear p0 p1 p2
                  have p0 := HC.out.c0
                  have p1 := HC.out.c1
                  have p2 := HC.out.c2
                  cases I
                  case false =>
                    obtain rfl : E = 800 := HME.out
                    go_wp2_with fail
                    refine hK.out _ _ ?_ (fun hHeld => ?_)
                    · exact ⟨p0, p1, p2⟩
                    clear hK K
                    refine takeH (i := 4) (v := ?_) rfl rfl (by kernel_rfl) (by kernel_rfl) (by kernel_rfl) (fun _ _ _ h => h) (by rfl) ?_ hHeld ?_
                    rotate_left
                    · (intro w hSw; (try dsimp only at hSw); first | (go_simp; done) | (go_simp; with_reducible rfl))
                    simp only [Act.put, List.setIfInBounds_toArray, List.set_cons_zero, List.set_cons_succ]
                    refine takeH (i := 5) (v := ?_) rfl rfl (by kernel_rfl) (by kernel_rfl) (by kernel_rfl) (fun _ _ _ h => h) (by rfl) ?_ hHeld ?_
                    rotate_left
                    · (intro w hSw; (try dsimp only at hSw); first | (go_simp; done) | (go_simp; with_reducible rfl))
                    simp only [Act.put, List.setIfInBounds_toArray, List.set_cons_zero, List.set_cons_succ]
                    refine takeH (i := 6) (v := ?_) rfl rfl (by kernel_rfl) (by kernel_rfl) (by kernel_rfl) (fun _ _ _ h => h) (by rfl) ?_ hHeld ?_
                    rotate_left
                    · (intro w hSw; (try dsimp only at hSw); first | (go_simp; done) | (go_simp; with_reducible rfl))
                    simp only [Act.put, List.setIfInBounds_toArray, List.set_cons_zero, List.set_cons_succ]
                    refine takeH (i := 9) (v := ?_) rfl rfl (by kernel_rfl) (by kernel_rfl) (by kernel_rfl) (fun _ _ _ h => h) (by rfl) ?_ hHeld ?_
                    rotate_left
                    · (intro w hSw; (try dsimp only at hSw); first | (go_simp; done) | (go_simp; with_reducible rfl))
                    simp only [Act.put, List.setIfInBounds_toArray, List.set_cons_zero, List.set_cons_succ]
                    refine wpAnyH_ready (rs := [7]) (by kernel_rfl) (by simp) ?_
                    refine AllReadyH.cons rfl (fun K hK => ?_) AllReadyH.nil
                    go_simp
                    refine (num_any _ _).mono ?_
                    rintro e w' ⟨rfl, rfl⟩
                    go_wp2_with fail
                    refine hK.out _ _ ?_ (fun hHeld => ?_)
                    · exact ⟨p0, p1, p2⟩
                    clear hK K
                    refine takeH (i := 8) (v := ?_) rfl rfl (by kernel_rfl) (by kernel_rfl) (by kernel_rfl) (fun _ _ _ h => h) (by rfl) ?_ hHeld ?_
                    rotate_left
                    · (intro w hSw; (try dsimp only at hSw); first | (go_simp; done) | (go_simp; with_reducible rfl))
                    simp only [Act.put, List.setIfInBounds_toArray, List.set_cons_zero, List.set_cons_succ]
                    refine takeH (i := 10) (v := ?_) rfl rfl (by kernel_rfl) (by kernel_rfl) (by kernel_rfl) (fun _ _ _ h => h) (by rfl) ?_ hHeld ?_
                    rotate_left
                    · (intro w hSw; (try dsimp only at hSw); first | (go_simp; done) | (go_simp; with_reducible rfl))
                    simp only [Act.put, List.setIfInBounds_toArray, List.set_cons_zero, List.set_cons_succ]
                    refine takeH (i := 11) (v := ?_) rfl rfl (by kernel_rfl) (by kernel_rfl) (by kernel_rfl) (fun _ _ _ h => h) (by rfl) ?_ hHeld ?_
                    rotate_left
                    · (intro w hSw; (try dsimp only at hSw); first | (go_simp; done) | (go_simp; with_reducible rfl))
                    simp only [Act.put, List.setIfInBounds_toArray, List.set_cons_zero, List.set_cons_succ]
                    refine wpAnyH_done (by kernel_rfl) ?_ _
                    go_wp2
                    go_ret
                    exact ⟨rfl, HB7.out⟩
                  obtain rfl : E = 0 := HME.out
                  obtain ⟨l1, l2, l3⟩ := HLE.out rfl
                  have u0 := HD.out.c0
                  have u1 := HD.out.c1
                  have u2 := HD.out.c2
                  rw [l1] at u0
                  rw [l2] at u1
                  rw [l3] at u2
                  clear q0 q1 q2 l1 l2 l3 HLE HME
                  go_wp2_with fail
                  refine hK.out _ _ ?_ (fun hHeld => ?_)
                  · exact ⟨p0, p1, p2⟩
                  clear hK K
                  refine takeH (i := 4) (v := ?_) rfl rfl (by kernel_rfl) (by kernel_rfl) (by kernel_rfl) (fun _ _ _ h => h) (by rfl) ?_ hHeld ?_
                  rotate_left
                  · (intro w hSw; (try dsimp only at hSw); first | (go_simp; done) | (go_simp; with_reducible rfl))
                  simp only [Act.put, List.setIfInBounds_toArray, List.set_cons_zero, List.set_cons_succ]
                  refine takeH (i := 5) (v := ?_) rfl rfl (by kernel_rfl) (by kernel_rfl) (by kernel_rfl) (fun _ _ _ h => h) (by rfl) ?_ hHeld ?_
                  rotate_left
                  · (intro w hSw; (try dsimp only at hSw); first | (go_simp; done) | (go_simp; with_reducible rfl))
                  simp only [Act.put, List.setIfInBounds_toArray, List.set_cons_zero, List.set_cons_succ]
                  refine takeH (i := 6) (v := ?_) rfl rfl (by kernel_rfl) (by kernel_rfl) (by kernel_rfl) (fun _ _ _ h => h) (by rfl) ?_ hHeld ?_
                  rotate_left
                  · (intro w hSw; (try dsimp only at hSw); first | (go_simp; done) | (go_simp; with_reducible rfl))
                  simp only [Act.put, List.setIfInBounds_toArray, List.set_cons_zero, List.set_cons_succ]
                  refine takeH (i := 9) (v := ?_) rfl rfl (by kernel_rfl) (by kernel_rfl) (by kernel_rfl) (fun _ _ _ h => h) (by rfl) ?_ hHeld ?_
                  rotate_left
                  · (intro w hSw; (try dsimp only at hSw); first | (go_simp; done) | (go_simp; with_reducible rfl))
                  simp only [Act.put, List.setIfInBounds_toArray, List.set_cons_zero, List.set_cons_succ]
                  refine wpAnyH_ready (rs := [7]) (by kernel_rfl) (by simp) ?_
                  refine AllReadyH.cons rfl (fun K hK => ?_) AllReadyH.nil
                  go_simp
                  refine (num_any _ _).mono ?_
                  rintro e w' ⟨rfl, rfl⟩
                  go_wp2_with fail
                  refine hK.out _ _ ?_ (fun hHeld => ?_)
                  · exact ⟨p0, p1, p2⟩
                  clear hK K
                  refine takeH (i := 8) (v := ?_) rfl rfl (by kernel_rfl) (by kernel_rfl) (by kernel_rfl) (fun _ _ _ h => h) (by rfl) ?_ hHeld ?_
                  rotate_left
                  · (intro w hSw; (try dsimp only at hSw); first | (go_simp; done) | (go_simp; with_reducible rfl))
                  simp only [Act.put, List.setIfInBounds_toArray, List.set_cons_zero, List.set_cons_succ]
                  refine takeH (i := 10) (v := ?_) rfl rfl (by kernel_rfl) (by kernel_rfl) (by kernel_rfl) (fun _ _ _ h => h) (by rfl) ?_ hHeld ?_
                  rotate_left
                  · (intro w hSw; (try dsimp only at hSw); first | (go_simp; done) | (go_simp; with_reducible rfl))
                  simp only [Act.put, List.setIfInBounds_toArray, List.set_cons_zero, List.set_cons_succ]
                  refine takeH (i := 11) (v := ?_) rfl rfl (by kernel_rfl) (by kernel_rfl) (by kernel_rfl) (fun _ _ _ h => h) (by rfl) ?_ hHeld ?_
                  rotate_left
                  · (intro w hSw; (try dsimp only at hSw); first | (go_simp; done) | (go_simp; with_reducible rfl))
                  simp only [Act.put, List.setIfInBounds_toArray, List.set_cons_zero, List.set_cons_succ]
                  refine wpAnyH_done (by kernel_rfl) ?_ _
                  clear p0 p1 p2
                  rcases Nat.eq_zero_or_pos x with hx0 | hx0 <;> rcases Nat.eq_zero_or_pos y with hy0 | hy0 <;> rcases Nat.eq_zero_or_pos z with hz0 | hz0
                  all_goals
                    (try subst hx0)
                    (try subst hy0)
                    (try subst hz0)
                    (try rw [Nat.min_eq_right hx0] at u0)
                    (try rw [Nat.min_eq_right hy0] at u1)
                    (try rw [Nat.min_eq_right hz0] at u2)
                    (try simp only [Nat.zero_min] at u0 u1 u2)
                    have j0 : ¬ ((1 : Int) ≤ 0) := by omega
                    go_wp2
                    all_goals
                      go_ret
                      exact ⟨ret_b (by first | rfl | (simp; omega)), HB7.out⟩
end Go.Proofs.Ytpblpndlajoebaa
