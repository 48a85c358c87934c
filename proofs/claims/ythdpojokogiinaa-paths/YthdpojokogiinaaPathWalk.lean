/-
  Contract: path.walk (labelled steps, a stack of the program's own).
-/
import Derived.Test.YthdpojokogiinaaPathMem
namespace Go.Proofs.Ythdpojokogiinaa
open Go.RowKit
set_option linter.unusedSimpArgs false
set_option linter.unusedVariables false
set_option maxRecDepth 100000

def JC (A A' : Option Addr) (n c m c' : Nat) (ss : List Sym) (t : List Int) (w : World) (g : Nat) (a : Act) (wr : World) : Prop := ∃ (k : Nat) (st : List (Nat × Nat)) (L : List (List Int)) (vs : List Value) (vo vw vl : Value) (u : Nat → Value),
  a = ({ tmps := #[.slice A n c, .slice A' m c', u 2, u 3, u 4, vo, vw, vl, u 8, u 9, u 10, u 11, u 12, u 13, u 14, u 15, u 16, u 17, u 18, u 19, u 20, u 21, u 22, u 23, u 24, u 25, u 26, u 27, u 28, u 29, u 30, u 31, u 32, u 33, u 34, u 35, u 36, u 37, u 38, u 39, u 40, u 41, u 42, u 43, u 44, u 45, u 46, u 47, u 48, u 49, u 50, u 51, u 52, u 53, u 54, u 55, u 56, u 57, u 58, u 59, u 60, u 61, u 62, u 63, u 64, u 65, u 66, u 67, u 68, u 69, u 70, u 71, u 72, u 73, u 74, u 75], defers := [] } : Act) ∧ g = 3 * (m - k) + st.length ∧ NCp ss t k st L ∧ WlkM w wr vo vw vl vs L (wayL st) (lefL st)
def JA (A A' : Option Addr) (n c m c' : Nat) (ss : List Sym) (t : List Int) (w : World) (g : Nat) (a : Act) (wr : World) : Prop := ∃ (k : Nat) (st : List (Nat × Nat)) (L : List (List Int)) (vs : List Value) (vo vw vl : Value) (u : Nat → Value),
  a = ({ tmps := #[.slice A n c, .slice A' m c', u 2, u 3, u 4, vo, vw, vl, u 8, u 9, u 10, u 11, u 12, u 13, u 14, u 15, u 16, u 17, u 18, u 19, u 20, u 21, u 22, u 23, u 24, u 25, u 26, u 27, u 28, u 29, u 30, u 31, u 32, u 33, u 34, u 35, u 36, u 37, u 38, u 39, u 40, u 41, u 42, u 43, u 44, u 45, u 46, u 47, u 48, u 49, u 50, u 51, u 52, u 53, u 54, u 55, u 56, u 57, u 58, u 59, u 60, u 61, u 62, u 63, u 64, u 65, u 66, u 67, u 68, u 69, u 70, u 71, u 72, u 73, u 74, u 75], defers := [] } : Act) ∧ g = 3 * (m - k) + st.length + 1 ∧ NAp ss t k st L ∧ WlkM w wr vo vw vl vs L (wayL st) (lefL st)
section
variable {A A' : Option Addr} {n c m c' : Nat} {ss : List Sym} {t : List Int} {w wr : World} {g k : Nat} {a : Act} {st : List (Nat × Nat)} {L : List (List Int)} {vs : List Value} {vo vw vl : Value}
theorem JC.mk (ha : a = ({ tmps := #[.slice A n c, .slice A' m c', a.tmps.getD 2 undef, a.tmps.getD 3 undef, a.tmps.getD 4 undef, vo, vw, vl, a.tmps.getD 8 undef, a.tmps.getD 9 undef, a.tmps.getD 10 undef, a.tmps.getD 11 undef, a.tmps.getD 12 undef, a.tmps.getD 13 undef, a.tmps.getD 14 undef, a.tmps.getD 15 undef, a.tmps.getD 16 undef, a.tmps.getD 17 undef, a.tmps.getD 18 undef, a.tmps.getD 19 undef, a.tmps.getD 20 undef, a.tmps.getD 21 undef, a.tmps.getD 22 undef, a.tmps.getD 23 undef, a.tmps.getD 24 undef, a.tmps.getD 25 undef, a.tmps.getD 26 undef, a.tmps.getD 27 undef, a.tmps.getD 28 undef, a.tmps.getD 29 undef, a.tmps.getD 30 undef, a.tmps.getD 31 undef, a.tmps.getD 32 undef, a.tmps.getD 33 undef, a.tmps.getD 34 undef, a.tmps.getD 35 undef, a.tmps.getD 36 undef, a.tmps.getD 37 undef, a.tmps.getD 38 undef, a.tmps.getD 39 undef, a.tmps.getD 40 undef, a.tmps.getD 41 undef, a.tmps.getD 42 undef, a.tmps.getD 43 undef, a.tmps.getD 44 undef, a.tmps.getD 45 undef, a.tmps.getD 46 undef, a.tmps.getD 47 undef, a.tmps.getD 48 undef, a.tmps.getD 49 undef, a.tmps.getD 50 undef, a.tmps.getD 51 undef, a.tmps.getD 52 undef, a.tmps.getD 53 undef, a.tmps.getD 54 undef, a.tmps.getD 55 undef, a.tmps.getD 56 undef, a.tmps.getD 57 undef, a.tmps.getD 58 undef, a.tmps.getD 59 undef, a.tmps.getD 60 undef, a.tmps.getD 61 undef, a.tmps.getD 62 undef, a.tmps.getD 63 undef, a.tmps.getD 64 undef, a.tmps.getD 65 undef, a.tmps.getD 66 undef, a.tmps.getD 67 undef, a.tmps.getD 68 undef, a.tmps.getD 69 undef, a.tmps.getD 70 undef, a.tmps.getD 71 undef, a.tmps.getD 72 undef, a.tmps.getD 73 undef, a.tmps.getD 74 undef, a.tmps.getD 75 undef], defers := [] } : Act)) (hg : g = 3 * (m - k) + st.length) (h : NCp ss t k st L) (hw : WlkM w wr vo vw vl vs L (wayL st) (lefL st)) : JC A A' n c m c' ss t w g a wr :=
  ⟨k, st, L, vs, vo, vw, vl, fun i => a.tmps.getD i undef, ha, hg, h, hw⟩
theorem JA.mk (ha : a = ({ tmps := #[.slice A n c, .slice A' m c', a.tmps.getD 2 undef, a.tmps.getD 3 undef, a.tmps.getD 4 undef, vo, vw, vl, a.tmps.getD 8 undef, a.tmps.getD 9 undef, a.tmps.getD 10 undef, a.tmps.getD 11 undef, a.tmps.getD 12 undef, a.tmps.getD 13 undef, a.tmps.getD 14 undef, a.tmps.getD 15 undef, a.tmps.getD 16 undef, a.tmps.getD 17 undef, a.tmps.getD 18 undef, a.tmps.getD 19 undef, a.tmps.getD 20 undef, a.tmps.getD 21 undef, a.tmps.getD 22 undef, a.tmps.getD 23 undef, a.tmps.getD 24 undef, a.tmps.getD 25 undef, a.tmps.getD 26 undef, a.tmps.getD 27 undef, a.tmps.getD 28 undef, a.tmps.getD 29 undef, a.tmps.getD 30 undef, a.tmps.getD 31 undef, a.tmps.getD 32 undef, a.tmps.getD 33 undef, a.tmps.getD 34 undef, a.tmps.getD 35 undef, a.tmps.getD 36 undef, a.tmps.getD 37 undef, a.tmps.getD 38 undef, a.tmps.getD 39 undef, a.tmps.getD 40 undef, a.tmps.getD 41 undef, a.tmps.getD 42 undef, a.tmps.getD 43 undef, a.tmps.getD 44 undef, a.tmps.getD 45 undef, a.tmps.getD 46 undef, a.tmps.getD 47 undef, a.tmps.getD 48 undef, a.tmps.getD 49 undef, a.tmps.getD 50 undef, a.tmps.getD 51 undef, a.tmps.getD 52 undef, a.tmps.getD 53 undef, a.tmps.getD 54 undef, a.tmps.getD 55 undef, a.tmps.getD 56 undef, a.tmps.getD 57 undef, a.tmps.getD 58 undef, a.tmps.getD 59 undef, a.tmps.getD 60 undef, a.tmps.getD 61 undef, a.tmps.getD 62 undef, a.tmps.getD 63 undef, a.tmps.getD 64 undef, a.tmps.getD 65 undef, a.tmps.getD 66 undef, a.tmps.getD 67 undef, a.tmps.getD 68 undef, a.tmps.getD 69 undef, a.tmps.getD 70 undef, a.tmps.getD 71 undef, a.tmps.getD 72 undef, a.tmps.getD 73 undef, a.tmps.getD 74 undef, a.tmps.getD 75 undef], defers := [] } : Act)) (hg : g = 3 * (m - k) + st.length + 1) (h : NAp ss t k st L) (hw : WlkM w wr vo vw vl vs L (wayL st) (lefL st)) : JA A A' n c m c' ss t w g a wr :=
  ⟨k, st, L, vs, vo, vw, vl, fun i => a.tmps.getD i undef, ha, hg, h, hw⟩
theorem WlkM.vals (h : WlkM w wr vo vw vl vs L (wayL st) (lefL st)) : (∃ A c, vo = .slice A L.length c) ∧ (∃ A c, vw = .slice A st.length c ∧ st.length ≤ c ∧ (A = none → c = 0)) ∧ (∃ A c, vl = .slice A st.length c) := by
  refine ⟨?_, ?_, ?_⟩
  · rcases h.rows.shape with ⟨rfl, q⟩ | ⟨g, cap, rfl, _⟩
    · have : L = [] := by have := h.rws.1; rw [q] at this; exact List.length_eq_zero_iff.1 this.symm
      exact ⟨none, 0, by rw [this]; rfl⟩
    · exact ⟨_, _, by rw [h.rws.1]⟩
  · rcases h.way.shape with ⟨rfl, q⟩ | ⟨g, cap, rfl, _, _, q⟩
    · have := congrArg List.length q
      rw [wayL_length] at this
      exact ⟨none, 0, by rw [this]; rfl, by rw [this]; exact Nat.le_refl _, fun _ => rfl⟩
    · rw [wayL_length] at q ⊢
      exact ⟨_, _, rfl, q, fun e => by cases e⟩
  · rcases h.lef.shape with ⟨rfl, q⟩ | ⟨g, cap, rfl, _, _, q⟩
    · have := congrArg List.length q
      rw [lefL_length] at this
      exact ⟨none, 0, by rw [this]; rfl⟩
    · rw [lefL_length] at q ⊢
      exact ⟨_, _, rfl⟩
end

theorem wayL_at (j l : Nat) (s : List (Nat × Nat)) : (wayL ((j, l) :: s))[s.length]? = some (j : Int) := by
  rw [wayL_cons, List.getElem?_append_right (by rw [wayL_length]; exact Nat.le_refl _), wayL_length, Nat.sub_self]; rfl
theorem lefL_at (j l : Nat) (s : List (Nat × Nat)) : (lefL ((j, l) :: s))[s.length]? = some (l : Int) := by
  rw [lefL_cons, List.getElem?_append_right (by rw [lefL_length]; exact Nat.le_refl _), lefL_length, Nat.sub_self]; rfl
theorem wayL_take (j l : Nat) (s : List (Nat × Nat)) : (wayL ((j, l) :: s)).take s.length = wayL s := by
  rw [wayL_cons, List.take_append_of_le_length (by rw [wayL_length]; exact Nat.le_refl _), List.take_of_length_le (by rw [wayL_length]; exact Nat.le_refl _)]
theorem lefL_take (j l : Nat) (s : List (Nat × Nat)) : (lefL ((j, l) :: s)).take s.length = lefL s := by
  rw [lefL_cons, List.take_append_of_le_length (by rw [lefL_length]; exact Nat.le_refl _), List.take_of_length_le (by rw [lefL_length]; exact Nat.le_refl _)]
theorem wayL_set (j l j' l' : Nat) (s : List (Nat × Nat)) : (wayL ((j, l) :: s)).set s.length (j' : Int) = wayL ((j', l') :: s) := by
  rw [wayL_cons, wayL_cons, ← wayL_length (st := s), List.set_append_right _ _ (Nat.le_refl _), Nat.sub_self]; rfl
theorem lefL_set (j l j' l' : Nat) (s : List (Nat × Nat)) : (lefL ((j, l) :: s)).set s.length (l' : Int) = lefL ((j', l') :: s) := by
  rw [lefL_cons, lefL_cons, ← lefL_length (st := s), List.set_append_right _ _ (Nat.le_refl _), Nat.sub_self]; rfl

set_option maxHeartbeats 2000000 in
theorem walk_any (A A' : Option Addr) (n c m c' : Nat) (ss : List Sym) (t : List Int) (w : World) (h : SymsAt w w.heap.size A n ss) (hn : n ≤ maxLen) (hr : IntsAt w w.heap.size A' m t) (hx : exprB ss t = true) :
    Calls Try.prog 25 #[.slice A n c, .slice A' m c'] w (TupsRet (pths ss t []) w) := by
  have HS := Lib.hid h
  have HR := Lib.hid hr
  have HX := Lib.hid hx
  have HL := Lib.hid hr.len
  have hm49 : m ≤ 49 := by rw [← hr.len]; exact (expr_len hx).2
  clear h hr hx
  go_enter Try.func25, Try.ntmps25
  go_wp2
  refine wp_scope2 (X0 := ?X0) (X1 := ?X1) (JC A A' n c m c' ss t w) (JA A A' n c m c' ss t w) (3 * m + 1) ?h0 ?h1 ?_ ?_ ?_
  case h0 => exact rfl
  case h1 => exact rfl
  · rintro g a wr ⟨k, st, L, vs, vo, vw, vl, u, rfl, rfl, hc, hw⟩
    have HC := Lib.hid hc
    have HW := Lib.hid hw
    have hkm : k ≤ m := by rw [← HL.out]; exact hc.le
    match st, hc, hw, HC, HW with
    | [], hc, hw, HC, HW =>
      obtain ⟨⟨Ao, co, hvo⟩, ⟨Aw, cw, hvw, hcw, hnw⟩, ⟨Al, cl, hvl⟩⟩ := hw.vals
      have HE : Hid (L = pths ss t []) := hc.done
      clear hc hw hcw hnw
      subst hvo
      subst hvw
      subst hvl
      go_wp2
      go_ret
      exact ⟨_, rfl, HW.out.out.cast HE.out, HW.out.bel⟩
    | (j, l) :: s, hc, hw, HC, HW =>
      obtain ⟨⟨Ao, co, hvo⟩, _, _⟩ := hw.vals
      obtain ⟨g1, c1, hv1, hb1, hl1, hn1⟩ : ∃ g1 c1, vw = .slice (some ⟨g1, 0, none⟩) (s.length + 1) c1 ∧ w.heap.size ≤ g1 ∧ g1 < wr.heap.size ∧ s.length + 1 ≤ c1 := by
        rcases hw.way.shape with ⟨_, q⟩ | ⟨g, cap, h1, h2, h3, h4⟩
        · have := congrArg List.length q; rw [wayL_length] at this; simp at this
        · rw [wayL_length] at h1 h4; exact ⟨g, cap, h1, h2, h3, h4⟩
      obtain ⟨g2, c2, hv2, hb2, hl2, hn2⟩ : ∃ g2 c2, vl = .slice (some ⟨g2, 0, none⟩) (s.length + 1) c2 ∧ w.heap.size ≤ g2 ∧ g2 < wr.heap.size ∧ s.length + 1 ≤ c2 := by
        rcases hw.lef.shape with ⟨_, q⟩ | ⟨g, cap, h1, h2, h3, h4⟩
        · have := congrArg List.length q; rw [lefL_length] at this; simp at this
        · rw [lefL_length] at h1 h4; exact ⟨g, cap, h1, h2, h3, h4⟩
      subst hvo
      subst hv1
      subst hv2
      have hO1 := hw.way
      have hO2 := hw.lef
      unfold OwnI at hO1 hO2
      rw [wayL_length] at hO1
      rw [lefL_length] at hO2
      have q1 := own_get hO1 s.length (by simp)
      have q2 := own_get hO2 s.length (by simp)
      have e1 : (intCells (wayL ((j, l) :: s)))[s.length]? = some (.int .i64 (j : Int)) := by unfold intCells; rw [List.getElem?_map, wayL_at]; rfl
      have e2 : (intCells (lefL ((j, l) :: s)))[s.length]? = some (.int .i64 (l : Int)) := by unfold intCells; rw [List.getElem?_map, lefL_at]; rfl
      rw [e1] at q1
      rw [e2] at q2
      have f1 := hO1.frozenAt s.length
      have f2 := hO2.frozenAt s.length
      have hne : g1 ≠ g2 := fun e => hw.sep g1 rfl (by rw [e]; rfl)
      have hne' : g2 ≠ g1 := fun e => hne e.symm
      obtain ⟨p, hp⟩ : ∃ p, p = s.length := ⟨_, rfl⟩
      rw [← hp] at q1 q2 f1 f2 hn1 hn2 ⊢
      have HPS := Lib.hid hp
      have hkf := hc.few
      have hp0 : (0 : Int) ≤ (p : Int) := by omega
      have hp1 : (p : Int) < (p : Int) + 1 := by omega
      have hp2 : (p : Int) ≤ (p : Int) + 1 := by omega
      have hp3 : (p : Int) ≤ (c1 : Int) := by omega
      have hp4 : (p : Int) ≤ (c2 : Int) := by omega
      have hp5 : ((p + 1 : Nat) : Int) - 1 = (p : Int) := by omega
      have hp6 : p ≤ 100 := by simp at hkf; omega
      clear hc hw hO1 hO2 e1 e2 hkf hp
      cases l with
      | zero =>
        have HWC : Hid (WlkM w wr (.slice Ao L.length co) (.slice (some ⟨g1, 0, none⟩) p c1) (.slice (some ⟨g2, 0, none⟩) p c2) vs L (wayL s) (lefL s)) := by
          have := HW.out.cut (k := p) (by have := HPS.out; omega) (by have := HPS.out; omega)
          rw [HPS.out, wayL_take, lefL_take, ← HPS.out] at this
          exact this
        go_wp2_with fail
        go_quiet (fail)
        go_wp2
        go_step3
        exact ⟨3 * (m - k) + s.length + 1, by simp, JA.mk rfl rfl HC.out.pop (HWC.out.on (below_drewN _ _))⟩
      | succ l' =>
        have hl0 : (0 : Int) < ((l' + 1 : Nat) : Int) := by omega
        have HWS : Hid (WlkM w ((wr.setCell ⟨g1, p, none⟩ (.int .i64 ((j + 1 : Nat) : Int))).setCell ⟨g2, p, none⟩ (.int .i64 (l' : Int))) (.slice Ao L.length co) (.slice (some ⟨g1, 0, none⟩) (p + 1) c1) (.slice (some ⟨g2, 0, none⟩) (p + 1) c2) vs L (wayL ((j + 1, l') :: s)) (lefL ((j + 1, l') :: s))) := by
          have := (HW.out.setW (i := p) ((j + 1 : Nat) : Int)).setL (i := p) (l' : Int)
          rw [HPS.out, wayL_set j (l' + 1) (j + 1) l', lefL_set j (l' + 1) (j + 1) l', ← HPS.out] at this
          exact this
        have hsm := HC.out.small (j, l' + 1) (List.mem_cons_self ..)
        simp only at hsm
        have e1 : ((j + 1 : Nat) : Int) = (j : Int) + 1 := by omega
        have e2 : ((l' + 1 : Nat) : Int) - 1 = (l' : Int) := by omega
        rw [e1] at HWS
        clear e1
        go_wp2
        go_step3
        refine ⟨3 * (m - k) + (s.length + 1), by simp, JC.mk (st := (j + 1, l') :: s) (vs := vs) rfl (by simp) HC.out.next ?_⟩
        exact HWS.out
  · intro P1
    have HP := Lib.hid P1
    clear P1
    rintro g a wr ⟨k, st, L, vs, vo, vw, vl, u, rfl, rfl, hc, hw⟩
    have HC := Lib.hid hc
    have HW := Lib.hid hw
    obtain ⟨⟨Ao, co, hvo⟩, ⟨Aw, cw, hvw, hcw, hnw⟩, ⟨Al, cl, hvl⟩⟩ := hw.vals
    rw [hc.len] at hvo
    have hkm : k < m := by rw [← HL.out]; exact hc.lt
    obtain ⟨b, off, rfl, hb, hcl⟩ := (HR.out.below hw.bel).at_ (by omega)
    have hcx : wr.cell? ⟨b, off + k, none⟩ = some (.int .i64 (intAt t k)) := hcl k hkm
    have hk0 : (0 : Int) ≤ (k : Int) := by omega
    have hk1 : (k : Int) < (m : Int) := by omega
    have HF := Lib.hid hc.few
    have HCW := Lib.hid hcw
    have HNW := Lib.hid hnw
    obtain ⟨S, hS⟩ : ∃ S, S = st.length := ⟨_, rfl⟩
    rw [← hS] at hvw hvl HF HCW
    have HSS := Lib.hid hS
    obtain ⟨x, hxe⟩ : ∃ x, x = intAt t k := ⟨_, rfl⟩
    rw [← hxe] at hcx
    have HXE := Lib.hid hxe
    clear hc hw hcl hcw hnw hS hxe
    subst hvo
    subst hvw
    subst hvl
    have HTWA : ∀ y : Int, TupsAt ((wr.alloc (.cells #[.int .i64 y] 3)).alloc (.cells #[.slice Aw S cw, .slice (some ⟨wr.heap.size, 0, none⟩) 1 1] 23)) ((wr.alloc (.cells #[.int .i64 y] 3)).alloc (.cells #[.slice Aw S cw, .slice (some ⟨wr.heap.size, 0, none⟩) 1 1] 23)).heap.size (some ⟨wr.heap.size + 1, 0, none⟩) 2 [wayL st, [y]] := fun y =>
      two_rows HW.out.way (by rw [wayL_length, HSS.out]) HCW.out HNW.out (by have := HF.out; omega)
    have HVL : Hid (vs.length + 1 ≤ 5864062014634) := by show _ ≤ _; rw [HW.out.rws.1, HC.out.len]; omega
    by_cases hM : x < -1
    · have HTW := Lib.hid (HTWA (-1))
      have HFL : Hid ([wayL st, [-1]].flatten.length ≤ 1000) := by show _ ≤ 1000; simp [wayL_length]; have := HF.out; have := HSS.out; omega
      have HNA : Hid (NAp ss t (k + 1) st (L ++ [wayL st ++ [-1]])) := by
        have := HC.out.leaf (arc_neg (by rw [← HXE.out]; omega))
        have e : max (intAt t k) (-1) = -1 := by rw [← HXE.out]; omega
        rw [e] at this; exact this
      have g0 : decide (0 ≤ x) = false := by simp; omega
      have g1 : ¬ 0 ≤ x := by omega
      have g2 : x < 0 := by omega
      clear HTWA
      go_wp2_with fail
      refine (concat_any (some ⟨wr.heap.size + 1, 0, none⟩) 2 2 _ [wayL st, [(-1)]] _ HTW.out (Nat.le_refl _) (by omega) HFL.out).mono ?_
      rintro e w3 ⟨uv, rfl, huv, hb3⟩
      obtain ⟨Au, Lu, cu, rfl⟩ : ∃ Au Lu cu, uv = .slice Au Lu cu := by obtain ⟨A9, c9, q, _⟩ := huv.intsAt; exact ⟨_, _, _, q⟩
      have HB3 : Hid (Below wr.heap.size wr w3) := (below_alloc2 wr _ _).trans (hb3.mono (by simp; omega))
      have HU : Hid (OwnI w3 wr.heap.size (.slice Au Lu cu) (wayL st ++ [(-1)])) := (huv.lower (by simp; omega)).cast (by simp)
      have HW3 := Lib.hid (HW.out.on HB3.out)
      have hsz3 := HB3.out.size
      have hszw := HW.out.bel.size
      clear huv hb3
      go_wp2_with (at_builtin
                   refine app_rowc rfl (.tmp 15) (.tmp 22) rfl w.heap.size _ vs _ rfl HW3.out.rows rfl rfl HVL.out (by omega) ?_
                   intro vo2 w4 hrow4 hch4
                   have HW4 := Lib.hid (HW.out.snoc HB3.out HU.out hrow4 hch4)
                   clear hrow4 hch4
                   skip)
      go_step3
      rename_i hK
      exact hK _ _ (HP.out _ (3 * (m - (k + 1)) + st.length + 1) _ _ (by omega) (JA.mk rfl rfl HNA.out HW4.out))
    by_cases hM1 : x = -1
    · have HTW := Lib.hid (HTWA (-1))
      have HFL : Hid ([wayL st, [-1]].flatten.length ≤ 1000) := by show _ ≤ 1000; simp [wayL_length]; have := HF.out; have := HSS.out; omega
      have HNA : Hid (NAp ss t (k + 1) st (L ++ [wayL st ++ [-1]])) := by
        have := HC.out.leaf (arc_neg (by rw [← HXE.out]; omega))
        have e : max (intAt t k) (-1) = -1 := by rw [← HXE.out]; omega
        rw [e] at this; exact this
      rw [hM1] at hcx
      clear HTWA hM hM1 HXE
      go_wp2_with fail
      refine (concat_any (some ⟨wr.heap.size + 1, 0, none⟩) 2 2 _ [wayL st, [(-1)]] _ HTW.out (Nat.le_refl _) (by omega) HFL.out).mono ?_
      rintro e w3 ⟨uv, rfl, huv, hb3⟩
      obtain ⟨Au, Lu, cu, rfl⟩ : ∃ Au Lu cu, uv = .slice Au Lu cu := by obtain ⟨A9, c9, q, _⟩ := huv.intsAt; exact ⟨_, _, _, q⟩
      have HB3 : Hid (Below wr.heap.size wr w3) := (below_alloc2 wr _ _).trans (hb3.mono (by simp; omega))
      have HU : Hid (OwnI w3 wr.heap.size (.slice Au Lu cu) (wayL st ++ [(-1)])) := (huv.lower (by simp; omega)).cast (by simp)
      have HW3 := Lib.hid (HW.out.on HB3.out)
      have hsz3 := HB3.out.size
      have hszw := HW.out.bel.size
      clear huv hb3
      go_wp2_with (at_builtin
                   refine app_rowc rfl (.tmp 15) (.tmp 22) rfl w.heap.size _ vs _ rfl HW3.out.rows rfl rfl HVL.out (by omega) ?_
                   intro vo2 w4 hrow4 hch4
                   have HW4 := Lib.hid (HW.out.snoc HB3.out HU.out hrow4 hch4)
                   clear hrow4 hch4
                   skip)
      go_step3
      rename_i hK
      exact hK _ _ (HP.out _ (3 * (m - (k + 1)) + st.length + 1) _ _ (by omega) (JA.mk rfl rfl HNA.out HW4.out))
    obtain ⟨q, hq⟩ : ∃ q : Nat, x = (q : Int) := ⟨x.toNat, by omega⟩
    subst hq
    have hqn : q < n ∧ (symAt ss q).arity = (arc ss (q : Int) : Int) ∧ arc ss (q : Int) ≤ 3 := by
      rcases expr_code HX.out (i := k) (by rw [HL.out]; exact hkm) with h | h
      · rw [← HXE.out] at h; omega
      · rw [← HXE.out, Int.toNat_natCast, HS.out.len] at h; exact h
    obtain ⟨hqn, har, har3⟩ := hqn
    have HTW := Lib.hid (HTWA (q : Int))
    have HFL : Hid ([wayL st, [(q : Int)]].flatten.length ≤ 1000) := by show _ ≤ 1000; simp [wayL_length]; have := HF.out; have := HSS.out; omega
    have HMX : Hid (max (intAt t k) (-1) = (q : Int)) := by show _ = _; rw [← HXE.out]; omega
    obtain ⟨b2, off2, rfl, hbs, hcs⟩ := HS.out.at_ (by omega)
    obtain ⟨_, _, ck, _⟩ := hcs q hqn
    rw [har] at ck
    have CK := Lib.hid ck
    obtain ⟨ar, hare⟩ : ∃ ar, ar = arc ss (q : Int) := ⟨_, rfl⟩
    rw [← hare] at CK har3
    have HAR : Hid (arc ss (intAt t k) = ar) := by show _ = ar; rw [← HXE.out, hare]
    have y0 : (0 : Int) ≤ (q : Int) := by omega
    have y1 : (q : Int) < (n : Int) := by omega
    clear HTWA hM hM1 hcs ck har hare HXE
    by_cases ha0 : ar = 0
    · subst ha0
      have HNA : Hid (NAp ss t (k + 1) st (L ++ [wayL st ++ [(q : Int)]])) := by
        have := HC.out.leaf HAR.out
        rw [HMX.out] at this; exact this
      go_wp2_with fail
      refine (concat_any (some ⟨wr.heap.size + 1, 0, none⟩) 2 2 _ [wayL st, [(q : Int)]] _ HTW.out (Nat.le_refl _) (by omega) HFL.out).mono ?_
      rintro e w3 ⟨uv, rfl, huv, hb3⟩
      obtain ⟨Au, Lu, cu, rfl⟩ : ∃ Au Lu cu, uv = .slice Au Lu cu := by obtain ⟨A9, c9, q, _⟩ := huv.intsAt; exact ⟨_, _, _, q⟩
      have HB3 : Hid (Below wr.heap.size wr w3) := (below_alloc2 wr _ _).trans (hb3.mono (by simp; omega))
      have HU : Hid (OwnI w3 wr.heap.size (.slice Au Lu cu) (wayL st ++ [(q : Int)])) := (huv.lower (by simp; omega)).cast (by simp)
      have HW3 := Lib.hid (HW.out.on HB3.out)
      have hsz3 := HB3.out.size
      have hszw := HW.out.bel.size
      clear huv hb3
      go_wp2_with (at_builtin
                   refine app_rowc rfl (.tmp 15) (.tmp 22) rfl w.heap.size _ vs _ rfl HW3.out.rows rfl rfl HVL.out (by omega) ?_
                   intro vo2 w4 hrow4 hch4
                   have HW4 := Lib.hid (HW.out.snoc HB3.out HU.out hrow4 hch4)
                   clear hrow4 hch4
                   have ck4 := (HW4.out.bel.cell (p := ⟨b2, off2 + q * 4 + 2, none⟩) hbs).trans CK.out)
      go_step3
      rename_i hK
      exact hK _ _ (HP.out _ (3 * (m - (k + 1)) + st.length + 1) _ _ (by omega) (JA.mk rfl rfl HNA.out HW4.out))
    · have hap : (0 : Int) < (ar : Int) := by omega
      have HNC : Hid (NCp ss t (k + 1) ((0, ar - 1) :: st) (L ++ [wayL st ++ [(q : Int)]])) := by
        have := HC.out.push (by rw [HAR.out]; omega) (by rw [HAR.out]; exact har3)
        rw [HMX.out, HAR.out] at this; exact this
      go_wp2_with fail
      refine (concat_any (some ⟨wr.heap.size + 1, 0, none⟩) 2 2 _ [wayL st, [(q : Int)]] _ HTW.out (Nat.le_refl _) (by omega) HFL.out).mono ?_
      rintro e w3 ⟨uv, rfl, huv, hb3⟩
      obtain ⟨Au, Lu, cu, rfl⟩ : ∃ Au Lu cu, uv = .slice Au Lu cu := by obtain ⟨A9, c9, q, _⟩ := huv.intsAt; exact ⟨_, _, _, q⟩
      have HB3 : Hid (Below wr.heap.size wr w3) := (below_alloc2 wr _ _).trans (hb3.mono (by simp; omega))
      have HU : Hid (OwnI w3 wr.heap.size (.slice Au Lu cu) (wayL st ++ [(q : Int)])) := (huv.lower (by simp; omega)).cast (by simp)
      have HW3 := Lib.hid (HW.out.on HB3.out)
      have hsz3 := HB3.out.size
      have hszw := HW.out.bel.size
      clear huv hb3
      go_wp2_with (at_builtin
                   refine app_rowc rfl (.tmp 15) (.tmp 22) rfl w.heap.size _ vs _ rfl HW3.out.rows rfl rfl HVL.out (by omega) ?_
                   intro vo2 w4 hrow4 hch4
                   have HW4 := Lib.hid (HW.out.snoc HB3.out HU.out hrow4 hch4)
                   clear hrow4 hch4
                   have ck4 := (HW4.out.bel.cell (p := ⟨b2, off2 + q * 4 + 2, none⟩) hbs).trans CK.out)
      obtain ⟨wd, hwd⟩ : ∃ wd, wd = w4.drew := ⟨_, rfl⟩
      have HWD : Hid (WlkM w wd vo2 (.slice Aw S cw) (.slice Al S cl) (vs ++ [.slice Au Lu cu]) (L ++ [wayL st ++ [(q : Int)]]) (wayL st) (lefL st)) := by rw [hwd]; exact HW4.out.on (Below.refl _ _).drew
      have HSL : Hid ((wayL st).length + 1 ≤ 1000000 ∧ (lefL st).length + 1 ≤ 1000000) := by
        have := HF.out; have := HSS.out
        exact ⟨by rw [wayL_length]; omega, by rw [lefL_length]; omega⟩
      have HLF : Hid (lefL st ++ [(ar : Int) - 1] = lefL ((0, ar - 1) :: st)) := by
        show _ = lefL ((0, ar - 1) :: st)
        rw [lefL_cons]; congr 2; show (ar : Int) - 1 = ((ar - 1 : Nat) : Int); omega
      have HWF : Hid (wayL st ++ [0] = wayL ((0, ar - 1) :: st)) := by show _ = wayL ((0, ar - 1) :: st); rw [wayL_cons]; rfl
      have hszd := HWD.out.bel.size
      have HBS := Lib.hid hbs
      have har1 : (1 : Int) ≤ (ar : Int) := by omega
      refine wp_region_held_drew (S := (fun wx => wx.cell? ⟨b2, off2 + q * 4 + 2, none⟩ = some (.int .i64 (ar : Int)))) (by kernel_rfl) ck4 (fun hHeld => ?_)
      rw [← hwd] at hHeld ⊢
      clear hwd ck4 hbs hsz3 hszw
      refine takeH (i := 0) (v := ?_) rfl rfl (by kernel_rfl) (by kernel_rfl) (by kernel_rfl) (fun _ _ _ h => h) (by rfl) ?_ hHeld ?_
      rotate_left
      · (intro w hSw; (try dsimp only at hSw); first | (go_simp; done) | (go_simp; with_reducible rfl))
      simp only [Act.put, List.setIfInBounds_toArray, List.set_cons_zero, List.set_cons_succ]
      refine takeH (i := 3) (v := ?_) rfl rfl (by kernel_rfl) (by kernel_rfl) (by kernel_rfl) (fun _ _ _ h => h) (by rfl) ?_ hHeld ?_
      rotate_left
      · (intro w hSw; (try dsimp only at hSw); first | (go_simp; done) | (go_simp; with_reducible rfl))
      simp only [Act.put, List.setIfInBounds_toArray, List.set_cons_zero, List.set_cons_succ]
      refine takeH (i := 4) (v := ?_) rfl rfl (by kernel_rfl) (by kernel_rfl) (by kernel_rfl) (fun _ _ _ h => h) (by rfl) ?_ hHeld ?_
      rotate_left
      · (intro w hSw; (try dsimp only at hSw); first | (go_simp; done) | (go_simp; with_reducible rfl))
      simp only [Act.put, List.setIfInBounds_toArray, List.set_cons_zero, List.set_cons_succ]
      refine takeH (i := 5) (v := ?_) rfl rfl (by kernel_rfl) (by kernel_rfl) (by kernel_rfl) (fun _ _ _ h => h) (by rfl) ?_ hHeld ?_
      rotate_left
      · (intro w hSw; (try dsimp only at hSw); first | (go_simp; done) | (go_simp; with_reducible rfl))
      simp only [Act.put, List.setIfInBounds_toArray, List.set_cons_zero, List.set_cons_succ]
      refine takeH (i := 6) (v := ?_) rfl rfl (by kernel_rfl) (by kernel_rfl) (by kernel_rfl) (fun _ _ _ h => h) (by rfl) ?_ hHeld ?_
      rotate_left
      · (intro w hSw; (try dsimp only at hSw); first | (go_simp; done) | (go_simp; with_reducible rfl))
      simp only [Act.put, List.setIfInBounds_toArray, List.set_cons_zero, List.set_cons_succ]
      refine takeH (i := 7) (v := ?_) rfl rfl (by kernel_rfl) (by kernel_rfl) (by kernel_rfl) (fun _ _ _ h => h) (by rfl) ?_ hHeld ?_
      rotate_left
      · (intro w hSw; (try dsimp only at hSw); first | (go_simp; done) | (go_simp; with_reducible rfl))
      simp only [Act.put, List.setIfInBounds_toArray, List.set_cons_zero, List.set_cons_succ]
      refine takeH (i := 8) (v := ?_) rfl rfl (by kernel_rfl) (by kernel_rfl) (by kernel_rfl) (fun _ _ _ h => h) (by rfl) ?_ hHeld ?_
      rotate_left
      · (intro w hSw; (try dsimp only at hSw); first | (go_simp; done) | (go_simp; with_reducible rfl))
      simp only [Act.put, List.setIfInBounds_toArray, List.set_cons_zero, List.set_cons_succ]
      refine takeH (i := 9) (v := ?_) rfl rfl (by kernel_rfl) (by kernel_rfl) (by kernel_rfl) (fun _ _ _ h => h) (by rfl) ?_ hHeld ?_
      rotate_left
      · (intro w hSw; (try dsimp only at hSw); first | (go_simp; done) | (go_simp; with_reducible rfl))
      simp only [Act.put, List.setIfInBounds_toArray, List.set_cons_zero, List.set_cons_succ]
      have hwr : IntKind.i64.wrap ((ar : Int) - 1) = (ar : Int) - 1 := by rw [IntKind.wrap_i64]; omega
      rw [hwr]
      clear hwr
      refine wpAnyH_ready (rs := [1, 10]) (by kernel_rfl) (by simp) ?_
      refine AllReadyH.cons rfl (fun K hK => ?_) (AllReadyH.cons rfl (fun K hK => ?_) AllReadyH.nil)
      · go_simp
        have hb5 := below_new wd (.cells #[.int .i64 0] 3)
        have HW5 := Lib.hid (HWD.out.on hb5)
        have hc5 : (wd.alloc (.cells #[.int .i64 0] 3)).cell? ⟨wd.heap.size, 0, none⟩ = some (.int .i64 0) := by rw [cell_of_row _ _ 0 _ _ _ (heap_alloc_new _ _)]; rfl
        obtain ⟨w5, hw5⟩ : ∃ w5, w5 = wd.alloc (.cells #[.int .i64 0] 3) := ⟨_, rfl⟩
        have hsz5 : w5.heap.size = wd.heap.size + 1 := by rw [hw5]; simp
        rw [← hw5] at hb5 HW5 hc5 ⊢
        have HC5 := Lib.hid hc5
        have HSZ5 := Lib.hid hsz5
        clear hw5 hsz5
        refine hK.out _ _ ?_ (fun hHeld => ?_)
        · exact (HW5.out.bel.cell (p := ⟨b2, off2 + q * 4 + 2, none⟩) HBS.out).trans CK.out
        clear hK K
        refine wpAnyH_ready (rs := [2, 10]) (by kernel_rfl) (by simp) ?_
        refine AllReadyH.cons rfl (fun K hK => ?_) (AllReadyH.cons rfl (fun K hK => ?_) AllReadyH.nil)
        · rw [if_pos (by rfl)]
          refine app_intg_op (w := w5) (.tmp 34) (.tmp 35) rfl rfl w.heap.size _ (wayL st) 0 wd.heap.size rfl HW5.out.way rfl HC5.out HSL.out.1 (HW5.out.bel.size) ?_
          intro vw6 w6 hown6 hg6 hv6
          have HW6 := Lib.hid (HW5.out.growW hown6 hg6 hv6)
          clear hown6 hg6 hv6
          refine hK.out _ _ ?_ (fun hHeld => ?_)
          · exact (HW6.out.bel.cell (p := ⟨b2, off2 + q * 4 + 2, none⟩) HBS.out).trans CK.out
          clear hK K
          refine wpAnyH_ready (rs := [10]) (by kernel_rfl) (by simp) ?_
          refine AllReadyH.cons rfl (fun K hK => ?_) AllReadyH.nil
          go_simp
          have hb7 := below_new w6 (.cells #[.int .i64 ((ar : Int) - 1)] 3)
          have HW7 := Lib.hid (HW6.out.on hb7)
          have hc7 : (w6.alloc (.cells #[.int .i64 ((ar : Int) - 1)] 3)).cell? ⟨w6.heap.size, 0, none⟩ = some (.int .i64 ((ar : Int) - 1)) := by rw [cell_of_row _ _ 0 _ _ _ (heap_alloc_new _ _)]; rfl
          obtain ⟨w7, hw7⟩ : ∃ w7, w7 = w6.alloc (.cells #[.int .i64 ((ar : Int) - 1)] 3) := ⟨_, rfl⟩
          rw [← hw7] at hb7 HW7 hc7 ⊢
          have HC7 := Lib.hid hc7
          clear hw7
          refine hK.out _ _ ?_ (fun hHeld => ?_)
          · exact (HW7.out.bel.cell (p := ⟨b2, off2 + q * 4 + 2, none⟩) HBS.out).trans CK.out
          clear hK K
          refine wpAnyH_ready (rs := [11]) (by kernel_rfl) (by simp) ?_
          refine AllReadyH.cons rfl (fun K hK => ?_) AllReadyH.nil
          rw [if_pos (by rfl)]
          refine app_intg_op (w := w7) (.tmp 37) (.tmp 44) rfl rfl w.heap.size _ (lefL st) ((ar : Int) - 1) w6.heap.size rfl HW7.out.lef rfl HC7.out HSL.out.2 (HW7.out.bel.size) ?_
          intro vl8 w8 hown8 hg8 hv8
          have HW8 := Lib.hid (HW7.out.growL hown8 hg8 hv8)
          clear hown8 hg8 hv8
          rw [HLF.out, HWF.out] at HW8
          refine hK.out _ _ ?_ (fun hHeld => ?_)
          · exact (HW8.out.bel.cell (p := ⟨b2, off2 + q * 4 + 2, none⟩) HBS.out).trans CK.out
          clear hK K
          refine takeH (i := 12) (v := ?_) rfl rfl (by kernel_rfl) (by kernel_rfl) (by kernel_rfl) (fun _ _ _ h => h) (by rfl) ?_ hHeld ?_
          rotate_left
          · (intro w hSw; (try dsimp only at hSw); first | (go_simp; done) | (go_simp; with_reducible rfl))
          simp only [Act.put, List.setIfInBounds_toArray, List.set_cons_zero, List.set_cons_succ]
          refine takeH (i := 13) (v := ?_) rfl rfl (by kernel_rfl) (by kernel_rfl) (by kernel_rfl) (fun _ _ _ h => h) (by rfl) ?_ hHeld ?_
          rotate_left
          · (intro w hSw; (try dsimp only at hSw); first | (go_simp; done) | (go_simp; with_reducible rfl))
          simp only [Act.put, List.setIfInBounds_toArray, List.set_cons_zero, List.set_cons_succ]
          refine wpAnyH_done (by kernel_rfl) ?_ _
          go_wp2
          go_step3
          exact ⟨3 * (m - (k + 1)) + (st.length + 1), by omega, JC.mk rfl (by simp) HNC.out HW8.out⟩
        · go_simp
          have hb6 := below_new w5 (.cells #[.int .i64 ((ar : Int) - 1)] 3)
          have HW6 := Lib.hid (HW5.out.on hb6)
          have hc6 : (w5.alloc (.cells #[.int .i64 ((ar : Int) - 1)] 3)).cell? ⟨w5.heap.size, 0, none⟩ = some (.int .i64 ((ar : Int) - 1)) := by rw [cell_of_row _ _ 0 _ _ _ (heap_alloc_new _ _)]; rfl
          have hc6' := (hb6.cell (p := ⟨wd.heap.size, 0, none⟩) (by show wd.heap.size < _; have := HSZ5.out; omega)).trans HC5.out
          obtain ⟨w6, hw6⟩ : ∃ w6, w6 = w5.alloc (.cells #[.int .i64 ((ar : Int) - 1)] 3) := ⟨_, rfl⟩
          have hsz6 : w6.heap.size = w5.heap.size + 1 := by rw [hw6]; simp
          rw [← hw6] at hb6 HW6 hc6 hc6' ⊢
          have HC6 := Lib.hid hc6
          have HC6' := Lib.hid hc6'
          have HSZ6 := Lib.hid hsz6
          clear hw6 hsz6
          refine hK.out _ _ ?_ (fun hHeld => ?_)
          · exact (HW6.out.bel.cell (p := ⟨b2, off2 + q * 4 + 2, none⟩) HBS.out).trans CK.out
          clear hK K
          refine wpAnyH_ready (rs := [2]) (by kernel_rfl) (by simp) ?_
          refine AllReadyH.cons rfl (fun K hK => ?_) AllReadyH.nil
          rw [if_pos (by rfl)]
          refine app_intg_op (w := w6) (.tmp 34) (.tmp 35) rfl rfl w.heap.size _ (wayL st) 0 wd.heap.size rfl HW6.out.way rfl HC6'.out HSL.out.1 (HW6.out.bel.size) ?_
          intro vw7 w7 hown7 hg7 hv7
          have HW7 := Lib.hid (HW6.out.growW hown7 hg7 hv7)
          have HC7 : Hid (w7.cell? ⟨w5.heap.size, 0, none⟩ = some (.int .i64 ((ar : Int) - 1))) := by
            have e : w7.heap[w5.heap.size]? = (w6).heap[w5.heap.size]? := hg7.block _ (by have := HSZ5.out; have := HSZ6.out; omega) (fun q' => by have := (World.ownsRow.lt HWD.out.way _ q'.symm).2; have := HSZ5.out; omega)
            exact (World.cell?_of_block (a := ⟨w5.heap.size, 0, none⟩) e).trans HC6.out
          clear hown7 hg7 hv7
          refine hK.out _ _ ?_ (fun hHeld => ?_)
          · exact (HW7.out.bel.cell (p := ⟨b2, off2 + q * 4 + 2, none⟩) HBS.out).trans CK.out
          clear hK K
          refine wpAnyH_ready (rs := [11]) (by kernel_rfl) (by simp) ?_
          refine AllReadyH.cons rfl (fun K hK => ?_) AllReadyH.nil
          rw [if_pos (by rfl)]
          refine app_intg_op (w := w7) (.tmp 37) (.tmp 44) rfl rfl w.heap.size _ (lefL st) ((ar : Int) - 1) w5.heap.size rfl HW7.out.lef rfl HC7.out HSL.out.2 (HW7.out.bel.size) ?_
          intro vl8 w8 hown8 hg8 hv8
          have HW8 := Lib.hid (HW7.out.growL hown8 hg8 hv8)
          clear hown8 hg8 hv8
          rw [HLF.out, HWF.out] at HW8
          refine hK.out _ _ ?_ (fun hHeld => ?_)
          · exact (HW8.out.bel.cell (p := ⟨b2, off2 + q * 4 + 2, none⟩) HBS.out).trans CK.out
          clear hK K
          refine takeH (i := 12) (v := ?_) rfl rfl (by kernel_rfl) (by kernel_rfl) (by kernel_rfl) (fun _ _ _ h => h) (by rfl) ?_ hHeld ?_
          rotate_left
          · (intro w hSw; (try dsimp only at hSw); first | (go_simp; done) | (go_simp; with_reducible rfl))
          simp only [Act.put, List.setIfInBounds_toArray, List.set_cons_zero, List.set_cons_succ]
          refine takeH (i := 13) (v := ?_) rfl rfl (by kernel_rfl) (by kernel_rfl) (by kernel_rfl) (fun _ _ _ h => h) (by rfl) ?_ hHeld ?_
          rotate_left
          · (intro w hSw; (try dsimp only at hSw); first | (go_simp; done) | (go_simp; with_reducible rfl))
          simp only [Act.put, List.setIfInBounds_toArray, List.set_cons_zero, List.set_cons_succ]
          refine wpAnyH_done (by kernel_rfl) ?_ _
          go_wp2
          go_step3
          exact ⟨3 * (m - (k + 1)) + (st.length + 1), by omega, JC.mk rfl (by simp) HNC.out HW8.out⟩
      · go_simp
        have hb5 := below_new wd (.cells #[.int .i64 ((ar : Int) - 1)] 3)
        have HW5 := Lib.hid (HWD.out.on hb5)
        have hc5 : (wd.alloc (.cells #[.int .i64 ((ar : Int) - 1)] 3)).cell? ⟨wd.heap.size, 0, none⟩ = some (.int .i64 ((ar : Int) - 1)) := by rw [cell_of_row _ _ 0 _ _ _ (heap_alloc_new _ _)]; rfl
        obtain ⟨w5, hw5⟩ : ∃ w5, w5 = wd.alloc (.cells #[.int .i64 ((ar : Int) - 1)] 3) := ⟨_, rfl⟩
        have hsz5 : w5.heap.size = wd.heap.size + 1 := by rw [hw5]; simp
        rw [← hw5] at hb5 HW5 hc5 ⊢
        have HC5 := Lib.hid hc5
        have HSZ5 := Lib.hid hsz5
        clear hw5 hsz5
        refine hK.out _ _ ?_ (fun hHeld => ?_)
        · exact (HW5.out.bel.cell (p := ⟨b2, off2 + q * 4 + 2, none⟩) HBS.out).trans CK.out
        clear hK K
        refine wpAnyH_ready (rs := [1]) (by kernel_rfl) (by simp) ?_
        refine AllReadyH.cons rfl (fun K hK => ?_) AllReadyH.nil
        go_simp
        have hb6 := below_new w5 (.cells #[.int .i64 0] 3)
        have HW6 := Lib.hid (HW5.out.on hb6)
        have hc6 : (w5.alloc (.cells #[.int .i64 0] 3)).cell? ⟨w5.heap.size, 0, none⟩ = some (.int .i64 0) := by rw [cell_of_row _ _ 0 _ _ _ (heap_alloc_new _ _)]; rfl
        have hc6' := (hb6.cell (p := ⟨wd.heap.size, 0, none⟩) (by show wd.heap.size < _; have := HSZ5.out; omega)).trans HC5.out
        obtain ⟨w6, hw6⟩ : ∃ w6, w6 = w5.alloc (.cells #[.int .i64 0] 3) := ⟨_, rfl⟩
        have hsz6 : w6.heap.size = w5.heap.size + 1 := by rw [hw6]; simp
        rw [← hw6] at hb6 HW6 hc6 hc6' ⊢
        have HC6 := Lib.hid hc6
        have HC6' := Lib.hid hc6'
        have HSZ6 := Lib.hid hsz6
        clear hw6 hsz6
        refine hK.out _ _ ?_ (fun hHeld => ?_)
        · exact (HW6.out.bel.cell (p := ⟨b2, off2 + q * 4 + 2, none⟩) HBS.out).trans CK.out
        clear hK K
        refine wpAnyH_ready (rs := [2]) (by kernel_rfl) (by simp) ?_
        refine AllReadyH.cons rfl (fun K hK => ?_) AllReadyH.nil
        rw [if_pos (by rfl)]
        refine app_intg_op (w := w6) (.tmp 34) (.tmp 35) rfl rfl w.heap.size _ (wayL st) 0 w5.heap.size rfl HW6.out.way rfl HC6.out HSL.out.1 (HW6.out.bel.size) ?_
        intro vw7 w7 hown7 hg7 hv7
        have HW7 := Lib.hid (HW6.out.growW hown7 hg7 hv7)
        have HC7 : Hid (w7.cell? ⟨wd.heap.size, 0, none⟩ = some (.int .i64 ((ar : Int) - 1))) := by
          have e : w7.heap[wd.heap.size]? = (w6).heap[wd.heap.size]? := hg7.block _ (by have := HSZ5.out; have := HSZ6.out; omega) (fun q' => by have := (World.ownsRow.lt HWD.out.way _ q'.symm).2; have := HSZ5.out; omega)
          exact (World.cell?_of_block (a := ⟨wd.heap.size, 0, none⟩) e).trans HC6'.out
        clear hown7 hg7 hv7
        refine hK.out _ _ ?_ (fun hHeld => ?_)
        · exact (HW7.out.bel.cell (p := ⟨b2, off2 + q * 4 + 2, none⟩) HBS.out).trans CK.out
        clear hK K
        refine wpAnyH_ready (rs := [11]) (by kernel_rfl) (by simp) ?_
        refine AllReadyH.cons rfl (fun K hK => ?_) AllReadyH.nil
        rw [if_pos (by rfl)]
        refine app_intg_op (w := w7) (.tmp 37) (.tmp 44) rfl rfl w.heap.size _ (lefL st) ((ar : Int) - 1) wd.heap.size rfl HW7.out.lef rfl HC7.out HSL.out.2 (HW7.out.bel.size) ?_
        intro vl8 w8 hown8 hg8 hv8
        have HW8 := Lib.hid (HW7.out.growL hown8 hg8 hv8)
        clear hown8 hg8 hv8
        rw [HLF.out, HWF.out] at HW8
        refine hK.out _ _ ?_ (fun hHeld => ?_)
        · exact (HW8.out.bel.cell (p := ⟨b2, off2 + q * 4 + 2, none⟩) HBS.out).trans CK.out
        clear hK K
        refine takeH (i := 12) (v := ?_) rfl rfl (by kernel_rfl) (by kernel_rfl) (by kernel_rfl) (fun _ _ _ h => h) (by rfl) ?_ hHeld ?_
        rotate_left
        · (intro w hSw; (try dsimp only at hSw); first | (go_simp; done) | (go_simp; with_reducible rfl))
        simp only [Act.put, List.setIfInBounds_toArray, List.set_cons_zero, List.set_cons_succ]
        refine takeH (i := 13) (v := ?_) rfl rfl (by kernel_rfl) (by kernel_rfl) (by kernel_rfl) (fun _ _ _ h => h) (by rfl) ?_ hHeld ?_
        rotate_left
        · (intro w hSw; (try dsimp only at hSw); first | (go_simp; done) | (go_simp; with_reducible rfl))
        simp only [Act.put, List.setIfInBounds_toArray, List.set_cons_zero, List.set_cons_succ]
        refine wpAnyH_done (by kernel_rfl) ?_ _
        go_wp2
        go_step3
        exact ⟨3 * (m - (k + 1)) + (st.length + 1), by omega, JC.mk rfl (by simp) HNC.out HW8.out⟩
  · intro P0
    have HP := Lib.hid P0
    clear P0
    go_wp2_with fail
    go_step3
    rename_i hK
    exact hK _ _ (HP.out (3 * m) _ _ (by omega) (JC.mk (k := 0) (st := []) rfl (by simp) (NCp.start HX.out) WlkM.start))
end Go.Proofs.Ythdpojokogiinaa
