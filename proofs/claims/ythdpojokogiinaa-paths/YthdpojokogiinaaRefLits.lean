/-
  Contracts of the reference: Heavy of an expression, often, More, IsTerm, IsAtom, Which, Compare.
  Contracts of the reference: More, IsTerm, IsAtom, Which, Compare.
  Contracts of the reference: IsTerm, IsAtom, Which, Compare.
  Contracts of quaereref8: LitMay, LitWeight, which, LitCompare.
  Contracts of quaereref8: Top, Tops.
-/
import Derived.Test.YthdpojokogiinaaOrderAll2
import Derived.Test.YthdpojokogiinaaPartsR2
import Derived.Test.YthdpojokogiinaaLitAll
import Derived.Test.YthdpojokogiinaaPlainCl
namespace Go.Proofs.Ythdpojokogiinaa
open Go.RowKit
set_option linter.unusedSimpArgs false
set_option linter.unusedVariables false
set_option maxRecDepth 100000

end Go.Proofs.Ythdpojokogiinaa

namespace Go.Proofs.Ythdpojokogiinaa
open Go.RowKit
set_option linter.unusedSimpArgs false
set_option linter.unusedVariables false
set_option maxRecDepth 100000

/-- The first parts that are unlike, of two rows of parts. -/
theorem parts_mor {ss : List Sym} {c : Int} {L M : List (List Int)} {j : Nat} (hj : j < L.length) (hl : L.length = M.length) (tL : ∀ x ∈ L, trm 24 ss x 1) (tM : ∀ x ∈ M, trm 24 ss x 1) (hs : ∀ i, i < j → rowOf L i = rowOf M i) (hne : rowOf L j ≠ rowOf M j)
    (ho : Often (c :: L.flatten) (c :: M.flatten)) (hw : wtSum ss (c :: L.flatten) = wtSum ss (c :: M.flatten)) : morB ss (c :: L.flatten) (c :: M.flatten) = morB ss (rowOf L j) (rowOf M j) := by
  have e1 := rowOf_drop hj
  have e2 := rowOf_drop (L := M) (i := j) (by omega)
  have key : ∀ i, i ≤ j → (L.take i).flatten = (M.take i).flatten := by
    intro i
    induction i with
    | zero => intro _; rfl
    | succ i ih =>
      intro hi
      rw [rowOf_take (by omega), rowOf_take (by omega), ih (by omega), hs i (by omega)]
  have hp : trm 24 ss (L.take j).flatten (L.take j).length := trm_flatten fun x hx => tL x (List.mem_of_mem_take hx)
  rw [e1, e2, ← key j (Nat.le_refl _)] at ho hw ⊢
  exact mor_args ho hw hp (tL _ (rowOf_mem hj)) (tM _ (rowOf_mem (by omega))) hne
theorem parts_some {L M : List (List Int)} (hl : L.length = M.length) (hne : L.flatten ≠ M.flatten) (h : ∀ i, i < L.length → rowOf L i = rowOf M i) : False := by
  apply hne
  have : L = M := by
    apply List.ext_getElem? 
    intro i
    by_cases hi : i < L.length
    · rw [rowOf_get hi, rowOf_get (by omega), h i hi]
    · rw [List.getElem?_eq_none (by omega), List.getElem?_eq_none (by omega)]
  rw [this]

end Go.Proofs.Ythdpojokogiinaa

namespace Go.Proofs.Ythdpojokogiinaa
open Go.RowKit
set_option linter.unusedSimpArgs false
set_option linter.unusedVariables false
set_option maxRecDepth 100000

set_option maxHeartbeats 1000000 in
theorem refIsTerm_any (A A' : Option Addr) (n c m c' B B' : Nat) (ss : List Sym) (r : List Int) (w : World) (h : SymsAt w B A n ss) (hn : n ≤ maxLen) (hr : IntsAt w B' A' m r) (hm : m ≤ maxLen) (hmay : mayB ss = true) :
    Calls Try.prog 43 #[.slice A n c, .slice A' m c'] w fun e w' => e = .returned (.bool (oneB ss r)) ∧ w = w' := by
  have H := Lib.hid (termsK_one (t := r) hmay)
  obtain ⟨K, hK⟩ : ∃ K, K = termsK ss r := ⟨_, rfl⟩
  rw [← hK] at H
  go_enter Try.func43, Try.ntmps43
  go_wp2_with fail
  refine (refTerms_any A A' n c m c' B B' ss r w h hn hr hm hmay).mono ?_
  rintro e w1 ⟨rfl, rfl⟩
  rw [← hK]
  clear hK
  go_wp2
  go_ret
  exact ⟨ret_b (by rw [H.out]; rfl), rfl⟩

theorem termsK_eq {ss : List Sym} {r : List Int} (hm : mayB ss = true) {ar : Int} (har : 0 ≤ ar) : (termsK ss r == ar) = (rowB ss r && decide (((tlD ss r).length : Int) = ar)) := by
  unfold termsK rowB
  rw [hm, Bool.true_and]
  cases h : (decide (r.length ≤ 48) && rowP ss r)
  · simp; omega
  · rw [if_pos rfl, Bool.true_and]; rfl
set_option maxHeartbeats 2000000 in
theorem refIsAtom_any (A A' : Option Addr) (n c m c' : Nat) (ss : List Sym) (r : List Int) (w : World) (h : SymsAt w w.heap.size A n ss) (hn : n ≤ maxLen) (hr : IntsAt w w.heap.size A' m r) (hm : m ≤ maxLen) (hmc : m ≤ c') (hmay : mayB ss = true) :
    Calls Try.prog 44 #[.slice A n c, .slice A' m c'] w fun e w' => e = .returned (.bool (atomB ss r)) ∧ Below w.heap.size w w' := by
  have hm0 := hm
  have hn0 := hn
  unfold maxLen at hm hn
  cases r with
  | nil =>
    have hl := hr.len
    obtain rfl : m = 0 := by rw [← hl]; rfl
    go_enter Try.func44, Try.ntmps44
    go_wp2_with fail
    go_quiet (fail)
    go_wp2
    go_ret
    exact ⟨rfl, below_drewN _ _⟩
  | cons x r =>
    have hl := hr.len
    have hml : m = r.length + 1 := by rw [← hl]; rfl
    obtain ⟨b, off, rfl, hb, hc⟩ := hr.at_ (by omega)
    have hcx : w.cell? ⟨b, off, none⟩ = some (.int .i64 x) := by have := hc 0 (by omega); rw [Nat.add_zero] at this; exact this
    have HR := Lib.hid hr
    have HS := Lib.hid h
    have HL := Lib.hid h.len
    have HM := Lib.hid hmay
    have HMC := Lib.hid hmc
    have z1 : 1 ≤ m := by omega
    have z2 : 1 ≤ c' := by omega
    have z3 : decide ((0 : Int) < (m : Int)) = true := by simp; omega
    have z4 : (0 : Int) < (m : Int) := by omega
    have z7 : decide (0 < m) = true := by simp; omega
    have z5 : (1 : Int) ≤ (m : Int) := by omega
    have z6 : (m : Int) ≤ (c' : Int) := by omega
    clear hc hr hl hml hmay
    by_cases hx : x < 0
    · have H : Hid (atomB ss (x :: r) = false) := by show atomB ss (x :: r) = false; rw [atomB_cons, decide_eq_false (by omega)]; simp
      have g : decide (0 ≤ x) = false := by simp; omega
      go_enter Try.func44, Try.ntmps44
      go_wp2_with fail
      go_quiet (fail)
      go_wp2
      go_ret
      exact ⟨ret_b H.out.symm, below_drewN _ _⟩
    · obtain ⟨q, hq⟩ : ∃ q : Nat, x = (q : Int) := ⟨x.toNat, by omega⟩
      subst hq
      have g : decide ((0 : Int) ≤ (q : Int)) = true := by simp
      by_cases hqn : n ≤ q
      · have H : Hid (atomB ss ((q : Int) :: r) = false) := by
          show atomB ss ((q : Int) :: r) = false
          have : decide ((q : Int).toNat < ss.length) = false := decide_eq_false (by rw [HL.out, Int.toNat_natCast]; omega)
          rw [atomB_cons, this]; simp
        have y1 : decide ((q : Int) < (n : Int)) = false := by simp; omega
        have y1' : decide (q < n) = false := by simp; omega
        clear hx
        go_enter Try.func44, Try.ntmps44
        go_wp2_with fail
        go_quiet (fail)
        go_wp2
        go_ret
        exact ⟨ret_b H.out.symm, below_drewN _ _⟩
      · obtain ⟨b2, off2, rfl, hb2, hc2⟩ := h.at_ (by omega)
        obtain ⟨_, k1, k2, _⟩ := hc2 q (by omega)
        have y1 : decide ((q : Int) < (n : Int)) = true := by simp; omega
        have y1' : decide (q < n) = true := by simp; omega
        have y2 : q < n := by omega
        have y3 : (q : Int) < (n : Int) := by omega
        have y4 : (0 : Int) ≤ (q : Int) := by omega
        clear hc2 hqn hx h
        by_cases hk : (symAt ss q).kind = 0
        · have HKD := Lib.hid hk
          rw [hk] at k1
          clear hk
          have HT := Lib.hid (HR.out.tail1 HMC.out)
          obtain ⟨At, hAt⟩ : ∃ At, (if c' = 1 then some ⟨b, off, none⟩ else some ⟨b, off + 1, none⟩ : Option Addr) = At := ⟨_, rfl⟩
          rw [hAt] at HT
          obtain ⟨R, hR⟩ : ∃ R : Int, R = (symAt ss q).arity := ⟨_, rfl⟩
          obtain ⟨K, hK⟩ : ∃ K : Int, K = termsK ss r := ⟨_, rfl⟩
          have HK := Lib.hid hK.symm
          have H : Hid (atomB ss ((q : Int) :: r) = (K == R)) := by
            show atomB ss ((q : Int) :: r) = _
            rw [hK, hR, termsK_eq HM.out (may_bd HM.out (by rw [HL.out]; exact y2)).2.2.1, atomB_cons, Int.toNat_natCast, decide_eq_true HKD.out, decide_eq_true (by omega : (0 : Int) ≤ (q : Int)), decide_eq_true (by rw [HL.out]; exact y2)]
            simp
          rw [← hR] at k2
          clear hR hK
          go_enter Try.func44, Try.ntmps44
          go_wp2_with fail
          go_quiet ((go_at_call 56; exact Calls.quiet_of_same (refTerms_quiet _ At n c (m - 1) (c' - 1) _ _ ss r _ (HS.out.drewN _) hn0 (HT.out.drewN _) (by unfold maxLen; omega) HM.out HK.out)))
          go_wp2
          go_ret
          exact ⟨ret_b (by rw [H.out]), below_drewN _ _⟩
        · have H : Hid (atomB ss ((q : Int) :: r) = false) := by
            show atomB ss ((q : Int) :: r) = false
            have : decide ((symAt ss (q : Int).toNat).kind = 0) = false := decide_eq_false (by rw [Int.toNat_natCast]; exact hk)
            rw [atomB_cons, this]; simp
          have hk' : ((symAt ss q).kind == 0) = false := by simpa using hk
          go_enter Try.func44, Try.ntmps44
          go_wp2_with fail
          go_quiet (fail)
          go_wp2
          go_ret
          exact ⟨ret_b H.out.symm, below_drewN _ _⟩
/-- What Which answers, of two terms or two atoms. -/
def WhichPost (ss : List Sym) (a b : List Int) (w : World) (e : Ending) (w' : World) : Prop := ∃ k : Int, e = .returned (.int .i64 k) ∧ CmpR ss a b 0 k ∧ Below w.heap.size w w'
end Go.Proofs.Ythdpojokogiinaa

namespace Go.Proofs.Ythdpojokogiinaa
open Go.RowKit
set_option linter.unusedSimpArgs false
set_option linter.unusedVariables false
set_option maxRecDepth 100000

end Go.Proofs.Ythdpojokogiinaa

namespace Go.Proofs.Ythdpojokogiinaa
open Go.RowKit Go.Deep
set_option linter.unusedSimpArgs false
set_option linter.unusedVariables false
set_option maxRecDepth 100000

/-- The literal number i of a slice of literals, as a value. -/
theorem LitsAt.one {w : World} {B n i : Nat} {A : Option Addr} {ls : List Lt} (h : LitsAt w B A n ls) (hi : i < n) :
    ∃ b off A' c, A = some ⟨b, off, none⟩ ∧ b < B ∧ w.cell? ⟨b, off + i * 2, none⟩ = some (.bool (ltAt ls i).neg) ∧ w.cell? ⟨b, off + i * 2 + 1, none⟩ = some (.slice A' (ltAt ls i).atom.length c) ∧ LitAt w B A' (ltAt ls i).atom.length c (ltAt ls i) := by
  obtain ⟨b, off, e, hb, hc⟩ := h.at_ (by omega)
  obtain ⟨h1, A', c, h2, h3, h4⟩ := hc i hi
  exact ⟨b, off, A', c, e, hb, h1, h2, h4, h3, h.fit i hi⟩
theorem LMor.of_k {ss : List Sym} {p q : Lt} {k : Int} (h : LitKR ss p q k) : k = 2 ↔ LMor ss p q := by
  rcases h with ⟨h, rfl⟩ | ⟨h, rfl⟩ | ⟨h, rfl⟩ | ⟨h1, h2, h3, rfl⟩
  · exact ⟨fun x => by omega, fun x => absurd h x.ne⟩
  · exact ⟨fun _ => h, fun _ => rfl⟩
  · exact ⟨fun x => by omega, fun x => (x.asymm h).elim⟩
  · exact ⟨fun x => by omega, fun x => absurd x h2⟩

theorem topsOk_not {ss : List Sym} {ls : List Lt} {k : Nat} (hk : k < ls.length) (h : litB ss (ltAt ls k) = false) : topsOk ss ls = false := by
  unfold topsOk
  rw [Bool.and_eq_false_iff]
  right
  rw [List.all_eq_false]
  exact ⟨_, ltAt_mem hk, by rw [h]; simp⟩
theorem topsOk_yes {ss : List Sym} {ls : List Lt} (hm : mayB ss = true) (h : ∀ j, j < ls.length → litB ss (ltAt ls j) = true) : topsOk ss ls = true := by
  unfold topsOk
  rw [hm, Bool.true_and, List.all_eq_true]
  intro p hp
  obtain ⟨j, hj, rfl⟩ := mem_ltAt hp
  exact h j hj
theorem topsR_no {ss : List Sym} {ls : List Lt} (h : topsOk ss ls = false) : topsR ss ls = [] := by unfold topsR; rw [h]; rfl
theorem topsE_no {ss : List Sym} {ls : List Lt} (h : topsOk ss ls = false) : topsE ss ls = 700 := by unfold topsE; rw [h]; rfl
theorem topsR_yes {ss : List Sym} {ls : List Lt} (h : topsOk ss ls = true) : topsR ss ls = topsN ss ls ls.length := by unfold topsR; rw [h]; rfl
theorem topsE_yes {ss : List Sym} {ls : List Lt} (h : topsOk ss ls = true) : topsE ss ls = 0 := by unfold topsE; rw [h]; rfl
def TopsPost (ss : List Sym) (ls : List Lt) (w : World) (e : Ending) (w' : World) : Prop := IntsPost (topsR ss ls) (topsE ss ls) w e w'
theorem TopsPost.bad {ss : List Sym} {ls : List Lt} {w w' : World} (h : topsOk ss ls = false) (hb : Below w.heap.size w w') : TopsPost ss ls w (.returned (.tuple #[.slice none 0 0, .int .i64 700])) w' :=
  ⟨_, by rw [topsE_no h], by rw [topsR_no h]; exact OwnI.nil_, hb⟩

end Go.Proofs.Ythdpojokogiinaa
