/-
  Contracts: clause.Weight, clause.Vars.
-/
import Derived.Test.YtjdmnplkgimaiaaClauseNorm
import Derived.Test.YtjdmnplkgimaiaaTermVars
import Derived.Test.YtjdmnplkgimaiaaPlainHolds
namespace Go.Proofs.Ytjdmnplkgimaiaa
open Go.RowKit Go.Deep
set_option linter.unusedSimpArgs false
set_option linter.unusedVariables false
set_option maxRecDepth 100000

def wtL (ss : List Sym) (ls : List Lt) : Int := (ls.map fun l => wtSum ss l.atom).sum
theorem wtL_next {ss : List Sym} {ls : List Lt} {k : Nat} (h : k < ls.length) : wtL ss (ls.take (k + 1)) = wtL ss (ls.take k) + wtSum ss (ltAt ls k).atom := by
  unfold wtL
  rw [List.take_add_one, ltAt_get h]
  simp [List.sum_append]
theorem lit_wt {ss : List Sym} {l : Lt} (h : litB ss l = true) : 0 ≤ wtSum ss l.atom ∧ wtSum ss l.atom ≤ 980 := by
  have hx := atom_ex (show atomB ss l.atom = true from h)
  have := wtSum_ok hx.1 (hx.2.codes hx.1) l.atom.length (Nat.le_refl _)
  rw [List.take_length] at this
  have := (lit_pos h).2
  omega
theorem wtL_bd {ss : List Sym} {ls : List Lt} (h : ∀ l ∈ ls, litB ss l = true) : 0 ≤ wtL ss ls ∧ wtL ss ls ≤ 980 * ls.length := by
  induction ls with
  | nil => exact ⟨Int.le_refl _, by simp [wtL]⟩
  | cons l ls ih =>
    have h1 := ih fun x hx => h x (List.mem_cons_of_mem _ hx)
    have h2 := lit_wt (h l (List.mem_cons_self ..))
    have e : wtL ss (l :: ls) = wtSum ss l.atom + wtL ss ls := by unfold wtL; simp
    rw [e, List.length_cons]
    omega
def wtO (ss : List Sym) (c : Cl) : Int := if mayC ss c then wtC ss c else 0
def varsO (ss : List Sym) (c : Cl) : List Int := if mayC ss c then varsC c else []
def IntPost (x E : Int) (w : World) (e : Ending) (w' : World) : Prop := e = .returned (.tuple #[.int .i64 x, .int .i64 E]) ∧ Below w.heap.size w w'

set_option maxHeartbeats 2000000 in
theorem weightC_any (A : Option Addr) (n cp : Nat) (ss : List Sym) (v : Cv) (c : Cl) (w : World) (h : SymsAt w w.heap.size A n ss) (hn : n ≤ maxLen) (hnc : n ≤ cp) (hc : ClAt w w.heap.size v c) :
    Calls Try.prog 14 #[.slice A n cp, v.val] w (IntPost (wtO ss c) (clE ss c) w) := by
  have HWO : Hid (wtO ss c = if mayC ss c then wtC ss c else 0) := rfl
  have hb0 := below_new w v.obj
  have hx0 := CBox.new hc
  have hs0 := h.on hb0
  have HMC : Hid (mayC ss c = true → MayC ss c) := fun q => mayC_iff.1 q
  have HNE : Hid (clE ss c = if mayC ss c then 0 else 800) := rfl
  rw [Cv.val_eq]
  have HVE := Lib.hid v.val_eq
  unfold Cv.obj at hb0 hx0 hs0
  have HX := Lib.hid hx0
  have HS := Lib.hid hs0
  have HB0 := Lib.hid hb0
  clear h hc hb0 hx0 hs0
  go_enter Try.func14, Try.ntmps14
  go_wp2_with fail
  rw [← HVE.out]
  refine (mayC_any A n cp ss v c _ HS.out hn hnc HX.out.cl).mono ?_
  rintro e w1 ⟨rfl, hb1⟩
  have HB1 := Lib.hid (HB0.out.trans (hb1.mono HB0.out.size))
  replace HX := Lib.hid (HX.out.on hb1)
  replace HS := Lib.hid (HS.out.on hb1)
  clear hb1 HB0
  have p0 := HX.out.c0
  have p1 := HX.out.c1
  have p2 := HX.out.c2
  obtain ⟨B, hB⟩ : ∃ B, B = w.heap.size := ⟨_, rfl⟩
  rw [← hB] at HX p0 p1 p2 ⊢
  have HBH := Lib.hid hB
  clear hB
  cases hm : mayC ss c
  · rw [hm] at HNE HWO
    clear hm
    go_wp2
    go_ret2
    exact ⟨ret_two HWO.out.symm HNE.out.symm, HBH.out ▸ HB1.out⟩
  · rw [hm] at HNE HWO
    have HM := Lib.hid (HMC.out hm)
    have h5 := HM.out.nl
    have HL := Lib.hid HX.out.cl.lits.len
    rw [HL.out] at h5
    clear hm
    go_wp2
    go_loopw [6, 16] (fun q i wr => ∃ (k : Nat) (s : Int), q = .int .i64 s ∧ i = .int .i64 k ∧ k ≤ v.n1 ∧ s = wtL ss (c.lits.take k) ∧ Below w1.heap.size w1 wr) (fun _ i _ => v.n1 - (intOf i).toNat)
    case atStart => exact ⟨0, 0, rfl, rfl, by omega, rfl, Below.refl _ _⟩
    case round =>
      obtain ⟨k, s, rfl, rfl, hk, hs, hbw⟩ := hrel
      have HSU := Lib.hid hs
      have HBW := Lib.hid hbw
      have hsb := wtL_bd (ss := ss) (ls := c.lits.take k) (fun l hl => HM.out.lits l (List.mem_of_mem_take hl))
      rw [← hs, List.length_take, HL.out] at hsb
      obtain ⟨s0, s1⟩ := hsb
      have s2 : s ≤ 4900 := by omega
      clear hs hbw s1
      by_cases hlt : k < v.n1
      · have hkl : k < c.lits.length := by rw [HL.out]; exact hlt
        obtain ⟨b, off, A3, c3, hA, hb, d0, d1, hr⟩ := (HX.out.cl.lits.on HBW.out).one hlt
        rw [hA]
        have HNX := Lib.hid (wtL_next (ss := ss) hkl)
        have HLB := Lib.hid (HM.out.lits _ (ltAt_mem hkl))
        obtain ⟨p, hp⟩ : ∃ p, p = ltAt c.lits k := ⟨_, rfl⟩
        rw [← hp] at d0 d1 hr HNX HLB
        obtain ⟨x1, x2⟩ := lit_wt HLB.out
        have hx := atom_ex (show atomB ss p.atom = true from HLB.out)
        have HEX := Lib.hid (hx.2.codes hx.1)
        have h49 := (lit_pos HLB.out).2
        have hbn := below_new wr (.cells #[.bool p.neg, .slice A3 p.atom.length c3] 44)
        have HS2 := Lib.hid ((HS.out.on HBW.out).on hbn)
        have HK2 := Lib.hid (hr.at_.on hbn)
        have HB2 := Lib.hid (HBW.out.trans (hbn.mono HBW.out.size))
        obtain ⟨W, hW⟩ : ∃ W, W = wtSum ss p.atom := ⟨_, rfl⟩
        rw [← hW] at x1 x2 HNX
        have HWW := Lib.hid hW
        have hi0 : (0 : Int) ≤ (k : Int) := by omega
        have hi3 : (k : Int) < (v.n1 : Int) := by omega
        clear hr hp hA hkl hbn hx hW
        go_wp2_with fail
        refine (weightO_any A A3 n cp _ c3 _ _ ss p.atom _ HS2.out HK2.out HM.out.may HEX.out h49).mono ?_
        rintro e w2 ⟨rfl, rfl⟩
        rw [← HWW.out]
        go_wp2
        go_roundw
        case rel => exact ⟨k + 1, s + W, by go_num, by go_num, by omega, by rw [HNX.out, HSU.out], HB2.out⟩
        case measure => simp [intOf]; omega
      · obtain rfl : k = v.n1 := by omega
        have HZ : Hid (s = wtC ss c) := by show _ = _; rw [HSU.out, List.take_of_length_le (by rw [HL.out]; omega)]; rfl
        go_wp2
        go_ret2
        exact ⟨ret_two (by rw [HWO.out, HZ.out]; rfl) (by rw [HNE.out]; rfl), HBH.out ▸ (HB1.out.trans (HBW.out.mono HB1.out.size))⟩
end Go.Proofs.Ytjdmnplkgimaiaa
