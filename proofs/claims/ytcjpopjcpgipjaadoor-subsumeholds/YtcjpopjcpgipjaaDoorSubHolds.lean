/-
  Plain words: where a clause holds, what it says as much as holds, too (structures).
  The walk of the law SubsumeHolds.
-/
import Derived.Test.YtcjpopjcpgipjaaDoorPlainSubs
import Derived.Test.YtcjpopjcpgipjaaDoorRefMd
import Derived.Test.YtcjpopjcpgipjaaDoorSubRow
import Derived.Test.YtcjpopjcpgipjaaDoorClauseHolds
import Derived.Test.YtcjpopjcpgipjaaDoorClauseVars
namespace Go.Proofs.YtcjpopjcpgipjaaDoor
open Go.RowKit
set_option linter.unusedSimpArgs false
set_option linter.unusedVariables false
set_option maxRecDepth 100000

section
variable {ss : List Sym} {m : Md} {env : Nat → Int} {θ : Nat → List Int} {c d : Cl}
/-- What the terms that stand for variables are worth. -/
def envT (ss : List Sym) (m : Md) (env : Nat → Int) (θ : Nat → List Int) : Nat → Int := fun v => if v < 24 then valT ss m env (θ v) else 0
theorem vals_ap (hm : mayB ss = true) (hs : Sub 24 ss θ) (L : Nat) : ∀ (r : List Int) (k : Nat), r.length ≤ L → trm 24 ss r k → vals ss m env (ap θ r) = vals ss m (envT ss m env θ) r := by
  induction L with
  | zero =>
    intro r k hL _
    obtain rfl : r = [] := List.length_eq_zero_iff.1 (by omega)
    rw [ap_nil, vals_nil, vals_nil]
  | succ L ih =>
    intro r k hL hr
    cases r with
    | nil => rw [ap_nil, vals_nil, vals_nil]
    | cons x s =>
      rw [List.length_cons] at hL
      rcases trm_cons hr with ⟨hx, hx24, i, rfl, hsr⟩ | ⟨hx, a, i, ha, rfl, hsr⟩
      · obtain ⟨v, hv⟩ : ∃ v, v = (-1 - x).toNat := ⟨_, rfl⟩
        have hv24 : v < 24 := by omega
        have hxe : x = -1 - (v : Int) := by omega
        have e1 : ap θ (x :: s) = θ v ++ ap θ s := by
          rw [ap_cons]; unfold ap1; rw [if_pos hx, ← hv]
        have e2 : x :: s = [-1 - (v : Int)] ++ s := by rw [hxe]; rfl
        rw [e1, e2, vals_append hm (hs v hv24) (trm_ap hs hsr), vals_append hm (trm_var hv24) hsr, vals_one hm (hs v hv24), vals_one hm (trm_var hv24), valT_var, ih s i (by omega) hsr]
        unfold envT
        rw [if_pos hv24]
      · obtain ⟨p, q, rfl, hp, hq⟩ := trm_split hsr
        have h1 : trm 24 ss (x :: p) 1 := by
          have := trm_sym hx ha hp (Nat.le_refl _)
          rwa [Nat.sub_self] at this
        have h2 : trm 24 ss (x :: ap θ p) 1 := by
          have := trm_sym hx ha (trm_ap hs hp) (Nat.le_refl _)
          rwa [Nat.sub_self] at this
        rw [List.length_append] at hL
        have e1 : ap θ (x :: (p ++ q)) = (x :: ap θ p) ++ ap θ q := by rw [ap_sym hx, ap_append]; rfl
        have e2 : x :: (p ++ q) = (x :: p) ++ q := rfl
        rw [e1, e2, vals_append hm h2 (trm_ap hs hq), vals_append hm h1 hq, vals_one hm h2, vals_one hm h1, valT_sym hm hx ha (trm_ap hs hp), valT_sym hm hx ha hp, ih p a (by omega) hp, ih q i (by omega) hq]
theorem valT_range (hm : mayB ss = true) (hsz : 1 ≤ m.size) (he : ∀ v, 0 ≤ env v ∧ env v < m.size) {t : List Int} (ht : trm 24 ss t 1) : 0 ≤ valT ss m env t ∧ valT ss m env t < m.size := by
  rcases trm_one ht with ⟨v, _, rfl⟩ | ⟨x, a, s, rfl, hx, ha, hs⟩
  · rw [valT_var]; exact he v
  · rw [valT_sym hm hx ha hs]
    exact ⟨Int.emod_nonneg _ (by omega), Int.emod_lt_of_pos _ (by omega)⟩
theorem envT_range (hm : mayB ss = true) (hsz : 1 ≤ m.size) (he : ∀ v, 0 ≤ env v ∧ env v < m.size) (hs : Sub 24 ss θ) : ∀ v, 0 ≤ envT ss m env θ v ∧ envT ss m env θ v < m.size := by
  intro v
  unfold envT
  by_cases h : v < 24
  · rw [if_pos h]; exact valT_range hm hsz he (hs v h)
  · rw [if_neg h]; omega
theorem litH_ap (hm : mayB ss = true) (hs : Sub 24 ss θ) {l : Lt} (hl : litB ss l = true) : litH ss m env (apL θ l) = litH ss m (envT ss m env θ) l := by
  obtain ⟨p, s, ha, hp, _, _, _, ht⟩ := atom_parts (show atomB ss l.atom = true from hl)
  have hv := vals_ap (m := m) (env := env) hm hs s.length s _ (Nat.le_refl _) ht
  have e1 : (apL θ l).atom = p :: ap θ s := by unfold apL; rw [ha, ap_sym hp]
  have e2 : (apL θ l).neg = l.neg := rfl
  unfold litH
  rw [e2, e1, ha]
  have e3 : atomH ss m env (p :: ap θ s) = atomH ss m (envT ss m env θ) (p :: s) := by
    unfold atomH
    show (if p = 0 then decide (intAt (vals ss m env (ap θ s)) 0 = intAt (vals ss m env (ap θ s)) 1) else decide (m.look p (vals ss m env (ap θ s)) % 2 = 1)) = (if p = 0 then decide (intAt (vals ss m (envT ss m env θ) s) 0 = intAt (vals ss m (envT ss m env θ) s) 1) else decide (m.look p (vals ss m (envT ss m env θ) s) % 2 = 1))
    rw [hv]
  rw [e3]
theorem tupH_ap (hm : mayB ss = true) (hs : Sub 24 ss θ) {t : List Int} (ht : rowB ss t = true) : tupH ss m env (ap θ t) = tupH ss m (envT ss m env θ) t := by
  obtain ⟨k, hk⟩ := row_trm ht
  unfold tupH
  rw [vals_ap hm hs t.length t k (Nat.le_refl _) hk]
/-- Where a clause holds, what it says as much as holds, too. -/
theorem Says.holds (hc : MayC ss c) (hsz : 1 ≤ m.size) (h : Says ss c d) (hh : holdsC ss m c) : holdsC ss m d := by
  obtain ⟨θ, hs, h1, h2, h3⟩ := h
  intro env he
  have := hh (envT ss m env θ) (envT_range hc.may hsz he hs)
  unfold hereC at this ⊢
  rw [Bool.or_eq_true, Bool.or_eq_true] at this ⊢
  rcases this with q | q | q
  · left
    obtain ⟨l, hl, e⟩ := List.any_eq_true.1 q
    exact List.any_eq_true.2 ⟨apL θ l, h3 l hl, by rw [litH_ap hc.may hs (hc.conds l hl)]; exact e⟩
  · right; left
    obtain ⟨l, hl, e⟩ := List.any_eq_true.1 q
    exact List.any_eq_true.2 ⟨apL θ l, h1 l hl, by rw [litH_ap hc.may hs (hc.lits l hl)]; exact e⟩
  · right; right
    obtain ⟨t, ht, e⟩ := List.any_eq_true.1 q
    exact List.any_eq_true.2 ⟨ap θ t, h2 t ht, by rw [tupH_ap hc.may hs (hc.tups t ht).1]; exact e⟩
end
end Go.Proofs.YtcjpopjcpgipjaaDoor

namespace Go.Proofs.YtcjpopjcpgipjaaDoor
open Go.RowKit Go.Deep
set_option linter.unusedSimpArgs false
set_option linter.unusedVariables false
set_option maxRecDepth 100000

set_option maxHeartbeats 16000000 in
theorem subsumeHolds_walk (A An : Option Addr) (n cp nn cn : Nat) (ss : List Sym) (v u : Cv) (c d : Cl) (k : Int) (nums : List Int) (w : World) (h : SymsAt w w.heap.size A n ss) (hn : n ≤ maxLen) (hnc : n ≤ cp) (hc : ClAt w w.heap.size v c) (hd : ClAt w w.heap.size u d) (hN : IntsAt w w.heap.size An nn nums) (hnn : nn ≤ 17592186044416) (hT : TabW w) (hTB : 0 < w.heap.size) :
    Calls Tryd.prog 6 #[.slice A n cp, v.val, u.val, .int .i64 k, .slice An nn cn] w fun e w' => e = .returned (.bool true) ∧ Below w.heap.size w w' := by
  obtain ⟨hx, hy, hb0⟩ := CBox.two hc hd
  have hs0 := h.on hb0
  have hn0 := hN.on hb0
  rw [Cv.val_eq, Cv.val_eq]
  have HVE := Lib.hid v.val_eq
  have HUE := Lib.hid u.val_eq
  unfold Cv.obj at hx hy hb0 hs0 hn0
  have HC := Lib.hid hx
  have HD := Lib.hid hy
  have HS := Lib.hid hs0
  have HNU := Lib.hid hn0
  have HB0 := Lib.hid hb0
  have HT := Lib.hid hT
  have HTB := Lib.hid hTB
  clear h hc hd hx hy hb0 hs0 hT hTB hN hn0
  go_enter Tryd.func6, Tryd.ntmps6
  go_wp2_with fail
  refine (awakeS_any _ (HT.out.below HTB.out HB0.out) (Nat.lt_of_lt_of_le HTB.out HB0.out.size)).mono ?_
  rintro e' w1 ⟨rfl, hb1⟩
  have HB1 := Lib.hid (HB0.out.trans (hb1.mono HB0.out.size))
  replace HC := Lib.hid (HC.out.on hb1)
  replace HD := Lib.hid (HD.out.on hb1)
  replace HS := Lib.hid (HS.out.on hb1)
  replace HNU := Lib.hid (HNU.out.on hb1)
  clear hb1 HB0
  have p0 := HC.out.c0
  have p1 := HC.out.c1
  have p2 := HC.out.c2
  have q0 := HD.out.c0
  have q1 := HD.out.c1
  have q2 := HD.out.c2
  go_wp2_with (go_at_call 14; refine (num_any _ _).mono ?_; rintro e w' ⟨rfl, rfl⟩)
  try rw [← HVE.out]
  try rw [← HUE.out]
  refine (does_any A n cp ss _ _ c d _ HS.out hn hnc HC.out.cl HD.out.cl (HT.out.below HTB.out HB1.out) (Nat.lt_of_lt_of_le HTB.out HB1.out.size)).mono ?_
  rintro e' w2 ⟨rfl, hb2⟩
  have HB2 := Lib.hid (HB1.out.trans (hb2.mono HB1.out.size))
  replace HC := Lib.hid (HC.out.on hb2)
  replace HD := Lib.hid (HD.out.on hb2)
  replace HNU := Lib.hid (HNU.out.on hb2)
  replace HS := Lib.hid (HS.out.on hb2)
  clear hb2 p0 p1 p2 q0 q1 q2
  cases h1 : okC ss c d
  · rw [subE_no h1, subIs_no h1]
    clear h1
    go_wp2_with (go_at_call 14; refine (num_any _ _).mono ?_; rintro e w' ⟨rfl, rfl⟩)
    go_ret
    exact ⟨rfl, HB2.out⟩
  rw [subE_ok h1]
  cases h2 : subIs ss c d
  · clear h1 h2
    go_wp2_with (go_at_call 14; refine (num_any _ _).mono ?_; rintro e w' ⟨rfl, rfl⟩)
    go_ret
    exact ⟨rfl, HB2.out⟩
  by_cases h0 : nn = 0
  · subst h0
    clear h1 h2
    go_wp2_with (go_at_call 14; refine (num_any _ _).mono ?_; rintro e w' ⟨rfl, rfl⟩)
    go_ret
    exact ⟨rfl, HB2.out⟩
  have h0' : ((nn : Int) == 0) = false := by simp; omega
  obtain ⟨hm, hm2⟩ := okC_iff.1 h1
  have HSA := Lib.hid ((subIs_iff h1).1 h2)
  have HM := Lib.hid hm
  have HM2 := Lib.hid hm2
  have HEC : Hid (clE ss c = 0) := by show clE ss c = 0; unfold clE; rw [mayC_iff.2 hm]; rfl
  have HED : Hid (clE ss d = 0) := by show clE ss d = 0; unfold clE; rw [mayC_iff.2 hm2]; rfl
  clear h1 h2 hm hm2 h0
  have p0 := HC.out.c0
  have p1 := HC.out.c1
  have p2 := HC.out.c2
  go_wp2_with (go_at_call 14; refine (num_any _ _).mono ?_; rintro e w' ⟨rfl, rfl⟩)
  rw [← HVE.out]
  refine (varsC_any A n cp ss _ c _ HS.out hn hnc HC.out.cl).mono ?_
  rintro e' w3 ⟨vv, rfl, hv, hb3⟩
  have HB3 := Lib.hid (HB2.out.trans (hb3.mono HB2.out.size))
  replace HC := Lib.hid (HC.out.on hb3)
  replace HD := Lib.hid (HD.out.on hb3)
  replace HS := Lib.hid (HS.out.on hb3)
  replace HNU := Lib.hid (HNU.out.on hb3)
  obtain ⟨AV3, cv3, hv', _, _⟩ := hv.intsAt
  obtain ⟨nv3, hnv⟩ : ∃ nv, nv = (varsO ss c).length := ⟨_, rfl⟩
  rw [← hnv] at hv'
  subst hv'
  clear hb3 p0 p1 p2 hv hnv
  rw [HEC.out]
  have p0 := HD.out.c0
  have p1 := HD.out.c1
  have p2 := HD.out.c2
  go_wp2_with (go_at_call 14; refine (num_any _ _).mono ?_; rintro e w' ⟨rfl, rfl⟩)
  rw [← HUE.out]
  refine (varsC_any A n cp ss _ d _ HS.out hn hnc HD.out.cl).mono ?_
  rintro e' w4 ⟨vv, rfl, hv, hb4⟩
  have HB4 := Lib.hid (HB3.out.trans (hb4.mono HB3.out.size))
  replace HC := Lib.hid (HC.out.on hb4)
  replace HD := Lib.hid (HD.out.on hb4)
  replace HS := Lib.hid (HS.out.on hb4)
  replace HNU := Lib.hid (HNU.out.on hb4)
  obtain ⟨AV4, cv4, hv', _, _⟩ := hv.intsAt
  obtain ⟨nv4, hnv⟩ : ∃ nv, nv = (varsO ss d).length := ⟨_, rfl⟩
  rw [← hnv] at hv'
  subst hv'
  clear hb4 p0 p1 p2 hv hnv
  rw [HED.out]
  go_wp2_with (go_at_call 14; refine (num_any _ _).mono ?_; rintro e w' ⟨rfl, rfl⟩)
  by_cases hf : (nv3 : Int) ≤ 6
  case neg =>
    refine (refFew_any AV3 nv3 cv3 false _ (decide_eq_false hf)).mono ?_
    rintro e' w' ⟨rfl, rfl⟩
    clear hf
    go_wp2
    go_ret
    exact ⟨rfl, HB4.out⟩
  refine (refFew_any AV3 nv3 cv3 true _ (decide_eq_true hf)).mono ?_
  rintro e' w' ⟨rfl, rfl⟩
  clear hf
  go_wp2_with fail
  by_cases hf : (nv4 : Int) ≤ 6
  case neg =>
    refine (refFew_any AV4 nv4 cv4 false _ (decide_eq_false hf)).mono ?_
    rintro e' w' ⟨rfl, rfl⟩
    clear hf
    go_wp2
    go_ret
    exact ⟨rfl, HB4.out⟩
  refine (refFew_any AV4 nv4 cv4 true _ (decide_eq_true hf)).mono ?_
  rintro e' w' ⟨rfl, rfl⟩
  clear hf
  go_wp2_with fail
  refine (refNew_any An nn cn k _).mono ?_
  rintro e' w7 ⟨sz, hsz, rfl, hb7⟩
  have HSZ := Lib.hid hsz
  have HB7 := Lib.hid (HB4.out.trans (hb7.mono HB4.out.size))
  replace HC := Lib.hid (HC.out.on hb7)
  replace HD := Lib.hid (HD.out.on hb7)
  replace HS := Lib.hid (HS.out.on hb7)
  replace HNU := Lib.hid (HNU.out.on hb7)
  have hbn := below_new w7 (.cells #[.int .i64 sz, .slice An nn cn] 52)
  have HMB : Hid (MBx (w7.alloc (.cells #[.int .i64 sz, .slice An nn cn] 52)) w7.heap.size sz An nn cn) := ⟨by rw [World.cell?_alloc_new]; rfl, by rw [World.cell?_alloc_new]; rfl⟩
  have HMS : Hid (w7.heap.size < (w7.alloc (.cells #[.int .i64 sz, .slice An nn cn] 52)).heap.size) := by show _ < _; simp
  have HB8 := Lib.hid (HB7.out.trans (hbn.mono HB7.out.size))
  replace HC := Lib.hid (HC.out.on hbn)
  replace HD := Lib.hid (HD.out.on hbn)
  replace HS := Lib.hid (HS.out.on hbn)
  replace HNU := Lib.hid (HNU.out.on hbn)
  clear hb7 hbn hsz h0'
  have m0 := HMB.out.1
  have m1 := HMB.out.2
  have p0 := HC.out.c0
  have p1 := HC.out.c1
  have p2 := HC.out.c2
  go_wp2_with fail
  obtain ⟨w8, hw8⟩ : ∃ w8, w8 = w7.alloc (.cells #[.int .i64 sz, .slice An nn cn] 52) := ⟨_, rfl⟩
  rw [← hw8] at HC HD HS HNU HMB HMS HB8 ⊢
  clear hw8 m0 m1 p0 p1 p2
  rw [← HVE.out]
  refine (refHolds_any An A nn cn n cp sz nums ss v c _ HSZ.out hnn hn HNU.out HS.out HC.out.cl HM.out).mono ?_
  rintro e' w9 ⟨rfl, hb9⟩
  have HB9 := Lib.hid (HB8.out.trans (hb9.mono HB8.out.size))
  have HMB9 := Lib.hid (HMB.out.below hb9 HMS.out)
  replace HS := Lib.hid (HS.out.on hb9)
  replace HNU := Lib.hid (HNU.out.on hb9)
  replace HD := Lib.hid (HD.out.on hb9)
  clear hb9 HMB
  cases hR : holdsB ss (mdOf sz nums) c
  · clear hR
    go_wp2
    go_ret
    exact ⟨rfl, HB9.out⟩
  have HRE : Hid (holdsB ss (mdOf sz nums) d = true) := by
    refine holdsB_yes (HSA.out.holds HM.out HSZ.out.1 ?_)
    apply Classical.byContradiction
    intro q
    rw [holdsB_no q] at hR
    cases hR
  clear hR
  have m0 := HMB9.out.1
  have m1 := HMB9.out.2
  have q0 := HD.out.c0
  have q1 := HD.out.c1
  have q2 := HD.out.c2
  go_wp2_with fail
  rw [← HUE.out]
  refine (refHolds_any An A nn cn n cp sz nums ss u d _ HSZ.out hnn hn HNU.out HS.out HD.out.cl HM2.out).mono ?_
  rintro e' w10 ⟨rfl, hb10⟩
  have HB10 := Lib.hid (HB9.out.trans (hb10.mono HB9.out.size))
  rw [HRE.out]
  clear hb10 m0 m1 q0 q1 q2
  go_wp2
  go_ret
  exact ⟨rfl, HB10.out⟩
end Go.Proofs.YtcjpopjcpgipjaaDoor
