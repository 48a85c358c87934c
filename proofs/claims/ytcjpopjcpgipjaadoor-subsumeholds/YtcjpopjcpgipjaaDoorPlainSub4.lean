/-
  Plain words: where a clause holds, what it says as much as holds, too (structures).
-/
import Derived.Test.YtcjpopjcpgipjaaDoorPlainSubs
import Derived.Test.YtcjpopjcpgipjaaDoorRefValue
namespace Go.Proofs.YtcjpopjcpgipjaaDoor
open Go.RowKit
set_option linter.unusedSimpArgs false
set_option linter.unusedVariables false
set_option maxRecDepth 100000

section
variable {ss : List Sym} {m : Md} {env : Nat → Int} {θ : Nat → List Int} {c d : Cl}
/-- What the terms that stand for variables are worth. -/
def envT (ss : List Sym) (m : Md) (env : Nat → Int) (θ : Nat → List Int) : Nat → Int := fun v => if v < 24 then valT ss m env (θ v) else 0
theorem vals_ap (hm : mayB ss = true) (hs : Sub 24 ss θ) (L : Nat) : ∀ (r : List Int) (k : Nat), r.length ≤ L → trm 24 ss r k → vals ss m env (ap θ r) = vals ss m (envT ss m env θ) r := by
  induction L with
  | zero =>
    intro r k hL _
    obtain rfl : r = [] := List.length_eq_zero_iff.1 (by omega)
    rw [ap_nil, vals_nil, vals_nil]
  | succ L ih =>
    intro r k hL hr
    cases r with
    | nil => rw [ap_nil, vals_nil, vals_nil]
    | cons x s =>
      rw [List.length_cons] at hL
      rcases trm_cons hr with ⟨hx, hx24, i, rfl, hsr⟩ | ⟨hx, a, i, ha, rfl, hsr⟩
      · obtain ⟨v, hv⟩ : ∃ v, v = (-1 - x).toNat := ⟨_, rfl⟩
        have hv24 : v < 24 := by omega
        have hxe : x = -1 - (v : Int) := by omega
        have e1 : ap θ (x :: s) = θ v ++ ap θ s := by
          rw [ap_cons]; unfold ap1; rw [if_pos hx, ← hv]
        have e2 : x :: s = [-1 - (v : Int)] ++ s := by rw [hxe]; rfl
        rw [e1, e2, vals_append hm (hs v hv24) (trm_ap hs hsr), vals_append hm (trm_var hv24) hsr, vals_one hm (hs v hv24), vals_one hm (trm_var hv24), valT_var, ih s i (by omega) hsr]
        unfold envT
        rw [if_pos hv24]
      · obtain ⟨p, q, rfl, hp, hq⟩ := trm_split hsr
        have h1 : trm 24 ss (x :: p) 1 := by
          have := trm_sym hx ha hp (Nat.le_refl _)
          rwa [Nat.sub_self] at this
        have h2 : trm 24 ss (x :: ap θ p) 1 := by
          have := trm_sym hx ha (trm_ap hs hp) (Nat.le_refl _)
          rwa [Nat.sub_self] at this
        rw [List.length_append] at hL
        have e1 : ap θ (x :: (p ++ q)) = (x :: ap θ p) ++ ap θ q := by rw [ap_sym hx, ap_append]; rfl
        have e2 : x :: (p ++ q) = (x :: p) ++ q := rfl
        rw [e1, e2, vals_append hm h2 (trm_ap hs hq), vals_append hm h1 hq, vals_one hm h2, vals_one hm h1, valT_sym hm hx ha (trm_ap hs hp), valT_sym hm hx ha hp, ih p a (by omega) hp, ih q i (by omega) hq]
theorem valT_range (hm : mayB ss = true) (hsz : 1 ≤ m.size) (he : ∀ v, 0 ≤ env v ∧ env v < m.size) {t : List Int} (ht : trm 24 ss t 1) : 0 ≤ valT ss m env t ∧ valT ss m env t < m.size := by
  rcases trm_one ht with ⟨v, _, rfl⟩ | ⟨x, a, s, rfl, hx, ha, hs⟩
  · rw [valT_var]; exact he v
  · rw [valT_sym hm hx ha hs]
    exact ⟨Int.emod_nonneg _ (by omega), Int.emod_lt_of_pos _ (by omega)⟩
theorem envT_range (hm : mayB ss = true) (hsz : 1 ≤ m.size) (he : ∀ v, 0 ≤ env v ∧ env v < m.size) (hs : Sub 24 ss θ) : ∀ v, 0 ≤ envT ss m env θ v ∧ envT ss m env θ v < m.size := by
  intro v
  unfold envT
  by_cases h : v < 24
  · rw [if_pos h]; exact valT_range hm hsz he (hs v h)
  · rw [if_neg h]; omega
theorem litH_ap (hm : mayB ss = true) (hs : Sub 24 ss θ) {l : Lt} (hl : litB ss l = true) : litH ss m env (apL θ l) = litH ss m (envT ss m env θ) l := by
  obtain ⟨p, s, ha, hp, _, _, _, ht⟩ := atom_parts (show atomB ss l.atom = true from hl)
  have hv := vals_ap (m := m) (env := env) hm hs s.length s _ (Nat.le_refl _) ht
  have e1 : (apL θ l).atom = p :: ap θ s := by unfold apL; rw [ha, ap_sym hp]
  have e2 : (apL θ l).neg = l.neg := rfl
  unfold litH
  rw [e2, e1, ha]
  have e3 : atomH ss m env (p :: ap θ s) = atomH ss m (envT ss m env θ) (p :: s) := by
    unfold atomH
    show (if p = 0 then decide (intAt (vals ss m env (ap θ s)) 0 = intAt (vals ss m env (ap θ s)) 1) else decide (m.look p (vals ss m env (ap θ s)) % 2 = 1)) = (if p = 0 then decide (intAt (vals ss m (envT ss m env θ) s) 0 = intAt (vals ss m (envT ss m env θ) s) 1) else decide (m.look p (vals ss m (envT ss m env θ) s) % 2 = 1))
    rw [hv]
  rw [e3]
theorem tupH_ap (hm : mayB ss = true) (hs : Sub 24 ss θ) {t : List Int} (ht : rowB ss t = true) : tupH ss m env (ap θ t) = tupH ss m (envT ss m env θ) t := by
  obtain ⟨k, hk⟩ := row_trm ht
  unfold tupH
  rw [vals_ap hm hs t.length t k (Nat.le_refl _) hk]
/-- Where a clause holds, what it says as much as holds, too. -/
theorem Says.holds (hc : MayC ss c) (hsz : 1 ≤ m.size) (h : Says ss c d) (hh : holdsC ss m c) : holdsC ss m d := by
  obtain ⟨θ, hs, h1, h2, h3⟩ := h
  intro env he
  have := hh (envT ss m env θ) (envT_range hc.may hsz he hs)
  unfold hereC at this ⊢
  rw [Bool.or_eq_true, Bool.or_eq_true] at this ⊢
  rcases this with q | q | q
  · left
    obtain ⟨l, hl, e⟩ := List.any_eq_true.1 q
    exact List.any_eq_true.2 ⟨apL θ l, h3 l hl, by rw [litH_ap hc.may hs (hc.conds l hl)]; exact e⟩
  · right; left
    obtain ⟨l, hl, e⟩ := List.any_eq_true.1 q
    exact List.any_eq_true.2 ⟨apL θ l, h1 l hl, by rw [litH_ap hc.may hs (hc.lits l hl)]; exact e⟩
  · right; right
    obtain ⟨t, ht, e⟩ := List.any_eq_true.1 q
    exact List.any_eq_true.2 ⟨ap θ t, h2 t ht, by rw [tupH_ap hc.may hs (hc.tups t ht).1]; exact e⟩
end
end Go.Proofs.YtcjpopjcpgipjaaDoor
