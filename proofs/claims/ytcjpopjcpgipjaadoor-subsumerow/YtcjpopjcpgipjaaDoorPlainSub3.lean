/-
  Plain words: clauses that say as much as one another: in a row; the normal clause; weights.
-/
import Derived.Test.YtcjpopjcpgipjaaDoorPlainSub2
import Derived.Test.YtcjpopjcpgipjaaDoorPlainOrder
namespace Go.Proofs.YtcjpopjcpgipjaaDoor
open Go.RowKit
set_option linter.unusedSimpArgs false
set_option linter.unusedVariables false
set_option maxRecDepth 100000

section
variable {ss : List Sym} {θ θ2 : Nat → List Int} {c d e : Cl}
def varT : Nat → List Int := fun v => [-1 - (v : Int)]
theorem ap_varT (r : List Int) : ap varT r = r := ap_id fun c hc h0 => by
  show [-1 - (((-1 - c).toNat : Nat) : Int)] = [c]
  have : -1 - (((-1 - c).toNat : Nat) : Int) = c := by omega
  rw [this]
theorem Says.refl : Says ss c c :=
  ⟨varT, fun v hv => trm_var hv, fun l hl => by unfold apL; rw [ap_varT]; exact hl, fun t ht => by rw [ap_varT]; exact ht, fun l hl => by unfold apL; rw [ap_varT]; exact hl⟩
theorem apL_apL (l : Lt) : apL θ2 (apL θ l) = apL (fun v => ap θ2 (θ v)) l := by unfold apL; rw [ap_ap]
theorem Says.trans (h : Says ss c d) (k : Says ss d e) : Says ss c e := by
  obtain ⟨a, h⟩ := h
  obtain ⟨b, k⟩ := k
  refine ⟨fun v => ap b (a v), fun v hv => trm_ap k.sub (h.sub v hv), fun l hl => ?_, fun t ht => ?_, fun l hl => ?_⟩
  · rw [← apL_apL]; exact k.lits _ (h.lits l hl)
  · rw [← ap_ap]; exact k.tups _ (h.tups t ht)
  · rw [← apL_apL]; exact k.conds _ (h.conds l hl)
theorem ap_ren {f : Nat → Nat} {r : List Int} (h : ∀ v ∈ vrs r, θ v = [-1 - (f v : Int)]) : ap θ r = renR f r := by
  induction r with
  | nil => rfl
  | cons x r ih =>
    have ih' := ih fun v hv => h v (mem_vrs.2 (List.mem_cons_of_mem _ (mem_vrs.1 hv)))
    rw [ap_cons, ih']
    unfold ap1
    by_cases hx : x < 0
    · have hv : (-1 - x).toNat ∈ vrs (x :: r) := mem_vrs.2 (by
        have : -1 - (((-1 - x).toNat : Nat) : Int) = x := by omega
        rw [this]; exact List.mem_cons_self ..)
      rw [if_pos hx, h _ hv]
      show [_] ++ _ = ren f x :: renR f r
      rw [show ren f x = -1 - (f (-1 - x).toNat : Int) from by unfold ren; rw [if_pos hx]]
      rfl
    · rw [if_neg hx]
      show [x] ++ _ = ren f x :: renR f r
      rw [show ren f x = x from by unfold ren; rw [if_neg hx]]
      rfl
theorem apL_ren {f : Nat → Nat} {l : Lt} (h : ∀ v ∈ vrs l.atom, θ v = [-1 - (f v : Int)]) : apL θ l = renL f l := by unfold apL renL; rw [ap_ren h]
/-- A clause says as much as its normal one. -/
theorem MayC.says_norm (hc : MayC ss c) : Says ss c (norm c) := by
  have hT : ∀ v ∈ vrs (codesC c), (fun v => if v ∈ vrs (codesC c) then [-1 - (plc c v : Int)] else [-1 - (v : Int)]) v = [-1 - (plc c v : Int)] := fun v hv => by
    show (if v ∈ vrs (codesC c) then _ else _) = _
    rw [if_pos hv]
  refine ⟨fun v => if v ∈ vrs (codesC c) then [-1 - (plc c v : Int)] else [-1 - (v : Int)], fun v hv => ?_, fun l hl => ?_, fun t ht => ?_, fun l hl => ?_⟩
  · show trm 24 ss (if _ then _ else _) 1
    by_cases q : v ∈ vrs (codesC c)
    · rw [if_pos q]; exact trm_var (hc.plc_ok q)
    · rw [if_neg q]; exact trm_var hv
  · rw [apL_ren (f := plc c) fun v hv => hT v (row_vrs (lit_row hl) hv), norm_eq]
    exact List.mem_map_of_mem (mem_once.2 hl)
  · rw [ap_ren (f := plc c) fun v hv => hT v (row_vrs (tup_row ht) hv), norm_eq]
    exact List.mem_map_of_mem (mem_once.2 ht)
  · rw [apL_ren (f := plc c) fun v hv => hT v (row_vrs (cond_row hl) hv), norm_eq]
    exact List.mem_map_of_mem (mem_once.2 hl)
/-- Back from a normal clause's variables. -/
def unplc (c : Cl) (i : Nat) : Nat := (firsts (codesC (onceC c))).getD i 0
theorem unplc_plc {v : Nat} (hv : v ∈ vrs (codesC c)) : unplc c (plc c v) = v := by
  have hm : v ∈ firsts (codesC (onceC c)) := mem_once.2 (vrs_once.2 hv)
  unfold unplc plc
  have hl := List.idxOf_lt_length_of_mem hm
  rw [List.getD_eq_getElem?_getD, List.getElem?_eq_getElem hl]
  exact List.getElem_idxOf hl
theorem MayC.unplc_ok (hc : MayC ss c) (i : Nat) : unplc c i < 24 := by
  unfold unplc
  rw [List.getD_eq_getElem?_getD]
  cases q : (firsts (codesC (onceC c)))[i]? with
  | none => show 0 < 24; omega
  | some v => exact hc.var (vrs_once.1 (mem_once.1 (List.mem_of_getElem? q)))
theorem ren_back {r : List Int} (h : ∀ v ∈ vrs r, v ∈ vrs (codesC c)) : renR (unplc c) (renR (plc c) r) = r := by
  rw [renR_renR, renR_on (g := fun v => v) fun v hv => unplc_plc (h v hv), renR_id]
/-- The normal clause says as much as the clause. -/
theorem MayC.norm_says (hc : MayC ss c) : Says ss (norm c) c := by
  have hT : ∀ (r : List Int), ap (fun i => [-1 - (unplc c i : Int)]) r = renR (unplc c) r := fun r => ap_ren fun v _ => rfl
  refine ⟨fun i => [-1 - (unplc c i : Int)], fun v _ => trm_var (hc.unplc_ok v), fun l hl => ?_, fun t ht => ?_, fun l hl => ?_⟩
  · rw [norm_eq] at hl
    obtain ⟨k, hk, rfl⟩ := List.mem_map.1 hl
    have hk' := mem_once.1 hk
    have : apL (fun i => [-1 - (unplc c i : Int)]) (renL (plc c) k) = k := by
      unfold apL renL
      rw [hT, ren_back fun v hv => row_vrs (lit_row hk') hv]
    rw [this]; exact hk'
  · rw [norm_eq] at ht
    obtain ⟨k, hk, rfl⟩ := List.mem_map.1 ht
    have hk' := mem_once.1 hk
    rw [hT, ren_back fun v hv => row_vrs (tup_row hk') hv]; exact hk'
  · rw [norm_eq] at hl
    obtain ⟨k, hk, rfl⟩ := List.mem_map.1 hl
    have hk' := mem_once.1 hk
    have : apL (fun i => [-1 - (unplc c i : Int)]) (renL (plc c) k) = k := by
      unfold apL renL
      rw [hT, ren_back fun v hv => row_vrs (cond_row hk') hv]
    rw [this]; exact hk'
/-- What stands for variables makes a row no lighter. -/
theorem wt_ap_le (hm : mayB ss = true) (hs : Sub 24 ss θ) {r : List Int} (hr : ∀ x ∈ r, -24 ≤ x) : wtSum ss r ≤ wtSum ss (ap θ r) := by
  rw [wtSum_ap]
  have := sumVars_nonneg (g := fun c => wtSum ss (θ (-1 - c).toNat) - 1) (a := r) fun c hc h0 => by
    have h24 : (-1 - c).toNat < 24 := by have := hr c hc; omega
    have ht := hs _ h24
    have h1 := wt_len (trm_wp hm ht)
    have h2 := trm_pos ht
    show 0 ≤ wtSum ss (θ (-1 - c).toNat) - 1
    omega
  omega
end
end Go.Proofs.YtcjpopjcpgipjaaDoor
