/-
  What the ways have to do with one another, in plain words (no program): what can be changed to another one can be made the same as it; who can be made the same as whom is the same the other way round.
-/
import Derived.Test.YthdpojokogiinaaPathFind
namespace Go.Proofs.Ythdpojokogiinaa
open Go.RowKit
set_option linter.unusedSimpArgs false
set_option linter.unusedVariables false

section
variable {ss : List Sym} {x y t u : List Int} {θ σ : Nat → List Int}
theorem ap_far_out {k : Nat} : ∀ r : List Int, ap (fun v => farR k (σ v)) r = farR k (ap σ r)
  | [] => rfl
  | c :: r => by
    rw [ap_cons, ap_cons, farR_append, ap_far_out r]
    congr 1
    by_cases hc : c < 0
    · unfold ap1; rw [if_pos hc, if_pos hc]
    · rw [ap1_sym (by omega), ap1_sym (by omega), farR_cons, if_neg hc, farR_nil]
theorem far_codes {k : Nat} {r : List Int} {c : Int} (h : c ∈ farR k r) : ∃ d ∈ r, c = if d < 0 then d - (k : Int) else d := by
  unfold farR at h
  obtain ⟨d, hd, rfl⟩ := List.mem_map.1 h
  exact ⟨d, hd, rfl⟩
theorem mt_some (hx : rowB ss x = true) (hy : rowB ss y = true) (h : (mt ss x noT 0 y).isSome = true) : ∃ σ, Sub 24 ss σ ∧ ap σ y = x := by
  obtain ⟨T, hT⟩ := Option.isSome_iff_exists.1 h
  have hO : mtO ss y x = some T := by
    unfold mtO; rw [hy, hx]; exact hT
  obtain ⟨_, _, _, h1, _, h2, _⟩ := mtO_yes hO
  exact ⟨_, h1, h2⟩
theorem meets_inst (hx : rowB ss x = true) (hy : rowB ss y = true) (h : Meets ss 1 x y) : Meets ss 0 x y := by
  obtain ⟨σ, hs, he⟩ := mt_some hx hy (meets_one.1 h)
  refine meets_zero.2 ⟨fun v => if v < 24 then [-1 - (v : Int)] else σ (v - 24), fun v hv => ?_, ?_⟩
  · show trm 48 ss (if v < 24 then [-1 - (v : Int)] else σ (v - 24)) 1
    by_cases hl : v < 24
    · rw [if_pos hl]; exact trm_var hv
    · rw [if_neg hl]; exact trm_wide (hs _ (by omega)) (by omega)
  · rw [ap_farR]
    have e1 : ap (fun v => if v < 24 then [-1 - (v : Int)] else σ (v - 24)) x = x := ap_id fun c hc hn => by
      have := row_ge hx c hc
      show (if (-1 - c).toNat < 24 then [-1 - (((-1 - c).toNat : Nat) : Int)] else _) = [c]
      rw [if_pos (by omega)]; congr 1; omega
    have e2 : (fun v : Nat => if v + 24 < 24 then [-1 - ((v + 24 : Nat) : Int)] else σ (v + 24 - 24)) = σ := by
      funext v
      rw [if_neg (by omega), Nat.add_sub_cancel]
    rw [e1]
    show x = ap (fun v : Nat => if v + 24 < 24 then [-1 - ((v + 24 : Nat) : Int)] else σ (v + 24 - 24)) y
    rw [e2, he]
theorem meets_gen (hx : rowB ss x = true) (hy : rowB ss y = true) (h : Meets ss 2 x y) : Meets ss 0 x y := by
  obtain ⟨σ, hs, he⟩ := mt_some hy hx (meets_two.1 h)
  refine meets_zero.2 ⟨fun v => if v < 24 then farR 24 (σ v) else [-1 - (v : Int)], fun v hv => ?_, ?_⟩
  · show trm 48 ss (if v < 24 then farR 24 (σ v) else [-1 - (v : Int)]) 1
    by_cases hl : v < 24
    · rw [if_pos hl]; exact trm_farR (hs v hl)
    · rw [if_neg hl]; exact trm_var hv
  · have e1 : ap (fun v => if v < 24 then farR 24 (σ v) else [-1 - (v : Int)]) x = farR 24 y := by
      rw [← he, ← ap_far_out]
      exact ap_congr (n := 24) (row_ge hx) fun v hv => if_pos hv
    have e2 : ap (fun v => if v < 24 then farR 24 (σ v) else [-1 - (v : Int)]) (farR 24 y) = farR 24 y := ap_id fun c hc hn => by
      obtain ⟨d, hd, rfl⟩ := far_codes hc
      have := row_ge hy d hd
      have hd0 : d < 0 := by
        by_cases q : d < 0
        · exact q
        · rw [if_neg q] at hn; omega
      rw [if_pos hd0] at hn ⊢
      show (if (-1 - (d - ((24 : Nat) : Int))).toNat < 24 then _ else [-1 - (((-1 - (d - ((24 : Nat) : Int))).toNat : Nat) : Int)]) = [d - ((24 : Nat) : Int)]
      rw [if_neg (by omega)]; congr 1; omega
    rw [e1, e2]
theorem meets_swap (hy : rowB ss y = true) (h : Meets ss 0 x y) : Meets ss 0 y x := by
  obtain ⟨θ, hs, he⟩ := meets_zero.1 h
  refine meets_zero.2 ⟨fun v => if v < 24 then θ (v + 24) else θ (v - 24), fun v hv => ?_, ?_⟩
  · show trm 48 ss (if v < 24 then θ (v + 24) else θ (v - 24)) 1
    by_cases hl : v < 24
    · rw [if_pos hl]; exact hs _ (by omega)
    · rw [if_neg hl]; exact hs _ (by omega)
  · rw [ap_farR] at he ⊢
    have e1 : ap (fun v => if v < 24 then θ (v + 24) else θ (v - 24)) y = ap (fun v => θ (v + 24)) y := ap_congr (n := 24) (row_ge hy) fun v hv => if_pos hv
    have e2 : (fun v : Nat => if v + 24 < 24 then θ (v + 24 + 24) else θ (v + 24 - 24)) = θ := by
      funext v
      rw [if_neg (by omega), Nat.add_sub_cancel]
    rw [e1, ← he]
    show ap θ x = ap (fun v : Nat => if v + 24 < 24 then θ (v + 24 + 24) else θ (v + 24 - 24)) x
    rw [e2]
theorem hit_inst (hu : exprB ss u = true) (ht : exprB ss t = true) (h : Hit ss t 1 u) : Hit ss t 0 u := ⟨h.1, h.2.1, meets_inst (rest_row hu) (rest_row ht) h.2.2⟩
theorem hit_gen (hu : exprB ss u = true) (ht : exprB ss t = true) (h : Hit ss t 2 u) : Hit ss t 0 u := ⟨h.1, h.2.1, meets_gen (rest_row hu) (rest_row ht) h.2.2⟩
theorem expr_ne (h : exprB ss t = true) : t ≠ [] := by rintro rfl; have := (expr_len h).1; simp at this
theorem hit_swap (hu : exprB ss u = true) (ht : exprB ss t = true) : Hit ss u 0 t ↔ Hit ss t 0 u :=
  ⟨fun h => ⟨expr_ne hu, h.2.1.symm, meets_swap (rest_row hu) h.2.2⟩, fun h => ⟨expr_ne ht, h.2.1.symm, meets_swap (rest_row ht) h.2.2⟩⟩
theorem hit_turn (hu : exprB ss u = true) (ht : exprB ss t = true) : Hit ss u 2 t ↔ Hit ss t 1 u :=
  ⟨fun h => ⟨expr_ne hu, h.2.1.symm, meets_one.2 (meets_two.1 h.2.2)⟩, fun h => ⟨expr_ne ht, h.2.1.symm, meets_two.2 (meets_one.1 h.2.2)⟩⟩
end
/-- Does a number stand in a list? -/
def amongB (xs : List Int) (z : Int) : Bool := decide (z ∈ xs)
theorem Fnd.among {P : Nat → Prop} {n k : Nat} {a : List Int} (h : Fnd P n a) (hk : k < n) : amongB a (k : Int) = true ↔ P k := by
  unfold amongB
  rw [decide_eq_true_iff, h.mem]
  constructor
  · rintro ⟨j, _, h2, h3⟩
    have : j = k := by omega
    rw [← this]; exact h2
  · exact fun hp => ⟨k, hk, hp, rfl⟩
/-- Of one alone. -/
theorem Fnd.one {P : Nat → Prop} {a : List Int} (h : Fnd P 1 a) : (a = [0] ∧ P 0) ∨ (a = [] ∧ ¬ P 0) := by
  cases h with
  | yes h hp => cases h; exact .inl ⟨rfl, hp⟩
  | no h hp => cases h; exact .inr ⟨rfl, hp⟩
theorem findOk_ways (ss : List Sym) (ts : List (List Int)) (t : List Int) : findOk ss ts t 0 = (exprB ss t && ts.all (okRow ss)) ∧ findOk ss ts t 1 = (exprB ss t && ts.all (okRow ss)) ∧ findOk ss ts t 2 = (exprB ss t && ts.all (okRow ss)) := ⟨rfl, rfl, rfl⟩
end Go.Proofs.Ythdpojokogiinaa
