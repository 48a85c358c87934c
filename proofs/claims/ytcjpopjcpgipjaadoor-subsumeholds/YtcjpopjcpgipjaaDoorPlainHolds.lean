/-
  Plain words: trivial clauses hold; all things for some variables, one after the other; weights of clauses: no program.
-/
import Derived.Test.YtcjpopjcpgipjaaDoorPlainModel
namespace Go.Proofs.YtcjpopjcpgipjaaDoor
open Go.RowKit
set_option linter.unusedSimpArgs false
set_option linter.unusedVariables false
set_option maxRecDepth 100000

section
variable {ss : List Sym} {m : Md} {c : Cl}
/-- A Lit and its opposite, or a term that is equal to itself. -/
def DullP (ss : List Sym) (c : Cl) : Prop :=
  (∃ l ∈ c.lits, l.neg = false ∧ ∃ t x, l.atom = 0 :: (t ++ t) ∧ tl ss t = some [x]) ∨ (∃ l ∈ c.lits, ∃ k ∈ c.lits, l.atom = k.atom ∧ l.neg ≠ k.neg)
noncomputable def dullB (ss : List Sym) (c : Cl) : Bool := @decide (DullP ss c) (Classical.propDecidable _)
theorem dullB_iff : dullB ss c = true ↔ DullP ss c := by unfold dullB; exact @decide_eq_true_iff _ (Classical.propDecidable _)
theorem MayC.dull_holds (h : MayC ss c) (hd : DullP ss c) : holdsC ss m c := by
  intro env _
  have hl : c.lits.any (litH ss m env) = true := by
    rw [List.any_eq_true]
    rcases hd with ⟨l, hl, hn, t, x, ha, ht⟩ | ⟨l, hl, k, hk, ha, hn⟩
    · refine ⟨l, hl, ?_⟩
      obtain ⟨u, v, h1, h2, h3⟩ := vals_two (m := m) (env := env) h.may ht ht
      have e : u = v := by rw [h2] at h3; injection h3
      unfold litH atomH
      rw [ha, hn]
      show ((if (0 : Int) = 0 then decide (intAt (vals ss m env (t ++ t)) 0 = intAt (vals ss m env (t ++ t)) 1) else _) != false) = true
      rw [if_pos rfl, h1, e]
      show (decide (v = v) != false) = true
      simp
    · cases hq : litH ss m env l
      · refine ⟨k, hk, ?_⟩
        unfold litH at hq ⊢
        rw [← ha]
        revert hq
        cases atomH ss m env l.atom <;> cases e1 : l.neg <;> cases e2 : k.neg <;> simp_all
      · exact ⟨l, hl, hq⟩
  unfold hereC
  rw [hl]; simp
theorem wtSum_nonneg (hm : mayB ss = true) (r : List Int) : 0 ≤ wtSum ss r := by
  induction r with
  | nil => exact Int.le_refl _
  | cons x r ih =>
    show 0 ≤ wtOf ss x + wtSum ss r
    have : 0 ≤ wtOf ss x := by
      unfold wtOf
      split
      · omega
      · by_cases hx : x.toNat < ss.length
        · have := may_bd hm hx; omega
        · have e : symAt ss x.toNat = ⟨ByteArray.empty, 0, 0, 0⟩ := by
            unfold symAt
            rw [List.getD_eq_getElem?_getD, List.getElem?_eq_none (by omega)]; rfl
          rw [e]; exact Int.le_refl _
    omega
/-- The normal clause weighs no more. -/
theorem wtC_norm (hm : mayB ss = true) : wtC ss (norm c) ≤ wtC ss c := by
  unfold wtC
  rw [norm_eq]
  show (((once c.lits).map (renL (plc c))).map fun l => wtSum ss l.atom).sum ≤ _
  rw [List.map_map]
  have e : ((fun l : Lt => wtSum ss l.atom) ∘ renL (plc c)) = fun l => wtSum ss l.atom := by
    funext l; exact wtSum_ren _
  rw [e]
  exact sum_sub _ (once_sub _) fun l _ => wtSum_nonneg hm _
end
/-! ### All things for some variables -/
def upd (env : Nat → Int) (v : Nat) (x : Int) : Nat → Int := fun u => if u = v then x else env u
theorem upd_same (env : Nat → Int) (v : Nat) (x : Int) : upd env v x v = x := by unfold upd; rw [if_pos rfl]
theorem upd_other (env : Nat → Int) {v u : Nat} (x : Int) (h : u ≠ v) : upd env v x u = env u := by unfold upd; rw [if_neg h]
/-- The next things; false: these were the last ones. -/
def nextE (sz : Int) : List Nat → (Nat → Int) → (Nat → Int) × Bool
  | [], env => (env, false)
  | v :: vs, env => if env v + 1 < sz then (upd env v (env v + 1), true) else nextE sz vs (upd env v 0)
/-- Which things these are, as one number. -/
def numE (sz : Int) : List Nat → (Nat → Int) → Int
  | [], _ => 0
  | v :: vs, env => env v + sz * numE sz vs env
section
variable {sz : Int} {vs : List Nat} {a b env : Nat → Int}
theorem numE_on (h : ∀ v ∈ vs, a v = b v) : numE sz vs a = numE sz vs b := by
  induction vs with
  | nil => rfl
  | cons v vs ih => unfold numE; rw [h v (List.mem_cons_self ..), ih fun u hu => h u (List.mem_cons_of_mem _ hu)]
theorem numE_upd {v : Nat} {x : Int} (h : v ∉ vs) : numE sz vs (upd a v x) = numE sz vs a := numE_on fun u hu => upd_other _ _ (fun e => h (by rw [← e]; exact hu))
theorem next_yes (hd : vs.Nodup) (hok : ∀ v ∈ vs, 0 ≤ env v ∧ env v < sz) {env' : Nat → Int} (h : nextE sz vs env = (env', true)) :
    numE sz vs env' = numE sz vs env + 1 ∧ (∀ v ∈ vs, 0 ≤ env' v ∧ env' v < sz) ∧ ∀ v, v ∉ vs → env' v = env v := by
  induction vs generalizing env with
  | nil => cases h
  | cons v vs ih =>
    rw [List.nodup_cons] at hd
    have hv := hok v (List.mem_cons_self ..)
    unfold nextE at h
    by_cases hl : env v + 1 < sz
    · rw [if_pos hl] at h
      injection h with h _
      subst h
      refine ⟨?_, fun u hu => ?_, fun u hu => upd_other _ _ (fun e => hu (by rw [e]; exact List.mem_cons_self ..))⟩
      · unfold numE; rw [upd_same, numE_upd hd.1]; omega
      · by_cases e : u = v
        · rw [e, upd_same]; omega
        · rw [upd_other _ _ e]; exact hok u hu
    · rw [if_neg hl] at h
      have hok' : ∀ u ∈ vs, 0 ≤ upd env v 0 u ∧ upd env v 0 u < sz := fun u hu => by
        rw [upd_other _ _ (fun e => hd.1 (by rw [← e]; exact hu))]; exact hok u (List.mem_cons_of_mem _ hu)
      obtain ⟨h1, h2, h3⟩ := ih hd.2 hok' h
      have e0 : env' v = 0 := by rw [h3 v hd.1, upd_same]
      refine ⟨?_, fun u hu => ?_, fun u hu => ?_⟩
      · unfold numE
        rw [e0, h1, numE_upd hd.1, Int.mul_add, Int.mul_one]
        omega
      · rcases List.mem_cons.1 hu with e | hu
        · rw [e, e0]; omega
        · exact h2 u hu
      · have hne : u ≠ v := fun e => hu (by rw [e]; exact List.mem_cons_self ..)
        rw [h3 u (fun q => hu (List.mem_cons_of_mem _ q)), upd_other _ _ hne]
theorem next_no (hd : vs.Nodup) (hok : ∀ v ∈ vs, 0 ≤ env v ∧ env v < sz) {env' : Nat → Int} (h : nextE sz vs env = (env', false)) : ∀ v ∈ vs, env v = sz - 1 := by
  induction vs generalizing env with
  | nil => intro v hv; cases hv
  | cons v vs ih =>
    rw [List.nodup_cons] at hd
    have hv := hok v (List.mem_cons_self ..)
    unfold nextE at h
    by_cases hl : env v + 1 < sz
    · rw [if_pos hl] at h; injection h with _ h; cases h
    · rw [if_neg hl] at h
      have hoth : ∀ u ∈ vs, upd env v 0 u = env u := fun u hu => upd_other _ _ (fun e => hd.1 (by rw [← e]; exact hu))
      have := ih hd.2 (fun u hu => by rw [hoth u hu]; exact hok u (List.mem_cons_of_mem _ hu)) h
      intro u hu
      rcases List.mem_cons.1 hu with e | hu
      · rw [e]; omega
      · rw [← hoth u hu]; exact this u hu
theorem numE_nonneg (ha : ∀ v ∈ vs, 0 ≤ a v ∧ a v < sz) : 0 ≤ numE sz vs a := by
  induction vs with
  | nil => exact Int.le_refl _
  | cons v vs ih =>
    have h1 := ha v (List.mem_cons_self ..)
    have h2 := ih fun u hu => ha u (List.mem_cons_of_mem _ hu)
    unfold numE
    have := Int.mul_nonneg (by omega : 0 ≤ sz) h2
    omega
theorem numE_inj (ha : ∀ v ∈ vs, 0 ≤ a v ∧ a v < sz) (hb : ∀ v ∈ vs, 0 ≤ b v ∧ b v < sz) (h : numE sz vs a = numE sz vs b) : ∀ v ∈ vs, a v = b v := by
  induction vs with
  | nil => intro v hv; cases hv
  | cons v vs ih =>
    have h1 := ha v (List.mem_cons_self ..)
    have h2 := hb v (List.mem_cons_self ..)
    unfold numE at h
    have e1 : a v = (a v + sz * numE sz vs a) % sz := by rw [Int.add_mul_emod_self_left, Int.emod_eq_of_lt h1.1 h1.2]
    have e2 : b v = (b v + sz * numE sz vs b) % sz := by rw [Int.add_mul_emod_self_left, Int.emod_eq_of_lt h2.1 h2.2]
    have e3 : a v = b v := by rw [e1, e2, h]
    have e4 : sz * numE sz vs a = sz * numE sz vs b := by omega
    have e5 := Int.eq_of_mul_eq_mul_left (by omega : sz ≠ 0) e4
    intro u hu
    rcases List.mem_cons.1 hu with e | hu
    · rw [e]; exact e3
    · exact ih (fun u hu => ha u (List.mem_cons_of_mem _ hu)) (fun u hu => hb u (List.mem_cons_of_mem _ hu)) e5 u hu
theorem numE_le (hsz : 1 ≤ sz) (ha : ∀ v ∈ vs, 0 ≤ a v ∧ a v < sz) (hb : ∀ v ∈ vs, b v = sz - 1) : numE sz vs a ≤ numE sz vs b := by
  induction vs with
  | nil => exact Int.le_refl _
  | cons v vs ih =>
    have h1 := ha v (List.mem_cons_self ..)
    have h2 := hb v (List.mem_cons_self ..)
    have h3 := ih (fun u hu => ha u (List.mem_cons_of_mem _ hu)) (fun u hu => hb u (List.mem_cons_of_mem _ hu))
    unfold numE
    have := Int.mul_le_mul_of_nonneg_left h3 (by omega : 0 ≤ sz)
    omega
end
section
variable {ss : List Sym} {m : Md} {c : Cl} {vs : List Nat} {env : Nat → Int}
/-- All things up to these have been looked at. -/
def DoneE (ss : List Sym) (m : Md) (c : Cl) (vs : List Nat) (env : Nat → Int) : Prop :=
  ∀ a : Nat → Int, (∀ v ∈ vs, 0 ≤ a v ∧ a v < m.size) → numE m.size vs a < numE m.size vs env → hereC ss m a c = true
theorem DoneE.start (hz : ∀ v ∈ vs, env v = 0) (hsz : 1 ≤ m.size) : DoneE ss m c vs env := by
  intro a ha h
  have h0 := numE_nonneg ha
  have : numE m.size vs env = 0 := by
    clear h ha h0
    induction vs with
    | nil => rfl
    | cons v vs ih => unfold numE; rw [hz v (List.mem_cons_self ..), ih fun u hu => hz u (List.mem_cons_of_mem _ hu)]; simp
  omega
theorem DoneE.next (hd : vs.Nodup) (hvs : ∀ v ∈ vrs (codesC c), v ∈ vs) (hok : ∀ v ∈ vs, 0 ≤ env v ∧ env v < m.size) (h : DoneE ss m c vs env) (hh : hereC ss m env c = true) {env' : Nat → Int} (hn : nextE m.size vs env = (env', true)) : DoneE ss m c vs env' := by
  obtain ⟨h1, _, _⟩ := next_yes hd hok hn
  intro a ha q
  by_cases e : numE m.size vs a = numE m.size vs env
  · rw [hereC_on (env' := env) fun v hv => numE_inj ha hok e v (hvs v hv)]; exact hh
  · exact h a ha (by omega)
theorem DoneE.all (hd : vs.Nodup) (hvs : ∀ v ∈ vrs (codesC c), v ∈ vs) (hsz : 1 ≤ m.size) (hok : ∀ v ∈ vs, 0 ≤ env v ∧ env v < m.size) (h : DoneE ss m c vs env) (hh : hereC ss m env c = true) {env' : Nat → Int} (hn : nextE m.size vs env = (env', false)) : holdsC ss m c := by
  have hmax := next_no hd hok hn
  intro a ha
  have hle := numE_le hsz (a := a) (fun v _ => ha v) hmax
  by_cases e : numE m.size vs a = numE m.size vs env
  · rw [hereC_on (env' := env) fun v hv => numE_inj (fun v _ => ha v) hok e v (hvs v hv)]; exact hh
  · exact h a (fun v _ => ha v) (by omega)
end
end Go.Proofs.YtcjpopjcpgipjaaDoor
