/-
  A law for a scope with three labels that the run jumps to: what holds at each label, with a number that every pass lowers.
-/
import Derived.ScopeJumps
import Derived.WalkMore
namespace Go.Proofs.Ytlmpapdpmmkjnaa
/-- As Q; by a goto to one of three labels: what holds there, with a number below N. -/
def jump3 (J0 J1 J2 : Nat → Act → World → Prop) (N : Nat) (Q : Exit → Act → World → Prop) : Exit → Act → World → Prop
  | .goto 0, a, w => ∃ n, n < N ∧ J0 n a w
  | .goto 1, a, w => ∃ n, n < N ∧ J1 n a w
  | .goto 2, a, w => ∃ n, n < N ∧ J2 n a w
  | .goto _, _, _ => False
  | e, a, w => Q e a w
section
variable {P : Program} {a : Act} {w : World} {Q : Exit → Act → World → Prop} {J0 J1 J2 : Nat → Act → World → Prop} {N : Nat}
theorem jump3_more {N' : Nat} (h : N ≤ N') : ∀ e a w, jump3 J0 J1 J2 N Q e a w → jump3 J0 J1 J2 N' Q e a w := by
  intro e a w hq
  unfold jump3 at *
  split <;> simp_all
  all_goals (obtain ⟨n, h1, h2⟩ := hq; exact ⟨n, by omega, h2⟩)
theorem wp_scope3 {c X0 X1 X2 : Code} (J0 J1 J2 : Nat → Act → World → Prop) (N : Nat) (h0 : findLabel c 0 = some (.seq .skip X0)) (h1 : findLabel c 1 = some (.seq .skip X1)) (h2 : findLabel c 2 = some (.seq .skip X2))
    (pass1 : ∀ n a w, J1 n a w → X1.wp P (jump3 J0 J1 J2 n Q) a w)
    (pass2 : ∀ n a w, J2 n a w → X2.wp P (jump3 J0 J1 J2 n Q) a w)
    (pass0 : (∀ N n a w, n ≤ N → J2 n a w → X2.wp P (jump3 J0 J1 J2 N Q) a w) → ∀ n a w, J0 n a w → X0.wp P (jump3 J0 J1 J2 n Q) a w)
    (first : (∀ n a w, n ≤ N → J0 n a w → X0.wp P (jump3 J0 J1 J2 N Q) a w) → c.wp P (jump3 J0 J1 J2 N Q) a w) : (Code.scope c).wp P Q a w := by
  have p2 : ∀ N n a w, n ≤ N → J2 n a w → X2.wp P (jump3 J0 J1 J2 N Q) a w := fun N n a w h hj => wp_mono (pass2 n a w hj) (jump3_more h)
  have p0 := pass0 p2
  have fst := first fun n a w h hj => wp_mono (p0 n a w hj) (jump3_more h)
  intro b k cs
  have key : ∀ n, (∀ a w, (∃ m, m < n ∧ J0 m a w) → ∃ e a' w', Q e a' w' ∧ Arrives P (lone (b.at a (.code (.seq .skip X0) :: .inScope c :: k)) cs w) b k cs e a' w') ∧
      (∀ a w, (∃ m, m < n ∧ J1 m a w) → ∃ e a' w', Q e a' w' ∧ Arrives P (lone (b.at a (.code (.seq .skip X1) :: .inScope c :: k)) cs w) b k cs e a' w') ∧
      (∀ a w, (∃ m, m < n ∧ J2 m a w) → ∃ e a' w', Q e a' w' ∧ Arrives P (lone (b.at a (.code (.seq .skip X2) :: .inScope c :: k)) cs w) b k cs e a' w') := by
    intro n
    induction n with
    | zero => exact ⟨fun a w ⟨m, h, _⟩ => absurd h (by omega), fun a w ⟨m, h, _⟩ => absurd h (by omega), fun a w ⟨m, h, _⟩ => absurd h (by omega)⟩
    | succ n ih =>
      obtain ⟨i0, i1, i2⟩ := ih
      have go : ∀ X : Code, (∀ a w m, m ≤ n → X.wp P (jump3 J0 J1 J2 m Q) a w → ∃ e a' w', Q e a' w' ∧ Arrives P (lone (b.at a (.code (.seq .skip X) :: .inScope c :: k)) cs w) b k cs e a' w') := by
        intro X a w m hm hX
        obtain ⟨e, a₁, w₁, hq, harr⟩ := (wp_seq (wp_skip (Q := Exit.then (X.wp P (jump3 J0 J1 J2 m Q)) (jump3 J0 J1 J2 m Q)) hX)) b (.inScope c :: k) cs
        cases e with
        | normal => exact ⟨.normal, a₁, w₁, hq, Steps.trans harr (.one step_inScope)⟩
        | exit id => exact ⟨.exit id, a₁, w₁, hq, fun k' hk => harr k' (by simp [exitTo, hk])⟩
        | goto l' =>
          match l', hq, harr with
          | 0, hq, harr =>
            obtain ⟨j, hj, hJ⟩ := hq
            obtain ⟨e₂, a₂, w₂, hq₂, harr₂⟩ := i0 a₁ w₁ ⟨j, by omega, hJ⟩
            exact ⟨e₂, a₂, w₂, hq₂, .of_steps (harr _ (by simp [gotoIn, h0])) harr₂⟩
          | 1, hq, harr =>
            obtain ⟨j, hj, hJ⟩ := hq
            obtain ⟨e₂, a₂, w₂, hq₂, harr₂⟩ := i1 a₁ w₁ ⟨j, by omega, hJ⟩
            exact ⟨e₂, a₂, w₂, hq₂, .of_steps (harr _ (by simp [gotoIn, h1])) harr₂⟩
          | 2, hq, harr =>
            obtain ⟨j, hj, hJ⟩ := hq
            obtain ⟨e₂, a₂, w₂, hq₂, harr₂⟩ := i2 a₁ w₁ ⟨j, by omega, hJ⟩
            exact ⟨e₂, a₂, w₂, hq₂, .of_steps (harr _ (by simp [gotoIn, h2])) harr₂⟩
        | ret => exact ⟨_, a₁, w₁, hq, harr⟩
        | panic ch => exact ⟨_, a₁, w₁, hq, harr⟩
        | outgrown => exact ⟨_, a₁, w₁, hq, harr⟩
      exact ⟨fun a w ⟨m, h, hJ⟩ => go X0 a w m (by omega) (p0 m a w hJ), fun a w ⟨m, h, hJ⟩ => go X1 a w m (by omega) (pass1 m a w hJ), fun a w ⟨m, h, hJ⟩ => go X2 a w m (by omega) (pass2 m a w hJ)⟩
  obtain ⟨e, a₁, w₁, hq, harr⟩ := fst b (.inScope c :: k) cs
  obtain ⟨i0, i1, i2⟩ := key N
  cases e with
  | normal => exact ⟨.normal, a₁, w₁, hq, .head step_scope (Steps.trans harr (.one step_inScope))⟩
  | exit id => exact ⟨.exit id, a₁, w₁, hq, fun k' hk => .head step_scope (harr k' (by simp [exitTo, hk]))⟩
  | goto l' =>
    match l', hq, harr with
    | 0, hq, harr =>
      obtain ⟨e₂, a₂, w₂, hq₂, harr₂⟩ := i0 a₁ w₁ hq
      exact ⟨e₂, a₂, w₂, hq₂, .of_steps (.head step_scope (harr _ (by simp [gotoIn, h0]))) harr₂⟩
    | 1, hq, harr =>
      obtain ⟨e₂, a₂, w₂, hq₂, harr₂⟩ := i1 a₁ w₁ hq
      exact ⟨e₂, a₂, w₂, hq₂, .of_steps (.head step_scope (harr _ (by simp [gotoIn, h1]))) harr₂⟩
    | 2, hq, harr =>
      obtain ⟨e₂, a₂, w₂, hq₂, harr₂⟩ := i2 a₁ w₁ hq
      exact ⟨e₂, a₂, w₂, hq₂, .of_steps (.head step_scope (harr _ (by simp [gotoIn, h2]))) harr₂⟩
  | ret => exact ⟨_, a₁, w₁, hq, .of_steps (.one step_scope) harr⟩
  | panic ch => exact ⟨_, a₁, w₁, hq, .of_steps (.one step_scope) harr⟩
  | outgrown => exact ⟨_, a₁, w₁, hq, .of_steps (.one step_scope) harr⟩
end
end Go.Proofs.Ytlmpapdpmmkjnaa
