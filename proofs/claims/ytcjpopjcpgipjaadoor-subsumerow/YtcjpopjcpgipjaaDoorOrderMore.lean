/-
  Contracts of package order: firstDifferent, more.
-/
import Derived.Test.YtcjpopjcpgipjaaDoorOrderAll
namespace Go.Proofs.YtcjpopjcpgipjaaDoor
open Go.RowKit
set_option linter.unusedSimpArgs false
set_option linter.unusedVariables false
set_option maxRecDepth 100000

theorem scan_term {ss : List Sym} {x u : List Int} (h : trm 24 ss x 1) : scanAt ss (x ++ u) 1 0 = ((x.length : Nat) : Int) := by
  obtain ⟨ms, h1, h2⟩ := tl_of_trm h
  have h3 := scan_front x u h1 1 (by omega)
  have h4 := tl_all _ h1
  have e : ms.take 1 = ms := List.take_of_length_le (by omega)
  rw [e, h4] at h3
  unfold scanAt
  rw [List.drop_zero, h3]
  simp
def sliLen (v : Value) : Nat := match v with | .slice _ n _ => n | _ => 0
/-- Where the rest of a row lies. -/
structure Rest (w : World) (base b1 o1 n1 c1 O L K : Nat) (pa t : List Int) : Prop where
  o : O = o1 + pa.length
  l : L + pa.length = n1
  k : K + pa.length = c1
  row : IntsAt w base (some ⟨b1, O, none⟩) L t
  cap : L ≤ K
  few : L ≤ 48
section
variable {w : World} {base b1 o1 n1 c1 O L K : Nat} {pa t z t' : List Int}
theorem Rest.start (h : RowAt w base (some ⟨b1, o1, none⟩) n1 c1 t) : Rest w base b1 o1 n1 c1 o1 n1 c1 [] t := ⟨rfl, rfl, rfl, h.at_, h.cap, h.few⟩
theorem Rest.drewN (h : Rest w base b1 o1 n1 c1 O L K pa t) (q : Nat) : Rest (w.drewN q) base b1 o1 n1 c1 O L K pa t := ⟨h.o, h.l, h.k, h.row.drewN q, h.cap, h.few⟩
theorem Rest.front (h : Rest w base b1 o1 n1 c1 O L K pa (z ++ t)) : IntsAt w base (some ⟨b1, O, none⟩) z.length z ∧ z.length ≤ L ∧ L = z.length + t.length := by
  have hl := h.row.len
  rw [List.length_append] at hl
  have := h.row.take (i := z.length) (by omega)
  rw [List.take_left] at this
  exact ⟨this, by omega, by omega⟩
theorem Rest.next (h : Rest w base b1 o1 n1 c1 O L K pa (z ++ t)) : Rest w base b1 o1 n1 c1 (O + z.length) (L - z.length) (K - z.length) (pa ++ z) t := by
  have hf := h.front
  have := h.row.drop (k := z.length) (by omega)
  rw [List.drop_left] at this
  have h1 := h.o
  have h2 := h.l
  have h3 := h.k
  have h4 := h.cap
  have h5 := h.few
  exact ⟨by rw [List.length_append]; omega, by rw [List.length_append]; omega, by rw [List.length_append]; omega, this, by omega, by omega⟩
end
theorem ret_tup2 {a b a' b' : Value} (h1 : a = a') (h2 : b = b') : Ending.returned (.tuple #[a, b]) = .returned (.tuple #[a', b']) := by rw [h1, h2]

/-- The slice value '.slice A n c' holds the expression a, below block base. -/
structure ExAt (w : World) (base : Nat) (A : Option Addr) (n c : Nat) (a : List Int) : Prop where
  at_ : IntsAt w base A n a
  cap : n ≤ c
  few : n ≤ 49
section
variable {w w' : World} {base : Nat} {A : Option Addr} {n c : Nat} {a r : List Int} {x : Int}
theorem ExAt.below (h : ExAt w base A n c a) (hb : Below base w w') : ExAt w' base A n c a := ⟨h.at_.below hb, h.cap, h.few⟩
theorem ExAt.head (h : ExAt w base A n c (x :: r)) : ∃ b off, A = some ⟨b, off, none⟩ ∧ b < base ∧ w.cell? ⟨b, off, none⟩ = some (.int .i64 x) ∧ n = r.length + 1 := by
  have hl := h.at_.len
  have hn : n = r.length + 1 := by rw [← hl]; rfl
  obtain ⟨b, off, e, hb, hc⟩ := h.at_.at_ (by omega)
  refine ⟨b, off, e, hb, ?_, hn⟩
  have := hc 0 (by omega)
  rw [Nat.add_zero] at this
  exact this
theorem ExAt.tail {b off : Nat} (h : ExAt w base (some ⟨b, off, none⟩) n c (x :: r)) : RowAt w base (some ⟨b, off + 1, none⟩) (n - 1) (c - 1) r := by
  have hl := h.at_.len
  have hn : n = r.length + 1 := by rw [← hl]; rfl
  have h1 := h.at_.drop (k := 1) (by omega)
  have h2 := h.cap
  have h3 := h.few
  exact ⟨h1, by omega, by omega⟩
end
theorem Ex.cons {ss : List Sym} {a : List Int} (hm : mayB ss = true) (h : Ex ss a) : ∃ c r, a = c :: r := by
  rcases h.shape hm with ⟨v, _, e⟩ | ⟨c, r, e, _⟩
  · exact ⟨_, _, e⟩
  · exact ⟨_, _, e⟩
/-- The same first code: the arguments. -/
theorem Ex.tails {ss : List Sym} {c : Int} {r s : List Int} (hm : mayB ss = true) (ha : Ex ss (c :: r)) (hb : Ex ss (c :: s)) (hne : c :: r ≠ c :: s) : ∃ k, trm 24 ss r k ∧ trm 24 ss s k ∧ r ≠ s := by
  have hrs : r ≠ s := fun e => hne (by rw [e])
  rcases ha.shape hm with ⟨v, _, e⟩ | ⟨c', r', e, h0, h1, h2⟩
  · injection e with e e'
    rcases hb.shape hm with ⟨v', _, f⟩ | ⟨d', s', f, k0, k1, k2⟩
    · injection f with f f'
      rw [e', f'] at hrs
      exact absurd rfl hrs
    · injection f with f f'
      omega
  · injection e with e e'
    subst e; subst e'
    rcases hb.shape hm with ⟨v', _, f⟩ | ⟨d', s', f, k0, k1, k2⟩
    · injection f with f f'
      omega
    · injection f with f f'
      subst f; subst f'
      exact ⟨_, h2, k2, hrs⟩

end Go.Proofs.YtcjpopjcpgipjaaDoor
