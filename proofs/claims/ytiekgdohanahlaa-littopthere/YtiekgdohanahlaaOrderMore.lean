/-
  Contracts of package order: firstDifferent, more.
-/
import Derived.Test.YtiekgdohanahlaaOrderAll
namespace Go.Proofs.Ytiekgdohanahlaa
open Go.RowKit
set_option linter.unusedSimpArgs false
set_option linter.unusedVariables false
set_option maxRecDepth 100000

theorem scan_term {ss : List Sym} {x u : List Int} (h : trm 24 ss x 1) : scanAt ss (x ++ u) 1 0 = ((x.length : Nat) : Int) := by
  obtain ⟨ms, h1, h2⟩ := tl_of_trm h
  have h3 := scan_front x u h1 1 (by omega)
  have h4 := tl_all _ h1
  have e : ms.take 1 = ms := List.take_of_length_le (by omega)
  rw [e, h4] at h3
  unfold scanAt
  rw [List.drop_zero, h3]
  simp
def sliLen (v : Value) : Nat := match v with | .slice _ n _ => n | _ => 0
/-- Where the rest of a row lies. -/
structure Rest (w : World) (base b1 o1 n1 c1 O L K : Nat) (pa t : List Int) : Prop where
  o : O = o1 + pa.length
  l : L + pa.length = n1
  k : K + pa.length = c1
  row : IntsAt w base (some ⟨b1, O, none⟩) L t
  cap : L ≤ K
  few : L ≤ 48
section
variable {w : World} {base b1 o1 n1 c1 O L K : Nat} {pa t z t' : List Int}
theorem Rest.start (h : RowAt w base (some ⟨b1, o1, none⟩) n1 c1 t) : Rest w base b1 o1 n1 c1 o1 n1 c1 [] t := ⟨rfl, rfl, rfl, h.at_, h.cap, h.few⟩
theorem Rest.drewN (h : Rest w base b1 o1 n1 c1 O L K pa t) (q : Nat) : Rest (w.drewN q) base b1 o1 n1 c1 O L K pa t := ⟨h.o, h.l, h.k, h.row.drewN q, h.cap, h.few⟩
theorem Rest.front (h : Rest w base b1 o1 n1 c1 O L K pa (z ++ t)) : IntsAt w base (some ⟨b1, O, none⟩) z.length z ∧ z.length ≤ L ∧ L = z.length + t.length := by
  have hl := h.row.len
  rw [List.length_append] at hl
  have := h.row.take (i := z.length) (by omega)
  rw [List.take_left] at this
  exact ⟨this, by omega, by omega⟩
theorem Rest.next (h : Rest w base b1 o1 n1 c1 O L K pa (z ++ t)) : Rest w base b1 o1 n1 c1 (O + z.length) (L - z.length) (K - z.length) (pa ++ z) t := by
  have hf := h.front
  have := h.row.drop (k := z.length) (by omega)
  rw [List.drop_left] at this
  have h1 := h.o
  have h2 := h.l
  have h3 := h.k
  have h4 := h.cap
  have h5 := h.few
  exact ⟨by rw [List.length_append]; omega, by rw [List.length_append]; omega, by rw [List.length_append]; omega, this, by omega, by omega⟩
end
theorem ret_tup2 {a b a' b' : Value} (h1 : a = a') (h2 : b = b') : Ending.returned (.tuple #[a, b]) = .returned (.tuple #[a', b']) := by rw [h1, h2]

set_option maxHeartbeats 1000000 in
theorem firstDiff_quiet (A : Option Addr) (n c base b1 o1 n1 c1 b2 o2 n2 c2 j : Nat) (ss : List Sym) (p x y u v : List Int) (w : World) (h : SymsAt w base A n ss) (hn : n ≤ maxLen) (hmay : mayB ss = true)
    (hr : RowAt w base (some ⟨b1, o1, none⟩) n1 c1 (p ++ (x ++ u))) (hs : RowAt w base (some ⟨b2, o2, none⟩) n2 c2 (p ++ (y ++ v))) (hp : trm 24 ss p j) (hx : trm 24 ss x 1) (hy : trm 24 ss y 1) (hne : x ≠ y) :
    Calls Try.prog 59 #[.slice A n c, .slice (some ⟨b1, o1, none⟩) n1 c1, .slice (some ⟨b2, o2, none⟩) n2 c2] w fun e w' =>
      e = .returned (.tuple #[.slice (some ⟨b1, o1 + p.length, none⟩) x.length (c1 - p.length), .slice (some ⟨b2, o2 + p.length, none⟩) y.length (c2 - p.length)]) ∧ ∃ q, w' = w.drewN q := by
  have HS := Lib.hid h
  have HN := Lib.hid hn
  have HM := Lib.hid hmay
  have HX := Lib.hid hx
  have HY := Lib.hid hy
  have HNE := Lib.hid hne
  have HR0 := Lib.hid (Rest.start hr)
  have HS0 := Lib.hid (Rest.start hs)
  have HP0 := Lib.hid hp
  clear h hn hmay hx hy hne hr hs hp
  go_enter Try.func59, Try.ntmps59
  go_wp2_with fail
  go_loopw [1, 2] (fun v1 v2 wr => ∃ (O1 L1 K1 O2 L2 K2 k q : Nat) (pa pr : List Int), v1 = .slice (some ⟨b1, O1, none⟩) L1 K1 ∧ v2 = .slice (some ⟨b2, O2, none⟩) L2 K2 ∧ wr = w.drewN q ∧ p = pa ++ pr ∧ trm 24 ss pr k ∧ Rest wr base b1 o1 n1 c1 O1 L1 K1 pa (pr ++ (x ++ u)) ∧ Rest wr base b2 o2 n2 c2 O2 L2 K2 pa (pr ++ (y ++ v))) (fun v1 _ _ => sliLen v1)
  case atStart => exact ⟨o1, n1, c1, o2, n2, c2, j, 0, [], p, rfl, rfl, rfl, rfl, HP0.out, HR0.out, HS0.out⟩
  case round =>
    obtain ⟨O1, L1, K1, O2, L2, K2, k, q, pa, pr, rfl, rfl, hwr, hpp, htr, hr1, hr2⟩ := hrel
    have HWR := Lib.hid hwr
    have HSR : Hid (SymsAt wr base A n ss) := by rw [hwr]; exact HS.out.drewN q
    clear hwr
    have HPP := Lib.hid hpp
    have HTR := Lib.hid htr
    have HR1 := Lib.hid hr1
    have HR2 := Lib.hid hr2
    have l1 := hr1.few
    have l2 := hr2.few
    have k1 := hr1.cap
    have k2 := hr2.cap
    clear hpp htr hr1 hr2
    by_cases hk : k = 0
    · have HPR : Hid (pr = []) := by
        have := HTR.out
        rw [hk] at this
        exact trm_zero this
      have HR1' : Hid (Rest wr base b1 o1 n1 c1 O1 L1 K1 pa (x ++ u)) := by have := HR1.out; rw [HPR.out] at this; exact this
      have HR2' : Hid (Rest wr base b2 o2 n2 c2 O2 L2 K2 pa (y ++ v)) := by have := HR2.out; rw [HPR.out] at this; exact this
      clear HR1 HR2
      obtain ⟨E1, hE1⟩ : ∃ E, E = x.length := ⟨_, rfl⟩
      obtain ⟨E2, hE2⟩ : ∃ E, E = y.length := ⟨_, rfl⟩
      have e1 : E1 ≤ L1 := by have := HR1'.out.front.2.1; omega
      have e2 : E2 ≤ L2 := by have := HR2'.out.front.2.1; omega
      have HF1 : Hid (IntsAt wr base (some ⟨b1, O1, none⟩) E1 x) := by have := HR1'.out.front.1; rw [← hE1] at this; exact this
      have HF2 : Hid (IntsAt wr base (some ⟨b2, O2, none⟩) E2 y) := by have := HR2'.out.front.1; rw [← hE2] at this; exact this
      have HSC1 : Hid (scanAt ss (x ++ u) 1 0 = (E1 : Int)) := by rw [hE1]; exact scan_term HX.out
      have HSC2 : Hid (scanAt ss (y ++ v) 1 0 = (E2 : Int)) := by rw [hE2]; exact scan_term HY.out
      have HSAME : Hid (sameI x y = false) := by
        show sameI x y = false
        unfold sameI
        exact decide_eq_false HNE.out
      have HQ1 : Hid (Value.slice (some ⟨b1, O1, none⟩) E1 K1 = .slice (some ⟨b1, o1 + p.length, none⟩) x.length (c1 - p.length)) := by
        have h1 := HR1'.out.o
        have h2 := HR1'.out.k
        have h3 : p.length = pa.length := by rw [HPP.out, HPR.out, List.append_nil]
        show Value.slice _ _ _ = Value.slice _ _ _
        rw [hE1, h1, h3, show c1 - pa.length = K1 by omega]
      have HQ2 : Hid (Value.slice (some ⟨b2, O2, none⟩) E2 K2 = .slice (some ⟨b2, o2 + p.length, none⟩) y.length (c2 - p.length)) := by
        have h1 := HR2'.out.o
        have h2 := HR2'.out.k
        have h3 : p.length = pa.length := by rw [HPP.out, HPR.out, List.append_nil]
        show Value.slice _ _ _ = Value.slice _ _ _
        rw [hE2, h1, h3, show c2 - pa.length = K2 by omega]
      clear hE1 hE2 hk
      have z1 : (E1 : Int) ≤ (L1 : Int) := by omega
      have z2 : (E2 : Int) ≤ (L2 : Int) := by omega
      have y1 : (E1 : Int) ≤ (K1 : Int) := by omega
      have y2 : (E2 : Int) ≤ (K2 : Int) := by omega
      have y3 : (0 : Int) ≤ (E1 : Int) := by omega
      have y4 : (0 : Int) ≤ (E2 : Int) := by omega
      have y5 : E1 ≤ K1 := by omega
      have y6 : E2 ≤ K2 := by omega
      go_wp2_with fail
      refine (firstTerm_any A _ n c L1 K1 base base E1 ss (x ++ u) wr HSR.out HN.out HR1'.out.row (by omega) HM.out HSC1.out).mono ?_
      rintro e w1 ⟨rfl, rfl⟩
      go_wp2_with fail
      refine (firstTerm_any A _ n c L2 K2 base base E2 ss (y ++ v) wr HSR.out HN.out HR2'.out.row (by omega) HM.out HSC2.out).mono ?_
      rintro e w1 ⟨rfl, rfl⟩
      go_wp2_with fail
      go_quiet ((go_at_call 47; exact equal_still (some ⟨b1, O1, none⟩) (some ⟨b2, O2, none⟩) E1 K1 E2 K2 base base _ x y wr HF1.out HF2.out (by unfold maxLen; omega) (by unfold maxLen; omega) HSAME.out))
      go_wp2_with fail
      go_quiet (fail)
      go_wp2
      go_ret2
      exact ⟨ret_tup2 HQ1.out HQ2.out, _, by rw [HWR.out, World.drewN_drewN, World.drewN_drewN]⟩
    · obtain ⟨k', hk'⟩ : ∃ k', k = 1 + k' := ⟨k - 1, by omega⟩
      subst hk'
      obtain ⟨z, pr', hz, hz1, hz2⟩ := trm_split HTR.out
      subst hz
      have HZ1 := Lib.hid hz1
      have HZ2 := Lib.hid hz2
      have hzp := trm_pos hz1
      have HR1' : Hid (Rest wr base b1 o1 n1 c1 O1 L1 K1 pa (z ++ (pr' ++ (x ++ u)))) := by have := HR1.out; rw [List.append_assoc] at this; exact this
      have HR2' : Hid (Rest wr base b2 o2 n2 c2 O2 L2 K2 pa (z ++ (pr' ++ (y ++ v)))) := by have := HR2.out; rw [List.append_assoc] at this; exact this
      clear HR1 HR2 hz1 hz2 hk
      obtain ⟨E1, hE1⟩ : ∃ E, E = z.length := ⟨_, rfl⟩
      have e1 : E1 ≤ L1 := by have := HR1'.out.front.2.1; omega
      have e2 : E1 ≤ L2 := by have := HR2'.out.front.2.1; omega
      have e0 : 1 ≤ E1 := by omega
      have HF1 : Hid (IntsAt wr base (some ⟨b1, O1, none⟩) E1 z) := by have := HR1'.out.front.1; rw [← hE1] at this; exact this
      have HF2 : Hid (IntsAt wr base (some ⟨b2, O2, none⟩) E1 z) := by have := HR2'.out.front.1; rw [← hE1] at this; exact this
      have HSC1 : Hid (scanAt ss (z ++ (pr' ++ (x ++ u))) 1 0 = (E1 : Int)) := by rw [hE1]; exact scan_term HZ1.out
      have HSC2 : Hid (scanAt ss (z ++ (pr' ++ (y ++ v))) 1 0 = (E1 : Int)) := by rw [hE1]; exact scan_term HZ1.out
      have HSAME : Hid (sameI z z = true) := sameI_self _
      have HN1 : Hid (Rest wr base b1 o1 n1 c1 (O1 + E1) (L1 - E1) (K1 - E1) (pa ++ z) (pr' ++ (x ++ u))) := by rw [hE1]; exact HR1'.out.next
      have HN2 : Hid (Rest wr base b2 o2 n2 c2 (O2 + E1) (L2 - E1) (K2 - E1) (pa ++ z) (pr' ++ (y ++ v))) := by rw [hE1]; exact HR2'.out.next
      have HPP' : Hid (p = (pa ++ z) ++ pr') := by have := HPP.out; rw [← List.append_assoc] at this; exact this
      have g1 : E1 < L1 := by have := HR1'.out.front.2.2; have := trm_pos HX.out; simp only [List.length_append] at *; omega
      have g2 : E1 < L2 := by have := HR2'.out.front.2.2; have := trm_pos HY.out; simp only [List.length_append] at *; omega
      have g3 : ¬ K1 = E1 := by omega
      have g4 : ¬ K2 = E1 := by omega
      clear hE1 hzp
      have z1 : (E1 : Int) ≤ (L1 : Int) := by omega
      have z2 : (E1 : Int) ≤ (L2 : Int) := by omega
      have y1 : (E1 : Int) ≤ (K1 : Int) := by omega
      have y2 : (E1 : Int) ≤ (K2 : Int) := by omega
      have y3 : (0 : Int) ≤ (E1 : Int) := by omega
      have y5 : E1 ≤ K1 := by omega
      have y6 : E1 ≤ K2 := by omega
      go_wp2_with fail
      refine (firstTerm_any A _ n c L1 K1 base base E1 ss (z ++ (pr' ++ (x ++ u))) wr HSR.out HN.out HR1'.out.row (by omega) HM.out HSC1.out).mono ?_
      rintro e w1 ⟨rfl, rfl⟩
      go_wp2_with fail
      refine (firstTerm_any A _ n c L2 K2 base base E1 ss (z ++ (pr' ++ (y ++ v))) wr HSR.out HN.out HR2'.out.row (by omega) HM.out HSC2.out).mono ?_
      rintro e w1 ⟨rfl, rfl⟩
      go_wp2_with fail
      go_quiet ((go_at_call 47; exact equal_still (some ⟨b1, O1, none⟩) (some ⟨b2, O2, none⟩) E1 K1 E1 K2 base base _ z z wr HF1.out HF2.out (by unfold maxLen; omega) (by unfold maxLen; omega) HSAME.out))
      go_wp2_with fail
      go_quiet (fail)
      go_wp2
      go_roundw
      case rel => exact ⟨_, _, _, _, _, _, k', _, pa ++ z, pr', rfl, rfl, by rw [HWR.out, World.drewN_drewN, World.drewN_drewN], HPP'.out, HZ2.out, (HN1.out.drewN _).drewN _, (HN2.out.drewN _).drewN _⟩
      case measure => simp [sliLen]; omega

theorem firstDiff_still (A : Option Addr) (n c base b1 o1 n1 c1 b2 o2 n2 c2 j q : Nat) (ss : List Sym) (p x y u v : List Int) (w : World) (h : SymsAt w base A n ss) (hn : n ≤ maxLen) (hmay : mayB ss = true)
    (hr : RowAt w base (some ⟨b1, o1, none⟩) n1 c1 (p ++ (x ++ u))) (hs : RowAt w base (some ⟨b2, o2, none⟩) n2 c2 (p ++ (y ++ v))) (hp : trm 24 ss p j) (hx : trm 24 ss x 1) (hy : trm 24 ss y 1) (hne : x ≠ y) (O1 K1 O2 K2 E1 E2 : Nat)
    (e1 : Value.slice (some ⟨b1, o1 + p.length, none⟩) x.length (c1 - p.length) = .slice (some ⟨b1, O1, none⟩) E1 K1) (e2 : Value.slice (some ⟨b2, o2 + p.length, none⟩) y.length (c2 - p.length) = .slice (some ⟨b2, O2, none⟩) E2 K2) :
    Calls Try.prog 59 #[.slice A n c, .slice (some ⟨b1, o1, none⟩) n1 c1, .slice (some ⟨b2, o2, none⟩) n2 c2] (w.drewN q) fun e w' =>
      e = .returned (.tuple #[.slice (some ⟨b1, O1, none⟩) E1 K1, .slice (some ⟨b2, O2, none⟩) E2 K2]) ∧ ∃ q, w' = w.drewN q := by
  rw [← e1, ← e2]
  refine (firstDiff_quiet A n c base b1 o1 n1 c1 b2 o2 n2 c2 j ss p x y u v (w.drewN q) (h.drewN q) hn hmay ⟨hr.at_.drewN q, hr.cap, hr.few⟩ ⟨hs.at_.drewN q, hs.cap, hs.few⟩ hp hx hy hne).mono fun e w' ⟨h1, k, h2⟩ => ⟨h1, q + k, ?_⟩
  rw [h2]
  simp [World.drewN, Nat.add_assoc]

/-- The slice value '.slice A n c' holds the expression a, below block base. -/
structure ExAt (w : World) (base : Nat) (A : Option Addr) (n c : Nat) (a : List Int) : Prop where
  at_ : IntsAt w base A n a
  cap : n ≤ c
  few : n ≤ 49
section
variable {w w' : World} {base : Nat} {A : Option Addr} {n c : Nat} {a r : List Int} {x : Int}
theorem ExAt.below (h : ExAt w base A n c a) (hb : Below base w w') : ExAt w' base A n c a := ⟨h.at_.below hb, h.cap, h.few⟩
theorem ExAt.head (h : ExAt w base A n c (x :: r)) : ∃ b off, A = some ⟨b, off, none⟩ ∧ b < base ∧ w.cell? ⟨b, off, none⟩ = some (.int .i64 x) ∧ n = r.length + 1 := by
  have hl := h.at_.len
  have hn : n = r.length + 1 := by rw [← hl]; rfl
  obtain ⟨b, off, e, hb, hc⟩ := h.at_.at_ (by omega)
  refine ⟨b, off, e, hb, ?_, hn⟩
  have := hc 0 (by omega)
  rw [Nat.add_zero] at this
  exact this
theorem ExAt.tail {b off : Nat} (h : ExAt w base (some ⟨b, off, none⟩) n c (x :: r)) : RowAt w base (some ⟨b, off + 1, none⟩) (n - 1) (c - 1) r := by
  have hl := h.at_.len
  have hn : n = r.length + 1 := by rw [← hl]; rfl
  have h1 := h.at_.drop (k := 1) (by omega)
  have h2 := h.cap
  have h3 := h.few
  exact ⟨h1, by omega, by omega⟩
end
theorem Ex.cons {ss : List Sym} {a : List Int} (hm : mayB ss = true) (h : Ex ss a) : ∃ c r, a = c :: r := by
  rcases h.shape hm with ⟨v, _, e⟩ | ⟨c, r, e, _⟩
  · exact ⟨_, _, e⟩
  · exact ⟨_, _, e⟩
/-- The same first code: the arguments. -/
theorem Ex.tails {ss : List Sym} {c : Int} {r s : List Int} (hm : mayB ss = true) (ha : Ex ss (c :: r)) (hb : Ex ss (c :: s)) (hne : c :: r ≠ c :: s) : ∃ k, trm 24 ss r k ∧ trm 24 ss s k ∧ r ≠ s := by
  have hrs : r ≠ s := fun e => hne (by rw [e])
  rcases ha.shape hm with ⟨v, _, e⟩ | ⟨c', r', e, h0, h1, h2⟩
  · injection e with e e'
    rcases hb.shape hm with ⟨v', _, f⟩ | ⟨d', s', f, k0, k1, k2⟩
    · injection f with f f'
      rw [e', f'] at hrs
      exact absurd rfl hrs
    · injection f with f f'
      omega
  · injection e with e e'
    subst e; subst e'
    rcases hb.shape hm with ⟨v', _, f⟩ | ⟨d', s', f, k0, k1, k2⟩
    · injection f with f f'
      omega
    · injection f with f f'
      subst f; subst f'
      exact ⟨_, h2, k2, hrs⟩

set_option maxHeartbeats 1000000 in
theorem more_any (A A1 A2 : Option Addr) (n c n1 c1 n2 c2 : Nat) (ss : List Sym) (a b : List Int) (w : World) (h : SymsAt w w.heap.size A n ss) (hn : n ≤ maxLen) (hmay : mayB ss = true) (ha : ExAt w w.heap.size A1 n1 c1 a) (hb : ExAt w w.heap.size A2 n2 c2 b) (exa : Ex ss a) (exb : Ex ss b) (hne : a ≠ b) :
    Calls Try.prog 48 #[.slice A n c, .slice A1 n1 c1, .slice A2 n2 c2] w fun e w' => e = .returned (.bool (morB ss a b)) ∧ Below w.heap.size w w' := by
  have HS := Lib.hid h
  have HN := Lib.hid hn
  have HM := Lib.hid hmay
  have HA := Lib.hid ha
  have HB := Lib.hid hb
  have HXA := Lib.hid exa
  have HXB := Lib.hid exb
  have HNE := Lib.hid hne
  clear h hn hmay ha hb exa exb hne
  go_enter Try.func48, Try.ntmps48
  go_wp2_with fail
  go_loopw [1, 2] (fun v1 v2 wr => ∃ (B1 B2 : Option Addr) (m1 d1 m2 d2 : Nat) (x y : List Int), v1 = .slice B1 m1 d1 ∧ v2 = .slice B2 m2 d2 ∧ ExAt wr w.heap.size B1 m1 d1 x ∧ ExAt wr w.heap.size B2 m2 d2 y ∧ Ex ss x ∧ Ex ss y ∧ x ≠ y ∧ morB ss x y = morB ss a b ∧ Below w.heap.size w wr) (fun v1 _ _ => sliLen v1)
  case atStart => exact ⟨_, _, _, _, _, _, a, b, rfl, rfl, HA.out, HB.out, HXA.out, HXB.out, HNE.out, rfl, Below.refl _ _⟩
  case round =>
    obtain ⟨B1, B2, m1, d1, m2, d2, x, y, rfl, rfl, hx, hy, exx, exy, hxy, hmor, hbw⟩ := hrel
    obtain ⟨c0, r, rfl⟩ := exx.cons HM.out
    obtain ⟨d0, s, rfl⟩ := exy.cons HM.out
    have HX := Lib.hid hx
    have HY := Lib.hid hy
    have HXX := Lib.hid exx
    have HXY := Lib.hid exy
    have HNXY := Lib.hid hxy
    have HMOR := Lib.hid hmor
    have HBW := Lib.hid hbw
    have hsz := hbw.size
    have f1 := hx.few
    have f2 := hy.few
    have g1 := hx.cap
    have g2 := hy.cap
    clear hx hy exx exy hxy hmor hbw
    go_wp2_with fail
    refine (hasVars_any B1 B2 m1 d1 m2 d2 (c0 :: r) (d0 :: s) wr (HX.out.at_.more hsz) (HY.out.at_.more hsz) f1 f2 HXX.out.ge HXY.out.ge).mono ?_
    rintro e w1 ⟨rfl, hb1⟩
    have HX1 := Lib.hid (HX.out.below (hb1.mono hsz))
    have HY1 := Lib.hid (HY.out.below (hb1.mono hsz))
    have HB1 := Lib.hid (HBW.out.trans (hb1.mono hsz))
    have HS1 := Lib.hid (HS.out.below HB1.out)
    clear HX HY HBW hb1 hsz
    cases ho : oftB (c0 :: r) (d0 :: s)
    · have H : Hid (morB ss a b = false) := by show morB ss a b = false; rw [← HMOR.out]; exact mor_oft HXY.out.ge ho
      go_wp2
      go_ret
      exact ⟨ret_b H.out.symm, HB1.out⟩
    · have HO := Lib.hid ((oftB_iff HXY.out.ge).1 ho)
      clear ho
      go_wp2_with fail
      refine (weightO_any A B1 n c m1 d1 _ _ ss (c0 :: r) w1 HS1.out HX1.out.at_ HM.out (HXX.out.codes HM.out) f1).mono ?_
      rintro e w2 ⟨rfl, rfl⟩
      go_wp2_with fail
      refine (weightO_any A B2 n c m2 d2 _ _ ss (d0 :: s) w1 HS1.out HY1.out.at_ HM.out (HXY.out.codes HM.out) f2).mono ?_
      rintro e w2 ⟨rfl, rfl⟩
      obtain ⟨W1, hW1⟩ : ∃ W, W = wtSum ss (c0 :: r) := ⟨_, rfl⟩
      obtain ⟨W2, hW2⟩ : ∃ W, W = wtSum ss (d0 :: s) := ⟨_, rfl⟩
      have HW1 := Lib.hid hW1
      have HW2 := Lib.hid hW2
      rw [← hW1, ← hW2]
      clear hW1 hW2
      by_cases hlt : W2 < W1
      · have H : Hid (morB ss a b = true) := by show morB ss a b = true; rw [← HMOR.out]; exact mor_heavy HO.out (by rw [← HW1.out, ← HW2.out]; exact hlt)
        have q1 : (W1 != W2) = true := by simp; omega
        have q2 : ¬ W1 = W2 := by omega
        go_wp2
        go_ret
        exact ⟨ret_b H.out.symm, HB1.out⟩
      · by_cases hgt : W1 < W2
        · have H : Hid (morB ss a b = false) := by show morB ss a b = false; rw [← HMOR.out]; exact mor_light (by rw [← HW1.out, ← HW2.out]; exact hgt)
          have q1 : (W1 != W2) = true := by simp; omega
          have q2 : ¬ W1 = W2 := by omega
          go_wp2
          go_ret
          exact ⟨ret_b ((decide_eq_false (by omega)).trans H.out.symm), HB1.out⟩
        · obtain rfl : W1 = W2 := by omega
          have HWW : Hid (wtSum ss (c0 :: r) = wtSum ss (d0 :: s)) := by show wtSum ss (c0 :: r) = _; rw [← HW1.out, HW2.out]
          clear HW1 HW2 hlt hgt
          obtain ⟨b1, o1, rfl, _, hc1, hm1⟩ := HX1.out.head
          obtain ⟨b2, o2, rfl, _, hc2, hm2⟩ := HY1.out.head
          have z1 : (0 : Int) < (m1 : Int) := by omega
          have z2 : (0 : Int) < (m2 : Int) := by omega
          have z3 : 0 < m1 := by omega
          have z4 : 0 < m2 := by omega
          clear hm1 hm2
          by_cases hcd : c0 = d0
          · subst hcd
            obtain ⟨k, t1, t2, hrs⟩ := HXX.out.tails HM.out HXY.out HNXY.out
            obtain ⟨j, p, u, v, u', v', e1, e2, tp, tu, tv, huv⟩ := trm_diff t1 t2 hrs
            subst e1; subst e2
            have HTP := Lib.hid tp
            have HTU := Lib.hid tu
            have HTV := Lib.hid tv
            have HUV := Lib.hid huv
            have HR1 := Lib.hid HX1.out.tail
            have HR2 := Lib.hid HY1.out.tail
            have HMM : Hid (morB ss u v = morB ss a b) := by show morB ss u v = morB ss a b; rw [← HMOR.out]; exact (mor_args HO.out HWW.out tp tu tv huv).symm
            have y1 : (1 : Int) ≤ (m1 : Int) := by omega
            have y2 : (1 : Int) ≤ (m2 : Int) := by omega
            have l1 := HX1.out.at_.len
            have l2 := HY1.out.at_.len
            have pu := trm_pos tu
            have pv := trm_pos tv
            simp only [List.length_cons, List.length_append] at l1 l2
            have y3 : ¬ d1 = 1 := by omega
            have y4 : ¬ d2 = 1 := by omega
            have y5 : 1 ≤ m1 := by omega
            have y6 : 1 ≤ m2 := by omega
            obtain ⟨O1, K1, E1, hq1⟩ : ∃ O1 K1 E1, Value.slice (some ⟨b1, o1 + 1 + p.length, none⟩) u.length (d1 - 1 - p.length) = .slice (some ⟨b1, O1, none⟩) E1 K1 := ⟨_, _, _, rfl⟩
            obtain ⟨O2, K2, E2, hq2⟩ : ∃ O2 K2 E2, Value.slice (some ⟨b2, o2 + 1 + p.length, none⟩) v.length (d2 - 1 - p.length) = .slice (some ⟨b2, O2, none⟩) E2 K2 := ⟨_, _, _, rfl⟩
            have HQ1 := Lib.hid hq1
            have HQ2 := Lib.hid hq2
            have HU1 : Hid (ExAt w1 w.heap.size (some ⟨b1, O1, none⟩) E1 K1 u ∧ E1 < m1) := by
              have h1 := (HR1.out.at_.drop (k := p.length) (by omega)).take (i := u.length) (by omega)
              rw [List.drop_left, List.take_left] at h1
              simp only [Value.slice.injEq, Option.some.injEq, Addr.mk.injEq, true_and, and_true] at hq1
              obtain ⟨rfl, rfl, rfl⟩ := hq1
              exact ⟨⟨h1, by omega, by omega⟩, by omega⟩
            have HU2 : Hid (ExAt w1 w.heap.size (some ⟨b2, O2, none⟩) E2 K2 v) := by
              have h1 := (HR2.out.at_.drop (k := p.length) (by omega)).take (i := v.length) (by omega)
              rw [List.drop_left, List.take_left] at h1
              simp only [Value.slice.injEq, Option.some.injEq, Addr.mk.injEq, true_and, and_true] at hq2
              obtain ⟨rfl, rfl, rfl⟩ := hq2
              exact ⟨h1, by omega, by omega⟩
            have hE1 := HU1.out.2
            have he : (c0 != c0) = false := by simp
            clear t1 t2 hrs tp tu tv huv hq1 hq2 l1 l2 pu pv
            go_wp2_with fail
            go_quiet (fail)
            go_wp2_with fail
            obtain ⟨wB, hwB⟩ : ∃ wB, wB = w1.drewN nq := ⟨_, rfl⟩
            have HBD : Hid (Below w.heap.size w1 wB) := by rw [hwB]; exact below_drewN _ _
            have HS2 := Lib.hid (HS1.out.below HBD.out)
            have HR1' := Lib.hid (HR1.out.below HBD.out)
            have HR2' := Lib.hid (HR2.out.below HBD.out)
            rw [← hwB]
            clear hwB hc1 hc2
            go_quiet ((go_at_call 59; exact firstDiff_still A n c w.heap.size b1 (o1 + 1) (m1 - 1) (d1 - 1) b2 (o2 + 1) (m2 - 1) (d2 - 1) j _ ss p u v u' v' wB HS2.out HN.out HM.out HR1'.out HR2'.out HTP.out HTU.out HTV.out HUV.out O1 K1 O2 K2 E1 E2 HQ1.out HQ2.out))
            go_wp2
            go_roundw
            case rel => exact ⟨_, _, _, _, _, _, u, v, rfl, rfl, HU1.out.1.below (HBD.out.trans (below_drewN _ _)), HU2.out.below (HBD.out.trans (below_drewN _ _)), .inl HTU.out, .inl HTV.out, HUV.out, HMM.out, HB1.out.trans (HBD.out.trans (below_drewN _ _))⟩
            case measure => simp [sliLen]; omega
          · have he : (c0 != d0) = true := by simpa using hcd
            have H : Hid (morB ss a b = decide (d0 < c0)) := by show morB ss a b = _; rw [← HMOR.out]; exact mor_code HO.out HWW.out hcd
            have hwB := Lib.hid (fun q : Nat => HB1.out.trans (below_drewN (B := w.heap.size) w1 q))
            by_cases hlt : d0 < c0
            · have q1 : (decide (d0 < c0)) = true := by simpa using hlt
              go_wp2_with fail
              go_quiet (fail)
              go_wp2_with fail
              go_quiet (fail)
              go_wp2
              go_ret
              exact ⟨ret_b (by rw [H.out]; simp [hlt]), (HB1.out.trans (below_drewN _ _)).trans (below_drewN _ _)⟩
            · have q1 : (decide (d0 < c0)) = false := by simpa using hlt
              go_wp2_with fail
              go_quiet (fail)
              go_wp2_with fail
              go_quiet (fail)
              go_wp2
              go_ret
              exact ⟨ret_b (by rw [H.out]; simp [hlt]), (HB1.out.trans (below_drewN _ _)).trans (below_drewN _ _)⟩
end Go.Proofs.Ytiekgdohanahlaa
