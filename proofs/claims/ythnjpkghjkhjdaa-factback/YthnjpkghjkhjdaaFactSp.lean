/-
  Contract of quaerelaw0: SpoilTable, where other tables that were made are left to be spoilt, too.
-/
import Derived.Test.YthnjpkghjkhjdaaMemTab
namespace Go.Proofs.Ythnjpkghjkhjdaa
open Go.RowKit Go.Deep
set_option linter.unusedSimpArgs false
set_option linter.unusedVariables false
set_option maxRecDepth 100000

/-- A table that a call has made, whatever stands in it. -/
structure OwnTw (w : World) (base : Nat) (u : Value) : Prop where
  out : ∃ v1 v2 vs k, u = .agg #[v1, v2] ∧ k ≤ 17592186044416 ∧ (∃ xs : List Int, xs.length = k ∧ OwnI w base v1 xs) ∧ OwnR w base v2 vs ∧ WRws w base vs ∧ vs.length ≤ 5864062014634
section
variable {w w' : World} {base b : Nat} {u : Value} {t : Tb}
theorem OwnTb.weak (h : OwnTb w base u t) (hf : TFit t) : OwnTw w base u := by
  obtain ⟨v1, v2, rfl, h1, h2⟩ := h
  obtain ⟨vs, b1, b2⟩ := h2.vals
  exact ⟨v1, v2, vs, _, rfl, by have := hf.s; omega, ⟨_, rfl, h1⟩, b1, b2.weak hf.r, by rw [b2.1]; have := hf.f; omega⟩
theorem OwnTw.on (h : OwnTw w base u) (hb : Below w.heap.size w w') : OwnTw w' base u := by
  obtain ⟨v1, v2, vs, k, e, hk, ⟨xs, e2, h1⟩, h2, h3, h4⟩ := h.out
  exact ⟨v1, v2, vs, k, e, hk, ⟨xs, e2, h1.on hb⟩, h2.on hb, h3.on hb, h4⟩
theorem WRws.lower {base' : Nat} {vs : List Value} (h : WRws w base vs) (hb : base' ≤ base) : WRws w base' vs := fun i hi => by
  obtain ⟨n, hn, xs, e, hx⟩ := h i hi
  exact ⟨n, hn, xs, e, hx.lower hb⟩
theorem OwnTw.lower {base' : Nat} (h : OwnTw w base u) (hb : base' ≤ base) : OwnTw w base' u := by
  obtain ⟨v1, v2, vs, k, e, hk, ⟨xs, e2, h1⟩, h2, h3, h4⟩ := h.out
  exact ⟨v1, v2, vs, k, e, hk, ⟨xs, e2, h1.lower hb⟩, own_base h2 hb, h3.lower hb, h4⟩
theorem TBoxRow.on {x y : Value} (h : TBoxRow w b [x, y]) (hb : Below w.heap.size w w') : TBoxRow w' b [x, y] := owns_on h hb
theorem TBoxRow.of_heap {x y : Value} (h : w.heap[b]? = some (.cells #[x, y] 26 (0, 0))) : TBoxRow w b [x, y] :=
  ⟨rfl, .inr ⟨b, 1, #[x, y], rfl, Nat.le_refl _, h, Nat.le_refl _, by unfold maxLen; omega, rfl, rfl⟩⟩
theorem OwnTw.spoilt (h : OwnTw w base u) (hs : Spoilt b w w') : OwnTw w' base u := by
  obtain ⟨v1, v2, vs, k, e, hk, h1, h2, h3, h4⟩ := h.out
  exact ⟨v1, v2, vs, k, e, hk, hs.ints _ _ _ h1, hs.rows _ _ _ _ _ _ (by decide) h2, h3.spoilt hs, h4⟩
end
set_option maxHeartbeats 1000000 in
theorem spoilTw_any (v : Value) (base : Nat) (w : World) (h : OwnTw w base v) (hbase : base ≤ w.heap.size) :
    Calls Try.prog 25 #[v] w fun e w' => e = .returned (.tuple #[]) ∧ Below base w w' ∧ (∀ b u, OwnTw w b u → OwnTw w' b u) ∧ ∀ b x y, TBoxRow w b [x, y] → TBoxRow w' b [x, y] := by
  obtain ⟨v1, v2, vs2, k1, rfl, hk1, ⟨xs, e1, h1⟩, b1, hw, hvl⟩ := h.out
  clear h
  have hb0 := below_new w (.cells #[v1, v2] 26)
  have HB := Lib.hid (TBoxRow.new w v1 v2)
  have HA1 := Lib.hid (h1.on hb0)
  have HB1 := Lib.hid (b1.on hb0)
  have HB2 := Lib.hid (hw.on hb0)
  have HS0 := Lib.hid hb0
  obtain ⟨D1, d1, q1⟩ := h1.value
  obtain ⟨D2, d2, q2⟩ := b1.valued
  rw [e1] at q1
  obtain ⟨k2, hk2⟩ : ∃ k2, k2 = vs2.length := ⟨_, rfl⟩
  rw [← hk2] at q2 hvl
  subst q1 q2
  have HE1 := Lib.hid e1
  have HK2 := Lib.hid hk2
  clear e1 h1 b1 hw hb0 hk2
  go_enter Try.func25, Try.ntmps25
  go_wp2_with fail
  refine (spoilInts_any _ base k1 _ ⟨xs, HE1.out, HA1.out⟩ hk1).mono ?_
  rintro e w1 ⟨rfl, hs1⟩
  have HS1 := Lib.hid hs1
  obtain ⟨p0, p1⟩ := (HB.out.spoilt hs1).get
  clear hs1
  go_wp2_with fail
  refine (spoilRows_any _ base vs2 _ (HS1.out.rows _ _ _ _ _ _ (by decide) HB1.out) (HB2.out.spoilt HS1.out) (by rw [← HK2.out]; exact hvl)).mono ?_
  rintro e w2 ⟨rfl, hs2⟩
  have HS2 := Lib.hid (HS1.out.trans hs2)
  clear hs2 p0 p1
  go_wp2
  (first | go_end0 | refine bodyPost_ret (results_none rfl _ _ _) rfl ?_)
  exact ⟨rfl, (HS0.out.mono hbase).trans HS2.out.bel, fun b u hu => (hu.on HS0.out).spoilt HS2.out, fun b x y hu => (hu.on HS0.out).spoilt HS2.out⟩
end Go.Proofs.Ythnjpkghjkhjdaa
