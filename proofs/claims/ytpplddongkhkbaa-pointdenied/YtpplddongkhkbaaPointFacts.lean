/-
  Contract of quaerelaw9: small; calls at points that are not great.
-/
import Derived.Test.YtpplddongkhkbaaAwakeP
namespace Go.Proofs.Ytpplddongkhkbaa
open Go.RowKit Go.Deep
set_option linter.unusedSimpArgs false
set_option linter.unusedVariables false
set_option maxRecDepth 100000

/-- uint(a) % 601 - 300. -/
def sm (a : Int) : Int := (IntKind.u64.wrap a).tmod 601 - 300
theorem sm_is (a : Int) : ∃ z : Nat, z < 601 ∧ (IntKind.u64.wrap a).tmod 601 = (z : Int) ∧ sm a = (z : Int) - 300 := by
  have h1 : 0 ≤ IntKind.u64.wrap a := by
    have : IntKind.u64.wrap a = a % 18446744073709551616 := by rfl
    omega
  have h2 : 0 ≤ (IntKind.u64.wrap a).tmod 601 := Int.tmod_nonneg _ h1
  have h3 : (IntKind.u64.wrap a).tmod 601 < 601 := Int.tmod_lt_of_pos _ (by omega)
  refine ⟨((IntKind.u64.wrap a).tmod 601).toNat, by omega, by omega, ?_⟩
  unfold sm
  omega
theorem sm_bd (a : Int) : -300 ≤ sm a ∧ sm a ≤ 300 := by
  obtain ⟨z, h1, _, h2⟩ := sm_is a
  omega
set_option maxHeartbeats 4000000 in
theorem smallPt_any (a b : Int) (w : World) : Calls Try.prog 27 #[.int .i64 a, .int .i64 b] w (POne (sm a) (sm b) w) := by
  obtain ⟨x, x1, x2, x3⟩ := sm_is a
  obtain ⟨y, y1, y2, y3⟩ := sm_is b
  rw [x3, y3]
  clear x3 y3
  have hb0 := below_new w (.cells #[.int .i64 0, .int .i64 0] 23)
  have HZ := Lib.hid (PBox.new w 0 0)
  have HB0 := Lib.hid hb0
  clear hb0
  go_enter Try.func27, Try.ntmps27
  go_wp2_with (refine store_box rfl 23 (.tmp 4) (.tmp 15) rfl rfl w.heap.size _ _ rfl rfl HZ.out.z rfl (by kernel_rfl) (pt_one _ _) ?_
               intro w4 hg4 hc4 hs4
               have HG4 := Lib.hid hg4
               have HC4 := Lib.hid hc4
               clear hg4 hc4 hs4)
  refine bodyPost_ret (results_cell_row rfl _ _ w.heap.size _ _ _ _ rfl HG4.out Try.underlying23 rfl (by kernel_rfl)) rfl ?_
  exact ⟨rfl, HB0.out.trans (HC4.out.bel.mono (by omega))⟩
theorem two_yes {g : Bool} {x y : Int} (h : g = true) : two g x y = x := by unfold two; rw [h]; rfl
theorem ok_and {a b c d : Int} (h1 : okP a b = true) (h2 : okP c d = true) : (okP a b && okP c d) = true := by rw [h1, h2]; rfl
theorem mul_ok {a b c d x y : Int} (h1 : okP a b = true) (h2 : okP c d = true) (h3 : okP x y = true) (e1 : a * c - b * d = x) (e2 : a * d + b * c = y) (u : World) :
    Calls Try.prog 11 #[.agg #[.int .i64 a, .int .i64 b], .agg #[.int .i64 c, .int .i64 d]] u (PPost x y 0 u) := by
  subst e1 e2
  have hh := ok_and h1 h2
  obtain ⟨f1, f2, f3⟩ := far_yes h3
  exact PPost.eqs (mul_any a b c d u) (by rw [two_yes hh, f1]) (by rw [two_yes hh, f2]) (by rw [two_yes hh, f3])
theorem add_ok {a b c d x y : Int} (h1 : okP a b = true) (h2 : okP c d = true) (h3 : okP x y = true) (e1 : a + c = x) (e2 : b + d = y) (u : World) :
    Calls Try.prog 9 #[.agg #[.int .i64 a, .int .i64 b], .agg #[.int .i64 c, .int .i64 d]] u (PPost x y 0 u) := by
  subst e1 e2
  have hh := ok_and h1 h2
  obtain ⟨f1, f2, f3⟩ := far_yes h3
  exact PPost.eqs (add_any a b c d u) (by rw [two_yes hh, f1]) (by rw [two_yes hh, f2]) (by rw [two_yes hh, f3])
theorem flip_ok {a b : Int} (h1 : okP a b = true) (u : World) :
    Calls Try.prog 13 #[.agg #[.int .i64 a, .int .i64 b]] u (PPost b a 0 u) :=
  PPost.eqs (flip_any a b u) (two_yes h1) (two_yes h1) (two_yes h1)
theorem score_ok {a b c d x : Int} (h1 : okP a b = true) (h2 : okP c d = true) (e1 : a * c + b * d = x) (u : World) :
    Calls Try.prog 17 #[.agg #[.int .i64 a, .int .i64 b], .agg #[.int .i64 c, .int .i64 d]] u (SPost x 0 u) := by
  subst e1
  have hh := ok_and h1 h2
  exact SPost.eqs (score_any a b c d u) (two_yes hh) (two_yes hh)
theorem ok_near {a b : Int} (h1 : -1000000 ≤ a ∧ a ≤ 1000000) (h2 : -1000000 ≤ b ∧ b ≤ 1000000) : okP a b = true := okP_iff.2 ⟨h1, h2⟩
theorem prod_bd {a c : Int} {K L : Nat} (h1 : -(K : Int) ≤ a ∧ a ≤ K) (h2 : -(L : Int) ≤ c ∧ c ≤ L) : -((K * L : Nat) : Int) ≤ a * c ∧ a * c ≤ ((K * L : Nat) : Int) := by
  have e : (a * c).natAbs = a.natAbs * c.natAbs := Int.natAbs_mul a c
  have : a.natAbs * c.natAbs ≤ K * L := Nat.mul_le_mul (by omega) (by omega)
  obtain ⟨z, hz⟩ : ∃ z, z = a * c := ⟨_, rfl⟩
  rw [← hz] at e ⊢
  omega
theorem prod_300 {a c : Int} (h1 : -300 ≤ a ∧ a ≤ 300) (h2 : -300 ≤ c ∧ c ≤ 300) : -90000 ≤ a * c ∧ a * c ≤ 90000 := prod_bd (K := 300) (L := 300) h1 h2
theorem prod_600 {a c : Int} (h1 : -300 ≤ a ∧ a ≤ 300) (h2 : -600 ≤ c ∧ c ≤ 600) : -180000 ≤ a * c ∧ a * c ≤ 180000 := prod_bd (K := 300) (L := 600) h1 h2
theorem three_pts' (w : World) (a b c d e f : Int) : ∃ w0, w0 = ((w.alloc (.cells #[.int .i64 a, .int .i64 b] 23)).alloc (.cells #[.int .i64 c, .int .i64 d] 23)).alloc (.cells #[.int .i64 e, .int .i64 f] 23) ∧
    Below w.heap.size w w0 ∧ PBox w0 w.heap.size a b ∧ PBox w0 (w.heap.size + 1) c d ∧ PBox w0 (w.heap.size + 1 + 1) e f := by
  obtain ⟨v, hv, b1, h1, h2⟩ := two_pts w a b c d
  have b3 := below_new v (.cells #[.int .i64 e, .int .i64 f] 23)
  have h3 := PBox.new v e f
  have s2 : v.heap.size = w.heap.size + 1 + 1 := by rw [hv]; simp
  rw [← hv]
  exact ⟨_, rfl, b1.trans (b3.mono (by omega)), h1.on b3, h2.on b3, s2 ▸ h3⟩
end Go.Proofs.Ytpplddongkhkbaa
