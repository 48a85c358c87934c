/-
  Contracts of quaereref9: New, Few; the walk of the law ClauseHolds.
-/
import Derived.Test.YtcjpopjcpgipjaaDoorRefHolds
namespace Go.Proofs.YtcjpopjcpgipjaaDoor
open Go.RowKit Go.Deep
set_option linter.unusedSimpArgs false
set_option linter.unusedVariables false
set_option maxRecDepth 100000

theorem md_one (a : Int) (A : Option Addr) (n c : Nat) : (#[.int .i64 a, .slice A n c] : Array Value).all (·.oneCell') = true := by simp [Value.oneCell']
theorem mod3 (k : Int) : ∃ z : Nat, z < 3 ∧ (IntKind.u64.wrap k).tmod 3 = (z : Int) := by
  have h1 : 0 ≤ IntKind.u64.wrap k := by
    have : IntKind.u64.wrap k = k % 18446744073709551616 := by rfl
    omega
  have h2 : 0 ≤ (IntKind.u64.wrap k).tmod 3 := Int.tmod_nonneg _ h1
  have h3 : (IntKind.u64.wrap k).tmod 3 < 3 := Int.tmod_lt_of_pos _ (by omega)
  exact ⟨((IntKind.u64.wrap k).tmod 3).toNat, by omega, by omega⟩
set_option maxHeartbeats 4000000 in
theorem refNew_any (An : Option Addr) (nn cn : Nat) (k : Int) (w : World) :
    Calls Tryd.prog 22 #[.int .i64 k, .slice An nn cn] w fun e w' => ∃ sz : Int, (1 ≤ sz ∧ sz ≤ 3) ∧ e = .returned (.agg #[.int .i64 sz, .slice An nn cn]) ∧ Below w.heap.size w w' := by
  obtain ⟨z, z1, z2⟩ := mod3 k
  have HZ : Hid ((w.alloc (.cells #[.int .i64 0, .slice none 0 0] 52)).heap[w.heap.size]? = some (.cells #[.int .i64 0, .slice none 0 0] 52 (0, 0))) := heap_alloc_new w _
  have HB0 := Lib.hid (below_new w (.cells #[.int .i64 0, .slice none 0 0] 52))
  go_enter Tryd.func22, Tryd.ntmps22
  go_wp2_with (refine store_box rfl 52 (.tmp 4) (.tmp 11) rfl rfl w.heap.size _ _ rfl rfl HZ.out rfl (by kernel_rfl) (md_one _ _ _ _) ?_
               intro w4 hg4 hc4 hs4
               have HG4 := Lib.hid hg4
               have HC4 := Lib.hid hc4
               clear hg4 hc4 hs4)
  refine bodyPost_ret (results_cell_row rfl _ _ w.heap.size _ _ _ _ rfl HG4.out Tryd.underlying52 rfl (by kernel_rfl)) rfl ?_
  exact ⟨1 + (z : Int), by omega, rfl, HB0.out.trans (HC4.out.bel.mono (by omega))⟩
theorem refFew_any (A : Option Addr) (n c : Nat) (r : Bool) (w : World) (h : decide ((n : Int) ≤ 6) = r) : Calls Tryd.prog 21 #[.slice A n c] w fun e w' => e = .returned (.bool r) ∧ w = w' := by
  have H := Lib.hid h
  clear h
  go_enter Tryd.func21, Tryd.ntmps21
  go_wp2
  go_ret
  exact ⟨ret_bool H.out, rfl⟩
end Go.Proofs.YtcjpopjcpgipjaaDoor
