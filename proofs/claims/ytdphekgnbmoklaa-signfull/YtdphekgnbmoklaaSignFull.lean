/-
  SignFull: the walk.
-/
import Derived.Test.YtdphekgnbmoklaaAwake
import Derived.Laws.IdiomStrings
namespace Go.Proofs.Ytdphekgnbmoklaa
open Go.RowKit
set_option linter.unusedSimpArgs false
set_option linter.unusedVariables false

def aByte (i : Nat) : UInt8 := (97 + i).toUInt8
def aName (i : Nat) : ByteArray := ⟨#[97, aByte i]⟩
def aS (i : Nat) : Sym := ⟨aName i, 1, 0, 1⟩
def fullTo (i : Nat) : List Sym := eqS :: (List.range i).map aS
theorem full_may : ∀ i, i < 20 → mayB (fullTo i) = true := by decide +kernel
theorem full_sym : ∀ i, i < 19 → symB (aS i) = true := by decide +kernel
theorem full_code : ∀ i, i < 19 → code (fullTo i) (aS i).name < 0 := by decide +kernel
theorem full_twice : ∀ i, i < 19 → 0 ≤ code (fullTo 19) (aS i).name := by decide +kernel
theorem full_b : code (fullTo 19) ⟨#[98]⟩ < 0 := by decide +kernel
theorem full_bs : symB ⟨⟨#[98]⟩, 1, 0, 1⟩ = true := by decide +kernel
theorem full_bw : symB ⟨⟨#[98]⟩, 1, 0, 21⟩ = false := by decide +kernel

theorem byte_a (j : Nat) (h : j < 19) : ((aByte j).toNat : Int) = 97 + (j : Int) := by
  unfold aByte
  have : (97 + j).toUInt8.toNat = 97 + j := by
    simp [Nat.toUInt8]; omega
  rw [this]; omega
theorem conv_byte (j : Nat) (h : j < 19) (w : World) :
    (convert 46 9 (.slice (some ⟨w.heap.size, 0, none⟩) 1 1)).run Try.prog (w.alloc (.cells #[.int .u8 (97 + (j : Int))] 5)) = .ok (.string ⟨#[aByte j]⟩) (w.alloc (.cells #[.int .u8 (97 + (j : Int))] 5)) := by
  refine run_convert_bytes_back (P := Try.prog) _ 46 9 5 ⟨w.heap.size, 0, none⟩ 1 [aByte j] Try.underlying46 Try.underlying5 Try.underlying9 ?_
  intro i hi
  obtain rfl : i = 0 := by simpa using hi
  have := cell_of_row (w.alloc (.cells #[.int .u8 (97 + (j : Int))] 5)) w.heap.size 0 _ _ (0, 0) (heap_alloc_new w _)
  rw [addr_add, this]
  simp [byte_a j h]

theorem name_cat (j : Nat) : (⟨#[97]⟩ : ByteArray) ++ ⟨#[aByte j]⟩ = aName j := by
  rw [ByteArray.mk_append_mk]; rfl
theorem full_succ (j : Nat) : fullTo (j + 1) = fullTo j ++ [⟨aName j, 1, 0, 1⟩] := by
  unfold fullTo; rw [List.range_succ, List.map_append]; rfl
theorem full_fit (j i : Nat) (h : i < j + 1) : (symAt (fullTo j) i).name.size ≤ maxLen := by
  unfold symAt fullTo
  cases i with
  | zero => exact len1
  | succ i =>
    have hi : i < j := by omega
    rw [List.getD_cons_succ, List.getD_eq_getElem?_getD]
    simp [hi]
    exact len2
theorem own_cap {w : World} {base g n cap size : Nat} {e : TypeId} {xs : List Value} (h : w.ownsRow base e size (.slice (some ⟨g, 0, none⟩) n cap) n xs) : n ≤ cap := by
  rcases h.2 with ⟨h, _⟩ | ⟨_, _, _, hv, _, _, hc, _⟩
  · cases h
  · injection hv with _ _ h3; omega

theorem byte_k (k : Int) : ∃ q : Nat, q < 19 ∧ wrap64 (97 + wrap64 ((IntKind.u64.wrap k).tmod 19)) % 256 = 97 + (q : Int) := by
  have h0 : 0 ≤ IntKind.u64.wrap k := by rw [IntKind.wrap_u64]; omega
  have h1 : (IntKind.u64.wrap k).tmod 19 = (IntKind.u64.wrap k) % 19 := Int.tmod_eq_emod_of_nonneg h0
  generalize IntKind.u64.wrap k = x at h0 h1
  rw [h1]
  refine ⟨(x % 19).toNat, by omega, ?_⟩
  rw [IntWalk.wrap64_in (x % 19) ⟨by omega, by omega⟩, IntWalk.wrap64_in (97 + x % 19) ⟨by omega, by omega⟩]
  omega

set_option maxHeartbeats 2000000 in
theorem signFull_walk (k : Int) (w : World) (hk : (Lit.int .i64 k).wf = true) :
    Calls Try.prog 7 #[.int .i64 k] w fun e w' => e = .returned (.bool true) ∧ Below w.heap.size w w' := by
  go_enter Try.func7, Try.ntmps7
  go_wp2_with fail
  refine (awake_any _).mono ?_
  rintro e w1 ⟨rfl, hb1⟩
  go_wp2_with fail
  refine (base_any _).mono ?_
  rintro e w2 ⟨rfl, hown2, hb2⟩
  go_wp2_with fail
  go_loopw [3, 4] (fun sg i wr => ∃ (j gb cap : Nat), j ≤ 19 ∧ i = .int .i64 j ∧ sg = .slice (some ⟨gb, 0, none⟩) (j + 1) cap ∧
      SymsAt wr wr.heap.size (some ⟨gb, 0, none⟩) (j + 1) (fullTo j) ∧ j + 1 ≤ cap ∧ Below w.heap.size w wr) (fun _ i _ => 19 - (intOf i).toNat)
  case atStart => exact ⟨0, _, _, by omega, rfl, rfl, SymsAt.of_own hown2 fit_e, by omega, hb1.trans (hb2.mono hb1.size)⟩
  case round =>
    obtain ⟨j, gb, cap, hj, rfl, rfl, hsr, hcap, hbr⟩ := hrel
    by_cases hlt : j < 19
    · have hcv := conv_byte j hlt wr
      go_wp2_with fail
      rw [name_cat]
      have hs1 := hsr.new (.cells #[.int .u8 (97 + (j : Int))] 5)
      refine (add_ok _ (j + 1) cap (fullTo j) (aName j) 1 0 1 _ hs1 (by unfold maxLen; omega) hcap (by unfold maxLen; show (2 : Nat) ≤ _; omega) (full_may j (by omega)) (full_sym j hlt) (full_code j hlt) (by omega)).mono ?_
      rintro e w3 ⟨g3, cap3, rfl, hown3, hb3⟩
      have hs3 := SymsAt.of_own hown3 (fun i hi => by rw [← full_succ]; exact full_fit (j + 1) i (by simpa [fullTo] using hi))
      rw [← full_succ] at hs3
      have hb03 : Below w.heap.size w w3 := (hbr.alloc hbr.size _).trans (hb3.mono (by have := hbr.size; simp; omega))
      have hcap3 := own_cap hown3
      go_wp2_with (go_at_call 12; refine (num_any _ _).mono ?_; rintro e w' ⟨rfl, rfl⟩)
      go_roundw
      case rel => exact ⟨j + 1, g3, cap3, by omega, by go_num, rfl, hs3, hcap3, hb03⟩
      case measure => simp [intOf]; omega
    · obtain rfl : j = 19 := by omega
      have hl20 : (20 : Nat) ≤ maxLen := by unfold maxLen; omega
      go_wp2_with fail
      refine (add_full _ 20 cap (fullTo 19) ⟨#[98]⟩ 1 0 1 _ hsr hl20 hcap len1 (full_may 19 (by omega)) full_bs full_b (by omega)).mono ?_
      rintro e w3 ⟨rfl, hb3⟩
      have hb03 := hbr.trans (hb3.mono hbr.size)
      have hs3 := hsr.on hb3
      obtain ⟨q, hq, eq⟩ := byte_k k
      have hcv := conv_byte q hq w3
      rw [← eq] at hcv
      clear eq
      go_wp2_with fail
      rw [name_cat]
      have hs4 := hs3.new (.cells #[.int .u8 (wrap64 (97 + wrap64 ((IntKind.u64.wrap k).tmod 19)) % 256)] 5)
      refine (add_twice _ 20 cap (fullTo 19) (aName q) 1 0 1 _ hs4 hl20 hcap (by unfold maxLen; show (2 : Nat) ≤ _; omega) (full_may 19 (by omega)) (full_sym q hq) (full_twice q hq)).mono ?_
      rintro e w5 ⟨rfl, hb5⟩
      clear hcv
      have hb05 := (hb03.alloc hb03.size _).trans (hb5.mono (by have := hb03.size; simp; omega))
      have hs5 := hs4.on hb5
      go_wp2_with fail
      refine (add_sym _ 20 cap (fullTo 19) ⟨#[98]⟩ 1 0 21 _ hs5 hl20 hcap len1 (full_may 19 (by omega)) full_bw).mono ?_
      rintro e w6 ⟨rfl, hb6⟩
      go_wp2_with (go_at_call 12; refine (num_any _ _).mono ?_; rintro e w' ⟨rfl, rfl⟩)
      go_ret
      exact ⟨rfl, hb05.trans (hb6.mono hb05.size)⟩

end Go.Proofs.Ytdphekgnbmoklaa
