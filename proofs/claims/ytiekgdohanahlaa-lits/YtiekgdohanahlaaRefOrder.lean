/-
  Contracts of the reference: Heavy of an expression, often, More, IsTerm, IsAtom, Which, Compare.
-/
import Derived.Test.YtiekgdohanahlaaOrderCmp
import Derived.Test.YtiekgdohanahlaaPartsR
namespace Go.Proofs.Ytiekgdohanahlaa
open Go.RowKit
set_option linter.unusedSimpArgs false
set_option linter.unusedVariables false
set_option maxRecDepth 100000

set_option maxHeartbeats 1000000 in
theorem refHeavyO_any (A A' : Option Addr) (n c m c' B B' : Nat) (ss : List Sym) (r : List Int) (w : World) (h : SymsAt w B A n ss) (hr : IntsAt w B' A' m r) (hmay : mayB ss = true) (hc : CodesOk ss r) (hm : m ≤ 49) :
    Calls Try.prog 25 #[.slice A n c, .slice A' m c'] w fun e w' => e = .returned (.int .i64 (wtSum ss r)) ∧ w = w' := by
  have HL := Lib.hid hr.len
  have HM := Lib.hid hmay
  have HC := Lib.hid hc
  have HSL := Lib.hid h.len
  have hn : n ≤ 20 := by have := (may_len hmay).2; rw [HSL.out] at this; exact this
  clear hmay hc
  go_enter Try.func25, Try.ntmps25
  go_wp2
  go_loop [5, 6] (fun q i => ∃ (k : Nat) (s : Int), q = .int .i64 s ∧ i = .int .i64 k ∧ k ≤ m ∧ s = wtSum ss (r.take k)) (fun _ i => m - (intOf i).toNat)
  case atStart => exact ⟨0, 0, rfl, rfl, by omega, rfl⟩
  case round =>
    obtain ⟨k, s, rfl, rfl, hk, hs⟩ := hrel
    have HS := Lib.hid hs
    obtain ⟨b1, b2⟩ := wtSum_ok HM.out HC.out k (by rw [HL.out]; exact hk)
    rw [← hs] at b1 b2
    clear hs
    by_cases hlt : k < m
    · obtain ⟨b', off', rfl, hb', hc'⟩ := hr.at_ (by omega)
      have hcx : w.cell? ⟨b', off' + k, none⟩ = some (.int .i64 (intAt r k)) := hc' k hlt
      clear hc'
      have hlr : k < r.length := by rw [HL.out]; exact hlt
      obtain ⟨x1, x2⟩ := code_at HC.out hlr
      obtain ⟨y1, y2⟩ := wtOf_ok HM.out HC.out hlr
      have HT := Lib.hid (wtSum_take ss r k hlr)
      rw [HSL.out] at x2
      clear hlr
      by_cases hx : intAt r k < 0
      · go_wp2
        go_round
        case rel => exact ⟨k + 1, s + 1, by go_num, by go_num, by omega, by rw [HT.out, ← HS.out]; unfold wtOf; rw [if_pos hx]⟩
        case measure => simp [intOf]; omega
      · obtain ⟨q, hq⟩ : ∃ q : Nat, intAt r k = (q : Int) := ⟨(intAt r k).toNat, by omega⟩
        rw [hq] at hcx x2 hx
        have hw : wtOf ss (intAt r k) = (symAt ss q).weight := by unfold wtOf; rw [hq, if_neg (by omega), Int.toNat_natCast]
        rw [hw] at y1 y2
        have HW := Lib.hid hw
        clear hq hw x1
        obtain ⟨b, off, rfl, hb0, hc⟩ := h.at_ (by omega)
        obtain ⟨_, _, _, c3⟩ := hc q (by omega)
        clear hc
        go_wp2
        go_round
        case rel => exact ⟨k + 1, s + (symAt ss q).weight, rfl, by go_num, by omega, by rw [HT.out, ← HS.out, HW.out]⟩
        case measure => simp [intOf]; omega
    · obtain rfl : k = m := by omega
      have H : Hid (wtSum ss r = s) := by show wtSum ss r = s; rw [HS.out, List.take_of_length_le (by rw [HL.out]; omega)]
      go_wp2
      go_ret
      exact ⟨ret_int H.out.symm, rfl⟩

set_option maxHeartbeats 1000000 in
theorem refOften_any (A A' : Option Addr) (n c m c' B B' : Nat) (a b : List Int) (w : World) (ha : IntsAt w B A n a) (hb : IntsAt w B' A' m b) (hn : n ≤ 49) (hm : m ≤ 49) :
    Calls Try.prog 60 #[.slice A n c, .slice A' m c'] w fun e w' => e = .returned (.bool (oftB a b)) ∧ w = w' := by
  have HLA := Lib.hid ha.len
  have HLB := Lib.hid hb.len
  go_enter Try.func60, Try.ntmps60
  go_wp2_with fail
  go_loop [5] (fun v => ∃ k : Nat, v = .int .i64 k ∧ k ≤ 24 ∧ ∀ q : Nat, q < k → cntI b q ≤ cntI a q) (fun v => 24 - (intOf v).toNat)
  case atStart => exact ⟨0, rfl, by omega, fun q hq => absurd hq (by omega)⟩
  case round =>
    obtain ⟨v, rfl, hv, hall⟩ := hrel
    have HALL := Lib.hid hall
    clear hall
    by_cases hlt : v < 24
    · go_wp2_with fail
      go_loop [6, 7] (fun k i => ∃ (K : Int) (j : Nat), k = .int .i64 K ∧ i = .int .i64 j ∧ j ≤ n ∧ K = cntI (a.take j) v) (fun _ i => n - (intOf i).toNat)
      case atStart => exact ⟨0, 0, rfl, rfl, by omega, rfl⟩
      case round =>
        obtain ⟨K, j, rfl, rfl, hj, hK⟩ := hrel
        have HK := Lib.hid hK
        obtain ⟨k0, k1⟩ : 0 ≤ K ∧ K ≤ 49 := by have := cntI_bdt (a := a) (k := j) (v := v); omega
        clear hK
        by_cases hjt : j < n
        · obtain ⟨b', off', rfl, _, hc'⟩ := ha.at_ (by omega)
          have hcx : w.cell? ⟨b', off' + j, none⟩ = some (.int .i64 (intAt a j)) := hc' j hjt
          clear hc'
          have HT := Lib.hid (cntI_take (a := a) (v := v) (k := j) (by rw [HLA.out]; exact hjt))
          by_cases hx : intAt a j = -1 - (v : Int)
          · have hx' : (intAt a j == -1 - (v : Int)) = true := by simpa using hx
            have HX := Lib.hid hx
            clear hx
            go_wp2
            go_round
            case rel => exact ⟨K + 1, j + 1, by go_num, by go_num, by omega, by rw [HT.out, if_pos HX.out, ← HK.out]⟩
            case measure => simp [intOf]; omega
          · have hx' : (intAt a j == -1 - (v : Int)) = false := by simpa using hx
            have HX := Lib.hid hx
            clear hx
            go_wp2
            go_round
            case rel => exact ⟨K, j + 1, rfl, by go_num, by omega, by rw [HT.out, if_neg HX.out, ← HK.out, Int.add_zero]⟩
            case measure => simp [intOf]; omega
        · obtain rfl : j = n := by omega
          have HK' : Hid (K = cntI a v) := by show K = _; rw [HK.out, List.take_of_length_le (by rw [HLA.out]; omega)]
          clear HK hj hjt
          go_wp2_with fail
          go_loop [6, 8] (fun k i => ∃ (K : Int) (j : Nat), k = .int .i64 K ∧ i = .int .i64 j ∧ j ≤ m ∧ K = cntI a v - cntI (b.take j) v) (fun _ i => m - (intOf i).toNat)
          case atStart => exact ⟨K, 0, rfl, rfl, by omega, by rw [HK'.out]; show cntI a v = cntI a v - 0; omega⟩
          case round =>
            obtain ⟨K2, i, rfl, rfl, hi, hK2⟩ := hrel
            have HK2 := Lib.hid hK2
            obtain ⟨k2, k3⟩ : -49 ≤ K2 ∧ K2 ≤ 49 := by
              have := cntI_bdt (a := b) (k := i) (v := v)
              have := HK'.out
              omega
            clear hK2
            by_cases hit : i < m
            · obtain ⟨b', off', rfl, _, hc'⟩ := hb.at_ (by omega)
              have hcx : w.cell? ⟨b', off' + i, none⟩ = some (.int .i64 (intAt b i)) := hc' i hit
              clear hc'
              have HT := Lib.hid (cntI_take (a := b) (v := v) (k := i) (by rw [HLB.out]; exact hit))
              by_cases hx : intAt b i = -1 - (v : Int)
              · have hx' : (intAt b i == -1 - (v : Int)) = true := by simpa using hx
                have HX := Lib.hid hx
                clear hx
                go_wp2
                go_round
                case rel => exact ⟨K2 - 1, i + 1, by go_num, by go_num, by omega, by rw [HT.out, if_pos HX.out, HK2.out]; omega⟩
                case measure => simp [intOf]; omega
              · have hx' : (intAt b i == -1 - (v : Int)) = false := by simpa using hx
                have HX := Lib.hid hx
                clear hx
                go_wp2
                go_round
                case rel => exact ⟨K2, i + 1, rfl, by go_num, by omega, by rw [HT.out, if_neg HX.out, HK2.out]; omega⟩
                case measure => simp [intOf]; omega
            · obtain rfl : i = m := by omega
              have HE : Hid (K2 = cntI a v - cntI b v) := by show K2 = _; rw [HK2.out, List.take_of_length_le (by rw [HLB.out]; omega)]
              by_cases hneg : K2 < 0
              · have H : Hid (oftB a b = false) := oft_not hlt (by have := HE.out; omega)
                go_wp2
                go_ret
                exact ⟨ret_b H.out.symm, rfl⟩
              · go_wp2
                go_round
                case rel => exact ⟨v + 1, by go_num, by omega, fun q hq => if e : q = v then by rw [e]; have := HE.out; omega else HALL.out q (by omega)⟩
                case measure => simp [intOf]; omega
    · obtain rfl : v = 24 := by omega
      have H : Hid (oftB a b = true) := oft_yes HALL.out
      go_wp2
      go_ret
      exact ⟨ret_b H.out.symm, rfl⟩
end Go.Proofs.Ytiekgdohanahlaa
