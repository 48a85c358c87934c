/-
  Contracts of the reference: Heavy of an expression, often, More, IsTerm, IsAtom, Which, Compare.
-/
import Derived.Test.YtpplddongkhkbaaOrderCmp
import Derived.Test.YtpplddongkhkbaaPartsR
namespace Go.Proofs.Ytpplddongkhkbaa
open Go.RowKit
set_option linter.unusedSimpArgs false
set_option linter.unusedVariables false
set_option maxRecDepth 100000

set_option maxHeartbeats 1000000 in
theorem refHeavyO_any (A A' : Option Addr) (n c m c' B B' : Nat) (ss : List Sym) (r : List Int) (w : World) (h : SymsAt w B A n ss) (hr : IntsAt w B' A' m r) (hmay : mayB ss = true) (hc : CodesOk ss r) (hm : m ≤ 49) :
    Calls Try.prog 40 #[.slice A n c, .slice A' m c'] w fun e w' => e = .returned (.int .i64 (wtSum ss r)) ∧ w = w' := by
  have HL := Lib.hid hr.len
  have HM := Lib.hid hmay
  have HC := Lib.hid hc
  have HSL := Lib.hid h.len
  have hn : n ≤ 20 := by have := (may_len hmay).2; rw [HSL.out] at this; exact this
  clear hmay hc
  go_enter Try.func40, Try.ntmps40
  go_wp2
  go_loop [5, 6] (fun q i => ∃ (k : Nat) (s : Int), q = .int .i64 s ∧ i = .int .i64 k ∧ k ≤ m ∧ s = wtSum ss (r.take k)) (fun _ i => m - (intOf i).toNat)
  case atStart => exact ⟨0, 0, rfl, rfl, by omega, rfl⟩
  case round =>
    obtain ⟨k, s, rfl, rfl, hk, hs⟩ := hrel
    have HS := Lib.hid hs
    obtain ⟨b1, b2⟩ := wtSum_ok HM.out HC.out k (by rw [HL.out]; exact hk)
    rw [← hs] at b1 b2
    clear hs
    by_cases hlt : k < m
    · obtain ⟨b', off', rfl, hb', hc'⟩ := hr.at_ (by omega)
      have hcx : w.cell? ⟨b', off' + k, none⟩ = some (.int .i64 (intAt r k)) := hc' k hlt
      clear hc'
      have hlr : k < r.length := by rw [HL.out]; exact hlt
      obtain ⟨x1, x2⟩ := code_at HC.out hlr
      obtain ⟨y1, y2⟩ := wtOf_ok HM.out HC.out hlr
      have HT := Lib.hid (wtSum_take ss r k hlr)
      rw [HSL.out] at x2
      clear hlr
      by_cases hx : intAt r k < 0
      · go_wp2
        go_round
        case rel => exact ⟨k + 1, s + 1, by go_num, by go_num, by omega, by rw [HT.out, ← HS.out]; unfold wtOf; rw [if_pos hx]⟩
        case measure => simp [intOf]; omega
      · obtain ⟨q, hq⟩ : ∃ q : Nat, intAt r k = (q : Int) := ⟨(intAt r k).toNat, by omega⟩
        rw [hq] at hcx x2 hx
        have hw : wtOf ss (intAt r k) = (symAt ss q).weight := by unfold wtOf; rw [hq, if_neg (by omega), Int.toNat_natCast]
        rw [hw] at y1 y2
        have HW := Lib.hid hw
        clear hq hw x1
        obtain ⟨b, off, rfl, hb0, hc⟩ := h.at_ (by omega)
        obtain ⟨_, _, _, c3⟩ := hc q (by omega)
        clear hc
        go_wp2
        go_round
        case rel => exact ⟨k + 1, s + (symAt ss q).weight, rfl, by go_num, by omega, by rw [HT.out, ← HS.out, HW.out]⟩
        case measure => simp [intOf]; omega
    · obtain rfl : k = m := by omega
      have H : Hid (wtSum ss r = s) := by show wtSum ss r = s; rw [HS.out, List.take_of_length_le (by rw [HL.out]; omega)]
      go_wp2
      go_ret
      exact ⟨ret_int H.out.symm, rfl⟩

end Go.Proofs.Ytpplddongkhkbaa
