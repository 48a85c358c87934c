/-
  Contract: lit.enter.
-/
import Derived.Test.YtiekgdohanahlaaLitHas
namespace Go.Proofs.Ytiekgdohanahlaa
open Go.RowKit Go.Deep
set_option linter.unusedSimpArgs false
set_option linter.unusedVariables false
set_option maxRecDepth 100000

theorem LitKR.over {ss : List Sym} {p q : Lt} {k : Int} (h : LitKR ss q p k) : (k = 2 ∨ k = 1) ↔ (q = p ∨ LMor ss q p) := by
  rcases h with ⟨h, rfl⟩ | ⟨h, rfl⟩ | ⟨h, rfl⟩ | ⟨h1, h2, h3, rfl⟩
  · exact ⟨fun _ => .inl h, fun _ => .inr rfl⟩
  · exact ⟨fun _ => .inr h, fun _ => .inl rfl⟩
  · refine ⟨fun x => by omega, fun x => ?_⟩
    rcases x with x | x
    · exact absurd x.symm h.ne
    · exact (h.asymm x).elim
  · refine ⟨fun x => by omega, fun x => ?_⟩
    rcases x with x | x
    · exact absurd (congrArg Lt.atom x) h1
    · exact absurd x h2
theorem LitKR.three {ss : List Sym} {p q : Lt} (h : LitKR ss q p 3) : ¬ LMor ss p q := by
  rcases h with ⟨_, h⟩ | ⟨_, h⟩ | ⟨_, h⟩ | ⟨_, _, h, _⟩
  · cases h
  · cases h
  · cases h
  · exact h
theorem LitKR.nought {ss : List Sym} {p q : Lt} (h : LitKR ss q p 0) : LMor ss p q := by
  rcases h with ⟨_, h⟩ | ⟨_, h⟩ | ⟨h, _⟩ | ⟨_, _, _, h⟩
  · cases h
  · cases h
  · exact h
  · cases h
theorem LitKR.few {ss : List Sym} {p q : Lt} {k : Int} (h : LitKR ss q p k) : k = 0 ∨ k = 1 ∨ k = 2 ∨ k = 3 := by
  rcases h with ⟨_, h⟩ | ⟨_, h⟩ | ⟨_, h⟩ | ⟨_, _, _, h⟩ <;> omega
def GrtRet (base : Nat) (ls : List Lt) (w : World) (e : Ending) (w' : World) : Prop := ∃ v, e = .returned v ∧ OwnG w' base v ls ∧ Below base w w'

set_option maxHeartbeats 1000000 in
theorem enter_blk (A A1 : Option Addr) (n c c1 base g cap : Nat) (ss : List Sym) (gs : List Lt) (p : Lt) (w : World) (hbase : base ≤ w.heap.size) (h : SymsAt w base A n ss) (hn : n ≤ maxLen) (h1 : LitAt w base A1 p.atom.length c1 p) (hp : litB ss p = true)
    (hg : GBlk w base g cap gs) (hv : ∀ j, j < gs.length → litB ss (ltAt gs j) = true) (hac : ∀ a ∈ gs, ∀ b ∈ gs, ¬ LMor ss a b) (hfew : gs.length + 1 ≤ 4398046511104) :
    Calls Try.prog 33 #[.slice A n c, .slice (some ⟨g, 0, none⟩) gs.length cap, .agg #[.bool p.neg, .slice A1 p.atom.length c1]] w (GrtRet base (entL ss gs p) w) := by
  have HS := Lib.hid h
  have H1 := Lib.hid h1
  have HP := Lib.hid hp
  have HG := Lib.hid hg
  have HV := Lib.hid hv
  have HAC := Lib.hid hac
  have hroom := hg.room
  have hglt := hg.lt
  have hgle := hg.le
  obtain ⟨N, hN⟩ : ∃ N, gs.length = N := ⟨_, rfl⟩
  have HN := Lib.hid hN
  obtain ⟨m1, hm1⟩ : ∃ m1, p.atom.length = m1 := ⟨_, rfl⟩
  have HM := Lib.hid hm1
  rw [hN] at hfew hroom ⊢
  rw [hm1]
  clear h h1 hp hg hv hac hN hm1
  have HB0 := Lib.hid (below_new w (.cells #[.bool p.neg, .slice A1 m1 c1] 25))
  have HK0 : Hid ((w.alloc (.cells #[.bool p.neg, .slice A1 m1 c1] 25)).cell? ⟨w.heap.size, 0, none⟩ = some (.bool p.neg)) := by show _ = _; rw [World.cell?_alloc_new]; rfl
  have HK1 : Hid ((w.alloc (.cells #[.bool p.neg, .slice A1 m1 c1] 25)).cell? ⟨w.heap.size, 1, none⟩ = some (.slice A1 m1 c1)) := by show _ = _; rw [World.cell?_alloc_new]; rfl
  go_enter Try.func33, Try.ntmps33
  go_wp2
  go_loopw [7, 14] (fun q j wr => ∃ k kn : Nat, j = .int .i64 k ∧ k ≤ N ∧ q = .slice (some ⟨g, 0, none⟩) kn cap ∧ kn = (keepL ss p (gs.take k)).length ∧ GBlk wr base g cap (contL ss p gs k) ∧ (∀ j, j < k → ¬ (ltAt gs j = p ∨ LMor ss (ltAt gs j) p)) ∧ wr.cell? ⟨w.heap.size, 0, none⟩ = some (.bool p.neg) ∧ wr.cell? ⟨w.heap.size, 1, none⟩ = some (.slice A1 m1 c1) ∧ Below base w wr ∧ w.heap.size + 1 ≤ wr.heap.size) (fun _ j _ => N - (intOf j).toNat)
  case atStart => exact ⟨0, 0, rfl, by omega, rfl, by unfold keepL; simp, (HG.out.on HB0.out).cast contL_zero.symm, fun j hj => absurd hj (by omega), HK0.out, HK1.out, HB0.out.mono hbase, by simp⟩
  case round =>
    obtain ⟨k, kn, rfl, hk, rfl, hkn, hgb, hno, x0, x1, hbw, hsz⟩ := hrel
    have HBW := Lib.hid hbw
    have HNO := Lib.hid hno
    have HGB := Lib.hid hgb
    have HKN := Lib.hid hkn
    clear hbw hno hgb hkn
    by_cases hlt : k < N
    · have hkl : k < gs.length := by rw [HN.out]; exact hlt
      obtain ⟨A2, c2, d0, d1, hk1⟩ := HGB.out.cells (i := k) (by rw [contL_length (by omega)]; exact hkl)
      rw [contL_at hkl] at d0 d1 hk1
      have HVK := Lib.hid (HV.out k hkl)
      have HKL := Lib.hid hkl
      obtain ⟨q, hq⟩ : ∃ q, q = ltAt gs k := ⟨_, rfl⟩
      have HQ := Lib.hid hq
      rw [← hq] at d0 d1 hk1 HVK
      have HK2 := Lib.hid hk1
      have hi0 : (0 : Int) ≤ (k : Int) := by omega
      have hi3 : (k : Int) < (N : Int) := by omega
      clear hk1 hq hkl
      have y0 : (wr.alloc (.cells #[.bool q.neg, .slice A2 q.atom.length c2] 25)).cell? ⟨w.heap.size, 0, none⟩ = some (.bool p.neg) := by rw [(below_new wr _).cell (p := ⟨w.heap.size, 0, none⟩) (by show w.heap.size < _; omega)]; exact x0
      have y1 : (wr.alloc (.cells #[.bool q.neg, .slice A2 q.atom.length c2] 25)).cell? ⟨w.heap.size, 1, none⟩ = some (.slice A1 m1 c1) := by rw [(below_new wr _).cell (p := ⟨w.heap.size, 1, none⟩) (by show w.heap.size < _; omega)]; exact x1
      go_wp2_with fail
      have hb0 := below_new wr (.cells #[.bool q.neg, .slice A2 q.atom.length c2] 25)
      have hsb : base ≤ wr.heap.size := by omega
      have HM' := HM.out
      refine (litcompare_any A A2 A1 n c _ c2 _ c1 ss q p _ (((HS.out.below HBW.out).more hsb).on hb0) hn ((HK2.out.more hsb).on hb0) (by rw [← HM']; exact ((H1.out.below HBW.out).more hsb).on hb0) HVK.out HP.out).mono ?_
      rintro e w1 ⟨kk, rfl, hkk, hb1⟩
      have hb2 : Below wr.heap.size wr w1 := hb0.trans (hb1.mono hb0.size)
      have z0 : w1.cell? ⟨w.heap.size, 0, none⟩ = some (.bool p.neg) := by rw [hb2.cell (p := ⟨w.heap.size, 0, none⟩) (by show w.heap.size < _; omega)]; exact x0
      have z1 : w1.cell? ⟨w.heap.size, 1, none⟩ = some (.slice A1 m1 c1) := by rw [hb2.cell (p := ⟨w.heap.size, 1, none⟩) (by show w.heap.size < _; omega)]; exact x1
      have t0 : w1.cell? ⟨wr.heap.size, 0, none⟩ = some (.bool q.neg) := by rw [hb1.cell (p := ⟨wr.heap.size, 0, none⟩) (by simp), World.cell?_alloc_new]; rfl
      have t1 : w1.cell? ⟨wr.heap.size, 1, none⟩ = some (.slice A2 q.atom.length c2) := by rw [hb1.cell (p := ⟨wr.heap.size, 1, none⟩) (by simp), World.cell?_alloc_new]; rfl
      have hsz1 : w.heap.size + 1 ≤ w1.heap.size := by have := hb2.size; omega
      have HG1 := Lib.hid (HGB.out.on hb2)
      have HB1 := Lib.hid (HBW.out.trans (hb2.mono hsb))
      have HQ1 := Lib.hid (HK2.out.below (hb2.mono hsb))
      have HKK := Lib.hid hkk
      have hfour := hkk.few
      clear hb0 hb1 hb2 hkk y0 y1 x0 x1 HM'
      rcases hfour with rfl | rfl | rfl | rfl
      · -- p is more: it is left out
        have HOUT := HKK.out.nought
        rw [HQ.out] at HOUT
        have E1 := Lib.hid (contL_out HKL.out HOUT)
        have E2 := Lib.hid (keepL_out HKL.out HOUT)
        have HNX : Hid (∀ j, j < k + 1 → ¬ (ltAt gs j = p ∨ LMor ss (ltAt gs j) p)) := by
          intro j hj
          by_cases e : j = k
          · rw [e, ← HQ.out]; intro x; have := HKK.out.over.2 x; omega
          · exact HNO.out j (by omega)
        clear HOUT
        go_wp2
        go_roundw
        case rel => exact ⟨k + 1, kn, by go_num, by omega, rfl, by rw [E2.out]; exact HKN.out, HG1.out.cast E1.out.symm, HNX.out, z0, z1, HB1.out, hsz1⟩
        case measure => simp [intOf]; omega
      · have HOV := HKK.out.over.1 (.inr rfl)
        rw [HQ.out] at HOV
        have HC := Lib.hid (contL_same HAC.out HKL.out HOV)
        have HE := Lib.hid (entL_over HKL.out HOV)
        clear HOV
        go_wp2
        go_ret
        exact ⟨_, rfl, by rw [HE.out]; exact .inr ⟨g, cap, by rw [HN.out]; rfl, HG1.out.cast HC.out⟩, HB1.out⟩
      · have HOV := HKK.out.over.1 (.inl rfl)
        rw [HQ.out] at HOV
        have HC := Lib.hid (contL_same HAC.out HKL.out HOV)
        have HE := Lib.hid (entL_over HKL.out HOV)
        clear HOV
        go_wp2
        go_ret
        exact ⟨_, rfl, by rw [HE.out]; exact .inr ⟨g, cap, by rw [HN.out]; rfl, HG1.out.cast HC.out⟩, HB1.out⟩
      · have HIN := HKK.out.three
        rw [HQ.out] at HIN
        have E1 := Lib.hid (contL_in HKL.out HIN)
        have E2 := Lib.hid (keepL_in HKL.out HIN)
        have HNX : Hid (∀ j, j < k + 1 → ¬ (ltAt gs j = p ∨ LMor ss (ltAt gs j) p)) := by
          intro j hj
          by_cases e : j = k
          · rw [e, ← HQ.out]; intro x; have := HKK.out.over.2 x; omega
          · exact HNO.out j (by omega)
        have hkl2 : kn < (contL ss p gs k).length := by
          have q1 := HKN.out
          have q2 := HKL.out
          have q3 := keepL_take (ss := ss) (p := p) (gs := gs) (k := k)
          rw [contL_length (by omega)]
          omega
        clear HIN
        go_wp2_with (at_builtin
                     refine app_in_place rfl (.tmp 28) (.tmp 30) rfl base g cap kn _ q A2 c2 rfl HG1.out hkl2 HQ1.out rfl ?_
                     intro w2 hg2 hb2 hs2 ho2
                     have HG2 := Lib.hid hg2
                     have HB2 := Lib.hid (HB1.out.trans hb2)
                     have v0 : w2.cell? ⟨w.heap.size, 0, none⟩ = some (.bool p.neg) := by rw [World.cell?_of_block (ho2 w.heap.size (by omega) (by omega))]; exact z0
                     have v1 : w2.cell? ⟨w.heap.size, 1, none⟩ = some (.slice A1 m1 c1) := by rw [World.cell?_of_block (ho2 w.heap.size (by omega) (by omega))]; exact z1
                     have hsz2 : w.heap.size + 1 ≤ w2.heap.size := by omega
                     clear hg2 hb2 hs2 ho2)
        go_roundw
        case rel => exact ⟨k + 1, kn + 1, by go_num, by omega, rfl, by rw [E2.out, List.length_append, ← HKN.out]; rfl, HG2.out.cast (by rw [E1.out, HKN.out, ← HQ.out]), HNX.out, v0, v1, HB2.out, hsz2⟩
        case measure => simp [intOf]; omega
    · obtain rfl : k = N := by omega
      have hT : gs.take k = gs := List.take_of_length_le (by rw [HN.out]; omega)
      have HE : Hid (entL ss gs p = keepL ss p gs ++ [p]) := entL_new fun j hj => HNO.out j (by rw [HN.out] at hj; exact hj)
      have hfr : OwnG wr base (.slice (some ⟨g, 0, none⟩) kn cap) (keepL ss p gs) := by
        have q3 := keepL_take (ss := ss) (p := p) (gs := gs) (k := k)
        have := HGB.out.front (k := kn) (by rw [contL_length (by rw [HN.out]; omega), HN.out, HKN.out]; exact q3)
        rw [HKN.out, contL_take, hT] at this
        rw [HKN.out, hT]
        exact this
      have HFR := Lib.hid hfr
      have HLT : Hid (LitAt wr base A1 p.atom.length c1 p) := H1.out.below HBW.out
      have hkq : (keepL ss p gs).length + 1 ≤ 4398046511104 := by have := keepL_length (ss := ss) (p := p) (gs := gs); have := HN.out; omega
      have hsb : base ≤ wr.heap.size := by omega
      obtain rfl := HM.out
      clear hfr hT
      go_wp2_with (at_builtin
                   refine app_grt rfl (.tmp 33) (.tmp 35) rfl base _ _ p A1 c1 rfl HFR.out HLT.out rfl hkq hsb ?_
                   intro v2 w2 hg2 hb2
                   have HG2 := Lib.hid hg2
                   have HB2 := Lib.hid (HBW.out.trans hb2)
                   clear hg2 hb2)
      go_ret
      exact ⟨_, rfl, by rw [HE.out]; exact HG2.out, HB2.out⟩

set_option maxHeartbeats 1000000 in
theorem enter_nil (A A1 : Option Addr) (n c c1 base : Nat) (ss : List Sym) (p : Lt) (w : World) (hbase : base ≤ w.heap.size) (h1 : LitAt w base A1 p.atom.length c1 p) :
    Calls Try.prog 33 #[.slice A n c, .slice none 0 0, .agg #[.bool p.neg, .slice A1 p.atom.length c1]] w (GrtRet base (entL ss [] p) w) := by
  have H1 := Lib.hid h1
  obtain ⟨m1, hm1⟩ : ∃ m1, p.atom.length = m1 := ⟨_, rfl⟩
  have HM := Lib.hid hm1
  rw [hm1]
  clear h1 hm1
  have HB0 := Lib.hid (below_new w (.cells #[.bool p.neg, .slice A1 m1 c1] 25))
  have HK0 : Hid ((w.alloc (.cells #[.bool p.neg, .slice A1 m1 c1] 25)).cell? ⟨w.heap.size, 0, none⟩ = some (.bool p.neg)) := by show _ = _; rw [World.cell?_alloc_new]; rfl
  have HK1 : Hid ((w.alloc (.cells #[.bool p.neg, .slice A1 m1 c1] 25)).cell? ⟨w.heap.size, 1, none⟩ = some (.slice A1 m1 c1)) := by show _ = _; rw [World.cell?_alloc_new]; rfl
  go_enter Try.func33, Try.ntmps33
  go_wp2
  go_loopw [7, 14] (fun q j wr => j = .int .i64 0 ∧ q = .slice none 0 0 ∧ wr.cell? ⟨w.heap.size, 0, none⟩ = some (.bool p.neg) ∧ wr.cell? ⟨w.heap.size, 1, none⟩ = some (.slice A1 m1 c1) ∧ Below base w wr ∧ w.heap.size + 1 ≤ wr.heap.size) (fun _ j _ => 0)
  case atStart => exact ⟨rfl, rfl, HK0.out, HK1.out, HB0.out.mono hbase, by simp⟩
  case round =>
    obtain ⟨rfl, rfl, x0, x1, hbw, hsz⟩ := hrel
    have HBW := Lib.hid hbw
    clear hbw
    have HLT : Hid (LitAt wr base A1 p.atom.length c1 p) := H1.out.below HBW.out
    have hsb : base ≤ wr.heap.size := by omega
    have HG0 : Hid (OwnG wr base (.slice none 0 0) []) := OwnG.nil_
    obtain rfl := HM.out
    go_wp2_with (at_builtin
                 refine app_grt rfl (.tmp 33) (.tmp 35) rfl base _ _ p A1 c1 rfl HG0.out HLT.out rfl (by simp) hsb ?_
                 intro v2 w2 hg2 hb2
                 have HG2 := Lib.hid hg2
                 have HB2 := Lib.hid (HBW.out.trans hb2)
                 clear hg2 hb2)
    go_ret
    exact ⟨_, rfl, by rw [entL_new (fun j hj => absurd hj (by simp))]; exact HG2.out, HB2.out⟩
theorem enter_any (A A1 : Option Addr) (n c c1 base : Nat) (v : Value) (ss : List Sym) (gs : List Lt) (p : Lt) (w : World) (hbase : base ≤ w.heap.size) (h : SymsAt w base A n ss) (hn : n ≤ maxLen) (h1 : LitAt w base A1 p.atom.length c1 p) (hp : litB ss p = true)
    (hg : OwnG w base v gs) (hv : ∀ j, j < gs.length → litB ss (ltAt gs j) = true) (hac : ∀ a ∈ gs, ∀ b ∈ gs, ¬ LMor ss a b) (hfew : gs.length + 1 ≤ 4398046511104) :
    Calls Try.prog 33 #[.slice A n c, v, .agg #[.bool p.neg, .slice A1 p.atom.length c1]] w (GrtRet base (entL ss gs p) w) := by
  rcases hg with ⟨rfl, rfl⟩ | ⟨g, cap, rfl, hg⟩
  · exact enter_nil A A1 n c c1 base ss p w hbase h1
  · exact enter_blk A A1 n c c1 base g cap ss gs p w hbase h hn h1 hp hg hv hac hfew
end Go.Proofs.Ytiekgdohanahlaa
