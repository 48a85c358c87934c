/-
  Contracts: lit.allMay, shape.SameLit, shape.HasLit and what it calls (its function literal, slices.IndexFunc, slices.ContainsFunc).
-/
import Derived.Test.YtcjpopjcpgipjaaDoorMemGrt
import Derived.Test.YtcjpopjcpgipjaaDoorRefTops
namespace Go.Proofs.YtcjpopjcpgipjaaDoor
open Go.RowKit Go.Deep
set_option linter.unusedSimpArgs false
set_option linter.unusedVariables false
set_option maxRecDepth 100000

set_option maxHeartbeats 1000000 in
theorem sameLit_any (A1 A2 : Option Addr) (n1 c1 n2 c2 : Nat) (p q : Lt) (w : World) (h1 : LitAt w w.heap.size A1 n1 c1 p) (h2 : LitAt w w.heap.size A2 n2 c2 q) :
    Calls Tryd.prog 114 #[.agg #[.bool p.neg, .slice A1 n1 c1], .agg #[.bool q.neg, .slice A2 n2 c2]] w fun e w' => e = .returned (.bool (sameL p q)) ∧ Below w.heap.size w w' := by
  have H1 := Lib.hid h1
  have H2 := Lib.hid h2
  have HB0 := Lib.hid (below_new2 w (.cells #[.bool p.neg, .slice A1 n1 c1] 75) (.cells #[.bool q.neg, .slice A2 n2 c2] 75))
  clear h1 h2
  cases hs : (p.neg == q.neg)
  · have HE : Hid (sameL p q = false) := by show sameL p q = false; unfold sameL; rw [hs]; rfl
    go_enter Tryd.func114, Tryd.ntmps114
    go_wp2
    go_ret
    exact ⟨ret_b HE.out.symm, HB0.out⟩
  · have HE : Hid (sameL p q = sameI p.atom q.atom) := by show sameL p q = _; unfold sameL; rw [hs]; rfl
    go_enter Tryd.func114, Tryd.ntmps114
    go_wp2_with fail
    refine (equal_any A1 A2 n1 c1 n2 c2 _ _ p.atom q.atom _ (H1.out.on HB0.out).at_ (H2.out.on HB0.out).at_ H1.out.big H2.out.big).mono ?_
    rintro e w1 ⟨rfl, hb1⟩
    have HB1 := Lib.hid (HB0.out.trans (hb1.mono HB0.out.size))
    clear hb1
    go_wp2
    go_ret
    exact ⟨ret_b HE.out.symm, HB1.out⟩
set_option maxHeartbeats 1000000 in
theorem hasOne_any (A1 A2 : Option Addr) (n1 c1 n2 c2 B : Nat) (p q : Lt) (w : World) (h1 : LitAt w w.heap.size A1 n1 c1 p) (h2 : LitAt w w.heap.size A2 n2 c2 q) (hB : B < w.heap.size) (k0 : w.cell? ⟨B, 0, none⟩ = some (.bool p.neg)) (k1 : w.cell? ⟨B, 1, none⟩ = some (.slice A1 n1 c1)) :
    Calls Tryd.prog 113 #[.agg #[.bool q.neg, .slice A2 n2 c2], .pointer (some ⟨B, 0, none⟩)] w fun e w' => e = .returned (.bool (sameL p q)) ∧ Below w.heap.size w w' := by
  have H1 := Lib.hid h1
  have H2 := Lib.hid h2
  have hne : ¬ B = w.heap.size := by omega
  have q0 : (w.alloc (.cells #[.bool q.neg, .slice A2 n2 c2] 75)).cell? ⟨B, 0, none⟩ = some (.bool p.neg) := by rw [(below_new w _).cell (p := ⟨B, 0, none⟩) hB]; exact k0
  have q1 : (w.alloc (.cells #[.bool q.neg, .slice A2 n2 c2] 75)).cell? ⟨B, 1, none⟩ = some (.slice A1 n1 c1) := by rw [(below_new w _).cell (p := ⟨B, 1, none⟩) hB]; exact k1
  have HB0 := Lib.hid (below_new w (.cells #[.bool q.neg, .slice A2 n2 c2] 75))
  clear h1 h2
  go_enter Tryd.func113, Tryd.ntmps113
  go_wp2_with fail
  refine (sameLit_any A1 A2 n1 c1 n2 c2 p q _ (H1.out.on HB0.out) (H2.out.on HB0.out)).mono ?_
  rintro e w1 ⟨rfl, hb1⟩
  have HB1 := Lib.hid (HB0.out.trans (hb1.mono HB0.out.size))
  clear hb1
  go_wp2
  go_ret
  exact ⟨rfl, HB1.out⟩
def IdxPost (p : Lt) (ls : List Lt) (w : World) (e : Ending) (w' : World) : Prop := ∃ r : Int, e = .returned (.int .i64 r) ∧ decide (0 ≤ r) = hasL p ls ∧ Below w.heap.size w w'
set_option maxHeartbeats 1000000 in
theorem indexFunc_any (A A1 : Option Addr) (n c n1 c1 B : Nat) (p : Lt) (ls : List Lt) (w : World) (hl : LitsAt w w.heap.size A n ls) (hn : n ≤ 4398046511104) (h1 : LitAt w w.heap.size A1 n1 c1 p) (hB : B < w.heap.size) (k0 : w.cell? ⟨B, 0, none⟩ = some (.bool p.neg)) (k1 : w.cell? ⟨B, 1, none⟩ = some (.slice A1 n1 c1)) :
    Calls Tryd.prog 116 #[.slice A n c, .func (.func 113) #[] #[.pointer (some ⟨B, 0, none⟩)]] w (IdxPost p ls w) := by
  have HL := Lib.hid hl
  have HN := Lib.hid hl.len
  have H1 := Lib.hid h1
  have HK0 := Lib.hid k0
  have HK1 := Lib.hid k1
  clear hl h1 k0 k1
  go_enter Tryd.func116, Tryd.ntmps116
  go_wp2
  go_loopw [8] (fun j wr => ∃ k : Nat, j = .int .i64 k ∧ k ≤ n ∧ (∀ j, j < k → sameL p (ltAt ls j) = false) ∧ Below w.heap.size w wr) (fun j _ => n - (intOf j).toNat)
  case atStart => exact ⟨0, rfl, by omega, fun j hj => absurd hj (by omega), Below.refl _ _⟩
  case round =>
    obtain ⟨k, rfl, hk, hno, hbw⟩ := hrel
    have HBW := Lib.hid hbw
    have HNO := Lib.hid hno
    clear hbw hno
    by_cases hlt : k < n
    · obtain ⟨b, off, A2, c2, rfl, hb, d0, d1, hk1⟩ := (HL.out.on HBW.out).one hlt
      have HYES : Hid (sameL p (ltAt ls k) = true → hasL p ls = true) := fun q => hasL_yes (by rw [HN.out]; exact hlt) q
      have HNX : Hid (sameL p (ltAt ls k) = false → ∀ j, j < k + 1 → sameL p (ltAt ls j) = false) := by
        intro q j hj
        by_cases e : j = k
        · rw [e]; exact q
        · exact HNO.out j (by omega)
      obtain ⟨q, hq⟩ : ∃ q, q = ltAt ls k := ⟨_, rfl⟩
      rw [← hq] at d0 d1 hk1 HYES HNX
      have HK2 := Lib.hid hk1
      have hi0 : (0 : Int) ≤ (k : Int) := by omega
      have hi3 : (k : Int) < (n : Int) := by omega
      clear hk1 hq
      go_wp2_with fail
      refine (hasOne_any A1 A2 n1 c1 _ c2 B p q _ (H1.out.on HBW.out) HK2.out (by have := HBW.out.size; omega) (by rw [HBW.out.cell (p := ⟨B, 0, none⟩) hB]; exact HK0.out) (by rw [HBW.out.cell (p := ⟨B, 1, none⟩) hB]; exact HK1.out)).mono ?_
      rintro e w1 ⟨rfl, hb1⟩
      have HB1 := Lib.hid (HBW.out.trans (hb1.mono HBW.out.size))
      clear hb1
      cases hpb : sameL p q
      · have HX := Lib.hid (HNX.out hpb)
        clear hpb
        go_wp2
        go_roundw
        case rel => exact ⟨k + 1, by go_num, by omega, HX.out, HB1.out⟩
        case measure => simp [intOf]; omega
      · have HX := Lib.hid (HYES.out hpb)
        clear hpb
        go_wp2
        go_ret
        exact ⟨(k : Int), rfl, by rw [HX.out]; simp, HB1.out⟩
    · obtain rfl : k = n := by omega
      have HX : Hid (hasL p ls = false) := hasL_no fun j hj => HNO.out j (by rw [HN.out] at hj; exact hj)
      go_wp2
      go_ret
      exact ⟨-1, rfl, by rw [HX.out]; rfl, HBW.out⟩
set_option maxHeartbeats 1000000 in
theorem containsFunc_any (A A1 : Option Addr) (n c n1 c1 B : Nat) (p : Lt) (ls : List Lt) (w : World) (hl : LitsAt w w.heap.size A n ls) (hn : n ≤ 4398046511104) (h1 : LitAt w w.heap.size A1 n1 c1 p) (hB : B < w.heap.size) (k0 : w.cell? ⟨B, 0, none⟩ = some (.bool p.neg)) (k1 : w.cell? ⟨B, 1, none⟩ = some (.slice A1 n1 c1)) :
    Calls Tryd.prog 112 #[.slice A n c, .func (.func 113) #[] #[.pointer (some ⟨B, 0, none⟩)]] w fun e w' => e = .returned (.bool (hasL p ls)) ∧ Below w.heap.size w w' := by
  have HL := Lib.hid hl
  have H1 := Lib.hid h1
  have HK0 := Lib.hid k0
  have HK1 := Lib.hid k1
  clear hl h1 k0 k1
  go_enter Tryd.func112, Tryd.ntmps112
  go_wp2_with fail
  refine (indexFunc_any A A1 n c n1 c1 B p ls w HL.out hn H1.out hB HK0.out HK1.out).mono ?_
  rintro e w1 ⟨r, rfl, hr, hb1⟩
  have HR := Lib.hid hr
  have HB1 := Lib.hid hb1
  clear hr hb1
  go_wp2
  go_ret
  exact ⟨ret_b HR.out, HB1.out⟩
set_option maxHeartbeats 1000000 in
theorem has_any (A A1 : Option Addr) (n c n1 c1 : Nat) (p : Lt) (ls : List Lt) (w : World) (hl : LitsAt w w.heap.size A n ls) (hn : n ≤ 4398046511104) (h1 : LitAt w w.heap.size A1 n1 c1 p) :
    Calls Tryd.prog 98 #[.slice A n c, .agg #[.bool p.neg, .slice A1 n1 c1]] w fun e w' => e = .returned (.bool (hasL p ls)) ∧ Below w.heap.size w w' := by
  have HL := Lib.hid hl
  have H1 := Lib.hid h1
  have hb0 := below_new w (.cells #[.bool p.neg, .slice A1 n1 c1] 75)
  have HB0 := Lib.hid hb0
  clear hl h1 hb0
  go_enter Tryd.func98, Tryd.ntmps98
  go_wp2_with fail
  refine (containsFunc_any A A1 n c n1 c1 w.heap.size p ls _ (HL.out.on HB0.out) hn (H1.out.on HB0.out) (by simp) (by rw [World.cell?_alloc_new]; rfl) (by rw [World.cell?_alloc_new]; rfl)).mono ?_
  rintro e w1 ⟨rfl, hb1⟩
  have HB1 := Lib.hid (HB0.out.trans (hb1.mono HB0.out.size))
  clear hb1
  go_wp2
  go_ret
  exact ⟨rfl, HB1.out⟩

end Go.Proofs.YtcjpopjcpgipjaaDoor
