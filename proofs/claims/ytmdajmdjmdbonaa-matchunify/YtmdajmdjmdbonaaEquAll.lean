/-
  Contracts: equate.equate, equate.Apart.
-/
import Derived.Test.YtmdajmdjmdbonaaGraphE
import Derived.Laws.Rows
import Derived.Laws.Tables
import Derived.Laws.ResultCell
namespace Go.Proofs.Ytmdajmdjmdbonaa
open Go.RowKit
set_option linter.unusedSimpArgs false
set_option linter.unusedVariables false
set_option maxRecDepth 100000

/-- What equate tells: nothing makes the rows the same; or the classes that stand for the most general that does. -/
def EquPost (y : Nat) (ss : List Sym) (a b : List Int) (w : World) (e : Ending) (w' : World) : Prop :=
  ((e = .returned (.tuple #[.agg #[.slice none 0 0], .bool false]) ∧ ∀ θ, Sub (y + 24) ss θ → ap θ a ≠ ap θ (farR y b)) ∨
   (∃ v G D rt d L R M, e = .returned (.tuple #[.agg #[v], .bool true]) ∧ OwnN w' w.heap.size v G ∧ Full (y + 24) ss G D rt d L R M ∧ G.length ≤ 1000 ∧ Canon (y + 24) ss a (farR y b) M)) ∧ Below w.heap.size w w'
theorem ownN_setCell {w : World} {r j : Nat} {v : Value} {G : List Nd} (h : OwnN w (r + 1) v G) (u : Value) : OwnN (w.setCell ⟨r, j, none⟩ u) r v G := by
  obtain ⟨vs, h1, h2, h3⟩ := h
  have key : ∀ k, r < k → (w.setCell ⟨r, j, none⟩ u).heap[k]? = w.heap[k]? := fun k hk => heap_setCell_other w ⟨r, j, none⟩ k u (by simp; omega)
  refine ⟨vs, h1, ?_, fun i hi => ?_⟩
  · refine ⟨h2.1, ?_⟩
    rcases h2.2 with q | ⟨g, cap, cur, q1, q2, q3, q4⟩
    · exact .inl q
    · exact .inr ⟨g, cap, cur, q1, by omega, by rw [key g (by omega)]; exact q3, q4⟩
  · have h4 := h3 i hi
    refine ⟨h4.1, ?_⟩
    rcases h4.2 with q | ⟨g, cap, cur, q1, q2, q3, q4⟩
    · exact .inl q
    · exact .inr ⟨g, cap, cur, q1, by omega, by rw [key g (by omega)]; exact q3, q4⟩
theorem classes_info : (Try.prog.info? 43).map (fun i => (i.zero, i.size)) = some (some (.agg #[.slice none 0 0]), 1) := by kernel_rfl
theorem equ_ret {R : Ending → World → Prop} {a : Act} {w : World} {g : Nat} {b : Bool} {cs : Array Value} (h4 : a.tmps.getD 8 undef = .pointer (some ⟨g, 0, none⟩)) (h5 : a.tmps.getD 9 undef = .bool b) (hd : a.defers = [])
    (hg : w.heap[g]? = some (.cells cs 43 (0, 0))) (hs : cs.size = 1) (hR : R (.returned (.tuple #[.agg cs, .bool b])) w) : bodyPost Try.prog Try.f20 R .ret a w := by
  refine bodyPost_ret (v := .tuple #[.agg cs, .bool b]) ?_ hd hR
  rw [results_cell_tmp rfl, h4, h5]
  have := run_loadVar_row (P := Try.prog) w g 43 43 cs (0, 0) _ hg Try.underlying43 rfl (by rw [hs]; exact (zero_of_info classes_info).2)
  simp [asAddr, Result.andThen, this]

set_option maxHeartbeats 2000000 in
theorem equate_any (A A1 A2 : Option Addr) (n c n1 c1 n2 c2 y : Nat) (hy : y ≤ 24) (ss : List Sym) (a b : List Int) (w : World) (hs : SymsAt w w.heap.size A n ss) (hn : n ≤ maxLen) (ha : IntsAt w w.heap.size A1 n1 a) (hb : IntsAt w w.heap.size A2 n2 b) (hra : rowB ss a = true) (hrb : rowB ss b = true) :
    Calls Try.prog 20 #[.slice A n c, .slice A1 n1 c1, .slice A2 n2 c2, .int .i64 (y : Int)] w (EquPost y ss a b w) := by
  obtain ⟨i0, hi0, hz0, hz1, hz2⟩ := info_parts node_info
  obtain ⟨hzC, hzsC⟩ := zero_of_info classes_info
  obtain ⟨hmay, hal, hta⟩ := row_parts hra
  obtain ⟨-, hbl, htb⟩ := row_parts hrb
  have HS := Lib.hid hs
  have HA := Lib.hid ha
  have HB := Lib.hid hb
  have HLA := Lib.hid ha.len
  have HLB := Lib.hid hb.len
  have HM := Lib.hid hmay
  have HTA := Lib.hid hta
  have HTB := Lib.hid htb
  rw [HLA.out] at hal
  rw [HLB.out] at hbl
  have HAL := Lib.hid hal
  have HBL := Lib.hid hbl
  clear hs ha hb hmay hta htb hra hrb
  go_enter Try.func20, Try.ntmps20
  go_wp2_with (at_make
               refine wpList_make_own _ rfl (.const (.int .i64 0)) (.tmp 24) 41 rfl (w.heap.size + 1) 68 i0 _ 4 Try.underlying41 hi0 hz0 hz1 .i64 .i64 _ (y + 24 + n1 + n2) rfl rfl (by omega) (by rw [hz2]; omega) (by unfold maxLen; omega) (by simp) ?_
               intro w3 hown3 hg3)
  obtain ⟨gb, hgb⟩ : ∃ gb, gb = w3.heap.size := ⟨_, rfl⟩
  obtain ⟨wA, hwA⟩ : ∃ wA, wA = w.alloc (.cells #[.slice none 0 0] 43) := ⟨_, rfl⟩
  have hszA : wA.heap.size = w.heap.size + 1 := by rw [hwA]; simp
  rw [← hwA] at hg3
  have hb3 : Below (w.heap.size + 1) wA w3 := (Below.refl _ _).grown hg3 (by omega) (fun k hk => by cases hk)
  have hsz3 := hb3.size
  have HG0 : Hid (GraphAt (w3.alloc (.cells #[.slice (some ⟨w.heap.size + 1, 0, none⟩) 0 (y + 24 + n1 + n2)] 43)) (w.heap.size + 1) gb (varsG 0)) := by
    rw [hgb]
    refine ⟨_, heap_alloc_new _ _, by omega, [], rfl, ?_, fun i hi => absurd hi (by simp [varsG])⟩
    have hown4 := World.ownsRow.alloc hown3 (.cells #[.slice (some ⟨w.heap.size + 1, 0, none⟩) 0 (y + 24 + n1 + n2)] 43)
    have hsz1 : (w.alloc (.cells #[.slice none 0 0] 43)).heap.size = w.heap.size + 1 := by simp
    rw [hsz1] at hown4
    exact hown4
  have HC0 : Hid (Chg [68, 43] (w.heap.size + 1) wA (w3.alloc (.cells #[.slice (some ⟨w.heap.size + 1, 0, none⟩) 0 (y + 24 + n1 + n2)] 43))) := Chg.of_below ((hszA.symm ▸ hb3 : Below wA.heap.size wA w3).alloc (by omega) _) (by omega)
  have HRES : Hid (wA.heap[w.heap.size]? = some (.cells #[.slice none 0 0] 43 (0, 0))) := by rw [hwA]; exact heap_alloc_new _ _
  have HBA : Hid (Below w.heap.size w wA) := by rw [hwA]; exact below_new _ _
  have HSA := Lib.hid hszA
  rw [← hgb]
  clear hgb hown3 hg3 hb3 hsz3 hwA hszA
  obtain ⟨V, hV⟩ : ∃ V, V = y + 24 := ⟨_, rfl⟩
  have HV := Lib.hid hV
  go_loopw [28] (fun i wr => ∃ k : Nat, i = .int .i64 (k : Int) ∧ k ≤ y + 24 ∧ GraphAt wr (w.heap.size + 1) gb (varsG k) ∧ Chg [68, 43] (w.heap.size + 1) wA wr) (fun i _ => y + 24 - (intOf i).toNat)
  case atStart => exact ⟨0, rfl, by omega, HG0.out, HC0.out⟩
  case round =>
    obtain ⟨k, rfl, hk, hg, hc⟩ := hrel
    have HG := Lib.hid hg
    have HC := Lib.hid hc
    clear hg hc
    by_cases hlt : k < y + 24
    · go_wp2_with fail
      refine (add_any gb (w.heap.size + 1) (varsG k) (-1 - (k : Int)) _ [] wr none (HG.out.off (fun g e => by cases e)) OwnI.nil_ (.inl rfl) (by rw [varsG_length]; omega)).mono ?_
      rintro e w3 ⟨rfl, hg3, hc3⟩
      have HG3 : Hid (GraphAt w3 (w.heap.size + 1) gb (varsG (k + 1))) := by
        have := hg3.forget
        rw [← varsG_succ] at this
        exact this
      have HC3 := Lib.hid (HC.out.trans hc3)
      clear hg3 hc3
      go_wp2
      go_roundw
      case rel => exact ⟨k + 1, by go_num, by omega, HG3.out, HC3.out⟩
      case measure => simp [intOf]; omega
    · have HVK : Hid (varsG k = varsG V) := by show varsG k = varsG V; congr 1; omega
      rw [HVK.out] at HG
      have HBR : Hid (Below w.heap.size w wr) := HBA.out.trans (HC.out.bel.mono (by have := HSA.out; omega))
      go_wp2_with fail
      refine (read_any A A1 n c n1 c1 gb (w.heap.size + 1) V 0 (by omega) (by omega) ss a _ (varsG V) _ wr ((HS.out.below HBR.out).more (by omega)) hn ((HA.out.below HBR.out).more (by omega)) hal HM.out HTA.out HG.out (varsG_stands V ss) (varsG_fresh V) (by rw [varsG_length]; omega)).mono ?_
      rintro e w5 ⟨v5, G5, D5, ts5, rfl, hv5, hg5, hr5, hc5⟩
      rw [farR_zero] at hr5
      have HV5 := Lib.hid hv5
      have HG5 := Lib.hid hg5
      have HR5 := Lib.hid hr5
      have HC5 := Lib.hid (HC.out.trans hc5)
      have HB5 : Hid (Below w.heap.size w w5) := HBA.out.trans ((HC.out.trans hc5).bel.mono (by have := HSA.out; omega))
      have HN5 : Hid (G5.length ≤ 96) := by have := hr5.few; rw [varsG_length, HLA.out] at this; have := HV.out; show G5.length ≤ 96; omega
      clear hv5 hg5 hr5 hc5
      go_wp2_with fail
      refine (read_any A A2 n c n2 c2 gb (w.heap.size + 1) V y (by have := HV.out; omega) (by have := HV.out; omega) ss b _ G5 D5 w5 ((HS.out.below HB5.out).more (by omega)) hn ((HB.out.below HB5.out).more (by omega)) hbl HM.out HTB.out HG5.out HR5.out.st HR5.out.fresh (by have := HN5.out; omega)).mono ?_
      rintro e w6 ⟨v6, G6, D6, ts6, rfl, hv6, hg6, hr6, hc6⟩
      have HV6 := Lib.hid hv6
      have HG6 := Lib.hid hg6
      have HR6 := Lib.hid hr6
      have HC6 := Lib.hid (HC5.out.trans hc6)
      have HV56 := Lib.hid (hc6.own (by decide) HV5.out)
      have HN6 : Hid (G6.length ≤ 1000) := by have := hr6.few; rw [farR_length, HLB.out] at this; have := HN5.out; show G6.length ≤ 1000; omega
      have HEA : Hid (a = ts5.reverse.flatMap D6) := by
        show a = ts5.reverse.flatMap D6
        have h3 := HR5.out.eq
        rw [List.drop_zero] at h3
        rw [← h3]
        exact flatMap_congr' fun x hx => (hr6.old x (HR5.out.lt x (by simpa using hx))).symm
      have HEB : Hid (farR y b = ts6.reverse.flatMap D6) := by
        show farR y b = ts6.reverse.flatMap D6
        have h4 := hr6.eq
        rw [List.drop_zero] at h4
        exact h4.symm
      have HL5 : Hid (∀ x ∈ ts5, x < G6.length) := fun x hx => Nat.lt_of_lt_of_le (HR5.out.lt x hx) hr6.grow
      have HL6 : Hid (∀ x ∈ ts6, x < G6.length) := fun x hx => hr6.lt x hx
      have HT5 : Hid (ts5.length ≤ 48) := by
        have := trm_len HR5.out.count
        simp at this
        have := HLA.out
        show ts5.length ≤ 48
        omega
      have HT6 : Hid (ts6.length ≤ 48) := by
        have := trm_len hr6.count
        rw [List.length_drop, farR_length] at this
        have := HLB.out
        show ts6.length ≤ 48
        omega
      obtain ⟨A5, c5, hv5e⟩ := HV56.out.value_len
      obtain ⟨A6, c6, hv6e⟩ := HV6.out.value_len
      have HNOP : ∀ (hno : ts5.length = ts6.length → ∀ θ, Sub V ss θ → ¬ ∀ p ∈ ts5.zip ts6, ap θ (D6 p.1) = ap θ (D6 p.2)), ∀ θ, Sub (y + 24) ss θ → ap θ a ≠ ap θ (farR y b) := fun hno => by
        rw [← HV.out]
        exact no_pairs HR6.out.st HEA.out HEB.out (by simpa using HL5.out) (by simpa using HL6.out) (fun hl θ hθ => by rw [rev_pairs (by simpa using hl)]; exact hno (by simpa using hl) θ hθ)
      have HNO := Lib.hid HNOP
      have HR6' : Hid (w6.heap[w.heap.size]? = some (.cells #[.slice none 0 0] 43 (0, 0))) := by
        show w6.heap[w.heap.size]? = _
        rw [HC6.out.bel.block _ (by omega)]; exact HRES.out
      subst hv5e
      subst hv6e
      clear hv6 hg6 hr6 hc6 HNOP
      obtain ⟨L5, hL5⟩ : ∃ L5, L5 = ts5.length := ⟨_, rfl⟩
      obtain ⟨L6, hL6⟩ : ∃ L6, L6 = ts6.length := ⟨_, rfl⟩
      have HLL5 := Lib.hid hL5
      have HLL6 := Lib.hid hL6
      rw [← hL5, ← hL6]
      rw [← hL5] at HV56
      rw [← hL6] at HV6
      clear hL5 hL6 hlt hk
      by_cases hl : L5 = L6
      · subst hl
        have HEQ : Hid (ts5.length = ts6.length) := HLL5.out.symm.trans HLL6.out
        have hl' : ((L5 : Int) != (L5 : Int)) = false := by simp
        go_wp2_with fail
        refine (join_any V ss D6 ts5 ts6 gb (w.heap.size + 1) (w.heap.size + 1) (w.heap.size + 1) _ _ G6 w6 HM.out HG6.out HR6.out.st HR6.out.fresh HV56.out HV6.out HEQ.out HT5.out HL5.out HL6.out HN6.out).mono ?_
        rintro e w7 ⟨hd7, hc7⟩
        have HC7 := Lib.hid ((HC6.out.wide (fs := [68, 43, 78]) (by simp)).trans (hc7.wide (by simp)))
        have HR7 : Hid (w7.heap[w.heap.size]? = some (.cells #[.slice none 0 0] 43 (0, 0))) := by
          show w7.heap[w.heap.size]? = _
          rw [HC7.out.bel.block _ (by omega)]; exact HRES.out
        rcases hd7 with ⟨rfl, G7, rt, d, hg7, hcl7, hN7, hz7⟩ | ⟨rfl, hno⟩
        · have HG7 := Lib.hid hg7
          have HCL7 := Lib.hid hcl7
          have HN7 : Hid (G7.length = G6.length) := hN7
          have HZ7 : Hid (∀ k, k < G7.length → lenAt G7 k = 0) := by intro k hk; exact hz7 k (by omega)
          clear hg7 hcl7 hN7 hz7 hc7
          go_wp2_with fail
          refine (measureG_any V (by have := HV.out; omega) ss D6 rt d ts5 ts6 gb (w.heap.size + 1) G7 w7 HM.out HG7.out HCL7.out HZ7.out (by rw [HN7.out]; exact HN6.out)).mono ?_
          rintro e w8 ⟨hd8, hc8⟩
          have HC8 := Lib.hid (HC7.out.trans (hc8.wide (by simp)))
          have HRW : Hid (w8.heap[w.heap.size]? = some (.cells #[.slice none 0 0] 43 (0, 0))) := by
            show w8.heap[w.heap.size]? = _
            rw [HC8.out.bel.block _ (by omega)]; exact HRES.out
          have HBW : Hid (Below w.heap.size w w8) := HBA.out.trans (HC8.out.bel.mono (by have := HSA.out; omega))
          rcases hd8 with ⟨rfl, G8, M, hg8, hf8, hN8⟩ | ⟨rfl, hno⟩
          · have HF8 := Lib.hid hf8
            have HN8 : Hid (G8.length ≤ 1000) := by have := HN7.out; have := HN6.out; show G8.length ≤ 1000; omega
            have HCAN := Lib.hid ((hf8.rev HEQ.out).canon HEA.out HEB.out (by simpa using HEQ.out) (by rw [hN8, HN7.out]; simpa using HL5.out) (by rw [hN8, HN7.out]; simpa using HL6.out))
            obtain ⟨v8, hv8, hle8, hown8⟩ := hg8
            have HV8 := Lib.hid hv8
            have HO8 := Lib.hid hown8
            obtain ⟨L8, A8, c8, rfl⟩ : ∃ L8 A8 c8, v8 = .slice A8 L8 c8 := by
              obtain ⟨vs, _, q, _⟩ := hown8
              rcases q.2 with ⟨q, q'⟩ | ⟨g, cap, cur, q, _⟩
              · exact ⟨0, none, 0, q⟩
              · exact ⟨_, _, _, q⟩
            have hcg : w8.cell? ⟨gb, 0, none⟩ = some (.slice A8 L8 c8) := by rw [cell_of_row _ _ 0 _ _ _ HV8.out]; rfl
            have hcr : w8.cell? ⟨w.heap.size, 0, none⟩ = some (.slice none 0 0) := by rw [cell_of_row _ _ 0 _ _ _ HRW.out]; rfl
            have hfr : w8.frozen? ⟨w.heap.size, 0, none⟩ = false := frozen_of_row _ _ _ _ _ HRW.out
            clear hf8 hN8 hv8 hown8 hc8
            go_wp2
            refine equ_ret (cs := #[.slice A8 L8 c8]) rfl rfl rfl ?_ rfl ?_
            · exact heap_setCell_same _ _ 0 _ _ _ HRW.out
            · exact ⟨.inr ⟨_, G8, D6, rt, d, ts5, ts6, M, rfl, ownN_setCell HO8.out _, by rw [← HV.out]; exact HF8.out, HN8.out, by rw [← HV.out]; exact HCAN.out⟩, HBW.out.setCell (Nat.le_refl _) _⟩
          · have HU := Lib.hid (HNO.out (fun _ => hno))
            clear hno hc8
            have hcr : (w8).cell? ⟨w.heap.size, 0, none⟩ = some (.slice none 0 0) := by rw [cell_of_row _ _ 0 _ _ _ HRW.out]; rfl
            have hfr : (w8).frozen? ⟨w.heap.size, 0, none⟩ = false := frozen_of_row _ _ _ _ _ HRW.out
            go_wp2
            refine equ_ret (cs := #[.slice none 0 0]) rfl rfl rfl ?_ rfl ?_
            · exact heap_setCell_same _ _ 0 _ _ _ HRW.out
            · exact ⟨.inl ⟨rfl, HU.out⟩, HBW.out.setCell (Nat.le_refl _) _⟩
        · have HU := Lib.hid (HNO.out (fun _ => hno))
          have HRW := HR7
          have HBW : Hid (Below w.heap.size w w7) := HBA.out.trans (HC7.out.bel.mono (by have := HSA.out; omega))
          clear hno hc7
          have hcr : (w7).cell? ⟨w.heap.size, 0, none⟩ = some (.slice none 0 0) := by rw [cell_of_row _ _ 0 _ _ _ HRW.out]; rfl
          have hfr : (w7).frozen? ⟨w.heap.size, 0, none⟩ = false := frozen_of_row _ _ _ _ _ HRW.out
          go_wp2
          refine equ_ret (cs := #[.slice none 0 0]) rfl rfl rfl ?_ rfl ?_
          · exact heap_setCell_same _ _ 0 _ _ _ HRW.out
          · exact ⟨.inl ⟨rfl, HU.out⟩, HBW.out.setCell (Nat.le_refl _) _⟩
      · have hl' : ((L5 : Int) != (L6 : Int)) = true := by simp; omega
        have HU := Lib.hid (HNO.out (fun e => absurd (HLL5.out.trans (e.trans HLL6.out.symm)) hl))
        have HRW := HR6'
        have HBW : Hid (Below w.heap.size w w6) := HBA.out.trans (HC6.out.bel.mono (by have := HSA.out; omega))
        clear hl
        have hcr : (w6).cell? ⟨w.heap.size, 0, none⟩ = some (.slice none 0 0) := by rw [cell_of_row _ _ 0 _ _ _ HRW.out]; rfl
        have hfr : (w6).frozen? ⟨w.heap.size, 0, none⟩ = false := frozen_of_row _ _ _ _ _ HRW.out
        go_wp2
        refine equ_ret (cs := #[.slice none 0 0]) rfl rfl rfl ?_ rfl ?_
        · exact heap_setCell_same _ _ 0 _ _ _ HRW.out
        · exact ⟨.inl ⟨rfl, HU.out⟩, HBW.out.setCell (Nat.le_refl _) _⟩

/-- What Apart tells. -/
def ApartPost (ss : List Sym) (a b : List Int) (w : World) (e : Ending) (w' : World) : Prop :=
  ((e = .returned (.bool true) ∧ ∃ θ, Sub 48 ss θ ∧ ap θ a = ap θ (farR 24 b)) ∨ (e = .returned (.bool false) ∧ ∀ θ, Sub 48 ss θ → ap θ a ≠ ap θ (farR 24 b))) ∧ Below w.heap.size w w'
end Go.Proofs.Ytmdajmdjmdbonaa
