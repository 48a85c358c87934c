/-
  Contract: unify.Unify.
-/
import Derived.Test.YtlmpapdpmmkjnaaGraphLen
import Derived.Test.YtlmpapdpmmkjnaaGraphRead
import Derived.Test.YtlmpapdpmmkjnaaGraphJoin
import Derived.Test.YtlmpapdpmmkjnaaBindMay
namespace Go.Proofs.Ytlmpapdpmmkjnaa
open Go.RowKit
set_option linter.unusedSimpArgs false
set_option linter.unusedVariables false
set_option maxRecDepth 100000

set_option maxHeartbeats 1000000 in
theorem isRowU_any (A A' : Option Addr) (n c m c' : Nat) (ss : List Sym) (r : List Int) (w : World) (h : SymsAt w w.heap.size A n ss) (hn : n ≤ maxLen) (hnc : n ≤ c) (hr : IntsAt w w.heap.size A' m r) (hm : m ≤ maxLen) :
    Calls Try.prog 35 #[.slice A n c, .slice A' m c'] w fun e w' => e = .returned (.bool (rowB ss r)) ∧ Below w.heap.size w w' := by
  cases hb : rowB ss r
  all_goals
    (first | (have he := rowE_yes hb; have h0 : 1 = 1 := rfl) | have he := rowE_no hb)
    clear hb
    go_enter Try.func35, Try.ntmps35
    go_wp2_with fail
    refine (row_any A A' n c m c' ss r _ h hn hnc hr hm).mono ?_
    rintro e w1 ⟨rfl, hb1⟩
    rw [he]
    clear he
    go_wp2
    go_ret
    exact ⟨rfl, hb1⟩

/-- The nodes of the variables. -/
def varsG (k : Nat) : List Nd := (List.range k).map fun v : Nat => ⟨-1 - (v : Int), [], v, 0⟩
theorem varsG_length (k : Nat) : (varsG k).length = k := by simp [varsG]
theorem varsG_succ (k : Nat) : varsG (k + 1) = varsG k ++ [⟨-1 - (k : Int), [], (varsG k).length, 0⟩] := by
  rw [varsG_length]; unfold varsG; rw [List.range_succ, List.map_append]; rfl
theorem varsG_at {k v : Nat} (h : v < k) : ndAt (varsG k) v = ⟨-1 - (v : Int), [], v, 0⟩ := by
  unfold ndAt varsG; rw [List.getD_eq_getElem?_getD]; simp [h]
theorem varsG_fresh (k : Nat) : Fresh (varsG k) := by
  intro n hn
  rw [varsG_length] at hn
  unfold lenAt
  rw [varsG_at hn]; exact ⟨rfl, rfl⟩
theorem varsG_stands (ss : List Sym) : Stands ss (varsG 24) fun v => [-1 - (v : Int)] := by
  refine ⟨by rw [varsG_length]; omega, fun v hv => ?_, fun n h1 h2 => ?_, fun n hn => ?_, fun n hn => ?_, fun n hn => ?_⟩
  · rw [varsG_at hv]; exact ⟨rfl, rfl, rfl⟩
  · rw [varsG_length] at h2; omega
  · rw [varsG_length] at hn; rw [varsG_at hn]; simp
  · rw [varsG_length] at hn; rw [varsG_at hn]; simp
  · rw [varsG_length] at hn; exact trm_var hn
theorem rev_pairs {L R : List Nat} (hl : L.length = R.length) (Q : Nat × Nat → Prop) : (∀ p ∈ L.reverse.zip R.reverse, Q p) ↔ ∀ p ∈ L.zip R, Q p := by
  have : L.reverse.zip R.reverse = (L.zip R).reverse := by
    rw [List.zip_eq_zipWith, List.zip_eq_zipWith, List.reverse_zipWith hl]
  rw [this]
  constructor
  · intro h p hp; exact h p (List.mem_reverse.2 hp)
  · intro h p hp; exact h p (List.mem_reverse.1 hp)
theorem Cls.rev {ss : List Sym} {G : List Nd} {D : Nat → List Int} {rt d : Nat → Nat} {P : List (Nat × Nat)} {L R : List Nat} (h : Cls ss G D rt d P L R) (hl : L.length = R.length) : Cls ss G D rt d P L.reverse R.reverse :=
  ⟨h.st, h.fo, h.high, h.same, h.cong, h.pin, fun θ hθ => by rw [rev_pairs hl]; exact h.mean θ hθ⟩
theorem Full.rev {ss : List Sym} {G : List Nd} {D M : Nat → List Int} {rt d : Nat → Nat} {L R : List Nat} (h : Full ss G D rt d L R M) (hl : L.length = R.length) : Full ss G D rt d L.reverse R.reverse M := ⟨h.cls.rev hl, h.len, h.root, h.low⟩

def UniPost (ss : List Sym) (a b : List Int) (w : World) (e : Ending) (w' : World) : Prop :=
  ∃ v E is bs, e = .returned (.tuple #[v, .bool is, .int .i64 E]) ∧ OwnB w' w.heap.size v bs ∧ Below w.heap.size w w' ∧ UniR ss a b E is bs
theorem ret3 {v : Value} {a b : Int} {x y : Bool} (h : a = b) (k : x = y) : Ending.returned (.tuple #[v, .bool x, .int .i64 a]) = .returned (.tuple #[v, .bool y, .int .i64 b]) := by rw [h, k]

set_option maxHeartbeats 2000000 in
theorem unify_any (A A1 A2 : Option Addr) (n c n1 c1 n2 c2 : Nat) (ss : List Sym) (a b : List Int) (w : World) (hs : SymsAt w w.heap.size A n ss) (hn : n ≤ maxLen) (hnc : n ≤ c) (ha : IntsAt w w.heap.size A1 n1 a) (hn1 : n1 ≤ maxLen) (hb : IntsAt w w.heap.size A2 n2 b) (hn2 : n2 ≤ maxLen) :
    Calls Try.prog 20 #[.slice A n c, .slice A1 n1 c1, .slice A2 n2 c2] w (UniPost ss a b w) := by
  have HS := Lib.hid hs
  have HA := Lib.hid ha
  have HB := Lib.hid hb
  have HLA := Lib.hid ha.len
  have HLB := Lib.hid hb.len
  clear hs ha hb
  cases h1 : rowB ss a
  · have HNO : Hid (UniR ss a b 400 false []) := .inl ⟨by rw [h1]; rfl, rfl, rfl, rfl⟩
    go_enter Try.func20, Try.ntmps20
    go_wp2_with fail
    refine (isRowU_any A A1 n c n1 c1 ss a _ HS.out hn hnc HA.out hn1).mono ?_
    rintro e w1 ⟨rfl, hb1⟩
    rw [h1]
    clear h1
    go_wp2
    go_ret3
    exact ⟨_, 400, false, [], rfl, OwnB.nil_, hb1, HNO.out⟩
  cases h2 : rowB ss b
  · have HNO : Hid (UniR ss a b 400 false []) := .inl ⟨by rw [h1, h2]; rfl, rfl, rfl, rfl⟩
    go_enter Try.func20, Try.ntmps20
    go_wp2_with fail
    refine (isRowU_any A A1 n c n1 c1 ss a _ HS.out hn hnc HA.out hn1).mono ?_
    rintro e w1 ⟨rfl, hb1⟩
    rw [h1]
    have HB1 := Lib.hid hb1
    clear h1 hb1
    go_wp2_with fail
    refine (isRowU_any A A2 n c n2 c2 ss b _ (HS.out.on HB1.out) hn hnc (HB.out.on HB1.out) hn2).mono ?_
    rintro e w2 ⟨rfl, hb2⟩
    rw [h2]
    have HB2 := Lib.hid (HB1.out.trans (hb2.mono HB1.out.size))
    clear h2 hb2
    go_wp2
    go_ret3
    exact ⟨_, 400, false, [], rfl, OwnB.nil_, HB2.out, HNO.out⟩
  obtain ⟨hmay, hal, hta⟩ := row_parts h1
  obtain ⟨-, hbl, htb⟩ := row_parts h2
  have HM := Lib.hid hmay
  have HTA := Lib.hid hta
  have HTB := Lib.hid htb
  have HROW : Hid ((rowB ss a && rowB ss b) = true) := by show (rowB ss a && rowB ss b) = true; rw [h1, h2]; rfl
  rw [HLA.out] at hal
  rw [HLB.out] at hbl
  have HAL := Lib.hid hal
  have HBL := Lib.hid hbl
  clear hmay hta htb
  go_enter Try.func20, Try.ntmps20
  go_wp2_with fail
  refine (isRowU_any A A1 n c n1 c1 ss a _ HS.out hn hnc HA.out hn1).mono ?_
  rintro e w1 ⟨rfl, hb1⟩
  rw [h1]
  have HB1 := Lib.hid hb1
  clear h1 hb1
  go_wp2_with fail
  refine (isRowU_any A A2 n c n2 c2 ss b _ (HS.out.on HB1.out) hn hnc (HB.out.on HB1.out) hn2).mono ?_
  rintro e w2 ⟨rfl, hb2⟩
  rw [h2]
  have HB2 := Lib.hid (HB1.out.trans (hb2.mono HB1.out.size))
  have hsz2 := HB2.out.size
  clear h2 hb2
  go_wp2
  obtain ⟨gb, hgb⟩ : ∃ gb, gb = w2.heap.size := ⟨_, rfl⟩
  have HG0 : Hid (GraphAt (w2.alloc (.cells #[.slice none 0 0] 61)) w.heap.size gb (varsG 0)) := by
    rw [hgb]
    exact ⟨.slice none 0 0, heap_alloc_new _ _, hsz2, [], rfl, ⟨rfl, .inl ⟨rfl, rfl⟩⟩, fun i hi => absurd hi (by simp [varsG])⟩
  have HC0 : Hid (Chg [80, 61] w.heap.size w (w2.alloc (.cells #[.slice none 0 0] 61))) := Chg.of_below (HB2.out.alloc hsz2 _) (Nat.le_refl _)
  rw [← hgb]
  clear hgb
  go_loopw [23] (fun i wr => ∃ k : Nat, i = .int .i64 (k : Int) ∧ k ≤ 24 ∧ GraphAt wr w.heap.size gb (varsG k) ∧ Chg [80, 61] w.heap.size w wr) (fun i _ => 24 - (intOf i).toNat)
  case atStart => exact ⟨0, rfl, by omega, HG0.out, HC0.out⟩
  case round =>
    obtain ⟨k, rfl, hk, hg, hc⟩ := hrel
    have HG := Lib.hid hg
    have HC := Lib.hid hc
    clear hg hc
    by_cases hlt : k < 24
    · go_wp2_with fail
      refine (add_any gb w.heap.size (varsG k) (-1 - (k : Int)) _ [] wr none (HG.out.off (fun g e => by cases e)) OwnI.nil_ (.inl rfl) (by rw [varsG_length]; omega)).mono ?_
      rintro e w3 ⟨rfl, hg3, hc3⟩
      have HG3 : Hid (GraphAt w3 w.heap.size gb (varsG (k + 1))) := by
        have := hg3.forget
        rw [← varsG_succ] at this
        exact this
      have HC3 := Lib.hid (HC.out.trans hc3)
      clear hg3 hc3
      go_wp2
      go_roundw
      case rel => exact ⟨k + 1, by go_num, by omega, HG3.out, HC3.out⟩
      case measure => simp [intOf]; omega
    · obtain rfl : k = 24 := by omega
      go_wp2_with fail
      refine (read_any A A1 n c n1 c1 gb w.heap.size ss a _ (varsG 24) _ wr (HS.out.below HC.out.bel) hn (HA.out.below HC.out.bel) hal HM.out HTA.out HG.out (varsG_stands ss) (varsG_fresh 24) (by rw [varsG_length]; omega)).mono ?_
      rintro e w3 ⟨v3, G3, D3, ts3, rfl, hv3, hg3, hr3, hc3⟩
      have HV3 := Lib.hid hv3
      have HG3 := Lib.hid hg3
      have HR3 := Lib.hid hr3
      have HC3 := Lib.hid (HC.out.trans hc3)
      have HN3 : Hid (G3.length ≤ 72) := by have := hr3.few; rw [varsG_length, HLA.out] at this; show G3.length ≤ 72; omega
      clear hv3 hg3 hr3 hc3
      go_wp2_with fail
      refine (read_any A A2 n c n2 c2 gb w.heap.size ss b _ G3 D3 w3 (HS.out.below HC3.out.bel) hn (HB.out.below HC3.out.bel) hbl HM.out HTB.out HG3.out HR3.out.st HR3.out.fresh (by have := HN3.out; omega)).mono ?_
      rintro e w4 ⟨v4, G4, D4, ts4, rfl, hv4, hg4, hr4, hc4⟩
      have HV4 := Lib.hid hv4
      have HG4 := Lib.hid hg4
      have HR4 := Lib.hid hr4
      have HC4 := Lib.hid (HC3.out.trans hc4)
      have HV34 := Lib.hid (hc4.own (by decide) HV3.out)
      have HN4 : Hid (G4.length ≤ 1000) := by have := hr4.few; rw [HLB.out] at this; have := HN3.out; show G4.length ≤ 1000; omega
      have HEA : Hid (a = ts3.reverse.flatMap D4) := by
        show a = ts3.reverse.flatMap D4
        have h3 := HR3.out.eq
        rw [List.drop_zero] at h3
        rw [← h3]
        exact flatMap_congr' fun x hx => (hr4.old x (HR3.out.lt x (by simpa using hx))).symm
      have HEB : Hid (b = ts4.reverse.flatMap D4) := by
        show b = ts4.reverse.flatMap D4
        have h4 := hr4.eq
        rw [List.drop_zero] at h4
        exact h4.symm
      have HL3 : Hid (∀ x ∈ ts3, x < G4.length) := fun x hx => Nat.lt_of_lt_of_le (HR3.out.lt x hx) hr4.grow
      have HL4 : Hid (∀ x ∈ ts4, x < G4.length) := fun x hx => hr4.lt x hx
      have HT48 : Hid (ts3.length ≤ 48) := by
        have := trm_len HR3.out.count
        simp at this
        have := HLA.out
        show ts3.length ≤ 48
        omega
      have HT484 : Hid (ts4.length ≤ 48) := by
        have := trm_len hr4.count
        simp at this
        have := HLB.out
        show ts4.length ≤ 48
        omega
      obtain ⟨A3, c3, hv3e⟩ := HV34.out.value_len
      obtain ⟨A4, c4, hv4e⟩ := HV4.out.value_len
      have HNOP : ∀ (hno : ts3.length = ts4.length → ∀ θ, Sub 24 ss θ → ¬ ∀ p ∈ ts3.zip ts4, ap θ (D4 p.1) = ap θ (D4 p.2)), UniR ss a b 0 false [] := fun hno =>
        (Or.inr ⟨HROW.out, .inl ⟨no_pairs HR4.out.st HEA.out HEB.out (by simpa using HL3.out) (by simpa using HL4.out) (fun hl θ hθ => by rw [rev_pairs (by simpa using hl)]; exact hno (by simpa using hl) θ hθ), rfl, rfl, rfl⟩⟩)
      have HNO := Lib.hid HNOP
      subst hv3e
      subst hv4e
      clear hv4 hg4 hr4 hc4 HNOP
      obtain ⟨L3, hL3⟩ : ∃ L3, L3 = ts3.length := ⟨_, rfl⟩
      obtain ⟨L4, hL4⟩ : ∃ L4, L4 = ts4.length := ⟨_, rfl⟩
      have HLL3 := Lib.hid hL3
      have HLL4 := Lib.hid hL4
      rw [← hL3, ← hL4]
      rw [← hL3] at HV34
      rw [← hL4] at HV4
      clear hL3 hL4
      by_cases hl : L3 = L4
      · subst hl
        have HEQ : Hid (ts3.length = ts4.length) := HLL3.out.symm.trans HLL4.out
        have hl' : ((L3 : Int) != (L3 : Int)) = false := by simp
        go_wp2_with fail
        refine (join_any ss D4 ts3 ts4 gb w.heap.size w.heap.size w.heap.size _ _ G4 w4 HM.out HG4.out HR4.out.st HR4.out.fresh HV34.out HV4.out HEQ.out HT48.out HL3.out HL4.out HN4.out).mono ?_
        rintro e w5 ⟨hd5, hc5⟩
        have HC5 := Lib.hid ((HC4.out.wide (fs := [80, 61, 84]) (by simp)).trans (hc5.wide (by simp)))
        rcases hd5 with ⟨rfl, G5, rt, d, hg5, hcl5, hN5, hz5⟩ | ⟨rfl, hno⟩
        · have HG5 := Lib.hid hg5
          have HCL5 := Lib.hid hcl5
          have HN5 : Hid (G5.length = G4.length) := hN5
          have HZ5 : Hid (∀ k, k < G5.length → lenAt G5 k = 0) := by intro k hk; exact hz5 k (by omega)
          clear hg5 hcl5 hN5 hz5 hc5
          go_wp2_with fail
          refine (measureG_any ss D4 rt d ts3 ts4 gb w.heap.size G5 w5 HM.out HG5.out HCL5.out HZ5.out (by rw [HN5.out]; exact HN4.out)).mono ?_
          rintro e w6 ⟨hd6, hc6⟩
          have HC6 := Lib.hid (HC5.out.trans (hc6.wide (by simp)))
          rcases hd6 with ⟨rfl, G6, M, hg6, hf6, hN6⟩ | ⟨rfl, hno⟩
          · have HG6 := Lib.hid hg6
            have HF6 := Lib.hid hf6
            have HN6 : Hid (G6.length = G5.length) := hN6
            have hsz6 := HC6.out.bel.size
            have HCAN := Lib.hid ((hf6.rev HEQ.out).canon HEA.out HEB.out (by simpa using HEQ.out) (by rw [hN6, HN5.out]; simpa using HL3.out) (by rw [hN6, HN5.out]; simpa using HL4.out))
            clear hg6 hf6 hN6 hc6
            go_wp2_with fail
            refine (bindsG_any ss D4 rt d ts3 ts4 gb w.heap.size G6 M w6 HM.out HG6.out HF6.out (by rw [HN6.out, HN5.out]; exact HN4.out)).mono ?_
            rintro e w7 ⟨v7, E7, is7, bs7, rfl, hv7, hb7, hd7⟩
            have HV7 := Lib.hid (hv7.lower hsz6)
            have HB7 := Lib.hid (HC6.out.bel.trans (hb7.mono hsz6))
            have HU : Hid (UniR ss a b E7 is7 bs7) := .inr ⟨HROW.out, .inr ⟨M, HCAN.out, hd7⟩⟩
            clear hv7 hb7 hd7
            go_wp2
            go_ret3
            exact ⟨_, E7, is7, bs7, rfl, HV7.out, HB7.out, HU.out⟩
          · have HU : Hid (UniR ss a b 0 false []) := HNO.out (fun _ => hno)
            clear hno hc6
            go_wp2
            go_ret3
            exact ⟨_, 0, false, [], rfl, OwnB.nil_, HC6.out.bel, HU.out⟩
        · have HU : Hid (UniR ss a b 0 false []) := HNO.out (fun _ => hno)
          clear hno hc5
          go_wp2
          go_ret3
          exact ⟨_, 0, false, [], rfl, OwnB.nil_, HC5.out.bel, HU.out⟩
      · have hl' : ((L3 : Int) != (L4 : Int)) = true := by simp; omega
        have HU : Hid (UniR ss a b 0 false []) := HNO.out (fun e => absurd (HLL3.out.trans (e.trans HLL4.out.symm)) hl)
        clear hl
        go_wp2
        go_ret3
        exact ⟨_, 0, false, [], rfl, OwnB.nil_, HC4.out.bel, HU.out⟩
end Go.Proofs.Ytlmpapdpmmkjnaa
