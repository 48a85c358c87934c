/-
  Contracts of quaerelaw0: CopyRows, SameRows, SpoilRows, and SpoilLits with the values of the atoms.
  Contracts of quaerelaw0: CopyClause, SameClause, SpoilClause.
-/
import Derived.Test.YthdpojokogiinaaMemClause
import Derived.Test.YthdpojokogiinaaMemBox
import Derived.Laws.Rows
namespace Go.Proofs.Ythdpojokogiinaa
open Go.RowKit Go.Deep
set_option linter.unusedSimpArgs false
set_option linter.unusedVariables false
set_option maxRecDepth 100000

theorem rowOf_next {L : List (List Int)} {k : Nat} (h : k < L.length) : L.take (k + 1) = L.take k ++ [rowOf L k] := by
  rw [List.take_add_one, rowOf_get h]; rfl
theorem val_slice {u : Value} {A : Option Addr} {n c : Nat} (h : u = .slice A n c) : u.oneCell' = true := by rw [h]; rfl
def TupsRet (ts : List (List Int)) (w : World) (e : Ending) (w' : World) : Prop :=
  ∃ v, e = .returned v ∧ OwnT w' w.heap.size v ts ∧ Below w.heap.size w w'

set_option maxHeartbeats 1000000 in
theorem copyRows_any (A : Option Addr) (n c : Nat) (ts : List (List Int)) (w : World) (h : TupsAt w w.heap.size A n ts) (hn : n * 24 ≤ 140737488351232) :
    Calls Try.prog 17 #[.slice A n c] w (TupsRet ts w) := by
  have HS := Lib.hid h
  have HL := Lib.hid h.len
  clear h
  go_enter Try.func17, Try.ntmps17
  go_wp2
  go_loopw [3, 4] (fun q i wr => ∃ (k : Nat) (vs : List Value), i = .int .i64 k ∧ k ≤ n ∧ OwnR wr w.heap.size q vs ∧ Rws wr w.heap.size vs (ts.take k) ∧ Below w.heap.size w wr) (fun _ i _ => n - (intOf i).toNat)
  case atStart => exact ⟨0, [], rfl, by omega, OwnR.nil_, Rws.nil_, Below.refl _ _⟩
  case round =>
    obtain ⟨k, vs, rfl, hk, hown, hrw, hbw⟩ := hrel
    have HBW := Lib.hid hbw
    have HOWN := Lib.hid hown
    have HRW := Lib.hid hrw
    have hsz := hbw.size
    have hvl' : vs.length ≤ k := by have := hrw.1; rw [List.length_take] at this; omega
    clear hbw hown hrw
    by_cases hlt : k < n
    · have hkl : k < ts.length := by rw [HL.out]; exact hlt
      obtain ⟨b, off, A3, c3, rfl, hb, c0, hr, -⟩ := (HS.out.on HBW.out).one hlt
      have HTK := Lib.hid (rowOf_next hkl)
      obtain ⟨r, hrr⟩ : ∃ r, r = rowOf ts k := ⟨_, rfl⟩
      rw [← hrr] at c0 hr HTK
      have HI3 := Lib.hid hr
      have hfit := hr.fit
      have hvl : vs.length + 1 ≤ 5864062014634 := by omega
      have hi0 : (0 : Int) ≤ (k : Int) := by omega
      have hi3 : (k : Int) < (n : Int) := by omega
      clear hr hrr hkl
      go_wp2_with fail
      refine (copyInts_any A3 _ c3 r _ HI3.out.at_ hfit).mono ?_
      rintro e w1 ⟨v1, rfl, hv1, hb1⟩
      have HO1 := Lib.hid (HOWN.out.on hb1)
      have HR1 := Lib.hid (HRW.out.on hb1)
      have HV1 := Lib.hid (hv1.lower (base' := w.heap.size) hsz)
      have HB1 := Lib.hid (HBW.out.trans (hb1.mono hsz))
      have hsz1 := HB1.out.size
      obtain ⟨A4, c4, hv4⟩ := hv1.value
      obtain ⟨L4, hL4⟩ : ∃ L4, r.length = L4 := ⟨_, rfl⟩
      rw [hL4] at hv4
      subst hv4
      clear hv1 hb1
      go_wp2_with (at_builtin
                   refine app_rowv rfl (.tmp 11) (.tmp 17) rfl w.heap.size _ vs _ rfl HO1.out rfl rfl rfl hvl hsz1 ?_
                   intro v2 w2 hown2 hc2
                   have HO2 := Lib.hid hown2
                   have HR2 := Lib.hid ((HR1.out.snoc HV1.out).chg hc2 (by decide))
                   have HB2 := Lib.hid (HB1.out.trans hc2.bel)
                   clear hown2 hc2)
      go_roundw
      case rel => exact ⟨k + 1, _, by go_num, by omega, HO2.out, by rw [HTK.out]; exact HR2.out, HB2.out⟩
      case measure => simp [intOf]; omega
    · obtain rfl : k = n := by omega
      go_wp2
      go_ret
      exact ⟨_, rfl, OwnT.cast (OwnT.mk HOWN.out HRW.out) (by rw [List.take_of_length_le (by rw [HL.out]; omega)]), HBW.out⟩

set_option maxHeartbeats 1000000 in
theorem sameRows_true (A A1 : Option Addr) (n c c1 : Nat) (ts : List (List Int)) (w : World) (h : TupsAt w w.heap.size A n ts) (hn : n * 24 ≤ 140737488351232) (h1 : TupsAt w w.heap.size A1 n ts) :
    Calls Try.prog 12 #[.slice A n c, .slice A1 n c1] w fun e w' => e = .returned (.bool true) ∧ Below w.heap.size w w' := by
  have HA := Lib.hid h
  have HB := Lib.hid h1
  clear h h1
  go_enter Try.func12, Try.ntmps12
  go_wp2
  go_loopw [5] (fun i wr => ∃ k : Nat, i = .int .i64 k ∧ k ≤ n ∧ Below w.heap.size w wr) (fun i _ => n - (intOf i).toNat)
  case atStart => exact ⟨0, rfl, by omega, Below.refl _ _⟩
  case round =>
    obtain ⟨k, rfl, hk, hbw⟩ := hrel
    have HBW := Lib.hid hbw
    clear hbw
    by_cases hlt : k < n
    · obtain ⟨b1, o1, A3, c3, rfl, _, c0, i3, -⟩ := (HA.out.on HBW.out).one hlt
      obtain ⟨b2, o2, A4, c4, rfl, _, d0, i4, -⟩ := (HB.out.on HBW.out).one hlt
      obtain ⟨r, hrr⟩ : ∃ r, r = rowOf ts k := ⟨_, rfl⟩
      rw [← hrr] at c0 d0 i3 i4
      have HI3 := Lib.hid i3
      have HI4 := Lib.hid i4
      have hi0 : (0 : Int) ≤ (k : Int) := by omega
      have hi3 : (k : Int) < (n : Int) := by omega
      clear i3 i4 hrr
      go_wp2_with fail
      go_quiet ((go_at_call 20; exact sameInts_still A3 A4 _ c3 _ c4 _ _ _ r r _ HI3.out.at_ HI4.out.at_ HI3.out.big HI4.out.big (sameI_self _)))
      go_wp2
      go_roundw
      case rel => exact ⟨k + 1, by go_num, by omega, HBW.out.trans (below_drewN _ _)⟩
      case measure => simp [intOf]; omega
    · obtain rfl : k = n := by omega
      go_wp2
      go_ret
      exact ⟨rfl, HBW.out⟩

/-- Rows that the call has made, whatever stands in them. -/
def WRws (w : World) (base : Nat) (vs : List Value) : Prop := ∀ i, i < vs.length → ∃ n, n ≤ 17592186044416 ∧ ∃ xs : List Int, xs.length = n ∧ OwnI w base (valAt vs i) xs
theorem WRws.spoilt {w w' : World} {base b : Nat} {vs : List Value} (h : WRws w base vs) (hs : Spoilt b w w') : WRws w' base vs := fun i hi => by
  obtain ⟨n, hn, hx⟩ := h i hi
  exact ⟨n, hn, hs.ints _ _ _ hx⟩
theorem WRws.on {w w' : World} {base : Nat} {vs : List Value} (h : WRws w base vs) (hb : Below w.heap.size w w') : WRws w' base vs := fun i hi => by
  obtain ⟨n, hn, xs, e, hx⟩ := h i hi
  exact ⟨n, hn, xs, e, hx.on hb⟩
theorem Rws.weak {w : World} {base : Nat} {vs : List Value} {L : List (List Int)} (h : Rws w base vs L) (hf : ∀ r ∈ L, r.length * 8 ≤ 140737488351232) : WRws w base vs := fun i hi => by
  have hi' : i < L.length := by rw [← h.1]; exact hi
  exact ⟨_, by have := hf _ (rowOf_mem hi'); omega, _, rfl, h.2 i hi'⟩
set_option maxHeartbeats 1000000 in
theorem spoilRows_any (v : Value) (base : Nat) (vs : List Value) (w : World) (h : OwnR w base v vs) (hr : WRws w base vs) (hn : vs.length ≤ 5864062014634) :
    Calls Try.prog 14 #[v] w fun e w' => e = .returned (.tuple #[]) ∧ Spoilt base w w' := by
  obtain ⟨n, hl⟩ : ∃ n, vs.length = n := ⟨_, rfl⟩
  have HR := Lib.hid h
  have HI := Lib.hid hr
  have HL := Lib.hid hl
  obtain ⟨A, cap, rfl⟩ : ∃ A cap, v = .slice A n cap := by
    rcases h.shape with ⟨rfl, h0⟩ | ⟨g, cap, hv, _⟩
    · exact ⟨none, 0, by rw [← hl, h0]; rfl⟩
    · exact ⟨_, cap, by rw [← hl]; exact hv⟩
  rw [hl] at hn
  clear h hr hl
  go_enter Try.func14, Try.ntmps14
  go_wp2
  go_loopw [2] (fun i wr => ∃ k : Nat, i = .int .i64 k ∧ k ≤ n ∧ Spoilt base w wr) (fun i _ => n - (intOf i).toNat)
  case atStart => exact ⟨0, rfl, by omega, Spoilt.refl _ _⟩
  case round =>
    obtain ⟨k, rfl, hk, hsp⟩ := hrel
    have HSP := Lib.hid hsp
    clear hsp
    by_cases hlt : k < n
    · have hkl : k < vs.length := by rw [HL.out]; exact hlt
      have hrr : OwnR wr base (.slice A n cap) vs := HSP.out.rows _ _ _ _ _ _ (by decide) HR.out
      obtain ⟨m, hm, hx⟩ := (HI.out.spoilt HSP.out) k hkl
      obtain ⟨g, cap', e, hg, _, _, c0⟩ := hrr.get hkl
      simp only [Value.slice.injEq] at e
      obtain ⟨rfl, -, -⟩ := e
      obtain ⟨u, hu⟩ : ∃ u, u = valAt vs k := ⟨_, rfl⟩
      rw [← hu] at c0 hx
      obtain ⟨xs, hxl, hxo⟩ := hx
      have HX := Lib.hid hxo
      obtain ⟨A2, cap2, hv2⟩ := hxo.value
      obtain ⟨L4, hL4⟩ : ∃ L4, xs.length = L4 := ⟨_, rfl⟩
      rw [hL4] at hv2
      subst hv2
      have hml : xs.length ≤ 17592186044416 := by omega
      have hi0 : (0 : Int) ≤ (k : Int) := by omega
      have hi3 : (k : Int) < (n : Int) := by omega
      clear hrr hxo hu hxl
      go_wp2_with fail
      refine (spoilInts_any _ base _ _ ⟨_, rfl, HX.out⟩ hml).mono ?_
      rintro e w2 ⟨rfl, hs2⟩
      have HS2 := Lib.hid (HSP.out.trans hs2)
      clear hs2
      go_wp2
      go_roundw
      case rel => exact ⟨k + 1, by go_num, by omega, HS2.out⟩
      case measure => simp [intOf]; omega
    · obtain rfl : k = n := by omega
      go_wp2
      (first | go_end0 | refine bodyPost_ret (results_none rfl _ _ _) rfl ?_)
      exact ⟨rfl, HSP.out⟩
end Go.Proofs.Ythdpojokogiinaa

namespace Go.Proofs.Ythdpojokogiinaa
open Go.RowKit Go.Deep
set_option linter.unusedSimpArgs false
set_option linter.unusedVariables false
set_option maxRecDepth 100000

theorem three_one {A A' A'' : Option Addr} {n n' n'' c c' c'' : Nat} : (#[Value.slice A n c, .slice A' n' c', .slice A'' n'' c''].all (·.oneCell')) = true := by simp [Value.oneCell']
theorem OwnR.valued {w : World} {base : Nat} {v : Value} {ls : List Value} (h : OwnR w base v ls) : ∃ A c, v = .slice A ls.length c := by
  rcases h.shape with ⟨rfl, rfl⟩ | ⟨g, cap, rfl, _⟩
  · exact ⟨_, _, rfl⟩
  · exact ⟨_, _, rfl⟩
theorem OwnT.valued {w : World} {base : Nat} {v : Value} {ls : List (List Int)} (h : OwnT w base v ls) : ∃ A c, v = .slice A ls.length c := by
  obtain ⟨vs, h1, h2⟩ := h.vals
  obtain ⟨A, c, e⟩ := h1.valued
  rw [h2.1] at e
  exact ⟨A, c, e⟩

end Go.Proofs.Ythdpojokogiinaa
