/-
  Proved: for every list of symbols, of binds, every clause and list of literals the law SubsumeMade returns true, and the arguments read afterwards as they read before. Conditions: none beside the card's own (the library's table reads as the program's text lays it: tied).
-/
import Derived.Test.YtcjpopjcpgipjaaDoorCards
import Derived.Test.YtcjpopjcpgipjaaDoorTie
import Derived.SevenTiedAt
import Derived.Test.YtcjpopjcpgipjaaDoorLaidT
import Derived.Test.YtcjpopjcpgipjaaDoorOpen
import Derived.Test.YtcjpopjcpgipjaaDoorOpenC
import Derived.Test.YtcjpopjcpgipjaaDoorOpenBinds
import Derived.Test.YtcjpopjcpgipjaaDoorSubMadeW
namespace Go.Proofs.YtcjpopjcpgipjaaDoor
open Go.ChangeShapes Go.WideShapes Go.ChangeAt Go.RowKit
open Go.ChangeMaps (open_string shut_string)
set_option linter.unusedVariables false
set_option maxRecDepth 100000 in
theorem subsumeMade_lifted (os : Os) (started : os.Started) (H : Type) (enc : TypeId × Value → H) :
    ReturnsInHanded {} Tryd.checked os 4 .any (fun w args => (Rows.subsumeMadeSpec.pre enc Tryd.prog Tryd.f4 Rows.subsumeMadeRow.domain false w args ∧ laidMetH Tryd.prog laidL w) ∧ sizedMet enc Tryd.prog Tryd.f4 (OpenSpec.ofChange Rows.subsumeMadeSpec) false w args) (Rows.subsumeMadeSpec.post enc Tryd.prog Tryd.f4 false true false false) := by
  refine returnsInHanded_of_change_and (C := Tryd.checked) (X := fun w _ => laidMetH Tryd.prog laidL w) (fun _ _ _ hh h => h.of_heap hh) row_own started (by kernel_rfl) Tryd.func4
    (ChangeSpec.witness_shaped (enc := enc) (C := Tryd.checked) (os := os) (X := fun w _ => laidMetH Tryd.prog laidL w) false (World.doorLaid Tryd.prog 14 os) #[.slice none 0 0, .slice none 0 0, .agg #[.slice none 0 0, .slice none 0 0, .slice none 0 0], .slice none 0 0] 8 rfl (World.shaped_of_RefB (by kernel_rfl) (by kernel_rfl)) (by kernel_rfl) (by kernel_rfl) (by kernel_rfl) (door_met os _)) ?_
  intro W base args ds gs before hval0 hW hcnd hsz0 hLaid _
  obtain ⟨hTab, hTabB⟩ := tab_of_laid hLaid
  have hval : ∀ (j : Nat) t v, Tryd.f4.params[j]? = some t → args[j]? = some v → Value.okWide Tryd.prog W .any base t v := hval0
  have hW' := hW
  obtain ⟨p, q, hA0, hV, rfl, hfz, hnd⟩ := hW
  have hA : DataW.TrodAll enc Tryd.prog W 0 (fun _ => true) true Tryd.f4.params.toList args.toList ds p := hA0
  have hsz : (DataW.weightsEach Tryd.prog (Tryd.f4.params.toList ++ Rows.subsumeMadeSpec.plain.varTypes Tryd.prog) (ds ++ gs)).all (· ≤ reachBytes) = true := hsz0
  rw [Tryd.params4] at hA hval hsz
  obtain ⟨v0, vs0, d0, ds0, p0, q0, hargs, rfl, rfl, h0, r0⟩ := trodAll_cons hA
  obtain ⟨v1, vs1, d1, ds1, p1, q1, rfl, rfl, rfl, h1, r1⟩ := trodAll_cons r0
  obtain ⟨v2, vs2, d2, ds2, p2, q2, rfl, rfl, rfl, h2, r2⟩ := trodAll_cons r1
  obtain ⟨v3, vs3, d3, ds3, p3, q3, rfl, rfl, rfl, h3, r3⟩ := trodAll_cons r2
  obtain ⟨rfl, rfl, rfl⟩ := trodAll_nil r3
  obtain rfl : args = #[v0, v1, v2, v3] := by cases args; simp_all
  obtain ⟨rfl, rfl⟩ := trodVars_none hV
  have k0 := h0
  have lt0 : ∀ x ∈ p0, x.block < W.heap.size := by obtain ⟨m, hm⟩ := k0; exact DataW.trod_lt m _ _ _ hm
  have k1 := h1
  have lt1 : ∀ x ∈ p1, x.block < W.heap.size := by obtain ⟨m, hm⟩ := k1; exact DataW.trod_lt m _ _ _ hm
  have k2 := h2
  have lt2 : ∀ x ∈ p2, x.block < W.heap.size := by obtain ⟨m, hm⟩ := k2; exact DataW.trod_lt m _ _ _ hm
  have k3 := h3
  have lt3 : ∀ x ∈ p3, x.block < W.heap.size := by obtain ⟨m, hm⟩ := k3; exact DataW.trod_lt m _ _ _ hm
  obtain ⟨A0, n0, c0, ss0, rfl, hs0, hnc0, hby0⟩ := open_syms (hval 0 22 v0 rfl rfl) h0 (sized_of hsz (j := 0) rfl rfl Tryd.underlying22)
  obtain ⟨A1, n1, c1, bs1, rfl, hs1, hnc1, hby1⟩ := open_binds (hval 1 41 v1 rfl rfl) h1 (sizedAll_of hsz (j := 1) rfl rfl)
  obtain ⟨cv2, cl2, rfl, hs2⟩ := open_clause (hval 2 26 v2 rfl rfl) h2 (sizedAll_of hsz (j := 2) rfl rfl)
  obtain ⟨A3, n3, c3, ls3, rfl, hs3, hnc3, hby3⟩ := open_lits (hval 3 23 v3 rfl rfl) h3 (sizedAll_of hsz (j := 3) rfl rfl)
  clear hA0 hval0 hsz0
  refine (subsumeMade_walk A0 A1 A3 n0 c0 n1 c1 n3 c3 ss0 bs1 cv2 cl2 ls3 W hs0 (by unfold maxLen; omega) hnc0 hs1 (by omega) hs2 hs3 (by omega) hTab hTabB).mono fun e W' ⟨he, bel⟩ => ?_
  subst he
  exact ⟨_, rfl, _, _, _, [], _, [], hW', trodAll_mk1 (shut_bool Tryd.underlying4 _), (trodAll_cons_mk (Below.trod row_laidOut (by kernel_rfl) (of_decide_eq_true (by kernel_rfl)) k0 bel lt0) (trodAll_cons_mk (Below.trod row_laidOut (by kernel_rfl) (of_decide_eq_true (by kernel_rfl)) k1 bel lt1) (trodAll_cons_mk (Below.trod row_laidOut (by kernel_rfl) (of_decide_eq_true (by kernel_rfl)) k2 bel lt2) (trodAll_cons_mk (Below.trod row_laidOut (by kernel_rfl) (of_decide_eq_true (by kernel_rfl)) k3 bel lt3) trodAll_mk0)))), rfl, bel.frame _, fun h => by cases h⟩
theorem subsumeMade_holds : Rows.SubsumeMadeSaid :=
  OpenClaim.holds_of_wide 4 Tryd.f4 rfl rfl rfl rfl rfl rfl rfl ⟨rfl, rfl, rfl, rfl, rfl⟩ rfl rfl rfl rfl rfl (by kernel_rfl) Tryd.func4 (by kernel_rfl)
    (of_decide_eq_true (by kernel_rfl)) (by unfold Func.isWrapper; first | (rw [if_pos (by decide +kernel)]; kernel_rfl) | (rw [if_neg (by decide +kernel)]; exact ⟨rfl, rfl⟩))
    (fun os started H enc _ => subsumeMade_lifted os started H enc)
theorem subsumeMade_card : Rows.SubsumeMadeCardSaid :=
  Claim7.holds_tied_plain_at .later [] [.data] true (true, "75fcfd8ef6bf46afe1ad0ba2fcec89d2c26051648d1048bd4a39cf9e4c54ef8a") false
    subsumeMade_holds (fun _ h => by cases h) (by kernel_rfl) (fun _ h => by cases h) subsumeMade_row_tie rfl ⟨rfl, rfl⟩ (by kernel_rfl) rfl
    (fun f fn hf hfn => by
      obtain rfl : f = 4 := Option.some.inj ((show Tryd.prog.funcNamed "quaere/quaerelaw10.SubsumeMade" = some 4 by kernel_rfl).symm.trans hf) |>.symm
      obtain rfl : fn = Tryd.f4 := (Option.some.inj (Tryd.func4.symm.trans hfn)).symm
      exact ⟨by kernel_rfl, fun j t ht => by
        rw [Tryd.params4] at ht
        match j, ht with
        | 0, ht => simp at ht; subst ht; exact (show Tryd.prog.wantsStandIn 22 = false by kernel_rfl)
        | 1, ht => simp at ht; subst ht; exact (show Tryd.prog.wantsStandIn 41 = false by kernel_rfl)
        | 2, ht => simp at ht; subst ht; exact (show Tryd.prog.wantsStandIn 26 = false by kernel_rfl)
        | 3, ht => simp at ht; subst ht; exact (show Tryd.prog.wantsStandIn 23 = false by kernel_rfl)
        | _ + 4, ht => simp at ht⟩)
    (by kernel_rfl)
#print axioms subsumeMade_card
end Go.Proofs.YtcjpopjcpgipjaaDoor
