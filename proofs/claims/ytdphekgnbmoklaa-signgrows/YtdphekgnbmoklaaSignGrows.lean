/-
  SignGrows: the walk.
-/
import Derived.Test.YtdphekgnbmoklaaSignAdds
import Derived.Test.YtdphekgnbmoklaaMemRow
import Derived.IntWalk
namespace Go.Proofs.Ytdphekgnbmoklaa
open Go.RowKit
set_option linter.unusedSimpArgs false
set_option linter.unusedVariables false

theorem str_info : (Try.prog.info? 9).map (fun i => (i.zero, i.size, i.bytes)) = some (some (.string ByteArray.empty), 1, 16) := by kernel_rfl
def thereOf (S : List Sym) : List Value := S.tail.map (fun s => .string s.name)
theorem thereOf_snoc {S : List Sym} {s : Sym} (h : 0 < S.length) : thereOf (S ++ [s]) = thereOf S ++ [.string s.name] := by
  cases S with
  | nil => simp at h
  | cons a r => simp [thereOf]
theorem thereOf_get {S : List Sym} {i : Nat} (h : i + 1 < S.length) : (thereOf S)[i]? = some (.string (symAt S (i + 1)).name) := by
  cases S with
  | nil => simp at h
  | cons a r =>
    have hi : i < r.length := by simpa using h
    simp [thereOf, symAt, hi]
theorem may_len {S : List Sym} (h : mayB S = true) : 1 ≤ S.length ∧ S.length ≤ 20 := by
  have := of_decide_eq_true h; exact ⟨this.1, this.2.1⟩
theorem may_snoc {S : List Sym} {s : Sym} (h : mayB S = true) (hs : symB s = true) (hc : code S s.name < 0) (hl : S.length < 20) : mayB (S ++ [s]) = true := by
  obtain ⟨h1, h2, h3, h4⟩ : mayP S := of_decide_eq_true h
  refine mayB_true ⟨by simp, by simp; omega, by rw [symAt_append_left (by omega)]; exact h3, fun i hi h0 => ?_⟩
  have hno : none_ S s.name S.length := by
    rcases code_cases S s.name with ⟨h', _⟩ | ⟨j, _, _, _, hj⟩
    · exact h'
    · omega
  by_cases e : i < S.length
  · rw [symAt_append_left e]
    refine ⟨(h4 i e h0).1, fun j hj => ?_⟩
    rw [symAt_append_left (by omega)]
    exact (h4 i e h0).2 j hj
  · obtain rfl : i = S.length := by simp at hi; omega
    rw [symAt_append_right]
    refine ⟨hs, fun j hj => ?_⟩
    rw [symAt_append_left hj]
    exact hno j hj
theorem may_code {S : List Sym} {i : Nat} (h : mayB S = true) (hi : i < S.length) (h0 : 1 ≤ i) : code S (symAt S i).name = (i : Int) := by
  obtain ⟨_, _, _, h4⟩ : mayP S := of_decide_eq_true h
  exact code_hit hi (h4 i hi h0).2 (sameB_self _)

/-- What Add does, whatever it is handed. -/
def AddAny (n : Nat) (ss : List Sym) (s : Sym) (w : World) (e : Ending) (w' : World) : Prop :=
  (addE ss s ≠ 0 ∧ e = .returned (.tuple #[.slice none 0 0, .int .i64 (addE ss s)]) ∧ Below w.heap.size w w') ∨ (mayB (ss ++ [s]) = true ∧ AddOk w.heap.size n ss s w e w')
theorem add_any (A : Option Addr) (n c : Nat) (ss : List Sym) (nm : ByteArray) (k a g : Int) (w : World) (h : SymsAt w w.heap.size A n ss) (hn : n ≤ maxLen) (hnc : n ≤ c) (hs : nm.size ≤ maxLen) :
    Calls Try.prog 15 #[.slice A n c, .agg #[.string nm, .int .i64 k, .int .i64 a, .int .i64 g]] w (AddAny n ss ⟨nm, k, a, g⟩ w) := by
  by_cases hE : addE ss ⟨nm, k, a, g⟩ = 0
  · rcases addE_cases ss ⟨nm, k, a, g⟩ with ⟨h1, e⟩ | ⟨h1, h2, e⟩ | ⟨h1, h2, h3, e⟩ | ⟨h1, h2, h3, h4, e⟩ | ⟨h1, h2, h3, h4, e⟩
    · rw [e] at hE; cases hE
    · rw [e] at hE; cases hE
    · rw [e] at hE; cases hE
    · rw [e] at hE; cases hE
    · exact (add_ok A n c ss nm k a g w h hn hnc hs h1 h2 h3 (by rw [← h.len]; exact h4)).mono fun _ _ hh => .inr ⟨may_snoc h1 h2 h3 h4, hh⟩
  · exact (add_err A n c ss nm k a g w h hn hnc hs hE).mono fun _ _ hh => .inl ⟨hE, hh⟩
/-- Two rows of unlike element types lie in different blocks. -/
theorem own_ne {w : World} {b1 b2 s1 s2 n1 n2 : Nat} {e1 e2 : TypeId} {v1 v2 : Value} {x1 x2 : List Value} (h1 : w.ownsRow b1 e1 s1 v1 n1 x1) (h2 : w.ownsRow b2 e2 s2 v2 n2 x2) (hne : e1 ≠ e2) : v1.ownBlock = none ∨ v1.ownBlock ≠ v2.ownBlock := by
  rcases h1.2 with ⟨rfl, _⟩ | ⟨g, cap, cur, rfl, _, hh, _⟩
  · exact .inl rfl
  · right
    rcases h2.2 with ⟨rfl, _⟩ | ⟨g', cap', cur', rfl, _, hh', _⟩
    · simp [Value.ownBlock]
    · intro e
      have : g = g' := by simpa [Value.ownBlock] using e
      subst this
      rw [hh] at hh'
      injection hh' with hh'
      injection hh' with _ ht
      exact hne ht
theorem own_below {w w' : World} {base size n : Nat} {e : TypeId} {v : Value} {xs : List Value} (h : w.ownsRow base e size v n xs) (hb : Below w.heap.size w w') : w'.ownsRow base e size v n xs :=
  h.kept (row := none) ⟨hb.os, hb.tape, hb.output, hb.size, fun i hi _ => hb.block i hi⟩ (by
    cases hv : v.ownBlock with
    | none => exact .inl rfl
    | some k => exact .inr (by simp))

/-- What the first loop keeps. -/
def Grows (w : World) (nn : Nat) (sg th i : Value) (wr : World) : Prop :=
  ∃ (j gb cap m capT : Nat) (T : Option Addr) (S : List Sym), j ≤ nn ∧ j ≤ 30 ∧ i = .int .i64 j ∧ sg = .slice (some ⟨gb, 0, none⟩) (m + 1) cap ∧ th = .slice T m capT ∧ mayB S = true ∧
    (∀ i, i < m + 1 → (symAt S i).name.size ≤ maxLen) ∧ wr.ownsRow w.heap.size 33 4 (.slice (some ⟨gb, 0, none⟩) (m + 1) cap) (m + 1) (cellsOf S) ∧
    wr.ownsRow w.heap.size 9 1 (.slice T m capT) m (thereOf S) ∧ Below w.heap.size w wr

theorem num_quiet (n : Int) (w : World) : Calls Try.prog 12 #[.int .i64 n] w fun e w' => e = .returned (.int .i64 n) ∧ w' = w :=
  (num_any n w).mono fun _ _ ⟨h1, h2⟩ => ⟨h1, h2.symm⟩

set_option maxHeartbeats 4000000 in
theorem signGrows_walk (A K : Option Addr) (n c nk ck : Nat) (xs : List ByteArray) (ks : List Int) (w : World)
    (hA : ValsAt w w.heap.size A n (fun i => .string (strAt xs i))) (hfit : ∀ i, i < n → (strAt xs i).size ≤ maxLen) (hn : n * 16 ≤ 140737488351232)
    (hK : ValsAt w w.heap.size K nk (fun i => .int .i64 (intAt ks i))) (hnk : nk * 8 ≤ 140737488351232) :
    Calls Try.prog 5 #[.slice A n c, .slice K nk ck] w fun e w' => e = .returned (.bool true) ∧ Below w.heap.size w w' := by
  obtain ⟨i0, hi0, hz0, hz1, hz2⟩ := info_parts str_info
  go_enter Try.func5, Try.ntmps5
  go_wp2_with fail
  refine (awake_any _).mono ?_
  rintro e w1 ⟨rfl, hb1⟩
  go_wp2_with fail
  refine (base_any _).mono ?_
  rintro e w2 ⟨rfl, hown2, hb2⟩
  go_wp2_with fail
  go_loopw [5, 6, 7] (fun sg th i wr => Grows w n sg th i wr) (fun _ _ i _ => 30 - (intOf i).toNat)
  case atStart =>
    exact ⟨0, _, _, 0, _, _, [eqS], by omega, by omega, rfl, rfl, rfl, may_eq, fit_e, own_base hown2 hb1.size, World.ownsRow_nil _ _ _ _, hb1.trans (hb2.mono hb1.size)⟩
  case round =>
    obtain ⟨j, gb, cap, m, capT, T, S, hj, hj30, rfl, rfl, rfl, hM, hfS, hoS, hoT, hbr⟩ := hrel
    have HM := Lib.hid hM
    have hml : m + 1 ≤ 20 := by have := may_len hM; have h2 := hoS.1; rw [cellsOf_length] at h2; omega
    have HSL : Hid (S.length = m + 1) := by have h2 := hoS.1; rw [cellsOf_length] at h2; show _ = _; omega
    clear hM
    have HF := Lib.hid hfS
    clear hfS
    have hcap := own_cap hoS
    have hsS := SymsAt.of_own hoS HF.out
    have hlm : m + 1 ≤ maxLen := by unfold maxLen; omega
    by_cases hgo : j < n ∧ j < 30
    · obtain ⟨hlt, hlt30⟩ := hgo
      · obtain ⟨b, off, rfl, hbA, hcA⟩ := hA (by omega)
        have cA := hcA j hlt
        rw [← hbr.cell (p := ⟨b, _, none⟩) hbA] at cA
        have hfj := hfit j hlt
        clear hcA
        by_cases hk : j < nk
        case' pos =>
          obtain ⟨bK, offK, rfl, hbK, hcK⟩ := hK (by omega)
          have cK := hcK j hk
          rw [← hbr.cell (p := ⟨bK, _, none⟩) hbK] at cK
          clear hcK
          go_wp2_with fail
        case' neg =>
          go_wp2_with fail
        all_goals
          refine (add_any _ (m + 1) cap S _ _ _ _ _ hsS hlm hcap hfj).mono ?_
          rintro e w3 (⟨hE, rfl, hb3⟩ | ⟨hM3, g3, cap3, rfl, hown3, hb3⟩)
          · have e0 := beq_eq_false_iff_ne.mpr hE
            clear hE
            go_wp2_with (go_at_call 12; refine (num_any _ _).mono ?_; rintro e w' ⟨rfl, rfl⟩)
            go_roundw
            case rel => exact ⟨j + 1, gb, cap, m, capT, T, S, by omega, by omega, by go_num, rfl, rfl, HM.out, HF.out, own_below hoS hb3, own_below hoT hb3, hbr.trans (hb3.mono hbr.size)⟩
            case measure => simp [intOf]; omega
          · have HM3 := Lib.hid hM3
            clear hM3
            rw [← hb3.cell (p := ⟨b, _, none⟩) (Nat.lt_of_lt_of_le hbA hbr.size)] at cA
            have hb03 := hbr.trans (hb3.mono hbr.size)
            have hoT3 := own_below hoT hb3
            have hoS3 := own_base hown3 hbr.size
            go_wp2_with (first
              | (go_at_call 12; refine (num_any _ _).mono ?_; rintro e w' ⟨rfl, rfl⟩)
              | (at_builtin
                 refine wpList_append_lies _ rfl (.tmp 58) (.tmp 63) 41 rfl w.heap.size 9 i0 _ 1 16 Try.underlying41 hi0 hz0 hz1 hz2 rfl (by omega) (.slice T m capT) m (thereOf S) rfl (hoT3.alloc _) ⟨w3.heap.size, 0, none⟩ 1 1 [.string (strAt xs j)] rfl rfl (World.news_of_block (cs := #[.string (strAt xs j)]) (t := 9) (fr := (0, 0)) (heap_alloc_new w3 _)) (by simp [Value.oneCell']) (by omega) (by unfold maxLen; omega) (by omega) (by have := hb03.size; simp; omega) (w3.heap.size + 1) (by simp) ?_
                 intro g4 cap4 w4 hown4 hg4 hat4 hlt4
                 have hb04 : Below w.heap.size w w4 := (hb03.alloc hb03.size _).grown hg4 (by have := hb03.size; simp; omega) (fun k hk => (hoT3.lt k hk).1)
                 have hoS4 := (hoS3.alloc _).kept hg4 (own_ne (hoS3.alloc (.cells #[.string (strAt xs j)] 9)) (hoT3.alloc _) (by decide))))
            go_roundw
            case rel =>
              refine ⟨j + 1, g3, cap3, m + 1, cap4, some ⟨g4, 0, none⟩, _, by omega, by omega, by go_num, rfl, rfl, HM3.out, ?_, hoS4, ?_, hb04⟩
              · intro i hi
                by_cases e : i < S.length
                · rw [symAt_append_left e]; exact HF.out i (by rw [← HSL.out]; exact e)
                · obtain rfl : i = S.length := by have := HSL.out; omega
                  rw [symAt_append_right]; exact hfj
              · rw [thereOf_snoc (by rw [HSL.out]; omega)]; exact hown4
            case measure => simp [intOf]; omega
    · have hex : n ≤ j ∨ (j < n ∧ 30 ≤ j) := by omega
      clear hgo
      rcases hex with hex | ⟨hex, h30⟩
      all_goals
        go_wp2_with fail
        refine (may_any _ (m + 1) cap S _ hsS hlm hcap).mono ?_
        rintro e w3 ⟨rfl, hb3⟩
        rw [HM.out]
        have hb03 := hbr.trans (hb3.mono hbr.size)
        have hoT3 := own_below hoT hb3
        have hsS3 := hsS.on hb3
        go_wp2_with fail
        go_loopw [11] (fun i wr => ∃ t : Nat, t ≤ m ∧ i = .int .i64 t ∧ Below w3.heap.size w3 wr) (fun i _ => m - (intOf i).toNat)
        case atStart => exact ⟨0, by omega, rfl, Below.refl _ _⟩
        case round =>
          obtain ⟨t, ht, rfl, hbt⟩ := hrel
          by_cases hltt : t < m
          · obtain ⟨gT, capT', hvT, hgT, hltT⟩ := hoT3.form (by omega)
            injection hvT with hv1 hv2 hv3
            subst hv1; subst hv3
            have cT := own_get hoT3 t hltt
            rw [thereOf_get (by rw [HSL.out]; omega), ← hbt.cell (p := ⟨gT, t, none⟩) hltT] at cT
            have hfk : findK S (symAt S (t + 1)).name = (t : Int) + 1 := by
              unfold findK; rw [HM.out, if_pos rfl, may_code HM.out (by rw [HSL.out]; omega) (by omega)]; omega
            have hfe : findE S = 0 := by unfold findE; rw [HM.out]; rfl
            have hst := (hsS3.below hbt).more hbt.size
            go_wp2_with fail
            refine (find_any _ (m + 1) cap S _ _ hst hlm hcap).mono ?_
            rintro e w5 ⟨rfl, hb5⟩
            rw [hfk, hfe]
            clear hfk hfe
            have hb35 := hbt.trans (hb5.mono hbt.size)
            rw [← hb5.cell (p := ⟨gT, t, none⟩) (Nat.lt_of_lt_of_le hltT hbt.size)] at cT
            obtain ⟨b6, o6, e6, _, hc6⟩ := (hst.on hb5).at_ (by omega)
            injection e6 with e6
            injection e6 with e61 e62
            subst e61; subst e62
            have cS := (hc6 (t + 1) (by omega)).1
            rw [Nat.zero_add] at cS
            clear hc6
            have hi0 : (0 : Int) ≤ (t : Int) := by omega
            have hi1 : (t : Int) < (m : Int) := by omega
            have hi2 : (t : Int) + 1 < ((m + 1 : Nat) : Int) := by omega
            have hi3 : IntKind.i64.wrap ((t : Int) + 1) = (t : Int) + 1 := IntWalk.i64_in _ (by omega)
            have hi4 : ((t : Int) + 1).toNat = t + 1 := by omega
            go_wp2_with fail
            go_quiet ((go_at_call 12; exact Calls.quiet_of_same (num_quiet _ _)))
            clear hi3 hi4
            go_wp2
            go_roundw
            case rel => exact ⟨t + 1, by omega, by go_num, below_drewN hb35 _⟩
            case measure => simp [intOf]; omega
          · obtain rfl : t = m := by omega
            go_wp2
            go_ret
            exact ⟨rfl, hb03.trans (hbt.mono hb03.size)⟩

end Go.Proofs.Ytdphekgnbmoklaa
