/-
  Contracts: path.Paths, path.Find; what Find answers, in plain words.
-/
import Derived.Test.YthdpojokogiinaaPathWalk
namespace Go.Proofs.Ythdpojokogiinaa
open Go.RowKit
set_option linter.unusedSimpArgs false
set_option linter.unusedVariables false
set_option maxRecDepth 100000

def pathsV (ss : List Sym) (t : List Int) : List (List Int) := if exprB ss t then pths ss t [] else []
def pathsE (ss : List Sym) (t : List Int) : Int := if exprB ss t then 0 else 1200
/-- Rows and an error. -/
def PthPost (ts : List (List Int)) (E : Int) (w : World) (e : Ending) (w' : World) : Prop :=
  ∃ v, e = .returned (.tuple #[v, .int .i64 E]) ∧ OwnT w' w.heap.size v ts ∧ Below w.heap.size w w'
theorem paths_any (A A' : Option Addr) (n c m c' : Nat) (ss : List Sym) (t : List Int) (w : World) (h : SymsAt w w.heap.size A n ss) (hn : n ≤ maxLen) (hnc : n ≤ c) (hr : IntsAt w w.heap.size A' m t) (hm : m ≤ maxLen) (hmc : m ≤ c') :
    Calls Try.prog 10 #[.slice A n c, .slice A' m c'] w (PthPost (pathsV ss t) (pathsE ss t) w) := by
  have HS := Lib.hid h
  have HR := Lib.hid hr
  have H := Lib.hid (isExpr_any A A' n c m c' ss t w h hn hnc hr hm hmc)
  clear h hr
  cases hx : exprB ss t
  · have HV : Hid (pathsV ss t = [] ∧ pathsE ss t = 1200) := by show _ ∧ _; unfold pathsV pathsE; rw [hx]; exact ⟨rfl, rfl⟩
    go_enter Try.func10, Try.ntmps10
    go_wp2_with fail
    refine H.out.mono ?_
    rintro e w1 ⟨rfl, hb1⟩
    rw [hx]
    have HB1 := Lib.hid hb1
    clear hb1 hx H
    go_wp2
    go_ret2
    exact ⟨_, by rw [HV.out.2]; rfl, by rw [HV.out.1]; exact OwnT.nil_, HB1.out⟩
  · have HV : Hid (pathsV ss t = pths ss t [] ∧ pathsE ss t = 0) := by show _ ∧ _; unfold pathsV pathsE; rw [hx]; exact ⟨rfl, rfl⟩
    have HX := Lib.hid hx
    go_enter Try.func10, Try.ntmps10
    go_wp2_with fail
    refine H.out.mono ?_
    rintro e w1 ⟨rfl, hb1⟩
    rw [hx]
    have HB1 := Lib.hid hb1
    clear hb1 hx H
    go_wp2_with fail
    refine (walk_any A A' n c m c' ss t w1 (HS.out.on HB1.out) hn (HR.out.on HB1.out) HX.out).mono ?_
    rintro e w2 ⟨v, rfl, hv, hb2⟩
    have HV2 := Lib.hid (hv.lower HB1.out.size)
    have HB2 := Lib.hid (HB1.out.trans (hb2.mono HB1.out.size))
    clear hv hb2
    go_wp2
    go_ret2
    exact ⟨_, by rw [HV.out.2]; rfl, by rw [HV.out.1]; exact HV2.out, HB2.out⟩

/-- The numbers below n at which P holds, ascending. -/
inductive Fnd (P : Nat → Prop) : Nat → List Int → Prop
  | zero : Fnd P 0 []
  | yes {k : Nat} {out : List Int} : Fnd P k out → P k → Fnd P (k + 1) (out ++ [(k : Int)])
  | no {k : Nat} {out : List Int} : Fnd P k out → ¬ P k → Fnd P (k + 1) out
theorem Fnd.unique {P : Nat → Prop} {n : Nat} {a b : List Int} (h : Fnd P n a) (k : Fnd P n b) : a = b := by
  induction h generalizing b with
  | zero => cases k; rfl
  | yes h hp ih => cases k with
    | yes k kp => rw [ih k]
    | no k kp => exact absurd hp kp
  | no h hp ih => cases k with
    | yes k kp => exact absurd kp hp
    | no k kp => exact ih k
theorem Fnd.mem {P : Nat → Prop} {n : Nat} {a : List Int} (h : Fnd P n a) (z : Int) : z ∈ a ↔ ∃ k : Nat, k < n ∧ P k ∧ z = (k : Int) := by
  induction h with
  | zero => simp
  | @yes j out h hp ih =>
    rw [List.mem_append, ih, List.mem_singleton]
    constructor
    · rintro (⟨k, h1, h2, h3⟩ | rfl)
      · exact ⟨k, by omega, h2, h3⟩
      · exact ⟨j, by omega, hp, rfl⟩
    · rintro ⟨k, h1, h2, h3⟩
      by_cases e : k = j
      · subst e; exact .inr h3
      · exact .inl ⟨k, by omega, h2, h3⟩
  | @no j out h hp ih =>
    rw [ih]
    constructor
    · rintro ⟨k, h1, h2, h3⟩; exact ⟨k, by omega, h2, h3⟩
    · rintro ⟨k, h1, h2, h3⟩
      by_cases e : k = j
      · subst e; exact absurd h2 hp
      · exact ⟨k, by omega, h2, h3⟩
theorem Fnd.len {P : Nat → Prop} {n : Nat} {a : List Int} (h : Fnd P n a) : a.length ≤ n := by
  induction h with
  | zero => simp
  | yes h hp ih => simp; omega
  | no h hp ih => omega
/-- Is an expression one of those that are looked for? -/
def Hit (ss : List Sym) (t : List Int) (way : Int) (u : List Int) : Prop := u ≠ [] ∧ (restP ss u).1 = (restP ss t).1 ∧ Meets ss way (restP ss u).2 (restP ss t).2
def okRow (ss : List Sym) (u : List Int) : Bool := u.isEmpty || exprB ss u
def findOk (ss : List Sym) (ts : List (List Int)) (t : List Int) (way : Int) : Bool := wayB way && exprB ss t && ts.all (okRow ss)
def FindR (ss : List Sym) (ts : List (List Int)) (t : List Int) (way : Int) (out : List Int) (E : Int) : Prop :=
  (findOk ss ts t way = false ∧ out = [] ∧ E = 1200) ∨ (findOk ss ts t way = true ∧ E = 0 ∧ Fnd (fun i => Hit ss t way (rowOf ts i)) ts.length out)
theorem FindR.unique {ss : List Sym} {ts : List (List Int)} {t : List Int} {way : Int} {a b : List Int} {E F : Int} (h : FindR ss ts t way a E) (k : FindR ss ts t way b F) : a = b ∧ E = F := by
  rcases h with ⟨h1, rfl, rfl⟩ | ⟨h1, rfl, h2⟩
  · rcases k with ⟨k1, rfl, rfl⟩ | ⟨k1, rfl, k2⟩
    · exact ⟨rfl, rfl⟩
    · rw [h1] at k1; cases k1
  · rcases k with ⟨k1, rfl, rfl⟩ | ⟨k1, rfl, k2⟩
    · rw [h1] at k1; cases k1
    · exact ⟨h2.unique k2, rfl⟩
def FindPost (ss : List Sym) (ts : List (List Int)) (t : List Int) (way : Int) (w : World) (e : Ending) (w' : World) : Prop :=
  ∃ v out E, e = .returned (.tuple #[v, .int .i64 E]) ∧ OwnI w' w.heap.size v out ∧ FindR ss ts t way out E ∧ Below w.heap.size w w'
theorem all_no {ts : List (List Int)} {f : List Int → Bool} {k : Nat} (hk : k < ts.length) (h : f (rowOf ts k) = false) : ts.all f = false := by
  rw [List.all_eq_false]
  exact ⟨_, rowOf_mem hk, by rw [h]; decide⟩
theorem all_yes {ts : List (List Int)} {f : List Int → Bool} (h : ∀ k, k < ts.length → f (rowOf ts k) = true) : ts.all f = true := by
  rw [List.all_eq_true]
  intro x hx
  obtain ⟨i, hi, rfl⟩ := List.getElem_of_mem hx
  have := h i hi
  unfold rowOf at this
  rw [List.getD_eq_getElem?_getD, List.getElem?_eq_getElem hi] at this
  exact this

set_option maxHeartbeats 2000000 in
theorem find_any (A A1 A2 : Option Addr) (n c n1 c1 n2 c2 : Nat) (way : Int) (ss : List Sym) (ts : List (List Int)) (t : List Int) (w : World) (h : SymsAt w w.heap.size A n ss) (hn : n ≤ maxLen) (hnc : n ≤ c) (h1 : TupsAt w w.heap.size A1 n1 ts) (hn1 : n1 * 24 ≤ 140737488351232)
    (h2 : IntsAt w w.heap.size A2 n2 t) (hn2 : n2 ≤ maxLen) (hnc2 : n2 ≤ c2) :
    Calls Try.prog 18 #[.slice A n c, .slice A1 n1 c1, .slice A2 n2 c2, .int .i64 way] w (FindPost ss ts t way w) := by
  have HS := Lib.hid h
  have H1 := Lib.hid h1
  have H2 := Lib.hid h2
  have HL := Lib.hid h1.len
  clear h h1 h2
  cases hw : wayB way
  · have HNO : Hid (FindR ss ts t way [] 1200) := .inl ⟨by unfold findOk; rw [hw]; rfl, rfl, rfl⟩
    go_enter Try.func18, Try.ntmps18
    go_wp2_with fail
    refine (isWay_any way w).mono ?_
    rintro e w1 ⟨rfl, rfl⟩
    rw [hw]
    clear hw
    go_wp2
    go_ret2
    exact ⟨_, [], 1200, rfl, OwnI.nil_, HNO.out, Below.refl _ _⟩
  cases hx : exprB ss t
  · have HNO : Hid (FindR ss ts t way [] 1200) := .inl ⟨by unfold findOk; rw [hw, hx]; rfl, rfl, rfl⟩
    go_enter Try.func18, Try.ntmps18
    go_wp2_with fail
    refine (isWay_any way w).mono ?_
    rintro e w1 ⟨rfl, rfl⟩
    rw [hw]
    clear hw
    go_wp2_with fail
    refine (isExpr_any A A2 n c n2 c2 ss t w HS.out hn hnc H2.out hn2 hnc2).mono ?_
    rintro e w1 ⟨rfl, hb1⟩
    rw [hx]
    have HB1 := Lib.hid hb1
    clear hb1 hx
    go_wp2
    go_ret2
    exact ⟨_, [], 1200, rfl, OwnI.nil_, HNO.out, HB1.out⟩
  have HW := Lib.hid hw
  have HX := Lib.hid hx
  go_enter Try.func18, Try.ntmps18
  go_wp2_with fail
  refine (isWay_any way w).mono ?_
  rintro e w1 ⟨rfl, rfl⟩
  rw [hw]
  clear hw
  go_wp2_with fail
  refine (isExpr_any A A2 n c n2 c2 ss t w HS.out hn hnc H2.out hn2 hnc2).mono ?_
  rintro e w1 ⟨rfl, hb1⟩
  rw [hx]
  have HB1 := Lib.hid hb1
  clear hb1 hx
  go_wp2_with fail
  refine (split_any A A2 n c n2 c2 w.heap.size ss t w1 (HS.out.on HB1.out) (H2.out.below HB1.out) hnc2 HX.out).mono ?_
  rintro e w2 ⟨A3, n3, c3, rfl, hrow, hb2⟩
  have HB2 := Lib.hid (HB1.out.trans (hb2.mono HB1.out.size))
  have HROW := Lib.hid (hrow.keep (w' := w) fun p hp => (HB2.out.cell hp).symm)
  obtain ⟨P, hP⟩ : ∃ P, P = (restP ss t).1 := ⟨_, rfl⟩
  rw [← hP]
  have HP := Lib.hid hP
  clear hrow hb2 hP
  go_wp2
  go_loopw [12, 34] (fun q i wr => ∃ (k : Nat) (out : List Int), i = .int .i64 k ∧ k ≤ n1 ∧ OwnI wr w.heap.size q out ∧ Fnd (fun i => Hit ss t way (rowOf ts i)) k out ∧ (∀ j, j < k → okRow ss (rowOf ts j) = true) ∧ Below w.heap.size w wr) (fun _ i _ => n1 - (intOf i).toNat)
  case atStart => exact ⟨0, [], rfl, by omega, OwnI.nil_, .zero, fun j hj => absurd hj (by omega), HB2.out⟩
  case round =>
    obtain ⟨k, out, rfl, hk, hown, hf, hall, hbw⟩ := hrel
    have HOWN := Lib.hid hown
    have HF := Lib.hid hf
    have HALL := Lib.hid hall
    have HBW := Lib.hid hbw
    have hsz := hbw.size
    obtain ⟨Aq, cq, hq, _, _⟩ := hown.intsAt
    obtain ⟨Lq, hLq⟩ : ∃ Lq, Lq = out.length := ⟨_, rfl⟩
    rw [← hLq] at hq
    have HLQ := Lib.hid hLq
    clear hown hf hall hbw hLq
    subst hq
    by_cases hlt : k < n1
    · obtain ⟨b, off, Au, cu, rfl, hb, hcell, hrow, hnil⟩ := H1.out.one hlt
      have HU := Lib.hid (hrow.below HBW.out)
      have hcell' := (HBW.out.cell (p := ⟨b, off + k, none⟩) hb).trans hcell
      obtain ⟨u, hu⟩ : ∃ u, u = rowOf ts k := ⟨_, rfl⟩
      rw [← hu] at hcell' HU
      have HUE := Lib.hid hu
      obtain ⟨m, hm⟩ : ∃ m, m = u.length := ⟨_, rfl⟩
      rw [← hm] at hcell' HU
      have HM := Lib.hid hm
      clear hcell hrow hnil hu hm
      by_cases h0 : m = 0
      · subst h0
        have hu0 : u = [] := List.length_eq_zero_iff.1 HM.out.symm
        have HNX : Hid (Fnd (fun i => Hit ss t way (rowOf ts i)) (k + 1) out) := .no HF.out (fun hh => hh.1 (by rw [← HUE.out]; exact hu0))
        have HA2 : Hid (∀ j, j < k + 1 → okRow ss (rowOf ts j) = true) := by
          intro j hj
          by_cases e : j = k
          · subst e; rw [← HUE.out, hu0]; rfl
          · exact HALL.out j (by omega)
        clear hu0
        go_wp2
        go_roundw
        case rel => exact ⟨k + 1, out, by go_num, by omega, HOWN.out, HNX.out, HA2.out, HBW.out⟩
        case measure => simp [intOf]; omega
      · have hne : ((m : Int) == 0) = false := by simp; omega
        have HUN : Hid (u ≠ []) := by show u ≠ []; intro e; have := HM.out; rw [e] at this; exact h0 this
        clear h0
        cases hxu : exprB ss u
        · have HNO : Hid (FindR ss ts t way [] 1200) := by
            refine .inl ⟨?_, rfl, rfl⟩
            unfold findOk
            rw [all_no (k := k) (by rw [HL.out]; exact hlt)]
            · simp
            · unfold okRow; rw [← HUE.out, hxu, Bool.or_false]
              cases hu : u with
              | nil => exact absurd hu HUN.out
              | cons _ _ => rfl
          go_wp2_with fail
          refine (isExpr_any A Au n c m cu ss u wr (HS.out.on HBW.out) hn hnc (HU.out.at_.more hsz) (HU.out.big) HU.out.cap).mono ?_
          rintro e w3 ⟨rfl, hb3⟩
          rw [hxu]
          have HB3 := Lib.hid (HBW.out.trans (hb3.mono hsz))
          clear hb3 hxu
          go_wp2
          go_ret2
          exact ⟨_, [], 1200, rfl, OwnI.nil_, HNO.out, HB3.out⟩
        · have HXU := Lib.hid hxu
          have HA2 : Hid (∀ j, j < k + 1 → okRow ss (rowOf ts j) = true) := by
            intro j hj
            by_cases e : j = k
            · subst e; unfold okRow; rw [← HUE.out, HXU.out, Bool.or_true]
            · exact HALL.out j (by omega)
          go_wp2_with fail
          refine (isExpr_any A Au n c m cu ss u wr (HS.out.on HBW.out) hn hnc (HU.out.at_.more hsz) (HU.out.big) HU.out.cap).mono ?_
          rintro e w3 ⟨rfl, hb3⟩
          rw [hxu]
          have HB3 := Lib.hid (HBW.out.trans (hb3.mono hsz))
          have HW3 := Lib.hid hb3
          clear hb3 hxu
          go_wp2_with fail
          refine (split_any A Au n c m cu w.heap.size ss u w3 (HS.out.on HB3.out) (HU.out.at_.below (HW3.out.mono hsz)) HU.out.cap HXU.out).mono ?_
          rintro e w4 ⟨A4, n4, c4, rfl, hrow4, hb4⟩
          have HR4 := Lib.hid hrow4
          have HB4 := Lib.hid (HB3.out.trans (hb4.mono HB3.out.size))
          have HW4 := Lib.hid (HW3.out.trans (hb4.mono HW3.out.size))
          have hsz4 := HB4.out.size
          have HHIT : Hid (Hit ss t way (rowOf ts k) ↔ ((restP ss u).1 = P ∧ Meets ss way (restP ss u).2 (restP ss t).2)) := by
            show _ ↔ _
            unfold Hit
            rw [← HUE.out, HP.out]
            exact ⟨fun hh => hh.2, fun hh => ⟨HUN.out, hh⟩⟩
          obtain ⟨P4, hP4⟩ : ∃ P4, P4 = (restP ss u).1 := ⟨_, rfl⟩
          rw [← hP4] at HHIT ⊢
          clear hrow4 hb4 hP4
          by_cases hpp : P4 = P
          · have HPP := Lib.hid hpp
            have hpe : (P4 == P) = true := by rw [hpp]; simp
            clear hpp
            go_wp2_with fail
            refine (meets_any A A4 A3 n c n4 c4 n3 c3 way ss (restP ss u).2 (restP ss t).2 w4 HW.out (HS.out.on HB4.out) hn ⟨HR4.out.at_.more hsz4, HR4.out.cap, HR4.out.few⟩ ⟨(HROW.out.at_.below HB4.out).more hsz4, HROW.out.cap, HROW.out.few⟩ (rest_row HXU.out) (rest_row HX.out)).mono ?_
            rintro e w5 ⟨⟨bq, rfl, hbq⟩, hb5⟩
            have HBQ := Lib.hid hbq
            have HB5 := Lib.hid (HB4.out.trans (hb5.mono hsz4))
            have HO5 := Lib.hid (HOWN.out.on (HW4.out.trans (hb5.mono HW4.out.size)))
            have hsz5 := HB5.out.size
            clear hbq hb5
            cases bq
            · have HNX : Hid (Fnd (fun i => Hit ss t way (rowOf ts i)) (k + 1) out) := .no HF.out (fun hh => by have := HBQ.out.2 (HHIT.out.1 hh).2; cases this)
              go_wp2
              go_roundw
              case rel => exact ⟨k + 1, out, by go_num, by omega, HO5.out, HNX.out, HA2.out, HB5.out⟩
              case measure => simp [intOf]; omega
            · have HNX : Hid (Fnd (fun i => Hit ss t way (rowOf ts i)) (k + 1) (out ++ [(k : Int)])) := .yes HF.out (HHIT.out.2 ⟨HPP.out, HBQ.out.1 rfl⟩)
              have HLE : Hid (out.length + 1 ≤ 17592186044416) := by have := HF.out.len; show _ ≤ _; omega
              go_wp2_with (at_builtin
                           refine app_ints rfl (.tmp 62) (.tmp 64) rfl w.heap.size _ out rfl (HO5.out.alloc _) (some ⟨w5.heap.size, 0, none⟩) 1 1 _ [(k : Int)] rfl (fun e => by cases e) (IntsAt.news w5 [(k : Int)]) HLE.out (by simp; omega) ?_
                           intro v6 w6 hown6 hb6
                           have HO6 := Lib.hid hown6
                           have HB6 := Lib.hid ((HB5.out.alloc hsz5 _).trans hb6)
                           clear hown6 hb6)
              go_roundw
              case rel => exact ⟨k + 1, _, by go_num, by omega, HO6.out, HNX.out, HA2.out, HB6.out⟩
              case measure => simp [intOf]; omega
          · have hpe : (P4 == P) = false := by simp; exact hpp
            have HNX : Hid (Fnd (fun i => Hit ss t way (rowOf ts i)) (k + 1) out) := .no HF.out (fun hh => hpp (HHIT.out.1 hh).1)
            have HO4 := Lib.hid (HOWN.out.on HW4.out)
            clear hpp
            go_wp2
            go_roundw
            case rel => exact ⟨k + 1, out, by go_num, by omega, HO4.out, HNX.out, HA2.out, HB4.out⟩
            case measure => simp [intOf]; omega
    · obtain rfl : n1 = k := by omega
      have HYES : Hid (FindR ss ts t way out 0) := by
        refine .inr ⟨?_, rfl, by rw [HL.out]; exact HF.out⟩
        unfold findOk
        rw [HW.out, HX.out, all_yes (fun j hj => HALL.out j (by rw [← HL.out]; exact hj))]; rfl
      clear hlt
      go_wp2
      go_ret2
      exact ⟨_, out, 0, rfl, HOWN.out, HYES.out, HBW.out⟩
end Go.Proofs.Ythdpojokogiinaa
