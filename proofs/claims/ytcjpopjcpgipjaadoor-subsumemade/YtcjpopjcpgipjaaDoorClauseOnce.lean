/-
  Contracts: clause.onceLits, clause.onceRows and what they call.
-/
import Derived.Test.YtcjpopjcpgipjaaDoorClauseMays
namespace Go.Proofs.YtcjpopjcpgipjaaDoor
open Go.RowKit Go.Deep
set_option linter.unusedSimpArgs false
set_option linter.unusedVariables false
set_option maxRecDepth 100000

def hasR (r : List Int) (ts : List (List Int)) : Bool := ts.any (sameI r)
theorem hasR_iff {r : List Int} {ts : List (List Int)} : hasR r ts = true ↔ r ∈ ts := by
  unfold hasR sameI
  simp
theorem hasR_yes {r : List Int} {ts : List (List Int)} {k : Nat} (hk : k < ts.length) (h : sameI r (rowOf ts k) = true) : hasR r ts = true := List.any_eq_true.2 ⟨_, rowOf_mem hk, h⟩
theorem hasR_no {r : List Int} {ts : List (List Int)} (h : ∀ k, k < ts.length → sameI r (rowOf ts k) = false) : hasR r ts = false := by
  unfold hasR
  rw [List.any_eq_false]
  intro t ht
  obtain ⟨i, hi, rfl⟩ := mem_rowOf ht
  rw [h i hi]; simp
theorem once_has {ls : List Lt} {k : Nat} (hk : k < ls.length) (h : hasL (ltAt ls k) (once (ls.take k)) = true) : once (ls.take (k + 1)) = once (ls.take k) := by
  rw [List.take_add_one, ltAt_get hk]
  show once (_ ++ [ltAt ls k]) = _
  rw [once_snoc]; unfold put1st; rw [if_pos (hasL_iff.1 h)]
theorem once_new {ls : List Lt} {k : Nat} (hk : k < ls.length) (h : hasL (ltAt ls k) (once (ls.take k)) = false) : once (ls.take (k + 1)) = once (ls.take k) ++ [⟨(ltAt ls k).neg, (ltAt ls k).atom⟩] := by
  rw [List.take_add_one, ltAt_get hk]
  show once (_ ++ [ltAt ls k]) = _
  rw [once_snoc]; unfold put1st; rw [if_neg (fun q => by rw [hasL_iff.2 q] at h; cases h)]
theorem onceR_has {ts : List (List Int)} {k : Nat} (hk : k < ts.length) (h : hasR (rowOf ts k) (once (ts.take k)) = true) : once (ts.take (k + 1)) = once (ts.take k) := by
  rw [rowOf_next hk, once_snoc]; unfold put1st; rw [if_pos (hasR_iff.1 h)]
theorem onceR_new {ts : List (List Int)} {k : Nat} (hk : k < ts.length) (h : hasR (rowOf ts k) (once (ts.take k)) = false) : once (ts.take (k + 1)) = once (ts.take k) ++ [rowOf ts k] := by
  rw [rowOf_next hk, once_snoc]; unfold put1st; rw [if_neg (fun q => by rw [hasR_iff.2 q] at h; cases h)]
theorem once_few {α : Type} [DecidableEq α] {xs : List α} {k : Nat} : (once (xs.take k)).length ≤ xs.length := by
  have := once_length (xs.take k)
  rw [List.length_take] at this; omega
theorem once_mem_take {α : Type} [DecidableEq α] {xs : List α} {k : Nat} {x : α} (h : x ∈ once (xs.take k)) : x ∈ xs := List.mem_of_mem_take (mem_once.1 h)

/-- Block b holds a literal. -/
structure LBox (w : World) (b : Nat) (A : Option Addr) (m c : Nat) (p : Lt) : Prop where
  lt : b < w.heap.size
  c0 : w.cell? ⟨b, 0, none⟩ = some (.bool p.neg)
  c1 : w.cell? ⟨b, 1, none⟩ = some (.slice A m c)
  lit : LitAt w w.heap.size A m c p
theorem LBox.on {w w' : World} {b m c : Nat} {A : Option Addr} {p : Lt} (h : LBox w b A m c p) (hb : Below w.heap.size w w') : LBox w' b A m c p :=
  ⟨by have := h.lt; have := hb.size; omega, by rw [hb.cell (p := ⟨b, 0, none⟩) h.lt]; exact h.c0, by rw [hb.cell (p := ⟨b, 1, none⟩) h.lt]; exact h.c1, h.lit.on hb⟩
theorem LBox.new {w : World} {m c : Nat} {A : Option Addr} {p : Lt} (h : LitAt w w.heap.size A m c p) : LBox (w.alloc (.cells #[.bool p.neg, .slice A m c] 75)) w.heap.size A m c p :=
  ⟨by simp, by rw [World.cell?_alloc_new]; rfl, by rw [World.cell?_alloc_new]; rfl, h.on (below_new w _)⟩
/-- Block b holds a row. -/
structure RBox (w : World) (b : Nat) (A : Option Addr) (m c : Nat) (r : List Int) : Prop where
  lt : b < w.heap.size
  c0 : w.cell? ⟨b, 0, none⟩ = some (.slice A m c)
  row : RowIn w w.heap.size A m c r
theorem RBox.on {w w' : World} {b m c : Nat} {A : Option Addr} {r : List Int} (h : RBox w b A m c r) (hb : Below w.heap.size w w') : RBox w' b A m c r :=
  ⟨by have := h.lt; have := hb.size; omega, by rw [hb.cell (p := ⟨b, 0, none⟩) h.lt]; exact h.c0, h.row.on hb⟩
theorem RBox.new {w : World} {m c : Nat} {A : Option Addr} {r : List Int} (h : RowIn w w.heap.size A m c r) : RBox (w.alloc (.cells #[.slice A m c] 28)) w.heap.size A m c r :=
  ⟨by simp, by rw [World.cell?_alloc_new]; rfl, h.on (below_new w _)⟩

set_option maxHeartbeats 1000000 in
theorem onceOne_any (A1 A2 : Option Addr) (n1 c1 n2 c2 B : Nat) (p q : List Int) (w : World) (h1 : RBox w B A1 n1 c1 p) (h2 : RowIn w w.heap.size A2 n2 c2 q) :
    Calls Tryd.prog 101 #[.slice A2 n2 c2, .pointer (some ⟨B, 0, none⟩)] w fun e w' => e = .returned (.bool (sameI p q)) ∧ Below w.heap.size w w' := by
  have H1 := Lib.hid h1
  have H2 := Lib.hid h2
  have q0 := h1.c0
  clear h1 h2
  go_enter Tryd.func101, Tryd.ntmps101
  go_wp2_with fail
  refine (equal_any A1 A2 n1 c1 n2 c2 _ _ p q _ H1.out.row.at_ H2.out.at_ H1.out.row.big H2.out.big).mono ?_
  rintro e w1 ⟨rfl, hb1⟩
  have HB1 := Lib.hid hb1
  clear hb1 q0
  go_wp2
  go_ret
  exact ⟨rfl, HB1.out⟩
def IdxPostR (p : List Int) (ls : List (List Int)) (w : World) (e : Ending) (w' : World) : Prop := ∃ r : Int, e = .returned (.int .i64 r) ∧ decide (0 ≤ r) = hasR p ls ∧ Below w.heap.size w w'
set_option maxHeartbeats 1000000 in
theorem indexFuncR_any (A A1 : Option Addr) (n c n1 c1 B : Nat) (p : List Int) (ls : List (List Int)) (w : World) (hl : TupsAt w w.heap.size A n ls) (hn : n ≤ 4398046511104) (h1 : RBox w B A1 n1 c1 p) :
    Calls Tryd.prog 115 #[.slice A n c, .func (.func 101) #[] #[.pointer (some ⟨B, 0, none⟩)]] w (IdxPostR p ls w) := by
  have HL := Lib.hid hl
  have HN := Lib.hid hl.len
  have H1 := Lib.hid h1
  clear hl h1
  go_enter Tryd.func115, Tryd.ntmps115
  go_wp2
  go_loopw [8] (fun j wr => ∃ k : Nat, j = .int .i64 k ∧ k ≤ n ∧ (∀ j, j < k → sameI p (rowOf ls j) = false) ∧ Below w.heap.size w wr) (fun j _ => n - (intOf j).toNat)
  case atStart => exact ⟨0, rfl, by omega, fun j hj => absurd hj (by omega), Below.refl _ _⟩
  case round =>
    obtain ⟨k, rfl, hk, hno, hbw⟩ := hrel
    have HBW := Lib.hid hbw
    have HNO := Lib.hid hno
    clear hbw hno
    by_cases hlt : k < n
    · obtain ⟨b, off, A2, c2, rfl, hb, d0, hk1, -⟩ := (HL.out.on HBW.out).one hlt
      have HYES : Hid (sameI p (rowOf ls k) = true → hasR p ls = true) := fun q => hasR_yes (by rw [HN.out]; exact hlt) q
      have HNX : Hid (sameI p (rowOf ls k) = false → ∀ j, j < k + 1 → sameI p (rowOf ls j) = false) := by
        intro q j hj
        by_cases e : j = k
        · rw [e]; exact q
        · exact HNO.out j (by omega)
      obtain ⟨q, hq⟩ : ∃ q, q = rowOf ls k := ⟨_, rfl⟩
      rw [← hq] at d0 hk1 HYES HNX
      have HK2 := Lib.hid hk1
      have hi0 : (0 : Int) ≤ (k : Int) := by omega
      have hi3 : (k : Int) < (n : Int) := by omega
      clear hk1 hq
      go_wp2_with fail
      refine (onceOne_any A1 A2 n1 c1 _ c2 B p q _ (H1.out.on HBW.out) HK2.out).mono ?_
      rintro e w1 ⟨rfl, hb1⟩
      have HB1 := Lib.hid (HBW.out.trans (hb1.mono HBW.out.size))
      clear hb1
      cases hpb : sameI p q
      · have HX := Lib.hid (HNX.out hpb)
        clear hpb
        go_wp2
        go_roundw
        case rel => exact ⟨k + 1, by go_num, by omega, HX.out, HB1.out⟩
        case measure => simp [intOf]; omega
      · have HX := Lib.hid (HYES.out hpb)
        clear hpb
        go_wp2
        go_ret
        exact ⟨(k : Int), rfl, by rw [HX.out]; simp, HB1.out⟩
    · obtain rfl : k = n := by omega
      have HX : Hid (hasR p ls = false) := hasR_no fun j hj => HNO.out j (by rw [HN.out] at hj; exact hj)
      go_wp2
      go_ret
      exact ⟨-1, rfl, by rw [HX.out]; rfl, HBW.out⟩
set_option maxHeartbeats 1000000 in
theorem containsFuncR_any (A A1 : Option Addr) (n c n1 c1 B : Nat) (p : List Int) (ls : List (List Int)) (w : World) (hl : TupsAt w w.heap.size A n ls) (hn : n ≤ 4398046511104) (h1 : RBox w B A1 n1 c1 p) :
    Calls Tryd.prog 100 #[.slice A n c, .func (.func 101) #[] #[.pointer (some ⟨B, 0, none⟩)]] w fun e w' => e = .returned (.bool (hasR p ls)) ∧ Below w.heap.size w w' := by
  have HL := Lib.hid hl
  have H1 := Lib.hid h1
  clear hl h1
  go_enter Tryd.func100, Tryd.ntmps100
  go_wp2_with fail
  refine (indexFuncR_any A A1 n c n1 c1 B p ls w HL.out hn H1.out).mono ?_
  rintro e w1 ⟨r, rfl, hr, hb1⟩
  have HR := Lib.hid hr
  have HB1 := Lib.hid hb1
  clear hr hb1
  go_wp2
  go_ret
  exact ⟨ret_b HR.out, HB1.out⟩

/-- Literals each once, in rows of their own. -/
def OnceL (ls : List Lt) (w : World) (e : Ending) (w' : World) : Prop :=
  ∃ v vs, e = .returned v ∧ OwnLv w' w.heap.size v (once ls) vs ∧ Rws w' w.heap.size vs ((once ls).map Lt.atom) ∧ Apart vs ∧ Below w.heap.size w w'
/-- Rows each once, in blocks of their own. -/
def OnceR (ts : List (List Int)) (w : World) (e : Ending) (w' : World) : Prop :=
  ∃ v vs, e = .returned v ∧ OwnR w' w.heap.size v vs ∧ Rws w' w.heap.size vs (once ts) ∧ Apart vs ∧ Below w.heap.size w w'

set_option maxHeartbeats 2000000 in
theorem onceRows_any (A : Option Addr) (n c : Nat) (ts : List (List Int)) (w : World) (h : TupsAt w w.heap.size A n ts) (hn : n ≤ 6) (hs : ∀ t ∈ ts, t.length ≤ 49) :
    Calls Tryd.prog 77 #[.slice A n c] w (OnceR ts w) := by
  have HS := Lib.hid h
  have HL := Lib.hid h.len
  have HF := Lib.hid hs
  clear h hs
  go_enter Tryd.func77, Tryd.ntmps77
  go_wp2
  go_loopw [3, 8] (fun q i wr => ∃ (k : Nat) (vs : List Value), i = .int .i64 k ∧ k ≤ n ∧ OwnR wr w.heap.size q vs ∧ Rws wr w.heap.size vs (once (ts.take k)) ∧ Apart vs ∧ Below w.heap.size w wr) (fun _ i _ => n - (intOf i).toNat)
  case atStart => exact ⟨0, [], rfl, by omega, OwnR.nil_, Rws.nil_, Apart.nil_, Below.refl _ _⟩
  case round =>
    obtain ⟨k, vs, rfl, hk, hown, hrw, hap, hbw⟩ := hrel
    have HBW := Lib.hid hbw
    have HOWN := Lib.hid hown
    have HRW := Lib.hid hrw
    have HAP := Lib.hid hap
    have hsz := hbw.size
    have hvl : vs.length + 1 ≤ 5864062014634 := by have := hrw.1; have := once_few (xs := ts) (k := k); have := HL.out; omega
    have hol : (once (ts.take k)).length ≤ 6 := by have := once_few (xs := ts) (k := k); have := HL.out; omega
    clear hbw hown hrw hap
    by_cases hlt : k < n
    · have hkl : k < ts.length := by rw [HL.out]; exact hlt
      obtain ⟨b, off, A3, c3, rfl, hb, c0, hr, hnil⟩ := (HS.out.on HBW.out).one hlt
      have HYES := Lib.hid (fun q => onceR_has hkl q)
      have HNO := Lib.hid (fun q => onceR_new hkl q)
      have h49 := HF.out _ (rowOf_mem hkl)
      obtain ⟨r, hrr⟩ : ∃ r, r = rowOf ts k := ⟨_, rfl⟩
      rw [← hrr] at c0 hr HYES HNO h49
      obtain ⟨Am, cm, hvm, _, htm, _⟩ := (OwnT.mk HOWN.out HRW.out).tupsAt (fun t ht => by have := HF.out t (once_mem_take ht); omega)
      obtain ⟨M, hM⟩ : ∃ M, (once (ts.take k)).length = M := ⟨_, rfl⟩
      rw [hM] at hvm htm hol
      have hbx := below_new wr (.cells #[.slice A3 r.length c3] 28)
      have HB0 := Lib.hid (HBW.out.trans (hbx.mono hsz))
      have HBX := Lib.hid (RBox.new hr)
      have HTM := Lib.hid (htm.on hbx)
      have HOWN0 := Lib.hid (HOWN.out.on hbx)
      have HRW0 := Lib.hid (HRW.out.on hbx)
      have HNIL := Lib.hid hnil
      have hi0 : (0 : Int) ≤ (k : Int) := by omega
      have hi3 : (k : Int) < (n : Int) := by omega
      subst hvm
      clear hr hrr hkl hbx htm hnil hM
      go_wp2_with fail
      refine (containsFuncR_any Am A3 M cm r.length c3 wr.heap.size r (once (ts.take k)) _ HTM.out (by omega) HBX.out).mono ?_
      rintro e w1 ⟨rfl, hb1⟩
      have HB1 := Lib.hid (HB0.out.trans (hb1.mono HB0.out.size))
      have HBX1 := Lib.hid (HBX.out.on hb1)
      have HOWN1 := Lib.hid (HOWN0.out.on hb1)
      have HRW1 := Lib.hid (HRW0.out.on hb1)
      clear hb1
      cases hpb : hasR r (once (ts.take k))
      · have HX := Lib.hid (HNO.out hpb)
        have e0 := HBX1.out.c0
        have hsz1 := HB1.out.size
        clear hpb
        go_wp2_with fail
        refine (clone_any A3 _ c3 r _ HBX1.out.row.at_ (fun e => ⟨?_, HNIL.out e⟩) (by omega)).mono ?_
        · rcases Nat.eq_zero_or_pos r.length with q | q
          · exact q
          · exact absurd e (HBX1.out.row.at_.some_ q)
        rintro e w2 ⟨v2, rfl, hv2, hb2⟩
        have HAP2 := Lib.hid (HAP.out.snoc (u := v2) (m := w1.heap.size) (fun i hi g hg => (HRW1.out.lt i hi g hg).2) (fun g hg => (World.ownsRow.lt hv2 g hg).1))
        have HV2 := Lib.hid (hv2.lower (base' := w.heap.size) hsz1)
        have HB2 := Lib.hid (HB1.out.trans (hb2.mono hsz1))
        have HOWN2 := Lib.hid (HOWN1.out.on hb2)
        have HRW2 := Lib.hid (HRW1.out.on hb2)
        have hsz2 := HB2.out.size
        obtain ⟨A4, c4, hv4⟩ := hv2.value
        obtain ⟨L4, hL4⟩ : ∃ L4, r.length = L4 := ⟨_, rfl⟩
        rw [hL4] at hv4
        subst hv4
        clear hv2 hb2 e0
        go_wp2_with (at_builtin
                     refine app_rowv rfl (.tmp 16) (.tmp 19) rfl w.heap.size _ vs _ rfl HOWN2.out rfl rfl rfl hvl hsz2 ?_
                     intro v3 w3 hown3 hc3
                     have HO3 := Lib.hid hown3
                     have HR3 := Lib.hid ((HRW2.out.snoc HV2.out).chg hc3 (by decide))
                     have HB3 := Lib.hid (HB2.out.trans hc3.bel)
                     clear hown3 hc3)
        go_roundw
        case rel => exact ⟨k + 1, _, by go_num, by omega, HO3.out, by rw [HX.out]; exact HR3.out, HAP2.out, HB3.out⟩
        case measure => simp [intOf]; omega
      · have HX := Lib.hid (HYES.out hpb)
        clear hpb
        go_wp2
        go_roundw
        case rel => exact ⟨k + 1, _, by go_num, by omega, HOWN1.out, by rw [HX.out]; exact HRW1.out, HAP.out, HB1.out⟩
        case measure => simp [intOf]; omega
    · obtain rfl : k = n := by omega
      go_wp2
      go_ret
      have e0 : ts.take k = ts := List.take_of_length_le (by rw [HL.out]; omega)
      have hrw := HRW.out
      rw [e0] at hrw
      exact ⟨_, vs, rfl, HOWN.out, hrw, HAP.out, HBW.out⟩

theorem cell_eq {w w' : World} {B i : Nat} (h : w'.heap[B]? = w.heap[B]?) : w'.cell? ⟨B, i, none⟩ = w.cell? ⟨B, i, none⟩ := by
  unfold World.cell?
  simp only [h]
/-- As app_litv_step; what is told beside it: no block but its own one has turned. -/
theorem app_litv_far_step {w : World} {ops : Array Oper} {o : Oper} {a : Act} {K : Act → World → Prop} {Q : Exit → Act → World → Prop} {E : Prop} (hgd : o.guard = none) (s x : Operand)
    (ho : o.op = .call { callee := .builtin .append, args := #[s, x], argTypes := #[23, 23] })
    (base : Nat) (v : Value) (ls : List Lt) (vs : List Value) (y : Bool) (t : List Int) (u : Value) (hs : a.eval s = v) (hown : OwnLv w base v ls vs) (hu : u.oneCell' = true) {N : Nat} (hx : a.eval x = .slice (some ⟨N, 0, none⟩) 1 1) (hN : w.heap.size = N)
    (hlen : ls.length + 1 ≤ 4398046511104) (hbase : base ≤ w.heap.size)
    (h : ∀ v' w', OwnLv w' base v' (ls ++ [⟨y, t⟩]) (vs ++ [u]) → Chg [75] base w w' → (∀ k, k < w.heap.size → v.ownBlock ≠ some k → w'.heap[k]? = w.heap[k]?) → K (a.put o.dst v') w') : if Region.wanted o (yielded ops a.tmps) = true then Oper.wp Tryd.prog o a (w.alloc (.cells #[.bool y, u] 75)) K Q else E := by
  have hw : Region.wanted o (yielded ops a.tmps) = true := by simp [Region.wanted, hgd]
  rw [if_pos hw]
  subst hN
  obtain ⟨i0, hi0, hz0, hz1, hz2⟩ := info_parts lit_info
  obtain ⟨k1, k2⟩ := hown
  have k2' := World.ownsRow.alloc k2 (.cells #[.bool y, u] 75)
  refine wp_append_own _ s x 23 ho base 75 i0 _ 2 32 Tryd.underlying23 hi0 hz0 hz1 hz2 rfl (by omega) v ls.length (litCells ls vs) hs k2' ⟨w.heap.size, 0, none⟩ 1 1 [.bool y, u] hx rfl
    (World.news_of_block (cs := #[.bool y, u]) (t := 75) (fr := (0, 0)) (heap_alloc_new w _)) (by simp [hu]; rfl) (by unfold maxLen; omega) (by omega) (by simp; omega) ?_
  intro v' w' h1 h2 _
  refine h v' w' ⟨by simp [k1], ?_⟩ ((Chg.of_below (below_new w _) hbase).trans (Chg.grown h2 k2' (by simp; omega))) ?_
  · rw [litCells_snoc ls vs _ u k1]
    simpa using h1
  · intro k hk hne
    rw [h2.block k (by simp; omega) hne.symm, (below_new w _).block k hk]
theorem OwnLv.lt {w : World} {base : Nat} {v : Value} {ls : List Lt} {vs : List Value} (h : OwnLv w base v ls vs) {g : Nat} (hg : v.ownBlock = some g) : g < w.heap.size := (World.ownsRow.lt h.2 g hg).2

set_option maxHeartbeats 4000000 in
theorem onceLits_any (A : Option Addr) (n c : Nat) (ls : List Lt) (w : World) (h : LitsAt w w.heap.size A n ls) (hn : n ≤ 6) (hs : ∀ l ∈ ls, 0 < l.atom.length ∧ l.atom.length ≤ 49) :
    Calls Tryd.prog 76 #[.slice A n c] w (OnceL ls w) := by
  have HS := Lib.hid h
  have HL := Lib.hid h.len
  have HF := Lib.hid hs
  clear h hs
  go_enter Tryd.func76, Tryd.ntmps76
  go_wp2
  go_loopw [3, 8] (fun q i wr => ∃ (k : Nat) (vs : List Value), i = .int .i64 k ∧ k ≤ n ∧ OwnLv wr w.heap.size q (once (ls.take k)) vs ∧ Rws wr w.heap.size vs ((once (ls.take k)).map Lt.atom) ∧ Apart vs ∧ Below w.heap.size w wr) (fun _ i _ => n - (intOf i).toNat)
  case atStart => exact ⟨0, [], rfl, by omega, OwnLv.nil_, Rws.nil_, Apart.nil_, Below.refl _ _⟩
  case round =>
    obtain ⟨k, vs, rfl, hk, hown, hrw, hap, hbw⟩ := hrel
    have HBW := Lib.hid hbw
    have HOWN := Lib.hid hown
    have HRW := Lib.hid hrw
    have HAP := Lib.hid hap
    have hsz := hbw.size
    have hol : (once (ls.take k)).length ≤ 6 := by have := once_few (xs := ls) (k := k); have := HL.out; omega
    have hvl : (once (ls.take k)).length + 1 ≤ 4398046511104 := by omega
    clear hbw hown hrw hap
    by_cases hlt : k < n
    · have hkl : k < ls.length := by rw [HL.out]; exact hlt
      obtain ⟨b, off, A3, c3, rfl, hb, c0, c1, hr⟩ := (HS.out.on HBW.out).one hlt
      have HYES := Lib.hid (fun q => once_has hkl q)
      have HNO := Lib.hid (fun q => once_new hkl q)
      obtain ⟨h0, h49⟩ := HF.out _ (ltAt_mem hkl)
      obtain ⟨p, hpp⟩ : ∃ p, p = ltAt ls k := ⟨_, rfl⟩
      rw [← hpp] at c0 c1 hr HYES HNO h49 h0
      obtain ⟨Am, cm, hvm, _, htm⟩ := (HOWN.out.own HRW.out).litsAt (fun i hi => by have := (HF.out _ (once_mem_take (ltAt_mem hi))).2; omega)
      obtain ⟨M, hM⟩ : ∃ M, (once (ls.take k)).length = M := ⟨_, rfl⟩
      rw [hM] at hvm htm hol
      have HFAR : Hid (Value.ownBlock (.slice Am M cm) ≠ some wr.heap.size) := fun q => absurd (OwnLv.lt (hvm ▸ HOWN.out) q) (by omega)
      have hbx := below_new wr (.cells #[.bool p.neg, .slice A3 p.atom.length c3] 75)
      have HB0 := Lib.hid (HBW.out.trans (hbx.mono hsz))
      have HBX := Lib.hid (LBox.new hr)
      have HTM := Lib.hid (htm.on hbx)
      have HOWN0 := Lib.hid (HOWN.out.on hbx)
      have HRW0 := Lib.hid (HRW.out.on hbx)
      have hi0 : (0 : Int) ≤ (k : Int) := by omega
      have hi3 : (k : Int) < (n : Int) := by omega
      subst hvm
      clear hr hpp hkl hbx htm hM
      go_wp2_with fail
      refine (has_any Am A3 M cm p.atom.length c3 p (once (ls.take k)) _ HTM.out (by omega) HBX.out.lit).mono ?_
      rintro e w1 ⟨rfl, hb1⟩
      have HB1 := Lib.hid (HB0.out.trans (hb1.mono HB0.out.size))
      have HBX1 := Lib.hid (HBX.out.on hb1)
      have HOWN1 := Lib.hid (HOWN0.out.on hb1)
      have HRW1 := Lib.hid (HRW0.out.on hb1)
      clear hb1 HBX HTM HOWN0 HRW0
      obtain ⟨B, hB⟩ : ∃ B, B = wr.heap.size := ⟨_, rfl⟩
      rw [← hB] at HBX1 HFAR ⊢
      clear hB
      cases hpb : hasL p (once (ls.take k))
      · have HX := Lib.hid (HNO.out hpb)
        have e0 := HBX1.out.c0
        have e1 := HBX1.out.c1
        have hsz1 := HB1.out.size
        have hBl := HBX1.out.lt
        clear hpb c0 c1
        go_wp2_with fail
        refine wp_region_held_drew (S := (fun w' => w'.cell? ⟨B, 0, none⟩ = some (.bool p.neg) ∧ w'.cell? ⟨B, 1, none⟩ = some (.slice A3 p.atom.length c3))) (by kernel_rfl) ⟨e0, e1⟩ (fun hHeld => ?_)
        have hd0 : Below w1.heap.size w1 w1.drew := (Below.refl w1.heap.size w1).drew
        refine takeH (i := 0) (v := ?_) rfl rfl (by kernel_rfl) (by kernel_rfl) (by kernel_rfl) (fun _ _ _ h => h) (by rfl) ?_ hHeld ?_
        rotate_left
        · (intro w hSw; (try dsimp only at hSw); first | (go_simp; done) | (go_simp; with_reducible rfl))
        simp only [Act.put, List.setIfInBounds_toArray, List.set_cons_zero, List.set_cons_succ]
        refine takeH (i := 1) (v := ?_) rfl rfl (by kernel_rfl) (by kernel_rfl) (by kernel_rfl) (fun _ _ _ h => h) (by rfl) ?_ hHeld ?_
        rotate_left
        · (intro w hSw; (try dsimp only at hSw); first | (go_simp; done) | (go_simp; with_reducible rfl))
        simp only [Act.put, List.setIfInBounds_toArray, List.set_cons_zero, List.set_cons_succ]
        refine takeH (i := 2) (v := ?_) rfl rfl (by kernel_rfl) (by kernel_rfl) (by kernel_rfl) (fun _ _ _ h => h) (by rfl) ?_ hHeld ?_
        rotate_left
        · (intro w hSw; (try dsimp only at hSw); first | (go_simp; done) | (go_simp; with_reducible rfl))
        simp only [Act.put, List.setIfInBounds_toArray, List.set_cons_zero, List.set_cons_succ]
        refine takeH (i := 3) (v := ?_) rfl rfl (by kernel_rfl) (by kernel_rfl) (by kernel_rfl) (fun _ _ _ h => h) (by rfl) ?_ hHeld ?_
        rotate_left
        · (intro w hSw; (try dsimp only at hSw); first | (go_simp; done) | (go_simp; with_reducible rfl))
        simp only [Act.put, List.setIfInBounds_toArray, List.set_cons_zero, List.set_cons_succ]
        refine takeH (i := 4) (v := ?_) rfl rfl (by kernel_rfl) (by kernel_rfl) (by kernel_rfl) (fun _ _ _ h => h) (by rfl) ?_ hHeld ?_
        rotate_left
        · (intro w hSw; (try dsimp only at hSw); first | (go_simp; done) | (go_simp; with_reducible rfl))
        simp only [Act.put, List.setIfInBounds_toArray, List.set_cons_zero, List.set_cons_succ]
        refine wpAnyH_ready (rs := [5]) (by kernel_rfl) (by simp) ?_
        refine AllReadyH.cons rfl (fun K hK => ?_) AllReadyH.nil
        go_simp
        refine (clone_any A3 _ c3 p.atom _ (HBX1.out.on hd0).lit.at_ (fun e => absurd e ((HBX1.out.on hd0).lit.at_.some_ h0)) (by omega)).mono ?_
        rintro e w2 ⟨v2, rfl, hv2, hb2⟩
        have hb2' := hd0.trans (hb2.mono hd0.size)
        have HAP2 := Lib.hid (HAP.out.snoc (u := v2) (m := w1.heap.size) (fun i hi g hg => (HRW1.out.lt i hi g hg).2) (fun g hg => (World.ownsRow.lt hv2 g hg).1))
        have HV2 := Lib.hid (hv2.lower (base' := w.heap.size) (Nat.le_trans hsz1 hd0.size))
        have HB2 := Lib.hid (HB1.out.trans (hb2'.mono hsz1))
        have HOWN2 := Lib.hid (HOWN1.out.on hb2')
        have HRW2 := Lib.hid (HRW1.out.on hb2')
        have HBX2 := Lib.hid (HBX1.out.on hb2')
        have hsz2 := HB2.out.size
        obtain ⟨A4, c4, hv4⟩ := hv2.value
        obtain ⟨L4, hL4⟩ : ∃ L4, p.atom.length = L4 := ⟨_, rfl⟩
        rw [hL4] at hv4
        subst hv4
        have f0 := HBX2.out.c0
        have f1 := HBX2.out.c1
        have hBl2 := HBX2.out.lt
        clear hv2 hb2 hb2' hd0 e0 e1
        go_wp2_with fail
        refine hK.out _ _ ?_ (fun hHeld => ?_)
        · exact ⟨f0, f1⟩
        clear hK K
        refine takeH (i := 6) (v := ?_) rfl rfl (by kernel_rfl) (by kernel_rfl) (by kernel_rfl) (fun _ _ _ h => h) (by rfl) ?_ hHeld ?_
        rotate_left
        · (intro w hSw; (try dsimp only at hSw); first | (go_simp; done) | (go_simp; with_reducible rfl))
        simp only [Act.put, List.setIfInBounds_toArray, List.set_cons_zero, List.set_cons_succ]
        refine wpAnyH_ready (rs := [7]) (by kernel_rfl) (by simp) ?_
        refine AllReadyH.cons rfl (fun K hK => ?_) AllReadyH.nil
        go_simp
        refine hK.out _ _ ?_ (fun hHeld => ?_)
        · have hb3 := below_new w2 (.cells #[.bool p.neg, .slice A4 L4 c4] 75)
          exact ⟨by rw [hb3.cell (p := ⟨B, 0, none⟩) hBl2]; exact f0, by rw [hb3.cell (p := ⟨B, 1, none⟩) hBl2]; exact f1⟩
        clear hK K
        refine wpAnyH_ready (rs := [8]) (by kernel_rfl) (by simp) ?_
        refine AllReadyH.cons rfl (fun K hK => ?_) AllReadyH.nil
        refine app_litv_far_step rfl (.tmp 16) (.tmp 23) rfl w.heap.size _ (once (ls.take k)) vs p.neg p.atom _ rfl HOWN2.out rfl rfl rfl hvl hsz2 ?_
        intro v3 w3 hown3 hc3 hfar
        have HO3 := Lib.hid hown3
        have hgb := hfar B hBl2 HFAR.out
        have HR3 := Lib.hid ((HRW2.out.snoc HV2.out).chg hc3 (by decide))
        have HB3 := Lib.hid (HB2.out.trans hc3.bel)
        have g0 : w3.cell? ⟨B, 0, none⟩ = some (.bool p.neg) := by rw [cell_eq hgb]; exact f0
        have g1 : w3.cell? ⟨B, 1, none⟩ = some (.slice A3 p.atom.length c3) := by rw [cell_eq hgb]; exact f1
        clear hown3 hc3 hfar hgb
        refine hK.out _ _ ?_ (fun hHeld => ?_)
        · exact ⟨g0, g1⟩
        clear hK K
        refine takeH (i := 9) (v := ?_) rfl rfl (by kernel_rfl) (by kernel_rfl) (by kernel_rfl) (fun _ _ _ h => h) (by rfl) ?_ hHeld ?_
        rotate_left
        · (intro w hSw; (try dsimp only at hSw); first | (go_simp; done) | (go_simp; with_reducible rfl))
        simp only [Act.put, List.setIfInBounds_toArray, List.set_cons_zero, List.set_cons_succ]
        refine wpAnyH_done (by kernel_rfl) ?_ _
        go_wp2
        go_roundw
        case rel => exact ⟨k + 1, _, by go_num, by omega, by rw [HX.out]; exact HO3.out, by rw [HX.out, List.map_append]; exact HR3.out, HAP2.out, HB3.out⟩
        case measure => simp [intOf]; omega
      · have HX := Lib.hid (HYES.out hpb)
        clear hpb
        go_wp2
        go_roundw
        case rel => exact ⟨k + 1, _, by go_num, by omega, by rw [HX.out]; exact HOWN1.out, by rw [HX.out]; exact HRW1.out, HAP.out, HB1.out⟩
        case measure => simp [intOf]; omega
    · obtain rfl : k = n := by omega
      go_wp2
      go_ret
      have e0 : ls.take k = ls := List.take_of_length_le (by rw [HL.out]; omega)
      have hrw := HRW.out
      have how := HOWN.out
      rw [e0] at hrw how
      exact ⟨_, vs, rfl, how, hrw, HAP.out, HBW.out⟩
end Go.Proofs.YtcjpopjcpgipjaaDoor
