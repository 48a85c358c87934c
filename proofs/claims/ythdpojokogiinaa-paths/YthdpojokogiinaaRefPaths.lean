/-
  Contract of the reference: paths (a recursion over the terms of an expression).
-/
import Derived.Test.YthdpojokogiinaaPathMem
import Derived.Test.YthdpojokogiinaaPartsR2
namespace Go.Proofs.Ythdpojokogiinaa
open Go.RowKit
set_option linter.unusedSimpArgs false
set_option linter.unusedVariables false
set_option maxRecDepth 100000

theorem ownR_new (w : World) (us : List Value) (h : us.length ≤ maxLen) : OwnR (w.alloc (.cells us.toArray 23)) w.heap.size (.slice (some ⟨w.heap.size, 0, none⟩) us.length us.length) us := by
  have := World.ownsRow_lit (base := w.heap.size) (e := 23) (size := 1) w us.toArray us.length (Nat.le_refl _) h (by simp)
  simpa [OwnR] using this
/-- 'x = append(x, rs...)' of rows: what turns is x's own block, or the row is new. -/
theorem app_rowsg {w : World} {ops : Array Oper} {rest : List Oper} {o : Oper} {a : Act} {Q : Exit → Act → World → Prop} (hgd : o.guard = none) (s x : Operand)
    (ho : o.op = .call { callee := .builtin .append, args := #[s, x], argTypes := #[25, 25] })
    (base bu g cap gu n c : Nat) (vs us : List Value) (hs : a.eval s = .slice (some ⟨g, 0, none⟩) vs.length cap) (hown : OwnR w base (.slice (some ⟨g, 0, none⟩) vs.length cap) vs) (hx : a.eval x = .slice (some ⟨gu, 0, none⟩) n c) (hus : OwnR w bu (.slice (some ⟨gu, 0, none⟩) n c) us)
    (hone : ∀ u ∈ us, u.oneCell' = true) (hlen : vs.length + n ≤ 1000000) (h0 : 0 < n) (hbase : base ≤ w.heap.size)
    (h : ∀ v' w', OwnR w' base v' (vs ++ us) → Chg [23] base w w' → w.grownBy w' (some g) → (v'.ownBlock = some g ∨ ∃ k, w.heap.size ≤ k ∧ v'.ownBlock = some k) → wpList Try.prog ops Q rest (a.put o.dst v') w') : wpList Try.prog ops Q (o :: rest) a w := by
  refine wpList_plain hgd fun K hK => ?_
  obtain ⟨i0, hi0, hz0, hz1, hz2⟩ := info_parts rows_info
  have hn : us.length = n := by
    rcases hus.shape with ⟨q, _⟩ | ⟨g', cap', q, _⟩
    · cases q
    · injection q with _ q _; exact q.symm
  have hnews : ∀ j u, us[j]? = some u → w.cell? ((⟨gu, 0, none⟩ : Addr).add j) = some u := World.ownsRow.cells hus (g := gu) rfl
  obtain ⟨v', w', hr, h2, h3, _⟩ := run_append_own (P := Try.prog) w base 25 o.type 23 i0 _ 1 24 Try.underlying25 hi0 hz0 hz1 hz2 rfl (by omega) _ vs.length vs hown ⟨gu, 0, none⟩ n c us (by rw [hn, Nat.mul_one]) hnews hone (by unfold maxLen; omega) (by omega) hbase
  have hblk : v'.ownBlock = some g ∨ ∃ k, w.heap.size ≤ k ∧ v'.ownBlock = some k := by
    rcases hown.2 with ⟨q, _⟩ | ⟨g1, cap1, cur, q, hbg, hg, hnc, hcm, hcs, htake⟩
    · cases q
    · simp only [Value.slice.injEq, Option.some.injEq, Addr.mk.injEq] at q
      obtain ⟨⟨rfl, -, -⟩, -, rfl⟩ := q
      by_cases hroom : vs.length + n ≤ cap
      · have hr' := run_append_room (P := Try.prog) w 25 o.type 23 i0 Try.underlying25 hi0 g vs.length cap cur hg ⟨gu, 0, none⟩ n c us (by rw [hz1, hn, Nat.mul_one]) hnews hone hroom (by rw [hz1, hcs]; omega)
        rw [hr] at hr'
        injection hr' with e1 e2
        left
        rw [e1]
        rfl
      · have hr' := run_append_grow (P := Try.prog) w 25 o.type 23 i0 _ Try.underlying25 hi0 hz0 ⟨g, 0, none⟩ vs.length cap vs (by rw [hz1, Nat.mul_one]) (World.ownsRow.cells hown (g := g) rfl) ⟨gu, 0, none⟩ n c us (by rw [hz1, hn, Nat.mul_one]) hnews (by omega) (by omega) (growslice_fits (by omega) (by rw [hz2]; omega))
        rw [hr] at hr'
        injection hr' with e1 e2
        right
        rw [e1]
        exact ⟨_, Nat.le_refl _, rfl⟩
  unfold Oper.wp execOp
  simp only [ho, resolve, invoke, builtin, Sem.run_bind, Sem.run_pure, Result.andThen_ok, List.map_toArray, List.map_cons, List.map_nil, hs, hx, hr]
  refine hK _ _ (h v' w' ?_ (Chg.grown h3 hown hbase) h3 hblk)
  unfold OwnR
  rw [List.length_append, hn]
  exact h2

theorem own_slice {w : World} {base : Nat} {u : Value} {xs : List Int} (h : OwnI w base u xs) : ∃ A c, u = .slice A xs.length c ∧ xs.length ≤ c ∧ IntsAt w w.heap.size A xs.length xs ∧ (A = none → xs.length = 0 ∧ c = 0) := by
  obtain ⟨A, c, e, hc, hi⟩ := h.intsAt
  refine ⟨A, c, e, hc, hi, fun q => ?_⟩
  subst q
  rcases h.shape with ⟨q, q2⟩ | ⟨g, cap, q, _⟩
  · rw [q] at e; injection e with _ _ e3; exact ⟨by rw [q2]; rfl, e3.symm⟩
  · rw [q] at e; cases e
/-- A loop that gathers rows: the rows so far, the parts that it goes through. -/
structure PthW (w wr : World) (q v9 : Value) (vs : List Value) (L P : List (List Int)) : Prop where
  rows : OwnR wr w.heap.size q vs
  rws : Rws wr w.heap.size vs L
  parts : RowsAt wr w.heap.size w.heap.size v9 P
  off : sepV v9 q
  bel : Below w.heap.size w wr
section
variable {w w1 w2 w3 : World} {q v9 u v' : Value} {vs us : List Value} {L M P : List (List Int)} {own : List Int} {g n c : Nat}
theorem PthW.on (h : PthW w w1 q v9 vs L P) (hb : Below w1.heap.size w1 w2) : PthW w w2 q v9 vs L P :=
  ⟨owns_on h.rows hb, h.rws.on hb, h.parts.on hb h.bel.size, h.off, h.bel.trans (hb.mono h.bel.size)⟩
theorem PthW.start (hu : OwnI w1 w.heap.size u own) (hb1 : Below w.heap.size w w1) (hb : Below (w1.alloc (.cells #[u] 23)).heap.size (w1.alloc (.cells #[u] 23)) w2) (hp : RowsAt w2 w.heap.size (w1.alloc (.cells #[u] 23)).heap.size v9 P) :
    PthW w w2 (.slice (some ⟨w1.heap.size, 0, none⟩) 1 1) v9 [u] [own] P := by
  have hsz := hb1.size
  have hn := below_new w1 (.cells #[u] 23)
  refine ⟨owns_on ((ownR_new w1 [u] (by simp [maxLen])).lower hsz) hb, ⟨rfl, fun i hi => ?_⟩, hp.lower (by have := hn.size; omega), fun g hg hq => ?_, (hb1.trans (hn.mono hsz)).trans (hb.mono (by have := hn.size; omega))⟩
  · have : i = 0 := by simp at hi; omega
    subst this
    exact (hu.alloc _).on hb
  · simp only [Value.ownBlock, Option.some.injEq] at hq
    subst hq
    exact hp.off (by simp) hg
theorem PthW.app (h : PthW w w1 (.slice (some ⟨g, 0, none⟩) n c) v9 vs L P) (hb : Below w1.heap.size w1 w2) (hM : Rws w2 w1.heap.size us M) (hr : OwnR w3 w.heap.size v' (vs ++ us)) (hc : Chg [23] w.heap.size w2 w3) (hg : w2.grownBy w3 (some g)) (hv : v'.ownBlock = some g ∨ ∃ k, w2.heap.size ≤ k ∧ v'.ownBlock = some k) : PthW w w3 v' v9 (vs ++ us) (L ++ M) P := by
  have h2 := h.on hb
  have hi : (3 : TypeId) ∉ [(23 : TypeId)] := by decide
  have hsz := h.bel.size
  refine ⟨hr, (h2.rws.append (hM.lower hsz)).chg hc hi, h2.parts.grown hg (World.ownsRow.lt h.rows g rfl).1 h2.bel.size (fun q => h.off g q rfl), fun k hk hk' => ?_, h2.bel.trans hc.bel⟩
  rcases hv with q | ⟨k1, hk1, q⟩
  · rw [q] at hk'; injection hk' with hk'; subst hk'; exact h.off _ hk rfl
  · rw [q] at hk'; injection hk' with hk'; subst hk'; exact h2.parts.before hk1 hk
theorem Rws.ones (h : Rws w n us M) : ∀ u ∈ us, u.oneCell' = true := fun u hu => by
  obtain ⟨i, hi, e⟩ := List.mem_iff_getElem.1 hu
  obtain ⟨A, c, q⟩ := (h.2 i (by rw [← h.1]; exact hi)).value
  have : valAt us i = u := by unfold valAt; rw [List.getD_eq_getElem?_getD, List.getElem?_eq_getElem hi]; exact e
  rw [← this, q]; rfl
end
theorem pths_part {V : Nat} {ss : List Sym} {P : List (List Int)} {a k : Nat} {st : List (Nat × Nat)} (hP : ∀ x ∈ P, trm V ss x 1) (hl : P.length = a) (hk : k < a) (own : List Int) :
    (own :: pths ss ((P.take k).flatten) (nxt a st)) ++ pths ss (rowOf P k) ((k, a - 1 - k) :: st) = own :: pths ss ((P.take (k + 1)).flatten) (nxt a st) := by
  have h1 : trm V ss ((P.take k).flatten) k := by
    have := trm_flatten (V := V) (ss := ss) (L := P.take k) (fun r hr => hP r (List.mem_of_mem_take hr))
    rw [List.length_take, Nat.min_eq_left (by omega)] at this; exact this
  rw [rowOf_take (by omega), pths_append h1, nxt_pos (by omega), popN_part k 0 (a - 1) (by omega), Nat.zero_add]
  rfl

/-- The contract, for expressions of at most K codes. -/
def PathsH (ss : List Sym) (A0 : Option Addr) (n0 c0 K : Nat) : Prop :=
  ∀ (t : List Int) (st : List (Nat × Nat)) (Aw At : Option Addr) (cw p m ct : Nat) (w : World), t.length ≤ K → t.length ≤ 49 → xpr 24 ss t → st.length + t.length ≤ 200 → st.length = p → SymsAt w w.heap.size A0 n0 ss → IntsAt w w.heap.size Aw p (wayL st) → (Aw = none → p = 0 ∧ cw = 0) → IntsAt w w.heap.size At m t → m ≤ ct →
    Calls Try.prog 28 #[.slice A0 n0 c0, .slice Aw p cw, .slice At m ct] w (TupsRet (pths ss t st) w)

set_option maxHeartbeats 4000000 in
theorem refPaths_any (ss : List Sym) (A0 : Option Addr) (n0 c0 : Nat) (hn0 : n0 ≤ maxLen) (hmay : mayB ss = true) : ∀ K, PathsH ss A0 n0 c0 K := by
  intro K
  induction K with
  | zero =>
    intro t st Aw At cw p m ct w hK _ hx
    obtain ⟨c, r, rfl, _⟩ := hx
    simp at hK
  | succ K ih =>
    intro t st Aw At cw S m ct w hK h49 hx hfew hS hs hw hwn ht hmt
    obtain ⟨c, r, rfl, hc24, hr⟩ := hx
    have HIH := Lib.hid ih
    obtain ⟨⟨ms, hms, hml0⟩, hge⟩ := hr
    have HMS := Lib.hid (And.intro hms hml0)
    have HGE := Lib.hid hge
    have HS := Lib.hid hs
    have HW := Lib.hid hw
    have HWN := Lib.hid hwn
    have hml : m = r.length + 1 := by rw [← ht.len]; rfl
    obtain ⟨b, off, rfl, hb, hcl⟩ := ht.at_ (by omega)
    have hcx : w.cell? ⟨b, off, none⟩ = some (.int .i64 c) := by have := hcl 0 (by omega); rw [Nat.add_zero] at this; exact this
    have HT := Lib.hid ht
    have HWL : Hid ((wayL st).length = S) := by show _ = S; rw [wayL_length, hS]
    have HT1 := Lib.hid (ht.tail1 hmt)
    obtain ⟨AT, hAT⟩ : ∃ AT, (if ct = 1 then some ⟨b, off, none⟩ else some ⟨b, off + 1, none⟩ : Option Addr) = AT := ⟨_, rfl⟩
    rw [hAT] at HT1
    simp only [List.length_cons] at hK h49 hfew
    rw [hS] at hfew
    have HSS := Lib.hid hS
    have hm0 : (0 : Int) < (m : Int) := by omega
    have hm1 : (1 : Int) ≤ (m : Int) := by omega
    have hm2 : (m : Int) ≤ (ct : Int) := by omega
    have hm3 : 0 < m := by omega
    have HML := Lib.hid hml
    have HRL := Lib.hid hfew
    clear ih hs hw hwn ht hcl hS hge hms hml0 hml
    by_cases hM : -1 ≤ c
    · have HMX : Hid (max c (-1) = c) := by show max c (-1) = c; omega
      have hmx : max c (-1) = c := HMX.out
      go_enter Try.func28, Try.ntmps28
      go_wp2_with (first
        | (at_builtin
           refine app_ints rfl (.tmp 12) (.tmp 13) rfl w.heap.size _ [] rfl (OwnI.empty w) Aw S cw w.heap.size (wayL st) rfl HWN.out (HW.out.below (below_new w _)) (by simp; omega) (by simp) ?_
           intro v1 w1 hown1 hb1
           obtain ⟨A1, L1, c1, rfl⟩ : ∃ A1 L1 c1, v1 = .slice A1 L1 c1 := by obtain ⟨A9, c9, q9⟩ := hown1.value; exact ⟨_, _, _, q9⟩
           have HO1 := Lib.hid (hown1.cast (List.nil_append _))
           have hbl1 : Below w.heap.size w w1 := (below_new w _).trans hb1
           have HB1 := Lib.hid hbl1
           have hsz1 := hbl1.size
           have hcx1 := (hbl1.cell (p := ⟨b, off, none⟩) hb).trans hcx
           clear hown1 hb1 hbl1)
        | (at_builtin
           refine app_ints rfl (.tmp 15) (.tmp 20) rfl w.heap.size _ (wayL st) rfl (HO1.out.alloc _) (some ⟨w1.heap.size, 0, none⟩) 1 1 _ [c] rfl (fun e => by cases e) (IntsAt.news w1 [c]) (by rw [HWL.out]; omega) (by simp; omega) ?_
           intro v2 w2 hown2 hb2
           obtain ⟨A2, L2, c2, rfl⟩ : ∃ A2 L2 c2, v2 = .slice A2 L2 c2 := by obtain ⟨A9, c9, q9⟩ := hown2.value; exact ⟨_, _, _, q9⟩
           have HO2 : Hid (OwnI w2 w.heap.size (.slice A2 L2 c2) (wayL st ++ [max c (-1)])) := by show OwnI _ _ _ _; rw [HMX.out]; exact hown2
           have HB2 := Lib.hid ((HB1.out.alloc hsz1 _).trans hb2)
           have hsz2 := HB2.out.size
           clear hown2 hb2))
      refine (refPartsR_any A0 AT n0 c0 (m - 1) (ct - 1) w.heap.size ss r ms _ (HS.out.below (HB2.out.trans ((below_new w2 _).mono hsz2))) hn0 ⟨HT1.out.below (HB2.out.trans ((below_new w2 _).mono hsz2)), by omega, by have := HML.out; omega⟩ hmay HMS.out.1 (by have := (below_new w2 (.cells #[.slice A2 L2 c2] 23)).size; omega)).mono ?_
      rintro e w4 ⟨v9, rfl, hp9, hb4⟩
      have HP := Lib.hid (PthW.start HO2.out HB2.out hb4 hp9)
      obtain ⟨A9, c9, rfl⟩ := hp9.value
      have HPL : Hid ((partsL r ms).length = arc ss c) := by show _ = _; rw [partsL_length]; exact HMS.out.2
      rw [HPL.out]
      obtain ⟨a, ha⟩ : ∃ a, a = arc ss c := ⟨_, rfl⟩
      obtain ⟨P, hP⟩ : ∃ P, P = partsL r ms := ⟨_, rfl⟩
      obtain ⟨own, hown0⟩ : ∃ own, own = wayL st ++ [max c (-1)] := ⟨_, rfl⟩
      have HPT : Hid (∀ x ∈ P, trm 24 ss x 1 ∧ x.length ≤ r.length) := by
        intro x hx
        rw [hP] at hx
        refine ⟨partsL_trm HMS.out.1 HGE.out x hx, ?_⟩
        obtain ⟨i, hi, e⟩ := List.getElem_of_mem hx
        have e2 : rowOf (partsL r ms) i = x := by unfold rowOf; rw [List.getD_eq_getElem?_getD, List.getElem?_eq_getElem hi]; exact e
        have := congrArg List.length (partsL_flat HMS.out.1)
        rw [rowOf_drop hi, e2, List.length_append, List.length_append] at this
        omega
      have HFL : Hid (P.flatten = r) := by show P.flatten = r; rw [hP]; exact partsL_flat HMS.out.1
      have HALL : Hid (pths ss (c :: r) st = own :: pths ss r (nxt a st)) := by show _ = _; rw [pths_cons, hown0, ha]
      rw [← ha, ← hP] at HPL
      rw [← hP, ← hown0, HPL.out] at HP
      have haL : a ≤ 48 := by have := trm_len (V := 24) (ss := ss) ⟨⟨ms, HMS.out⟩, HGE.out⟩; omega
      rw [← ha]
      clear hp9 hb4 ha hP hown0 HT HT1 hAT hcx hcx1 hM hmx HMX hm0 hm1 hm2 hm3
      go_wp2
      go_loopw [8, 10] (fun q i wr => ∃ (k : Nat) (vs : List Value) (g cap : Nat), q = .slice (some ⟨g, 0, none⟩) vs.length cap ∧ i = .int .i64 (k : Int) ∧ k ≤ a ∧ PthW w wr q (.slice A9 a c9) vs (own :: pths ss ((P.take k).flatten) (nxt a st)) P) (fun _ i _ => a - (intOf i).toNat)
      case atStart => exact ⟨0, [.slice A2 L2 c2], w2.heap.size, 1, rfl, rfl, by omega, HP.out⟩
      case round =>
        obtain ⟨k, vs, g, cap, rfl, rfl, hk, hq⟩ := hrel
        have HQ := Lib.hid hq
        have hszr := hq.bel.size
        by_cases hlt : k < a
        · obtain ⟨g9, cap9, A5, n5, c5, he9, hg9, hcell9, hrow5⟩ := hq.parts.cell (i := k) (by rw [HPL.out]; exact hlt)
          have HR5 := Lib.hid hrow5
          simp only [Value.slice.injEq] at he9
          obtain ⟨rfl, -, rfl⟩ := he9
          have hlen5 := hq.rws.1
          clear hq hrow5
          have hg9 : g9 < wr.heap.size := by obtain ⟨vals, h1, h2, h3⟩ := HQ.out.parts; exact (World.ownsRow.lt h2 g9 rfl).2
          obtain ⟨x, hx⟩ : ∃ x, x = rowOf P k := ⟨_, rfl⟩
          have HX : Hid (trm 24 ss x 1 ∧ x.length ≤ r.length) := by rw [hx]; exact HPT.out _ (rowOf_mem (by rw [HPL.out]; exact hlt))
          have HXE := Lib.hid hx
          have hvl : vs.length ≤ 50 := by
            have h1 : ((P.take k).flatten).length ≤ P.flatten.length := by
              have e : P.flatten = (P.take k).flatten ++ (P.drop k).flatten := by rw [← List.flatten_append, List.take_append_drop]
              rw [e, List.length_append]; omega
            rw [HFL.out] at h1
            rw [hlen5, List.length_cons, pths_length]; omega
          rw [← hx] at HR5
          have hk0 : (0 : Int) ≤ (k : Int) := by omega
          have hk1 : (k : Int) < (a : Int) := by omega
          have hxl := HX.out.2
          have hxp := trm_pos HX.out.1
          clear hlen5 hx
          go_wp2_with (first
            | (at_builtin
               refine app_ints rfl (.tmp 34) (.tmp 35) rfl wr.heap.size _ [] rfl (OwnI.empty wr) Aw S cw w.heap.size (wayL st) rfl HWN.out (HW.out.below (HQ.out.bel.trans ((below_new wr _).mono hszr))) (by simp; omega) (by simp) ?_
               intro v5 w5 hown5 hb5
               obtain ⟨A6, L6, c6, rfl⟩ : ∃ A6 L6 c6, v5 = .slice A6 L6 c6 := by obtain ⟨A', c', q'⟩ := hown5.value; exact ⟨_, _, _, q'⟩
               have HO5 := Lib.hid (hown5.cast (List.nil_append _))
               have hbl5 : Below wr.heap.size wr w5 := (below_new wr _).trans hb5
               have HB5 := Lib.hid hbl5
               have hsz5 := hbl5.size
               clear hown5 hb5 hbl5)
            | (at_builtin
               refine app_ints rfl (.tmp 37) (.tmp 39) rfl wr.heap.size _ (wayL st) rfl (HO5.out.alloc _) (some ⟨w5.heap.size, 0, none⟩) 1 1 _ [(k : Int)] rfl (fun e => by cases e) (IntsAt.news w5 [(k : Int)]) (by rw [HWL.out]; omega) (by simp; omega) ?_
               intro v6 w6 hown6 hb6
               obtain ⟨A7, c7, q7, _, hi7, hn7⟩ := own_slice hown6
               have hl7 : (wayL st ++ [(k : Int)]).length = S + 1 := by rw [List.length_append, HWL.out]; rfl
               rw [hl7] at q7 hi7 hn7
               subst q7
               have HI7 := Lib.hid hi7
               have HN7 := Lib.hid hn7
               have HB6 := Lib.hid ((HB5.out.alloc hsz5 _).trans hb6)
               have hsz6 := HB6.out.size
               have hcell6 := (HB6.out.cell (p := ⟨g9, k, none⟩) hg9).trans hcell9
               clear hown6 hb6 hi7 hn7 hl7))
          refine (HIH.out x ((k, a - 1 - k) :: st) A7 A5 c7 (S + 1) n5 c5 w6 (by omega) (by omega) (xpr_of_trm HX.out.1) (by rw [List.length_cons, HSS.out]; omega) (by rw [List.length_cons, HSS.out]) (HS.out.on (HQ.out.bel.trans (HB6.out.mono hszr))) (by rw [wayL_cons]; exact HI7.out) HN7.out ((HR5.out.at_.below (HB6.out.mono hszr)).more (by omega)) HR5.out.cap).mono ?_
          rintro e w7 ⟨v7, rfl, hown7, hb7⟩
          obtain ⟨us, hru, hrs⟩ := hown7.vals
          have hul : us.length = x.length := by rw [hrs.1, pths_length]
          obtain ⟨g7, cap7, hv7, _, _, hcap7⟩ : ∃ g7 cap7, v7 = .slice (some ⟨g7, 0, none⟩) us.length cap7 ∧ w6.heap.size ≤ g7 ∧ g7 < w7.heap.size ∧ us.length ≤ cap7 := by
            rcases hru.shape with ⟨_, q⟩ | q
            · rw [q] at hul; simp at hul; omega
            · exact q
          have HB7 := Lib.hid (HB6.out.trans (hb7.mono hsz6))
          have HRU := Lib.hid hru
          have HRS := Lib.hid hrs
          have HQ7 := Lib.hid (HQ.out.on HB7.out)
          have hsz7 := HB7.out.size
          subst hv7
          have HUL := Lib.hid hul
          have hul49 : us.length ≤ 49 := by omega
          have hulp : 0 < us.length := by omega
          clear hown7 hb7 hru hrs hul hxl hxp
          go_wp2_with (at_builtin
                       refine app_rowsg rfl (.tmp 41) (.tmp 48) rfl w.heap.size w6.heap.size g cap g7 us.length cap7 vs us rfl HQ7.out.rows rfl HRU.out HRS.out.ones (by omega) (by omega) HQ7.out.bel.size ?_
                       intro v8 w8 hr8 hc8 hg8 hv8
                       obtain ⟨g8, cap8, q8, _⟩ : ∃ g8 cap8, v8 = .slice (some ⟨g8, 0, none⟩) (vs ++ us).length cap8 ∧ True := by
                         rcases hr8.shape with ⟨_, q⟩ | ⟨g', cap', q, _⟩
                         · rw [List.append_eq_nil_iff] at q; rw [q.2] at hulp; simp at hulp
                         · exact ⟨_, _, q, trivial⟩
                       have HQ8 := Lib.hid (HQ.out.app HB7.out (HRS.out.lower hsz6) hr8 hc8 hg8 hv8)
                       subst q8
                       clear hr8 hc8 hg8 hv8)
          go_roundw
          case rel =>
            refine ⟨k + 1, vs ++ us, g8, cap8, by rw [List.length_append], by go_num, by omega, ?_⟩
            have e := pths_part (ss := ss) (P := P) (st := st) (fun x hx => (HPT.out x hx).1) HPL.out hlt own
            rw [← HXE.out] at e
            rw [← e]
            rw [List.length_append] at HQ8
            exact HQ8.out
          case measure => simp [intOf]; omega
        · obtain rfl : k = a := by omega
          have HE : Hid (own :: pths ss ((P.take k).flatten) (nxt k st) = pths ss (c :: r) st) := by
            show _ = _
            rw [HALL.out, List.take_of_length_le (by rw [HPL.out]; exact Nat.le_refl _), HFL.out]
          clear hq hlt
          go_wp2
          go_ret
          exact ⟨_, rfl, (OwnT.mk HQ.out.rows HQ.out.rws).cast HE.out, HQ.out.bel⟩
    · have HMX : Hid (max c (-1) = -1) := by show max c (-1) = -1; omega
      have hmx : max c (-1) = -1 := HMX.out
      go_enter Try.func28, Try.ntmps28
      go_wp2_with (first
        | (at_builtin
           refine app_ints rfl (.tmp 12) (.tmp 13) rfl w.heap.size _ [] rfl (OwnI.empty w) Aw S cw w.heap.size (wayL st) rfl HWN.out (HW.out.below (below_new w _)) (by simp; omega) (by simp) ?_
           intro v1 w1 hown1 hb1
           obtain ⟨A1, L1, c1, rfl⟩ : ∃ A1 L1 c1, v1 = .slice A1 L1 c1 := by obtain ⟨A9, c9, q9⟩ := hown1.value; exact ⟨_, _, _, q9⟩
           have HO1 := Lib.hid (hown1.cast (List.nil_append _))
           have hbl1 : Below w.heap.size w w1 := (below_new w _).trans hb1
           have HB1 := Lib.hid hbl1
           have hsz1 := hbl1.size
           have hcx1 := (hbl1.cell (p := ⟨b, off, none⟩) hb).trans hcx
           clear hown1 hb1 hbl1)
        | (at_builtin
           refine app_ints rfl (.tmp 15) (.tmp 20) rfl w.heap.size _ (wayL st) rfl (HO1.out.alloc _) (some ⟨w1.heap.size, 0, none⟩) 1 1 _ [(-1)] rfl (fun e => by cases e) (IntsAt.news w1 [(-1)]) (by rw [HWL.out]; omega) (by simp; omega) ?_
           intro v2 w2 hown2 hb2
           obtain ⟨A2, L2, c2, rfl⟩ : ∃ A2 L2 c2, v2 = .slice A2 L2 c2 := by obtain ⟨A9, c9, q9⟩ := hown2.value; exact ⟨_, _, _, q9⟩
           have HO2 : Hid (OwnI w2 w.heap.size (.slice A2 L2 c2) (wayL st ++ [max c (-1)])) := by show OwnI _ _ _ _; rw [HMX.out]; exact hown2
           have HB2 := Lib.hid ((HB1.out.alloc hsz1 _).trans hb2)
           have hsz2 := HB2.out.size
           clear hown2 hb2))
      refine (refPartsR_any A0 AT n0 c0 (m - 1) (ct - 1) w.heap.size ss r ms _ (HS.out.below (HB2.out.trans ((below_new w2 _).mono hsz2))) hn0 ⟨HT1.out.below (HB2.out.trans ((below_new w2 _).mono hsz2)), by omega, by have := HML.out; omega⟩ hmay HMS.out.1 (by have := (below_new w2 (.cells #[.slice A2 L2 c2] 23)).size; omega)).mono ?_
      rintro e w4 ⟨v9, rfl, hp9, hb4⟩
      have HP := Lib.hid (PthW.start HO2.out HB2.out hb4 hp9)
      obtain ⟨A9, c9, rfl⟩ := hp9.value
      have HPL : Hid ((partsL r ms).length = arc ss c) := by show _ = _; rw [partsL_length]; exact HMS.out.2
      rw [HPL.out]
      obtain ⟨a, ha⟩ : ∃ a, a = arc ss c := ⟨_, rfl⟩
      obtain ⟨P, hP⟩ : ∃ P, P = partsL r ms := ⟨_, rfl⟩
      obtain ⟨own, hown0⟩ : ∃ own, own = wayL st ++ [max c (-1)] := ⟨_, rfl⟩
      have HPT : Hid (∀ x ∈ P, trm 24 ss x 1 ∧ x.length ≤ r.length) := by
        intro x hx
        rw [hP] at hx
        refine ⟨partsL_trm HMS.out.1 HGE.out x hx, ?_⟩
        obtain ⟨i, hi, e⟩ := List.getElem_of_mem hx
        have e2 : rowOf (partsL r ms) i = x := by unfold rowOf; rw [List.getD_eq_getElem?_getD, List.getElem?_eq_getElem hi]; exact e
        have := congrArg List.length (partsL_flat HMS.out.1)
        rw [rowOf_drop hi, e2, List.length_append, List.length_append] at this
        omega
      have HFL : Hid (P.flatten = r) := by show P.flatten = r; rw [hP]; exact partsL_flat HMS.out.1
      have HALL : Hid (pths ss (c :: r) st = own :: pths ss r (nxt a st)) := by show _ = _; rw [pths_cons, hown0, ha]
      rw [← ha, ← hP] at HPL
      rw [← hP, ← hown0, HPL.out] at HP
      have haL : a ≤ 48 := by have := trm_len (V := 24) (ss := ss) ⟨⟨ms, HMS.out⟩, HGE.out⟩; omega
      rw [← ha]
      clear hp9 hb4 ha hP hown0 HT HT1 hAT hcx hcx1 hM hmx HMX hm0 hm1 hm2 hm3
      go_wp2
      go_loopw [8, 10] (fun q i wr => ∃ (k : Nat) (vs : List Value) (g cap : Nat), q = .slice (some ⟨g, 0, none⟩) vs.length cap ∧ i = .int .i64 (k : Int) ∧ k ≤ a ∧ PthW w wr q (.slice A9 a c9) vs (own :: pths ss ((P.take k).flatten) (nxt a st)) P) (fun _ i _ => a - (intOf i).toNat)
      case atStart => exact ⟨0, [.slice A2 L2 c2], w2.heap.size, 1, rfl, rfl, by omega, HP.out⟩
      case round =>
        obtain ⟨k, vs, g, cap, rfl, rfl, hk, hq⟩ := hrel
        have HQ := Lib.hid hq
        have hszr := hq.bel.size
        by_cases hlt : k < a
        · obtain ⟨g9, cap9, A5, n5, c5, he9, hg9, hcell9, hrow5⟩ := hq.parts.cell (i := k) (by rw [HPL.out]; exact hlt)
          have HR5 := Lib.hid hrow5
          simp only [Value.slice.injEq] at he9
          obtain ⟨rfl, -, rfl⟩ := he9
          have hlen5 := hq.rws.1
          clear hq hrow5
          have hg9 : g9 < wr.heap.size := by obtain ⟨vals, h1, h2, h3⟩ := HQ.out.parts; exact (World.ownsRow.lt h2 g9 rfl).2
          obtain ⟨x, hx⟩ : ∃ x, x = rowOf P k := ⟨_, rfl⟩
          have HX : Hid (trm 24 ss x 1 ∧ x.length ≤ r.length) := by rw [hx]; exact HPT.out _ (rowOf_mem (by rw [HPL.out]; exact hlt))
          have HXE := Lib.hid hx
          have hvl : vs.length ≤ 50 := by
            have h1 : ((P.take k).flatten).length ≤ P.flatten.length := by
              have e : P.flatten = (P.take k).flatten ++ (P.drop k).flatten := by rw [← List.flatten_append, List.take_append_drop]
              rw [e, List.length_append]; omega
            rw [HFL.out] at h1
            rw [hlen5, List.length_cons, pths_length]; omega
          rw [← hx] at HR5
          have hk0 : (0 : Int) ≤ (k : Int) := by omega
          have hk1 : (k : Int) < (a : Int) := by omega
          have hxl := HX.out.2
          have hxp := trm_pos HX.out.1
          clear hlen5 hx
          go_wp2_with (first
            | (at_builtin
               refine app_ints rfl (.tmp 34) (.tmp 35) rfl wr.heap.size _ [] rfl (OwnI.empty wr) Aw S cw w.heap.size (wayL st) rfl HWN.out (HW.out.below (HQ.out.bel.trans ((below_new wr _).mono hszr))) (by simp; omega) (by simp) ?_
               intro v5 w5 hown5 hb5
               obtain ⟨A6, L6, c6, rfl⟩ : ∃ A6 L6 c6, v5 = .slice A6 L6 c6 := by obtain ⟨A', c', q'⟩ := hown5.value; exact ⟨_, _, _, q'⟩
               have HO5 := Lib.hid (hown5.cast (List.nil_append _))
               have hbl5 : Below wr.heap.size wr w5 := (below_new wr _).trans hb5
               have HB5 := Lib.hid hbl5
               have hsz5 := hbl5.size
               clear hown5 hb5 hbl5)
            | (at_builtin
               refine app_ints rfl (.tmp 37) (.tmp 39) rfl wr.heap.size _ (wayL st) rfl (HO5.out.alloc _) (some ⟨w5.heap.size, 0, none⟩) 1 1 _ [(k : Int)] rfl (fun e => by cases e) (IntsAt.news w5 [(k : Int)]) (by rw [HWL.out]; omega) (by simp; omega) ?_
               intro v6 w6 hown6 hb6
               obtain ⟨A7, c7, q7, _, hi7, hn7⟩ := own_slice hown6
               have hl7 : (wayL st ++ [(k : Int)]).length = S + 1 := by rw [List.length_append, HWL.out]; rfl
               rw [hl7] at q7 hi7 hn7
               subst q7
               have HI7 := Lib.hid hi7
               have HN7 := Lib.hid hn7
               have HB6 := Lib.hid ((HB5.out.alloc hsz5 _).trans hb6)
               have hsz6 := HB6.out.size
               have hcell6 := (HB6.out.cell (p := ⟨g9, k, none⟩) hg9).trans hcell9
               clear hown6 hb6 hi7 hn7 hl7))
          refine (HIH.out x ((k, a - 1 - k) :: st) A7 A5 c7 (S + 1) n5 c5 w6 (by omega) (by omega) (xpr_of_trm HX.out.1) (by rw [List.length_cons, HSS.out]; omega) (by rw [List.length_cons, HSS.out]) (HS.out.on (HQ.out.bel.trans (HB6.out.mono hszr))) (by rw [wayL_cons]; exact HI7.out) HN7.out ((HR5.out.at_.below (HB6.out.mono hszr)).more (by omega)) HR5.out.cap).mono ?_
          rintro e w7 ⟨v7, rfl, hown7, hb7⟩
          obtain ⟨us, hru, hrs⟩ := hown7.vals
          have hul : us.length = x.length := by rw [hrs.1, pths_length]
          obtain ⟨g7, cap7, hv7, _, _, hcap7⟩ : ∃ g7 cap7, v7 = .slice (some ⟨g7, 0, none⟩) us.length cap7 ∧ w6.heap.size ≤ g7 ∧ g7 < w7.heap.size ∧ us.length ≤ cap7 := by
            rcases hru.shape with ⟨_, q⟩ | q
            · rw [q] at hul; simp at hul; omega
            · exact q
          have HB7 := Lib.hid (HB6.out.trans (hb7.mono hsz6))
          have HRU := Lib.hid hru
          have HRS := Lib.hid hrs
          have HQ7 := Lib.hid (HQ.out.on HB7.out)
          have hsz7 := HB7.out.size
          subst hv7
          have HUL := Lib.hid hul
          have hul49 : us.length ≤ 49 := by omega
          have hulp : 0 < us.length := by omega
          clear hown7 hb7 hru hrs hul hxl hxp
          go_wp2_with (at_builtin
                       refine app_rowsg rfl (.tmp 41) (.tmp 48) rfl w.heap.size w6.heap.size g cap g7 us.length cap7 vs us rfl HQ7.out.rows rfl HRU.out HRS.out.ones (by omega) (by omega) HQ7.out.bel.size ?_
                       intro v8 w8 hr8 hc8 hg8 hv8
                       obtain ⟨g8, cap8, q8, _⟩ : ∃ g8 cap8, v8 = .slice (some ⟨g8, 0, none⟩) (vs ++ us).length cap8 ∧ True := by
                         rcases hr8.shape with ⟨_, q⟩ | ⟨g', cap', q, _⟩
                         · rw [List.append_eq_nil_iff] at q; rw [q.2] at hulp; simp at hulp
                         · exact ⟨_, _, q, trivial⟩
                       have HQ8 := Lib.hid (HQ.out.app HB7.out (HRS.out.lower hsz6) hr8 hc8 hg8 hv8)
                       subst q8
                       clear hr8 hc8 hg8 hv8)
          go_roundw
          case rel =>
            refine ⟨k + 1, vs ++ us, g8, cap8, by rw [List.length_append], by go_num, by omega, ?_⟩
            have e := pths_part (ss := ss) (P := P) (st := st) (fun x hx => (HPT.out x hx).1) HPL.out hlt own
            rw [← HXE.out] at e
            rw [← e]
            rw [List.length_append] at HQ8
            exact HQ8.out
          case measure => simp [intOf]; omega
        · obtain rfl : k = a := by omega
          have HE : Hid (own :: pths ss ((P.take k).flatten) (nxt k st) = pths ss (c :: r) st) := by
            show _ = _
            rw [HALL.out, List.take_of_length_le (by rw [HPL.out]; exact Nat.le_refl _), HFL.out]
          clear hq hlt
          go_wp2
          go_ret
          exact ⟨_, rfl, (OwnT.mk HQ.out.rows HQ.out.rws).cast HE.out, HQ.out.bel⟩
end Go.Proofs.Ythdpojokogiinaa
