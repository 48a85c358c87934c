/-
  The walk of the law ClauseNames.
-/
import Derived.Test.YtpblpndlajoebaaPlainNames
import Derived.Test.YtpblpndlajoebaaClauseCopyA
import Derived.Test.YtpblpndlajoebaaClauseAgain
import Derived.Test.YtpblpndlajoebaaClauseSame
import Derived.Test.YtpblpndlajoebaaRefMk
import Derived.Deep.DeepCutAuto
namespace Go.Proofs.Ytpblpndlajoebaa
open Go.RowKit Go.Deep
set_option linter.unusedSimpArgs false
set_option linter.unusedVariables false
set_option maxRecDepth 100000

theorem u_mod5 (k : Int) : ∃ z : Nat, z < 5 ∧ (IntKind.u64.wrap k).tmod 5 = (z : Int) := by
  have h1 : 0 ≤ IntKind.u64.wrap k := by
    have : IntKind.u64.wrap k = k % 18446744073709551616 := by rfl
    omega
  have h2 : 0 ≤ (IntKind.u64.wrap k).tmod 5 := Int.tmod_nonneg _ h1
  have h3 : (IntKind.u64.wrap k).tmod 5 < 5 := Int.tmod_lt_of_pos _ (by omega)
  exact ⟨((IntKind.u64.wrap k).tmod 5).toNat, by omega, by omega⟩
theorem u_modn (k : Int) (n : Nat) (hn : 0 < n) (hb : n ≤ 6) : ∃ z : Nat, z < n ∧ (IntKind.u64.wrap k).tmod (IntKind.u64.wrap (n : Int)) = (z : Int) := by
  have h0 : IntKind.u64.wrap (n : Int) = (n : Int) := by
    have : IntKind.u64.wrap (n : Int) = (n : Int) % 18446744073709551616 := by rfl
    omega
  rw [h0]
  have h1 : 0 ≤ IntKind.u64.wrap k := by
    have : IntKind.u64.wrap k = k % 18446744073709551616 := by rfl
    omega
  have h2 : 0 ≤ (IntKind.u64.wrap k).tmod n := Int.tmod_nonneg _ h1
  have h3 : (IntKind.u64.wrap k).tmod n < n := Int.tmod_lt_of_pos _ (by omega)
  exact ⟨((IntKind.u64.wrap k).tmod n).toNat, by omega, by omega⟩
theorem own_empty (w : World) : OwnR (w.alloc (.cells #[] 33)) w.heap.size (.slice (some ⟨w.heap.size, 0, none⟩) 0 0) [] := by
  have := World.ownsRow_lit (base := w.heap.size) (e := 33) (size := 1) w #[] 0 (Nat.le_refl _) (by unfold maxLen; omega) rfl
  simpa [OwnR] using this

theorem store_int_step {w : World} {ops : Array Oper} {o : Oper} {a : Act} {K : Act → World → Prop} {Q : Exit → Act → World → Prop} {E : Prop} (hgd : o.guard = none) (t : TypeId) (p x : Operand) (ho : o.op = .store t p x) (hdst : o.dst = none)
    (g i : Nat) (z : Int) (u : Value) (hp : a.eval p = .pointer (some ⟨g, i, none⟩)) (hx : a.eval x = .int .i64 z) (hcell : w.cell? ⟨g, i, none⟩ = some u) (hfz : w.frozen? ⟨g, i, none⟩ = false) (hi : (Try.prog.info? t).map (·.size) = some 1)
    (h : K a (w.setCell ⟨g, i, none⟩ (.int .i64 z))) : if Region.wanted o (yielded ops a.tmps) = true then Oper.wp Try.prog o a w K Q else E := by
  have hw : Region.wanted o (yielded ops a.tmps) = true := by simp [Region.wanted, hgd]
  rw [if_pos hw]
  have hadd : (⟨g, i, none⟩ : Addr).add 0 = ⟨g, i, none⟩ := by unfold Addr.add; split <;> simp_all
  have hst : (Instr.storeAt t (.pointer (some ⟨g, i, none⟩)) (.int .i64 z)).run Try.prog w = .ok () (w.setCell ⟨g, i, none⟩ (.int .i64 z)) := by
    simp only [Instr.storeAt, Instr.sureAddr, Sem.run_bind, Sem.run_pure, Result.andThen_ok]
    cases hq : Try.prog.info? t with
    | none => simp [hq] at hi
    | some j =>
      have hs : j.size = 1 := by simpa [hq] using hi
      have h1 : (store ((⟨g, i, none⟩ : Addr).add 0) (.int .i64 z)).run Try.prog w = .ok () (w.setCell ⟨g, i, none⟩ (.int .i64 z)) := by
        rw [hadd, run_store Try.prog w _ _ _ rfl, hcell]
        simp [hfz]
      simp [storeVar, sizeOf, typeInfo, hq, Value.cells, hs, storeCells, h1]
  unfold Oper.wp
  simp only [execOp, ho, hp, hx, Sem.run_bind, hst, Result.andThen]
  simp [Oper.upon, hdst, Act.put, h]

theorem OwnLv.at_ {w : World} {base n cap i : Nat} {A : Option Addr} {ls : List Lt} {vs : List Value} (h : OwnLv w base (.slice A n cap) ls vs) (hi : i < n) : ∃ g, A = some ⟨g, 0, none⟩ ∧ w.cell? ⟨g, i * 2, none⟩ = some (.bool (ltAt ls i).neg) ∧ w.cell? ⟨g, i * 2 + 1, none⟩ = some (valAt vs i) := by
  have hn : n = ls.length := by
    obtain ⟨A', c', e⟩ := h.valued
    injection e
  rcases h.2.2 with ⟨_, e⟩ | ⟨g, cap', cur, hv, hg, hc, _⟩
  · omega
  · injection hv with q1 q2 q3
    subst q1
    obtain ⟨k1, k2⟩ := litCells_get ls vs h.1 i (by omega)
    have hh := h.2
    rw [← hn] at hh
    exact ⟨g, rfl, by rw [hh.cellAt (i * 2) (by omega)]; exact k1, by rw [hh.cellAt (i * 2 + 1) (by omega), k2]⟩
theorem names_app {w w9 : World} {b0 G q n1 d1 n2 d2 n3 d3 : Nat} {D1 D2 D3 : Option Addr} {C : Cl} {vs1 vs2 vs3 : List Value} {v9 : Value} {l : Lt}
    (h1 : OwnLv w b0 (.slice D1 n1 d1) C.lits vs1) (h2 : OwnR w b0 (.slice D2 n2 d2) vs2) (h3 : OwnLv w b0 (.slice D3 n3 d3) C.conds vs3) (r1 : Rws w b0 vs1 (C.lits.map Lt.atom)) (r2 : Rws w b0 vs2 C.tups) (r3 : Rws w b0 vs3 (C.conds.map Lt.atom))
    (sep : ∀ g, (Value.slice D1 n1 d1).ownBlock = some g → (Value.slice D3 n3 d3).ownBlock ≠ some g) (hown : OwnLv w9 b0 v9 (C.lits ++ [⟨l.neg, l.atom⟩]) (vs1 ++ [valAt vs1 q])) (hc : Chg [57] b0 w w9) (far : ∀ k, k < w.heap.size → (Value.slice D1 n1 d1).ownBlock ≠ some k → w9.heap[k]? = w.heap[k]?)
    (hG : w.heap[G]? = some (.cells #[.slice D1 n1 d1, .slice D2 n2 d2, .slice D3 n3 d3] 26 (0, 0))) (hb : b0 ≤ G) (hq : q < C.lits.length) (hl : l = ltAt C.lits q) :
    ∃ D L e, v9 = .slice D L e ∧ w9.cell? ⟨G, 0, none⟩ = some (.slice D1 n1 d1) ∧ w9.frozen? ⟨G, 0, none⟩ = false ∧ (w9.setCell ⟨G, 0, none⟩ (.slice D L e)).heap[G]? = some (.cells #[.slice D L e, .slice D2 n2 d2, .slice D3 n3 d3] 26 (0, 0)) ∧
      OwnC (w9.setCell ⟨G, 0, none⟩ (.slice D L e)) b0 (.agg #[.slice D L e, .slice D2 n2 d2, .slice D3 n3 d3]) ⟨C.lits ++ [l], C.tups, C.conds⟩ ∧ Chg [57, 26] b0 w (w9.setCell ⟨G, 0, none⟩ (.slice D L e)) := by
  obtain ⟨D, e, hv⟩ := hown.valued
  obtain ⟨L, hL⟩ : ∃ L, L = (C.lits ++ [(⟨l.neg, l.atom⟩ : Lt)]).length := ⟨_, rfl⟩
  rw [← hL] at hv
  subst hv
  have hb9 := hc.blk _ _ _ _ hG (by decide)
  have cs : Chg [26] G w9 (w9.setCell ⟨G, 0, none⟩ (.slice D L e)) := Chg.set hb9 (Nat.le_refl _) _
  have ra : rowOf (C.lits.map Lt.atom) q = l.atom := by rw [rowOf_atoms hq, hl]
  have h3' : OwnLv w9 b0 (.slice D3 n3 d3) C.conds vs3 := by
    refine ⟨h3.1, h3.2.1, ?_⟩
    rcases h3.2.2 with x | ⟨k, cap, cur, x, hg, hk, rest⟩
    · exact .inl x
    · refine .inr ⟨k, cap, cur, x, hg, ?_, rest⟩
      rw [far k (Array.getElem?_eq_some_iff.1 hk).1 (fun y => sep k y (by rw [x]; rfl))]
      exact hk
  have r1' : Rws w9 b0 (vs1 ++ [valAt vs1 q]) ((C.lits ++ [(⟨l.neg, l.atom⟩ : Lt)]).map Lt.atom) := by
    rw [List.map_append]
    have hi : OwnI w b0 (valAt vs1 q) l.atom := ra ▸ r1.2 q (by rw [List.length_map]; exact hq)
    exact (r1.snoc hi).chg hc (by decide)
  refine ⟨D, L, e, rfl, by rw [cell_of_row _ _ 0 _ _ _ hb9]; rfl, frozen_of_row _ _ _ _ _ hb9, heap_setCell_same _ _ 0 _ _ _ hb9, ⟨_, _, _, rfl, ?_, ?_, ?_⟩, (hc.wide (by simp)).trans ((cs.lower hb).wide (by simp))⟩
  · exact (hown.chg cs (by decide)).own (r1'.chg cs (by decide))
  · exact OwnT.mk ((h2.chg hc (by decide)).chg cs (by decide)) ((r2.chg hc (by decide)).chg cs (by decide))
  · exact (h3'.chg cs (by decide)).own ((r3.chg hc (by decide)).chg cs (by decide))
theorem app_litv_far_at {w : World} {ops : Array Oper} {o : Oper} {a : Act} {K : Act → World → Prop} {Q : Exit → Act → World → Prop} {E : Prop} {d : Tmp} (hgd : o.guard = none) (hd : o.dst = some d) (s x : Operand)
    (ho : o.op = .call { callee := .builtin .append, args := #[s, x], argTypes := #[23, 23] })
    (base : Nat) (v : Value) (ls : List Lt) (vs : List Value) (y : Bool) (t : List Int) (u : Value) (hs : a.eval s = v) (hown : OwnLv w base v ls vs) (hu : u.oneCell' = true) {N : Nat} (hx : a.eval x = .slice (some ⟨N, 0, none⟩) 1 1) (hN : w.heap.size = N)
    (hlen : ls.length + 1 ≤ 4398046511104) (hbase : base ≤ w.heap.size)
    (h : ∀ v' w', OwnLv w' base v' (ls ++ [⟨y, t⟩]) (vs ++ [u]) → Chg [57] base w w' → (∀ k, k < w.heap.size → v.ownBlock ≠ some k → w'.heap[k]? = w.heap[k]?) → K (a.put (some d) v') w') : if Region.wanted o (yielded ops a.tmps) = true then Oper.wp Try.prog o a (w.alloc (.cells #[.bool y, u] 57)) K Q else E :=
  app_litv_far_step hgd s x ho base v ls vs y t u hs hown hu hx hN hlen hbase fun v' w' h1 h2 h3 => by rw [hd]; exact h v' w' h1 h2 h3
set_option maxHeartbeats 8000000 in
theorem clauseNames_walk (haw : AwakeC) (A : Option Addr) (n cp : Nat) (ss : List Sym) (v : Cv) (c : Cl) (by_ kk : Int) (w : World) (h : SymsAt w w.heap.size A n ss) (hn : n ≤ maxLen) (hnc : n ≤ cp) (hc : ClAt w w.heap.size v c) :
    Calls Try.prog 6 #[.slice A n cp, v.val, .int .i64 by_, .int .i64 kk] w fun e w' => e = .returned (.bool true) ∧ Below w.heap.size w w' := by
  have HAW := Lib.hid haw
  have hb0 := below_new w v.obj
  have hx0 := CBox.new hc
  have hs0 := h.on hb0
  have hl1 := hc.lits.len
  have HL1 := Lib.hid hl1
  have HL2 := Lib.hid hc.tups.len
  have HL3 := Lib.hid hc.conds.len
  obtain ⟨z, hz, ez⟩ := u_mod5 by_
  rw [Cv.val_eq]
  have HVE := Lib.hid v.val_eq
  unfold Cv.obj at hb0 hx0 hs0
  have HC := Lib.hid hx0
  have HS := Lib.hid hs0
  have HB0 := Lib.hid hb0
  have EZ := Lib.hid ez
  clear h hc hb0 hx0 hs0 haw hl1 ez
  go_enter Try.func6, Try.ntmps6
  go_wp2_with fail
  refine (HAW.out _).mono ?_
  rintro e w1 ⟨rfl, hb1⟩
  have HB1 := Lib.hid (HB0.out.trans (hb1.mono HB0.out.size))
  replace HC := Lib.hid (HC.out.on hb1)
  replace HS := Lib.hid (HS.out.on hb1)
  clear hb1
  obtain ⟨B, hB⟩ : ∃ B, B = w.heap.size := ⟨_, rfl⟩
  rw [← hB] at HC ⊢
  have HBH := Lib.hid hB
  clear hB
  have p0 := HC.out.c0
  have p1 := HC.out.c1
  have p2 := HC.out.c2
  go_wp2_with fail
  rw [← HVE.out]
  refine (mayC_any A n cp ss v c _ HS.out hn hnc HC.out.cl).mono ?_
  rintro e w2 ⟨rfl, hb2⟩
  have HB2 := Lib.hid (HB1.out.trans (hb2.mono HB1.out.size))
  replace HC := Lib.hid (HC.out.on hb2)
  replace HS := Lib.hid (HS.out.on hb2)
  clear hb2 p0 p1 p2
  have p0 := HC.out.c0
  have p1 := HC.out.c1
  have p2 := HC.out.c2
  cases hm : mayC ss c
  case false =>
    clear hm
    go_wp2
    go_ret
    exact ⟨rfl, HB2.out⟩
  have HM := Lib.hid hm
  have HMC := Lib.hid (mayC_iff.1 hm)
  clear hm
  by_cases hn0 : v.n1 = 0
  · have g0 : ((v.n1 : Int) == 0) = true := by rw [hn0]; rfl
    clear hn0
    go_wp2
    go_ret
    exact ⟨rfl, HB2.out⟩
  have g0 : ((v.n1 : Int) == 0) = false := by simp; omega
  by_cases hn5 : (5 : Int) ≤ (v.n1 : Int)
  · go_wp2
    go_ret
    exact ⟨rfl, HB2.out⟩
  go_wp2_with fail
  rw [← HVE.out]
  refine (varsC_any A n cp ss v c _ HS.out hn hnc HC.out.cl).mono ?_
  rintro e w3 ⟨v3, rfl, hv3, hb3⟩
  have HB3 := Lib.hid (HB2.out.trans (hb3.mono HB2.out.size))
  replace HC := Lib.hid (HC.out.on hb3)
  replace HS := Lib.hid (HS.out.on hb3)
  have hE : clE ss c = 0 := by unfold clE; rw [HM.out]; rfl
  have hV : varsO ss c = varsC c := by unfold varsO; rw [HM.out]; rfl
  rw [hE]
  rw [hV] at hv3
  obtain ⟨VL, hVL⟩ : ∃ VL, VL = (varsC c).length := ⟨_, rfl⟩
  have hvl24 : VL ≤ 24 := by rw [hVL, HMC.out.varsC_length]; exact HMC.out.few
  obtain ⟨A5, c5, hv5, _, hi5⟩ := hv3.intsAt
  rw [← hVL] at hv5 hi5
  subst hv5
  have HV5 := Lib.hid hi5
  have HVL := Lib.hid hVL
  clear hb3 p0 p1 p2 hE hV hv3 hi5 hVL g0
  have ez := EZ.out
  go_upto_region 7 with (fail)
  clear ez
  obtain ⟨sh, hsh⟩ : ∃ sh : Nat, (sh : Int) = 1 + (z : Int) := ⟨1 + z, by omega⟩
  have hsh5 : sh ≤ 5 := by omega
  have hsh1 : 1 ≤ sh := by omega
  rw [← hsh]
  clear hsh EZ
  obtain ⟨y, hy⟩ : ∃ y, y = intAt (varsC c) (VL - 1) := ⟨_, rfl⟩
  have hy0 : 0 < VL → 0 ≤ y ∧ y ≤ 23 := by
    intro hp
    rw [hy]
    have hr : VL = nV c := by rw [HVL.out, HMC.out.varsC_length]
    have hmem : intAt (varsC c) (VL - 1) ∈ varsC c := List.mem_of_getElem? (intAt_get (by rw [← HVL.out]; omega))
    unfold varsC varsN at hmem
    obtain ⟨u, hu, e⟩ := List.mem_map.1 hmem
    have := List.mem_range.1 (List.mem_filter.1 hu).1
    have e' : intAt (varsC c) (VL - 1) = (u : Int) := e.symm
    rw [e']; omega
  go_cut [71] (fun s wx => s = .bool (decide (0 < VL) && decide (23 < y + (sh : Int))) ∧ w3 = wx)
  case first =>
    by_cases hv0 : VL = 0
    · have g1 : decide (0 < VL) = false := decide_eq_false (by omega)
      have G1 := Lib.hid g1
      subst hv0
      clear g1
      go_wp2_with (go_at_call 20; refine (num_any _ _).mono ?_; rintro e w' ⟨rfl, rfl⟩)
      go_meet
      case rel => exact ⟨by rw [G1.out]; rfl, rfl⟩
    · obtain ⟨b, off, hA5, hb, hcc⟩ := HV5.out.at_ (by omega)
      subst hA5
      have c0 := hcc (VL - 1) (by omega)
      dsimp only at c0
      rw [← hy] at c0
      obtain ⟨h0, h23⟩ := hy0 (by omega)
      have G1 : Hid (decide (0 < VL) = true) := decide_eq_true (by omega)
      have e1 : ((VL - 1 : Nat) : Int) = (VL : Int) - 1 := by omega
      have i0 : (0 : Int) ≤ (VL : Int) - 1 := by omega
      have i1 : (0 : Int) < (VL : Int) := by omega
      have e2 : ((VL : Int) - 1).toNat = VL - 1 := by omega
      have HY := Lib.hid hy
      clear hcc hy hy0
      by_cases h3 : 23 < y + (sh : Int)
      · have G2 : Hid (decide (23 < y + (sh : Int)) = true) := decide_eq_true h3
        go_wp2_with (go_at_call 20; refine (num_any _ _).mono ?_; rintro e w' ⟨rfl, rfl⟩)
        go_meet
        case rel => exact ⟨by rw [G1.out, G2.out]; rfl, rfl⟩
      · have G2 : Hid (decide (23 < y + (sh : Int)) = false) := decide_eq_false h3
        go_wp2_with (go_at_call 20; refine (num_any _ _).mono ?_; rintro e w' ⟨rfl, rfl⟩)
        go_meet
        case rel => exact ⟨by rw [G1.out, G2.out]; rfl, rfl⟩
  case rest =>
  obtain ⟨rfl, rfl⟩ := hcut
  cases hbad : (decide (0 < VL) && decide (23 < y + (sh : Int)))
  case true =>
    clear hbad
    go_wp2_with (go_at_call 20; refine (num_any _ _).mono ?_; rintro e w' ⟨rfl, rfl⟩)
    go_ret
    exact ⟨rfl, HB3.out⟩
  have HUP : Hid (0 < (varsC c).length → intAt (varsC c) ((varsC c).length - 1) + (sh : Int) ≤ 23) := by
    show _ → _
    intro hp
    rw [← HVL.out] at hp ⊢
    rw [← hy]
    rw [Bool.and_eq_false_iff, decide_eq_false_iff_not, decide_eq_false_iff_not] at hbad
    omega
  clear hbad hy hy0 HV5 HVL
  have p0 := HC.out.c0
  have p1 := HC.out.c1
  have p2 := HC.out.c2
  go_wp2_with fail
  rw [← HVE.out]
  refine (copyClauseA_any v c _ HC.out.cl).mono ?_
  rintro e w4 ⟨v1, v2, v3, vs1, vs2, vs3, rfl, ho1, ho2, ho3, hrw, hap, hsep, hb4⟩
  have HB4 := Lib.hid (HB3.out.trans (hb4.mono HB3.out.size))
  have HC3 := Lib.hid HC.out
  have HS3 := Lib.hid HS.out
  have HK4 := Lib.hid hb4
  obtain ⟨D1, d1, hd1⟩ := ho1.valued
  obtain ⟨D2, d2, hd2⟩ := ho2.valued
  obtain ⟨D3, d3, hd3⟩ := ho3.valued
  have hlen1 : vs1.length = v.n1 := by rw [ho1.1, HL1.out]
  have hlen3 : vs3.length = v.n3 := by rw [ho3.1, HL3.out]
  have hlen2 : vs2.length = v.n2 := by
    have := hrw.1
    unfold rowsC at this
    simp only [List.length_append, List.length_map] at this
    have e1 := ho1.1
    have e3 := ho3.1
    rw [← HL2.out]; omega
  rw [HL1.out] at hd1
  rw [hlen2] at hd2
  rw [HL3.out] at hd3
  subst hd1 hd2 hd3
  have hthree := hrw.three (c := c) ho1.1 (by rw [hlen2, HL2.out])
  have h6 : v.n1 ≤ 5 ∧ v.n2 ≤ 3 ∧ v.n3 ≤ 3 := ⟨by rw [← HL1.out]; exact HMC.out.nl, by rw [← HL2.out]; exact HMC.out.nt, by rw [← HL3.out]; exact HMC.out.nc⟩
  have HCV : Hid (CVals w4 ⟨D1, v.n1, d1, D2, v.n2, d2, D3, v.n3, d3⟩ vs1 vs2 vs3) :=
    ⟨ho1.lvals hthree.1, ho2.tvals hthree.2.1, ho3.lvals hthree.2.2, ho2.nilcap, by show v.n1 ≤ 6 ∧ v.n2 ≤ 6 ∧ v.n3 ≤ 6; omega⟩
  have H1 := Lib.hid ho1
  have H2 := Lib.hid ho2
  have H3 := Lib.hid ho3
  have HR1 := Lib.hid hthree.1
  have HR2 := Lib.hid hthree.2.1
  have HR3 := Lib.hid hthree.2.2
  have HAP := Lib.hid hap.turn
  have HSEP := Lib.hid hsep
  have N1 := Lib.hid hlen1
  have N2 := Lib.hid hlen2
  have N3 := Lib.hid hlen3
  clear hb4 p0 p1 p2 ho1 ho2 ho3 hrw hap hsep hthree hlen1 hlen2 hlen3
  go_upto_region 10 with (fail)
  obtain ⟨w5, hw5⟩ : ∃ w5, w5 = w4.alloc (.cells #[.slice D1 v.n1 d1, .slice D2 v.n2 d2, .slice D3 v.n3 d3] 26) := ⟨_, rfl⟩
  have hbn5 : Below w4.heap.size w4 w5 := by rw [hw5]; exact below_new w4 _
  have hG : w5.heap[w4.heap.size]? = some (.cells #[.slice D1 v.n1 d1, .slice D2 v.n2 d2, .slice D3 v.n3 d3] 26 (0, 0)) := by rw [hw5]; exact heap_alloc_new w4 _
  rw [← hw5]
  obtain ⟨G, hGG⟩ : ∃ G, G = w4.heap.size := ⟨_, rfl⟩
  rw [← hGG] at hG ⊢
  have hGb : w3.heap.size ≤ G := by rw [hGG]; exact HK4.out.size
  have HK5 := Lib.hid (HK4.out.trans (hbn5.mono HK4.out.size))
  replace HCV := Lib.hid (HCV.out.on hbn5)
  replace H1 := Lib.hid (H1.out.on hbn5)
  replace H2 := Lib.hid (H2.out.on hbn5)
  replace H3 := Lib.hid (H3.out.on hbn5)
  replace HR1 := Lib.hid (HR1.out.on hbn5)
  replace HR2 := Lib.hid (HR2.out.on hbn5)
  replace HR3 := Lib.hid (HR3.out.on hbn5)
  have HGB := Lib.hid hG
  have HBX : Hid (BoxV w5 G ⟨D1, v.n1, d1, D2, v.n2, d2, D3, v.n3, d3⟩) := ⟨(Array.getElem?_eq_some_iff.1 hG).1, by rw [cell_of_row _ _ 0 _ _ _ hG]; rfl, by rw [cell_of_row _ _ 1 _ _ _ hG]; rfl, by rw [cell_of_row _ _ 2 _ _ _ hG]; rfl⟩
  have hO6 := own_empty w5
  have hbn6 := below_new w5 (.cells #[] 33)
  obtain ⟨f1, f2, f3⟩ := h6
  clear hw5 hbn5 hG hGG HC HS HK4
  go_wp2_with fail
  go_loopw [13, 14] (fun q i wr => ∃ k : Nat, i = .int .i64 k ∧ k ≤ v.n1 ∧ OwnR wr w5.heap.size q (vs1.take k) ∧ Below w5.heap.size w5 wr) (fun _ i _ => v.n1 - (intOf i).toNat)
  case atStart => exact ⟨0, rfl, by omega, by simpa using hO6, hbn6⟩
  case round =>
    clear hO6 hbn6
    obtain ⟨k, rfl, hk, hown, hbw⟩ := hrel
    have HBW := Lib.hid hbw
    have HOWN := Lib.hid hown
    have hsz := hbw.size
    have p0 := (HBX.out.on hbw).c0
    dsimp only at p0
    clear hbw hown
    by_cases hlt : k < v.n1
    · obtain ⟨b, off, x, A3, m3, c3, hA, hb, e0, e1, hnx⟩ := (HCV.out.on HBW.out).l.one hlt
      dsimp only at hA
      rw [hA] at p0
      have HNX := Lib.hid hnx
      have hi0 : (0 : Int) ≤ (k : Int) := by omega
      have hi3 : (k : Int) < (v.n1 : Int) := by omega
      have hvl : (vs1.take k).length + 1 ≤ 5864062014634 := by have := N1.out; rw [List.length_take]; omega
      clear hnx hA
      go_wp2_with (at_builtin
                   refine app_rowv rfl (.tmp 85) (.tmp 92) rfl w5.heap.size _ (vs1.take k) _ rfl HOWN.out rfl rfl rfl hvl hsz ?_
                   intro v2 w2 hown2 hc2
                   have HO2 := Lib.hid hown2
                   have HB2 := Lib.hid (HBW.out.trans hc2.bel)
                   clear hown2 hc2)
      go_roundw
      case rel => exact ⟨k + 1, by go_num, by omega, by rw [HNX.out]; exact HO2.out, HB2.out⟩
      case measure => simp [intOf]; omega
    · obtain rfl : k = v.n1 := by omega
      obtain ⟨wA, hwA⟩ : ∃ wA, wA = wr := ⟨_, rfl⟩
      subst hwA
      have HOA : Hid (OwnR wA w5.heap.size u13 vs1) := HOWN.out.cast (List.take_of_length_le (by rw [N1.out]; exact Nat.le_refl _))
      clear HOWN
      go_wp2_with fail
      clear p0
      go_loopw [13, 15] (fun q i wr => ∃ k : Nat, i = .int .i64 k ∧ k ≤ v.n3 ∧ OwnR wr w5.heap.size q (vs1 ++ vs3.take k) ∧ Below w5.heap.size w5 wr) (fun _ i _ => v.n3 - (intOf i).toNat)
      case atStart => exact ⟨0, rfl, by omega, by simpa using HOA.out, HBW.out⟩
      case round =>
        clear HOA HBW
        obtain ⟨k, rfl, hk, hown, hbw⟩ := hrel
        have HBW := Lib.hid hbw
        have HOWN := Lib.hid hown
        have hsz := hbw.size
        have p2 := (HBX.out.on hbw).c2
        have p1 := (HBX.out.on hbw).c1
        dsimp only at p1 p2
        clear hbw hown
        by_cases hlt : k < v.n3
        · obtain ⟨b, off, x, A3, m3, c3, hA, hb, e0, e1, hnx⟩ := (HCV.out.on HBW.out).d.one hlt
          dsimp only at hA
          rw [hA] at p2
          have HNX := Lib.hid hnx
          have hi0 : (0 : Int) ≤ (k : Int) := by omega
          have hi3 : (k : Int) < (v.n3 : Int) := by omega
          have hvl : (vs1 ++ vs3.take k).length + 1 ≤ 5864062014634 := by have := N1.out; have := N3.out; rw [List.length_append, List.length_take]; omega
          clear hnx hA
          go_wp2_with (at_builtin
                       refine app_rowv rfl (.tmp 101) (.tmp 108) rfl w5.heap.size _ (vs1 ++ vs3.take k) _ rfl HOWN.out rfl rfl rfl hvl hsz ?_
                       intro v2 w2 hown2 hc2
                       have HO2 := Lib.hid hown2
                       have HB2 := Lib.hid (HBW.out.trans hc2.bel)
                       clear hown2 hc2)
          go_roundw
          case rel => exact ⟨k + 1, by go_num, by omega, by rw [HNX.out, ← List.append_assoc]; exact HO2.out, HB2.out⟩
          case measure => simp [intOf]; omega
        · obtain rfl : k = v.n3 := by omega
          obtain ⟨wB, hwB⟩ : ∃ wB, wB = wr := ⟨_, rfl⟩
          subst hwB
          have HOA : Hid (OwnR wB w5.heap.size u13 (vs1 ++ vs3)) := HOWN.out.cast (by rw [List.take_of_length_le (by rw [N3.out]; exact Nat.le_refl _)])
          have HTA := Lib.hid (HCV.out.on HBW.out).t
          have HTZ := Lib.hid (HCV.out.z)
          have hvl : (vs1 ++ vs3).length + vs2.length ≤ 5864062014634 := by have := N1.out; have := N2.out; have := N3.out; rw [List.length_append]; omega
          have hlen9 : (vs1 ++ vs3 ++ vs2).length = v.n1 + v.n3 + v.n2 := by rw [List.length_append, List.length_append, N1.out, N2.out, N3.out]
          clear HOWN
          go_wp2_with (at_builtin
                       refine app_rows rfl (.tmp 110) (.tmp 112) rfl w5.heap.size _ (vs1 ++ vs3) vs2 D2 v.n2 d2 rfl HOA.out rfl HTA.out.len HTZ.out (fun hn => ?_) (fun i hi => ?_) hvl hsz ?_
                       · obtain ⟨b, off, e, _, hc⟩ := HTA.out.at_ hn
                         refine ⟨b, off, e, fun i hi => ?_⟩
                         obtain ⟨A', m, c, q1, q2⟩ := hc i hi
                         rw [q2]; exact q1
                       · obtain ⟨b, off, e, _, hc⟩ := HTA.out.at_ (show 0 < v.n2 by omega)
                         obtain ⟨A', m, c, q1, q2⟩ := hc i hi
                         rw [q2]; rfl
                       intro v6 w6 hown6 hc6
                       obtain ⟨A9, c9, hv9⟩ := hown6.valued
                       obtain ⟨m9, hm9⟩ : ∃ m9, m9 = (vs1 ++ vs3 ++ vs2).length := ⟨_, rfl⟩
                       rw [← hm9] at hv9
                       subst hv9
                       have M9 := Lib.hid hm9
                       have hm12 : m9 ≤ 12 := by rw [hm9, hlen9]; omega
                       have HO6 := Lib.hid hown6
                       have HB6 := Lib.hid (HBW.out.trans hc6.bel)
                       clear hown6 hc6 hm9)
          clear p1 p2
          replace H1 := Lib.hid (H1.out.on HB6.out)
          replace H2 := Lib.hid (H2.out.on HB6.out)
          replace H3 := Lib.hid (H3.out.on HB6.out)
          replace HR1 := Lib.hid (HR1.out.on HB6.out)
          replace HR2 := Lib.hid (HR2.out.on HB6.out)
          replace HR3 := Lib.hid (HR3.out.on HB6.out)
          have HK6 := Lib.hid (HK5.out.trans (HB6.out.mono HK5.out.size))
          have hg6 : w6.heap[G]? = some (.cells #[.slice D1 v.n1 d1, .slice D2 v.n2 d2, .slice D3 v.n3 d3] 26 (0, 0)) := by rw [HB6.out.block G (Array.getElem?_eq_some_iff.1 HGB.out).1]; exact HGB.out
          have HG6 := Lib.hid hg6
          have hs65 := HB6.out.size
          have hs53 := HK5.out.size
          obtain ⟨VS, hVS⟩ : ∃ VS, VS = vs1 ++ vs3 ++ vs2 := ⟨_, rfl⟩
          obtain ⟨P, hP⟩ : ∃ P, P = rowsP c := ⟨_, rfl⟩
          obtain ⟨b0, hb0⟩ : ∃ b0, b0 = w3.heap.size := ⟨_, rfl⟩
          have hrw6 : Rws w6 b0 VS P := by rw [hVS, hP, hb0]; exact (HR1.out.append HR3.out).append HR2.out
          have HRF : Hid (RwF w6 b0 VS (mixF (upF sh) P 0 0)) := fun k hk => by
            rw [mixF_zero]; exact hrw6.2 k (by rw [← hrw6.1]; exact hk)
          have H49 : Hid (∀ r ∈ P, r.length ≤ 49) := by rw [hP]; exact fun r hr => HMC.out.small.r r (rowsP_mem hr)
          have H24 : Hid (∀ r ∈ P, ∀ x ∈ r, -24 ≤ x) := by rw [hP]; exact fun r hr => row24 HMC.out (rowsP_mem hr)
          have HPL : Hid (P.length = m9) := by show _ = _; rw [← hrw6.1, hVS, M9.out]
          have HVN : Hid (VS.length = m9) := by show _ = _; rw [hVS, M9.out]
          have HVS := Lib.hid hVS
          have HP := Lib.hid hP
          have HB0' := Lib.hid hb0
          rw [← hVS] at HO6
          have HAP2 : Hid (Apart VS) := by rw [hVS]; exact HAP.out
          have hb06 : b0 ≤ w6.heap.size := by rw [hb0]; exact HK6.out.size
          have hb0G : b0 ≤ G := by rw [hb0]; exact hGb
          clear hrw6 hg6 hVS hP hb0 HBX HCV HTA HTZ HOA HAP hvl hlen9 HGB
          go_loopw [16] (fun i wr => ∃ k : Nat, i = .int .i64 k ∧ k ≤ m9 ∧ RwF wr b0 VS (mixF (upF sh) P k 0) ∧ Chg [3] b0 w6 wr) (fun i _ => m9 - (intOf i).toNat)
          case atStart => exact ⟨0, rfl, by omega, HRF.out, Chg.refl⟩
          case round =>
            clear HRF
            obtain ⟨k, rfl, hk, hrw, hch⟩ := hrel
            have HRW := Lib.hid hrw
            have HCH := Lib.hid hch
            clear hrw hch
            by_cases hlt : k < m9
            · have hkL : k < P.length := by rw [HPL.out]; exact hlt
              have hkv : k < VS.length := by rw [HVN.out]; exact hlt
              have HKL := Lib.hid hkL
              have HKV := Lib.hid hkv
              obtain ⟨g9, cap9, e9, hg9, hgl9, _, _⟩ := (HO6.out.chg HCH.out (by decide)).get hkv
              rw [HVN.out] at e9
              simp only [Value.slice.injEq] at e9
              obtain ⟨rfl, -, -⟩ := e9
              have HGET : Hid (∀ wx, Chg [3] b0 w6 wx → wx.cell? ⟨g9, k, none⟩ = some (valAt VS k)) := fun wx hx => by
                obtain ⟨g', cap', e', _, _, _, hc'⟩ := (HO6.out.chg hx (by decide)).get hkv
                rw [HVN.out] at e'
                simp only [Value.slice.injEq, Option.some.injEq, Addr.mk.injEq] at e'
                obtain ⟨⟨rfl, -, -⟩, -, -⟩ := e'
                exact hc'
              have hown := HRW.out k hkv
              rw [mixF_self, mixR_zero] at hown
              obtain ⟨A2, cap2, hv2⟩ := hown.value
              obtain ⟨m, hm⟩ : ∃ m, (rowOf P k).length = m := ⟨_, rfl⟩
              rw [hm] at hv2
              have HM2 := Lib.hid hm
              have HVK := Lib.hid hv2
              have hm49 : m ≤ 49 := by rw [← hm]; exact H49.out _ (rowOf_mem hkL)
              have hi0 : (0 : Int) ≤ (k : Int) := by omega
              have hi3 : (k : Int) < (m9 : Int) := by omega
              obtain ⟨wC, hwC⟩ : ∃ wC, wC = wr := ⟨_, rfl⟩
              subst hwC
              clear hown hv2 hm hkL hkv hg9 hgl9
              go_wp2_with fail
              go_loopw [17] (fun i wr => ∃ j : Nat, i = .int .i64 j ∧ j ≤ m ∧ RwF wr b0 VS (mixF (upF sh) P k j) ∧ Chg [3] b0 w6 wr) (fun i _ => m - (intOf i).toNat)
              case atStart => exact ⟨0, rfl, by omega, HRW.out, HCH.out⟩
              case round =>
                clear HRW HCH
                obtain ⟨j, rfl, hj, hrw1, hch1⟩ := hrel
                have HRW1 := Lib.hid hrw1
                have HCH1 := Lib.hid hch1
                have c0 := HGET.out _ hch1
                rw [HVK.out] at c0
                clear hrw1 hch1
                by_cases hjt : j < m
                · have hjr : j < (rowOf P k).length := by rw [HM2.out]; exact hjt
                  have hown := HRW1.out k HKV.out
                  rw [mixF_self] at hown
                  obtain ⟨g2, cap3, cur, hv3, hg2, hblk, _⟩ := hown.block (by rw [mixR_len]; omega)
                  rw [HVK.out, mixR_len, HM2.out] at hv3
                  simp only [Value.slice.injEq] at hv3
                  obtain ⟨rfl, -, rfl⟩ := hv3
                  have hcx : wr.cell? ⟨g2, j, none⟩ = some (.int .i64 (intAt (rowOf P k) j)) := by
                    obtain ⟨A', c', e, _, hi⟩ := hown.intsAt
                    rw [HVK.out, mixR_len, HM2.out] at e
                    simp only [Value.slice.injEq] at e
                    obtain ⟨rfl, -, -⟩ := e
                    obtain ⟨b, off, e2, _, hc⟩ := hi.at_ (by rw [mixR_len]; omega)
                    simp only [Option.some.injEq, Addr.mk.injEq] at e2
                    obtain ⟨rfl, rfl, -⟩ := e2
                    have := hc j (by rw [mixR_len]; exact hjr)
                    dsimp only at this
                    rw [mixR_at hjr, Nat.zero_add] at this
                    exact this
                  have hfx : wr.frozen? ⟨g2, j, none⟩ = false := frozen_of_row _ _ _ _ _ hblk
                  have hx24 := H24.out _ (rowOf_mem HKL.out) _ (List.mem_of_getElem? (intAt_get hjr))
                  have HPOS := Lib.hid (fun q => mixR_pos (f := upF sh) hjr q)
                  have HPUT := Lib.hid (fun (z : Int) (hz : z = ren (upF sh) (intAt (rowOf P k) j)) => (HRW1.out.on (Below.refl wr.heap.size wr).drew).put HAP2.out HKV.out hjr HVK.out hz)
                  have HCS : Hid (∀ u, Chg [3] b0 w6 (wr.drew.setCell ⟨g2, j, none⟩ u)) := fun u => ((HCH1.out.then_below (Below.refl w6.heap.size wr).drew hb06).trans (Chg.set (w := wr.drew) hblk hg2 u))
                  have HREN := Lib.hid (fun q => ren_up (s := sh) (x := intAt (rowOf P k) j) q)
                  obtain ⟨x, hx⟩ : ∃ x, x = intAt (rowOf P k) j := ⟨_, rfl⟩
                  rw [← hx] at hcx hx24 HPOS HPUT HREN
                  have hi0' : (0 : Int) ≤ (j : Int) := by omega
                  have hi3' : (j : Int) < (m : Int) := by omega
                  clear hown hblk hjr hx hg2
                  by_cases hx0 : x < 0
                  · have HRN := Lib.hid (HREN.out hx0)
                    have HWR : Hid (IntKind.i64.wrap (x - (sh : Int)) = x - (sh : Int)) := IntWalk.i64_in _ (by omega)
                    have HCX := Lib.hid hcx
                    have HFX := Lib.hid hfx
                    go_wp2_with fail
                    refine wp_region_held_drew (S := (fun w' => w'.cell? ⟨g9, k, none⟩ = some (.slice (some ⟨g2, 0, none⟩) m cap2))) (by kernel_rfl) c0 (fun hHeld => ?_)
                    refine takeH (i := 0) (v := ?_) rfl rfl (by kernel_rfl) (by kernel_rfl) (by kernel_rfl) (fun _ _ _ h => h) (by rfl) ?_ hHeld ?_
                    rotate_left
                    · (intro w hSw; (try dsimp only at hSw); first | (go_simp; done) | (go_simp; with_reducible rfl))
                    simp only [Act.put, List.setIfInBounds_toArray, List.set_cons_zero, List.set_cons_succ]
                    refine takeH (i := 1) (v := ?_) rfl rfl (by kernel_rfl) (by kernel_rfl) (by kernel_rfl) (fun _ _ _ h => h) (by rfl) ?_ hHeld ?_
                    rotate_left
                    · (intro w hSw; (try dsimp only at hSw); first | (go_simp; done) | (go_simp; with_reducible rfl))
                    simp only [Act.put, List.setIfInBounds_toArray, List.set_cons_zero, List.set_cons_succ]
                    refine takeH (i := 2) (v := ?_) rfl rfl (by kernel_rfl) (by kernel_rfl) (by kernel_rfl) (fun _ _ _ h => h) (by rfl) ?_ hHeld ?_
                    rotate_left
                    · (intro w hSw; (try dsimp only at hSw); first | (go_simp; done) | (go_simp; with_reducible rfl))
                    simp only [Act.put, List.setIfInBounds_toArray, List.set_cons_zero, List.set_cons_succ]
                    refine takeH (i := 3) (v := ?_) rfl rfl (by kernel_rfl) (by kernel_rfl) (by kernel_rfl) (fun _ _ _ h => h) (by rfl) ?_ hHeld ?_
                    rotate_left
                    · (intro w hSw; (try dsimp only at hSw); first | (go_simp; done) | (go_simp; with_reducible rfl))
                    simp only [Act.put, List.setIfInBounds_toArray, List.set_cons_zero, List.set_cons_succ]
                    refine takeH (i := 4) (v := ?_) rfl rfl (by kernel_rfl) (by kernel_rfl) (by kernel_rfl) (fun _ _ _ h => h) (by rfl) ?_ hHeld ?_
                    rotate_left
                    · (intro w hSw; (try dsimp only at hSw); first | (go_simp; done) | (go_simp; with_reducible rfl))
                    simp only [Act.put, List.setIfInBounds_toArray, List.set_cons_zero, List.set_cons_succ]
                    refine takeH (i := 5) (v := ?_) rfl rfl (by kernel_rfl) (by kernel_rfl) (by kernel_rfl) (fun _ _ _ h => h) (by rfl) ?_ hHeld ?_
                    rotate_left
                    · (intro w hSw; (try dsimp only at hSw); first | (go_simp; done) | (go_simp; with_reducible rfl))
                    simp only [Act.put, List.setIfInBounds_toArray, List.set_cons_zero, List.set_cons_succ]
                    refine takeH (i := 6) (v := ?_) rfl rfl (by kernel_rfl) (by kernel_rfl) (by kernel_rfl) (fun _ _ _ h => h) (by rfl) ?_ hHeld ?_
                    rotate_left
                    · (intro w hSw; (try dsimp only at hSw); first | (go_simp; done) | (go_simp; with_reducible rfl))
                    simp only [Act.put, List.setIfInBounds_toArray, List.set_cons_zero, List.set_cons_succ]
                    refine takeH (i := 7) (v := ?_) rfl rfl (by kernel_rfl) (by kernel_rfl) (by kernel_rfl) (fun _ _ _ h => h) (by rfl) ?_ hHeld ?_
                    rotate_left
                    · (intro w hSw; (try dsimp only at hSw); first | (go_simp; done) | (go_simp; with_reducible rfl))
                    simp only [Act.put, List.setIfInBounds_toArray, List.set_cons_zero, List.set_cons_succ]
                    refine takeH (i := 8) (v := ?_) rfl rfl (by kernel_rfl) (by kernel_rfl) (by kernel_rfl) (fun _ _ _ h => h) (by rfl) ?_ hHeld ?_
                    rotate_left
                    · (intro w hSw; (try dsimp only at hSw); first | (go_simp; done) | (go_simp; with_reducible rfl))
                    simp only [Act.put, List.setIfInBounds_toArray, List.set_cons_zero, List.set_cons_succ]
                    refine takeH (i := 9) (v := ?_) rfl rfl (by kernel_rfl) (by kernel_rfl) (by kernel_rfl) (fun _ _ _ h => h) (by rfl) ?_ hHeld ?_
                    rotate_left
                    · (intro w hSw; (try dsimp only at hSw); first | (go_simp; done) | (go_simp; with_reducible rfl))
                    simp only [Act.put, List.setIfInBounds_toArray, List.set_cons_zero, List.set_cons_succ]
                    refine takeH (i := 10) (v := ?_) rfl rfl (by kernel_rfl) (by kernel_rfl) (by kernel_rfl) (fun _ _ _ h => h) (by rfl) ?_ hHeld ?_
                    rotate_left
                    · (intro w hSw; (try dsimp only at hSw); first | (go_simp; done) | (go_simp; with_reducible rfl))
                    simp only [Act.put, List.setIfInBounds_toArray, List.set_cons_zero, List.set_cons_succ]
                    refine takeH (i := 12) (v := ?_) rfl rfl (by kernel_rfl) (by kernel_rfl) (by kernel_rfl) (fun _ _ _ h => h) (by rfl) ?_ hHeld ?_
                    rotate_left
                    · (intro w hSw; (try dsimp only at hSw); first | (go_simp; done) | (go_simp; with_reducible rfl))
                    simp only [Act.put, List.setIfInBounds_toArray, List.set_cons_zero, List.set_cons_succ]
                    have hcd : wr.drew.cell? ⟨g2, j, none⟩ = some (.int .i64 x) := HCX.out
                    refine wpAnyH_ready (rs := [11]) (by kernel_rfl) (by simp) ?_
                    refine AllReadyH.cons rfl (fun K hK => ?_) AllReadyH.nil
                    go_simp
                    refine hK.out _ _ ?_ (fun hHeld => ?_)
                    · exact c0
                    clear hK K
                    refine takeH (i := 13) (v := ?_) rfl rfl (by kernel_rfl) (by kernel_rfl) (by kernel_rfl) (fun _ _ _ h => h) (by rfl) ?_ hHeld ?_
                    rotate_left
                    · (intro w hSw; (try dsimp only at hSw); first | (go_simp; done) | (go_simp; with_reducible rfl))
                    simp only [Act.put, List.setIfInBounds_toArray, List.set_cons_zero, List.set_cons_succ]
                    refine takeH (i := 14) (v := ?_) rfl rfl (by kernel_rfl) (by kernel_rfl) (by kernel_rfl) (fun _ _ _ h => h) (by rfl) ?_ hHeld ?_
                    rotate_left
                    · (intro w hSw; (try dsimp only at hSw); first | (go_simp; done) | (go_simp; with_reducible rfl))
                    simp only [Act.put, List.setIfInBounds_toArray, List.set_cons_zero, List.set_cons_succ]
                    rw [HWR.out]
                    refine wpAnyH_ready (rs := [15]) (by kernel_rfl) (by simp) ?_
                    refine AllReadyH.cons rfl (fun K hK => ?_) AllReadyH.nil
                    refine store_int_step rfl 3 (.tmp 151) (.tmp 150) rfl rfl g2 j (x - (sh : Int)) _ rfl rfl hcd HFX.out (by kernel_rfl) ?_
                    refine hK.out _ _ ?_ (fun hHeld => ?_)
                    · have := HGET.out _ (HCS.out (.int .i64 (x - (sh : Int))))
                      rw [HVK.out] at this
                      exact this
                    clear hK K
                    refine wpAnyH_done (by kernel_rfl) ?_ _
                    clear hcd hcx hfx c0
                    go_wp2
                    go_roundw
                    case rel => exact ⟨j + 1, by go_num, by omega, HPUT.out _ HRN.out.symm, HCS.out _⟩
                    case measure => simp [intOf]; omega
                  · have HRW2 : Hid (RwF wr b0 VS (mixF (upF sh) P k (j + 1))) := HRW1.out.same fun k' _ => by
                      by_cases e : k' = k
                      · subst e; rw [mixF_self, mixF_self, HPOS.out hx0]
                      · exact mixF_other e
                    go_wp2
                    go_roundw
                    case rel => exact ⟨j + 1, by go_num, by omega, HRW2.out, HCH1.out⟩
                    case measure => simp [intOf]; omega
                · obtain rfl : j = m := by omega
                  have HRW2 : Hid (RwF wr b0 VS (mixF (upF sh) P (k + 1) 0)) := HRW1.out.same fun k' _ => by rw [← HM2.out]; exact mixF_next
                  go_wp2
                  go_roundw
                  case rel => exact ⟨k + 1, by go_num, by omega, HRW2.out, HCH1.out⟩
                  case measure => simp [intOf]; omega
            · obtain rfl : k = m9 := by omega
              have hrs : Rws wr b0 VS (rowsP (renC (upF sh) c)) := by
                rw [← rowsP_ren, ← HP.out]
                refine ⟨by rw [List.length_map, HPL.out]; exact HVN.out, fun i hi => ?_⟩
                rw [List.length_map] at hi
                have := HRW.out i (by rw [HVN.out, ← HPL.out]; exact hi)
                rw [← HPL.out, mixF_done hi] at this
                exact this
              obtain ⟨C1, hC1⟩ : ∃ C1, C1 = renC (upF sh) c := ⟨_, rfl⟩
              have HC1 := Lib.hid hC1
              rw [← hC1, HVS.out] at hrs
              unfold rowsP at hrs
              have hl1 : C1.lits.length = v.n1 := by rw [hC1]; show (c.lits.map _).length = _; rw [List.length_map, HL1.out]
              have hl3 : C1.conds.length = v.n3 := by rw [hC1]; show (c.conds.map _).length = _; rw [List.length_map, HL3.out]
              have q13 := hrs.left (by rw [List.length_append, List.length_append, List.length_map, List.length_map, N1.out, N3.out, hl1, hl3])
              have HQ2 := Lib.hid (hrs.right (by rw [List.length_append, List.length_append, List.length_map, List.length_map, N1.out, N3.out, hl1, hl3]))
              have HQ1 := Lib.hid (q13.left (by rw [List.length_map, N1.out, hl1]))
              have HQ3 := Lib.hid (q13.right (by rw [List.length_map, N1.out, hl1]))
              have h1' : OwnLv wr b0 (.slice D1 v.n1 d1) C1.lits vs1 := by rw [hC1, HB0'.out]; exact (H1.out.chg HCH.out (by decide)).ren
              have h3' : OwnLv wr b0 (.slice D3 v.n3 d3) C1.conds vs3 := by rw [hC1, HB0'.out]; exact (H3.out.chg HCH.out (by decide)).ren
              have h2' : OwnR wr b0 (.slice D2 v.n2 d2) vs2 := by rw [HB0'.out]; exact H2.out.chg HCH.out (by decide)
              have hg7 := HCH.out.blk _ _ _ _ HG6.out (by decide)
              have hbk : Below b0 w3 wr := by have := HCH.out.bel; rw [HB0'.out] at this ⊢; exact HK6.out.trans this
              have hs7 := HCH.out.bel.size
              have hd := (Below.refl wr.heap.size wr).drew
              replace H1 := Lib.hid (h1'.on hd)
              replace H2 := Lib.hid (h2'.on hd)
              replace H3 := Lib.hid (h3'.on hd)
              replace HQ1 := Lib.hid (HQ1.out.on hd)
              replace HQ2 := Lib.hid (HQ2.out.on hd)
              replace HQ3 := Lib.hid (HQ3.out.on hd)
              have HGY : Hid (wr.drew.heap[G]? = some (.cells #[.slice D1 v.n1 d1, .slice D2 v.n2 d2, .slice D3 v.n3 d3] 26 (0, 0))) := hg7
              have HBY : Hid (Below b0 w3 wr.drew) := hbk.drew
              have hby : b0 ≤ wr.drew.heap.size := by show b0 ≤ wr.heap.size; omega
              have HL1' := Lib.hid hl1
              obtain ⟨q, hq, eq⟩ := u_modn kk v.n1 (by omega) (by omega)
              have hwn : IntKind.u64.wrap (v.n1 : Int) = (v.n1 : Int) := by
                have : IntKind.u64.wrap (v.n1 : Int) = (v.n1 : Int) % 18446744073709551616 := by rfl
                omega
              rw [hwn] at eq
              have EQ := Lib.hid eq
              have HWN := Lib.hid hwn
              have hqc : q < C1.lits.length := by rw [hl1]; exact hq
              obtain ⟨g1, hD1, e0, e1⟩ := H1.out.at_ hq
              obtain ⟨lx, hlx⟩ : ∃ lx, lx = (ltAt C1.lits q).neg := ⟨_, rfl⟩
              obtain ⟨lt, hlt'⟩ : ∃ lt, lt = (ltAt C1.lits q).atom := ⟨_, rfl⟩
              have HLT : Hid ((⟨lx, lt⟩ : Lt) = ltAt C1.lits q) := by show _ = _; rw [hlx, hlt']
              rw [← hlx] at e0
              have hu := HQ1.out.2 q (by rw [List.length_map]; exact hqc)
              obtain ⟨A7, c7, hv7⟩ := hu.value
              obtain ⟨m7, hm7⟩ : ∃ m7, m7 = (rowOf (C1.lits.map Lt.atom) q).length := ⟨_, rfl⟩
              rw [← hm7] at hv7
              have HV7 := Lib.hid hv7
              rw [hv7] at e1
              have p0 : wr.drew.cell? ⟨G, 0, none⟩ = some (.slice D1 v.n1 d1) := by rw [cell_of_row _ _ 0 _ _ _ HGY.out]; rfl
              have p3 : (wr.drew.alloc (.cells #[.bool lx, .slice A7 m7 c7] 57)).cell? ⟨G, 0, none⟩ = some (.slice D1 v.n1 d1) := by
                rw [(below_new wr.drew _).cell (p := ⟨G, 0, none⟩) (Array.getElem?_eq_some_iff.1 HGY.out).1]; exact p0
              subst hD1
              have hvl : C1.lits.length + 1 ≤ 4398046511104 := by omega
              have hi0 : (0 : Int) ≤ (q : Int) := by omega
              have hi3 : (q : Int) < (v.n1 : Int) := by omega
              have hn1 : ¬ (v.n1 : Int) = 0 := by omega
              have hqw : IntKind.i64.wrap (q : Int) = (q : Int) := IntWalk.i64_in _ (by omega)
              have hwz : ¬ IntKind.u64.wrap (v.n1 : Int) = 0 := by rw [hwn]; omega
              clear hrs hC1 q13 h1' h2' h3' hg7 hbk hd hlx hlt' hu hv7 hm7 HRW HCH HR1 HR2 HR3 HG6 hl1 hl3
              go_upto_region 28 with (fail)
              go_cut [] (fun wx => ∃ x : Cv, wx.heap[G]? = some (.cells #[.slice x.A1 x.n1 x.c1, .slice x.A2 x.n2 x.c2, .slice x.A3 x.n3 x.c3] 26 (0, 0)) ∧ OwnC wx b0 x.val ⟨C1.lits ++ [⟨lx, lt⟩], C1.tups, C1.conds⟩ ∧ Chg [57, 26] b0 wr.drew wx)
              case first =>
                go_wp2_with fail
                refine wp_region_held_drew (S := (fun w' => True)) (by kernel_rfl) trivial (fun hHeld => ?_)
                obtain ⟨wY, hwY⟩ : ∃ wY, wY = wr.drew := ⟨_, rfl⟩
                rw [← hwY] at H1 H2 H3 HQ1 HQ2 HQ3 HGY hby e0 e1 p0 p3 ⊢
                have HWY := Lib.hid hwY
                clear hwY
                refine takeH (i := 0) (v := ?_) rfl rfl (by kernel_rfl) (by kernel_rfl) (by kernel_rfl) (fun _ _ _ h => h) (by rfl) ?_ hHeld ?_
                rotate_left
                · (intro w hSw; (try dsimp only at hSw); first | (go_simp; done) | (go_simp; with_reducible rfl))
                simp only [Act.put, List.setIfInBounds_toArray, List.set_cons_zero, List.set_cons_succ]
                refine takeH (i := 2) (v := ?_) rfl rfl (by kernel_rfl) (by kernel_rfl) (by kernel_rfl) (fun _ _ _ h => h) (by rfl) ?_ hHeld ?_
                rotate_left
                · (intro w hSw; (try dsimp only at hSw); first | (go_simp; done) | (go_simp; with_reducible rfl))
                simp only [Act.put, List.setIfInBounds_toArray, List.set_cons_zero, List.set_cons_succ]
                refine takeH (i := 4) (v := ?_) rfl rfl (by kernel_rfl) (by kernel_rfl) (by kernel_rfl) (fun _ _ _ h => h) (by rfl) ?_ hHeld ?_
                rotate_left
                · (intro w hSw; (try dsimp only at hSw); first | (go_simp; done) | (go_simp; with_reducible rfl))
                simp only [Act.put, List.setIfInBounds_toArray, List.set_cons_zero, List.set_cons_succ]
                refine takeH (i := 5) (v := ?_) rfl rfl (by kernel_rfl) (by kernel_rfl) (by kernel_rfl) (fun _ _ _ h => h) (by rfl) ?_ hHeld ?_
                rotate_left
                · (intro w hSw; (try dsimp only at hSw); first | (go_simp; done) | (go_simp; with_reducible rfl))
                simp only [Act.put, List.setIfInBounds_toArray, List.set_cons_zero, List.set_cons_succ]
                refine takeH (i := 6) (v := ?_) rfl rfl (by kernel_rfl) (by kernel_rfl) (by kernel_rfl) (fun _ _ _ h => h) (by rfl) ?_ hHeld ?_
                rotate_left
                · (intro w hSw; (try dsimp only at hSw); first | (go_simp; done) | (go_simp; with_reducible rfl))
                simp only [Act.put, List.setIfInBounds_toArray, List.set_cons_zero, List.set_cons_succ]
                refine wpAnyH_ready (rs := [1, 3, 7]) (by kernel_rfl) (by simp) ?_
                refine AllReadyH.cons rfl (fun K hK => ?_) (AllReadyH.cons rfl (fun K hK => ?_) (AllReadyH.cons rfl (fun K hK => ?_) AllReadyH.nil))
                · go_simp
                  refine hK.out _ _ ?_ (fun hHeld => ?_)
                  · trivial
                  clear hK K
                  refine wpAnyH_ready (rs := [3, 7]) (by kernel_rfl) (by simp) ?_
                  refine AllReadyH.cons rfl (fun K hK => ?_) (AllReadyH.cons rfl (fun K hK => ?_) AllReadyH.nil)
                  · go_simp
                    refine hK.out _ _ ?_ (fun hHeld => ?_)
                    · trivial
                    clear hK K
                    refine wpAnyH_ready (rs := [7]) (by kernel_rfl) (by simp) ?_
                    refine AllReadyH.cons rfl (fun K hK => ?_) AllReadyH.nil
                    go_simp
                    refine hK.out _ _ ?_ (fun hHeld => ?_)
                    · trivial
                    clear hK K
                    refine takeH (i := 8) (v := ?_) rfl rfl (by kernel_rfl) (by kernel_rfl) (by kernel_rfl) (fun _ _ _ h => h) (by rfl) ?_ hHeld ?_
                    rotate_left
                    · (intro w hSw; (try dsimp only at hSw); first | (go_simp; done) | (go_simp; with_reducible rfl))
                    simp only [Act.put, List.setIfInBounds_toArray, List.set_cons_zero, List.set_cons_succ]
                    refine takeH (i := 9) (v := ?_) rfl rfl (by kernel_rfl) (by kernel_rfl) (by kernel_rfl) (fun _ _ _ h => h) (by rfl) ?_ hHeld ?_
                    rotate_left
                    · (intro w hSw; (try dsimp only at hSw); first | (go_simp; done) | (go_simp; with_reducible rfl))
                    simp only [Act.put, List.setIfInBounds_toArray, List.set_cons_zero, List.set_cons_succ]
                    refine takeH (i := 10) (v := ?_) rfl rfl (by kernel_rfl) (by kernel_rfl) (by kernel_rfl) (fun _ _ _ h => h) (by rfl) ?_ hHeld ?_
                    rotate_left
                    · (intro w hSw; (try dsimp only at hSw); first | (go_simp; done) | (go_simp; with_reducible rfl))
                    simp only [Act.put, List.setIfInBounds_toArray, List.set_cons_zero, List.set_cons_succ]
                    refine takeH (i := 11) (v := ?_) rfl rfl (by kernel_rfl) (by kernel_rfl) (by kernel_rfl) (fun _ _ _ h => h) (by rfl) ?_ hHeld ?_
                    rotate_left
                    · (intro w hSw; (try dsimp only at hSw); first | (go_simp; done) | (go_simp; with_reducible rfl))
                    simp only [Act.put, List.setIfInBounds_toArray, List.set_cons_zero, List.set_cons_succ]
                    skip
                    refine takeH (i := 12) (v := ?_) rfl rfl (by kernel_rfl) (by kernel_rfl) (by kernel_rfl) (fun _ _ _ h => h) (by rfl) ?_ hHeld ?_
                    rotate_left
                    · (intro w hSw; (try dsimp only at hSw); first | (go_simp; done) | (go_simp; with_reducible rfl))
                    simp only [Act.put, List.setIfInBounds_toArray, List.set_cons_zero, List.set_cons_succ]
                    refine wpAnyH_ready (rs := [13]) (by kernel_rfl) (by simp) ?_
                    refine AllReadyH.cons rfl (fun K hK => ?_) AllReadyH.nil
                    go_simp
                    refine hK.out _ _ ?_ (fun hHeld => ?_)
                    · trivial
                    clear hK K
                    refine wpAnyH_ready (rs := [14]) (by kernel_rfl) (by simp) ?_
                    refine AllReadyH.cons rfl (fun K hK => ?_) AllReadyH.nil
                    go_simp
                    refine hK.out _ _ ?_ (fun hHeld => ?_)
                    · trivial
                    clear hK K
                    refine wpAnyH_ready (rs := [15]) (by kernel_rfl) (by simp) ?_
                    refine AllReadyH.cons rfl (fun K hK => ?_) AllReadyH.nil
                    refine app_litv_far_at rfl rfl (.tmp 153) (.tmp 166) rfl b0 _ C1.lits vs1 lx lt _ rfl H1.out rfl rfl rfl hvl hby ?_
                    intro v9 w9 hown9 hc9 hfar9
                    simp only [Act.put, List.setIfInBounds_toArray, List.set_cons_zero, List.set_cons_succ]
                    rw [← HV7.out] at hown9
                    obtain ⟨D, L9, e9, rfl, b8, b9, hg9, ho9, hch9⟩ := names_app H1.out H2.out H3.out HQ1.out HQ2.out HQ3.out HSEP.out hown9 hc9 hfar9 HGY.out hb0G hqc HLT.out
                    have HO9 := Lib.hid ho9
                    have HG9 := Lib.hid hg9
                    have HCH9 := Lib.hid hch9
                    clear hown9 hc9 hfar9 hg9 ho9 hch9
                    refine hK.out _ _ ?_ (fun hHeld => ?_)
                    · trivial
                    clear hK K
                    refine takeH (i := 16) (v := ?_) rfl rfl (by kernel_rfl) (by kernel_rfl) (by kernel_rfl) (fun _ _ _ h => h) (by rfl) ?_ hHeld ?_
                    rotate_left
                    · (intro w hSw; (try dsimp only at hSw); first | (go_simp; done) | (go_simp; with_reducible rfl))
                    simp only [Act.put, List.setIfInBounds_toArray, List.set_cons_zero, List.set_cons_succ]
                    refine wpAnyH_ready (rs := [17]) (by kernel_rfl) (by simp) ?_
                    refine AllReadyH.cons rfl (fun K hK => ?_) AllReadyH.nil
                    refine store_slice_step rfl 23 (.tmp 168) (.tmp 167) rfl rfl G 0 D L9 e9 _ rfl rfl b8 b9 (by kernel_rfl) ?_
                    refine hK.out _ _ ?_ (fun hHeld => ?_)
                    · trivial
                    clear hK K
                    refine wpAnyH_done (by kernel_rfl) ?_ _
                    go_wp2
                    go_meet
                    case rel => exact ⟨⟨D, L9, e9, D2, v.n2, d2, D3, v.n3, d3⟩, HG9.out, HO9.out, by first | exact HCH9.out | (rw [← HWY.out]; exact HCH9.out)⟩
                  · go_simp
                    refine hK.out _ _ ?_ (fun hHeld => ?_)
                    · trivial
                    clear hK K
                    refine takeH (i := 8) (v := ?_) rfl rfl (by kernel_rfl) (by kernel_rfl) (by kernel_rfl) (fun _ _ _ h => h) (by rfl) ?_ hHeld ?_
                    rotate_left
                    · (intro w hSw; (try dsimp only at hSw); first | (go_simp; done) | (go_simp; with_reducible rfl))
                    simp only [Act.put, List.setIfInBounds_toArray, List.set_cons_zero, List.set_cons_succ]
                    refine takeH (i := 9) (v := ?_) rfl rfl (by kernel_rfl) (by kernel_rfl) (by kernel_rfl) (fun _ _ _ h => h) (by rfl) ?_ hHeld ?_
                    rotate_left
                    · (intro w hSw; (try dsimp only at hSw); first | (go_simp; done) | (go_simp; with_reducible rfl))
                    simp only [Act.put, List.setIfInBounds_toArray, List.set_cons_zero, List.set_cons_succ]
                    refine takeH (i := 10) (v := ?_) rfl rfl (by kernel_rfl) (by kernel_rfl) (by kernel_rfl) (fun _ _ _ h => h) (by rfl) ?_ hHeld ?_
                    rotate_left
                    · (intro w hSw; (try dsimp only at hSw); first | (go_simp; done) | (go_simp; with_reducible rfl))
                    simp only [Act.put, List.setIfInBounds_toArray, List.set_cons_zero, List.set_cons_succ]
                    refine takeH (i := 11) (v := ?_) rfl rfl (by kernel_rfl) (by kernel_rfl) (by kernel_rfl) (fun _ _ _ h => h) (by rfl) ?_ hHeld ?_
                    rotate_left
                    · (intro w hSw; (try dsimp only at hSw); first | (go_simp; done) | (go_simp; with_reducible rfl))
                    simp only [Act.put, List.setIfInBounds_toArray, List.set_cons_zero, List.set_cons_succ]
                    refine wpAnyH_ready (rs := [3]) (by kernel_rfl) (by simp) ?_
                    refine AllReadyH.cons rfl (fun K hK => ?_) AllReadyH.nil
                    go_simp
                    refine hK.out _ _ ?_ (fun hHeld => ?_)
                    · trivial
                    clear hK K
                    skip
                    refine takeH (i := 12) (v := ?_) rfl rfl (by kernel_rfl) (by kernel_rfl) (by kernel_rfl) (fun _ _ _ h => h) (by rfl) ?_ hHeld ?_
                    rotate_left
                    · (intro w hSw; (try dsimp only at hSw); first | (go_simp; done) | (go_simp; with_reducible rfl))
                    simp only [Act.put, List.setIfInBounds_toArray, List.set_cons_zero, List.set_cons_succ]
                    refine wpAnyH_ready (rs := [13]) (by kernel_rfl) (by simp) ?_
                    refine AllReadyH.cons rfl (fun K hK => ?_) AllReadyH.nil
                    go_simp
                    refine hK.out _ _ ?_ (fun hHeld => ?_)
                    · trivial
                    clear hK K
                    refine wpAnyH_ready (rs := [14]) (by kernel_rfl) (by simp) ?_
                    refine AllReadyH.cons rfl (fun K hK => ?_) AllReadyH.nil
                    go_simp
                    refine hK.out _ _ ?_ (fun hHeld => ?_)
                    · trivial
                    clear hK K
                    refine wpAnyH_ready (rs := [15]) (by kernel_rfl) (by simp) ?_
                    refine AllReadyH.cons rfl (fun K hK => ?_) AllReadyH.nil
                    refine app_litv_far_at rfl rfl (.tmp 153) (.tmp 166) rfl b0 _ C1.lits vs1 lx lt _ rfl H1.out rfl rfl rfl hvl hby ?_
                    intro v9 w9 hown9 hc9 hfar9
                    simp only [Act.put, List.setIfInBounds_toArray, List.set_cons_zero, List.set_cons_succ]
                    rw [← HV7.out] at hown9
                    obtain ⟨D, L9, e9, rfl, b8, b9, hg9, ho9, hch9⟩ := names_app H1.out H2.out H3.out HQ1.out HQ2.out HQ3.out HSEP.out hown9 hc9 hfar9 HGY.out hb0G hqc HLT.out
                    have HO9 := Lib.hid ho9
                    have HG9 := Lib.hid hg9
                    have HCH9 := Lib.hid hch9
                    clear hown9 hc9 hfar9 hg9 ho9 hch9
                    refine hK.out _ _ ?_ (fun hHeld => ?_)
                    · trivial
                    clear hK K
                    refine takeH (i := 16) (v := ?_) rfl rfl (by kernel_rfl) (by kernel_rfl) (by kernel_rfl) (fun _ _ _ h => h) (by rfl) ?_ hHeld ?_
                    rotate_left
                    · (intro w hSw; (try dsimp only at hSw); first | (go_simp; done) | (go_simp; with_reducible rfl))
                    simp only [Act.put, List.setIfInBounds_toArray, List.set_cons_zero, List.set_cons_succ]
                    refine wpAnyH_ready (rs := [17]) (by kernel_rfl) (by simp) ?_
                    refine AllReadyH.cons rfl (fun K hK => ?_) AllReadyH.nil
                    refine store_slice_step rfl 23 (.tmp 168) (.tmp 167) rfl rfl G 0 D L9 e9 _ rfl rfl b8 b9 (by kernel_rfl) ?_
                    refine hK.out _ _ ?_ (fun hHeld => ?_)
                    · trivial
                    clear hK K
                    refine wpAnyH_done (by kernel_rfl) ?_ _
                    go_wp2
                    go_meet
                    case rel => exact ⟨⟨D, L9, e9, D2, v.n2, d2, D3, v.n3, d3⟩, HG9.out, HO9.out, by first | exact HCH9.out | (rw [← HWY.out]; exact HCH9.out)⟩
                · go_simp
                  refine hK.out _ _ ?_ (fun hHeld => ?_)
                  · trivial
                  clear hK K
                  refine wpAnyH_ready (rs := [1, 7]) (by kernel_rfl) (by simp) ?_
                  refine AllReadyH.cons rfl (fun K hK => ?_) (AllReadyH.cons rfl (fun K hK => ?_) AllReadyH.nil)
                  · go_simp
                    refine hK.out _ _ ?_ (fun hHeld => ?_)
                    · trivial
                    clear hK K
                    refine wpAnyH_ready (rs := [7]) (by kernel_rfl) (by simp) ?_
                    refine AllReadyH.cons rfl (fun K hK => ?_) AllReadyH.nil
                    go_simp
                    refine hK.out _ _ ?_ (fun hHeld => ?_)
                    · trivial
                    clear hK K
                    refine takeH (i := 8) (v := ?_) rfl rfl (by kernel_rfl) (by kernel_rfl) (by kernel_rfl) (fun _ _ _ h => h) (by rfl) ?_ hHeld ?_
                    rotate_left
                    · (intro w hSw; (try dsimp only at hSw); first | (go_simp; done) | (go_simp; with_reducible rfl))
                    simp only [Act.put, List.setIfInBounds_toArray, List.set_cons_zero, List.set_cons_succ]
                    refine takeH (i := 9) (v := ?_) rfl rfl (by kernel_rfl) (by kernel_rfl) (by kernel_rfl) (fun _ _ _ h => h) (by rfl) ?_ hHeld ?_
                    rotate_left
                    · (intro w hSw; (try dsimp only at hSw); first | (go_simp; done) | (go_simp; with_reducible rfl))
                    simp only [Act.put, List.setIfInBounds_toArray, List.set_cons_zero, List.set_cons_succ]
                    refine takeH (i := 10) (v := ?_) rfl rfl (by kernel_rfl) (by kernel_rfl) (by kernel_rfl) (fun _ _ _ h => h) (by rfl) ?_ hHeld ?_
                    rotate_left
                    · (intro w hSw; (try dsimp only at hSw); first | (go_simp; done) | (go_simp; with_reducible rfl))
                    simp only [Act.put, List.setIfInBounds_toArray, List.set_cons_zero, List.set_cons_succ]
                    refine takeH (i := 11) (v := ?_) rfl rfl (by kernel_rfl) (by kernel_rfl) (by kernel_rfl) (fun _ _ _ h => h) (by rfl) ?_ hHeld ?_
                    rotate_left
                    · (intro w hSw; (try dsimp only at hSw); first | (go_simp; done) | (go_simp; with_reducible rfl))
                    simp only [Act.put, List.setIfInBounds_toArray, List.set_cons_zero, List.set_cons_succ]
                    skip
                    refine takeH (i := 12) (v := ?_) rfl rfl (by kernel_rfl) (by kernel_rfl) (by kernel_rfl) (fun _ _ _ h => h) (by rfl) ?_ hHeld ?_
                    rotate_left
                    · (intro w hSw; (try dsimp only at hSw); first | (go_simp; done) | (go_simp; with_reducible rfl))
                    simp only [Act.put, List.setIfInBounds_toArray, List.set_cons_zero, List.set_cons_succ]
                    refine wpAnyH_ready (rs := [13]) (by kernel_rfl) (by simp) ?_
                    refine AllReadyH.cons rfl (fun K hK => ?_) AllReadyH.nil
                    go_simp
                    refine hK.out _ _ ?_ (fun hHeld => ?_)
                    · trivial
                    clear hK K
                    refine wpAnyH_ready (rs := [14]) (by kernel_rfl) (by simp) ?_
                    refine AllReadyH.cons rfl (fun K hK => ?_) AllReadyH.nil
                    go_simp
                    refine hK.out _ _ ?_ (fun hHeld => ?_)
                    · trivial
                    clear hK K
                    refine wpAnyH_ready (rs := [15]) (by kernel_rfl) (by simp) ?_
                    refine AllReadyH.cons rfl (fun K hK => ?_) AllReadyH.nil
                    refine app_litv_far_at rfl rfl (.tmp 153) (.tmp 166) rfl b0 _ C1.lits vs1 lx lt _ rfl H1.out rfl rfl rfl hvl hby ?_
                    intro v9 w9 hown9 hc9 hfar9
                    simp only [Act.put, List.setIfInBounds_toArray, List.set_cons_zero, List.set_cons_succ]
                    rw [← HV7.out] at hown9
                    obtain ⟨D, L9, e9, rfl, b8, b9, hg9, ho9, hch9⟩ := names_app H1.out H2.out H3.out HQ1.out HQ2.out HQ3.out HSEP.out hown9 hc9 hfar9 HGY.out hb0G hqc HLT.out
                    have HO9 := Lib.hid ho9
                    have HG9 := Lib.hid hg9
                    have HCH9 := Lib.hid hch9
                    clear hown9 hc9 hfar9 hg9 ho9 hch9
                    refine hK.out _ _ ?_ (fun hHeld => ?_)
                    · trivial
                    clear hK K
                    refine takeH (i := 16) (v := ?_) rfl rfl (by kernel_rfl) (by kernel_rfl) (by kernel_rfl) (fun _ _ _ h => h) (by rfl) ?_ hHeld ?_
                    rotate_left
                    · (intro w hSw; (try dsimp only at hSw); first | (go_simp; done) | (go_simp; with_reducible rfl))
                    simp only [Act.put, List.setIfInBounds_toArray, List.set_cons_zero, List.set_cons_succ]
                    refine wpAnyH_ready (rs := [17]) (by kernel_rfl) (by simp) ?_
                    refine AllReadyH.cons rfl (fun K hK => ?_) AllReadyH.nil
                    refine store_slice_step rfl 23 (.tmp 168) (.tmp 167) rfl rfl G 0 D L9 e9 _ rfl rfl b8 b9 (by kernel_rfl) ?_
                    refine hK.out _ _ ?_ (fun hHeld => ?_)
                    · trivial
                    clear hK K
                    refine wpAnyH_done (by kernel_rfl) ?_ _
                    go_wp2
                    go_meet
                    case rel => exact ⟨⟨D, L9, e9, D2, v.n2, d2, D3, v.n3, d3⟩, HG9.out, HO9.out, by first | exact HCH9.out | (rw [← HWY.out]; exact HCH9.out)⟩
                  · go_simp
                    refine hK.out _ _ ?_ (fun hHeld => ?_)
                    · trivial
                    clear hK K
                    refine takeH (i := 8) (v := ?_) rfl rfl (by kernel_rfl) (by kernel_rfl) (by kernel_rfl) (fun _ _ _ h => h) (by rfl) ?_ hHeld ?_
                    rotate_left
                    · (intro w hSw; (try dsimp only at hSw); first | (go_simp; done) | (go_simp; with_reducible rfl))
                    simp only [Act.put, List.setIfInBounds_toArray, List.set_cons_zero, List.set_cons_succ]
                    refine takeH (i := 9) (v := ?_) rfl rfl (by kernel_rfl) (by kernel_rfl) (by kernel_rfl) (fun _ _ _ h => h) (by rfl) ?_ hHeld ?_
                    rotate_left
                    · (intro w hSw; (try dsimp only at hSw); first | (go_simp; done) | (go_simp; with_reducible rfl))
                    simp only [Act.put, List.setIfInBounds_toArray, List.set_cons_zero, List.set_cons_succ]
                    refine takeH (i := 10) (v := ?_) rfl rfl (by kernel_rfl) (by kernel_rfl) (by kernel_rfl) (fun _ _ _ h => h) (by rfl) ?_ hHeld ?_
                    rotate_left
                    · (intro w hSw; (try dsimp only at hSw); first | (go_simp; done) | (go_simp; with_reducible rfl))
                    simp only [Act.put, List.setIfInBounds_toArray, List.set_cons_zero, List.set_cons_succ]
                    refine takeH (i := 11) (v := ?_) rfl rfl (by kernel_rfl) (by kernel_rfl) (by kernel_rfl) (fun _ _ _ h => h) (by rfl) ?_ hHeld ?_
                    rotate_left
                    · (intro w hSw; (try dsimp only at hSw); first | (go_simp; done) | (go_simp; with_reducible rfl))
                    simp only [Act.put, List.setIfInBounds_toArray, List.set_cons_zero, List.set_cons_succ]
                    skip
                    refine takeH (i := 12) (v := ?_) rfl rfl (by kernel_rfl) (by kernel_rfl) (by kernel_rfl) (fun _ _ _ h => h) (by rfl) ?_ hHeld ?_
                    rotate_left
                    · (intro w hSw; (try dsimp only at hSw); first | (go_simp; done) | (go_simp; with_reducible rfl))
                    simp only [Act.put, List.setIfInBounds_toArray, List.set_cons_zero, List.set_cons_succ]
                    refine wpAnyH_ready (rs := [1, 13]) (by kernel_rfl) (by simp) ?_
                    refine AllReadyH.cons rfl (fun K hK => ?_) (AllReadyH.cons rfl (fun K hK => ?_) AllReadyH.nil)
                    · go_simp
                      refine hK.out _ _ ?_ (fun hHeld => ?_)
                      · trivial
                      clear hK K
                      refine wpAnyH_ready (rs := [13]) (by kernel_rfl) (by simp) ?_
                      refine AllReadyH.cons rfl (fun K hK => ?_) AllReadyH.nil
                      go_simp
                      refine hK.out _ _ ?_ (fun hHeld => ?_)
                      · trivial
                      clear hK K
                      refine wpAnyH_ready (rs := [14]) (by kernel_rfl) (by simp) ?_
                      refine AllReadyH.cons rfl (fun K hK => ?_) AllReadyH.nil
                      go_simp
                      refine hK.out _ _ ?_ (fun hHeld => ?_)
                      · trivial
                      clear hK K
                      refine wpAnyH_ready (rs := [15]) (by kernel_rfl) (by simp) ?_
                      refine AllReadyH.cons rfl (fun K hK => ?_) AllReadyH.nil
                      refine app_litv_far_at rfl rfl (.tmp 153) (.tmp 166) rfl b0 _ C1.lits vs1 lx lt _ rfl H1.out rfl rfl rfl hvl hby ?_
                      intro v9 w9 hown9 hc9 hfar9
                      simp only [Act.put, List.setIfInBounds_toArray, List.set_cons_zero, List.set_cons_succ]
                      rw [← HV7.out] at hown9
                      obtain ⟨D, L9, e9, rfl, b8, b9, hg9, ho9, hch9⟩ := names_app H1.out H2.out H3.out HQ1.out HQ2.out HQ3.out HSEP.out hown9 hc9 hfar9 HGY.out hb0G hqc HLT.out
                      have HO9 := Lib.hid ho9
                      have HG9 := Lib.hid hg9
                      have HCH9 := Lib.hid hch9
                      clear hown9 hc9 hfar9 hg9 ho9 hch9
                      refine hK.out _ _ ?_ (fun hHeld => ?_)
                      · trivial
                      clear hK K
                      refine takeH (i := 16) (v := ?_) rfl rfl (by kernel_rfl) (by kernel_rfl) (by kernel_rfl) (fun _ _ _ h => h) (by rfl) ?_ hHeld ?_
                      rotate_left
                      · (intro w hSw; (try dsimp only at hSw); first | (go_simp; done) | (go_simp; with_reducible rfl))
                      simp only [Act.put, List.setIfInBounds_toArray, List.set_cons_zero, List.set_cons_succ]
                      refine wpAnyH_ready (rs := [17]) (by kernel_rfl) (by simp) ?_
                      refine AllReadyH.cons rfl (fun K hK => ?_) AllReadyH.nil
                      refine store_slice_step rfl 23 (.tmp 168) (.tmp 167) rfl rfl G 0 D L9 e9 _ rfl rfl b8 b9 (by kernel_rfl) ?_
                      refine hK.out _ _ ?_ (fun hHeld => ?_)
                      · trivial
                      clear hK K
                      refine wpAnyH_done (by kernel_rfl) ?_ _
                      go_wp2
                      go_meet
                      case rel => exact ⟨⟨D, L9, e9, D2, v.n2, d2, D3, v.n3, d3⟩, HG9.out, HO9.out, by first | exact HCH9.out | (rw [← HWY.out]; exact HCH9.out)⟩
                    · go_simp
                      refine hK.out _ _ ?_ (fun hHeld => ?_)
                      · trivial
                      clear hK K
                      refine wpAnyH_ready (rs := [1, 14]) (by kernel_rfl) (by simp) ?_
                      refine AllReadyH.cons rfl (fun K hK => ?_) (AllReadyH.cons rfl (fun K hK => ?_) AllReadyH.nil)
                      · go_simp
                        refine hK.out _ _ ?_ (fun hHeld => ?_)
                        · trivial
                        clear hK K
                        refine wpAnyH_ready (rs := [14]) (by kernel_rfl) (by simp) ?_
                        refine AllReadyH.cons rfl (fun K hK => ?_) AllReadyH.nil
                        go_simp
                        refine hK.out _ _ ?_ (fun hHeld => ?_)
                        · trivial
                        clear hK K
                        refine wpAnyH_ready (rs := [15]) (by kernel_rfl) (by simp) ?_
                        refine AllReadyH.cons rfl (fun K hK => ?_) AllReadyH.nil
                        refine app_litv_far_at rfl rfl (.tmp 153) (.tmp 166) rfl b0 _ C1.lits vs1 lx lt _ rfl H1.out rfl rfl rfl hvl hby ?_
                        intro v9 w9 hown9 hc9 hfar9
                        simp only [Act.put, List.setIfInBounds_toArray, List.set_cons_zero, List.set_cons_succ]
                        rw [← HV7.out] at hown9
                        obtain ⟨D, L9, e9, rfl, b8, b9, hg9, ho9, hch9⟩ := names_app H1.out H2.out H3.out HQ1.out HQ2.out HQ3.out HSEP.out hown9 hc9 hfar9 HGY.out hb0G hqc HLT.out
                        have HO9 := Lib.hid ho9
                        have HG9 := Lib.hid hg9
                        have HCH9 := Lib.hid hch9
                        clear hown9 hc9 hfar9 hg9 ho9 hch9
                        refine hK.out _ _ ?_ (fun hHeld => ?_)
                        · trivial
                        clear hK K
                        refine takeH (i := 16) (v := ?_) rfl rfl (by kernel_rfl) (by kernel_rfl) (by kernel_rfl) (fun _ _ _ h => h) (by rfl) ?_ hHeld ?_
                        rotate_left
                        · (intro w hSw; (try dsimp only at hSw); first | (go_simp; done) | (go_simp; with_reducible rfl))
                        simp only [Act.put, List.setIfInBounds_toArray, List.set_cons_zero, List.set_cons_succ]
                        refine wpAnyH_ready (rs := [17]) (by kernel_rfl) (by simp) ?_
                        refine AllReadyH.cons rfl (fun K hK => ?_) AllReadyH.nil
                        refine store_slice_step rfl 23 (.tmp 168) (.tmp 167) rfl rfl G 0 D L9 e9 _ rfl rfl b8 b9 (by kernel_rfl) ?_
                        refine hK.out _ _ ?_ (fun hHeld => ?_)
                        · trivial
                        clear hK K
                        refine wpAnyH_done (by kernel_rfl) ?_ _
                        go_wp2
                        go_meet
                        case rel => exact ⟨⟨D, L9, e9, D2, v.n2, d2, D3, v.n3, d3⟩, HG9.out, HO9.out, by first | exact HCH9.out | (rw [← HWY.out]; exact HCH9.out)⟩
                      · go_simp
                        refine hK.out _ _ ?_ (fun hHeld => ?_)
                        · trivial
                        clear hK K
                        refine wpAnyH_ready (rs := [1]) (by kernel_rfl) (by simp) ?_
                        refine AllReadyH.cons rfl (fun K hK => ?_) AllReadyH.nil
                        go_simp
                        refine hK.out _ _ ?_ (fun hHeld => ?_)
                        · trivial
                        clear hK K
                        refine wpAnyH_ready (rs := [15]) (by kernel_rfl) (by simp) ?_
                        refine AllReadyH.cons rfl (fun K hK => ?_) AllReadyH.nil
                        refine app_litv_far_at rfl rfl (.tmp 153) (.tmp 166) rfl b0 _ C1.lits vs1 lx lt _ rfl H1.out rfl rfl rfl hvl hby ?_
                        intro v9 w9 hown9 hc9 hfar9
                        simp only [Act.put, List.setIfInBounds_toArray, List.set_cons_zero, List.set_cons_succ]
                        rw [← HV7.out] at hown9
                        obtain ⟨D, L9, e9, rfl, b8, b9, hg9, ho9, hch9⟩ := names_app H1.out H2.out H3.out HQ1.out HQ2.out HQ3.out HSEP.out hown9 hc9 hfar9 HGY.out hb0G hqc HLT.out
                        have HO9 := Lib.hid ho9
                        have HG9 := Lib.hid hg9
                        have HCH9 := Lib.hid hch9
                        clear hown9 hc9 hfar9 hg9 ho9 hch9
                        refine hK.out _ _ ?_ (fun hHeld => ?_)
                        · trivial
                        clear hK K
                        refine takeH (i := 16) (v := ?_) rfl rfl (by kernel_rfl) (by kernel_rfl) (by kernel_rfl) (fun _ _ _ h => h) (by rfl) ?_ hHeld ?_
                        rotate_left
                        · (intro w hSw; (try dsimp only at hSw); first | (go_simp; done) | (go_simp; with_reducible rfl))
                        simp only [Act.put, List.setIfInBounds_toArray, List.set_cons_zero, List.set_cons_succ]
                        refine wpAnyH_ready (rs := [17]) (by kernel_rfl) (by simp) ?_
                        refine AllReadyH.cons rfl (fun K hK => ?_) AllReadyH.nil
                        refine store_slice_step rfl 23 (.tmp 168) (.tmp 167) rfl rfl G 0 D L9 e9 _ rfl rfl b8 b9 (by kernel_rfl) ?_
                        refine hK.out _ _ ?_ (fun hHeld => ?_)
                        · trivial
                        clear hK K
                        refine wpAnyH_done (by kernel_rfl) ?_ _
                        go_wp2
                        go_meet
                        case rel => exact ⟨⟨D, L9, e9, D2, v.n2, d2, D3, v.n3, d3⟩, HG9.out, HO9.out, by first | exact HCH9.out | (rw [← HWY.out]; exact HCH9.out)⟩
                · go_simp
                  refine hK.out _ _ ?_ (fun hHeld => ?_)
                  · trivial
                  clear hK K
                  refine takeH (i := 8) (v := ?_) rfl rfl (by kernel_rfl) (by kernel_rfl) (by kernel_rfl) (fun _ _ _ h => h) (by rfl) ?_ hHeld ?_
                  rotate_left
                  · (intro w hSw; (try dsimp only at hSw); first | (go_simp; done) | (go_simp; with_reducible rfl))
                  simp only [Act.put, List.setIfInBounds_toArray, List.set_cons_zero, List.set_cons_succ]
                  refine takeH (i := 9) (v := ?_) rfl rfl (by kernel_rfl) (by kernel_rfl) (by kernel_rfl) (fun _ _ _ h => h) (by rfl) ?_ hHeld ?_
                  rotate_left
                  · (intro w hSw; (try dsimp only at hSw); first | (go_simp; done) | (go_simp; with_reducible rfl))
                  simp only [Act.put, List.setIfInBounds_toArray, List.set_cons_zero, List.set_cons_succ]
                  refine takeH (i := 10) (v := ?_) rfl rfl (by kernel_rfl) (by kernel_rfl) (by kernel_rfl) (fun _ _ _ h => h) (by rfl) ?_ hHeld ?_
                  rotate_left
                  · (intro w hSw; (try dsimp only at hSw); first | (go_simp; done) | (go_simp; with_reducible rfl))
                  simp only [Act.put, List.setIfInBounds_toArray, List.set_cons_zero, List.set_cons_succ]
                  refine takeH (i := 11) (v := ?_) rfl rfl (by kernel_rfl) (by kernel_rfl) (by kernel_rfl) (fun _ _ _ h => h) (by rfl) ?_ hHeld ?_
                  rotate_left
                  · (intro w hSw; (try dsimp only at hSw); first | (go_simp; done) | (go_simp; with_reducible rfl))
                  simp only [Act.put, List.setIfInBounds_toArray, List.set_cons_zero, List.set_cons_succ]
                  refine wpAnyH_ready (rs := [1, 3]) (by kernel_rfl) (by simp) ?_
                  refine AllReadyH.cons rfl (fun K hK => ?_) (AllReadyH.cons rfl (fun K hK => ?_) AllReadyH.nil)
                  · go_simp
                    refine hK.out _ _ ?_ (fun hHeld => ?_)
                    · trivial
                    clear hK K
                    refine wpAnyH_ready (rs := [3]) (by kernel_rfl) (by simp) ?_
                    refine AllReadyH.cons rfl (fun K hK => ?_) AllReadyH.nil
                    go_simp
                    refine hK.out _ _ ?_ (fun hHeld => ?_)
                    · trivial
                    clear hK K
                    skip
                    refine takeH (i := 12) (v := ?_) rfl rfl (by kernel_rfl) (by kernel_rfl) (by kernel_rfl) (fun _ _ _ h => h) (by rfl) ?_ hHeld ?_
                    rotate_left
                    · (intro w hSw; (try dsimp only at hSw); first | (go_simp; done) | (go_simp; with_reducible rfl))
                    simp only [Act.put, List.setIfInBounds_toArray, List.set_cons_zero, List.set_cons_succ]
                    refine wpAnyH_ready (rs := [13]) (by kernel_rfl) (by simp) ?_
                    refine AllReadyH.cons rfl (fun K hK => ?_) AllReadyH.nil
                    go_simp
                    refine hK.out _ _ ?_ (fun hHeld => ?_)
                    · trivial
                    clear hK K
                    refine wpAnyH_ready (rs := [14]) (by kernel_rfl) (by simp) ?_
                    refine AllReadyH.cons rfl (fun K hK => ?_) AllReadyH.nil
                    go_simp
                    refine hK.out _ _ ?_ (fun hHeld => ?_)
                    · trivial
                    clear hK K
                    refine wpAnyH_ready (rs := [15]) (by kernel_rfl) (by simp) ?_
                    refine AllReadyH.cons rfl (fun K hK => ?_) AllReadyH.nil
                    refine app_litv_far_at rfl rfl (.tmp 153) (.tmp 166) rfl b0 _ C1.lits vs1 lx lt _ rfl H1.out rfl rfl rfl hvl hby ?_
                    intro v9 w9 hown9 hc9 hfar9
                    simp only [Act.put, List.setIfInBounds_toArray, List.set_cons_zero, List.set_cons_succ]
                    rw [← HV7.out] at hown9
                    obtain ⟨D, L9, e9, rfl, b8, b9, hg9, ho9, hch9⟩ := names_app H1.out H2.out H3.out HQ1.out HQ2.out HQ3.out HSEP.out hown9 hc9 hfar9 HGY.out hb0G hqc HLT.out
                    have HO9 := Lib.hid ho9
                    have HG9 := Lib.hid hg9
                    have HCH9 := Lib.hid hch9
                    clear hown9 hc9 hfar9 hg9 ho9 hch9
                    refine hK.out _ _ ?_ (fun hHeld => ?_)
                    · trivial
                    clear hK K
                    refine takeH (i := 16) (v := ?_) rfl rfl (by kernel_rfl) (by kernel_rfl) (by kernel_rfl) (fun _ _ _ h => h) (by rfl) ?_ hHeld ?_
                    rotate_left
                    · (intro w hSw; (try dsimp only at hSw); first | (go_simp; done) | (go_simp; with_reducible rfl))
                    simp only [Act.put, List.setIfInBounds_toArray, List.set_cons_zero, List.set_cons_succ]
                    refine wpAnyH_ready (rs := [17]) (by kernel_rfl) (by simp) ?_
                    refine AllReadyH.cons rfl (fun K hK => ?_) AllReadyH.nil
                    refine store_slice_step rfl 23 (.tmp 168) (.tmp 167) rfl rfl G 0 D L9 e9 _ rfl rfl b8 b9 (by kernel_rfl) ?_
                    refine hK.out _ _ ?_ (fun hHeld => ?_)
                    · trivial
                    clear hK K
                    refine wpAnyH_done (by kernel_rfl) ?_ _
                    go_wp2
                    go_meet
                    case rel => exact ⟨⟨D, L9, e9, D2, v.n2, d2, D3, v.n3, d3⟩, HG9.out, HO9.out, by first | exact HCH9.out | (rw [← HWY.out]; exact HCH9.out)⟩
                  · go_simp
                    refine hK.out _ _ ?_ (fun hHeld => ?_)
                    · trivial
                    clear hK K
                    skip
                    refine takeH (i := 12) (v := ?_) rfl rfl (by kernel_rfl) (by kernel_rfl) (by kernel_rfl) (fun _ _ _ h => h) (by rfl) ?_ hHeld ?_
                    rotate_left
                    · (intro w hSw; (try dsimp only at hSw); first | (go_simp; done) | (go_simp; with_reducible rfl))
                    simp only [Act.put, List.setIfInBounds_toArray, List.set_cons_zero, List.set_cons_succ]
                    refine wpAnyH_ready (rs := [1, 13]) (by kernel_rfl) (by simp) ?_
                    refine AllReadyH.cons rfl (fun K hK => ?_) (AllReadyH.cons rfl (fun K hK => ?_) AllReadyH.nil)
                    · go_simp
                      refine hK.out _ _ ?_ (fun hHeld => ?_)
                      · trivial
                      clear hK K
                      refine wpAnyH_ready (rs := [13]) (by kernel_rfl) (by simp) ?_
                      refine AllReadyH.cons rfl (fun K hK => ?_) AllReadyH.nil
                      go_simp
                      refine hK.out _ _ ?_ (fun hHeld => ?_)
                      · trivial
                      clear hK K
                      refine wpAnyH_ready (rs := [14]) (by kernel_rfl) (by simp) ?_
                      refine AllReadyH.cons rfl (fun K hK => ?_) AllReadyH.nil
                      go_simp
                      refine hK.out _ _ ?_ (fun hHeld => ?_)
                      · trivial
                      clear hK K
                      refine wpAnyH_ready (rs := [15]) (by kernel_rfl) (by simp) ?_
                      refine AllReadyH.cons rfl (fun K hK => ?_) AllReadyH.nil
                      refine app_litv_far_at rfl rfl (.tmp 153) (.tmp 166) rfl b0 _ C1.lits vs1 lx lt _ rfl H1.out rfl rfl rfl hvl hby ?_
                      intro v9 w9 hown9 hc9 hfar9
                      simp only [Act.put, List.setIfInBounds_toArray, List.set_cons_zero, List.set_cons_succ]
                      rw [← HV7.out] at hown9
                      obtain ⟨D, L9, e9, rfl, b8, b9, hg9, ho9, hch9⟩ := names_app H1.out H2.out H3.out HQ1.out HQ2.out HQ3.out HSEP.out hown9 hc9 hfar9 HGY.out hb0G hqc HLT.out
                      have HO9 := Lib.hid ho9
                      have HG9 := Lib.hid hg9
                      have HCH9 := Lib.hid hch9
                      clear hown9 hc9 hfar9 hg9 ho9 hch9
                      refine hK.out _ _ ?_ (fun hHeld => ?_)
                      · trivial
                      clear hK K
                      refine takeH (i := 16) (v := ?_) rfl rfl (by kernel_rfl) (by kernel_rfl) (by kernel_rfl) (fun _ _ _ h => h) (by rfl) ?_ hHeld ?_
                      rotate_left
                      · (intro w hSw; (try dsimp only at hSw); first | (go_simp; done) | (go_simp; with_reducible rfl))
                      simp only [Act.put, List.setIfInBounds_toArray, List.set_cons_zero, List.set_cons_succ]
                      refine wpAnyH_ready (rs := [17]) (by kernel_rfl) (by simp) ?_
                      refine AllReadyH.cons rfl (fun K hK => ?_) AllReadyH.nil
                      refine store_slice_step rfl 23 (.tmp 168) (.tmp 167) rfl rfl G 0 D L9 e9 _ rfl rfl b8 b9 (by kernel_rfl) ?_
                      refine hK.out _ _ ?_ (fun hHeld => ?_)
                      · trivial
                      clear hK K
                      refine wpAnyH_done (by kernel_rfl) ?_ _
                      go_wp2
                      go_meet
                      case rel => exact ⟨⟨D, L9, e9, D2, v.n2, d2, D3, v.n3, d3⟩, HG9.out, HO9.out, by first | exact HCH9.out | (rw [← HWY.out]; exact HCH9.out)⟩
                    · go_simp
                      refine hK.out _ _ ?_ (fun hHeld => ?_)
                      · trivial
                      clear hK K
                      refine wpAnyH_ready (rs := [1, 14]) (by kernel_rfl) (by simp) ?_
                      refine AllReadyH.cons rfl (fun K hK => ?_) (AllReadyH.cons rfl (fun K hK => ?_) AllReadyH.nil)
                      · go_simp
                        refine hK.out _ _ ?_ (fun hHeld => ?_)
                        · trivial
                        clear hK K
                        refine wpAnyH_ready (rs := [14]) (by kernel_rfl) (by simp) ?_
                        refine AllReadyH.cons rfl (fun K hK => ?_) AllReadyH.nil
                        go_simp
                        refine hK.out _ _ ?_ (fun hHeld => ?_)
                        · trivial
                        clear hK K
                        refine wpAnyH_ready (rs := [15]) (by kernel_rfl) (by simp) ?_
                        refine AllReadyH.cons rfl (fun K hK => ?_) AllReadyH.nil
                        refine app_litv_far_at rfl rfl (.tmp 153) (.tmp 166) rfl b0 _ C1.lits vs1 lx lt _ rfl H1.out rfl rfl rfl hvl hby ?_
                        intro v9 w9 hown9 hc9 hfar9
                        simp only [Act.put, List.setIfInBounds_toArray, List.set_cons_zero, List.set_cons_succ]
                        rw [← HV7.out] at hown9
                        obtain ⟨D, L9, e9, rfl, b8, b9, hg9, ho9, hch9⟩ := names_app H1.out H2.out H3.out HQ1.out HQ2.out HQ3.out HSEP.out hown9 hc9 hfar9 HGY.out hb0G hqc HLT.out
                        have HO9 := Lib.hid ho9
                        have HG9 := Lib.hid hg9
                        have HCH9 := Lib.hid hch9
                        clear hown9 hc9 hfar9 hg9 ho9 hch9
                        refine hK.out _ _ ?_ (fun hHeld => ?_)
                        · trivial
                        clear hK K
                        refine takeH (i := 16) (v := ?_) rfl rfl (by kernel_rfl) (by kernel_rfl) (by kernel_rfl) (fun _ _ _ h => h) (by rfl) ?_ hHeld ?_
                        rotate_left
                        · (intro w hSw; (try dsimp only at hSw); first | (go_simp; done) | (go_simp; with_reducible rfl))
                        simp only [Act.put, List.setIfInBounds_toArray, List.set_cons_zero, List.set_cons_succ]
                        refine wpAnyH_ready (rs := [17]) (by kernel_rfl) (by simp) ?_
                        refine AllReadyH.cons rfl (fun K hK => ?_) AllReadyH.nil
                        refine store_slice_step rfl 23 (.tmp 168) (.tmp 167) rfl rfl G 0 D L9 e9 _ rfl rfl b8 b9 (by kernel_rfl) ?_
                        refine hK.out _ _ ?_ (fun hHeld => ?_)
                        · trivial
                        clear hK K
                        refine wpAnyH_done (by kernel_rfl) ?_ _
                        go_wp2
                        go_meet
                        case rel => exact ⟨⟨D, L9, e9, D2, v.n2, d2, D3, v.n3, d3⟩, HG9.out, HO9.out, by first | exact HCH9.out | (rw [← HWY.out]; exact HCH9.out)⟩
                      · go_simp
                        refine hK.out _ _ ?_ (fun hHeld => ?_)
                        · trivial
                        clear hK K
                        refine wpAnyH_ready (rs := [1]) (by kernel_rfl) (by simp) ?_
                        refine AllReadyH.cons rfl (fun K hK => ?_) AllReadyH.nil
                        go_simp
                        refine hK.out _ _ ?_ (fun hHeld => ?_)
                        · trivial
                        clear hK K
                        refine wpAnyH_ready (rs := [15]) (by kernel_rfl) (by simp) ?_
                        refine AllReadyH.cons rfl (fun K hK => ?_) AllReadyH.nil
                        refine app_litv_far_at rfl rfl (.tmp 153) (.tmp 166) rfl b0 _ C1.lits vs1 lx lt _ rfl H1.out rfl rfl rfl hvl hby ?_
                        intro v9 w9 hown9 hc9 hfar9
                        simp only [Act.put, List.setIfInBounds_toArray, List.set_cons_zero, List.set_cons_succ]
                        rw [← HV7.out] at hown9
                        obtain ⟨D, L9, e9, rfl, b8, b9, hg9, ho9, hch9⟩ := names_app H1.out H2.out H3.out HQ1.out HQ2.out HQ3.out HSEP.out hown9 hc9 hfar9 HGY.out hb0G hqc HLT.out
                        have HO9 := Lib.hid ho9
                        have HG9 := Lib.hid hg9
                        have HCH9 := Lib.hid hch9
                        clear hown9 hc9 hfar9 hg9 ho9 hch9
                        refine hK.out _ _ ?_ (fun hHeld => ?_)
                        · trivial
                        clear hK K
                        refine takeH (i := 16) (v := ?_) rfl rfl (by kernel_rfl) (by kernel_rfl) (by kernel_rfl) (fun _ _ _ h => h) (by rfl) ?_ hHeld ?_
                        rotate_left
                        · (intro w hSw; (try dsimp only at hSw); first | (go_simp; done) | (go_simp; with_reducible rfl))
                        simp only [Act.put, List.setIfInBounds_toArray, List.set_cons_zero, List.set_cons_succ]
                        refine wpAnyH_ready (rs := [17]) (by kernel_rfl) (by simp) ?_
                        refine AllReadyH.cons rfl (fun K hK => ?_) AllReadyH.nil
                        refine store_slice_step rfl 23 (.tmp 168) (.tmp 167) rfl rfl G 0 D L9 e9 _ rfl rfl b8 b9 (by kernel_rfl) ?_
                        refine hK.out _ _ ?_ (fun hHeld => ?_)
                        · trivial
                        clear hK K
                        refine wpAnyH_done (by kernel_rfl) ?_ _
                        go_wp2
                        go_meet
                        case rel => exact ⟨⟨D, L9, e9, D2, v.n2, d2, D3, v.n3, d3⟩, HG9.out, HO9.out, by first | exact HCH9.out | (rw [← HWY.out]; exact HCH9.out)⟩
              case rest =>
                obtain ⟨x, hgx, hox, hcx⟩ := hcut
                have hlmem : (⟨lx, lt⟩ : Lt) ∈ (renC (upF sh) c).lits := by rw [HLT.out, ← HC1.out]; exact ltAt_mem hqc
                have hfit := up_fit HMC.out hlmem
                have hnorm := norm_up hlmem
                rw [HC1.out] at hox
                obtain ⟨C2, hC2⟩ : ∃ C2 : Cl, C2 = ⟨(renC (upF sh) c).lits ++ [⟨lx, lt⟩], (renC (upF sh) c).tups, (renC (upF sh) c).conds⟩ := ⟨_, rfl⟩
                rw [← hC2] at hox hfit hnorm
                obtain ⟨x', hx', hcl⟩ := hox.clAt hfit
                have e' : x = x' := by
                  rw [Cv.val_eq, Cv.val_eq] at hx'
                  simp only [Value.agg.injEq, Array.mk.injEq, List.cons.injEq, Value.slice.injEq, and_true] at hx'
                  cases x; cases x'
                  simp_all
                subst e'
                have HD : Hid (CBox wc G x C2) := ⟨(Array.getElem?_eq_some_iff.1 hgx).1, by rw [cell_of_row _ _ 0 _ _ _ hgx]; rfl, by rw [cell_of_row _ _ 1 _ _ _ hgx]; rfl, by rw [cell_of_row _ _ 2 _ _ _ hgx]; rfl, hcl⟩
                have hkc : Below w3.heap.size w3 wc := by have := HBY.out.trans hcx.bel; rw [HB0'.out] at this; exact this
                have HC := Lib.hid (HC3.out.on hkc)
                have HS := Lib.hid (HS3.out.on hkc)
                have HBc := Lib.hid (HB3.out.trans (hkc.mono HB3.out.size))
                have HNORM := Lib.hid hnorm
                have HXE := Lib.hid x.val_eq
                have HFN := Lib.hid HMC.out.normal.fit
                have EN : Hid (normO ss c = norm c) := by show _ = _; unfold normO; rw [HM.out]; rfl
                have EE : Hid (clE ss c = 0) := by show _ = _; unfold clE; rw [HM.out]; rfl
                clear hgx hox hcx hlmem hfit hnorm hC2 hx' hcl hkc p0 p3 e0 e1 H1 H2 H3 HQ1 HQ2 HQ3 HC3 HS3 HBY HGY EQ HWN eq hwn hwz hqw
                obtain ⟨wD, hwD⟩ : ∃ wD, wD = wc := ⟨_, rfl⟩
                subst hwD
                have q0 := HD.out.c0
                have q1 := HD.out.c1
                have q2 := HD.out.c2
                go_wp2_with fail
                rw [← HXE.out]
                refine (mayC_any A n cp ss x C2 _ HS.out hn hnc HD.out.cl).mono ?_
                rintro e z1 ⟨rfl, hbz1⟩
                have HZ1 := Lib.hid (HBc.out.trans (hbz1.mono HBc.out.size))
                replace HC := Lib.hid (HC.out.on hbz1)
                replace HS := Lib.hid (HS.out.on hbz1)
                replace HD := Lib.hid (HD.out.on hbz1)
                clear hbz1 q0 q1 q2
                cases hm2 : mayC ss C2
                case false =>
                  clear hm2
                  go_wp2
                  go_ret
                  exact ⟨rfl, HZ1.out⟩
                have EN2 : Hid (normO ss C2 = norm c) := by show _ = _; unfold normO; rw [hm2, if_pos rfl, HNORM.out]
                have EE2 : Hid (clE ss C2 = 0) := by show _ = _; unfold clE; rw [hm2]; rfl
                have EV : Hid (varB ss C2 c = true) := by show _ = _; unfold varB; rw [hm2, HM.out, HNORM.out]; simp [sameC]
                have EV2 : Hid (clE2 ss C2 c = 0) := by show _ = _; unfold clE2; rw [hm2, HM.out]; rfl
                clear hm2
                have p0 := HC.out.c0
                have p1 := HC.out.c1
                have p2 := HC.out.c2
                go_wp2_with fail
                rw [← HVE.out]
                refine (normalC_any A n cp ss v c _ HS.out hn hnc HC.out.cl).mono ?_
                rintro e z2 ⟨y0, rfl, hx, hbz2⟩
                rw [EN.out] at hx
                rw [EE.out]
                have HZ2 := Lib.hid (HZ1.out.trans (hbz2.mono HZ1.out.size))
                replace HC := Lib.hid (HC.out.on hbz2)
                replace HS := Lib.hid (HS.out.on hbz2)
                replace HD := Lib.hid (HD.out.on hbz2)
                obtain ⟨y, rfl, hxc⟩ := hx.clAt HFN.out
                rw [Cv.val_eq y]
                have HYE := Lib.hid y.val_eq
                have hbn := below_new z2 (.cells #[.slice y.A1 y.n1 y.c1, .slice y.A2 y.n2 y.c2, .slice y.A3 y.n3 y.c3] 26)
                have HEb : Hid (CBox (z2.alloc (.cells #[.slice y.A1 y.n1 y.c1, .slice y.A2 y.n2 y.c2, .slice y.A3 y.n3 y.c3] 26)) z2.heap.size y (norm c)) := CBox.new hxc
                have HZ3 := Lib.hid (HZ2.out.trans (hbn.mono HZ2.out.size))
                replace HC := Lib.hid (HC.out.on hbn)
                replace HS := Lib.hid (HS.out.on hbn)
                replace HD := Lib.hid (HD.out.on hbn)
                clear hbz2 hx hxc hbn p0 p1 p2
                have q0 := HD.out.c0
                have q1 := HD.out.c1
                have q2 := HD.out.c2
                go_wp2_with fail
                clear q0 q1 q2
                obtain ⟨z3, hz3⟩ : ∃ z3, z3 = z2.alloc (.cells #[.slice y.A1 y.n1 y.c1, .slice y.A2 y.n2 y.c2, .slice y.A3 y.n3 y.c3] 26) := ⟨_, rfl⟩
                rw [← hz3] at HC HS HD HEb HZ3 ⊢
                obtain ⟨G2, hG2⟩ : ∃ G2, G2 = z2.heap.size := ⟨_, rfl⟩
                rw [← hG2] at HEb ⊢
                clear hz3 hG2
                rw [← HXE.out]
                refine (normalC_any A n cp ss x C2 _ HS.out hn hnc HD.out.cl).mono ?_
                rintro e z4 ⟨y0, rfl, hx, hbz4⟩
                rw [EN2.out] at hx
                rw [EE2.out]
                have HZ4 := Lib.hid (HZ3.out.trans (hbz4.mono HZ3.out.size))
                replace HC := Lib.hid (HC.out.on hbz4)
                replace HS := Lib.hid (HS.out.on hbz4)
                replace HD := Lib.hid (HD.out.on hbz4)
                replace HEb := Lib.hid (HEb.out.on hbz4)
                obtain ⟨t, rfl, hxc⟩ := hx.clAt HFN.out
                rw [Cv.val_eq t]
                have HTE := Lib.hid t.val_eq
                have hbn := below_new z4 (.cells #[.slice t.A1 t.n1 t.c1, .slice t.A2 t.n2 t.c2, .slice t.A3 t.n3 t.c3] 26)
                have HFb : Hid (CBox (z4.alloc (.cells #[.slice t.A1 t.n1 t.c1, .slice t.A2 t.n2 t.c2, .slice t.A3 t.n3 t.c3] 26)) z4.heap.size t (norm c)) := CBox.new hxc
                have HZ5 := Lib.hid (HZ4.out.trans (hbn.mono HZ4.out.size))
                replace HC := Lib.hid (HC.out.on hbn)
                replace HS := Lib.hid (HS.out.on hbn)
                replace HD := Lib.hid (HD.out.on hbn)
                replace HEb := Lib.hid (HEb.out.on hbn)
                clear hbz4 hx hxc hbn
                have p0 := HC.out.c0
                have p1 := HC.out.c1
                have p2 := HC.out.c2
                have q0 := HD.out.c0
                have q1 := HD.out.c1
                have q2 := HD.out.c2
                go_wp2_with fail
                clear p0 p1 p2 q0 q1 q2
                obtain ⟨z5, hz5⟩ : ∃ z5, z5 = z4.alloc (.cells #[.slice t.A1 t.n1 t.c1, .slice t.A2 t.n2 t.c2, .slice t.A3 t.n3 t.c3] 26) := ⟨_, rfl⟩
                rw [← hz5] at HC HS HD HEb HFb HZ5 ⊢
                obtain ⟨G3, hG3⟩ : ∃ G3, G3 = z4.heap.size := ⟨_, rfl⟩
                rw [← hG3] at HFb ⊢
                clear hz5 hG3
                rw [← HXE.out, ← HVE.out]
                refine (variantC_any A n cp ss x v C2 c _ HS.out hn hnc HD.out.cl HC.out.cl).mono ?_
                rintro e z6 ⟨rfl, hbz6⟩
                rw [EV.out, EV2.out]
                have HZ6 := Lib.hid (HZ5.out.trans (hbz6.mono HZ5.out.size))
                replace HEb := Lib.hid (HEb.out.on hbz6)
                replace HFb := Lib.hid (HFb.out.on hbz6)
                clear hbz6
                have r0 := HEb.out.c0
                have r1 := HEb.out.c1
                have r2 := HEb.out.c2
                have s0 := HFb.out.c0
                have s1 := HFb.out.c1
                have s2 := HFb.out.c2
                go_wp2_with (go_at_call 20; refine (num_any _ _).mono ?_; rintro e w' ⟨rfl, rfl⟩)
                rw [← HYE.out, ← HTE.out]
                refine (sameClause_true y t (norm c) _ HEb.out.cl HFb.out.cl).mono ?_
                rintro e z8 ⟨rfl, hbz8⟩
                have HZ8 := Lib.hid (HZ6.out.trans (hbz8.mono HZ6.out.size))
                clear hbz8 r0 r1 r2 s0 s1 s2
                go_wp2_with (go_at_call 20; refine (num_any _ _).mono ?_; rintro e w' ⟨rfl, rfl⟩)
                go_ret
                exact ⟨rfl, HZ8.out⟩
end Go.Proofs.Ytpblpndlajoebaa
