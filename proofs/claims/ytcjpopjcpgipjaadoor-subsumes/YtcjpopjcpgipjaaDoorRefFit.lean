/-
  Contract of quaereref8: fit.
-/
import Derived.Test.YtcjpopjcpgipjaaDoorRefFur
import Derived.Test.YtcjpopjcpgipjaaDoorPlainSubs
namespace Go.Proofs.YtcjpopjcpgipjaaDoor
open Go.RowKit Go.Deep
set_option linter.unusedSimpArgs false
set_option linter.unusedVariables false
set_option maxRecDepth 100000

/-- Rows of items, in a row. -/
structure YsAt (w : World) (B : Nat) (A : Option Addr) (n : Nat) (L : List (List Lt)) : Prop where
  len : L.length = n
  at_ : 0 < n → ∃ b off, A = some ⟨b, off, none⟩ ∧ b < B ∧ ∀ i, i < n → ∃ A' c, w.cell? ⟨b, off + i, none⟩ = some (.slice A' (itAt L i).length c) ∧ LitsAt w B A' (itAt L i).length (itAt L i)
theorem YsAt.on {w w' : World} {A : Option Addr} {n : Nat} {L : List (List Lt)} (h : YsAt w w.heap.size A n L) (hb : Below w.heap.size w w') : YsAt w' w'.heap.size A n L := by
  refine ⟨h.len, fun hn => ?_⟩
  obtain ⟨b, off, e, hlt, hc⟩ := h.at_ hn
  refine ⟨b, off, e, Nat.lt_of_lt_of_le hlt hb.size, fun i hi => ?_⟩
  obtain ⟨A', c, h1, h2⟩ := hc i hi
  exact ⟨A', c, by rw [hb.cell (p := ⟨b, off + i, none⟩) hlt]; exact h1, h2.on hb⟩
def FitPost (ss : List Sym) (xs : List Lt) (ys : List (List Lt)) (T : Nat → List Int) (w : World) (e : Ending) (w' : World) : Prop :=
  (fitP ss xs ys T = none ∧ e = .returned (.tuple #[.slice none 0 0, .bool false]) ∧ Below w.heap.size w w') ∨
  ∃ ps v, fitP ss xs ys T = some ps ∧ e = .returned (.tuple #[v, .bool true]) ∧ OwnI w' w.heap.size v (natsJ ps) ∧ Below w.heap.size w w'
theorem FitPost.no {ss : List Sym} {xs : List Lt} {ys : List (List Lt)} {T : Nat → List Int} {w w' : World} {e : Ending} (h : FitPost ss xs ys T w e w') (hn : fitP ss xs ys T = none) : e = .returned (.tuple #[.slice none 0 0, .bool false]) ∧ Below w.heap.size w w' := by
  rcases h with ⟨_, h1, h2⟩ | ⟨ps, v, h1, _⟩
  · exact ⟨h1, h2⟩
  · rw [hn] at h1; cases h1
theorem FitPost.yes {ss : List Sym} {xs : List Lt} {ys : List (List Lt)} {T : Nat → List Int} {w w' : World} {e : Ending} {ps : List Nat} (h : FitPost ss xs ys T w e w') (hn : fitP ss xs ys T = some ps) : ∃ v, e = .returned (.tuple #[v, .bool true]) ∧ OwnI w' w.heap.size v (natsJ ps) ∧ Below w.heap.size w w' := by
  rcases h with ⟨h0, _⟩ | ⟨qs, v, h1, h2, h3, h4⟩
  · rw [hn] at h0; cases h0
  · rw [hn] at h1; injection h1 with h1; subst h1; exact ⟨v, h2, h3, h4⟩
theorem FurPost.no {ss : List Sym} {b a : List Int} {bs : List Bd} {w w' : World} {e : Ending} (h : FurPost ss b a bs w e w') (hn : mt ss b (tOf bs) 0 a = none) : ∃ v, e = .returned (.tuple #[v, .bool false]) ∧ Below w.heap.size w w' := by
  rcases h with ⟨_, h⟩ | ⟨T, v, bs', vs', h1, _⟩
  · exact h
  · rw [hn] at h1; cases h1
theorem FurPost.yes {ss : List Sym} {b a : List Int} {bs : List Bd} {w w' : World} {e : Ending} {T : Nat → List Int} (h : FurPost ss b a bs w e w') (hn : mt ss b (tOf bs) 0 a = some T) :
    ∃ v bs' vs', e = .returned (.tuple #[v, .bool true]) ∧ OwnBv w' w.heap.size v bs' vs' ∧ BdRd w bs' vs' ∧ tOf bs' = T ∧ (∀ x ∈ bs', x.t ≠ [] ∧ x.t.length ≤ 48) ∧ bs'.length ≤ bs.length + a.length ∧ Below w.heap.size w w' := by
  rcases h with ⟨h0, _⟩ | ⟨T', v, bs', vs', h1, h2, h3, h4, h5, h6, h7, h8⟩
  · rw [hn] at h0; cases h0
  · rw [hn] at h1; injection h1 with h1; subst h1; exact ⟨v, bs', vs', h2, h3, h4, h5, h6, h7, h8⟩
/-- What is tried at a place. -/
def tryF (ss : List Sym) (x : Lt) (y : List Lt) (xs : List Lt) (ys : List (List Lt)) (T : Nat → List Int) (j : Nat) : Option (List Nat) :=
  if (ltAt y j).neg = x.neg then (match mt ss (ltAt y j).atom T 0 x.atom with | some T' => fitP ss xs ys T' | none => none) else none
theorem fitP_cons {ss : List Sym} {x : Lt} {y : List Lt} {xs : List Lt} {ys : List (List Lt)} {T : Nat → List Int} : fitP ss (x :: xs) (y :: ys) T = fstFrom (tryF ss x y xs ys T) y.length 0 := rfl
theorem fst_no {f : Nat → Option (List Nat)} {n j : Nat} (hj : j < n) (h : f j = none) : fstFrom f (n - j) j = fstFrom f (n - (j + 1)) (j + 1) := by
  have e : n - j = (n - (j + 1)) + 1 := by omega
  rw [e]
  show (match f j with | some r => some (j :: r) | none => fstFrom f (n - (j + 1)) (j + 1)) = _
  rw [h]
theorem fst_yes {f : Nat → Option (List Nat)} {n j : Nat} {r : List Nat} (hj : j < n) (h : f j = some r) : fstFrom f (n - j) j = some (j :: r) := by
  have e : n - j = (n - (j + 1)) + 1 := by omega
  rw [e]
  show (match f j with | some r => some (j :: r) | none => fstFrom f (n - (j + 1)) (j + 1)) = _
  rw [h]
theorem fitP_len {ss : List Sym} : ∀ {xs : List Lt} {ys : List (List Lt)} {T : Nat → List Int} {ps : List Nat}, fitP ss xs ys T = some ps → ps.length = xs.length
  | [], _, _, ps, h => by
    unfold fitP at h
    injection h with h
    rw [← h]; rfl
  | _ :: _, [], _, _, h => by cases h
  | x :: xs, y :: ys, T, ps, h => by
    rw [fitP_cons] at h
    obtain ⟨j, r, rfl, _, _, hf⟩ := fstFrom_some h
    unfold tryF at hf
    split at hf
    · split at hf
      · rw [List.length_cons, List.length_cons, fitP_len hf]
      · cases hf
    · cases hf
set_option maxHeartbeats 16000000 in
theorem refFit_any (A AX AY : Option Addr) (n c nx cx ny cy base0 : Nat) (ss : List Sym) (xs : List Lt) (ys : List (List Lt)) (hn : n ≤ maxLen) (hnx : nx ≤ 100) (hxl : xs.length = nx) (hyl : ys.length = nx) (hy1 : ∀ i, i < nx → (itAt ys i).length ≤ 1000)
    (hp : ∀ i, i < nx → ∀ j, j < (itAt ys i).length → Pat ss (ltAt xs i).atom (ltAt (itAt ys i) j).atom) (m : Nat) :
    ∀ (k : Nat) (vS : Value) (bs : List Bd) (vs : List Value) (base0 : Nat) (w : World), k + m = nx → SymsAt w w.heap.size A n ss → LitsAt w w.heap.size AX nx xs → YsAt w w.heap.size AY nx ys → OwnBv w base0 vS bs vs → BdRd w bs vs → (∀ x ∈ bs, x.t ≠ [] ∧ x.t.length ≤ 48) → bs.length ≤ 49 * k →
    Calls Tryd.prog 63 #[.slice A n c, .slice AX nx cx, .slice AY nx cy, .int .i64 k, vS] w (FitPost ss (xs.drop k) (ys.drop k) (tOf bs) w) := by
  induction m with
  | zero =>
    intro k vS bs vs base0 w hkm hS hX hY hB hR ht hl
    have hkn : k = nx := by omega
    have HD : Hid (fitP ss (xs.drop k) (ys.drop k) (tOf bs) = some []) := by
      show _ = _
      rw [List.drop_eq_nil_iff.2 (by omega : xs.length ≤ k)]; rfl
    have q0 : ((k : Int) == (nx : Int)) = true := by simp; omega
    clear hS hX hY hB hR ht hl
    go_enter Tryd.func63, Tryd.ntmps63
    go_wp2
    go_ret2
    exact .inr ⟨[], _, HD.out, rfl, OwnI.nil_, Below.refl _ _⟩
  | succ m ih =>
    intro k vS bs vs base0 w hkm hS hX hY hB hR ht hl
    have IH := Lib.hid ih
    have hk : k < nx := by omega
    have q0 : ((k : Int) == (nx : Int)) = false := by simp; omega
    have HSY := Lib.hid hS
    have HXS := Lib.hid hX
    have HYS := Lib.hid hY
    have HBS := Lib.hid hB
    have HRD := Lib.hid hR
    have HTT := Lib.hid ht
    have HPA := Lib.hid (hp k hk)
    obtain ⟨bx, ox, AT, cT, hAX, hbx, x0', x1', hxr⟩ := hX.one hk
    obtain ⟨bY, oY, hAY, hbY, hcY⟩ := hY.at_ (by omega)
    obtain ⟨Ay, cy', e0', hyl'⟩ := hcY k hk
    have hdx : xs.drop k = ltAt xs k :: xs.drop (k + 1) := by
      rw [List.drop_eq_getElem_cons (by omega)]
      have := ltAt_get (ls := xs) (i := k) (by omega)
      rw [List.getElem?_eq_getElem (by omega)] at this
      injection this with this
      rw [this]
    have hdy : ys.drop k = itAt ys k :: ys.drop (k + 1) := by
      rw [List.drop_eq_getElem_cons (by omega)]
      have := itAt_get (L := ys) (i := k) (by omega)
      rw [List.getElem?_eq_getElem (by omega)] at this
      injection this with this
      rw [this]
    obtain ⟨p, hpe⟩ : ∃ p, p = ltAt xs k := ⟨_, rfl⟩
    obtain ⟨y, hye⟩ : ∃ y, y = itAt ys k := ⟨_, rfl⟩
    have hy1k := hy1 k hk
    rw [← hpe] at x0' x1' hxr hdx HPA
    rw [← hye] at e0' hyl' hdy HPA hy1k
    obtain ⟨ny', hny⟩ : ∃ ny', ny' = y.length := ⟨_, rfl⟩
    rw [← hny] at e0' hyl' HPA hy1k
    have HNY := Lib.hid hny
    have HF0 : Hid (fitP ss (xs.drop k) (ys.drop k) (tOf bs) = fstFrom (tryF ss p y (xs.drop (k + 1)) (ys.drop (k + 1)) (tOf bs)) ny' 0) := by
      show _ = _
      rw [hdx, hdy, fitP_cons, hny]
    have HXR := Lib.hid hxr
    have HYL := Lib.hid hyl'
    have hi0 : (0 : Int) ≤ (k : Int) := by omega
    have hi3 : (k : Int) < (nx : Int) := by omega
    clear hS hX hY hB hR ht hdx hdy hpe hye hny hcY hxr hyl' ih hp
    subst hAX hAY
    obtain ⟨xn, t⟩ := p
    dsimp only at x0' x1' HXR
    go_enter Tryd.func63, Tryd.ntmps63
    go_wp2_with fail
    go_loopw [12] (fun jq wr => ∃ j : Nat, jq = .int .i64 j ∧ j ≤ ny' ∧ fitP ss (xs.drop k) (ys.drop k) (tOf bs) = fstFrom (tryF ss ⟨xn, t⟩ y (xs.drop (k + 1)) (ys.drop (k + 1)) (tOf bs)) (ny' - j) j ∧ Below w.heap.size w wr) (fun i _ => ny' - (intOf i).toNat)
    case atStart => exact ⟨0, rfl, by omega, by rw [Nat.sub_zero]; exact HF0.out, Below.refl _ _⟩
    case round =>
      obtain ⟨j, rfl, hj, hfr, hbw⟩ := hrel
      have HFR := Lib.hid hfr
      have HBW := Lib.hid hbw
      have hsz := hbw.size
      have e0 : wr.cell? ⟨bY, oY + k, none⟩ = some (.slice Ay ny' cy') := by rw [hbw.cell (p := ⟨bY, oY + k, none⟩) hbY]; exact e0'
      clear hfr hbw
      by_cases hjy : j < ny'
      · obtain ⟨b2, o2, AS, cs, hAy, hb2, d0', d1', hyr⟩ := HYL.out.one hjy
        obtain ⟨q, hqe⟩ : ∃ q, q = ltAt y j := ⟨_, rfl⟩
        have hpt := HPA.out j hjy
        rw [← hqe] at d0' d1' hyr hpt
        obtain ⟨yn, s⟩ := q
        dsimp only at d0' d1' hyr hpt
        have HPE := Lib.hid hqe
        have HPT := Lib.hid hpt
        have HYR := Lib.hid hyr
        have y0 : wr.cell? ⟨b2, o2 + j * 2, none⟩ = some (.bool yn) := by rw [HBW.out.cell (p := ⟨b2, o2 + j * 2, none⟩) hb2]; exact d0'
        have y1 : wr.cell? ⟨b2, o2 + j * 2 + 1, none⟩ = some (.slice AS s.length cs) := by rw [HBW.out.cell (p := ⟨b2, o2 + j * 2 + 1, none⟩) hb2]; exact d1'
        have x0 : wr.cell? ⟨bx, ox + k * 2, none⟩ = some (.bool xn) := by rw [HBW.out.cell (p := ⟨bx, ox + k * 2, none⟩) hbx]; exact x0'
        have x1 : wr.cell? ⟨bx, ox + k * 2 + 1, none⟩ = some (.slice AT t.length cT) := by rw [HBW.out.cell (p := ⟨bx, ox + k * 2 + 1, none⟩) hbx]; exact x1'
        have hj0 : (0 : Int) ≤ (j : Int) := by omega
        have hj3 : (j : Int) < (ny' : Int) := by omega
        subst hAy
        clear hqe hpt hyr d0' d1'
        cases xn
        · cases yn
          · have HTD : Hid (tryF ss ⟨false, t⟩ y (xs.drop (k + 1)) (ys.drop (k + 1)) (tOf bs) j = (match mt ss s (tOf bs) 0 t with | some T' => fitP ss (xs.drop (k + 1)) (ys.drop (k + 1)) T' | none => none)) := by
              show _ = _
              unfold tryF
              rw [← HPE.out]
              rfl
            go_wp2_with fail
            refine wp_region_held_drew (S := (fun w' => w'.cell? ⟨bY, oY + k, none⟩ = some (.slice (some ⟨b2, o2, none⟩) ny' cy') ∧ w'.cell? ⟨b2, o2 + j * 2, none⟩ = some (.bool false) ∧ w'.cell? ⟨bx, ox + k * 2, none⟩ = some (.bool false))) (by kernel_rfl) ⟨e0, y0, x0⟩ (fun hHeld => ?_)
            have hd : Below wr.heap.size wr wr.drew := (Below.refl wr.heap.size wr).drew
            refine takeH (i := 0) (v := ?_) rfl rfl (by kernel_rfl) (by kernel_rfl) (by kernel_rfl) (fun _ _ _ h => h) (by rfl) ?_ hHeld ?_
            rotate_left
            · (intro w hSw; (try dsimp only at hSw); first | (go_simp; done) | (go_simp; with_reducible rfl))
            simp only [Act.put, List.setIfInBounds_toArray, List.set_cons_zero, List.set_cons_succ]
            refine takeH (i := 1) (v := ?_) rfl rfl (by kernel_rfl) (by kernel_rfl) (by kernel_rfl) (fun _ _ _ h => h) (by rfl) ?_ hHeld ?_
            rotate_left
            · (intro w hSw; (try dsimp only at hSw); first | (go_simp; done) | (go_simp; with_reducible rfl))
            simp only [Act.put, List.setIfInBounds_toArray, List.set_cons_zero, List.set_cons_succ]
            refine takeH (i := 2) (v := ?_) rfl rfl (by kernel_rfl) (by kernel_rfl) (by kernel_rfl) (fun _ _ _ h => h) (by rfl) ?_ hHeld ?_
            rotate_left
            · (intro w hSw; (try dsimp only at hSw); first | (go_simp; done) | (go_simp; with_reducible rfl))
            simp only [Act.put, List.setIfInBounds_toArray, List.set_cons_zero, List.set_cons_succ]
            refine takeH (i := 3) (v := ?_) rfl rfl (by kernel_rfl) (by kernel_rfl) (by kernel_rfl) (fun _ _ _ h => h) (by rfl) ?_ hHeld ?_
            rotate_left
            · (intro w hSw; (try dsimp only at hSw); first | (go_simp; done) | (go_simp; with_reducible rfl))
            simp only [Act.put, List.setIfInBounds_toArray, List.set_cons_zero, List.set_cons_succ]
            refine takeH (i := 4) (v := ?_) rfl rfl (by kernel_rfl) (by kernel_rfl) (by kernel_rfl) (fun _ _ _ h => h) (by rfl) ?_ hHeld ?_
            rotate_left
            · (intro w hSw; (try dsimp only at hSw); first | (go_simp; done) | (go_simp; with_reducible rfl))
            simp only [Act.put, List.setIfInBounds_toArray, List.set_cons_zero, List.set_cons_succ]
            refine takeH (i := 5) (v := ?_) rfl rfl (by kernel_rfl) (by kernel_rfl) (by kernel_rfl) (fun _ _ _ h => h) (by rfl) ?_ hHeld ?_
            rotate_left
            · (intro w hSw; (try dsimp only at hSw); first | (go_simp; done) | (go_simp; with_reducible rfl))
            simp only [Act.put, List.setIfInBounds_toArray, List.set_cons_zero, List.set_cons_succ]
            refine takeH (i := 6) (v := ?_) rfl rfl (by kernel_rfl) (by kernel_rfl) (by kernel_rfl) (fun _ _ _ h => h) (by rfl) ?_ hHeld ?_
            rotate_left
            · (intro w hSw; (try dsimp only at hSw); first | (go_simp; done) | (go_simp; with_reducible rfl))
            simp only [Act.put, List.setIfInBounds_toArray, List.set_cons_zero, List.set_cons_succ]
            refine takeH (i := 7) (v := ?_) rfl rfl (by kernel_rfl) (by kernel_rfl) (by kernel_rfl) (fun _ _ _ h => h) (by rfl) ?_ hHeld ?_
            rotate_left
            · (intro w hSw; (try dsimp only at hSw); first | (go_simp; done) | (go_simp; with_reducible rfl))
            simp only [Act.put, List.setIfInBounds_toArray, List.set_cons_zero, List.set_cons_succ]
            refine takeH (i := 8) (v := ?_) rfl rfl (by kernel_rfl) (by kernel_rfl) (by kernel_rfl) (fun _ _ _ h => h) (by rfl) ?_ hHeld ?_
            rotate_left
            · (intro w hSw; (try dsimp only at hSw); first | (go_simp; done) | (go_simp; with_reducible rfl))
            simp only [Act.put, List.setIfInBounds_toArray, List.set_cons_zero, List.set_cons_succ]
            refine takeH (i := 9) (v := ?_) rfl rfl (by kernel_rfl) (by kernel_rfl) (by kernel_rfl) (fun _ _ _ h => h) (by rfl) ?_ hHeld ?_
            rotate_left
            · (intro w hSw; (try dsimp only at hSw); first | (go_simp; done) | (go_simp; with_reducible rfl))
            simp only [Act.put, List.setIfInBounds_toArray, List.set_cons_zero, List.set_cons_succ]
            refine takeH (i := 10) (v := ?_) rfl rfl (by kernel_rfl) (by kernel_rfl) (by kernel_rfl) (fun _ _ _ h => h) (by rfl) ?_ hHeld ?_
            rotate_left
            · (intro w hSw; (try dsimp only at hSw); first | (go_simp; done) | (go_simp; with_reducible rfl))
            simp only [Act.put, List.setIfInBounds_toArray, List.set_cons_zero, List.set_cons_succ]
            refine takeH (i := 11) (v := ?_) rfl rfl (by kernel_rfl) (by kernel_rfl) (by kernel_rfl) (fun _ _ _ h => h) (by rfl) ?_ hHeld ?_
            rotate_left
            · (intro w hSw; (try dsimp only at hSw); first | (go_simp; done) | (go_simp; with_reducible rfl))
            simp only [Act.put, List.setIfInBounds_toArray, List.set_cons_zero, List.set_cons_succ]
            refine takeH (i := 12) (v := ?_) rfl rfl (by kernel_rfl) (by kernel_rfl) (by kernel_rfl) (fun _ _ _ h => h) (by rfl) ?_ hHeld ?_
            rotate_left
            · (intro w hSw; (try dsimp only at hSw); first | (go_simp; done) | (go_simp; with_reducible rfl))
            simp only [Act.put, List.setIfInBounds_toArray, List.set_cons_zero, List.set_cons_succ]
            refine takeH (i := 13) (v := ?_) rfl rfl (by kernel_rfl) (by kernel_rfl) (by kernel_rfl) (fun _ _ _ h => h) (by rfl) ?_ hHeld ?_
            rotate_left
            · (intro w hSw; (try dsimp only at hSw); first | (go_simp; done) | (go_simp; with_reducible rfl))
            simp only [Act.put, List.setIfInBounds_toArray, List.set_cons_zero, List.set_cons_succ]
            refine wpAnyH_done (by kernel_rfl) ?_ _
            obtain ⟨w1, hw1⟩ : ∃ w1, w1 = wr.drew := ⟨_, rfl⟩
            rw [← hw1] at hd ⊢
            have HB1 := Lib.hid (HBW.out.trans (hd.mono hsz))
            have hs1 := HB1.out.size
            have e1 : w1.cell? ⟨bY, oY + k, none⟩ = some (.slice (some ⟨b2, o2, none⟩) ny' cy') := by rw [hw1]; exact e0
            have y3 : w1.cell? ⟨b2, o2 + j * 2 + 1, none⟩ = some (.slice AS s.length cs) := by rw [hw1]; exact y1
            have x3 : w1.cell? ⟨bx, ox + k * 2 + 1, none⟩ = some (.slice AT t.length cT) := by rw [hw1]; exact x1
            clear hd hw1 e0 y0 y1 x0 x1
            cases hmt : mt ss s (tOf bs) 0 t with
            | none =>
              have HMT := Lib.hid hmt
              have HTRY : Hid (tryF ss ⟨false, t⟩ y (xs.drop (k + 1)) (ys.drop (k + 1)) (tOf bs) j = none) := by show _ = _; rw [HTD.out, hmt]
              clear hmt
              go_wp2_with fail
              refine wp_region_held_drew (S := (fun w' => w'.cell? ⟨bY, oY + k, none⟩ = some (.slice (some ⟨b2, o2, none⟩) ny' cy') ∧ w'.cell? ⟨b2, o2 + j * 2 + 1, none⟩ = some (.slice AS s.length cs) ∧ w'.cell? ⟨bx, ox + k * 2 + 1, none⟩ = some (.slice AT t.length cT))) (by kernel_rfl) ⟨e1, y3, x3⟩ (fun hHeld => ?_)
              have hd : Below w1.heap.size w1 w1.drew := (Below.refl w1.heap.size w1).drew
              have hb1d := HB1.out.trans (hd.mono hs1)
              refine takeH (i := 0) (v := ?_) rfl rfl (by kernel_rfl) (by kernel_rfl) (by kernel_rfl) (fun _ _ _ h => h) (by rfl) ?_ hHeld ?_
              rotate_left
              · (intro w hSw; (try dsimp only at hSw); first | (go_simp; done) | (go_simp; with_reducible rfl))
              simp only [Act.put, List.setIfInBounds_toArray, List.set_cons_zero, List.set_cons_succ]
              refine takeH (i := 1) (v := ?_) rfl rfl (by kernel_rfl) (by kernel_rfl) (by kernel_rfl) (fun _ _ _ h => h) (by rfl) ?_ hHeld ?_
              rotate_left
              · (intro w hSw; (try dsimp only at hSw); first | (go_simp; done) | (go_simp; with_reducible rfl))
              simp only [Act.put, List.setIfInBounds_toArray, List.set_cons_zero, List.set_cons_succ]
              refine takeH (i := 2) (v := ?_) rfl rfl (by kernel_rfl) (by kernel_rfl) (by kernel_rfl) (fun _ _ _ h => h) (by rfl) ?_ hHeld ?_
              rotate_left
              · (intro w hSw; (try dsimp only at hSw); first | (go_simp; done) | (go_simp; with_reducible rfl))
              simp only [Act.put, List.setIfInBounds_toArray, List.set_cons_zero, List.set_cons_succ]
              refine takeH (i := 3) (v := ?_) rfl rfl (by kernel_rfl) (by kernel_rfl) (by kernel_rfl) (fun _ _ _ h => h) (by rfl) ?_ hHeld ?_
              rotate_left
              · (intro w hSw; (try dsimp only at hSw); first | (go_simp; done) | (go_simp; with_reducible rfl))
              simp only [Act.put, List.setIfInBounds_toArray, List.set_cons_zero, List.set_cons_succ]
              refine takeH (i := 4) (v := ?_) rfl rfl (by kernel_rfl) (by kernel_rfl) (by kernel_rfl) (fun _ _ _ h => h) (by rfl) ?_ hHeld ?_
              rotate_left
              · (intro w hSw; (try dsimp only at hSw); first | (go_simp; done) | (go_simp; with_reducible rfl))
              simp only [Act.put, List.setIfInBounds_toArray, List.set_cons_zero, List.set_cons_succ]
              refine takeH (i := 5) (v := ?_) rfl rfl (by kernel_rfl) (by kernel_rfl) (by kernel_rfl) (fun _ _ _ h => h) (by rfl) ?_ hHeld ?_
              rotate_left
              · (intro w hSw; (try dsimp only at hSw); first | (go_simp; done) | (go_simp; with_reducible rfl))
              simp only [Act.put, List.setIfInBounds_toArray, List.set_cons_zero, List.set_cons_succ]
              refine takeH (i := 6) (v := ?_) rfl rfl (by kernel_rfl) (by kernel_rfl) (by kernel_rfl) (fun _ _ _ h => h) (by rfl) ?_ hHeld ?_
              rotate_left
              · (intro w hSw; (try dsimp only at hSw); first | (go_simp; done) | (go_simp; with_reducible rfl))
              simp only [Act.put, List.setIfInBounds_toArray, List.set_cons_zero, List.set_cons_succ]
              refine takeH (i := 7) (v := ?_) rfl rfl (by kernel_rfl) (by kernel_rfl) (by kernel_rfl) (fun _ _ _ h => h) (by rfl) ?_ hHeld ?_
              rotate_left
              · (intro w hSw; (try dsimp only at hSw); first | (go_simp; done) | (go_simp; with_reducible rfl))
              simp only [Act.put, List.setIfInBounds_toArray, List.set_cons_zero, List.set_cons_succ]
              refine takeH (i := 8) (v := ?_) rfl rfl (by kernel_rfl) (by kernel_rfl) (by kernel_rfl) (fun _ _ _ h => h) (by rfl) ?_ hHeld ?_
              rotate_left
              · (intro w hSw; (try dsimp only at hSw); first | (go_simp; done) | (go_simp; with_reducible rfl))
              simp only [Act.put, List.setIfInBounds_toArray, List.set_cons_zero, List.set_cons_succ]
              refine takeH (i := 9) (v := ?_) rfl rfl (by kernel_rfl) (by kernel_rfl) (by kernel_rfl) (fun _ _ _ h => h) (by rfl) ?_ hHeld ?_
              rotate_left
              · (intro w hSw; (try dsimp only at hSw); first | (go_simp; done) | (go_simp; with_reducible rfl))
              simp only [Act.put, List.setIfInBounds_toArray, List.set_cons_zero, List.set_cons_succ]
              refine takeH (i := 10) (v := ?_) rfl rfl (by kernel_rfl) (by kernel_rfl) (by kernel_rfl) (fun _ _ _ h => h) (by rfl) ?_ hHeld ?_
              rotate_left
              · (intro w hSw; (try dsimp only at hSw); first | (go_simp; done) | (go_simp; with_reducible rfl))
              simp only [Act.put, List.setIfInBounds_toArray, List.set_cons_zero, List.set_cons_succ]
              refine takeH (i := 11) (v := ?_) rfl rfl (by kernel_rfl) (by kernel_rfl) (by kernel_rfl) (fun _ _ _ h => h) (by rfl) ?_ hHeld ?_
              rotate_left
              · (intro w hSw; (try dsimp only at hSw); first | (go_simp; done) | (go_simp; with_reducible rfl))
              simp only [Act.put, List.setIfInBounds_toArray, List.set_cons_zero, List.set_cons_succ]
              refine takeH (i := 12) (v := ?_) rfl rfl (by kernel_rfl) (by kernel_rfl) (by kernel_rfl) (fun _ _ _ h => h) (by rfl) ?_ hHeld ?_
              rotate_left
              · (intro w hSw; (try dsimp only at hSw); first | (go_simp; done) | (go_simp; with_reducible rfl))
              simp only [Act.put, List.setIfInBounds_toArray, List.set_cons_zero, List.set_cons_succ]
              refine takeH (i := 13) (v := ?_) rfl rfl (by kernel_rfl) (by kernel_rfl) (by kernel_rfl) (fun _ _ _ h => h) (by rfl) ?_ hHeld ?_
              rotate_left
              · (intro w hSw; (try dsimp only at hSw); first | (go_simp; done) | (go_simp; with_reducible rfl))
              simp only [Act.put, List.setIfInBounds_toArray, List.set_cons_zero, List.set_cons_succ]
              refine takeH (i := 14) (v := ?_) rfl rfl (by kernel_rfl) (by kernel_rfl) (by kernel_rfl) (fun _ _ _ h => h) (by rfl) ?_ hHeld ?_
              rotate_left
              · (intro w hSw; (try dsimp only at hSw); first | (go_simp; done) | (go_simp; with_reducible rfl))
              simp only [Act.put, List.setIfInBounds_toArray, List.set_cons_zero, List.set_cons_succ]
              refine wpAnyH_ready (rs := [15]) (by kernel_rfl) (by simp) ?_
              refine AllReadyH.cons rfl (fun K hK => ?_) AllReadyH.nil
              go_simp
              refine (refFurther_any A AT AS n c t.length cT s.length cs base0 ss t s vS bs vs _ (HSY.out.on hb1d) hn (HXR.out.at_.on hb1d) (HYR.out.at_.on hb1d) HYR.out.cap HPT.out (HBS.out.on hb1d) (HRD.out.on hb1d) HTT.out (by omega)).mono ?_
              rintro e w3 hfp
              obtain ⟨v3, rfl, hb⟩ := hfp.no HMT.out
              have hb3 := hd.trans (hb.mono hd.size)
              have HB3 := Lib.hid (HB1.out.trans (hb3.mono hs1))
              have e2 : w3.cell? ⟨bY, oY + k, none⟩ = some (.slice (some ⟨b2, o2, none⟩) ny' cy') := by rw [HB3.out.cell (p := ⟨bY, oY + k, none⟩) hbY]; exact e0'
              have y4 : w3.cell? ⟨b2, o2 + j * 2 + 1, none⟩ = some (.slice AS s.length cs) := by rw [hb3.cell (p := ⟨b2, o2 + j * 2 + 1, none⟩) (Nat.lt_of_lt_of_le hb2 hs1)]; exact y3
              have x4 : w3.cell? ⟨bx, ox + k * 2 + 1, none⟩ = some (.slice AT t.length cT) := by rw [hb3.cell (p := ⟨bx, ox + k * 2 + 1, none⟩) (Nat.lt_of_lt_of_le hbx hs1)]; exact x3
              clear hd hb hb3 hb1d
              go_wp2_with fail
              refine hK.out _ _ ?_ (fun hHeld => ?_)
              · exact ⟨e2, y4, x4⟩
              clear hK K
              refine takeH (i := 16) (v := ?_) rfl rfl (by kernel_rfl) (by kernel_rfl) (by kernel_rfl) (fun _ _ _ h => h) (by rfl) ?_ hHeld ?_
              rotate_left
              · (intro w hSw; (try dsimp only at hSw); first | (go_simp; done) | (go_simp; with_reducible rfl))
              simp only [Act.put, List.setIfInBounds_toArray, List.set_cons_zero, List.set_cons_succ]
              refine takeH (i := 17) (v := ?_) rfl rfl (by kernel_rfl) (by kernel_rfl) (by kernel_rfl) (fun _ _ _ h => h) (by rfl) ?_ hHeld ?_
              rotate_left
              · (intro w hSw; (try dsimp only at hSw); first | (go_simp; done) | (go_simp; with_reducible rfl))
              simp only [Act.put, List.setIfInBounds_toArray, List.set_cons_zero, List.set_cons_succ]
              refine takeH (i := 18) (v := ?_) rfl rfl (by kernel_rfl) (by kernel_rfl) (by kernel_rfl) (fun _ _ _ h => h) (by rfl) ?_ hHeld ?_
              rotate_left
              · (intro w hSw; (try dsimp only at hSw); first | (go_simp; done) | (go_simp; with_reducible rfl))
              simp only [Act.put, List.setIfInBounds_toArray, List.set_cons_zero, List.set_cons_succ]
              refine takeH (i := 19) (v := ?_) rfl rfl (by kernel_rfl) (by kernel_rfl) (by kernel_rfl) (fun _ _ _ h => h) (by rfl) ?_ hHeld ?_
              rotate_left
              · (intro w hSw; (try dsimp only at hSw); first | (go_simp; done) | (go_simp; with_reducible rfl))
              simp only [Act.put, List.setIfInBounds_toArray, List.set_cons_zero, List.set_cons_succ]
              refine takeH (i := 20) (v := ?_) rfl rfl (by kernel_rfl) (by kernel_rfl) (by kernel_rfl) (fun _ _ _ h => h) (by rfl) ?_ hHeld ?_
              rotate_left
              · (intro w hSw; (try dsimp only at hSw); first | (go_simp; done) | (go_simp; with_reducible rfl))
              simp only [Act.put, List.setIfInBounds_toArray, List.set_cons_zero, List.set_cons_succ]
              refine wpAnyH_done (by kernel_rfl) ?_ _
              go_wp2
              go_roundw
              case rel => exact ⟨j + 1, by go_num, by omega, HFR.out.trans (fst_no hjy HTRY.out), HB3.out⟩
              case measure => simp [intOf]; omega
            | some T' =>
              have HMT := Lib.hid hmt
              have HTF : Hid (tryF ss ⟨false, t⟩ y (xs.drop (k + 1)) (ys.drop (k + 1)) (tOf bs) j = fitP ss (xs.drop (k + 1)) (ys.drop (k + 1)) T') := by show _ = _; rw [HTD.out, hmt]
              clear hmt
              go_wp2_with fail
              refine wp_region_held_drew (S := (fun w' => w'.cell? ⟨bY, oY + k, none⟩ = some (.slice (some ⟨b2, o2, none⟩) ny' cy') ∧ w'.cell? ⟨b2, o2 + j * 2 + 1, none⟩ = some (.slice AS s.length cs) ∧ w'.cell? ⟨bx, ox + k * 2 + 1, none⟩ = some (.slice AT t.length cT))) (by kernel_rfl) ⟨e1, y3, x3⟩ (fun hHeld => ?_)
              have hd : Below w1.heap.size w1 w1.drew := (Below.refl w1.heap.size w1).drew
              have hb1d := HB1.out.trans (hd.mono hs1)
              refine takeH (i := 0) (v := ?_) rfl rfl (by kernel_rfl) (by kernel_rfl) (by kernel_rfl) (fun _ _ _ h => h) (by rfl) ?_ hHeld ?_
              rotate_left
              · (intro w hSw; (try dsimp only at hSw); first | (go_simp; done) | (go_simp; with_reducible rfl))
              simp only [Act.put, List.setIfInBounds_toArray, List.set_cons_zero, List.set_cons_succ]
              refine takeH (i := 1) (v := ?_) rfl rfl (by kernel_rfl) (by kernel_rfl) (by kernel_rfl) (fun _ _ _ h => h) (by rfl) ?_ hHeld ?_
              rotate_left
              · (intro w hSw; (try dsimp only at hSw); first | (go_simp; done) | (go_simp; with_reducible rfl))
              simp only [Act.put, List.setIfInBounds_toArray, List.set_cons_zero, List.set_cons_succ]
              refine takeH (i := 2) (v := ?_) rfl rfl (by kernel_rfl) (by kernel_rfl) (by kernel_rfl) (fun _ _ _ h => h) (by rfl) ?_ hHeld ?_
              rotate_left
              · (intro w hSw; (try dsimp only at hSw); first | (go_simp; done) | (go_simp; with_reducible rfl))
              simp only [Act.put, List.setIfInBounds_toArray, List.set_cons_zero, List.set_cons_succ]
              refine takeH (i := 3) (v := ?_) rfl rfl (by kernel_rfl) (by kernel_rfl) (by kernel_rfl) (fun _ _ _ h => h) (by rfl) ?_ hHeld ?_
              rotate_left
              · (intro w hSw; (try dsimp only at hSw); first | (go_simp; done) | (go_simp; with_reducible rfl))
              simp only [Act.put, List.setIfInBounds_toArray, List.set_cons_zero, List.set_cons_succ]
              refine takeH (i := 4) (v := ?_) rfl rfl (by kernel_rfl) (by kernel_rfl) (by kernel_rfl) (fun _ _ _ h => h) (by rfl) ?_ hHeld ?_
              rotate_left
              · (intro w hSw; (try dsimp only at hSw); first | (go_simp; done) | (go_simp; with_reducible rfl))
              simp only [Act.put, List.setIfInBounds_toArray, List.set_cons_zero, List.set_cons_succ]
              refine takeH (i := 5) (v := ?_) rfl rfl (by kernel_rfl) (by kernel_rfl) (by kernel_rfl) (fun _ _ _ h => h) (by rfl) ?_ hHeld ?_
              rotate_left
              · (intro w hSw; (try dsimp only at hSw); first | (go_simp; done) | (go_simp; with_reducible rfl))
              simp only [Act.put, List.setIfInBounds_toArray, List.set_cons_zero, List.set_cons_succ]
              refine takeH (i := 6) (v := ?_) rfl rfl (by kernel_rfl) (by kernel_rfl) (by kernel_rfl) (fun _ _ _ h => h) (by rfl) ?_ hHeld ?_
              rotate_left
              · (intro w hSw; (try dsimp only at hSw); first | (go_simp; done) | (go_simp; with_reducible rfl))
              simp only [Act.put, List.setIfInBounds_toArray, List.set_cons_zero, List.set_cons_succ]
              refine takeH (i := 7) (v := ?_) rfl rfl (by kernel_rfl) (by kernel_rfl) (by kernel_rfl) (fun _ _ _ h => h) (by rfl) ?_ hHeld ?_
              rotate_left
              · (intro w hSw; (try dsimp only at hSw); first | (go_simp; done) | (go_simp; with_reducible rfl))
              simp only [Act.put, List.setIfInBounds_toArray, List.set_cons_zero, List.set_cons_succ]
              refine takeH (i := 8) (v := ?_) rfl rfl (by kernel_rfl) (by kernel_rfl) (by kernel_rfl) (fun _ _ _ h => h) (by rfl) ?_ hHeld ?_
              rotate_left
              · (intro w hSw; (try dsimp only at hSw); first | (go_simp; done) | (go_simp; with_reducible rfl))
              simp only [Act.put, List.setIfInBounds_toArray, List.set_cons_zero, List.set_cons_succ]
              refine takeH (i := 9) (v := ?_) rfl rfl (by kernel_rfl) (by kernel_rfl) (by kernel_rfl) (fun _ _ _ h => h) (by rfl) ?_ hHeld ?_
              rotate_left
              · (intro w hSw; (try dsimp only at hSw); first | (go_simp; done) | (go_simp; with_reducible rfl))
              simp only [Act.put, List.setIfInBounds_toArray, List.set_cons_zero, List.set_cons_succ]
              refine takeH (i := 10) (v := ?_) rfl rfl (by kernel_rfl) (by kernel_rfl) (by kernel_rfl) (fun _ _ _ h => h) (by rfl) ?_ hHeld ?_
              rotate_left
              · (intro w hSw; (try dsimp only at hSw); first | (go_simp; done) | (go_simp; with_reducible rfl))
              simp only [Act.put, List.setIfInBounds_toArray, List.set_cons_zero, List.set_cons_succ]
              refine takeH (i := 11) (v := ?_) rfl rfl (by kernel_rfl) (by kernel_rfl) (by kernel_rfl) (fun _ _ _ h => h) (by rfl) ?_ hHeld ?_
              rotate_left
              · (intro w hSw; (try dsimp only at hSw); first | (go_simp; done) | (go_simp; with_reducible rfl))
              simp only [Act.put, List.setIfInBounds_toArray, List.set_cons_zero, List.set_cons_succ]
              refine takeH (i := 12) (v := ?_) rfl rfl (by kernel_rfl) (by kernel_rfl) (by kernel_rfl) (fun _ _ _ h => h) (by rfl) ?_ hHeld ?_
              rotate_left
              · (intro w hSw; (try dsimp only at hSw); first | (go_simp; done) | (go_simp; with_reducible rfl))
              simp only [Act.put, List.setIfInBounds_toArray, List.set_cons_zero, List.set_cons_succ]
              refine takeH (i := 13) (v := ?_) rfl rfl (by kernel_rfl) (by kernel_rfl) (by kernel_rfl) (fun _ _ _ h => h) (by rfl) ?_ hHeld ?_
              rotate_left
              · (intro w hSw; (try dsimp only at hSw); first | (go_simp; done) | (go_simp; with_reducible rfl))
              simp only [Act.put, List.setIfInBounds_toArray, List.set_cons_zero, List.set_cons_succ]
              refine takeH (i := 14) (v := ?_) rfl rfl (by kernel_rfl) (by kernel_rfl) (by kernel_rfl) (fun _ _ _ h => h) (by rfl) ?_ hHeld ?_
              rotate_left
              · (intro w hSw; (try dsimp only at hSw); first | (go_simp; done) | (go_simp; with_reducible rfl))
              simp only [Act.put, List.setIfInBounds_toArray, List.set_cons_zero, List.set_cons_succ]
              refine wpAnyH_ready (rs := [15]) (by kernel_rfl) (by simp) ?_
              refine AllReadyH.cons rfl (fun K hK => ?_) AllReadyH.nil
              go_simp
              refine (refFurther_any A AT AS n c t.length cT s.length cs base0 ss t s vS bs vs _ (HSY.out.on hb1d) hn (HXR.out.at_.on hb1d) (HYR.out.at_.on hb1d) HYR.out.cap HPT.out (HBS.out.on hb1d) (HRD.out.on hb1d) HTT.out (by omega)).mono ?_
              rintro e w3 hfp
              obtain ⟨v3, bs', vs', rfl, ho3, hr3, hT3, ht3, hl3, hb⟩ := hfp.yes HMT.out
              have HO3 := Lib.hid ho3
              have HR3 := Lib.hid (hr3.on hb)
              have HT3 := Lib.hid ht3
              have ht49 : t.length ≤ 49 := by
                rcases HPT.out with ⟨q, _⟩ | ⟨q, _⟩
                · exact Tgt.len (.inl q)
                · exact Tgt.len (.inr q)
              have hl4 : bs'.length ≤ 49 * (k + 1) := by omega
              rw [← hT3] at HTF
              clear ho3 hr3 hT3 ht3 hl3
              have hb3 := hd.trans (hb.mono hd.size)
              have HB3 := Lib.hid (HB1.out.trans (hb3.mono hs1))
              have e2 : w3.cell? ⟨bY, oY + k, none⟩ = some (.slice (some ⟨b2, o2, none⟩) ny' cy') := by rw [HB3.out.cell (p := ⟨bY, oY + k, none⟩) hbY]; exact e0'
              have y4 : w3.cell? ⟨b2, o2 + j * 2 + 1, none⟩ = some (.slice AS s.length cs) := by rw [hb3.cell (p := ⟨b2, o2 + j * 2 + 1, none⟩) (Nat.lt_of_lt_of_le hb2 hs1)]; exact y3
              have x4 : w3.cell? ⟨bx, ox + k * 2 + 1, none⟩ = some (.slice AT t.length cT) := by rw [hb3.cell (p := ⟨bx, ox + k * 2 + 1, none⟩) (Nat.lt_of_lt_of_le hbx hs1)]; exact x3
              clear hd hb hb3 hb1d
              go_wp2_with fail
              refine hK.out _ _ ?_ (fun hHeld => ?_)
              · exact ⟨e2, y4, x4⟩
              clear hK K
              refine takeH (i := 16) (v := ?_) rfl rfl (by kernel_rfl) (by kernel_rfl) (by kernel_rfl) (fun _ _ _ h => h) (by rfl) ?_ hHeld ?_
              rotate_left
              · (intro w hSw; (try dsimp only at hSw); first | (go_simp; done) | (go_simp; with_reducible rfl))
              simp only [Act.put, List.setIfInBounds_toArray, List.set_cons_zero, List.set_cons_succ]
              refine takeH (i := 17) (v := ?_) rfl rfl (by kernel_rfl) (by kernel_rfl) (by kernel_rfl) (fun _ _ _ h => h) (by rfl) ?_ hHeld ?_
              rotate_left
              · (intro w hSw; (try dsimp only at hSw); first | (go_simp; done) | (go_simp; with_reducible rfl))
              simp only [Act.put, List.setIfInBounds_toArray, List.set_cons_zero, List.set_cons_succ]
              refine takeH (i := 18) (v := ?_) rfl rfl (by kernel_rfl) (by kernel_rfl) (by kernel_rfl) (fun _ _ _ h => h) (by rfl) ?_ hHeld ?_
              rotate_left
              · (intro w hSw; (try dsimp only at hSw); first | (go_simp; done) | (go_simp; with_reducible rfl))
              simp only [Act.put, List.setIfInBounds_toArray, List.set_cons_zero, List.set_cons_succ]
              refine takeH (i := 19) (v := ?_) rfl rfl (by kernel_rfl) (by kernel_rfl) (by kernel_rfl) (fun _ _ _ h => h) (by rfl) ?_ hHeld ?_
              rotate_left
              · (intro w hSw; (try dsimp only at hSw); first | (go_simp; done) | (go_simp; with_reducible rfl))
              simp only [Act.put, List.setIfInBounds_toArray, List.set_cons_zero, List.set_cons_succ]
              refine takeH (i := 20) (v := ?_) rfl rfl (by kernel_rfl) (by kernel_rfl) (by kernel_rfl) (fun _ _ _ h => h) (by rfl) ?_ hHeld ?_
              rotate_left
              · (intro w hSw; (try dsimp only at hSw); first | (go_simp; done) | (go_simp; with_reducible rfl))
              simp only [Act.put, List.setIfInBounds_toArray, List.set_cons_zero, List.set_cons_succ]
              refine wpAnyH_done (by kernel_rfl) ?_ _
              clear e1 y3 x3
              go_wp2_with fail
              have hcall := IH.out (k + 1) v3 bs' vs' _ w3 (by omega) (HSY.out.on HB3.out) (HXS.out.on HB3.out) (HYS.out.on HB3.out) HO3.out HR3.out HT3.out hl4
              have hik : ((k + 1 : Nat) : Int) = (k : Int) + 1 := by omega
              rw [hik] at hcall
              refine hcall.mono ?_
              clear hcall
              rintro e w4 hfp
              cases hft : fitP ss (xs.drop (k + 1)) (ys.drop (k + 1)) (tOf bs') with
              | none =>
                obtain ⟨rfl, hb4⟩ := hfp.no hft
                have HTRY : Hid (tryF ss ⟨false, t⟩ y (xs.drop (k + 1)) (ys.drop (k + 1)) (tOf bs) j = none) := by show _ = _; rw [HTF.out, hft]
                have HB4 := Lib.hid (HB3.out.trans (hb4.mono HB3.out.size))
                clear hft hfp hb4
                go_wp2
                go_roundw
                case rel => exact ⟨j + 1, by go_num, by omega, HFR.out.trans (fst_no hjy HTRY.out), HB4.out⟩
                case measure => simp [intOf]; omega
              | some ps =>
                obtain ⟨v4, rfl, ho4, hb4⟩ := hfp.yes hft
                have HY : Hid (fitP ss (xs.drop k) (ys.drop k) (tOf bs) = some (j :: ps)) := by show _ = _; rw [HFR.out, fst_yes hjy (HTF.out.trans hft)]
                have HB4 := Lib.hid (HB3.out.trans (hb4.mono HB3.out.size))
                have hsh := ho4.shape
                obtain ⟨A4, c4, rfl, hc4, hi4⟩ := ho4.intsAt
                have hnil : A4 = none → (natsJ ps).length = 0 ∧ c4 = 0 := by
                  intro q
                  subst q
                  rcases hsh with ⟨h1, h2⟩ | ⟨g, cap, h1, _⟩
                  · injection h1 with _ q2 q3; exact ⟨q2, q3⟩
                  · injection h1 with q1; cases q1
                have HI4 := Lib.hid hi4
                have hpl : (natsJ ps).length ≤ 100 := by
                  unfold natsJ
                  rw [List.length_map, fitP_len hft, List.length_drop]
                  omega
                have HJ1 : Hid (OwnI (w4.alloc (.cells #[.int .i64 (j : Int)] 3)) w4.heap.size (.slice (some ⟨w4.heap.size, 0, none⟩) 1 1) [(j : Int)]) := OwnI.lit w4 [(j : Int)] (by unfold maxLen; simp)
                have HBN := Lib.hid (below_new w4 (.cells #[.int .i64 (j : Int)] 3))
                obtain ⟨L4, hL4⟩ : ∃ L4, L4 = (natsJ ps).length := ⟨_, rfl⟩
                rw [← hL4] at HI4 hnil hpl ⊢
                clear hft hfp hb4 ho4 hsh hc4 hi4 hL4
                go_wp2_with (refine app_ints rfl (.tmp 78) (.tmp 79) rfl w4.heap.size _ [(j : Int)] rfl HJ1.out A4 L4 c4 _ (natsJ ps) rfl hnil (HI4.out.on HBN.out) (by simp; omega) HBN.out.size ?_
                             intro v6 w6 hown6 hb6
                             have HO6 := Lib.hid hown6
                             have HB6 := Lib.hid (HB4.out.trans ((below_un_new hb6 (Nat.le_refl _)).mono HB4.out.size))
                             clear hown6 hb6)
                go_ret2
                exact .inr ⟨j :: ps, _, HY.out, rfl, HO6.out.lower HB4.out.size, HB6.out⟩
          · have HTRY : Hid (tryF ss ⟨false, t⟩ y (xs.drop (k + 1)) (ys.drop (k + 1)) (tOf bs) j = none) := by
              show _ = _
              unfold tryF
              rw [← HPE.out]
              rfl
            go_wp2_with fail
            refine wp_region_held_drew (S := (fun w' => w'.cell? ⟨bY, oY + k, none⟩ = some (.slice (some ⟨b2, o2, none⟩) ny' cy') ∧ w'.cell? ⟨b2, o2 + j * 2, none⟩ = some (.bool true) ∧ w'.cell? ⟨bx, ox + k * 2, none⟩ = some (.bool false))) (by kernel_rfl) ⟨e0, y0, x0⟩ (fun hHeld => ?_)
            have hd : Below wr.heap.size wr wr.drew := (Below.refl wr.heap.size wr).drew
            refine takeH (i := 0) (v := ?_) rfl rfl (by kernel_rfl) (by kernel_rfl) (by kernel_rfl) (fun _ _ _ h => h) (by rfl) ?_ hHeld ?_
            rotate_left
            · (intro w hSw; (try dsimp only at hSw); first | (go_simp; done) | (go_simp; with_reducible rfl))
            simp only [Act.put, List.setIfInBounds_toArray, List.set_cons_zero, List.set_cons_succ]
            refine takeH (i := 1) (v := ?_) rfl rfl (by kernel_rfl) (by kernel_rfl) (by kernel_rfl) (fun _ _ _ h => h) (by rfl) ?_ hHeld ?_
            rotate_left
            · (intro w hSw; (try dsimp only at hSw); first | (go_simp; done) | (go_simp; with_reducible rfl))
            simp only [Act.put, List.setIfInBounds_toArray, List.set_cons_zero, List.set_cons_succ]
            refine takeH (i := 2) (v := ?_) rfl rfl (by kernel_rfl) (by kernel_rfl) (by kernel_rfl) (fun _ _ _ h => h) (by rfl) ?_ hHeld ?_
            rotate_left
            · (intro w hSw; (try dsimp only at hSw); first | (go_simp; done) | (go_simp; with_reducible rfl))
            simp only [Act.put, List.setIfInBounds_toArray, List.set_cons_zero, List.set_cons_succ]
            refine takeH (i := 3) (v := ?_) rfl rfl (by kernel_rfl) (by kernel_rfl) (by kernel_rfl) (fun _ _ _ h => h) (by rfl) ?_ hHeld ?_
            rotate_left
            · (intro w hSw; (try dsimp only at hSw); first | (go_simp; done) | (go_simp; with_reducible rfl))
            simp only [Act.put, List.setIfInBounds_toArray, List.set_cons_zero, List.set_cons_succ]
            refine takeH (i := 4) (v := ?_) rfl rfl (by kernel_rfl) (by kernel_rfl) (by kernel_rfl) (fun _ _ _ h => h) (by rfl) ?_ hHeld ?_
            rotate_left
            · (intro w hSw; (try dsimp only at hSw); first | (go_simp; done) | (go_simp; with_reducible rfl))
            simp only [Act.put, List.setIfInBounds_toArray, List.set_cons_zero, List.set_cons_succ]
            refine takeH (i := 5) (v := ?_) rfl rfl (by kernel_rfl) (by kernel_rfl) (by kernel_rfl) (fun _ _ _ h => h) (by rfl) ?_ hHeld ?_
            rotate_left
            · (intro w hSw; (try dsimp only at hSw); first | (go_simp; done) | (go_simp; with_reducible rfl))
            simp only [Act.put, List.setIfInBounds_toArray, List.set_cons_zero, List.set_cons_succ]
            refine takeH (i := 6) (v := ?_) rfl rfl (by kernel_rfl) (by kernel_rfl) (by kernel_rfl) (fun _ _ _ h => h) (by rfl) ?_ hHeld ?_
            rotate_left
            · (intro w hSw; (try dsimp only at hSw); first | (go_simp; done) | (go_simp; with_reducible rfl))
            simp only [Act.put, List.setIfInBounds_toArray, List.set_cons_zero, List.set_cons_succ]
            refine takeH (i := 7) (v := ?_) rfl rfl (by kernel_rfl) (by kernel_rfl) (by kernel_rfl) (fun _ _ _ h => h) (by rfl) ?_ hHeld ?_
            rotate_left
            · (intro w hSw; (try dsimp only at hSw); first | (go_simp; done) | (go_simp; with_reducible rfl))
            simp only [Act.put, List.setIfInBounds_toArray, List.set_cons_zero, List.set_cons_succ]
            refine takeH (i := 8) (v := ?_) rfl rfl (by kernel_rfl) (by kernel_rfl) (by kernel_rfl) (fun _ _ _ h => h) (by rfl) ?_ hHeld ?_
            rotate_left
            · (intro w hSw; (try dsimp only at hSw); first | (go_simp; done) | (go_simp; with_reducible rfl))
            simp only [Act.put, List.setIfInBounds_toArray, List.set_cons_zero, List.set_cons_succ]
            refine takeH (i := 9) (v := ?_) rfl rfl (by kernel_rfl) (by kernel_rfl) (by kernel_rfl) (fun _ _ _ h => h) (by rfl) ?_ hHeld ?_
            rotate_left
            · (intro w hSw; (try dsimp only at hSw); first | (go_simp; done) | (go_simp; with_reducible rfl))
            simp only [Act.put, List.setIfInBounds_toArray, List.set_cons_zero, List.set_cons_succ]
            refine takeH (i := 10) (v := ?_) rfl rfl (by kernel_rfl) (by kernel_rfl) (by kernel_rfl) (fun _ _ _ h => h) (by rfl) ?_ hHeld ?_
            rotate_left
            · (intro w hSw; (try dsimp only at hSw); first | (go_simp; done) | (go_simp; with_reducible rfl))
            simp only [Act.put, List.setIfInBounds_toArray, List.set_cons_zero, List.set_cons_succ]
            refine takeH (i := 11) (v := ?_) rfl rfl (by kernel_rfl) (by kernel_rfl) (by kernel_rfl) (fun _ _ _ h => h) (by rfl) ?_ hHeld ?_
            rotate_left
            · (intro w hSw; (try dsimp only at hSw); first | (go_simp; done) | (go_simp; with_reducible rfl))
            simp only [Act.put, List.setIfInBounds_toArray, List.set_cons_zero, List.set_cons_succ]
            refine takeH (i := 12) (v := ?_) rfl rfl (by kernel_rfl) (by kernel_rfl) (by kernel_rfl) (fun _ _ _ h => h) (by rfl) ?_ hHeld ?_
            rotate_left
            · (intro w hSw; (try dsimp only at hSw); first | (go_simp; done) | (go_simp; with_reducible rfl))
            simp only [Act.put, List.setIfInBounds_toArray, List.set_cons_zero, List.set_cons_succ]
            refine takeH (i := 13) (v := ?_) rfl rfl (by kernel_rfl) (by kernel_rfl) (by kernel_rfl) (fun _ _ _ h => h) (by rfl) ?_ hHeld ?_
            rotate_left
            · (intro w hSw; (try dsimp only at hSw); first | (go_simp; done) | (go_simp; with_reducible rfl))
            simp only [Act.put, List.setIfInBounds_toArray, List.set_cons_zero, List.set_cons_succ]
            refine wpAnyH_done (by kernel_rfl) ?_ _
            obtain ⟨w1, hw1⟩ : ∃ w1, w1 = wr.drew := ⟨_, rfl⟩
            rw [← hw1] at hd ⊢
            have HB1 := Lib.hid (HBW.out.trans (hd.mono hsz))
            have hs1 := HB1.out.size
            have e1 : w1.cell? ⟨bY, oY + k, none⟩ = some (.slice (some ⟨b2, o2, none⟩) ny' cy') := by rw [hw1]; exact e0
            have y3 : w1.cell? ⟨b2, o2 + j * 2 + 1, none⟩ = some (.slice AS s.length cs) := by rw [hw1]; exact y1
            have x3 : w1.cell? ⟨bx, ox + k * 2 + 1, none⟩ = some (.slice AT t.length cT) := by rw [hw1]; exact x1
            clear hd hw1 e0 y0 y1 x0 x1
            go_wp2
            go_roundw
            case rel => exact ⟨j + 1, by go_num, by omega, HFR.out.trans (fst_no hjy HTRY.out), HB1.out⟩
            case measure => simp [intOf]; omega
        · cases yn
          · have HTRY : Hid (tryF ss ⟨true, t⟩ y (xs.drop (k + 1)) (ys.drop (k + 1)) (tOf bs) j = none) := by
              show _ = _
              unfold tryF
              rw [← HPE.out]
              rfl
            go_wp2_with fail
            refine wp_region_held_drew (S := (fun w' => w'.cell? ⟨bY, oY + k, none⟩ = some (.slice (some ⟨b2, o2, none⟩) ny' cy') ∧ w'.cell? ⟨b2, o2 + j * 2, none⟩ = some (.bool false) ∧ w'.cell? ⟨bx, ox + k * 2, none⟩ = some (.bool true))) (by kernel_rfl) ⟨e0, y0, x0⟩ (fun hHeld => ?_)
            have hd : Below wr.heap.size wr wr.drew := (Below.refl wr.heap.size wr).drew
            refine takeH (i := 0) (v := ?_) rfl rfl (by kernel_rfl) (by kernel_rfl) (by kernel_rfl) (fun _ _ _ h => h) (by rfl) ?_ hHeld ?_
            rotate_left
            · (intro w hSw; (try dsimp only at hSw); first | (go_simp; done) | (go_simp; with_reducible rfl))
            simp only [Act.put, List.setIfInBounds_toArray, List.set_cons_zero, List.set_cons_succ]
            refine takeH (i := 1) (v := ?_) rfl rfl (by kernel_rfl) (by kernel_rfl) (by kernel_rfl) (fun _ _ _ h => h) (by rfl) ?_ hHeld ?_
            rotate_left
            · (intro w hSw; (try dsimp only at hSw); first | (go_simp; done) | (go_simp; with_reducible rfl))
            simp only [Act.put, List.setIfInBounds_toArray, List.set_cons_zero, List.set_cons_succ]
            refine takeH (i := 2) (v := ?_) rfl rfl (by kernel_rfl) (by kernel_rfl) (by kernel_rfl) (fun _ _ _ h => h) (by rfl) ?_ hHeld ?_
            rotate_left
            · (intro w hSw; (try dsimp only at hSw); first | (go_simp; done) | (go_simp; with_reducible rfl))
            simp only [Act.put, List.setIfInBounds_toArray, List.set_cons_zero, List.set_cons_succ]
            refine takeH (i := 3) (v := ?_) rfl rfl (by kernel_rfl) (by kernel_rfl) (by kernel_rfl) (fun _ _ _ h => h) (by rfl) ?_ hHeld ?_
            rotate_left
            · (intro w hSw; (try dsimp only at hSw); first | (go_simp; done) | (go_simp; with_reducible rfl))
            simp only [Act.put, List.setIfInBounds_toArray, List.set_cons_zero, List.set_cons_succ]
            refine takeH (i := 4) (v := ?_) rfl rfl (by kernel_rfl) (by kernel_rfl) (by kernel_rfl) (fun _ _ _ h => h) (by rfl) ?_ hHeld ?_
            rotate_left
            · (intro w hSw; (try dsimp only at hSw); first | (go_simp; done) | (go_simp; with_reducible rfl))
            simp only [Act.put, List.setIfInBounds_toArray, List.set_cons_zero, List.set_cons_succ]
            refine takeH (i := 5) (v := ?_) rfl rfl (by kernel_rfl) (by kernel_rfl) (by kernel_rfl) (fun _ _ _ h => h) (by rfl) ?_ hHeld ?_
            rotate_left
            · (intro w hSw; (try dsimp only at hSw); first | (go_simp; done) | (go_simp; with_reducible rfl))
            simp only [Act.put, List.setIfInBounds_toArray, List.set_cons_zero, List.set_cons_succ]
            refine takeH (i := 6) (v := ?_) rfl rfl (by kernel_rfl) (by kernel_rfl) (by kernel_rfl) (fun _ _ _ h => h) (by rfl) ?_ hHeld ?_
            rotate_left
            · (intro w hSw; (try dsimp only at hSw); first | (go_simp; done) | (go_simp; with_reducible rfl))
            simp only [Act.put, List.setIfInBounds_toArray, List.set_cons_zero, List.set_cons_succ]
            refine takeH (i := 7) (v := ?_) rfl rfl (by kernel_rfl) (by kernel_rfl) (by kernel_rfl) (fun _ _ _ h => h) (by rfl) ?_ hHeld ?_
            rotate_left
            · (intro w hSw; (try dsimp only at hSw); first | (go_simp; done) | (go_simp; with_reducible rfl))
            simp only [Act.put, List.setIfInBounds_toArray, List.set_cons_zero, List.set_cons_succ]
            refine takeH (i := 8) (v := ?_) rfl rfl (by kernel_rfl) (by kernel_rfl) (by kernel_rfl) (fun _ _ _ h => h) (by rfl) ?_ hHeld ?_
            rotate_left
            · (intro w hSw; (try dsimp only at hSw); first | (go_simp; done) | (go_simp; with_reducible rfl))
            simp only [Act.put, List.setIfInBounds_toArray, List.set_cons_zero, List.set_cons_succ]
            refine takeH (i := 9) (v := ?_) rfl rfl (by kernel_rfl) (by kernel_rfl) (by kernel_rfl) (fun _ _ _ h => h) (by rfl) ?_ hHeld ?_
            rotate_left
            · (intro w hSw; (try dsimp only at hSw); first | (go_simp; done) | (go_simp; with_reducible rfl))
            simp only [Act.put, List.setIfInBounds_toArray, List.set_cons_zero, List.set_cons_succ]
            refine takeH (i := 10) (v := ?_) rfl rfl (by kernel_rfl) (by kernel_rfl) (by kernel_rfl) (fun _ _ _ h => h) (by rfl) ?_ hHeld ?_
            rotate_left
            · (intro w hSw; (try dsimp only at hSw); first | (go_simp; done) | (go_simp; with_reducible rfl))
            simp only [Act.put, List.setIfInBounds_toArray, List.set_cons_zero, List.set_cons_succ]
            refine takeH (i := 11) (v := ?_) rfl rfl (by kernel_rfl) (by kernel_rfl) (by kernel_rfl) (fun _ _ _ h => h) (by rfl) ?_ hHeld ?_
            rotate_left
            · (intro w hSw; (try dsimp only at hSw); first | (go_simp; done) | (go_simp; with_reducible rfl))
            simp only [Act.put, List.setIfInBounds_toArray, List.set_cons_zero, List.set_cons_succ]
            refine takeH (i := 12) (v := ?_) rfl rfl (by kernel_rfl) (by kernel_rfl) (by kernel_rfl) (fun _ _ _ h => h) (by rfl) ?_ hHeld ?_
            rotate_left
            · (intro w hSw; (try dsimp only at hSw); first | (go_simp; done) | (go_simp; with_reducible rfl))
            simp only [Act.put, List.setIfInBounds_toArray, List.set_cons_zero, List.set_cons_succ]
            refine takeH (i := 13) (v := ?_) rfl rfl (by kernel_rfl) (by kernel_rfl) (by kernel_rfl) (fun _ _ _ h => h) (by rfl) ?_ hHeld ?_
            rotate_left
            · (intro w hSw; (try dsimp only at hSw); first | (go_simp; done) | (go_simp; with_reducible rfl))
            simp only [Act.put, List.setIfInBounds_toArray, List.set_cons_zero, List.set_cons_succ]
            refine wpAnyH_done (by kernel_rfl) ?_ _
            obtain ⟨w1, hw1⟩ : ∃ w1, w1 = wr.drew := ⟨_, rfl⟩
            rw [← hw1] at hd ⊢
            have HB1 := Lib.hid (HBW.out.trans (hd.mono hsz))
            have hs1 := HB1.out.size
            have e1 : w1.cell? ⟨bY, oY + k, none⟩ = some (.slice (some ⟨b2, o2, none⟩) ny' cy') := by rw [hw1]; exact e0
            have y3 : w1.cell? ⟨b2, o2 + j * 2 + 1, none⟩ = some (.slice AS s.length cs) := by rw [hw1]; exact y1
            have x3 : w1.cell? ⟨bx, ox + k * 2 + 1, none⟩ = some (.slice AT t.length cT) := by rw [hw1]; exact x1
            clear hd hw1 e0 y0 y1 x0 x1
            go_wp2
            go_roundw
            case rel => exact ⟨j + 1, by go_num, by omega, HFR.out.trans (fst_no hjy HTRY.out), HB1.out⟩
            case measure => simp [intOf]; omega
          · have HTD : Hid (tryF ss ⟨true, t⟩ y (xs.drop (k + 1)) (ys.drop (k + 1)) (tOf bs) j = (match mt ss s (tOf bs) 0 t with | some T' => fitP ss (xs.drop (k + 1)) (ys.drop (k + 1)) T' | none => none)) := by
              show _ = _
              unfold tryF
              rw [← HPE.out]
              rfl
            go_wp2_with fail
            refine wp_region_held_drew (S := (fun w' => w'.cell? ⟨bY, oY + k, none⟩ = some (.slice (some ⟨b2, o2, none⟩) ny' cy') ∧ w'.cell? ⟨b2, o2 + j * 2, none⟩ = some (.bool true) ∧ w'.cell? ⟨bx, ox + k * 2, none⟩ = some (.bool true))) (by kernel_rfl) ⟨e0, y0, x0⟩ (fun hHeld => ?_)
            have hd : Below wr.heap.size wr wr.drew := (Below.refl wr.heap.size wr).drew
            refine takeH (i := 0) (v := ?_) rfl rfl (by kernel_rfl) (by kernel_rfl) (by kernel_rfl) (fun _ _ _ h => h) (by rfl) ?_ hHeld ?_
            rotate_left
            · (intro w hSw; (try dsimp only at hSw); first | (go_simp; done) | (go_simp; with_reducible rfl))
            simp only [Act.put, List.setIfInBounds_toArray, List.set_cons_zero, List.set_cons_succ]
            refine takeH (i := 1) (v := ?_) rfl rfl (by kernel_rfl) (by kernel_rfl) (by kernel_rfl) (fun _ _ _ h => h) (by rfl) ?_ hHeld ?_
            rotate_left
            · (intro w hSw; (try dsimp only at hSw); first | (go_simp; done) | (go_simp; with_reducible rfl))
            simp only [Act.put, List.setIfInBounds_toArray, List.set_cons_zero, List.set_cons_succ]
            refine takeH (i := 2) (v := ?_) rfl rfl (by kernel_rfl) (by kernel_rfl) (by kernel_rfl) (fun _ _ _ h => h) (by rfl) ?_ hHeld ?_
            rotate_left
            · (intro w hSw; (try dsimp only at hSw); first | (go_simp; done) | (go_simp; with_reducible rfl))
            simp only [Act.put, List.setIfInBounds_toArray, List.set_cons_zero, List.set_cons_succ]
            refine takeH (i := 3) (v := ?_) rfl rfl (by kernel_rfl) (by kernel_rfl) (by kernel_rfl) (fun _ _ _ h => h) (by rfl) ?_ hHeld ?_
            rotate_left
            · (intro w hSw; (try dsimp only at hSw); first | (go_simp; done) | (go_simp; with_reducible rfl))
            simp only [Act.put, List.setIfInBounds_toArray, List.set_cons_zero, List.set_cons_succ]
            refine takeH (i := 4) (v := ?_) rfl rfl (by kernel_rfl) (by kernel_rfl) (by kernel_rfl) (fun _ _ _ h => h) (by rfl) ?_ hHeld ?_
            rotate_left
            · (intro w hSw; (try dsimp only at hSw); first | (go_simp; done) | (go_simp; with_reducible rfl))
            simp only [Act.put, List.setIfInBounds_toArray, List.set_cons_zero, List.set_cons_succ]
            refine takeH (i := 5) (v := ?_) rfl rfl (by kernel_rfl) (by kernel_rfl) (by kernel_rfl) (fun _ _ _ h => h) (by rfl) ?_ hHeld ?_
            rotate_left
            · (intro w hSw; (try dsimp only at hSw); first | (go_simp; done) | (go_simp; with_reducible rfl))
            simp only [Act.put, List.setIfInBounds_toArray, List.set_cons_zero, List.set_cons_succ]
            refine takeH (i := 6) (v := ?_) rfl rfl (by kernel_rfl) (by kernel_rfl) (by kernel_rfl) (fun _ _ _ h => h) (by rfl) ?_ hHeld ?_
            rotate_left
            · (intro w hSw; (try dsimp only at hSw); first | (go_simp; done) | (go_simp; with_reducible rfl))
            simp only [Act.put, List.setIfInBounds_toArray, List.set_cons_zero, List.set_cons_succ]
            refine takeH (i := 7) (v := ?_) rfl rfl (by kernel_rfl) (by kernel_rfl) (by kernel_rfl) (fun _ _ _ h => h) (by rfl) ?_ hHeld ?_
            rotate_left
            · (intro w hSw; (try dsimp only at hSw); first | (go_simp; done) | (go_simp; with_reducible rfl))
            simp only [Act.put, List.setIfInBounds_toArray, List.set_cons_zero, List.set_cons_succ]
            refine takeH (i := 8) (v := ?_) rfl rfl (by kernel_rfl) (by kernel_rfl) (by kernel_rfl) (fun _ _ _ h => h) (by rfl) ?_ hHeld ?_
            rotate_left
            · (intro w hSw; (try dsimp only at hSw); first | (go_simp; done) | (go_simp; with_reducible rfl))
            simp only [Act.put, List.setIfInBounds_toArray, List.set_cons_zero, List.set_cons_succ]
            refine takeH (i := 9) (v := ?_) rfl rfl (by kernel_rfl) (by kernel_rfl) (by kernel_rfl) (fun _ _ _ h => h) (by rfl) ?_ hHeld ?_
            rotate_left
            · (intro w hSw; (try dsimp only at hSw); first | (go_simp; done) | (go_simp; with_reducible rfl))
            simp only [Act.put, List.setIfInBounds_toArray, List.set_cons_zero, List.set_cons_succ]
            refine takeH (i := 10) (v := ?_) rfl rfl (by kernel_rfl) (by kernel_rfl) (by kernel_rfl) (fun _ _ _ h => h) (by rfl) ?_ hHeld ?_
            rotate_left
            · (intro w hSw; (try dsimp only at hSw); first | (go_simp; done) | (go_simp; with_reducible rfl))
            simp only [Act.put, List.setIfInBounds_toArray, List.set_cons_zero, List.set_cons_succ]
            refine takeH (i := 11) (v := ?_) rfl rfl (by kernel_rfl) (by kernel_rfl) (by kernel_rfl) (fun _ _ _ h => h) (by rfl) ?_ hHeld ?_
            rotate_left
            · (intro w hSw; (try dsimp only at hSw); first | (go_simp; done) | (go_simp; with_reducible rfl))
            simp only [Act.put, List.setIfInBounds_toArray, List.set_cons_zero, List.set_cons_succ]
            refine takeH (i := 12) (v := ?_) rfl rfl (by kernel_rfl) (by kernel_rfl) (by kernel_rfl) (fun _ _ _ h => h) (by rfl) ?_ hHeld ?_
            rotate_left
            · (intro w hSw; (try dsimp only at hSw); first | (go_simp; done) | (go_simp; with_reducible rfl))
            simp only [Act.put, List.setIfInBounds_toArray, List.set_cons_zero, List.set_cons_succ]
            refine takeH (i := 13) (v := ?_) rfl rfl (by kernel_rfl) (by kernel_rfl) (by kernel_rfl) (fun _ _ _ h => h) (by rfl) ?_ hHeld ?_
            rotate_left
            · (intro w hSw; (try dsimp only at hSw); first | (go_simp; done) | (go_simp; with_reducible rfl))
            simp only [Act.put, List.setIfInBounds_toArray, List.set_cons_zero, List.set_cons_succ]
            refine wpAnyH_done (by kernel_rfl) ?_ _
            obtain ⟨w1, hw1⟩ : ∃ w1, w1 = wr.drew := ⟨_, rfl⟩
            rw [← hw1] at hd ⊢
            have HB1 := Lib.hid (HBW.out.trans (hd.mono hsz))
            have hs1 := HB1.out.size
            have e1 : w1.cell? ⟨bY, oY + k, none⟩ = some (.slice (some ⟨b2, o2, none⟩) ny' cy') := by rw [hw1]; exact e0
            have y3 : w1.cell? ⟨b2, o2 + j * 2 + 1, none⟩ = some (.slice AS s.length cs) := by rw [hw1]; exact y1
            have x3 : w1.cell? ⟨bx, ox + k * 2 + 1, none⟩ = some (.slice AT t.length cT) := by rw [hw1]; exact x1
            clear hd hw1 e0 y0 y1 x0 x1
            cases hmt : mt ss s (tOf bs) 0 t with
            | none =>
              have HMT := Lib.hid hmt
              have HTRY : Hid (tryF ss ⟨true, t⟩ y (xs.drop (k + 1)) (ys.drop (k + 1)) (tOf bs) j = none) := by show _ = _; rw [HTD.out, hmt]
              clear hmt
              go_wp2_with fail
              refine wp_region_held_drew (S := (fun w' => w'.cell? ⟨bY, oY + k, none⟩ = some (.slice (some ⟨b2, o2, none⟩) ny' cy') ∧ w'.cell? ⟨b2, o2 + j * 2 + 1, none⟩ = some (.slice AS s.length cs) ∧ w'.cell? ⟨bx, ox + k * 2 + 1, none⟩ = some (.slice AT t.length cT))) (by kernel_rfl) ⟨e1, y3, x3⟩ (fun hHeld => ?_)
              have hd : Below w1.heap.size w1 w1.drew := (Below.refl w1.heap.size w1).drew
              have hb1d := HB1.out.trans (hd.mono hs1)
              refine takeH (i := 0) (v := ?_) rfl rfl (by kernel_rfl) (by kernel_rfl) (by kernel_rfl) (fun _ _ _ h => h) (by rfl) ?_ hHeld ?_
              rotate_left
              · (intro w hSw; (try dsimp only at hSw); first | (go_simp; done) | (go_simp; with_reducible rfl))
              simp only [Act.put, List.setIfInBounds_toArray, List.set_cons_zero, List.set_cons_succ]
              refine takeH (i := 1) (v := ?_) rfl rfl (by kernel_rfl) (by kernel_rfl) (by kernel_rfl) (fun _ _ _ h => h) (by rfl) ?_ hHeld ?_
              rotate_left
              · (intro w hSw; (try dsimp only at hSw); first | (go_simp; done) | (go_simp; with_reducible rfl))
              simp only [Act.put, List.setIfInBounds_toArray, List.set_cons_zero, List.set_cons_succ]
              refine takeH (i := 2) (v := ?_) rfl rfl (by kernel_rfl) (by kernel_rfl) (by kernel_rfl) (fun _ _ _ h => h) (by rfl) ?_ hHeld ?_
              rotate_left
              · (intro w hSw; (try dsimp only at hSw); first | (go_simp; done) | (go_simp; with_reducible rfl))
              simp only [Act.put, List.setIfInBounds_toArray, List.set_cons_zero, List.set_cons_succ]
              refine takeH (i := 3) (v := ?_) rfl rfl (by kernel_rfl) (by kernel_rfl) (by kernel_rfl) (fun _ _ _ h => h) (by rfl) ?_ hHeld ?_
              rotate_left
              · (intro w hSw; (try dsimp only at hSw); first | (go_simp; done) | (go_simp; with_reducible rfl))
              simp only [Act.put, List.setIfInBounds_toArray, List.set_cons_zero, List.set_cons_succ]
              refine takeH (i := 4) (v := ?_) rfl rfl (by kernel_rfl) (by kernel_rfl) (by kernel_rfl) (fun _ _ _ h => h) (by rfl) ?_ hHeld ?_
              rotate_left
              · (intro w hSw; (try dsimp only at hSw); first | (go_simp; done) | (go_simp; with_reducible rfl))
              simp only [Act.put, List.setIfInBounds_toArray, List.set_cons_zero, List.set_cons_succ]
              refine takeH (i := 5) (v := ?_) rfl rfl (by kernel_rfl) (by kernel_rfl) (by kernel_rfl) (fun _ _ _ h => h) (by rfl) ?_ hHeld ?_
              rotate_left
              · (intro w hSw; (try dsimp only at hSw); first | (go_simp; done) | (go_simp; with_reducible rfl))
              simp only [Act.put, List.setIfInBounds_toArray, List.set_cons_zero, List.set_cons_succ]
              refine takeH (i := 6) (v := ?_) rfl rfl (by kernel_rfl) (by kernel_rfl) (by kernel_rfl) (fun _ _ _ h => h) (by rfl) ?_ hHeld ?_
              rotate_left
              · (intro w hSw; (try dsimp only at hSw); first | (go_simp; done) | (go_simp; with_reducible rfl))
              simp only [Act.put, List.setIfInBounds_toArray, List.set_cons_zero, List.set_cons_succ]
              refine takeH (i := 7) (v := ?_) rfl rfl (by kernel_rfl) (by kernel_rfl) (by kernel_rfl) (fun _ _ _ h => h) (by rfl) ?_ hHeld ?_
              rotate_left
              · (intro w hSw; (try dsimp only at hSw); first | (go_simp; done) | (go_simp; with_reducible rfl))
              simp only [Act.put, List.setIfInBounds_toArray, List.set_cons_zero, List.set_cons_succ]
              refine takeH (i := 8) (v := ?_) rfl rfl (by kernel_rfl) (by kernel_rfl) (by kernel_rfl) (fun _ _ _ h => h) (by rfl) ?_ hHeld ?_
              rotate_left
              · (intro w hSw; (try dsimp only at hSw); first | (go_simp; done) | (go_simp; with_reducible rfl))
              simp only [Act.put, List.setIfInBounds_toArray, List.set_cons_zero, List.set_cons_succ]
              refine takeH (i := 9) (v := ?_) rfl rfl (by kernel_rfl) (by kernel_rfl) (by kernel_rfl) (fun _ _ _ h => h) (by rfl) ?_ hHeld ?_
              rotate_left
              · (intro w hSw; (try dsimp only at hSw); first | (go_simp; done) | (go_simp; with_reducible rfl))
              simp only [Act.put, List.setIfInBounds_toArray, List.set_cons_zero, List.set_cons_succ]
              refine takeH (i := 10) (v := ?_) rfl rfl (by kernel_rfl) (by kernel_rfl) (by kernel_rfl) (fun _ _ _ h => h) (by rfl) ?_ hHeld ?_
              rotate_left
              · (intro w hSw; (try dsimp only at hSw); first | (go_simp; done) | (go_simp; with_reducible rfl))
              simp only [Act.put, List.setIfInBounds_toArray, List.set_cons_zero, List.set_cons_succ]
              refine takeH (i := 11) (v := ?_) rfl rfl (by kernel_rfl) (by kernel_rfl) (by kernel_rfl) (fun _ _ _ h => h) (by rfl) ?_ hHeld ?_
              rotate_left
              · (intro w hSw; (try dsimp only at hSw); first | (go_simp; done) | (go_simp; with_reducible rfl))
              simp only [Act.put, List.setIfInBounds_toArray, List.set_cons_zero, List.set_cons_succ]
              refine takeH (i := 12) (v := ?_) rfl rfl (by kernel_rfl) (by kernel_rfl) (by kernel_rfl) (fun _ _ _ h => h) (by rfl) ?_ hHeld ?_
              rotate_left
              · (intro w hSw; (try dsimp only at hSw); first | (go_simp; done) | (go_simp; with_reducible rfl))
              simp only [Act.put, List.setIfInBounds_toArray, List.set_cons_zero, List.set_cons_succ]
              refine takeH (i := 13) (v := ?_) rfl rfl (by kernel_rfl) (by kernel_rfl) (by kernel_rfl) (fun _ _ _ h => h) (by rfl) ?_ hHeld ?_
              rotate_left
              · (intro w hSw; (try dsimp only at hSw); first | (go_simp; done) | (go_simp; with_reducible rfl))
              simp only [Act.put, List.setIfInBounds_toArray, List.set_cons_zero, List.set_cons_succ]
              refine takeH (i := 14) (v := ?_) rfl rfl (by kernel_rfl) (by kernel_rfl) (by kernel_rfl) (fun _ _ _ h => h) (by rfl) ?_ hHeld ?_
              rotate_left
              · (intro w hSw; (try dsimp only at hSw); first | (go_simp; done) | (go_simp; with_reducible rfl))
              simp only [Act.put, List.setIfInBounds_toArray, List.set_cons_zero, List.set_cons_succ]
              refine wpAnyH_ready (rs := [15]) (by kernel_rfl) (by simp) ?_
              refine AllReadyH.cons rfl (fun K hK => ?_) AllReadyH.nil
              go_simp
              refine (refFurther_any A AT AS n c t.length cT s.length cs base0 ss t s vS bs vs _ (HSY.out.on hb1d) hn (HXR.out.at_.on hb1d) (HYR.out.at_.on hb1d) HYR.out.cap HPT.out (HBS.out.on hb1d) (HRD.out.on hb1d) HTT.out (by omega)).mono ?_
              rintro e w3 hfp
              obtain ⟨v3, rfl, hb⟩ := hfp.no HMT.out
              have hb3 := hd.trans (hb.mono hd.size)
              have HB3 := Lib.hid (HB1.out.trans (hb3.mono hs1))
              have e2 : w3.cell? ⟨bY, oY + k, none⟩ = some (.slice (some ⟨b2, o2, none⟩) ny' cy') := by rw [HB3.out.cell (p := ⟨bY, oY + k, none⟩) hbY]; exact e0'
              have y4 : w3.cell? ⟨b2, o2 + j * 2 + 1, none⟩ = some (.slice AS s.length cs) := by rw [hb3.cell (p := ⟨b2, o2 + j * 2 + 1, none⟩) (Nat.lt_of_lt_of_le hb2 hs1)]; exact y3
              have x4 : w3.cell? ⟨bx, ox + k * 2 + 1, none⟩ = some (.slice AT t.length cT) := by rw [hb3.cell (p := ⟨bx, ox + k * 2 + 1, none⟩) (Nat.lt_of_lt_of_le hbx hs1)]; exact x3
              clear hd hb hb3 hb1d
              go_wp2_with fail
              refine hK.out _ _ ?_ (fun hHeld => ?_)
              · exact ⟨e2, y4, x4⟩
              clear hK K
              refine takeH (i := 16) (v := ?_) rfl rfl (by kernel_rfl) (by kernel_rfl) (by kernel_rfl) (fun _ _ _ h => h) (by rfl) ?_ hHeld ?_
              rotate_left
              · (intro w hSw; (try dsimp only at hSw); first | (go_simp; done) | (go_simp; with_reducible rfl))
              simp only [Act.put, List.setIfInBounds_toArray, List.set_cons_zero, List.set_cons_succ]
              refine takeH (i := 17) (v := ?_) rfl rfl (by kernel_rfl) (by kernel_rfl) (by kernel_rfl) (fun _ _ _ h => h) (by rfl) ?_ hHeld ?_
              rotate_left
              · (intro w hSw; (try dsimp only at hSw); first | (go_simp; done) | (go_simp; with_reducible rfl))
              simp only [Act.put, List.setIfInBounds_toArray, List.set_cons_zero, List.set_cons_succ]
              refine takeH (i := 18) (v := ?_) rfl rfl (by kernel_rfl) (by kernel_rfl) (by kernel_rfl) (fun _ _ _ h => h) (by rfl) ?_ hHeld ?_
              rotate_left
              · (intro w hSw; (try dsimp only at hSw); first | (go_simp; done) | (go_simp; with_reducible rfl))
              simp only [Act.put, List.setIfInBounds_toArray, List.set_cons_zero, List.set_cons_succ]
              refine takeH (i := 19) (v := ?_) rfl rfl (by kernel_rfl) (by kernel_rfl) (by kernel_rfl) (fun _ _ _ h => h) (by rfl) ?_ hHeld ?_
              rotate_left
              · (intro w hSw; (try dsimp only at hSw); first | (go_simp; done) | (go_simp; with_reducible rfl))
              simp only [Act.put, List.setIfInBounds_toArray, List.set_cons_zero, List.set_cons_succ]
              refine takeH (i := 20) (v := ?_) rfl rfl (by kernel_rfl) (by kernel_rfl) (by kernel_rfl) (fun _ _ _ h => h) (by rfl) ?_ hHeld ?_
              rotate_left
              · (intro w hSw; (try dsimp only at hSw); first | (go_simp; done) | (go_simp; with_reducible rfl))
              simp only [Act.put, List.setIfInBounds_toArray, List.set_cons_zero, List.set_cons_succ]
              refine wpAnyH_done (by kernel_rfl) ?_ _
              go_wp2
              go_roundw
              case rel => exact ⟨j + 1, by go_num, by omega, HFR.out.trans (fst_no hjy HTRY.out), HB3.out⟩
              case measure => simp [intOf]; omega
            | some T' =>
              have HMT := Lib.hid hmt
              have HTF : Hid (tryF ss ⟨true, t⟩ y (xs.drop (k + 1)) (ys.drop (k + 1)) (tOf bs) j = fitP ss (xs.drop (k + 1)) (ys.drop (k + 1)) T') := by show _ = _; rw [HTD.out, hmt]
              clear hmt
              go_wp2_with fail
              refine wp_region_held_drew (S := (fun w' => w'.cell? ⟨bY, oY + k, none⟩ = some (.slice (some ⟨b2, o2, none⟩) ny' cy') ∧ w'.cell? ⟨b2, o2 + j * 2 + 1, none⟩ = some (.slice AS s.length cs) ∧ w'.cell? ⟨bx, ox + k * 2 + 1, none⟩ = some (.slice AT t.length cT))) (by kernel_rfl) ⟨e1, y3, x3⟩ (fun hHeld => ?_)
              have hd : Below w1.heap.size w1 w1.drew := (Below.refl w1.heap.size w1).drew
              have hb1d := HB1.out.trans (hd.mono hs1)
              refine takeH (i := 0) (v := ?_) rfl rfl (by kernel_rfl) (by kernel_rfl) (by kernel_rfl) (fun _ _ _ h => h) (by rfl) ?_ hHeld ?_
              rotate_left
              · (intro w hSw; (try dsimp only at hSw); first | (go_simp; done) | (go_simp; with_reducible rfl))
              simp only [Act.put, List.setIfInBounds_toArray, List.set_cons_zero, List.set_cons_succ]
              refine takeH (i := 1) (v := ?_) rfl rfl (by kernel_rfl) (by kernel_rfl) (by kernel_rfl) (fun _ _ _ h => h) (by rfl) ?_ hHeld ?_
              rotate_left
              · (intro w hSw; (try dsimp only at hSw); first | (go_simp; done) | (go_simp; with_reducible rfl))
              simp only [Act.put, List.setIfInBounds_toArray, List.set_cons_zero, List.set_cons_succ]
              refine takeH (i := 2) (v := ?_) rfl rfl (by kernel_rfl) (by kernel_rfl) (by kernel_rfl) (fun _ _ _ h => h) (by rfl) ?_ hHeld ?_
              rotate_left
              · (intro w hSw; (try dsimp only at hSw); first | (go_simp; done) | (go_simp; with_reducible rfl))
              simp only [Act.put, List.setIfInBounds_toArray, List.set_cons_zero, List.set_cons_succ]
              refine takeH (i := 3) (v := ?_) rfl rfl (by kernel_rfl) (by kernel_rfl) (by kernel_rfl) (fun _ _ _ h => h) (by rfl) ?_ hHeld ?_
              rotate_left
              · (intro w hSw; (try dsimp only at hSw); first | (go_simp; done) | (go_simp; with_reducible rfl))
              simp only [Act.put, List.setIfInBounds_toArray, List.set_cons_zero, List.set_cons_succ]
              refine takeH (i := 4) (v := ?_) rfl rfl (by kernel_rfl) (by kernel_rfl) (by kernel_rfl) (fun _ _ _ h => h) (by rfl) ?_ hHeld ?_
              rotate_left
              · (intro w hSw; (try dsimp only at hSw); first | (go_simp; done) | (go_simp; with_reducible rfl))
              simp only [Act.put, List.setIfInBounds_toArray, List.set_cons_zero, List.set_cons_succ]
              refine takeH (i := 5) (v := ?_) rfl rfl (by kernel_rfl) (by kernel_rfl) (by kernel_rfl) (fun _ _ _ h => h) (by rfl) ?_ hHeld ?_
              rotate_left
              · (intro w hSw; (try dsimp only at hSw); first | (go_simp; done) | (go_simp; with_reducible rfl))
              simp only [Act.put, List.setIfInBounds_toArray, List.set_cons_zero, List.set_cons_succ]
              refine takeH (i := 6) (v := ?_) rfl rfl (by kernel_rfl) (by kernel_rfl) (by kernel_rfl) (fun _ _ _ h => h) (by rfl) ?_ hHeld ?_
              rotate_left
              · (intro w hSw; (try dsimp only at hSw); first | (go_simp; done) | (go_simp; with_reducible rfl))
              simp only [Act.put, List.setIfInBounds_toArray, List.set_cons_zero, List.set_cons_succ]
              refine takeH (i := 7) (v := ?_) rfl rfl (by kernel_rfl) (by kernel_rfl) (by kernel_rfl) (fun _ _ _ h => h) (by rfl) ?_ hHeld ?_
              rotate_left
              · (intro w hSw; (try dsimp only at hSw); first | (go_simp; done) | (go_simp; with_reducible rfl))
              simp only [Act.put, List.setIfInBounds_toArray, List.set_cons_zero, List.set_cons_succ]
              refine takeH (i := 8) (v := ?_) rfl rfl (by kernel_rfl) (by kernel_rfl) (by kernel_rfl) (fun _ _ _ h => h) (by rfl) ?_ hHeld ?_
              rotate_left
              · (intro w hSw; (try dsimp only at hSw); first | (go_simp; done) | (go_simp; with_reducible rfl))
              simp only [Act.put, List.setIfInBounds_toArray, List.set_cons_zero, List.set_cons_succ]
              refine takeH (i := 9) (v := ?_) rfl rfl (by kernel_rfl) (by kernel_rfl) (by kernel_rfl) (fun _ _ _ h => h) (by rfl) ?_ hHeld ?_
              rotate_left
              · (intro w hSw; (try dsimp only at hSw); first | (go_simp; done) | (go_simp; with_reducible rfl))
              simp only [Act.put, List.setIfInBounds_toArray, List.set_cons_zero, List.set_cons_succ]
              refine takeH (i := 10) (v := ?_) rfl rfl (by kernel_rfl) (by kernel_rfl) (by kernel_rfl) (fun _ _ _ h => h) (by rfl) ?_ hHeld ?_
              rotate_left
              · (intro w hSw; (try dsimp only at hSw); first | (go_simp; done) | (go_simp; with_reducible rfl))
              simp only [Act.put, List.setIfInBounds_toArray, List.set_cons_zero, List.set_cons_succ]
              refine takeH (i := 11) (v := ?_) rfl rfl (by kernel_rfl) (by kernel_rfl) (by kernel_rfl) (fun _ _ _ h => h) (by rfl) ?_ hHeld ?_
              rotate_left
              · (intro w hSw; (try dsimp only at hSw); first | (go_simp; done) | (go_simp; with_reducible rfl))
              simp only [Act.put, List.setIfInBounds_toArray, List.set_cons_zero, List.set_cons_succ]
              refine takeH (i := 12) (v := ?_) rfl rfl (by kernel_rfl) (by kernel_rfl) (by kernel_rfl) (fun _ _ _ h => h) (by rfl) ?_ hHeld ?_
              rotate_left
              · (intro w hSw; (try dsimp only at hSw); first | (go_simp; done) | (go_simp; with_reducible rfl))
              simp only [Act.put, List.setIfInBounds_toArray, List.set_cons_zero, List.set_cons_succ]
              refine takeH (i := 13) (v := ?_) rfl rfl (by kernel_rfl) (by kernel_rfl) (by kernel_rfl) (fun _ _ _ h => h) (by rfl) ?_ hHeld ?_
              rotate_left
              · (intro w hSw; (try dsimp only at hSw); first | (go_simp; done) | (go_simp; with_reducible rfl))
              simp only [Act.put, List.setIfInBounds_toArray, List.set_cons_zero, List.set_cons_succ]
              refine takeH (i := 14) (v := ?_) rfl rfl (by kernel_rfl) (by kernel_rfl) (by kernel_rfl) (fun _ _ _ h => h) (by rfl) ?_ hHeld ?_
              rotate_left
              · (intro w hSw; (try dsimp only at hSw); first | (go_simp; done) | (go_simp; with_reducible rfl))
              simp only [Act.put, List.setIfInBounds_toArray, List.set_cons_zero, List.set_cons_succ]
              refine wpAnyH_ready (rs := [15]) (by kernel_rfl) (by simp) ?_
              refine AllReadyH.cons rfl (fun K hK => ?_) AllReadyH.nil
              go_simp
              refine (refFurther_any A AT AS n c t.length cT s.length cs base0 ss t s vS bs vs _ (HSY.out.on hb1d) hn (HXR.out.at_.on hb1d) (HYR.out.at_.on hb1d) HYR.out.cap HPT.out (HBS.out.on hb1d) (HRD.out.on hb1d) HTT.out (by omega)).mono ?_
              rintro e w3 hfp
              obtain ⟨v3, bs', vs', rfl, ho3, hr3, hT3, ht3, hl3, hb⟩ := hfp.yes HMT.out
              have HO3 := Lib.hid ho3
              have HR3 := Lib.hid (hr3.on hb)
              have HT3 := Lib.hid ht3
              have ht49 : t.length ≤ 49 := by
                rcases HPT.out with ⟨q, _⟩ | ⟨q, _⟩
                · exact Tgt.len (.inl q)
                · exact Tgt.len (.inr q)
              have hl4 : bs'.length ≤ 49 * (k + 1) := by omega
              rw [← hT3] at HTF
              clear ho3 hr3 hT3 ht3 hl3
              have hb3 := hd.trans (hb.mono hd.size)
              have HB3 := Lib.hid (HB1.out.trans (hb3.mono hs1))
              have e2 : w3.cell? ⟨bY, oY + k, none⟩ = some (.slice (some ⟨b2, o2, none⟩) ny' cy') := by rw [HB3.out.cell (p := ⟨bY, oY + k, none⟩) hbY]; exact e0'
              have y4 : w3.cell? ⟨b2, o2 + j * 2 + 1, none⟩ = some (.slice AS s.length cs) := by rw [hb3.cell (p := ⟨b2, o2 + j * 2 + 1, none⟩) (Nat.lt_of_lt_of_le hb2 hs1)]; exact y3
              have x4 : w3.cell? ⟨bx, ox + k * 2 + 1, none⟩ = some (.slice AT t.length cT) := by rw [hb3.cell (p := ⟨bx, ox + k * 2 + 1, none⟩) (Nat.lt_of_lt_of_le hbx hs1)]; exact x3
              clear hd hb hb3 hb1d
              go_wp2_with fail
              refine hK.out _ _ ?_ (fun hHeld => ?_)
              · exact ⟨e2, y4, x4⟩
              clear hK K
              refine takeH (i := 16) (v := ?_) rfl rfl (by kernel_rfl) (by kernel_rfl) (by kernel_rfl) (fun _ _ _ h => h) (by rfl) ?_ hHeld ?_
              rotate_left
              · (intro w hSw; (try dsimp only at hSw); first | (go_simp; done) | (go_simp; with_reducible rfl))
              simp only [Act.put, List.setIfInBounds_toArray, List.set_cons_zero, List.set_cons_succ]
              refine takeH (i := 17) (v := ?_) rfl rfl (by kernel_rfl) (by kernel_rfl) (by kernel_rfl) (fun _ _ _ h => h) (by rfl) ?_ hHeld ?_
              rotate_left
              · (intro w hSw; (try dsimp only at hSw); first | (go_simp; done) | (go_simp; with_reducible rfl))
              simp only [Act.put, List.setIfInBounds_toArray, List.set_cons_zero, List.set_cons_succ]
              refine takeH (i := 18) (v := ?_) rfl rfl (by kernel_rfl) (by kernel_rfl) (by kernel_rfl) (fun _ _ _ h => h) (by rfl) ?_ hHeld ?_
              rotate_left
              · (intro w hSw; (try dsimp only at hSw); first | (go_simp; done) | (go_simp; with_reducible rfl))
              simp only [Act.put, List.setIfInBounds_toArray, List.set_cons_zero, List.set_cons_succ]
              refine takeH (i := 19) (v := ?_) rfl rfl (by kernel_rfl) (by kernel_rfl) (by kernel_rfl) (fun _ _ _ h => h) (by rfl) ?_ hHeld ?_
              rotate_left
              · (intro w hSw; (try dsimp only at hSw); first | (go_simp; done) | (go_simp; with_reducible rfl))
              simp only [Act.put, List.setIfInBounds_toArray, List.set_cons_zero, List.set_cons_succ]
              refine takeH (i := 20) (v := ?_) rfl rfl (by kernel_rfl) (by kernel_rfl) (by kernel_rfl) (fun _ _ _ h => h) (by rfl) ?_ hHeld ?_
              rotate_left
              · (intro w hSw; (try dsimp only at hSw); first | (go_simp; done) | (go_simp; with_reducible rfl))
              simp only [Act.put, List.setIfInBounds_toArray, List.set_cons_zero, List.set_cons_succ]
              refine wpAnyH_done (by kernel_rfl) ?_ _
              clear e1 y3 x3
              go_wp2_with fail
              have hcall := IH.out (k + 1) v3 bs' vs' _ w3 (by omega) (HSY.out.on HB3.out) (HXS.out.on HB3.out) (HYS.out.on HB3.out) HO3.out HR3.out HT3.out hl4
              have hik : ((k + 1 : Nat) : Int) = (k : Int) + 1 := by omega
              rw [hik] at hcall
              refine hcall.mono ?_
              clear hcall
              rintro e w4 hfp
              cases hft : fitP ss (xs.drop (k + 1)) (ys.drop (k + 1)) (tOf bs') with
              | none =>
                obtain ⟨rfl, hb4⟩ := hfp.no hft
                have HTRY : Hid (tryF ss ⟨true, t⟩ y (xs.drop (k + 1)) (ys.drop (k + 1)) (tOf bs) j = none) := by show _ = _; rw [HTF.out, hft]
                have HB4 := Lib.hid (HB3.out.trans (hb4.mono HB3.out.size))
                clear hft hfp hb4
                go_wp2
                go_roundw
                case rel => exact ⟨j + 1, by go_num, by omega, HFR.out.trans (fst_no hjy HTRY.out), HB4.out⟩
                case measure => simp [intOf]; omega
              | some ps =>
                obtain ⟨v4, rfl, ho4, hb4⟩ := hfp.yes hft
                have HY : Hid (fitP ss (xs.drop k) (ys.drop k) (tOf bs) = some (j :: ps)) := by show _ = _; rw [HFR.out, fst_yes hjy (HTF.out.trans hft)]
                have HB4 := Lib.hid (HB3.out.trans (hb4.mono HB3.out.size))
                have hsh := ho4.shape
                obtain ⟨A4, c4, rfl, hc4, hi4⟩ := ho4.intsAt
                have hnil : A4 = none → (natsJ ps).length = 0 ∧ c4 = 0 := by
                  intro q
                  subst q
                  rcases hsh with ⟨h1, h2⟩ | ⟨g, cap, h1, _⟩
                  · injection h1 with _ q2 q3; exact ⟨q2, q3⟩
                  · injection h1 with q1; cases q1
                have HI4 := Lib.hid hi4
                have hpl : (natsJ ps).length ≤ 100 := by
                  unfold natsJ
                  rw [List.length_map, fitP_len hft, List.length_drop]
                  omega
                have HJ1 : Hid (OwnI (w4.alloc (.cells #[.int .i64 (j : Int)] 3)) w4.heap.size (.slice (some ⟨w4.heap.size, 0, none⟩) 1 1) [(j : Int)]) := OwnI.lit w4 [(j : Int)] (by unfold maxLen; simp)
                have HBN := Lib.hid (below_new w4 (.cells #[.int .i64 (j : Int)] 3))
                obtain ⟨L4, hL4⟩ : ∃ L4, L4 = (natsJ ps).length := ⟨_, rfl⟩
                rw [← hL4] at HI4 hnil hpl ⊢
                clear hft hfp hb4 ho4 hsh hc4 hi4 hL4
                go_wp2_with (refine app_ints rfl (.tmp 78) (.tmp 79) rfl w4.heap.size _ [(j : Int)] rfl HJ1.out A4 L4 c4 _ (natsJ ps) rfl hnil (HI4.out.on HBN.out) (by simp; omega) HBN.out.size ?_
                             intro v6 w6 hown6 hb6
                             have HO6 := Lib.hid hown6
                             have HB6 := Lib.hid (HB4.out.trans ((below_un_new hb6 (Nat.le_refl _)).mono HB4.out.size))
                             clear hown6 hb6)
                go_ret2
                exact .inr ⟨j :: ps, _, HY.out, rfl, HO6.out.lower HB4.out.size, HB6.out⟩
      · obtain rfl : j = ny' := by omega
        have HNO : Hid (fitP ss (xs.drop k) (ys.drop k) (tOf bs) = none) := by show _ = _; rw [HFR.out, Nat.sub_self]; rfl
        clear hjy
        go_wp2
        go_ret2
        exact .inl ⟨HNO.out, rfl, HBW.out⟩
end Go.Proofs.YtcjpopjcpgipjaaDoor
