/-
  Contracts of quaereref9: look, Few, Env; what numbers tell of symbols.
  Contracts of quaereref9: Value, Values.
-/
import Derived.Test.YtcjpopjcpgipjaaDoorPlainMd
import Derived.Test.YtcjpopjcpgipjaaDoorClauseNorm
import Derived.Laws.Bits128
namespace Go.Proofs.YtcjpopjcpgipjaaDoor
open Go.RowKit Go.Deep
set_option linter.unusedSimpArgs false
set_option linter.unusedVariables false
set_option maxRecDepth 100000

theorem i64_and255 (n : Int) : bits .and .i64 n 255 = n % 256 := by
  have h255 : (BitVec.ofInt 64 255).toNat = 2 ^ 8 - 1 := by decide
  have key : (BitVec.ofInt 64 n &&& BitVec.ofInt 64 255).toNat = (n % ((2 ^ 64 : Nat) : Int)).toNat % 2 ^ 8 := by
    rw [BitVec.toNat_and, BitVec.toNat_ofInt, h255, Nat.and_two_pow_sub_one_eq_mod]
  show IntKind.i64.wrap ((BitVec.ofInt 64 n &&& BitVec.ofInt 64 255).toNat : Nat) = n % 256
  rw [key, IntKind.wrap_i64]
  omega
theorem and1_all : ∀ x : Nat, x < 256 → bits .and .i64 (x : Int) 1 = (x : Int) % 2 := by decide +kernel
theorem and2_all : ∀ x : Nat, x < 256 → bits .and .i64 (x : Int) 2 = 2 * ((x : Int) / 2 % 2) := by decide +kernel
/-- The hash of a symbol and its arguments. -/
def hsh0 (code : Int) : Int := IntKind.u64.wrap (wrap64 (wrap64 (code * 7) + 1))
def hsh1 (h a : Int) : Int := IntKind.u64.wrap (IntKind.u64.wrap (IntKind.u64.wrap (h * 5) + IntKind.u64.wrap a) + 3)
def hshV (code : Int) (args : List Int) : Int := args.foldl hsh1 (hsh0 code)
theorem u64_range (x : Int) : 0 ≤ IntKind.u64.wrap x ∧ IntKind.u64.wrap x < 18446744073709551616 := by
  have : IntKind.u64.wrap x = x % 18446744073709551616 := by rfl
  omega
theorem hshV_range (code : Int) (args : List Int) : 0 ≤ hshV code args ∧ hshV code args < 18446744073709551616 := by
  refine snoc_ind (P := fun args => 0 ≤ hshV code args ∧ hshV code args < 18446744073709551616) (u64_range _) (fun xs x _ => ?_) args
  unfold hshV
  rw [List.foldl_append]
  exact u64_range _
/-- What the numbers tell of a symbol and its arguments. -/
def lookN (nums : List Int) (code : Int) (args : List Int) : Int := if nums = [] then 0 else intAt nums ((hshV code args).tmod (nums.length : Int)).toNat % 256
theorem lookN_range (nums : List Int) (code : Int) (args : List Int) : 0 ≤ lookN nums code args ∧ lookN nums code args < 256 := by
  unfold lookN
  split
  · omega
  · omega
def mdOf (sz : Int) (nums : List Int) : Md := ⟨sz, lookN nums⟩
theorem hsh_next {code : Int} {args : List Int} {k : Nat} (h : k < args.length) : hshV code (args.take (k + 1)) = hsh1 (hshV code (args.take k)) (intAt args k) := by
  rw [List.take_add_one, intAt_get h]
  unfold hshV
  show List.foldl hsh1 (hsh0 code) (args.take k ++ [intAt args k]) = _
  rw [List.foldl_append]; rfl

set_option maxHeartbeats 2000000 in
theorem refLook_any (An A : Option Addr) (nn cn n c : Nat) (sz code : Int) (nums args : List Int) (w : World) (hN : IntsAt w w.heap.size An nn nums) (hA : IntsAt w w.heap.size A n args) (hnn : nn ≤ 17592186044416) (hn : n ≤ 17592186044416) :
    Calls Tryd.prog 96 #[.agg #[.int .i64 sz, .slice An nn cn], .int .i64 code, .slice A n c] w fun e w' => e = .returned (.int .i64 (lookN nums code args)) ∧ Below w.heap.size w w' := by
  have hb0 := below_new w (.cells #[.int .i64 sz, .slice An nn cn] 52)
  have HN := Lib.hid (hN.on hb0)
  have HA := Lib.hid (hA.on hb0)
  have HB0 := Lib.hid hb0
  have HNL := Lib.hid hN.len
  have HAL := Lib.hid hA.len
  clear hN hA hb0
  go_enter Tryd.func96, Tryd.ntmps96
  by_cases h0 : nn = 0
  · subst h0
    have HZ : Hid (lookN nums code args = 0) := by
      show _ = _
      have : nums = [] := List.eq_nil_of_length_eq_zero HNL.out
      unfold lookN; rw [if_pos this]
    go_wp2
    go_ret
    exact ⟨ret_int HZ.out.symm, HB0.out⟩
  have g0 : ((nn : Int) == 0) = false := by simp; omega
  go_wp2
  obtain ⟨w1, hw1⟩ : ∃ w1, w1 = w.alloc (.cells #[.int .i64 sz, .slice An nn cn] 52) := ⟨_, rfl⟩
  have p0 : w1.cell? ⟨w.heap.size, 0, none⟩ = some (.int .i64 sz) := by rw [hw1, World.cell?_alloc_new]; rfl
  have p1 : w1.cell? ⟨w.heap.size, 1, none⟩ = some (.slice An nn cn) := by rw [hw1, World.cell?_alloc_new]; rfl
  rw [← hw1] at HN HA HB0 ⊢
  obtain ⟨B, hB⟩ : ∃ B, B = w.heap.size := ⟨_, rfl⟩
  rw [← hB] at p0 p1 ⊢
  have HBH := Lib.hid hB
  clear hw1 hB
  go_loopw [7, 8] (fun q i wr => ∃ k : Nat, i = .int .i64 k ∧ k ≤ n ∧ q = .int .u64 (hshV code (args.take k)) ∧ wr = w1) (fun _ i _ => n - (intOf i).toNat)
  case atStart => exact ⟨0, rfl, by omega, by simp [hshV, hsh0], rfl⟩
  case round =>
    obtain ⟨k, rfl, hk, rfl, rfl⟩ := hrel
    by_cases hlt : k < n
    · have hkl : k < args.length := by rw [HAL.out]; exact hlt
      have HNX := Lib.hid (hsh_next (code := code) hkl)
      obtain ⟨b, off, rfl, hb, hc⟩ := HA.out.at_ (by omega)
      have cx : wr.cell? ⟨b, off + k, none⟩ = some (.int .i64 (intAt args k)) := hc k hlt
      obtain ⟨H, hH⟩ : ∃ H, H = hshV code (args.take k) := ⟨_, rfl⟩
      obtain ⟨x, hx⟩ : ∃ x, x = intAt args k := ⟨_, rfl⟩
      rw [← hH, ← hx] at HNX
      rw [← hx] at cx
      rw [← hH]
      have hi0 : (0 : Int) ≤ (k : Int) := by omega
      have hi3 : (k : Int) < (n : Int) := by omega
      clear hc hH hx hkl
      go_wp2
      go_roundw
      case rel => exact ⟨k + 1, by go_num, by omega, by rw [HNX.out]; rfl, trivial⟩
      case measure => simp [intOf]; omega
    · obtain rfl : k = n := by omega
      have hT : args.take k = args := List.take_of_length_le (by rw [HAL.out]; exact Nat.le_refl _)
      rw [hT]
      obtain ⟨hr0, hr1⟩ := hshV_range code args
      obtain ⟨H, hH⟩ : ∃ H, H = hshV code args := ⟨_, rfl⟩
      rw [← hH] at hr0 hr1 ⊢
      obtain ⟨q, hq, eq⟩ : ∃ q : Nat, q < nn ∧ H.tmod (nn : Int) = (q : Int) := by
        have h2 : 0 ≤ H.tmod (nn : Int) := Int.tmod_nonneg _ hr0
        have h3 : H.tmod (nn : Int) < nn := Int.tmod_lt_of_pos _ (by omega)
        exact ⟨(H.tmod (nn : Int)).toNat, by omega, by omega⟩
      have HZ : Hid (lookN nums code args = intAt nums q % 256) := by
        show _ = _
        have hne : nums ≠ [] := fun e => by have := HNL.out; rw [e] at this; simp at this; omega
        unfold lookN
        rw [if_neg hne, ← hH, HNL.out, eq]; rfl
      have hwn : IntKind.u64.wrap (nn : Int) = (nn : Int) := by
        have : IntKind.u64.wrap (nn : Int) = (nn : Int) % 18446744073709551616 := by rfl
        omega
      have hwz : ¬ IntKind.u64.wrap (nn : Int) = 0 := by rw [hwn]; omega
      have hqw : IntKind.i64.wrap (q : Int) = (q : Int) := IntWalk.i64_in _ (by omega)
      obtain ⟨b, off, rfl, hb, hc⟩ := HN.out.at_ (by omega)
      have cx : wr.cell? ⟨b, off + q, none⟩ = some (.int .i64 (intAt nums q)) := hc q hq
      obtain ⟨y, hy⟩ : ∃ y, y = intAt nums q := ⟨_, rfl⟩
      rw [← hy] at cx HZ
      have hi0 : (0 : Int) ≤ (q : Int) := by omega
      have hi3 : (q : Int) < (nn : Int) := by omega
      clear hT hH hc hy
      go_wp2_with fail
      go_quiet (fail)
      go_wp2
      go_ret
      refine ⟨ret_int ?_, HB0.out.trans (below_drewN wr nq |>.mono (by have := HB0.out.size; omega))⟩
      rw [HZ.out]
      exact i64_and255 y
end Go.Proofs.YtcjpopjcpgipjaaDoor

namespace Go.Proofs.YtcjpopjcpgipjaaDoor
open Go.RowKit Go.Deep
set_option linter.unusedSimpArgs false
set_option linter.unusedVariables false
set_option maxRecDepth 100000

section
variable {ss : List Sym} {m : Md} {env : Nat → Int}
theorem evs_add (L : Nat) : ∀ (r : List Int) (j k : Nat), r.length ≤ L → evs ss m env (j + k) r = ((evs ss m env j r).1 ++ (evs ss m env k (evs ss m env j r).2).1, (evs ss m env k (evs ss m env j r).2).2) := by
  induction L with
  | zero =>
    intro r j k hL
    obtain rfl : r = [] := List.length_eq_zero_iff.1 (by omega)
    simp only [evs_nil, List.append_nil]
  | succ L ih =>
    intro r j k hL
    cases j with
    | zero => simp only [Nat.zero_add, evs_zero, List.nil_append]
    | succ j =>
      cases r with
      | nil => simp only [evs_nil, List.append_nil]
      | cons x r =>
        simp only [List.length_cons] at hL
        have e : j + 1 + k = (j + k) + 1 := by omega
        rw [e]
        by_cases hx : x < 0
        · rw [evs_var _ hx, evs_var _ hx, ih r j k (by omega)]
          simp only [List.cons_append]
        · have hl := ev_len (ss := ss) (m := m) (env := env) (r.length + 1) (symAt ss x.toNat).arity.toNat r
          have hl' : (evs ss m env (symAt ss x.toNat).arity.toNat r).2.length ≤ r.length := hl
          rw [evs_sym _ hx, evs_sym _ hx, ih _ j k (by omega)]
          simp only [List.cons_append]
/-- The value of one term. -/
def valT (ss : List Sym) (m : Md) (env : Nat → Int) (t : List Int) : Int := (vals ss m env t).headD 0
theorem vals_nil : vals ss m env [] = [] := by
  show (evs ss m env 0 []).1 = []
  rw [evs_nil]
theorem vals_trm {r : List Int} {k : Nat} (hm : mayB ss = true) (h : trm 24 ss r k) : evs ss m env k r = (vals ss m env r, []) ∧ (vals ss m env r).length = k := by
  obtain ⟨ms, h1, h2⟩ := tl_of_trm h
  have := vals_row (m := m) (env := env) hm h1
  rw [h2] at this
  exact this
theorem vals_append {a b : List Int} {j k : Nat} (hm : mayB ss = true) (ha : trm 24 ss a j) (hb : trm 24 ss b k) : vals ss m env (a ++ b) = vals ss m env a ++ vals ss m env b := by
  obtain ⟨ms, h1, h2⟩ := tl_of_trm ha
  obtain ⟨us, u1, u2⟩ := evs_row (m := m) (env := env) hm h1
  rw [h2] at u2
  have e1 := (vals_trm (m := m) (env := env) hm ha).1
  have e2 := u2 []
  rw [List.append_nil, e1] at e2
  injection e2 with e2 _
  have h3 := (vals_trm (m := m) (env := env) hm (trm_append ha hb)).1
  rw [evs_add _ _ _ _ (Nat.le_refl _), u2 b, (vals_trm (m := m) (env := env) hm hb).1] at h3
  injection h3 with h3 _
  rw [← h3, e2]
theorem vals_one {t : List Int} (hm : mayB ss = true) (h : trm 24 ss t 1) : vals ss m env t = [valT ss m env t] := by
  obtain ⟨x, hx⟩ := List.length_eq_one_iff.1 (vals_trm (m := m) (env := env) hm h).2
  unfold valT; rw [hx]; rfl
theorem valT_var {v : Nat} : valT ss m env [-1 - (v : Int)] = env v := by
  have h : vals ss m env [-1 - (v : Int)] = (evs ss m env (0 + 1) [-1 - (v : Int)]).1 := rfl
  unfold valT
  rw [h, evs_var 0 (by omega), evs_zero]
  have e : (-1 - (-1 - (v : Int))).toNat = v := by omega
  rw [e]; rfl
theorem valT_sym {x : Int} {a : List Int} {k : Nat} (hm : mayB ss = true) (hx : 0 ≤ x) (ha : arOf ss x = some k) (h : trm 24 ss a k) : valT ss m env (x :: a) = m.look x (vals ss m env a) % m.size := by
  obtain ⟨_, h2, h3, _⟩ := ar_sym hm hx ha
  have har : (symAt ss x.toNat).arity.toNat = k := by omega
  have h : vals ss m env (x :: a) = (evs ss m env (a.length + 1) (x :: a)).1 := rfl
  unfold valT
  rw [h, evs_sym _ (by omega), har, (vals_trm (m := m) (env := env) hm (by assumption)).1]
  rfl
end
theorem look_mod {sz : Int} {nums : List Int} {x : Int} {us : List Int} : (lookN nums x us).tmod sz = lookN nums x us % sz := by
  exact Int.tmod_eq_emod_of_nonneg (lookN_range nums x us).1
theorem trm_le {ss : List Sym} {r : List Int} {k : Nat} (h : trm 24 ss r k) : k ≤ r.length := trm_len h

/-- A structure's value. -/
def mdV (sz : Int) (An : Option Addr) (nn cn : Nat) : Value := .agg #[.int .i64 sz, .slice An nn cn]
def ValPost (x : Int) (e' : Nat) (w : World) (e : Ending) (w' : World) : Prop := e = .returned (.tuple #[.int .i64 x, .int .i64 (e' : Int)]) ∧ Below w.heap.size w w'
theorem ret_vp {a b : Int} {c d : Int} (h : a = b) (k : c = d) : Ending.returned (.tuple #[.int .i64 a, .int .i64 c]) = .returned (.tuple #[.int .i64 b, .int .i64 d]) := by rw [h, k]

set_option maxHeartbeats 4000000 in
theorem refValue_any (An A Ar Ae : Option Addr) (nn cn n c mr cr ce : Nat) (sz : Int) (nums r E : List Int) (ss : List Sym) (hm : mayB ss = true) (hsz : 1 ≤ sz ∧ sz ≤ 3) (hnn : nn ≤ 17592186044416) (hn : n ≤ maxLen) (hmr : mr ≤ 1000000) (M : Md) (env : Nat → Int) (hM : M = mdOf sz nums) (hen : ∀ u, u < 24 → env u = intAt E u) (N : Nat) :
    ∀ (t s : List Int) (p : Nat) (w : World), t.length ≤ N → trm 24 ss t 1 → r.drop p = t ++ s → IntsAt w w.heap.size An nn nums → SymsAt w w.heap.size A n ss → IntsAt w w.heap.size Ar mr r → IntsAt w w.heap.size Ae 24 E →
    Calls Tryd.prog 111 #[mdV sz An nn cn, .slice A n c, .slice Ar mr cr, .int .i64 p, .slice Ae 24 ce] w (ValPost (valT ss M env t) (p + t.length) w) := by
  induction N with
  | zero =>
    intro t s p w hN ht
    have := trm_pos ht
    omega
  | succ N ih =>
    intro t s p w hN ht hd hNu hS hR hE
    have HIH := Lib.hid ih
    have hb0 := below_new w (.cells #[.int .i64 sz, .slice An nn cn] 52)
    have HNU := Lib.hid (hNu.on hb0)
    have HS := Lib.hid (hS.on hb0)
    have HR := Lib.hid (hR.on hb0)
    have HE := Lib.hid (hE.on hb0)
    have HB0 := Lib.hid hb0
    have hrl := hR.len
    have hSl := hS.len
    have hpl : p < mr := by
      have := congrArg List.length hd
      rw [List.length_drop, List.length_append] at this
      have := trm_pos ht
      omega
    have hx0 : intAt r p = intAt (t ++ s) 0 := by rw [← hd, intAt_drop]; rfl
    have HD := Lib.hid hd
    obtain ⟨br, offr, rfl, hbr, hcr⟩ := HR.out.at_ (by omega)
    have cx := hcr p hpl
    dsimp only at cx
    have hi0 : (0 : Int) ≤ (p : Int) := by omega
    have hi3 : (p : Int) < (mr : Int) := by omega
    have HMM := Lib.hid hm
    have HMD := Lib.hid hM
    have HEN := Lib.hid hen
    clear hM hen
    unfold mdV
    clear hNu hS hR hE ih hd hm hcr
    go_enter Tryd.func111, Tryd.ntmps111
    go_upto_region 1 with (fail)
    obtain ⟨w1, hw1⟩ : ∃ w1, w1 = w.alloc (.cells #[.int .i64 sz, .slice An nn cn] 52) := ⟨_, rfl⟩
    have p0 : w1.cell? ⟨w.heap.size, 0, none⟩ = some (.int .i64 sz) := by rw [hw1, World.cell?_alloc_new]; rfl
    have p1 : w1.cell? ⟨w.heap.size, 1, none⟩ = some (.slice An nn cn) := by rw [hw1, World.cell?_alloc_new]; rfl
    rw [← hw1] at HNU HS HR HE HB0 hb0 cx ⊢
    obtain ⟨B, hB⟩ : ∃ B, B = w.heap.size := ⟨_, rfl⟩
    have hBl : B < w1.heap.size := by rw [hw1, hB]; simp
    rw [← hB] at p0 p1 ⊢
    have HBH := Lib.hid hB
    clear hw1 hB hb0
    rcases trm_one ht with ⟨u, hu, rfl⟩ | ⟨x, k, a, rfl, hxp, hark, hta⟩
    · have hx1 : intAt r p = -1 - (u : Int) := by rw [hx0]; rfl
      rw [hx1] at cx
      have HZ : Hid (valT ss M env [-1 - (u : Int)] = intAt E u) := valT_var.trans (HEN.out u hu)
      obtain ⟨be, offe, rfl, hbe, hce⟩ := HE.out.at_ (by omega)
      have ce0 := hce u hu
      dsimp only at ce0
      obtain ⟨y, hy⟩ : ∃ y, y = intAt E u := ⟨_, rfl⟩
      rw [← hy] at ce0 HZ
      obtain ⟨x, hx⟩ : ∃ x, x = -1 - (u : Int) := ⟨_, rfl⟩
      have hxn : x < 0 := by omega
      have hxu : -1 - x = (u : Int) := by omega
      have hu0 : (0 : Int) ≤ (u : Int) := by omega
      have hu3 : (u : Int) < 24 := by omega
      rw [← hx] at cx
      clear hce hx1 hx0 ht hy hbe hbr hx
      go_wp2
      go_ret2
      exact ⟨ret_vp HZ.out.symm (by simp), HB0.out⟩
    · have hx1 : intAt r p = x := by rw [hx0]; rfl
      rw [hx1] at cx
      have HZ : Hid (valT ss M env (x :: a) = lookN nums x (vals ss M env a) % sz) := by
        show _ = _
        rw [valT_sym HMM.out hxp hark hta, HMD.out]; rfl
      obtain ⟨hxl, _, har, hk3⟩ := ar_sym HMM.out hxp hark
      obtain ⟨xi, rfl⟩ : ∃ xi : Nat, x = (xi : Int) := ⟨x.toNat, by omega⟩
      rw [Int.toNat_natCast] at hxl har
      obtain ⟨bs, offs, hA, hbs, hcs⟩ := HS.out.at_ (by omega)
      have car := (hcs xi (by omega)).2.2.1
      rw [har] at car
      have hAA := Lib.hid hA
      have hxn : ¬ (xi : Int) < 0 := by omega
      have hxi0 : (0 : Int) ≤ (xi : Int) := by omega
      have hxi3 : (xi : Int) < (n : Int) := by omega
      have CAR := Lib.hid car
      have HTA := Lib.hid hta
      have hbs' := hbs
      have hal : a.length ≤ N := by simp at hN; omega
      have HDA : Hid (r.drop (p + 1) = a ++ s) := by
        show _ = _
        rw [← List.drop_drop, HD.out]; rfl
      have HLEN2 : Hid (p + 1 + a.length + s.length = mr) := by
        show _ = _
        have := congrArg List.length HDA.out
        rw [List.length_drop, List.length_append] at this
        omega
      have hk1 := trm_le hta
      clear hcs hx1 hx0 ht hbr hxl har
      subst hA
      go_wp2_with fail
      go_loopw [3, 13, 14] (fun z q i wr => ∃ (j : Nat) (a1 a2 : List Int), i = .int .i64 j ∧ j ≤ k ∧ a = a1 ++ a2 ∧ trm 24 ss a1 j ∧ trm 24 ss a2 (k - j) ∧ z = .int .i64 ((p + 1 + a1.length : Nat) : Int) ∧ OwnI wr w1.heap.size q (vals ss M env a1) ∧ Below w1.heap.size w1 wr) (fun _ _ i _ => k - (intOf i).toNat)
      case atStart => exact ⟨0, [], a, rfl, by omega, rfl, trm_nil, HTA.out, by simp, by rw [vals_nil]; exact OwnI.nil_, Below.refl _ _⟩
      case round =>
        obtain ⟨j, a1, a2, rfl, hj, hae, ht1, ht2, rfl, hown, hbw⟩ := hrel
        have HBW := Lib.hid hbw
        have HOWN := Lib.hid hown
        have HT1 := Lib.hid ht1
        have HAE := Lib.hid hae
        have hsz' := hbw.size
        have car : wr.cell? ⟨bs, offs + xi * 4 + 2, none⟩ = some (.int .i64 (k : Int)) := by rw [hbw.cell (p := ⟨bs, offs + xi * 4 + 2, none⟩) hbs]; exact CAR.out
        have q0 : wr.cell? ⟨B, 0, none⟩ = some (.int .i64 sz) := by rw [hbw.cell (p := ⟨B, 0, none⟩) hBl]; exact p0
        have q1 : wr.cell? ⟨B, 1, none⟩ = some (.slice An nn cn) := by rw [hbw.cell (p := ⟨B, 1, none⟩) hBl]; exact p1
        clear hown hbw ht1 hae
        by_cases hlt : j < k
        · obtain ⟨t1, a3, e3, h1, h3⟩ := trm_split (j := 1) (k := k - j - 1) (by rw [show 1 + (k - j - 1) = k - j by omega]; exact ht2)
          have HE3 := Lib.hid e3
          have H1 := Lib.hid h1
          have H3 := Lib.hid h3
          have hl1 := congrArg List.length HAE.out
          rw [e3, List.length_append, List.length_append] at hl1
          have h1p := trm_pos h1
          have HDP : Hid (r.drop (p + 1 + a1.length) = t1 ++ (a3 ++ s)) := by
            show _ = _
            rw [← List.drop_drop, HDA.out, HAE.out, e3, List.append_assoc, List.drop_left, List.append_assoc]
          have hji0 : (0 : Int) ≤ (j : Int) := by omega
          have hji3 : (j : Int) < (k : Int) := by omega
          have HVL := Lib.hid (vals_trm (m := M) (env := env) HMM.out HT1.out).2
          have HV : Hid (vals ss M env (a1 ++ t1) = vals ss M env a1 ++ [valT ss M env t1]) := by
            show _ = _
            rw [vals_append HMM.out HT1.out h1, vals_one HMM.out h1]
          have hvl1 : (vals ss M env a1).length + 1 ≤ 17592186044416 := by rw [HVL.out]; omega
          have hp1 : p + 1 + a1.length ≤ 1000000 := by have := HLEN2.out; omega
          obtain ⟨P1, hP1⟩ : ∃ P1, P1 = p + 1 + a1.length := ⟨_, rfl⟩
          rw [← hP1] at HDP hp1 ⊢
          have HPP : Hid ((P1 : Int) + (t1.length : Int) = ((p + 1 + (a1 ++ t1).length : Nat) : Int)) := by show _ = _; rw [List.length_append, hP1]; omega
          clear hP1
          have HCALL : Hid (Calls Tryd.prog 111 #[.agg #[.int .i64 sz, .slice An nn cn], .slice (some ⟨bs, offs, none⟩) n c, .slice (some ⟨br, offr, none⟩) mr cr, .int .i64 P1, .slice Ae 24 ce] wr (ValPost (valT ss M env t1) (P1 + t1.length) wr)) :=
            HIH.out t1 (a3 ++ s) P1 wr (by omega) H1.out HDP.out (HNU.out.on HBW.out) (HS.out.on HBW.out) (HR.out.on HBW.out) (HE.out.on HBW.out)
          obtain ⟨VT, hVT⟩ : ∃ VT, VT = valT ss M env t1 := ⟨_, rfl⟩
          rw [← hVT] at HV HCALL
          clear e3 h1 h3 ht2 hVT hl1
          go_wp2_with fail
          refine HCALL.out.mono ?_
          rintro e w2 ⟨rfl, hb2⟩
          have HB2 := Lib.hid (HBW.out.trans (hb2.mono hsz'))
          have HO2 := Lib.hid (HOWN.out.on hb2)
          have hs2 := HB2.out.size
          clear hb2 HCALL q0 q1 car
          go_wp2_with (at_builtin
                       refine app_int1 rfl (.tmp 50) (.tmp 52) rfl w1.heap.size _ _ VT rfl HO2.out rfl hvl1 hs2 ?_
                       intro v3 w3 hown3 hb3
                       have HO3 := Lib.hid hown3
                       have HB3 := Lib.hid (HB2.out.trans hb3)
                       clear hown3 hb3)
          go_roundw
          case rel => exact ⟨j + 1, a1 ++ t1, a3, by go_num, by omega, by rw [HAE.out, HE3.out, List.append_assoc], trm_append HT1.out H1.out, by rw [show k - (j + 1) = k - j - 1 by omega]; exact H3.out, by rw [← HPP.out], HO3.out.cast HV.out.symm, HB3.out⟩
          case measure => simp [intOf]; omega
        · obtain rfl : j = k := by omega
          have ha2 : a2 = [] := by
            have := (vals_trm (m := M) (env := env) HMM.out ht2).2
            obtain ⟨ms, h1, h2⟩ := tl_of_trm ht2
            rw [Nat.sub_self] at h2
            rw [List.length_eq_zero_iff.1 h2] at h1
            exact tl_nil_inv h1
          subst ha2
          have HA1 : Hid (a = a1) := by show _ = _; rw [HAE.out, List.append_nil]
          obtain ⟨A9, c9, hv9, _, hi9⟩ := HOWN.out.intsAt
          obtain ⟨L9, hL9⟩ : ∃ L9, L9 = (vals ss M env a1).length := ⟨_, rfl⟩
          rw [← hL9] at hv9 hi9
          have hl9 : L9 ≤ 17592186044416 := by rw [hL9, (vals_trm (m := M) (env := env) HMM.out HT1.out).2]; have := HLEN2.out; omega
          subst hv9
          have hd : Below wr.heap.size wr wr.drew := (Below.refl wr.heap.size wr).drew
          have HI9 := Lib.hid (hi9.on hd)
          have HN9 := Lib.hid ((HNU.out.on HBW.out).on hd)
          have HBD := Lib.hid (HBW.out.trans (hd.mono hsz'))
          rw [HA1.out] at HZ
          obtain ⟨LK, hLK⟩ : ∃ LK, LK = lookN nums (xi : Int) (vals ss M env a1) := ⟨_, rfl⟩
          have HLK := Lib.hid hLK
          have HZ2 : Hid (LK.tmod sz = valT ss M env ((xi : Int) :: a)) := by
            show _ = _
            rw [HA1.out, HZ.out, hLK, look_mod]
          have hlk := lookN_range nums (xi : Int) (vals ss M env a1)
          rw [← hLK] at hlk
          obtain ⟨hk0, hk1'⟩ := hlk
          obtain ⟨hs1, hs3⟩ := hsz
          have hs0 : ¬ sz = 0 := by omega
          have HPE : Hid (((p + 1 + a1.length : Nat) : Int) = ((p + (((xi : Int) :: a).length) : Nat) : Int)) := by show _ = _; rw [HA1.out, List.length_cons]; omega
          clear hi9 hL9 ht2 hd hLK
          go_wp2_with fail
          refine wp_region_held_drew (S := (fun w' => w'.cell? ⟨B, 0, none⟩ = some (.int .i64 sz) ∧ w'.cell? ⟨B, 1, none⟩ = some (.slice An nn cn))) (by kernel_rfl) ⟨q0, q1⟩ (fun hHeld => ?_)
          refine takeH (i := 0) (v := ?_) rfl rfl (by kernel_rfl) (by kernel_rfl) (by kernel_rfl) (fun _ _ _ h => h) (by rfl) ?_ hHeld ?_
          rotate_left
          · (intro w hSw; (try dsimp only at hSw); first | (go_simp; done) | (go_simp; with_reducible rfl))
          simp only [Act.put, List.setIfInBounds_toArray, List.set_cons_zero, List.set_cons_succ]
          refine takeH (i := 1) (v := ?_) rfl rfl (by kernel_rfl) (by kernel_rfl) (by kernel_rfl) (fun _ _ _ h => h) (by rfl) ?_ hHeld ?_
          rotate_left
          · (intro w hSw; (try dsimp only at hSw); first | (go_simp; done) | (go_simp; with_reducible rfl))
          simp only [Act.put, List.setIfInBounds_toArray, List.set_cons_zero, List.set_cons_succ]
          refine takeH (i := 2) (v := ?_) rfl rfl (by kernel_rfl) (by kernel_rfl) (by kernel_rfl) (fun _ _ _ h => h) (by rfl) ?_ hHeld ?_
          rotate_left
          · (intro w hSw; (try dsimp only at hSw); first | (go_simp; done) | (go_simp; with_reducible rfl))
          simp only [Act.put, List.setIfInBounds_toArray, List.set_cons_zero, List.set_cons_succ]
          refine takeH (i := 4) (v := ?_) rfl rfl (by kernel_rfl) (by kernel_rfl) (by kernel_rfl) (fun _ _ _ h => h) (by rfl) ?_ hHeld ?_
          rotate_left
          · (intro w hSw; (try dsimp only at hSw); first | (go_simp; done) | (go_simp; with_reducible rfl))
          simp only [Act.put, List.setIfInBounds_toArray, List.set_cons_zero, List.set_cons_succ]
          refine takeH (i := 5) (v := ?_) rfl rfl (by kernel_rfl) (by kernel_rfl) (by kernel_rfl) (fun _ _ _ h => h) (by rfl) ?_ hHeld ?_
          rotate_left
          · (intro w hSw; (try dsimp only at hSw); first | (go_simp; done) | (go_simp; with_reducible rfl))
          simp only [Act.put, List.setIfInBounds_toArray, List.set_cons_zero, List.set_cons_succ]
          refine takeH (i := 7) (v := ?_) rfl rfl (by kernel_rfl) (by kernel_rfl) (by kernel_rfl) (fun _ _ _ h => h) (by rfl) ?_ hHeld ?_
          rotate_left
          · (intro w hSw; (try dsimp only at hSw); first | (go_simp; done) | (go_simp; with_reducible rfl))
          simp only [Act.put, List.setIfInBounds_toArray, List.set_cons_zero, List.set_cons_succ]
          refine wpAnyH_ready (rs := [3]) (by kernel_rfl) (by simp) ?_
          refine AllReadyH.cons rfl (fun K hK => ?_) AllReadyH.nil
          go_simp
          refine (refLook_any An A9 nn cn L9 c9 sz xi nums _ _ HN9.out HI9.out hnn hl9).mono ?_
          rintro e w2 ⟨rfl, hb2⟩
          rw [← HLK.out]
          have HB2 := Lib.hid (HBD.out.trans (hb2.mono HBD.out.size))
          have q0' : w2.cell? ⟨B, 0, none⟩ = some (.int .i64 sz) := by rw [HB2.out.cell (p := ⟨B, 0, none⟩) hBl]; exact p0
          have q1' : w2.cell? ⟨B, 1, none⟩ = some (.slice An nn cn) := by rw [HB2.out.cell (p := ⟨B, 1, none⟩) hBl]; exact p1
          clear hb2
          go_wp2_with fail
          refine hK.out _ _ ?_ (fun hHeld => ?_)
          · exact ⟨q0', q1'⟩
          clear hK K
          refine takeH (i := 6) (v := ?_) rfl rfl (by kernel_rfl) (by kernel_rfl) (by kernel_rfl) (fun _ _ _ h => h) (by rfl) ?_ hHeld ?_
          rotate_left
          · (intro w hSw; (try dsimp only at hSw); first | (go_simp; done) | (go_simp; with_reducible rfl))
          simp only [Act.put, List.setIfInBounds_toArray, List.set_cons_zero, List.set_cons_succ]
          refine takeH (i := 8) (v := ?_) rfl rfl (by kernel_rfl) (by kernel_rfl) (by kernel_rfl) (fun _ _ _ h => h) (by rfl) ?_ hHeld ?_
          rotate_left
          · (intro w hSw; (try dsimp only at hSw); first | (go_simp; done) | (go_simp; with_reducible rfl))
          simp only [Act.put, List.setIfInBounds_toArray, List.set_cons_zero, List.set_cons_succ]
          refine takeH (i := 9) (v := ?_) rfl rfl (by kernel_rfl) (by kernel_rfl) (by kernel_rfl) (fun _ _ _ h => h) (by rfl) ?_ hHeld ?_
          rotate_left
          · (intro w hSw; (try dsimp only at hSw); first | (go_simp; done) | (go_simp; with_reducible rfl))
          simp only [Act.put, List.setIfInBounds_toArray, List.set_cons_zero, List.set_cons_succ]
          refine wpAnyH_done (by kernel_rfl) ?_ _
          go_wp2
          go_ret2
          exact ⟨ret_vp HZ2.out HPE.out, HB0.out.trans (HB2.out.mono (by have := HBH.out; omega))⟩
theorem trm_none {ss : List Sym} {r : List Int} (h : trm 24 ss r 0) : r = [] := by
  obtain ⟨ms, h1, h2⟩ := tl_of_trm h
  rw [List.length_eq_zero_iff.1 h2] at h1
  exact tl_nil_inv h1
set_option maxHeartbeats 4000000 in
theorem refValues_any (An A Ar Ae : Option Addr) (nn cn n c mr cr ce k : Nat) (sz : Int) (nums r E : List Int) (ss : List Sym) (w : World) (hm : mayB ss = true) (hsz : 1 ≤ sz ∧ sz ≤ 3) (hnn : nn ≤ 17592186044416) (hn : n ≤ maxLen) (hmr : mr ≤ 1000000) (M : Md) (env : Nat → Int) (hM : M = mdOf sz nums) (hen : ∀ u, u < 24 → env u = intAt E u)
    (ht : trm 24 ss r k) (hNu : IntsAt w w.heap.size An nn nums) (hS : SymsAt w w.heap.size A n ss) (hR : IntsAt w w.heap.size Ar mr r) (hE : IntsAt w w.heap.size Ae 24 E) :
    Calls Tryd.prog 97 #[mdV sz An nn cn, .slice A n c, .slice Ar mr cr, .slice Ae 24 ce] w (IntsRet (vals ss M env r) w) := by
  have hb0 := below_new w (.cells #[.int .i64 sz, .slice An nn cn] 52)
  have HNU := Lib.hid (hNu.on hb0)
  have HS := Lib.hid (hS.on hb0)
  have HR := Lib.hid (hR.on hb0)
  have HE := Lib.hid (hE.on hb0)
  have HB0 := Lib.hid hb0
  have hrl := hR.len
  have HT := Lib.hid ht
  have HRL := Lib.hid hrl
  have HV := Lib.hid (fun p => refValue_any An A Ar Ae nn cn n c mr cr ce sz nums r E ss hm hsz hnn hn hmr M env hM hen p)
  unfold mdV at HV ⊢
  have HMM := Lib.hid hm
  clear hNu hS hR hE hb0 hM hen ht hrl hm
  go_enter Tryd.func97, Tryd.ntmps97
  go_upto_region 1 with (fail)
  obtain ⟨w1, hw1⟩ : ∃ w1, w1 = w.alloc (.cells #[.int .i64 sz, .slice An nn cn] 52) := ⟨_, rfl⟩
  have p0 : w1.cell? ⟨w.heap.size, 0, none⟩ = some (.int .i64 sz) := by rw [hw1, World.cell?_alloc_new]; rfl
  have p1 : w1.cell? ⟨w.heap.size, 1, none⟩ = some (.slice An nn cn) := by rw [hw1, World.cell?_alloc_new]; rfl
  rw [← hw1] at HNU HS HR HE HB0 ⊢
  obtain ⟨B, hB⟩ : ∃ B, B = w.heap.size := ⟨_, rfl⟩
  have hBl : B < w1.heap.size := by rw [hw1, hB]; simp
  rw [← hB] at p0 p1 ⊢
  have HBH := Lib.hid hB
  clear hw1 hB
  go_wp2_with fail
  go_loopw [9, 10] (fun q i wr => ∃ (j : Nat) (a1 a2 : List Int), i = .int .i64 (a1.length : Nat) ∧ j ≤ k ∧ r = a1 ++ a2 ∧ trm 24 ss a1 j ∧ trm 24 ss a2 (k - j) ∧ OwnI wr w1.heap.size q (vals ss M env a1) ∧ Below w1.heap.size w1 wr) (fun _ i _ => mr - (intOf i).toNat)
  case atStart => exact ⟨0, [], r, rfl, by omega, rfl, trm_nil, HT.out, by rw [vals_nil]; exact OwnI.nil_, Below.refl _ _⟩
  case round =>
    obtain ⟨j, a1, a2, rfl, hj, hae, ht1, ht2, hown, hbw⟩ := hrel
    have HBW := Lib.hid hbw
    have HOWN := Lib.hid hown
    have HT1 := Lib.hid ht1
    have HT2 := Lib.hid ht2
    have HAE := Lib.hid hae
    have hsz' := hbw.size
    have q0 : wr.cell? ⟨B, 0, none⟩ = some (.int .i64 sz) := by rw [hbw.cell (p := ⟨B, 0, none⟩) hBl]; exact p0
    have q1 : wr.cell? ⟨B, 1, none⟩ = some (.slice An nn cn) := by rw [hbw.cell (p := ⟨B, 1, none⟩) hBl]; exact p1
    have hl1 := congrArg List.length hae
    rw [HRL.out, List.length_append] at hl1
    have HL1 := Lib.hid hl1
    obtain ⟨P1, hP1⟩ : ∃ P1, P1 = a1.length := ⟨_, rfl⟩
    rw [← hP1] at HL1 ⊢
    have HP1 := Lib.hid hP1
    clear hown hbw ht1 hae hl1 hP1
    by_cases hjk : k - j = 0
    · rw [hjk] at ht2
      have ha2 := trm_none ht2
      subst ha2
      have hpm : P1 = mr := by have := HL1.out; simp at this; omega
      have HZ : Hid (vals ss M env r = vals ss M env a1) := by show _ = _; rw [HAE.out, List.append_nil]
      subst hpm
      clear ht2 hjk
      go_wp2
      go_ret
      exact ⟨_, rfl, (HOWN.out.lower (by have := HB0.out.size; omega)).cast HZ.out.symm, HB0.out.trans (HBW.out.mono HB0.out.size)⟩
    · obtain ⟨t1, a3, e3, h1, h3⟩ := trm_split (j := 1) (k := k - j - 1) (by rw [show 1 + (k - j - 1) = k - j by omega]; exact ht2)
      have HE3 := Lib.hid e3
      have H1 := Lib.hid h1
      have H3 := Lib.hid h3
      have h1p := trm_pos h1
      have hlt : P1 + t1.length ≤ mr := by have := HL1.out; rw [e3, List.length_append] at this; omega
      have HDP : Hid (r.drop P1 = t1 ++ a3) := by
        show _ = _
        rw [HP1.out, HAE.out, e3, List.drop_left]
      have HVV : Hid (vals ss M env (a1 ++ t1) = vals ss M env a1 ++ [valT ss M env t1]) := by
        show _ = _
        rw [vals_append HMM.out HT1.out h1, vals_one HMM.out h1]
      have hvl1 : (vals ss M env a1).length + 1 ≤ 17592186044416 := by
        rw [(vals_trm (m := M) (env := env) HMM.out HT1.out).2]
        have := trm_le HT1.out
        have := HP1.out
        omega
      have hi3 : (P1 : Int) < (mr : Int) := by omega
      have HCALL := Lib.hid (HV.out t1.length t1 a3 P1 wr (Nat.le_refl _) H1.out HDP.out (HNU.out.on HBW.out) (HS.out.on HBW.out) (HR.out.on HBW.out) (HE.out.on HBW.out))
      obtain ⟨VT, hVT⟩ : ∃ VT, VT = valT ss M env t1 := ⟨_, rfl⟩
      rw [← hVT] at HVV HCALL
      have HPP : Hid (P1 + t1.length = (a1 ++ t1).length) := by show _ = _; rw [List.length_append, ← HP1.out]
      obtain ⟨L1, hL1⟩ : ∃ L1, L1 = P1 + t1.length := ⟨_, rfl⟩
      rw [← hL1] at HCALL HPP hlt
      have hL1' : P1 < L1 := by omega
      clear e3 h1 h3 ht2 hVT hL1 h1p
      go_wp2_with fail
      refine HCALL.out.mono ?_
      rintro e w2 ⟨rfl, hb2⟩
      have HB2 := Lib.hid (HBW.out.trans (hb2.mono hsz'))
      have HO2 := Lib.hid (HOWN.out.on hb2)
      have hs2 := HB2.out.size
      clear hb2 HCALL q0 q1
      go_wp2_with (at_builtin
                   refine app_int1 rfl (.tmp 26) (.tmp 28) rfl w1.heap.size _ _ VT rfl HO2.out rfl hvl1 hs2 ?_
                   intro v3 w3 hown3 hb3
                   have HO3 := Lib.hid hown3
                   have HB3 := Lib.hid (HB2.out.trans hb3)
                   clear hown3 hb3)
      go_roundw
      case rel => exact ⟨j + 1, a1 ++ t1, a3, by rw [← HPP.out], by omega, by rw [HAE.out, HE3.out, List.append_assoc], trm_append HT1.out H1.out, by rw [show k - (j + 1) = k - j - 1 by omega]; exact H3.out, HO3.out.cast HVV.out.symm, HB3.out⟩
      case measure => simp [intOf]; omega
end Go.Proofs.YtcjpopjcpgipjaaDoor
