/-
  The law FactBack: the walk.
-/
import Derived.Test.YthnjpkghjkhjdaaAwakeF
import Derived.Test.YthnjpkghjkhjdaaFactSp
namespace Go.Proofs.Ythnjpkghjkhjdaa
open Go.RowKit Go.Deep
set_option linter.unusedSimpArgs false
set_option linter.unusedVariables false
set_option maxRecDepth 100000

/-- What is put in and taken out again: the facts that were. -/
theorem back_cut {ss : List Sym} {t : Tb} {a : List Int} {d : Nat} (hm : mayB ss = true) (ht : TabOk (factB ss) t) (ha : factB ss a = true) (hn : a ∉ t.facts) (hf : t.facts.length < 24) (hd : slAt t (atF a d) < 0) (hb : ∀ e, e < d → 0 ≤ slAt t (atF a e)) :
    TabOk (factB ss) (putT t a d) ∧ PutX ss (putT t a d) a (putT t a d) false 0 ∧ (hasV' ss (putT t a d) a = true ∧ hasE ss (putT t a d) a = 0) ∧ ∃ TC, CutX ss (putT t a d) a TC true 0 ∧ TC.facts = t.facts ∧ TabOk (factB ss) TC := by
  have h1 := ht.put ha hn hf hd hb
  have ho : okT ss (putT t a d) a = true := okT_yes (tabB_yes hm h1) ha
  have hin : a ∈ (putT t a d).facts := mem_put.2 (.inr rfl)
  obtain ⟨q1, q2⟩ := has_yes ho
  refine ⟨h1, .there ho hin, ⟨by rw [q1]; exact decide_eq_true hin, q2⟩, ?_⟩
  obtain ⟨TC, b, E, hc⟩ := cut_ex ss (putT t a d) a
  obtain ⟨k, p, r, hk, hka, hp, hr, ep, er, rfl, rfl, rfl⟩ := hc.is_done ho hin
  have hl : (putT t a d).facts.length = t.facts.length + 1 := by unfold putT; simp
  have hkl : k = t.facts.length := nodup_fc.1 h1.one k t.facts.length hk (by omega) (by rw [hka, fcAt_put_last])
  subst hkl
  exact ⟨_, hc, cut_put, h1.cut hk hp hr ep er⟩
theorem PutX.is_is {ss : List Sym} {t T : Tb} {a : List Int} {b : Bool} {E : Int} (h : PutX ss t a T b E) : b = false ∨ (b = true ∧ E = 0 ∧ okT ss t a = true ∧ a ∉ t.facts ∧ t.facts.length < 24 ∧ ∃ d, T = putT t a d ∧ slAt t (atF a d) < 0 ∧ ∀ e, e < d → 0 ≤ slAt t (atF a e)) := by
  cases h with
  | bad h => exact .inl rfl
  | there h => exact .inl rfl
  | full h => exact .inl rfl
  | done h k l d hd hb => exact .inr ⟨rfl, rfl, h, k, l, d, rfl, hd, hb⟩
set_option maxHeartbeats 8000000 in
theorem factBackL_any (A A' : Option Addr) (n cp m c' : Nat) (ss : List Sym) (v : Tv) (t : Tb) (a : List Int) (w : World) (h : SymsAt w w.heap.size A n ss) (hn : n ≤ maxLen) (hnc : n ≤ cp) (hc : TabAt w w.heap.size v t) (hr : IntsAt w w.heap.size A' m a) (hm : m ≤ maxLen) (hmc : m ≤ c') :
    Calls Try.prog 6 #[.slice A n cp, v.val, .slice A' m c'] w fun e w' => e = .returned (.bool true) ∧ Below w.heap.size w w' := by
  have hb0 := below_new w v.obj
  have hx := TBox.new hc
  have hs := h.on hb0
  have hr0 := hr.on hb0
  obtain ⟨TP, bP, EP, hpx⟩ := put_ex ss t a
  have HPP := Lib.hid hpx
  have HFP := Lib.hid hpx.small.fit
  rw [Tv.val_eq]
  unfold Tv.obj at hx hb0 hs hr0
  have HX := Lib.hid hx
  have HB0 := Lib.hid hb0
  have HS := Lib.hid hs
  have HR := Lib.hid hr0
  clear hc hb0 hx hs h hr hr0 hpx
  go_enter Try.func6, Try.ntmps6
  go_wp2_with fail
  obtain ⟨w0, hw0⟩ : ∃ w0, w0 = w.alloc (.cells #[.slice v.A1 v.n1 v.c1, .slice v.A2 v.n2 v.c2] 26) := ⟨_, rfl⟩
  rw [← hw0] at HX HB0 HS HR ⊢
  clear hw0
  refine (awakeF_any _).mono ?_
  rintro e w2 ⟨rfl, hb2⟩
  have HB2 := Lib.hid (HB0.out.trans (hb2.mono HB0.out.size))
  replace HX := Lib.hid (HX.out.on hb2)
  replace HS := Lib.hid (HS.out.on hb2)
  replace HR := Lib.hid (HR.out.on hb2)
  clear hb2
  rcases HPP.out.is_is with hbf | ⟨hbt, hE, hok, hnm, hlt, d, hT, hd, hbd⟩
  · subst hbf
    have p0 := HX.out.c0
    have p1 := HX.out.c1
    go_wp2_with fail
    refine (put_fact A A' n cp m c' ss v t a TP false EP HPP.out _ HS.out hn hnc HX.out.tb HR.out hm hmc).mono ?_
    rintro e w3 ⟨v3, rfl, hv3, hb3⟩
    obtain ⟨y3, rfl, ht3⟩ := hv3.tab HFP.out
    have HT3 := Lib.hid ht3
    have HB3 := Lib.hid (HB2.out.trans (hb3.mono HB2.out.size))
    replace HX := Lib.hid (HX.out.on hb3)
    replace HS := Lib.hid (HS.out.on hb3)
    replace HR := Lib.hid (HR.out.on hb3)
    clear hv3 ht3 hb3 p0 p1
    go_wp2_with (refine store_box rfl 26 (.tmp 7) (.tmp 25) rfl rfl w3.heap.size _ _ rfl rfl (heap_alloc_new w3 (.cells #[.slice none 0 0, .slice none 0 0] 26)) rfl (by kernel_rfl) two_one ?_
                 intro w4 hg hc hs
                 obtain ⟨hx, hb⟩ := TBox.made HT3.out hg hc
                 have HX3 := Lib.hid hx
                 have HB4 := Lib.hid (HB3.out.trans (hb.mono HB3.out.size))
                 replace HX := Lib.hid (HX.out.on hb)
                 replace HS := Lib.hid (HS.out.on hb)
                 replace HR := Lib.hid (HR.out.on hb)
                 have p0 := HX.out.c0
                 have p1 := HX.out.c1
                 clear hg hc hs hx hb)
    clear p0 p1
    obtain ⟨g3, hg3⟩ : ∃ g, g = w3.heap.size := ⟨_, rfl⟩
    rw [← hg3] at HX3 ⊢
    clear hg3 HT3 HB3
    by_cases e0 : EP = 0
    · have e1 : (EP != 0) = false := by simp [e0]
      subst e0
      go_wp2_with (go_at_call 16; refine (num_any _ _).mono ?_; rintro e w' ⟨rfl, rfl⟩)
      go_ret
      exact ⟨rfl, HB4.out⟩
    · have e1 : (EP != 0) = true := by simp [e0]
      go_wp2_with (go_at_call 16; refine (num_any _ _).mono ?_; rintro e w' ⟨rfl, rfl⟩)
      go_ret
      exact ⟨rfl, HB4.out⟩
  · have HOK := Lib.hid (okT_true hok)
    obtain ⟨h1, h2, h3, TC, h4, h5, h6⟩ := back_cut HOK.out.1 HOK.out.2.1 HOK.out.2.2 hnm hlt hd hbd
    rw [← hT] at h1 h2 h3 h4
    have HP1 := Lib.hid h1
    have HP2 := Lib.hid h2
    have HP3 := Lib.hid h3
    have HP4 := Lib.hid h4
    have HP5 := Lib.hid h5
    have HP6 := Lib.hid h6
    have HT1 := Lib.hid (tabB_yes HOK.out.1 h1)
    have HT2 := Lib.hid (tabB_yes HOK.out.1 h6)
    have HFC := Lib.hid h6.small.fit
    subst hbt hE
    clear hok hnm hlt hT hd hbd h1 h2 h3 h4 h5 h6
    have p0 := HX.out.c0
    have p1 := HX.out.c1
    go_wp2_with fail
    refine (put_fact A A' n cp m c' ss v t a TP true 0 HPP.out _ HS.out hn hnc HX.out.tb HR.out hm hmc).mono ?_
    rintro e w3 ⟨v3, rfl, hv3, hb3⟩
    obtain ⟨y3, rfl, ht3⟩ := hv3.tab HFP.out
    have HT3 := Lib.hid ht3
    have HB3 := Lib.hid (HB2.out.trans (hb3.mono HB2.out.size))
    replace HX := Lib.hid (HX.out.on hb3)
    replace HS := Lib.hid (HS.out.on hb3)
    replace HR := Lib.hid (HR.out.on hb3)
    clear hv3 ht3 hb3 p0 p1
    go_wp2_with (refine store_box rfl 26 (.tmp 7) (.tmp 25) rfl rfl w3.heap.size _ _ rfl rfl (heap_alloc_new w3 (.cells #[.slice none 0 0, .slice none 0 0] 26)) rfl (by kernel_rfl) two_one ?_
                 intro w4 hg hc hs
                 obtain ⟨hx, hb⟩ := TBox.made HT3.out hg hc
                 have HX3 := Lib.hid hx
                 have HB4 := Lib.hid (HB3.out.trans (hb.mono HB3.out.size))
                 replace HX := Lib.hid (HX.out.on hb)
                 replace HS := Lib.hid (HS.out.on hb)
                 replace HR := Lib.hid (HR.out.on hb)
                 have p0 := HX.out.c0
                 have p1 := HX.out.c1
                 clear hg hc hs hx hb)
    clear p0 p1
    obtain ⟨g3, hg3⟩ : ∃ g, g = w3.heap.size := ⟨_, rfl⟩
    rw [← hg3] at HX3 ⊢
    clear hg3 HT3 HB3
    have p0 := HX3.out.c0
    have p1 := HX3.out.c1
    go_wp2_with (go_at_call 16; refine (num_any _ _).mono ?_; rintro e w' ⟨rfl, rfl⟩)
    refine (has_fact A A' n cp m c' ss y3 TP a _ HS.out hn hnc HX3.out.tb HR.out hm hmc).mono ?_
    rintro e w5 ⟨rfl, hb5⟩
    rw [HP3.out.1, HP3.out.2]
    have HB5 := Lib.hid (HB4.out.trans (hb5.mono HB4.out.size))
    replace HX := Lib.hid (HX.out.on hb5)
    replace HS := Lib.hid (HS.out.on hb5)
    replace HR := Lib.hid (HR.out.on hb5)
    replace HX3 := Lib.hid (HX3.out.on hb5)
    clear hb5 p0 p1
    have p0 := HX3.out.c0
    have p1 := HX3.out.c1
    go_wp2_with fail
    refine (cut_fact A A' n cp m c' ss y3 TP a TC true 0 HP4.out _ HS.out hn hnc HX3.out.tb HR.out hm hmc).mono ?_
    rintro e w6 ⟨v6, rfl, hv6, hb6⟩
    obtain ⟨y6, rfl, ht6⟩ := hv6.tab HFC.out
    have HT6 := Lib.hid ht6
    have HB6 := Lib.hid (HB5.out.trans (hb6.mono HB5.out.size))
    replace HX := Lib.hid (HX.out.on hb6)
    replace HS := Lib.hid (HS.out.on hb6)
    replace HR := Lib.hid (HR.out.on hb6)
    replace HX3 := Lib.hid (HX3.out.on hb6)
    clear hv6 ht6 hb6 p0 p1
    go_wp2_with (refine store_box rfl 26 (.tmp 12) (.tmp 49) rfl rfl w6.heap.size _ _ rfl rfl (heap_alloc_new w6 (.cells #[.slice none 0 0, .slice none 0 0] 26)) rfl (by kernel_rfl) two_one ?_
                 intro w7 hg hc hs
                 obtain ⟨hx, hb⟩ := TBox.made HT6.out hg hc
                 have HX6 := Lib.hid hx
                 have HB7 := Lib.hid (HB6.out.trans (hb.mono HB6.out.size))
                 replace HX := Lib.hid (HX.out.on hb)
                 replace HS := Lib.hid (HS.out.on hb)
                 replace HR := Lib.hid (HR.out.on hb)
                 replace HX3 := Lib.hid (HX3.out.on hb)
                 have p0 := HX3.out.c0
                 have p1 := HX3.out.c1
                 clear hg hc hs hx hb)
    clear p0 p1
    obtain ⟨g6, hg6⟩ : ∃ g, g = w6.heap.size := ⟨_, rfl⟩
    rw [← hg6] at HX6 ⊢
    clear hg6 HT6 HB6
    have p0 := HX3.out.c0
    have p1 := HX3.out.c1
    go_wp2_with fail
    refine (put_fact A A' n cp m c' ss y3 TP a TP false 0 HP2.out _ HS.out hn hnc HX3.out.tb HR.out hm hmc).mono ?_
    rintro e w8 ⟨v8, rfl, hv8, hb8⟩
    obtain ⟨y8, rfl, ht8⟩ := hv8.tab HFP.out
    have HT8 := Lib.hid ht8
    have HB8 := Lib.hid (HB7.out.trans (hb8.mono HB7.out.size))
    replace HX := Lib.hid (HX.out.on hb8)
    replace HS := Lib.hid (HS.out.on hb8)
    replace HR := Lib.hid (HR.out.on hb8)
    replace HX3 := Lib.hid (HX3.out.on hb8)
    replace HX6 := Lib.hid (HX6.out.on hb8)
    clear hv8 ht8 hb8 p0 p1
    go_wp2_with (refine store_box rfl 26 (.tmp 15) (.tmp 57) rfl rfl w8.heap.size _ _ rfl rfl (heap_alloc_new w8 (.cells #[.slice none 0 0, .slice none 0 0] 26)) rfl (by kernel_rfl) two_one ?_
                 intro w9 hg hc hs
                 obtain ⟨hx, hb⟩ := TBox.made HT8.out hg hc
                 have HX8 := Lib.hid hx
                 have HB9 := Lib.hid (HB8.out.trans (hb.mono HB8.out.size))
                 replace HX := Lib.hid (HX.out.on hb)
                 replace HS := Lib.hid (HS.out.on hb)
                 replace HR := Lib.hid (HR.out.on hb)
                 replace HX3 := Lib.hid (HX3.out.on hb)
                 replace HX6 := Lib.hid (HX6.out.on hb)
                 have p0 := HX3.out.c0
                 have p1 := HX3.out.c1
                 clear hg hc hs hx hb)
    clear p0 p1
    obtain ⟨g8, hg8⟩ : ∃ g, g = w8.heap.size := ⟨_, rfl⟩
    rw [← hg8] at HX8 ⊢
    clear hg8 HT8 HB8
    have q1 := HX6.out.c1
    have p1 := HX.out.c1
    go_wp2_with (go_at_call 16; refine (num_any _ _).mono ?_; rintro e w' ⟨rfl, rfl⟩)
    have hnn : v.n2 = y6.n2 := by rw [← HX.out.tb.fc.len, ← HX6.out.tb.fc.len, HP5.out]
    have hvf : TupsAt w9 w9.heap.size v.A2 y6.n2 TC.facts := by rw [HP5.out, ← hnn]; exact HX.out.tb.fc
    have hf2 : y6.n2 * 24 ≤ 140737488351232 := HX6.out.tb.f2
    rw [hnn]
    refine (sameRows_true y6.A2 v.A2 y6.n2 y6.c2 v.c2 TC.facts _ HX6.out.tb.fc hf2 hvf).mono ?_
    rintro e w10 ⟨rfl, hb10⟩
    have HB10 := Lib.hid (HB9.out.trans (hb10.mono HB9.out.size))
    replace HS := Lib.hid (HS.out.on hb10)
    replace HX3 := Lib.hid (HX3.out.on hb10)
    replace HX6 := Lib.hid (HX6.out.on hb10)
    replace HX8 := Lib.hid (HX8.out.on hb10)
    clear hb10 p1 q1 hnn hvf hf2
    have p0 := HX3.out.c0
    have p1 := HX3.out.c1
    go_wp2_with fail
    refine (mayF_any A n cp ss y3 TP _ HS.out hn hnc HX3.out.tb).mono ?_
    rintro e w11 ⟨rfl, hb11⟩
    rw [HT1.out]
    have HB11 := Lib.hid (HB10.out.trans (hb11.mono HB10.out.size))
    replace HS := Lib.hid (HS.out.on hb11)
    replace HX3 := Lib.hid (HX3.out.on hb11)
    replace HX6 := Lib.hid (HX6.out.on hb11)
    replace HX8 := Lib.hid (HX8.out.on hb11)
    clear hb11 p0 p1
    have p0 := HX6.out.c0
    have p1 := HX6.out.c1
    go_wp2_with fail
    refine (mayF_any A n cp ss y6 TC _ HS.out hn hnc HX6.out.tb).mono ?_
    rintro e w12 ⟨rfl, hb12⟩
    rw [HT2.out]
    have HB12 := Lib.hid (HB11.out.trans (hb12.mono HB11.out.size))
    replace HX3 := Lib.hid (HX3.out.on hb12)
    replace HX8 := Lib.hid (HX8.out.on hb12)
    clear hb12 p0 p1
    have p0 := HX3.out.c0
    have p1 := HX3.out.c1
    have q0 := HX8.out.c0
    have q1 := HX8.out.c1
    go_wp2_with (go_at_call 16; refine (num_any _ _).mono ?_; rintro e w' ⟨rfl, rfl⟩)
    refine (sameTable_true y8 y3 TP _ HX8.out.tb HX3.out.tb).mono ?_
    rintro e w13 ⟨rfl, hb13⟩
    have HB13 := Lib.hid (HB12.out.trans (hb13.mono HB12.out.size))
    clear hb13 p0 p1 q0 q1
    go_wp2
    go_ret
    exact ⟨rfl, HB13.out⟩
end Go.Proofs.Ythnjpkghjkhjdaa
