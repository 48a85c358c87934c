/-
  The law FactTurns: the walk.
-/
import Derived.Test.YthnjpkghjkhjdaaAwakeF
import Derived.Test.YthnjpkghjkhjdaaFactRP
import Derived.Test.YthnjpkghjkhjdaaFactRC
import Derived.Test.YthnjpkghjkhjdaaFactSp
namespace Go.Proofs.Ythnjpkghjkhjdaa
open Go.RowKit Go.Deep
set_option linter.unusedSimpArgs false
set_option linter.unusedVariables false
set_option maxRecDepth 100000

set_option maxHeartbeats 8000000 in
theorem factTurnsL_any (A A' : Option Addr) (n cp m c' : Nat) (ss : List Sym) (v : Tv) (t : Tb) (a : List Int) (w : World) (h : SymsAt w w.heap.size A n ss) (hn : n ≤ maxLen) (hnc : n ≤ cp) (hc : TabAt w w.heap.size v t) (hr : IntsAt w w.heap.size A' m a) (hm : m ≤ maxLen) (hmc : m ≤ c') :
    Calls Try.prog 4 #[.slice A n cp, v.val, .slice A' m c'] w fun e w' => e = .returned (.bool true) ∧ Below w.heap.size w w' := by
  have hb0 := below_new w v.obj
  have hx := TBox.new hc
  have hs := h.on hb0
  have hr0 := hr.on hb0
  have hfit := hc.fit
  obtain ⟨TP, bP, EP, hpx⟩ := put_ex ss t a
  obtain ⟨TC, bC, EC, hcx⟩ := cut_ex ss t a
  have HPP := Lib.hid hpx
  have HCC := Lib.hid hcx
  have HFP := Lib.hid hpx.small.fit
  have HFC := Lib.hid hcx.small.fit
  rw [Tv.val_eq]
  unfold Tv.obj at hx hb0 hs hr0
  have HX := Lib.hid hx
  have HB0 := Lib.hid hb0
  have HS := Lib.hid hs
  have HR := Lib.hid hr0
  have HFT := Lib.hid hfit
  have p0 := hx.c0
  have p1 := hx.c1
  clear hc hb0 hx hs h hr hr0 hfit hpx hcx
  go_enter Try.func4, Try.ntmps4
  go_wp2_with fail
  obtain ⟨w0, hw0⟩ : ∃ w0, w0 = w.alloc (.cells #[.slice v.A1 v.n1 v.c1, .slice v.A2 v.n2 v.c2] 26) := ⟨_, rfl⟩
  rw [← hw0] at HX HB0 HS HR p0 p1 ⊢
  clear hw0
  refine (copyTable_any v t _ HX.out.tb).mono ?_
  rintro e w1 ⟨v1, rfl, hv1, hb1⟩
  obtain ⟨x, rfl, ht1⟩ := hv1.tab HFT.out
  have HT1 := Lib.hid ht1
  have HBW1 := Lib.hid (HB0.out.trans (hb1.mono HB0.out.size))
  replace HX := Lib.hid (HX.out.on hb1)
  replace HS := Lib.hid (HS.out.on hb1)
  replace HR := Lib.hid (HR.out.on hb1)
  clear hv1 ht1 hb1 p0 p1
  go_wp2_with (refine store_box rfl 26 (.tmp 7) (.tmp 21) rfl rfl w1.heap.size _ _ rfl rfl (heap_alloc_new w1 (.cells #[.slice none 0 0, .slice none 0 0] 26)) rfl (by kernel_rfl) two_one ?_
               intro w2 hg2 hc2 hs2
               obtain ⟨hw2, hb2⟩ := TBox.made HT1.out hg2 hc2
               have HW := Lib.hid hw2
               have HBW := Lib.hid (HBW1.out.trans (hb2.mono HBW1.out.size))
               replace HX := Lib.hid (HX.out.on hb2)
               replace HS := Lib.hid (HS.out.on hb2)
               replace HR := Lib.hid (HR.out.on hb2)
               have p0 := HX.out.c0
               have p1 := HX.out.c1
               clear hg2 hc2 hs2 hw2 hb2)
  obtain ⟨g, hg⟩ : ∃ g, g = w1.heap.size := ⟨_, rfl⟩
  rw [← hg] at HW ⊢
  have HB2 := Lib.hid (Below.refl w2.heap.size w2)
  clear hg HT1 HBW1
  refine (put_fact A A' n cp m c' ss v t a TP bP EP HPP.out _ (HS.out.on HB2.out) hn hnc (HX.out.on HB2.out).tb (HR.out.on HB2.out) hm hmc).mono ?_
  rintro e w3 ⟨v3, rfl, hv3, hb3⟩
  obtain ⟨y3, rfl, ht3⟩ := hv3.tab HFP.out
  have HT3 := Lib.hid ht3
  have HO3 := Lib.hid ((hv3.own.weak HFP.out).lower HB2.out.size)
  have HB3 := Lib.hid (HB2.out.trans (hb3.mono HB2.out.size))
  clear hv3 ht3 hb3 p0 p1
  go_wp2_with (refine store_box rfl 26 (.tmp 8) (.tmp 27) rfl rfl w3.heap.size _ _ rfl rfl (heap_alloc_new w3 (.cells #[.slice none 0 0, .slice none 0 0] 26)) rfl (by kernel_rfl) two_one ?_
               intro w4 hg hc hs
               obtain ⟨hx, hb⟩ := TBox.made HT3.out hg hc
               have HX3 := Lib.hid hx
               have HG3 := Lib.hid (TBoxRow.of_heap hg)
               have HB4 := Lib.hid (HB3.out.trans (hb.mono HB3.out.size))
               replace HO3 := Lib.hid (HO3.out.on hb)
               have p0 := (HX.out.on HB4.out).c0
               have p1 := (HX.out.on HB4.out).c1
               clear hg hc hs hx hb)
  obtain ⟨g3, hg3⟩ : ∃ g, g = w3.heap.size := ⟨_, rfl⟩
  rw [← hg3] at HX3 HG3 ⊢
  clear hg3 HT3 HB3
  refine (put_ref A A' n cp m c' ss v t a TP bP EP HPP.out _ (HS.out.on HB4.out) hn (HX.out.on HB4.out).tb (HR.out.on HB4.out) hm hmc).mono ?_
  rintro e w5 ⟨v5, rfl, hv5, hb5⟩
  obtain ⟨y5, rfl, ht5⟩ := hv5.tab HFP.out
  have HT5 := Lib.hid ht5
  have HO5 := Lib.hid ((hv5.own.weak HFP.out).lower HB4.out.size)
  have HB5 := Lib.hid (HB4.out.trans (hb5.mono HB4.out.size))
  replace HX3 := Lib.hid (HX3.out.on hb5)
  replace HG3 := Lib.hid (HG3.out.on hb5)
  replace HO3 := Lib.hid (HO3.out.on hb5)
  clear hv5 ht5 hb5 p0 p1
  go_wp2_with (refine store_box rfl 26 (.tmp 11) (.tmp 35) rfl rfl w5.heap.size _ _ rfl rfl (heap_alloc_new w5 (.cells #[.slice none 0 0, .slice none 0 0] 26)) rfl (by kernel_rfl) two_one ?_
               intro w6 hg hc hs
               obtain ⟨hx, hb⟩ := TBox.made HT5.out hg hc
               have HX5 := Lib.hid hx
               have HG5 := Lib.hid (TBoxRow.of_heap hg)
               have HB6 := Lib.hid (HB5.out.trans (hb.mono HB5.out.size))
               replace HO5 := Lib.hid (HO5.out.on hb)
               replace HX3 := Lib.hid (HX3.out.on hb)
               replace HG3 := Lib.hid (HG3.out.on hb)
               replace HO3 := Lib.hid (HO3.out.on hb)
               have p0 := (HX.out.on HB6.out).c0
               have p1 := (HX.out.on HB6.out).c1
               clear hg hc hs hx hb)
  obtain ⟨g5, hg5⟩ : ∃ g, g = w5.heap.size := ⟨_, rfl⟩
  rw [← hg5] at HX5 HG5 ⊢
  clear hg5 HT5 HB5
  refine (cut_fact A A' n cp m c' ss v t a TC bC EC HCC.out _ (HS.out.on HB6.out) hn hnc (HX.out.on HB6.out).tb (HR.out.on HB6.out) hm hmc).mono ?_
  rintro e w7 ⟨v7, rfl, hv7, hb7⟩
  obtain ⟨y7, rfl, ht7⟩ := hv7.tab HFC.out
  have HT7 := Lib.hid ht7
  have HO7 := Lib.hid ((hv7.own.weak HFC.out).lower HB6.out.size)
  have HB7 := Lib.hid (HB6.out.trans (hb7.mono HB6.out.size))
  replace HX3 := Lib.hid (HX3.out.on hb7)
  replace HG3 := Lib.hid (HG3.out.on hb7)
  replace HO3 := Lib.hid (HO3.out.on hb7)
  replace HX5 := Lib.hid (HX5.out.on hb7)
  clear hv7 ht7 hb7 p0 p1
  go_wp2_with (refine store_box rfl 26 (.tmp 14) (.tmp 43) rfl rfl w7.heap.size _ _ rfl rfl (heap_alloc_new w7 (.cells #[.slice none 0 0, .slice none 0 0] 26)) rfl (by kernel_rfl) two_one ?_
               intro w8 hg hc hs
               obtain ⟨hx, hb⟩ := TBox.made HT7.out hg hc
               have HX7 := Lib.hid hx
               have HG7 := Lib.hid (TBoxRow.of_heap hg)
               have HB8 := Lib.hid (HB7.out.trans (hb.mono HB7.out.size))
               replace HO7 := Lib.hid (HO7.out.on hb)
               replace HX3 := Lib.hid (HX3.out.on hb)
               replace HG3 := Lib.hid (HG3.out.on hb)
               replace HO3 := Lib.hid (HO3.out.on hb)
               replace HX5 := Lib.hid (HX5.out.on hb)
               have p0 := (HX.out.on HB8.out).c0
               have p1 := (HX.out.on HB8.out).c1
               clear hg hc hs hx hb)
  obtain ⟨g7, hg7⟩ : ∃ g, g = w7.heap.size := ⟨_, rfl⟩
  rw [← hg7] at HX7 HG7 ⊢
  clear hg7 HT7 HB7
  refine (cut_ref A A' n cp m c' ss v t a TC bC EC HCC.out _ (HS.out.on HB8.out) hn (HX.out.on HB8.out).tb (HR.out.on HB8.out) hm hmc).mono ?_
  rintro e w9 ⟨v9, rfl, hv9, hb9⟩
  obtain ⟨y9, rfl, ht9⟩ := hv9.tab HFC.out
  have HT9 := Lib.hid ht9
  have HO9 := Lib.hid ((hv9.own.weak HFC.out).lower HB8.out.size)
  have HB9 := Lib.hid (HB8.out.trans (hb9.mono HB8.out.size))
  replace HX3 := Lib.hid (HX3.out.on hb9)
  replace HG3 := Lib.hid (HG3.out.on hb9)
  replace HO3 := Lib.hid (HO3.out.on hb9)
  replace HX5 := Lib.hid (HX5.out.on hb9)
  replace HX7 := Lib.hid (HX7.out.on hb9)
  replace HG7 := Lib.hid (HG7.out.on hb9)
  replace HO7 := Lib.hid (HO7.out.on hb9)
  clear hv9 ht9 hb9 p0 p1
  go_wp2_with (refine store_box rfl 26 (.tmp 17) (.tmp 51) rfl rfl w9.heap.size _ _ rfl rfl (heap_alloc_new w9 (.cells #[.slice none 0 0, .slice none 0 0] 26)) rfl (by kernel_rfl) two_one ?_
               intro w10 hg hc hs
               obtain ⟨hx, hb⟩ := TBox.made HT9.out hg hc
               have HX9 := Lib.hid hx
               have HG9 := Lib.hid (TBoxRow.of_heap hg)
               have HB10 := Lib.hid (HB9.out.trans (hb.mono HB9.out.size))
               replace HO9 := Lib.hid (HO9.out.on hb)
               replace HX3 := Lib.hid (HX3.out.on hb)
               replace HG3 := Lib.hid (HG3.out.on hb)
               replace HO3 := Lib.hid (HO3.out.on hb)
               replace HX5 := Lib.hid (HX5.out.on hb)
               replace HX7 := Lib.hid (HX7.out.on hb)
               replace HG7 := Lib.hid (HG7.out.on hb)
               replace HO7 := Lib.hid (HO7.out.on hb)
               have q0 := HX3.out.c0
               have q1 := HX3.out.c1
               have r0 := HX5.out.c0
               have r1 := HX5.out.c1
               clear hg hc hs hx hb)
  obtain ⟨g9, hg9⟩ : ∃ g, g = w9.heap.size := ⟨_, rfl⟩
  rw [← hg9] at HX9 HG9 ⊢
  clear hg9 HT9 HB9
  refine (sameTable_true y3 y5 TP _ HX3.out.tb HX5.out.tb).mono ?_
  rintro e w11 ⟨rfl, hb11⟩
  have HB11 := Lib.hid (HB10.out.trans (hb11.mono HB10.out.size))
  replace HX3 := Lib.hid (HX3.out.on hb11)
  replace HG3 := Lib.hid (HG3.out.on hb11)
  replace HO3 := Lib.hid (HO3.out.on hb11)
  replace HX7 := Lib.hid (HX7.out.on hb11)
  replace HG7 := Lib.hid (HG7.out.on hb11)
  replace HO7 := Lib.hid (HO7.out.on hb11)
  replace HX9 := Lib.hid (HX9.out.on hb11)
  clear hb11 q0 q1 r0 r1 HX5
  have q0 := HX7.out.c0
  have q1 := HX7.out.c1
  have r0 := HX9.out.c0
  have r1 := HX9.out.c1
  have eP : (bP != bP) = false := by cases bP <;> rfl
  have eC : (bC != bC) = false := by cases bC <;> rfl
  have fP : (EP != EP) = false := by simp
  have fC : (EC != EC) = false := by simp
  go_wp2_with (go_at_call 16; refine (num_any _ _).mono ?_; rintro e w' ⟨rfl, rfl⟩)
  refine (sameTable_true y7 y9 TC _ HX7.out.tb HX9.out.tb).mono ?_
  rintro e w12 ⟨rfl, hb12⟩
  have HB12 := Lib.hid (HB11.out.trans (hb12.mono HB11.out.size))
  replace HX3 := Lib.hid (HX3.out.on hb12)
  replace HG3 := Lib.hid (HG3.out.on hb12)
  replace HO3 := Lib.hid (HO3.out.on hb12)
  replace HX7 := Lib.hid (HX7.out.on hb12)
  replace HG7 := Lib.hid (HG7.out.on hb12)
  replace HO7 := Lib.hid (HO7.out.on hb12)
  clear hb12 q0 q1 r0 r1 HX9
  have q0 := HX3.out.c0
  have q1 := HX3.out.c1
  go_wp2_with (go_at_call 16; refine (num_any _ _).mono ?_; rintro e w' ⟨rfl, rfl⟩)
  refine (spoilTw_any _ _ _ HO3.out HB12.out.size).mono ?_
  rintro e w13 ⟨rfl, hb13, hk13, hr13⟩
  have HB13 := Lib.hid (HB12.out.trans hb13)
  replace HO7 := Lib.hid (hk13 _ _ HO7.out)
  replace HG7 := Lib.hid (hr13 _ _ _ HG7.out)
  clear hb13 hk13 hr13 q0 q1 HX3 HG3 HO3 HX7
  obtain ⟨q0, q1⟩ := HG7.out.get
  go_wp2_with fail
  refine (spoilTw_any _ _ _ HO7.out HB13.out.size).mono ?_
  rintro e w14 ⟨rfl, hb14, -, -⟩
  have HB14 := Lib.hid (HB13.out.trans hb14)
  clear hb14 q0 q1 HO7 HG7
  have p0 := (HX.out.on HB14.out).c0
  have p1 := (HX.out.on HB14.out).c1
  have q0 := (HW.out.on HB14.out).c0
  have q1 := (HW.out.on HB14.out).c1
  go_wp2_with fail
  refine (sameTable_true v x t _ (HX.out.on HB14.out).tb (HW.out.on HB14.out).tb).mono ?_
  rintro e w15 ⟨rfl, hb15⟩
  have HB15 := Lib.hid (HB14.out.trans (hb15.mono HB14.out.size))
  clear hb15 p0 p1 q0 q1
  go_wp2_with fail
  refine (awakeF_any _).mono ?_
  rintro e w16 ⟨rfl, hb16⟩
  have HB16 := Lib.hid (HB15.out.trans (hb16.mono HB15.out.size))
  clear hb16
  go_wp2
  go_ret
  exact ⟨rfl, HBW.out.trans (HB16.out.mono HBW.out.size)⟩
end Go.Proofs.Ythnjpkghjkhjdaa
