/-
  The walk of laws.FnExactRemoveSet. By an AI agent.
-/
import Derived.Test.YthjbekgognfiiaaIxQ
import Derived.Test.YthjbekgognfiiaaIxU
import Derived.Deep.RegionHeld3
namespace Go.Proofs.Ythjbekgognfiiaa
open Go.RowKit
set_option linter.unusedVariables false

set_option maxRecDepth 100000 in
set_option maxHeartbeats 6400000 in
theorem FnExactRemoveSet_walk (t0 : Int) (ta0 : Option Addr) (tc0 : Nat) (T0 : List TC) (xa0 : Option Addr) (xc0 : Nat) (S0 : List IS) (a1 : Int) (w : World) (h0 : ArgIx w ta0 T0 xa0 S0) :
    Calls Try.prog 4 #[.agg #[.int .i64 t0, .slice ta0 T0.length tc0, .slice xa0 S0.length xc0], .int .i64 a1] w fun e w' => e = .returned (.bool true) ∧ Below w.heap.size w w' := by
  have H0 := Lib.hid h0
  clear h0
  by_cases hs : ixz T0 S0 ≤ 1048576
  · obtain ⟨r0, hr⟩ : ∃ r : Nat, r + ixz T0 S0 = 1048576 := ⟨1048576 - ixz T0 S0, by omega⟩
    have hrl0 : (r0 : Int) ≤ 1048576 := by omega
    have HS0 := Lib.hid hr
    have HZ0 := Lib.hid (show ixz T0 S0 ≤ 1048576 by omega)
    clear hs hr
    obtain ⟨rt, hrt⟩ : ∃ r, (t0) = r := ⟨_, rfl⟩
    obtain ⟨rT, hrT⟩ : ∃ r, (T0) = r := ⟨_, rfl⟩
    obtain ⟨rS, hrS⟩ : ∃ r, (remR t0 T0 S0 a1) = r := ⟨_, rfl⟩
    obtain ⟨rb, hrb⟩ : ∃ r, (okRem t0 T0 S0 a1) = r := ⟨_, rfl⟩
    have HRL := Lib.hid (show BndX rT rS by rw [← hrT, ← hrS]; exact rem_bnd t0 a1 HZ0.out)
    have HRt := Lib.hid hrt
    have HRT := Lib.hid hrT
    have HRS := Lib.hid hrS
    have HRB := Lib.hid hrb
    clear hrt hrT hrS hrb
    go_enter Try.func4, Try.ntmps4
    obtain ⟨w1, hv⟩ : ∃ x, x = w.alloc (.cells #[.int .i64 t0, .slice ta0 T0.length tc0, .slice xa0 S0.length xc0] 25) := ⟨_, rfl⟩
    have hb : Below w.heap.size w w1 := by rw [hv]; exact (Below.refl _ _).alloc (Nat.le_refl _) _
    have RL0_1 := Lib.hid (show BlkV w1 w.heap.size 25 #[.int .i64 t0, .slice ta0 T0.length tc0, .slice xa0 S0.length xc0] by rw [hv]; exact BlkV.new _ _ _)
    have B1 := Lib.hid hb
    have Z1 := Lib.hid (show w.heap.size + 1 ≤ w1.heap.size by rw [hv]; simp)
    have V1 := Lib.hid hv
    clear hb hv
    have qL00 := RL0_1.out.three0
    have pL00 := qL00
    rw [V1.out] at pL00
    have qL01 := RL0_1.out.three1
    have pL01 := qL01
    rw [V1.out] at pL01
    have qL02 := RL0_1.out.three2
    have pL02 := qL02
    rw [V1.out] at pL02
    go_wp2_with (go_at_call 5; rw [← V1.out]; (refine (szix_yes t0 ta0 tc0 T0 xa0 xc0 S0 1048576 r0 _ H0.out B1.out (by omega) HS0.out).mono ?_); rintro e w2 ⟨rfl, hb⟩; refine Hid.out ?_)
    have RL0_2 := Lib.hid (RL0_1.out.below hb)
    have B2 := Lib.hid (B1.out.trans (hb.mono B1.out.size))
    have Z2 := Lib.hid hb.size
    clear hb
    clear qL00 pL00 qL01 pL01 qL02 pL02
    have qL00 := RL0_2.out.three0
    have qL01 := RL0_2.out.three1
    have qL02 := RL0_2.out.three2
    refine Lib.hid ?_
    go_wp2_with (go_at_call 8; (refine (toix_any t0 ta0 tc0 T0 xa0 xc0 S0 _ HZ0.out (H0.out.below B2.out)).mono ?_); rintro e w3 ⟨bs0, ds0, es0, fs0, qs0, rfl, hq, ho, hb⟩; refine Hid.out ?_)
    have Qs0 := Lib.hid hq
    have RL0_3 := Lib.hid (RL0_2.out.below hb)
    have Os0_3 := Lib.hid ho
    have B3 := Lib.hid (B2.out.trans (hb.mono B2.out.size))
    have Z3 := Lib.hid hb.size
    clear hq ho hb
    clear qL00 qL01 qL02
    have qL00 := RL0_3.out.three0
    have qL01 := RL0_3.out.three1
    have qL02 := RL0_3.out.three2
    refine Lib.hid ?_
    go_wp2_with (go_at_call 16; (refine (rem_spec t0 bs0 ds0 T0 es0 fs0 S0 a1 rt rT rS rb _ HRt.out HRT.out HRS.out HRB.out (Os0_3.out.sm Qs0.out HZ0.out H0.out.1.2)).mono ?_); rintro e w4 ⟨bw, dw, ew, fw, qw, rfl, hq, ho, hb⟩; refine Hid.out ?_)
    have Qw := Lib.hid hq
    have Os0_4 := Lib.hid (Os0_3.out.below hb)
    have RL0_4 := Lib.hid (RL0_3.out.below hb)
    have Ow_4 := Lib.hid ho
    have B4 := Lib.hid (B3.out.trans (hb.mono B3.out.size))
    have Z4 := Lib.hid hb.size
    clear hq ho hb
    obtain ⟨w5, hv⟩ : ∃ x, x = w4.alloc (.cells #[.int .i64 rt, .slice bw rT.length dw, .slice ew rS.length fw] 32) := ⟨_, rfl⟩
    have hb : Below w4.heap.size w4 w5 := by rw [hv]; exact (Below.refl _ _).alloc (Nat.le_refl _) _
    have Os0_5 := Lib.hid (Os0_4.out.below hb)
    have Ow_5 := Lib.hid (Ow_4.out.below hb)
    have RL0_5 := Lib.hid (RL0_4.out.below hb)
    have Rw_5 := Lib.hid (show BlkV w5 w4.heap.size 32 #[.int .i64 rt, .slice bw rT.length dw, .slice ew rS.length fw] by rw [hv]; exact BlkV.new _ _ _)
    have B5 := Lib.hid (B4.out.trans (hb.mono B4.out.size))
    have Z5 := Lib.hid (show w4.heap.size + 1 ≤ w5.heap.size by rw [hv]; simp)
    have V5 := Lib.hid hv
    clear hb hv
    clear qL00 qL01 qL02
    have qL00 := RL0_5.out.three0
    have pL00 := qL00
    rw [V5.out] at pL00
    have qL01 := RL0_5.out.three1
    have pL01 := qL01
    rw [V5.out] at pL01
    have qL02 := RL0_5.out.three2
    have pL02 := qL02
    rw [V5.out] at pL02
    have qw0 := Rw_5.out.three0
    have pw0 := qw0
    rw [V5.out] at pw0
    have qw1 := Rw_5.out.three1
    have pw1 := qw1
    rw [V5.out] at pw1
    have qw2 := Rw_5.out.three2
    have pw2 := qw2
    rw [V5.out] at pw2
    refine Lib.hid ?_
    go_wp2_with (go_at_call 8; rw [← V5.out]; (refine (toix_any t0 ta0 tc0 T0 xa0 xc0 S0 _ HZ0.out (H0.out.below B5.out)).mono ?_); rintro e w6 ⟨bx0, dx0, ex0, fx0, qx0, rfl, hq, ho, hb⟩; refine Hid.out ?_)
    have Qx0 := Lib.hid hq
    have Ow_6 := Lib.hid (Ow_5.out.below hb)
    have RL0_6 := Lib.hid (RL0_5.out.below hb)
    have Rw_6 := Lib.hid (Rw_5.out.below hb)
    have Ox0_6 := Lib.hid ho
    have B6 := Lib.hid (B5.out.trans (hb.mono B5.out.size))
    have Z6 := Lib.hid hb.size
    clear hq ho hb
    obtain ⟨w7, hv⟩ : ∃ x, x = w6.alloc (.cells #[.int .i64 t0, .slice bx0 T0.length dx0, .slice ex0 S0.length fx0] 32) := ⟨_, rfl⟩
    have hb : Below w6.heap.size w6 w7 := by rw [hv]; exact (Below.refl _ _).alloc (Nat.le_refl _) _
    have Ow_7 := Lib.hid (Ow_6.out.below hb)
    have Ox0_7 := Lib.hid (Ox0_6.out.below hb)
    have RL0_7 := Lib.hid (RL0_6.out.below hb)
    have Rw_7 := Lib.hid (Rw_6.out.below hb)
    have Rx0_7 := Lib.hid (show BlkV w7 w6.heap.size 32 #[.int .i64 t0, .slice bx0 T0.length dx0, .slice ex0 S0.length fx0] by rw [hv]; exact BlkV.new _ _ _)
    have B7 := Lib.hid (B6.out.trans (hb.mono B6.out.size))
    have Z7 := Lib.hid (show w6.heap.size + 1 ≤ w7.heap.size by rw [hv]; simp)
    have V7 := Lib.hid hv
    clear hb hv
    clear qL00 pL00 qL01 pL01 qL02 pL02 qw0 pw0 qw1 pw1 qw2 pw2
    have qL00 := RL0_7.out.three0
    have pL00 := qL00
    rw [V7.out] at pL00
    have qL01 := RL0_7.out.three1
    have pL01 := qL01
    rw [V7.out] at pL01
    have qL02 := RL0_7.out.three2
    have pL02 := qL02
    rw [V7.out] at pL02
    have qw0 := Rw_7.out.three0
    have pw0 := qw0
    rw [V7.out] at pw0
    have qw1 := Rw_7.out.three1
    have pw1 := qw1
    rw [V7.out] at pw1
    have qw2 := Rw_7.out.three2
    have pw2 := qw2
    rw [V7.out] at pw2
    have qx00 := Rx0_7.out.three0
    have px00 := qx00
    rw [V7.out] at px00
    have qx01 := Rx0_7.out.three1
    have px01 := qx01
    rw [V7.out] at px01
    have qx02 := Rx0_7.out.three2
    have px02 := qx02
    rw [V7.out] at px02
    refine Lib.hid ?_
    go_wp2_with (go_at_call 17; rw [← V7.out]; (refine (rem_impl t0 bx0 dx0 T0 ex0 fx0 S0 a1 rt rT rS rb _ HRt.out HRT.out HRS.out HRB.out (Ox0_7.out.sm Qx0.out HZ0.out H0.out.1.2)).mono ?_); rintro e w8 ⟨bg, dg, eg, fg, qg, rfl, hq, ho, hb⟩; refine Hid.out ?_)
    have Qg := Lib.hid hq
    have Ow_8 := Lib.hid (Ow_7.out.below hb)
    have Ox0_8 := Lib.hid (Ox0_7.out.below hb)
    have RL0_8 := Lib.hid (RL0_7.out.below hb)
    have Rw_8 := Lib.hid (Rw_7.out.below hb)
    have Rx0_8 := Lib.hid (Rx0_7.out.below hb)
    have Og_8 := Lib.hid ho
    have B8 := Lib.hid (B7.out.trans (hb.mono B7.out.size))
    have Z8 := Lib.hid hb.size
    clear hq ho hb
    obtain ⟨w9, hv⟩ : ∃ x, x = w8.alloc (.cells #[.int .i64 rt, .slice bg rT.length dg, .slice eg rS.length fg] 32) := ⟨_, rfl⟩
    have hb : Below w8.heap.size w8 w9 := by rw [hv]; exact (Below.refl _ _).alloc (Nat.le_refl _) _
    have Ow_9 := Lib.hid (Ow_8.out.below hb)
    have Ox0_9 := Lib.hid (Ox0_8.out.below hb)
    have Og_9 := Lib.hid (Og_8.out.below hb)
    have RL0_9 := Lib.hid (RL0_8.out.below hb)
    have Rw_9 := Lib.hid (Rw_8.out.below hb)
    have Rx0_9 := Lib.hid (Rx0_8.out.below hb)
    have Rg_9 := Lib.hid (show BlkV w9 w8.heap.size 32 #[.int .i64 rt, .slice bg rT.length dg, .slice eg rS.length fg] by rw [hv]; exact BlkV.new _ _ _)
    have B9 := Lib.hid (B8.out.trans (hb.mono B8.out.size))
    have Z9 := Lib.hid (show w8.heap.size + 1 ≤ w9.heap.size by rw [hv]; simp)
    have V9 := Lib.hid hv
    clear hb hv
    clear qL00 pL00 qL01 pL01 qL02 pL02 qw0 pw0 qw1 pw1 qw2 pw2 qx00 px00 qx01 px01 qx02 px02
    have qL00 := RL0_9.out.three0
    have pL00 := qL00
    rw [V9.out] at pL00
    have qL01 := RL0_9.out.three1
    have pL01 := qL01
    rw [V9.out] at pL01
    have qL02 := RL0_9.out.three2
    have pL02 := qL02
    rw [V9.out] at pL02
    have qw0 := Rw_9.out.three0
    have pw0 := qw0
    rw [V9.out] at pw0
    have qw1 := Rw_9.out.three1
    have pw1 := qw1
    rw [V9.out] at pw1
    have qw2 := Rw_9.out.three2
    have pw2 := qw2
    rw [V9.out] at pw2
    have qx00 := Rx0_9.out.three0
    have px00 := qx00
    rw [V9.out] at px00
    have qx01 := Rx0_9.out.three1
    have px01 := qx01
    rw [V9.out] at px01
    have qx02 := Rx0_9.out.three2
    have px02 := qx02
    rw [V9.out] at px02
    have qg0 := Rg_9.out.three0
    have pg0 := qg0
    rw [V9.out] at pg0
    have qg1 := Rg_9.out.three1
    have pg1 := qg1
    rw [V9.out] at pg1
    have qg2 := Rg_9.out.three2
    have pg2 := qg2
    rw [V9.out] at pg2
    refine Lib.hid ?_
    go_wp2_with (go_at_call 11; rw [← V9.out]; (refine (eqix_same rt bg dg eg fg bw dw ew fw rT rS _ HRL.out (Og_9.out.inn Qg.out) (Ow_9.out.inn Qw.out)).mono ?_); rintro e w10 ⟨rfl, hb⟩; refine Hid.out ?_)
    have Ow_10 := Lib.hid (Ow_9.out.below hb)
    have Ox0_10 := Lib.hid (Ox0_9.out.below hb)
    have Og_10 := Lib.hid (Og_9.out.below hb)
    have RL0_10 := Lib.hid (RL0_9.out.below hb)
    have Rw_10 := Lib.hid (Rw_9.out.below hb)
    have Rx0_10 := Lib.hid (Rx0_9.out.below hb)
    have Rg_10 := Lib.hid (Rg_9.out.below hb)
    have B10 := Lib.hid (B9.out.trans (hb.mono B9.out.size))
    have Z10 := Lib.hid hb.size
    clear hb
    clear qL00 pL00 qL01 pL01 qL02 pL02 qw0 pw0 qw1 pw1 qw2 pw2 qx00 px00 qx01 px01 qx02 px02 qg0 pg0 qg1 pg1 qg2 pg2
    have qL00 := RL0_10.out.three0
    have qL01 := RL0_10.out.three1
    have qL02 := RL0_10.out.three2
    have qw0 := Rw_10.out.three0
    have qw1 := Rw_10.out.three1
    have qw2 := Rw_10.out.three2
    have qx00 := Rx0_10.out.three0
    have qx01 := Rx0_10.out.three1
    have qx02 := Rx0_10.out.three2
    have qg0 := Rg_10.out.three0
    have qg1 := Rg_10.out.three1
    have qg2 := Rg_10.out.three2
    refine Lib.hid ?_
    go_wp2_with (fail)
    go_region_held3 (fun w' => w'.cell? ⟨w6.heap.size, 0, none⟩ = some (.int .i64 t0) ∧ w'.cell? ⟨w6.heap.size, 1, none⟩ = some (.slice bx0 T0.length dx0) ∧ w'.cell? ⟨w6.heap.size, 2, none⟩ = some (.slice ex0 S0.length fx0) ∧ w'.cell? ⟨w.heap.size, 0, none⟩ = some (.int .i64 t0) ∧ w'.cell? ⟨w.heap.size, 1, none⟩ = some (.slice ta0 T0.length tc0) ∧ w'.cell? ⟨w.heap.size, 2, none⟩ = some (.slice xa0 S0.length xc0))
      (first | exact ⟨ux00, ux01, ux02, uL00, uL01, uL02⟩ | exact ⟨tx00, tx01, tx02, tL00, tL01, tL02⟩ | exact ⟨qx00, qx01, qx02, qL00, qL01, qL02⟩)
      (first
        | (go_at_call 8; (with_reducible refine (toix_any t0 ta0 tc0 T0 xa0 xc0 S0 _ HZ0.out (H0.out.below B10.out.drew)).mono ?_); rintro e w11 ⟨bt0, dt0, et0, ft0, qt0, rfl, hq, ho, hb⟩; have hr := undrew hb; have Qt0 := Lib.hid hq; have Ow_11 := Lib.hid (Ow_10.out.below hr); have Ox0_11 := Lib.hid (Ox0_10.out.below hr); have Og_11 := Lib.hid (Og_10.out.below hr); have RL0_11 := Lib.hid (RL0_10.out.below hr); have Rw_11 := Lib.hid (Rw_10.out.below hr); have Rx0_11 := Lib.hid (Rx0_10.out.below hr); have Rg_11 := Lib.hid (Rg_10.out.below hr); have tx00 := Rx0_11.out.three0; have tx01 := Rx0_11.out.three1; have tx02 := Rx0_11.out.three2; have tL00 := RL0_11.out.three0; have tL01 := RL0_11.out.three1; have tL02 := RL0_11.out.three2; have Ot0_11 := Lib.hid ho; have B11 := Lib.hid (B10.out.trans (hr.mono B10.out.size)); have Z11 := Lib.hid hr.size; clear hq ho hb hr)
        | (go_at_call 11; (with_reducible refine (eqix_same t0 bx0 dx0 ex0 fx0 bt0 dt0 et0 ft0 T0 S0 _ (bnd_of HZ0.out) (Ox0_11.out.inn Qx0.out) (Ot0_11.out.inn Qt0.out)).mono ?_); rintro e w12 ⟨rfl, hb⟩; have Ow_12 := Lib.hid (Ow_11.out.below hb); have Ox0_12 := Lib.hid (Ox0_11.out.below hb); have Og_12 := Lib.hid (Og_11.out.below hb); have RL0_12 := Lib.hid (RL0_11.out.below hb); have Rw_12 := Lib.hid (Rw_11.out.below hb); have Rx0_12 := Lib.hid (Rx0_11.out.below hb); have Rg_12 := Lib.hid (Rg_11.out.below hb); have ux00 := Rx0_12.out.three0; have ux01 := Rx0_12.out.three1; have ux02 := Rx0_12.out.three2; have uL00 := RL0_12.out.three0; have uL01 := RL0_12.out.three1; have uL02 := RL0_12.out.three2; have B12 := Lib.hid (B11.out.trans (hb.mono B11.out.size)); have Z12 := Lib.hid hb.size; clear hb))
    refine Hid.out ?_
    clear tx00 tx01 tx02 tL00 tL01 tL02 ux00 ux01 ux02 uL00 uL01 uL02
    clear qL00 qL01 qL02 qw0 qw1 qw2 qx00 qx01 qx02 qg0 qg1 qg2
    have qL00 := RL0_12.out.three0
    have qL01 := RL0_12.out.three1
    have qL02 := RL0_12.out.three2
    have qw0 := Rw_12.out.three0
    have qw1 := Rw_12.out.three1
    have qw2 := Rw_12.out.three2
    have qx00 := Rx0_12.out.three0
    have qx01 := Rx0_12.out.three1
    have qx02 := Rx0_12.out.three2
    have qg0 := Rg_12.out.three0
    have qg1 := Rg_12.out.three1
    have qg2 := Rg_12.out.three2
    refine Lib.hid ?_
    go_wp2_with (go_at_call 13; (refine (markix_any w5.heap.size w6.heap.size t0 bx0 dx0 ex0 fx0 T0 qx0 S0 (1) _ Qx0.out (bnd_of HZ0.out) (by omega) (by omega) Ox0_12.out).mono ?_); rintro e w13 ⟨rfl, ho, hc⟩; refine Hid.out ?_)
    have Ow_13 := Lib.hid (Ow_12.out.chg hc (by have := Z1.out; have := Z2.out; have := Z3.out; have := Z4.out; have := Z5.out; have := Z6.out; have := Z7.out; have := Z8.out; have := Z9.out; have := Z10.out; have := Z11.out; have := Z12.out; omega))
    have Og_13 := Lib.hid (Og_12.out.chg hc (by have := Z1.out; have := Z2.out; have := Z3.out; have := Z4.out; have := Z5.out; have := Z6.out; have := Z7.out; have := Z8.out; have := Z9.out; have := Z10.out; have := Z11.out; have := Z12.out; omega))
    have RL0_13 := Lib.hid (RL0_12.out.chg hc (by have := Z1.out; have := Z2.out; have := Z3.out; have := Z4.out; have := Z5.out; have := Z6.out; have := Z7.out; have := Z8.out; have := Z9.out; have := Z10.out; have := Z11.out; have := Z12.out; omega))
    have Rw_13 := Lib.hid (Rw_12.out.chg hc (by have := Z1.out; have := Z2.out; have := Z3.out; have := Z4.out; have := Z5.out; have := Z6.out; have := Z7.out; have := Z8.out; have := Z9.out; have := Z10.out; have := Z11.out; have := Z12.out; omega))
    have Rx0_13 := Lib.hid (Rx0_12.out.chg hc (by have := Z1.out; have := Z2.out; have := Z3.out; have := Z4.out; have := Z5.out; have := Z6.out; have := Z7.out; have := Z8.out; have := Z9.out; have := Z10.out; have := Z11.out; have := Z12.out; omega))
    have Rg_13 := Lib.hid (Rg_12.out.chg hc (by have := Z1.out; have := Z2.out; have := Z3.out; have := Z4.out; have := Z5.out; have := Z6.out; have := Z7.out; have := Z8.out; have := Z9.out; have := Z10.out; have := Z11.out; have := Z12.out; omega))
    have Ox0_13 := Lib.hid ho
    have B13 := Lib.hid (below_chg B12.out hc (by have := Z1.out; have := Z2.out; have := Z3.out; have := Z4.out; have := Z5.out; have := Z6.out; have := Z7.out; have := Z8.out; have := Z9.out; have := Z10.out; have := Z11.out; have := Z12.out; omega))
    have Z13 := Lib.hid hc.size
    clear ho hc
    clear qL00 qL01 qL02 qw0 qw1 qw2 qx00 qx01 qx02 qg0 qg1 qg2
    have qL00 := RL0_13.out.three0
    have qL01 := RL0_13.out.three1
    have qL02 := RL0_13.out.three2
    have qw0 := Rw_13.out.three0
    have qw1 := Rw_13.out.three1
    have qw2 := Rw_13.out.three2
    have qx00 := Rx0_13.out.three0
    have qx01 := Rx0_13.out.three1
    have qx02 := Rx0_13.out.three2
    have qg0 := Rg_13.out.three0
    have qg1 := Rg_13.out.three1
    have qg2 := Rg_13.out.three2
    refine Lib.hid ?_
    go_wp2_with (go_at_call 11; (refine (eqix_same rt bg dg eg fg bw dw ew fw rT rS _ HRL.out (Og_13.out.inn Qg.out) (Ow_13.out.inn Qw.out)).mono ?_); rintro e w14 ⟨rfl, hb⟩; refine Hid.out ?_)
    have Ow_14 := Lib.hid (Ow_13.out.below hb)
    have Og_14 := Lib.hid (Og_13.out.below hb)
    have RL0_14 := Lib.hid (RL0_13.out.below hb)
    have Rw_14 := Lib.hid (Rw_13.out.below hb)
    have Rg_14 := Lib.hid (Rg_13.out.below hb)
    have B14 := Lib.hid (B13.out.trans (hb.mono B13.out.size))
    have Z14 := Lib.hid hb.size
    clear hb
    clear qL00 qL01 qL02 qw0 qw1 qw2 qx00 qx01 qx02 qg0 qg1 qg2
    have qL00 := RL0_14.out.three0
    have qL01 := RL0_14.out.three1
    have qL02 := RL0_14.out.three2
    have qw0 := Rw_14.out.three0
    have qw1 := Rw_14.out.three1
    have qw2 := Rw_14.out.three2
    have qg0 := Rg_14.out.three0
    have qg1 := Rg_14.out.three1
    have qg2 := Rg_14.out.three2
    refine Lib.hid ?_
    go_wp2_with (go_at_call 13; (refine (markix_any w7.heap.size w8.heap.size rt bg dg eg fg rT qg rS (1) _ Qg.out HRL.out (by omega) (by omega) Og_14.out).mono ?_); rintro e w15 ⟨rfl, ho, hc⟩; refine Hid.out ?_)
    have Ow_15 := Lib.hid (Ow_14.out.chg hc (by have := Z1.out; have := Z2.out; have := Z3.out; have := Z4.out; have := Z5.out; have := Z6.out; have := Z7.out; have := Z8.out; have := Z9.out; have := Z10.out; have := Z11.out; have := Z12.out; have := Z13.out; have := Z14.out; omega))
    have RL0_15 := Lib.hid (RL0_14.out.chg hc (by have := Z1.out; have := Z2.out; have := Z3.out; have := Z4.out; have := Z5.out; have := Z6.out; have := Z7.out; have := Z8.out; have := Z9.out; have := Z10.out; have := Z11.out; have := Z12.out; have := Z13.out; have := Z14.out; omega))
    have Rw_15 := Lib.hid (Rw_14.out.chg hc (by have := Z1.out; have := Z2.out; have := Z3.out; have := Z4.out; have := Z5.out; have := Z6.out; have := Z7.out; have := Z8.out; have := Z9.out; have := Z10.out; have := Z11.out; have := Z12.out; have := Z13.out; have := Z14.out; omega))
    have Rg_15 := Lib.hid (Rg_14.out.chg hc (by have := Z1.out; have := Z2.out; have := Z3.out; have := Z4.out; have := Z5.out; have := Z6.out; have := Z7.out; have := Z8.out; have := Z9.out; have := Z10.out; have := Z11.out; have := Z12.out; have := Z13.out; have := Z14.out; omega))
    have Og_15 := Lib.hid ho
    have B15 := Lib.hid (below_chg B14.out hc (by have := Z1.out; have := Z2.out; have := Z3.out; have := Z4.out; have := Z5.out; have := Z6.out; have := Z7.out; have := Z8.out; have := Z9.out; have := Z10.out; have := Z11.out; have := Z12.out; have := Z13.out; have := Z14.out; omega))
    have Z15 := Lib.hid hc.size
    clear ho hc
    clear qL00 qL01 qL02 qw0 qw1 qw2 qg0 qg1 qg2
    have qL00 := RL0_15.out.three0
    have qL01 := RL0_15.out.three1
    have qL02 := RL0_15.out.three2
    have qw0 := Rw_15.out.three0
    have qw1 := Rw_15.out.three1
    have qw2 := Rw_15.out.three2
    have qg0 := Rg_15.out.three0
    have qg1 := Rg_15.out.three1
    have qg2 := Rg_15.out.three2
    refine Lib.hid ?_
    go_wp2_with (go_at_call 15; (refine (heldix_any rt bg dg eg fg rT qg rS 1 _ Qg.out HRL.out (by omega) (by omega) Og_15.out.tab.inT Og_15.out.sets.1.inX).mono ?_); rintro e w16 ⟨rfl, hb⟩; refine Hid.out ?_)
    have Ow_16 := Lib.hid (Ow_15.out.below hb)
    have Og_16 := Lib.hid (Og_15.out.below hb)
    have RL0_16 := Lib.hid (RL0_15.out.below hb)
    have Rw_16 := Lib.hid (Rw_15.out.below hb)
    have Rg_16 := Lib.hid (Rg_15.out.below hb)
    have B16 := Lib.hid (B15.out.trans (hb.mono B15.out.size))
    have Z16 := Lib.hid hb.size
    clear hb
    clear qL00 qL01 qL02 qw0 qw1 qw2 qg0 qg1 qg2
    have qL00 := RL0_16.out.three0
    have qL01 := RL0_16.out.three1
    have qL02 := RL0_16.out.three2
    have qw0 := Rw_16.out.three0
    have qw1 := Rw_16.out.three1
    have qw2 := Rw_16.out.three2
    have qg0 := Rg_16.out.three0
    have qg1 := Rg_16.out.three1
    have qg2 := Rg_16.out.three2
    refine Lib.hid ?_
    go_wp2_with (go_at_call 8; (refine (toix_any t0 ta0 tc0 T0 xa0 xc0 S0 _ HZ0.out (H0.out.below B16.out)).mono ?_); rintro e w17 ⟨by0, dy0, ey0, fy0, qy0, rfl, hq, ho, hb⟩; refine Hid.out ?_)
    have Qy0 := Lib.hid hq
    have Ow_17 := Lib.hid (Ow_16.out.below hb)
    have Og_17 := Lib.hid (Og_16.out.below hb)
    have RL0_17 := Lib.hid (RL0_16.out.below hb)
    have Rw_17 := Lib.hid (Rw_16.out.below hb)
    have Rg_17 := Lib.hid (Rg_16.out.below hb)
    have Oy0_17 := Lib.hid ho
    have B17 := Lib.hid (B16.out.trans (hb.mono B16.out.size))
    have Z17 := Lib.hid hb.size
    clear hq ho hb
    clear qL00 qL01 qL02 qw0 qw1 qw2 qg0 qg1 qg2
    have qL00 := RL0_17.out.three0
    have qL01 := RL0_17.out.three1
    have qL02 := RL0_17.out.three2
    have qw0 := Rw_17.out.three0
    have qw1 := Rw_17.out.three1
    have qw2 := Rw_17.out.three2
    have qg0 := Rg_17.out.three0
    have qg1 := Rg_17.out.three1
    have qg2 := Rg_17.out.three2
    refine Lib.hid ?_
    go_wp2_with (go_at_call 17; (refine (rem_impl t0 by0 dy0 T0 ey0 fy0 S0 a1 rt rT rS rb _ HRt.out HRT.out HRS.out HRB.out (Oy0_17.out.sm Qy0.out HZ0.out H0.out.1.2)).mono ?_); rintro e w18 ⟨bh, dh, eh, fh, qh, rfl, hq, ho, hb⟩; refine Hid.out ?_)
    have Qh := Lib.hid hq
    have Ow_18 := Lib.hid (Ow_17.out.below hb)
    have Og_18 := Lib.hid (Og_17.out.below hb)
    have Oy0_18 := Lib.hid (Oy0_17.out.below hb)
    have RL0_18 := Lib.hid (RL0_17.out.below hb)
    have Rw_18 := Lib.hid (Rw_17.out.below hb)
    have Rg_18 := Lib.hid (Rg_17.out.below hb)
    have Oh_18 := Lib.hid ho
    have B18 := Lib.hid (B17.out.trans (hb.mono B17.out.size))
    have Z18 := Lib.hid hb.size
    clear hq ho hb
    obtain ⟨w19, hv⟩ : ∃ x, x = w18.alloc (.cells #[.int .i64 rt, .slice bh rT.length dh, .slice eh rS.length fh] 32) := ⟨_, rfl⟩
    have hb : Below w18.heap.size w18 w19 := by rw [hv]; exact (Below.refl _ _).alloc (Nat.le_refl _) _
    have Ow_19 := Lib.hid (Ow_18.out.below hb)
    have Og_19 := Lib.hid (Og_18.out.below hb)
    have Oy0_19 := Lib.hid (Oy0_18.out.below hb)
    have Oh_19 := Lib.hid (Oh_18.out.below hb)
    have RL0_19 := Lib.hid (RL0_18.out.below hb)
    have Rw_19 := Lib.hid (Rw_18.out.below hb)
    have Rg_19 := Lib.hid (Rg_18.out.below hb)
    have Rh_19 := Lib.hid (show BlkV w19 w18.heap.size 32 #[.int .i64 rt, .slice bh rT.length dh, .slice eh rS.length fh] by rw [hv]; exact BlkV.new _ _ _)
    have B19 := Lib.hid (B18.out.trans (hb.mono B18.out.size))
    have Z19 := Lib.hid (show w18.heap.size + 1 ≤ w19.heap.size by rw [hv]; simp)
    have V19 := Lib.hid hv
    clear hb hv
    clear qL00 qL01 qL02 qw0 qw1 qw2 qg0 qg1 qg2
    have qL00 := RL0_19.out.three0
    have pL00 := qL00
    rw [V19.out] at pL00
    have qL01 := RL0_19.out.three1
    have pL01 := qL01
    rw [V19.out] at pL01
    have qL02 := RL0_19.out.three2
    have pL02 := qL02
    rw [V19.out] at pL02
    have qw0 := Rw_19.out.three0
    have pw0 := qw0
    rw [V19.out] at pw0
    have qw1 := Rw_19.out.three1
    have pw1 := qw1
    rw [V19.out] at pw1
    have qw2 := Rw_19.out.three2
    have pw2 := qw2
    rw [V19.out] at pw2
    have qg0 := Rg_19.out.three0
    have pg0 := qg0
    rw [V19.out] at pg0
    have qg1 := Rg_19.out.three1
    have pg1 := qg1
    rw [V19.out] at pg1
    have qg2 := Rg_19.out.three2
    have pg2 := qg2
    rw [V19.out] at pg2
    have qh0 := Rh_19.out.three0
    have ph0 := qh0
    rw [V19.out] at ph0
    have qh1 := Rh_19.out.three1
    have ph1 := qh1
    rw [V19.out] at ph1
    have qh2 := Rh_19.out.three2
    have ph2 := qh2
    rw [V19.out] at ph2
    refine Lib.hid ?_
    go_wp2_with (go_at_call 11; rw [← V19.out]; (refine (eqix_same rt bh dh eh fh bw dw ew fw rT rS _ HRL.out (Oh_19.out.inn Qh.out) (Ow_19.out.inn Qw.out)).mono ?_); rintro e w20 ⟨rfl, hb⟩; refine Hid.out ?_)
    have Ow_20 := Lib.hid (Ow_19.out.below hb)
    have Og_20 := Lib.hid (Og_19.out.below hb)
    have Oh_20 := Lib.hid (Oh_19.out.below hb)
    have RL0_20 := Lib.hid (RL0_19.out.below hb)
    have Rw_20 := Lib.hid (Rw_19.out.below hb)
    have Rg_20 := Lib.hid (Rg_19.out.below hb)
    have Rh_20 := Lib.hid (Rh_19.out.below hb)
    have B20 := Lib.hid (B19.out.trans (hb.mono B19.out.size))
    have Z20 := Lib.hid hb.size
    clear hb
    clear qL00 pL00 qL01 pL01 qL02 pL02 qw0 pw0 qw1 pw1 qw2 pw2 qg0 pg0 qg1 pg1 qg2 pg2 qh0 ph0 qh1 ph1 qh2 ph2
    have qL00 := RL0_20.out.three0
    have qL01 := RL0_20.out.three1
    have qL02 := RL0_20.out.three2
    have qw0 := Rw_20.out.three0
    have qw1 := Rw_20.out.three1
    have qw2 := Rw_20.out.three2
    have qg0 := Rg_20.out.three0
    have qg1 := Rg_20.out.three1
    have qg2 := Rg_20.out.three2
    have qh0 := Rh_20.out.three0
    have qh1 := Rh_20.out.three1
    have qh2 := Rh_20.out.three2
    refine Lib.hid ?_
    go_wp2_with (go_at_call 15; (refine (heldix_any rt bg dg eg fg rT qg rS 1 _ Qg.out HRL.out (by omega) (by omega) Og_20.out.tab.inT Og_20.out.sets.1.inX).mono ?_); rintro e w21 ⟨rfl, hb⟩; refine Hid.out ?_)
    have Ow_21 := Lib.hid (Ow_20.out.below hb)
    have Og_21 := Lib.hid (Og_20.out.below hb)
    have Oh_21 := Lib.hid (Oh_20.out.below hb)
    have RL0_21 := Lib.hid (RL0_20.out.below hb)
    have Rw_21 := Lib.hid (Rw_20.out.below hb)
    have Rg_21 := Lib.hid (Rg_20.out.below hb)
    have Rh_21 := Lib.hid (Rh_20.out.below hb)
    have B21 := Lib.hid (B20.out.trans (hb.mono B20.out.size))
    have Z21 := Lib.hid hb.size
    clear hb
    clear qL00 qL01 qL02 qw0 qw1 qw2 qg0 qg1 qg2 qh0 qh1 qh2
    have qL00 := RL0_21.out.three0
    have qL01 := RL0_21.out.three1
    have qL02 := RL0_21.out.three2
    have qw0 := Rw_21.out.three0
    have qw1 := Rw_21.out.three1
    have qw2 := Rw_21.out.three2
    have qg0 := Rg_21.out.three0
    have qg1 := Rg_21.out.three1
    have qg2 := Rg_21.out.three2
    have qh0 := Rh_21.out.three0
    have qh1 := Rh_21.out.three1
    have qh2 := Rh_21.out.three2
    refine Lib.hid ?_
    go_wp2
    go_ret
    exact ⟨rfl, B21.out⟩
  · have HS0 := Lib.hid hs
    clear hs
    go_enter Try.func4, Try.ntmps4
    obtain ⟨w1, hv⟩ : ∃ x, x = w.alloc (.cells #[.int .i64 t0, .slice ta0 T0.length tc0, .slice xa0 S0.length xc0] 25) := ⟨_, rfl⟩
    have hb : Below w.heap.size w w1 := by rw [hv]; exact (Below.refl _ _).alloc (Nat.le_refl _) _
    have RL0_1 := Lib.hid (show BlkV w1 w.heap.size 25 #[.int .i64 t0, .slice ta0 T0.length tc0, .slice xa0 S0.length xc0] by rw [hv]; exact BlkV.new _ _ _)
    have B1 := Lib.hid hb
    have Z1 := Lib.hid (show w.heap.size + 1 ≤ w1.heap.size by rw [hv]; simp)
    have V1 := Lib.hid hv
    clear hb hv
    have qL00 := RL0_1.out.three0
    have pL00 := qL00
    rw [V1.out] at pL00
    have qL01 := RL0_1.out.three1
    have pL01 := qL01
    rw [V1.out] at pL01
    have qL02 := RL0_1.out.three2
    have pL02 := qL02
    rw [V1.out] at pL02
    go_wp2_with (go_at_call 5; rw [← V1.out]; (refine (szix_no t0 ta0 tc0 T0 xa0 xc0 S0 1048576 _ H0.out B1.out (by omega) HS0.out).mono ?_); rintro e wz ⟨rfl, hb⟩)
    go_ret
    exact ⟨rfl, B1.out.trans (hb.mono B1.out.size)⟩

end Go.Proofs.Ythjbekgognfiiaa
