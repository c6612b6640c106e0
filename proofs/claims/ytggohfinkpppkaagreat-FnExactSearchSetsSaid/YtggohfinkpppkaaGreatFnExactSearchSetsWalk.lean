/-
  The walk of laws.FnExactSearchSets. By an AI agent.
-/
import Derived.Test.YtggohfinkpppkaaGreatSeS
import Derived.Test.YtggohfinkpppkaaGreatCdL
import Derived.Test.YtggohfinkpppkaaGreatIxU
import Derived.Deep.RegionHeld3
import Derived.Test.YtggohfinkpppkaaGreatJ8
namespace Go.Proofs.YtggohfinkpppkaaGreat
open Go.RowKit
set_option linter.unusedVariables false

set_option maxRecDepth 100000 in
set_option maxHeartbeats 6400000 in
theorem FnExactSearchSets_walk (t0 : Int) (ta0 : Option Addr) (tc0 : Nat) (T0 : List TC) (xa0 : Option Addr) (xc0 : Nat) (S0 : List IS) (a1 : Option Addr) (c1 : Nat) (l1 : List Str) (w : World) (h0 : ArgIx w ta0 T0 xa0 S0) (h1 : ArgS w a1 l1) :
    Calls Tryz.prog 5 #[.agg #[.int .i64 t0, .slice ta0 T0.length tc0, .slice xa0 S0.length xc0], .slice a1 l1.length c1] w fun e w' => e = .returned (.bool true) ∧ Below w.heap.size w w' := by
  have H0 := Lib.hid h0
  have H1 := Lib.hid h1
  clear h0 h1
  by_cases hs : ixz T0 S0 ≤ 1048576
  · obtain ⟨r0, hr⟩ : ∃ r : Nat, r + ixz T0 S0 = 1048576 := ⟨1048576 - ixz T0 S0, by omega⟩
    have hrl0 : (r0 : Int) ≤ 1048576 := by omega
    have HS0 := Lib.hid hr
    have HZ0 := Lib.hid (show ixz T0 S0 ≤ 1048576 by omega)
    clear hs hr
    by_cases hs : szL l1 ≤ r0
    · obtain ⟨r1, hr⟩ : ∃ r : Nat, r + szL l1 = r0 := ⟨r0 - szL l1, by omega⟩
      have hrl1 : (r1 : Int) ≤ 1048576 := by omega
      have HS1 := Lib.hid hr
      have HZ1 := Lib.hid (show szL l1 ≤ 1048576 by omega)
      clear hs hr
      obtain ⟨r, hr⟩ : ∃ r, searR t0 T0 S0 l1 = r := ⟨_, rfl⟩
      have HRL := Lib.hid (show r.length ≤ 4000000 by rw [← hr]; exact sear_len HZ0.out)
      have HRR := Lib.hid hr
      clear hr
      go_enter Tryz.func5, Tryz.ntmps5
      obtain ⟨w1, hv⟩ : ∃ x, x = w.alloc (.cells #[.int .i64 t0, .slice ta0 T0.length tc0, .slice xa0 S0.length xc0] 48) := ⟨_, rfl⟩
      have hb : Below w.heap.size w w1 := by rw [hv]; exact (Below.refl _ _).alloc (Nat.le_refl _) _
      have RL0_1 := Lib.hid (show BlkV w1 w.heap.size 48 #[.int .i64 t0, .slice ta0 T0.length tc0, .slice xa0 S0.length xc0] by rw [hv]; exact BlkV.new _ _ _)
      have B1 := Lib.hid hb
      have Z1 := Lib.hid (show w.heap.size + 1 ≤ w1.heap.size by rw [hv]; simp)
      have V1 := Lib.hid hv
      clear hb hv
      have qL00 := RL0_1.out.three0
      have qL01 := RL0_1.out.three1
      have qL02 := RL0_1.out.three2
      go_wp2_with (go_at_call 22; rw [← V1.out]; (refine (szix_yes t0 ta0 tc0 T0 xa0 xc0 S0 1048576 r0 _ H0.out B1.out (by omega) HS0.out).mono ?_); rintro e w2 ⟨rfl, hb⟩; refine Hid.out ?_)
      have RL0_2 := Lib.hid (RL0_1.out.below hb)
      have B2 := Lib.hid (B1.out.trans (hb.mono B1.out.size))
      have Z2 := Lib.hid hb.size
      clear hb
      clear qL00 qL01 qL02
      have qL00 := RL0_2.out.three0
      have qL01 := RL0_2.out.three1
      have qL02 := RL0_2.out.three2
      refine Lib.hid ?_
      go_wp2_with (go_at_call 23; (refine (sz_yes a1 c1 l1 r0 r1 _ H1.out B2.out (by omega) HS1.out).mono ?_); rintro e w' ⟨rfl, rfl⟩; refine Hid.out ?_)
      refine Lib.hid ?_
      go_wp2_with (go_at_call 24; (refine (toix_any t0 ta0 tc0 T0 xa0 xc0 S0 _ HZ0.out (H0.out.below B2.out)).mono ?_); rintro e w3 ⟨bs0, ds0, es0, fs0, qs0, rfl, hq, ho, hb⟩; refine Hid.out ?_)
      have Qs0 := Lib.hid hq
      have RL0_3 := Lib.hid (RL0_2.out.below hb)
      have Os0_3 := Lib.hid ho
      have B3 := Lib.hid (B2.out.trans (hb.mono B2.out.size))
      have Z3 := Lib.hid hb.size
      clear hq ho hb
      clear qL00 qL01 qL02
      have qL00 := RL0_3.out.three0
      have qL01 := RL0_3.out.three1
      have qL02 := RL0_3.out.three2
      refine Lib.hid ?_
      go_wp2_with (go_at_call 25; (refine (to_any a1 c1 l1 _ (sz_len HZ1.out) (H1.out.1.below B3.out)).mono ?_); rintro e w4 ⟨bs1, ds1, rfl, ho, hb⟩; refine Hid.out ?_)
      have Os0_4 := Lib.hid (Os0_3.out.below hb)
      have RL0_4 := Lib.hid (RL0_3.out.below hb)
      have Os1_4 := Lib.hid (OwnH.of ho)
      have B4 := Lib.hid (B3.out.trans (hb.mono B3.out.size))
      have Z4 := Lib.hid hb.size
      clear ho hb
      clear qL00 qL01 qL02
      have qL00 := RL0_4.out.three0
      have qL01 := RL0_4.out.three1
      have qL02 := RL0_4.out.three2
      refine Lib.hid ?_
      go_wp2_with (go_at_call 13; (refine (ss_spec t0 bs0 ds0 T0 es0 fs0 S0 bs1 ds1 l1 r _ HRR.out (Os0_4.out.sm Qs0.out HZ0.out H0.out.1.2) (Os1_4.out.sm (sz_len HZ1.out) (sz_mem HZ1.out))).mono ?_); rintro e w5 ⟨bw, dw, rfl, ho, hb⟩; refine Hid.out ?_)
      have Os0_5 := Lib.hid (Os0_4.out.below hb)
      have Os1_5 := Lib.hid (Os1_4.out.below hb)
      have RL0_5 := Lib.hid (RL0_4.out.below hb)
      have Ow_5 := Lib.hid (OwnJ.of ho)
      have B5 := Lib.hid (B4.out.trans (hb.mono B4.out.size))
      have Z5 := Lib.hid hb.size
      clear ho hb
      clear qL00 qL01 qL02
      have qL00 := RL0_5.out.three0
      have qL01 := RL0_5.out.three1
      have qL02 := RL0_5.out.three2
      refine Lib.hid ?_
      go_wp2_with (go_at_call 24; (refine (toix_any t0 ta0 tc0 T0 xa0 xc0 S0 _ HZ0.out (H0.out.below B5.out)).mono ?_); rintro e w6 ⟨bx0, dx0, ex0, fx0, qx0, rfl, hq, ho, hb⟩; refine Hid.out ?_)
      have Qx0 := Lib.hid hq
      have Ow_6 := Lib.hid (Ow_5.out.below hb)
      have RL0_6 := Lib.hid (RL0_5.out.below hb)
      have Ox0_6 := Lib.hid ho
      have B6 := Lib.hid (B5.out.trans (hb.mono B5.out.size))
      have Z6 := Lib.hid hb.size
      clear hq ho hb
      obtain ⟨w7, hv⟩ : ∃ x, x = w6.alloc (.cells #[.int .i64 t0, .slice bx0 T0.length dx0, .slice ex0 S0.length fx0] 27) := ⟨_, rfl⟩
      have hb : Below w6.heap.size w6 w7 := by rw [hv]; exact (Below.refl _ _).alloc (Nat.le_refl _) _
      have Ow_7 := Lib.hid (Ow_6.out.below hb)
      have Ox0_7 := Lib.hid (Ox0_6.out.below hb)
      have RL0_7 := Lib.hid (RL0_6.out.below hb)
      have Rx0_7 := Lib.hid (show BlkV w7 w6.heap.size 27 #[.int .i64 t0, .slice bx0 T0.length dx0, .slice ex0 S0.length fx0] by rw [hv]; exact BlkV.new _ _ _)
      have B7 := Lib.hid (B6.out.trans (hb.mono B6.out.size))
      have Z7 := Lib.hid (show w6.heap.size + 1 ≤ w7.heap.size by rw [hv]; simp)
      have V7 := Lib.hid hv
      clear hb hv
      clear qL00 qL01 qL02
      have qL00 := RL0_7.out.three0
      have qL01 := RL0_7.out.three1
      have qL02 := RL0_7.out.three2
      have qx00 := Rx0_7.out.three0
      have qx01 := Rx0_7.out.three1
      have qx02 := Rx0_7.out.three2
      refine Lib.hid ?_
      go_wp2_with (go_at_call 25; rw [← V7.out]; (refine (to_any a1 c1 l1 _ (sz_len HZ1.out) (H1.out.1.below B7.out)).mono ?_); rintro e w8 ⟨bx1, dx1, rfl, ho, hb⟩; refine Hid.out ?_)
      have Ow_8 := Lib.hid (Ow_7.out.below hb)
      have Ox0_8 := Lib.hid (Ox0_7.out.below hb)
      have RL0_8 := Lib.hid (RL0_7.out.below hb)
      have Rx0_8 := Lib.hid (Rx0_7.out.below hb)
      have Ox1_8 := Lib.hid (OwnH.of ho)
      have B8 := Lib.hid (B7.out.trans (hb.mono B7.out.size))
      have Z8 := Lib.hid hb.size
      clear ho hb
      clear qL00 qL01 qL02 qx00 qx01 qx02
      have qL00 := RL0_8.out.three0
      have qL01 := RL0_8.out.three1
      have qL02 := RL0_8.out.three2
      have qx00 := Rx0_8.out.three0
      have qx01 := Rx0_8.out.three1
      have qx02 := Rx0_8.out.three2
      refine Lib.hid ?_
      go_wp2_with (go_at_call 10; (refine (ss_impl t0 bx0 dx0 T0 ex0 fx0 S0 bx1 dx1 l1 r _ HRR.out (Ox0_8.out.sm Qx0.out HZ0.out H0.out.1.2) (Ox1_8.out.sm (sz_len HZ1.out) (sz_mem HZ1.out)) (cntq_of HZ0.out)).mono ?_); rintro e w9 ⟨bg, dg, rfl, ho, hb⟩; refine Hid.out ?_)
      have Ow_9 := Lib.hid (Ow_8.out.below hb)
      have Ox0_9 := Lib.hid (Ox0_8.out.below hb)
      have Ox1_9 := Lib.hid (Ox1_8.out.below hb)
      have RL0_9 := Lib.hid (RL0_8.out.below hb)
      have Rx0_9 := Lib.hid (Rx0_8.out.below hb)
      have Og_9 := Lib.hid (OwnJ.of ho)
      have B9 := Lib.hid (B8.out.trans (hb.mono B8.out.size))
      have Z9 := Lib.hid hb.size
      clear ho hb
      clear qL00 qL01 qL02 qx00 qx01 qx02
      have qL00 := RL0_9.out.three0
      have qL01 := RL0_9.out.three1
      have qL02 := RL0_9.out.three2
      have qx00 := Rx0_9.out.three0
      have qx01 := Rx0_9.out.three1
      have qx02 := Rx0_9.out.three2
      refine Lib.hid ?_
      go_wp2_with (go_at_call 26; (refine (eq_int bg bw dg dw r _ (by have := HRL.out; unfold maxLen; omega) Og_9.out.inI Ow_9.out.inI).mono ?_); rintro e w10 ⟨rfl, hb⟩; refine Hid.out ?_)
      have Ow_10 := Lib.hid (Ow_9.out.below hb)
      have Ox0_10 := Lib.hid (Ox0_9.out.below hb)
      have Ox1_10 := Lib.hid (Ox1_9.out.below hb)
      have Og_10 := Lib.hid (Og_9.out.below hb)
      have RL0_10 := Lib.hid (RL0_9.out.below hb)
      have Rx0_10 := Lib.hid (Rx0_9.out.below hb)
      have B10 := Lib.hid (B9.out.trans (hb.mono B9.out.size))
      have Z10 := Lib.hid hb.size
      clear hb
      clear qL00 qL01 qL02 qx00 qx01 qx02
      have qL00 := RL0_10.out.three0
      have qL01 := RL0_10.out.three1
      have qL02 := RL0_10.out.three2
      have qx00 := Rx0_10.out.three0
      have qx01 := Rx0_10.out.three1
      have qx02 := Rx0_10.out.three2
      refine Lib.hid ?_
      go_wp2_with (fail)
      go_region_held3 (fun w' => w'.cell? ⟨w6.heap.size, 0, none⟩ = some (.int .i64 t0) ∧ w'.cell? ⟨w6.heap.size, 1, none⟩ = some (.slice bx0 T0.length dx0) ∧ w'.cell? ⟨w6.heap.size, 2, none⟩ = some (.slice ex0 S0.length fx0) ∧ w'.cell? ⟨w.heap.size, 0, none⟩ = some (.int .i64 t0) ∧ w'.cell? ⟨w.heap.size, 1, none⟩ = some (.slice ta0 T0.length tc0) ∧ w'.cell? ⟨w.heap.size, 2, none⟩ = some (.slice xa0 S0.length xc0))
        (first | exact ⟨ux00, ux01, ux02, uL00, uL01, uL02⟩ | exact ⟨tx00, tx01, tx02, tL00, tL01, tL02⟩ | exact ⟨qx00, qx01, qx02, qL00, qL01, qL02⟩)
        (first
          | (go_at_call 24; (with_reducible refine (toix_any t0 ta0 tc0 T0 xa0 xc0 S0 _ HZ0.out (H0.out.below B10.out.drew)).mono ?_); rintro e w11 ⟨bt0, dt0, et0, ft0, qt0, rfl, hq, ho, hb⟩; have hr := undrew hb; have Qt0 := Lib.hid hq; have Ow_11 := Lib.hid (Ow_10.out.below hr); have Ox0_11 := Lib.hid (Ox0_10.out.below hr); have Ox1_11 := Lib.hid (Ox1_10.out.below hr); have Og_11 := Lib.hid (Og_10.out.below hr); have RL0_11 := Lib.hid (RL0_10.out.below hr); have Rx0_11 := Lib.hid (Rx0_10.out.below hr); have tx00 := Rx0_11.out.three0; have tx01 := Rx0_11.out.three1; have tx02 := Rx0_11.out.three2; have tL00 := RL0_11.out.three0; have tL01 := RL0_11.out.three1; have tL02 := RL0_11.out.three2; have Ot0_11 := Lib.hid ho; have B11 := Lib.hid (B10.out.trans (hr.mono B10.out.size)); have Z11 := Lib.hid hr.size; clear hq ho hb hr)
          | (go_at_call 27; (with_reducible refine (eqix_same t0 bx0 dx0 ex0 fx0 bt0 dt0 et0 ft0 T0 S0 _ (bnd_of HZ0.out) (Ox0_11.out.inn Qx0.out) (Ot0_11.out.inn Qt0.out)).mono ?_); rintro e w12 ⟨rfl, hb⟩; have Ow_12 := Lib.hid (Ow_11.out.below hb); have Ox0_12 := Lib.hid (Ox0_11.out.below hb); have Ox1_12 := Lib.hid (Ox1_11.out.below hb); have Og_12 := Lib.hid (Og_11.out.below hb); have RL0_12 := Lib.hid (RL0_11.out.below hb); have Rx0_12 := Lib.hid (Rx0_11.out.below hb); have ux00 := Rx0_12.out.three0; have ux01 := Rx0_12.out.three1; have ux02 := Rx0_12.out.three2; have uL00 := RL0_12.out.three0; have uL01 := RL0_12.out.three1; have uL02 := RL0_12.out.three2; have B12 := Lib.hid (B11.out.trans (hb.mono B11.out.size)); have Z12 := Lib.hid hb.size; clear hb))
      refine Hid.out ?_
      clear tx00 tx01 tx02 tL00 tL01 tL02 ux00 ux01 ux02 uL00 uL01 uL02
      clear qL00 qL01 qL02 qx00 qx01 qx02
      have qL00 := RL0_12.out.three0
      have qL01 := RL0_12.out.three1
      have qL02 := RL0_12.out.three2
      have qx00 := Rx0_12.out.three0
      have qx01 := Rx0_12.out.three1
      have qx02 := Rx0_12.out.three2
      refine Lib.hid ?_
      go_wp2_with (go_at_call 25; (refine (to_any a1 c1 l1 _ (sz_len HZ1.out) (H1.out.1.below B12.out)).mono ?_); rintro e w13 ⟨bt1, dt1, rfl, ho, hb⟩; refine Hid.out ?_)
      have Ow_13 := Lib.hid (Ow_12.out.below hb)
      have Ox0_13 := Lib.hid (Ox0_12.out.below hb)
      have Ox1_13 := Lib.hid (Ox1_12.out.below hb)
      have Og_13 := Lib.hid (Og_12.out.below hb)
      have RL0_13 := Lib.hid (RL0_12.out.below hb)
      have Rx0_13 := Lib.hid (Rx0_12.out.below hb)
      have Ot1_13 := Lib.hid (OwnH.of ho)
      have B13 := Lib.hid (B12.out.trans (hb.mono B12.out.size))
      have Z13 := Lib.hid hb.size
      clear ho hb
      clear qL00 qL01 qL02 qx00 qx01 qx02
      have qL00 := RL0_13.out.three0
      have qL01 := RL0_13.out.three1
      have qL02 := RL0_13.out.three2
      have qx00 := Rx0_13.out.three0
      have qx01 := Rx0_13.out.three1
      have qx02 := Rx0_13.out.three2
      refine Lib.hid ?_
      go_wp2_with (go_at_call 28; (refine (eq_same bx1 bt1 dx1 dt1 l1 _ (by have := szL_len l1; have := HZ1.out; unfold maxLen; omega) Ox1_13.out.inS Ot1_13.out.inS).mono ?_); rintro e w14 ⟨rfl, hb⟩; refine Hid.out ?_)
      have Ow_14 := Lib.hid (Ow_13.out.below hb)
      have Ox0_14 := Lib.hid (Ox0_13.out.below hb)
      have Ox1_14 := Lib.hid (Ox1_13.out.below hb)
      have Og_14 := Lib.hid (Og_13.out.below hb)
      have Ot1_14 := Lib.hid (Ot1_13.out.below hb)
      have RL0_14 := Lib.hid (RL0_13.out.below hb)
      have Rx0_14 := Lib.hid (Rx0_13.out.below hb)
      have B14 := Lib.hid (B13.out.trans (hb.mono B13.out.size))
      have Z14 := Lib.hid hb.size
      clear hb
      clear qL00 qL01 qL02 qx00 qx01 qx02
      have qL00 := RL0_14.out.three0
      have qL01 := RL0_14.out.three1
      have qL02 := RL0_14.out.three2
      have qx00 := Rx0_14.out.three0
      have qx01 := Rx0_14.out.three1
      have qx02 := Rx0_14.out.three2
      refine Lib.hid ?_
      go_wp2_with (go_at_call 29; (refine (markix_any w5.heap.size w6.heap.size t0 bx0 dx0 ex0 fx0 T0 qx0 S0 (1) _ Qx0.out (bnd_of HZ0.out) (by omega) (by omega) Ox0_14.out).mono ?_); rintro e w15 ⟨rfl, ho, hc⟩; refine Hid.out ?_)
      have Ow_15 := Lib.hid (Ow_14.out.chg hc (by have := Z1.out; have := Z2.out; have := Z3.out; have := Z4.out; have := Z5.out; have := Z6.out; have := Z7.out; have := Z8.out; have := Z9.out; have := Z10.out; have := Z11.out; have := Z12.out; have := Z13.out; have := Z14.out; omega))
      have Ox1_15 := Lib.hid (Ox1_14.out.chg hc (by have := Z1.out; have := Z2.out; have := Z3.out; have := Z4.out; have := Z5.out; have := Z6.out; have := Z7.out; have := Z8.out; have := Z9.out; have := Z10.out; have := Z11.out; have := Z12.out; have := Z13.out; have := Z14.out; omega))
      have Og_15 := Lib.hid (Og_14.out.chg hc (by have := Z1.out; have := Z2.out; have := Z3.out; have := Z4.out; have := Z5.out; have := Z6.out; have := Z7.out; have := Z8.out; have := Z9.out; have := Z10.out; have := Z11.out; have := Z12.out; have := Z13.out; have := Z14.out; omega))
      have RL0_15 := Lib.hid (RL0_14.out.chg hc (by have := Z1.out; have := Z2.out; have := Z3.out; have := Z4.out; have := Z5.out; have := Z6.out; have := Z7.out; have := Z8.out; have := Z9.out; have := Z10.out; have := Z11.out; have := Z12.out; have := Z13.out; have := Z14.out; omega))
      have Rx0_15 := Lib.hid (Rx0_14.out.chg hc (by have := Z1.out; have := Z2.out; have := Z3.out; have := Z4.out; have := Z5.out; have := Z6.out; have := Z7.out; have := Z8.out; have := Z9.out; have := Z10.out; have := Z11.out; have := Z12.out; have := Z13.out; have := Z14.out; omega))
      have Ox0_15 := Lib.hid ho
      have B15 := Lib.hid (below_chg B14.out hc (by have := Z1.out; have := Z2.out; have := Z3.out; have := Z4.out; have := Z5.out; have := Z6.out; have := Z7.out; have := Z8.out; have := Z9.out; have := Z10.out; have := Z11.out; have := Z12.out; have := Z13.out; have := Z14.out; omega))
      have Z15 := Lib.hid hc.size
      clear ho hc
      clear qL00 qL01 qL02 qx00 qx01 qx02
      have qL00 := RL0_15.out.three0
      have qL01 := RL0_15.out.three1
      have qL02 := RL0_15.out.three2
      have qx00 := Rx0_15.out.three0
      have qx01 := Rx0_15.out.three1
      have qx02 := Rx0_15.out.three2
      refine Lib.hid ?_
      go_wp2_with (go_at_call 30; (refine (mark_any w7.heap.size bx1 dx1 l1 (1 + ixn T0 S0) _ (sz_len HZ1.out) (by omega) (by have := ixn_le HZ0.out; omega) Ox1_15.out.1).mono ?_); rintro e w16 ⟨rfl, ho, hg⟩; refine Hid.out ?_)
      have hc := (Chg.refl _ w7.heap.size w8.heap.size).grown hg (fun j hj => And.intro (World.ownsRow.lt Ox1_15.out.1 j hj).1 (Ox1_15.out.2 j hj))
      have Ow_16 := Lib.hid (Ow_15.out.chg hc (by have := Z1.out; have := Z2.out; have := Z3.out; have := Z4.out; have := Z5.out; have := Z6.out; have := Z7.out; have := Z8.out; have := Z9.out; have := Z10.out; have := Z11.out; have := Z12.out; have := Z13.out; have := Z14.out; have := Z15.out; omega))
      have Ox0_16 := Lib.hid (Ox0_15.out.chg hc (by have := Z1.out; have := Z2.out; have := Z3.out; have := Z4.out; have := Z5.out; have := Z6.out; have := Z7.out; have := Z8.out; have := Z9.out; have := Z10.out; have := Z11.out; have := Z12.out; have := Z13.out; have := Z14.out; have := Z15.out; omega))
      have Og_16 := Lib.hid (Og_15.out.chg hc (by have := Z1.out; have := Z2.out; have := Z3.out; have := Z4.out; have := Z5.out; have := Z6.out; have := Z7.out; have := Z8.out; have := Z9.out; have := Z10.out; have := Z11.out; have := Z12.out; have := Z13.out; have := Z14.out; have := Z15.out; omega))
      have RL0_16 := Lib.hid (RL0_15.out.chg hc (by have := Z1.out; have := Z2.out; have := Z3.out; have := Z4.out; have := Z5.out; have := Z6.out; have := Z7.out; have := Z8.out; have := Z9.out; have := Z10.out; have := Z11.out; have := Z12.out; have := Z13.out; have := Z14.out; have := Z15.out; omega))
      have Rx0_16 := Lib.hid (Rx0_15.out.chg hc (by have := Z1.out; have := Z2.out; have := Z3.out; have := Z4.out; have := Z5.out; have := Z6.out; have := Z7.out; have := Z8.out; have := Z9.out; have := Z10.out; have := Z11.out; have := Z12.out; have := Z13.out; have := Z14.out; have := Z15.out; omega))
      have Ox1_16 := Lib.hid (show OwnH _ _ _ _ _ from And.intro ho Ox1_15.out.2)
      have B16 := Lib.hid (below_chg B15.out hc (by have := Z1.out; have := Z2.out; have := Z3.out; have := Z4.out; have := Z5.out; have := Z6.out; have := Z7.out; have := Z8.out; have := Z9.out; have := Z10.out; have := Z11.out; have := Z12.out; have := Z13.out; have := Z14.out; have := Z15.out; omega))
      have Z16 := Lib.hid hc.size
      clear ho hc hg
      clear qL00 qL01 qL02 qx00 qx01 qx02
      have qL00 := RL0_16.out.three0
      have qL01 := RL0_16.out.three1
      have qL02 := RL0_16.out.three2
      have qx00 := Rx0_16.out.three0
      have qx01 := Rx0_16.out.three1
      have qx02 := Rx0_16.out.three2
      refine Lib.hid ?_
      go_wp2_with (go_at_call 26; (refine (eq_int bg bw dg dw r _ (by have := HRL.out; unfold maxLen; omega) Og_16.out.inI Ow_16.out.inI).mono ?_); rintro e w17 ⟨rfl, hb⟩; refine Hid.out ?_)
      have Ow_17 := Lib.hid (Ow_16.out.below hb)
      have Og_17 := Lib.hid (Og_16.out.below hb)
      have RL0_17 := Lib.hid (RL0_16.out.below hb)
      have B17 := Lib.hid (B16.out.trans (hb.mono B16.out.size))
      have Z17 := Lib.hid hb.size
      clear hb
      clear qL00 qL01 qL02 qx00 qx01 qx02
      have qL00 := RL0_17.out.three0
      have qL01 := RL0_17.out.three1
      have qL02 := RL0_17.out.three2
      refine Lib.hid ?_
      go_wp2_with (go_at_call 31; (refine (mark_int w8.heap.size bg dg r (1) _ HRL.out (by omega) Og_17.out.1).mono ?_); rintro e w18 ⟨rfl, ho, hg⟩; refine Hid.out ?_)
      have hc := (Chg.refl _ w8.heap.size w9.heap.size).grown hg (fun j hj => And.intro (World.ownsRow.lt Og_17.out.1 j hj).1 (Og_17.out.2 j hj))
      have Ow_18 := Lib.hid (Ow_17.out.chg hc (by have := Z1.out; have := Z2.out; have := Z3.out; have := Z4.out; have := Z5.out; have := Z6.out; have := Z7.out; have := Z8.out; have := Z9.out; have := Z10.out; have := Z11.out; have := Z12.out; have := Z13.out; have := Z14.out; have := Z15.out; have := Z16.out; have := Z17.out; omega))
      have RL0_18 := Lib.hid (RL0_17.out.chg hc (by have := Z1.out; have := Z2.out; have := Z3.out; have := Z4.out; have := Z5.out; have := Z6.out; have := Z7.out; have := Z8.out; have := Z9.out; have := Z10.out; have := Z11.out; have := Z12.out; have := Z13.out; have := Z14.out; have := Z15.out; have := Z16.out; have := Z17.out; omega))
      have Og_18 := Lib.hid (show OwnJ _ _ _ _ _ from And.intro ho Og_17.out.2)
      have B18 := Lib.hid (below_chg B17.out hc (by have := Z1.out; have := Z2.out; have := Z3.out; have := Z4.out; have := Z5.out; have := Z6.out; have := Z7.out; have := Z8.out; have := Z9.out; have := Z10.out; have := Z11.out; have := Z12.out; have := Z13.out; have := Z14.out; have := Z15.out; have := Z16.out; have := Z17.out; omega))
      have Z18 := Lib.hid hc.size
      clear ho hc hg
      clear qL00 qL01 qL02
      have qL00 := RL0_18.out.three0
      have qL01 := RL0_18.out.three1
      have qL02 := RL0_18.out.three2
      refine Lib.hid ?_
      go_wp2_with (go_at_call 32; (refine (held_int bg dg r.length 1 _ HRL.out (by omega) Og_18.out.inI).mono ?_); rintro e w19 ⟨rfl, hb⟩; refine Hid.out ?_)
      have Ow_19 := Lib.hid (Ow_18.out.below hb)
      have Og_19 := Lib.hid (Og_18.out.below hb)
      have RL0_19 := Lib.hid (RL0_18.out.below hb)
      have B19 := Lib.hid (B18.out.trans (hb.mono B18.out.size))
      have Z19 := Lib.hid hb.size
      clear hb
      clear qL00 qL01 qL02
      have qL00 := RL0_19.out.three0
      have qL01 := RL0_19.out.three1
      have qL02 := RL0_19.out.three2
      refine Lib.hid ?_
      go_wp2_with (go_at_call 24; (refine (toix_any t0 ta0 tc0 T0 xa0 xc0 S0 _ HZ0.out (H0.out.below B19.out)).mono ?_); rintro e w20 ⟨by0, dy0, ey0, fy0, qy0, rfl, hq, ho, hb⟩; refine Hid.out ?_)
      have Qy0 := Lib.hid hq
      have Ow_20 := Lib.hid (Ow_19.out.below hb)
      have Og_20 := Lib.hid (Og_19.out.below hb)
      have RL0_20 := Lib.hid (RL0_19.out.below hb)
      have Oy0_20 := Lib.hid ho
      have B20 := Lib.hid (B19.out.trans (hb.mono B19.out.size))
      have Z20 := Lib.hid hb.size
      clear hq ho hb
      clear qL00 qL01 qL02
      have qL00 := RL0_20.out.three0
      have qL01 := RL0_20.out.three1
      have qL02 := RL0_20.out.three2
      refine Lib.hid ?_
      go_wp2_with (go_at_call 25; (refine (to_any a1 c1 l1 _ (sz_len HZ1.out) (H1.out.1.below B20.out)).mono ?_); rintro e w21 ⟨by1, dy1, rfl, ho, hb⟩; refine Hid.out ?_)
      have Ow_21 := Lib.hid (Ow_20.out.below hb)
      have Og_21 := Lib.hid (Og_20.out.below hb)
      have Oy0_21 := Lib.hid (Oy0_20.out.below hb)
      have RL0_21 := Lib.hid (RL0_20.out.below hb)
      have Oy1_21 := Lib.hid (OwnH.of ho)
      have B21 := Lib.hid (B20.out.trans (hb.mono B20.out.size))
      have Z21 := Lib.hid hb.size
      clear ho hb
      clear qL00 qL01 qL02
      have qL00 := RL0_21.out.three0
      have qL01 := RL0_21.out.three1
      have qL02 := RL0_21.out.three2
      refine Lib.hid ?_
      go_wp2_with (go_at_call 10; (refine (ss_impl t0 by0 dy0 T0 ey0 fy0 S0 by1 dy1 l1 r _ HRR.out (Oy0_21.out.sm Qy0.out HZ0.out H0.out.1.2) (Oy1_21.out.sm (sz_len HZ1.out) (sz_mem HZ1.out)) (cntq_of HZ0.out)).mono ?_); rintro e w22 ⟨bh, dh, rfl, ho, hb⟩; refine Hid.out ?_)
      have Ow_22 := Lib.hid (Ow_21.out.below hb)
      have Og_22 := Lib.hid (Og_21.out.below hb)
      have Oy0_22 := Lib.hid (Oy0_21.out.below hb)
      have Oy1_22 := Lib.hid (Oy1_21.out.below hb)
      have RL0_22 := Lib.hid (RL0_21.out.below hb)
      have Oh_22 := Lib.hid (OwnJ.of ho)
      have B22 := Lib.hid (B21.out.trans (hb.mono B21.out.size))
      have Z22 := Lib.hid hb.size
      clear ho hb
      clear qL00 qL01 qL02
      have qL00 := RL0_22.out.three0
      have qL01 := RL0_22.out.three1
      have qL02 := RL0_22.out.three2
      refine Lib.hid ?_
      go_wp2_with (go_at_call 26; (refine (eq_int bh bw dh dw r _ (by have := HRL.out; unfold maxLen; omega) Oh_22.out.inI Ow_22.out.inI).mono ?_); rintro e w23 ⟨rfl, hb⟩; refine Hid.out ?_)
      have Ow_23 := Lib.hid (Ow_22.out.below hb)
      have Og_23 := Lib.hid (Og_22.out.below hb)
      have Oh_23 := Lib.hid (Oh_22.out.below hb)
      have RL0_23 := Lib.hid (RL0_22.out.below hb)
      have B23 := Lib.hid (B22.out.trans (hb.mono B22.out.size))
      have Z23 := Lib.hid hb.size
      clear hb
      clear qL00 qL01 qL02
      have qL00 := RL0_23.out.three0
      have qL01 := RL0_23.out.three1
      have qL02 := RL0_23.out.three2
      refine Lib.hid ?_
      go_wp2_with (go_at_call 32; (refine (held_int bg dg r.length 1 _ HRL.out (by omega) Og_23.out.inI).mono ?_); rintro e w24 ⟨rfl, hb⟩; refine Hid.out ?_)
      have Ow_24 := Lib.hid (Ow_23.out.below hb)
      have Og_24 := Lib.hid (Og_23.out.below hb)
      have Oh_24 := Lib.hid (Oh_23.out.below hb)
      have RL0_24 := Lib.hid (RL0_23.out.below hb)
      have B24 := Lib.hid (B23.out.trans (hb.mono B23.out.size))
      have Z24 := Lib.hid hb.size
      clear hb
      clear qL00 qL01 qL02
      have qL00 := RL0_24.out.three0
      have qL01 := RL0_24.out.three1
      have qL02 := RL0_24.out.three2
      refine Lib.hid ?_
      go_wp2
      go_ret
      exact ⟨rfl, B24.out⟩
    · have HS1 := Lib.hid hs
      clear hs
      go_enter Tryz.func5, Tryz.ntmps5
      obtain ⟨w1, hv⟩ : ∃ x, x = w.alloc (.cells #[.int .i64 t0, .slice ta0 T0.length tc0, .slice xa0 S0.length xc0] 48) := ⟨_, rfl⟩
      have hb : Below w.heap.size w w1 := by rw [hv]; exact (Below.refl _ _).alloc (Nat.le_refl _) _
      have RL0_1 := Lib.hid (show BlkV w1 w.heap.size 48 #[.int .i64 t0, .slice ta0 T0.length tc0, .slice xa0 S0.length xc0] by rw [hv]; exact BlkV.new _ _ _)
      have B1 := Lib.hid hb
      have Z1 := Lib.hid (show w.heap.size + 1 ≤ w1.heap.size by rw [hv]; simp)
      have V1 := Lib.hid hv
      clear hb hv
      have qL00 := RL0_1.out.three0
      have qL01 := RL0_1.out.three1
      have qL02 := RL0_1.out.three2
      go_wp2_with (go_at_call 22; rw [← V1.out]; (refine (szix_yes t0 ta0 tc0 T0 xa0 xc0 S0 1048576 r0 _ H0.out B1.out (by omega) HS0.out).mono ?_); rintro e w2 ⟨rfl, hb⟩; refine Hid.out ?_)
      have RL0_2 := Lib.hid (RL0_1.out.below hb)
      have B2 := Lib.hid (B1.out.trans (hb.mono B1.out.size))
      have Z2 := Lib.hid hb.size
      clear hb
      clear qL00 qL01 qL02
      have qL00 := RL0_2.out.three0
      have qL01 := RL0_2.out.three1
      have qL02 := RL0_2.out.three2
      refine Lib.hid ?_
      go_wp2_with (go_at_call 23; (refine (sz_no a1 c1 l1 r0 _ H1.out B2.out (by omega) HS1.out).mono ?_); rintro e wz ⟨rfl, rfl⟩)
      go_ret
      exact ⟨rfl, B2.out⟩
  · have HS0 := Lib.hid hs
    clear hs
    go_enter Tryz.func5, Tryz.ntmps5
    obtain ⟨w1, hv⟩ : ∃ x, x = w.alloc (.cells #[.int .i64 t0, .slice ta0 T0.length tc0, .slice xa0 S0.length xc0] 48) := ⟨_, rfl⟩
    have hb : Below w.heap.size w w1 := by rw [hv]; exact (Below.refl _ _).alloc (Nat.le_refl _) _
    have RL0_1 := Lib.hid (show BlkV w1 w.heap.size 48 #[.int .i64 t0, .slice ta0 T0.length tc0, .slice xa0 S0.length xc0] by rw [hv]; exact BlkV.new _ _ _)
    have B1 := Lib.hid hb
    have Z1 := Lib.hid (show w.heap.size + 1 ≤ w1.heap.size by rw [hv]; simp)
    have V1 := Lib.hid hv
    clear hb hv
    have qL00 := RL0_1.out.three0
    have qL01 := RL0_1.out.three1
    have qL02 := RL0_1.out.three2
    go_wp2_with (go_at_call 22; rw [← V1.out]; (refine (szix_no t0 ta0 tc0 T0 xa0 xc0 S0 1048576 _ H0.out B1.out (by omega) HS0.out).mono ?_); rintro e wz ⟨rfl, hb⟩)
    go_ret
    exact ⟨rfl, B1.out.trans (hb.mono B1.out.size)⟩

end Go.Proofs.YtggohfinkpppkaaGreat
