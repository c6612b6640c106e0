/-
  The walk of laws.FnExactBlockKeys. By an AI agent.
-/
import Derived.Test.YtebddnjccmaimaaGreatDoorBkJ
import Derived.Test.YtebddnjccmaimaaGreatDoorBkS
import Derived.Test.YtebddnjccmaimaaGreatDoorBlkX
import Derived.Test.YtebddnjccmaimaaGreatDoorFours
import Derived.Test.YtebddnjccmaimaaGreatDoorRecV
import Derived.Test.YtebddnjccmaimaaGreatDoorGMem
namespace Go.Proofs.YtebddnjccmaimaaGreatDoor
open Go.RowKit
set_option linter.unusedVariables false

set_option maxRecDepth 100000 in
set_option maxHeartbeats 6400000 in
theorem FnExactBlockKeys_walk (s0 k0 v0 : Int) (a0 : Option Addr) (c0 : Nat) (l0 : List Str) (w : World) (h0 : ArgS w a0 l0) (ht : TabAt w) (hT : SpT w) :
    Calls Tryz.prog 4 #[.agg #[.int .i64 s0, .int .i64 k0, .int .i64 v0, .slice a0 l0.length c0]] w fun e w' => e = .returned (.bool true) ∧ Below w.heap.size w w' := by
  have H0 := Lib.hid h0
  have HT := Lib.hid ht
  have HSP := Lib.hid hT
  clear ht hT h0
  by_cases hs : szL l0 ≤ 1048576
  · obtain ⟨r0, hr⟩ : ∃ r : Nat, r + szL l0 = 1048576 := ⟨1048576 - szL l0, by omega⟩
    have hrl0 : (r0 : Int) ≤ 1048576 := by omega
    have HS0 := Lib.hid hr
    have HZ0 := Lib.hid (show szL l0 ≤ 1048576 by omega)
    clear hs hr
    obtain ⟨r, hr⟩ : ∃ r, bkR ((s0, k0, v0), l0) = r := ⟨_, rfl⟩
    have HRL := Lib.hid (show r.length ≤ 4000000 by rw [← hr]; exact (by have := bk_len ((s0, k0, v0), l0); omega))
    have HRR := Lib.hid hr
    clear hr
    go_enter Tryz.func4, Tryz.ntmps4
    obtain ⟨w1, hv⟩ : ∃ x, x = w.alloc (.cells #[.int .i64 s0, .int .i64 k0, .int .i64 v0, .slice a0 l0.length c0] 44) := ⟨_, rfl⟩
    have hb : Below w.heap.size w w1 := by rw [hv]; exact (Below.refl _ _).alloc (Nat.le_refl _) _
    have RL0_1 := Lib.hid (show BlkV w1 w.heap.size 44 #[.int .i64 s0, .int .i64 k0, .int .i64 v0, .slice a0 l0.length c0] by rw [hv]; exact BlkV.new _ _ _)
    have B1 := Lib.hid hb
    have Z1 := Lib.hid (show w.heap.size + 1 ≤ w1.heap.size by rw [hv]; simp)
    have V1 := Lib.hid hv
    clear hb hv
    have qL00 := RL0_1.out.four0
    have qL01 := RL0_1.out.four1
    have qL02 := RL0_1.out.four2
    have qL03 := RL0_1.out.four3
    go_wp2_with (go_at_call 23; rw [← V1.out]; (refine (szr_yes s0 k0 v0 a0 c0 l0 1048576 r0 _ H0.out B1.out (by omega) HS0.out).mono ?_); rintro e w2 ⟨rfl, hb⟩; refine Hid.out ?_)
    have RL0_2 := Lib.hid (RL0_1.out.below hb)
    have B2 := Lib.hid (B1.out.trans (hb.mono B1.out.size))
    have Z2 := Lib.hid hb.size
    clear hb
    clear qL00 qL01 qL02 qL03
    have qL00 := RL0_2.out.four0
    have qL01 := RL0_2.out.four1
    have qL02 := RL0_2.out.four2
    have qL03 := RL0_2.out.four3
    refine Lib.hid ?_
    go_wp2_with (go_at_call 25; (refine (tor_any s0 k0 v0 a0 c0 l0 _ (sz_len HZ0.out) (H0.out.inS.below B2.out)).mono ?_); rintro e w3 ⟨bs0, ds0, rfl, ho, hb⟩; refine Hid.out ?_)
    have RL0_3 := Lib.hid (RL0_2.out.below hb)
    have Os0_3 := Lib.hid (OwnH.of ho)
    have B3 := Lib.hid (B2.out.trans (hb.mono B2.out.size))
    have Z3 := Lib.hid hb.size
    clear ho hb
    clear qL00 qL01 qL02 qL03
    have qL00 := RL0_3.out.four0
    have qL01 := RL0_3.out.four1
    have qL02 := RL0_3.out.four2
    have qL03 := RL0_3.out.four3
    refine Lib.hid ?_
    go_wp2_with (go_at_call 24; (refine (bk_spec s0 k0 v0 bs0 ds0 l0 r _ HRR.out (Os0_3.out.sm (sz_len HZ0.out) (sz_mem HZ0.out)) (HSP.out.below B3.out)).mono ?_); rintro e w4 ⟨bw, dw, rfl, ho, hb⟩; refine Hid.out ?_)
    have Os0_4 := Lib.hid (Os0_3.out.below hb)
    have RL0_4 := Lib.hid (RL0_3.out.below hb)
    have Ow_4 := Lib.hid (OwnH.of ho)
    have B4 := Lib.hid (B3.out.trans (hb.mono B3.out.size))
    have Z4 := Lib.hid hb.size
    clear ho hb
    clear qL00 qL01 qL02 qL03
    have qL00 := RL0_4.out.four0
    have qL01 := RL0_4.out.four1
    have qL02 := RL0_4.out.four2
    have qL03 := RL0_4.out.four3
    refine Lib.hid ?_
    go_wp2_with (go_at_call 25; (refine (tor_any s0 k0 v0 a0 c0 l0 _ (sz_len HZ0.out) (H0.out.inS.below B4.out)).mono ?_); rintro e w5 ⟨bx0, dx0, rfl, ho, hb⟩; refine Hid.out ?_)
    have Ow_5 := Lib.hid (Ow_4.out.below hb)
    have RL0_5 := Lib.hid (RL0_4.out.below hb)
    have Ox0_5 := Lib.hid (OwnH.of ho)
    have B5 := Lib.hid (B4.out.trans (hb.mono B4.out.size))
    have Z5 := Lib.hid hb.size
    clear ho hb
    obtain ⟨w6, hv⟩ : ∃ x, x = w5.alloc (.cells #[.int .i64 s0, .int .i64 k0, .int .i64 v0, .slice bx0 l0.length dx0] 37) := ⟨_, rfl⟩
    have hb : Below w5.heap.size w5 w6 := by rw [hv]; exact (Below.refl _ _).alloc (Nat.le_refl _) _
    have Ow_6 := Lib.hid (Ow_5.out.below hb)
    have Ox0_6 := Lib.hid (Ox0_5.out.below hb)
    have RL0_6 := Lib.hid (RL0_5.out.below hb)
    have Rx0_6 := Lib.hid (show BlkV w6 w5.heap.size 37 #[.int .i64 s0, .int .i64 k0, .int .i64 v0, .slice bx0 l0.length dx0] by rw [hv]; exact BlkV.new _ _ _)
    have B6 := Lib.hid (B5.out.trans (hb.mono B5.out.size))
    have Z6 := Lib.hid (show w5.heap.size + 1 ≤ w6.heap.size by rw [hv]; simp)
    have V6 := Lib.hid hv
    clear hb hv
    clear qL00 qL01 qL02 qL03
    have qL00 := RL0_6.out.four0
    have qL01 := RL0_6.out.four1
    have qL02 := RL0_6.out.four2
    have qL03 := RL0_6.out.four3
    have qx00 := Rx0_6.out.four0
    have qx01 := Rx0_6.out.four1
    have qx02 := Rx0_6.out.four2
    have qx03 := Rx0_6.out.four3
    refine Lib.hid ?_
    go_wp2_with (go_at_call 21; rw [← V6.out]; (refine (bk_impl s0 k0 v0 bx0 dx0 l0 r _ HRR.out (Ox0_6.out.sm (sz_len HZ0.out) (sz_mem HZ0.out)) (HSP.out.below B6.out) (HT.out.on B6.out)).mono ?_); rintro e w7 ⟨bg, dg, rfl, ho, hb⟩; refine Hid.out ?_)
    have Ow_7 := Lib.hid (Ow_6.out.below hb)
    have Ox0_7 := Lib.hid (Ox0_6.out.below hb)
    have RL0_7 := Lib.hid (RL0_6.out.below hb)
    have Rx0_7 := Lib.hid (Rx0_6.out.below hb)
    have Og_7 := Lib.hid (OwnH.of ho)
    have B7 := Lib.hid (B6.out.trans (hb.mono B6.out.size))
    have Z7 := Lib.hid hb.size
    clear ho hb
    clear qL00 qL01 qL02 qL03 qx00 qx01 qx02 qx03
    have qL00 := RL0_7.out.four0
    have qL01 := RL0_7.out.four1
    have qL02 := RL0_7.out.four2
    have qL03 := RL0_7.out.four3
    have qx00 := Rx0_7.out.four0
    have qx01 := Rx0_7.out.four1
    have qx02 := Rx0_7.out.four2
    have qx03 := Rx0_7.out.four3
    refine Lib.hid ?_
    go_wp2_with (go_at_call 26; (refine (eq_same bg bw dg dw r _ (by have := HRL.out; unfold maxLen; omega) Og_7.out.inS Ow_7.out.inS).mono ?_); rintro e w8 ⟨rfl, hb⟩; refine Hid.out ?_)
    have Ow_8 := Lib.hid (Ow_7.out.below hb)
    have Ox0_8 := Lib.hid (Ox0_7.out.below hb)
    have Og_8 := Lib.hid (Og_7.out.below hb)
    have RL0_8 := Lib.hid (RL0_7.out.below hb)
    have Rx0_8 := Lib.hid (Rx0_7.out.below hb)
    have B8 := Lib.hid (B7.out.trans (hb.mono B7.out.size))
    have Z8 := Lib.hid hb.size
    clear hb
    clear qL00 qL01 qL02 qL03 qx00 qx01 qx02 qx03
    have qL00 := RL0_8.out.four0
    have qL01 := RL0_8.out.four1
    have qL02 := RL0_8.out.four2
    have qL03 := RL0_8.out.four3
    have qx00 := Rx0_8.out.four0
    have qx01 := Rx0_8.out.four1
    have qx02 := Rx0_8.out.four2
    have qx03 := Rx0_8.out.four3
    refine Lib.hid ?_
    go_wp2_with (fail)
    go_region_held3 (fun w' => w'.cell? ⟨w5.heap.size, 0, none⟩ = some (.int .i64 s0) ∧ w'.cell? ⟨w5.heap.size, 1, none⟩ = some (.int .i64 k0) ∧ w'.cell? ⟨w5.heap.size, 2, none⟩ = some (.int .i64 v0) ∧ w'.cell? ⟨w5.heap.size, 3, none⟩ = some (.slice bx0 l0.length dx0) ∧ w'.cell? ⟨w.heap.size, 0, none⟩ = some (.int .i64 s0) ∧ w'.cell? ⟨w.heap.size, 1, none⟩ = some (.int .i64 k0) ∧ w'.cell? ⟨w.heap.size, 2, none⟩ = some (.int .i64 v0) ∧ w'.cell? ⟨w.heap.size, 3, none⟩ = some (.slice a0 l0.length c0))
      (first | exact ⟨ux00, ux01, ux02, ux03, uL00, uL01, uL02, uL03⟩ | exact ⟨tx00, tx01, tx02, tx03, tL00, tL01, tL02, tL03⟩ | exact ⟨qx00, qx01, qx02, qx03, qL00, qL01, qL02, qL03⟩)
      (first
        | (go_at_call 25; (with_reducible refine (tor_any s0 k0 v0 a0 c0 l0 _ (sz_len HZ0.out) (H0.out.inS.below B8.out.drew)).mono ?_); rintro e w9 ⟨bt0, dt0, rfl, ho, hb⟩; have hr := undrew hb; have Ow_9 := Lib.hid (Ow_8.out.below hr); have Ox0_9 := Lib.hid (Ox0_8.out.below hr); have Og_9 := Lib.hid (Og_8.out.below hr); have RL0_9 := Lib.hid (RL0_8.out.below hr); have Rx0_9 := Lib.hid (Rx0_8.out.below hr); have tx00 := Rx0_9.out.four0; have tx01 := Rx0_9.out.four1; have tx02 := Rx0_9.out.four2; have tx03 := Rx0_9.out.four3; have tL00 := RL0_9.out.four0; have tL01 := RL0_9.out.four1; have tL02 := RL0_9.out.four2; have tL03 := RL0_9.out.four3; have Ot0_9 := Lib.hid (OwnH.of ho); have B9 := Lib.hid (B8.out.trans (hr.mono B8.out.size)); have Z9 := Lib.hid hr.size; clear ho hb hr)
        | (go_at_call 27; (with_reducible refine (eqr_same s0 k0 v0 bx0 bt0 dx0 dt0 l0 _ (by have := sz_len HZ0.out; unfold maxLen; omega) Ox0_9.out.inS Ot0_9.out.inS).mono ?_); rintro e w10 ⟨rfl, hb⟩; have Ow_10 := Lib.hid (Ow_9.out.below hb); have Ox0_10 := Lib.hid (Ox0_9.out.below hb); have Og_10 := Lib.hid (Og_9.out.below hb); have RL0_10 := Lib.hid (RL0_9.out.below hb); have Rx0_10 := Lib.hid (Rx0_9.out.below hb); have ux00 := Rx0_10.out.four0; have ux01 := Rx0_10.out.four1; have ux02 := Rx0_10.out.four2; have ux03 := Rx0_10.out.four3; have uL00 := RL0_10.out.four0; have uL01 := RL0_10.out.four1; have uL02 := RL0_10.out.four2; have uL03 := RL0_10.out.four3; have B10 := Lib.hid (B9.out.trans (hb.mono B9.out.size)); have Z10 := Lib.hid hb.size; clear hb))
    refine Hid.out ?_
    clear tx00 tx01 tx02 tx03 tL00 tL01 tL02 tL03 ux00 ux01 ux02 ux03 uL00 uL01 uL02 uL03
    clear qL00 qL01 qL02 qL03 qx00 qx01 qx02 qx03
    have qL00 := RL0_10.out.four0
    have qL01 := RL0_10.out.four1
    have qL02 := RL0_10.out.four2
    have qL03 := RL0_10.out.four3
    have qx00 := Rx0_10.out.four0
    have qx01 := Rx0_10.out.four1
    have qx02 := Rx0_10.out.four2
    have qx03 := Rx0_10.out.four3
    refine Lib.hid ?_
    go_wp2_with (go_at_call 28; (refine (markr_any s0 k0 v0 w4.heap.size bx0 dx0 l0 1 _ (sz_len HZ0.out) (by omega) (by omega) (by have := Z1.out; have := Z2.out; have := Z3.out; have := Z4.out; have := Z5.out; have := Z6.out; have := Z7.out; have := Z8.out; have := Z9.out; have := Z10.out; omega) Ox0_10.out.1).mono ?_); rintro e w11 ⟨rfl, ho, hg⟩; refine Hid.out ?_)
    have hlz := sz_len HZ0.out
    have hc := (Chg.refl _ w4.heap.size w5.heap.size).grown hg (fun j hj => And.intro (World.ownsRow.lt Ox0_10.out.1 j hj).1 (Ox0_10.out.2 j hj))
    have Ow_11 := Lib.hid (Ow_10.out.chg hc (by have := Z1.out; have := Z2.out; have := Z3.out; have := Z4.out; have := Z5.out; have := Z6.out; have := Z7.out; have := Z8.out; have := Z9.out; have := Z10.out; omega))
    have Og_11 := Lib.hid (Og_10.out.chg hc (by have := Z1.out; have := Z2.out; have := Z3.out; have := Z4.out; have := Z5.out; have := Z6.out; have := Z7.out; have := Z8.out; have := Z9.out; have := Z10.out; omega))
    have RL0_11 := Lib.hid (RL0_10.out.chg_ hc (by have := Z1.out; have := Z2.out; have := Z3.out; have := Z4.out; have := Z5.out; have := Z6.out; have := Z7.out; have := Z8.out; have := Z9.out; have := Z10.out; omega))
    have Rx0_11 := Lib.hid (Rx0_10.out.chg_ hc (by have := Z1.out; have := Z2.out; have := Z3.out; have := Z4.out; have := Z5.out; have := Z6.out; have := Z7.out; have := Z8.out; have := Z9.out; have := Z10.out; omega))
    have Ox0_11 := Lib.hid (show OwnH _ _ _ _ _ from And.intro ho Ox0_10.out.2)
    have B11 := Lib.hid (below_chg B10.out hc (by have := Z1.out; have := Z2.out; have := Z3.out; have := Z4.out; have := Z5.out; have := Z6.out; have := Z7.out; have := Z8.out; have := Z9.out; have := Z10.out; omega))
    have Z11 := Lib.hid hc.size
    clear hc ho hg
    clear qL00 qL01 qL02 qL03 qx00 qx01 qx02 qx03
    have qL00 := RL0_11.out.four0
    have qL01 := RL0_11.out.four1
    have qL02 := RL0_11.out.four2
    have qL03 := RL0_11.out.four3
    have qx00 := Rx0_11.out.four0
    have qx01 := Rx0_11.out.four1
    have qx02 := Rx0_11.out.four2
    have qx03 := Rx0_11.out.four3
    refine Lib.hid ?_
    go_wp2_with (go_at_call 26; (refine (eq_same bg bw dg dw r _ (by have := HRL.out; unfold maxLen; omega) Og_11.out.inS Ow_11.out.inS).mono ?_); rintro e w12 ⟨rfl, hb⟩; refine Hid.out ?_)
    have Ow_12 := Lib.hid (Ow_11.out.below hb)
    have Og_12 := Lib.hid (Og_11.out.below hb)
    have RL0_12 := Lib.hid (RL0_11.out.below hb)
    have B12 := Lib.hid (B11.out.trans (hb.mono B11.out.size))
    have Z12 := Lib.hid hb.size
    clear hb
    clear qL00 qL01 qL02 qL03 qx00 qx01 qx02 qx03
    have qL00 := RL0_12.out.four0
    have qL01 := RL0_12.out.four1
    have qL02 := RL0_12.out.four2
    have qL03 := RL0_12.out.four3
    refine Lib.hid ?_
    go_wp2_with (go_at_call 29; (refine (mark_any w6.heap.size bg dg r (1) _ HRL.out (by omega) (by omega) Og_12.out.1).mono ?_); rintro e w13 ⟨rfl, ho, hg⟩; refine Hid.out ?_)
    have hc := (Chg.refl _ w6.heap.size w7.heap.size).grown hg (fun j hj => And.intro (World.ownsRow.lt Og_12.out.1 j hj).1 (Og_12.out.2 j hj))
    have Ow_13 := Lib.hid (Ow_12.out.chg hc (by have := Z1.out; have := Z2.out; have := Z3.out; have := Z4.out; have := Z5.out; have := Z6.out; have := Z7.out; have := Z8.out; have := Z9.out; have := Z10.out; have := Z11.out; have := Z12.out; omega))
    have RL0_13 := Lib.hid (RL0_12.out.chg_ hc (by have := Z1.out; have := Z2.out; have := Z3.out; have := Z4.out; have := Z5.out; have := Z6.out; have := Z7.out; have := Z8.out; have := Z9.out; have := Z10.out; have := Z11.out; have := Z12.out; omega))
    have Og_13 := Lib.hid (show OwnH _ _ _ _ _ from And.intro ho Og_12.out.2)
    have B13 := Lib.hid (below_chg B12.out hc (by have := Z1.out; have := Z2.out; have := Z3.out; have := Z4.out; have := Z5.out; have := Z6.out; have := Z7.out; have := Z8.out; have := Z9.out; have := Z10.out; have := Z11.out; have := Z12.out; omega))
    have Z13 := Lib.hid hc.size
    clear hc ho hg
    clear qL00 qL01 qL02 qL03
    have qL00 := RL0_13.out.four0
    have qL01 := RL0_13.out.four1
    have qL02 := RL0_13.out.four2
    have qL03 := RL0_13.out.four3
    refine Lib.hid ?_
    go_wp2_with (go_at_call 30; (refine (held_any bg dg r.length 1 _ HRL.out (by omega) (by omega) Og_13.out.inS).mono ?_); rintro e w14 ⟨rfl, hb⟩; refine Hid.out ?_)
    have Ow_14 := Lib.hid (Ow_13.out.below hb)
    have Og_14 := Lib.hid (Og_13.out.below hb)
    have RL0_14 := Lib.hid (RL0_13.out.below hb)
    have B14 := Lib.hid (B13.out.trans (hb.mono B13.out.size))
    have Z14 := Lib.hid hb.size
    clear hb
    clear qL00 qL01 qL02 qL03
    have qL00 := RL0_14.out.four0
    have qL01 := RL0_14.out.four1
    have qL02 := RL0_14.out.four2
    have qL03 := RL0_14.out.four3
    refine Lib.hid ?_
    go_wp2_with (go_at_call 25; (refine (tor_any s0 k0 v0 a0 c0 l0 _ (sz_len HZ0.out) (H0.out.inS.below B14.out)).mono ?_); rintro e w15 ⟨by0, dy0, rfl, ho, hb⟩; refine Hid.out ?_)
    have Ow_15 := Lib.hid (Ow_14.out.below hb)
    have Og_15 := Lib.hid (Og_14.out.below hb)
    have RL0_15 := Lib.hid (RL0_14.out.below hb)
    have Oy0_15 := Lib.hid (OwnH.of ho)
    have B15 := Lib.hid (B14.out.trans (hb.mono B14.out.size))
    have Z15 := Lib.hid hb.size
    clear ho hb
    clear qL00 qL01 qL02 qL03
    have qL00 := RL0_15.out.four0
    have qL01 := RL0_15.out.four1
    have qL02 := RL0_15.out.four2
    have qL03 := RL0_15.out.four3
    refine Lib.hid ?_
    go_wp2_with (go_at_call 21; (refine (bk_impl s0 k0 v0 by0 dy0 l0 r _ HRR.out (Oy0_15.out.sm (sz_len HZ0.out) (sz_mem HZ0.out)) (HSP.out.below B15.out) (HT.out.on B15.out)).mono ?_); rintro e w16 ⟨bh, dh, rfl, ho, hb⟩; refine Hid.out ?_)
    have Ow_16 := Lib.hid (Ow_15.out.below hb)
    have Og_16 := Lib.hid (Og_15.out.below hb)
    have Oy0_16 := Lib.hid (Oy0_15.out.below hb)
    have RL0_16 := Lib.hid (RL0_15.out.below hb)
    have Oh_16 := Lib.hid (OwnH.of ho)
    have B16 := Lib.hid (B15.out.trans (hb.mono B15.out.size))
    have Z16 := Lib.hid hb.size
    clear ho hb
    clear qL00 qL01 qL02 qL03
    have qL00 := RL0_16.out.four0
    have qL01 := RL0_16.out.four1
    have qL02 := RL0_16.out.four2
    have qL03 := RL0_16.out.four3
    refine Lib.hid ?_
    go_wp2_with (go_at_call 26; (refine (eq_same bh bw dh dw r _ (by have := HRL.out; unfold maxLen; omega) Oh_16.out.inS Ow_16.out.inS).mono ?_); rintro e w17 ⟨rfl, hb⟩; refine Hid.out ?_)
    have Ow_17 := Lib.hid (Ow_16.out.below hb)
    have Og_17 := Lib.hid (Og_16.out.below hb)
    have Oh_17 := Lib.hid (Oh_16.out.below hb)
    have RL0_17 := Lib.hid (RL0_16.out.below hb)
    have B17 := Lib.hid (B16.out.trans (hb.mono B16.out.size))
    have Z17 := Lib.hid hb.size
    clear hb
    clear qL00 qL01 qL02 qL03
    have qL00 := RL0_17.out.four0
    have qL01 := RL0_17.out.four1
    have qL02 := RL0_17.out.four2
    have qL03 := RL0_17.out.four3
    refine Lib.hid ?_
    go_wp2_with (go_at_call 30; (refine (held_any bg dg r.length 1 _ HRL.out (by omega) (by omega) Og_17.out.inS).mono ?_); rintro e w18 ⟨rfl, hb⟩; refine Hid.out ?_)
    have Ow_18 := Lib.hid (Ow_17.out.below hb)
    have Og_18 := Lib.hid (Og_17.out.below hb)
    have Oh_18 := Lib.hid (Oh_17.out.below hb)
    have RL0_18 := Lib.hid (RL0_17.out.below hb)
    have B18 := Lib.hid (B17.out.trans (hb.mono B17.out.size))
    have Z18 := Lib.hid hb.size
    clear hb
    clear qL00 qL01 qL02 qL03
    have qL00 := RL0_18.out.four0
    have qL01 := RL0_18.out.four1
    have qL02 := RL0_18.out.four2
    have qL03 := RL0_18.out.four3
    refine Lib.hid ?_
    go_wp2
    go_ret
    exact ⟨rfl, B18.out⟩
  · have HS0 := Lib.hid hs
    clear hs
    go_enter Tryz.func4, Tryz.ntmps4
    obtain ⟨w1, hv⟩ : ∃ x, x = w.alloc (.cells #[.int .i64 s0, .int .i64 k0, .int .i64 v0, .slice a0 l0.length c0] 44) := ⟨_, rfl⟩
    have hb : Below w.heap.size w w1 := by rw [hv]; exact (Below.refl _ _).alloc (Nat.le_refl _) _
    have RL0_1 := Lib.hid (show BlkV w1 w.heap.size 44 #[.int .i64 s0, .int .i64 k0, .int .i64 v0, .slice a0 l0.length c0] by rw [hv]; exact BlkV.new _ _ _)
    have B1 := Lib.hid hb
    have Z1 := Lib.hid (show w.heap.size + 1 ≤ w1.heap.size by rw [hv]; simp)
    have V1 := Lib.hid hv
    clear hb hv
    have qL00 := RL0_1.out.four0
    have qL01 := RL0_1.out.four1
    have qL02 := RL0_1.out.four2
    have qL03 := RL0_1.out.four3
    go_wp2_with (go_at_call 23; rw [← V1.out]; (refine (szr_no s0 k0 v0 a0 c0 l0 1048576 _ H0.out B1.out (by omega) HS0.out).mono ?_); rintro e wz ⟨rfl, hb⟩)
    go_ret
    exact ⟨rfl, B1.out.trans (hb.mono B1.out.size)⟩

end Go.Proofs.YtebddnjccmaimaaGreatDoor
