/-
  The walk of laws.FnExactNewSetIndex. By an AI agent.
-/
import Derived.Test.YtggohfinkpppkaaIxN
import Derived.Test.YtggohfinkpppkaaIxU
import Derived.Deep.RegionHeld3
namespace Go.Proofs.Ytggohfinkpppkaa
open Go.RowKit
set_option linter.unusedVariables false

set_option maxRecDepth 100000 in
set_option maxHeartbeats 6400000 in
theorem FnExactNewSetIndex_walk (a0 : Option Addr) (c0 : Nat) (l0 : List TC) (a1 : Int) (w : World) (h0 : ArgW w a0 l0) :
    Calls Try.prog 3 #[.slice a0 l0.length c0, .int .i64 a1] w fun e w' => e = .returned (.bool true) ∧ Below w.heap.size w w' := by
  have H0 := Lib.hid h0
  clear h0
  by_cases hs : tzL l0 ≤ 1048576
  · obtain ⟨r0, hr⟩ : ∃ r : Nat, r + tzL l0 = 1048576 := ⟨1048576 - tzL l0, by omega⟩
    have hrl0 : (r0 : Int) ≤ 1048576 := by omega
    have HS0 := Lib.hid hr
    have HZ0 := Lib.hid (show tzL l0 ≤ 1048576 by omega)
    clear hs hr
    obtain ⟨rt, hrt⟩ : ∃ r, (if newR a1 l0 then a1 else 0) = r := ⟨_, rfl⟩
    obtain ⟨rT, hrT⟩ : ∃ r, (if newR a1 l0 then l0 else []) = r := ⟨_, rfl⟩
    obtain ⟨rS, hrS⟩ : ∃ r, ([] : List IS) = r := ⟨_, rfl⟩
    obtain ⟨rb, hrb⟩ : ∃ r, (newR a1 l0) = r := ⟨_, rfl⟩
    have HRL := Lib.hid (show BndX rT rS by rw [← hrT, ← hrS]; exact (by unfold BndX ixn; have := tz_len HZ0.out; have := tzL_len l0; have := HZ0.out; split <;> simp [toksX] <;> omega))
    have HRt := Lib.hid hrt
    have HRT := Lib.hid hrT
    have HRS := Lib.hid hrS
    have HRB := Lib.hid hrb
    clear hrt hrT hrS hrb
    go_enter Try.func3, Try.ntmps3
    go_wp2_with (go_at_call 11; (refine (tz_yes a0 c0 l0 1048576 r0 _ H0.out.1 (Below.refl _ _) (by omega) HS0.out).mono ?_); rintro e w1 ⟨rfl, hb⟩; refine Hid.out ?_)
    have B1 := Lib.hid hb
    have Z1 := Lib.hid hb.size
    clear hb
    refine Lib.hid ?_
    go_wp2_with (go_at_call 13; (refine (tto_any a0 c0 l0 _ (tz_len HZ0.out) (H0.out.1.1.below B1.out)).mono ?_); rintro e w2 ⟨bs0, ds0, rfl, ho, hb⟩; refine Hid.out ?_)
    have Os0_2 := Lib.hid (OwnHT.of ho)
    have B2 := Lib.hid (B1.out.trans (hb.mono B1.out.size))
    have Z2 := Lib.hid hb.size
    clear ho hb
    refine Lib.hid ?_
    go_wp2_with (go_at_call 12; (refine (new_spec bs0 ds0 l0 a1 rt rT rS rb _ HRt.out HRT.out HRS.out HRB.out ⟨Os0_2.out.smT (tz_len HZ0.out) (tz_mem HZ0.out), H0.out.2⟩).mono ?_); rintro e w3 ⟨bw, dw, ew, fw, qw, rfl, hq, ho, hb⟩; refine Hid.out ?_)
    have Qw := Lib.hid hq
    have Os0_3 := Lib.hid (Os0_2.out.below hb)
    have Ow_3 := Lib.hid ho
    have B3 := Lib.hid (B2.out.trans (hb.mono B2.out.size))
    have Z3 := Lib.hid hb.size
    clear hq ho hb
    obtain ⟨w4, hv⟩ : ∃ x, x = w3.alloc (.cells #[.int .i64 rt, .slice bw rT.length dw, .slice ew rS.length fw] 27) := ⟨_, rfl⟩
    have hb : Below w3.heap.size w3 w4 := by rw [hv]; exact (Below.refl _ _).alloc (Nat.le_refl _) _
    have Os0_4 := Lib.hid (Os0_3.out.below hb)
    have Ow_4 := Lib.hid (Ow_3.out.below hb)
    have Rw_4 := Lib.hid (show BlkV w4 w3.heap.size 27 #[.int .i64 rt, .slice bw rT.length dw, .slice ew rS.length fw] by rw [hv]; exact BlkV.new _ _ _)
    have B4 := Lib.hid (B3.out.trans (hb.mono B3.out.size))
    have Z4 := Lib.hid (show w3.heap.size + 1 ≤ w4.heap.size by rw [hv]; simp)
    have V4 := Lib.hid hv
    clear hb hv
    have qw0 := Rw_4.out.three0
    have pw0 := qw0
    rw [V4.out] at pw0
    have qw1 := Rw_4.out.three1
    have pw1 := qw1
    rw [V4.out] at pw1
    have qw2 := Rw_4.out.three2
    have pw2 := qw2
    rw [V4.out] at pw2
    refine Lib.hid ?_
    go_wp2_with (go_at_call 13; rw [← V4.out]; (refine (tto_any a0 c0 l0 _ (tz_len HZ0.out) (H0.out.1.1.below B4.out)).mono ?_); rintro e w5 ⟨bx0, dx0, rfl, ho, hb⟩; refine Hid.out ?_)
    have Ow_5 := Lib.hid (Ow_4.out.below hb)
    have Rw_5 := Lib.hid (Rw_4.out.below hb)
    have Ox0_5 := Lib.hid (OwnHT.of ho)
    have B5 := Lib.hid (B4.out.trans (hb.mono B4.out.size))
    have Z5 := Lib.hid hb.size
    clear ho hb
    clear qw0 pw0 qw1 pw1 qw2 pw2
    have qw0 := Rw_5.out.three0
    have qw1 := Rw_5.out.three1
    have qw2 := Rw_5.out.three2
    refine Lib.hid ?_
    go_wp2_with (go_at_call 14; (refine (new_impl bx0 dx0 l0 a1 rt rT rS rb _ HRt.out HRT.out HRS.out HRB.out ⟨Ox0_5.out.smT (tz_len HZ0.out) (tz_mem HZ0.out), H0.out.2⟩).mono ?_); rintro e w6 ⟨bg, dg, eg, fg, qg, rfl, hq, ho, hb⟩; refine Hid.out ?_)
    have Qg := Lib.hid hq
    have Ow_6 := Lib.hid (Ow_5.out.below hb)
    have Ox0_6 := Lib.hid (Ox0_5.out.below hb)
    have Rw_6 := Lib.hid (Rw_5.out.below hb)
    have Og_6 := Lib.hid ho
    have B6 := Lib.hid (B5.out.trans (hb.mono B5.out.size))
    have Z6 := Lib.hid hb.size
    clear hq ho hb
    obtain ⟨w7, hv⟩ : ∃ x, x = w6.alloc (.cells #[.int .i64 rt, .slice bg rT.length dg, .slice eg rS.length fg] 27) := ⟨_, rfl⟩
    have hb : Below w6.heap.size w6 w7 := by rw [hv]; exact (Below.refl _ _).alloc (Nat.le_refl _) _
    have Ow_7 := Lib.hid (Ow_6.out.below hb)
    have Ox0_7 := Lib.hid (Ox0_6.out.below hb)
    have Og_7 := Lib.hid (Og_6.out.below hb)
    have Rw_7 := Lib.hid (Rw_6.out.below hb)
    have Rg_7 := Lib.hid (show BlkV w7 w6.heap.size 27 #[.int .i64 rt, .slice bg rT.length dg, .slice eg rS.length fg] by rw [hv]; exact BlkV.new _ _ _)
    have B7 := Lib.hid (B6.out.trans (hb.mono B6.out.size))
    have Z7 := Lib.hid (show w6.heap.size + 1 ≤ w7.heap.size by rw [hv]; simp)
    have V7 := Lib.hid hv
    clear hb hv
    clear qw0 qw1 qw2
    have qw0 := Rw_7.out.three0
    have pw0 := qw0
    rw [V7.out] at pw0
    have qw1 := Rw_7.out.three1
    have pw1 := qw1
    rw [V7.out] at pw1
    have qw2 := Rw_7.out.three2
    have pw2 := qw2
    rw [V7.out] at pw2
    have qg0 := Rg_7.out.three0
    have pg0 := qg0
    rw [V7.out] at pg0
    have qg1 := Rg_7.out.three1
    have pg1 := qg1
    rw [V7.out] at pg1
    have qg2 := Rg_7.out.three2
    have pg2 := qg2
    rw [V7.out] at pg2
    refine Lib.hid ?_
    go_wp2_with (go_at_call 15; rw [← V7.out]; (refine (eqix_same rt bg dg eg fg bw dw ew fw rT rS _ HRL.out (Og_7.out.inn Qg.out) (Ow_7.out.inn Qw.out)).mono ?_); rintro e w8 ⟨rfl, hb⟩; refine Hid.out ?_)
    have Ow_8 := Lib.hid (Ow_7.out.below hb)
    have Ox0_8 := Lib.hid (Ox0_7.out.below hb)
    have Og_8 := Lib.hid (Og_7.out.below hb)
    have Rw_8 := Lib.hid (Rw_7.out.below hb)
    have Rg_8 := Lib.hid (Rg_7.out.below hb)
    have B8 := Lib.hid (B7.out.trans (hb.mono B7.out.size))
    have Z8 := Lib.hid hb.size
    clear hb
    clear qw0 pw0 qw1 pw1 qw2 pw2 qg0 pg0 qg1 pg1 qg2 pg2
    have qw0 := Rw_8.out.three0
    have qw1 := Rw_8.out.three1
    have qw2 := Rw_8.out.three2
    have qg0 := Rg_8.out.three0
    have qg1 := Rg_8.out.three1
    have qg2 := Rg_8.out.three2
    refine Lib.hid ?_
    go_wp2_with (go_at_call 13; (refine (tto_any a0 c0 l0 _ (tz_len HZ0.out) (H0.out.1.1.below B8.out)).mono ?_); rintro e w9 ⟨bt0, dt0, rfl, ho, hb⟩; refine Hid.out ?_)
    have Ow_9 := Lib.hid (Ow_8.out.below hb)
    have Ox0_9 := Lib.hid (Ox0_8.out.below hb)
    have Og_9 := Lib.hid (Og_8.out.below hb)
    have Rw_9 := Lib.hid (Rw_8.out.below hb)
    have Rg_9 := Lib.hid (Rg_8.out.below hb)
    have Ot0_9 := Lib.hid (OwnHT.of ho)
    have B9 := Lib.hid (B8.out.trans (hb.mono B8.out.size))
    have Z9 := Lib.hid hb.size
    clear ho hb
    clear qw0 qw1 qw2 qg0 qg1 qg2
    have qw0 := Rw_9.out.three0
    have qw1 := Rw_9.out.three1
    have qw2 := Rw_9.out.three2
    have qg0 := Rg_9.out.three0
    have qg1 := Rg_9.out.three1
    have qg2 := Rg_9.out.three2
    refine Lib.hid ?_
    go_wp2_with (go_at_call 16; (refine (teq_same bx0 bt0 dx0 dt0 l0 _ (by have := tzL_len l0; have := HZ0.out; unfold maxLen; omega) Ox0_9.out.inT Ot0_9.out.inT).mono ?_); rintro e w10 ⟨rfl, hb⟩; refine Hid.out ?_)
    have Ow_10 := Lib.hid (Ow_9.out.below hb)
    have Ox0_10 := Lib.hid (Ox0_9.out.below hb)
    have Og_10 := Lib.hid (Og_9.out.below hb)
    have Ot0_10 := Lib.hid (Ot0_9.out.below hb)
    have Rw_10 := Lib.hid (Rw_9.out.below hb)
    have Rg_10 := Lib.hid (Rg_9.out.below hb)
    have B10 := Lib.hid (B9.out.trans (hb.mono B9.out.size))
    have Z10 := Lib.hid hb.size
    clear hb
    clear qw0 qw1 qw2 qg0 qg1 qg2
    have qw0 := Rw_10.out.three0
    have qw1 := Rw_10.out.three1
    have qw2 := Rw_10.out.three2
    have qg0 := Rg_10.out.three0
    have qg1 := Rg_10.out.three1
    have qg2 := Rg_10.out.three2
    refine Lib.hid ?_
    go_wp2_with (go_at_call 17; (refine (tmark_any w4.heap.size bx0 dx0 l0 (1) _ (tz_len HZ0.out) (by omega) (by omega) Ox0_10.out.1).mono ?_); rintro e w11 ⟨rfl, ho, hg⟩; refine Hid.out ?_)
    have hc := (Chg.refl _ w4.heap.size w5.heap.size).grown hg (fun j hj => And.intro (World.ownsRow.lt Ox0_10.out.1 j hj).1 (Ox0_10.out.2 j hj))
    have Ow_11 := Lib.hid (Ow_10.out.chg hc (by have := Z1.out; have := Z2.out; have := Z3.out; have := Z4.out; have := Z5.out; have := Z6.out; have := Z7.out; have := Z8.out; have := Z9.out; have := Z10.out; omega))
    have Og_11 := Lib.hid (Og_10.out.chg hc (by have := Z1.out; have := Z2.out; have := Z3.out; have := Z4.out; have := Z5.out; have := Z6.out; have := Z7.out; have := Z8.out; have := Z9.out; have := Z10.out; omega))
    have Rw_11 := Lib.hid (Rw_10.out.chg hc (by have := Z1.out; have := Z2.out; have := Z3.out; have := Z4.out; have := Z5.out; have := Z6.out; have := Z7.out; have := Z8.out; have := Z9.out; have := Z10.out; omega))
    have Rg_11 := Lib.hid (Rg_10.out.chg hc (by have := Z1.out; have := Z2.out; have := Z3.out; have := Z4.out; have := Z5.out; have := Z6.out; have := Z7.out; have := Z8.out; have := Z9.out; have := Z10.out; omega))
    have Ox0_11 := Lib.hid (show OwnHT _ _ _ _ _ from And.intro ho Ox0_10.out.2)
    have B11 := Lib.hid (below_chg B10.out hc (by have := Z1.out; have := Z2.out; have := Z3.out; have := Z4.out; have := Z5.out; have := Z6.out; have := Z7.out; have := Z8.out; have := Z9.out; have := Z10.out; omega))
    have Z11 := Lib.hid hc.size
    clear ho hc hg
    clear qw0 qw1 qw2 qg0 qg1 qg2
    have qw0 := Rw_11.out.three0
    have qw1 := Rw_11.out.three1
    have qw2 := Rw_11.out.three2
    have qg0 := Rg_11.out.three0
    have qg1 := Rg_11.out.three1
    have qg2 := Rg_11.out.three2
    refine Lib.hid ?_
    go_wp2_with (go_at_call 15; (refine (eqix_same rt bg dg eg fg bw dw ew fw rT rS _ HRL.out (Og_11.out.inn Qg.out) (Ow_11.out.inn Qw.out)).mono ?_); rintro e w12 ⟨rfl, hb⟩; refine Hid.out ?_)
    have Ow_12 := Lib.hid (Ow_11.out.below hb)
    have Og_12 := Lib.hid (Og_11.out.below hb)
    have Rw_12 := Lib.hid (Rw_11.out.below hb)
    have Rg_12 := Lib.hid (Rg_11.out.below hb)
    have B12 := Lib.hid (B11.out.trans (hb.mono B11.out.size))
    have Z12 := Lib.hid hb.size
    clear hb
    clear qw0 qw1 qw2 qg0 qg1 qg2
    have qw0 := Rw_12.out.three0
    have qw1 := Rw_12.out.three1
    have qw2 := Rw_12.out.three2
    have qg0 := Rg_12.out.three0
    have qg1 := Rg_12.out.three1
    have qg2 := Rg_12.out.three2
    refine Lib.hid ?_
    go_wp2_with (go_at_call 18; (refine (markix_any w5.heap.size w6.heap.size rt bg dg eg fg rT qg rS (1) _ Qg.out HRL.out (by omega) (by omega) Og_12.out).mono ?_); rintro e w13 ⟨rfl, ho, hc⟩; refine Hid.out ?_)
    have Ow_13 := Lib.hid (Ow_12.out.chg hc (by have := Z1.out; have := Z2.out; have := Z3.out; have := Z4.out; have := Z5.out; have := Z6.out; have := Z7.out; have := Z8.out; have := Z9.out; have := Z10.out; have := Z11.out; have := Z12.out; omega))
    have Rw_13 := Lib.hid (Rw_12.out.chg hc (by have := Z1.out; have := Z2.out; have := Z3.out; have := Z4.out; have := Z5.out; have := Z6.out; have := Z7.out; have := Z8.out; have := Z9.out; have := Z10.out; have := Z11.out; have := Z12.out; omega))
    have Rg_13 := Lib.hid (Rg_12.out.chg hc (by have := Z1.out; have := Z2.out; have := Z3.out; have := Z4.out; have := Z5.out; have := Z6.out; have := Z7.out; have := Z8.out; have := Z9.out; have := Z10.out; have := Z11.out; have := Z12.out; omega))
    have Og_13 := Lib.hid ho
    have B13 := Lib.hid (below_chg B12.out hc (by have := Z1.out; have := Z2.out; have := Z3.out; have := Z4.out; have := Z5.out; have := Z6.out; have := Z7.out; have := Z8.out; have := Z9.out; have := Z10.out; have := Z11.out; have := Z12.out; omega))
    have Z13 := Lib.hid hc.size
    clear ho hc
    clear qw0 qw1 qw2 qg0 qg1 qg2
    have qw0 := Rw_13.out.three0
    have qw1 := Rw_13.out.three1
    have qw2 := Rw_13.out.three2
    have qg0 := Rg_13.out.three0
    have qg1 := Rg_13.out.three1
    have qg2 := Rg_13.out.three2
    refine Lib.hid ?_
    go_wp2_with (go_at_call 19; (refine (heldix_any rt bg dg eg fg rT qg rS 1 _ Qg.out HRL.out (by omega) (by omega) Og_13.out.tab.inT Og_13.out.sets.1.inX).mono ?_); rintro e w14 ⟨rfl, hb⟩; refine Hid.out ?_)
    have Ow_14 := Lib.hid (Ow_13.out.below hb)
    have Og_14 := Lib.hid (Og_13.out.below hb)
    have Rw_14 := Lib.hid (Rw_13.out.below hb)
    have Rg_14 := Lib.hid (Rg_13.out.below hb)
    have B14 := Lib.hid (B13.out.trans (hb.mono B13.out.size))
    have Z14 := Lib.hid hb.size
    clear hb
    clear qw0 qw1 qw2 qg0 qg1 qg2
    have qw0 := Rw_14.out.three0
    have qw1 := Rw_14.out.three1
    have qw2 := Rw_14.out.three2
    have qg0 := Rg_14.out.three0
    have qg1 := Rg_14.out.three1
    have qg2 := Rg_14.out.three2
    refine Lib.hid ?_
    go_wp2_with (go_at_call 13; (refine (tto_any a0 c0 l0 _ (tz_len HZ0.out) (H0.out.1.1.below B14.out)).mono ?_); rintro e w15 ⟨by0, dy0, rfl, ho, hb⟩; refine Hid.out ?_)
    have Ow_15 := Lib.hid (Ow_14.out.below hb)
    have Og_15 := Lib.hid (Og_14.out.below hb)
    have Rw_15 := Lib.hid (Rw_14.out.below hb)
    have Rg_15 := Lib.hid (Rg_14.out.below hb)
    have Oy0_15 := Lib.hid (OwnHT.of ho)
    have B15 := Lib.hid (B14.out.trans (hb.mono B14.out.size))
    have Z15 := Lib.hid hb.size
    clear ho hb
    clear qw0 qw1 qw2 qg0 qg1 qg2
    have qw0 := Rw_15.out.three0
    have qw1 := Rw_15.out.three1
    have qw2 := Rw_15.out.three2
    have qg0 := Rg_15.out.three0
    have qg1 := Rg_15.out.three1
    have qg2 := Rg_15.out.three2
    refine Lib.hid ?_
    go_wp2_with (go_at_call 14; (refine (new_impl by0 dy0 l0 a1 rt rT rS rb _ HRt.out HRT.out HRS.out HRB.out ⟨Oy0_15.out.smT (tz_len HZ0.out) (tz_mem HZ0.out), H0.out.2⟩).mono ?_); rintro e w16 ⟨bh, dh, eh, fh, qh, rfl, hq, ho, hb⟩; refine Hid.out ?_)
    have Qh := Lib.hid hq
    have Ow_16 := Lib.hid (Ow_15.out.below hb)
    have Og_16 := Lib.hid (Og_15.out.below hb)
    have Oy0_16 := Lib.hid (Oy0_15.out.below hb)
    have Rw_16 := Lib.hid (Rw_15.out.below hb)
    have Rg_16 := Lib.hid (Rg_15.out.below hb)
    have Oh_16 := Lib.hid ho
    have B16 := Lib.hid (B15.out.trans (hb.mono B15.out.size))
    have Z16 := Lib.hid hb.size
    clear hq ho hb
    obtain ⟨w17, hv⟩ : ∃ x, x = w16.alloc (.cells #[.int .i64 rt, .slice bh rT.length dh, .slice eh rS.length fh] 27) := ⟨_, rfl⟩
    have hb : Below w16.heap.size w16 w17 := by rw [hv]; exact (Below.refl _ _).alloc (Nat.le_refl _) _
    have Ow_17 := Lib.hid (Ow_16.out.below hb)
    have Og_17 := Lib.hid (Og_16.out.below hb)
    have Oy0_17 := Lib.hid (Oy0_16.out.below hb)
    have Oh_17 := Lib.hid (Oh_16.out.below hb)
    have Rw_17 := Lib.hid (Rw_16.out.below hb)
    have Rg_17 := Lib.hid (Rg_16.out.below hb)
    have Rh_17 := Lib.hid (show BlkV w17 w16.heap.size 27 #[.int .i64 rt, .slice bh rT.length dh, .slice eh rS.length fh] by rw [hv]; exact BlkV.new _ _ _)
    have B17 := Lib.hid (B16.out.trans (hb.mono B16.out.size))
    have Z17 := Lib.hid (show w16.heap.size + 1 ≤ w17.heap.size by rw [hv]; simp)
    have V17 := Lib.hid hv
    clear hb hv
    clear qw0 qw1 qw2 qg0 qg1 qg2
    have qw0 := Rw_17.out.three0
    have pw0 := qw0
    rw [V17.out] at pw0
    have qw1 := Rw_17.out.three1
    have pw1 := qw1
    rw [V17.out] at pw1
    have qw2 := Rw_17.out.three2
    have pw2 := qw2
    rw [V17.out] at pw2
    have qg0 := Rg_17.out.three0
    have pg0 := qg0
    rw [V17.out] at pg0
    have qg1 := Rg_17.out.three1
    have pg1 := qg1
    rw [V17.out] at pg1
    have qg2 := Rg_17.out.three2
    have pg2 := qg2
    rw [V17.out] at pg2
    have qh0 := Rh_17.out.three0
    have ph0 := qh0
    rw [V17.out] at ph0
    have qh1 := Rh_17.out.three1
    have ph1 := qh1
    rw [V17.out] at ph1
    have qh2 := Rh_17.out.three2
    have ph2 := qh2
    rw [V17.out] at ph2
    refine Lib.hid ?_
    go_wp2_with (go_at_call 15; rw [← V17.out]; (refine (eqix_same rt bh dh eh fh bw dw ew fw rT rS _ HRL.out (Oh_17.out.inn Qh.out) (Ow_17.out.inn Qw.out)).mono ?_); rintro e w18 ⟨rfl, hb⟩; refine Hid.out ?_)
    have Ow_18 := Lib.hid (Ow_17.out.below hb)
    have Og_18 := Lib.hid (Og_17.out.below hb)
    have Oh_18 := Lib.hid (Oh_17.out.below hb)
    have Rw_18 := Lib.hid (Rw_17.out.below hb)
    have Rg_18 := Lib.hid (Rg_17.out.below hb)
    have Rh_18 := Lib.hid (Rh_17.out.below hb)
    have B18 := Lib.hid (B17.out.trans (hb.mono B17.out.size))
    have Z18 := Lib.hid hb.size
    clear hb
    clear qw0 pw0 qw1 pw1 qw2 pw2 qg0 pg0 qg1 pg1 qg2 pg2 qh0 ph0 qh1 ph1 qh2 ph2
    have qw0 := Rw_18.out.three0
    have qw1 := Rw_18.out.three1
    have qw2 := Rw_18.out.three2
    have qg0 := Rg_18.out.three0
    have qg1 := Rg_18.out.three1
    have qg2 := Rg_18.out.three2
    have qh0 := Rh_18.out.three0
    have qh1 := Rh_18.out.three1
    have qh2 := Rh_18.out.three2
    refine Lib.hid ?_
    go_wp2_with (go_at_call 19; (refine (heldix_any rt bg dg eg fg rT qg rS 1 _ Qg.out HRL.out (by omega) (by omega) Og_18.out.tab.inT Og_18.out.sets.1.inX).mono ?_); rintro e w19 ⟨rfl, hb⟩; refine Hid.out ?_)
    have Ow_19 := Lib.hid (Ow_18.out.below hb)
    have Og_19 := Lib.hid (Og_18.out.below hb)
    have Oh_19 := Lib.hid (Oh_18.out.below hb)
    have Rw_19 := Lib.hid (Rw_18.out.below hb)
    have Rg_19 := Lib.hid (Rg_18.out.below hb)
    have Rh_19 := Lib.hid (Rh_18.out.below hb)
    have B19 := Lib.hid (B18.out.trans (hb.mono B18.out.size))
    have Z19 := Lib.hid hb.size
    clear hb
    clear qw0 qw1 qw2 qg0 qg1 qg2 qh0 qh1 qh2
    have qw0 := Rw_19.out.three0
    have qw1 := Rw_19.out.three1
    have qw2 := Rw_19.out.three2
    have qg0 := Rg_19.out.three0
    have qg1 := Rg_19.out.three1
    have qg2 := Rg_19.out.three2
    have qh0 := Rh_19.out.three0
    have qh1 := Rh_19.out.three1
    have qh2 := Rh_19.out.three2
    refine Lib.hid ?_
    go_wp2
    go_ret
    exact ⟨rfl, B19.out⟩
  · have HS0 := Lib.hid hs
    clear hs
    go_enter Try.func3, Try.ntmps3
    go_wp2_with (go_at_call 11; (refine (tz_no a0 c0 l0 1048576 _ H0.out.1 (Below.refl _ _) (by omega) HS0.out).mono ?_); rintro e wz ⟨rfl, hb⟩)
    go_ret
    exact ⟨rfl, hb⟩

end Go.Proofs.Ytggohfinkpppkaa
