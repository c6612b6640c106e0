/-
  The walk of laws.FnExactBlockPairs. By an AI agent.
-/
import Derived.Test.YtebddnjccmaimaaGreatDoorBpI
import Derived.Test.YtebddnjccmaimaaGreatDoorBpS
import Derived.Test.YtebddnjccmaimaaGreatDoorBlkX
namespace Go.Proofs.YtebddnjccmaimaaGreatDoor
open Go.RowKit
set_option linter.unusedVariables false

set_option maxRecDepth 100000 in
set_option maxHeartbeats 6400000 in
theorem FnExactBlockPairs_walk (a0 : Option Addr) (c0 : Nat) (S0 : List RC) (a1 : Int) (w : World) (h0 : ArgRc w a0 S0) (ht : TabAt w) (hT : SpT w) :
    Calls Tryz.prog 6 #[.slice a0 S0.length c0, .int .i64 a1] w fun e w' => e = .returned (.bool true) ∧ Below w.heap.size w w' := by
  have H0 := Lib.hid h0
  have HT := Lib.hid ht
  have HSP := Lib.hid hT
  clear ht hT h0
  by_cases hs : rcz S0 ≤ 1048576
  · obtain ⟨r0, hr⟩ : ∃ r : Nat, r + rcz S0 = 1048576 := ⟨1048576 - rcz S0, by omega⟩
    have hrl0 : (r0 : Int) ≤ 1048576 := by omega
    have HS0 := Lib.hid hr
    have HZ0 := Lib.hid (show rcz S0 ≤ 1048576 by omega)
    clear hs hr
    obtain ⟨r, hr⟩ : ∃ r, bpR (kbR S0) a1 = r := ⟨_, rfl⟩
    have HRL := Lib.hid (show r.length ≤ 4000000 by rw [← hr]; exact (by have := bp_len S0 a1; omega))
    have HRR := Lib.hid hr
    clear hr
    go_enter Tryz.func6, Tryz.ntmps6
    go_wp2_with (go_at_call 31; (refine (rsz_yes a0 c0 S0 1048576 r0 _ H0.out (Below.refl _ _) (by omega) HS0.out).mono ?_); rintro e w1 ⟨rfl, hb⟩; refine Hid.out ?_)
    have B1 := Lib.hid hb
    have Z1 := Lib.hid hb.size
    clear hb
    refine Lib.hid ?_
    go_wp2_with (go_at_call 32; (refine (rto_any a0 c0 S0 _ HZ0.out (H0.out.1.below B1.out)).mono ?_); rintro e w2 ⟨bs0, ds0, qs0, rfl, hq, ho, hb⟩; refine Hid.out ?_)
    have Qs0 := Lib.hid hq
    have Os0_2 := Lib.hid (OwnHRc.of ho)
    have B2 := Lib.hid (B1.out.trans (hb.mono B1.out.size))
    have Z2 := Lib.hid hb.size
    clear hq ho hb
    refine Lib.hid ?_
    go_wp2_with (go_at_call 13; (refine (bp_spec bs0 ds0 S0 a1 r _ HRR.out (Os0_2.out.1.smRc Qs0.out (rc_len HZ0.out) (rc_mem HZ0.out)) (HSP.out.below B2.out)).mono ?_); rintro e w3 ⟨bw, dw, rfl, ho, hb⟩; refine Hid.out ?_)
    have Os0_3 := Lib.hid (Os0_2.out.below hb)
    have Ow_3 := Lib.hid (OwnHP.of ho)
    have B3 := Lib.hid (B2.out.trans (hb.mono B2.out.size))
    have Z3 := Lib.hid hb.size
    clear ho hb
    refine Lib.hid ?_
    go_wp2_with (go_at_call 32; (refine (rto_any a0 c0 S0 _ HZ0.out (H0.out.1.below B3.out)).mono ?_); rintro e w4 ⟨bx0, dx0, qx0, rfl, hq, ho, hb⟩; refine Hid.out ?_)
    have Qx0 := Lib.hid hq
    have Ow_4 := Lib.hid (Ow_3.out.below hb)
    have Ox0_4 := Lib.hid (OwnHRc.of ho)
    have B4 := Lib.hid (B3.out.trans (hb.mono B3.out.size))
    have Z4 := Lib.hid hb.size
    clear hq ho hb
    refine Lib.hid ?_
    go_wp2_with (go_at_call 12; (refine (bp_impl bx0 dx0 S0 a1 r _ HRR.out (Ox0_4.out.1.smRc Qx0.out (rc_len HZ0.out) (rc_mem HZ0.out)) (HSP.out.below B4.out) (HT.out.on B4.out)).mono ?_); rintro e w5 ⟨bg, dg, rfl, ho, hb⟩; refine Hid.out ?_)
    have Ow_5 := Lib.hid (Ow_4.out.below hb)
    have Ox0_5 := Lib.hid (Ox0_4.out.below hb)
    have Og_5 := Lib.hid (OwnHP.of ho)
    have B5 := Lib.hid (B4.out.trans (hb.mono B4.out.size))
    have Z5 := Lib.hid hb.size
    clear ho hb
    refine Lib.hid ?_
    go_wp2_with (go_at_call 38; (refine (peq_same bg bw dg dw r _ (by have := HRL.out; unfold maxLen; omega) Og_5.out.inP Ow_5.out.inP).mono ?_); rintro e w6 ⟨rfl, hb⟩; refine Hid.out ?_)
    have Ow_6 := Lib.hid (Ow_5.out.below hb)
    have Ox0_6 := Lib.hid (Ox0_5.out.below hb)
    have Og_6 := Lib.hid (Og_5.out.below hb)
    have B6 := Lib.hid (B5.out.trans (hb.mono B5.out.size))
    have Z6 := Lib.hid hb.size
    clear hb
    refine Lib.hid ?_
    go_wp2_with (go_at_call 32; (refine (rto_any a0 c0 S0 _ HZ0.out (H0.out.1.below B6.out)).mono ?_); rintro e w7 ⟨bt0, dt0, qt0, rfl, hq, ho, hb⟩; refine Hid.out ?_)
    have Qt0 := Lib.hid hq
    have Ow_7 := Lib.hid (Ow_6.out.below hb)
    have Ox0_7 := Lib.hid (Ox0_6.out.below hb)
    have Og_7 := Lib.hid (Og_6.out.below hb)
    have Ot0_7 := Lib.hid (OwnHRc.of ho)
    have B7 := Lib.hid (B6.out.trans (hb.mono B6.out.size))
    have Z7 := Lib.hid hb.size
    clear hq ho hb
    refine Lib.hid ?_
    go_wp2_with (go_at_call 34; (refine (req_same bx0 bt0 dx0 dt0 S0 _ (by have := rcz_len HZ0.out; omega) (fun x hx => by have := rcz_mem HZ0.out x hx; omega) (show InRc _ _ _ from by have h := Ox0_7.out.1.inRc; rw [Qx0.out] at h; exact h) (show InRc _ _ _ from by have h := Ot0_7.out.1.inRc; rw [Qt0.out] at h; exact h)).mono ?_); rintro e w8 ⟨rfl, hb⟩; refine Hid.out ?_)
    have Ow_8 := Lib.hid (Ow_7.out.below hb)
    have Ox0_8 := Lib.hid (Ox0_7.out.below hb)
    have Og_8 := Lib.hid (Og_7.out.below hb)
    have Ot0_8 := Lib.hid (Ot0_7.out.below hb)
    have B8 := Lib.hid (B7.out.trans (hb.mono B7.out.size))
    have Z8 := Lib.hid hb.size
    clear hb
    refine Lib.hid ?_
    obtain ⟨mx0, hm⟩ : ∃ m : Nat, 1 + rcn S0 = m := ⟨_, rfl⟩
    have HMx0 := Lib.hid hm
    have hmb : mx0 ≤ 3200000 := by have := rcn_le HZ0.out; omega
    have hmp : 0 < mx0 := by omega
    clear hm
    go_wp2_with (go_at_call 35; (refine (rmark_any w3.heap.size w4.heap.size bx0 dx0 S0.length mx0 qx0 S0 1 _ Qx0.out rfl (by omega) (by omega) HZ0.out HMx0.out Ox0_8.out).mono ?_); rintro e w9 ⟨rfl, hc⟩; refine Hid.out ?_)
    have Ow_9 := Lib.hid (Ow_8.out.chg hc (by have := Z1.out; have := Z2.out; have := Z3.out; have := Z4.out; have := Z5.out; have := Z6.out; have := Z7.out; have := Z8.out; omega))
    have Og_9 := Lib.hid (Og_8.out.chg hc (by have := Z1.out; have := Z2.out; have := Z3.out; have := Z4.out; have := Z5.out; have := Z6.out; have := Z7.out; have := Z8.out; omega))
    have B9 := Lib.hid (below_chg B8.out hc (by have := Z1.out; have := Z2.out; have := Z3.out; have := Z4.out; have := Z5.out; have := Z6.out; have := Z7.out; have := Z8.out; omega))
    have Z9 := Lib.hid hc.size
    clear hc
    refine Lib.hid ?_
    go_wp2_with (go_at_call 38; (refine (peq_same bg bw dg dw r _ (by have := HRL.out; unfold maxLen; omega) Og_9.out.inP Ow_9.out.inP).mono ?_); rintro e w10 ⟨rfl, hb⟩; refine Hid.out ?_)
    have Ow_10 := Lib.hid (Ow_9.out.below hb)
    have Og_10 := Lib.hid (Og_9.out.below hb)
    have B10 := Lib.hid (B9.out.trans (hb.mono B9.out.size))
    have Z10 := Lib.hid hb.size
    clear hb
    refine Lib.hid ?_
    go_wp2_with (go_at_call 39; (refine (pmark_any w4.heap.size bg dg r (1) _ HRL.out (by omega) (by omega) Og_10.out.1).mono ?_); rintro e w11 ⟨rfl, ho, hg⟩; refine Hid.out ?_)
    have hc := (Chg.refl _ w4.heap.size w5.heap.size).grown hg (fun j hj => And.intro (World.ownsRow.lt Og_10.out.1 j hj).1 (Og_10.out.2 j hj))
    have Ow_11 := Lib.hid (Ow_10.out.chg hc (by have := Z1.out; have := Z2.out; have := Z3.out; have := Z4.out; have := Z5.out; have := Z6.out; have := Z7.out; have := Z8.out; have := Z9.out; have := Z10.out; omega))
    have Og_11 := Lib.hid (show OwnHP _ _ _ _ _ from And.intro ho Og_10.out.2)
    have B11 := Lib.hid (below_chg B10.out hc (by have := Z1.out; have := Z2.out; have := Z3.out; have := Z4.out; have := Z5.out; have := Z6.out; have := Z7.out; have := Z8.out; have := Z9.out; have := Z10.out; omega))
    have Z11 := Lib.hid hc.size
    clear hc ho hg
    refine Lib.hid ?_
    go_wp2_with (go_at_call 40; (refine (pheld_any bg dg r.length 1 _ HRL.out (by omega) (by omega) Og_11.out.inP).mono ?_); rintro e w12 ⟨rfl, hb⟩; refine Hid.out ?_)
    have Ow_12 := Lib.hid (Ow_11.out.below hb)
    have Og_12 := Lib.hid (Og_11.out.below hb)
    have B12 := Lib.hid (B11.out.trans (hb.mono B11.out.size))
    have Z12 := Lib.hid hb.size
    clear hb
    refine Lib.hid ?_
    go_wp2_with (go_at_call 32; (refine (rto_any a0 c0 S0 _ HZ0.out (H0.out.1.below B12.out)).mono ?_); rintro e w13 ⟨by0, dy0, qy0, rfl, hq, ho, hb⟩; refine Hid.out ?_)
    have Qy0 := Lib.hid hq
    have Ow_13 := Lib.hid (Ow_12.out.below hb)
    have Og_13 := Lib.hid (Og_12.out.below hb)
    have Oy0_13 := Lib.hid (OwnHRc.of ho)
    have B13 := Lib.hid (B12.out.trans (hb.mono B12.out.size))
    have Z13 := Lib.hid hb.size
    clear hq ho hb
    refine Lib.hid ?_
    go_wp2_with (go_at_call 12; (refine (bp_impl by0 dy0 S0 a1 r _ HRR.out (Oy0_13.out.1.smRc Qy0.out (rc_len HZ0.out) (rc_mem HZ0.out)) (HSP.out.below B13.out) (HT.out.on B13.out)).mono ?_); rintro e w14 ⟨bh, dh, rfl, ho, hb⟩; refine Hid.out ?_)
    have Ow_14 := Lib.hid (Ow_13.out.below hb)
    have Og_14 := Lib.hid (Og_13.out.below hb)
    have Oy0_14 := Lib.hid (Oy0_13.out.below hb)
    have Oh_14 := Lib.hid (OwnHP.of ho)
    have B14 := Lib.hid (B13.out.trans (hb.mono B13.out.size))
    have Z14 := Lib.hid hb.size
    clear ho hb
    refine Lib.hid ?_
    go_wp2_with (go_at_call 38; (refine (peq_same bh bw dh dw r _ (by have := HRL.out; unfold maxLen; omega) Oh_14.out.inP Ow_14.out.inP).mono ?_); rintro e w15 ⟨rfl, hb⟩; refine Hid.out ?_)
    have Ow_15 := Lib.hid (Ow_14.out.below hb)
    have Og_15 := Lib.hid (Og_14.out.below hb)
    have Oh_15 := Lib.hid (Oh_14.out.below hb)
    have B15 := Lib.hid (B14.out.trans (hb.mono B14.out.size))
    have Z15 := Lib.hid hb.size
    clear hb
    refine Lib.hid ?_
    go_wp2_with (go_at_call 40; (refine (pheld_any bg dg r.length 1 _ HRL.out (by omega) (by omega) Og_15.out.inP).mono ?_); rintro e w16 ⟨rfl, hb⟩; refine Hid.out ?_)
    have Ow_16 := Lib.hid (Ow_15.out.below hb)
    have Og_16 := Lib.hid (Og_15.out.below hb)
    have Oh_16 := Lib.hid (Oh_15.out.below hb)
    have B16 := Lib.hid (B15.out.trans (hb.mono B15.out.size))
    have Z16 := Lib.hid hb.size
    clear hb
    refine Lib.hid ?_
    go_wp2
    go_ret
    exact ⟨rfl, B16.out⟩
  · have HS0 := Lib.hid hs
    clear hs
    go_enter Tryz.func6, Tryz.ntmps6
    go_wp2_with (go_at_call 31; (refine (rsz_no a0 c0 S0 1048576 _ H0.out (Below.refl _ _) (by omega) HS0.out).mono ?_); rintro e wz ⟨rfl, hb⟩)
    go_ret
    exact ⟨rfl, hb⟩

end Go.Proofs.YtebddnjccmaimaaGreatDoor
