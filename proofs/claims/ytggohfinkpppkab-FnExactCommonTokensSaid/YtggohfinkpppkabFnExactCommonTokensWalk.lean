/-
  The walk of laws.FnExactCommonTokens. By an AI agent.
-/
import Derived.Test.YtggohfinkpppkabCommon
namespace Go.Proofs.Ytggohfinkpppkab
open Go.RowKit
set_option linter.unusedVariables false

set_option maxRecDepth 100000 in
set_option maxHeartbeats 1600000 in
theorem FnExactCommonTokens_walk (a0 a1 : Option Addr) (c0 c1 : Nat) (l0 l1 : List Str) (w : World) (h0 : ArgS w a0 l0) (h1 : ArgS w a1 l1) :
    Calls Try.prog 4 #[.slice a0 l0.length c0, .slice a1 l1.length c1] w fun e w' => e = .returned (.bool true) ∧ Below w.heap.size w w' := by
  have H0 := Lib.hid h0
  have H1 := Lib.hid h1
  clear h0 h1
  by_cases hs : szL l0 ≤ 1048576
  · obtain ⟨r0, hr⟩ : ∃ r : Nat, r + szL l0 = 1048576 := ⟨1048576 - szL l0, by omega⟩
    have hrl0 : (r0 : Int) ≤ 1048576 := by omega
    have HS0 := Lib.hid hr
    have HZ0 := Lib.hid (show szL l0 ≤ 1048576 by omega)
    clear hs hr
    by_cases hs : szL l1 ≤ r0
    · obtain ⟨r1, hr⟩ : ∃ r : Nat, r + szL l1 = r0 := ⟨r0 - szL l1, by omega⟩
      have hrl1 : (r1 : Int) ≤ 1048576 := by omega
      have HS1 := Lib.hid hr
      have HZ1 := Lib.hid (show szL l1 ≤ 1048576 by omega)
      clear hs hr
      go_enter Try.func4, Try.ntmps4
      go_wp2_with (go_at_call 21; (refine (sz_yes a0 c0 l0 1048576 r0 _ H0.out (Below.refl _ _) (by omega) HS0.out).mono ?_); rintro e w' ⟨rfl, rfl⟩; refine Hid.out ?_)
      refine Lib.hid ?_
      go_wp2_with (go_at_call 21; (refine (sz_yes a1 c1 l1 r0 r1 _ H1.out (Below.refl _ _) (by omega) HS1.out).mono ?_); rintro e w' ⟨rfl, rfl⟩; refine Hid.out ?_)
      refine Lib.hid ?_
      have HR := Lib.hid (common_len l0 l1 HZ0.out HZ1.out)
      go_wp2_with (go_at_call 22; (refine (to_any a0 c0 l0 _ (sz_len HZ0.out) (H0.out.1.below (Below.refl _ _))).mono ?_); rintro e w1 ⟨bs0, ds0, rfl, ho, hb⟩; refine Hid.out ?_)
      refine Lib.hid ?_
      have Os0_1 := Lib.hid (OwnH.of ho)
      have B1 := Lib.hid hb
      have Z1 := Lib.hid hb.size
      clear ho hb
      go_wp2_with (go_at_call 22; (refine (to_any a1 c1 l1 _ (sz_len HZ1.out) (H1.out.1.below B1.out)).mono ?_); rintro e w2 ⟨bs1, ds1, rfl, ho, hb⟩; refine Hid.out ?_)
      refine Lib.hid ?_
      have Os1_2 := Lib.hid (OwnH.of ho)
      have Os0_2 := Lib.hid (Os0_1.out.below hb)
      have B2 := Lib.hid (B1.out.trans (hb.mono B1.out.size))
      have Z2 := Lib.hid hb.size
      clear ho hb
      go_wp2_with (go_at_call 17; (refine (common_spec bs0 bs1 ds0 ds1 l0 l1 _ (Os0_2.out.sm (sz_len HZ0.out) (sz_mem HZ0.out)) (Os1_2.out.sm (sz_len HZ1.out) (sz_mem HZ1.out))).mono ?_); rintro e w3 ⟨bw, dw, rfl, ho, hb⟩; refine Hid.out ?_)
      refine Lib.hid ?_
      have Ow_3 := Lib.hid (OwnH.of ho)
      have Os0_3 := Lib.hid (Os0_2.out.below hb)
      have Os1_3 := Lib.hid (Os1_2.out.below hb)
      have B3 := Lib.hid (B2.out.trans (hb.mono B2.out.size))
      have Z3 := Lib.hid hb.size
      clear ho hb
      go_wp2_with (go_at_call 22; (refine (to_any a0 c0 l0 _ (sz_len HZ0.out) (H0.out.1.below B3.out)).mono ?_); rintro e w4 ⟨bx0, dx0, rfl, ho, hb⟩; refine Hid.out ?_)
      refine Lib.hid ?_
      have Ox0_4 := Lib.hid (OwnH.of ho)
      have Ow_4 := Lib.hid (Ow_3.out.below hb)
      have B4 := Lib.hid (B3.out.trans (hb.mono B3.out.size))
      have Z4 := Lib.hid hb.size
      clear ho hb
      go_wp2_with (go_at_call 22; (refine (to_any a1 c1 l1 _ (sz_len HZ1.out) (H1.out.1.below B4.out)).mono ?_); rintro e w5 ⟨bx1, dx1, rfl, ho, hb⟩; refine Hid.out ?_)
      refine Lib.hid ?_
      have Ox1_5 := Lib.hid (OwnH.of ho)
      have Ow_5 := Lib.hid (Ow_4.out.below hb)
      have Ox0_5 := Lib.hid (Ox0_4.out.below hb)
      have B5 := Lib.hid (B4.out.trans (hb.mono B4.out.size))
      have Z5 := Lib.hid hb.size
      clear ho hb
      go_wp2_with (go_at_call 14; (refine (common_impl bx0 bx1 dx0 dx1 l0 l1 _ (Ox0_5.out.sm (sz_len HZ0.out) (sz_mem HZ0.out)) (Ox1_5.out.sm (sz_len HZ1.out) (sz_mem HZ1.out))).mono ?_); rintro e w6 ⟨bg, dg, rfl, ho, hb⟩; refine Hid.out ?_)
      refine Lib.hid ?_
      have Og_6 := Lib.hid (OwnH.of ho)
      have Ow_6 := Lib.hid (Ow_5.out.below hb)
      have Ox0_6 := Lib.hid (Ox0_5.out.below hb)
      have Ox1_6 := Lib.hid (Ox1_5.out.below hb)
      have B6 := Lib.hid (B5.out.trans (hb.mono B5.out.size))
      have Z6 := Lib.hid hb.size
      clear ho hb
      go_wp2_with (go_at_call 23; (refine (eq_same bg bw dg dw (commonR l0 l1) _ (by have := HR.out; unfold maxLen; omega) Og_6.out.inS Ow_6.out.inS).mono ?_); rintro e w7 ⟨rfl, hb⟩; refine Hid.out ?_)
      refine Lib.hid ?_
      have Ow_7 := Lib.hid (Ow_6.out.below hb)
      have Ox0_7 := Lib.hid (Ox0_6.out.below hb)
      have Ox1_7 := Lib.hid (Ox1_6.out.below hb)
      have Og_7 := Lib.hid (Og_6.out.below hb)
      have B7 := Lib.hid (B6.out.trans (hb.mono B6.out.size))
      have Z7 := Lib.hid hb.size
      clear hb
      go_wp2_with (go_at_call 22; (refine (to_any a0 c0 l0 _ (sz_len HZ0.out) (H0.out.1.below B7.out)).mono ?_); rintro e w8 ⟨bt0, dt0, rfl, ho, hb⟩; refine Hid.out ?_)
      refine Lib.hid ?_
      have Ot0_8 := Lib.hid (OwnH.of ho)
      have Ow_8 := Lib.hid (Ow_7.out.below hb)
      have Ox0_8 := Lib.hid (Ox0_7.out.below hb)
      have Ox1_8 := Lib.hid (Ox1_7.out.below hb)
      have Og_8 := Lib.hid (Og_7.out.below hb)
      have B8 := Lib.hid (B7.out.trans (hb.mono B7.out.size))
      have Z8 := Lib.hid hb.size
      clear ho hb
      go_wp2_with (go_at_call 23; (refine (eq_same bx0 bt0 dx0 dt0 l0 _ (by have := szL_len l0; have := HZ0.out; unfold maxLen; omega) Ox0_8.out.inS Ot0_8.out.inS).mono ?_); rintro e w9 ⟨rfl, hb⟩; refine Hid.out ?_)
      refine Lib.hid ?_
      have Ow_9 := Lib.hid (Ow_8.out.below hb)
      have Ox0_9 := Lib.hid (Ox0_8.out.below hb)
      have Ox1_9 := Lib.hid (Ox1_8.out.below hb)
      have Og_9 := Lib.hid (Og_8.out.below hb)
      have Ot0_9 := Lib.hid (Ot0_8.out.below hb)
      have B9 := Lib.hid (B8.out.trans (hb.mono B8.out.size))
      have Z9 := Lib.hid hb.size
      clear hb
      go_wp2_with (go_at_call 22; (refine (to_any a1 c1 l1 _ (sz_len HZ1.out) (H1.out.1.below B9.out)).mono ?_); rintro e w10 ⟨bt1, dt1, rfl, ho, hb⟩; refine Hid.out ?_)
      refine Lib.hid ?_
      have Ot1_10 := Lib.hid (OwnH.of ho)
      have Ow_10 := Lib.hid (Ow_9.out.below hb)
      have Ox0_10 := Lib.hid (Ox0_9.out.below hb)
      have Ox1_10 := Lib.hid (Ox1_9.out.below hb)
      have Og_10 := Lib.hid (Og_9.out.below hb)
      have B10 := Lib.hid (B9.out.trans (hb.mono B9.out.size))
      have Z10 := Lib.hid hb.size
      clear ho hb
      go_wp2_with (go_at_call 23; (refine (eq_same bx1 bt1 dx1 dt1 l1 _ (by have := szL_len l1; have := HZ1.out; unfold maxLen; omega) Ox1_10.out.inS Ot1_10.out.inS).mono ?_); rintro e w11 ⟨rfl, hb⟩; refine Hid.out ?_)
      refine Lib.hid ?_
      have Ow_11 := Lib.hid (Ow_10.out.below hb)
      have Ox0_11 := Lib.hid (Ox0_10.out.below hb)
      have Ox1_11 := Lib.hid (Ox1_10.out.below hb)
      have Og_11 := Lib.hid (Og_10.out.below hb)
      have Ot1_11 := Lib.hid (Ot1_10.out.below hb)
      have B11 := Lib.hid (B10.out.trans (hb.mono B10.out.size))
      have Z11 := Lib.hid hb.size
      clear hb
      go_wp2_with (go_at_call 24; (refine (mark_any w3.heap.size bx0 dx0 l0 (1) _ (sz_len HZ0.out) (by omega) (by omega) Ox0_11.out.1).mono ?_); rintro e w12 ⟨rfl, ho, hg⟩; refine Hid.out ?_)
      refine Lib.hid ?_
      have Ow_12 := Lib.hid (Ow_11.out.other hg Ox0_11.out.row (by have := Z1.out; have := Z2.out; have := Z3.out; have := Z4.out; have := Z5.out; have := Z6.out; have := Z7.out; have := Z8.out; have := Z9.out; have := Z10.out; have := Z11.out; omega))
      have Ox1_12 := Lib.hid (Ox1_11.out.other hg Ox0_11.out.row (by have := Z1.out; have := Z2.out; have := Z3.out; have := Z4.out; have := Z5.out; have := Z6.out; have := Z7.out; have := Z8.out; have := Z9.out; have := Z10.out; have := Z11.out; omega))
      have Og_12 := Lib.hid (Og_11.out.other hg Ox0_11.out.row (by have := Z1.out; have := Z2.out; have := Z3.out; have := Z4.out; have := Z5.out; have := Z6.out; have := Z7.out; have := Z8.out; have := Z9.out; have := Z10.out; have := Z11.out; omega))
      have Ox0_12 := Lib.hid (show OwnH _ _ _ _ _ from And.intro ho Ox0_11.out.2)
      have B12 := Lib.hid (below_row B11.out Ox0_11.out hg (by have := Z1.out; have := Z2.out; have := Z3.out; have := Z4.out; have := Z5.out; have := Z6.out; have := Z7.out; have := Z8.out; have := Z9.out; have := Z10.out; have := Z11.out; omega))
      have Z12 := Lib.hid hg.size
      clear ho hg
      go_wp2_with (go_at_call 24; (refine (mark_any w4.heap.size bx1 dx1 l1 (1 + l0.length) _ (sz_len HZ1.out) (by omega) (by have := HZ0.out; have := szL_len l0; omega) Ox1_12.out.1).mono ?_); rintro e w13 ⟨rfl, ho, hg⟩; refine Hid.out ?_)
      refine Lib.hid ?_
      have Ow_13 := Lib.hid (Ow_12.out.other hg Ox1_12.out.row (by have := Z1.out; have := Z2.out; have := Z3.out; have := Z4.out; have := Z5.out; have := Z6.out; have := Z7.out; have := Z8.out; have := Z9.out; have := Z10.out; have := Z11.out; have := Z12.out; omega))
      have Ox0_13 := Lib.hid (Ox0_12.out.other hg Ox1_12.out.row (by have := Z1.out; have := Z2.out; have := Z3.out; have := Z4.out; have := Z5.out; have := Z6.out; have := Z7.out; have := Z8.out; have := Z9.out; have := Z10.out; have := Z11.out; have := Z12.out; omega))
      have Og_13 := Lib.hid (Og_12.out.other hg Ox1_12.out.row (by have := Z1.out; have := Z2.out; have := Z3.out; have := Z4.out; have := Z5.out; have := Z6.out; have := Z7.out; have := Z8.out; have := Z9.out; have := Z10.out; have := Z11.out; have := Z12.out; omega))
      have Ox1_13 := Lib.hid (show OwnH _ _ _ _ _ from And.intro ho Ox1_12.out.2)
      have B13 := Lib.hid (below_row B12.out Ox1_12.out hg (by have := Z1.out; have := Z2.out; have := Z3.out; have := Z4.out; have := Z5.out; have := Z6.out; have := Z7.out; have := Z8.out; have := Z9.out; have := Z10.out; have := Z11.out; have := Z12.out; omega))
      have Z13 := Lib.hid hg.size
      clear ho hg
      go_wp2_with (go_at_call 23; (refine (eq_same bg bw dg dw (commonR l0 l1) _ (by have := HR.out; unfold maxLen; omega) Og_13.out.inS Ow_13.out.inS).mono ?_); rintro e w14 ⟨rfl, hb⟩; refine Hid.out ?_)
      refine Lib.hid ?_
      have Ow_14 := Lib.hid (Ow_13.out.below hb)
      have Og_14 := Lib.hid (Og_13.out.below hb)
      have B14 := Lib.hid (B13.out.trans (hb.mono B13.out.size))
      have Z14 := Lib.hid hb.size
      clear hb
      go_wp2_with (go_at_call 24; (refine (mark_any w5.heap.size bg dg (commonR l0 l1) (1) _ HR.out (by omega) (by omega) Og_14.out.1).mono ?_); rintro e w15 ⟨rfl, ho, hg⟩; refine Hid.out ?_)
      refine Lib.hid ?_
      have Ow_15 := Lib.hid (Ow_14.out.other hg Og_14.out.row (by have := Z1.out; have := Z2.out; have := Z3.out; have := Z4.out; have := Z5.out; have := Z6.out; have := Z7.out; have := Z8.out; have := Z9.out; have := Z10.out; have := Z11.out; have := Z12.out; have := Z13.out; have := Z14.out; omega))
      have Og_15 := Lib.hid (show OwnH _ _ _ _ _ from And.intro ho Og_14.out.2)
      have B15 := Lib.hid (below_row B14.out Og_14.out hg (by have := Z1.out; have := Z2.out; have := Z3.out; have := Z4.out; have := Z5.out; have := Z6.out; have := Z7.out; have := Z8.out; have := Z9.out; have := Z10.out; have := Z11.out; have := Z12.out; have := Z13.out; have := Z14.out; omega))
      have Z15 := Lib.hid hg.size
      clear ho hg
      go_wp2_with (go_at_call 25; (refine (held_any bg dg (commonR l0 l1).length 1 _ HR.out (by omega) (by omega) (OwnS.inS Og_15.out.1)).mono ?_); rintro e w16 ⟨rfl, hb⟩; refine Hid.out ?_)
      refine Lib.hid ?_
      have Ow_16 := Lib.hid (Ow_15.out.below hb)
      have Og_16 := Lib.hid (Og_15.out.below hb)
      have B16 := Lib.hid (B15.out.trans (hb.mono B15.out.size))
      have Z16 := Lib.hid hb.size
      clear hb
      go_wp2_with (go_at_call 22; (refine (to_any a0 c0 l0 _ (sz_len HZ0.out) (H0.out.1.below B16.out)).mono ?_); rintro e w17 ⟨by0, dy0, rfl, ho, hb⟩; refine Hid.out ?_)
      refine Lib.hid ?_
      have Oy0_17 := Lib.hid (OwnH.of ho)
      have Ow_17 := Lib.hid (Ow_16.out.below hb)
      have Og_17 := Lib.hid (Og_16.out.below hb)
      have B17 := Lib.hid (B16.out.trans (hb.mono B16.out.size))
      have Z17 := Lib.hid hb.size
      clear ho hb
      go_wp2_with (go_at_call 22; (refine (to_any a1 c1 l1 _ (sz_len HZ1.out) (H1.out.1.below B17.out)).mono ?_); rintro e w18 ⟨by1, dy1, rfl, ho, hb⟩; refine Hid.out ?_)
      refine Lib.hid ?_
      have Oy1_18 := Lib.hid (OwnH.of ho)
      have Ow_18 := Lib.hid (Ow_17.out.below hb)
      have Og_18 := Lib.hid (Og_17.out.below hb)
      have Oy0_18 := Lib.hid (Oy0_17.out.below hb)
      have B18 := Lib.hid (B17.out.trans (hb.mono B17.out.size))
      have Z18 := Lib.hid hb.size
      clear ho hb
      go_wp2_with (go_at_call 14; (refine (common_impl by0 by1 dy0 dy1 l0 l1 _ (Oy0_18.out.sm (sz_len HZ0.out) (sz_mem HZ0.out)) (Oy1_18.out.sm (sz_len HZ1.out) (sz_mem HZ1.out))).mono ?_); rintro e w19 ⟨bh, dh, rfl, ho, hb⟩; refine Hid.out ?_)
      refine Lib.hid ?_
      have Oh_19 := Lib.hid (OwnH.of ho)
      have Ow_19 := Lib.hid (Ow_18.out.below hb)
      have Og_19 := Lib.hid (Og_18.out.below hb)
      have Oy0_19 := Lib.hid (Oy0_18.out.below hb)
      have Oy1_19 := Lib.hid (Oy1_18.out.below hb)
      have B19 := Lib.hid (B18.out.trans (hb.mono B18.out.size))
      have Z19 := Lib.hid hb.size
      clear ho hb
      go_wp2_with (go_at_call 23; (refine (eq_same bh bw dh dw (commonR l0 l1) _ (by have := HR.out; unfold maxLen; omega) Oh_19.out.inS Ow_19.out.inS).mono ?_); rintro e w20 ⟨rfl, hb⟩; refine Hid.out ?_)
      refine Lib.hid ?_
      have Ow_20 := Lib.hid (Ow_19.out.below hb)
      have Og_20 := Lib.hid (Og_19.out.below hb)
      have Oh_20 := Lib.hid (Oh_19.out.below hb)
      have B20 := Lib.hid (B19.out.trans (hb.mono B19.out.size))
      have Z20 := Lib.hid hb.size
      clear hb
      go_wp2_with (go_at_call 25; (refine (held_any bg dg (commonR l0 l1).length 1 _ HR.out (by omega) (by omega) (OwnS.inS Og_20.out.1)).mono ?_); rintro e w21 ⟨rfl, hb⟩; refine Hid.out ?_)
      refine Lib.hid ?_
      have Ow_21 := Lib.hid (Ow_20.out.below hb)
      have Og_21 := Lib.hid (Og_20.out.below hb)
      have Oh_21 := Lib.hid (Oh_20.out.below hb)
      have B21 := Lib.hid (B20.out.trans (hb.mono B20.out.size))
      have Z21 := Lib.hid hb.size
      clear hb
      go_wp2
      go_ret
      exact ⟨rfl, B21.out⟩
    · have HS1 := Lib.hid hs
      clear hs
      go_enter Try.func4, Try.ntmps4
      go_wp2_with (go_at_call 21; (refine (sz_yes a0 c0 l0 1048576 r0 _ H0.out (Below.refl _ _) (by omega) HS0.out).mono ?_); rintro e w1 ⟨rfl, rfl⟩; refine Hid.out ?_)
      refine Lib.hid ?_
      go_wp2_with (go_at_call 21; (refine (sz_no a1 c1 l1 r0 _ H1.out (Below.refl _ _) (by omega) HS1.out).mono ?_); rintro e w1 ⟨rfl, rfl⟩)
      go_ret
      exact ⟨rfl, Below.refl _ _⟩
  · have HS0 := Lib.hid hs
    clear hs
    go_enter Try.func4, Try.ntmps4
    go_wp2_with (go_at_call 21; (refine (sz_no a0 c0 l0 1048576 _ H0.out (Below.refl _ _) (by omega) HS0.out).mono ?_); rintro e w1 ⟨rfl, rfl⟩)
    go_ret
    exact ⟨rfl, Below.refl _ _⟩

end Go.Proofs.Ytggohfinkpppkab
