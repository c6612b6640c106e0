/-
  The walk of laws.FnExactSharePrefix. By an AI agent.
-/
import Derived.Test.YtggohfinkpppkaaPref
import Derived.Test.YtggohfinkpppkaaTcM
import Derived.Test.YtggohfinkpppkaaHeld
namespace Go.Proofs.Ytggohfinkpppkaa
open Go.RowKit
set_option linter.unusedVariables false

set_option maxRecDepth 100000 in
set_option maxHeartbeats 1600000 in
theorem FnExactSharePrefix_walk (a0 : Option Addr) (a1 : Option Addr) (a2 : Option Addr) (a3 : Int) (c0 : Nat) (c1 : Nat) (c2 : Nat) (l0 : List TC) (l1 : List Str) (l2 : List Str) (w : World) (h0 : ArgW w a0 l0) (h1 : ArgS w a1 l1) (h2 : ArgS w a2 l2) (w3 : (Lit.int .i64 a3).wf = true) :
    Calls Try.prog 10 #[.slice a0 l0.length c0, .slice a1 l1.length c1, .slice a2 l2.length c2, .int .i64 a3] w fun e w' => e = .returned (.bool true) ∧ Below w.heap.size w w' := by
  have H0 := Lib.hid h0
  have H1 := Lib.hid h1
  have H2 := Lib.hid h2
  clear h0 h1 h2
  by_cases hs : tzL l0 ≤ 1048576
  · obtain ⟨r0, hr⟩ : ∃ r : Nat, r + tzL l0 = 1048576 := ⟨1048576 - tzL l0, by omega⟩
    have hrl0 : (r0 : Int) ≤ 1048576 := by omega
    have HS0 := Lib.hid hr
    have HZ0 := Lib.hid (show tzL l0 ≤ 1048576 by omega)
    clear hs hr
    by_cases hs : szL l1 ≤ r0
    · obtain ⟨r1, hr⟩ : ∃ r : Nat, r + szL l1 = r0 := ⟨r0 - szL l1, by omega⟩
      have hrl1 : (r1 : Int) ≤ 1048576 := by omega
      have HS1 := Lib.hid hr
      have HZ1 := Lib.hid (show szL l1 ≤ 1048576 by omega)
      clear hs hr
      by_cases hs : szL l2 ≤ r1
      · obtain ⟨r2, hr⟩ : ∃ r : Nat, r + szL l2 = r1 := ⟨r1 - szL l2, by omega⟩
        have hrl2 : (r2 : Int) ≤ 1048576 := by omega
        have HS2 := Lib.hid hr
        have HZ2 := Lib.hid (show szL l2 ≤ 1048576 by omega)
        clear hs hr
        go_enter Try.func10, Try.ntmps10
        go_wp2_with (go_at_call 11; (refine (tz_yes a0 c0 l0 1048576 r0 _ H0.out.1 (Below.refl _ _) (by omega) HS0.out).mono ?_); rintro e w1 ⟨rfl, hb⟩; refine Hid.out ?_)
        refine Lib.hid ?_
        have B1 := Lib.hid hb
        have Z1 := Lib.hid hb.size
        clear hb
        go_wp2_with (go_at_call 24; (refine (sz_yes a1 c1 l1 r0 r1 _ H1.out B1.out (by omega) HS1.out).mono ?_); rintro e w' ⟨rfl, rfl⟩; refine Hid.out ?_)
        refine Lib.hid ?_
        go_wp2_with (go_at_call 24; (refine (sz_yes a2 c2 l2 r1 r2 _ H2.out B1.out (by omega) HS2.out).mono ?_); rintro e w' ⟨rfl, rfl⟩; refine Hid.out ?_)
        refine Lib.hid ?_
        go_wp2_with (go_at_call 13; (refine (tto_any a0 c0 l0 _ (tz_len HZ0.out) (H0.out.1.1.below B1.out)).mono ?_); rintro e w2 ⟨bs0, ds0, rfl, ho, hb⟩; refine Hid.out ?_)
        refine Lib.hid ?_
        have Os0_2 := Lib.hid (OwnHT.of ho)
        have B2 := Lib.hid (B1.out.trans (hb.mono B1.out.size))
        have Z2 := Lib.hid hb.size
        clear ho hb
        go_wp2_with (go_at_call 26; (refine (to_any a1 c1 l1 _ (sz_len HZ1.out) (H1.out.1.below B2.out)).mono ?_); rintro e w3 ⟨bs1, ds1, rfl, ho, hb⟩; refine Hid.out ?_)
        refine Lib.hid ?_
        have Os1_3 := Lib.hid (OwnH.of ho)
        have Os0_3 := Lib.hid (Os0_2.out.below hb)
        have B3 := Lib.hid (B2.out.trans (hb.mono B2.out.size))
        have Z3 := Lib.hid hb.size
        clear ho hb
        go_wp2_with (go_at_call 26; (refine (to_any a2 c2 l2 _ (sz_len HZ2.out) (H2.out.1.below B3.out)).mono ?_); rintro e w4 ⟨bs2, ds2, rfl, ho, hb⟩; refine Hid.out ?_)
        refine Lib.hid ?_
        have Os2_4 := Lib.hid (OwnH.of ho)
        have Os0_4 := Lib.hid (Os0_3.out.below hb)
        have Os1_4 := Lib.hid (Os1_3.out.below hb)
        have B4 := Lib.hid (B3.out.trans (hb.mono B3.out.size))
        have Z4 := Lib.hid hb.size
        clear ho hb
        go_wp2_with (go_at_call 49; (refine (sh_spec bs0 bs1 bs2 ds0 ds1 ds2 l0 l1 l2 a3 (shR l0 l1 l2 a3) _  rfl ⟨(Os0_4.out.smT (tz_len HZ0.out) (tz_mem HZ0.out)), H0.out.2⟩ (Os1_4.out.sm (sz_len HZ1.out) (sz_mem HZ1.out)) (Os2_4.out.sm (sz_len HZ2.out) (sz_mem HZ2.out))).mono ?_); rintro e w5 ⟨rfl, hb⟩; refine Hid.out ?_)
        refine Lib.hid ?_
        have Os0_5 := Lib.hid (Os0_4.out.below hb)
        have Os1_5 := Lib.hid (Os1_4.out.below hb)
        have Os2_5 := Lib.hid (Os2_4.out.below hb)
        have B5 := Lib.hid (B4.out.trans (hb.mono B4.out.size))
        have Z5 := Lib.hid hb.size
        clear hb
        go_wp2_with (go_at_call 13; (refine (tto_any a0 c0 l0 _ (tz_len HZ0.out) (H0.out.1.1.below B5.out)).mono ?_); rintro e w6 ⟨bx0, dx0, rfl, ho, hb⟩; refine Hid.out ?_)
        refine Lib.hid ?_
        have Ox0_6 := Lib.hid (OwnHT.of ho)
        have B6 := Lib.hid (B5.out.trans (hb.mono B5.out.size))
        have Z6 := Lib.hid hb.size
        clear ho hb
        go_wp2_with (go_at_call 26; (refine (to_any a1 c1 l1 _ (sz_len HZ1.out) (H1.out.1.below B6.out)).mono ?_); rintro e w7 ⟨bx1, dx1, rfl, ho, hb⟩; refine Hid.out ?_)
        refine Lib.hid ?_
        have Ox1_7 := Lib.hid (OwnH.of ho)
        have Ox0_7 := Lib.hid (Ox0_6.out.below hb)
        have B7 := Lib.hid (B6.out.trans (hb.mono B6.out.size))
        have Z7 := Lib.hid hb.size
        clear ho hb
        go_wp2_with (go_at_call 26; (refine (to_any a2 c2 l2 _ (sz_len HZ2.out) (H2.out.1.below B7.out)).mono ?_); rintro e w8 ⟨bx2, dx2, rfl, ho, hb⟩; refine Hid.out ?_)
        refine Lib.hid ?_
        have Ox2_8 := Lib.hid (OwnH.of ho)
        have Ox0_8 := Lib.hid (Ox0_7.out.below hb)
        have Ox1_8 := Lib.hid (Ox1_7.out.below hb)
        have B8 := Lib.hid (B7.out.trans (hb.mono B7.out.size))
        have Z8 := Lib.hid hb.size
        clear ho hb
        go_wp2_with (go_at_call 48; (refine (sh_impl bx0 bx1 bx2 dx0 dx1 dx2 l0 l1 l2 a3 (shR l0 l1 l2 a3) _  rfl ⟨(Ox0_8.out.smT (tz_len HZ0.out) (tz_mem HZ0.out)), H0.out.2⟩ (Ox1_8.out.sm (sz_len HZ1.out) (sz_mem HZ1.out)) (Ox2_8.out.sm (sz_len HZ2.out) (sz_mem HZ2.out))).mono ?_); rintro e w9 ⟨rfl, hb⟩; refine Hid.out ?_)
        refine Lib.hid ?_
        have Ox0_9 := Lib.hid (Ox0_8.out.below hb)
        have Ox1_9 := Lib.hid (Ox1_8.out.below hb)
        have Ox2_9 := Lib.hid (Ox2_8.out.below hb)
        have B9 := Lib.hid (B8.out.trans (hb.mono B8.out.size))
        have Z9 := Lib.hid hb.size
        clear hb
        go_wp2_with (go_at_call 13; (refine (tto_any a0 c0 l0 _ (tz_len HZ0.out) (H0.out.1.1.below B9.out)).mono ?_); rintro e w10 ⟨bt0, dt0, rfl, ho, hb⟩; refine Hid.out ?_)
        refine Lib.hid ?_
        have Ot0_10 := Lib.hid (OwnHT.of ho)
        have Ox0_10 := Lib.hid (Ox0_9.out.below hb)
        have Ox1_10 := Lib.hid (Ox1_9.out.below hb)
        have Ox2_10 := Lib.hid (Ox2_9.out.below hb)
        have B10 := Lib.hid (B9.out.trans (hb.mono B9.out.size))
        have Z10 := Lib.hid hb.size
        clear ho hb
        go_wp2_with (go_at_call 16; (refine (teq_same bx0 bt0 dx0 dt0 l0 _ (by have := tzL_len l0; have := HZ0.out; unfold maxLen; omega) Ox0_10.out.inT Ot0_10.out.inT).mono ?_); rintro e w11 ⟨rfl, hb⟩; refine Hid.out ?_)
        refine Lib.hid ?_
        have Ox0_11 := Lib.hid (Ox0_10.out.below hb)
        have Ox1_11 := Lib.hid (Ox1_10.out.below hb)
        have Ox2_11 := Lib.hid (Ox2_10.out.below hb)
        have Ot0_11 := Lib.hid (Ot0_10.out.below hb)
        have B11 := Lib.hid (B10.out.trans (hb.mono B10.out.size))
        have Z11 := Lib.hid hb.size
        clear hb
        go_wp2_with (go_at_call 26; (refine (to_any a1 c1 l1 _ (sz_len HZ1.out) (H1.out.1.below B11.out)).mono ?_); rintro e w12 ⟨bt1, dt1, rfl, ho, hb⟩; refine Hid.out ?_)
        refine Lib.hid ?_
        have Ot1_12 := Lib.hid (OwnH.of ho)
        have Ox0_12 := Lib.hid (Ox0_11.out.below hb)
        have Ox1_12 := Lib.hid (Ox1_11.out.below hb)
        have Ox2_12 := Lib.hid (Ox2_11.out.below hb)
        have B12 := Lib.hid (B11.out.trans (hb.mono B11.out.size))
        have Z12 := Lib.hid hb.size
        clear ho hb
        go_wp2_with (go_at_call 28; (refine (eq_same bx1 bt1 dx1 dt1 l1 _ (by have := szL_len l1; have := HZ1.out; unfold maxLen; omega) Ox1_12.out.inS Ot1_12.out.inS).mono ?_); rintro e w13 ⟨rfl, hb⟩; refine Hid.out ?_)
        refine Lib.hid ?_
        have Ox0_13 := Lib.hid (Ox0_12.out.below hb)
        have Ox1_13 := Lib.hid (Ox1_12.out.below hb)
        have Ox2_13 := Lib.hid (Ox2_12.out.below hb)
        have Ot1_13 := Lib.hid (Ot1_12.out.below hb)
        have B13 := Lib.hid (B12.out.trans (hb.mono B12.out.size))
        have Z13 := Lib.hid hb.size
        clear hb
        go_wp2_with (go_at_call 26; (refine (to_any a2 c2 l2 _ (sz_len HZ2.out) (H2.out.1.below B13.out)).mono ?_); rintro e w14 ⟨bt2, dt2, rfl, ho, hb⟩; refine Hid.out ?_)
        refine Lib.hid ?_
        have Ot2_14 := Lib.hid (OwnH.of ho)
        have Ox0_14 := Lib.hid (Ox0_13.out.below hb)
        have Ox1_14 := Lib.hid (Ox1_13.out.below hb)
        have Ox2_14 := Lib.hid (Ox2_13.out.below hb)
        have B14 := Lib.hid (B13.out.trans (hb.mono B13.out.size))
        have Z14 := Lib.hid hb.size
        clear ho hb
        go_wp2_with (go_at_call 28; (refine (eq_same bx2 bt2 dx2 dt2 l2 _ (by have := szL_len l2; have := HZ2.out; unfold maxLen; omega) Ox2_14.out.inS Ot2_14.out.inS).mono ?_); rintro e w15 ⟨rfl, hb⟩; refine Hid.out ?_)
        refine Lib.hid ?_
        have Ox0_15 := Lib.hid (Ox0_14.out.below hb)
        have Ox1_15 := Lib.hid (Ox1_14.out.below hb)
        have Ox2_15 := Lib.hid (Ox2_14.out.below hb)
        have Ot2_15 := Lib.hid (Ot2_14.out.below hb)
        have B15 := Lib.hid (B14.out.trans (hb.mono B14.out.size))
        have Z15 := Lib.hid hb.size
        clear hb
        go_wp2
        go_ret
        exact ⟨rfl, B15.out⟩
      · have HS2 := Lib.hid hs
        clear hs
        go_enter Try.func10, Try.ntmps10
        go_wp2_with (go_at_call 11; (refine (tz_yes a0 c0 l0 1048576 r0 _ H0.out.1 (Below.refl _ _) (by omega) HS0.out).mono ?_); rintro e w16 ⟨rfl, hb⟩; refine Hid.out ?_)
        refine Lib.hid ?_
        have B16 := Lib.hid hb
        have Z16 := Lib.hid hb.size
        clear hb
        go_wp2_with (go_at_call 24; (refine (sz_yes a1 c1 l1 r0 r1 _ H1.out B16.out (by omega) HS1.out).mono ?_); rintro e w' ⟨rfl, rfl⟩; refine Hid.out ?_)
        refine Lib.hid ?_
        go_wp2_with (go_at_call 24; (refine (sz_no a2 c2 l2 r1 _ H2.out B16.out (by omega) HS2.out).mono ?_); rintro e wz ⟨rfl, rfl⟩)
        go_ret
        exact ⟨rfl, B16.out⟩
    · have HS1 := Lib.hid hs
      clear hs
      go_enter Try.func10, Try.ntmps10
      go_wp2_with (go_at_call 11; (refine (tz_yes a0 c0 l0 1048576 r0 _ H0.out.1 (Below.refl _ _) (by omega) HS0.out).mono ?_); rintro e w17 ⟨rfl, hb⟩; refine Hid.out ?_)
      refine Lib.hid ?_
      have B17 := Lib.hid hb
      have Z17 := Lib.hid hb.size
      clear hb
      go_wp2_with (go_at_call 24; (refine (sz_no a1 c1 l1 r0 _ H1.out B17.out (by omega) HS1.out).mono ?_); rintro e wz ⟨rfl, rfl⟩)
      go_ret
      exact ⟨rfl, B17.out⟩
  · have HS0 := Lib.hid hs
    clear hs
    go_enter Try.func10, Try.ntmps10
    go_wp2_with (go_at_call 11; (refine (tz_no a0 c0 l0 1048576 _ H0.out.1 (Below.refl _ _) (by omega) HS0.out).mono ?_); rintro e wz ⟨rfl, hb⟩)
    go_ret
    exact ⟨rfl, hb⟩

end Go.Proofs.Ytggohfinkpppkaa
