/-
  The walk of laws.FnExactMeetsJaccard. By an AI agent.
-/
import Derived.Test.YtkfdjbeligjplaaMeet
import Derived.Test.YtkfdjbeligjplaaHeld
namespace Go.Proofs.Ytkfdjbeligjplaa
open Go.RowKit
set_option linter.unusedVariables false

set_option maxRecDepth 100000 in
set_option maxHeartbeats 1600000 in
theorem FnExactMeetsJaccard_walk (a0 a1 : Option Addr) (a2 : Int) (c0 c1 : Nat) (l0 l1 : List Str) (w : World) (h0 : ArgS w a0 l0) (h1 : ArgS w a1 l1) (xa2 : (Lit.int .i64 a2).wf = true) :
    Calls Try.prog 9 #[.slice a0 l0.length c0, .slice a1 l1.length c1, .int .i64 a2] w fun e w' => e = .returned (.bool true) ∧ Below w.heap.size w w' := by
  have H0 := Lib.hid h0
  have H1 := Lib.hid h1
  clear h0 h1
  by_cases hs : szL l0 ≤ 1048576
  · obtain ⟨r0, hr⟩ : ∃ r : Nat, r + szL l0 = 1048576 := ⟨1048576 - szL l0, by omega⟩
    have hrl0 : (r0 : Int) ≤ 1048576 := by omega
    have HS0 := Lib.hid hr
    have HZ0 := Lib.hid (show szL l0 ≤ 1048576 by omega)
    clear hs hr
    by_cases hs : szL l1 ≤ r0
    · obtain ⟨r1, hr⟩ : ∃ r : Nat, r + szL l1 = r0 := ⟨r0 - szL l1, by omega⟩
      have hrl1 : (r1 : Int) ≤ 1048576 := by omega
      have HS1 := Lib.hid hr
      have HZ1 := Lib.hid (show szL l1 ≤ 1048576 by omega)
      clear hs hr
      go_enter Try.func9, Try.ntmps9
      go_wp2_with (go_at_call 25; (refine (sz_yes a0 c0 l0 1048576 r0 _ H0.out (Below.refl _ _) (by omega) HS0.out).mono ?_); rintro e w' ⟨rfl, rfl⟩; refine Hid.out ?_)
      refine Lib.hid ?_
      go_wp2_with (go_at_call 25; (refine (sz_yes a1 c1 l1 r0 r1 _ H1.out (Below.refl _ _) (by omega) HS1.out).mono ?_); rintro e w' ⟨rfl, rfl⟩; refine Hid.out ?_)
      refine Lib.hid ?_
      go_wp2_with (go_at_call 26; (refine (to_any a0 c0 l0 _ (sz_len HZ0.out) (H0.out.1.below (Below.refl _ _))).mono ?_); rintro e w1 ⟨bs0, ds0, rfl, ho, hb⟩; refine Hid.out ?_)
      refine Lib.hid ?_
      have Os0_1 := Lib.hid (OwnH.of ho)
      have B1 := Lib.hid hb
      have Z1 := Lib.hid hb.size
      clear ho hb
      go_wp2_with (go_at_call 26; (refine (to_any a1 c1 l1 _ (sz_len HZ1.out) (H1.out.1.below B1.out)).mono ?_); rintro e w2 ⟨bs1, ds1, rfl, ho, hb⟩; refine Hid.out ?_)
      refine Lib.hid ?_
      have Os1_2 := Lib.hid (OwnH.of ho)
      have Os0_2 := Lib.hid (Os0_1.out.below hb)
      have B2 := Lib.hid (B1.out.trans (hb.mono B1.out.size))
      have Z2 := Lib.hid hb.size
      clear ho hb
      go_wp2_with (go_at_call 32; (refine (meet_spec bs0 bs1 ds0 ds1 l0 l1 a2 _ (Os0_2.out.sm (sz_len HZ0.out) (sz_mem HZ0.out)) (Os1_2.out.sm (sz_len HZ1.out) (sz_mem HZ1.out))).mono ?_); rintro e w3 ⟨rfl, hb⟩; refine Hid.out ?_)
      refine Lib.hid ?_
      have Os0_3 := Lib.hid (Os0_2.out.below hb)
      have Os1_3 := Lib.hid (Os1_2.out.below hb)
      have B3 := Lib.hid (B2.out.trans (hb.mono B2.out.size))
      have Z3 := Lib.hid hb.size
      clear hb
      go_wp2_with (go_at_call 26; (refine (to_any a0 c0 l0 _ (sz_len HZ0.out) (H0.out.1.below B3.out)).mono ?_); rintro e w4 ⟨bx0, dx0, rfl, ho, hb⟩; refine Hid.out ?_)
      refine Lib.hid ?_
      have Ox0_4 := Lib.hid (OwnH.of ho)
      have B4 := Lib.hid (B3.out.trans (hb.mono B3.out.size))
      have Z4 := Lib.hid hb.size
      clear ho hb
      go_wp2_with (go_at_call 26; (refine (to_any a1 c1 l1 _ (sz_len HZ1.out) (H1.out.1.below B4.out)).mono ?_); rintro e w5 ⟨bx1, dx1, rfl, ho, hb⟩; refine Hid.out ?_)
      refine Lib.hid ?_
      have Ox1_5 := Lib.hid (OwnH.of ho)
      have Ox0_5 := Lib.hid (Ox0_4.out.below hb)
      have B5 := Lib.hid (B4.out.trans (hb.mono B4.out.size))
      have Z5 := Lib.hid hb.size
      clear ho hb
      go_wp2_with (go_at_call 33; (refine (meet_impl bx0 bx1 dx0 dx1 l0 l1 a2 _ (Ox0_5.out.sm (sz_len HZ0.out) (sz_mem HZ0.out)) (Ox1_5.out.sm (sz_len HZ1.out) (sz_mem HZ1.out))).mono ?_); rintro e w6 ⟨rfl, hb⟩; refine Hid.out ?_)
      refine Lib.hid ?_
      have Ox0_6 := Lib.hid (Ox0_5.out.below hb)
      have Ox1_6 := Lib.hid (Ox1_5.out.below hb)
      have B6 := Lib.hid (B5.out.trans (hb.mono B5.out.size))
      have Z6 := Lib.hid hb.size
      clear hb
      go_wp2_with (go_at_call 26; (refine (to_any a0 c0 l0 _ (sz_len HZ0.out) (H0.out.1.below B6.out)).mono ?_); rintro e w7 ⟨bt0, dt0, rfl, ho, hb⟩; refine Hid.out ?_)
      refine Lib.hid ?_
      have Ot0_7 := Lib.hid (OwnH.of ho)
      have Ox0_7 := Lib.hid (Ox0_6.out.below hb)
      have Ox1_7 := Lib.hid (Ox1_6.out.below hb)
      have B7 := Lib.hid (B6.out.trans (hb.mono B6.out.size))
      have Z7 := Lib.hid hb.size
      clear ho hb
      go_wp2_with (go_at_call 27; (refine (eq_same bx0 bt0 dx0 dt0 l0 _ (by have := szL_len l0; have := HZ0.out; unfold maxLen; omega) Ox0_7.out.inS Ot0_7.out.inS).mono ?_); rintro e w8 ⟨rfl, hb⟩; refine Hid.out ?_)
      refine Lib.hid ?_
      have Ox0_8 := Lib.hid (Ox0_7.out.below hb)
      have Ox1_8 := Lib.hid (Ox1_7.out.below hb)
      have Ot0_8 := Lib.hid (Ot0_7.out.below hb)
      have B8 := Lib.hid (B7.out.trans (hb.mono B7.out.size))
      have Z8 := Lib.hid hb.size
      clear hb
      go_wp2_with (go_at_call 26; (refine (to_any a1 c1 l1 _ (sz_len HZ1.out) (H1.out.1.below B8.out)).mono ?_); rintro e w9 ⟨bt1, dt1, rfl, ho, hb⟩; refine Hid.out ?_)
      refine Lib.hid ?_
      have Ot1_9 := Lib.hid (OwnH.of ho)
      have Ox0_9 := Lib.hid (Ox0_8.out.below hb)
      have Ox1_9 := Lib.hid (Ox1_8.out.below hb)
      have B9 := Lib.hid (B8.out.trans (hb.mono B8.out.size))
      have Z9 := Lib.hid hb.size
      clear ho hb
      go_wp2_with (go_at_call 27; (refine (eq_same bx1 bt1 dx1 dt1 l1 _ (by have := szL_len l1; have := HZ1.out; unfold maxLen; omega) Ox1_9.out.inS Ot1_9.out.inS).mono ?_); rintro e w10 ⟨rfl, hb⟩; refine Hid.out ?_)
      refine Lib.hid ?_
      have Ox0_10 := Lib.hid (Ox0_9.out.below hb)
      have Ox1_10 := Lib.hid (Ox1_9.out.below hb)
      have Ot1_10 := Lib.hid (Ot1_9.out.below hb)
      have B10 := Lib.hid (B9.out.trans (hb.mono B9.out.size))
      have Z10 := Lib.hid hb.size
      clear hb
      go_wp2
      go_ret
      exact ⟨rfl, B10.out⟩
    · have HS1 := Lib.hid hs
      clear hs
      go_enter Try.func9, Try.ntmps9
      go_wp2_with (go_at_call 25; (refine (sz_yes a0 c0 l0 1048576 r0 _ H0.out (Below.refl _ _) (by omega) HS0.out).mono ?_); rintro e w1 ⟨rfl, rfl⟩; refine Hid.out ?_)
      refine Lib.hid ?_
      go_wp2_with (go_at_call 25; (refine (sz_no a1 c1 l1 r0 _ H1.out (Below.refl _ _) (by omega) HS1.out).mono ?_); rintro e w1 ⟨rfl, rfl⟩)
      go_ret
      exact ⟨rfl, Below.refl _ _⟩
  · have HS0 := Lib.hid hs
    clear hs
    go_enter Try.func9, Try.ntmps9
    go_wp2_with (go_at_call 25; (refine (sz_no a0 c0 l0 1048576 _ H0.out (Below.refl _ _) (by omega) HS0.out).mono ?_); rintro e w1 ⟨rfl, rfl⟩)
    go_ret
    exact ⟨rfl, Below.refl _ _⟩

end Go.Proofs.Ytkfdjbeligjplaa
