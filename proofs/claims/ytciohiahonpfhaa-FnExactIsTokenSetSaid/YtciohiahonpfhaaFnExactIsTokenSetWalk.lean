/-
  The walk of laws.FnExactIsTokenSet. By an AI agent.
-/
import Derived.Test.YtciohiahonpfhaaTokSet2
import Derived.Test.YtciohiahonpfhaaHeld
namespace Go.Proofs.Ytciohiahonpfhaa
open Go.RowKit
set_option linter.unusedVariables false

set_option maxRecDepth 100000 in
set_option maxHeartbeats 1600000 in
theorem FnExactIsTokenSet_walk (a0 : Option Addr) (c0 : Nat) (l0 : List Str) (w : World) (h0 : ArgS w a0 l0) :
    Calls Try.prog 3 #[.slice a0 l0.length c0] w fun e w' => e = .returned (.bool true) ∧ Below w.heap.size w w' := by
  have H0 := Lib.hid h0
  clear h0
  by_cases hs : szL l0 ≤ 1048576
  · obtain ⟨r0, hr⟩ : ∃ r : Nat, r + szL l0 = 1048576 := ⟨1048576 - szL l0, by omega⟩
    have hrl0 : (r0 : Int) ≤ 1048576 := by omega
    have HS0 := Lib.hid hr
    have HZ0 := Lib.hid (show szL l0 ≤ 1048576 by omega)
    clear hs hr
    go_enter Try.func3, Try.ntmps3
    go_wp2_with (go_at_call 9; (refine (sz_yes a0 c0 l0 1048576 r0 _ H0.out (Below.refl _ _) (by omega) HS0.out).mono ?_); rintro e w' ⟨rfl, rfl⟩; refine Hid.out ?_)
    refine Lib.hid ?_
    go_wp2_with (go_at_call 11; (refine (to_any a0 c0 l0 _ (sz_len HZ0.out) (H0.out.1.below (Below.refl _ _))).mono ?_); rintro e w1 ⟨bs0, ds0, rfl, ho, hb⟩; refine Hid.out ?_)
    refine Lib.hid ?_
    have Os0_1 := Lib.hid (OwnH.of ho)
    have B1 := Lib.hid hb
    have Z1 := Lib.hid hb.size
    clear ho hb
    go_wp2_with (go_at_call 10; (refine (tset_spec bs0 ds0 l0 _ (Os0_1.out.sm (sz_len HZ0.out) (sz_mem HZ0.out))).mono ?_); rintro e w2 ⟨rfl, hb⟩; refine Hid.out ?_)
    refine Lib.hid ?_
    have Os0_2 := Lib.hid (Os0_1.out.below hb)
    have B2 := Lib.hid (B1.out.trans (hb.mono B1.out.size))
    have Z2 := Lib.hid hb.size
    clear hb
    go_wp2_with (go_at_call 11; (refine (to_any a0 c0 l0 _ (sz_len HZ0.out) (H0.out.1.below B2.out)).mono ?_); rintro e w3 ⟨bx0, dx0, rfl, ho, hb⟩; refine Hid.out ?_)
    refine Lib.hid ?_
    have Ox0_3 := Lib.hid (OwnH.of ho)
    have B3 := Lib.hid (B2.out.trans (hb.mono B2.out.size))
    have Z3 := Lib.hid hb.size
    clear ho hb
    go_wp2_with (go_at_call 12; (refine (tset_impl bx0 dx0 l0 _ (Ox0_3.out.sm (sz_len HZ0.out) (sz_mem HZ0.out))).mono ?_); rintro e w4 ⟨rfl, hb⟩; refine Hid.out ?_)
    refine Lib.hid ?_
    have Ox0_4 := Lib.hid (Ox0_3.out.below hb)
    have B4 := Lib.hid (B3.out.trans (hb.mono B3.out.size))
    have Z4 := Lib.hid hb.size
    clear hb
    go_wp2_with (go_at_call 11; (refine (to_any a0 c0 l0 _ (sz_len HZ0.out) (H0.out.1.below B4.out)).mono ?_); rintro e w5 ⟨bt0, dt0, rfl, ho, hb⟩; refine Hid.out ?_)
    refine Lib.hid ?_
    have Ot0_5 := Lib.hid (OwnH.of ho)
    have Ox0_5 := Lib.hid (Ox0_4.out.below hb)
    have B5 := Lib.hid (B4.out.trans (hb.mono B4.out.size))
    have Z5 := Lib.hid hb.size
    clear ho hb
    go_wp2_with (go_at_call 13; (refine (eq_same bx0 bt0 dx0 dt0 l0 _ (by have := szL_len l0; have := HZ0.out; unfold maxLen; omega) Ox0_5.out.inS Ot0_5.out.inS).mono ?_); rintro e w6 ⟨rfl, hb⟩; refine Hid.out ?_)
    refine Lib.hid ?_
    have Ox0_6 := Lib.hid (Ox0_5.out.below hb)
    have Ot0_6 := Lib.hid (Ot0_5.out.below hb)
    have B6 := Lib.hid (B5.out.trans (hb.mono B5.out.size))
    have Z6 := Lib.hid hb.size
    clear hb
    go_wp2
    go_ret
    exact ⟨rfl, B6.out⟩
  · have HS0 := Lib.hid hs
    clear hs
    go_enter Try.func3, Try.ntmps3
    go_wp2_with (go_at_call 9; (refine (sz_no a0 c0 l0 1048576 _ H0.out (Below.refl _ _) (by omega) HS0.out).mono ?_); rintro e w1 ⟨rfl, rfl⟩)
    go_ret
    exact ⟨rfl, Below.refl _ _⟩

end Go.Proofs.Ytciohiahonpfhaa
