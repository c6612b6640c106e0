/-
  The walk of laws.FnExactTokenFrequency. By an AI agent.
-/
import Derived.Test.YtmpbafemailelaaTcFC
import Derived.Test.YtmpbafemailelaaTcM
namespace Go.Proofs.Ytmpbafemailelaa
open Go.RowKit
set_option linter.unusedVariables false

set_option maxRecDepth 100000 in
set_option maxHeartbeats 1600000 in
theorem FnExactTokenFrequency_walk (a0 : Option Addr) (a1 : ByteArray) (c0 : Nat) (l0 : List TC) (w : World) (h0 : ArgT w a0 l0) (w1 : a1.size ≤ maxLen) :
    Calls Try.prog 7 #[.slice a0 l0.length c0, .string a1] w fun e w' => e = .returned (.bool true) ∧ Below w.heap.size w w' := by
  have H0 := Lib.hid h0
  clear h0
  by_cases hbig1 : 1048576 < (a1.size : Int)
  · go_enter Try.func7, Try.ntmps7
    go_wp2
    go_ret
    exact ⟨rfl, Below.refl _ _⟩
  · skip
    have W1 := Lib.hid (show a1.size ≤ 1048576 by omega)
    by_cases hs : tzL l0 ≤ 1048576
    · obtain ⟨r0, hr⟩ : ∃ r : Nat, r + tzL l0 = 1048576 := ⟨1048576 - tzL l0, by omega⟩
      have hrl0 : (r0 : Int) ≤ 1048576 := by omega
      have HS0 := Lib.hid hr
      have HZ0 := Lib.hid (show tzL l0 ≤ 1048576 by omega)
      clear hs hr
      go_enter Try.func7, Try.ntmps7
      go_wp2_with (go_at_call 47; (refine (tz_yes a0 c0 l0 1048576 r0 _ H0.out (Below.refl _ _) (by omega) HS0.out).mono ?_); rintro e w1 ⟨rfl, hb⟩; refine Hid.out ?_)
      refine Lib.hid ?_
      have B1 := Lib.hid hb
      have Z1 := Lib.hid hb.size
      clear hb
      go_wp2_with (go_at_call 49; (refine (tto_any a0 c0 l0 _ (tz_len HZ0.out) (H0.out.1.below B1.out)).mono ?_); rintro e w2 ⟨bs0, ds0, rfl, ho, hb⟩; refine Hid.out ?_)
      refine Lib.hid ?_
      have Os0_2 := Lib.hid (OwnHT.of ho)
      have B2 := Lib.hid (B1.out.trans (hb.mono B1.out.size))
      have Z2 := Lib.hid hb.size
      clear ho hb
      go_wp2_with (go_at_call 50; (refine (freq_specC bs0 ds0 l0 a1 (frqL l0 a1.data.toList) _ W1.out rfl (Os0_2.out.smT (tz_len HZ0.out) (tz_mem HZ0.out))).mono ?_); rintro e w3 ⟨rfl, hb⟩; refine Hid.out ?_)
      refine Lib.hid ?_
      have Os0_3 := Lib.hid (Os0_2.out.below hb)
      have B3 := Lib.hid (B2.out.trans (hb.mono B2.out.size))
      have Z3 := Lib.hid hb.size
      clear hb
      go_wp2_with (go_at_call 49; (refine (tto_any a0 c0 l0 _ (tz_len HZ0.out) (H0.out.1.below B3.out)).mono ?_); rintro e w4 ⟨bx0, dx0, rfl, ho, hb⟩; refine Hid.out ?_)
      refine Lib.hid ?_
      have Ox0_4 := Lib.hid (OwnHT.of ho)
      have B4 := Lib.hid (B3.out.trans (hb.mono B3.out.size))
      have Z4 := Lib.hid hb.size
      clear ho hb
      go_wp2_with (go_at_call 35; (refine (freq_implC bx0 dx0 l0 a1 (frqL l0 a1.data.toList) _ W1.out rfl (Ox0_4.out.smT (tz_len HZ0.out) (tz_mem HZ0.out))).mono ?_); rintro e w5 ⟨rfl, hb⟩; refine Hid.out ?_)
      refine Lib.hid ?_
      have Ox0_5 := Lib.hid (Ox0_4.out.below hb)
      have B5 := Lib.hid (B4.out.trans (hb.mono B4.out.size))
      have Z5 := Lib.hid hb.size
      clear hb
      go_wp2_with (go_at_call 49; (refine (tto_any a0 c0 l0 _ (tz_len HZ0.out) (H0.out.1.below B5.out)).mono ?_); rintro e w6 ⟨bt0, dt0, rfl, ho, hb⟩; refine Hid.out ?_)
      refine Lib.hid ?_
      have Ot0_6 := Lib.hid (OwnHT.of ho)
      have Ox0_6 := Lib.hid (Ox0_5.out.below hb)
      have B6 := Lib.hid (B5.out.trans (hb.mono B5.out.size))
      have Z6 := Lib.hid hb.size
      clear ho hb
      go_wp2_with (go_at_call 42; (refine (teq_same bx0 bt0 dx0 dt0 l0 _ (by have := tzL_len l0; have := HZ0.out; unfold maxLen; omega) Ox0_6.out.inT Ot0_6.out.inT).mono ?_); rintro e w7 ⟨rfl, hb⟩; refine Hid.out ?_)
      refine Lib.hid ?_
      have Ox0_7 := Lib.hid (Ox0_6.out.below hb)
      have Ot0_7 := Lib.hid (Ot0_6.out.below hb)
      have B7 := Lib.hid (B6.out.trans (hb.mono B6.out.size))
      have Z7 := Lib.hid hb.size
      clear hb
      go_wp2
      go_ret
      exact ⟨rfl, B7.out⟩
    · have HS0 := Lib.hid hs
      clear hs
      go_enter Try.func7, Try.ntmps7
      go_wp2_with (go_at_call 47; (refine (tz_no a0 c0 l0 1048576 _ H0.out (Below.refl _ _) (by omega) HS0.out).mono ?_); rintro e wz ⟨rfl, hb⟩)
      go_ret
      exact ⟨rfl, hb⟩

end Go.Proofs.Ytmpbafemailelaa
