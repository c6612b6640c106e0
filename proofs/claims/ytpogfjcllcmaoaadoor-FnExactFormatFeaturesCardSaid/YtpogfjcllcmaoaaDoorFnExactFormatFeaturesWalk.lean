/-
  The walk of laws.FnExactFormatFeatures. By an AI agent.
-/
import Derived.Test.YtpogfjcllcmaoaaDoorFeatF2
import Derived.Test.YtpogfjcllcmaoaaDoorIntT
namespace Go.Proofs.YtpogfjcllcmaoaaDoor
open Go.RowKit
set_option linter.unusedVariables false

set_option maxRecDepth 100000 in
set_option maxHeartbeats 1600000 in
theorem FnExactFormatFeatures_walk (a0 : Option Addr) (c0 : Nat) (l0 : List Int) (w : World) (h0 : ArgI w a0 l0) (ht : TabAt w) :
    Calls Tryd.prog 3 #[.slice a0 l0.length c0] w fun e w' => e = .returned (.bool true) ∧ Below w.heap.size w w' := by
  have H0 := Lib.hid h0
  have HT := Lib.hid ht
  clear ht
  clear h0
  by_cases hb0 : 1048576 < (l0.length : Int)
  · go_enter Tryd.func3, Tryd.ntmps3
    go_wp2
    go_ret
    exact ⟨rfl, Below.refl _ _⟩
  · skip
    have N0 := Lib.hid (show l0.length ≤ 4000000 by omega)
    obtain ⟨r, hr⟩ : ∃ r, ffR l0 = r := ⟨_, rfl⟩
    have HRR := Lib.hid hr
    clear hr
    go_enter Tryd.func3, Tryd.ntmps3
    go_wp2_with (go_at_call 6; ((with_reducible refine (to_int a0 c0 l0 _ N0.out H0.out.inI).mono ?_); rintro e w1 ⟨as0, cs0, rfl, ho, hb⟩; refine Hid.out ?_))
    refine Lib.hid ?_
    have Fs0_1 := Lib.hid ho
    have B1 := Lib.hid hb
    clear ho hb
    go_wp2_with (go_at_call 5; ((with_reducible refine (ff_spec as0 cs0 l0 r _ N0.out Fs0_1.out HRR.out).mono ?_); rintro e w2 ⟨rfl, hb⟩; refine Hid.out ?_))
    refine Lib.hid ?_
    have Fs0_2 := Lib.hid (Fs0_1.out.below hb)
    have B2 := Lib.hid (B1.out.trans (hb.mono B1.out.size))
    clear hb
    go_wp2_with (go_at_call 6; ((with_reducible refine (to_int a0 c0 l0 _ N0.out (H0.out.inI.below B2.out)).mono ?_); rintro e w3 ⟨ax0, cx0, rfl, ho, hb⟩; refine Hid.out ?_))
    refine Lib.hid ?_
    have Fx0_3 := Lib.hid ho
    have B3 := Lib.hid (B2.out.trans (hb.mono B2.out.size))
    clear ho hb
    go_wp2_with (go_at_call 7; ((with_reducible refine (ff_impl ax0 cx0 l0 r _ N0.out Fx0_3.out HRR.out (HT.out.on B3.out)).mono ?_); rintro e w4 ⟨rfl, hb⟩; refine Hid.out ?_))
    refine Lib.hid ?_
    have Fx0_4 := Lib.hid (Fx0_3.out.below hb)
    have B4 := Lib.hid (B3.out.trans (hb.mono B3.out.size))
    clear hb
    go_wp2_with (go_at_call 6; ((with_reducible refine (to_int a0 c0 l0 _ N0.out (H0.out.inI.below B4.out)).mono ?_); rintro e w5 ⟨at0, ct0, rfl, ho, hb⟩; refine Hid.out ?_))
    refine Lib.hid ?_
    have Fx0_5 := Lib.hid (Fx0_4.out.below hb)
    have Ft0_5 := Lib.hid ho
    have B5 := Lib.hid (B4.out.trans (hb.mono B4.out.size))
    clear ho hb
    go_wp2_with (go_at_call 8; ((with_reducible refine (eq_int ax0 at0 cx0 ct0 l0 _ (by have := N0.out; unfold maxLen; omega) Fx0_5.out Ft0_5.out).mono ?_); rintro e w6 ⟨rfl, hb⟩; refine Hid.out ?_))
    refine Lib.hid ?_
    have Fx0_6 := Lib.hid (Fx0_5.out.below hb)
    have B6 := Lib.hid (B5.out.trans (hb.mono B5.out.size))
    clear hb
    go_wp2
    go_ret
    exact ⟨rfl, B6.out⟩

end Go.Proofs.YtpogfjcllcmaoaaDoor
