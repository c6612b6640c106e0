/-
  The walk of laws.FnExactDominatesFeatures. By an AI agent.
-/
import Derived.Test.YtpogfjcllcmaoaaFeat
import Derived.Test.YtpogfjcllcmaoaaIntT
namespace Go.Proofs.Ytpogfjcllcmaoaa
open Go.RowKit
set_option linter.unusedVariables false

set_option maxRecDepth 100000 in
set_option maxHeartbeats 1600000 in
theorem FnExactDominatesFeatures_walk (a0 a1 : Option Addr) (c0 c1 : Nat) (l0 l1 : List Int) (w : World) (h0 : ArgI w a0 l0) (h1 : ArgI w a1 l1) :
    Calls Try.prog 4 #[.slice a0 l0.length c0, .slice a1 l1.length c1] w fun e w' => e = .returned (.bool true) ∧ Below w.heap.size w w' := by
  have H0 := Lib.hid h0
  have H1 := Lib.hid h1
  clear h0 h1
  by_cases hb0 : 1048576 < (l0.length : Int)
  · go_enter Try.func4, Try.ntmps4
    go_wp2
    go_ret
    exact ⟨rfl, Below.refl _ _⟩
  · skip
    by_cases hb1 : 1048576 < (l1.length : Int)
    · go_enter Try.func4, Try.ntmps4
      go_wp2
      go_ret
      exact ⟨rfl, Below.refl _ _⟩
    · skip
      have N0 := Lib.hid (show l0.length ≤ 4000000 by omega)
      have N1 := Lib.hid (show l1.length ≤ 4000000 by omega)
      obtain ⟨r, hr⟩ : ∃ r, domB l0 l1 = r := ⟨_, rfl⟩
      have HRR := Lib.hid hr
      clear hr
      cases r
      all_goals
        go_enter Try.func4, Try.ntmps4
        go_wp2_with (go_at_call 7; ((with_reducible refine (to_int a0 c0 l0 _ N0.out H0.out.inI).mono ?_); rintro e w1 ⟨as0, cs0, rfl, ho, hb⟩; refine Hid.out ?_))
        refine Lib.hid ?_
        have Fs0_1 := Lib.hid ho
        have B1 := Lib.hid hb
        clear ho hb
        go_wp2_with (go_at_call 7; ((with_reducible refine (to_int a1 c1 l1 _ N1.out (H1.out.inI.below B1.out)).mono ?_); rintro e w2 ⟨as1, cs1, rfl, ho, hb⟩; refine Hid.out ?_))
        refine Lib.hid ?_
        have Fs0_2 := Lib.hid (Fs0_1.out.below hb)
        have Fs1_2 := Lib.hid ho
        have B2 := Lib.hid (B1.out.trans (hb.mono B1.out.size))
        clear ho hb
        go_wp2_with (go_at_call 10; ((with_reducible refine (dom_spec as0 as1 cs0 cs1 l0 l1 _ _ N0.out N1.out Fs0_2.out Fs1_2.out HRR.out).mono ?_); rintro e w3 ⟨rfl, hb⟩; refine Hid.out ?_))
        refine Lib.hid ?_
        have Fs0_3 := Lib.hid (Fs0_2.out.below hb)
        have Fs1_3 := Lib.hid (Fs1_2.out.below hb)
        have B3 := Lib.hid (B2.out.trans (hb.mono B2.out.size))
        clear hb
        go_wp2_with (go_at_call 7; ((with_reducible refine (to_int a0 c0 l0 _ N0.out (H0.out.inI.below B3.out)).mono ?_); rintro e w4 ⟨ax0, cx0, rfl, ho, hb⟩; refine Hid.out ?_))
        refine Lib.hid ?_
        have Fx0_4 := Lib.hid ho
        have B4 := Lib.hid (B3.out.trans (hb.mono B3.out.size))
        clear ho hb
        go_wp2_with (go_at_call 7; ((with_reducible refine (to_int a1 c1 l1 _ N1.out (H1.out.inI.below B4.out)).mono ?_); rintro e w5 ⟨ax1, cx1, rfl, ho, hb⟩; refine Hid.out ?_))
        refine Lib.hid ?_
        have Fx0_5 := Lib.hid (Fx0_4.out.below hb)
        have Fx1_5 := Lib.hid ho
        have B5 := Lib.hid (B4.out.trans (hb.mono B4.out.size))
        clear ho hb
        go_wp2_with (go_at_call 11; ((with_reducible refine (dom_impl ax0 ax1 cx0 cx1 l0 l1 _ _ N0.out N1.out Fx0_5.out Fx1_5.out HRR.out).mono ?_); rintro e w6 ⟨rfl, hb⟩; refine Hid.out ?_))
        refine Lib.hid ?_
        have Fx0_6 := Lib.hid (Fx0_5.out.below hb)
        have Fx1_6 := Lib.hid (Fx1_5.out.below hb)
        have B6 := Lib.hid (B5.out.trans (hb.mono B5.out.size))
        clear hb
        go_wp2_with (go_at_call 7; ((with_reducible refine (to_int a0 c0 l0 _ N0.out (H0.out.inI.below B6.out)).mono ?_); rintro e w7 ⟨at0, ct0, rfl, ho, hb⟩; refine Hid.out ?_))
        refine Lib.hid ?_
        have Fx0_7 := Lib.hid (Fx0_6.out.below hb)
        have Fx1_7 := Lib.hid (Fx1_6.out.below hb)
        have Ft0_7 := Lib.hid ho
        have B7 := Lib.hid (B6.out.trans (hb.mono B6.out.size))
        clear ho hb
        go_wp2_with (go_at_call 9; ((with_reducible refine (eq_int ax0 at0 cx0 ct0 l0 _ (by have := N0.out; unfold maxLen; omega) Fx0_7.out Ft0_7.out).mono ?_); rintro e w8 ⟨rfl, hb⟩; refine Hid.out ?_))
        refine Lib.hid ?_
        have Fx0_8 := Lib.hid (Fx0_7.out.below hb)
        have Fx1_8 := Lib.hid (Fx1_7.out.below hb)
        have B8 := Lib.hid (B7.out.trans (hb.mono B7.out.size))
        clear hb
        go_wp2_with (go_at_call 7; ((with_reducible refine (to_int a1 c1 l1 _ N1.out (H1.out.inI.below B8.out)).mono ?_); rintro e w9 ⟨at1, ct1, rfl, ho, hb⟩; refine Hid.out ?_))
        refine Lib.hid ?_
        have Fx0_9 := Lib.hid (Fx0_8.out.below hb)
        have Fx1_9 := Lib.hid (Fx1_8.out.below hb)
        have Ft1_9 := Lib.hid ho
        have B9 := Lib.hid (B8.out.trans (hb.mono B8.out.size))
        clear ho hb
        go_wp2_with (go_at_call 9; ((with_reducible refine (eq_int ax1 at1 cx1 ct1 l1 _ (by have := N1.out; unfold maxLen; omega) Fx1_9.out Ft1_9.out).mono ?_); rintro e w10 ⟨rfl, hb⟩; refine Hid.out ?_))
        refine Lib.hid ?_
        have Fx0_10 := Lib.hid (Fx0_9.out.below hb)
        have Fx1_10 := Lib.hid (Fx1_9.out.below hb)
        have B10 := Lib.hid (B9.out.trans (hb.mono B9.out.size))
        clear hb
        go_wp2
        go_ret
        exact ⟨rfl, B10.out⟩

end Go.Proofs.Ytpogfjcllcmaoaa
