/-
  The walk of laws.FnExactLargestBlock. By an AI agent.
-/
import Derived.Test.YtebddnjccmaimaaGreatDoorRgM
import Derived.Test.YtebddnjccmaimaaGreatDoorBpS
import Derived.Test.YtebddnjccmaimaaGreatDoorBlkX
namespace Go.Proofs.YtebddnjccmaimaaGreatDoor
open Go.RowKit
set_option linter.unusedVariables false

set_option maxRecDepth 100000 in
set_option maxHeartbeats 6400000 in
theorem FnExactLargestBlock_walk (a0 : Option Addr) (c0 : Nat) (S0 : List RC) (w : World) (h0 : ArgRc w a0 S0) (ht : TabAt w) (hT : SpT w) :
    Calls Tryz.prog 7 #[.slice a0 S0.length c0] w fun e w' => e = .returned (.bool true) ∧ Below w.heap.size w w' := by
  have H0 := Lib.hid h0
  have HT := Lib.hid ht
  have HSP := Lib.hid hT
  clear ht hT h0
  by_cases hs : rcz S0 ≤ 1048576
  · obtain ⟨r0, hr⟩ : ∃ r : Nat, r + rcz S0 = 1048576 := ⟨1048576 - rcz S0, by omega⟩
    have hrl0 : (r0 : Int) ≤ 1048576 := by omega
    have HS0 := Lib.hid hr
    have HZ0 := Lib.hid (show rcz S0 ≤ 1048576 by omega)
    clear hs hr
    obtain ⟨r, hr⟩ : ∃ r, ((lbR (kbR S0) : Nat) : Int) = r := ⟨_, rfl⟩
    have HRR := Lib.hid hr
    clear hr
    go_enter Tryz.func7, Tryz.ntmps7
    go_wp2_with (go_at_call 31; (refine (rsz_yes a0 c0 S0 1048576 r0 _ H0.out (Below.refl _ _) (by omega) HS0.out).mono ?_); rintro e w1 ⟨rfl, hb⟩; refine Hid.out ?_)
    have B1 := Lib.hid hb
    have Z1 := Lib.hid hb.size
    clear hb
    refine Lib.hid ?_
    go_wp2_with (go_at_call 32; (refine (rto_any a0 c0 S0 _ HZ0.out (H0.out.1.below B1.out)).mono ?_); rintro e w2 ⟨bs0, ds0, qs0, rfl, hq, ho, hb⟩; refine Hid.out ?_)
    have Qs0 := Lib.hid hq
    have Os0_2 := Lib.hid (OwnHRc.of ho)
    have B2 := Lib.hid (B1.out.trans (hb.mono B1.out.size))
    have Z2 := Lib.hid hb.size
    clear hq ho hb
    refine Lib.hid ?_
    go_wp2_with (go_at_call 15; (refine (lb_spec bs0 ds0 S0 r _ HRR.out (Os0_2.out.1.smRc Qs0.out (rc_len HZ0.out) (rc_mem HZ0.out)) (HSP.out.below B2.out)).mono ?_); rintro e w3 ⟨rfl, hb⟩; refine Hid.out ?_)
    have Os0_3 := Lib.hid (Os0_2.out.below hb)
    have B3 := Lib.hid (B2.out.trans (hb.mono B2.out.size))
    have Z3 := Lib.hid hb.size
    clear hb
    refine Lib.hid ?_
    go_wp2_with (go_at_call 32; (refine (rto_any a0 c0 S0 _ HZ0.out (H0.out.1.below B3.out)).mono ?_); rintro e w4 ⟨bx0, dx0, qx0, rfl, hq, ho, hb⟩; refine Hid.out ?_)
    have Qx0 := Lib.hid hq
    have Ox0_4 := Lib.hid (OwnHRc.of ho)
    have B4 := Lib.hid (B3.out.trans (hb.mono B3.out.size))
    have Z4 := Lib.hid hb.size
    clear hq ho hb
    refine Lib.hid ?_
    go_wp2_with (go_at_call 14; (refine (lb_impl bx0 dx0 S0 r _ HRR.out (Ox0_4.out.1.smRc Qx0.out (rc_len HZ0.out) (rc_mem HZ0.out)) (HSP.out.below B4.out) (HT.out.on B4.out)).mono ?_); rintro e w5 ⟨rfl, hb⟩; refine Hid.out ?_)
    have Ox0_5 := Lib.hid (Ox0_4.out.below hb)
    have B5 := Lib.hid (B4.out.trans (hb.mono B4.out.size))
    have Z5 := Lib.hid hb.size
    clear hb
    refine Lib.hid ?_
    go_wp2_with (go_at_call 32; (refine (rto_any a0 c0 S0 _ HZ0.out (H0.out.1.below B5.out)).mono ?_); rintro e w6 ⟨bt0, dt0, qt0, rfl, hq, ho, hb⟩; refine Hid.out ?_)
    have Qt0 := Lib.hid hq
    have Ox0_6 := Lib.hid (Ox0_5.out.below hb)
    have Ot0_6 := Lib.hid (OwnHRc.of ho)
    have B6 := Lib.hid (B5.out.trans (hb.mono B5.out.size))
    have Z6 := Lib.hid hb.size
    clear hq ho hb
    refine Lib.hid ?_
    go_wp2_with (go_at_call 34; (refine (req_same bx0 bt0 dx0 dt0 S0 _ (by have := rcz_len HZ0.out; omega) (fun x hx => by have := rcz_mem HZ0.out x hx; omega) (show InRc _ _ _ from by have h := Ox0_6.out.1.inRc; rw [Qx0.out] at h; exact h) (show InRc _ _ _ from by have h := Ot0_6.out.1.inRc; rw [Qt0.out] at h; exact h)).mono ?_); rintro e w7 ⟨rfl, hb⟩; refine Hid.out ?_)
    have Ox0_7 := Lib.hid (Ox0_6.out.below hb)
    have Ot0_7 := Lib.hid (Ot0_6.out.below hb)
    have B7 := Lib.hid (B6.out.trans (hb.mono B6.out.size))
    have Z7 := Lib.hid hb.size
    clear hb
    refine Lib.hid ?_
    go_wp2
    go_ret
    exact ⟨rfl, B7.out⟩
  · have HS0 := Lib.hid hs
    clear hs
    go_enter Tryz.func7, Tryz.ntmps7
    go_wp2_with (go_at_call 31; (refine (rsz_no a0 c0 S0 1048576 _ H0.out (Below.refl _ _) (by omega) HS0.out).mono ?_); rintro e wz ⟨rfl, hb⟩)
    go_ret
    exact ⟨rfl, hb⟩

end Go.Proofs.YtebddnjccmaimaaGreatDoor
