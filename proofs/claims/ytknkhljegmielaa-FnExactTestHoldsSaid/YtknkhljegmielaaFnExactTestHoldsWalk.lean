/-
  The walk of laws.FnExactTestHolds. By an AI agent.
-/
import Derived.Test.YtknkhljegmielaaRuG
import Derived.Test.YtknkhljegmielaaRuT
import Derived.Test.YtknkhljegmielaaRuH
import Derived.Test.YtknkhljegmielaaIntM
import Derived.Test.YtknkhljegmielaaUndrew
namespace Go.Proofs.Ytknkhljegmielaa
open Go.RowKit
set_option linter.unusedVariables false

set_option maxRecDepth 100000 in
set_option maxHeartbeats 6400000 in
theorem FnExactTestHolds_walk (f0 t0 : Int) (u0 : Bool) (a1 : Option Addr) (c1 : Nat) (l1 : List Int) (w : World) (h1 : ArgI w a1 l1) :
    Calls Try.prog 5 #[.agg #[.int .i64 f0, .int .i64 t0, .bool u0], .slice a1 l1.length c1] w fun e w' => e = .returned (.bool true) ∧ Below w.heap.size w w' := by
  have H1 := Lib.hid h1
  clear h1
  by_cases hb1 : 1048576 < (l1.length : Int)
  · go_enter Try.func5, Try.ntmps5
    go_wp2
    go_ret
    exact ⟨rfl, ((Below.refl _ _).alloc (Nat.le_refl _) _)⟩
  · have N1 := Lib.hid (show l1.length ≤ 1048576 by omega)
    have hll1 : l1.length ≤ 4000000 := by omega
    obtain ⟨r, hr⟩ : ∃ r, tshB ((f0, t0), u0) l1 = r := ⟨_, rfl⟩
    have HRR := Lib.hid hr
    clear hr
    go_enter Try.func5, Try.ntmps5
    obtain ⟨w1, hv⟩ : ∃ x, x = w.alloc (.cells #[.int .i64 f0, .int .i64 t0, .bool u0] 44) := ⟨_, rfl⟩
    have hb : Below w.heap.size w w1 := by rw [hv]; exact (Below.refl _ _).alloc (Nat.le_refl _) _
    have RL0_1 := Lib.hid (show BlkV w1 w.heap.size 44 #[.int .i64 f0, .int .i64 t0, .bool u0] by rw [hv]; exact BlkV.new _ _ _)
    have B1 := Lib.hid hb
    have Z1 := Lib.hid (show w.heap.size + 1 ≤ w1.heap.size by rw [hv]; simp)
    have V1 := Lib.hid hv
    clear hb hv
    have qL00 := RL0_1.out.three0
    have qL01 := RL0_1.out.three1
    have qL02 := RL0_1.out.three2
    go_wp2_with (go_at_call 28; rw [← V1.out]; (with_reducible refine (tto1 f0 t0 u0 _).mono ?_); rintro e w2 ⟨rfl, hb⟩; refine Hid.out ?_)
    have RL0_2 := Lib.hid (RL0_1.out.below hb)
    have B2 := Lib.hid (B1.out.trans (hb.mono B1.out.size))
    have Z2 := Lib.hid hb.size
    clear hb
    clear qL00 qL01 qL02
    have qL00 := RL0_2.out.three0
    have qL01 := RL0_2.out.three1
    have qL02 := RL0_2.out.three2
    refine Lib.hid ?_
    go_wp2_with (go_at_call 29; (refine (to_int a1 c1 l1 _ hll1 (H1.out.inI.below B2.out)).mono ?_); rintro e w3 ⟨bs1, ds1, rfl, ho, hb⟩; refine Hid.out ?_)
    have RL0_3 := Lib.hid (RL0_2.out.below hb)
    have Os1_3 := Lib.hid (ho)
    have B3 := Lib.hid (B2.out.trans (hb.mono B2.out.size))
    have Z3 := Lib.hid hb.size
    clear ho hb
    clear qL00 qL01 qL02
    have qL00 := RL0_3.out.three0
    have qL01 := RL0_3.out.three1
    have qL02 := RL0_3.out.three2
    refine Lib.hid ?_
    go_wp2_with (go_at_call 27; (with_reducible refine (th_spec f0 t0 u0 bs1 ds1 l1 r _ hll1 Os1_3.out HRR.out).mono ?_); rintro e w4 ⟨rfl, hb⟩; refine Hid.out ?_)
    have Os1_4 := Lib.hid (Os1_3.out.below hb)
    have RL0_4 := Lib.hid (RL0_3.out.below hb)
    have B4 := Lib.hid (B3.out.trans (hb.mono B3.out.size))
    have Z4 := Lib.hid hb.size
    clear hb
    clear qL00 qL01 qL02
    have qL00 := RL0_4.out.three0
    have qL01 := RL0_4.out.three1
    have qL02 := RL0_4.out.three2
    refine Lib.hid ?_
    go_wp2_with (go_at_call 29; (refine (to_int a1 c1 l1 _ hll1 (H1.out.inI.below B4.out)).mono ?_); rintro e w5 ⟨bx1, dx1, rfl, ho, hb⟩; refine Hid.out ?_)
    have RL0_5 := Lib.hid (RL0_4.out.below hb)
    have Ox1_5 := Lib.hid (ho)
    have B5 := Lib.hid (B4.out.trans (hb.mono B4.out.size))
    have Z5 := Lib.hid hb.size
    clear ho hb
    clear qL00 qL01 qL02
    have qL00 := RL0_5.out.three0
    have qL01 := RL0_5.out.three1
    have qL02 := RL0_5.out.three2
    refine Lib.hid ?_
    go_wp2_with (go_at_call 28; (with_reducible refine (tto1 f0 t0 u0 _).mono ?_); rintro e w6 ⟨rfl, hb⟩; refine Hid.out ?_)
    have Ox1_6 := Lib.hid (Ox1_5.out.below hb)
    have RL0_6 := Lib.hid (RL0_5.out.below hb)
    have B6 := Lib.hid (B5.out.trans (hb.mono B5.out.size))
    have Z6 := Lib.hid hb.size
    clear hb
    clear qL00 qL01 qL02
    have qL00 := RL0_6.out.three0
    have qL01 := RL0_6.out.three1
    have qL02 := RL0_6.out.three2
    refine Lib.hid ?_
    go_wp2_with (go_at_call 30; (with_reducible refine (th_impl f0 t0 u0 bx1 dx1 l1 r _ hll1 Ox1_6.out HRR.out).mono ?_); rintro e w7 ⟨rfl, hb⟩; refine Hid.out ?_)
    have Ox1_7 := Lib.hid (Ox1_6.out.below hb)
    have RL0_7 := Lib.hid (RL0_6.out.below hb)
    have B7 := Lib.hid (B6.out.trans (hb.mono B6.out.size))
    have Z7 := Lib.hid hb.size
    clear hb
    clear qL00 qL01 qL02
    have qL00 := RL0_7.out.three0
    have qL01 := RL0_7.out.three1
    have qL02 := RL0_7.out.three2
    refine Lib.hid ?_
    go_wp2_with (go_at_call 29; (refine (to_int a1 c1 l1 _ hll1 (H1.out.inI.below B7.out)).mono ?_); rintro e w8 ⟨bt1, dt1, rfl, ho, hb⟩; refine Hid.out ?_)
    have Ox1_8 := Lib.hid (Ox1_7.out.below hb)
    have RL0_8 := Lib.hid (RL0_7.out.below hb)
    have Ot1_8 := Lib.hid (ho)
    have B8 := Lib.hid (B7.out.trans (hb.mono B7.out.size))
    have Z8 := Lib.hid hb.size
    clear ho hb
    clear qL00 qL01 qL02
    have qL00 := RL0_8.out.three0
    have qL01 := RL0_8.out.three1
    have qL02 := RL0_8.out.three2
    refine Lib.hid ?_
    go_wp2_with (go_at_call 31; (with_reducible refine (eq_int bx1 bt1 dx1 dt1 l1 _ (by unfold maxLen; omega) Ox1_8.out Ot1_8.out).mono ?_); rintro e w9 ⟨rfl, hb⟩; refine Hid.out ?_)
    have Ox1_9 := Lib.hid (Ox1_8.out.below hb)
    have Ot1_9 := Lib.hid (Ot1_8.out.below hb)
    have RL0_9 := Lib.hid (RL0_8.out.below hb)
    have B9 := Lib.hid (B8.out.trans (hb.mono B8.out.size))
    have Z9 := Lib.hid hb.size
    clear hb
    clear qL00 qL01 qL02
    have qL00 := RL0_9.out.three0
    have qL01 := RL0_9.out.three1
    have qL02 := RL0_9.out.three2
    refine Lib.hid ?_
    go_wp2
    go_ret
    exact ⟨rfl, B9.out⟩

end Go.Proofs.Ytknkhljegmielaa
