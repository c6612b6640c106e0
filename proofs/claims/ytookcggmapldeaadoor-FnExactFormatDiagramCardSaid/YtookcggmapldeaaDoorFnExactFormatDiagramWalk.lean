/-
  The walk of laws.FnExactFormatDiagram. By an AI agent.
-/
import Derived.Test.YtookcggmapldeaaDoorDnT
import Derived.Test.YtookcggmapldeaaDoorUndrew
import Derived.Test.YtookcggmapldeaaDoorDgFS
import Derived.Test.YtookcggmapldeaaDoorDgFI
namespace Go.Proofs.YtookcggmapldeaaDoor
open Go.RowKit
set_option linter.unusedVariables false

set_option maxRecDepth 100000 in
set_option maxHeartbeats 6400000 in
theorem FnExactFormatDiagram_walk (z0 : Int) (a0 : Option Addr) (c0 : Nat) (D0 : List DN) (w : World) (h0 : ArgDn w a0 D0) (ht : TabAt w) :
    Calls Tryd.prog 3 #[.agg #[.int .i64 z0, .slice a0 D0.length c0]] w fun e w' => e = .returned (.bool true) ∧ Below w.heap.size w w' := by
  have H0 := Lib.hid h0
  have HT := Lib.hid ht
  clear ht
  clear h0
  by_cases hs : D0.length ≤ 1048576
  · obtain ⟨r0, hr⟩ : ∃ r : Nat, r + D0.length = 1048576 := ⟨1048576 - D0.length, by omega⟩
    have hrl0 : (r0 : Int) ≤ 1048576 := by omega
    have HS0 := Lib.hid hr
    have HZ0 := Lib.hid (show D0.length ≤ 1048576 by omega)
    clear hs hr
    obtain ⟨r, hr⟩ : ∃ r, dgR z0 D0 = r := ⟨_, rfl⟩
    have HRR := Lib.hid hr
    clear hr
    go_enter Tryd.func3, Tryd.ntmps3
    obtain ⟨w1, hv⟩ : ∃ x, x = w.alloc (.cells #[.int .i64 z0, .slice a0 D0.length c0] 24) := ⟨_, rfl⟩
    have hb : Below w.heap.size w w1 := by rw [hv]; exact (Below.refl _ _).alloc (Nat.le_refl _) _
    have RL0_1 := Lib.hid (show BlkV w1 w.heap.size 24 #[.int .i64 z0, .slice a0 D0.length c0] by rw [hv]; exact BlkV.new _ _ _)
    have B1 := Lib.hid hb
    have Z1 := Lib.hid (show w.heap.size + 1 ≤ w1.heap.size by rw [hv]; simp)
    have V1 := Lib.hid hv
    clear hb hv
    have qL00 := RL0_1.out.two0
    have qL01 := RL0_1.out.two1
    go_wp2_with (go_at_call 4; rw [← V1.out]; (refine (dss_yes z0 a0 c0 D0 1048576 r0 _ H0.out (by omega) HS0.out).mono ?_); rintro e w2 ⟨rfl, hb⟩; refine Hid.out ?_)
    have RL0_2 := Lib.hid (RL0_1.out.below hb)
    have B2 := Lib.hid (B1.out.trans (hb.mono B1.out.size))
    have Z2 := Lib.hid hb.size
    clear hb
    clear qL00 qL01
    have qL00 := RL0_2.out.two0
    have qL01 := RL0_2.out.two1
    refine Lib.hid ?_
    go_wp2_with (go_at_call 6; (refine (dgto z0 a0 c0 D0 _ (dn_len HZ0.out) (H0.out.inDn.below B2.out)).mono ?_); rintro e w3 ⟨bs0, ds0, rfl, ho, hb⟩; refine Hid.out ?_)
    have RL0_3 := Lib.hid (RL0_2.out.below hb)
    have Os0_3 := Lib.hid (ho)
    have B3 := Lib.hid (B2.out.trans (hb.mono B2.out.size))
    have Z3 := Lib.hid hb.size
    clear ho hb
    clear qL00 qL01
    have qL00 := RL0_3.out.two0
    have qL01 := RL0_3.out.two1
    refine Lib.hid ?_
    go_wp2_with (go_at_call 5; (with_reducible refine (fd_spec z0 bs0 ds0 D0 r _ HRR.out (Os0_3.out.smDn (dn_len HZ0.out))).mono ?_); rintro e w4 ⟨rfl, hb⟩; refine Hid.out ?_)
    have Os0_4 := Lib.hid (Os0_3.out.below hb)
    have RL0_4 := Lib.hid (RL0_3.out.below hb)
    have B4 := Lib.hid (B3.out.trans (hb.mono B3.out.size))
    have Z4 := Lib.hid hb.size
    clear hb
    clear qL00 qL01
    have qL00 := RL0_4.out.two0
    have qL01 := RL0_4.out.two1
    refine Lib.hid ?_
    go_wp2_with (go_at_call 6; (refine (dgto z0 a0 c0 D0 _ (dn_len HZ0.out) (H0.out.inDn.below B4.out)).mono ?_); rintro e w5 ⟨bx0, dx0, rfl, ho, hb⟩; refine Hid.out ?_)
    have RL0_5 := Lib.hid (RL0_4.out.below hb)
    have Ox0_5 := Lib.hid (ho)
    have B5 := Lib.hid (B4.out.trans (hb.mono B4.out.size))
    have Z5 := Lib.hid hb.size
    clear ho hb
    obtain ⟨w6, hv⟩ : ∃ x, x = w5.alloc (.cells #[.int .i64 z0, .slice bx0 D0.length dx0] 29) := ⟨_, rfl⟩
    have hb : Below w5.heap.size w5 w6 := by rw [hv]; exact (Below.refl _ _).alloc (Nat.le_refl _) _
    have Ox0_6 := Lib.hid (Ox0_5.out.below hb)
    have RL0_6 := Lib.hid (RL0_5.out.below hb)
    have Rx0_6 := Lib.hid (show BlkV w6 w5.heap.size 29 #[.int .i64 z0, .slice bx0 D0.length dx0] by rw [hv]; exact BlkV.new _ _ _)
    have B6 := Lib.hid (B5.out.trans (hb.mono B5.out.size))
    have Z6 := Lib.hid (show w5.heap.size + 1 ≤ w6.heap.size by rw [hv]; simp)
    have V6 := Lib.hid hv
    clear hb hv
    clear qL00 qL01
    have qL00 := RL0_6.out.two0
    have qL01 := RL0_6.out.two1
    have qx00 := Rx0_6.out.two0
    have qx01 := Rx0_6.out.two1
    refine Lib.hid ?_
    go_wp2_with (go_at_call 7; rw [← V6.out]; (with_reducible refine (fd_impl z0 bx0 dx0 D0 r _ HRR.out (Ox0_6.out.smDn (dn_len HZ0.out)) (HT.out.on B6.out)).mono ?_); rintro e w7 ⟨rfl, hb⟩; refine Hid.out ?_)
    have Ox0_7 := Lib.hid (Ox0_6.out.below hb)
    have RL0_7 := Lib.hid (RL0_6.out.below hb)
    have Rx0_7 := Lib.hid (Rx0_6.out.below hb)
    have B7 := Lib.hid (B6.out.trans (hb.mono B6.out.size))
    have Z7 := Lib.hid hb.size
    clear hb
    clear qL00 qL01 qx00 qx01
    have qL00 := RL0_7.out.two0
    have qL01 := RL0_7.out.two1
    have qx00 := Rx0_7.out.two0
    have qx01 := Rx0_7.out.two1
    refine Lib.hid ?_
    go_wp2_with (fail)
    go_region_held3 (fun w' => w'.cell? ⟨w5.heap.size, 0, none⟩ = some (.int .i64 z0) ∧ w'.cell? ⟨w5.heap.size, 1, none⟩ = some (.slice bx0 D0.length dx0) ∧ w'.cell? ⟨w.heap.size, 0, none⟩ = some (.int .i64 z0) ∧ w'.cell? ⟨w.heap.size, 1, none⟩ = some (.slice a0 D0.length c0))
      (first | exact ⟨ux00, ux01, uL00, uL01⟩ | exact ⟨tx00, tx01, tL00, tL01⟩ | exact ⟨qx00, qx01, qL00, qL01⟩)
      (first
        | (go_at_call 6; (with_reducible refine Calls.mono (dgto z0 a0 c0 D0 _ (dn_len HZ0.out) (H0.out.inDn.below B7.out.drew)) ?_); rintro e w8 ⟨bt0, dt0, rfl, ho, hb⟩; have hr := undrew hb; have Ox0_8 := Lib.hid (Ox0_7.out.below hr); have RL0_8 := Lib.hid (RL0_7.out.below hr); have Rx0_8 := Lib.hid (Rx0_7.out.below hr); have tx00 := Rx0_8.out.two0; have tx01 := Rx0_8.out.two1; have tL00 := RL0_8.out.two0; have tL01 := RL0_8.out.two1; have Ot0_8 := Lib.hid (ho); have B8 := Lib.hid (B7.out.trans (hr.mono B7.out.size)); have Z8 := Lib.hid hr.size; clear ho hb hr)
        | (go_at_call 8; (with_reducible refine (dgeq z0 bx0 bt0 dx0 dt0 D0 _ (dn_len HZ0.out) Ox0_8.out.inDn Ot0_8.out.inDn).mono ?_); rintro e w9 ⟨rfl, hb⟩; have Ox0_9 := Lib.hid (Ox0_8.out.below hb); have RL0_9 := Lib.hid (RL0_8.out.below hb); have Rx0_9 := Lib.hid (Rx0_8.out.below hb); have ux00 := Rx0_9.out.two0; have ux01 := Rx0_9.out.two1; have uL00 := RL0_9.out.two0; have uL01 := RL0_9.out.two1; have B9 := Lib.hid (B8.out.trans (hb.mono B8.out.size)); have Z9 := Lib.hid hb.size; clear hb))
    refine Hid.out ?_
    clear tx00 tx01 tL00 tL01 ux00 ux01 uL00 uL01
    clear qL00 qL01 qx00 qx01
    have qL00 := RL0_9.out.two0
    have qL01 := RL0_9.out.two1
    have qx00 := Rx0_9.out.two0
    have qx01 := Rx0_9.out.two1
    refine Lib.hid ?_
    go_wp2
    go_ret
    exact ⟨rfl, B9.out⟩
  · have HS0 := Lib.hid hs
    clear hs
    go_enter Tryd.func3, Tryd.ntmps3
    obtain ⟨w1, hv⟩ : ∃ x, x = w.alloc (.cells #[.int .i64 z0, .slice a0 D0.length c0] 24) := ⟨_, rfl⟩
    have hb : Below w.heap.size w w1 := by rw [hv]; exact (Below.refl _ _).alloc (Nat.le_refl _) _
    have RL0_1 := Lib.hid (show BlkV w1 w.heap.size 24 #[.int .i64 z0, .slice a0 D0.length c0] by rw [hv]; exact BlkV.new _ _ _)
    have B1 := Lib.hid hb
    have Z1 := Lib.hid (show w.heap.size + 1 ≤ w1.heap.size by rw [hv]; simp)
    have V1 := Lib.hid hv
    clear hb hv
    have qL00 := RL0_1.out.two0
    have qL01 := RL0_1.out.two1
    go_wp2_with (go_at_call 4; rw [← V1.out]; (refine (dss_no z0 a0 c0 D0 1048576 _ H0.out (by omega) HS0.out).mono ?_); rintro e wz ⟨rfl, hb⟩)
    go_ret
    exact ⟨rfl, B1.out.trans (hb.mono B1.out.size)⟩

end Go.Proofs.YtookcggmapldeaaDoor
