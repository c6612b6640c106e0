/-
  The walk of laws.FnExactBuildDiagram. By an AI agent.
-/
import Derived.Test.YtookcggmapldeaaDnT
import Derived.Test.YtookcggmapldeaaIntM
import Derived.Test.YtookcggmapldeaaUndrew
import Derived.Test.YtookcggmapldeaaRuU
import Derived.Test.YtookcggmapldeaaDnH
import Derived.Test.YtookcggmapldeaaBdI
namespace Go.Proofs.Ytookcggmapldeaa
open Go.RowKit
set_option linter.unusedVariables false

set_option maxRecDepth 100000 in
set_option maxHeartbeats 6400000 in
theorem FnExactBuildDiagram_walk (a0 : Option Addr) (c0 : Nat) (R0 : List (List TS)) (w : World) (h0 : ArgRu w a0 R0) :
    Calls Try.prog 4 #[.agg #[.slice a0 R0.length c0]] w fun e w' => e = .returned (.bool true) ∧ Below w.heap.size w w' := by
  have H0 := Lib.hid h0
  clear h0
  by_cases hs : ruz R0 ≤ 1048576
  · obtain ⟨r0, hr⟩ : ∃ r : Nat, r + ruz R0 = 1048576 := ⟨1048576 - ruz R0, by omega⟩
    have hrl0 : (r0 : Int) ≤ 1048576 := by omega
    have HS0 := Lib.hid hr
    have HZ0 := Lib.hid (show ruz R0 ≤ 1048576 by omega)
    clear hs hr
    obtain ⟨⟨⟨zr, Dr⟩, rb⟩, hr⟩ : ∃ r, bdR R0 = r := ⟨_, rfl⟩
    have HRL := Lib.hid (show Dr.length ≤ 511 by have h := bd_len R0; rw [hr] at h; exact h)
    have HRR := Lib.hid hr
    clear hr
    go_enter Try.func4, Try.ntmps4
    obtain ⟨w1, hv⟩ : ∃ x, x = w.alloc (.cells #[.slice a0 R0.length c0] 24) := ⟨_, rfl⟩
    have hb : Below w.heap.size w w1 := by rw [hv]; exact (Below.refl _ _).alloc (Nat.le_refl _) _
    have RL0_1 := Lib.hid (show BlkV w1 w.heap.size 24 #[.slice a0 R0.length c0] by rw [hv]; exact BlkV.new _ _ _)
    have B1 := Lib.hid hb
    have Z1 := Lib.hid (show w.heap.size + 1 ≤ w1.heap.size by rw [hv]; simp)
    have V1 := Lib.hid hv
    clear hb hv
    have qL00 := RL0_1.out.one0
    have pL00 := qL00
    rw [V1.out] at pL00
    go_wp2_with (go_at_call 9; rw [← V1.out]; (refine (uss_yes a0 c0 R0 1048576 r0 _ H0.out B1.out (by omega) HS0.out).mono ?_); rintro e w2 ⟨rfl, hb⟩; refine Hid.out ?_)
    have RL0_2 := Lib.hid (RL0_1.out.below hb)
    have B2 := Lib.hid (B1.out.trans (hb.mono B1.out.size))
    have Z2 := Lib.hid hb.size
    clear hb
    clear qL00 pL00
    have qL00 := RL0_2.out.one0
    refine Lib.hid ?_
    go_wp2_with (go_at_call 11; (refine (rsto a0 c0 R0 _ HZ0.out (H0.out.inRu.below B2.out)).mono ?_); rintro e w3 ⟨bs0, ds0, qs0, rfl, hq, ho, hb⟩; refine Hid.out ?_)
    have Qs0 := Lib.hid hq
    have RL0_3 := Lib.hid (RL0_2.out.below hb)
    have Os0_3 := Lib.hid (OwnHRu.of ho)
    have B3 := Lib.hid (B2.out.trans (hb.mono B2.out.size))
    have Z3 := Lib.hid hb.size
    clear hq ho hb
    clear qL00
    have qL00 := RL0_3.out.one0
    refine Lib.hid ?_
    go_wp2_with (go_at_call 18; (refine (bd_spec bs0 ds0 R0 zr Dr rb _ HRR.out (Os0_3.out.smRu Qs0.out (ru_len HZ0.out) (ru_mem HZ0.out))).mono ?_); rintro e w4 ⟨bxw, dxw, rfl, ho, hb⟩; refine Hid.out ?_)
    have Os0_4 := Lib.hid (Os0_3.out.below hb)
    have RL0_4 := Lib.hid (RL0_3.out.below hb)
    have Oxw_4 := Lib.hid (OwnHDn.of ho)
    have B4 := Lib.hid (B3.out.trans (hb.mono B3.out.size))
    have Z4 := Lib.hid hb.size
    clear ho hb
    obtain ⟨w5, hv⟩ : ∃ x, x = w4.alloc (.cells #[.int .i64 zr, .slice bxw Dr.length dxw] 39) := ⟨_, rfl⟩
    have hb : Below w4.heap.size w4 w5 := by rw [hv]; exact (Below.refl _ _).alloc (Nat.le_refl _) _
    have Os0_5 := Lib.hid (Os0_4.out.below hb)
    have Oxw_5 := Lib.hid (Oxw_4.out.below hb)
    have RL0_5 := Lib.hid (RL0_4.out.below hb)
    have Rxw_5 := Lib.hid (show BlkV w5 w4.heap.size 39 #[.int .i64 zr, .slice bxw Dr.length dxw] by rw [hv]; exact BlkV.new _ _ _)
    have B5 := Lib.hid (B4.out.trans (hb.mono B4.out.size))
    have Z5 := Lib.hid (show w4.heap.size + 1 ≤ w5.heap.size by rw [hv]; simp)
    have V5 := Lib.hid hv
    clear hb hv
    clear qL00
    have qL00 := RL0_5.out.one0
    have pL00 := qL00
    rw [V5.out] at pL00
    have qxw0 := Rxw_5.out.two0
    have pxw0 := qxw0
    rw [V5.out] at pxw0
    have qxw1 := Rxw_5.out.two1
    have pxw1 := qxw1
    rw [V5.out] at pxw1
    refine Lib.hid ?_
    go_wp2_with (go_at_call 11; rw [← V5.out]; (refine (rsto a0 c0 R0 _ HZ0.out (H0.out.inRu.below B5.out)).mono ?_); rintro e w6 ⟨bx0, dx0, qx0, rfl, hq, ho, hb⟩; refine Hid.out ?_)
    have Qx0 := Lib.hid hq
    have Oxw_6 := Lib.hid (Oxw_5.out.below hb)
    have RL0_6 := Lib.hid (RL0_5.out.below hb)
    have Rxw_6 := Lib.hid (Rxw_5.out.below hb)
    have Ox0_6 := Lib.hid (OwnHRu.of ho)
    have B6 := Lib.hid (B5.out.trans (hb.mono B5.out.size))
    have Z6 := Lib.hid hb.size
    clear hq ho hb
    obtain ⟨w7, hv⟩ : ∃ x, x = w6.alloc (.cells #[.slice bx0 R0.length dx0] 30) := ⟨_, rfl⟩
    have hb : Below w6.heap.size w6 w7 := by rw [hv]; exact (Below.refl _ _).alloc (Nat.le_refl _) _
    have Oxw_7 := Lib.hid (Oxw_6.out.below hb)
    have Ox0_7 := Lib.hid (Ox0_6.out.below hb)
    have RL0_7 := Lib.hid (RL0_6.out.below hb)
    have Rxw_7 := Lib.hid (Rxw_6.out.below hb)
    have Rx0_7 := Lib.hid (show BlkV w7 w6.heap.size 30 #[.slice bx0 R0.length dx0] by rw [hv]; exact BlkV.new _ _ _)
    have B7 := Lib.hid (B6.out.trans (hb.mono B6.out.size))
    have Z7 := Lib.hid (show w6.heap.size + 1 ≤ w7.heap.size by rw [hv]; simp)
    have V7 := Lib.hid hv
    clear hb hv
    clear qL00 pL00 qxw0 pxw0 qxw1 pxw1
    have qL00 := RL0_7.out.one0
    have pL00 := qL00
    rw [V7.out] at pL00
    have qxw0 := Rxw_7.out.two0
    have pxw0 := qxw0
    rw [V7.out] at pxw0
    have qxw1 := Rxw_7.out.two1
    have pxw1 := qxw1
    rw [V7.out] at pxw1
    have qx00 := Rx0_7.out.one0
    have px00 := qx00
    rw [V7.out] at px00
    refine Lib.hid ?_
    go_wp2_with (go_at_call 19; rw [← V7.out]; (refine (bd_impl bx0 dx0 R0 zr Dr rb _ HRR.out (Ox0_7.out.smRu Qx0.out (ru_len HZ0.out) (ru_mem HZ0.out))).mono ?_); rintro e w8 ⟨bxg, dxg, rfl, ho, hb⟩; refine Hid.out ?_)
    have Oxw_8 := Lib.hid (Oxw_7.out.below hb)
    have Ox0_8 := Lib.hid (Ox0_7.out.below hb)
    have RL0_8 := Lib.hid (RL0_7.out.below hb)
    have Rxw_8 := Lib.hid (Rxw_7.out.below hb)
    have Rx0_8 := Lib.hid (Rx0_7.out.below hb)
    have Oxg_8 := Lib.hid (OwnHDn.of ho)
    have B8 := Lib.hid (B7.out.trans (hb.mono B7.out.size))
    have Z8 := Lib.hid hb.size
    clear ho hb
    obtain ⟨w9, hv⟩ : ∃ x, x = w8.alloc (.cells #[.int .i64 zr, .slice bxg Dr.length dxg] 39) := ⟨_, rfl⟩
    have hb : Below w8.heap.size w8 w9 := by rw [hv]; exact (Below.refl _ _).alloc (Nat.le_refl _) _
    have Oxw_9 := Lib.hid (Oxw_8.out.below hb)
    have Ox0_9 := Lib.hid (Ox0_8.out.below hb)
    have Oxg_9 := Lib.hid (Oxg_8.out.below hb)
    have RL0_9 := Lib.hid (RL0_8.out.below hb)
    have Rxw_9 := Lib.hid (Rxw_8.out.below hb)
    have Rx0_9 := Lib.hid (Rx0_8.out.below hb)
    have Rxg_9 := Lib.hid (show BlkV w9 w8.heap.size 39 #[.int .i64 zr, .slice bxg Dr.length dxg] by rw [hv]; exact BlkV.new _ _ _)
    have B9 := Lib.hid (B8.out.trans (hb.mono B8.out.size))
    have Z9 := Lib.hid (show w8.heap.size + 1 ≤ w9.heap.size by rw [hv]; simp)
    have V9 := Lib.hid hv
    clear hb hv
    clear qL00 pL00 qxw0 pxw0 qxw1 pxw1 qx00 px00
    have qL00 := RL0_9.out.one0
    have pL00 := qL00
    rw [V9.out] at pL00
    have qxw0 := Rxw_9.out.two0
    have pxw0 := qxw0
    rw [V9.out] at pxw0
    have qxw1 := Rxw_9.out.two1
    have pxw1 := qxw1
    rw [V9.out] at pxw1
    have qx00 := Rx0_9.out.one0
    have px00 := qx00
    rw [V9.out] at px00
    have qxg0 := Rxg_9.out.two0
    have pxg0 := qxg0
    rw [V9.out] at pxg0
    have qxg1 := Rxg_9.out.two1
    have pxg1 := qxg1
    rw [V9.out] at pxg1
    refine Lib.hid ?_
    go_wp2_with (go_at_call 20; rw [← V9.out]; (with_reducible refine (dgeq zr bxg bxw dxg dxw Dr _ (by have := HRL.out; omega) Oxg_9.out.inDn Oxw_9.out.inDn).mono ?_); rintro e w10 ⟨rfl, hb⟩; refine Hid.out ?_)
    have Oxw_10 := Lib.hid (Oxw_9.out.below hb)
    have Ox0_10 := Lib.hid (Ox0_9.out.below hb)
    have Oxg_10 := Lib.hid (Oxg_9.out.below hb)
    have RL0_10 := Lib.hid (RL0_9.out.below hb)
    have Rxw_10 := Lib.hid (Rxw_9.out.below hb)
    have Rx0_10 := Lib.hid (Rx0_9.out.below hb)
    have Rxg_10 := Lib.hid (Rxg_9.out.below hb)
    have B10 := Lib.hid (B9.out.trans (hb.mono B9.out.size))
    have Z10 := Lib.hid hb.size
    clear hb
    clear qL00 pL00 qxw0 pxw0 qxw1 pxw1 qx00 px00 qxg0 pxg0 qxg1 pxg1
    have qL00 := RL0_10.out.one0
    have qxw0 := Rxw_10.out.two0
    have qxw1 := Rxw_10.out.two1
    have qx00 := Rx0_10.out.one0
    have qxg0 := Rxg_10.out.two0
    have qxg1 := Rxg_10.out.two1
    refine Lib.hid ?_
    go_wp2_with (fail)
    go_region_held3 (fun w' => w'.cell? ⟨w6.heap.size, 0, none⟩ = some (.slice bx0 R0.length dx0) ∧ w'.cell? ⟨w.heap.size, 0, none⟩ = some (.slice a0 R0.length c0))
      (first | exact ⟨ux00, uL00⟩ | exact ⟨tx00, tL00⟩ | exact ⟨qx00, qL00⟩)
      (first
        | (go_at_call 11; (with_reducible refine Calls.mono (rsto a0 c0 R0 _ HZ0.out (H0.out.inRu.below B10.out.drew)) ?_); rintro e w11 ⟨bt0, dt0, qt0, rfl, hq, ho, hb⟩; have hr := undrew hb; have Oxw_11 := Lib.hid (Oxw_10.out.below hr); have Ox0_11 := Lib.hid (Ox0_10.out.below hr); have Oxg_11 := Lib.hid (Oxg_10.out.below hr); have RL0_11 := Lib.hid (RL0_10.out.below hr); have Rxw_11 := Lib.hid (Rxw_10.out.below hr); have Rx0_11 := Lib.hid (Rx0_10.out.below hr); have Rxg_11 := Lib.hid (Rxg_10.out.below hr); have tx00 := Rx0_11.out.one0; have tL00 := RL0_11.out.one0; have Qt0 := Lib.hid hq; have Ot0_11 := Lib.hid (OwnHRu.of ho); have B11 := Lib.hid (B10.out.trans (hr.mono B10.out.size)); have Z11 := Lib.hid hr.size; clear hq ho hb hr)
        | (go_at_call 14; (with_reducible refine (seq1 bx0 bt0 dx0 dt0 R0 _ (ru_len HZ0.out) (ru_mem HZ0.out) (Ox0_11.out.inRu Qx0.out) (Ot0_11.out.inRu Qt0.out)).mono ?_); rintro e w12 ⟨rfl, hb⟩; have Oxw_12 := Lib.hid (Oxw_11.out.below hb); have Ox0_12 := Lib.hid (Ox0_11.out.below hb); have Oxg_12 := Lib.hid (Oxg_11.out.below hb); have RL0_12 := Lib.hid (RL0_11.out.below hb); have Rxw_12 := Lib.hid (Rxw_11.out.below hb); have Rx0_12 := Lib.hid (Rx0_11.out.below hb); have Rxg_12 := Lib.hid (Rxg_11.out.below hb); have ux00 := Rx0_12.out.one0; have uL00 := RL0_12.out.one0; have B12 := Lib.hid (B11.out.trans (hb.mono B11.out.size)); have Z12 := Lib.hid hb.size; clear hb))
    refine Hid.out ?_
    clear tx00 tL00 ux00 uL00
    clear qL00 qxw0 qxw1 qx00 qxg0 qxg1
    have qL00 := RL0_12.out.one0
    have qxw0 := Rxw_12.out.two0
    have qxw1 := Rxw_12.out.two1
    have qx00 := Rx0_12.out.one0
    have qxg0 := Rxg_12.out.two0
    have qxg1 := Rxg_12.out.two1
    refine Lib.hid ?_
    obtain ⟨mx0, hm⟩ : ∃ m : Nat, 1 + ruT R0 R0.length = m := ⟨_, rfl⟩
    have HMx0 := Lib.hid hm
    have hmb : mx0 ≤ 3200000 := by have := ruT_small HZ0.out; omega
    have hmp : 0 < mx0 := by omega
    clear hm
    have HLOx0 := Lib.hid (show w6.heap.size ≤ w12.heap.size by have := Z1.out; have := Z2.out; have := Z3.out; have := Z4.out; have := Z5.out; have := Z6.out; have := Z7.out; have := Z8.out; have := Z9.out; have := Z10.out; have := Z11.out; have := Z12.out; omega)
    go_wp2_with (go_at_call 15; (refine (rumark_m w5.heap.size w6.heap.size bx0 dx0 R0.length mx0 qx0 R0 1 _ Qx0.out rfl (by omega) HZ0.out HMx0.out HLOx0.out Ox0_12.out).mono ?_); rintro e w13 ⟨rfl, hq, hc⟩; refine Hid.out ?_)
    clear hq
    have Oxw_13 := Lib.hid (Oxw_12.out.chgU hc (by have := Z1.out; have := Z2.out; have := Z3.out; have := Z4.out; have := Z5.out; have := Z6.out; have := Z7.out; have := Z8.out; have := Z9.out; have := Z10.out; have := Z11.out; have := Z12.out; omega))
    have Oxg_13 := Lib.hid (Oxg_12.out.chgU hc (by have := Z1.out; have := Z2.out; have := Z3.out; have := Z4.out; have := Z5.out; have := Z6.out; have := Z7.out; have := Z8.out; have := Z9.out; have := Z10.out; have := Z11.out; have := Z12.out; omega))
    have RL0_13 := Lib.hid (RL0_12.out.chgU hc (by have := Z1.out; have := Z2.out; have := Z3.out; have := Z4.out; have := Z5.out; have := Z6.out; have := Z7.out; have := Z8.out; have := Z9.out; have := Z10.out; have := Z11.out; have := Z12.out; omega))
    have Rxw_13 := Lib.hid (Rxw_12.out.chgU hc (by have := Z1.out; have := Z2.out; have := Z3.out; have := Z4.out; have := Z5.out; have := Z6.out; have := Z7.out; have := Z8.out; have := Z9.out; have := Z10.out; have := Z11.out; have := Z12.out; omega))
    have Rxg_13 := Lib.hid (Rxg_12.out.chgU hc (by have := Z1.out; have := Z2.out; have := Z3.out; have := Z4.out; have := Z5.out; have := Z6.out; have := Z7.out; have := Z8.out; have := Z9.out; have := Z10.out; have := Z11.out; have := Z12.out; omega))
    have B13 := Lib.hid (below_chg B12.out hc (by have := Z1.out; have := Z2.out; have := Z3.out; have := Z4.out; have := Z5.out; have := Z6.out; have := Z7.out; have := Z8.out; have := Z9.out; have := Z10.out; have := Z11.out; have := Z12.out; omega))
    have Z13 := Lib.hid hc.size
    clear hc
    clear qL00 qxw0 qxw1 qx00 qxg0 qxg1
    have qL00 := RL0_13.out.one0
    have qxw0 := Rxw_13.out.two0
    have qxw1 := Rxw_13.out.two1
    have qxg0 := Rxg_13.out.two0
    have qxg1 := Rxg_13.out.two1
    refine Lib.hid ?_
    go_wp2_with (go_at_call 20; (with_reducible refine (dgeq zr bxg bxw dxg dxw Dr _ (by have := HRL.out; omega) Oxg_13.out.inDn Oxw_13.out.inDn).mono ?_); rintro e w14 ⟨rfl, hb⟩; refine Hid.out ?_)
    have Oxw_14 := Lib.hid (Oxw_13.out.below hb)
    have Oxg_14 := Lib.hid (Oxg_13.out.below hb)
    have RL0_14 := Lib.hid (RL0_13.out.below hb)
    have Rxw_14 := Lib.hid (Rxw_13.out.below hb)
    have Rxg_14 := Lib.hid (Rxg_13.out.below hb)
    have B14 := Lib.hid (B13.out.trans (hb.mono B13.out.size))
    have Z14 := Lib.hid hb.size
    clear hb
    clear qL00 qxw0 qxw1 qxg0 qxg1
    have qL00 := RL0_14.out.one0
    have qxw0 := Rxw_14.out.two0
    have qxw1 := Rxw_14.out.two1
    have qxg0 := Rxg_14.out.two0
    have qxg1 := Rxg_14.out.two1
    refine Lib.hid ?_
    obtain ⟨mxg, hm⟩ : ∃ m : Nat, 1 + 4 * Dr.length = m := ⟨_, rfl⟩
    have HMxg := Lib.hid hm
    have hmb : mxg ≤ 90000000 := by have := HRL.out; omega
    have hmp : 0 < mxg := by omega
    clear hm
    have HLOxg := Lib.hid (show w8.heap.size ≤ w14.heap.size by have := Z1.out; have := Z2.out; have := Z3.out; have := Z4.out; have := Z5.out; have := Z6.out; have := Z7.out; have := Z8.out; have := Z9.out; have := Z10.out; have := Z11.out; have := Z12.out; have := Z13.out; have := Z14.out; omega)
    go_wp2_with (go_at_call 21; (refine (mark_dg w7.heap.size w8.heap.size zr bxg dxg Dr 1 mxg _ (by have := HRL.out; omega) (by omega) HMxg.out Oxg_14.out HLOxg.out).mono ?_); rintro e w15 ⟨rfl, ho, hc⟩; refine Hid.out ?_)
    have Oxg_15 := Lib.hid ho
    clear ho
    have Oxw_15 := Lib.hid (Oxw_14.out.chgU hc (by have := Z1.out; have := Z2.out; have := Z3.out; have := Z4.out; have := Z5.out; have := Z6.out; have := Z7.out; have := Z8.out; have := Z9.out; have := Z10.out; have := Z11.out; have := Z12.out; have := Z13.out; have := Z14.out; omega))
    have RL0_15 := Lib.hid (RL0_14.out.chgU hc (by have := Z1.out; have := Z2.out; have := Z3.out; have := Z4.out; have := Z5.out; have := Z6.out; have := Z7.out; have := Z8.out; have := Z9.out; have := Z10.out; have := Z11.out; have := Z12.out; have := Z13.out; have := Z14.out; omega))
    have Rxw_15 := Lib.hid (Rxw_14.out.chgU hc (by have := Z1.out; have := Z2.out; have := Z3.out; have := Z4.out; have := Z5.out; have := Z6.out; have := Z7.out; have := Z8.out; have := Z9.out; have := Z10.out; have := Z11.out; have := Z12.out; have := Z13.out; have := Z14.out; omega))
    have Rxg_15 := Lib.hid (Rxg_14.out.chgU hc (by have := Z1.out; have := Z2.out; have := Z3.out; have := Z4.out; have := Z5.out; have := Z6.out; have := Z7.out; have := Z8.out; have := Z9.out; have := Z10.out; have := Z11.out; have := Z12.out; have := Z13.out; have := Z14.out; omega))
    have B15 := Lib.hid (below_chg B14.out hc (by have := Z1.out; have := Z2.out; have := Z3.out; have := Z4.out; have := Z5.out; have := Z6.out; have := Z7.out; have := Z8.out; have := Z9.out; have := Z10.out; have := Z11.out; have := Z12.out; have := Z13.out; have := Z14.out; omega))
    have Z15 := Lib.hid hc.size
    clear hc
    clear qL00 qxw0 qxw1 qxg0 qxg1
    have qL00 := RL0_15.out.one0
    have qxw0 := Rxw_15.out.two0
    have qxw1 := Rxw_15.out.two1
    have qxg0 := Rxg_15.out.two0
    have qxg1 := Rxg_15.out.two1
    refine Lib.hid ?_
    go_wp2_with (go_at_call 22; (refine (held_dg zr bxg dxg Dr.length 1 mxg _ (by have := HRL.out; omega) (by omega) HMxg.out Oxg_15.out.inDn).mono ?_); rintro e w16 ⟨rfl, hb⟩; refine Hid.out ?_)
    have Oxw_16 := Lib.hid (Oxw_15.out.below hb)
    have Oxg_16 := Lib.hid (Oxg_15.out.below hb)
    have RL0_16 := Lib.hid (RL0_15.out.below hb)
    have Rxw_16 := Lib.hid (Rxw_15.out.below hb)
    have Rxg_16 := Lib.hid (Rxg_15.out.below hb)
    have B16 := Lib.hid (B15.out.trans (hb.mono B15.out.size))
    have Z16 := Lib.hid hb.size
    clear hb
    clear qL00 qxw0 qxw1 qxg0 qxg1
    have qL00 := RL0_16.out.one0
    have qxw0 := Rxw_16.out.two0
    have qxw1 := Rxw_16.out.two1
    have qxg0 := Rxg_16.out.two0
    have qxg1 := Rxg_16.out.two1
    refine Lib.hid ?_
    go_wp2_with (go_at_call 11; (refine (rsto a0 c0 R0 _ HZ0.out (H0.out.inRu.below B16.out)).mono ?_); rintro e w17 ⟨by0, dy0, qy0, rfl, hq, ho, hb⟩; refine Hid.out ?_)
    have Qy0 := Lib.hid hq
    have Oxw_17 := Lib.hid (Oxw_16.out.below hb)
    have Oxg_17 := Lib.hid (Oxg_16.out.below hb)
    have RL0_17 := Lib.hid (RL0_16.out.below hb)
    have Rxw_17 := Lib.hid (Rxw_16.out.below hb)
    have Rxg_17 := Lib.hid (Rxg_16.out.below hb)
    have Oy0_17 := Lib.hid (OwnHRu.of ho)
    have B17 := Lib.hid (B16.out.trans (hb.mono B16.out.size))
    have Z17 := Lib.hid hb.size
    clear hq ho hb
    clear qL00 qxw0 qxw1 qxg0 qxg1
    have qL00 := RL0_17.out.one0
    have qxw0 := Rxw_17.out.two0
    have qxw1 := Rxw_17.out.two1
    have qxg0 := Rxg_17.out.two0
    have qxg1 := Rxg_17.out.two1
    refine Lib.hid ?_
    go_wp2_with (go_at_call 19; (refine (bd_impl by0 dy0 R0 zr Dr rb _ HRR.out (Oy0_17.out.smRu Qy0.out (ru_len HZ0.out) (ru_mem HZ0.out))).mono ?_); rintro e w18 ⟨bxh, dxh, rfl, ho, hb⟩; refine Hid.out ?_)
    have Oxw_18 := Lib.hid (Oxw_17.out.below hb)
    have Oxg_18 := Lib.hid (Oxg_17.out.below hb)
    have Oy0_18 := Lib.hid (Oy0_17.out.below hb)
    have RL0_18 := Lib.hid (RL0_17.out.below hb)
    have Rxw_18 := Lib.hid (Rxw_17.out.below hb)
    have Rxg_18 := Lib.hid (Rxg_17.out.below hb)
    have Oxh_18 := Lib.hid (OwnHDn.of ho)
    have B18 := Lib.hid (B17.out.trans (hb.mono B17.out.size))
    have Z18 := Lib.hid hb.size
    clear ho hb
    obtain ⟨w19, hv⟩ : ∃ x, x = w18.alloc (.cells #[.int .i64 zr, .slice bxh Dr.length dxh] 39) := ⟨_, rfl⟩
    have hb : Below w18.heap.size w18 w19 := by rw [hv]; exact (Below.refl _ _).alloc (Nat.le_refl _) _
    have Oxw_19 := Lib.hid (Oxw_18.out.below hb)
    have Oxg_19 := Lib.hid (Oxg_18.out.below hb)
    have Oy0_19 := Lib.hid (Oy0_18.out.below hb)
    have Oxh_19 := Lib.hid (Oxh_18.out.below hb)
    have RL0_19 := Lib.hid (RL0_18.out.below hb)
    have Rxw_19 := Lib.hid (Rxw_18.out.below hb)
    have Rxg_19 := Lib.hid (Rxg_18.out.below hb)
    have Rxh_19 := Lib.hid (show BlkV w19 w18.heap.size 39 #[.int .i64 zr, .slice bxh Dr.length dxh] by rw [hv]; exact BlkV.new _ _ _)
    have B19 := Lib.hid (B18.out.trans (hb.mono B18.out.size))
    have Z19 := Lib.hid (show w18.heap.size + 1 ≤ w19.heap.size by rw [hv]; simp)
    have V19 := Lib.hid hv
    clear hb hv
    clear qL00 qxw0 qxw1 qxg0 qxg1
    have qL00 := RL0_19.out.one0
    have pL00 := qL00
    rw [V19.out] at pL00
    have qxw0 := Rxw_19.out.two0
    have pxw0 := qxw0
    rw [V19.out] at pxw0
    have qxw1 := Rxw_19.out.two1
    have pxw1 := qxw1
    rw [V19.out] at pxw1
    have qxg0 := Rxg_19.out.two0
    have pxg0 := qxg0
    rw [V19.out] at pxg0
    have qxg1 := Rxg_19.out.two1
    have pxg1 := qxg1
    rw [V19.out] at pxg1
    have qxh0 := Rxh_19.out.two0
    have pxh0 := qxh0
    rw [V19.out] at pxh0
    have qxh1 := Rxh_19.out.two1
    have pxh1 := qxh1
    rw [V19.out] at pxh1
    refine Lib.hid ?_
    go_wp2_with (go_at_call 20; rw [← V19.out]; (with_reducible refine (dgeq zr bxh bxw dxh dxw Dr _ (by have := HRL.out; omega) Oxh_19.out.inDn Oxw_19.out.inDn).mono ?_); rintro e w20 ⟨rfl, hb⟩; refine Hid.out ?_)
    have Oxw_20 := Lib.hid (Oxw_19.out.below hb)
    have Oxg_20 := Lib.hid (Oxg_19.out.below hb)
    have Oxh_20 := Lib.hid (Oxh_19.out.below hb)
    have RL0_20 := Lib.hid (RL0_19.out.below hb)
    have Rxw_20 := Lib.hid (Rxw_19.out.below hb)
    have Rxg_20 := Lib.hid (Rxg_19.out.below hb)
    have Rxh_20 := Lib.hid (Rxh_19.out.below hb)
    have B20 := Lib.hid (B19.out.trans (hb.mono B19.out.size))
    have Z20 := Lib.hid hb.size
    clear hb
    clear qL00 pL00 qxw0 pxw0 qxw1 pxw1 qxg0 pxg0 qxg1 pxg1 qxh0 pxh0 qxh1 pxh1
    have qL00 := RL0_20.out.one0
    have qxw0 := Rxw_20.out.two0
    have qxw1 := Rxw_20.out.two1
    have qxg0 := Rxg_20.out.two0
    have qxg1 := Rxg_20.out.two1
    have qxh0 := Rxh_20.out.two0
    have qxh1 := Rxh_20.out.two1
    refine Lib.hid ?_
    go_wp2_with (go_at_call 22; (refine (held_dg zr bxg dxg Dr.length 1 mxg _ (by have := HRL.out; omega) (by omega) HMxg.out Oxg_20.out.inDn).mono ?_); rintro e w21 ⟨rfl, hb⟩; refine Hid.out ?_)
    have Oxw_21 := Lib.hid (Oxw_20.out.below hb)
    have Oxg_21 := Lib.hid (Oxg_20.out.below hb)
    have Oxh_21 := Lib.hid (Oxh_20.out.below hb)
    have RL0_21 := Lib.hid (RL0_20.out.below hb)
    have Rxw_21 := Lib.hid (Rxw_20.out.below hb)
    have Rxg_21 := Lib.hid (Rxg_20.out.below hb)
    have Rxh_21 := Lib.hid (Rxh_20.out.below hb)
    have B21 := Lib.hid (B20.out.trans (hb.mono B20.out.size))
    have Z21 := Lib.hid hb.size
    clear hb
    clear qL00 qxw0 qxw1 qxg0 qxg1 qxh0 qxh1
    have qL00 := RL0_21.out.one0
    have qxw0 := Rxw_21.out.two0
    have qxw1 := Rxw_21.out.two1
    have qxg0 := Rxg_21.out.two0
    have qxg1 := Rxg_21.out.two1
    have qxh0 := Rxh_21.out.two0
    have qxh1 := Rxh_21.out.two1
    refine Lib.hid ?_
    go_wp2
    go_ret
    exact ⟨rfl, B21.out⟩
  · have HS0 := Lib.hid hs
    clear hs
    go_enter Try.func4, Try.ntmps4
    obtain ⟨w1, hv⟩ : ∃ x, x = w.alloc (.cells #[.slice a0 R0.length c0] 24) := ⟨_, rfl⟩
    have hb : Below w.heap.size w w1 := by rw [hv]; exact (Below.refl _ _).alloc (Nat.le_refl _) _
    have RL0_1 := Lib.hid (show BlkV w1 w.heap.size 24 #[.slice a0 R0.length c0] by rw [hv]; exact BlkV.new _ _ _)
    have B1 := Lib.hid hb
    have Z1 := Lib.hid (show w.heap.size + 1 ≤ w1.heap.size by rw [hv]; simp)
    have V1 := Lib.hid hv
    clear hb hv
    have qL00 := RL0_1.out.one0
    have pL00 := qL00
    rw [V1.out] at pL00
    go_wp2_with (go_at_call 9; rw [← V1.out]; (refine (uss_no a0 c0 R0 1048576 _ H0.out B1.out (by omega) HS0.out).mono ?_); rintro e wz ⟨rfl, hb⟩)
    go_ret
    exact ⟨rfl, B1.out.trans (hb.mono B1.out.size)⟩

end Go.Proofs.Ytookcggmapldeaa
