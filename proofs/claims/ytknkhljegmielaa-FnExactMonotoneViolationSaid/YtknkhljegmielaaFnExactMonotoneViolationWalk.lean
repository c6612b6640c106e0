/-
  The walk of laws.FnExactMonotoneViolation. By an AI agent.
-/
import Derived.Test.YtknkhljegmielaaRuM
import Derived.Test.YtknkhljegmielaaMvI
import Derived.Test.YtknkhljegmielaaRuG
import Derived.Test.YtknkhljegmielaaRuT
import Derived.Test.YtknkhljegmielaaRuH
import Derived.Test.YtknkhljegmielaaIntM
import Derived.Test.YtknkhljegmielaaUndrew
namespace Go.Proofs.Ytknkhljegmielaa
open Go.RowKit
set_option linter.unusedVariables false

set_option maxRecDepth 100000 in
set_option maxHeartbeats 6400000 in
theorem FnExactMonotoneViolation_walk (a0 : Option Addr) (c0 : Nat) (R0 : List (List TS)) (w : World) (h0 : ArgRu w a0 R0) :
    Calls Try.prog 9 #[.agg #[.slice a0 R0.length c0]] w fun e w' => e = .returned (.bool true) ∧ Below w.heap.size w w' := by
  have H0 := Lib.hid h0
  clear h0
  by_cases hs : ruz R0 ≤ 1048576
  · obtain ⟨r0, hr⟩ : ∃ r : Nat, r + ruz R0 = 1048576 := ⟨1048576 - ruz R0, by omega⟩
    have hrl0 : (r0 : Int) ≤ 1048576 := by omega
    have HS0 := Lib.hid hr
    have HZ0 := Lib.hid (show ruz R0 ≤ 1048576 by omega)
    clear hs hr
    obtain ⟨rA, rB, rS, hr⟩ := vio_some R0
    have HLrA := Lib.hid (vio_len hr).1
    have HLrB := Lib.hid (vio_len hr).2
    have HRR := Lib.hid hr
    clear hr
    go_enter Try.func9, Try.ntmps9
    obtain ⟨w1, hv⟩ : ∃ x, x = w.alloc (.cells #[.slice a0 R0.length c0] 38) := ⟨_, rfl⟩
    have hb : Below w.heap.size w w1 := by rw [hv]; exact (Below.refl _ _).alloc (Nat.le_refl _) _
    have RL0_1 := Lib.hid (show BlkV w1 w.heap.size 38 #[.slice a0 R0.length c0] by rw [hv]; exact BlkV.new _ _ _)
    have B1 := Lib.hid hb
    have Z1 := Lib.hid (show w.heap.size + 1 ≤ w1.heap.size by rw [hv]; simp)
    have V1 := Lib.hid hv
    clear hb hv
    have qL00 := RL0_1.out.one0
    go_wp2_with (go_at_call 23; rw [← V1.out]; (refine (uss_yes a0 c0 R0 1048576 r0 _ H0.out B1.out (by omega) HS0.out).mono ?_); rintro e w2 ⟨rfl, hb⟩; refine Hid.out ?_)
    have RL0_2 := Lib.hid (RL0_1.out.below hb)
    have B2 := Lib.hid (B1.out.trans (hb.mono B1.out.size))
    have Z2 := Lib.hid hb.size
    clear hb
    clear qL00
    have qL00 := RL0_2.out.one0
    refine Lib.hid ?_
    go_wp2_with (go_at_call 24; (refine (rsto a0 c0 R0 _ HZ0.out (H0.out.inRu.below B2.out)).mono ?_); rintro e w3 ⟨bs0, ds0, qs0, rfl, hq, ho, hb⟩; refine Hid.out ?_)
    have Qs0 := Lib.hid hq
    have RL0_3 := Lib.hid (RL0_2.out.below hb)
    have Os0_3 := Lib.hid (OwnHRu.of ho)
    have B3 := Lib.hid (B2.out.trans (hb.mono B2.out.size))
    have Z3 := Lib.hid hb.size
    clear hq ho hb
    clear qL00
    have qL00 := RL0_3.out.one0
    refine Lib.hid ?_
    go_wp2_with (go_at_call 14; (refine (mv_spec bs0 ds0 R0 rA rB rS _ (Os0_3.out.smRu Qs0.out (ru_len HZ0.out) (ru_mem HZ0.out)) HRR.out).mono ?_); rintro e w4 ⟨bw, dw, ew, gw, rfl, ho, hb⟩; refine Hid.out ?_)
    have Os0_4 := Lib.hid (Os0_3.out.below hb)
    have RL0_4 := Lib.hid (RL0_3.out.below hb)
    have OwA_4 := Lib.hid (gvj1 ho)
    have OwB_4 := Lib.hid (gvj2 ho)
    have Dw := Lib.hid ho.2.2
    clear ho
    have B4 := Lib.hid (B3.out.trans (hb.mono B3.out.size))
    have Z4 := Lib.hid hb.size
    clear hb
    clear qL00
    have qL00 := RL0_4.out.one0
    refine Lib.hid ?_
    go_wp2_with (go_at_call 24; (refine (rsto a0 c0 R0 _ HZ0.out (H0.out.inRu.below B4.out)).mono ?_); rintro e w5 ⟨bx0, dx0, qx0, rfl, hq, ho, hb⟩; refine Hid.out ?_)
    have Qx0 := Lib.hid hq
    have OwA_5 := Lib.hid (OwA_4.out.below hb)
    have OwB_5 := Lib.hid (OwB_4.out.below hb)
    have RL0_5 := Lib.hid (RL0_4.out.below hb)
    have Ox0_5 := Lib.hid (OwnHRu.of ho)
    have B5 := Lib.hid (B4.out.trans (hb.mono B4.out.size))
    have Z5 := Lib.hid hb.size
    clear hq ho hb
    obtain ⟨w6, hv⟩ : ∃ x, x = w5.alloc (.cells #[.slice bx0 R0.length dx0] 26) := ⟨_, rfl⟩
    have hb : Below w5.heap.size w5 w6 := by rw [hv]; exact (Below.refl _ _).alloc (Nat.le_refl _) _
    have OwA_6 := Lib.hid (OwA_5.out.below hb)
    have OwB_6 := Lib.hid (OwB_5.out.below hb)
    have Ox0_6 := Lib.hid (Ox0_5.out.below hb)
    have RL0_6 := Lib.hid (RL0_5.out.below hb)
    have Rx0_6 := Lib.hid (show BlkV w6 w5.heap.size 26 #[.slice bx0 R0.length dx0] by rw [hv]; exact BlkV.new _ _ _)
    have B6 := Lib.hid (B5.out.trans (hb.mono B5.out.size))
    have Z6 := Lib.hid (show w5.heap.size + 1 ≤ w6.heap.size by rw [hv]; simp)
    have V6 := Lib.hid hv
    clear hb hv
    clear qL00
    have qL00 := RL0_6.out.one0
    have qx00 := Rx0_6.out.one0
    refine Lib.hid ?_
    go_wp2_with (go_at_call 13; rw [← V6.out]; (refine (mv_impl bx0 dx0 R0 rA rB rS _ (Ox0_6.out.smRu Qx0.out (ru_len HZ0.out) (ru_mem HZ0.out)) HRR.out).mono ?_); rintro e w7 ⟨bg, dg, eg, gg, rfl, ho, hb⟩; refine Hid.out ?_)
    have OwA_7 := Lib.hid (OwA_6.out.below hb)
    have OwB_7 := Lib.hid (OwB_6.out.below hb)
    have Ox0_7 := Lib.hid (Ox0_6.out.below hb)
    have RL0_7 := Lib.hid (RL0_6.out.below hb)
    have Rx0_7 := Lib.hid (Rx0_6.out.below hb)
    have OgA_7 := Lib.hid (gvj1 ho)
    have OgB_7 := Lib.hid (gvj2 ho)
    have Dg := Lib.hid ho.2.2
    clear ho
    have B7 := Lib.hid (B6.out.trans (hb.mono B6.out.size))
    have Z7 := Lib.hid hb.size
    clear hb
    clear qL00 qx00
    have qL00 := RL0_7.out.one0
    have qx00 := Rx0_7.out.one0
    refine Lib.hid ?_
    go_wp2_with (go_at_call 31; (with_reducible refine (eq_int bg bw dg dw rA _ (by have := HLrA.out; unfold maxLen; omega) OgA_7.out.inI OwA_7.out.inI).mono ?_); rintro e w8 ⟨rfl, hb⟩; refine Hid.out ?_)
    have OwA_8 := Lib.hid (OwA_7.out.below hb)
    have OwB_8 := Lib.hid (OwB_7.out.below hb)
    have Ox0_8 := Lib.hid (Ox0_7.out.below hb)
    have OgA_8 := Lib.hid (OgA_7.out.below hb)
    have OgB_8 := Lib.hid (OgB_7.out.below hb)
    have RL0_8 := Lib.hid (RL0_7.out.below hb)
    have Rx0_8 := Lib.hid (Rx0_7.out.below hb)
    have B8 := Lib.hid (B7.out.trans (hb.mono B7.out.size))
    have Z8 := Lib.hid hb.size
    clear hb
    clear qL00 qx00
    have qL00 := RL0_8.out.one0
    have qx00 := Rx0_8.out.one0
    refine Lib.hid ?_
    go_wp2_with (go_at_call 31; (with_reducible refine (eq_int eg ew gg gw rB _ (by have := HLrB.out; unfold maxLen; omega) OgB_8.out.inI OwB_8.out.inI).mono ?_); rintro e w9 ⟨rfl, hb⟩; refine Hid.out ?_)
    have OwA_9 := Lib.hid (OwA_8.out.below hb)
    have OwB_9 := Lib.hid (OwB_8.out.below hb)
    have Ox0_9 := Lib.hid (Ox0_8.out.below hb)
    have OgA_9 := Lib.hid (OgA_8.out.below hb)
    have OgB_9 := Lib.hid (OgB_8.out.below hb)
    have RL0_9 := Lib.hid (RL0_8.out.below hb)
    have Rx0_9 := Lib.hid (Rx0_8.out.below hb)
    have B9 := Lib.hid (B8.out.trans (hb.mono B8.out.size))
    have Z9 := Lib.hid hb.size
    clear hb
    clear qL00 qx00
    have qL00 := RL0_9.out.one0
    have qx00 := Rx0_9.out.one0
    refine Lib.hid ?_
    go_wp2_with (fail)
    go_region_held3 (fun w' => w'.cell? ⟨w5.heap.size, 0, none⟩ = some (.slice bx0 R0.length dx0) ∧ w'.cell? ⟨w.heap.size, 0, none⟩ = some (.slice a0 R0.length c0))
      (first | exact ⟨ux00, uL00⟩ | exact ⟨tx00, tL00⟩ | exact ⟨qx00, qL00⟩)
      (first
        | (go_at_call 24; (with_reducible refine Calls.mono (rsto a0 c0 R0 _ HZ0.out (H0.out.inRu.below B9.out.drew)) ?_); rintro e w10 ⟨bt0, dt0, qt0, rfl, hq, ho, hb⟩; have hr := undrew hb; have OwA_10 := Lib.hid (OwA_9.out.below hr); have OwB_10 := Lib.hid (OwB_9.out.below hr); have Ox0_10 := Lib.hid (Ox0_9.out.below hr); have OgA_10 := Lib.hid (OgA_9.out.below hr); have OgB_10 := Lib.hid (OgB_9.out.below hr); have RL0_10 := Lib.hid (RL0_9.out.below hr); have Rx0_10 := Lib.hid (Rx0_9.out.below hr); have tx00 := Rx0_10.out.one0; have tL00 := RL0_10.out.one0; have Qt0 := Lib.hid hq; have Ot0_10 := Lib.hid (OwnHRu.of ho); have B10 := Lib.hid (B9.out.trans (hr.mono B9.out.size)); have Z10 := Lib.hid hr.size; clear hq ho hb hr)
        | (go_at_call 26; (with_reducible refine (seq1 bx0 bt0 dx0 dt0 R0 _ (ru_len HZ0.out) (ru_mem HZ0.out) (Ox0_10.out.inRu Qx0.out) (Ot0_10.out.inRu Qt0.out)).mono ?_); rintro e w11 ⟨rfl, hb⟩; have OwA_11 := Lib.hid (OwA_10.out.below hb); have OwB_11 := Lib.hid (OwB_10.out.below hb); have Ox0_11 := Lib.hid (Ox0_10.out.below hb); have OgA_11 := Lib.hid (OgA_10.out.below hb); have OgB_11 := Lib.hid (OgB_10.out.below hb); have RL0_11 := Lib.hid (RL0_10.out.below hb); have Rx0_11 := Lib.hid (Rx0_10.out.below hb); have ux00 := Rx0_11.out.one0; have uL00 := RL0_11.out.one0; have B11 := Lib.hid (B10.out.trans (hb.mono B10.out.size)); have Z11 := Lib.hid hb.size; clear hb))
    refine Hid.out ?_
    clear tx00 tL00 ux00 uL00
    clear qL00 qx00
    have qL00 := RL0_11.out.one0
    have qx00 := Rx0_11.out.one0
    refine Lib.hid ?_
    obtain ⟨mx0, hm⟩ : ∃ m : Nat, 1 + ruT R0 R0.length = m := ⟨_, rfl⟩
    have HMx0 := Lib.hid hm
    have hmb : mx0 ≤ 3200000 := by have := ruT_small HZ0.out; omega
    have hmp : 0 < mx0 := by omega
    clear hm
    have HLOx0 := Lib.hid (show w5.heap.size ≤ w11.heap.size by have := Z1.out; have := Z2.out; have := Z3.out; have := Z4.out; have := Z5.out; have := Z6.out; have := Z7.out; have := Z8.out; have := Z9.out; have := Z10.out; have := Z11.out; omega)
    go_wp2_with (go_at_call 39; (refine (rumark_m w4.heap.size w5.heap.size bx0 dx0 R0.length mx0 qx0 R0 1 _ Qx0.out rfl (by omega) HZ0.out HMx0.out HLOx0.out Ox0_11.out).mono ?_); rintro e w12 ⟨rfl, hq, hc⟩; refine Hid.out ?_)
    clear hq
    have OwA_12 := Lib.hid (OwA_11.out.chgU hc (by have := Z1.out; have := Z2.out; have := Z3.out; have := Z4.out; have := Z5.out; have := Z6.out; have := Z7.out; have := Z8.out; have := Z9.out; have := Z10.out; have := Z11.out; omega))
    have OwB_12 := Lib.hid (OwB_11.out.chgU hc (by have := Z1.out; have := Z2.out; have := Z3.out; have := Z4.out; have := Z5.out; have := Z6.out; have := Z7.out; have := Z8.out; have := Z9.out; have := Z10.out; have := Z11.out; omega))
    have OgA_12 := Lib.hid (OgA_11.out.chgU hc (by have := Z1.out; have := Z2.out; have := Z3.out; have := Z4.out; have := Z5.out; have := Z6.out; have := Z7.out; have := Z8.out; have := Z9.out; have := Z10.out; have := Z11.out; omega))
    have OgB_12 := Lib.hid (OgB_11.out.chgU hc (by have := Z1.out; have := Z2.out; have := Z3.out; have := Z4.out; have := Z5.out; have := Z6.out; have := Z7.out; have := Z8.out; have := Z9.out; have := Z10.out; have := Z11.out; omega))
    have RL0_12 := Lib.hid (RL0_11.out.chgU hc (by have := Z1.out; have := Z2.out; have := Z3.out; have := Z4.out; have := Z5.out; have := Z6.out; have := Z7.out; have := Z8.out; have := Z9.out; have := Z10.out; have := Z11.out; omega))
    have B12 := Lib.hid (below_chg B11.out hc (by have := Z1.out; have := Z2.out; have := Z3.out; have := Z4.out; have := Z5.out; have := Z6.out; have := Z7.out; have := Z8.out; have := Z9.out; have := Z10.out; have := Z11.out; omega))
    have Z12 := Lib.hid hc.size
    clear hc
    clear qL00 qx00
    have qL00 := RL0_12.out.one0
    refine Lib.hid ?_
    go_wp2_with (go_at_call 31; (with_reducible refine (eq_int bg bw dg dw rA _ (by have := HLrA.out; unfold maxLen; omega) OgA_12.out.inI OwA_12.out.inI).mono ?_); rintro e w13 ⟨rfl, hb⟩; refine Hid.out ?_)
    have OwA_13 := Lib.hid (OwA_12.out.below hb)
    have OwB_13 := Lib.hid (OwB_12.out.below hb)
    have OgA_13 := Lib.hid (OgA_12.out.below hb)
    have OgB_13 := Lib.hid (OgB_12.out.below hb)
    have RL0_13 := Lib.hid (RL0_12.out.below hb)
    have B13 := Lib.hid (B12.out.trans (hb.mono B12.out.size))
    have Z13 := Lib.hid hb.size
    clear hb
    clear qL00
    have qL00 := RL0_13.out.one0
    refine Lib.hid ?_
    go_wp2_with (go_at_call 31; (with_reducible refine (eq_int eg ew gg gw rB _ (by have := HLrB.out; unfold maxLen; omega) OgB_13.out.inI OwB_13.out.inI).mono ?_); rintro e w14 ⟨rfl, hb⟩; refine Hid.out ?_)
    have OwA_14 := Lib.hid (OwA_13.out.below hb)
    have OwB_14 := Lib.hid (OwB_13.out.below hb)
    have OgA_14 := Lib.hid (OgA_13.out.below hb)
    have OgB_14 := Lib.hid (OgB_13.out.below hb)
    have RL0_14 := Lib.hid (RL0_13.out.below hb)
    have B14 := Lib.hid (B13.out.trans (hb.mono B13.out.size))
    have Z14 := Lib.hid hb.size
    clear hb
    clear qL00
    have qL00 := RL0_14.out.one0
    refine Lib.hid ?_
    obtain ⟨mA, hm⟩ : ∃ m : Nat, 1 + rA.length = m := ⟨_, rfl⟩
    have HmA := Lib.hid hm
    have hmA1 : mA ≤ 10 := by have := HLrA.out; omega
    have hmA0 : 0 < mA := by omega
    clear hm
    obtain ⟨mB, hm⟩ : ∃ m : Nat, mA + rB.length = m := ⟨_, rfl⟩
    have HmB := Lib.hid hm
    have hmB1 : mB ≤ 20 := by have := HLrB.out; omega
    have hmB0 : 0 < mB := by omega
    clear hm
    go_wp2_with (go_at_call 40; (refine (mark_im w6.heap.size w7.heap.size bg dg rA 1 mA _ (by have := HLrA.out; omega) (by omega) HmA.out OgA_14.out).mono ?_); rintro e w15 ⟨rfl, ho, hg, hc⟩; refine Hid.out ?_)
    have OgA_15 := Lib.hid ho
    have OgB_15 := Lib.hid (OgB_14.out.keptd hg Dg.out)
    clear ho hg
    have OwA_15 := Lib.hid (OwA_14.out.chgU hc (by have := Z1.out; have := Z2.out; have := Z3.out; have := Z4.out; have := Z5.out; have := Z6.out; have := Z7.out; have := Z8.out; have := Z9.out; have := Z10.out; have := Z11.out; have := Z12.out; have := Z13.out; have := Z14.out; omega))
    have OwB_15 := Lib.hid (OwB_14.out.chgU hc (by have := Z1.out; have := Z2.out; have := Z3.out; have := Z4.out; have := Z5.out; have := Z6.out; have := Z7.out; have := Z8.out; have := Z9.out; have := Z10.out; have := Z11.out; have := Z12.out; have := Z13.out; have := Z14.out; omega))
    have RL0_15 := Lib.hid (RL0_14.out.chgU hc (by have := Z1.out; have := Z2.out; have := Z3.out; have := Z4.out; have := Z5.out; have := Z6.out; have := Z7.out; have := Z8.out; have := Z9.out; have := Z10.out; have := Z11.out; have := Z12.out; have := Z13.out; have := Z14.out; omega))
    have B15 := Lib.hid (below_chg B14.out hc (by have := Z1.out; have := Z2.out; have := Z3.out; have := Z4.out; have := Z5.out; have := Z6.out; have := Z7.out; have := Z8.out; have := Z9.out; have := Z10.out; have := Z11.out; have := Z12.out; have := Z13.out; have := Z14.out; omega))
    have Z15 := Lib.hid hc.size
    clear hc
    clear qL00
    have qL00 := RL0_15.out.one0
    refine Lib.hid ?_
    go_wp2_with (go_at_call 40; (refine (mark_im w6.heap.size w7.heap.size eg gg rB mA mB _ (by have := HLrB.out; omega) (by omega) HmB.out OgB_15.out).mono ?_); rintro e w16 ⟨rfl, ho, hg, hc⟩; refine Hid.out ?_)
    have OgB_16 := Lib.hid ho
    have OgA_16 := Lib.hid (OgA_15.out.keptd hg (fun k hk e => Dg.out k e hk))
    clear ho hg
    have OwA_16 := Lib.hid (OwA_15.out.chgU hc (by have := Z1.out; have := Z2.out; have := Z3.out; have := Z4.out; have := Z5.out; have := Z6.out; have := Z7.out; have := Z8.out; have := Z9.out; have := Z10.out; have := Z11.out; have := Z12.out; have := Z13.out; have := Z14.out; have := Z15.out; omega))
    have OwB_16 := Lib.hid (OwB_15.out.chgU hc (by have := Z1.out; have := Z2.out; have := Z3.out; have := Z4.out; have := Z5.out; have := Z6.out; have := Z7.out; have := Z8.out; have := Z9.out; have := Z10.out; have := Z11.out; have := Z12.out; have := Z13.out; have := Z14.out; have := Z15.out; omega))
    have RL0_16 := Lib.hid (RL0_15.out.chgU hc (by have := Z1.out; have := Z2.out; have := Z3.out; have := Z4.out; have := Z5.out; have := Z6.out; have := Z7.out; have := Z8.out; have := Z9.out; have := Z10.out; have := Z11.out; have := Z12.out; have := Z13.out; have := Z14.out; have := Z15.out; omega))
    have B16 := Lib.hid (below_chg B15.out hc (by have := Z1.out; have := Z2.out; have := Z3.out; have := Z4.out; have := Z5.out; have := Z6.out; have := Z7.out; have := Z8.out; have := Z9.out; have := Z10.out; have := Z11.out; have := Z12.out; have := Z13.out; have := Z14.out; have := Z15.out; omega))
    have Z16 := Lib.hid hc.size
    clear hc
    clear qL00
    have qL00 := RL0_16.out.one0
    refine Lib.hid ?_
    go_wp2_with (go_at_call 41; (refine (held_im bg dg rA.length 1 mA _ (by have := HLrA.out; omega) (by omega) HmA.out OgA_16.out.inI).mono ?_); rintro e w17 ⟨rfl, hb⟩; refine Hid.out ?_)
    have OwA_17 := Lib.hid (OwA_16.out.below hb)
    have OwB_17 := Lib.hid (OwB_16.out.below hb)
    have OgA_17 := Lib.hid (OgA_16.out.below hb)
    have OgB_17 := Lib.hid (OgB_16.out.below hb)
    have RL0_17 := Lib.hid (RL0_16.out.below hb)
    have B17 := Lib.hid (B16.out.trans (hb.mono B16.out.size))
    have Z17 := Lib.hid hb.size
    clear hb
    clear qL00
    have qL00 := RL0_17.out.one0
    refine Lib.hid ?_
    go_wp2_with (go_at_call 41; (refine (held_im eg gg rB.length mA mB _ (by have := HLrB.out; omega) (by omega) HmB.out OgB_17.out.inI).mono ?_); rintro e w18 ⟨rfl, hb⟩; refine Hid.out ?_)
    have OwA_18 := Lib.hid (OwA_17.out.below hb)
    have OwB_18 := Lib.hid (OwB_17.out.below hb)
    have OgA_18 := Lib.hid (OgA_17.out.below hb)
    have OgB_18 := Lib.hid (OgB_17.out.below hb)
    have RL0_18 := Lib.hid (RL0_17.out.below hb)
    have B18 := Lib.hid (B17.out.trans (hb.mono B17.out.size))
    have Z18 := Lib.hid hb.size
    clear hb
    clear qL00
    have qL00 := RL0_18.out.one0
    refine Lib.hid ?_
    go_wp2_with (go_at_call 24; (refine (rsto a0 c0 R0 _ HZ0.out (H0.out.inRu.below B18.out)).mono ?_); rintro e w19 ⟨by0, dy0, qy0, rfl, hq, ho, hb⟩; refine Hid.out ?_)
    have Qy0 := Lib.hid hq
    have OwA_19 := Lib.hid (OwA_18.out.below hb)
    have OwB_19 := Lib.hid (OwB_18.out.below hb)
    have OgA_19 := Lib.hid (OgA_18.out.below hb)
    have OgB_19 := Lib.hid (OgB_18.out.below hb)
    have RL0_19 := Lib.hid (RL0_18.out.below hb)
    have Oy0_19 := Lib.hid (OwnHRu.of ho)
    have B19 := Lib.hid (B18.out.trans (hb.mono B18.out.size))
    have Z19 := Lib.hid hb.size
    clear hq ho hb
    clear qL00
    have qL00 := RL0_19.out.one0
    refine Lib.hid ?_
    go_wp2_with (go_at_call 13; (refine (mv_impl by0 dy0 R0 rA rB rS _ (Oy0_19.out.smRu Qy0.out (ru_len HZ0.out) (ru_mem HZ0.out)) HRR.out).mono ?_); rintro e w20 ⟨bh, dh, eh, gh, rfl, ho, hb⟩; refine Hid.out ?_)
    have OwA_20 := Lib.hid (OwA_19.out.below hb)
    have OwB_20 := Lib.hid (OwB_19.out.below hb)
    have OgA_20 := Lib.hid (OgA_19.out.below hb)
    have OgB_20 := Lib.hid (OgB_19.out.below hb)
    have Oy0_20 := Lib.hid (Oy0_19.out.below hb)
    have RL0_20 := Lib.hid (RL0_19.out.below hb)
    have OhA_20 := Lib.hid (gvj1 ho)
    have OhB_20 := Lib.hid (gvj2 ho)
    have Dh := Lib.hid ho.2.2
    clear ho
    have B20 := Lib.hid (B19.out.trans (hb.mono B19.out.size))
    have Z20 := Lib.hid hb.size
    clear hb
    clear qL00
    have qL00 := RL0_20.out.one0
    refine Lib.hid ?_
    go_wp2_with (go_at_call 31; (with_reducible refine (eq_int bh bw dh dw rA _ (by have := HLrA.out; unfold maxLen; omega) OhA_20.out.inI OwA_20.out.inI).mono ?_); rintro e w21 ⟨rfl, hb⟩; refine Hid.out ?_)
    have OwA_21 := Lib.hid (OwA_20.out.below hb)
    have OwB_21 := Lib.hid (OwB_20.out.below hb)
    have OgA_21 := Lib.hid (OgA_20.out.below hb)
    have OgB_21 := Lib.hid (OgB_20.out.below hb)
    have OhA_21 := Lib.hid (OhA_20.out.below hb)
    have OhB_21 := Lib.hid (OhB_20.out.below hb)
    have RL0_21 := Lib.hid (RL0_20.out.below hb)
    have B21 := Lib.hid (B20.out.trans (hb.mono B20.out.size))
    have Z21 := Lib.hid hb.size
    clear hb
    clear qL00
    have qL00 := RL0_21.out.one0
    refine Lib.hid ?_
    go_wp2_with (go_at_call 31; (with_reducible refine (eq_int eh ew gh gw rB _ (by have := HLrB.out; unfold maxLen; omega) OhB_21.out.inI OwB_21.out.inI).mono ?_); rintro e w22 ⟨rfl, hb⟩; refine Hid.out ?_)
    have OwA_22 := Lib.hid (OwA_21.out.below hb)
    have OwB_22 := Lib.hid (OwB_21.out.below hb)
    have OgA_22 := Lib.hid (OgA_21.out.below hb)
    have OgB_22 := Lib.hid (OgB_21.out.below hb)
    have OhA_22 := Lib.hid (OhA_21.out.below hb)
    have OhB_22 := Lib.hid (OhB_21.out.below hb)
    have RL0_22 := Lib.hid (RL0_21.out.below hb)
    have B22 := Lib.hid (B21.out.trans (hb.mono B21.out.size))
    have Z22 := Lib.hid hb.size
    clear hb
    clear qL00
    have qL00 := RL0_22.out.one0
    refine Lib.hid ?_
    go_wp2_with (go_at_call 41; (refine (held_im bg dg rA.length 1 mA _ (by have := HLrA.out; omega) (by omega) HmA.out OgA_22.out.inI).mono ?_); rintro e w23 ⟨rfl, hb⟩; refine Hid.out ?_)
    have OwA_23 := Lib.hid (OwA_22.out.below hb)
    have OwB_23 := Lib.hid (OwB_22.out.below hb)
    have OgA_23 := Lib.hid (OgA_22.out.below hb)
    have OgB_23 := Lib.hid (OgB_22.out.below hb)
    have OhA_23 := Lib.hid (OhA_22.out.below hb)
    have OhB_23 := Lib.hid (OhB_22.out.below hb)
    have RL0_23 := Lib.hid (RL0_22.out.below hb)
    have B23 := Lib.hid (B22.out.trans (hb.mono B22.out.size))
    have Z23 := Lib.hid hb.size
    clear hb
    clear qL00
    have qL00 := RL0_23.out.one0
    refine Lib.hid ?_
    go_wp2_with (go_at_call 41; (refine (held_im eg gg rB.length mA mB _ (by have := HLrB.out; omega) (by omega) HmB.out OgB_23.out.inI).mono ?_); rintro e w24 ⟨rfl, hb⟩; refine Hid.out ?_)
    have OwA_24 := Lib.hid (OwA_23.out.below hb)
    have OwB_24 := Lib.hid (OwB_23.out.below hb)
    have OgA_24 := Lib.hid (OgA_23.out.below hb)
    have OgB_24 := Lib.hid (OgB_23.out.below hb)
    have OhA_24 := Lib.hid (OhA_23.out.below hb)
    have OhB_24 := Lib.hid (OhB_23.out.below hb)
    have RL0_24 := Lib.hid (RL0_23.out.below hb)
    have B24 := Lib.hid (B23.out.trans (hb.mono B23.out.size))
    have Z24 := Lib.hid hb.size
    clear hb
    clear qL00
    have qL00 := RL0_24.out.one0
    refine Lib.hid ?_
    go_wp2
    go_ret
    exact ⟨rfl, B24.out⟩
  · have HS0 := Lib.hid hs
    clear hs
    go_enter Try.func9, Try.ntmps9
    obtain ⟨w1, hv⟩ : ∃ x, x = w.alloc (.cells #[.slice a0 R0.length c0] 38) := ⟨_, rfl⟩
    have hb : Below w.heap.size w w1 := by rw [hv]; exact (Below.refl _ _).alloc (Nat.le_refl _) _
    have RL0_1 := Lib.hid (show BlkV w1 w.heap.size 38 #[.slice a0 R0.length c0] by rw [hv]; exact BlkV.new _ _ _)
    have B1 := Lib.hid hb
    have Z1 := Lib.hid (show w.heap.size + 1 ≤ w1.heap.size by rw [hv]; simp)
    have V1 := Lib.hid hv
    clear hb hv
    have qL00 := RL0_1.out.one0
    go_wp2_with (go_at_call 23; rw [← V1.out]; (refine (uss_no a0 c0 R0 1048576 _ H0.out B1.out (by omega) HS0.out).mono ?_); rintro e wz ⟨rfl, hb⟩)
    go_ret
    exact ⟨rfl, B1.out.trans (hb.mono B1.out.size)⟩

end Go.Proofs.Ytknkhljegmielaa
