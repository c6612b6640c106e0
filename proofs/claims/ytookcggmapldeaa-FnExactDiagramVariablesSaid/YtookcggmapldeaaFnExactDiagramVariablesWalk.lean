/-
  The walk of laws.FnExactDiagramVariables. By an AI agent.
-/
import Derived.Test.YtookcggmapldeaaRuG
import Derived.Test.YtookcggmapldeaaDnT
import Derived.Test.YtookcggmapldeaaRuH
import Derived.Test.YtookcggmapldeaaIntM
import Derived.Test.YtookcggmapldeaaUndrew
import Derived.Test.YtookcggmapldeaaRuU
import Derived.Test.YtookcggmapldeaaTsH
import Derived.Test.YtookcggmapldeaaVarI
namespace Go.Proofs.Ytookcggmapldeaa
open Go.RowKit
set_option linter.unusedVariables false

set_option maxRecDepth 100000 in
set_option maxHeartbeats 6400000 in
theorem FnExactDiagramVariables_walk (a0 : Option Addr) (c0 : Nat) (R0 : List (List TS)) (w : World) (h0 : ArgRu w a0 R0) :
    Calls Try.prog 3 #[.agg #[.slice a0 R0.length c0]] w fun e w' => e = .returned (.bool true) ∧ Below w.heap.size w w' := by
  have H0 := Lib.hid h0
  clear h0
  by_cases hs : ruz R0 ≤ 1048576
  · obtain ⟨r0, hr⟩ : ∃ r : Nat, r + ruz R0 = 1048576 := ⟨1048576 - ruz R0, by omega⟩
    have hrl0 : (r0 : Int) ≤ 1048576 := by omega
    have HS0 := Lib.hid hr
    have HZ0 := Lib.hid (show ruz R0 ≤ 1048576 by omega)
    clear hs hr
    obtain ⟨r, hr⟩ : ∃ r, (varsR R0).map tsV = r := ⟨_, rfl⟩
    have HRL := Lib.hid (show r.length ≤ 4000000 by rw [← hr]; exact (by rw [List.length_map]; have := varsR_len R0; omega))
    have HRR := Lib.hid hr
    clear hr
    go_enter Try.func3, Try.ntmps3
    obtain ⟨w1, hv⟩ : ∃ x, x = w.alloc (.cells #[.slice a0 R0.length c0] 24) := ⟨_, rfl⟩
    have hb : Below w.heap.size w w1 := by rw [hv]; exact (Below.refl _ _).alloc (Nat.le_refl _) _
    have RL0_1 := Lib.hid (show BlkV w1 w.heap.size 24 #[.slice a0 R0.length c0] by rw [hv]; exact BlkV.new _ _ _)
    have B1 := Lib.hid hb
    have Z1 := Lib.hid (show w.heap.size + 1 ≤ w1.heap.size by rw [hv]; simp)
    have V1 := Lib.hid hv
    clear hb hv
    have qL00 := RL0_1.out.one0
    go_wp2_with (go_at_call 9; rw [← V1.out]; (refine (uss_yes a0 c0 R0 1048576 r0 _ H0.out B1.out (by omega) HS0.out).mono ?_); rintro e w2 ⟨rfl, hb⟩; refine Hid.out ?_)
    have RL0_2 := Lib.hid (RL0_1.out.below hb)
    have B2 := Lib.hid (B1.out.trans (hb.mono B1.out.size))
    have Z2 := Lib.hid hb.size
    clear hb
    clear qL00
    have qL00 := RL0_2.out.one0
    refine Lib.hid ?_
    go_wp2_with (go_at_call 11; (refine (rsto a0 c0 R0 _ HZ0.out (H0.out.inRu.below B2.out)).mono ?_); rintro e w3 ⟨bs0, ds0, qs0, rfl, hq, ho, hb⟩; refine Hid.out ?_)
    have Qs0 := Lib.hid hq
    have RL0_3 := Lib.hid (RL0_2.out.below hb)
    have Os0_3 := Lib.hid (OwnHRu.of ho)
    have B3 := Lib.hid (B2.out.trans (hb.mono B2.out.size))
    have Z3 := Lib.hid hb.size
    clear hq ho hb
    clear qL00
    have qL00 := RL0_3.out.one0
    refine Lib.hid ?_
    go_wp2_with (go_at_call 10; (refine (vars_specT bs0 ds0 R0 r _ HRR.out (Os0_3.out.smRu Qs0.out (ru_len HZ0.out) (ru_mem HZ0.out))).mono ?_); rintro e w4 ⟨btw, dtw, rfl, ho, hb⟩; refine Hid.out ?_)
    have Os0_4 := Lib.hid (Os0_3.out.below hb)
    have RL0_4 := Lib.hid (RL0_3.out.below hb)
    have Otw_4 := Lib.hid (OwnHTs.of ho)
    have B4 := Lib.hid (B3.out.trans (hb.mono B3.out.size))
    have Z4 := Lib.hid hb.size
    clear ho hb
    clear qL00
    have qL00 := RL0_4.out.one0
    refine Lib.hid ?_
    go_wp2_with (go_at_call 11; (refine (rsto a0 c0 R0 _ HZ0.out (H0.out.inRu.below B4.out)).mono ?_); rintro e w5 ⟨bx0, dx0, qx0, rfl, hq, ho, hb⟩; refine Hid.out ?_)
    have Qx0 := Lib.hid hq
    have Otw_5 := Lib.hid (Otw_4.out.below hb)
    have RL0_5 := Lib.hid (RL0_4.out.below hb)
    have Ox0_5 := Lib.hid (OwnHRu.of ho)
    have B5 := Lib.hid (B4.out.trans (hb.mono B4.out.size))
    have Z5 := Lib.hid hb.size
    clear hq ho hb
    obtain ⟨w6, hv⟩ : ∃ x, x = w5.alloc (.cells #[.slice bx0 R0.length dx0] 30) := ⟨_, rfl⟩
    have hb : Below w5.heap.size w5 w6 := by rw [hv]; exact (Below.refl _ _).alloc (Nat.le_refl _) _
    have Otw_6 := Lib.hid (Otw_5.out.below hb)
    have Ox0_6 := Lib.hid (Ox0_5.out.below hb)
    have RL0_6 := Lib.hid (RL0_5.out.below hb)
    have Rx0_6 := Lib.hid (show BlkV w6 w5.heap.size 30 #[.slice bx0 R0.length dx0] by rw [hv]; exact BlkV.new _ _ _)
    have B6 := Lib.hid (B5.out.trans (hb.mono B5.out.size))
    have Z6 := Lib.hid (show w5.heap.size + 1 ≤ w6.heap.size by rw [hv]; simp)
    have V6 := Lib.hid hv
    clear hb hv
    clear qL00
    have qL00 := RL0_6.out.one0
    have qx00 := Rx0_6.out.one0
    refine Lib.hid ?_
    go_wp2_with (go_at_call 12; rw [← V6.out]; (refine (vars_implT bx0 dx0 R0 r _ HRR.out (Ox0_6.out.smRu Qx0.out (ru_len HZ0.out) (ru_mem HZ0.out))).mono ?_); rintro e w7 ⟨btg, dtg, rfl, ho, hb⟩; refine Hid.out ?_)
    have Otw_7 := Lib.hid (Otw_6.out.below hb)
    have Ox0_7 := Lib.hid (Ox0_6.out.below hb)
    have RL0_7 := Lib.hid (RL0_6.out.below hb)
    have Rx0_7 := Lib.hid (Rx0_6.out.below hb)
    have Otg_7 := Lib.hid (OwnHTs.of ho)
    have B7 := Lib.hid (B6.out.trans (hb.mono B6.out.size))
    have Z7 := Lib.hid hb.size
    clear ho hb
    clear qL00 qx00
    have qL00 := RL0_7.out.one0
    have qx00 := Rx0_7.out.one0
    refine Lib.hid ?_
    go_wp2_with (go_at_call 13; (with_reducible refine (teq_l btg btw dtg dtw r _ HRL.out Otg_7.out.inTs Otw_7.out.inTs).mono ?_); rintro e w8 ⟨rfl, hb⟩; refine Hid.out ?_)
    have Otw_8 := Lib.hid (Otw_7.out.below hb)
    have Ox0_8 := Lib.hid (Ox0_7.out.below hb)
    have Otg_8 := Lib.hid (Otg_7.out.below hb)
    have RL0_8 := Lib.hid (RL0_7.out.below hb)
    have Rx0_8 := Lib.hid (Rx0_7.out.below hb)
    have B8 := Lib.hid (B7.out.trans (hb.mono B7.out.size))
    have Z8 := Lib.hid hb.size
    clear hb
    clear qL00 qx00
    have qL00 := RL0_8.out.one0
    have qx00 := Rx0_8.out.one0
    refine Lib.hid ?_
    go_wp2_with (fail)
    go_region_held3 (fun w' => w'.cell? ⟨w5.heap.size, 0, none⟩ = some (.slice bx0 R0.length dx0) ∧ w'.cell? ⟨w.heap.size, 0, none⟩ = some (.slice a0 R0.length c0))
      (first | exact ⟨ux00, uL00⟩ | exact ⟨tx00, tL00⟩ | exact ⟨qx00, qL00⟩)
      (first
        | (go_at_call 11; (with_reducible refine Calls.mono (rsto a0 c0 R0 _ HZ0.out (H0.out.inRu.below B8.out.drew)) ?_); rintro e w9 ⟨bt0, dt0, qt0, rfl, hq, ho, hb⟩; have hr := undrew hb; have Otw_9 := Lib.hid (Otw_8.out.below hr); have Ox0_9 := Lib.hid (Ox0_8.out.below hr); have Otg_9 := Lib.hid (Otg_8.out.below hr); have RL0_9 := Lib.hid (RL0_8.out.below hr); have Rx0_9 := Lib.hid (Rx0_8.out.below hr); have tx00 := Rx0_9.out.one0; have tL00 := RL0_9.out.one0; have Qt0 := Lib.hid hq; have Ot0_9 := Lib.hid (OwnHRu.of ho); have B9 := Lib.hid (B8.out.trans (hr.mono B8.out.size)); have Z9 := Lib.hid hr.size; clear hq ho hb hr)
        | (go_at_call 14; (with_reducible refine (seq1 bx0 bt0 dx0 dt0 R0 _ (ru_len HZ0.out) (ru_mem HZ0.out) (Ox0_9.out.inRu Qx0.out) (Ot0_9.out.inRu Qt0.out)).mono ?_); rintro e w10 ⟨rfl, hb⟩; have Otw_10 := Lib.hid (Otw_9.out.below hb); have Ox0_10 := Lib.hid (Ox0_9.out.below hb); have Otg_10 := Lib.hid (Otg_9.out.below hb); have RL0_10 := Lib.hid (RL0_9.out.below hb); have Rx0_10 := Lib.hid (Rx0_9.out.below hb); have ux00 := Rx0_10.out.one0; have uL00 := RL0_10.out.one0; have B10 := Lib.hid (B9.out.trans (hb.mono B9.out.size)); have Z10 := Lib.hid hb.size; clear hb))
    refine Hid.out ?_
    clear tx00 tL00 ux00 uL00
    clear qL00 qx00
    have qL00 := RL0_10.out.one0
    have qx00 := Rx0_10.out.one0
    refine Lib.hid ?_
    obtain ⟨mx0, hm⟩ : ∃ m : Nat, 1 + ruT R0 R0.length = m := ⟨_, rfl⟩
    have HMx0 := Lib.hid hm
    have hmb : mx0 ≤ 3200000 := by have := ruT_small HZ0.out; omega
    have hmp : 0 < mx0 := by omega
    clear hm
    have HLOx0 := Lib.hid (show w5.heap.size ≤ w10.heap.size by have := Z1.out; have := Z2.out; have := Z3.out; have := Z4.out; have := Z5.out; have := Z6.out; have := Z7.out; have := Z8.out; have := Z9.out; have := Z10.out; omega)
    go_wp2_with (go_at_call 15; (refine (rumark_m w4.heap.size w5.heap.size bx0 dx0 R0.length mx0 qx0 R0 1 _ Qx0.out rfl (by omega) HZ0.out HMx0.out HLOx0.out Ox0_10.out).mono ?_); rintro e w11 ⟨rfl, hq, hc⟩; refine Hid.out ?_)
    clear hq
    have Otw_11 := Lib.hid (Otw_10.out.chgU hc (by have := Z1.out; have := Z2.out; have := Z3.out; have := Z4.out; have := Z5.out; have := Z6.out; have := Z7.out; have := Z8.out; have := Z9.out; have := Z10.out; omega))
    have Otg_11 := Lib.hid (Otg_10.out.chgU hc (by have := Z1.out; have := Z2.out; have := Z3.out; have := Z4.out; have := Z5.out; have := Z6.out; have := Z7.out; have := Z8.out; have := Z9.out; have := Z10.out; omega))
    have RL0_11 := Lib.hid (RL0_10.out.chgU hc (by have := Z1.out; have := Z2.out; have := Z3.out; have := Z4.out; have := Z5.out; have := Z6.out; have := Z7.out; have := Z8.out; have := Z9.out; have := Z10.out; omega))
    have B11 := Lib.hid (below_chg B10.out hc (by have := Z1.out; have := Z2.out; have := Z3.out; have := Z4.out; have := Z5.out; have := Z6.out; have := Z7.out; have := Z8.out; have := Z9.out; have := Z10.out; omega))
    have Z11 := Lib.hid hc.size
    clear hc
    clear qL00 qx00
    have qL00 := RL0_11.out.one0
    refine Lib.hid ?_
    go_wp2_with (go_at_call 13; (with_reducible refine (teq_l btg btw dtg dtw r _ HRL.out Otg_11.out.inTs Otw_11.out.inTs).mono ?_); rintro e w12 ⟨rfl, hb⟩; refine Hid.out ?_)
    have Otw_12 := Lib.hid (Otw_11.out.below hb)
    have Otg_12 := Lib.hid (Otg_11.out.below hb)
    have RL0_12 := Lib.hid (RL0_11.out.below hb)
    have B12 := Lib.hid (B11.out.trans (hb.mono B11.out.size))
    have Z12 := Lib.hid hb.size
    clear hb
    clear qL00
    have qL00 := RL0_12.out.one0
    refine Lib.hid ?_
    obtain ⟨mtg, hm⟩ : ∃ m : Nat, 1 + 3 * r.length = m := ⟨_, rfl⟩
    have HMtg := Lib.hid hm
    have hmb : mtg ≤ 90000000 := by have := HRL.out; omega
    have hmp : 0 < mtg := by omega
    clear hm
    go_wp2_with (go_at_call 16; (refine (mark_tsm w6.heap.size w7.heap.size btg dtg r 1 mtg _ HRL.out (by omega) HMtg.out Otg_12.out).mono ?_); rintro e w13 ⟨rfl, ho, hc⟩; refine Hid.out ?_)
    have Otg_13 := Lib.hid ho
    clear ho
    have Otw_13 := Lib.hid (Otw_12.out.chgU hc (by have := Z1.out; have := Z2.out; have := Z3.out; have := Z4.out; have := Z5.out; have := Z6.out; have := Z7.out; have := Z8.out; have := Z9.out; have := Z10.out; have := Z11.out; have := Z12.out; omega))
    have RL0_13 := Lib.hid (RL0_12.out.chgU hc (by have := Z1.out; have := Z2.out; have := Z3.out; have := Z4.out; have := Z5.out; have := Z6.out; have := Z7.out; have := Z8.out; have := Z9.out; have := Z10.out; have := Z11.out; have := Z12.out; omega))
    have B13 := Lib.hid (below_chg B12.out hc (by have := Z1.out; have := Z2.out; have := Z3.out; have := Z4.out; have := Z5.out; have := Z6.out; have := Z7.out; have := Z8.out; have := Z9.out; have := Z10.out; have := Z11.out; have := Z12.out; omega))
    have Z13 := Lib.hid hc.size
    clear hc
    clear qL00
    have qL00 := RL0_13.out.one0
    refine Lib.hid ?_
    go_wp2_with (go_at_call 17; (refine (tsheldv btg dtg r.length 1 mtg _ HRL.out (by omega) HMtg.out Otg_13.out.inTs).mono ?_); rintro e w14 ⟨rfl, hb⟩; refine Hid.out ?_)
    have Otw_14 := Lib.hid (Otw_13.out.below hb)
    have Otg_14 := Lib.hid (Otg_13.out.below hb)
    have RL0_14 := Lib.hid (RL0_13.out.below hb)
    have B14 := Lib.hid (B13.out.trans (hb.mono B13.out.size))
    have Z14 := Lib.hid hb.size
    clear hb
    clear qL00
    have qL00 := RL0_14.out.one0
    refine Lib.hid ?_
    go_wp2_with (go_at_call 11; (refine (rsto a0 c0 R0 _ HZ0.out (H0.out.inRu.below B14.out)).mono ?_); rintro e w15 ⟨by0, dy0, qy0, rfl, hq, ho, hb⟩; refine Hid.out ?_)
    have Qy0 := Lib.hid hq
    have Otw_15 := Lib.hid (Otw_14.out.below hb)
    have Otg_15 := Lib.hid (Otg_14.out.below hb)
    have RL0_15 := Lib.hid (RL0_14.out.below hb)
    have Oy0_15 := Lib.hid (OwnHRu.of ho)
    have B15 := Lib.hid (B14.out.trans (hb.mono B14.out.size))
    have Z15 := Lib.hid hb.size
    clear hq ho hb
    clear qL00
    have qL00 := RL0_15.out.one0
    refine Lib.hid ?_
    go_wp2_with (go_at_call 12; (refine (vars_implT by0 dy0 R0 r _ HRR.out (Oy0_15.out.smRu Qy0.out (ru_len HZ0.out) (ru_mem HZ0.out))).mono ?_); rintro e w16 ⟨bth, dth, rfl, ho, hb⟩; refine Hid.out ?_)
    have Otw_16 := Lib.hid (Otw_15.out.below hb)
    have Otg_16 := Lib.hid (Otg_15.out.below hb)
    have Oy0_16 := Lib.hid (Oy0_15.out.below hb)
    have RL0_16 := Lib.hid (RL0_15.out.below hb)
    have Oth_16 := Lib.hid (OwnHTs.of ho)
    have B16 := Lib.hid (B15.out.trans (hb.mono B15.out.size))
    have Z16 := Lib.hid hb.size
    clear ho hb
    clear qL00
    have qL00 := RL0_16.out.one0
    refine Lib.hid ?_
    go_wp2_with (go_at_call 13; (with_reducible refine (teq_l bth btw dth dtw r _ HRL.out Oth_16.out.inTs Otw_16.out.inTs).mono ?_); rintro e w17 ⟨rfl, hb⟩; refine Hid.out ?_)
    have Otw_17 := Lib.hid (Otw_16.out.below hb)
    have Otg_17 := Lib.hid (Otg_16.out.below hb)
    have Oth_17 := Lib.hid (Oth_16.out.below hb)
    have RL0_17 := Lib.hid (RL0_16.out.below hb)
    have B17 := Lib.hid (B16.out.trans (hb.mono B16.out.size))
    have Z17 := Lib.hid hb.size
    clear hb
    clear qL00
    have qL00 := RL0_17.out.one0
    refine Lib.hid ?_
    go_wp2_with (go_at_call 17; (refine (tsheldv btg dtg r.length 1 mtg _ HRL.out (by omega) HMtg.out Otg_17.out.inTs).mono ?_); rintro e w18 ⟨rfl, hb⟩; refine Hid.out ?_)
    have Otw_18 := Lib.hid (Otw_17.out.below hb)
    have Otg_18 := Lib.hid (Otg_17.out.below hb)
    have Oth_18 := Lib.hid (Oth_17.out.below hb)
    have RL0_18 := Lib.hid (RL0_17.out.below hb)
    have B18 := Lib.hid (B17.out.trans (hb.mono B17.out.size))
    have Z18 := Lib.hid hb.size
    clear hb
    clear qL00
    have qL00 := RL0_18.out.one0
    refine Lib.hid ?_
    go_wp2
    go_ret
    exact ⟨rfl, B18.out⟩
  · have HS0 := Lib.hid hs
    clear hs
    go_enter Try.func3, Try.ntmps3
    obtain ⟨w1, hv⟩ : ∃ x, x = w.alloc (.cells #[.slice a0 R0.length c0] 24) := ⟨_, rfl⟩
    have hb : Below w.heap.size w w1 := by rw [hv]; exact (Below.refl _ _).alloc (Nat.le_refl _) _
    have RL0_1 := Lib.hid (show BlkV w1 w.heap.size 24 #[.slice a0 R0.length c0] by rw [hv]; exact BlkV.new _ _ _)
    have B1 := Lib.hid hb
    have Z1 := Lib.hid (show w.heap.size + 1 ≤ w1.heap.size by rw [hv]; simp)
    have V1 := Lib.hid hv
    clear hb hv
    have qL00 := RL0_1.out.one0
    go_wp2_with (go_at_call 9; rw [← V1.out]; (refine (uss_no a0 c0 R0 1048576 _ H0.out B1.out (by omega) HS0.out).mono ?_); rintro e wz ⟨rfl, hb⟩)
    go_ret
    exact ⟨rfl, B1.out.trans (hb.mono B1.out.size)⟩

end Go.Proofs.Ytookcggmapldeaa
