/-
  The walk of laws.FnExactParseRules. By an AI agent.
-/
import Derived.Test.YtknkhljegmielaaDoorPrsS
import Derived.Test.YtknkhljegmielaaDoorRdR
import Derived.Test.YtknkhljegmielaaDoorRuHd
import Derived.Test.YtknkhljegmielaaDoorRuT
import Derived.Test.YtknkhljegmielaaDoorRuH
import Derived.Test.YtknkhljegmielaaDoorGMem
import Derived.Test.YtknkhljegmielaaDoorMaxAt
namespace Go.Proofs.YtknkhljegmielaaDoor
open Go.RowKit
set_option linter.unusedVariables false

set_option maxRecDepth 100000 in
set_option maxHeartbeats 6400000 in
theorem FnExactParseRules_walk (a0 : ByteArray) (w0 : a0.size ≤ maxLen) (w : World) (ht : TabAt w) (hm : MaxAt w) :
    Calls Tryd.prog 4 #[.string a0] w fun e w' => e = .returned (.bool true) ∧ Below w.heap.size w w' := by
  have HT := Lib.hid ht
  clear ht
  have HM := Lib.hid hm
  clear hm
  by_cases hb0 : 1048576 < (a0.size : Int)
  · go_enter Tryd.func4, Tryd.ntmps4
    go_wp2
    go_ret
    exact ⟨rfl, Below.refl _ _⟩
  · have N0 := Lib.hid (show a0.size ≤ 1048576 by omega)
    obtain ⟨rR, rB, hr⟩ := pr_some a0.data.toList
    have HZr := Lib.hid (pr_ruz hr)
    have HRL := Lib.hid (pr_lens hr)
    have HRR := Lib.hid hr
    clear hr
    go_enter Tryd.func4, Tryd.ntmps4
    go_wp2_with (go_at_call 10; (refine (prs_spec a0 rR rB _ N0.out HRR.out).mono ?_); rintro e w1 ⟨bxw, dxw, qxw, rfl, hq, ho, hb⟩; refine Hid.out ?_)
    have Qxw := Lib.hid hq
    have Oxw_1 := Lib.hid (OwnHRu.of ho)
    have B1 := Lib.hid hb
    have Z1 := Lib.hid hb.size
    clear hq ho hb
    obtain ⟨w2, hv⟩ : ∃ x, x = w1.alloc (.cells #[.slice bxw rR.length dxw] 29) := ⟨_, rfl⟩
    have hb : Below w1.heap.size w1 w2 := by rw [hv]; exact (Below.refl _ _).alloc (Nat.le_refl _) _
    have Oxw_2 := Lib.hid (Oxw_1.out.below hb)
    have Rxw_2 := Lib.hid (show BlkV w2 w1.heap.size 29 #[.slice bxw rR.length dxw] by rw [hv]; exact BlkV.new _ _ _)
    have B2 := Lib.hid (B1.out.trans (hb.mono B1.out.size))
    have Z2 := Lib.hid (show w1.heap.size + 1 ≤ w2.heap.size by rw [hv]; simp)
    have V2 := Lib.hid hv
    clear hb hv
    have qxw0 := Rxw_2.out.one0
    have pxw0 := qxw0
    rw [V2.out] at pxw0
    refine Lib.hid ?_
    go_wp2_with (go_at_call 11; rw [← V2.out]; (refine (prs_impl a0 rR rB _ N0.out HRR.out (HT.out.on B2.out) (HM.out.on B2.out)).mono ?_); rintro e w3 ⟨bxg, dxg, qxg, rfl, hq, ho, hb⟩; refine Hid.out ?_)
    have Qxg := Lib.hid hq
    have Oxw_3 := Lib.hid (Oxw_2.out.below hb)
    have Rxw_3 := Lib.hid (Rxw_2.out.below hb)
    have Oxg_3 := Lib.hid (OwnHRu.of ho)
    have B3 := Lib.hid (B2.out.trans (hb.mono B2.out.size))
    have Z3 := Lib.hid hb.size
    clear hq ho hb
    obtain ⟨w4, hv⟩ : ∃ x, x = w3.alloc (.cells #[.slice bxg rR.length dxg] 29) := ⟨_, rfl⟩
    have hb : Below w3.heap.size w3 w4 := by rw [hv]; exact (Below.refl _ _).alloc (Nat.le_refl _) _
    have Oxw_4 := Lib.hid (Oxw_3.out.below hb)
    have Oxg_4 := Lib.hid (Oxg_3.out.below hb)
    have Rxw_4 := Lib.hid (Rxw_3.out.below hb)
    have Rxg_4 := Lib.hid (show BlkV w4 w3.heap.size 29 #[.slice bxg rR.length dxg] by rw [hv]; exact BlkV.new _ _ _)
    have B4 := Lib.hid (B3.out.trans (hb.mono B3.out.size))
    have Z4 := Lib.hid (show w3.heap.size + 1 ≤ w4.heap.size by rw [hv]; simp)
    have V4 := Lib.hid hv
    clear hb hv
    clear qxw0 pxw0
    have qxw0 := Rxw_4.out.one0
    have pxw0 := qxw0
    rw [V4.out] at pxw0
    have qxg0 := Rxg_4.out.one0
    have pxg0 := qxg0
    rw [V4.out] at pxg0
    refine Lib.hid ?_
    go_wp2_with (go_at_call 9; rw [← V4.out]; (with_reducible refine (seq1 bxg bxw dxg dxw rR _ HRL.out.1 HRL.out.2 (Oxg_4.out.inRu Qxg.out) (Oxw_4.out.inRu Qxw.out)).mono ?_); rintro e w5 ⟨rfl, hb⟩; refine Hid.out ?_)
    have Oxw_5 := Lib.hid (Oxw_4.out.below hb)
    have Oxg_5 := Lib.hid (Oxg_4.out.below hb)
    have Rxw_5 := Lib.hid (Rxw_4.out.below hb)
    have Rxg_5 := Lib.hid (Rxg_4.out.below hb)
    have B5 := Lib.hid (B4.out.trans (hb.mono B4.out.size))
    have Z5 := Lib.hid hb.size
    clear hb
    clear qxw0 pxw0 qxg0 pxg0
    have qxw0 := Rxw_5.out.one0
    have qxg0 := Rxg_5.out.one0
    refine Lib.hid ?_
    obtain ⟨mxg, hm⟩ : ∃ m : Nat, 1 + ruT rR rR.length = m := ⟨_, rfl⟩
    have HMxg := Lib.hid hm
    have hmb : mxg ≤ 3200000 := by have := ruT_small HZr.out; omega
    have hmp : 0 < mxg := by omega
    clear hm
    have HLOxg := Lib.hid (show w3.heap.size ≤ w5.heap.size by have := Z1.out; have := Z2.out; have := Z3.out; have := Z4.out; have := Z5.out; omega)
    go_wp2_with (go_at_call 12; (refine (rumark_m w2.heap.size w3.heap.size bxg dxg rR.length mxg qxg rR 1 _ Qxg.out rfl (by omega) HZr.out HMxg.out HLOxg.out Oxg_5.out).mono ?_); rintro e w6 ⟨rfl, ⟨qxgm, hq, ho⟩, hc⟩; refine Hid.out ?_)
    have Qxgm := Lib.hid hq
    have Oxg_6 := Lib.hid ho
    clear hq ho
    have Oxw_6 := Lib.hid (Oxw_5.out.chg hc (by have := Z1.out; have := Z2.out; have := Z3.out; have := Z4.out; have := Z5.out; omega))
    have Rxw_6 := Lib.hid (Rxw_5.out.chgU hc (by have := Z1.out; have := Z2.out; have := Z3.out; have := Z4.out; have := Z5.out; omega))
    have Rxg_6 := Lib.hid (Rxg_5.out.chgU hc (by have := Z1.out; have := Z2.out; have := Z3.out; have := Z4.out; have := Z5.out; omega))
    have B6 := Lib.hid (below_chg B5.out hc (by have := Z1.out; have := Z2.out; have := Z3.out; have := Z4.out; have := Z5.out; omega))
    have Z6 := Lib.hid hc.size
    clear hc
    clear qxw0 qxg0
    have qxw0 := Rxw_6.out.one0
    have qxg0 := Rxg_6.out.one0
    refine Lib.hid ?_
    go_wp2_with (go_at_call 13; (refine (ruheld_m bxg dxg rR.length 1 mxg rR _ rfl (by omega) HZr.out HMxg.out (Oxg_6.out.inRu Qxgm.out)).mono ?_); rintro e w7 ⟨rfl, hb⟩; refine Hid.out ?_)
    have Oxw_7 := Lib.hid (Oxw_6.out.below hb)
    have Oxg_7 := Lib.hid (Oxg_6.out.below hb)
    have Rxw_7 := Lib.hid (Rxw_6.out.below hb)
    have Rxg_7 := Lib.hid (Rxg_6.out.below hb)
    have B7 := Lib.hid (B6.out.trans (hb.mono B6.out.size))
    have Z7 := Lib.hid hb.size
    clear hb
    clear qxw0 qxg0
    have qxw0 := Rxw_7.out.one0
    have qxg0 := Rxg_7.out.one0
    refine Lib.hid ?_
    go_wp2_with (go_at_call 11; (refine (prs_impl a0 rR rB _ N0.out HRR.out (HT.out.on B7.out) (HM.out.on B7.out)).mono ?_); rintro e w8 ⟨bxh, dxh, qxh, rfl, hq, ho, hb⟩; refine Hid.out ?_)
    have Qxh := Lib.hid hq
    have Oxw_8 := Lib.hid (Oxw_7.out.below hb)
    have Oxg_8 := Lib.hid (Oxg_7.out.below hb)
    have Rxw_8 := Lib.hid (Rxw_7.out.below hb)
    have Rxg_8 := Lib.hid (Rxg_7.out.below hb)
    have Oxh_8 := Lib.hid (OwnHRu.of ho)
    have B8 := Lib.hid (B7.out.trans (hb.mono B7.out.size))
    have Z8 := Lib.hid hb.size
    clear hq ho hb
    obtain ⟨w9, hv⟩ : ∃ x, x = w8.alloc (.cells #[.slice bxh rR.length dxh] 29) := ⟨_, rfl⟩
    have hb : Below w8.heap.size w8 w9 := by rw [hv]; exact (Below.refl _ _).alloc (Nat.le_refl _) _
    have Oxw_9 := Lib.hid (Oxw_8.out.below hb)
    have Oxg_9 := Lib.hid (Oxg_8.out.below hb)
    have Oxh_9 := Lib.hid (Oxh_8.out.below hb)
    have Rxw_9 := Lib.hid (Rxw_8.out.below hb)
    have Rxg_9 := Lib.hid (Rxg_8.out.below hb)
    have Rxh_9 := Lib.hid (show BlkV w9 w8.heap.size 29 #[.slice bxh rR.length dxh] by rw [hv]; exact BlkV.new _ _ _)
    have B9 := Lib.hid (B8.out.trans (hb.mono B8.out.size))
    have Z9 := Lib.hid (show w8.heap.size + 1 ≤ w9.heap.size by rw [hv]; simp)
    have V9 := Lib.hid hv
    clear hb hv
    clear qxw0 qxg0
    have qxw0 := Rxw_9.out.one0
    have pxw0 := qxw0
    rw [V9.out] at pxw0
    have qxg0 := Rxg_9.out.one0
    have pxg0 := qxg0
    rw [V9.out] at pxg0
    have qxh0 := Rxh_9.out.one0
    have pxh0 := qxh0
    rw [V9.out] at pxh0
    refine Lib.hid ?_
    go_wp2_with (go_at_call 9; rw [← V9.out]; (with_reducible refine (seq1 bxh bxw dxh dxw rR _ HRL.out.1 HRL.out.2 (Oxh_9.out.inRu Qxh.out) (Oxw_9.out.inRu Qxw.out)).mono ?_); rintro e w10 ⟨rfl, hb⟩; refine Hid.out ?_)
    have Oxw_10 := Lib.hid (Oxw_9.out.below hb)
    have Oxg_10 := Lib.hid (Oxg_9.out.below hb)
    have Oxh_10 := Lib.hid (Oxh_9.out.below hb)
    have Rxw_10 := Lib.hid (Rxw_9.out.below hb)
    have Rxg_10 := Lib.hid (Rxg_9.out.below hb)
    have Rxh_10 := Lib.hid (Rxh_9.out.below hb)
    have B10 := Lib.hid (B9.out.trans (hb.mono B9.out.size))
    have Z10 := Lib.hid hb.size
    clear hb
    clear qxw0 pxw0 qxg0 pxg0 qxh0 pxh0
    have qxw0 := Rxw_10.out.one0
    have qxg0 := Rxg_10.out.one0
    have qxh0 := Rxh_10.out.one0
    refine Lib.hid ?_
    go_wp2_with (go_at_call 13; (refine (ruheld_m bxg dxg rR.length 1 mxg rR _ rfl (by omega) HZr.out HMxg.out (Oxg_10.out.inRu Qxgm.out)).mono ?_); rintro e w11 ⟨rfl, hb⟩; refine Hid.out ?_)
    have Oxw_11 := Lib.hid (Oxw_10.out.below hb)
    have Oxg_11 := Lib.hid (Oxg_10.out.below hb)
    have Oxh_11 := Lib.hid (Oxh_10.out.below hb)
    have Rxw_11 := Lib.hid (Rxw_10.out.below hb)
    have Rxg_11 := Lib.hid (Rxg_10.out.below hb)
    have Rxh_11 := Lib.hid (Rxh_10.out.below hb)
    have B11 := Lib.hid (B10.out.trans (hb.mono B10.out.size))
    have Z11 := Lib.hid hb.size
    clear hb
    clear qxw0 qxg0 qxh0
    have qxw0 := Rxw_11.out.one0
    have qxg0 := Rxg_11.out.one0
    have qxh0 := Rxh_11.out.one0
    refine Lib.hid ?_
    go_wp2
    go_ret
    exact ⟨rfl, B11.out⟩

end Go.Proofs.YtknkhljegmielaaDoor
