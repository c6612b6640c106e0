/-
  The walk of laws.FnExactParseFeatures. By an AI agent.
-/
import Derived.Test.YtpogfjcllcmaoaaDoorFeatPI
namespace Go.Proofs.YtpogfjcllcmaoaaDoor
open Go.RowKit
set_option linter.unusedVariables false

set_option maxRecDepth 100000 in
set_option maxHeartbeats 3200000 in
theorem FnExactParseFeatures_walk (a0 : ByteArray) (w0 : a0.size ≤ maxLen) (w : World) (ht : TabAt w) (hx : MaxAt w) :
    Calls Tryd.prog 4 #[.string a0] w fun e w' => e = .returned (.bool true) ∧ Below w.heap.size w w' := by
  have HT := Lib.hid ht
  have HX := Lib.hid hx
  clear ht hx
  by_cases hbig : 1048576 < (a0.size : Int)
  · go_enter Tryd.func4, Tryd.ntmps4
    go_wp2
    go_ret
    exact ⟨rfl, Below.refl _ _⟩
  · have hs : a0.size ≤ 1048576 := by omega
    have HS := Lib.hid hs
    obtain ⟨L, r, hr⟩ := pf_some a0.data.toList
    have hll := pf_len hr
    have HL4 := Lib.hid (show L.length ≤ 4000000 by omega)
    have HLM := Lib.hid (show L.length ≤ maxLen by unfold maxLen; omega)
    have HR := Lib.hid hr
    clear hs hr hll
    cases r
    all_goals
      go_enter Tryd.func4, Tryd.ntmps4
      go_wp2_with (go_at_call 9; (refine (pf_spec a0 L _ _ HS.out HR.out).mono ?_); rintro e w1 ⟨aw, cw, rfl, ho, hb⟩; refine Hid.out ?_)
      have Ow_1 := Lib.hid (OwnJ.of ho)
      have B1 := Lib.hid hb
      have Z1 := Lib.hid hb.size
      clear ho hb
      refine Lib.hid ?_
      go_wp2_with (go_at_call 10; (refine (pf_impl a0 L _ _ HS.out HR.out (HT.out.on B1.out) (HX.out.on B1.out)).mono ?_); rintro e w2 ⟨ag, cg, rfl, ho, hb⟩; refine Hid.out ?_)
      have Og_2 := Lib.hid (OwnJ.of ho)
      have Ow_2 := Lib.hid (Ow_1.out.below hb)
      have B2 := Lib.hid (B1.out.trans (hb.mono B1.out.size))
      have Z2 := Lib.hid hb.size
      clear ho hb
      refine Lib.hid ?_
      go_wp2_with (go_at_call 8; (refine (eq_int ag aw cg cw L _ HLM.out Og_2.out.inI Ow_2.out.inI).mono ?_); rintro e w3 ⟨rfl, hb⟩; refine Hid.out ?_)
      have Ow_3 := Lib.hid (Ow_2.out.below hb)
      have Og_3 := Lib.hid (Og_2.out.below hb)
      have B3 := Lib.hid (B2.out.trans (hb.mono B2.out.size))
      have Z3 := Lib.hid hb.size
      clear hb
      refine Lib.hid ?_
      go_wp2_with (go_at_call 11; (refine (mark_int w1.heap.size ag cg L 1 _ HL4.out (by omega) Og_3.out.1).mono ?_); rintro e w4 ⟨rfl, ho, hg⟩; refine Hid.out ?_)
      have Ow_4 := Lib.hid (Ow_3.out.other hg Og_3.out.row (by have := Z1.out; have := Z2.out; have := Z3.out; omega))
      have Og_4 := Lib.hid (show OwnJ w4 w1.heap.size w2.heap.size (.slice ag L.length cg) (marksI 1 L.length) from ⟨ho, Og_3.out.2⟩)
      have B4 := Lib.hid (below_rowj B3.out Og_3.out hg (by have := Z1.out; have := Z2.out; have := Z3.out; omega))
      have Z4 := Lib.hid hg.size
      clear ho hg
      refine Lib.hid ?_
      go_wp2_with (go_at_call 12; (refine (held_int ag cg L.length 1 _ HL4.out (by omega) Og_4.out.inI).mono ?_); rintro e w5 ⟨rfl, hb⟩; refine Hid.out ?_)
      have Ow_5 := Lib.hid (Ow_4.out.below hb)
      have Og_5 := Lib.hid (Og_4.out.below hb)
      have B5 := Lib.hid (B4.out.trans (hb.mono B4.out.size))
      have Z5 := Lib.hid hb.size
      clear hb
      have hl4 := HL4.out
      refine Lib.hid ?_
      go_wp2_with (go_at_call 10; (refine (pf_impl a0 L _ _ HS.out HR.out (HT.out.on B5.out) (HX.out.on B5.out)).mono ?_); rintro e w6 ⟨ah, ch, rfl, ho, hb⟩; refine Hid.out ?_)
      have Oh_6 := Lib.hid (OwnJ.of ho)
      have Ow_6 := Lib.hid (Ow_5.out.below hb)
      have Og_6 := Lib.hid (Og_5.out.below hb)
      have B6 := Lib.hid (B5.out.trans (hb.mono B5.out.size))
      clear ho hb
      refine Lib.hid ?_
      go_wp2_with (go_at_call 8; (refine (eq_int ah aw ch cw L _ HLM.out Oh_6.out.inI Ow_6.out.inI).mono ?_); rintro e w7 ⟨rfl, hb⟩; refine Hid.out ?_)
      have Og_7 := Lib.hid (Og_6.out.below hb)
      have B7 := Lib.hid (B6.out.trans (hb.mono B6.out.size))
      clear hb
      refine Lib.hid ?_
      go_wp2_with (go_at_call 12; (refine (held_int ag cg L.length 1 _ HL4.out (by omega) Og_7.out.inI).mono ?_); rintro e w8 ⟨rfl, hb⟩)
      go_ret
      exact ⟨rfl, B7.out.trans (hb.mono B7.out.size)⟩

end Go.Proofs.YtpogfjcllcmaoaaDoor
