/-
  The walk of laws.FnExactSoundKeys. By an AI agent.
-/
import Derived.Test.YtggohfinkpppkabDoorSndKeys
namespace Go.Proofs.YtggohfinkpppkabDoor
open Go.RowKit
set_option linter.unusedVariables false

set_option maxRecDepth 100000 in
set_option maxHeartbeats 1600000 in
theorem FnExactSoundKeys_walk (a0 : ByteArray) (w0 : a0.size ≤ maxLen) (w : World) (hT : SpT w) :
    Calls Tryd.prog 6 #[.string a0] w fun e w' => e = .returned (.bool true) ∧ Below w.heap.size w w' := by
  have HT := Lib.hid hT
  clear hT
  by_cases hbig : 1048576 < (a0.size : Int)
  · go_enter Tryd.func6, Tryd.ntmps6
    go_wp2
    go_ret
    exact ⟨rfl, Below.refl _ _⟩
  · have hs : a0.size ≤ 1048576 := by omega
    have HS := Lib.hid hs
    have HR := Lib.hid (sound_len a0 HS.out)
    clear hs
    go_enter Tryd.func6, Tryd.ntmps6
    go_wp2_with (go_at_call 46; (refine (sound_spec a0 _ HS.out (HT.out.below (Below.refl _ _))).mono ?_); rintro e w1 ⟨bw, dw, rfl, ho, hb⟩; refine Hid.out ?_)
    refine Lib.hid ?_
    have Ow_1 := Lib.hid (OwnH.of ho)
    have B1 := Lib.hid hb
    have Z1 := Lib.hid hb.size
    clear ho hb
    go_wp2_with (go_at_call 43; (refine (sound_impl a0 _ HS.out (HT.out.below B1.out)).mono ?_); rintro e w2 ⟨bg, dg, rfl, ho, hb⟩; refine Hid.out ?_)
    refine Lib.hid ?_
    have Og_2 := Lib.hid (OwnH.of ho)
    have Ow_2 := Lib.hid (Ow_1.out.below hb)
    have B2 := Lib.hid (B1.out.trans (hb.mono B1.out.size))
    have Z2 := Lib.hid hb.size
    clear ho hb
    go_wp2_with (go_at_call 9; (refine (eq_same bg bw dg dw (soundR a0.data.toList) _ (by have := HR.out; unfold maxLen; omega) Og_2.out.inS Ow_2.out.inS).mono ?_); rintro e w3 ⟨rfl, hb⟩; refine Hid.out ?_)
    refine Lib.hid ?_
    have Ow_3 := Lib.hid (Ow_2.out.below hb)
    have Og_3 := Lib.hid (Og_2.out.below hb)
    have B3 := Lib.hid (B2.out.trans (hb.mono B2.out.size))
    have Z3 := Lib.hid hb.size
    clear hb
    go_wp2_with (go_at_call 10; (refine (mark_any w1.heap.size bg dg (soundR a0.data.toList) (1) _ HR.out (by omega) (by omega) Og_3.out.1).mono ?_); rintro e w4 ⟨rfl, ho, hg⟩; refine Hid.out ?_)
    refine Lib.hid ?_
    have Ow_4 := Lib.hid (Ow_3.out.other hg Og_3.out.row (by have := Z1.out; have := Z2.out; have := Z3.out; omega))
    have Og_4 := Lib.hid (show OwnH _ _ _ _ _ from And.intro ho Og_3.out.2)
    have B4 := Lib.hid (below_row B3.out Og_3.out hg (by have := Z1.out; have := Z2.out; have := Z3.out; omega))
    have Z4 := Lib.hid hg.size
    clear ho hg
    go_wp2_with (go_at_call 11; (refine (held_any bg dg (soundR a0.data.toList).length 1 _ HR.out (by omega) (by omega) (OwnS.inS Og_4.out.1)).mono ?_); rintro e w5 ⟨rfl, hb⟩; refine Hid.out ?_)
    refine Lib.hid ?_
    have Ow_5 := Lib.hid (Ow_4.out.below hb)
    have Og_5 := Lib.hid (Og_4.out.below hb)
    have B5 := Lib.hid (B4.out.trans (hb.mono B4.out.size))
    have Z5 := Lib.hid hb.size
    clear hb
    go_wp2_with (go_at_call 43; (refine (sound_impl a0 _ HS.out (HT.out.below B5.out)).mono ?_); rintro e w6 ⟨bh, dh, rfl, ho, hb⟩; refine Hid.out ?_)
    refine Lib.hid ?_
    have Oh_6 := Lib.hid (OwnH.of ho)
    have Ow_6 := Lib.hid (Ow_5.out.below hb)
    have Og_6 := Lib.hid (Og_5.out.below hb)
    have B6 := Lib.hid (B5.out.trans (hb.mono B5.out.size))
    have Z6 := Lib.hid hb.size
    clear ho hb
    go_wp2_with (go_at_call 9; (refine (eq_same bh bw dh dw (soundR a0.data.toList) _ (by have := HR.out; unfold maxLen; omega) Oh_6.out.inS Ow_6.out.inS).mono ?_); rintro e w7 ⟨rfl, hb⟩; refine Hid.out ?_)
    refine Lib.hid ?_
    have Ow_7 := Lib.hid (Ow_6.out.below hb)
    have Og_7 := Lib.hid (Og_6.out.below hb)
    have Oh_7 := Lib.hid (Oh_6.out.below hb)
    have B7 := Lib.hid (B6.out.trans (hb.mono B6.out.size))
    have Z7 := Lib.hid hb.size
    clear hb
    go_wp2_with (go_at_call 11; (refine (held_any bg dg (soundR a0.data.toList).length 1 _ HR.out (by omega) (by omega) (OwnS.inS Og_7.out.1)).mono ?_); rintro e w8 ⟨rfl, hb⟩; refine Hid.out ?_)
    refine Lib.hid ?_
    have Ow_8 := Lib.hid (Ow_7.out.below hb)
    have Og_8 := Lib.hid (Og_7.out.below hb)
    have Oh_8 := Lib.hid (Oh_7.out.below hb)
    have B8 := Lib.hid (B7.out.trans (hb.mono B7.out.size))
    have Z8 := Lib.hid hb.size
    clear hb
    go_wp2
    go_ret
    exact ⟨rfl, B8.out⟩

end Go.Proofs.YtggohfinkpppkabDoor
