/-
  The walk of laws.FnExactCountTokens. By an AI agent.
-/
import Derived.Test.YtggohfinkpppkaaCntC
import Derived.Test.YtggohfinkpppkaaTcM
import Derived.Test.YtggohfinkpppkaaSsT
namespace Go.Proofs.Ytggohfinkpppkaa
open Go.RowKit
set_option linter.unusedVariables false

set_option maxRecDepth 100000 in
set_option maxHeartbeats 1600000 in
theorem FnExactCountTokens_walk (a0 : Option Addr) (c0 : Nat) (l0 : List (List Str)) (w : World) (h0 : ArgSS w a0 l0) :
    Calls Try.prog 7 #[.slice a0 l0.length c0] w fun e w' => e = .returned (.bool true) ∧ Below w.heap.size w w' := by
  have H0 := Lib.hid h0
  clear h0
  by_cases hs : yzL l0 ≤ 1048576
  · obtain ⟨r0, hr⟩ : ∃ r : Nat, r + yzL l0 = 1048576 := ⟨1048576 - yzL l0, by omega⟩
    have hrl0 : (r0 : Int) ≤ 1048576 := by omega
    have HS0 := Lib.hid hr
    have HZ0 := Lib.hid (show yzL l0 ≤ 1048576 by omega)
    clear hs hr
    obtain ⟨r, hr⟩ : ∃ r, ctR l0 = r := ⟨_, rfl⟩
    have HRL := Lib.hid (show r.length ≤ 4000000 by rw [← hr]; exact (ct_small HZ0.out))
    have HRR := Lib.hid hr
    clear hr
    go_enter Try.func7, Try.ntmps7
    go_wp2_with (go_at_call 32; (refine (yz_yes a0 c0 l0 1048576 r0 _ H0.out (Below.refl _ _) (by omega) HS0.out).mono ?_); rintro e w' ⟨rfl, rfl⟩; refine Hid.out ?_)
    refine Lib.hid ?_
    go_wp2_with (go_at_call 34; (refine (sto_any a0 c0 l0 _ HZ0.out (H0.out.1.below (Below.refl _ _))).mono ?_); rintro e w1 ⟨bs0, ds0, vs0, rfl, ho, hb⟩; refine Hid.out ?_)
    refine Lib.hid ?_
    have Os0_1 := Lib.hid (OwnHS.of ho)
    have B1 := Lib.hid hb
    have Z1 := Lib.hid hb.size
    clear ho hb
    go_wp2_with (go_at_call 33; (refine (cnt_specC bs0 ds0 l0  r _  HRR.out (Os0_1.out.smS HZ0.out)).mono ?_); rintro e w2 ⟨bw, dw, rfl, ho, hb⟩; refine Hid.out ?_)
    refine Lib.hid ?_
    have Ow_2 := Lib.hid (OwnHT.of ho)
    have Os0_2 := Lib.hid (Os0_1.out.below hb)
    have B2 := Lib.hid (B1.out.trans (hb.mono B1.out.size))
    have Z2 := Lib.hid hb.size
    clear ho hb
    go_wp2_with (go_at_call 34; (refine (sto_any a0 c0 l0 _ HZ0.out (H0.out.1.below B2.out)).mono ?_); rintro e w3 ⟨bx0, dx0, vx0, rfl, ho, hb⟩; refine Hid.out ?_)
    refine Lib.hid ?_
    have Ox0_3 := Lib.hid (OwnHS.of ho)
    have Ow_3 := Lib.hid (Ow_2.out.below hb)
    have B3 := Lib.hid (B2.out.trans (hb.mono B2.out.size))
    have Z3 := Lib.hid hb.size
    clear ho hb
    go_wp2_with (go_at_call 35; (refine (cnt_implC bx0 dx0 l0  r _  HRR.out (Ox0_3.out.smS HZ0.out)).mono ?_); rintro e w4 ⟨bg, dg, rfl, ho, hb⟩; refine Hid.out ?_)
    refine Lib.hid ?_
    have Og_4 := Lib.hid (OwnHT.of ho)
    have Ow_4 := Lib.hid (Ow_3.out.below hb)
    have Ox0_4 := Lib.hid (Ox0_3.out.below hb)
    have B4 := Lib.hid (B3.out.trans (hb.mono B3.out.size))
    have Z4 := Lib.hid hb.size
    clear ho hb
    go_wp2_with (go_at_call 16; (refine (teq_same bg bw dg dw r _ (by have := HRL.out; unfold maxLen; omega) Og_4.out.inT Ow_4.out.inT).mono ?_); rintro e w5 ⟨rfl, hb⟩; refine Hid.out ?_)
    refine Lib.hid ?_
    have Ow_5 := Lib.hid (Ow_4.out.below hb)
    have Ox0_5 := Lib.hid (Ox0_4.out.below hb)
    have Og_5 := Lib.hid (Og_4.out.below hb)
    have B5 := Lib.hid (B4.out.trans (hb.mono B4.out.size))
    have Z5 := Lib.hid hb.size
    clear hb
    go_wp2_with (go_at_call 34; (refine (sto_any a0 c0 l0 _ HZ0.out (H0.out.1.below B5.out)).mono ?_); rintro e w6 ⟨bt0, dt0, vt0, rfl, ho, hb⟩; refine Hid.out ?_)
    refine Lib.hid ?_
    have Ot0_6 := Lib.hid (OwnHS.of ho)
    have Ow_6 := Lib.hid (Ow_5.out.below hb)
    have Ox0_6 := Lib.hid (Ox0_5.out.below hb)
    have Og_6 := Lib.hid (Og_5.out.below hb)
    have B6 := Lib.hid (B5.out.trans (hb.mono B5.out.size))
    have Z6 := Lib.hid hb.size
    clear ho hb
    go_wp2_with (go_at_call 36; (refine (seq_same bx0 bt0 dx0 dt0 l0 _ HZ0.out Ox0_6.out.inSS Ot0_6.out.inSS).mono ?_); rintro e w7 ⟨rfl, hb⟩; refine Hid.out ?_)
    refine Lib.hid ?_
    have Ow_7 := Lib.hid (Ow_6.out.below hb)
    have Ox0_7 := Lib.hid (Ox0_6.out.below hb)
    have Og_7 := Lib.hid (Og_6.out.below hb)
    have Ot0_7 := Lib.hid (Ot0_6.out.below hb)
    have B7 := Lib.hid (B6.out.trans (hb.mono B6.out.size))
    have Z7 := Lib.hid hb.size
    clear hb
    go_wp2_with (go_at_call 37; (refine (smark_any w2.heap.size w3.heap.size bx0 dx0 vx0 l0 (1) _ HZ0.out (by omega) (by omega) Ox0_7.out).mono ?_); rintro e w8 ⟨rfl, hg⟩; refine Hid.out ?_)
    refine Lib.hid ?_
    have Ow_8 := Lib.hid (Ow_7.out.chg hg (by have := Z1.out; have := Z2.out; have := Z3.out; have := Z4.out; have := Z5.out; have := Z6.out; have := Z7.out; omega))
    have Og_8 := Lib.hid (Og_7.out.chg hg (by have := Z1.out; have := Z2.out; have := Z3.out; have := Z4.out; have := Z5.out; have := Z6.out; have := Z7.out; omega))
    have B8 := Lib.hid (below_chg B7.out hg (by have := Z1.out; have := Z2.out; have := Z3.out; have := Z4.out; have := Z5.out; have := Z6.out; have := Z7.out; omega))
    have Z8 := Lib.hid hg.size
    clear hg
    go_wp2_with (go_at_call 16; (refine (teq_same bg bw dg dw r _ (by have := HRL.out; unfold maxLen; omega) Og_8.out.inT Ow_8.out.inT).mono ?_); rintro e w9 ⟨rfl, hb⟩; refine Hid.out ?_)
    refine Lib.hid ?_
    have Ow_9 := Lib.hid (Ow_8.out.below hb)
    have Og_9 := Lib.hid (Og_8.out.below hb)
    have B9 := Lib.hid (B8.out.trans (hb.mono B8.out.size))
    have Z9 := Lib.hid hb.size
    clear hb
    go_wp2_with (go_at_call 17; (refine (tmark_any w3.heap.size bg dg r (1) _ HRL.out (by omega) (by omega) Og_9.out.1).mono ?_); rintro e w10 ⟨rfl, ho, hg⟩; refine Hid.out ?_)
    refine Lib.hid ?_
    have Ow_10 := Lib.hid (Ow_9.out.other hg Og_9.out.row (by have := Z1.out; have := Z2.out; have := Z3.out; have := Z4.out; have := Z5.out; have := Z6.out; have := Z7.out; have := Z8.out; have := Z9.out; omega))
    have Og_10 := Lib.hid (show OwnHT _ _ _ _ _ from And.intro ho Og_9.out.2)
    have B10 := Lib.hid (below_rowT B9.out Og_9.out hg (by have := Z1.out; have := Z2.out; have := Z3.out; have := Z4.out; have := Z5.out; have := Z6.out; have := Z7.out; have := Z8.out; have := Z9.out; omega))
    have Z10 := Lib.hid hg.size
    clear ho hg
    go_wp2_with (go_at_call 38; (refine (theld_any bg dg r.length 1 _ HRL.out (by omega) (by omega) Og_10.out.inT).mono ?_); rintro e w11 ⟨rfl, hb⟩; refine Hid.out ?_)
    refine Lib.hid ?_
    have Ow_11 := Lib.hid (Ow_10.out.below hb)
    have Og_11 := Lib.hid (Og_10.out.below hb)
    have B11 := Lib.hid (B10.out.trans (hb.mono B10.out.size))
    have Z11 := Lib.hid hb.size
    clear hb
    go_wp2_with (go_at_call 34; (refine (sto_any a0 c0 l0 _ HZ0.out (H0.out.1.below B11.out)).mono ?_); rintro e w12 ⟨by0, dy0, vy0, rfl, ho, hb⟩; refine Hid.out ?_)
    refine Lib.hid ?_
    have Oy0_12 := Lib.hid (OwnHS.of ho)
    have Ow_12 := Lib.hid (Ow_11.out.below hb)
    have Og_12 := Lib.hid (Og_11.out.below hb)
    have B12 := Lib.hid (B11.out.trans (hb.mono B11.out.size))
    have Z12 := Lib.hid hb.size
    clear ho hb
    go_wp2_with (go_at_call 35; (refine (cnt_implC by0 dy0 l0  r _  HRR.out (Oy0_12.out.smS HZ0.out)).mono ?_); rintro e w13 ⟨bh, dh, rfl, ho, hb⟩; refine Hid.out ?_)
    refine Lib.hid ?_
    have Oh_13 := Lib.hid (OwnHT.of ho)
    have Ow_13 := Lib.hid (Ow_12.out.below hb)
    have Og_13 := Lib.hid (Og_12.out.below hb)
    have Oy0_13 := Lib.hid (Oy0_12.out.below hb)
    have B13 := Lib.hid (B12.out.trans (hb.mono B12.out.size))
    have Z13 := Lib.hid hb.size
    clear ho hb
    go_wp2_with (go_at_call 16; (refine (teq_same bh bw dh dw r _ (by have := HRL.out; unfold maxLen; omega) Oh_13.out.inT Ow_13.out.inT).mono ?_); rintro e w14 ⟨rfl, hb⟩; refine Hid.out ?_)
    refine Lib.hid ?_
    have Ow_14 := Lib.hid (Ow_13.out.below hb)
    have Og_14 := Lib.hid (Og_13.out.below hb)
    have Oh_14 := Lib.hid (Oh_13.out.below hb)
    have B14 := Lib.hid (B13.out.trans (hb.mono B13.out.size))
    have Z14 := Lib.hid hb.size
    clear hb
    go_wp2_with (go_at_call 38; (refine (theld_any bg dg r.length 1 _ HRL.out (by omega) (by omega) Og_14.out.inT).mono ?_); rintro e w15 ⟨rfl, hb⟩; refine Hid.out ?_)
    refine Lib.hid ?_
    have Ow_15 := Lib.hid (Ow_14.out.below hb)
    have Og_15 := Lib.hid (Og_14.out.below hb)
    have Oh_15 := Lib.hid (Oh_14.out.below hb)
    have B15 := Lib.hid (B14.out.trans (hb.mono B14.out.size))
    have Z15 := Lib.hid hb.size
    clear hb
    go_wp2
    go_ret
    exact ⟨rfl, B15.out⟩
  · have HS0 := Lib.hid hs
    clear hs
    go_enter Try.func7, Try.ntmps7
    go_wp2_with (go_at_call 32; (refine (yz_no a0 c0 l0 1048576 _ H0.out (Below.refl _ _) (by omega) HS0.out).mono ?_); rintro e wz ⟨rfl, rfl⟩)
    go_ret
    exact ⟨rfl, (Below.refl _ _)⟩

end Go.Proofs.Ytggohfinkpppkaa
