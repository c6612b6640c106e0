/-
  The walk of laws.FnExactNewRecord. By an AI agent.
-/
import Derived.Test.YtlapgcbeemdboaaRecNew
import Derived.Test.YtlapgcbeemdboaaRecLaw
namespace Go.Proofs.Ytlapgcbeemdboaa
open Go.RowKit
set_option linter.unusedVariables false

set_option maxRecDepth 100000 in
set_option maxHeartbeats 3200000 in
theorem FnExactNewRecord_walk (a0 a1 a2 : Int) (a3 : Option Addr) (c3 : Nat) (l3 : List Str) (w : World) (x0 : (Lit.int .i64 a0).wf = true) (x1 : (Lit.int .i64 a1).wf = true) (x2 : (Lit.int .i64 a2).wf = true) (h3 : ArgS w a3 l3) :
    Calls Try.prog 4 #[.int .i64 a0, .int .i64 a1, .int .i64 a2, .slice a3 l3.length c3] w fun e w' => e = .returned (.bool true) ∧ Below w.heap.size w w' := by
  have H3 := Lib.hid h3
  clear h3 x0 x1 x2
  obtain ⟨S, K, V, L, r, hr⟩ := nr_some a0 a1 a2 l3
  by_cases hs : szL l3 ≤ 1048576
  · obtain ⟨r3, hr3⟩ : ∃ r : Nat, r + szL l3 = 1048576 := ⟨1048576 - szL l3, by omega⟩
    have hrl3 : (r3 : Int) ≤ 1048576 := by omega
    have HS3 := Lib.hid hr3
    have HZ3 := Lib.hid hs
    have HM3 := Lib.hid (show l3.length ≤ maxLen by have := szL_len l3; unfold maxLen; omega)
    have HL3 := Lib.hid (sz_len hs)
    have hll : L.length ≤ 4000000 := by rcases hr with ⟨-, -, -, -, -, rfl⟩ | ⟨-, -, -, -, -, rfl⟩; exact sz_len hs; exact Nat.zero_le _
    clear hs hr3
    have HLL := Lib.hid hll
    have HML := Lib.hid (show L.length ≤ maxLen by unfold maxLen; omega)
    have HR := Lib.hid hr
    clear hr hll
    go_enter Try.func4, Try.ntmps4
    go_wp2_with (go_at_call 12; (refine (sz_yes a3 c3 l3 1048576 r3 _ H3.out (Below.refl _ _) (by omega) HS3.out).mono ?_); rintro e w1 ⟨rfl, rfl⟩; refine Hid.out ?_)
    refine Lib.hid ?_
    go_wp2_with (go_at_call 14; (refine (to_any a3 c3 l3 _ HL3.out (H3.out.1.below (Below.refl _ _))).mono ?_); rintro e w1 ⟨bs, ds, rfl, ho, hb⟩; refine Hid.out ?_)
    have hq := hb
    have Os_1 := Lib.hid (OwnH.of ho)
    have B1 := Lib.hid hq
    have Z1 := Lib.hid (hb.size)
    clear ho hb hq
    refine Lib.hid ?_
    go_wp2_with (go_at_call 13; (refine (nr_spec a0 a1 a2 bs ds l3 S K V L r _ HR.out ((Os_1.out).sm HL3.out (sz_mem HZ3.out))).mono ?_); rintro e w2 ⟨bw, dw, rfl, ho, hb⟩; refine Hid.out ?_)
    have hq := hb
    have Ow_2 := Lib.hid (OwnH.of ho)
    have Os_2 := Lib.hid (Os_1.out.below hq)
    have B2 := Lib.hid (B1.out.trans (hq.mono B1.out.size))
    have Z2 := Lib.hid (hb.size)
    clear ho hb hq
    refine Lib.hid ?_
    go_wp2_with (go_at_call 14; (refine (to_any a3 c3 l3 _ HL3.out (H3.out.1.below (B2.out.alloc B2.out.size _))).mono ?_); rintro e w3 ⟨bx, dx, rfl, ho, hb⟩; refine Hid.out ?_)
    have hq := below_new hb
    have Ox_3 := Lib.hid (OwnH.of_new ho)
    have Ow_3 := Lib.hid (Ow_2.out.below hq)
    have RW_3 := Lib.hid ((RecB.new _ _ _ _ _ _ _ rfl).below hb)
    have B3 := Lib.hid (B2.out.trans (hq.mono B2.out.size))
    have Z3 := Lib.hid (size_new hb)
    clear ho hb hq
    have qW0 := RW_3.out.c0
    have qW1 := RW_3.out.c1
    have qW2 := RW_3.out.c2
    have qW3 := RW_3.out.c3
    refine Lib.hid ?_
    go_wp2_with (go_at_call 15; (refine (nr_impl a0 a1 a2 bx dx l3 S K V L r _ HR.out ((Ox_3.out).sm HL3.out (sz_mem HZ3.out))).mono ?_); rintro e w4 ⟨bg, dg, rfl, ho, hb⟩; refine Hid.out ?_)
    have hq := hb
    have Og_4 := Lib.hid (OwnH.of ho)
    have Ow_4 := Lib.hid (Ow_3.out.below hq)
    have Ox_4 := Lib.hid (Ox_3.out.below hq)
    have RW_4 := Lib.hid (RW_3.out.below hq)
    have B4 := Lib.hid (B3.out.trans (hq.mono B3.out.size))
    have Z4 := Lib.hid (hb.size)
    clear ho hb hq
    clear qW0 qW1 qW2 qW3
    have qW0 := fun o => (RW_4.out.alloc o).c0
    have qW1 := fun o => (RW_4.out.alloc o).c1
    have qW2 := fun o => (RW_4.out.alloc o).c2
    have qW3 := fun o => (RW_4.out.alloc o).c3
    refine Lib.hid ?_
    go_wp2_with (go_at_call 11; (refine (eqr_same S K V bg bw dg dw L _ HML.out (Og_4.out.alloc _).inS (Ow_4.out.alloc _).inS).mono ?_); rintro e w5 ⟨rfl, hb⟩; refine Hid.out ?_)
    have hq := below_new hb
    have Ow_5 := Lib.hid (Ow_4.out.below hq)
    have Ox_5 := Lib.hid (Ox_4.out.below hq)
    have Og_5 := Lib.hid (Og_4.out.below hq)
    have RW_5 := Lib.hid (RW_4.out.below hq)
    have RG_5 := Lib.hid ((RecB.new _ _ _ _ _ _ _ rfl).below hb)
    have B5 := Lib.hid (B4.out.trans (hq.mono B4.out.size))
    have Z5 := Lib.hid (size_new hb)
    clear hb hq
    clear qW0 qW1 qW2 qW3
    have qW0 := RW_5.out.c0
    have qW1 := RW_5.out.c1
    have qW2 := RW_5.out.c2
    have qW3 := RW_5.out.c3
    have qG0 := RG_5.out.c0
    have qG1 := RG_5.out.c1
    have qG2 := RG_5.out.c2
    have qG3 := RG_5.out.c3
    refine Lib.hid ?_
    go_wp2_with (go_at_call 14; (refine (to_any a3 c3 l3 _ HL3.out (H3.out.1.below B5.out)).mono ?_); rintro e w6 ⟨bt, dt, rfl, ho, hb⟩; refine Hid.out ?_)
    have hq := hb
    have Ot_6 := Lib.hid (OwnH.of ho)
    have Ow_6 := Lib.hid (Ow_5.out.below hq)
    have Ox_6 := Lib.hid (Ox_5.out.below hq)
    have Og_6 := Lib.hid (Og_5.out.below hq)
    have RW_6 := Lib.hid (RW_5.out.below hq)
    have RG_6 := Lib.hid (RG_5.out.below hq)
    have B6 := Lib.hid (B5.out.trans (hq.mono B5.out.size))
    have Z6 := Lib.hid (hb.size)
    clear ho hb hq
    clear qW0 qW1 qW2 qW3 qG0 qG1 qG2 qG3
    have qW0 := RW_6.out.c0
    have qW1 := RW_6.out.c1
    have qW2 := RW_6.out.c2
    have qW3 := RW_6.out.c3
    have qG0 := RG_6.out.c0
    have qG1 := RG_6.out.c1
    have qG2 := RG_6.out.c2
    have qG3 := RG_6.out.c3
    refine Lib.hid ?_
    go_wp2_with (go_at_call 16; (refine (eq_same bx bt dx dt l3 _ HM3.out (Ox_6.out).inS (Ot_6.out).inS).mono ?_); rintro e w7 ⟨rfl, hb⟩; refine Hid.out ?_)
    have hq := hb
    have Ow_7 := Lib.hid (Ow_6.out.below hq)
    have Ox_7 := Lib.hid (Ox_6.out.below hq)
    have Og_7 := Lib.hid (Og_6.out.below hq)
    have Ot_7 := Lib.hid (Ot_6.out.below hq)
    have RW_7 := Lib.hid (RW_6.out.below hq)
    have RG_7 := Lib.hid (RG_6.out.below hq)
    have B7 := Lib.hid (B6.out.trans (hq.mono B6.out.size))
    have Z7 := Lib.hid (hb.size)
    clear hb hq
    clear qW0 qW1 qW2 qW3 qG0 qG1 qG2 qG3
    have qW0 := RW_7.out.c0
    have qW1 := RW_7.out.c1
    have qW2 := RW_7.out.c2
    have qW3 := RW_7.out.c3
    have qG0 := RG_7.out.c0
    have qG1 := RG_7.out.c1
    have qG2 := RG_7.out.c2
    have qG3 := RG_7.out.c3
    refine Lib.hid ?_
    go_wp2_with (go_at_call 17; (refine (mark_any (w2.heap.size + 1) bx dx l3 (1) _ HL3.out (by omega) (by omega) (Ox_7.out).1).mono ?_); rintro e w8 ⟨rfl, ho, hg⟩; refine Hid.out ?_)
    have Ow_8 := Lib.hid (Ow_7.out.other hg Ox_7.out.row (by have := Z1.out; have := Z2.out; have := Z3.out; have := Z4.out; have := Z5.out; have := Z6.out; have := Z7.out; omega))
    have Og_8 := Lib.hid (Og_7.out.other hg Ox_7.out.row (by have := Z1.out; have := Z2.out; have := Z3.out; have := Z4.out; have := Z5.out; have := Z6.out; have := Z7.out; omega))
    have RW_8 := Lib.hid (RW_7.out.mark hg Ox_7.out.row (by have := Z1.out; have := Z2.out; have := Z3.out; have := Z4.out; have := Z5.out; have := Z6.out; have := Z7.out; omega))
    have RG_8 := Lib.hid (RG_7.out.mark hg Ox_7.out.row (by have := Z1.out; have := Z2.out; have := Z3.out; have := Z4.out; have := Z5.out; have := Z6.out; have := Z7.out; omega))
    have B8 := Lib.hid (below_row B7.out Ox_7.out hg (by have := Z1.out; have := Z2.out; have := Z3.out; have := Z4.out; have := Z5.out; have := Z6.out; have := Z7.out; omega))
    have Z8 := Lib.hid hg.size
    have Ox_8 := Lib.hid (show OwnH _ _ _ _ _ from And.intro ho Ox_7.out.2)
    clear ho hg
    clear qW0 qW1 qW2 qW3 qG0 qG1 qG2 qG3
    have qW0 := RW_8.out.c0
    have qW1 := RW_8.out.c1
    have qW2 := RW_8.out.c2
    have qW3 := RW_8.out.c3
    have qG0 := RG_8.out.c0
    have qG1 := RG_8.out.c1
    have qG2 := RG_8.out.c2
    have qG3 := RG_8.out.c3
    refine Lib.hid ?_
    have hk0 : ¬ (((1 + l3.length : Nat) : Int) < 0) := by omega
    go_wp2_with (go_at_call 11; (refine (eqr_same S K V bg bw dg dw L _ HML.out (Og_8.out).inS (Ow_8.out).inS).mono ?_); rintro e w9 ⟨rfl, hb⟩; refine Hid.out ?_)
    have hq := hb
    have Ow_9 := Lib.hid (Ow_8.out.below hq)
    have Og_9 := Lib.hid (Og_8.out.below hq)
    have RW_9 := Lib.hid (RW_8.out.below hq)
    have RG_9 := Lib.hid (RG_8.out.below hq)
    have B9 := Lib.hid (B8.out.trans (hq.mono B8.out.size))
    have Z9 := Lib.hid (hb.size)
    clear hb hq
    clear qW0 qW1 qW2 qW3 qG0 qG1 qG2 qG3
    have qW0 := RW_9.out.c0
    have qW1 := RW_9.out.c1
    have qW2 := RW_9.out.c2
    have qW3 := RW_9.out.c3
    have qG0 := RG_9.out.c0
    have qG1 := RG_9.out.c1
    have qG2 := RG_9.out.c2
    have qG3 := RG_9.out.c3
    refine Lib.hid ?_
    clear hk0
    go_wp2_with (go_at_call 18; (refine (markr_any S K V (w3.heap.size) bg dg L 1 _ HLL.out (by omega) (by omega) (by have := Z1.out; have := Z2.out; have := Z3.out; have := Z4.out; have := Z5.out; have := Z6.out; have := Z7.out; have := Z8.out; have := Z9.out; omega) (Og_9.out).1).mono ?_); rintro e w10 ⟨rfl, ho, hg⟩; refine Hid.out ?_)
    have Ow_10 := Lib.hid (Ow_9.out.other hg Og_9.out.row (by have := Z1.out; have := Z2.out; have := Z3.out; have := Z4.out; have := Z5.out; have := Z6.out; have := Z7.out; have := Z8.out; have := Z9.out; omega))
    have RW_10 := Lib.hid (RW_9.out.mark hg Og_9.out.row (by have := Z1.out; have := Z2.out; have := Z3.out; have := Z4.out; have := Z5.out; have := Z6.out; have := Z7.out; have := Z8.out; have := Z9.out; omega))
    have RG_10 := Lib.hid (RG_9.out.mark hg Og_9.out.row (by have := Z1.out; have := Z2.out; have := Z3.out; have := Z4.out; have := Z5.out; have := Z6.out; have := Z7.out; have := Z8.out; have := Z9.out; omega))
    have B10 := Lib.hid (below_row B9.out Og_9.out hg (by have := Z1.out; have := Z2.out; have := Z3.out; have := Z4.out; have := Z5.out; have := Z6.out; have := Z7.out; have := Z8.out; have := Z9.out; omega))
    have Z10 := Lib.hid hg.size
    have Og_10 := Lib.hid (show OwnH _ _ _ _ _ from And.intro ho Og_9.out.2)
    clear ho hg
    clear qW0 qW1 qW2 qW3 qG0 qG1 qG2 qG3
    have qW0 := RW_10.out.c0
    have qW1 := RW_10.out.c1
    have qW2 := RW_10.out.c2
    have qW3 := RW_10.out.c3
    have qG0 := RG_10.out.c0
    have qG1 := RG_10.out.c1
    have qG2 := RG_10.out.c2
    have qG3 := RG_10.out.c3
    refine Lib.hid ?_
    go_wp2_with (go_at_call 19; (refine (heldr_any S K V bg dg L.length 1 _ HLL.out (by omega) (by omega) (OwnS.inS (Og_10.out).1)).mono ?_); rintro e w11 ⟨rfl, hb⟩; refine Hid.out ?_)
    have hq := hb
    have Ow_11 := Lib.hid (Ow_10.out.below hq)
    have Og_11 := Lib.hid (Og_10.out.below hq)
    have RW_11 := Lib.hid (RW_10.out.below hq)
    have RG_11 := Lib.hid (RG_10.out.below hq)
    have B11 := Lib.hid (B10.out.trans (hq.mono B10.out.size))
    have Z11 := Lib.hid (hb.size)
    clear hb hq
    clear qW0 qW1 qW2 qW3 qG0 qG1 qG2 qG3
    have qW0 := RW_11.out.c0
    have qW1 := RW_11.out.c1
    have qW2 := RW_11.out.c2
    have qW3 := RW_11.out.c3
    have qG0 := RG_11.out.c0
    have qG1 := RG_11.out.c1
    have qG2 := RG_11.out.c2
    have qG3 := RG_11.out.c3
    refine Lib.hid ?_
    go_wp2_with (go_at_call 14; (refine (to_any a3 c3 l3 _ HL3.out (H3.out.1.below B11.out)).mono ?_); rintro e w12 ⟨bu, du, rfl, ho, hb⟩; refine Hid.out ?_)
    have hq := hb
    have Ou_12 := Lib.hid (OwnH.of ho)
    have Ow_12 := Lib.hid (Ow_11.out.below hq)
    have Og_12 := Lib.hid (Og_11.out.below hq)
    have RW_12 := Lib.hid (RW_11.out.below hq)
    have RG_12 := Lib.hid (RG_11.out.below hq)
    have B12 := Lib.hid (B11.out.trans (hq.mono B11.out.size))
    have Z12 := Lib.hid (hb.size)
    clear ho hb hq
    clear qW0 qW1 qW2 qW3 qG0 qG1 qG2 qG3
    have qW0 := RW_12.out.c0
    have qW1 := RW_12.out.c1
    have qW2 := RW_12.out.c2
    have qW3 := RW_12.out.c3
    have qG0 := RG_12.out.c0
    have qG1 := RG_12.out.c1
    have qG2 := RG_12.out.c2
    have qG3 := RG_12.out.c3
    refine Lib.hid ?_
    go_wp2_with (go_at_call 15; (refine (nr_impl a0 a1 a2 bu du l3 S K V L r _ HR.out ((Ou_12.out).sm HL3.out (sz_mem HZ3.out))).mono ?_); rintro e w13 ⟨bh, dh, rfl, ho, hb⟩; refine Hid.out ?_)
    have hq := hb
    have Oh_13 := Lib.hid (OwnH.of ho)
    have Ow_13 := Lib.hid (Ow_12.out.below hq)
    have Og_13 := Lib.hid (Og_12.out.below hq)
    have Ou_13 := Lib.hid (Ou_12.out.below hq)
    have RW_13 := Lib.hid (RW_12.out.below hq)
    have RG_13 := Lib.hid (RG_12.out.below hq)
    have B13 := Lib.hid (B12.out.trans (hq.mono B12.out.size))
    have Z13 := Lib.hid (hb.size)
    clear ho hb hq
    clear qW0 qW1 qW2 qW3 qG0 qG1 qG2 qG3
    have qW0 := fun o => (RW_13.out.alloc o).c0
    have qW1 := fun o => (RW_13.out.alloc o).c1
    have qW2 := fun o => (RW_13.out.alloc o).c2
    have qW3 := fun o => (RW_13.out.alloc o).c3
    have qG0 := fun o => (RG_13.out.alloc o).c0
    have qG1 := fun o => (RG_13.out.alloc o).c1
    have qG2 := fun o => (RG_13.out.alloc o).c2
    have qG3 := fun o => (RG_13.out.alloc o).c3
    refine Lib.hid ?_
    go_wp2_with (go_at_call 11; (refine (eqr_same S K V bh bw dh dw L _ HML.out (Oh_13.out.alloc _).inS (Ow_13.out.alloc _).inS).mono ?_); rintro e w14 ⟨rfl, hb⟩; refine Hid.out ?_)
    have hq := below_new hb
    have Ow_14 := Lib.hid (Ow_13.out.below hq)
    have Og_14 := Lib.hid (Og_13.out.below hq)
    have Oh_14 := Lib.hid (Oh_13.out.below hq)
    have RW_14 := Lib.hid (RW_13.out.below hq)
    have RG_14 := Lib.hid (RG_13.out.below hq)
    have RH_14 := Lib.hid ((RecB.new _ _ _ _ _ _ _ rfl).below hb)
    have B14 := Lib.hid (B13.out.trans (hq.mono B13.out.size))
    have Z14 := Lib.hid (size_new hb)
    clear hb hq
    clear qW0 qW1 qW2 qW3 qG0 qG1 qG2 qG3
    have qW0 := RW_14.out.c0
    have qW1 := RW_14.out.c1
    have qW2 := RW_14.out.c2
    have qW3 := RW_14.out.c3
    have qG0 := RG_14.out.c0
    have qG1 := RG_14.out.c1
    have qG2 := RG_14.out.c2
    have qG3 := RG_14.out.c3
    have qH0 := RH_14.out.c0
    have qH1 := RH_14.out.c1
    have qH2 := RH_14.out.c2
    have qH3 := RH_14.out.c3
    refine Lib.hid ?_
    go_wp2_with (go_at_call 19; (refine (heldr_any S K V bg dg L.length 1 _ HLL.out (by omega) (by omega) (OwnS.inS (Og_14.out).1)).mono ?_); rintro e w15 ⟨rfl, hb⟩; refine Hid.out ?_)
    have hq := hb
    have Ow_15 := Lib.hid (Ow_14.out.below hq)
    have Og_15 := Lib.hid (Og_14.out.below hq)
    have Oh_15 := Lib.hid (Oh_14.out.below hq)
    have RW_15 := Lib.hid (RW_14.out.below hq)
    have RG_15 := Lib.hid (RG_14.out.below hq)
    have RH_15 := Lib.hid (RH_14.out.below hq)
    have B15 := Lib.hid (B14.out.trans (hq.mono B14.out.size))
    have Z15 := Lib.hid (hb.size)
    clear hb hq
    clear qW0 qW1 qW2 qW3 qG0 qG1 qG2 qG3 qH0 qH1 qH2 qH3
    have qW0 := RW_15.out.c0
    have qW1 := RW_15.out.c1
    have qW2 := RW_15.out.c2
    have qW3 := RW_15.out.c3
    have qG0 := RG_15.out.c0
    have qG1 := RG_15.out.c1
    have qG2 := RG_15.out.c2
    have qG3 := RG_15.out.c3
    have qH0 := RH_15.out.c0
    have qH1 := RH_15.out.c1
    have qH2 := RH_15.out.c2
    have qH3 := RH_15.out.c3
    refine Lib.hid ?_
    go_wp2
    go_ret
    exact ⟨rfl, B15.out⟩
  · have HS3 := Lib.hid hs
    clear hs
    go_enter Try.func4, Try.ntmps4
    go_wp2_with (go_at_call 12; (refine (sz_no a3 c3 l3 1048576 _ H3.out (Below.refl _ _) (by omega) HS3.out).mono ?_); rintro e w1 ⟨rfl, rfl⟩)
    go_ret
    exact ⟨rfl, Below.refl _ _⟩

end Go.Proofs.Ytlapgcbeemdboaa
