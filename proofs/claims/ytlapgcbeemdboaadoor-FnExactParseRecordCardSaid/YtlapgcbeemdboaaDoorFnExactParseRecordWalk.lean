/-
  The walk of laws.FnExactParseRecord. By an AI agent.
-/
import Derived.Test.YtlapgcbeemdboaaDoorRecPS
import Derived.Test.YtlapgcbeemdboaaDoorRecPI2
import Derived.Test.YtlapgcbeemdboaaDoorRecLaw
namespace Go.Proofs.YtlapgcbeemdboaaDoor
open Go.RowKit
set_option linter.unusedVariables false

set_option maxRecDepth 100000 in
set_option maxHeartbeats 3200000 in
theorem FnExactParseRecord_walk (a0 : ByteArray) (w0 : a0.size ≤ maxLen) (w : World) (ht : TabAt w) (hx : MaxAt w) :
    Calls Tryd.prog 5 #[.string a0] w fun e w' => e = .returned (.bool true) ∧ Below w.heap.size w w' := by
  have HT := Lib.hid ht
  have HX := Lib.hid hx
  clear ht hx
  obtain ⟨S, K, V, L, r, hr⟩ := pr_some a0.data.toList
  by_cases hs : ¬ 1048576 < (a0.size : Int)
  · have HZ0 := Lib.hid (show a0.size ≤ 1048576 by omega)
    have hll : L.length ≤ 4000000 := pr_len hr
    have HLL := Lib.hid hll
    have HML := Lib.hid (show L.length ≤ maxLen by unfold maxLen; omega)
    have HR := Lib.hid hr
    clear hr hll
    go_enter Tryd.func5, Tryd.ntmps5
    go_wp2_with (go_at_call 13; (refine (pr_spec a0 S K V L r _ HZ0.out HR.out).mono ?_); rintro e w1 ⟨bw, dw, rfl, ho, hb⟩; refine Hid.out ?_)
    have hq := hb
    have Ow_1 := Lib.hid (OwnH.of ho)
    have B1 := Lib.hid hq
    have Z1 := Lib.hid (hb.size)
    clear ho hb hq
    refine Lib.hid ?_
    go_wp2_with (go_at_call 14; (refine (pr_impl a0 S K V L r _ HZ0.out HR.out (HT.out.on (B1.out.alloc B1.out.size _)) (HX.out.on (B1.out.alloc B1.out.size _))).mono ?_); rintro e w2 ⟨bg, dg, rfl, ho, hb⟩; refine Hid.out ?_)
    have hq := below_new hb
    have Og_2 := Lib.hid (OwnH.of_new ho)
    have Ow_2 := Lib.hid (Ow_1.out.below hq)
    have RW_2 := Lib.hid ((RecB.new _ _ _ _ _ _ _ rfl).below hb)
    have B2 := Lib.hid (B1.out.trans (hq.mono B1.out.size))
    have Z2 := Lib.hid (size_new hb)
    clear ho hb hq
    have qW0 := fun o => (RW_2.out.alloc o).c0
    have qW1 := fun o => (RW_2.out.alloc o).c1
    have qW2 := fun o => (RW_2.out.alloc o).c2
    have qW3 := fun o => (RW_2.out.alloc o).c3
    refine Lib.hid ?_
    go_wp2_with (go_at_call 10; (refine (eqr_same S K V bg bw dg dw L _ HML.out (Og_2.out.alloc _).inS (Ow_2.out.alloc _).inS).mono ?_); rintro e w3 ⟨rfl, hb⟩; refine Hid.out ?_)
    have hq := below_new hb
    have Ow_3 := Lib.hid (Ow_2.out.below hq)
    have Og_3 := Lib.hid (Og_2.out.below hq)
    have RW_3 := Lib.hid (RW_2.out.below hq)
    have RG_3 := Lib.hid ((RecB.new _ _ _ _ _ _ _ rfl).below hb)
    have B3 := Lib.hid (B2.out.trans (hq.mono B2.out.size))
    have Z3 := Lib.hid (size_new hb)
    clear hb hq
    clear qW0 qW1 qW2 qW3
    have qW0 := RW_3.out.c0
    have qW1 := RW_3.out.c1
    have qW2 := RW_3.out.c2
    have qW3 := RW_3.out.c3
    have qG0 := RG_3.out.c0
    have qG1 := RG_3.out.c1
    have qG2 := RG_3.out.c2
    have qG3 := RG_3.out.c3
    refine Lib.hid ?_
    go_wp2_with (go_at_call 15; (refine (markr_any S K V (w1.heap.size + 1) bg dg L 1 _ HLL.out (by omega) (by omega) (by have := Z1.out; have := Z2.out; have := Z3.out; omega) (Og_3.out).1).mono ?_); rintro e w4 ⟨rfl, ho, hg⟩; refine Hid.out ?_)
    have Ow_4 := Lib.hid (Ow_3.out.other hg Og_3.out.row (by have := Z1.out; have := Z2.out; have := Z3.out; omega))
    have RW_4 := Lib.hid (RW_3.out.mark hg Og_3.out.row (by have := Z1.out; have := Z2.out; have := Z3.out; omega))
    have RG_4 := Lib.hid (RG_3.out.mark hg Og_3.out.row (by have := Z1.out; have := Z2.out; have := Z3.out; omega))
    have B4 := Lib.hid (below_row B3.out Og_3.out hg (by have := Z1.out; have := Z2.out; have := Z3.out; omega))
    have Z4 := Lib.hid hg.size
    have Og_4 := Lib.hid (show OwnH _ _ _ _ _ from And.intro ho Og_3.out.2)
    clear ho hg
    clear qW0 qW1 qW2 qW3 qG0 qG1 qG2 qG3
    have qW0 := RW_4.out.c0
    have qW1 := RW_4.out.c1
    have qW2 := RW_4.out.c2
    have qW3 := RW_4.out.c3
    have qG0 := RG_4.out.c0
    have qG1 := RG_4.out.c1
    have qG2 := RG_4.out.c2
    have qG3 := RG_4.out.c3
    refine Lib.hid ?_
    go_wp2_with (go_at_call 16; (refine (heldr_any S K V bg dg L.length 1 _ HLL.out (by omega) (by omega) (OwnS.inS (Og_4.out).1)).mono ?_); rintro e w5 ⟨rfl, hb⟩; refine Hid.out ?_)
    have hq := hb
    have Ow_5 := Lib.hid (Ow_4.out.below hq)
    have Og_5 := Lib.hid (Og_4.out.below hq)
    have RW_5 := Lib.hid (RW_4.out.below hq)
    have RG_5 := Lib.hid (RG_4.out.below hq)
    have B5 := Lib.hid (B4.out.trans (hq.mono B4.out.size))
    have Z5 := Lib.hid (hb.size)
    clear hb hq
    clear qW0 qW1 qW2 qW3 qG0 qG1 qG2 qG3
    have qW0 := RW_5.out.c0
    have qW1 := RW_5.out.c1
    have qW2 := RW_5.out.c2
    have qW3 := RW_5.out.c3
    have qG0 := RG_5.out.c0
    have qG1 := RG_5.out.c1
    have qG2 := RG_5.out.c2
    have qG3 := RG_5.out.c3
    refine Lib.hid ?_
    go_wp2_with (go_at_call 14; (refine (pr_impl a0 S K V L r _ HZ0.out HR.out (HT.out.on B5.out) (HX.out.on B5.out)).mono ?_); rintro e w6 ⟨bh, dh, rfl, ho, hb⟩; refine Hid.out ?_)
    have hq := hb
    have Oh_6 := Lib.hid (OwnH.of ho)
    have Ow_6 := Lib.hid (Ow_5.out.below hq)
    have Og_6 := Lib.hid (Og_5.out.below hq)
    have RW_6 := Lib.hid (RW_5.out.below hq)
    have RG_6 := Lib.hid (RG_5.out.below hq)
    have B6 := Lib.hid (B5.out.trans (hq.mono B5.out.size))
    have Z6 := Lib.hid (hb.size)
    clear ho hb hq
    clear qW0 qW1 qW2 qW3 qG0 qG1 qG2 qG3
    have qW0 := fun o => (RW_6.out.alloc o).c0
    have qW1 := fun o => (RW_6.out.alloc o).c1
    have qW2 := fun o => (RW_6.out.alloc o).c2
    have qW3 := fun o => (RW_6.out.alloc o).c3
    have qG0 := fun o => (RG_6.out.alloc o).c0
    have qG1 := fun o => (RG_6.out.alloc o).c1
    have qG2 := fun o => (RG_6.out.alloc o).c2
    have qG3 := fun o => (RG_6.out.alloc o).c3
    refine Lib.hid ?_
    go_wp2_with (go_at_call 10; (refine (eqr_same S K V bh bw dh dw L _ HML.out (Oh_6.out.alloc _).inS (Ow_6.out.alloc _).inS).mono ?_); rintro e w7 ⟨rfl, hb⟩; refine Hid.out ?_)
    have hq := below_new hb
    have Ow_7 := Lib.hid (Ow_6.out.below hq)
    have Og_7 := Lib.hid (Og_6.out.below hq)
    have Oh_7 := Lib.hid (Oh_6.out.below hq)
    have RW_7 := Lib.hid (RW_6.out.below hq)
    have RG_7 := Lib.hid (RG_6.out.below hq)
    have RH_7 := Lib.hid ((RecB.new _ _ _ _ _ _ _ rfl).below hb)
    have B7 := Lib.hid (B6.out.trans (hq.mono B6.out.size))
    have Z7 := Lib.hid (size_new hb)
    clear hb hq
    clear qW0 qW1 qW2 qW3 qG0 qG1 qG2 qG3
    have qW0 := RW_7.out.c0
    have qW1 := RW_7.out.c1
    have qW2 := RW_7.out.c2
    have qW3 := RW_7.out.c3
    have qG0 := RG_7.out.c0
    have qG1 := RG_7.out.c1
    have qG2 := RG_7.out.c2
    have qG3 := RG_7.out.c3
    have qH0 := RH_7.out.c0
    have qH1 := RH_7.out.c1
    have qH2 := RH_7.out.c2
    have qH3 := RH_7.out.c3
    refine Lib.hid ?_
    go_wp2_with (go_at_call 16; (refine (heldr_any S K V bg dg L.length 1 _ HLL.out (by omega) (by omega) (OwnS.inS (Og_7.out).1)).mono ?_); rintro e w8 ⟨rfl, hb⟩; refine Hid.out ?_)
    have hq := hb
    have Ow_8 := Lib.hid (Ow_7.out.below hq)
    have Og_8 := Lib.hid (Og_7.out.below hq)
    have Oh_8 := Lib.hid (Oh_7.out.below hq)
    have RW_8 := Lib.hid (RW_7.out.below hq)
    have RG_8 := Lib.hid (RG_7.out.below hq)
    have RH_8 := Lib.hid (RH_7.out.below hq)
    have B8 := Lib.hid (B7.out.trans (hq.mono B7.out.size))
    have Z8 := Lib.hid (hb.size)
    clear hb hq
    clear qW0 qW1 qW2 qW3 qG0 qG1 qG2 qG3 qH0 qH1 qH2 qH3
    have qW0 := RW_8.out.c0
    have qW1 := RW_8.out.c1
    have qW2 := RW_8.out.c2
    have qW3 := RW_8.out.c3
    have qG0 := RG_8.out.c0
    have qG1 := RG_8.out.c1
    have qG2 := RG_8.out.c2
    have qG3 := RG_8.out.c3
    have qH0 := RH_8.out.c0
    have qH1 := RH_8.out.c1
    have qH2 := RH_8.out.c2
    have qH3 := RH_8.out.c3
    refine Lib.hid ?_
    go_wp2
    go_ret
    exact ⟨rfl, B8.out⟩
  · have hbig : 1048576 < (a0.size : Int) := by omega
    clear hs
    go_enter Tryd.func5, Tryd.ntmps5
    go_wp2
    go_ret
    exact ⟨rfl, Below.refl _ _⟩

end Go.Proofs.YtlapgcbeemdboaaDoor
