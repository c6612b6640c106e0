/-
  The walk of laws.FnExactRecordName. By an AI agent.
-/
import Derived.Test.YtlapgcbeemdboaaDoorRecName2
import Derived.Deep.RegionHeld3
namespace Go.Proofs.YtlapgcbeemdboaaDoor
open Go.RowKit
set_option linter.unusedVariables false

set_option maxRecDepth 100000 in
set_option maxHeartbeats 3200000 in
theorem FnExactRecordName_walk (s0 k0 v0 : Int) (a0 : Option Addr) (c0 : Nat) (l0 : List Str) (w : World) (h0 : ArgS w a0 l0) (ht : TabAt w) :
    Calls Tryd.prog 3 #[.agg #[.int .i64 s0, .int .i64 k0, .int .i64 v0, .slice a0 l0.length c0]] w fun e w' => e = .returned (.bool true) ∧ Below w.heap.size w w' := by
  obtain ⟨wb, hwb⟩ : ∃ wb, wb = (w.alloc (.cells #[.int .i64 s0, .int .i64 k0, .int .i64 v0, .slice a0 l0.length c0] 24)) := ⟨_, rfl⟩
  have B0 := Lib.hid (show Below w.heap.size w wb by rw [hwb]; exact ((Below.refl w.heap.size w).alloc (Nat.le_refl _) _))
  have RL0_0 := Lib.hid (show RecB 24 wb w.heap.size s0 k0 v0 (.slice a0 l0.length c0) by rw [hwb]; exact RecB.new _ _ _ _ _ _ _ rfl)
  have H0 := Lib.hid h0
  have HWB := Lib.hid hwb
  clear hwb h0
  have HT := Lib.hid ht
  clear ht
  obtain ⟨r, hr⟩ : ∃ r, rnR s0 k0 v0 l0 = r := ⟨_, rfl⟩
  have HR := Lib.hid hr
  clear hr
  by_cases hs : szL l0 ≤ 1048576
  · obtain ⟨r0, hr⟩ : ∃ r : Nat, r + szL l0 = 1048576 := ⟨1048576 - szL l0, by omega⟩
    have hrl0 : (r0 : Int) ≤ 1048576 := by omega
    have HS0 := Lib.hid hr
    have HZ0 := Lib.hid (show szL l0 ≤ 1048576 by omega)
    have HM0 := Lib.hid (show l0.length ≤ maxLen by have := szL_len l0; unfold maxLen; omega)
    clear hs hr
    go_enter Tryd.func3, Tryd.ntmps3
    have qL00 := RL0_0.out.c0
    have qL01 := RL0_0.out.c1
    have qL02 := RL0_0.out.c2
    have qL03 := RL0_0.out.c3
    go_wp2_with (go_at_call 6; rw [← HWB.out]; (refine (szr_yes s0 k0 v0 a0 c0 l0 1048576 r0 _ H0.out B0.out (by omega) HS0.out).mono ?_); rintro e w1 ⟨rfl, hb⟩; refine Hid.out ?_)
    have hq := hb
    have RL0_1 := Lib.hid (RL0_0.out.below hq)
    have B1 := Lib.hid (B0.out.trans (hq.mono B0.out.size))
    clear hb hq
    clear qL00 qL01 qL02 qL03
    have qL00 := RL0_1.out.c0
    have qL01 := RL0_1.out.c1
    have qL02 := RL0_1.out.c2
    have qL03 := RL0_1.out.c3
    refine Lib.hid ?_
    go_wp2_with (go_at_call 8; (refine (tor_any s0 k0 v0 a0 c0 l0 _ (sz_len HZ0.out) (H0.out.inS.below B1.out)).mono ?_); rintro e w2 ⟨bs0, ds0, rfl, ho, hb⟩; refine Hid.out ?_)
    have hq := hb
    have Os0_2 := Lib.hid (OwnH.of ho)
    have RL0_2 := Lib.hid (RL0_1.out.below hq)
    have B2 := Lib.hid (B1.out.trans (hq.mono B1.out.size))
    clear ho hb hq
    clear qL00 qL01 qL02 qL03
    have qL00 := RL0_2.out.c0
    have qL01 := RL0_2.out.c1
    have qL02 := RL0_2.out.c2
    have qL03 := RL0_2.out.c3
    refine Lib.hid ?_
    go_wp2_with (go_at_call 7; (refine (rn_spec s0 k0 v0 bs0 ds0 l0 r _ HR.out ((Os0_2.out).sm (sz_len HZ0.out) (sz_mem HZ0.out))).mono ?_); rintro e w3 ⟨rfl, hb⟩; refine Hid.out ?_)
    have hq := hb
    have Os0_3 := Lib.hid (Os0_2.out.below hq)
    have RL0_3 := Lib.hid (RL0_2.out.below hq)
    have B3 := Lib.hid (B2.out.trans (hq.mono B2.out.size))
    clear hb hq
    clear qL00 qL01 qL02 qL03
    have qL00 := RL0_3.out.c0
    have qL01 := RL0_3.out.c1
    have qL02 := RL0_3.out.c2
    have qL03 := RL0_3.out.c3
    refine Lib.hid ?_
    go_wp2_with (go_at_call 8; (refine (tor_any s0 k0 v0 a0 c0 l0 _ (sz_len HZ0.out) (H0.out.inS.below B3.out)).mono ?_); rintro e w4 ⟨bx0, dx0, rfl, ho, hb⟩; refine Hid.out ?_)
    have hq := hb
    have Ox0_4 := Lib.hid (OwnH.of ho)
    have RL0_4 := Lib.hid (RL0_3.out.below hq)
    have B4 := Lib.hid (B3.out.trans (hq.mono B3.out.size))
    clear ho hb hq
    clear qL00 qL01 qL02 qL03
    have qL00 := fun o => (RL0_4.out.alloc o).c0
    have qL01 := fun o => (RL0_4.out.alloc o).c1
    have qL02 := fun o => (RL0_4.out.alloc o).c2
    have qL03 := fun o => (RL0_4.out.alloc o).c3
    refine Lib.hid ?_
    go_wp2_with (go_at_call 9; (refine (rn_impl s0 k0 v0 bx0 dx0 l0 r _ HR.out ((Ox0_4.out.alloc _).sm (sz_len HZ0.out) (sz_mem HZ0.out)) (HT.out.on (B4.out.alloc B4.out.size _))).mono ?_); rintro e w5 ⟨rfl, hb⟩; refine Hid.out ?_)
    have hq := below_new hb
    have Ox0_5 := Lib.hid (Ox0_4.out.below hq)
    have RL0_5 := Lib.hid (RL0_4.out.below hq)
    have RX0_5 := Lib.hid ((RecB.new _ _ _ _ _ _ _ rfl).below hb)
    have B5 := Lib.hid (B4.out.trans (hq.mono B4.out.size))
    clear hb hq
    clear qL00 qL01 qL02 qL03
    have qL00 := RL0_5.out.c0
    have qL01 := RL0_5.out.c1
    have qL02 := RL0_5.out.c2
    have qL03 := RL0_5.out.c3
    have qX00 := RX0_5.out.c0
    have qX01 := RX0_5.out.c1
    have qX02 := RX0_5.out.c2
    have qX03 := RX0_5.out.c3
    refine Lib.hid ?_
    go_wp2_with (fail)
    go_region_held3 (fun w' => w'.cell? ⟨w4.heap.size, 0, none⟩ = some (.int .i64 s0) ∧ w'.cell? ⟨w4.heap.size, 1, none⟩ = some (.int .i64 k0) ∧ w'.cell? ⟨w4.heap.size, 2, none⟩ = some (.int .i64 v0) ∧ w'.cell? ⟨w4.heap.size, 3, none⟩ = some (.slice bx0 l0.length dx0) ∧ w'.cell? ⟨w.heap.size, 0, none⟩ = some (.int .i64 s0) ∧ w'.cell? ⟨w.heap.size, 1, none⟩ = some (.int .i64 k0) ∧ w'.cell? ⟨w.heap.size, 2, none⟩ = some (.int .i64 v0) ∧ w'.cell? ⟨w.heap.size, 3, none⟩ = some (.slice a0 l0.length c0))
      (first | exact ⟨t7X00, t7X01, t7X02, t7X03, t7L00, t7L01, t7L02, t7L03⟩ | exact ⟨t6X00, t6X01, t6X02, t6X03, t6L00, t6L01, t6L02, t6L03⟩ | exact ⟨qX00, qX01, qX02, qX03, qL00, qL01, qL02, qL03⟩)
      (first
        | (go_at_call 8; (with_reducible refine (tor_any s0 k0 v0 a0 c0 l0 _ (sz_len HZ0.out) (H0.out.inS.below B5.out.drew)).mono ?_); rintro e w6 ⟨bt0, dt0, rfl, ho, hb⟩; have hq := undrew hb; have Ot0_6 := Lib.hid (OwnH.of ho); have Ox0_6 := Lib.hid (Ox0_5.out.below hq); have RL0_6 := Lib.hid (RL0_5.out.below hq); have RX0_6 := Lib.hid (RX0_5.out.below hq); have B6 := Lib.hid (B5.out.trans (hq.mono B5.out.size)); have t6X00 := RX0_6.out.c0; have t6X01 := RX0_6.out.c1; have t6X02 := RX0_6.out.c2; have t6X03 := RX0_6.out.c3; have t6L00 := RL0_6.out.c0; have t6L01 := RL0_6.out.c1; have t6L02 := RL0_6.out.c2; have t6L03 := RL0_6.out.c3; clear ho hb hq)
        | (go_at_call 10; (with_reducible refine (eqr_same s0 k0 v0 bx0 bt0 dx0 dt0 l0 _ HM0.out (Ox0_6.out).inS (Ot0_6.out).inS).mono ?_); rintro e w7 ⟨rfl, hb⟩; have hq := hb; have Ox0_7 := Lib.hid (Ox0_6.out.below hq); have Ot0_7 := Lib.hid (Ot0_6.out.below hq); have RL0_7 := Lib.hid (RL0_6.out.below hq); have RX0_7 := Lib.hid (RX0_6.out.below hq); have B7 := Lib.hid (B6.out.trans (hq.mono B6.out.size)); have t7X00 := RX0_7.out.c0; have t7X01 := RX0_7.out.c1; have t7X02 := RX0_7.out.c2; have t7X03 := RX0_7.out.c3; have t7L00 := RL0_7.out.c0; have t7L01 := RL0_7.out.c1; have t7L02 := RL0_7.out.c2; have t7L03 := RL0_7.out.c3; clear hb hq))
    refine Hid.out ?_
    clear qL00 qL01 qL02 qL03 qX00 qX01 qX02 qX03 t6X00 t6X01 t6X02 t6X03 t6L00 t6L01 t6L02 t6L03 t7X00 t7X01 t7X02 t7X03 t7L00 t7L01 t7L02 t7L03
    have qL00 := RL0_7.out.c0
    have qL01 := RL0_7.out.c1
    have qL02 := RL0_7.out.c2
    have qL03 := RL0_7.out.c3
    have qX00 := RX0_7.out.c0
    have qX01 := RX0_7.out.c1
    have qX02 := RX0_7.out.c2
    have qX03 := RX0_7.out.c3
    refine Lib.hid ?_
    go_wp2
    go_ret
    exact ⟨rfl, B7.out⟩
  · have HS0 := Lib.hid hs
    clear hs
    go_enter Tryd.func3, Tryd.ntmps3
    have qL00 := RL0_0.out.c0
    have qL01 := RL0_0.out.c1
    have qL02 := RL0_0.out.c2
    have qL03 := RL0_0.out.c3
    go_wp2_with (go_at_call 6; rw [← HWB.out]; (refine (szr_no s0 k0 v0 a0 c0 l0 1048576 _ H0.out B0.out (by omega) HS0.out).mono ?_); rintro e w1 ⟨rfl, hb⟩; refine Hid.out ?_)
    have hq := hb
    have RL0_1 := Lib.hid (RL0_0.out.below hq)
    have B1 := Lib.hid (B0.out.trans (hq.mono B0.out.size))
    clear hb hq
    clear qL00 qL01 qL02 qL03
    have qL00 := RL0_1.out.c0
    have qL01 := RL0_1.out.c1
    have qL02 := RL0_1.out.c2
    have qL03 := RL0_1.out.c3
    refine Lib.hid ?_
    go_wp2
    go_ret
    exact ⟨rfl, B1.out⟩

end Go.Proofs.YtlapgcbeemdboaaDoor
