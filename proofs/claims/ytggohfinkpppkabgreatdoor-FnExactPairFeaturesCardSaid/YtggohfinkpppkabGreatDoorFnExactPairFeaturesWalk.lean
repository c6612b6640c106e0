/-
  The walk of laws.FnExactPairFeatures. By an AI agent.
-/
import Derived.Test.YtggohfinkpppkabGreatDoorPairS
import Derived.Test.YtggohfinkpppkabGreatDoorPairI
import Derived.Deep.RegionHeld3
namespace Go.Proofs.YtggohfinkpppkabGreatDoor
open Go.RowKit
set_option linter.unusedVariables false

set_option maxRecDepth 100000 in
set_option maxHeartbeats 3200000 in
theorem FnExactPairFeatures_walk (s0 k0 v0 s1 k1 v1 : Int) (a0 a1 : Option Addr) (c0 c1 : Nat) (l0 l1 : List Str) (w : World) (h0 : ArgS w a0 l0) (h1 : ArgS w a1 l1) (ht : TabAt w) (hT : SpT w) :
    Calls Tryz.prog 4 #[.agg #[.int .i64 s0, .int .i64 k0, .int .i64 v0, .slice a0 l0.length c0], .agg #[.int .i64 s1, .int .i64 k1, .int .i64 v1, .slice a1 l1.length c1]] w fun e w' => e = .returned (.bool true) ∧ Below w.heap.size w w' := by
  obtain ⟨wb, hwb⟩ : ∃ wb, wb = ((w.alloc (.cells #[.int .i64 s0, .int .i64 k0, .int .i64 v0, .slice a0 l0.length c0] 36)).alloc (.cells #[.int .i64 s1, .int .i64 k1, .int .i64 v1, .slice a1 l1.length c1] 36)) := ⟨_, rfl⟩
  have B0 := Lib.hid (show Below w.heap.size w wb by rw [hwb]; exact (((Below.refl w.heap.size w).alloc (Nat.le_refl _) _).alloc (by simp) _))
  have RL0_0 := Lib.hid (show RecB 36 wb w.heap.size s0 k0 v0 (.slice a0 l0.length c0) by rw [hwb]; exact (RecB.new _ _ _ _ _ _ _ rfl).alloc _)
  have RL1_0 := Lib.hid (show RecB 36 wb (w.heap.size + 1) s1 k1 v1 (.slice a1 l1.length c1) by rw [hwb]; exact RecB.new _ _ _ _ _ _ _ (by simp))
  have H0 := Lib.hid h0
  have H1 := Lib.hid h1
  have HWB := Lib.hid hwb
  clear hwb h0 h1
  have HT := Lib.hid ht
  clear ht
  have HSP := Lib.hid hT
  clear hT
  obtain ⟨r, hr⟩ : ∃ r, pairR s0 k0 v0 l0 s1 k1 v1 l1 = r := ⟨_, rfl⟩
  have HR := Lib.hid hr
  clear hr
  by_cases hs : szL l0 ≤ 1048576
  · obtain ⟨r0, hr⟩ : ∃ r : Nat, r + szL l0 = 1048576 := ⟨1048576 - szL l0, by omega⟩
    have hrl0 : (r0 : Int) ≤ 1048576 := by omega
    have HS0 := Lib.hid hr
    have HZ0 := Lib.hid (show szL l0 ≤ 1048576 by omega)
    have HM0 := Lib.hid (show l0.length ≤ maxLen by have := szL_len l0; unfold maxLen; omega)
    clear hs hr
    by_cases hs : szL l1 ≤ r0
    · obtain ⟨r1, hr⟩ : ∃ r : Nat, r + szL l1 = r0 := ⟨r0 - szL l1, by omega⟩
      have hrl1 : (r1 : Int) ≤ 1048576 := by omega
      have HS1 := Lib.hid hr
      have HZ1 := Lib.hid (show szL l1 ≤ 1048576 by omega)
      have HM1 := Lib.hid (show l1.length ≤ maxLen by have := szL_len l1; unfold maxLen; omega)
      clear hs hr
      go_enter Tryz.func4, Tryz.ntmps4
      have qL00 := RL0_0.out.c0
      have qL01 := RL0_0.out.c1
      have qL02 := RL0_0.out.c2
      have qL03 := RL0_0.out.c3
      have qL10 := RL1_0.out.c0
      have qL11 := RL1_0.out.c1
      have qL12 := RL1_0.out.c2
      have qL13 := RL1_0.out.c3
      go_wp2_with (go_at_call 14; rw [← HWB.out]; (refine (szr_yes s0 k0 v0 a0 c0 l0 1048576 r0 _ H0.out B0.out (by omega) HS0.out).mono ?_); rintro e w1 ⟨rfl, hb⟩; refine Hid.out ?_)
      have hq := hb
      have Z1 := Lib.hid hq.size
      have RL0_1 := Lib.hid (RL0_0.out.below hq)
      have RL1_1 := Lib.hid (RL1_0.out.below hq)
      have B1 := Lib.hid (B0.out.trans (hq.mono B0.out.size))
      clear hb hq
      clear qL00 qL01 qL02 qL03 qL10 qL11 qL12 qL13
      have qL00 := RL0_1.out.c0
      have qL01 := RL0_1.out.c1
      have qL02 := RL0_1.out.c2
      have qL03 := RL0_1.out.c3
      have qL10 := RL1_1.out.c0
      have qL11 := RL1_1.out.c1
      have qL12 := RL1_1.out.c2
      have qL13 := RL1_1.out.c3
      refine Lib.hid ?_
      go_wp2_with (go_at_call 14; (refine (szr_yes s1 k1 v1 a1 c1 l1 r0 r1 _ H1.out B1.out (by omega) HS1.out).mono ?_); rintro e w2 ⟨rfl, hb⟩; refine Hid.out ?_)
      have hq := hb
      have Z2 := Lib.hid hq.size
      have RL0_2 := Lib.hid (RL0_1.out.below hq)
      have RL1_2 := Lib.hid (RL1_1.out.below hq)
      have B2 := Lib.hid (B1.out.trans (hq.mono B1.out.size))
      clear hb hq
      clear qL00 qL01 qL02 qL03 qL10 qL11 qL12 qL13
      have qL00 := RL0_2.out.c0
      have qL01 := RL0_2.out.c1
      have qL02 := RL0_2.out.c2
      have qL03 := RL0_2.out.c3
      have qL10 := RL1_2.out.c0
      have qL11 := RL1_2.out.c1
      have qL12 := RL1_2.out.c2
      have qL13 := RL1_2.out.c3
      refine Lib.hid ?_
      go_wp2_with (fail)
      go_region_held3 (fun w' => w'.cell? ⟨w.heap.size, 0, none⟩ = some (.int .i64 s0) ∧ w'.cell? ⟨w.heap.size, 1, none⟩ = some (.int .i64 k0) ∧ w'.cell? ⟨w.heap.size, 2, none⟩ = some (.int .i64 v0) ∧ w'.cell? ⟨w.heap.size, 3, none⟩ = some (.slice a0 l0.length c0) ∧ w'.cell? ⟨(w.heap.size + 1), 0, none⟩ = some (.int .i64 s1) ∧ w'.cell? ⟨(w.heap.size + 1), 1, none⟩ = some (.int .i64 k1) ∧ w'.cell? ⟨(w.heap.size + 1), 2, none⟩ = some (.int .i64 v1) ∧ w'.cell? ⟨(w.heap.size + 1), 3, none⟩ = some (.slice a1 l1.length c1))
        (first | exact ⟨t5L00, t5L01, t5L02, t5L03, t5L10, t5L11, t5L12, t5L13⟩ | exact ⟨t4L00, t4L01, t4L02, t4L03, t4L10, t4L11, t4L12, t4L13⟩ | exact ⟨t3L00, t3L01, t3L02, t3L03, t3L10, t3L11, t3L12, t3L13⟩ | exact ⟨qL00, qL01, qL02, qL03, qL10, qL11, qL12, qL13⟩)
        (first
          | (go_at_call 15; (with_reducible refine (tor_any s0 k0 v0 a0 c0 l0 _ (sz_len HZ0.out) (H0.out.inS.below B2.out.drew)).mono ?_); rintro e w3 ⟨bs0, ds0, rfl, ho, hb⟩; have hq := undrew hb; have Z3 := Lib.hid hq.size; have Os0_3 := Lib.hid (OwnH.of ho); have RL0_3 := Lib.hid (RL0_2.out.below hq); have RL1_3 := Lib.hid (RL1_2.out.below hq); have B3 := Lib.hid (B2.out.trans (hq.mono B2.out.size)); have t3L00 := RL0_3.out.c0; have t3L01 := RL0_3.out.c1; have t3L02 := RL0_3.out.c2; have t3L03 := RL0_3.out.c3; have t3L10 := RL1_3.out.c0; have t3L11 := RL1_3.out.c1; have t3L12 := RL1_3.out.c2; have t3L13 := RL1_3.out.c3; clear ho hb hq)
          | (go_at_call 15; (with_reducible refine (tor_any s1 k1 v1 a1 c1 l1 _ (sz_len HZ1.out) (H1.out.inS.below B3.out)).mono ?_); rintro e w4 ⟨bs1, ds1, rfl, ho, hb⟩; have hq := hb; have Z4 := Lib.hid hq.size; have Os1_4 := Lib.hid (OwnH.of ho); have Os0_4 := Lib.hid (Os0_3.out.below hq); have RL0_4 := Lib.hid (RL0_3.out.below hq); have RL1_4 := Lib.hid (RL1_3.out.below hq); have B4 := Lib.hid (B3.out.trans (hq.mono B3.out.size)); have t4L00 := RL0_4.out.c0; have t4L01 := RL0_4.out.c1; have t4L02 := RL0_4.out.c2; have t4L03 := RL0_4.out.c3; have t4L10 := RL1_4.out.c0; have t4L11 := RL1_4.out.c1; have t4L12 := RL1_4.out.c2; have t4L13 := RL1_4.out.c3; clear ho hb hq)
          | (go_at_call 9; (with_reducible refine (pf2_spec s0 k0 v0 s1 k1 v1 bs0 bs1 ds0 ds1 l0 l1 r _ HR.out ((Os0_4.out).sm (sz_len HZ0.out) (sz_mem HZ0.out)) ((Os1_4.out).sm (sz_len HZ1.out) (sz_mem HZ1.out)) (HSP.out.below B4.out)).mono ?_); rintro e w5 ⟨bjw, djw, rfl, ho, hb⟩; have hq := hb; have Z5 := Lib.hid hq.size; have Jjw_5 := Lib.hid (OwnJ.of ho); have Os0_5 := Lib.hid (Os0_4.out.below hq); have Os1_5 := Lib.hid (Os1_4.out.below hq); have RL0_5 := Lib.hid (RL0_4.out.below hq); have RL1_5 := Lib.hid (RL1_4.out.below hq); have B5 := Lib.hid (B4.out.trans (hq.mono B4.out.size)); have t5L00 := RL0_5.out.c0; have t5L01 := RL0_5.out.c1; have t5L02 := RL0_5.out.c2; have t5L03 := RL0_5.out.c3; have t5L10 := RL1_5.out.c0; have t5L11 := RL1_5.out.c1; have t5L12 := RL1_5.out.c2; have t5L13 := RL1_5.out.c3; clear ho hb hq))
      refine Hid.out ?_
      clear qL00 qL01 qL02 qL03 qL10 qL11 qL12 qL13 t3L00 t3L01 t3L02 t3L03 t3L10 t3L11 t3L12 t3L13 t4L00 t4L01 t4L02 t4L03 t4L10 t4L11 t4L12 t4L13 t5L00 t5L01 t5L02 t5L03 t5L10 t5L11 t5L12 t5L13
      have qL00 := RL0_5.out.c0
      have qL01 := RL0_5.out.c1
      have qL02 := RL0_5.out.c2
      have qL03 := RL0_5.out.c3
      have qL10 := RL1_5.out.c0
      have qL11 := RL1_5.out.c1
      have qL12 := RL1_5.out.c2
      have qL13 := RL1_5.out.c3
      refine Lib.hid ?_
      go_wp2_with (go_at_call 15; (refine (tor_any s0 k0 v0 a0 c0 l0 _ (sz_len HZ0.out) (H0.out.inS.below B5.out)).mono ?_); rintro e w6 ⟨bx0, dx0, rfl, ho, hb⟩; refine Hid.out ?_)
      have hq := hb
      have Z6 := Lib.hid hq.size
      have Jjw_6 := Lib.hid (Jjw_5.out.below hq)
      have Ox0_6 := Lib.hid (OwnH.of ho)
      have RL0_6 := Lib.hid (RL0_5.out.below hq)
      have RL1_6 := Lib.hid (RL1_5.out.below hq)
      have B6 := Lib.hid (B5.out.trans (hq.mono B5.out.size))
      clear ho hb hq
      clear qL00 qL01 qL02 qL03 qL10 qL11 qL12 qL13
      have qL00 := fun o => (RL0_6.out.alloc o).c0
      have qL01 := fun o => (RL0_6.out.alloc o).c1
      have qL02 := fun o => (RL0_6.out.alloc o).c2
      have qL03 := fun o => (RL0_6.out.alloc o).c3
      have qL10 := fun o => (RL1_6.out.alloc o).c0
      have qL11 := fun o => (RL1_6.out.alloc o).c1
      have qL12 := fun o => (RL1_6.out.alloc o).c2
      have qL13 := fun o => (RL1_6.out.alloc o).c3
      refine Lib.hid ?_
      go_wp2_with (go_at_call 15; (refine (tor_any s1 k1 v1 a1 c1 l1 _ (sz_len HZ1.out) (H1.out.inS.below (B6.out.alloc B6.out.size _))).mono ?_); rintro e w7 ⟨bx1, dx1, rfl, ho, hb⟩; refine Hid.out ?_)
      have hq := below_new hb
      have Z7 := Lib.hid (size_new2 hb)
      have Jjw_7 := Lib.hid (Jjw_6.out.below hq)
      have Ox1_7 := Lib.hid (OwnH.of_new2 ho)
      have Ox0_7 := Lib.hid (Ox0_6.out.below hq)
      have RL0_7 := Lib.hid (RL0_6.out.below hq)
      have RL1_7 := Lib.hid (RL1_6.out.below hq)
      have RX0_7 := Lib.hid ((RecB.new _ _ _ _ _ _ _ rfl).below hb)
      have B7 := Lib.hid (B6.out.trans (hq.mono B6.out.size))
      clear ho hb hq
      clear qL00 qL01 qL02 qL03 qL10 qL11 qL12 qL13
      have qL00 := fun o => (RL0_7.out.alloc o).c0
      have qL01 := fun o => (RL0_7.out.alloc o).c1
      have qL02 := fun o => (RL0_7.out.alloc o).c2
      have qL03 := fun o => (RL0_7.out.alloc o).c3
      have qL10 := fun o => (RL1_7.out.alloc o).c0
      have qL11 := fun o => (RL1_7.out.alloc o).c1
      have qL12 := fun o => (RL1_7.out.alloc o).c2
      have qL13 := fun o => (RL1_7.out.alloc o).c3
      have qX00 := fun o => (RX0_7.out.alloc o).c0
      have qX01 := fun o => (RX0_7.out.alloc o).c1
      have qX02 := fun o => (RX0_7.out.alloc o).c2
      have qX03 := fun o => (RX0_7.out.alloc o).c3
      refine Lib.hid ?_
      go_wp2_with (go_at_call 7; (refine (pf2_impl s0 k0 v0 s1 k1 v1 bx0 bx1 dx0 dx1 l0 l1 r _ HR.out ((Ox0_7.out.alloc _).sm (sz_len HZ0.out) (sz_mem HZ0.out)) ((Ox1_7.out.alloc _).sm (sz_len HZ1.out) (sz_mem HZ1.out)) (HT.out.on (B7.out.alloc B7.out.size _)) (HSP.out.below (B7.out.alloc B7.out.size _))).mono ?_); rintro e w8 ⟨bjg, djg, rfl, ho, hb⟩; refine Hid.out ?_)
      have hq := below_new hb
      have Z8 := Lib.hid (size_new2 hb)
      have Jjw_8 := Lib.hid (Jjw_7.out.below hq)
      have Jjg_8 := Lib.hid (OwnJ.of_new ho)
      have Ox0_8 := Lib.hid (Ox0_7.out.below hq)
      have Ox1_8 := Lib.hid (Ox1_7.out.below hq)
      have RL0_8 := Lib.hid (RL0_7.out.below hq)
      have RL1_8 := Lib.hid (RL1_7.out.below hq)
      have RX0_8 := Lib.hid (RX0_7.out.below hq)
      have RX1_8 := Lib.hid ((RecB.new _ _ _ _ _ _ _ rfl).below hb)
      have B8 := Lib.hid (B7.out.trans (hq.mono B7.out.size))
      clear ho hb hq
      clear qL00 qL01 qL02 qL03 qL10 qL11 qL12 qL13 qX00 qX01 qX02 qX03
      have qL00 := RL0_8.out.c0
      have qL01 := RL0_8.out.c1
      have qL02 := RL0_8.out.c2
      have qL03 := RL0_8.out.c3
      have qL10 := RL1_8.out.c0
      have qL11 := RL1_8.out.c1
      have qL12 := RL1_8.out.c2
      have qL13 := RL1_8.out.c3
      have qX00 := RX0_8.out.c0
      have qX01 := RX0_8.out.c1
      have qX02 := RX0_8.out.c2
      have qX03 := RX0_8.out.c3
      have qX10 := RX1_8.out.c0
      have qX11 := RX1_8.out.c1
      have qX12 := RX1_8.out.c2
      have qX13 := RX1_8.out.c3
      refine Lib.hid ?_
      have HRL := Lib.hid (show r.length ≤ 4000000 by rw [← HR.out]; have := pair_len s0 k0 v0 l0 s1 k1 v1 l1; omega)
      have HRM := Lib.hid (show r.length ≤ maxLen by have := HRL.out; unfold maxLen; omega)
      go_wp2_with (go_at_call 16; (refine (eq_int bjg bjw djg djw r _ HRM.out Jjg_8.out.inI Jjw_8.out.inI).mono ?_); rintro e w9 ⟨rfl, hb⟩; refine Hid.out ?_)
      have hq := hb
      have Z9 := Lib.hid hq.size
      have Jjw_9 := Lib.hid (Jjw_8.out.below hq)
      have Jjg_9 := Lib.hid (Jjg_8.out.below hq)
      have Ox0_9 := Lib.hid (Ox0_8.out.below hq)
      have Ox1_9 := Lib.hid (Ox1_8.out.below hq)
      have RL0_9 := Lib.hid (RL0_8.out.below hq)
      have RL1_9 := Lib.hid (RL1_8.out.below hq)
      have RX0_9 := Lib.hid (RX0_8.out.below hq)
      have RX1_9 := Lib.hid (RX1_8.out.below hq)
      have B9 := Lib.hid (B8.out.trans (hq.mono B8.out.size))
      clear hb hq
      clear qL00 qL01 qL02 qL03 qL10 qL11 qL12 qL13 qX00 qX01 qX02 qX03 qX10 qX11 qX12 qX13
      have qL00 := RL0_9.out.c0
      have qL01 := RL0_9.out.c1
      have qL02 := RL0_9.out.c2
      have qL03 := RL0_9.out.c3
      have qL10 := RL1_9.out.c0
      have qL11 := RL1_9.out.c1
      have qL12 := RL1_9.out.c2
      have qL13 := RL1_9.out.c3
      have qX00 := RX0_9.out.c0
      have qX01 := RX0_9.out.c1
      have qX02 := RX0_9.out.c2
      have qX03 := RX0_9.out.c3
      have qX10 := RX1_9.out.c0
      have qX11 := RX1_9.out.c1
      have qX12 := RX1_9.out.c2
      have qX13 := RX1_9.out.c3
      refine Lib.hid ?_
      go_wp2_with (fail)
      go_region_held3 (fun w' => w'.cell? ⟨w6.heap.size, 0, none⟩ = some (.int .i64 s0) ∧ w'.cell? ⟨w6.heap.size, 1, none⟩ = some (.int .i64 k0) ∧ w'.cell? ⟨w6.heap.size, 2, none⟩ = some (.int .i64 v0) ∧ w'.cell? ⟨w6.heap.size, 3, none⟩ = some (.slice bx0 l0.length dx0) ∧ w'.cell? ⟨w.heap.size, 0, none⟩ = some (.int .i64 s0) ∧ w'.cell? ⟨w.heap.size, 1, none⟩ = some (.int .i64 k0) ∧ w'.cell? ⟨w.heap.size, 2, none⟩ = some (.int .i64 v0) ∧ w'.cell? ⟨w.heap.size, 3, none⟩ = some (.slice a0 l0.length c0))
        (first | exact ⟨t11X00, t11X01, t11X02, t11X03, t11L00, t11L01, t11L02, t11L03⟩ | exact ⟨t10X00, t10X01, t10X02, t10X03, t10L00, t10L01, t10L02, t10L03⟩ | exact ⟨qX00, qX01, qX02, qX03, qL00, qL01, qL02, qL03⟩)
        (first
          | (go_at_call 15; (with_reducible refine (tor_any s0 k0 v0 a0 c0 l0 _ (sz_len HZ0.out) (H0.out.inS.below B9.out.drew)).mono ?_); rintro e w10 ⟨bt0, dt0, rfl, ho, hb⟩; have hq := undrew hb; have Z10 := Lib.hid hq.size; have Jjw_10 := Lib.hid (Jjw_9.out.below hq); have Jjg_10 := Lib.hid (Jjg_9.out.below hq); have Ot0_10 := Lib.hid (OwnH.of ho); have Ox0_10 := Lib.hid (Ox0_9.out.below hq); have Ox1_10 := Lib.hid (Ox1_9.out.below hq); have RL0_10 := Lib.hid (RL0_9.out.below hq); have RL1_10 := Lib.hid (RL1_9.out.below hq); have RX0_10 := Lib.hid (RX0_9.out.below hq); have RX1_10 := Lib.hid (RX1_9.out.below hq); have B10 := Lib.hid (B9.out.trans (hq.mono B9.out.size)); have t10X00 := RX0_10.out.c0; have t10X01 := RX0_10.out.c1; have t10X02 := RX0_10.out.c2; have t10X03 := RX0_10.out.c3; have t10L00 := RL0_10.out.c0; have t10L01 := RL0_10.out.c1; have t10L02 := RL0_10.out.c2; have t10L03 := RL0_10.out.c3; clear ho hb hq)
          | (go_at_call 17; (with_reducible refine (eqr_same s0 k0 v0 bx0 bt0 dx0 dt0 l0 _ HM0.out (Ox0_10.out).inS (Ot0_10.out).inS).mono ?_); rintro e w11 ⟨rfl, hb⟩; have hq := hb; have Z11 := Lib.hid hq.size; have Jjw_11 := Lib.hid (Jjw_10.out.below hq); have Jjg_11 := Lib.hid (Jjg_10.out.below hq); have Ox0_11 := Lib.hid (Ox0_10.out.below hq); have Ox1_11 := Lib.hid (Ox1_10.out.below hq); have Ot0_11 := Lib.hid (Ot0_10.out.below hq); have RL0_11 := Lib.hid (RL0_10.out.below hq); have RL1_11 := Lib.hid (RL1_10.out.below hq); have RX0_11 := Lib.hid (RX0_10.out.below hq); have RX1_11 := Lib.hid (RX1_10.out.below hq); have B11 := Lib.hid (B10.out.trans (hq.mono B10.out.size)); have t11X00 := RX0_11.out.c0; have t11X01 := RX0_11.out.c1; have t11X02 := RX0_11.out.c2; have t11X03 := RX0_11.out.c3; have t11L00 := RL0_11.out.c0; have t11L01 := RL0_11.out.c1; have t11L02 := RL0_11.out.c2; have t11L03 := RL0_11.out.c3; clear hb hq))
      refine Hid.out ?_
      clear qL00 qL01 qL02 qL03 qL10 qL11 qL12 qL13 qX00 qX01 qX02 qX03 qX10 qX11 qX12 qX13 t10X00 t10X01 t10X02 t10X03 t10L00 t10L01 t10L02 t10L03 t11X00 t11X01 t11X02 t11X03 t11L00 t11L01 t11L02 t11L03
      have qL00 := RL0_11.out.c0
      have qL01 := RL0_11.out.c1
      have qL02 := RL0_11.out.c2
      have qL03 := RL0_11.out.c3
      have qL10 := RL1_11.out.c0
      have qL11 := RL1_11.out.c1
      have qL12 := RL1_11.out.c2
      have qL13 := RL1_11.out.c3
      have qX00 := RX0_11.out.c0
      have qX01 := RX0_11.out.c1
      have qX02 := RX0_11.out.c2
      have qX03 := RX0_11.out.c3
      have qX10 := RX1_11.out.c0
      have qX11 := RX1_11.out.c1
      have qX12 := RX1_11.out.c2
      have qX13 := RX1_11.out.c3
      refine Lib.hid ?_
      go_wp2_with (fail)
      go_region_held3 (fun w' => w'.cell? ⟨w7.heap.size, 0, none⟩ = some (.int .i64 s1) ∧ w'.cell? ⟨w7.heap.size, 1, none⟩ = some (.int .i64 k1) ∧ w'.cell? ⟨w7.heap.size, 2, none⟩ = some (.int .i64 v1) ∧ w'.cell? ⟨w7.heap.size, 3, none⟩ = some (.slice bx1 l1.length dx1) ∧ w'.cell? ⟨(w.heap.size + 1), 0, none⟩ = some (.int .i64 s1) ∧ w'.cell? ⟨(w.heap.size + 1), 1, none⟩ = some (.int .i64 k1) ∧ w'.cell? ⟨(w.heap.size + 1), 2, none⟩ = some (.int .i64 v1) ∧ w'.cell? ⟨(w.heap.size + 1), 3, none⟩ = some (.slice a1 l1.length c1))
        (first | exact ⟨t13X10, t13X11, t13X12, t13X13, t13L10, t13L11, t13L12, t13L13⟩ | exact ⟨t12X10, t12X11, t12X12, t12X13, t12L10, t12L11, t12L12, t12L13⟩ | exact ⟨qX10, qX11, qX12, qX13, qL10, qL11, qL12, qL13⟩)
        (first
          | (go_at_call 15; (with_reducible refine (tor_any s1 k1 v1 a1 c1 l1 _ (sz_len HZ1.out) (H1.out.inS.below B11.out.drew)).mono ?_); rintro e w12 ⟨bt1, dt1, rfl, ho, hb⟩; have hq := undrew hb; have Z12 := Lib.hid hq.size; have Jjw_12 := Lib.hid (Jjw_11.out.below hq); have Jjg_12 := Lib.hid (Jjg_11.out.below hq); have Ot1_12 := Lib.hid (OwnH.of ho); have Ox0_12 := Lib.hid (Ox0_11.out.below hq); have Ox1_12 := Lib.hid (Ox1_11.out.below hq); have RL0_12 := Lib.hid (RL0_11.out.below hq); have RL1_12 := Lib.hid (RL1_11.out.below hq); have RX0_12 := Lib.hid (RX0_11.out.below hq); have RX1_12 := Lib.hid (RX1_11.out.below hq); have B12 := Lib.hid (B11.out.trans (hq.mono B11.out.size)); have t12X10 := RX1_12.out.c0; have t12X11 := RX1_12.out.c1; have t12X12 := RX1_12.out.c2; have t12X13 := RX1_12.out.c3; have t12L10 := RL1_12.out.c0; have t12L11 := RL1_12.out.c1; have t12L12 := RL1_12.out.c2; have t12L13 := RL1_12.out.c3; clear ho hb hq)
          | (go_at_call 17; (with_reducible refine (eqr_same s1 k1 v1 bx1 bt1 dx1 dt1 l1 _ HM1.out (Ox1_12.out).inS (Ot1_12.out).inS).mono ?_); rintro e w13 ⟨rfl, hb⟩; have hq := hb; have Z13 := Lib.hid hq.size; have Jjw_13 := Lib.hid (Jjw_12.out.below hq); have Jjg_13 := Lib.hid (Jjg_12.out.below hq); have Ox0_13 := Lib.hid (Ox0_12.out.below hq); have Ox1_13 := Lib.hid (Ox1_12.out.below hq); have Ot1_13 := Lib.hid (Ot1_12.out.below hq); have RL0_13 := Lib.hid (RL0_12.out.below hq); have RL1_13 := Lib.hid (RL1_12.out.below hq); have RX0_13 := Lib.hid (RX0_12.out.below hq); have RX1_13 := Lib.hid (RX1_12.out.below hq); have B13 := Lib.hid (B12.out.trans (hq.mono B12.out.size)); have t13X10 := RX1_13.out.c0; have t13X11 := RX1_13.out.c1; have t13X12 := RX1_13.out.c2; have t13X13 := RX1_13.out.c3; have t13L10 := RL1_13.out.c0; have t13L11 := RL1_13.out.c1; have t13L12 := RL1_13.out.c2; have t13L13 := RL1_13.out.c3; clear hb hq))
      refine Hid.out ?_
      clear qL00 qL01 qL02 qL03 qL10 qL11 qL12 qL13 qX00 qX01 qX02 qX03 qX10 qX11 qX12 qX13 t12X10 t12X11 t12X12 t12X13 t12L10 t12L11 t12L12 t12L13 t13X10 t13X11 t13X12 t13X13 t13L10 t13L11 t13L12 t13L13
      have qL00 := RL0_13.out.c0
      have qL01 := RL0_13.out.c1
      have qL02 := RL0_13.out.c2
      have qL03 := RL0_13.out.c3
      have qL10 := RL1_13.out.c0
      have qL11 := RL1_13.out.c1
      have qL12 := RL1_13.out.c2
      have qL13 := RL1_13.out.c3
      have qX00 := RX0_13.out.c0
      have qX01 := RX0_13.out.c1
      have qX02 := RX0_13.out.c2
      have qX03 := RX0_13.out.c3
      have qX10 := RX1_13.out.c0
      have qX11 := RX1_13.out.c1
      have qX12 := RX1_13.out.c2
      have qX13 := RX1_13.out.c3
      refine Lib.hid ?_
      have HL0Z := RL1_13.out.lt
      have ZZ := Lib.hid (show w.heap.size + 1 < wb.heap.size from RL1_0.out.lt)
      obtain ⟨q0, hq0⟩ : ∃ q : Nat, 1 + l0.length = q := ⟨_, rfl⟩
      have HQ0 := Lib.hid hq0
      have hqs0 : q0 ≤ 3000000 := by have := szL_len l0; have := szL_len l1; have := HZ0.out; have := HZ1.out; have := HQ0.out; omega
      have hqp0 : 0 < q0 := by omega
      clear hq0
      go_wp2_with (go_at_call 18; (refine (markr_at s0 k0 v0 (w5.heap.size) bx0 dx0 l0 1 q0 _ (sz_len HZ0.out) (by omega) (by omega) (by have := Z1.out; have := Z2.out; have := Z3.out; have := Z4.out; have := Z5.out; have := Z6.out; have := Z7.out; have := Z8.out; have := Z9.out; have := Z10.out; have := Z11.out; have := Z12.out; have := Z13.out; have := ZZ.out; omega) Ox0_13.out.1 HQ0.out).mono ?_); rintro e w14 ⟨rfl, hg⟩; refine Hid.out ?_)
      clear qL00 qL01 qL02 qL03 qL10 qL11 qL12 qL13 qX00 qX01 qX02 qX03 qX10 qX11 qX12 qX13
      have RL0_14 := Lib.hid (recb_grown RL0_13.out hg (fun e => by have h := Ox0_13.out.row _ e.symm; have := Z1.out; have := Z2.out; have := Z3.out; have := Z4.out; have := Z5.out; have := Z6.out; have := Z7.out; have := Z8.out; have := Z9.out; have := Z10.out; have := Z11.out; have := Z12.out; have := Z13.out; have := ZZ.out; omega))
      have RL1_14 := Lib.hid (recb_grown RL1_13.out hg (fun e => by have h := Ox0_13.out.row _ e.symm; have := Z1.out; have := Z2.out; have := Z3.out; have := Z4.out; have := Z5.out; have := Z6.out; have := Z7.out; have := Z8.out; have := Z9.out; have := Z10.out; have := Z11.out; have := Z12.out; have := Z13.out; have := ZZ.out; omega))
      have RX1_14 := Lib.hid (recb_grown RX1_13.out hg (fun e => by have h := Ox0_13.out.row _ e.symm; have := Z1.out; have := Z2.out; have := Z3.out; have := Z4.out; have := Z5.out; have := Z6.out; have := Z7.out; have := Z8.out; have := Z9.out; have := Z10.out; have := Z11.out; have := Z12.out; have := Z13.out; have := ZZ.out; omega))
      have Jjw_14 := Lib.hid (Jjw_13.out.other hg Ox0_13.out.row (by have := Z1.out; have := Z2.out; have := Z3.out; have := Z4.out; have := Z5.out; have := Z6.out; have := Z7.out; have := Z8.out; have := Z9.out; have := Z10.out; have := Z11.out; have := Z12.out; have := Z13.out; have := ZZ.out; omega))
      have Jjg_14 := Lib.hid (Jjg_13.out.other hg Ox0_13.out.row (by have := Z1.out; have := Z2.out; have := Z3.out; have := Z4.out; have := Z5.out; have := Z6.out; have := Z7.out; have := Z8.out; have := Z9.out; have := Z10.out; have := Z11.out; have := Z12.out; have := Z13.out; have := ZZ.out; omega))
      have Ox1_14 := Lib.hid (Ox1_13.out.other hg Ox0_13.out.row (by have := Z1.out; have := Z2.out; have := Z3.out; have := Z4.out; have := Z5.out; have := Z6.out; have := Z7.out; have := Z8.out; have := Z9.out; have := Z10.out; have := Z11.out; have := Z12.out; have := Z13.out; have := ZZ.out; omega))
      have B14 := Lib.hid (below_row B13.out Ox0_13.out hg (by have := Z1.out; have := Z2.out; have := Z3.out; have := Z4.out; have := Z5.out; have := Z6.out; have := Z7.out; have := Z8.out; have := Z9.out; have := Z10.out; have := Z11.out; have := Z12.out; have := Z13.out; have := ZZ.out; omega))
      have Z14 := Lib.hid hg.size
      clear hg
      have qL00 := RL0_14.out.c0
      have qL01 := RL0_14.out.c1
      have qL02 := RL0_14.out.c2
      have qL03 := RL0_14.out.c3
      have qL10 := RL1_14.out.c0
      have qL11 := RL1_14.out.c1
      have qL12 := RL1_14.out.c2
      have qL13 := RL1_14.out.c3
      have qX10 := RX1_14.out.c0
      have qX11 := RX1_14.out.c1
      have qX12 := RX1_14.out.c2
      have qX13 := RX1_14.out.c3
      refine Lib.hid ?_
      obtain ⟨q1, hq1⟩ : ∃ q : Nat, q0 + l1.length = q := ⟨_, rfl⟩
      have HQ1 := Lib.hid hq1
      have hqs1 : q1 ≤ 3000000 := by have := szL_len l0; have := szL_len l1; have := HZ0.out; have := HZ1.out; have := HQ0.out; have := HQ1.out; omega
      have hqp1 : 0 < q1 := by omega
      clear hq1
      go_wp2_with (go_at_call 18; (refine (markr_at s1 k1 v1 (w6.heap.size) bx1 dx1 l1 q0 q1 _ (sz_len HZ1.out) (by omega) (by omega) (by have := Z1.out; have := Z2.out; have := Z3.out; have := Z4.out; have := Z5.out; have := Z6.out; have := Z7.out; have := Z8.out; have := Z9.out; have := Z10.out; have := Z11.out; have := Z12.out; have := Z13.out; have := ZZ.out; have := Z14.out; omega) Ox1_14.out.1 HQ1.out).mono ?_); rintro e w15 ⟨rfl, hg⟩; refine Hid.out ?_)
      clear qL00 qL01 qL02 qL03 qL10 qL11 qL12 qL13 qX10 qX11 qX12 qX13
      have RL0_15 := Lib.hid (recb_grown RL0_14.out hg (fun e => by have h := Ox1_14.out.row _ e.symm; have := Z1.out; have := Z2.out; have := Z3.out; have := Z4.out; have := Z5.out; have := Z6.out; have := Z7.out; have := Z8.out; have := Z9.out; have := Z10.out; have := Z11.out; have := Z12.out; have := Z13.out; have := ZZ.out; have := Z14.out; omega))
      have RL1_15 := Lib.hid (recb_grown RL1_14.out hg (fun e => by have h := Ox1_14.out.row _ e.symm; have := Z1.out; have := Z2.out; have := Z3.out; have := Z4.out; have := Z5.out; have := Z6.out; have := Z7.out; have := Z8.out; have := Z9.out; have := Z10.out; have := Z11.out; have := Z12.out; have := Z13.out; have := ZZ.out; have := Z14.out; omega))
      have Jjw_15 := Lib.hid (Jjw_14.out.other hg Ox1_14.out.row (by have := Z1.out; have := Z2.out; have := Z3.out; have := Z4.out; have := Z5.out; have := Z6.out; have := Z7.out; have := Z8.out; have := Z9.out; have := Z10.out; have := Z11.out; have := Z12.out; have := Z13.out; have := ZZ.out; have := Z14.out; omega))
      have Jjg_15 := Lib.hid (Jjg_14.out.other hg Ox1_14.out.row (by have := Z1.out; have := Z2.out; have := Z3.out; have := Z4.out; have := Z5.out; have := Z6.out; have := Z7.out; have := Z8.out; have := Z9.out; have := Z10.out; have := Z11.out; have := Z12.out; have := Z13.out; have := ZZ.out; have := Z14.out; omega))
      have B15 := Lib.hid (below_row B14.out Ox1_14.out hg (by have := Z1.out; have := Z2.out; have := Z3.out; have := Z4.out; have := Z5.out; have := Z6.out; have := Z7.out; have := Z8.out; have := Z9.out; have := Z10.out; have := Z11.out; have := Z12.out; have := Z13.out; have := ZZ.out; have := Z14.out; omega))
      have Z15 := Lib.hid hg.size
      clear hg
      have qL00 := RL0_15.out.c0
      have qL01 := RL0_15.out.c1
      have qL02 := RL0_15.out.c2
      have qL03 := RL0_15.out.c3
      have qL10 := RL1_15.out.c0
      have qL11 := RL1_15.out.c1
      have qL12 := RL1_15.out.c2
      have qL13 := RL1_15.out.c3
      refine Lib.hid ?_
      go_wp2_with (go_at_call 16; (refine (eq_int bjg bjw djg djw r _ HRM.out Jjg_15.out.inI Jjw_15.out.inI).mono ?_); rintro e w16 ⟨rfl, hb⟩; refine Hid.out ?_)
      have hq := hb
      have Z16 := Lib.hid hq.size
      have Jjw_16 := Lib.hid (Jjw_15.out.below hq)
      have Jjg_16 := Lib.hid (Jjg_15.out.below hq)
      have RL0_16 := Lib.hid (RL0_15.out.below hq)
      have RL1_16 := Lib.hid (RL1_15.out.below hq)
      have B16 := Lib.hid (B15.out.trans (hq.mono B15.out.size))
      clear hb hq
      clear qL00 qL01 qL02 qL03 qL10 qL11 qL12 qL13
      have qL00 := RL0_16.out.c0
      have qL01 := RL0_16.out.c1
      have qL02 := RL0_16.out.c2
      have qL03 := RL0_16.out.c3
      have qL10 := RL1_16.out.c0
      have qL11 := RL1_16.out.c1
      have qL12 := RL1_16.out.c2
      have qL13 := RL1_16.out.c3
      refine Lib.hid ?_
      go_wp2_with (go_at_call 19; (refine (mark_int _ bjg djg r 1 _ HRL.out (by omega) Jjg_16.out.1).mono ?_); rintro e w17 ⟨rfl, ho, hg⟩; refine Hid.out ?_)
      clear qL00 qL01 qL02 qL03 qL10 qL11 qL12 qL13
      have RL0_17 := Lib.hid (recb_grown RL0_16.out hg (fun e => by have h := Jjg_16.out.row _ e.symm; have := Z1.out; have := Z2.out; have := Z3.out; have := Z4.out; have := Z5.out; have := Z6.out; have := Z7.out; have := Z8.out; have := Z9.out; have := Z10.out; have := Z11.out; have := Z12.out; have := Z13.out; have := ZZ.out; have := Z14.out; have := Z15.out; have := Z16.out; omega))
      have RL1_17 := Lib.hid (recb_grown RL1_16.out hg (fun e => by have h := Jjg_16.out.row _ e.symm; have := Z1.out; have := Z2.out; have := Z3.out; have := Z4.out; have := Z5.out; have := Z6.out; have := Z7.out; have := Z8.out; have := Z9.out; have := Z10.out; have := Z11.out; have := Z12.out; have := Z13.out; have := ZZ.out; have := Z14.out; have := Z15.out; have := Z16.out; omega))
      have Jjw_17 := Lib.hid (Jjw_16.out.other hg Jjg_16.out.row (by have := Z1.out; have := Z2.out; have := Z3.out; have := Z4.out; have := Z5.out; have := Z6.out; have := Z7.out; have := Z8.out; have := Z9.out; have := Z10.out; have := Z11.out; have := Z12.out; have := Z13.out; have := ZZ.out; have := Z14.out; have := Z15.out; have := Z16.out; omega))
      have Jjg_17 := Lib.hid (OwnJ.marked Jjg_16.out ho)
      have B17 := Lib.hid (below_rowj B16.out Jjg_16.out hg (by have := Z1.out; have := Z2.out; have := Z3.out; have := Z4.out; have := Z5.out; have := Z6.out; have := Z7.out; have := Z8.out; have := Z9.out; have := Z10.out; have := Z11.out; have := Z12.out; have := Z13.out; have := ZZ.out; have := Z14.out; have := Z15.out; have := Z16.out; omega))
      have Z17 := Lib.hid hg.size
      clear ho hg
      have qL00 := RL0_17.out.c0
      have qL01 := RL0_17.out.c1
      have qL02 := RL0_17.out.c2
      have qL03 := RL0_17.out.c3
      have qL10 := RL1_17.out.c0
      have qL11 := RL1_17.out.c1
      have qL12 := RL1_17.out.c2
      have qL13 := RL1_17.out.c3
      have hrl := HRL.out
      refine Lib.hid ?_
      go_wp2_with (go_at_call 20; (refine (held_int bjg djg r.length 1 _ HRL.out (by omega) Jjg_17.out.inI).mono ?_); rintro e w18 ⟨rfl, hb⟩; refine Hid.out ?_)
      have hq := hb
      have Z18 := Lib.hid hq.size
      have Jjw_18 := Lib.hid (Jjw_17.out.below hq)
      have Jjg_18 := Lib.hid (Jjg_17.out.below hq)
      have RL0_18 := Lib.hid (RL0_17.out.below hq)
      have RL1_18 := Lib.hid (RL1_17.out.below hq)
      have B18 := Lib.hid (B17.out.trans (hq.mono B17.out.size))
      clear hb hq
      clear qL00 qL01 qL02 qL03 qL10 qL11 qL12 qL13
      have qL00 := RL0_18.out.c0
      have qL01 := RL0_18.out.c1
      have qL02 := RL0_18.out.c2
      have qL03 := RL0_18.out.c3
      have qL10 := RL1_18.out.c0
      have qL11 := RL1_18.out.c1
      have qL12 := RL1_18.out.c2
      have qL13 := RL1_18.out.c3
      refine Lib.hid ?_
      go_wp2_with (fail)
      go_region_held3 (fun w' => w'.cell? ⟨w.heap.size, 0, none⟩ = some (.int .i64 s0) ∧ w'.cell? ⟨w.heap.size, 1, none⟩ = some (.int .i64 k0) ∧ w'.cell? ⟨w.heap.size, 2, none⟩ = some (.int .i64 v0) ∧ w'.cell? ⟨w.heap.size, 3, none⟩ = some (.slice a0 l0.length c0) ∧ w'.cell? ⟨(w.heap.size + 1), 0, none⟩ = some (.int .i64 s1) ∧ w'.cell? ⟨(w.heap.size + 1), 1, none⟩ = some (.int .i64 k1) ∧ w'.cell? ⟨(w.heap.size + 1), 2, none⟩ = some (.int .i64 v1) ∧ w'.cell? ⟨(w.heap.size + 1), 3, none⟩ = some (.slice a1 l1.length c1))
        (first | exact ⟨t21L00, t21L01, t21L02, t21L03, t21L10, t21L11, t21L12, t21L13⟩ | exact ⟨t20L00, t20L01, t20L02, t20L03, t20L10, t20L11, t20L12, t20L13⟩ | exact ⟨t19L00, t19L01, t19L02, t19L03, t19L10, t19L11, t19L12, t19L13⟩ | exact ⟨qL00, qL01, qL02, qL03, qL10, qL11, qL12, qL13⟩)
        (first
          | (go_at_call 15; (with_reducible refine (tor_any s0 k0 v0 a0 c0 l0 _ (sz_len HZ0.out) (H0.out.inS.below B18.out.drew)).mono ?_); rintro e w19 ⟨bu0, du0, rfl, ho, hb⟩; have hq := undrew hb; have Z19 := Lib.hid hq.size; have Jjw_19 := Lib.hid (Jjw_18.out.below hq); have Jjg_19 := Lib.hid (Jjg_18.out.below hq); have Ou0_19 := Lib.hid (OwnH.of ho); have RL0_19 := Lib.hid (RL0_18.out.below hq); have RL1_19 := Lib.hid (RL1_18.out.below hq); have B19 := Lib.hid (B18.out.trans (hq.mono B18.out.size)); have t19L00 := RL0_19.out.c0; have t19L01 := RL0_19.out.c1; have t19L02 := RL0_19.out.c2; have t19L03 := RL0_19.out.c3; have t19L10 := RL1_19.out.c0; have t19L11 := RL1_19.out.c1; have t19L12 := RL1_19.out.c2; have t19L13 := RL1_19.out.c3; clear ho hb hq)
          | (go_at_call 15; (with_reducible refine (tor_any s1 k1 v1 a1 c1 l1 _ (sz_len HZ1.out) (H1.out.inS.below B19.out)).mono ?_); rintro e w20 ⟨bu1, du1, rfl, ho, hb⟩; have hq := hb; have Z20 := Lib.hid hq.size; have Jjw_20 := Lib.hid (Jjw_19.out.below hq); have Jjg_20 := Lib.hid (Jjg_19.out.below hq); have Ou1_20 := Lib.hid (OwnH.of ho); have Ou0_20 := Lib.hid (Ou0_19.out.below hq); have RL0_20 := Lib.hid (RL0_19.out.below hq); have RL1_20 := Lib.hid (RL1_19.out.below hq); have B20 := Lib.hid (B19.out.trans (hq.mono B19.out.size)); have t20L00 := RL0_20.out.c0; have t20L01 := RL0_20.out.c1; have t20L02 := RL0_20.out.c2; have t20L03 := RL0_20.out.c3; have t20L10 := RL1_20.out.c0; have t20L11 := RL1_20.out.c1; have t20L12 := RL1_20.out.c2; have t20L13 := RL1_20.out.c3; clear ho hb hq)
          | (go_at_call 7; (with_reducible refine (pf2_impl s0 k0 v0 s1 k1 v1 bu0 bu1 du0 du1 l0 l1 r _ HR.out ((Ou0_20.out).sm (sz_len HZ0.out) (sz_mem HZ0.out)) ((Ou1_20.out).sm (sz_len HZ1.out) (sz_mem HZ1.out)) (HT.out.on B20.out) (HSP.out.below B20.out)).mono ?_); rintro e w21 ⟨bjh, djh, rfl, ho, hb⟩; have hq := hb; have Z21 := Lib.hid hq.size; have Jjw_21 := Lib.hid (Jjw_20.out.below hq); have Jjg_21 := Lib.hid (Jjg_20.out.below hq); have Jjh_21 := Lib.hid (OwnJ.of ho); have Ou0_21 := Lib.hid (Ou0_20.out.below hq); have Ou1_21 := Lib.hid (Ou1_20.out.below hq); have RL0_21 := Lib.hid (RL0_20.out.below hq); have RL1_21 := Lib.hid (RL1_20.out.below hq); have B21 := Lib.hid (B20.out.trans (hq.mono B20.out.size)); have t21L00 := RL0_21.out.c0; have t21L01 := RL0_21.out.c1; have t21L02 := RL0_21.out.c2; have t21L03 := RL0_21.out.c3; have t21L10 := RL1_21.out.c0; have t21L11 := RL1_21.out.c1; have t21L12 := RL1_21.out.c2; have t21L13 := RL1_21.out.c3; clear ho hb hq))
      refine Hid.out ?_
      clear qL00 qL01 qL02 qL03 qL10 qL11 qL12 qL13 t19L00 t19L01 t19L02 t19L03 t19L10 t19L11 t19L12 t19L13 t20L00 t20L01 t20L02 t20L03 t20L10 t20L11 t20L12 t20L13 t21L00 t21L01 t21L02 t21L03 t21L10 t21L11 t21L12 t21L13
      have qL00 := RL0_21.out.c0
      have qL01 := RL0_21.out.c1
      have qL02 := RL0_21.out.c2
      have qL03 := RL0_21.out.c3
      have qL10 := RL1_21.out.c0
      have qL11 := RL1_21.out.c1
      have qL12 := RL1_21.out.c2
      have qL13 := RL1_21.out.c3
      refine Lib.hid ?_
      go_wp2_with (go_at_call 16; (refine (eq_int bjh bjw djh djw r _ HRM.out Jjh_21.out.inI Jjw_21.out.inI).mono ?_); rintro e w22 ⟨rfl, hb⟩; refine Hid.out ?_)
      have hq := hb
      have Z22 := Lib.hid hq.size
      have Jjw_22 := Lib.hid (Jjw_21.out.below hq)
      have Jjg_22 := Lib.hid (Jjg_21.out.below hq)
      have Jjh_22 := Lib.hid (Jjh_21.out.below hq)
      have Ou0_22 := Lib.hid (Ou0_21.out.below hq)
      have Ou1_22 := Lib.hid (Ou1_21.out.below hq)
      have RL0_22 := Lib.hid (RL0_21.out.below hq)
      have RL1_22 := Lib.hid (RL1_21.out.below hq)
      have B22 := Lib.hid (B21.out.trans (hq.mono B21.out.size))
      clear hb hq
      clear qL00 qL01 qL02 qL03 qL10 qL11 qL12 qL13
      have qL00 := RL0_22.out.c0
      have qL01 := RL0_22.out.c1
      have qL02 := RL0_22.out.c2
      have qL03 := RL0_22.out.c3
      have qL10 := RL1_22.out.c0
      have qL11 := RL1_22.out.c1
      have qL12 := RL1_22.out.c2
      have qL13 := RL1_22.out.c3
      refine Lib.hid ?_
      go_wp2_with (go_at_call 20; (refine (held_int bjg djg r.length 1 _ HRL.out (by omega) Jjg_22.out.inI).mono ?_); rintro e w23 ⟨rfl, hb⟩; refine Hid.out ?_)
      have hq := hb
      have Z23 := Lib.hid hq.size
      have Jjw_23 := Lib.hid (Jjw_22.out.below hq)
      have Jjg_23 := Lib.hid (Jjg_22.out.below hq)
      have Jjh_23 := Lib.hid (Jjh_22.out.below hq)
      have Ou0_23 := Lib.hid (Ou0_22.out.below hq)
      have Ou1_23 := Lib.hid (Ou1_22.out.below hq)
      have RL0_23 := Lib.hid (RL0_22.out.below hq)
      have RL1_23 := Lib.hid (RL1_22.out.below hq)
      have B23 := Lib.hid (B22.out.trans (hq.mono B22.out.size))
      clear hb hq
      clear qL00 qL01 qL02 qL03 qL10 qL11 qL12 qL13
      have qL00 := RL0_23.out.c0
      have qL01 := RL0_23.out.c1
      have qL02 := RL0_23.out.c2
      have qL03 := RL0_23.out.c3
      have qL10 := RL1_23.out.c0
      have qL11 := RL1_23.out.c1
      have qL12 := RL1_23.out.c2
      have qL13 := RL1_23.out.c3
      refine Lib.hid ?_
      go_wp2
      go_ret
      exact ⟨rfl, B23.out⟩
    · have HS1 := Lib.hid hs
      clear hs
      go_enter Tryz.func4, Tryz.ntmps4
      have qL00 := RL0_0.out.c0
      have qL01 := RL0_0.out.c1
      have qL02 := RL0_0.out.c2
      have qL03 := RL0_0.out.c3
      have qL10 := RL1_0.out.c0
      have qL11 := RL1_0.out.c1
      have qL12 := RL1_0.out.c2
      have qL13 := RL1_0.out.c3
      go_wp2_with (go_at_call 14; rw [← HWB.out]; (refine (szr_yes s0 k0 v0 a0 c0 l0 1048576 r0 _ H0.out B0.out (by omega) HS0.out).mono ?_); rintro e w1 ⟨rfl, hb⟩; refine Hid.out ?_)
      have hq := hb
      have Z1 := Lib.hid hq.size
      have RL0_1 := Lib.hid (RL0_0.out.below hq)
      have RL1_1 := Lib.hid (RL1_0.out.below hq)
      have B1 := Lib.hid (B0.out.trans (hq.mono B0.out.size))
      clear hb hq
      clear qL00 qL01 qL02 qL03 qL10 qL11 qL12 qL13
      have qL00 := RL0_1.out.c0
      have qL01 := RL0_1.out.c1
      have qL02 := RL0_1.out.c2
      have qL03 := RL0_1.out.c3
      have qL10 := RL1_1.out.c0
      have qL11 := RL1_1.out.c1
      have qL12 := RL1_1.out.c2
      have qL13 := RL1_1.out.c3
      refine Lib.hid ?_
      go_wp2_with (go_at_call 14; (refine (szr_no s1 k1 v1 a1 c1 l1 r0 _ H1.out B1.out (by omega) HS1.out).mono ?_); rintro e w2 ⟨rfl, hb⟩; refine Hid.out ?_)
      have hq := hb
      have Z2 := Lib.hid hq.size
      have RL0_2 := Lib.hid (RL0_1.out.below hq)
      have RL1_2 := Lib.hid (RL1_1.out.below hq)
      have B2 := Lib.hid (B1.out.trans (hq.mono B1.out.size))
      clear hb hq
      clear qL00 qL01 qL02 qL03 qL10 qL11 qL12 qL13
      have qL00 := RL0_2.out.c0
      have qL01 := RL0_2.out.c1
      have qL02 := RL0_2.out.c2
      have qL03 := RL0_2.out.c3
      have qL10 := RL1_2.out.c0
      have qL11 := RL1_2.out.c1
      have qL12 := RL1_2.out.c2
      have qL13 := RL1_2.out.c3
      refine Lib.hid ?_
      go_wp2
      go_ret
      exact ⟨rfl, B2.out⟩
  · have HS0 := Lib.hid hs
    clear hs
    go_enter Tryz.func4, Tryz.ntmps4
    have qL00 := RL0_0.out.c0
    have qL01 := RL0_0.out.c1
    have qL02 := RL0_0.out.c2
    have qL03 := RL0_0.out.c3
    have qL10 := RL1_0.out.c0
    have qL11 := RL1_0.out.c1
    have qL12 := RL1_0.out.c2
    have qL13 := RL1_0.out.c3
    go_wp2_with (go_at_call 14; rw [← HWB.out]; (refine (szr_no s0 k0 v0 a0 c0 l0 1048576 _ H0.out B0.out (by omega) HS0.out).mono ?_); rintro e w1 ⟨rfl, hb⟩; refine Hid.out ?_)
    have hq := hb
    have Z1 := Lib.hid hq.size
    have RL0_1 := Lib.hid (RL0_0.out.below hq)
    have RL1_1 := Lib.hid (RL1_0.out.below hq)
    have B1 := Lib.hid (B0.out.trans (hq.mono B0.out.size))
    clear hb hq
    clear qL00 qL01 qL02 qL03 qL10 qL11 qL12 qL13
    have qL00 := RL0_1.out.c0
    have qL01 := RL0_1.out.c1
    have qL02 := RL0_1.out.c2
    have qL03 := RL0_1.out.c3
    have qL10 := RL1_1.out.c0
    have qL11 := RL1_1.out.c1
    have qL12 := RL1_1.out.c2
    have qL13 := RL1_1.out.c3
    refine Lib.hid ?_
    go_wp2
    go_ret
    exact ⟨rfl, B1.out⟩

end Go.Proofs.YtggohfinkpppkabGreatDoor
