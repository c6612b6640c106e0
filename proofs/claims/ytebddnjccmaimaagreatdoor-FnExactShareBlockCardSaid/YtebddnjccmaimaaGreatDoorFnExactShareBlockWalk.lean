/-
  The walk of laws.FnExactShareBlock. By an AI agent.
-/
import Derived.Test.YtebddnjccmaimaaGreatDoorBkSh
import Derived.Deep.RegionHeld3
namespace Go.Proofs.YtebddnjccmaimaaGreatDoor
open Go.RowKit
set_option linter.unusedVariables false

set_option maxRecDepth 100000 in
set_option maxHeartbeats 3200000 in
theorem FnExactShareBlock_walk (s0 k0 v0 s1 k1 v1 : Int) (a0 a1 : Option Addr) (c0 c1 : Nat) (l0 l1 : List Str) (w : World) (h0 : ArgS w a0 l0) (h1 : ArgS w a1 l1) (ht : TabAt w) (hT : SpT w) :
    Calls Tryz.prog 8 #[.agg #[.int .i64 s0, .int .i64 k0, .int .i64 v0, .slice a0 l0.length c0], .agg #[.int .i64 s1, .int .i64 k1, .int .i64 v1, .slice a1 l1.length c1]] w fun e w' => e = .returned (.bool true) ∧ Below w.heap.size w w' := by
  obtain ⟨wb, hwb⟩ : ∃ wb, wb = ((w.alloc (.cells #[.int .i64 s0, .int .i64 k0, .int .i64 v0, .slice a0 l0.length c0] 44)).alloc (.cells #[.int .i64 s1, .int .i64 k1, .int .i64 v1, .slice a1 l1.length c1] 44)) := ⟨_, rfl⟩
  have B0 := Lib.hid (show Below w.heap.size w wb by rw [hwb]; exact (((Below.refl w.heap.size w).alloc (Nat.le_refl _) _).alloc (by simp) _))
  have RL0_0 := Lib.hid (show RecB 44 wb w.heap.size s0 k0 v0 (.slice a0 l0.length c0) by rw [hwb]; exact (RecB.new _ _ _ _ _ _ _ rfl).alloc _)
  have RL1_0 := Lib.hid (show RecB 44 wb (w.heap.size + 1) s1 k1 v1 (.slice a1 l1.length c1) by rw [hwb]; exact RecB.new _ _ _ _ _ _ _ (by simp))
  have H0 := Lib.hid h0
  have H1 := Lib.hid h1
  have HWB := Lib.hid hwb
  clear hwb h0 h1
  have HT := Lib.hid ht
  clear ht
  have HSP := Lib.hid hT
  clear hT
  obtain ⟨r, hr⟩ : ∃ r, shareR s0 k0 v0 s1 k1 v1 l0 l1 = r := ⟨_, rfl⟩
  have HR := Lib.hid hr
  clear hr
  by_cases hs : szL l0 ≤ 1048576
  · obtain ⟨r0, hr⟩ : ∃ r : Nat, r + szL l0 = 1048576 := ⟨1048576 - szL l0, by omega⟩
    have hrl0 : (r0 : Int) ≤ 1048576 := by omega
    have HS0 := Lib.hid hr
    have HZ0 := Lib.hid (show szL l0 ≤ 1048576 by omega)
    have HM0 := Lib.hid (show l0.length ≤ maxLen by have := szL_len l0; unfold maxLen; omega)
    clear hs hr
    by_cases hs : szL l1 ≤ r0
    · obtain ⟨r1, hr⟩ : ∃ r : Nat, r + szL l1 = r0 := ⟨r0 - szL l1, by omega⟩
      have hrl1 : (r1 : Int) ≤ 1048576 := by omega
      have HS1 := Lib.hid hr
      have HZ1 := Lib.hid (show szL l1 ≤ 1048576 by omega)
      have HM1 := Lib.hid (show l1.length ≤ maxLen by have := szL_len l1; unfold maxLen; omega)
      clear hs hr
      go_enter Tryz.func8, Tryz.ntmps8
      have qL00 := RL0_0.out.c0
      have qL01 := RL0_0.out.c1
      have qL02 := RL0_0.out.c2
      have qL03 := RL0_0.out.c3
      have qL10 := RL1_0.out.c0
      have qL11 := RL1_0.out.c1
      have qL12 := RL1_0.out.c2
      have qL13 := RL1_0.out.c3
      go_wp2_with (go_at_call 23; rw [← HWB.out]; (refine (szr_yes s0 k0 v0 a0 c0 l0 1048576 r0 _ H0.out B0.out (by omega) HS0.out).mono ?_); rintro e w1 ⟨rfl, hb⟩; refine Hid.out ?_)
      have hq := hb
      have RL0_1 := Lib.hid (RL0_0.out.below hq)
      have RL1_1 := Lib.hid (RL1_0.out.below hq)
      have B1 := Lib.hid (B0.out.trans (hq.mono B0.out.size))
      clear hb hq
      clear qL00 qL01 qL02 qL03 qL10 qL11 qL12 qL13
      have qL00 := RL0_1.out.c0
      have qL01 := RL0_1.out.c1
      have qL02 := RL0_1.out.c2
      have qL03 := RL0_1.out.c3
      have qL10 := RL1_1.out.c0
      have qL11 := RL1_1.out.c1
      have qL12 := RL1_1.out.c2
      have qL13 := RL1_1.out.c3
      refine Lib.hid ?_
      go_wp2_with (go_at_call 23; (refine (szr_yes s1 k1 v1 a1 c1 l1 r0 r1 _ H1.out B1.out (by omega) HS1.out).mono ?_); rintro e w2 ⟨rfl, hb⟩; refine Hid.out ?_)
      have hq := hb
      have RL0_2 := Lib.hid (RL0_1.out.below hq)
      have RL1_2 := Lib.hid (RL1_1.out.below hq)
      have B2 := Lib.hid (B1.out.trans (hq.mono B1.out.size))
      clear hb hq
      clear qL00 qL01 qL02 qL03 qL10 qL11 qL12 qL13
      have qL00 := RL0_2.out.c0
      have qL01 := RL0_2.out.c1
      have qL02 := RL0_2.out.c2
      have qL03 := RL0_2.out.c3
      have qL10 := RL1_2.out.c0
      have qL11 := RL1_2.out.c1
      have qL12 := RL1_2.out.c2
      have qL13 := RL1_2.out.c3
      refine Lib.hid ?_
      go_wp2_with (fail)
      go_region_held3 (fun w' => w'.cell? ⟨w.heap.size, 0, none⟩ = some (.int .i64 s0) ∧ w'.cell? ⟨w.heap.size, 1, none⟩ = some (.int .i64 k0) ∧ w'.cell? ⟨w.heap.size, 2, none⟩ = some (.int .i64 v0) ∧ w'.cell? ⟨w.heap.size, 3, none⟩ = some (.slice a0 l0.length c0) ∧ w'.cell? ⟨(w.heap.size + 1), 0, none⟩ = some (.int .i64 s1) ∧ w'.cell? ⟨(w.heap.size + 1), 1, none⟩ = some (.int .i64 k1) ∧ w'.cell? ⟨(w.heap.size + 1), 2, none⟩ = some (.int .i64 v1) ∧ w'.cell? ⟨(w.heap.size + 1), 3, none⟩ = some (.slice a1 l1.length c1))
        (first | exact ⟨t5L00, t5L01, t5L02, t5L03, t5L10, t5L11, t5L12, t5L13⟩ | exact ⟨t4L00, t4L01, t4L02, t4L03, t4L10, t4L11, t4L12, t4L13⟩ | exact ⟨t3L00, t3L01, t3L02, t3L03, t3L10, t3L11, t3L12, t3L13⟩ | exact ⟨qL00, qL01, qL02, qL03, qL10, qL11, qL12, qL13⟩)
        (first
          | (go_at_call 25; (with_reducible refine (tor_any s0 k0 v0 a0 c0 l0 _ (sz_len HZ0.out) (H0.out.inS.below B2.out.drew)).mono ?_); rintro e w3 ⟨bs0, ds0, rfl, ho, hb⟩; have hq := undrew hb; have Os0_3 := Lib.hid (OwnH.of ho); have RL0_3 := Lib.hid (RL0_2.out.below hq); have RL1_3 := Lib.hid (RL1_2.out.below hq); have B3 := Lib.hid (B2.out.trans (hq.mono B2.out.size)); have t3L00 := RL0_3.out.c0; have t3L01 := RL0_3.out.c1; have t3L02 := RL0_3.out.c2; have t3L03 := RL0_3.out.c3; have t3L10 := RL1_3.out.c0; have t3L11 := RL1_3.out.c1; have t3L12 := RL1_3.out.c2; have t3L13 := RL1_3.out.c3; clear ho hb hq)
          | (go_at_call 25; (with_reducible refine (tor_any s1 k1 v1 a1 c1 l1 _ (sz_len HZ1.out) (H1.out.inS.below B3.out)).mono ?_); rintro e w4 ⟨bs1, ds1, rfl, ho, hb⟩; have hq := hb; have Os1_4 := Lib.hid (OwnH.of ho); have Os0_4 := Lib.hid (Os0_3.out.below hq); have RL0_4 := Lib.hid (RL0_3.out.below hq); have RL1_4 := Lib.hid (RL1_3.out.below hq); have B4 := Lib.hid (B3.out.trans (hq.mono B3.out.size)); have t4L00 := RL0_4.out.c0; have t4L01 := RL0_4.out.c1; have t4L02 := RL0_4.out.c2; have t4L03 := RL0_4.out.c3; have t4L10 := RL1_4.out.c0; have t4L11 := RL1_4.out.c1; have t4L12 := RL1_4.out.c2; have t4L13 := RL1_4.out.c3; clear ho hb hq)
          | (go_at_call 41; (with_reducible refine (share_spec s0 k0 v0 s1 k1 v1 bs0 bs1 ds0 ds1 l0 l1 r _ HR.out ((Os0_4.out).sm (sz_len HZ0.out) (sz_mem HZ0.out)) ((Os1_4.out).sm (sz_len HZ1.out) (sz_mem HZ1.out)) (HSP.out.below B4.out)).mono ?_); rintro e w5 ⟨rfl, hb⟩; have hq := hb; have Os0_5 := Lib.hid (Os0_4.out.below hq); have Os1_5 := Lib.hid (Os1_4.out.below hq); have RL0_5 := Lib.hid (RL0_4.out.below hq); have RL1_5 := Lib.hid (RL1_4.out.below hq); have B5 := Lib.hid (B4.out.trans (hq.mono B4.out.size)); have t5L00 := RL0_5.out.c0; have t5L01 := RL0_5.out.c1; have t5L02 := RL0_5.out.c2; have t5L03 := RL0_5.out.c3; have t5L10 := RL1_5.out.c0; have t5L11 := RL1_5.out.c1; have t5L12 := RL1_5.out.c2; have t5L13 := RL1_5.out.c3; clear hb hq))
      refine Hid.out ?_
      clear qL00 qL01 qL02 qL03 qL10 qL11 qL12 qL13 t3L00 t3L01 t3L02 t3L03 t3L10 t3L11 t3L12 t3L13 t4L00 t4L01 t4L02 t4L03 t4L10 t4L11 t4L12 t4L13 t5L00 t5L01 t5L02 t5L03 t5L10 t5L11 t5L12 t5L13
      have qL00 := RL0_5.out.c0
      have qL01 := RL0_5.out.c1
      have qL02 := RL0_5.out.c2
      have qL03 := RL0_5.out.c3
      have qL10 := RL1_5.out.c0
      have qL11 := RL1_5.out.c1
      have qL12 := RL1_5.out.c2
      have qL13 := RL1_5.out.c3
      refine Lib.hid ?_
      go_wp2_with (go_at_call 25; (refine (tor_any s0 k0 v0 a0 c0 l0 _ (sz_len HZ0.out) (H0.out.inS.below B5.out)).mono ?_); rintro e w6 ⟨bx0, dx0, rfl, ho, hb⟩; refine Hid.out ?_)
      have hq := hb
      have Ox0_6 := Lib.hid (OwnH.of ho)
      have RL0_6 := Lib.hid (RL0_5.out.below hq)
      have RL1_6 := Lib.hid (RL1_5.out.below hq)
      have B6 := Lib.hid (B5.out.trans (hq.mono B5.out.size))
      clear ho hb hq
      clear qL00 qL01 qL02 qL03 qL10 qL11 qL12 qL13
      have qL00 := fun o => (RL0_6.out.alloc o).c0
      have qL01 := fun o => (RL0_6.out.alloc o).c1
      have qL02 := fun o => (RL0_6.out.alloc o).c2
      have qL03 := fun o => (RL0_6.out.alloc o).c3
      have qL10 := fun o => (RL1_6.out.alloc o).c0
      have qL11 := fun o => (RL1_6.out.alloc o).c1
      have qL12 := fun o => (RL1_6.out.alloc o).c2
      have qL13 := fun o => (RL1_6.out.alloc o).c3
      refine Lib.hid ?_
      go_wp2_with (go_at_call 25; (refine (tor_any s1 k1 v1 a1 c1 l1 _ (sz_len HZ1.out) (H1.out.inS.below (B6.out.alloc B6.out.size _))).mono ?_); rintro e w7 ⟨bx1, dx1, rfl, ho, hb⟩; refine Hid.out ?_)
      have hq := below_new hb
      have Ox1_7 := Lib.hid (OwnH.of ho)
      have Ox0_7 := Lib.hid (Ox0_6.out.below hq)
      have RL0_7 := Lib.hid (RL0_6.out.below hq)
      have RL1_7 := Lib.hid (RL1_6.out.below hq)
      have RX0_7 := Lib.hid ((RecB.new _ _ _ _ _ _ _ rfl).below hb)
      have B7 := Lib.hid (B6.out.trans (hq.mono B6.out.size))
      clear ho hb hq
      clear qL00 qL01 qL02 qL03 qL10 qL11 qL12 qL13
      have qL00 := fun o => (RL0_7.out.alloc o).c0
      have qL01 := fun o => (RL0_7.out.alloc o).c1
      have qL02 := fun o => (RL0_7.out.alloc o).c2
      have qL03 := fun o => (RL0_7.out.alloc o).c3
      have qL10 := fun o => (RL1_7.out.alloc o).c0
      have qL11 := fun o => (RL1_7.out.alloc o).c1
      have qL12 := fun o => (RL1_7.out.alloc o).c2
      have qL13 := fun o => (RL1_7.out.alloc o).c3
      have qX00 := fun o => (RX0_7.out.alloc o).c0
      have qX01 := fun o => (RX0_7.out.alloc o).c1
      have qX02 := fun o => (RX0_7.out.alloc o).c2
      have qX03 := fun o => (RX0_7.out.alloc o).c3
      refine Lib.hid ?_
      go_wp2_with (go_at_call 19; (refine (share_impl s0 k0 v0 s1 k1 v1 bx0 bx1 dx0 dx1 l0 l1 r _ HR.out ((Ox0_7.out.alloc _).sm (sz_len HZ0.out) (sz_mem HZ0.out)) ((Ox1_7.out.alloc _).sm (sz_len HZ1.out) (sz_mem HZ1.out)) (HT.out.on (B7.out.alloc B7.out.size _)) (HSP.out.below (B7.out.alloc B7.out.size _))).mono ?_); rintro e w8 ⟨rfl, hb⟩; refine Hid.out ?_)
      have hq := below_new hb
      have Ox0_8 := Lib.hid (Ox0_7.out.below hq)
      have Ox1_8 := Lib.hid (Ox1_7.out.below hq)
      have RL0_8 := Lib.hid (RL0_7.out.below hq)
      have RL1_8 := Lib.hid (RL1_7.out.below hq)
      have RX0_8 := Lib.hid (RX0_7.out.below hq)
      have RX1_8 := Lib.hid ((RecB.new _ _ _ _ _ _ _ rfl).below hb)
      have B8 := Lib.hid (B7.out.trans (hq.mono B7.out.size))
      clear hb hq
      clear qL00 qL01 qL02 qL03 qL10 qL11 qL12 qL13 qX00 qX01 qX02 qX03
      have qL00 := RL0_8.out.c0
      have qL01 := RL0_8.out.c1
      have qL02 := RL0_8.out.c2
      have qL03 := RL0_8.out.c3
      have qL10 := RL1_8.out.c0
      have qL11 := RL1_8.out.c1
      have qL12 := RL1_8.out.c2
      have qL13 := RL1_8.out.c3
      have qX00 := RX0_8.out.c0
      have qX01 := RX0_8.out.c1
      have qX02 := RX0_8.out.c2
      have qX03 := RX0_8.out.c3
      have qX10 := RX1_8.out.c0
      have qX11 := RX1_8.out.c1
      have qX12 := RX1_8.out.c2
      have qX13 := RX1_8.out.c3
      refine Lib.hid ?_
      go_wp2_with (fail)
      go_region_held3 (fun w' => w'.cell? ⟨w6.heap.size, 0, none⟩ = some (.int .i64 s0) ∧ w'.cell? ⟨w6.heap.size, 1, none⟩ = some (.int .i64 k0) ∧ w'.cell? ⟨w6.heap.size, 2, none⟩ = some (.int .i64 v0) ∧ w'.cell? ⟨w6.heap.size, 3, none⟩ = some (.slice bx0 l0.length dx0) ∧ w'.cell? ⟨w.heap.size, 0, none⟩ = some (.int .i64 s0) ∧ w'.cell? ⟨w.heap.size, 1, none⟩ = some (.int .i64 k0) ∧ w'.cell? ⟨w.heap.size, 2, none⟩ = some (.int .i64 v0) ∧ w'.cell? ⟨w.heap.size, 3, none⟩ = some (.slice a0 l0.length c0))
        (first | exact ⟨t10X00, t10X01, t10X02, t10X03, t10L00, t10L01, t10L02, t10L03⟩ | exact ⟨t9X00, t9X01, t9X02, t9X03, t9L00, t9L01, t9L02, t9L03⟩ | exact ⟨qX00, qX01, qX02, qX03, qL00, qL01, qL02, qL03⟩)
        (first
          | (go_at_call 25; (with_reducible refine (tor_any s0 k0 v0 a0 c0 l0 _ (sz_len HZ0.out) (H0.out.inS.below B8.out.drew)).mono ?_); rintro e w9 ⟨bt0, dt0, rfl, ho, hb⟩; have hq := undrew hb; have Ot0_9 := Lib.hid (OwnH.of ho); have Ox0_9 := Lib.hid (Ox0_8.out.below hq); have Ox1_9 := Lib.hid (Ox1_8.out.below hq); have RL0_9 := Lib.hid (RL0_8.out.below hq); have RL1_9 := Lib.hid (RL1_8.out.below hq); have RX0_9 := Lib.hid (RX0_8.out.below hq); have RX1_9 := Lib.hid (RX1_8.out.below hq); have B9 := Lib.hid (B8.out.trans (hq.mono B8.out.size)); have t9X00 := RX0_9.out.c0; have t9X01 := RX0_9.out.c1; have t9X02 := RX0_9.out.c2; have t9X03 := RX0_9.out.c3; have t9L00 := RL0_9.out.c0; have t9L01 := RL0_9.out.c1; have t9L02 := RL0_9.out.c2; have t9L03 := RL0_9.out.c3; clear ho hb hq)
          | (go_at_call 27; (with_reducible refine (eqr_same s0 k0 v0 bx0 bt0 dx0 dt0 l0 _ HM0.out (Ox0_9.out).inS (Ot0_9.out).inS).mono ?_); rintro e w10 ⟨rfl, hb⟩; have hq := hb; have Ox0_10 := Lib.hid (Ox0_9.out.below hq); have Ox1_10 := Lib.hid (Ox1_9.out.below hq); have Ot0_10 := Lib.hid (Ot0_9.out.below hq); have RL0_10 := Lib.hid (RL0_9.out.below hq); have RL1_10 := Lib.hid (RL1_9.out.below hq); have RX0_10 := Lib.hid (RX0_9.out.below hq); have RX1_10 := Lib.hid (RX1_9.out.below hq); have B10 := Lib.hid (B9.out.trans (hq.mono B9.out.size)); have t10X00 := RX0_10.out.c0; have t10X01 := RX0_10.out.c1; have t10X02 := RX0_10.out.c2; have t10X03 := RX0_10.out.c3; have t10L00 := RL0_10.out.c0; have t10L01 := RL0_10.out.c1; have t10L02 := RL0_10.out.c2; have t10L03 := RL0_10.out.c3; clear hb hq))
      refine Hid.out ?_
      clear qL00 qL01 qL02 qL03 qL10 qL11 qL12 qL13 qX00 qX01 qX02 qX03 qX10 qX11 qX12 qX13 t9X00 t9X01 t9X02 t9X03 t9L00 t9L01 t9L02 t9L03 t10X00 t10X01 t10X02 t10X03 t10L00 t10L01 t10L02 t10L03
      have qL00 := RL0_10.out.c0
      have qL01 := RL0_10.out.c1
      have qL02 := RL0_10.out.c2
      have qL03 := RL0_10.out.c3
      have qL10 := RL1_10.out.c0
      have qL11 := RL1_10.out.c1
      have qL12 := RL1_10.out.c2
      have qL13 := RL1_10.out.c3
      have qX00 := RX0_10.out.c0
      have qX01 := RX0_10.out.c1
      have qX02 := RX0_10.out.c2
      have qX03 := RX0_10.out.c3
      have qX10 := RX1_10.out.c0
      have qX11 := RX1_10.out.c1
      have qX12 := RX1_10.out.c2
      have qX13 := RX1_10.out.c3
      refine Lib.hid ?_
      go_wp2_with (fail)
      go_region_held3 (fun w' => w'.cell? ⟨w7.heap.size, 0, none⟩ = some (.int .i64 s1) ∧ w'.cell? ⟨w7.heap.size, 1, none⟩ = some (.int .i64 k1) ∧ w'.cell? ⟨w7.heap.size, 2, none⟩ = some (.int .i64 v1) ∧ w'.cell? ⟨w7.heap.size, 3, none⟩ = some (.slice bx1 l1.length dx1) ∧ w'.cell? ⟨(w.heap.size + 1), 0, none⟩ = some (.int .i64 s1) ∧ w'.cell? ⟨(w.heap.size + 1), 1, none⟩ = some (.int .i64 k1) ∧ w'.cell? ⟨(w.heap.size + 1), 2, none⟩ = some (.int .i64 v1) ∧ w'.cell? ⟨(w.heap.size + 1), 3, none⟩ = some (.slice a1 l1.length c1))
        (first | exact ⟨t12X10, t12X11, t12X12, t12X13, t12L10, t12L11, t12L12, t12L13⟩ | exact ⟨t11X10, t11X11, t11X12, t11X13, t11L10, t11L11, t11L12, t11L13⟩ | exact ⟨qX10, qX11, qX12, qX13, qL10, qL11, qL12, qL13⟩)
        (first
          | (go_at_call 25; (with_reducible refine (tor_any s1 k1 v1 a1 c1 l1 _ (sz_len HZ1.out) (H1.out.inS.below B10.out.drew)).mono ?_); rintro e w11 ⟨bt1, dt1, rfl, ho, hb⟩; have hq := undrew hb; have Ot1_11 := Lib.hid (OwnH.of ho); have Ox0_11 := Lib.hid (Ox0_10.out.below hq); have Ox1_11 := Lib.hid (Ox1_10.out.below hq); have RL0_11 := Lib.hid (RL0_10.out.below hq); have RL1_11 := Lib.hid (RL1_10.out.below hq); have RX0_11 := Lib.hid (RX0_10.out.below hq); have RX1_11 := Lib.hid (RX1_10.out.below hq); have B11 := Lib.hid (B10.out.trans (hq.mono B10.out.size)); have t11X10 := RX1_11.out.c0; have t11X11 := RX1_11.out.c1; have t11X12 := RX1_11.out.c2; have t11X13 := RX1_11.out.c3; have t11L10 := RL1_11.out.c0; have t11L11 := RL1_11.out.c1; have t11L12 := RL1_11.out.c2; have t11L13 := RL1_11.out.c3; clear ho hb hq)
          | (go_at_call 27; (with_reducible refine (eqr_same s1 k1 v1 bx1 bt1 dx1 dt1 l1 _ HM1.out (Ox1_11.out).inS (Ot1_11.out).inS).mono ?_); rintro e w12 ⟨rfl, hb⟩; have hq := hb; have Ox0_12 := Lib.hid (Ox0_11.out.below hq); have Ox1_12 := Lib.hid (Ox1_11.out.below hq); have Ot1_12 := Lib.hid (Ot1_11.out.below hq); have RL0_12 := Lib.hid (RL0_11.out.below hq); have RL1_12 := Lib.hid (RL1_11.out.below hq); have RX0_12 := Lib.hid (RX0_11.out.below hq); have RX1_12 := Lib.hid (RX1_11.out.below hq); have B12 := Lib.hid (B11.out.trans (hq.mono B11.out.size)); have t12X10 := RX1_12.out.c0; have t12X11 := RX1_12.out.c1; have t12X12 := RX1_12.out.c2; have t12X13 := RX1_12.out.c3; have t12L10 := RL1_12.out.c0; have t12L11 := RL1_12.out.c1; have t12L12 := RL1_12.out.c2; have t12L13 := RL1_12.out.c3; clear hb hq))
      refine Hid.out ?_
      clear qL00 qL01 qL02 qL03 qL10 qL11 qL12 qL13 qX00 qX01 qX02 qX03 qX10 qX11 qX12 qX13 t11X10 t11X11 t11X12 t11X13 t11L10 t11L11 t11L12 t11L13 t12X10 t12X11 t12X12 t12X13 t12L10 t12L11 t12L12 t12L13
      have qL00 := RL0_12.out.c0
      have qL01 := RL0_12.out.c1
      have qL02 := RL0_12.out.c2
      have qL03 := RL0_12.out.c3
      have qL10 := RL1_12.out.c0
      have qL11 := RL1_12.out.c1
      have qL12 := RL1_12.out.c2
      have qL13 := RL1_12.out.c3
      have qX00 := RX0_12.out.c0
      have qX01 := RX0_12.out.c1
      have qX02 := RX0_12.out.c2
      have qX03 := RX0_12.out.c3
      have qX10 := RX1_12.out.c0
      have qX11 := RX1_12.out.c1
      have qX12 := RX1_12.out.c2
      have qX13 := RX1_12.out.c3
      refine Lib.hid ?_
      go_wp2
      go_ret
      exact ⟨rfl, B12.out⟩
    · have HS1 := Lib.hid hs
      clear hs
      go_enter Tryz.func8, Tryz.ntmps8
      have qL00 := RL0_0.out.c0
      have qL01 := RL0_0.out.c1
      have qL02 := RL0_0.out.c2
      have qL03 := RL0_0.out.c3
      have qL10 := RL1_0.out.c0
      have qL11 := RL1_0.out.c1
      have qL12 := RL1_0.out.c2
      have qL13 := RL1_0.out.c3
      go_wp2_with (go_at_call 23; rw [← HWB.out]; (refine (szr_yes s0 k0 v0 a0 c0 l0 1048576 r0 _ H0.out B0.out (by omega) HS0.out).mono ?_); rintro e w1 ⟨rfl, hb⟩; refine Hid.out ?_)
      have hq := hb
      have RL0_1 := Lib.hid (RL0_0.out.below hq)
      have RL1_1 := Lib.hid (RL1_0.out.below hq)
      have B1 := Lib.hid (B0.out.trans (hq.mono B0.out.size))
      clear hb hq
      clear qL00 qL01 qL02 qL03 qL10 qL11 qL12 qL13
      have qL00 := RL0_1.out.c0
      have qL01 := RL0_1.out.c1
      have qL02 := RL0_1.out.c2
      have qL03 := RL0_1.out.c3
      have qL10 := RL1_1.out.c0
      have qL11 := RL1_1.out.c1
      have qL12 := RL1_1.out.c2
      have qL13 := RL1_1.out.c3
      refine Lib.hid ?_
      go_wp2_with (go_at_call 23; (refine (szr_no s1 k1 v1 a1 c1 l1 r0 _ H1.out B1.out (by omega) HS1.out).mono ?_); rintro e w2 ⟨rfl, hb⟩; refine Hid.out ?_)
      have hq := hb
      have RL0_2 := Lib.hid (RL0_1.out.below hq)
      have RL1_2 := Lib.hid (RL1_1.out.below hq)
      have B2 := Lib.hid (B1.out.trans (hq.mono B1.out.size))
      clear hb hq
      clear qL00 qL01 qL02 qL03 qL10 qL11 qL12 qL13
      have qL00 := RL0_2.out.c0
      have qL01 := RL0_2.out.c1
      have qL02 := RL0_2.out.c2
      have qL03 := RL0_2.out.c3
      have qL10 := RL1_2.out.c0
      have qL11 := RL1_2.out.c1
      have qL12 := RL1_2.out.c2
      have qL13 := RL1_2.out.c3
      refine Lib.hid ?_
      go_wp2
      go_ret
      exact ⟨rfl, B2.out⟩
  · have HS0 := Lib.hid hs
    clear hs
    go_enter Tryz.func8, Tryz.ntmps8
    have qL00 := RL0_0.out.c0
    have qL01 := RL0_0.out.c1
    have qL02 := RL0_0.out.c2
    have qL03 := RL0_0.out.c3
    have qL10 := RL1_0.out.c0
    have qL11 := RL1_0.out.c1
    have qL12 := RL1_0.out.c2
    have qL13 := RL1_0.out.c3
    go_wp2_with (go_at_call 23; rw [← HWB.out]; (refine (szr_no s0 k0 v0 a0 c0 l0 1048576 _ H0.out B0.out (by omega) HS0.out).mono ?_); rintro e w1 ⟨rfl, hb⟩; refine Hid.out ?_)
    have hq := hb
    have RL0_1 := Lib.hid (RL0_0.out.below hq)
    have RL1_1 := Lib.hid (RL1_0.out.below hq)
    have B1 := Lib.hid (B0.out.trans (hq.mono B0.out.size))
    clear hb hq
    clear qL00 qL01 qL02 qL03 qL10 qL11 qL12 qL13
    have qL00 := RL0_1.out.c0
    have qL01 := RL0_1.out.c1
    have qL02 := RL0_1.out.c2
    have qL03 := RL0_1.out.c3
    have qL10 := RL1_1.out.c0
    have qL11 := RL1_1.out.c1
    have qL12 := RL1_1.out.c2
    have qL13 := RL1_1.out.c3
    refine Lib.hid ?_
    go_wp2
    go_ret
    exact ⟨rfl, B1.out⟩

end Go.Proofs.YtebddnjccmaimaaGreatDoor
