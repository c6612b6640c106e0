/-
  The walk of laws.FnExactEqualDiagrams. By an AI agent.
-/
import Derived.Test.YtookcggmapldeaaRuG
import Derived.Test.YtookcggmapldeaaDnT
import Derived.Test.YtookcggmapldeaaRuH
import Derived.Test.YtookcggmapldeaaIntM
import Derived.Test.YtookcggmapldeaaUndrew
import Derived.Test.YtookcggmapldeaaDnE
namespace Go.Proofs.Ytookcggmapldeaa
open Go.RowKit
set_option linter.unusedVariables false

set_option maxRecDepth 100000 in
set_option maxHeartbeats 6400000 in
theorem FnExactEqualDiagrams_walk (z0 : Int) (a0 : Option Addr) (c0 : Nat) (D0 : List DN) (z1 : Int) (a1 : Option Addr) (c1 : Nat) (D1 : List DN) (w : World) (h0 : ArgDn w a0 D0) (h1 : ArgDn w a1 D1) :
    Calls Try.prog 8 #[.agg #[.int .i64 z0, .slice a0 D0.length c0], .agg #[.int .i64 z1, .slice a1 D1.length c1]] w fun e w' => e = .returned (.bool true) ∧ Below w.heap.size w w' := by
  have H0 := Lib.hid h0
  have H1 := Lib.hid h1
  clear h0 h1
  by_cases hs : D0.length ≤ 1048576
  · obtain ⟨r0, hr⟩ : ∃ r : Nat, r + D0.length = 1048576 := ⟨1048576 - D0.length, by omega⟩
    have hrl0 : (r0 : Int) ≤ 1048576 := by omega
    have HS0 := Lib.hid hr
    have HZ0 := Lib.hid (show D0.length ≤ 1048576 by omega)
    clear hs hr
    by_cases hs : D1.length ≤ r0
    · obtain ⟨r1, hr⟩ : ∃ r : Nat, r + D1.length = r0 := ⟨r0 - D1.length, by omega⟩
      have hrl1 : (r1 : Int) ≤ 1048576 := by omega
      have HS1 := Lib.hid hr
      have HZ1 := Lib.hid (show D1.length ≤ 1048576 by omega)
      clear hs hr
      obtain ⟨r, hr⟩ : ∃ r, eqDB z0 z1 D0 D1 = r := ⟨_, rfl⟩
      have HRR := Lib.hid hr
      clear hr
      go_enter Try.func8, Try.ntmps8
      obtain ⟨w1, hv⟩ : ∃ x, x = w.alloc (.cells #[.int .i64 z0, .slice a0 D0.length c0] 46) := ⟨_, rfl⟩
      have hb : Below w.heap.size w w1 := by rw [hv]; exact (Below.refl _ _).alloc (Nat.le_refl _) _
      have RL0_1 := Lib.hid (show BlkV w1 w.heap.size 46 #[.int .i64 z0, .slice a0 D0.length c0] by rw [hv]; exact BlkV.new _ _ _)
      have B1 := Lib.hid hb
      have Z1 := Lib.hid (show w.heap.size + 1 ≤ w1.heap.size by rw [hv]; simp)
      have V1 := Lib.hid hv
      clear hb hv
      obtain ⟨w2, hv⟩ : ∃ x, x = w1.alloc (.cells #[.int .i64 z1, .slice a1 D1.length c1] 46) := ⟨_, rfl⟩
      have hb : Below w1.heap.size w1 w2 := by rw [hv]; exact (Below.refl _ _).alloc (Nat.le_refl _) _
      have RL0_2 := Lib.hid (RL0_1.out.below hb)
      have RL1_2 := Lib.hid (show BlkV w2 (w.heap.size + 1) 46 #[.int .i64 z1, .slice a1 D1.length c1] by rw [hv]; exact BlkV.new_ _ _ _ _ (by rw [V1.out]; simp))
      have B2 := Lib.hid (B1.out.trans (hb.mono B1.out.size))
      have Z2 := Lib.hid (show w1.heap.size + 1 ≤ w2.heap.size by rw [hv]; simp)
      have V2 := Lib.hid hv
      clear hb hv
      have qL00 := RL0_2.out.two0
      have qL01 := RL0_2.out.two1
      have qL10 := RL1_2.out.two0
      have qL11 := RL1_2.out.two1
      go_wp2_with (go_at_call 23; rw [← V1.out, ← V2.out]; (refine (dss_yes z0 a0 c0 D0 1048576 r0 _ H0.out (by omega) HS0.out).mono ?_); rintro e w3 ⟨rfl, hb⟩; refine Hid.out ?_)
      have RL0_3 := Lib.hid (RL0_2.out.below hb)
      have RL1_3 := Lib.hid (RL1_2.out.below hb)
      have B3 := Lib.hid (B2.out.trans (hb.mono B2.out.size))
      have Z3 := Lib.hid hb.size
      clear hb
      clear qL00 qL01 qL10 qL11
      have qL00 := RL0_3.out.two0
      have qL01 := RL0_3.out.two1
      have qL10 := RL1_3.out.two0
      have qL11 := RL1_3.out.two1
      refine Lib.hid ?_
      go_wp2_with (go_at_call 23; (refine (dss_yes z1 a1 c1 D1 r0 r1 _ H1.out (by omega) HS1.out).mono ?_); rintro e w4 ⟨rfl, hb⟩; refine Hid.out ?_)
      have RL0_4 := Lib.hid (RL0_3.out.below hb)
      have RL1_4 := Lib.hid (RL1_3.out.below hb)
      have B4 := Lib.hid (B3.out.trans (hb.mono B3.out.size))
      have Z4 := Lib.hid hb.size
      clear hb
      clear qL00 qL01 qL10 qL11
      have qL00 := RL0_4.out.two0
      have qL01 := RL0_4.out.two1
      have qL10 := RL1_4.out.two0
      have qL11 := RL1_4.out.two1
      refine Lib.hid ?_
      go_wp2_with (fail)
      go_region_held3 (fun w' => w'.cell? ⟨w.heap.size, 0, none⟩ = some (.int .i64 z0) ∧ w'.cell? ⟨w.heap.size, 1, none⟩ = some (.slice a0 D0.length c0) ∧ w'.cell? ⟨w.heap.size + 1, 0, none⟩ = some (.int .i64 z1) ∧ w'.cell? ⟨w.heap.size + 1, 1, none⟩ = some (.slice a1 D1.length c1))
        (first | exact ⟨vL00, vL01, vL10, vL11⟩ | exact ⟨uL00, uL01, uL10, uL11⟩ | exact ⟨tL00, tL01, tL10, tL11⟩ | exact ⟨qL00, qL01, qL10, qL11⟩)
        (first
          | (go_at_call 25; (with_reducible refine Calls.mono (dgto z0 a0 c0 D0 _ (dn_len HZ0.out) (H0.out.inDn.below B4.out.drew)) ?_); rintro e w5 ⟨bs0, ds0, rfl, ho, hb⟩; have hr := undrew hb; have RL0_5 := Lib.hid (RL0_4.out.below hr); have RL1_5 := Lib.hid (RL1_4.out.below hr); have tL00 := RL0_5.out.two0; have tL01 := RL0_5.out.two1; have tL10 := RL1_5.out.two0; have tL11 := RL1_5.out.two1; have Os0_5 := Lib.hid (ho); have B5 := Lib.hid (B4.out.trans (hr.mono B4.out.size)); have Z5 := Lib.hid hr.size; clear ho hb hr)
          | (go_at_call 25; (with_reducible refine Calls.mono (dgto z1 a1 c1 D1 _ (dn_len HZ1.out) (H1.out.inDn.below B5.out)) ?_); rintro e w6 ⟨bs1, ds1, rfl, ho, hb⟩; have Os0_6 := Lib.hid (Os0_5.out.below hb); have RL0_6 := Lib.hid (RL0_5.out.below hb); have RL1_6 := Lib.hid (RL1_5.out.below hb); have uL00 := RL0_6.out.two0; have uL01 := RL0_6.out.two1; have uL10 := RL1_6.out.two0; have uL11 := RL1_6.out.two1; have Os1_6 := Lib.hid (ho); have B6 := Lib.hid (B5.out.trans (hb.mono B5.out.size)); have Z6 := Lib.hid hb.size; clear ho hb)
          | (go_at_call 33; (with_reducible refine Calls.mono (eqd_spec z0 bs0 ds0 D0 z1 bs1 ds1 D1 r _ HRR.out (Os0_6.out.smDn (dn_len HZ0.out)) (Os1_6.out.smDn (dn_len HZ1.out))) ?_); rintro e w7 ⟨rfl, hb⟩; have Os0_7 := Lib.hid (Os0_6.out.below hb); have Os1_7 := Lib.hid (Os1_6.out.below hb); have RL0_7 := Lib.hid (RL0_6.out.below hb); have RL1_7 := Lib.hid (RL1_6.out.below hb); have vL00 := RL0_7.out.two0; have vL01 := RL0_7.out.two1; have vL10 := RL1_7.out.two0; have vL11 := RL1_7.out.two1; have B7 := Lib.hid (B6.out.trans (hb.mono B6.out.size)); have Z7 := Lib.hid hb.size; clear hb))
      refine Hid.out ?_
      clear tL00 tL01 tL10 tL11 uL00 uL01 uL10 uL11 vL00 vL01 vL10 vL11
      clear qL00 qL01 qL10 qL11
      have qL00 := RL0_7.out.two0
      have qL01 := RL0_7.out.two1
      have qL10 := RL1_7.out.two0
      have qL11 := RL1_7.out.two1
      refine Lib.hid ?_
      go_wp2_with (go_at_call 25; (refine (dgto z0 a0 c0 D0 _ (dn_len HZ0.out) (H0.out.inDn.below B7.out)).mono ?_); rintro e w8 ⟨bx0, dx0, rfl, ho, hb⟩; refine Hid.out ?_)
      have RL0_8 := Lib.hid (RL0_7.out.below hb)
      have RL1_8 := Lib.hid (RL1_7.out.below hb)
      have Ox0_8 := Lib.hid (ho)
      have B8 := Lib.hid (B7.out.trans (hb.mono B7.out.size))
      have Z8 := Lib.hid hb.size
      clear ho hb
      obtain ⟨w9, hv⟩ : ∃ x, x = w8.alloc (.cells #[.int .i64 z0, .slice bx0 D0.length dx0] 39) := ⟨_, rfl⟩
      have hb : Below w8.heap.size w8 w9 := by rw [hv]; exact (Below.refl _ _).alloc (Nat.le_refl _) _
      have Ox0_9 := Lib.hid (Ox0_8.out.below hb)
      have RL0_9 := Lib.hid (RL0_8.out.below hb)
      have RL1_9 := Lib.hid (RL1_8.out.below hb)
      have Rx0_9 := Lib.hid (show BlkV w9 w8.heap.size 39 #[.int .i64 z0, .slice bx0 D0.length dx0] by rw [hv]; exact BlkV.new _ _ _)
      have B9 := Lib.hid (B8.out.trans (hb.mono B8.out.size))
      have Z9 := Lib.hid (show w8.heap.size + 1 ≤ w9.heap.size by rw [hv]; simp)
      have V9 := Lib.hid hv
      clear hb hv
      clear qL00 qL01 qL10 qL11
      have qL00 := RL0_9.out.two0
      have pL00 := qL00
      rw [V9.out] at pL00
      have qL01 := RL0_9.out.two1
      have pL01 := qL01
      rw [V9.out] at pL01
      have qL10 := RL1_9.out.two0
      have pL10 := qL10
      rw [V9.out] at pL10
      have qL11 := RL1_9.out.two1
      have pL11 := qL11
      rw [V9.out] at pL11
      have qx00 := Rx0_9.out.two0
      have px00 := qx00
      rw [V9.out] at px00
      have qx01 := Rx0_9.out.two1
      have px01 := qx01
      rw [V9.out] at px01
      refine Lib.hid ?_
      go_wp2_with (go_at_call 25; rw [← V9.out]; (refine (dgto z1 a1 c1 D1 _ (dn_len HZ1.out) (H1.out.inDn.below B9.out)).mono ?_); rintro e w10 ⟨bx1, dx1, rfl, ho, hb⟩; refine Hid.out ?_)
      have Ox0_10 := Lib.hid (Ox0_9.out.below hb)
      have RL0_10 := Lib.hid (RL0_9.out.below hb)
      have RL1_10 := Lib.hid (RL1_9.out.below hb)
      have Rx0_10 := Lib.hid (Rx0_9.out.below hb)
      have Ox1_10 := Lib.hid (ho)
      have B10 := Lib.hid (B9.out.trans (hb.mono B9.out.size))
      have Z10 := Lib.hid hb.size
      clear ho hb
      obtain ⟨w11, hv⟩ : ∃ x, x = w10.alloc (.cells #[.int .i64 z1, .slice bx1 D1.length dx1] 39) := ⟨_, rfl⟩
      have hb : Below w10.heap.size w10 w11 := by rw [hv]; exact (Below.refl _ _).alloc (Nat.le_refl _) _
      have Ox0_11 := Lib.hid (Ox0_10.out.below hb)
      have Ox1_11 := Lib.hid (Ox1_10.out.below hb)
      have RL0_11 := Lib.hid (RL0_10.out.below hb)
      have RL1_11 := Lib.hid (RL1_10.out.below hb)
      have Rx0_11 := Lib.hid (Rx0_10.out.below hb)
      have Rx1_11 := Lib.hid (show BlkV w11 w10.heap.size 39 #[.int .i64 z1, .slice bx1 D1.length dx1] by rw [hv]; exact BlkV.new _ _ _)
      have B11 := Lib.hid (B10.out.trans (hb.mono B10.out.size))
      have Z11 := Lib.hid (show w10.heap.size + 1 ≤ w11.heap.size by rw [hv]; simp)
      have V11 := Lib.hid hv
      clear hb hv
      clear qL00 pL00 qL01 pL01 qL10 pL10 qL11 pL11 qx00 px00 qx01 px01
      have qL00 := RL0_11.out.two0
      have pL00 := qL00
      rw [V11.out] at pL00
      have qL01 := RL0_11.out.two1
      have pL01 := qL01
      rw [V11.out] at pL01
      have qL10 := RL1_11.out.two0
      have pL10 := qL10
      rw [V11.out] at pL10
      have qL11 := RL1_11.out.two1
      have pL11 := qL11
      rw [V11.out] at pL11
      have qx00 := Rx0_11.out.two0
      have px00 := qx00
      rw [V11.out] at px00
      have qx01 := Rx0_11.out.two1
      have px01 := qx01
      rw [V11.out] at px01
      have qx10 := Rx1_11.out.two0
      have px10 := qx10
      rw [V11.out] at px10
      have qx11 := Rx1_11.out.two1
      have px11 := qx11
      rw [V11.out] at px11
      refine Lib.hid ?_
      go_wp2_with (go_at_call 34; rw [← V11.out]; (with_reducible refine (eqd_impl z0 bx0 dx0 D0 z1 bx1 dx1 D1 r _ HRR.out (Ox0_11.out.smDn (dn_len HZ0.out)) (Ox1_11.out.smDn (dn_len HZ1.out))).mono ?_); rintro e w12 ⟨rfl, hb⟩; refine Hid.out ?_)
      have Ox0_12 := Lib.hid (Ox0_11.out.below hb)
      have Ox1_12 := Lib.hid (Ox1_11.out.below hb)
      have RL0_12 := Lib.hid (RL0_11.out.below hb)
      have RL1_12 := Lib.hid (RL1_11.out.below hb)
      have Rx0_12 := Lib.hid (Rx0_11.out.below hb)
      have Rx1_12 := Lib.hid (Rx1_11.out.below hb)
      have B12 := Lib.hid (B11.out.trans (hb.mono B11.out.size))
      have Z12 := Lib.hid hb.size
      clear hb
      clear qL00 pL00 qL01 pL01 qL10 pL10 qL11 pL11 qx00 px00 qx01 px01 qx10 px10 qx11 px11
      have qL00 := RL0_12.out.two0
      have qL01 := RL0_12.out.two1
      have qL10 := RL1_12.out.two0
      have qL11 := RL1_12.out.two1
      have qx00 := Rx0_12.out.two0
      have qx01 := Rx0_12.out.two1
      have qx10 := Rx1_12.out.two0
      have qx11 := Rx1_12.out.two1
      refine Lib.hid ?_
      go_wp2_with (fail)
      go_region_held3 (fun w' => w'.cell? ⟨w8.heap.size, 0, none⟩ = some (.int .i64 z0) ∧ w'.cell? ⟨w8.heap.size, 1, none⟩ = some (.slice bx0 D0.length dx0) ∧ w'.cell? ⟨w.heap.size, 0, none⟩ = some (.int .i64 z0) ∧ w'.cell? ⟨w.heap.size, 1, none⟩ = some (.slice a0 D0.length c0))
        (first | exact ⟨ux00, ux01, uL00, uL01⟩ | exact ⟨tx00, tx01, tL00, tL01⟩ | exact ⟨qx00, qx01, qL00, qL01⟩)
        (first
          | (go_at_call 25; (with_reducible refine Calls.mono (dgto z0 a0 c0 D0 _ (dn_len HZ0.out) (H0.out.inDn.below B12.out.drew)) ?_); rintro e w13 ⟨bt0, dt0, rfl, ho, hb⟩; have hr := undrew hb; have Ox0_13 := Lib.hid (Ox0_12.out.below hr); have Ox1_13 := Lib.hid (Ox1_12.out.below hr); have RL0_13 := Lib.hid (RL0_12.out.below hr); have RL1_13 := Lib.hid (RL1_12.out.below hr); have Rx0_13 := Lib.hid (Rx0_12.out.below hr); have Rx1_13 := Lib.hid (Rx1_12.out.below hr); have tx00 := Rx0_13.out.two0; have tx01 := Rx0_13.out.two1; have tL00 := RL0_13.out.two0; have tL01 := RL0_13.out.two1; have Ot0_13 := Lib.hid (ho); have B13 := Lib.hid (B12.out.trans (hr.mono B12.out.size)); have Z13 := Lib.hid hr.size; clear ho hb hr)
          | (go_at_call 20; (with_reducible refine (dgeq z0 bx0 bt0 dx0 dt0 D0 _ (dn_len HZ0.out) Ox0_13.out.inDn Ot0_13.out.inDn).mono ?_); rintro e w14 ⟨rfl, hb⟩; have Ox0_14 := Lib.hid (Ox0_13.out.below hb); have Ox1_14 := Lib.hid (Ox1_13.out.below hb); have RL0_14 := Lib.hid (RL0_13.out.below hb); have RL1_14 := Lib.hid (RL1_13.out.below hb); have Rx0_14 := Lib.hid (Rx0_13.out.below hb); have Rx1_14 := Lib.hid (Rx1_13.out.below hb); have ux00 := Rx0_14.out.two0; have ux01 := Rx0_14.out.two1; have uL00 := RL0_14.out.two0; have uL01 := RL0_14.out.two1; have B14 := Lib.hid (B13.out.trans (hb.mono B13.out.size)); have Z14 := Lib.hid hb.size; clear hb))
      refine Hid.out ?_
      clear tx00 tx01 tL00 tL01 ux00 ux01 uL00 uL01
      clear qL00 qL01 qL10 qL11 qx00 qx01 qx10 qx11
      have qL00 := RL0_14.out.two0
      have qL01 := RL0_14.out.two1
      have qL10 := RL1_14.out.two0
      have qL11 := RL1_14.out.two1
      have qx00 := Rx0_14.out.two0
      have qx01 := Rx0_14.out.two1
      have qx10 := Rx1_14.out.two0
      have qx11 := Rx1_14.out.two1
      refine Lib.hid ?_
      go_wp2_with (fail)
      go_region_held3 (fun w' => w'.cell? ⟨w10.heap.size, 0, none⟩ = some (.int .i64 z1) ∧ w'.cell? ⟨w10.heap.size, 1, none⟩ = some (.slice bx1 D1.length dx1) ∧ w'.cell? ⟨w.heap.size + 1, 0, none⟩ = some (.int .i64 z1) ∧ w'.cell? ⟨w.heap.size + 1, 1, none⟩ = some (.slice a1 D1.length c1))
        (first | exact ⟨ux10, ux11, uL10, uL11⟩ | exact ⟨tx10, tx11, tL10, tL11⟩ | exact ⟨qx10, qx11, qL10, qL11⟩)
        (first
          | (go_at_call 25; (with_reducible refine Calls.mono (dgto z1 a1 c1 D1 _ (dn_len HZ1.out) (H1.out.inDn.below B14.out.drew)) ?_); rintro e w15 ⟨bt1, dt1, rfl, ho, hb⟩; have hr := undrew hb; have Ox0_15 := Lib.hid (Ox0_14.out.below hr); have Ox1_15 := Lib.hid (Ox1_14.out.below hr); have RL0_15 := Lib.hid (RL0_14.out.below hr); have RL1_15 := Lib.hid (RL1_14.out.below hr); have Rx0_15 := Lib.hid (Rx0_14.out.below hr); have Rx1_15 := Lib.hid (Rx1_14.out.below hr); have tx10 := Rx1_15.out.two0; have tx11 := Rx1_15.out.two1; have tL10 := RL1_15.out.two0; have tL11 := RL1_15.out.two1; have Ot1_15 := Lib.hid (ho); have B15 := Lib.hid (B14.out.trans (hr.mono B14.out.size)); have Z15 := Lib.hid hr.size; clear ho hb hr)
          | (go_at_call 20; (with_reducible refine (dgeq z1 bx1 bt1 dx1 dt1 D1 _ (dn_len HZ1.out) Ox1_15.out.inDn Ot1_15.out.inDn).mono ?_); rintro e w16 ⟨rfl, hb⟩; have Ox0_16 := Lib.hid (Ox0_15.out.below hb); have Ox1_16 := Lib.hid (Ox1_15.out.below hb); have RL0_16 := Lib.hid (RL0_15.out.below hb); have RL1_16 := Lib.hid (RL1_15.out.below hb); have Rx0_16 := Lib.hid (Rx0_15.out.below hb); have Rx1_16 := Lib.hid (Rx1_15.out.below hb); have ux10 := Rx1_16.out.two0; have ux11 := Rx1_16.out.two1; have uL10 := RL1_16.out.two0; have uL11 := RL1_16.out.two1; have B16 := Lib.hid (B15.out.trans (hb.mono B15.out.size)); have Z16 := Lib.hid hb.size; clear hb))
      refine Hid.out ?_
      clear tx10 tx11 tL10 tL11 ux10 ux11 uL10 uL11
      clear qL00 qL01 qL10 qL11 qx00 qx01 qx10 qx11
      have qL00 := RL0_16.out.two0
      have qL01 := RL0_16.out.two1
      have qL10 := RL1_16.out.two0
      have qL11 := RL1_16.out.two1
      have qx00 := Rx0_16.out.two0
      have qx01 := Rx0_16.out.two1
      have qx10 := Rx1_16.out.two0
      have qx11 := Rx1_16.out.two1
      refine Lib.hid ?_
      go_wp2
      go_ret
      exact ⟨rfl, B16.out⟩
    · have HS1 := Lib.hid hs
      clear hs
      go_enter Try.func8, Try.ntmps8
      obtain ⟨w1, hv⟩ : ∃ x, x = w.alloc (.cells #[.int .i64 z0, .slice a0 D0.length c0] 46) := ⟨_, rfl⟩
      have hb : Below w.heap.size w w1 := by rw [hv]; exact (Below.refl _ _).alloc (Nat.le_refl _) _
      have RL0_1 := Lib.hid (show BlkV w1 w.heap.size 46 #[.int .i64 z0, .slice a0 D0.length c0] by rw [hv]; exact BlkV.new _ _ _)
      have B1 := Lib.hid hb
      have Z1 := Lib.hid (show w.heap.size + 1 ≤ w1.heap.size by rw [hv]; simp)
      have V1 := Lib.hid hv
      clear hb hv
      obtain ⟨w2, hv⟩ : ∃ x, x = w1.alloc (.cells #[.int .i64 z1, .slice a1 D1.length c1] 46) := ⟨_, rfl⟩
      have hb : Below w1.heap.size w1 w2 := by rw [hv]; exact (Below.refl _ _).alloc (Nat.le_refl _) _
      have RL0_2 := Lib.hid (RL0_1.out.below hb)
      have RL1_2 := Lib.hid (show BlkV w2 (w.heap.size + 1) 46 #[.int .i64 z1, .slice a1 D1.length c1] by rw [hv]; exact BlkV.new_ _ _ _ _ (by rw [V1.out]; simp))
      have B2 := Lib.hid (B1.out.trans (hb.mono B1.out.size))
      have Z2 := Lib.hid (show w1.heap.size + 1 ≤ w2.heap.size by rw [hv]; simp)
      have V2 := Lib.hid hv
      clear hb hv
      have qL00 := RL0_2.out.two0
      have qL01 := RL0_2.out.two1
      have qL10 := RL1_2.out.two0
      have qL11 := RL1_2.out.two1
      go_wp2_with (go_at_call 23; rw [← V1.out, ← V2.out]; (refine (dss_yes z0 a0 c0 D0 1048576 r0 _ H0.out (by omega) HS0.out).mono ?_); rintro e w3 ⟨rfl, hb⟩; refine Hid.out ?_)
      have RL0_3 := Lib.hid (RL0_2.out.below hb)
      have RL1_3 := Lib.hid (RL1_2.out.below hb)
      have B3 := Lib.hid (B2.out.trans (hb.mono B2.out.size))
      have Z3 := Lib.hid hb.size
      clear hb
      clear qL00 qL01 qL10 qL11
      have qL00 := RL0_3.out.two0
      have qL01 := RL0_3.out.two1
      have qL10 := RL1_3.out.two0
      have qL11 := RL1_3.out.two1
      refine Lib.hid ?_
      go_wp2_with (go_at_call 23; (refine (dss_no z1 a1 c1 D1 r0 _ H1.out (by omega) HS1.out).mono ?_); rintro e wz ⟨rfl, hb⟩)
      go_ret
      exact ⟨rfl, B3.out.trans (hb.mono B3.out.size)⟩
  · have HS0 := Lib.hid hs
    clear hs
    go_enter Try.func8, Try.ntmps8
    obtain ⟨w1, hv⟩ : ∃ x, x = w.alloc (.cells #[.int .i64 z0, .slice a0 D0.length c0] 46) := ⟨_, rfl⟩
    have hb : Below w.heap.size w w1 := by rw [hv]; exact (Below.refl _ _).alloc (Nat.le_refl _) _
    have RL0_1 := Lib.hid (show BlkV w1 w.heap.size 46 #[.int .i64 z0, .slice a0 D0.length c0] by rw [hv]; exact BlkV.new _ _ _)
    have B1 := Lib.hid hb
    have Z1 := Lib.hid (show w.heap.size + 1 ≤ w1.heap.size by rw [hv]; simp)
    have V1 := Lib.hid hv
    clear hb hv
    obtain ⟨w2, hv⟩ : ∃ x, x = w1.alloc (.cells #[.int .i64 z1, .slice a1 D1.length c1] 46) := ⟨_, rfl⟩
    have hb : Below w1.heap.size w1 w2 := by rw [hv]; exact (Below.refl _ _).alloc (Nat.le_refl _) _
    have RL0_2 := Lib.hid (RL0_1.out.below hb)
    have RL1_2 := Lib.hid (show BlkV w2 (w.heap.size + 1) 46 #[.int .i64 z1, .slice a1 D1.length c1] by rw [hv]; exact BlkV.new_ _ _ _ _ (by rw [V1.out]; simp))
    have B2 := Lib.hid (B1.out.trans (hb.mono B1.out.size))
    have Z2 := Lib.hid (show w1.heap.size + 1 ≤ w2.heap.size by rw [hv]; simp)
    have V2 := Lib.hid hv
    clear hb hv
    have qL00 := RL0_2.out.two0
    have qL01 := RL0_2.out.two1
    have qL10 := RL1_2.out.two0
    have qL11 := RL1_2.out.two1
    go_wp2_with (go_at_call 23; rw [← V1.out, ← V2.out]; (refine (dss_no z0 a0 c0 D0 1048576 _ H0.out (by omega) HS0.out).mono ?_); rintro e wz ⟨rfl, hb⟩)
    go_ret
    exact ⟨rfl, B2.out.trans (hb.mono B2.out.size)⟩

end Go.Proofs.Ytookcggmapldeaa
