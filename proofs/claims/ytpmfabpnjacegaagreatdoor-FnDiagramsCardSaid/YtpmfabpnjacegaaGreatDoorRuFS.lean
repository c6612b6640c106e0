/-
  What spec.FormatRules answers. By an AI agent.
-/
import Derived.Test.YtpmfabpnjacegaaGreatDoorGQ7
import Derived.Test.YtpmfabpnjacegaaGreatDoorGQ13
import Derived.Test.YtpmfabpnjacegaaGreatDoorGQ10
namespace Go.Proofs.YtpmfabpnjacegaaGreatDoor
open Go.RowKit
set_option linter.unusedVariables false

theorem fret_s {a b : ByteArray} (h : a = b) : Ending.returned (.string a) = .returned (.string b) := by rw [h]
theorem marR_size (u : Bool) : (marR u).size ≤ 2 := by cases u <;> decide

set_option maxRecDepth 100000 in
set_option maxHeartbeats 6400000 in
theorem rf_spec (a : Option Addr) (c : Nat) (R : List (List TS)) (r : ByteArray) (w : World) (hr : rsR R = r) (h : SmRu w a R c) :
    Calls Tryz.prog 120 #[.agg #[.slice a R.length c]] w fun e w' => e = .returned (.string r) ∧ Below w.heap.size w w' := by
  have HR := Lib.hid hr
  obtain ⟨w1, hw1⟩ : ∃ w1, w.alloc (.cells #[.slice a R.length c] 26) = w1 := ⟨_, rfl⟩
  have HB1 := Lib.hid (show Below w.heap.size w w1 by rw [← hw1]; exact (Below.refl w.heap.size w).alloc (Nat.le_refl _) _)
  have HBX := Lib.hid (show BlkV w1 w.heap.size 26 #[.slice a R.length c] by rw [← hw1]; exact BlkV.new _ _ _)
  have HS := Lib.hid (h.below HB1.out)
  have q0 := HBX.out.one0
  obtain ⟨bv, hbv⟩ : ∃ b, vsB R = b := ⟨_, rfl⟩
  have HV := Lib.hid hbv
  have HCV := Lib.hid (vs_spec a c R bv w1 hbv HS.out)
  clear hr h hbv
  cases bv
  · obtain rfl : ⟨#[]⟩ = r := by rw [← HR.out, rsR_no HV.out]
    go_enter Tryz.func120, Tryz.ntmps120
    go_wp2_with (go_at_call 27; ((with_reducible refine HCV.out.mono ?_); rintro e w2 ⟨rfl, hb2⟩; have HB2 := Lib.hid hb2; clear hb2))
    go_ret
    exact ⟨rfl, HB1.out.trans (HB2.out.mono HB1.out.size)⟩
  · have hl := (vs_len HV.out).2
    go_enter Tryz.func120, Tryz.ntmps120
    go_wp2_with (go_at_call 27; ((with_reducible refine HCV.out.mono ?_); rintro e w2 ⟨rfl, hb2⟩; have HB2 := Lib.hid hb2; clear hb2))
    go_loopw [3, 4] (fun s i wr => ∃ k : Nat, k ≤ R.length ∧ i = .int .i64 k ∧ s = .string (rsT R k) ∧ Below w1.heap.size w1 wr) (fun _ i _ => R.length - (intOf i).toNat)
    case atStart => exact ⟨0, Nat.zero_le _, rfl, rfl, HB2.out⟩
    case round =>
      obtain ⟨k, hk, rfl, rfl, hb⟩ := hrel
      have z0 := (HBX.out.below hb).one0
      obtain ⟨wo, rfl⟩ : ∃ wo, wo = wr := ⟨_, rfl⟩
      have HBO := Lib.hid hb
      have hus := rsT_size HV.out k
      obtain ⟨U, hU⟩ : ∃ U, rsT R k = U := ⟨_, rfl⟩
      rw [hU] at hus ⊢
      have HU := Lib.hid hU
      clear hb q0 hU
      by_cases hlt : k < R.length
      · obtain ⟨b, off, l, a', c', rfl, hbw, hx, c0, hsm⟩ := (HS.out.below HBO.out).at_ hlt
        have HX := Lib.hid hx
        have HSM := Lib.hid hsm
        have HBW := Lib.hid hbw
        have HC0 := Lib.hid c0
        have HVR := Lib.hid (vs_rule HV.out (List.mem_of_getElem? hx))
        have hl3 := (vr_len HVR.out).2
        obtain ⟨V, hV⟩ : ∃ V, utT R k l 0 = V := ⟨_, rfl⟩
        have HVV := Lib.hid hV
        have z1 : ¬ 9223372036854775807 < U.size + 4 := by omega
        have hin : V = (if k = 0 then U else U ++ ⟨#[32, 111, 114, 32]⟩) := by
          by_cases h0 : k = 0
          · subst h0
            rw [if_pos rfl, ← HVV.out, ← HU.out, utT_zero0, rsT_zero]
          · rw [if_neg h0, ← HVV.out, ← HU.out, utT_zero (by omega)]
        clear hx hsm hbw hV
        by_cases h0 : k = 0
        case' pos =>
          rw [if_pos h0] at hin
          have d0 : ¬ (0 : Int) < (k : Int) := by omega
          have d1 : ¬ 0 < k := by omega
        case' neg =>
          rw [if_neg h0] at hin
          have d0 : (0 : Int) < (k : Int) := by omega
          have d1 : 0 < k := by omega
        all_goals
          clear h0
          go_wp2
          rw [← hin]
          clear hin d0 d1 z0 c0 z1 hus HU
          go_loopw [3, 5] (fun s i wr => ∃ j : Nat, j ≤ l.length ∧ i = .int .i64 j ∧ s = .string (utT R k l j) ∧ Below wo.heap.size wo wr) (fun _ i _ => l.length - (intOf i).toNat)
          case atStart => exact ⟨0, Nat.zero_le _, rfl, by rw [HVV.out], Below.refl _ _⟩
          case round =>
            obtain ⟨j, hj, rfl, rfl, hb⟩ := hrel
            have HB := Lib.hid hb
            have z0 := (HBX.out.below (HBO.out.trans (hb.mono HBO.out.size))).one0
            have c0 := (hb.cell (p := ⟨b, off + k, none⟩) HBW.out).trans HC0.out
            have hus := utT_size (k := k) (j := j) HV.out HVR.out
            obtain ⟨U, hU⟩ : ∃ U, utT R k l j = U := ⟨_, rfl⟩
            rw [hU] at hus ⊢
            have HU := Lib.hid hU
            clear hb hU
            by_cases hjt : j < l.length
            · obtain ⟨b1, o1, f, t, u, rfl, hbw, hy, e0, e1, e2⟩ := (HSM.out.inTs.below HB.out).at_ hjt
              have HY := Lib.hid hy
              have hvt : (0 ≤ f ∧ f ≤ 5) ∧ 1 ≤ t ∧ t ≤ 1000 := vt_of (vr_test HVR.out (List.mem_of_getElem? hy))
              obtain ⟨W1, hW1⟩ : ∃ W1, W1 = wr.alloc (.cells #[.int .i64 f, .int .i64 t, .bool u] 86) := ⟨_, rfl⟩
              have HWB := Lib.hid (show Below wr.heap.size wr W1 by rw [hW1]; exact (Below.refl _ _).alloc (Nat.le_refl _) _)
              have HT4 := Lib.hid (show BlkV W1 wr.heap.size 86 #[.int .i64 f, .int .i64 t, .bool u] by rw [hW1]; exact BlkV.new _ _ _)
              have HWW := Lib.hid hW1
              obtain ⟨N, hN⟩ : ∃ N, fnR f = N := ⟨_, rfl⟩
              obtain ⟨S, hS⟩ : ∃ S, strOf (Lib.itoa t) = S := ⟨_, rfl⟩
              have hNs : N.size ≤ 6 := by rw [← hN]; exact fnR_size _
              have ht0 : -9223372036854775808 ≤ t := by omega
              have ht1 : t ≤ 9223372036854775807 := by omega
              have hSs : S.size ≤ 21 := by rw [← hS, strOf_size]; exact Lib.itoa_length_le t ht0 ht1
              have HNN := Lib.hid hN
              have HSS := Lib.hid hS
              have HTB := Lib.hid (And.intro ht0 ht1)
              have z1 : ¬ 9223372036854775807 < U.size + N.size := by omega
              have z2 : ¬ 9223372036854775807 < U.size + N.size + 1 := by omega
              have z3 : ¬ 9223372036854775807 < U.size + N.size + 2 := by omega
              have z4 : ¬ 9223372036854775807 < U.size + N.size + 1 + S.size := by omega
              have z5 : ¬ 9223372036854775807 < U.size + N.size + 2 + S.size := by omega
              have y0 : ¬ 9223372036854775807 < U.size + 1 := by omega
              have y1 : ¬ 9223372036854775807 < U.size + 1 + N.size := by omega
              have y2 : ¬ 9223372036854775807 < U.size + 1 + N.size + 1 := by omega
              have y3 : ¬ 9223372036854775807 < U.size + 1 + N.size + 2 := by omega
              have y4 : ¬ 9223372036854775807 < U.size + 1 + N.size + 1 + S.size := by omega
              have y5 : ¬ 9223372036854775807 < U.size + 1 + N.size + 2 + S.size := by omega
              clear hy hbw hW1 hN hS hvt ht0 ht1
              by_cases hj0 : j = 0
              · subst hj0
                have hn : (if (0 : Nat) = 0 then ((U ++ N) ++ marR u) ++ S else U) = utT R k l (0 + 1) := by rw [if_pos rfl]; exact utT_first HY.out HU.out HNN.out HSS.out
                rw [if_pos rfl] at hn
                have HNX := Lib.hid hn
                rw [Nat.zero_mul, Nat.add_zero] at e0 e1 e2
                clear hn
                cases u
                all_goals
                  go_wp2_with (first
                    | (go_at_call 38; rw [← HWW.out]; (with_reducible refine (fn_spec f N _ HNN.out).mono ?_); rintro e w2 ⟨rfl, hb2⟩; have x1 := (HT4.out.below hb2).three1; have x2 := (HT4.out.below hb2).three2; have HB2 := Lib.hid (HWB.out.trans (hb2.mono HWB.out.size)); clear hb2)
                    | (go_at_call 37; (with_reducible refine (spec_fi_at t S _ HTB.out.1 HTB.out.2 HSS.out).mono ?_); rintro e w3 ⟨rfl, hb3⟩; have HB3 := Lib.hid (HB2.out.trans (hb3.mono HB2.out.size)); clear hb3))
                  go_roundw
                  case rel => exact ⟨0 + 1, by omega, by go_num, by rw [← HNX.out]; rfl, HB.out.trans (HB3.out.mono HB.out.size)⟩
                  case measure => simp [intOf]; omega
              · have HNX := Lib.hid (utT_next (by omega) HY.out HU.out HNN.out HSS.out)
                have d1 : (0 : Int) < (j : Int) := by omega
                clear hj0
                cases u
                all_goals
                  go_wp2_with (first
                    | (go_at_call 38; rw [← HWW.out]; (with_reducible refine (fn_spec f N _ HNN.out).mono ?_); rintro e w2 ⟨rfl, hb2⟩; have x1 := (HT4.out.below hb2).three1; have x2 := (HT4.out.below hb2).three2; have HB2 := Lib.hid (HWB.out.trans (hb2.mono HWB.out.size)); clear hb2)
                    | (go_at_call 37; (with_reducible refine (spec_fi_at t S _ HTB.out.1 HTB.out.2 HSS.out).mono ?_); rintro e w3 ⟨rfl, hb3⟩; have HB3 := Lib.hid (HB2.out.trans (hb3.mono HB2.out.size)); clear hb3))
                  go_roundw
                  case rel => exact ⟨j + 1, by omega, by go_num, by rw [← HNX.out]; rfl, HB.out.trans (HB3.out.mono HB.out.size)⟩
                  case measure => simp [intOf]; omega
            · obtain rfl : j = l.length := by omega
              have HE := Lib.hid (show U = rsT R (k + 1) by rw [← HU.out, utT_all HX.out])
              go_wp2
              go_roundw
              case rel => exact ⟨k + 1, by omega, by go_num, by rw [HE.out], HBO.out.trans (HB.out.mono HBO.out.size)⟩
              case measure => simp [intOf]; omega
      · obtain rfl : k = R.length := by omega
        have HE := Lib.hid (show U = r by rw [← HR.out, ← HU.out, rsT_all HV.out])
        go_wp2
        go_ret
        exact ⟨fret_s HE.out, HB1.out.trans (HBO.out.mono HB1.out.size)⟩

end Go.Proofs.YtpmfabpnjacegaaGreatDoor
