/-
  What spec.FormatDiagram answers. By an AI agent.
-/
import Derived.Test.YtpmfabpnjacegaaGreatDoorDgS
import Derived.Test.YtpmfabpnjacegaaGreatDoorGQ10
namespace Go.Proofs.YtpmfabpnjacegaaGreatDoor
open Go.RowKit
set_option linter.unusedVariables false
set_option linter.unusedSimpArgs false
set_option linter.unnecessarySimpa false

set_option maxRecDepth 100000 in
set_option maxHeartbeats 8000000 in
theorem fd_spec (y : Int) (a : Option Addr) (c : Nat) (D : List DN) (r : ByteArray) (w : World) (hr : dgR y D = r) (h : SmDn w a D c) :
    Calls Tryz.prog 12 #[.agg #[.int .i64 y, .slice a D.length c]] w fun e w' => e = .returned (.string r) ∧ Below w.heap.size w w' := by
  obtain ⟨w1, hw1⟩ : ∃ w1, w.alloc (.cells #[.int .i64 y, .slice a D.length c] 32) = w1 := ⟨_, rfl⟩
  have HB1 := Lib.hid (show Below w.heap.size w w1 by rw [← hw1]; exact (Below.refl w.heap.size w).alloc (Nat.le_refl _) _)
  have HX1 := Lib.hid (show BlkV w1 w.heap.size 32 #[.int .i64 y, .slice a D.length c] by rw [← hw1]; exact BlkV.new _ _ _)
  have HS := Lib.hid (h.below HB1.out)
  have HR := Lib.hid hr
  have q0 := HX1.out.two0
  have q1 := HX1.out.two1
  obtain ⟨db, hdb⟩ : ∃ b, dgB y D = b := ⟨_, rfl⟩
  have HDB := Lib.hid hdb
  clear h hr hdb
  cases db
  · obtain rfl : ⟨#[]⟩ = r := by rw [← HR.out, dgR_no HDB.out]
    go_enter Tryz.func12, Tryz.ntmps12
    go_wp2_with (go_at_call 19; ((with_reducible refine (dg_spec y a c D _ _ HDB.out HS.out).mono ?_); rintro e w2 ⟨rfl, hb⟩; have HB2 := Lib.hid (HB1.out.trans (hb.mono HB1.out.size)); clear hb))
    go_ret
    exact ⟨rfl, HB2.out⟩
  have HSM := Lib.hid (dg_small HDB.out)
  have hn2 := (dg_nodes HDB.out).1
  have hy := HSM.out.1
  obtain ⟨Y, hY⟩ : ∃ s, strOf (Lib.itoa (y)) = s := ⟨_, rfl⟩
  have HBY : Hid (-9223372036854775808 ≤ (y : Int) ∧ (y : Int) ≤ 9223372036854775807) := Lib.hid (by omega)
  have hzY : Y.size ≤ 21 := by rw [← hY, strOf_size]; exact Lib.itoa_length_le _ HBY.out.1 HBY.out.2
  have HY := Lib.hid hY
  clear hY
  have z0 : ¬ 9223372036854775807 < 5 + Y.size := by omega
  clear hy
  go_enter Tryz.func12, Tryz.ntmps12
  go_wp2_with (first
    | (go_at_call 19; ((with_reducible refine (dg_spec y a c D _ _ HDB.out HS.out).mono ?_); rintro e w2 ⟨rfl, hb⟩; have HB2 := Lib.hid (HB1.out.trans (hb.mono HB1.out.size)); have HX2 := Lib.hid (HX1.out.below hb); have p0 := HX2.out.two0; have p1 := HX2.out.two1; have HS2 := Lib.hid (HS.out.below hb); clear hb))
    | (go_at_call 37; ((with_reducible refine (spec_fi_at y Y _ HBY.out.1 HBY.out.2 HY.out).mono ?_); rintro e w3 ⟨rfl, hb⟩; refine Hid.out ?_)))
  have HB3 := Lib.hid (HB2.out.trans (hb.mono HB2.out.size))
  have HX3 := Lib.hid (HX2.out.below hb)
  have HS3 := Lib.hid (HS2.out.below hb)
  clear hb q0 q1 p0 p1 hw1
  obtain ⟨n, hn⟩ : ∃ n, D.length = n := ⟨_, rfl⟩
  have HN := Lib.hid hn
  rw [hn] at HX3 hn2
  rw [hn]
  clear hn
  refine Lib.hid ?_
  go_wp2
  go_loopw [3, 4] (fun v i wr => ∃ k : Nat, k ≤ n ∧ v = .string (strOf (dgT y D k)) ∧ i = .int .i64 k ∧ Below w3.heap.size w3 wr) (fun _ i _ => n - (intOf i).toNat)
  case atStart => exact ⟨0, Nat.zero_le _, by rw [← dgT_first HY.out], rfl, Below.refl _ _⟩
  case round =>
    obtain ⟨k, hk, rfl, rfl, hb⟩ := hrel
    have HB := Lib.hid hb
    have q0 := (HX3.out.below hb).two0
    have q1 := (HX3.out.below hb).two1
    clear hb
    obtain ⟨S, hS⟩ : ∃ S, strOf (dgT y D k) = S := ⟨_, rfl⟩
    have hSs : S.size ≤ 20026 := by rw [← hS]; exact dgT_size HDB.out k (by rw [HN.out]; exact hk)
    have HSS := Lib.hid hS
    rw [hS]
    clear hS
    by_cases hlt : k < n
    · obtain ⟨b2, o2, f, t, u, z, rfl, hb2, hx, p0, p1, p2, p3⟩ := (HS3.out.inDn.below HB.out).at_ (show k < D.length by rw [HN.out]; exact hlt)
      have hsm := HSM.out.2 _ (List.mem_of_getElem? hx)
      simp only at hsm
      have HX := Lib.hid hx
      obtain ⟨I, hI⟩ : ∃ s, strOf (Lib.itoa ((k : Int) + 2)) = s := ⟨_, rfl⟩
      have HBI : Hid (-9223372036854775808 ≤ ((k : Int) + 2 : Int) ∧ ((k : Int) + 2 : Int) ≤ 9223372036854775807) := Lib.hid (by omega)
      have hzI : I.size ≤ 21 := by rw [← hI, strOf_size]; exact Lib.itoa_length_le _ HBI.out.1 HBI.out.2
      have HI := Lib.hid hI
      clear hI
      obtain ⟨TT, hTT⟩ : ∃ s, strOf (Lib.itoa (t)) = s := ⟨_, rfl⟩
      have HBTT : Hid (-9223372036854775808 ≤ (t : Int) ∧ (t : Int) ≤ 9223372036854775807) := Lib.hid (by omega)
      have hzTT : TT.size ≤ 21 := by rw [← hTT, strOf_size]; exact Lib.itoa_length_le _ HBTT.out.1 HBTT.out.2
      have HTT := Lib.hid hTT
      clear hTT
      obtain ⟨H, hH⟩ : ∃ s, strOf (Lib.itoa (z)) = s := ⟨_, rfl⟩
      have HBH : Hid (-9223372036854775808 ≤ (z : Int) ∧ (z : Int) ≤ 9223372036854775807) := Lib.hid (by omega)
      have hzH : H.size ≤ 21 := by rw [← hH, strOf_size]; exact Lib.itoa_length_le _ HBH.out.1 HBH.out.2
      have HH := Lib.hid hH
      clear hH
      obtain ⟨L, hL⟩ : ∃ s, strOf (Lib.itoa (u)) = s := ⟨_, rfl⟩
      have HBL : Hid (-9223372036854775808 ≤ (u : Int) ∧ (u : Int) ≤ 9223372036854775807) := Lib.hid (by omega)
      have hzL : L.size ≤ 21 := by rw [← hL, strOf_size]; exact Lib.itoa_length_le _ HBL.out.1 HBL.out.2
      have HL := Lib.hid hL
      clear hL
      clear hsm
      obtain ⟨N, hN⟩ : ∃ N, fnR f = N := ⟨_, rfl⟩
      have hNs : N.size ≤ 6 := by rw [← hN]; exact fnl6 f
      have HNM := Lib.hid hN
      have z1 : ¬ 9223372036854775807 < S.size + 2 := by omega
      have z2 : ¬ 9223372036854775807 < S.size + 2 + I.size := by omega
      have z3 : ¬ 9223372036854775807 < S.size + 2 + I.size + 2 := by omega
      have z4 : ¬ 9223372036854775807 < S.size + 2 + I.size + 2 + N.size := by omega
      have z5 : ¬ 9223372036854775807 < S.size + 2 + I.size + 2 + N.size + 2 := by omega
      have z6 : ¬ 9223372036854775807 < S.size + 2 + I.size + 2 + N.size + 2 + TT.size := by omega
      have z7 : ¬ 9223372036854775807 < S.size + 2 + I.size + 2 + N.size + 2 + TT.size + 1 := by omega
      have z8 : ¬ 9223372036854775807 < S.size + 2 + I.size + 2 + N.size + 2 + TT.size + 1 + H.size := by omega
      have z9 : ¬ 9223372036854775807 < S.size + 2 + I.size + 2 + N.size + 2 + TT.size + 1 + H.size + 1 := by omega
      have z10 : ¬ 9223372036854775807 < S.size + 2 + I.size + 2 + N.size + 2 + TT.size + 1 + H.size + 1 + L.size := by omega
      obtain ⟨W1, hW1⟩ : ∃ W1, wr.alloc (.cells #[.int .i64 f, .int .i64 t, .int .i64 u, .int .i64 z] 59) = W1 := ⟨_, rfl⟩
      have G := Lib.hid (show Below wr.heap.size wr W1 by rw [← hW1]; exact (Below.refl _ _).alloc (Nat.le_refl _) _)
      have T := Lib.hid (show BlkV W1 wr.heap.size 59 #[.int .i64 f, .int .i64 t, .int .i64 u, .int .i64 z] by rw [← hW1]; exact BlkV.new _ _ _)
      have HWW := Lib.hid hW1
      have x0 := T.out.four0'
      have x1 := T.out.four1'
      have x2 := T.out.four2'
      have x3 := T.out.four3'
      have hki : (k : Int) < (n : Int) := by omega
      have hwk : IntKind.i64.wrap ((k : Int) + 2) = (k : Int) + 2 := IntWalk.i64_in _ (by omega)
      clear hx hN hb2 hW1
      go_wp2_with (fail)
      rw [HWW.out]
      go_region_held3 (fun w' => w'.cell? ⟨wr.heap.size, 0, none⟩ = some (.int .i64 f) ∧ w'.cell? ⟨wr.heap.size, 1, none⟩ = some (.int .i64 t) ∧ w'.cell? ⟨wr.heap.size, 2, none⟩ = some (.int .i64 u) ∧ w'.cell? ⟨wr.heap.size, 3, none⟩ = some (.int .i64 z))
        (first | exact ⟨e0, e1, e2, e3⟩ | exact ⟨x0, x1, x2, x3⟩)
        (first
          | (go_at_call 37; (with_reducible refine Calls.mono (spec_fi_at ((k : Int) + 2) I _ HBI.out.1 HBI.out.2 HI.out) ?_); rintro e w5 ⟨rfl, hb⟩; have hr := undrew hb; have T5 := Lib.hid (T.out.below hr); have G5 := Lib.hid (G.out.trans (hr.mono G.out.size)); have e0 := T5.out.four0'; have e1 := T5.out.four1'; have e2 := T5.out.four2'; have e3 := T5.out.four3'; clear hb hr)
          | (go_at_call 38; (with_reducible refine Calls.mono (fn_spec f N _ HNM.out) ?_); rintro e w6 ⟨rfl, hb⟩; have hr := hb; have T6 := Lib.hid (T5.out.below hr); have G6 := Lib.hid (G5.out.trans (hr.mono G5.out.size)); clear e0 e1 e2 e3; have e0 := T6.out.four0'; have e1 := T6.out.four1'; have e2 := T6.out.four2'; have e3 := T6.out.four3'; clear hb hr)
          | (go_at_call 37; (with_reducible refine Calls.mono (spec_fi_at t TT _ HBTT.out.1 HBTT.out.2 HTT.out) ?_); rintro e w7 ⟨rfl, hb⟩; have hr := hb; have T7 := Lib.hid (T6.out.below hr); have G7 := Lib.hid (G6.out.trans (hr.mono G6.out.size)); clear e0 e1 e2 e3; have e0 := T7.out.four0'; have e1 := T7.out.four1'; have e2 := T7.out.four2'; have e3 := T7.out.four3'; clear hb hr)
          | (go_at_call 37; (with_reducible refine Calls.mono (spec_fi_at z H _ HBH.out.1 HBH.out.2 HH.out) ?_); rintro e w8 ⟨rfl, hb⟩; have hr := hb; have T8 := Lib.hid (T7.out.below hr); have G8 := Lib.hid (G7.out.trans (hr.mono G7.out.size)); clear e0 e1 e2 e3; have e0 := T8.out.four0'; have e1 := T8.out.four1'; have e2 := T8.out.four2'; have e3 := T8.out.four3'; clear hb hr)
          | (go_at_call 37; (with_reducible refine Calls.mono (spec_fi_at u L _ HBL.out.1 HBL.out.2 HL.out) ?_); rintro e w9 ⟨rfl, hb⟩; have hr := hb; have T9 := Lib.hid (T8.out.below hr); have G9 := Lib.hid (G8.out.trans (hr.mono G8.out.size)); clear e0 e1 e2 e3; have e0 := T9.out.four0'; have e1 := T9.out.four1'; have e2 := T9.out.four2'; have e3 := T9.out.four3'; clear hb hr))
      clear e0 e1 e2 e3 x0 x1 x2 x3 q0 q1
      go_wp2
      go_roundw
      case rel => exact ⟨k + 1, by omega, by rw [← dgT_next HX.out HSS.out HI.out HNM.out HTT.out HH.out HL.out], by go_num, HB.out.trans (G9.out.mono HB.out.size)⟩
      case measure => simp [intOf]; omega
    · obtain rfl : k = n := by omega
      obtain rfl : S = r := by rw [← HSS.out, ← HR.out, dgR_yes HDB.out, HN.out]
      go_wp2
      go_ret
      exact ⟨rfl, HB3.out.trans (HB.out.mono HB3.out.size)⟩

end Go.Proofs.YtpmfabpnjacegaaGreatDoor
