/-
  What impl.IsValidDiagram answers: one node behind others, all of them. By an AI agent.
-/
import Derived.Test.YtpmfabpnjacegaaGreatDoorGQ9
namespace Go.Proofs.YtpmfabpnjacegaaGreatDoor
open Go.RowKit
set_option linter.unusedVariables false
set_option linter.unusedSimpArgs false
set_option linter.unnecessarySimpa false

theorem okT_is (t : Int) : okT t = decide (1 ≤ t ∧ t ≤ 1000) := by
  unfold okT
  first | rfl | (simp)

set_option maxRecDepth 100000 in
set_option maxHeartbeats 4000000 in
theorem va_impl (f t u z : Int) (a : Option Addr) (c n : Nat) (D : List DN) (r : Bool) (w : World) (hn : D.length = n) (hr : dvB ((f, t), (u, z)) D = r) (h : SmDn w a D c) :
    Calls Tryz.prog 44 #[.agg #[.int .i64 f, .int .i64 t, .int .i64 u, .int .i64 z], .slice a n c] w fun e w' => e = .returned (.bool r) ∧ Below w.heap.size w w' := by
  have hl := h.len
  rw [hn] at hl
  obtain ⟨W1, hW1⟩ : ∃ W1, W1 = w.alloc (.cells #[.int .i64 f, .int .i64 t, .int .i64 u, .int .i64 z] 59) := ⟨_, rfl⟩
  have HWB := Lib.hid (show Below w.heap.size w W1 by rw [hW1]; exact (Below.refl w.heap.size w).alloc (Nat.le_refl _) _)
  have HT4 := Lib.hid (show BlkV W1 w.heap.size 59 #[.int .i64 f, .int .i64 t, .int .i64 u, .int .i64 z] by rw [hW1]; exact BlkV.new _ _ _)
  have HS := Lib.hid h
  have HR := Lib.hid hr
  have HN := Lib.hid hn
  have HWW := Lib.hid hW1
  obtain ⟨fb, hfb⟩ : ∃ fb, decide (0 ≤ f ∧ f ≤ 5) = fb := ⟨_, rfl⟩
  have HFB := Lib.hid hfb
  obtain ⟨tb, htb⟩ : ∃ tb, decide (1 ≤ t ∧ t ≤ 1000) = tb := ⟨_, rfl⟩
  have HTB := Lib.hid htb
  have HTK := Lib.hid (show okT t = tb by rw [okT_is, htb])
  obtain ⟨ub, hub⟩ : ∃ ub, (u != z) = ub := ⟨_, rfl⟩
  have HUB := Lib.hid hub
  obtain ⟨rb, hrb⟩ : ∃ rb, (refB n u && refB n z) = rb := ⟨_, rfl⟩
  have HRB := Lib.hid hrb
  obtain ⟨pb, hpb⟩ : ∃ pb, (preB (f, t) D u && preB (f, t) D z) = pb := ⟨_, rfl⟩
  have HPB := Lib.hid hpb
  obtain ⟨cb, hcb⟩ : ∃ cb, D.contains ((f, t), (u, z)) = cb := ⟨_, rfl⟩
  have HCB := Lib.hid hcb
  have HD := Lib.hid (show dvB ((f, t), (u, z)) D = ((((fb && tb) && ub) && rb) && (pb && !cb)) by
    unfold dvB numB
    rw [hn, ← hfb, ← htb, ← hub, ← hrb, ← hpb, ← hcb]
    congr 1)
  have HUZ := Lib.hid (fun (e : rb = true) => show u ≤ (n : Int) + 1 ∧ z ≤ (n : Int) + 1 by
    rw [e] at hrb
    unfold refB at hrb
    simp at hrb
    omega)
  have x0 := HT4.out.four0'
  clear h hr hn hW1 hfb htb hrb hpb hcb
  cases fb
  · obtain rfl : false = r := by rw [← HR.out, HD.out]; rfl
    go_enter Tryz.func44, Tryz.ntmps44
    go_wp2_with (first
      | (go_at_call 72; rw [← HWW.out]; ((with_reducible refine (dfeat_is _ _ _ HFB.out).mono ?_); rintro e w2 ⟨rfl, hb2⟩; have HB2 := Lib.hid (HWB.out.trans (hb2.mono HWB.out.size)); clear hb2)))
    go_ret
    exact ⟨rfl, HB2.out⟩
  cases tb
  · obtain rfl : false = r := by rw [← HR.out, HD.out]; rfl
    go_enter Tryz.func44, Tryz.ntmps44
    go_wp2_with (first
      | (go_at_call 72; rw [← HWW.out]; ((with_reducible refine (dfeat_is _ _ _ HFB.out).mono ?_); rintro e w2 ⟨rfl, hb2⟩; have x1 := (HT4.out.below hb2).four1'; have HB2 := Lib.hid (HWB.out.trans (hb2.mono HWB.out.size)); clear hb2))
      | (go_at_call 73; (with_reducible refine (threshold_is t _ _ HTK.out).mono ?_); rintro e w3 ⟨rfl, rfl⟩))
    go_ret
    exact ⟨rfl, HB2.out⟩
  cases ub
  · obtain rfl : false = r := by rw [← HR.out, HD.out]; rfl
    go_enter Tryz.func44, Tryz.ntmps44
    go_wp2_with (first
      | (go_at_call 72; rw [← HWW.out]; ((with_reducible refine (dfeat_is _ _ _ HFB.out).mono ?_); rintro e w2 ⟨rfl, hb2⟩; have x1 := (HT4.out.below hb2).four1'; have x2 := (HT4.out.below hb2).four2'; have x3 := (HT4.out.below hb2).four3'; have HB2 := Lib.hid (HWB.out.trans (hb2.mono HWB.out.size)); clear hb2))
      | (go_at_call 73; (with_reducible refine (threshold_is t _ _ HTK.out).mono ?_); rintro e w3 ⟨rfl, rfl⟩))
    go_ret
    exact ⟨rfl, HB2.out⟩
  cases rb
  · obtain rfl : false = r := by rw [← HR.out, HD.out]; rfl
    go_enter Tryz.func44, Tryz.ntmps44
    go_wp2_with (first
      | (go_at_call 72; rw [← HWW.out]; ((with_reducible refine (dfeat_is _ _ _ HFB.out).mono ?_); rintro e w2 ⟨rfl, hb2⟩; have x1 := (HT4.out.below hb2).four1'; have x2 := (HT4.out.below hb2).four2'; have x3 := (HT4.out.below hb2).four3'; have HB2 := Lib.hid (HWB.out.trans (hb2.mono HWB.out.size)); clear hb2))
      | (go_at_call 73; (with_reducible refine (threshold_is t _ _ HTK.out).mono ?_); rintro e w3 ⟨rfl, rfl⟩)
      | (go_at_call 43; (with_reducible refine (refs_two n u z _ _ hl HRB.out).mono ?_); rintro e w3 ⟨rfl, hb3⟩; have HB3 := Lib.hid (HB2.out.trans (hb3.mono HB2.out.size)); clear hb3))
    go_ret
    exact ⟨rfl, HB3.out⟩
  have HUZ2 := Lib.hid (HUZ.out rfl)
  cases pb
  · obtain rfl : false = r := by rw [← HR.out, HD.out]; rfl
    go_enter Tryz.func44, Tryz.ntmps44
    go_wp2_with (first
      | (go_at_call 72; rw [← HWW.out]; ((with_reducible refine (dfeat_is _ _ _ HFB.out).mono ?_); rintro e w2 ⟨rfl, hb2⟩; have HT2 := Lib.hid (HT4.out.below hb2); have x1 := HT2.out.four1'; have x2 := HT2.out.four2'; have x3 := HT2.out.four3'; have HB2 := Lib.hid (HWB.out.trans (hb2.mono HWB.out.size)); clear hb2))
      | (go_at_call 73; (with_reducible refine (threshold_is t _ _ HTK.out).mono ?_); rintro e w3 ⟨rfl, rfl⟩)
      | (go_at_call 43; (with_reducible refine (refs_two n u z _ _ hl HRB.out).mono ?_); rintro e w3 ⟨rfl, hb3⟩; have HT3 := Lib.hid (HT2.out.below hb3); have y0 := HT3.out.four0'; have y1 := HT3.out.four1'; have y2 := HT3.out.four2'; have y3 := HT3.out.four3'; have HB3 := Lib.hid (HB2.out.trans (hb3.mono HB2.out.size)); clear hb3)
      | (go_at_call 74; (with_reducible refine (pre_two f t u z _ _ n D _ _ HN.out HPB.out HUZ2.out.1 HUZ2.out.2 (HS.out.below HB3.out)).mono ?_); rintro e w4 ⟨rfl, hb4⟩; have HB4 := Lib.hid (HB3.out.trans (hb4.mono HB3.out.size)); clear hb4))
    go_ret
    exact ⟨rfl, HB4.out⟩
  obtain rfl : (!cb) = r := by rw [← HR.out, HD.out]; simp
  go_enter Tryz.func44, Tryz.ntmps44
  go_wp2_with (first
      | (go_at_call 72; rw [← HWW.out]; ((with_reducible refine (dfeat_is _ _ _ HFB.out).mono ?_); rintro e w2 ⟨rfl, hb2⟩; have HT2 := Lib.hid (HT4.out.below hb2); have x1 := HT2.out.four1'; have x2 := HT2.out.four2'; have x3 := HT2.out.four3'; have HB2 := Lib.hid (HWB.out.trans (hb2.mono HWB.out.size)); clear hb2))
      | (go_at_call 73; (with_reducible refine (threshold_is t _ _ HTK.out).mono ?_); rintro e w3 ⟨rfl, rfl⟩)
      | (go_at_call 43; (with_reducible refine (refs_two n u z _ _ hl HRB.out).mono ?_); rintro e w3 ⟨rfl, hb3⟩; have HT3 := Lib.hid (HT2.out.below hb3); have y0 := HT3.out.four0'; have y1 := HT3.out.four1'; have y2 := HT3.out.four2'; have y3 := HT3.out.four3'; have HB3 := Lib.hid (HB2.out.trans (hb3.mono HB2.out.size)); clear hb3)
      | (go_at_call 74; (with_reducible refine (pre_two f t u z _ _ n D _ _ HN.out HPB.out HUZ2.out.1 HUZ2.out.2 (HS.out.below HB3.out)).mono ?_); rintro e w4 ⟨rfl, hb4⟩; have HT5 := Lib.hid (HT3.out.below hb4); have z0 := HT5.out.four0'; have z1 := HT5.out.four1'; have z2 := HT5.out.four2'; have z3 := HT5.out.four3'; have HB4 := Lib.hid (HB3.out.trans (hb4.mono HB3.out.size)); clear hb4)
      | (go_at_call 75; (with_reducible refine (cont_impl f t u z _ _ n D _ _ HN.out HCB.out (HS.out.below HB4.out)).mono ?_); rintro e w5 ⟨rfl, hb5⟩; have HB5 := Lib.hid (HB4.out.trans (hb5.mono HB4.out.size)); clear hb5))
  go_ret
  exact ⟨rfl, HB5.out⟩

set_option maxRecDepth 100000 in
set_option maxHeartbeats 4000000 in
theorem dg_impl (y : Int) (a : Option Addr) (c : Nat) (D : List DN) (r : Bool) (w : World) (hr : dgB y D = r) (h : SmDn w a D c) :
    Calls Tryz.prog 18 #[.agg #[.int .i64 y, .slice a D.length c]] w fun e w' => e = .returned (.bool r) ∧ Below w.heap.size w w' := by
  have hl := h.len
  obtain ⟨n, hn⟩ : ∃ n, D.length = n := ⟨_, rfl⟩
  have HN := Lib.hid hn
  have HC1 := Lib.hid h.2.1
  have HC2 := Lib.hid (show n ≤ c by rw [← hn]; exact h.2.2.1)
  rw [hn] at hl ⊢
  obtain ⟨w1, hw1⟩ : ∃ w1, w.alloc (.cells #[.int .i64 y, .slice a n c] 32) = w1 := ⟨_, rfl⟩
  have HB1 := Lib.hid (show Below w.heap.size w w1 by rw [← hw1]; exact (Below.refl w.heap.size w).alloc (Nat.le_refl _) _)
  have HX1 := Lib.hid (show BlkV w1 w.heap.size 32 #[.int .i64 y, .slice a n c] by rw [← hw1]; exact BlkV.new _ _ _)
  have HS := Lib.hid (h.below HB1.out)
  have HR := Lib.hid hr
  have q0 := HX1.out.two0
  have q1 := HX1.out.two1
  clear h hr hn
  by_cases h2 : n ≤ 200
  case neg =>
    obtain rfl : false = r := by rw [← HR.out, dg_len (by rw [HN.out]; exact h2)]
    have h2i : ¬ (n : Int) ≤ 200 := by omega
    go_enter Tryz.func18, Tryz.ntmps18
    go_wp2
    go_ret
    exact ⟨rfl, HB1.out⟩
  case pos =>
  obtain ⟨rb, hrb⟩ : ∃ rb, decide (0 ≤ y ∧ y ≤ (n : Int) + 1) = rb := ⟨_, rfl⟩
  have HRB := Lib.hid hrb
  clear hrb
  have h2i : (n : Int) ≤ 200 := by omega
  cases rb
  · obtain rfl : false = r := by rw [← HR.out, dg_root (by rw [HN.out]; exact of_decide_eq_false HRB.out)]
    go_enter Tryz.func18, Tryz.ntmps18
    go_wp2_with (go_at_call 43; (with_reducible refine (refs_one n y _ _ hl HRB.out).mono ?_); rintro e w3 ⟨rfl, hb3⟩; have HB3 := Lib.hid (HB1.out.trans (hb3.mono HB1.out.size)); clear hb3)
    go_ret
    exact ⟨rfl, HB3.out⟩
  have HRN := Lib.hid (show dgB y D = nodesB D by unfold dgB refB; rw [HN.out, HRB.out, decide_eq_true h2]; rfl)
  go_enter Tryz.func18, Tryz.ntmps18
  go_wp2_with (go_at_call 43; (with_reducible refine (refs_one n y _ _ hl HRB.out).mono ?_); rintro e w3 ⟨rfl, hb3⟩; refine Hid.out ?_)
  have HB3 := Lib.hid (HB1.out.trans (hb3.mono HB1.out.size))
  have HX3 := Lib.hid (HX1.out.below hb3)
  have HS3 := Lib.hid (HS.out.below hb3)
  clear hb3 q0 q1
  have q0 := HX3.out.two0
  have q1 := HX3.out.two1
  refine Lib.hid ?_
  go_wp2
  go_loopw [22] (fun i wr => ∃ k : Nat, k ≤ n ∧ i = .int .i64 k ∧ (∀ (i : Nat) (x : DN), i < k → D[i]? = some x → dvB x (D.take i) = true) ∧ Below w3.heap.size w3 wr) (fun i _ => n - (intOf i).toNat)
  case atStart => exact ⟨0, Nat.zero_le _, rfl, fun i x hi => by omega, Below.refl _ _⟩
  case round =>
    obtain ⟨k, hk, rfl, hall, hb⟩ := hrel
    have HALL := Lib.hid hall
    have HB := Lib.hid hb
    clear hall hb q0 q1
    by_cases hlt : k < n
    · obtain ⟨b2, o2, f, t, u, z, rfl, hb2, hx, p0, p1, p2, p3⟩ := (HS3.out.inDn.below HB.out).at_ (show k < D.length by rw [HN.out]; exact hlt)
      obtain ⟨W1, hW1⟩ : ∃ W1, wr.alloc (.cells #[.int .i64 f, .int .i64 t, .int .i64 u, .int .i64 z] 59) = W1 := ⟨_, rfl⟩
      have HWB := Lib.hid (show Below wr.heap.size wr W1 by rw [← hW1]; exact (Below.refl _ _).alloc (Nat.le_refl _) _)
      have HT4 := Lib.hid (show BlkV W1 wr.heap.size 59 #[.int .i64 f, .int .i64 t, .int .i64 u, .int .i64 z] by rw [← hW1]; exact BlkV.new _ _ _)
      have HX4 := Lib.hid (HX3.out.below (HB.out.trans (HWB.out.mono HB.out.size)))
      have HS4 := Lib.hid (HS3.out.below (HB.out.trans (HWB.out.mono HB.out.size)))
      have x0 := HT4.out.four0'
      have x1 := HT4.out.four1'
      have x2 := HT4.out.four2'
      have x3 := HT4.out.four3'
      have y0 := HX4.out.two0
      have y1 := HX4.out.two1
      have HWW := Lib.hid hW1
      have HX := Lib.hid hx
      have HTL := Lib.hid (show (D.take k).length = k by rw [List.length_take, HN.out]; omega)
      have hkc : (k : Int) ≤ (c : Int) := by have := HC2.out; omega
      have hkc2 : k ≤ c := by have := HC2.out; omega
      have hki : (k : Int) < (n : Int) := by omega
      obtain ⟨v, hv⟩ : ∃ v, dvB ((f, t), (u, z)) (D.take k) = v := ⟨_, rfl⟩
      have HV := Lib.hid hv
      clear hx hv hb2 hW1
      go_wp2_with (fail)
      rw [HWW.out]
      go_region_held3 (fun w' => w'.cell? ⟨wr.heap.size, 0, none⟩ = some (.int .i64 f) ∧ w'.cell? ⟨wr.heap.size, 1, none⟩ = some (.int .i64 t) ∧ w'.cell? ⟨wr.heap.size, 2, none⟩ = some (.int .i64 u) ∧ w'.cell? ⟨wr.heap.size, 3, none⟩ = some (.int .i64 z) ∧ w'.cell? ⟨w.heap.size, 0, none⟩ = some (.int .i64 y) ∧ w'.cell? ⟨w.heap.size, 1, none⟩ = some (.slice (some ⟨b2, o2, none⟩) n c))
        (first | exact ⟨e0, e1, e2, e3, d0, d1⟩ | exact ⟨x0, x1, x2, x3, y0, y1⟩)
        (first
          | (go_at_call 44; ((with_reducible refine Calls.mono (va_impl f t u z _ _ k (D.take k) v _ HTL.out HV.out ((HS4.out.take k).below (dquiet_f _ _ 1))) ?_); rintro e w5 ⟨rfl, hb5⟩; have hr5 := undrew hb5; have HT5 := Lib.hid (HT4.out.below hr5); have HX5 := Lib.hid (HX4.out.below hr5); have e0 := HT5.out.four0'; have e1 := HT5.out.four1'; have e2 := HT5.out.four2'; have e3 := HT5.out.four3'; have d0 := HX5.out.two0; have d1 := HX5.out.two1; have HB5 := Lib.hid (HWB.out.trans (hr5.mono HWB.out.size)); clear hb5 hr5)))
      clear e0 e1 e2 e3 d0 d1 x0 x1 x2 x3 y0 y1
      cases v
      · obtain rfl : false = r := by rw [← HR.out, HRN.out, nodes_no HX.out HV.out]
        go_wp2
        go_ret
        exact ⟨rfl, HB3.out.trans ((HB.out.trans (HB5.out.mono HB.out.size)).mono HB3.out.size)⟩
      · go_wp2
        go_roundw
        case rel =>
          refine ⟨k + 1, by omega, by go_num, fun i x hi hx => ?_, HB.out.trans (HB5.out.mono HB.out.size)⟩
          by_cases e : i = k
          · subst e
            rw [HX.out] at hx
            injection hx with hx
            subst hx
            exact HV.out
          · exact HALL.out i x (by omega) hx
        case measure => simp [intOf]; omega
    · obtain rfl : k = n := by omega
      obtain rfl : true = r := by
        rw [← HR.out, HRN.out]
        exact (nodes_iff.2 fun i x hx => HALL.out i x (by rw [← HN.out]; exact (List.getElem?_eq_some_iff.1 hx).1) hx).symm
      go_wp2
      go_ret
      exact ⟨rfl, HB3.out.trans (HB.out.mono HB3.out.size)⟩

end Go.Proofs.YtpmfabpnjacegaaGreatDoor
