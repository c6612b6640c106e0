/-
  What impl.isFeature, Rule.isValid and IsValidRules answer. By an AI agent.
-/
import Derived.Test.YtookcggmapldeaaRuS
import Derived.Test.YtookcggmapldeaaBounds
import Derived.Deep.RegionHeld3
namespace Go.Proofs.Ytookcggmapldeaa
open Go.RowKit
set_option linter.unusedVariables false

theorem BlkV.one0 {w : World} {g : Nat} {t : TypeId} {a : Value} (h : BlkV w g t #[a]) : w.cell? ⟨g, 0, none⟩ = some a := h.cell 0
theorem uwithin (lo hi x : Int) (r : Bool) (w : World) (hr : decide (lo ≤ x ∧ x ≤ hi) = r) :
    Calls Try.prog 65 #[.int .i64 lo, .int .i64 hi, .slice (some ⟨w.heap.size, 0, none⟩) 1 1] (w.alloc (.cells #[.int .i64 x] 3)) fun e w' => e = .returned (.bool r) ∧ w' = w.alloc (.cells #[.int .i64 x] 3) := by
  refine within_is lo hi _ 1 [x] r _ (by simp) ?_ (by rw [← hr]; simp [withinB])
  exact InI.new w [x]
theorem uwithin2 (lo hi x : Int) (r : Bool) (o1 : Obj) (w : World) (hr : decide (lo ≤ x ∧ x ≤ hi) = r) :
    Calls Try.prog 65 #[.int .i64 lo, .int .i64 hi, .slice (some ⟨w.heap.size + 1, 0, none⟩) 1 1] ((w.alloc o1).alloc (.cells #[.int .i64 x] 3)) fun e w' => e = .returned (.bool r) ∧ w' = (w.alloc o1).alloc (.cells #[.int .i64 x] 3) := by
  have h := uwithin lo hi x r (w.alloc o1) hr
  simpa using h

set_option maxRecDepth 100000 in
theorem feat_is (x : Int) (r : Bool) (w : World) (hr : decide (0 ≤ x ∧ x ≤ 5) = r) :
    Calls Try.prog 77 #[.int .i64 x] w fun e w' => e = .returned (.bool r) ∧ Below w.heap.size w w' := by
  have HR := Lib.hid hr
  clear hr
  go_enter Try.func77, Try.ntmps77
  go_wp2_with (go_at_call 65; ((with_reducible refine (uwithin _ _ _ _ _ HR.out).mono ?_); rintro e w' ⟨rfl, rfl⟩))
  go_ret
  exact ⟨rfl, (Below.refl _ _).alloc (Nat.le_refl _) _⟩

set_option maxRecDepth 100000 in
set_option maxHeartbeats 2000000 in
theorem rv_impl (a : Option Addr) (c : Nat) (l : List TS) (r : Bool) (w : World) (hr : vrB l = r) (h : SmTs w a l c) :
    Calls Try.prog 66 #[.agg #[.slice a l.length c]] w fun e w' => e = .returned (.bool r) ∧ Below w.heap.size w w' := by
  have HR := Lib.hid hr
  have hl := h.len
  obtain ⟨w1, hw1⟩ : ∃ w1, w1 = (w.alloc (.cells #[.slice a l.length c] 65)).alloc (.cells #[.int .i64 (l.length : Int)] 3) := ⟨_, rfl⟩
  have HW := Lib.hid hw1
  have HB1 := Lib.hid (show Below w.heap.size w w1 by rw [hw1]; exact ((Below.refl w.heap.size w).alloc (Nat.le_refl _) _).alloc (by simp) _)
  have HBX := Lib.hid (show BlkV w1 w.heap.size 65 #[.slice a l.length c] by rw [hw1]; exact (BlkV.new _ _ _).alloc _)
  have HIN := Lib.hid (h.inTs.below HB1.out)
  have HGL := Lib.hid (show w.heap.size < w1.heap.size by rw [hw1]; simp; omega)
  by_cases h13 : 1 ≤ l.length ∧ l.length ≤ 3
  case neg =>
    obtain rfl : false = r := by rw [← HR.out, vr_bad h13]
    have HL := Lib.hid (show decide ((1 : Int) ≤ (l.length : Int) ∧ (l.length : Int) ≤ 3) = false from decide_eq_false (by omega))
    clear hr h hw1 h13
    go_enter Try.func66, Try.ntmps66
    go_wp2_with (go_at_call 65; ((with_reducible refine (uwithin2 _ _ _ _ _ _ HL.out).mono ?_); rintro e w' ⟨rfl, rfl⟩))
    go_ret
    exact ⟨rfl, by rw [← HW.out]; exact HB1.out⟩
  case pos =>
  have HL := Lib.hid (show decide ((1 : Int) ≤ (l.length : Int) ∧ (l.length : Int) ≤ 3) = true from decide_eq_true (by omega))
  have HR2 := Lib.hid (show (l.all vtB && ascB l) = r by rw [← HR.out, vr_ok h13])
  have q0 := HBX.out.one0
  clear hr h hw1 h13
  go_enter Try.func66, Try.ntmps66
  go_wp2_with (go_at_call 65; ((with_reducible refine (uwithin2 _ _ _ _ _ _ HL.out).mono ?_); rintro e w' ⟨rfl, rfl⟩); rw [← HW.out]; refine Hid.out ?_)
  refine Lib.hid ?_
  go_wp2
  go_loopw [14] (fun i wr => ∃ k : Nat, k ≤ l.length ∧ i = .int .i64 k ∧ (l.take k).all vtB = true ∧ ascB (l.take k) = true ∧ Below w1.heap.size w1 wr) (fun i _ => l.length - (intOf i).toNat)
  case atStart => exact ⟨0, Nat.zero_le _, rfl, rfl, rfl, Below.refl _ _⟩
  case round =>
    obtain ⟨k, hk, rfl, hall, hasc, hb⟩ := hrel
    have HALL := Lib.hid hall
    have HASC := Lib.hid hasc
    have HB := Lib.hid hb
    clear hall hasc hb q0
    by_cases hlt : k < l.length
    · obtain ⟨b, off, f, t, u, rfl, hbw, hx, c0, c1, c2⟩ := (HIN.out.below HB.out).at_ hlt
      have HX := Lib.hid hx
      have HBW := Lib.hid hbw
      obtain ⟨W1, hW1⟩ : ∃ W1, W1 = wr.alloc (.cells #[.int .i64 f, .int .i64 t, .bool u] 62) := ⟨_, rfl⟩
      have HWB := Lib.hid (show Below wr.heap.size wr W1 by rw [hW1]; exact (Below.refl _ _).alloc (Nat.le_refl _) _)
      have HT4 := Lib.hid (show BlkV W1 wr.heap.size 62 #[.int .i64 f, .int .i64 t, .bool u] by rw [hW1]; exact BlkV.new _ _ _)
      have x0 := HT4.out.three0
      have HWW := Lib.hid hW1
      clear hx hbw hW1
      obtain ⟨fb, hfb⟩ : ∃ fb, decide (0 ≤ f ∧ f ≤ 5) = fb := ⟨_, rfl⟩
      have HFB := Lib.hid hfb
      obtain ⟨tb, htb⟩ : ∃ tb, okT t = tb := ⟨_, rfl⟩
      have HTB := Lib.hid htb
      clear hfb htb
      cases fb
      · obtain rfl : false = r := by rw [← HR.out, vr_no HX.out (vt_feat (of_decide_eq_false HFB.out))]
        go_wp2_with (first
          | (go_at_call 77; rw [← HWW.out]; ((with_reducible refine (feat_is _ _ _ HFB.out).mono ?_); rintro e w2 ⟨rfl, hb2⟩; have HB2 := Lib.hid (HWB.out.trans (hb2.mono HWB.out.size)); clear hb2)))
        go_ret
        exact ⟨rfl, HB1.out.trans ((HB.out.trans (HB2.out.mono HB.out.size)).mono HB1.out.size)⟩
      have hf5 := of_decide_eq_true HFB.out
      cases tb
      · obtain rfl : false = r := by rw [← HR.out, vr_no HX.out (vt_thr (fun e => by have := HTB.out; simp [okT, e.1, e.2] at this))]
        clear hf5
        go_wp2_with (first
          | (go_at_call 77; rw [← HWW.out]; ((with_reducible refine (feat_is _ _ _ HFB.out).mono ?_); rintro e w2 ⟨rfl, hb2⟩; have x1 := (HT4.out.below hb2).three1; have HB2 := Lib.hid (HWB.out.trans (hb2.mono HWB.out.size)); clear hb2))
          | (go_at_call 78; (with_reducible refine (threshold_is t _ _ HTB.out).mono ?_); rintro e w3 ⟨rfl, rfl⟩))
        go_ret
        exact ⟨rfl, HB1.out.trans ((HB.out.trans (HB2.out.mono HB.out.size)).mono HB1.out.size)⟩
      have HVT := Lib.hid (show vtB ((f, t), u) = true from vt_yes hf5 (by have := HTB.out; simpa [okT] using this))
      clear hf5
      by_cases h0 : k = 0
      · subst h0
        rw [Nat.zero_mul, Nat.add_zero] at c0 c1 c2
        have d0 : decide ((0 : Int) < 0) = false := rfl
        go_wp2_with (first
          | (go_at_call 77; rw [← HWW.out]; ((with_reducible refine (feat_is _ _ _ HFB.out).mono ?_); rintro e w2 ⟨rfl, hb2⟩; have x1 := (HT4.out.below hb2).three1; have HB2 := Lib.hid (HWB.out.trans (hb2.mono HWB.out.size)); clear hb2))
          | (go_at_call 78; (with_reducible refine (threshold_is t _ _ HTB.out).mono ?_); rintro e w3 ⟨rfl, rfl⟩; refine Hid.out ?_))
        refine Lib.hid ?_
        go_wp2
        go_quiet (fail)
        go_wp2
        go_roundw
        case rel => exact ⟨0 + 1, by omega, by go_num, all_take HALL.out HX.out HVT.out, asc_take1 l, (HB.out.trans (HB2.out.mono HB.out.size)).trans (quiet_f _ _ _)⟩
        case measure => simp [intOf]; omega
      · obtain ⟨j, rfl⟩ : ∃ j, k = j + 1 := ⟨k - 1, by omega⟩
        obtain ⟨b', off', f', t', u', hb', hbw', hy, e0, e1, e2⟩ := (HIN.out.below HB.out).at_ (show j < l.length by omega)
        injection hb' with hb'
        injection hb' with hbb hoo
        subst hbb hoo
        have HY := Lib.hid hy
        have d0 : decide ((0 : Int) < (j : Int) + 1) = true := decide_eq_true (by omega)
        clear hy e1 e2 hbw' h0
        obtain ⟨ab, hab⟩ : ∃ ab, decide (f ≤ f') = ab := ⟨_, rfl⟩
        have HAB := Lib.hid hab
        clear hab
        have HE0 := Lib.hid (fun (W : World) (hW : Below wr.heap.size wr W) => (hW.cell (p := ⟨b, off + j * 3, none⟩) HBW.out).trans e0)
        have HQB := Lib.hid (fun (W : World) (hW : Below wr.heap.size wr W) => (HBX.out.below (HB.out.trans (hW.mono HB.out.size))).one0)
        clear e0
        cases ab
        · have HLT := Lib.hid (of_decide_eq_false HAB.out)
          go_wp2_with (first
            | (go_at_call 77; rw [← HWW.out]; ((with_reducible refine (feat_is _ _ _ HFB.out).mono ?_); rintro e w2 ⟨rfl, hb2⟩; have z0 := (HT4.out.below hb2).three0; have x1 := (HT4.out.below hb2).three1; have HB2 := Lib.hid (HWB.out.trans (hb2.mono HWB.out.size)); have y0 := HE0.out _ HB2.out; have q0 := HQB.out _ HB2.out; clear hb2))
            | (go_at_call 78; (with_reducible refine (threshold_is t _ _ HTB.out).mono ?_); rintro e w3 ⟨rfl, rfl⟩; refine Hid.out ?_))
          refine Lib.hid ?_
          have hab : decide (f ≤ f') = false := HAB.out
          go_wp2
          go_quiet (fail)
          go_wp2
          go_roundw
          case rel =>
            refine ⟨j + 1 + 1, by omega, by go_num, all_take HALL.out HX.out HVT.out, ?_, (HB.out.trans (HB2.out.mono HB.out.size)).trans (quiet_f _ _ _)⟩
            rw [asc_step HASC.out HY.out HX.out]
            have := HLT.out
            exact decide_eq_true (by show f' < f; omega)
          case measure => simp [intOf]; omega
        · have HLT := Lib.hid (of_decide_eq_true HAB.out)
          obtain rfl : false = r := by
            rw [← HR.out, vr_nasc (k := j + 1 + 1) (by rw [asc_step HASC.out HY.out HX.out]; have := HLT.out; exact decide_eq_false (by show ¬ f' < f; omega))]
          go_wp2_with (first
            | (go_at_call 77; rw [← HWW.out]; ((with_reducible refine (feat_is _ _ _ HFB.out).mono ?_); rintro e w2 ⟨rfl, hb2⟩; have z0 := (HT4.out.below hb2).three0; have x1 := (HT4.out.below hb2).three1; have HB2 := Lib.hid (HWB.out.trans (hb2.mono HWB.out.size)); have y0 := HE0.out _ HB2.out; have q0 := HQB.out _ HB2.out; clear hb2))
            | (go_at_call 78; (with_reducible refine (threshold_is t _ _ HTB.out).mono ?_); rintro e w3 ⟨rfl, rfl⟩; refine Hid.out ?_))
          refine Lib.hid ?_
          have hab : decide (f ≤ f') = true := HAB.out
          go_wp2
          go_quiet (fail)
          go_wp2
          go_ret
          exact ⟨rfl, HB1.out.trans (((HB.out.trans (HB2.out.mono HB.out.size)).trans (quiet_f _ _ _)).mono HB1.out.size)⟩
    · obtain rfl : k = l.length := by omega
      obtain rfl : true = r := by
        rw [← HR2.out]
        have h1 := HALL.out
        have h2 := HASC.out
        rw [List.take_length] at h1 h2
        rw [h1, h2]; rfl
      go_wp2
      go_ret
      exact ⟨rfl, HB1.out.trans (HB.out.mono HB1.out.size)⟩

set_option maxRecDepth 100000 in
set_option maxHeartbeats 2000000 in
theorem vs_impl (a : Option Addr) (c : Nat) (R : List (List TS)) (r : Bool) (w : World) (hr : vsB R = r) (h : SmRu w a R c) :
    Calls Try.prog 39 #[.agg #[.slice a R.length c]] w fun e w' => e = .returned (.bool r) ∧ Below w.heap.size w w' := by
  have HR := Lib.hid hr
  have hl := h.len
  obtain ⟨w1, hw1⟩ : ∃ w1, w1 = (w.alloc (.cells #[.slice a R.length c] 30)).alloc (.cells #[.int .i64 (R.length : Int)] 3) := ⟨_, rfl⟩
  have HW := Lib.hid hw1
  have HB1 := Lib.hid (show Below w.heap.size w w1 by rw [hw1]; exact ((Below.refl w.heap.size w).alloc (Nat.le_refl _) _).alloc (by simp) _)
  have HBX := Lib.hid (show BlkV w1 w.heap.size 30 #[.slice a R.length c] by rw [hw1]; exact (BlkV.new _ _ _).alloc _)
  have HS := Lib.hid (h.below HB1.out)
  by_cases h13 : 1 ≤ R.length ∧ R.length ≤ 3
  case neg =>
    obtain rfl : false = r := by rw [← HR.out, vs_bad h13]
    have HL := Lib.hid (show decide ((1 : Int) ≤ (R.length : Int) ∧ (R.length : Int) ≤ 3) = false from decide_eq_false (by omega))
    clear hr h hw1 h13
    go_enter Try.func39, Try.ntmps39
    go_wp2_with (go_at_call 65; ((with_reducible refine (uwithin2 _ _ _ _ _ _ HL.out).mono ?_); rintro e w' ⟨rfl, rfl⟩))
    go_ret
    exact ⟨rfl, by rw [← HW.out]; exact HB1.out⟩
  case pos =>
  have HL := Lib.hid (show decide ((1 : Int) ≤ (R.length : Int) ∧ (R.length : Int) ≤ 3) = true from decide_eq_true (by omega))
  have HR2 := Lib.hid (show R.all vrB = r by rw [← HR.out, vs_ok h13])
  have q0 := HBX.out.one0
  clear hr h hw1 h13
  go_enter Try.func39, Try.ntmps39
  go_wp2_with (go_at_call 65; ((with_reducible refine (uwithin2 _ _ _ _ _ _ HL.out).mono ?_); rintro e w' ⟨rfl, rfl⟩); rw [← HW.out]; refine Hid.out ?_)
  refine Lib.hid ?_
  go_wp2
  go_loopw [14] (fun i wr => ∃ k : Nat, k ≤ R.length ∧ i = .int .i64 k ∧ (R.take k).all vrB = true ∧ Below w1.heap.size w1 wr) (fun i _ => R.length - (intOf i).toNat)
  case atStart => exact ⟨0, Nat.zero_le _, rfl, rfl, Below.refl _ _⟩
  case round =>
    obtain ⟨k, hk, rfl, hall, hb⟩ := hrel
    have HALL := Lib.hid hall
    have HB := Lib.hid hb
    clear hall hb q0
    by_cases hlt : k < R.length
    · obtain ⟨b, off, l, a', c', rfl, hbw, hx, c0, hsm⟩ := (HS.out.below HB.out).at_ hlt
      have HX := Lib.hid hx
      obtain ⟨ok, hok⟩ : ∃ ok, vrB l = ok := ⟨_, rfl⟩
      have HOK := Lib.hid hok
      have HC := Lib.hid (fun (W : World) (hW : Below wr.heap.size wr W) => rv_impl a' c' l ok W hok (hsm.below hW))
      have HA1 := Lib.hid ((Below.refl wr.heap.size wr).alloc (Nat.le_refl _) (.cells #[.slice a' l.length c'] 65))
      clear hx hok hsm hbw
      cases ok
      · obtain rfl : false = r := by rw [← HR.out, vs_no HX.out HOK.out]
        go_wp2_with (go_at_call 66; ((with_reducible refine (HC.out _ HA1.out).mono ?_); rintro e w2 ⟨rfl, hb2⟩; have HB2 := Lib.hid (HA1.out.trans (hb2.mono HA1.out.size)); clear hb2))
        go_ret
        exact ⟨rfl, HB1.out.trans ((HB.out.trans (HB2.out.mono HB.out.size)).mono HB1.out.size)⟩
      · go_wp2_with (go_at_call 66; ((with_reducible refine (HC.out _ HA1.out).mono ?_); rintro e w2 ⟨rfl, hb2⟩; have HB2 := Lib.hid (HA1.out.trans (hb2.mono HA1.out.size)); clear hb2))
        go_roundw
        case rel => exact ⟨k + 1, by omega, by go_num, all_take HALL.out HX.out HOK.out, HB.out.trans (HB2.out.mono HB.out.size)⟩
        case measure => simp [intOf]; omega
    · obtain rfl : k = R.length := by omega
      obtain rfl : true = r := by
        rw [← HR2.out]
        have h1 := HALL.out
        rw [List.take_length] at h1
        rw [h1]
      go_wp2
      go_ret
      exact ⟨rfl, HB1.out.trans (HB.out.mono HB1.out.size)⟩

end Go.Proofs.Ytookcggmapldeaa
