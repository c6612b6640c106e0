/-
  Texts laid together: RuV, RuT. By an AI agent.
-/
import Derived.Test.YtpmfabpnjacegaaGreatDoorGQ6
import Derived.Test.YtpmfabpnjacegaaGreatDoorGQ1
import Derived.Deep.RegionWith
import Derived.Deep.RegionHeld3
/-
  What spec.IsValidRules answers. By an AI agent.
-/
namespace Go.Proofs.YtpmfabpnjacegaaGreatDoor
open Go.RowKit
set_option linter.unusedVariables false

set_option maxRecDepth 100000 in
set_option maxHeartbeats 6400000 in
theorem vs_spec (a : Option Addr) (c : Nat) (R : List (List TS)) (r : Bool) (w : World) (hr : vsB R = r) (h : SmRu w a R c) :
    Calls Tryz.prog 27 #[.agg #[.slice a R.length c]] w fun e w' => e = .returned (.bool r) ∧ Below w.heap.size w w' := by
  have HR := Lib.hid hr
  have hl := h.len
  obtain ⟨w1, hw1⟩ : ∃ w1, w.alloc (.cells #[.slice a R.length c] 26) = w1 := ⟨_, rfl⟩
  have HB1 := Lib.hid (show Below w.heap.size w w1 by rw [← hw1]; exact (Below.refl w.heap.size w).alloc (Nat.le_refl _) _)
  have HBX := Lib.hid (show BlkV w1 w.heap.size 26 #[.slice a R.length c] by rw [← hw1]; exact BlkV.new _ _ _)
  have HS := Lib.hid (h.below HB1.out)
  clear hr h
  go_enter Tryz.func27, Tryz.ntmps27
  go_wp2
  go_loopw [3] (fun i wr => ∃ k : Nat, k ≤ R.length ∧ i = .int .i64 k ∧ (R.take k).all vrB = true ∧ Below w1.heap.size w1 wr) (fun i _ => R.length - (intOf i).toNat)
  case atStart => exact ⟨0, Nat.zero_le _, rfl, rfl, Below.refl _ _⟩
  case round =>
    obtain ⟨k, hk, rfl, hall, hb⟩ := hrel
    have HALL := Lib.hid hall
    have q0 := (HBX.out.below hb).one0
    obtain ⟨wo, rfl⟩ : ∃ wo, wo = wr := ⟨_, rfl⟩
    have HBO := Lib.hid hb
    clear hall hb
    by_cases hlt : k < R.length
    · obtain ⟨b, off, l, a', c', rfl, hbw, hx, c0, hsm⟩ := (HS.out.below HBO.out).at_ hlt
      have HX := Lib.hid hx
      have HSM := Lib.hid hsm
      have hll := hsm.len
      clear hx hsm hbw
      go_wp2
      go_loopw [5] (fun i wr => ∃ j : Nat, j ≤ l.length ∧ i = .int .i64 j ∧ (l.take j).all vtB = true ∧ ascB (l.take j) = true ∧ Below wo.heap.size wo wr) (fun i _ => l.length - (intOf i).toNat)
      case atStart => exact ⟨0, Nat.zero_le _, rfl, rfl, rfl, Below.refl _ _⟩
      case round =>
        obtain ⟨j, hj, rfl, hall, hasc, hb⟩ := hrel
        have HTL := Lib.hid hall
        have HASC := Lib.hid hasc
        have HB := Lib.hid hb
        clear hall hasc hb
        by_cases hjt : j < l.length
        · obtain ⟨b1, o1, f, t, u, rfl, hbw, hy, c0, c1, c2⟩ := (HSM.out.inTs.below HB.out).at_ hjt
          have HY := Lib.hid hy
          obtain ⟨fb, hfb⟩ : ∃ fb, decide (0 ≤ f ∧ f ≤ 5) = fb := ⟨_, rfl⟩
          have HFB := Lib.hid hfb
          have HC1 := Lib.hid (fun n : Nat => cl1In f 0 5 fb (wr.drewN n) hfb)
          obtain ⟨tb, htb⟩ : ∃ tb, decide (1 ≤ t ∧ t ≤ 1000) = tb := ⟨_, rfl⟩
          have HTB := Lib.hid htb
          have HC2 := Lib.hid (fun n : Nat => cl1In t 1 1000 tb (wr.drewN n) htb)
          clear hfb htb hy hbw
          cases fb
          · obtain rfl : false = r := by rw [← HR.out, vs_no HX.out (vr_no HY.out (vt_feat (of_decide_eq_false HFB.out)))]
            go_wp2
            go_quiet ((first | (go_at_call 45; with_reducible exact Calls.quiet_of_same (HC1.out _)) | (go_at_call 45; with_reducible exact Calls.quiet_of_same (HC2.out _))))
            go_wp2
            go_ret
            exact ⟨rfl, HB1.out.trans (((HBO.out.trans (HB.out.mono HBO.out.size)).trans (quiet_f _ _ _)).mono HB1.out.size)⟩
          cases tb
          · obtain rfl : false = r := by rw [← HR.out, vs_no HX.out (vr_no HY.out (vt_thr (of_decide_eq_false HTB.out)))]
            go_wp2
            go_quiet ((first | (go_at_call 45; with_reducible exact Calls.quiet_of_same (HC1.out _)) | (go_at_call 45; with_reducible exact Calls.quiet_of_same (HC2.out _))))
            go_wp2
            go_ret
            exact ⟨rfl, HB1.out.trans (((HBO.out.trans (HB.out.mono HBO.out.size)).trans (quiet_f _ _ _)).mono HB1.out.size)⟩
          have HVT := Lib.hid (show vtB ((f, t), u) = true from vt_yes (of_decide_eq_true HFB.out) (of_decide_eq_true HTB.out))
          by_cases h0 : j = 0
          · subst h0
            rw [Nat.zero_mul, Nat.add_zero] at c0 c1 c2
            have d0 : decide ((0 : Int) < 0) = false := rfl
            go_wp2
            go_quiet ((first | (go_at_call 45; with_reducible exact Calls.quiet_of_same (HC1.out _)) | (go_at_call 45; with_reducible exact Calls.quiet_of_same (HC2.out _))))
            go_wp2
            go_roundw
            case rel => exact ⟨0 + 1, by omega, by go_num, all_take HTL.out HY.out HVT.out, asc_take1 l, HB.out.trans (quiet_f _ _ _)⟩
            case measure => simp [intOf]; omega
          · obtain ⟨i, rfl⟩ : ∃ i, j = i + 1 := ⟨j - 1, by omega⟩
            obtain ⟨b', off', f', t', u', hb', hbw', hz, e0, e1, e2⟩ := (HSM.out.inTs.below HB.out).at_ (show i < l.length by omega)
            injection hb' with hb'
            injection hb' with hbb hoo
            subst hbb hoo
            have HZ := Lib.hid hz
            have d0 : decide ((0 : Int) < (i : Int) + 1) = true := decide_eq_true (by omega)
            obtain ⟨ab, hab⟩ : ∃ ab, decide (f ≤ f') = ab := ⟨_, rfl⟩
            have HAB := Lib.hid hab
            clear hz e1 e2 hbw' h0
            cases ab
            · go_wp2
              go_quiet ((first | (go_at_call 45; with_reducible exact Calls.quiet_of_same (HC1.out _)) | (go_at_call 45; with_reducible exact Calls.quiet_of_same (HC2.out _))))
              go_wp2
              go_roundw
              case rel =>
                refine ⟨i + 1 + 1, by omega, by go_num, all_take HTL.out HY.out HVT.out, ?_, HB.out.trans (quiet_f _ _ _)⟩
                rw [asc_step HASC.out HZ.out HY.out]
                have := of_decide_eq_false HAB.out
                exact decide_eq_true (by show f' < f; omega)
              case measure => simp [intOf]; omega
            · obtain rfl : false = r := by
                rw [← HR.out, vs_no HX.out (vr_nasc (k := i + 1 + 1) (by rw [asc_step HASC.out HZ.out HY.out]; have := of_decide_eq_true HAB.out; exact decide_eq_false (by show ¬ f' < f; omega)))]
              go_wp2
              go_quiet ((first | (go_at_call 45; with_reducible exact Calls.quiet_of_same (HC1.out _)) | (go_at_call 45; with_reducible exact Calls.quiet_of_same (HC2.out _))))
              go_wp2
              go_ret
              exact ⟨rfl, HB1.out.trans (((HBO.out.trans (HB.out.mono HBO.out.size)).trans (quiet_f _ _ _)).mono HB1.out.size)⟩
        · obtain rfl : j = l.length := by omega
          have HTA := Lib.hid (show l.all vtB = true by have := HTL.out; rwa [List.take_length] at this)
          have HAA := Lib.hid (show ascB l = true by have := HASC.out; rwa [List.take_length] at this)
          obtain ⟨nb, hnb⟩ : ∃ nb, decide ((1 : Int) ≤ (l.length : Int) ∧ (l.length : Int) ≤ 3) = nb := ⟨_, rfl⟩
          have HNB := Lib.hid hnb
          clear hnb
          cases nb
          · obtain rfl : false = r := by rw [← HR.out, vs_no HX.out (vr_bad (by have := of_decide_eq_false HNB.out; omega))]
            go_wp2_with (go_at_call 45; ((with_reducible refine (cl1In _ _ _ _ _ HNB.out).mono ?_); rintro e w2 ⟨rfl, rfl⟩))
            go_ret
            exact ⟨rfl, HB1.out.trans ((HBO.out.trans (HB.out.mono HBO.out.size)).mono HB1.out.size)⟩
          · have HVR := Lib.hid (show vrB l = true by rw [vr_ok (by have := of_decide_eq_true HNB.out; omega), HTA.out, HAA.out]; rfl)
            go_wp2_with (go_at_call 45; ((with_reducible refine (cl1In _ _ _ _ _ HNB.out).mono ?_); rintro e w2 ⟨rfl, rfl⟩))
            go_roundw
            case rel => exact ⟨k + 1, by omega, by go_num, all_take HALL.out HX.out HVR.out, HBO.out.trans (HB.out.mono HBO.out.size)⟩
            case measure => simp [intOf]; omega
    · obtain rfl : k = R.length := by omega
      have HNB := Lib.hid (show decide ((1 : Int) ≤ (R.length : Int) ∧ (R.length : Int) ≤ 3) = r by
        rw [← HR.out]
        have h1 := HALL.out
        rw [List.take_length] at h1
        unfold vsB
        rw [h1, Bool.and_true]
        exact decide_eq_decide.2 (by omega))
      go_wp2_with (go_at_call 45; ((with_reducible refine (cl1In _ _ _ _ _ HNB.out).mono ?_); rintro e w2 ⟨rfl, rfl⟩))
      go_ret
      exact ⟨rfl, HB1.out.trans (HBO.out.mono HB1.out.size)⟩

end Go.Proofs.YtpmfabpnjacegaaGreatDoor

/-
  Rule sets: what the laws' own szRuleSet, toRuleSet and eqRuleSet (and those of rules and tests) do. By an AI agent.
-/
namespace Go.Proofs.YtpmfabpnjacegaaGreatDoor
open Go.RowKit
set_option linter.unusedVariables false

theorem OwnTs.setCell {w : World} {lo : Nat} {v : Value} {l : List TS} (h : OwnTs w lo v l) (p : Addr) (u : Value) (hp : p.block < lo) : OwnTs (w.setCell p u) lo v l := row_setCell h p u hp
theorem rint {k : IntKind} {a b : Int} (h : a = b) : Ending.returned (.int k a) = .returned (.int k b) := by rw [h]
theorem grown_3 {a b d : World} {r : Option Nat} (h1 : a.grownBy b r) (h2 : b.grownBy d r) : a.grownBy d r :=
  ⟨h2.os.trans h1.os, h2.tape.trans h1.tape, h2.output.trans h1.output, Nat.le_trans h1.size h2.size, fun k hk hne => (h2.block k (Nat.lt_of_lt_of_le hk h1.size) hne).trans (h1.block k hk hne)⟩
theorem info_get {i : Option TypeInfo} {z : Value} {n b : Nat} (h : i.map (fun i => (i.zero, i.size, i.bytes)) = some (some z, n, b)) : ∃ i0, i = some i0 ∧ i0.zero = some z ∧ i0.size = n ∧ i0.bytes = b := by
  cases i with
  | none => cases h
  | some i0 => simp at h; exact ⟨i0, rfl, h.1, h.2.1, h.2.2⟩

theorem OwnRu.setCell {w : World} {lo : Nat} {v : Value} {q : List XU} (h : OwnRu w lo v q) (p : Addr) (u : Value) (hp : p.block < lo) : OwnRu (w.setCell p u) lo v q :=
  ⟨row_setCell h.out p u hp, fun r hr => row_setCell (h.row r hr) p u hp, h.apart, h.dis⟩
theorem valsU_snoc (q : List XU) (x : XU) : valsU (q ++ [x]) = valsU q ++ [x.2] := by simp [valsU]

end Go.Proofs.YtpmfabpnjacegaaGreatDoor

