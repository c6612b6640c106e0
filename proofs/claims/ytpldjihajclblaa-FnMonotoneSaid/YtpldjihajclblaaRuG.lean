/-
  What spec's FirstRule and RulesHold answer. By an AI agent.
-/
import Derived.Test.YtpldjihajclblaaRuE
import Derived.Test.YtpldjihajclblaaRuF
namespace Go.Proofs.Ytpldjihajclblaa
open Go.RowKit
set_option linter.unusedVariables false

set_option maxRecDepth 100000 in
set_option maxHeartbeats 2000000 in
theorem fr_spec (ra : Option Addr) (rc : Nat) (R : List (List TS)) (a : Option Addr) (c : Nat) (l : List Int) (z : Int) (w : World) (h : SmRu w ra R rc) (hl : l.length ≤ 4000000) (hin : InI w a l) (hz : frR R l = z) :
    Calls Try.prog 31 #[.agg #[.slice ra R.length rc], .slice a l.length c] w fun e w' => e = .returned (.int .i64 z) ∧ Below w.heap.size w w' := by
  obtain ⟨b1, hb1⟩ : ∃ b, vsB R = b := ⟨_, rfl⟩
  have HV := Lib.hid hb1
  have HZ := Lib.hid hz
  obtain ⟨w1, hw1⟩ : ∃ w1, w.alloc (.cells #[.slice ra R.length rc] 26) = w1 := ⟨_, rfl⟩
  have HB1 := Lib.hid (show Below w.heap.size w w1 by rw [← hw1]; exact (Below.refl w.heap.size w).alloc (Nat.le_refl _) _)
  have HT4 := Lib.hid (show BlkV w1 w.heap.size 26 #[.slice ra R.length rc] by rw [← hw1]; exact BlkV.new _ _ _)
  have HIN := Lib.hid (hin.below HB1.out)
  have HSM := Lib.hid (h.below HB1.out)
  have hRl := h.len
  have HVC := Lib.hid (fun (W : World) (hW : Below w1.heap.size w1 W) => vs_spec ra rc R b1 W hb1 (HSM.out.below hW))
  clear hb1 hz hin h
  go_enter Try.func31, Try.ntmps31
  go_wp2
  go_loopw [5] (fun i wr => ∃ k : Nat, k ≤ R.length ∧ i = .int .i64 k ∧ (vsB R = true → fvB l = true → k ≤ firstU R l) ∧ Below w1.heap.size w1 wr) (fun i _ => R.length - (intOf i).toNat)
  case atStart => exact ⟨0, Nat.zero_le _, rfl, fun _ _ => Nat.zero_le _, Below.refl _ _⟩
  case round =>
    obtain ⟨k, hk, rfl, hfi, hb⟩ := hrel
    have HFI := Lib.hid hfi
    have HB := Lib.hid hb
    have q0 := (HT4.out.below hb).one0
    clear hfi hb
    by_cases hlt : k < R.length
    · cases b1
      · obtain rfl : -1 = z := by rw [← HZ.out, fr_bad1 HV.out]
        go_wp2_with (go_at_call 10; ((with_reducible refine (HVC.out _ HB.out).mono ?_); rintro e w2 ⟨rfl, hb2⟩; have HB2 := Lib.hid (HB.out.trans (hb2.mono HB.out.size)); clear hb2))
        go_ret
        exact ⟨rfl, HB1.out.trans (HB2.out.mono HB1.out.size)⟩
      · obtain ⟨b, off, q, a', c', rfl, hbw, hx, c0, hsm⟩ := (HSM.out.below HB.out).at_ hlt
        have HX := Lib.hid hx
        have HBW := Lib.hid hbw
        have HC0 := Lib.hid c0
        obtain ⟨d, hd⟩ : ∃ d, ruB q l = d := ⟨_, rfl⟩
        have HD := Lib.hid hd
        have HC := Lib.hid (fun (W : World) (hW : Below wr.heap.size wr W) => rh_spec a' c' q a c l d W (hsm.below hW) hl ((HIN.out.below HB.out).below hW) hd)
        clear hx hsm hbw hd c0
        cases d
        · go_wp2_with (first
            | (go_at_call 10; ((with_reducible refine (HVC.out _ HB.out).mono ?_); rintro e w2 ⟨rfl, hb2⟩; have HBB := Lib.hid hb2; have z0 := (HT4.out.below (HB.out.trans (hb2.mono HB.out.size))).one0; have y0 := (hb2.cell (p := ⟨b, off + k, none⟩) HBW.out).trans HC0.out; clear hb2))
            | (go_at_call 48; ((with_reducible refine (HC.out _ HBB.out).mono ?_); rintro e w3 ⟨rfl, hb3⟩; have HB3 := Lib.hid (HB.out.trans ((HBB.out.trans (hb3.mono HBB.out.size)).mono HB.out.size)); clear hb3)))
          go_roundw
          case rel =>
            refine ⟨k + 1, by omega, by go_num, fun hv hf => first_next (HFI.out hv hf) HX.out ?_, HB3.out⟩
            have := HD.out
            unfold ruB at this
            rwa [hf, Bool.true_and] at this
          case measure => simp [intOf]; omega
        · obtain ⟨hf, ha⟩ : fvB l = true ∧ (q.all fun t => condT t l) = true := by have := HD.out; unfold ruB at this; rwa [Bool.and_eq_true] at this
          obtain rfl : (k : Int) = z := by rw [← HZ.out, fr_ok HV.out hf, first_at (HFI.out HV.out hf) HX.out ha]
          clear hf ha
          go_wp2_with (first
            | (go_at_call 10; ((with_reducible refine (HVC.out _ HB.out).mono ?_); rintro e w2 ⟨rfl, hb2⟩; have HBB := Lib.hid hb2; have z0 := (HT4.out.below (HB.out.trans (hb2.mono HB.out.size))).one0; have y0 := (hb2.cell (p := ⟨b, off + k, none⟩) HBW.out).trans HC0.out; clear hb2))
            | (go_at_call 48; ((with_reducible refine (HC.out _ HBB.out).mono ?_); rintro e w3 ⟨rfl, hb3⟩; have HB3 := Lib.hid (HB.out.trans ((HBB.out.trans (hb3.mono HBB.out.size)).mono HB.out.size)); clear hb3)))
          go_ret
          exact ⟨rfl, HB1.out.trans (HB3.out.mono HB1.out.size)⟩
    · obtain rfl : k = R.length := by omega
      obtain rfl : -1 = z := by
        rw [← HZ.out]
        cases hv : vsB R with
        | false => rw [fr_bad1 hv]
        | true =>
          cases hf : fvB l with
          | false => rw [fr_bad2 hf]
          | true => rw [fr_ok hv hf, first_end (HFI.out hv hf)]
      go_wp2
      go_ret
      exact ⟨rfl, HB1.out.trans (HB.out.mono HB1.out.size)⟩

set_option maxRecDepth 100000 in
theorem rhs_spec (ra : Option Addr) (rc : Nat) (R : List (List TS)) (a : Option Addr) (c : Nat) (l : List Int) (r : Bool) (w : World) (h : SmRu w ra R rc) (hl : l.length ≤ 4000000) (hin : InI w a l) (hr : rhB R l = r) :
    Calls Try.prog 15 #[.agg #[.slice ra R.length rc], .slice a l.length c] w fun e w' => e = .returned (.bool r) ∧ Below w.heap.size w w' := by
  obtain ⟨z, hz⟩ : ∃ z, frR R l = z := ⟨_, rfl⟩
  have hrange := fr_range (l := l) h.len
  rw [hz] at hrange
  have HC := Lib.hid (fun (W : World) (hW : Below w.heap.size w W) => fr_spec ra rc R a c l z W (h.below hW) hl (hin.below hW) hz)
  have HA1 := Lib.hid ((Below.refl w.heap.size w).alloc (Nat.le_refl _) (.cells #[.slice ra R.length rc] 26))
  have hd : decide (0 ≤ z) = r := by rw [← hr, rhB_of hz]
  clear hin h hz hr hrange
  go_enter Try.func15, Try.ntmps15
  go_wp2_with (first
    | (go_at_call 31; ((with_reducible refine (HC.out _ HA1.out).mono ?_); rintro e w2 ⟨rfl, hb2⟩; have HB2 := Lib.hid (HA1.out.trans (hb2.mono HA1.out.size)); clear hb2)))
  all_goals go_ret
  all_goals exact ⟨by first | rfl | (simp [hd]), HB2.out⟩

end Go.Proofs.Ytpldjihajclblaa
