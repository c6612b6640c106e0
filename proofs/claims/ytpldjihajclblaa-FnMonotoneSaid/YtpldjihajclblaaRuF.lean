/-
  What spec's IsValidRules, TestHolds, RuleHolds, FirstRule and RulesHold answer. By an AI agent.
-/
import Derived.Test.YtpldjihajclblaaRuC
import Derived.Test.YtpldjihajclblaaRuV
namespace Go.Proofs.Ytpldjihajclblaa
open Go.RowKit
set_option linter.unusedVariables false

theorem fv_specF (a : Option Addr) (cap : Nat) (l : List Int) (r : Bool) (w : World) (hl : l.length ≤ 4000000) (hin : InI w a l) (hr : fvB l = r) :
    Calls Try.prog 30 #[.slice a l.length cap] w fun e w' => e = .returned (.bool r) ∧ w' = w :=
  (fv_spec a cap l r w hl hin hr).mono fun e w' ⟨he, hw⟩ => ⟨he, hw.symm⟩
theorem cond_nofeat {f t : Int} {u : Bool} {l : List Int} (h : ¬ (0 ≤ f ∧ f ≤ 5)) : condT ((f, t), u) l = false := by unfold condT featB; rw [decide_eq_false h]; rfl

set_option maxRecDepth 100000 in
set_option maxHeartbeats 2000000 in
theorem th_spec (f t : Int) (u : Bool) (a : Option Addr) (c : Nat) (l : List Int) (r : Bool) (w : World) (hl : l.length ≤ 4000000) (hin : InI w a l) (hr : tshB ((f, t), u) l = r) :
    Calls Try.prog 58 #[.agg #[.int .i64 f, .int .i64 t, .bool u], .slice a l.length c] w fun e w' => e = .returned (.bool r) ∧ Below w.heap.size w w' := by
  obtain ⟨b, hb⟩ : ∃ b, fvB l = b := ⟨_, rfl⟩
  have HF := Lib.hid hb
  have HR := Lib.hid (show (b && condT ((f, t), u) l) = r by rw [← hr, ← hb]; rfl)
  obtain ⟨w1, hw1⟩ : ∃ w1, w.alloc (.cells #[.int .i64 f, .int .i64 t, .bool u] 53) = w1 := ⟨_, rfl⟩
  have HB1 := Lib.hid (show Below w.heap.size w w1 by rw [← hw1]; exact (Below.refl w.heap.size w).alloc (Nat.le_refl _) _)
  have HT4 := Lib.hid (show BlkV w1 w.heap.size 53 #[.int .i64 f, .int .i64 t, .bool u] by rw [← hw1]; exact BlkV.new _ _ _)
  have x0 := HT4.out.three0
  have x1 := HT4.out.three1
  have x2 := HT4.out.three2
  have HIN := Lib.hid (hin.below HB1.out)
  have HC1 := Lib.hid (fun n : Nat => fv_specF a c l b (w1.drewN n) hl (HIN.out.below (quiet_f _ _ n)) hb)
  clear hb hr hin
  cases b
  · obtain rfl : false = r := HR.out
    go_enter Try.func58, Try.ntmps58
    go_wp2
    go_quiet ((go_at_call 30; with_reducible exact Calls.quiet_of_same (HC1.out _)))
    go_wp2
    go_ret
    exact ⟨rfl, HB1.out.trans (quiet_f _ _ _)⟩
  · obtain ⟨fb, hfb⟩ : ∃ fb, decide (0 ≤ f ∧ f ≤ 5) = fb := ⟨_, rfl⟩
    have HFB := Lib.hid hfb
    have HC2 := Lib.hid (fun n : Nat => cl1In f 0 5 fb (w1.drewN n) hfb)
    clear hfb
    cases fb
    · obtain rfl : false = r := by rw [← HR.out, cond_nofeat (of_decide_eq_false HFB.out)]; rfl
      go_enter Try.func58, Try.ntmps58
      go_wp2
      go_quiet ((first | (go_at_call 30; with_reducible exact Calls.quiet_of_same (HC1.out _)) | (go_at_call 25; with_reducible exact Calls.quiet_of_same (HC2.out _))))
      go_wp2
      go_ret
      exact ⟨rfl, HB1.out.trans (quiet_f _ _ _)⟩
    · have hf5 := of_decide_eq_true HFB.out
      obtain ⟨j, rfl⟩ : ∃ j : Nat, f = j := ⟨f.toNat, by omega⟩
      have hj5 : j ≤ 5 := by omega
      have h6 := (fv_of HF.out).1
      obtain ⟨b, off, rfl, hb, hc⟩ := HIN.out (by omega)
      have hlt : j < l.length := by omega
      obtain ⟨x, hx⟩ : ∃ x, l[j]? = some x := ⟨_, List.getElem?_eq_getElem hlt⟩
      have hcell : w1.cell? ⟨b, off + j, none⟩ = some (.int .i64 x) := hc j x hx
      obtain ⟨d, hd⟩ : ∃ d, decide (t ≤ x) = d := ⟨_, rfl⟩
      have HD := Lib.hid (show (d != u) = r by
        rw [← HR.out, Bool.true_and]
        cases u
        · rw [cond_ge hj5, getD_is hx, hd]; cases d <;> rfl
        · rw [cond_lt hj5, getD_is hx]
          have : decide (x < t) = !d := by rw [← hd]; by_cases e : t ≤ x <;> simp [e] <;> omega
          rw [this]; cases d <;> rfl)
      clear hc hx hb h6 hf5 hj5
      go_enter Try.func58, Try.ntmps58
      go_wp2
      go_quiet ((first | (go_at_call 30; with_reducible exact Calls.quiet_of_same (HC1.out _)) | (go_at_call 25; with_reducible exact Calls.quiet_of_same (HC2.out _))))
      go_wp2
      go_ret
      exact ⟨iret_bool HD.out, HB1.out.trans (quiet_f _ _ _)⟩

set_option maxRecDepth 100000 in
set_option maxHeartbeats 1000000 in
theorem rh_spec (ra : Option Addr) (rc : Nat) (q : List TS) (a : Option Addr) (c : Nat) (l : List Int) (r : Bool) (w : World) (h : SmTs w ra q rc) (hl : l.length ≤ 4000000) (hin : InI w a l) (hr : ruB q l = r) :
    Calls Try.prog 48 #[.agg #[.slice ra q.length rc], .slice a l.length c] w fun e w' => e = .returned (.bool r) ∧ Below w.heap.size w w' := by
  obtain ⟨b, hb⟩ : ∃ b, fvB l = b := ⟨_, rfl⟩
  have HF := Lib.hid hb
  have HR := Lib.hid (show (b && q.all fun t => condT t l) = r by rw [← hr, ← hb]; rfl)
  obtain ⟨w1, hw1⟩ : ∃ w1, w.alloc (.cells #[.slice ra q.length rc] 50) = w1 := ⟨_, rfl⟩
  have HB1 := Lib.hid (show Below w.heap.size w w1 by rw [← hw1]; exact (Below.refl w.heap.size w).alloc (Nat.le_refl _) _)
  have HT4 := Lib.hid (show BlkV w1 w.heap.size 50 #[.slice ra q.length rc] by rw [← hw1]; exact BlkV.new _ _ _)
  have HIN := Lib.hid (hin.below HB1.out)
  have HSM := Lib.hid (h.below HB1.out)
  have hql := h.len
  clear hb hr hin h
  go_enter Try.func48, Try.ntmps48
  go_wp2
  go_loopw [5] (fun i wr => ∃ k : Nat, k ≤ q.length ∧ i = .int .i64 k ∧ ((q.take k).all fun t => condT t l) = true ∧ Below w1.heap.size w1 wr) (fun i _ => q.length - (intOf i).toNat)
  case atStart => exact ⟨0, Nat.zero_le _, rfl, rfl, Below.refl _ _⟩
  case round =>
    obtain ⟨k, hk, rfl, hall, hb⟩ := hrel
    have HALL := Lib.hid hall
    have HB := Lib.hid hb
    have q0 := (HT4.out.below hb).one0
    clear hall hb
    by_cases hlt : k < q.length
    · obtain ⟨b1, o1, f, t, u, rfl, hbw, hx, c0, c1, c2⟩ := (HSM.out.inTs.below HB.out).at_ hlt
      have HX := Lib.hid hx
      obtain ⟨d, hd⟩ : ∃ d, condT ((f, t), u) l = d := ⟨_, rfl⟩
      have HD := Lib.hid hd
      have HC := Lib.hid (th_spec f t u a c l (b && d) wr hl (HIN.out.below HB.out) (by unfold tshB; rw [HF.out, hd]))
      clear hx hd hbw
      cases b
      · obtain rfl : false = r := HR.out
        go_wp2_with (go_at_call 58; ((with_reducible refine HC.out.mono ?_); rintro e w2 ⟨rfl, hb2⟩; have HB2 := Lib.hid hb2; clear hb2))
        go_ret
        exact ⟨rfl, HB1.out.trans ((HB.out.trans (HB2.out.mono HB.out.size)).mono HB1.out.size)⟩
      · cases d
        · obtain rfl : false = r := by rw [← HR.out, all_no (p := fun t => condT t l) HX.out HD.out]; rfl
          go_wp2_with (go_at_call 58; ((with_reducible refine HC.out.mono ?_); rintro e w2 ⟨rfl, hb2⟩; have HB2 := Lib.hid hb2; clear hb2))
          go_ret
          exact ⟨rfl, HB1.out.trans ((HB.out.trans (HB2.out.mono HB.out.size)).mono HB1.out.size)⟩
        · go_wp2_with (go_at_call 58; ((with_reducible refine HC.out.mono ?_); rintro e w2 ⟨rfl, hb2⟩; have HB2 := Lib.hid hb2; clear hb2))
          go_roundw
          case rel => exact ⟨k + 1, by omega, by go_num, all_take (p := fun t => condT t l) HALL.out HX.out HD.out, HB.out.trans (HB2.out.mono HB.out.size)⟩
          case measure => simp [intOf]; omega
    · obtain rfl : k = q.length := by omega
      have HI2 := Lib.hid (HIN.out.below HB.out)
      obtain rfl : b = r := by
        rw [← HR.out]
        have h := HALL.out
        rw [List.take_length] at h
        rw [h, Bool.and_true]
      go_wp2_with (go_at_call 30; ((with_reducible refine (fv_specF a c l b _ hl HI2.out HF.out).mono ?_); rintro e w2 ⟨rfl, rfl⟩))
      go_ret
      exact ⟨rfl, HB1.out.trans (HB.out.mono HB1.out.size)⟩

end Go.Proofs.Ytpldjihajclblaa
