/-
  What PrefixLength answers, on both sides. By an AI agent.
-/
import Derived.Test.YtggohfinkpppkaaPlR
namespace Go.Proofs.Ytggohfinkpppkaa
open Go.RowKit
set_option linter.unusedVariables false

theorem good_zero (n t : Int) : goodR n 0 t = (okS n && okT t) := by unfold goodR; rw [show okS 0 = true from rfl]; simp

set_option maxRecDepth 100000 in
theorem pl_spec (n t r : Int) (w : World) (hr : plR n t = r) :
    Calls Try.prog 59 #[.int .i64 n, .int .i64 t] w fun e w' => e = .returned (.int .i64 r) ∧ Below w.heap.size w w' := by
  obtain ⟨g, hg⟩ : ∃ g, (okS n && okT t) = g := ⟨_, rfl⟩
  have HG := Lib.hid (show goodR n 0 t = g by rw [good_zero, hg])
  cases g
  · rw [pl_no hg] at hr
    subst hr
    clear hg
    go_enter Try.func59, Try.ntmps59
    go_wp2_with (go_at_call 102; (with_reducible refine (good_is _ _ _ _ _ HG.out).mono ?_); rintro e w' ⟨rfl, rfl⟩)
    go_ret
    exact ⟨rfl, Below.refl _ _⟩
  · by_cases h0 : n = 0
    · subst h0
      rw [pl_zero hg] at hr
      subst hr
      clear hg
      go_enter Try.func59, Try.ntmps59
      go_wp2_with (go_at_call 102; (with_reducible refine (good_is _ _ _ _ _ HG.out).mono ?_); rintro e w' ⟨rfl, rfl⟩)
      go_ret
      exact ⟨rfl, Below.refl _ _⟩
    · rw [pl_some hg h0] at hr
      obtain ⟨h1, h2, h3, h4⟩ := ok_two hg
      obtain ⟨q1, q2, _⟩ := lo_range hg
      obtain ⟨lo, hlo⟩ : ∃ lo, lbLo n t = lo := ⟨_, rfl⟩
      rw [hlo] at hr q1 q2
      subst hr
      have HL := Lib.hid (show (if okS n && okT t then lbLo n t else -1) = lo by rw [hg, if_pos rfl, hlo])
      obtain ⟨hv, hhv⟩ : ∃ v, (if okS n && okT t then lbHi n t else -1) = v := ⟨_, rfl⟩
      have HH := Lib.hid hhv
      clear hg hlo hhv
      go_enter Try.func59, Try.ntmps59
      go_wp2_with (first
        | (go_at_call 102; (with_reducible refine (good_is _ _ _ _ _ HG.out).mono ?_); rintro e w' ⟨rfl, rfl⟩)
        | (go_at_call 55; (with_reducible refine (lb_spec _ _ _ _ _ HL.out HH.out).mono ?_); rintro e w1 ⟨rfl, hb1⟩; have HB1 := Lib.hid hb1; clear hb1))
      go_ret
      exact ⟨rfl, HB1.out⟩

set_option maxRecDepth 100000 in
theorem pl_impl (n t r : Int) (w : World) (hr : plR n t = r) :
    Calls Try.prog 58 #[.int .i64 n, .int .i64 t] w fun e w' => e = .returned (.int .i64 r) ∧ Below w.heap.size w w' := by
  obtain ⟨g, hg⟩ : ∃ g, (okS n && okT t) = g := ⟨_, rfl⟩
  obtain ⟨hv, hhv⟩ : ∃ v, (if okS n && okT t then lbHi n t else -1) = v := ⟨_, rfl⟩
  have HH := Lib.hid hhv
  clear hhv
  cases g
  · rw [pl_no hg] at hr
    subst hr
    have HL := Lib.hid (show (if okS n && okT t then lbLo n t else -1) = -1 by rw [hg]; rfl)
    clear hg
    go_enter Try.func58, Try.ntmps58
    go_wp2_with (go_at_call 54; (with_reducible refine (lb_impl _ _ _ _ _ HL.out HH.out).mono ?_); rintro e w1 ⟨rfl, hb1⟩; have HB1 := Lib.hid hb1; clear hb1)
    go_ret
    exact ⟨rfl, HB1.out⟩
  · obtain ⟨h1, h2, h3, h4⟩ := ok_two hg
    obtain ⟨q1, q2, _⟩ := lo_range hg
    obtain ⟨lo, hlo⟩ : ∃ lo, lbLo n t = lo := ⟨_, rfl⟩
    have HL := Lib.hid (show (if okS n && okT t then lbLo n t else -1) = lo by rw [hg, if_pos rfl, hlo])
    by_cases h0 : n = 0
    · subst h0
      rw [pl_zero hg] at hr
      subst hr
      rw [hlo] at q1 q2
      clear hg hlo
      go_enter Try.func58, Try.ntmps58
      go_wp2_with (go_at_call 54; (with_reducible refine (lb_impl _ _ _ _ _ HL.out HH.out).mono ?_); rintro e w1 ⟨rfl, hb1⟩; have HB1 := Lib.hid hb1; clear hb1)
      go_ret
      exact ⟨rfl, HB1.out⟩
    · rw [pl_some hg h0, hlo] at hr
      subst hr
      rw [hlo] at q1 q2
      clear hg hlo
      go_enter Try.func58, Try.ntmps58
      go_wp2_with (go_at_call 54; (with_reducible refine (lb_impl _ _ _ _ _ HL.out HH.out).mono ?_); rintro e w1 ⟨rfl, hb1⟩; have HB1 := Lib.hid hb1; clear hb1)
      go_ret
      exact ⟨rfl, HB1.out⟩

end Go.Proofs.Ytggohfinkpppkaa
