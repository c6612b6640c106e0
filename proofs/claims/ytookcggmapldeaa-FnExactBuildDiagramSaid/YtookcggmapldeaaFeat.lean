/-
  What IsFeatureVector and DominatesFeatures answer, on both sides, for lists of at most 4,000,000 integers. By an AI agent.
-/
import Derived.Test.YtookcggmapldeaaSpecIn
import Derived.Test.YtookcggmapldeaaInts
import Derived.Test.YtookcggmapldeaaLIn
namespace Go.Proofs.Ytookcggmapldeaa
open Go.RowKit
set_option linter.unusedVariables false

/-- a feature vector -/
def fvB (l : List Int) : Bool := decide (l.length = 6) && withinB 0 1000 l
theorem fv_bad {l : List Int} (h : withinB 0 1000 l = false) : fvB l = false := by unfold fvB; rw [h, Bool.and_false]
theorem fv_len {l : List Int} (h : l.length ≠ 6) : fvB l = false := by unfold fvB; rw [decide_eq_false h, Bool.false_and]
theorem fv_ok {l : List Int} (h : l.length = 6) (h2 : withinB 0 1000 l = true) : fvB l = true := by unfold fvB; rw [decide_eq_true h, h2]; rfl
theorem fv_of {l : List Int} (h : fvB l = true) : l.length = 6 ∧ withinB 0 1000 l = true := by
  unfold fvB at h
  simpa using h

set_option maxRecDepth 100000 in
theorem fv_spec (a : Option Addr) (cap : Nat) (l : List Int) (r : Bool) (w : World) (hl : l.length ≤ 4000000) (hin : InI w a l) (hr : fvB l = r) :
    Calls Try.prog 59 #[.slice a l.length cap] w fun e w' => e = .returned (.bool r) ∧ w = w' := by
  have HR := Lib.hid hr
  have HIN := Lib.hid hin
  clear hr hin
  go_enter Try.func59, Try.ntmps59
  go_wp2
  go_loop [3] (fun i => ∃ k : Nat, k ≤ l.length ∧ i = .int .i64 k ∧ withinB 0 1000 (l.take k) = true) (fun i => l.length - (intOf i).toNat)
  case atStart => exact ⟨0, Nat.zero_le _, rfl, within_zero _ _ _⟩
  case round =>
    obtain ⟨k, hk, rfl, hw⟩ := hrel
    have HW := Lib.hid hw
    clear hw
    by_cases hlt : k < l.length
    · obtain ⟨b, off, rfl, hb, hc⟩ := HIN.out (by omega)
      obtain ⟨x, hx⟩ : ∃ x, l[k]? = some x := ⟨_, List.getElem?_eq_getElem hlt⟩
      have hcell : w.cell? ⟨b, off + k, none⟩ = some (.int .i64 x) := hc k x hx
      have HX := Lib.hid hx
      clear hc hx
      obtain ⟨bx, hbx⟩ : ∃ b, decide (0 ≤ x ∧ x ≤ 1000) = b := ⟨_, rfl⟩
      have HBX := Lib.hid hbx
      cases bx
      · have HB := Lib.hid (of_decide_eq_false hbx)
        clear hbx
        go_wp2_with (go_at_call 54; ((with_reducible refine (cl1In _ _ _ _ _ HBX.out).mono ?_); rintro e w' ⟨rfl, rfl⟩))
        go_ret
        exact ⟨iret_bool (by rw [← HR.out, fv_bad (within_no (List.mem_of_getElem? HX.out) HB.out)]), rfl⟩
      · have HB := Lib.hid (of_decide_eq_true hbx)
        clear hbx
        go_wp2_with (go_at_call 54; ((with_reducible refine (cl1In _ _ _ _ _ HBX.out).mono ?_); rintro e w' ⟨rfl, rfl⟩))
        go_round
        case rel => exact ⟨k + 1, by omega, by go_num, within_yes HW.out HX.out HB.out.1 HB.out.2⟩
        case measure => simp [intOf]; omega
    · obtain rfl : k = l.length := by omega
      have HW2 := Lib.hid (show withinB 0 1000 l = true by have := HW.out; rwa [List.take_length] at this)
      by_cases h6 : l.length = 6
      · obtain rfl : r = true := by rw [← HR.out, fv_ok h6 HW2.out]
        have h6' : (l.length : Int) = 6 := by omega
        go_wp2
        go_ret
        exact ⟨by first | rfl | (simp [h6]), rfl⟩
      · obtain rfl : r = false := by rw [← HR.out, fv_len h6]
        have h6' : ((l.length : Int) == 6) = false := by simp; omega
        go_wp2
        go_ret
        exact ⟨rfl, rfl⟩

set_option maxRecDepth 100000 in
theorem fv_impl (a : Option Addr) (cap : Nat) (l : List Int) (r : Bool) (w : World) (hl : l.length ≤ 4000000) (hin : InI w a l) (hr : fvB l = r) :
    Calls Try.prog 81 #[.slice a l.length cap] w fun e w' => e = .returned (.bool r) ∧ w = w' := by
  have HR := Lib.hid hr
  have HIN := Lib.hid hin
  clear hr hin
  by_cases h6 : l.length = 6
  · have HRW := Lib.hid (show withinB 0 1000 l = r by rw [← HR.out]; unfold fvB; rw [decide_eq_true h6, Bool.true_and])
    have h6' : ((l.length : Int) == 6) = true := by simp; omega
    have H6 := Lib.hid h6
    clear h6
    go_enter Try.func81, Try.ntmps81
    go_wp2_with (go_at_call 65; ((with_reducible refine (within_is 0 1000 a cap l r _ hl HIN.out HRW.out).mono ?_); rintro e w' ⟨rfl, rfl⟩))
    go_ret
    exact ⟨rfl, rfl⟩
  · obtain rfl : r = false := by rw [← HR.out, fv_len h6]
    have h6' : ((l.length : Int) == 6) = false := by simp; omega
    go_enter Try.func81, Try.ntmps81
    go_wp2
    go_ret
    exact ⟨rfl, rfl⟩

/-- the first k features of l are at least those of m -/
def leT (l m : List Int) (k : Nat) : Bool := (List.range k).all fun i => decide (m.getD i 0 ≤ l.getD i 0)
theorem leT_zero (l m : List Int) : leT l m 0 = true := by simp [leT]
theorem leT_succ {l m : List Int} {k : Nat} (h : leT l m k = true) (hk : m.getD k 0 ≤ l.getD k 0) : leT l m (k + 1) = true := by
  unfold leT at h ⊢
  rw [List.range_succ, List.all_append, h]
  simpa using hk
theorem leT_no {l m : List Int} {k n : Nat} (hn : k < n) (hk : l.getD k 0 < m.getD k 0) : leT l m n = false := by
  rw [Bool.eq_false_iff]
  intro e
  have h1 := List.all_eq_true.1 e k (List.mem_range.2 hn)
  have h2 := of_decide_eq_true h1
  omega

/-- the answer -/
def domB (l m : List Int) : Bool := fvB l && fvB m && leT l m 6
theorem dom_bad1 {l m : List Int} (h : fvB l = false) : domB l m = false := by unfold domB; rw [h]; rfl
theorem dom_bad2 {l m : List Int} (h : fvB m = false) : domB l m = false := by unfold domB; rw [h]; cases fvB l <;> rfl
theorem dom_is {l m : List Int} (h1 : fvB l = true) (h2 : fvB m = true) : domB l m = leT l m 6 := by unfold domB; rw [h1, h2]; rfl
theorem dom_less {l m : List Int} {k : Nat} (h1 : k < l.length) (h2 : k < m.length) (hk : l.getD k 0 < m.getD k 0) : domB l m = false := by
  cases e1 : fvB l with
  | false => exact dom_bad1 e1
  | true =>
    cases e2 : fvB m with
    | false => exact dom_bad2 e2
    | true => rw [dom_is e1 e2, leT_no (show k < 6 by have := (fv_of e1).1; omega) hk]
theorem dom_end {l m : List Int} {k : Nat} (h1 : ¬ (k < l.length ∧ k < m.length)) (hk : k ≤ l.length ∧ k ≤ m.length) (h : leT l m k = true) : domB l m = (fvB l && fvB m) := by
  cases e1 : fvB l with
  | false => exact dom_bad1 e1
  | true =>
    cases e2 : fvB m with
    | false => exact dom_bad2 e2
    | true =>
      obtain rfl : k = 6 := by have := (fv_of e1).1; have := (fv_of e2).1; omega
      rw [dom_is e1 e2, h]; rfl
theorem getD_is {l : List Int} {k : Nat} {x : Int} (h : l[k]? = some x) : l.getD k 0 = x := by rw [List.getD_eq_getElem?_getD, h]; rfl
theorem quiet_f (B : Nat) (w : World) (n : Nat) : Below B w (w.drewN n) := ⟨rfl, rfl, rfl, Nat.le_refl _, fun _ _ => rfl⟩

theorem fv_spec_b (a : Option Addr) (cap : Nat) (l : List Int) (r : Bool) (w : World) (hl : l.length ≤ 4000000) (hin : InI w a l) (hr : fvB l = r) :
    Calls Try.prog 59 #[.slice a l.length cap] w fun e w' => e = .returned (.bool r) ∧ Below w.heap.size w w' :=
  (fv_spec a cap l r w hl hin hr).mono fun e w' ⟨he, hw⟩ => ⟨he, by rw [← hw]; exact Below.refl _ _⟩
theorem fv_impl_b (a : Option Addr) (cap : Nat) (l : List Int) (r : Bool) (w : World) (hl : l.length ≤ 4000000) (hin : InI w a l) (hr : fvB l = r) :
    Calls Try.prog 81 #[.slice a l.length cap] w fun e w' => e = .returned (.bool r) ∧ Below w.heap.size w w' :=
  (fv_impl a cap l r w hl hin hr).mono fun e w' ⟨he, hw⟩ => ⟨he, by rw [← hw]; exact Below.refl _ _⟩

end Go.Proofs.Ytookcggmapldeaa
