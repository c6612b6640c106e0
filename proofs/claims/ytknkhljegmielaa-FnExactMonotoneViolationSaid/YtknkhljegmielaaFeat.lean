/-
  What IsFeatureVector and DominatesFeatures answer, on both sides, for lists of at most 4,000,000 integers. By an AI agent.
-/
import Derived.Test.YtknkhljegmielaaSpecIn
import Derived.Test.YtknkhljegmielaaInts
import Derived.Test.YtknkhljegmielaaLIn
namespace Go.Proofs.Ytknkhljegmielaa
open Go.RowKit
set_option linter.unusedVariables false

/-- a feature vector -/
def fvB (l : List Int) : Bool := decide (l.length = 6) && withinB 0 1000 l
theorem fv_bad {l : List Int} (h : withinB 0 1000 l = false) : fvB l = false := by unfold fvB; rw [h, Bool.and_false]
theorem fv_len {l : List Int} (h : l.length ≠ 6) : fvB l = false := by unfold fvB; rw [decide_eq_false h, Bool.false_and]
theorem fv_ok {l : List Int} (h : l.length = 6) (h2 : withinB 0 1000 l = true) : fvB l = true := by unfold fvB; rw [decide_eq_true h, h2]; rfl
theorem fv_of {l : List Int} (h : fvB l = true) : l.length = 6 ∧ withinB 0 1000 l = true := by
  unfold fvB at h
  simpa using h

set_option maxRecDepth 100000 in
theorem fv_spec (a : Option Addr) (cap : Nat) (l : List Int) (r : Bool) (w : World) (hl : l.length ≤ 4000000) (hin : InI w a l) (hr : fvB l = r) :
    Calls Try.prog 55 #[.slice a l.length cap] w fun e w' => e = .returned (.bool r) ∧ w = w' := by
  have HR := Lib.hid hr
  have HIN := Lib.hid hin
  clear hr hin
  go_enter Try.func55, Try.ntmps55
  go_wp2
  go_loop [3] (fun i => ∃ k : Nat, k ≤ l.length ∧ i = .int .i64 k ∧ withinB 0 1000 (l.take k) = true) (fun i => l.length - (intOf i).toNat)
  case atStart => exact ⟨0, Nat.zero_le _, rfl, within_zero _ _ _⟩
  case round =>
    obtain ⟨k, hk, rfl, hw⟩ := hrel
    have HW := Lib.hid hw
    clear hw
    by_cases hlt : k < l.length
    · obtain ⟨b, off, rfl, hb, hc⟩ := HIN.out (by omega)
      obtain ⟨x, hx⟩ : ∃ x, l[k]? = some x := ⟨_, List.getElem?_eq_getElem hlt⟩
      have hcell : w.cell? ⟨b, off + k, none⟩ = some (.int .i64 x) := hc k x hx
      have HX := Lib.hid hx
      clear hc hx
      obtain ⟨bx, hbx⟩ : ∃ b, decide (0 ≤ x ∧ x ≤ 1000) = b := ⟨_, rfl⟩
      have HBX := Lib.hid hbx
      cases bx
      · have HB := Lib.hid (of_decide_eq_false hbx)
        clear hbx
        go_wp2_with (go_at_call 51; ((with_reducible refine (cl1In _ _ _ _ _ HBX.out).mono ?_); rintro e w' ⟨rfl, rfl⟩))
        go_ret
        exact ⟨iret_bool (by rw [← HR.out, fv_bad (within_no (List.mem_of_getElem? HX.out) HB.out)]), rfl⟩
      · have HB := Lib.hid (of_decide_eq_true hbx)
        clear hbx
        go_wp2_with (go_at_call 51; ((with_reducible refine (cl1In _ _ _ _ _ HBX.out).mono ?_); rintro e w' ⟨rfl, rfl⟩))
        go_round
        case rel => exact ⟨k + 1, by omega, by go_num, within_yes HW.out HX.out HB.out.1 HB.out.2⟩
        case measure => simp [intOf]; omega
    · obtain rfl : k = l.length := by omega
      have HW2 := Lib.hid (show withinB 0 1000 l = true by have := HW.out; rwa [List.take_length] at this)
      by_cases h6 : l.length = 6
      · obtain rfl : r = true := by rw [← HR.out, fv_ok h6 HW2.out]
        have h6' : (l.length : Int) = 6 := by omega
        go_wp2
        go_ret
        exact ⟨by first | rfl | (simp [h6]), rfl⟩
      · obtain rfl : r = false := by rw [← HR.out, fv_len h6]
        have h6' : ((l.length : Int) == 6) = false := by simp; omega
        go_wp2
        go_ret
        exact ⟨rfl, rfl⟩

set_option maxRecDepth 100000 in
theorem fv_impl (a : Option Addr) (cap : Nat) (l : List Int) (r : Bool) (w : World) (hl : l.length ≤ 4000000) (hin : InI w a l) (hr : fvB l = r) :
    Calls Try.prog 52 #[.slice a l.length cap] w fun e w' => e = .returned (.bool r) ∧ w = w' := by
  have HR := Lib.hid hr
  have HIN := Lib.hid hin
  clear hr hin
  by_cases h6 : l.length = 6
  · have HRW := Lib.hid (show withinB 0 1000 l = r by rw [← HR.out]; unfold fvB; rw [decide_eq_true h6, Bool.true_and])
    have h6' : ((l.length : Int) == 6) = true := by simp; omega
    have H6 := Lib.hid h6
    clear h6
    go_enter Try.func52, Try.ntmps52
    go_wp2_with (go_at_call 58; ((with_reducible refine (within_is 0 1000 a cap l r _ hl HIN.out HRW.out).mono ?_); rintro e w' ⟨rfl, rfl⟩))
    go_ret
    exact ⟨rfl, rfl⟩
  · obtain rfl : r = false := by rw [← HR.out, fv_len h6]
    have h6' : ((l.length : Int) == 6) = false := by simp; omega
    go_enter Try.func52, Try.ntmps52
    go_wp2
    go_ret
    exact ⟨rfl, rfl⟩

/-- the first k features of l are at least those of m -/
def leT (l m : List Int) (k : Nat) : Bool := (List.range k).all fun i => decide (m.getD i 0 ≤ l.getD i 0)
theorem leT_zero (l m : List Int) : leT l m 0 = true := by simp [leT]
theorem leT_succ {l m : List Int} {k : Nat} (h : leT l m k = true) (hk : m.getD k 0 ≤ l.getD k 0) : leT l m (k + 1) = true := by
  unfold leT at h ⊢
  rw [List.range_succ, List.all_append, h]
  simpa using hk
theorem leT_no {l m : List Int} {k n : Nat} (hn : k < n) (hk : l.getD k 0 < m.getD k 0) : leT l m n = false := by
  rw [Bool.eq_false_iff]
  intro e
  have h1 := List.all_eq_true.1 e k (List.mem_range.2 hn)
  have h2 := of_decide_eq_true h1
  omega

/-- the answer -/
def domB (l m : List Int) : Bool := fvB l && fvB m && leT l m 6
theorem dom_bad1 {l m : List Int} (h : fvB l = false) : domB l m = false := by unfold domB; rw [h]; rfl
theorem dom_bad2 {l m : List Int} (h : fvB m = false) : domB l m = false := by unfold domB; rw [h]; cases fvB l <;> rfl
theorem dom_is {l m : List Int} (h1 : fvB l = true) (h2 : fvB m = true) : domB l m = leT l m 6 := by unfold domB; rw [h1, h2]; rfl
theorem dom_less {l m : List Int} {k : Nat} (h1 : k < l.length) (h2 : k < m.length) (hk : l.getD k 0 < m.getD k 0) : domB l m = false := by
  cases e1 : fvB l with
  | false => exact dom_bad1 e1
  | true =>
    cases e2 : fvB m with
    | false => exact dom_bad2 e2
    | true => rw [dom_is e1 e2, leT_no (show k < 6 by have := (fv_of e1).1; omega) hk]
theorem dom_end {l m : List Int} {k : Nat} (h1 : ¬ (k < l.length ∧ k < m.length)) (hk : k ≤ l.length ∧ k ≤ m.length) (h : leT l m k = true) : domB l m = (fvB l && fvB m) := by
  cases e1 : fvB l with
  | false => exact dom_bad1 e1
  | true =>
    cases e2 : fvB m with
    | false => exact dom_bad2 e2
    | true =>
      obtain rfl : k = 6 := by have := (fv_of e1).1; have := (fv_of e2).1; omega
      rw [dom_is e1 e2, h]; rfl
theorem getD_is {l : List Int} {k : Nat} {x : Int} (h : l[k]? = some x) : l.getD k 0 = x := by rw [List.getD_eq_getElem?_getD, h]; rfl
theorem quiet_f (B : Nat) (w : World) (n : Nat) : Below B w (w.drewN n) := ⟨rfl, rfl, rfl, Nat.le_refl _, fun _ _ => rfl⟩

set_option maxRecDepth 100000 in
set_option maxHeartbeats 800000 in
theorem dom_spec (a1 a2 : Option Addr) (c1 c2 : Nat) (l m : List Int) (r : Bool) (w : World) (hl : l.length ≤ 4000000) (hm : m.length ≤ 4000000) (h1 : InI w a1 l) (h2 : InI w a2 m) (hr : domB l m = r) :
    Calls Try.prog 21 #[.slice a1 l.length c1, .slice a2 m.length c2] w fun e w' => e = .returned (.bool r) ∧ Below w.heap.size w w' := by
  have HR := Lib.hid hr
  have H1 := Lib.hid h1
  have H2 := Lib.hid h2
  clear hr h1 h2
  go_enter Try.func21, Try.ntmps21
  go_wp2
  go_loopw [5] (fun i wr => ∃ k n : Nat, k ≤ l.length ∧ k ≤ m.length ∧ i = .int .i64 k ∧ wr = w.drewN n ∧ leT l m k = true) (fun i _ => l.length - (intOf i).toNat)
  case atStart => exact ⟨0, 0, Nat.zero_le _, Nat.zero_le _, rfl, rfl, leT_zero _ _⟩
  case round =>
    obtain ⟨k, n, hk, hk2, rfl, rfl, hw⟩ := hrel
    have HW := Lib.hid hw
    clear hw
    by_cases hlt : k < l.length
    · by_cases hlt2 : k < m.length
      · obtain ⟨b1, o1, rfl, hb1, hc1⟩ := H1.out (by omega)
        obtain ⟨b2, o2, rfl, hb2, hc2⟩ := H2.out (by omega)
        obtain ⟨x, hx⟩ : ∃ x, l[k]? = some x := ⟨_, List.getElem?_eq_getElem hlt⟩
        obtain ⟨y, hy⟩ : ∃ y, m[k]? = some y := ⟨_, List.getElem?_eq_getElem hlt2⟩
        have hcell1 : w.cell? ⟨b1, o1 + k, none⟩ = some (.int .i64 x) := hc1 k x hx
        have hcell2 : w.cell? ⟨b2, o2 + k, none⟩ = some (.int .i64 y) := hc2 k y hy
        have HX := Lib.hid (getD_is hx)
        have HY := Lib.hid (getD_is hy)
        clear hc1 hc2 hx hy
        by_cases hxy : x < y
        · go_wp2
          go_quiet (fail)
          go_wp2
          go_ret
          exact ⟨iret_bool (by rw [← HR.out, dom_less hlt hlt2 (by rw [HX.out, HY.out]; exact hxy)]), ⟨rfl, rfl, rfl, Nat.le_refl _, fun _ _ => rfl⟩⟩
        · go_wp2
          go_quiet (fail)
          go_wp2
          go_roundw
          case rel => exact ⟨k + 1, _, by omega, by omega, by go_num, rfl, leT_succ HW.out (by rw [HX.out, HY.out]; omega)⟩
          case measure => simp [intOf]; omega
      · have HE := Lib.hid (dom_end (l := l) (m := m) (k := k) (by omega) ⟨hk, hk2⟩ HW.out)
        obtain ⟨b1, hb1⟩ : ∃ b, fvB l = b := ⟨_, rfl⟩
        obtain ⟨b2, hb2⟩ : ∃ b, fvB m = b := ⟨_, rfl⟩
        have HRR := Lib.hid (show (b1 && b2) = r by rw [← HR.out, HE.out, hb1, hb2])
        have HB1 := Lib.hid hb1
        have HB2 := Lib.hid hb2
        have I1 := Lib.hid (H1.out.below (quiet_f _ w n))
        have I2 := Lib.hid (H2.out.below (quiet_f _ w n))
        clear hb1 hb2
        cases b1 <;> cases b2 <;> obtain rfl := HRR.out
        all_goals
          go_wp2_with (first
            | (go_at_call 55; ((with_reducible refine (fv_spec a1 c1 l _ _ hl I1.out HB1.out).mono ?_); rintro e w' ⟨rfl, rfl⟩))
            | (go_at_call 55; ((with_reducible refine (fv_spec a2 c2 m _ _ hm I2.out HB2.out).mono ?_); rintro e w' ⟨rfl, rfl⟩)))
          go_ret
          exact ⟨rfl, quiet_f _ _ _⟩
    · have HE := Lib.hid (dom_end (l := l) (m := m) (k := k) (by omega) ⟨hk, hk2⟩ HW.out)
      obtain ⟨b1, hb1⟩ : ∃ b, fvB l = b := ⟨_, rfl⟩
      obtain ⟨b2, hb2⟩ : ∃ b, fvB m = b := ⟨_, rfl⟩
      have HRR := Lib.hid (show (b1 && b2) = r by rw [← HR.out, HE.out, hb1, hb2])
      have HB1 := Lib.hid hb1
      have HB2 := Lib.hid hb2
      have I1 := Lib.hid (H1.out.below (quiet_f _ w n))
      have I2 := Lib.hid (H2.out.below (quiet_f _ w n))
      clear hb1 hb2
      cases b1 <;> cases b2 <;> obtain rfl := HRR.out
      all_goals
        go_wp2_with (first
          | (go_at_call 55; ((with_reducible refine (fv_spec a1 c1 l _ _ hl I1.out HB1.out).mono ?_); rintro e w' ⟨rfl, rfl⟩))
          | (go_at_call 55; ((with_reducible refine (fv_spec a2 c2 m _ _ hm I2.out HB2.out).mono ?_); rintro e w' ⟨rfl, rfl⟩)))
        go_ret
        exact ⟨rfl, quiet_f _ _ _⟩

set_option maxRecDepth 100000 in
set_option maxHeartbeats 800000 in
theorem dom_impl (a1 a2 : Option Addr) (c1 c2 : Nat) (l m : List Int) (r : Bool) (w : World) (hl : l.length ≤ 4000000) (hm : m.length ≤ 4000000) (h1 : InI w a1 l) (h2 : InI w a2 m) (hr : domB l m = r) :
    Calls Try.prog 19 #[.slice a1 l.length c1, .slice a2 m.length c2] w fun e w' => e = .returned (.bool r) ∧ Below w.heap.size w w' := by
  have HR := Lib.hid hr
  have H1 := Lib.hid h1
  have H2 := Lib.hid h2
  clear hr h1 h2
  obtain ⟨b1, hb1⟩ : ∃ b, fvB l = b := ⟨_, rfl⟩
  obtain ⟨b2, hb2⟩ : ∃ b, fvB m = b := ⟨_, rfl⟩
  have HB1 := Lib.hid hb1
  have HB2 := Lib.hid hb2
  clear hb1 hb2
  cases b1
  · obtain rfl : r = false := by rw [← HR.out, dom_bad1 HB1.out]
    go_enter Try.func19, Try.ntmps19
    go_wp2_with (go_at_call 52; ((with_reducible refine (fv_impl a1 c1 l _ _ hl H1.out HB1.out).mono ?_); rintro e w' ⟨rfl, rfl⟩))
    go_ret
    exact ⟨rfl, Below.refl _ _⟩
  · cases b2
    · obtain rfl : r = false := by rw [← HR.out, dom_bad2 HB2.out]
      go_enter Try.func19, Try.ntmps19
      go_wp2_with (first
        | (go_at_call 52; ((with_reducible refine (fv_impl a1 c1 l _ _ hl H1.out HB1.out).mono ?_); rintro e w' ⟨rfl, rfl⟩))
        | (go_at_call 52; ((with_reducible refine (fv_impl a2 c2 m _ _ hm H2.out HB2.out).mono ?_); rintro e w' ⟨rfl, rfl⟩)))
      go_ret
      exact ⟨rfl, Below.refl _ _⟩
    · have HRR := Lib.hid (show leT l m 6 = r by rw [← HR.out, dom_is HB1.out HB2.out])
      have hn1 := (fv_of HB1.out).1
      have hn2 := (fv_of HB2.out).1
      have HN1 := Lib.hid hn1
      have HN2 := Lib.hid hn2
      clear hn1 hn2
      go_enter Try.func19, Try.ntmps19
      go_wp2_with (first
        | (go_at_call 52; ((with_reducible refine (fv_impl a1 c1 l _ _ hl H1.out HB1.out).mono ?_); rintro e w' ⟨rfl, rfl⟩))
        | (go_at_call 52; ((with_reducible refine (fv_impl a2 c2 m _ _ hm H2.out HB2.out).mono ?_); rintro e w' ⟨rfl, rfl⟩)))
      go_loop [17] (fun i => ∃ k : Nat, k ≤ 6 ∧ i = .int .i64 k ∧ leT l m k = true) (fun i => 6 - (intOf i).toNat)
      case atStart => exact ⟨0, Nat.zero_le _, rfl, leT_zero _ _⟩
      case round =>
        obtain ⟨k, hk, rfl, hw⟩ := hrel
        have HW := Lib.hid hw
        clear hw
        by_cases hlt0 : k < 6
        · have hlt : k < l.length := by rw [HN1.out]; exact hlt0
          have hlt2 : k < m.length := by rw [HN2.out]; exact hlt0
          obtain ⟨p1, o1, rfl, hp1, hc1⟩ := H1.out (by omega)
          obtain ⟨p2, o2, rfl, hp2, hc2⟩ := H2.out (by omega)
          obtain ⟨x, hx⟩ : ∃ x, l[k]? = some x := ⟨_, List.getElem?_eq_getElem hlt⟩
          obtain ⟨y, hy⟩ : ∃ y, m[k]? = some y := ⟨_, List.getElem?_eq_getElem hlt2⟩
          have hcell1 : w.cell? ⟨p1, o1 + k, none⟩ = some (.int .i64 x) := hc1 k x hx
          have hcell2 : w.cell? ⟨p2, o2 + k, none⟩ = some (.int .i64 y) := hc2 k y hy
          have HX := Lib.hid (getD_is hx)
          have HY := Lib.hid (getD_is hy)
          clear hc1 hc2 hx hy
          by_cases hxy : x < y
          · go_wp2
            go_ret
            exact ⟨iret_bool (by rw [← HRR.out, leT_no hlt0 (by rw [HX.out, HY.out]; exact hxy)]), Below.refl _ _⟩
          · go_wp2
            go_round
            case rel => exact ⟨k + 1, by omega, by go_num, leT_succ HW.out (by rw [HX.out, HY.out]; omega)⟩
            case measure => simp [intOf]; omega
        · obtain rfl : k = 6 := by omega
          have hge : ¬ 6 < l.length := by rw [HN1.out]; omega
          go_wp2
          go_ret
          exact ⟨iret_bool (by rw [← HRR.out, HW.out]), Below.refl _ _⟩

theorem fv_spec_b (a : Option Addr) (cap : Nat) (l : List Int) (r : Bool) (w : World) (hl : l.length ≤ 4000000) (hin : InI w a l) (hr : fvB l = r) :
    Calls Try.prog 55 #[.slice a l.length cap] w fun e w' => e = .returned (.bool r) ∧ Below w.heap.size w w' :=
  (fv_spec a cap l r w hl hin hr).mono fun e w' ⟨he, hw⟩ => ⟨he, by rw [← hw]; exact Below.refl _ _⟩
theorem fv_impl_b (a : Option Addr) (cap : Nat) (l : List Int) (r : Bool) (w : World) (hl : l.length ≤ 4000000) (hin : InI w a l) (hr : fvB l = r) :
    Calls Try.prog 52 #[.slice a l.length cap] w fun e w' => e = .returned (.bool r) ∧ Below w.heap.size w w' :=
  (fv_impl a cap l r w hl hin hr).mono fun e w' ⟨he, hw⟩ => ⟨he, by rw [← hw]; exact Below.refl _ _⟩

end Go.Proofs.Ytknkhljegmielaa
