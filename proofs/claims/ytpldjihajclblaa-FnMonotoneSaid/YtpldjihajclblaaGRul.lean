/-
  Texts laid together: Feat, FeatN, PlainRul, TsS, RuS, RuT, RuH, RuI. By an AI agent.
-/
import Derived.Test.YtpldjihajclblaaGMem
import Derived.Deep.Slices
import Derived.Deep.RegionWith
import Derived.Deep.RegionHeld3
/-
  What IsFeatureVector and DominatesFeatures answer, on both sides, for lists of at most 4,000,000 integers. By an AI agent.
-/
namespace Go.Proofs.Ytpldjihajclblaa
open Go.RowKit
set_option linter.unusedVariables false

/-- a feature vector -/
def fvB (l : List Int) : Bool := decide (l.length = 6) && withinB 0 1000 l
theorem fv_bad {l : List Int} (h : withinB 0 1000 l = false) : fvB l = false := by unfold fvB; rw [h, Bool.and_false]
theorem fv_len {l : List Int} (h : l.length ≠ 6) : fvB l = false := by unfold fvB; rw [decide_eq_false h, Bool.false_and]
theorem fv_ok {l : List Int} (h : l.length = 6) (h2 : withinB 0 1000 l = true) : fvB l = true := by unfold fvB; rw [decide_eq_true h, h2]; rfl
theorem fv_of {l : List Int} (h : fvB l = true) : l.length = 6 ∧ withinB 0 1000 l = true := by
  unfold fvB at h
  simpa using h

set_option maxRecDepth 100000 in
theorem fv_spec (a : Option Addr) (cap : Nat) (l : List Int) (r : Bool) (w : World) (hl : l.length ≤ 4000000) (hin : InI w a l) (hr : fvB l = r) :
    Calls Try.prog 30 #[.slice a l.length cap] w fun e w' => e = .returned (.bool r) ∧ w = w' := by
  have HR := Lib.hid hr
  have HIN := Lib.hid hin
  clear hr hin
  go_enter Try.func30, Try.ntmps30
  go_wp2
  go_loop [3] (fun i => ∃ k : Nat, k ≤ l.length ∧ i = .int .i64 k ∧ withinB 0 1000 (l.take k) = true) (fun i => l.length - (intOf i).toNat)
  case atStart => exact ⟨0, Nat.zero_le _, rfl, within_zero _ _ _⟩
  case round =>
    obtain ⟨k, hk, rfl, hw⟩ := hrel
    have HW := Lib.hid hw
    clear hw
    by_cases hlt : k < l.length
    · obtain ⟨b, off, rfl, hb, hc⟩ := HIN.out (by omega)
      obtain ⟨x, hx⟩ : ∃ x, l[k]? = some x := ⟨_, List.getElem?_eq_getElem hlt⟩
      have hcell : w.cell? ⟨b, off + k, none⟩ = some (.int .i64 x) := hc k x hx
      have HX := Lib.hid hx
      clear hc hx
      obtain ⟨bx, hbx⟩ : ∃ b, decide (0 ≤ x ∧ x ≤ 1000) = b := ⟨_, rfl⟩
      have HBX := Lib.hid hbx
      cases bx
      · have HB := Lib.hid (of_decide_eq_false hbx)
        clear hbx
        go_wp2_with (go_at_call 25; ((with_reducible refine (cl1In _ _ _ _ _ HBX.out).mono ?_); rintro e w' ⟨rfl, rfl⟩))
        go_ret
        exact ⟨iret_bool (by rw [← HR.out, fv_bad (within_no (List.mem_of_getElem? HX.out) HB.out)]), rfl⟩
      · have HB := Lib.hid (of_decide_eq_true hbx)
        clear hbx
        go_wp2_with (go_at_call 25; ((with_reducible refine (cl1In _ _ _ _ _ HBX.out).mono ?_); rintro e w' ⟨rfl, rfl⟩))
        go_round
        case rel => exact ⟨k + 1, by omega, by go_num, within_yes HW.out HX.out HB.out.1 HB.out.2⟩
        case measure => simp [intOf]; omega
    · obtain rfl : k = l.length := by omega
      have HW2 := Lib.hid (show withinB 0 1000 l = true by have := HW.out; rwa [List.take_length] at this)
      by_cases h6 : l.length = 6
      · obtain rfl : r = true := by rw [← HR.out, fv_ok h6 HW2.out]
        have h6' : (l.length : Int) = 6 := by omega
        go_wp2
        go_ret
        exact ⟨by first | rfl | (simp [h6]), rfl⟩
      · obtain rfl : r = false := by rw [← HR.out, fv_len h6]
        have h6' : ((l.length : Int) == 6) = false := by simp; omega
        go_wp2
        go_ret
        exact ⟨rfl, rfl⟩

set_option maxRecDepth 100000 in
theorem fv_impl (a : Option Addr) (cap : Nat) (l : List Int) (r : Bool) (w : World) (hl : l.length ≤ 4000000) (hin : InI w a l) (hr : fvB l = r) :
    Calls Try.prog 27 #[.slice a l.length cap] w fun e w' => e = .returned (.bool r) ∧ w = w' := by
  have HR := Lib.hid hr
  have HIN := Lib.hid hin
  clear hr hin
  by_cases h6 : l.length = 6
  · have HRW := Lib.hid (show withinB 0 1000 l = r by rw [← HR.out]; unfold fvB; rw [decide_eq_true h6, Bool.true_and])
    have h6' : ((l.length : Int) == 6) = true := by simp; omega
    have H6 := Lib.hid h6
    clear h6
    go_enter Try.func27, Try.ntmps27
    go_wp2_with (go_at_call 34; ((with_reducible refine (within_is 0 1000 a cap l r _ hl HIN.out HRW.out).mono ?_); rintro e w' ⟨rfl, rfl⟩))
    go_ret
    exact ⟨rfl, rfl⟩
  · obtain rfl : r = false := by rw [← HR.out, fv_len h6]
    have h6' : ((l.length : Int) == 6) = false := by simp; omega
    go_enter Try.func27, Try.ntmps27
    go_wp2
    go_ret
    exact ⟨rfl, rfl⟩

/-- the first k features of l are at least those of m -/
def leT (l m : List Int) (k : Nat) : Bool := (List.range k).all fun i => decide (m.getD i 0 ≤ l.getD i 0)
theorem leT_zero (l m : List Int) : leT l m 0 = true := by simp [leT]
theorem leT_succ {l m : List Int} {k : Nat} (h : leT l m k = true) (hk : m.getD k 0 ≤ l.getD k 0) : leT l m (k + 1) = true := by
  unfold leT at h ⊢
  rw [List.range_succ, List.all_append, h]
  simpa using hk
theorem leT_no {l m : List Int} {k n : Nat} (hn : k < n) (hk : l.getD k 0 < m.getD k 0) : leT l m n = false := by
  rw [Bool.eq_false_iff]
  intro e
  have h1 := List.all_eq_true.1 e k (List.mem_range.2 hn)
  have h2 := of_decide_eq_true h1
  omega

/-- the answer -/
def domB (l m : List Int) : Bool := fvB l && fvB m && leT l m 6
theorem dom_bad1 {l m : List Int} (h : fvB l = false) : domB l m = false := by unfold domB; rw [h]; rfl
theorem dom_bad2 {l m : List Int} (h : fvB m = false) : domB l m = false := by unfold domB; rw [h]; cases fvB l <;> rfl
theorem dom_is {l m : List Int} (h1 : fvB l = true) (h2 : fvB m = true) : domB l m = leT l m 6 := by unfold domB; rw [h1, h2]; rfl
theorem dom_less {l m : List Int} {k : Nat} (h1 : k < l.length) (h2 : k < m.length) (hk : l.getD k 0 < m.getD k 0) : domB l m = false := by
  cases e1 : fvB l with
  | false => exact dom_bad1 e1
  | true =>
    cases e2 : fvB m with
    | false => exact dom_bad2 e2
    | true => rw [dom_is e1 e2, leT_no (show k < 6 by have := (fv_of e1).1; omega) hk]
theorem dom_end {l m : List Int} {k : Nat} (h1 : ¬ (k < l.length ∧ k < m.length)) (hk : k ≤ l.length ∧ k ≤ m.length) (h : leT l m k = true) : domB l m = (fvB l && fvB m) := by
  cases e1 : fvB l with
  | false => exact dom_bad1 e1
  | true =>
    cases e2 : fvB m with
    | false => exact dom_bad2 e2
    | true =>
      obtain rfl : k = 6 := by have := (fv_of e1).1; have := (fv_of e2).1; omega
      rw [dom_is e1 e2, h]; rfl
theorem getD_is {l : List Int} {k : Nat} {x : Int} (h : l[k]? = some x) : l.getD k 0 = x := by rw [List.getD_eq_getElem?_getD, h]; rfl
theorem quiet_f (B : Nat) (w : World) (n : Nat) : Below B w (w.drewN n) := ⟨rfl, rfl, rfl, Nat.le_refl _, fun _ _ => rfl⟩

set_option maxRecDepth 100000 in
set_option maxHeartbeats 800000 in
theorem dom_spec (a1 a2 : Option Addr) (c1 c2 : Nat) (l m : List Int) (r : Bool) (w : World) (hl : l.length ≤ 4000000) (hm : m.length ≤ 4000000) (h1 : InI w a1 l) (h2 : InI w a2 m) (hr : domB l m = r) :
    Calls Try.prog 14 #[.slice a1 l.length c1, .slice a2 m.length c2] w fun e w' => e = .returned (.bool r) ∧ Below w.heap.size w w' := by
  have HR := Lib.hid hr
  have H1 := Lib.hid h1
  have H2 := Lib.hid h2
  clear hr h1 h2
  go_enter Try.func14, Try.ntmps14
  go_wp2
  go_loopw [5] (fun i wr => ∃ k n : Nat, k ≤ l.length ∧ k ≤ m.length ∧ i = .int .i64 k ∧ wr = w.drewN n ∧ leT l m k = true) (fun i _ => l.length - (intOf i).toNat)
  case atStart => exact ⟨0, 0, Nat.zero_le _, Nat.zero_le _, rfl, rfl, leT_zero _ _⟩
  case round =>
    obtain ⟨k, n, hk, hk2, rfl, rfl, hw⟩ := hrel
    have HW := Lib.hid hw
    clear hw
    by_cases hlt : k < l.length
    · by_cases hlt2 : k < m.length
      · obtain ⟨b1, o1, rfl, hb1, hc1⟩ := H1.out (by omega)
        obtain ⟨b2, o2, rfl, hb2, hc2⟩ := H2.out (by omega)
        obtain ⟨x, hx⟩ : ∃ x, l[k]? = some x := ⟨_, List.getElem?_eq_getElem hlt⟩
        obtain ⟨y, hy⟩ : ∃ y, m[k]? = some y := ⟨_, List.getElem?_eq_getElem hlt2⟩
        have hcell1 : w.cell? ⟨b1, o1 + k, none⟩ = some (.int .i64 x) := hc1 k x hx
        have hcell2 : w.cell? ⟨b2, o2 + k, none⟩ = some (.int .i64 y) := hc2 k y hy
        have HX := Lib.hid (getD_is hx)
        have HY := Lib.hid (getD_is hy)
        clear hc1 hc2 hx hy
        by_cases hxy : x < y
        · go_wp2
          go_quiet (fail)
          go_wp2
          go_ret
          exact ⟨iret_bool (by rw [← HR.out, dom_less hlt hlt2 (by rw [HX.out, HY.out]; exact hxy)]), ⟨rfl, rfl, rfl, Nat.le_refl _, fun _ _ => rfl⟩⟩
        · go_wp2
          go_quiet (fail)
          go_wp2
          go_roundw
          case rel => exact ⟨k + 1, _, by omega, by omega, by go_num, rfl, leT_succ HW.out (by rw [HX.out, HY.out]; omega)⟩
          case measure => simp [intOf]; omega
      · have HE := Lib.hid (dom_end (l := l) (m := m) (k := k) (by omega) ⟨hk, hk2⟩ HW.out)
        obtain ⟨b1, hb1⟩ : ∃ b, fvB l = b := ⟨_, rfl⟩
        obtain ⟨b2, hb2⟩ : ∃ b, fvB m = b := ⟨_, rfl⟩
        have HRR := Lib.hid (show (b1 && b2) = r by rw [← HR.out, HE.out, hb1, hb2])
        have HB1 := Lib.hid hb1
        have HB2 := Lib.hid hb2
        have I1 := Lib.hid (H1.out.below (quiet_f _ w n))
        have I2 := Lib.hid (H2.out.below (quiet_f _ w n))
        clear hb1 hb2
        cases b1 <;> cases b2 <;> obtain rfl := HRR.out
        all_goals
          go_wp2_with (first
            | (go_at_call 30; ((with_reducible refine (fv_spec a1 c1 l _ _ hl I1.out HB1.out).mono ?_); rintro e w' ⟨rfl, rfl⟩))
            | (go_at_call 30; ((with_reducible refine (fv_spec a2 c2 m _ _ hm I2.out HB2.out).mono ?_); rintro e w' ⟨rfl, rfl⟩)))
          go_ret
          exact ⟨rfl, quiet_f _ _ _⟩
    · have HE := Lib.hid (dom_end (l := l) (m := m) (k := k) (by omega) ⟨hk, hk2⟩ HW.out)
      obtain ⟨b1, hb1⟩ : ∃ b, fvB l = b := ⟨_, rfl⟩
      obtain ⟨b2, hb2⟩ : ∃ b, fvB m = b := ⟨_, rfl⟩
      have HRR := Lib.hid (show (b1 && b2) = r by rw [← HR.out, HE.out, hb1, hb2])
      have HB1 := Lib.hid hb1
      have HB2 := Lib.hid hb2
      have I1 := Lib.hid (H1.out.below (quiet_f _ w n))
      have I2 := Lib.hid (H2.out.below (quiet_f _ w n))
      clear hb1 hb2
      cases b1 <;> cases b2 <;> obtain rfl := HRR.out
      all_goals
        go_wp2_with (first
          | (go_at_call 30; ((with_reducible refine (fv_spec a1 c1 l _ _ hl I1.out HB1.out).mono ?_); rintro e w' ⟨rfl, rfl⟩))
          | (go_at_call 30; ((with_reducible refine (fv_spec a2 c2 m _ _ hm I2.out HB2.out).mono ?_); rintro e w' ⟨rfl, rfl⟩)))
        go_ret
        exact ⟨rfl, quiet_f _ _ _⟩

set_option maxRecDepth 100000 in
set_option maxHeartbeats 800000 in
theorem dom_impl (a1 a2 : Option Addr) (c1 c2 : Nat) (l m : List Int) (r : Bool) (w : World) (hl : l.length ≤ 4000000) (hm : m.length ≤ 4000000) (h1 : InI w a1 l) (h2 : InI w a2 m) (hr : domB l m = r) :
    Calls Try.prog 12 #[.slice a1 l.length c1, .slice a2 m.length c2] w fun e w' => e = .returned (.bool r) ∧ Below w.heap.size w w' := by
  have HR := Lib.hid hr
  have H1 := Lib.hid h1
  have H2 := Lib.hid h2
  clear hr h1 h2
  obtain ⟨b1, hb1⟩ : ∃ b, fvB l = b := ⟨_, rfl⟩
  obtain ⟨b2, hb2⟩ : ∃ b, fvB m = b := ⟨_, rfl⟩
  have HB1 := Lib.hid hb1
  have HB2 := Lib.hid hb2
  clear hb1 hb2
  cases b1
  · obtain rfl : r = false := by rw [← HR.out, dom_bad1 HB1.out]
    go_enter Try.func12, Try.ntmps12
    go_wp2_with (go_at_call 27; ((with_reducible refine (fv_impl a1 c1 l _ _ hl H1.out HB1.out).mono ?_); rintro e w' ⟨rfl, rfl⟩))
    go_ret
    exact ⟨rfl, Below.refl _ _⟩
  · cases b2
    · obtain rfl : r = false := by rw [← HR.out, dom_bad2 HB2.out]
      go_enter Try.func12, Try.ntmps12
      go_wp2_with (first
        | (go_at_call 27; ((with_reducible refine (fv_impl a1 c1 l _ _ hl H1.out HB1.out).mono ?_); rintro e w' ⟨rfl, rfl⟩))
        | (go_at_call 27; ((with_reducible refine (fv_impl a2 c2 m _ _ hm H2.out HB2.out).mono ?_); rintro e w' ⟨rfl, rfl⟩)))
      go_ret
      exact ⟨rfl, Below.refl _ _⟩
    · have HRR := Lib.hid (show leT l m 6 = r by rw [← HR.out, dom_is HB1.out HB2.out])
      have hn1 := (fv_of HB1.out).1
      have hn2 := (fv_of HB2.out).1
      have HN1 := Lib.hid hn1
      have HN2 := Lib.hid hn2
      clear hn1 hn2
      go_enter Try.func12, Try.ntmps12
      go_wp2_with (first
        | (go_at_call 27; ((with_reducible refine (fv_impl a1 c1 l _ _ hl H1.out HB1.out).mono ?_); rintro e w' ⟨rfl, rfl⟩))
        | (go_at_call 27; ((with_reducible refine (fv_impl a2 c2 m _ _ hm H2.out HB2.out).mono ?_); rintro e w' ⟨rfl, rfl⟩)))
      go_loop [17] (fun i => ∃ k : Nat, k ≤ 6 ∧ i = .int .i64 k ∧ leT l m k = true) (fun i => 6 - (intOf i).toNat)
      case atStart => exact ⟨0, Nat.zero_le _, rfl, leT_zero _ _⟩
      case round =>
        obtain ⟨k, hk, rfl, hw⟩ := hrel
        have HW := Lib.hid hw
        clear hw
        by_cases hlt0 : k < 6
        · have hlt : k < l.length := by rw [HN1.out]; exact hlt0
          have hlt2 : k < m.length := by rw [HN2.out]; exact hlt0
          obtain ⟨p1, o1, rfl, hp1, hc1⟩ := H1.out (by omega)
          obtain ⟨p2, o2, rfl, hp2, hc2⟩ := H2.out (by omega)
          obtain ⟨x, hx⟩ : ∃ x, l[k]? = some x := ⟨_, List.getElem?_eq_getElem hlt⟩
          obtain ⟨y, hy⟩ : ∃ y, m[k]? = some y := ⟨_, List.getElem?_eq_getElem hlt2⟩
          have hcell1 : w.cell? ⟨p1, o1 + k, none⟩ = some (.int .i64 x) := hc1 k x hx
          have hcell2 : w.cell? ⟨p2, o2 + k, none⟩ = some (.int .i64 y) := hc2 k y hy
          have HX := Lib.hid (getD_is hx)
          have HY := Lib.hid (getD_is hy)
          clear hc1 hc2 hx hy
          by_cases hxy : x < y
          · go_wp2
            go_ret
            exact ⟨iret_bool (by rw [← HRR.out, leT_no hlt0 (by rw [HX.out, HY.out]; exact hxy)]), Below.refl _ _⟩
          · go_wp2
            go_round
            case rel => exact ⟨k + 1, by omega, by go_num, leT_succ HW.out (by rw [HX.out, HY.out]; omega)⟩
            case measure => simp [intOf]; omega
        · obtain rfl : k = 6 := by omega
          have hge : ¬ 6 < l.length := by rw [HN1.out]; omega
          go_wp2
          go_ret
          exact ⟨iret_bool (by rw [← HRR.out, HW.out]), Below.refl _ _⟩

theorem fv_spec_b (a : Option Addr) (cap : Nat) (l : List Int) (r : Bool) (w : World) (hl : l.length ≤ 4000000) (hin : InI w a l) (hr : fvB l = r) :
    Calls Try.prog 30 #[.slice a l.length cap] w fun e w' => e = .returned (.bool r) ∧ Below w.heap.size w w' :=
  (fv_spec a cap l r w hl hin hr).mono fun e w' ⟨he, hw⟩ => ⟨he, by rw [← hw]; exact Below.refl _ _⟩
theorem fv_impl_b (a : Option Addr) (cap : Nat) (l : List Int) (r : Bool) (w : World) (hl : l.length ≤ 4000000) (hin : InI w a l) (hr : fvB l = r) :
    Calls Try.prog 27 #[.slice a l.length cap] w fun e w' => e = .returned (.bool r) ∧ Below w.heap.size w w' :=
  (fv_impl a cap l r w hl hin hr).mono fun e w' ⟨he, hw⟩ => ⟨he, by rw [← hw]; exact Below.refl _ _⟩

end Go.Proofs.Ytpldjihajclblaa

/-
  What FeatureName answers, on both sides, for every integer. By an AI agent.
-/
namespace Go.Proofs.Ytpldjihajclblaa
open Go.RowKit
set_option linter.unusedVariables false

/-- the name's bytes -/
def fnL (n : Int) : List UInt8 :=
  if n = 0 then [110, 97, 109, 101] else if n = 1 then [116, 111, 107, 101, 110, 115] else if n = 2 then [115, 111, 117, 110, 100]
  else if n = 3 then [99, 105, 116, 121] else if n = 4 then [121, 101, 97, 114] else if n = 5 then [112, 104, 111, 110, 101] else []
def fnR (n : Int) : ByteArray := ⟨(fnL n).toArray⟩
theorem fn_no {n : Int} (h : ¬ (0 ≤ n ∧ n ≤ 5)) : fnR n = ⟨#[]⟩ := by
  unfold fnR fnL
  rw [if_neg (by omega), if_neg (by omega), if_neg (by omega), if_neg (by omega), if_neg (by omega), if_neg (by omega)]
theorem fret_str {a b : ByteArray} (h : a = b) : Ending.returned (.string a) = .returned (.string b) := by rw [h]

set_option maxRecDepth 100000 in
set_option maxHeartbeats 800000 in
theorem fn_spec (n : Int) (r : ByteArray) (w : World) (hr : fnR n = r) :
    Calls Try.prog 85 #[.int .i64 n] w fun e w' => e = .returned (.string r) ∧ Below w.heap.size w w' := by
  have HR := Lib.hid hr
  clear hr
  obtain ⟨bx, hbx⟩ : ∃ b, decide (0 ≤ n ∧ n ≤ 5) = b := ⟨_, rfl⟩
  have HBX := Lib.hid hbx
  cases bx
  · obtain rfl : ⟨#[]⟩ = r := by rw [← HR.out, fn_no (of_decide_eq_false HBX.out)]
    clear hbx
    go_enter Try.func85, Try.ntmps85
    go_wp2_with (go_at_call 25; ((with_reducible refine (cl1In _ _ _ _ _ HBX.out).mono ?_); rintro e w' ⟨rfl, rfl⟩))
    go_ret
    exact ⟨rfl, Below.refl _ _⟩
  · have hc := of_decide_eq_true hbx
    clear hbx
    have hc2 : n = 0 ∨ n = 1 ∨ n = 2 ∨ n = 3 ∨ n = 4 ∨ n = 5 := by omega
    clear hc
    rcases hc2 with rfl | rfl | rfl | rfl | rfl | rfl <;> obtain rfl := HR.out
    all_goals
      go_enter Try.func85, Try.ntmps85
      go_wp2_with (go_at_call 25; ((with_reducible refine (cl1In _ _ _ _ _ HBX.out).mono ?_); rintro e w' ⟨rfl, rfl⟩))
      go_ret
      exact ⟨rfl, (Below.refl _ _).alloc (Nat.le_refl _) _⟩

end Go.Proofs.Ytpldjihajclblaa

/-
  Decision rules in plain words: tests, rules, rule sets; when one is valid, when one holds. By an AI agent.
-/
namespace Go.Proofs.Ytpldjihajclblaa
open Go.RowKit
set_option linter.unusedVariables false

/-- a test: feature and threshold; whether it is a test for less -/
abbrev TS := (Int × Int) × Bool
def featB (t : TS) : Bool := decide (0 ≤ t.1.1 ∧ t.1.1 ≤ 5)
def thrB (t : TS) : Bool := decide (1 ≤ t.1.2 ∧ t.1.2 ≤ 1000)
def vtB (t : TS) : Bool := featB t && thrB t
/-- the features ascend -/
def ascB : List TS → Bool
  | [] => true
  | [_] => true
  | x :: y :: l => decide (x.1.1 < y.1.1) && ascB (y :: l)
def vrB (l : List TS) : Bool := decide (1 ≤ l.length ∧ l.length ≤ 3) && (l.all vtB && ascB l)
def vsB (R : List (List TS)) : Bool := decide (1 ≤ R.length ∧ R.length ≤ 3) && R.all vrB

/-- a test's comparison with the features -/
def cmpT (t : TS) (l : List Int) : Bool := if t.2 then decide (l.getD t.1.1.toNat 0 < t.1.2) else decide (t.1.2 ≤ l.getD t.1.1.toNat 0)
/-- the condition of a test (of a feature vector) -/
def condT (t : TS) (l : List Int) : Bool := featB t && cmpT t l
def tshB (t : TS) (l : List Int) : Bool := fvB l && condT t l
def ruB (r : List TS) (l : List Int) : Bool := fvB l && r.all fun t => condT t l
/-- the first rule that holds -/
def firstU (R : List (List TS)) (l : List Int) : Nat := R.findIdx fun r => r.all fun t => condT t l
def frR (R : List (List TS)) (l : List Int) : Int := if vsB R && fvB l && decide (firstU R l < R.length) then (firstU R l : Int) else -1
def rhB (R : List (List TS)) (l : List Int) : Bool := decide (0 ≤ frR R l)

theorem ascB_snoc : ∀ {l : List TS} {x y : TS}, ascB (l ++ [x, y]) = (ascB (l ++ [x]) && decide (x.1.1 < y.1.1))
  | [], x, y => by simp [ascB]
  | [a], x, y => by simp [ascB]
  | a :: b :: l, x, y => by
    have h := ascB_snoc (l := b :: l) (x := x) (y := y)
    simp only [List.cons_append, ascB] at h ⊢
    rw [h, Bool.and_assoc]
theorem asc_take1 (l : List TS) : ascB (l.take 1) = true := by
  cases l with
  | nil => rfl
  | cons x l => rfl
theorem take_two {l : List TS} {k : Nat} {x y : TS} (hx : l[k]? = some x) (hy : l[k + 1]? = some y) : l.take (k + 1 + 1) = l.take k ++ [x, y] := by
  obtain ⟨h1, e1⟩ := List.getElem?_eq_some_iff.1 hx
  obtain ⟨h2, e2⟩ := List.getElem?_eq_some_iff.1 hy
  rw [List.take_succ_eq_append_getElem h2, List.take_succ_eq_append_getElem h1, e1, e2]
  simp
theorem take_one {α : Type} {l : List α} {k : Nat} {x : α} (hx : l[k]? = some x) : l.take (k + 1) = l.take k ++ [x] := by
  obtain ⟨h1, e1⟩ := List.getElem?_eq_some_iff.1 hx
  rw [List.take_succ_eq_append_getElem h1, e1]
/-- one element more -/
theorem asc_step {l : List TS} {k : Nat} {x y : TS} (h : ascB (l.take (k + 1)) = true) (hx : l[k]? = some x) (hy : l[k + 1]? = some y) : ascB (l.take (k + 1 + 1)) = decide (x.1.1 < y.1.1) := by
  rw [take_two hx hy, ascB_snoc, ← take_one hx, h, Bool.true_and]
theorem asc_prefix : ∀ {l m : List TS}, ascB (l ++ m) = true → ascB l = true
  | [], m, h => rfl
  | [x], m, h => rfl
  | x :: y :: l, m, h => by
    simp only [List.cons_append, ascB, Bool.and_eq_true] at h ⊢
    exact ⟨h.1, asc_prefix (l := y :: l) (m := m) h.2⟩
theorem asc_no {l : List TS} {k : Nat} (h : ascB (l.take k) = false) : ascB l = false := by
  rw [Bool.eq_false_iff]
  intro e
  rw [← List.take_append_drop k l] at e
  rw [asc_prefix e] at h
  cases h
theorem all_take {α : Type} {p : α → Bool} {l : List α} {k : Nat} {x : α} (h : (l.take k).all p = true) (hx : l[k]? = some x) (h1 : p x = true) : (l.take (k + 1)).all p = true := by
  rw [take_one hx, List.all_append, h]
  simp [h1]
theorem all_no {α : Type} {p : α → Bool} {l : List α} {k : Nat} {x : α} (hx : l[k]? = some x) (h1 : p x = false) : l.all p = false := by
  rw [Bool.eq_false_iff]
  intro e
  rw [List.all_eq_true.1 e x (List.mem_of_getElem? hx)] at h1
  cases h1

theorem vr_len {l : List TS} (h : vrB l = true) : 1 ≤ l.length ∧ l.length ≤ 3 := by
  unfold vrB at h
  simp only [Bool.and_eq_true, decide_eq_true_eq] at h
  exact h.1
theorem vr_test {l : List TS} {t : TS} (h : vrB l = true) (ht : t ∈ l) : vtB t = true := by
  unfold vrB at h
  simp only [Bool.and_eq_true, decide_eq_true_eq] at h
  exact List.all_eq_true.1 h.2.1 t ht
theorem vs_len {R : List (List TS)} (h : vsB R = true) : 1 ≤ R.length ∧ R.length ≤ 3 := by
  unfold vsB at h
  simp only [Bool.and_eq_true, decide_eq_true_eq] at h
  exact h.1
theorem vs_rule {R : List (List TS)} {l : List TS} (h : vsB R = true) (hl : l ∈ R) : vrB l = true := by
  unfold vsB at h
  simp only [Bool.and_eq_true, decide_eq_true_eq] at h
  exact List.all_eq_true.1 h.2 l hl
theorem vr_bad {l : List TS} (h : ¬ (1 ≤ l.length ∧ l.length ≤ 3)) : vrB l = false := by unfold vrB; rw [decide_eq_false h, Bool.false_and]
theorem vr_ok {l : List TS} (h : 1 ≤ l.length ∧ l.length ≤ 3) : vrB l = (l.all vtB && ascB l) := by unfold vrB; rw [decide_eq_true h, Bool.true_and]
theorem vr_no {l : List TS} {k : Nat} {x : TS} (hx : l[k]? = some x) (h : vtB x = false) : vrB l = false := by unfold vrB; rw [all_no hx h, Bool.false_and, Bool.and_false]
theorem vr_nasc {l : List TS} {k : Nat} (h : ascB (l.take k) = false) : vrB l = false := by unfold vrB; rw [asc_no h, Bool.and_false, Bool.and_false]
theorem vs_bad {R : List (List TS)} (h : ¬ (1 ≤ R.length ∧ R.length ≤ 3)) : vsB R = false := by unfold vsB; rw [decide_eq_false h, Bool.false_and]
theorem vs_ok {R : List (List TS)} (h : 1 ≤ R.length ∧ R.length ≤ 3) : vsB R = R.all vrB := by unfold vsB; rw [decide_eq_true h, Bool.true_and]
theorem vs_no {R : List (List TS)} {k : Nat} {l : List TS} (hx : R[k]? = some l) (h : vrB l = false) : vsB R = false := by unfold vsB; rw [all_no hx h, Bool.and_false]
theorem vt_of {t : TS} (h : vtB t = true) : (0 ≤ t.1.1 ∧ t.1.1 ≤ 5) ∧ 1 ≤ t.1.2 ∧ t.1.2 ≤ 1000 := by
  unfold vtB featB thrB at h
  simp only [Bool.and_eq_true, decide_eq_true_eq] at h
  exact h
theorem vt_yes {t : TS} (h1 : 0 ≤ t.1.1 ∧ t.1.1 ≤ 5) (h2 : 1 ≤ t.1.2 ∧ t.1.2 ≤ 1000) : vtB t = true := by unfold vtB featB thrB; rw [decide_eq_true h1, decide_eq_true h2]; rfl
theorem vt_feat {t : TS} (h : ¬ (0 ≤ t.1.1 ∧ t.1.1 ≤ 5)) : vtB t = false := by unfold vtB featB; rw [decide_eq_false h, Bool.false_and]
theorem vt_thr {t : TS} (h : ¬ (1 ≤ t.1.2 ∧ t.1.2 ≤ 1000)) : vtB t = false := by unfold vtB thrB; rw [decide_eq_false h, Bool.and_false]

end Go.Proofs.Ytpldjihajclblaa

/-
  Slices of tests: one that reads as a list, one of the call's own. By an AI agent.
-/
namespace Go.Proofs.Ytpldjihajclblaa
open Go.RowKit
set_option linter.unusedVariables false

def encTs (x : TS) : List Value := [.int .i64 x.1.1, .int .i64 x.1.2, .bool x.2]
abbrev aggTs (x : TS) : Value := .agg #[.int .i64 x.1.1, .int .i64 x.1.2, .bool x.2]
def flatTs (l : List TS) : List Value := l.flatMap encTs
theorem flatTs_nil : flatTs [] = [] := rfl
theorem flatTs_cons (x : TS) (l : List TS) : flatTs (x :: l) = .int .i64 x.1.1 :: .int .i64 x.1.2 :: .bool x.2 :: flatTs l := by simp [flatTs, encTs]
theorem flatTs_len (l : List TS) : (flatTs l).length = l.length * 3 := by
  induction l with
  | nil => rfl
  | cons x l ih =>
    rw [flatTs_cons]
    simp only [List.length_cons, ih]
    omega
theorem flatTs_snoc (l : List TS) (x : TS) : flatTs (l ++ [x]) = flatTs l ++ encTs x := by simp [flatTs]
theorem flatTs_append (l m : List TS) : flatTs (l ++ m) = flatTs l ++ flatTs m := by simp [flatTs]
theorem flatTs_at : ∀ {l : List TS} {j : Nat} {x : TS}, l[j]? = some x → (flatTs l)[j * 3]? = some (.int .i64 x.1.1) ∧ (flatTs l)[j * 3 + 1]? = some (.int .i64 x.1.2) ∧ (flatTs l)[j * 3 + 2]? = some (.bool x.2)
  | [], j, x, h => by simp at h
  | y :: l, j, x, h => by
    rw [flatTs_cons]
    cases j with
    | zero =>
      simp at h
      subst h
      exact ⟨rfl, rfl, rfl⟩
    | succ j =>
      have h1 : l[j]? = some x := by simpa using h
      have h2 := flatTs_at h1
      rw [show (j + 1) * 3 = j * 3 + 1 + 1 + 1 by omega]
      exact h2
theorem encTs_one (x : TS) : ∀ v ∈ encTs x, v.oneCell' = true := by
  intro v hv
  simp [encTs] at hv
  rcases hv with rfl | rfl | rfl <;> rfl

/-- a slice whose elements are the tests of a list -/
def InTs (w : World) (a : Option Addr) (l : List TS) : Prop :=
  0 < l.length → ∃ b off, a = some ⟨b, off, none⟩ ∧ b < w.heap.size ∧ ∀ j x, l[j]? = some x → w.cell? ⟨b, off + j * 3, none⟩ = some (.int .i64 x.1.1) ∧ w.cell? ⟨b, off + j * 3 + 1, none⟩ = some (.int .i64 x.1.2) ∧ w.cell? ⟨b, off + j * 3 + 2, none⟩ = some (.bool x.2)
theorem InTs.keep {w w' : World} {a : Option Addr} {l : List TS} (h : InTs w a l) (hs : w.heap.size ≤ w'.heap.size) (hk : ∀ b off, a = some ⟨b, off, none⟩ → b < w.heap.size → w'.heap[b]? = w.heap[b]?) : InTs w' a l := by
  intro h0
  obtain ⟨b, off, ha, hlt, hc⟩ := h h0
  have hk := hk b off ha hlt
  exact ⟨b, off, ha, Nat.lt_of_lt_of_le hlt hs, fun j x hj => ⟨(World.cell?_of_block hk).trans (hc j x hj).1, (World.cell?_of_block hk).trans (hc j x hj).2.1, (World.cell?_of_block hk).trans (hc j x hj).2.2⟩⟩
theorem InTs.below {w w' : World} {a : Option Addr} {l : List TS} (h : InTs w a l) (hb : Below w.heap.size w w') : InTs w' a l := h.keep hb.size fun b _ _ hlt => hb.block b hlt
theorem InTs.alloc {w : World} {a : Option Addr} {l : List TS} (h : InTs w a l) (o : Obj) : InTs (w.alloc o) a l := h.below ((Below.refl _ _).alloc (Nat.le_refl _) o)

/-- a slice of the call's own -/
def OwnTs (w : World) (base : Nat) (v : Value) (l : List TS) : Prop := w.ownsRow base 53 3 v l.length (flatTs l)
theorem info_ts : (Try.prog.info? 53).map (fun i => (i.zero, i.size, i.bytes)) = some (some (.agg #[.int .i64 0, .int .i64 0, .bool false]), 3, 24) := by kernel_rfl
theorem OwnTs.shape {w : World} {base : Nat} {v : Value} {l : List TS} (h : OwnTs w base v l) : ∃ a cap, v = .slice a l.length cap := by
  rcases h.2 with ⟨rfl, h0⟩ | ⟨g, cap, cur, rfl, _⟩
  · exact ⟨none, 0, by rw [h0]⟩
  · exact ⟨_, _, rfl⟩
theorem OwnTs.inTs {w : World} {base : Nat} {a : Option Addr} {n cap : Nat} {l : List TS} (h : OwnTs w base (.slice a n cap) l) : InTs w a l := by
  intro h0
  obtain ⟨a', cap', e⟩ := h.shape
  injection e with e1 e2 e3
  subst e2
  obtain ⟨g, rfl, _, hg, hc⟩ := rowX_at h h0
  refine ⟨g, 0, rfl, hg, fun j x hj => ?_⟩
  obtain ⟨h1, h2, h3⟩ := flatTs_at hj
  exact ⟨hc _ _ h1, by rw [Nat.add_assoc]; exact hc _ _ h2, by rw [Nat.add_assoc]; exact hc _ _ h3⟩
theorem OwnTs.alloc {w : World} {base : Nat} {v : Value} {l : List TS} (h : OwnTs w base v l) (o : Obj) : OwnTs (w.alloc o) base v l := World.ownsRow.alloc h o
theorem OwnTs.below {w w' : World} {base : Nat} {v : Value} {l : List TS} (h : OwnTs w base v l) (hb : Below w.heap.size w w') : OwnTs w' base v l :=
  World.ownsRow.kept h (row := none) ⟨hb.os, hb.tape, hb.output, hb.size, fun i hi _ => hb.block i hi⟩ (by cases hv : v.ownBlock <;> simp)
theorem OwnTs.mono {w : World} {base base' : Nat} {v : Value} {l : List TS} (h : OwnTs w base v l) (hb : base' ≤ base) : OwnTs w base' v l := row_mono h hb
theorem OwnTs.nil (w : World) (base : Nat) : OwnTs w base (.slice none 0 0) [] := World.ownsRow_nil _ _ _ _

/-- a slice of the call's own is handed back -/
def GivesTs (w : World) (l : List TS) (e : Ending) (w' : World) : Prop :=
  ∃ a cap, e = .returned (.slice a l.length cap) ∧ OwnTs w' w.heap.size (.slice a l.length cap) l ∧ Below w.heap.size w w'

/-- an argument of moderate size -/
def SmTs (w : World) (a : Option Addr) (l : List TS) (c : Nat) : Prop := InTs w a l ∧ (a = none → c = 0) ∧ l.length ≤ c ∧ l.length ≤ 4000000
theorem SmTs.below {w w' : World} {a : Option Addr} {l : List TS} {c : Nat} (h : SmTs w a l c) (hb : Below w.heap.size w w') : SmTs w' a l c := ⟨h.1.below hb, h.2⟩
theorem SmTs.alloc {w : World} {a : Option Addr} {l : List TS} {c : Nat} (h : SmTs w a l c) (o : Obj) : SmTs (w.alloc o) a l c := ⟨h.1.alloc o, h.2⟩
theorem SmTs.inTs {w : World} {a : Option Addr} {l : List TS} {c : Nat} (h : SmTs w a l c) : InTs w a l := h.1
theorem SmTs.len {w : World} {a : Option Addr} {l : List TS} {c : Nat} (h : SmTs w a l c) : l.length ≤ 4000000 := h.2.2.2
theorem OwnTs.smTs {w : World} {base : Nat} {a : Option Addr} {n cap : Nat} {l : List TS} (h : OwnTs w base (.slice a n cap) l) (h1 : l.length ≤ 4000000) : SmTs w a l cap := by
  obtain ⟨a', cap', e⟩ := h.shape
  injection e with e1 e2 e3
  subst e2
  exact ⟨h.inTs, rowX_none h, rowX_cap h, h1⟩
/-- an element of a slice of tests -/
theorem InTs.at_ {w : World} {a : Option Addr} {l : List TS} {j : Nat} (h : InTs w a l) (hj : j < l.length) : ∃ (b off : Nat) (f t : Int) (u : Bool), a = some ⟨b, off, none⟩ ∧ b < w.heap.size ∧ l[j]? = some ((f, t), u) ∧ w.cell? ⟨b, off + j * 3, none⟩ = some (.int .i64 f) ∧ w.cell? ⟨b, off + j * 3 + 1, none⟩ = some (.int .i64 t) ∧ w.cell? ⟨b, off + j * 3 + 2, none⟩ = some (.bool u) := by
  obtain ⟨b, off, ha, hlt, hc⟩ := h (by omega)
  have hx := List.getElem?_eq_getElem hj
  obtain ⟨h1, h2, h3⟩ := hc j _ hx
  exact ⟨b, off, _, _, _, ha, hlt, hx, h1, h2, h3⟩

/-- an argument of a law -/
def ArgTs (w : World) (a : Option Addr) (l : List TS) : Prop := InTs w a l ∧ l.length ≤ maxLen
theorem ArgTs.below {w w' : World} {a : Option Addr} {l : List TS} (h : ArgTs w a l) (hb : Below w.heap.size w w') : ArgTs w' a l := ⟨h.1.below hb, h.2⟩
theorem argTs_of {w : World} {x : Addr} {len cap : Nat} (hl : len ≤ cap) (hm : cap ≤ maxLen) (h : ∀ i, i < len → ∃ (f t : Int) (u : Bool), w.cell? (x.add (i * 3)) = some (.int .i64 f) ∧ w.cell? (x.add (i * 3 + 1)) = some (.int .i64 t) ∧ w.cell? (x.add (i * 3 + 2)) = some (.bool u)) : ∃ L : List TS, len = L.length ∧ ArgTs w (some x) L := by
  obtain ⟨f, hf⟩ := Go.Deep.choose_lt (n := len) (p := fun i (q : TS) => w.cell? (x.add (i * 3)) = some (.int .i64 q.1.1) ∧ w.cell? (x.add (i * 3 + 1)) = some (.int .i64 q.1.2) ∧ w.cell? (x.add (i * 3 + 2)) = some (.bool q.2)) (fun i hi => by obtain ⟨f, t, u, h1⟩ := h i hi; exact ⟨((f, t), u), h1⟩)
  refine ⟨(List.range len).map f, by simp, fun h0 => ?_, by simp; omega⟩
  simp at h0
  obtain ⟨b, off, spot⟩ := x
  have hspot : spot = none := by simpa [Addr.add] using World.cell?_spot (hf 0 (by omega)).1
  subst hspot
  have hadd : ∀ j, (⟨b, off, none⟩ : Addr).add j = ⟨b, off + j, none⟩ := fun j => by unfold Addr.add; split <;> simp_all
  refine ⟨b, off, rfl, World.block_lt_of_cell? w _ (hf 0 (by omega)).1, fun j y hj => ?_⟩
  obtain ⟨hlt, he⟩ := List.getElem?_eq_some_iff.1 hj
  simp at hlt he
  obtain ⟨h1, h2, h3⟩ := hf j hlt
  rw [hadd] at h1 h2 h3
  subst he
  exact ⟨h1, h2, h3⟩

theorem ts_take {S : List TS} {k : Nat} {x : TS} (h : S[k]? = some x) : S.take (k + 1) = S.take k ++ [x] := by
  obtain ⟨hlt, he⟩ := List.getElem?_eq_some_iff.1 h
  rw [List.take_succ_eq_append_getElem hlt, he]
theorem gap3_at {p : List Value} {k : Nat} {y0 y1 y2 : Value} {r : List Value} (h : p.length = k * 3) : (p ++ y0 :: y1 :: y2 :: r)[k * 3]? = some y0 ∧ (p ++ y0 :: y1 :: y2 :: r)[k * 3 + 1]? = some y1 ∧ (p ++ y0 :: y1 :: y2 :: r)[k * 3 + 2]? = some y2 := by
  refine ⟨?_, ?_, ?_⟩
  · rw [List.getElem?_append_right (by omega), h, Nat.sub_self]; rfl
  · rw [List.getElem?_append_right (by omega), h, show k * 3 + 1 - k * 3 = 1 by omega]; rfl
  · rw [List.getElem?_append_right (by omega), h, show k * 3 + 2 - k * 3 = 2 by omega]; rfl
theorem gap3_set {p : List Value} {k : Nat} {y0 y1 y2 u0 u1 u2 : Value} {r : List Value} (h : p.length = k * 3) : (((p ++ y0 :: y1 :: y2 :: r).set (k * 3) u0).set (k * 3 + 1) u1).set (k * 3 + 2) u2 = (p ++ [u0, u1, u2]) ++ r := by
  rw [List.set_append_right _ _ (by omega), h, Nat.sub_self, List.set_append_right _ _ (by omega), h, show k * 3 + 1 - k * 3 = 1 by omega, List.set_append_right _ _ (by omega), h, show k * 3 + 2 - k * 3 = 2 by omega]
  simp
theorem gap3_rest {p rest : List Value} {k n : Nat} (h : (p ++ rest).length = n * 3) (hp : p.length = k * 3) (hk : k < n) : ∃ y0 y1 y2 r, rest = y0 :: y1 :: y2 :: r := by
  rw [List.length_append, hp] at h
  match rest, h with
  | [], h => simp at h; omega
  | [_], h => simp at h; omega
  | [_, _], h => simp at h; omega
  | y0 :: y1 :: y2 :: r, _ => exact ⟨y0, y1, y2, r, rfl⟩

end Go.Proofs.Ytpldjihajclblaa

/-
  Slices of rules: one that reads as a list of lists of tests, one of the call's own. By an AI agent.
-/
namespace Go.Proofs.Ytpldjihajclblaa
open Go.RowKit
set_option linter.unusedVariables false

/-- an element of a slice of the call's own: the rule, and the value of its tests -/
abbrev XU := List TS × Value
def valsU (q : List XU) : List Value := q.map Prod.snd
def rulesU (q : List XU) : List (List TS) := q.map Prod.fst
theorem rulesU_len (q : List XU) : (rulesU q).length = q.length := by simp [rulesU]
theorem valsU_len (q : List XU) : (valsU q).length = q.length := by simp [valsU]
theorem valsU_at {q : List XU} {j : Nat} {p : XU} (h : q[j]? = some p) : (valsU q)[j]? = some p.2 := by simp [valsU, h]
theorem rulesU_at {q : List XU} {j : Nat} {x : List TS} (h : (rulesU q)[j]? = some x) : ∃ p, q[j]? = some p ∧ p.1 = x := by
  unfold rulesU at h
  rw [List.getElem?_map] at h
  cases hq : q[j]? with
  | none => rw [hq] at h; cases h
  | some p => rw [hq] at h; exact ⟨p, rfl, by injection h⟩

/-- a slice whose elements are the rules of a list -/
def InRu (w : World) (a : Option Addr) (R : List (List TS)) : Prop :=
  0 < R.length → ∃ b off, a = some ⟨b, off, none⟩ ∧ b < w.heap.size ∧ ∀ j l, R[j]? = some l → ∃ a' c', w.cell? ⟨b, off + j, none⟩ = some (.slice a' l.length c') ∧ (a' = none → c' = 0) ∧ l.length ≤ c' ∧ InTs w a' l
theorem InRu.below {w w' : World} {a : Option Addr} {R : List (List TS)} (h : InRu w a R) (hb : Below w.heap.size w w') : InRu w' a R := by
  intro h0
  obtain ⟨b, off, ha, hlt, hc⟩ := h h0
  refine ⟨b, off, ha, Nat.lt_of_lt_of_le hlt hb.size, fun j l hj => ?_⟩
  obtain ⟨a', c', h1, h2, h3, h4⟩ := hc j l hj
  exact ⟨a', c', (World.cell?_of_block (hb.block b hlt)).trans h1, h2, h3, h4.below hb⟩
theorem InRu.alloc {w : World} {a : Option Addr} {R : List (List TS)} (h : InRu w a R) (o : Obj) : InRu (w.alloc o) a R := h.below ((Below.refl _ _).alloc (Nat.le_refl _) o)

/-- an argument of a law -/
def ArgRu (w : World) (a : Option Addr) (R : List (List TS)) : Prop := InRu w a R ∧ R.length ≤ maxLen ∧ ∀ l ∈ R, l.length ≤ maxLen
theorem ArgRu.below {w w' : World} {a : Option Addr} {R : List (List TS)} (h : ArgRu w a R) (hb : Below w.heap.size w w') : ArgRu w' a R := ⟨h.1.below hb, h.2⟩
theorem argRu_of {w : World} {x : Addr} {len cap : Nat} (hl : len ≤ cap) (hm : cap ≤ maxLen) (h : ∀ i, i < len → ∃ (a' : Option Addr) (l : List TS) (c' : Nat), w.cell? (x.add i) = some (.slice a' l.length c') ∧ (a' = none → c' = 0) ∧ l.length ≤ c' ∧ ArgTs w a' l) : ∃ L : List (List TS), len = L.length ∧ ArgRu w (some x) L := by
  obtain ⟨f, hf⟩ := Go.Deep.choose_lt (n := len) (p := fun i (q : Option Addr × List TS × Nat) => w.cell? (x.add i) = some (.slice q.1 q.2.1.length q.2.2) ∧ (q.1 = none → q.2.2 = 0) ∧ q.2.1.length ≤ q.2.2 ∧ ArgTs w q.1 q.2.1) (fun i hi => by obtain ⟨a', l, c', h1⟩ := h i hi; exact ⟨(a', l, c'), h1⟩)
  refine ⟨(List.range len).map fun i => (f i).2.1, by simp, fun h0 => ?_, by simp; omega, fun y hy => ?_⟩
  · simp at h0
    obtain ⟨b, off, spot⟩ := x
    have hspot : spot = none := by simpa [Addr.add] using World.cell?_spot (hf 0 (by omega)).1
    subst hspot
    have hadd : ∀ j, (⟨b, off, none⟩ : Addr).add j = ⟨b, off + j, none⟩ := fun j => by unfold Addr.add; split <;> simp_all
    refine ⟨b, off, rfl, World.block_lt_of_cell? w _ (hf 0 (by omega)).1, fun j y hj => ?_⟩
    obtain ⟨hlt, he⟩ := List.getElem?_eq_some_iff.1 hj
    simp at hlt he
    obtain ⟨h1, h2, h3, h4⟩ := hf j hlt
    rw [hadd] at h1
    subst he
    exact ⟨_, _, h1, h2, h3, h4.1⟩
  · obtain ⟨i, hi, rfl⟩ := List.mem_map.1 hy
    exact (hf i (List.mem_range.1 hi)).2.2.2.2

/-- an argument of moderate size -/
def SmRu (w : World) (a : Option Addr) (R : List (List TS)) (c : Nat) : Prop := InRu w a R ∧ (a = none → c = 0) ∧ R.length ≤ c ∧ R.length ≤ 4000000 ∧ ∀ l ∈ R, l.length ≤ 4000000
theorem SmRu.below {w w' : World} {a : Option Addr} {R : List (List TS)} {c : Nat} (h : SmRu w a R c) (hb : Below w.heap.size w w') : SmRu w' a R c := ⟨h.1.below hb, h.2⟩
theorem SmRu.alloc {w : World} {a : Option Addr} {R : List (List TS)} {c : Nat} (h : SmRu w a R c) (o : Obj) : SmRu (w.alloc o) a R c := ⟨h.1.alloc o, h.2⟩
theorem SmRu.len {w : World} {a : Option Addr} {R : List (List TS)} {c : Nat} (h : SmRu w a R c) : R.length ≤ 4000000 := h.2.2.2.1
/-- an element of a slice of moderate size -/
theorem SmRu.at_ {w : World} {a : Option Addr} {R : List (List TS)} {c j : Nat} (h : SmRu w a R c) (hj : j < R.length) : ∃ (b off : Nat) (l : List TS) (a' : Option Addr) (c' : Nat), a = some ⟨b, off, none⟩ ∧ b < w.heap.size ∧ R[j]? = some l ∧ w.cell? ⟨b, off + j, none⟩ = some (.slice a' l.length c') ∧ SmTs w a' l c' := by
  obtain ⟨b, off, ha, hlt, hc⟩ := h.1 (by omega)
  have hx := List.getElem?_eq_getElem hj
  obtain ⟨a', c', h1, h3, h4, h5⟩ := hc j _ hx
  have h6 := h.2.2.2.2 _ (List.mem_of_getElem? hx)
  exact ⟨b, off, _, a', c', ha, hlt, hx, h1, h5, h3, h4, h6⟩

/-- a slice of the call's own, its elements' tests in other blocks of the call's own -/
structure OwnRu (w : World) (lo : Nat) (v : Value) (q : List XU) : Prop where
  out : w.ownsRow lo 50 1 v q.length (valsU q)
  row : ∀ p ∈ q, OwnTs w lo p.2 p.1
  apart : ∀ p ∈ q, ∀ k, p.2.ownBlock = some k → v.ownBlock ≠ some k
  dis : q.Pairwise fun p r => ∀ k, p.2.ownBlock = some k → r.2.ownBlock ≠ some k
theorem info_ru : (Try.prog.info? 50).map (fun i => (i.zero, i.size, i.bytes)) = some (some (.agg #[.slice none 0 0]), 1, 24) := by kernel_rfl
theorem OwnRu.below {w w' : World} {lo : Nat} {v : Value} {q : List XU} (h : OwnRu w lo v q) (hb : Below w.heap.size w w') : OwnRu w' lo v q :=
  ⟨World.ownsRow.kept h.out (row := none) ⟨hb.os, hb.tape, hb.output, hb.size, fun i hi _ => hb.block i hi⟩ (by cases hv : v.ownBlock <;> simp), fun p hp => (h.row p hp).below hb, h.apart, h.dis⟩
theorem OwnRu.mono {w : World} {lo lo' : Nat} {v : Value} {q : List XU} (h : OwnRu w lo v q) (hb : lo' ≤ lo) : OwnRu w lo' v q :=
  ⟨row_mono h.out hb, fun p hp => (h.row p hp).mono hb, h.apart, h.dis⟩
theorem OwnRu.nil (w : World) (base : Nat) : OwnRu w base (.slice none 0 0) [] := ⟨World.ownsRow_nil _ _ _ _, (fun p h => by cases h), (fun p h => by cases h), List.Pairwise.nil⟩
theorem OwnRu.shape {w : World} {lo : Nat} {v : Value} {q : List XU} (h : OwnRu w lo v q) : ∃ a cap, v = .slice a q.length cap := by
  rcases h.out.2 with ⟨rfl, h0⟩ | ⟨g, cap, cur, rfl, _⟩
  · exact ⟨none, 0, by rw [h0]⟩
  · exact ⟨_, _, rfl⟩
theorem OwnRu.inRu {w : World} {lo : Nat} {a : Option Addr} {n cap : Nat} {q : List XU} (h : OwnRu w lo (.slice a n cap) q) : InRu w a (rulesU q) := by
  intro h0
  obtain ⟨a', cap', e⟩ := h.shape
  injection e with e1 e2 e3
  subst e2
  rw [rulesU_len] at h0
  obtain ⟨g, rfl, _, hg, hc⟩ := rowX_at h.out h0
  refine ⟨g, 0, rfl, hg, fun j x hj => ?_⟩
  obtain ⟨p, hp, rfl⟩ := rulesU_at hj
  have ho := h.row p (List.mem_of_getElem? hp)
  obtain ⟨a1, c1, e1⟩ := ho.shape
  rw [e1] at ho
  exact ⟨a1, c1, by rw [hc _ _ (valsU_at hp), e1], rowX_none ho, rowX_cap ho, ho.inTs⟩
theorem OwnRu.smRu {w : World} {lo : Nat} {a : Option Addr} {n cap : Nat} {q : List XU} {R : List (List TS)} (h : OwnRu w lo (.slice a n cap) q) (hq : rulesU q = R) (h1 : R.length ≤ 4000000) (h2 : ∀ x ∈ R, x.length ≤ 4000000) : SmRu w a R cap := by
  subst hq
  obtain ⟨a', cap', e⟩ := h.shape
  injection e with e1 e2 e3
  subst e2
  exact ⟨h.inRu, rowX_none h.out, by rw [rulesU_len]; exact rowX_cap h.out, h1, h2⟩

/-- .. in blocks from lo on and below hi -/
def OwnHRu (w : World) (lo hi : Nat) (v : Value) (q : List XU) : Prop := OwnRu w lo v q ∧ (∀ k, v.ownBlock = some k → k < hi) ∧ ∀ p ∈ q, ∀ k, p.2.ownBlock = some k → k < hi
theorem OwnHRu.of {w : World} {lo : Nat} {v : Value} {q : List XU} (h : OwnRu w lo v q) : OwnHRu w lo w.heap.size v q :=
  ⟨h, fun k hk => (World.ownsRow.lt h.out k hk).2, fun p hp k hk => (World.ownsRow.lt (h.row p hp) k hk).2⟩
theorem OwnHRu.below {w w' : World} {lo hi : Nat} {v : Value} {q : List XU} (h : OwnHRu w lo hi v q) (hb : Below w.heap.size w w') : OwnHRu w' lo hi v q := ⟨h.1.below hb, h.2⟩
theorem OwnHRu.chg {w w' : World} {lo hi lo' hi' : Nat} {v : Value} {q : List XU} (h : OwnHRu w lo hi v q) (hc : Chg w w' lo' hi') (hd : hi ≤ lo' ∨ hi' ≤ lo) : OwnHRu w' lo hi v q :=
  ⟨⟨row_chg h.1.out hc fun k hk => by have := (World.ownsRow.lt h.1.out k hk).1; have := h.2.1 k hk; omega,
    fun p hp => row_chg (h.1.row p hp) hc fun k hk => by have := (World.ownsRow.lt (h.1.row p hp) k hk).1; have := h.2.2 p hp k hk; omega, h.1.apart, h.1.dis⟩, h.2⟩

/-- sizes of an argument -/
def ruzT (R : List (List TS)) (k : Nat) : Nat := R.length + ((R.take k).map List.length).sum
def ruz (R : List (List TS)) : Nat := ruzT R R.length
theorem ruzT_succ {R : List (List TS)} {k : Nat} {l : List TS} (h : R[k]? = some l) : ruzT R (k + 1) = ruzT R k + l.length := by
  unfold ruzT
  rw [take_one h]
  simp
  omega
theorem ruzT_le {R : List (List TS)} {j k : Nat} (h : j ≤ k) : ruzT R j ≤ ruzT R k := by
  obtain ⟨d, rfl⟩ : ∃ d, k = j + d := ⟨k - j, by omega⟩
  unfold ruzT
  rw [List.take_add]
  simp
theorem ruz_len (R : List (List TS)) : R.length ≤ ruz R := by unfold ruz ruzT; omega
theorem ruz_mem {R : List (List TS)} {l : List TS} (h : l ∈ R) : l.length ≤ ruz R := by
  obtain ⟨k, hk⟩ := List.getElem?_of_mem h
  have h1 := ruzT_succ hk
  have h2 := ruzT_le (R := R) (show k + 1 ≤ R.length from (List.getElem?_eq_some_iff.1 hk).1)
  unfold ruz
  omega
theorem ru_len {R : List (List TS)} (hz : ruz R ≤ 1048576) : R.length ≤ 4000000 := by have := ruz_len R; omega
theorem ru_mem {R : List (List TS)} (hz : ruz R ≤ 1048576) : ∀ x ∈ R, x.length ≤ 4000000 := fun x hx => by have := ruz_mem hx; omega
def ruzR (R : List (List TS)) (left : Nat) : Int := if ruz R ≤ left then (left : Int) - (ruz R : Int) else -1
theorem ruzR_yes {R : List (List TS)} {left : Nat} (h : ruz R ≤ left) : ruzR R left = ((left - ruz R : Nat) : Int) := by unfold ruzR; rw [if_pos h]; omega
theorem ruzR_no {R : List (List TS)} {left : Nat} (h : ¬ ruz R ≤ left) : ruzR R left = -1 := by unfold ruzR; rw [if_neg h]

/-- a slice of rules of the call's own is handed back, in a rule set -/
def GivesRu (w : World) (R : List (List TS)) (e : Ending) (w' : World) : Prop :=
  ∃ a cap q, e = .returned (.slice a R.length cap) ∧ rulesU q = R ∧ OwnRu w' w.heap.size (.slice a R.length cap) q ∧ Below w.heap.size w w'
def GivesRs (w : World) (R : List (List TS)) (e : Ending) (w' : World) : Prop :=
  ∃ a cap q, e = .returned (.agg #[.slice a R.length cap]) ∧ rulesU q = R ∧ OwnRu w' w.heap.size (.slice a R.length cap) q ∧ Below w.heap.size w w'

end Go.Proofs.Ytpldjihajclblaa

/-
  Rule sets: what the laws' own szRuleSet, toRuleSet and eqRuleSet (and those of rules and tests) do. By an AI agent.
-/
namespace Go.Proofs.Ytpldjihajclblaa
open Go.RowKit
set_option linter.unusedVariables false

theorem OwnTs.setCell {w : World} {lo : Nat} {v : Value} {l : List TS} (h : OwnTs w lo v l) (p : Addr) (u : Value) (hp : p.block < lo) : OwnTs (w.setCell p u) lo v l := row_setCell h p u hp
theorem rint {k : IntKind} {a b : Int} (h : a = b) : Ending.returned (.int k a) = .returned (.int k b) := by rw [h]
theorem grown_3 {a b d : World} {r : Option Nat} (h1 : a.grownBy b r) (h2 : b.grownBy d r) : a.grownBy d r :=
  ⟨h2.os.trans h1.os, h2.tape.trans h1.tape, h2.output.trans h1.output, Nat.le_trans h1.size h2.size, fun k hk hne => (h2.block k (Nat.lt_of_lt_of_le hk h1.size) hne).trans (h1.block k hk hne)⟩
theorem info_get {i : Option TypeInfo} {z : Value} {n b : Nat} (h : i.map (fun i => (i.zero, i.size, i.bytes)) = some (some z, n, b)) : ∃ i0, i = some i0 ∧ i0.zero = some z ∧ i0.size = n ∧ i0.bytes = b := by
  cases i with
  | none => cases h
  | some i0 => simp at h; exact ⟨i0, rfl, h.1, h.2.1, h.2.2⟩

theorem OwnRu.setCell {w : World} {lo : Nat} {v : Value} {q : List XU} (h : OwnRu w lo v q) (p : Addr) (u : Value) (hp : p.block < lo) : OwnRu (w.setCell p u) lo v q :=
  ⟨row_setCell h.out p u hp, fun r hr => row_setCell (h.row r hr) p u hp, h.apart, h.dis⟩
theorem valsU_snoc (q : List XU) (x : XU) : valsU (q ++ [x]) = valsU q ++ [x.2] := by simp [valsU]

end Go.Proofs.Ytpldjihajclblaa

/-
  What is read of a slice of rules of the call's own that lies in a span of blocks. By an AI agent.
-/
namespace Go.Proofs.Ytpldjihajclblaa
open Go.RowKit
set_option linter.unusedVariables false

theorem OwnHRu.smRu {w : World} {lo hi : Nat} {a : Option Addr} {n cap : Nat} {q : List XU} {R : List (List TS)} (h : OwnHRu w lo hi (.slice a n cap) q) (hq : rulesU q = R) (h1 : R.length ≤ 4000000) (h2 : ∀ x ∈ R, x.length ≤ 4000000) : SmRu w a R cap := h.1.smRu hq h1 h2
theorem OwnHRu.inRu {w : World} {lo hi : Nat} {a : Option Addr} {n cap : Nat} {q : List XU} {R : List (List TS)} (h : OwnHRu w lo hi (.slice a n cap) q) (hq : rulesU q = R) : InRu w a R := by rw [← hq]; exact h.1.inRu
theorem ArgRu.inRu {w : World} {a : Option Addr} {R : List (List TS)} (h : ArgRu w a R) : InRu w a R := h.1
theorem ArgTs.inTs {w : World} {a : Option Addr} {l : List TS} (h : ArgTs w a l) : InTs w a l := h.1
theorem rl_len {l : List TS} (h : l.length ≤ 1048576) : l.length ≤ 4000000 := by omega

end Go.Proofs.Ytpldjihajclblaa

/-
  What impl.isFeature, Rule.isValid and IsValidRules answer. By an AI agent.
-/
namespace Go.Proofs.Ytpldjihajclblaa
open Go.RowKit
set_option linter.unusedVariables false

theorem BlkV.one0 {w : World} {g : Nat} {t : TypeId} {a : Value} (h : BlkV w g t #[a]) : w.cell? ⟨g, 0, none⟩ = some a := h.cell 0
theorem uwithin (lo hi x : Int) (r : Bool) (w : World) (hr : decide (lo ≤ x ∧ x ≤ hi) = r) :
    Calls Try.prog 34 #[.int .i64 lo, .int .i64 hi, .slice (some ⟨w.heap.size, 0, none⟩) 1 1] (w.alloc (.cells #[.int .i64 x] 3)) fun e w' => e = .returned (.bool r) ∧ w' = w.alloc (.cells #[.int .i64 x] 3) := by
  refine within_is lo hi _ 1 [x] r _ (by simp) ?_ (by rw [← hr]; simp [withinB])
  exact InI.new w [x]
theorem uwithin2 (lo hi x : Int) (r : Bool) (o1 : Obj) (w : World) (hr : decide (lo ≤ x ∧ x ≤ hi) = r) :
    Calls Try.prog 34 #[.int .i64 lo, .int .i64 hi, .slice (some ⟨w.heap.size + 1, 0, none⟩) 1 1] ((w.alloc o1).alloc (.cells #[.int .i64 x] 3)) fun e w' => e = .returned (.bool r) ∧ w' = (w.alloc o1).alloc (.cells #[.int .i64 x] 3) := by
  have h := uwithin lo hi x r (w.alloc o1) hr
  simpa using h

set_option maxRecDepth 100000 in
theorem feat_is (x : Int) (r : Bool) (w : World) (hr : decide (0 ≤ x ∧ x ≤ 5) = r) :
    Calls Try.prog 51 #[.int .i64 x] w fun e w' => e = .returned (.bool r) ∧ Below w.heap.size w w' := by
  have HR := Lib.hid hr
  clear hr
  go_enter Try.func51, Try.ntmps51
  go_wp2_with (go_at_call 34; ((with_reducible refine (uwithin _ _ _ _ _ HR.out).mono ?_); rintro e w' ⟨rfl, rfl⟩))
  go_ret
  exact ⟨rfl, (Below.refl _ _).alloc (Nat.le_refl _) _⟩

set_option maxRecDepth 100000 in
set_option maxHeartbeats 2000000 in
theorem rv_impl (a : Option Addr) (c : Nat) (l : List TS) (r : Bool) (w : World) (hr : vrB l = r) (h : SmTs w a l c) :
    Calls Try.prog 35 #[.agg #[.slice a l.length c]] w fun e w' => e = .returned (.bool r) ∧ Below w.heap.size w w' := by
  have HR := Lib.hid hr
  have hl := h.len
  obtain ⟨w1, hw1⟩ : ∃ w1, w1 = (w.alloc (.cells #[.slice a l.length c] 50)).alloc (.cells #[.int .i64 (l.length : Int)] 3) := ⟨_, rfl⟩
  have HW := Lib.hid hw1
  have HB1 := Lib.hid (show Below w.heap.size w w1 by rw [hw1]; exact ((Below.refl w.heap.size w).alloc (Nat.le_refl _) _).alloc (by simp) _)
  have HBX := Lib.hid (show BlkV w1 w.heap.size 50 #[.slice a l.length c] by rw [hw1]; exact (BlkV.new _ _ _).alloc _)
  have HIN := Lib.hid (h.inTs.below HB1.out)
  have HGL := Lib.hid (show w.heap.size < w1.heap.size by rw [hw1]; simp; omega)
  by_cases h13 : 1 ≤ l.length ∧ l.length ≤ 3
  case neg =>
    obtain rfl : false = r := by rw [← HR.out, vr_bad h13]
    have HL := Lib.hid (show decide ((1 : Int) ≤ (l.length : Int) ∧ (l.length : Int) ≤ 3) = false from decide_eq_false (by omega))
    clear hr h hw1 h13
    go_enter Try.func35, Try.ntmps35
    go_wp2_with (go_at_call 34; ((with_reducible refine (uwithin2 _ _ _ _ _ _ HL.out).mono ?_); rintro e w' ⟨rfl, rfl⟩))
    go_ret
    exact ⟨rfl, by rw [← HW.out]; exact HB1.out⟩
  case pos =>
  have HL := Lib.hid (show decide ((1 : Int) ≤ (l.length : Int) ∧ (l.length : Int) ≤ 3) = true from decide_eq_true (by omega))
  have HR2 := Lib.hid (show (l.all vtB && ascB l) = r by rw [← HR.out, vr_ok h13])
  have q0 := HBX.out.one0
  clear hr h hw1 h13
  go_enter Try.func35, Try.ntmps35
  go_wp2_with (go_at_call 34; ((with_reducible refine (uwithin2 _ _ _ _ _ _ HL.out).mono ?_); rintro e w' ⟨rfl, rfl⟩); rw [← HW.out]; refine Hid.out ?_)
  refine Lib.hid ?_
  go_wp2
  go_loopw [14] (fun i wr => ∃ k : Nat, k ≤ l.length ∧ i = .int .i64 k ∧ (l.take k).all vtB = true ∧ ascB (l.take k) = true ∧ Below w1.heap.size w1 wr) (fun i _ => l.length - (intOf i).toNat)
  case atStart => exact ⟨0, Nat.zero_le _, rfl, rfl, rfl, Below.refl _ _⟩
  case round =>
    obtain ⟨k, hk, rfl, hall, hasc, hb⟩ := hrel
    have HALL := Lib.hid hall
    have HASC := Lib.hid hasc
    have HB := Lib.hid hb
    clear hall hasc hb q0
    by_cases hlt : k < l.length
    · obtain ⟨b, off, f, t, u, rfl, hbw, hx, c0, c1, c2⟩ := (HIN.out.below HB.out).at_ hlt
      have HX := Lib.hid hx
      have HBW := Lib.hid hbw
      obtain ⟨W1, hW1⟩ : ∃ W1, W1 = wr.alloc (.cells #[.int .i64 f, .int .i64 t, .bool u] 53) := ⟨_, rfl⟩
      have HWB := Lib.hid (show Below wr.heap.size wr W1 by rw [hW1]; exact (Below.refl _ _).alloc (Nat.le_refl _) _)
      have HT4 := Lib.hid (show BlkV W1 wr.heap.size 53 #[.int .i64 f, .int .i64 t, .bool u] by rw [hW1]; exact BlkV.new _ _ _)
      have x0 := HT4.out.three0
      have HWW := Lib.hid hW1
      clear hx hbw hW1
      obtain ⟨fb, hfb⟩ : ∃ fb, decide (0 ≤ f ∧ f ≤ 5) = fb := ⟨_, rfl⟩
      have HFB := Lib.hid hfb
      obtain ⟨tb, htb⟩ : ∃ tb, okT t = tb := ⟨_, rfl⟩
      have HTB := Lib.hid htb
      clear hfb htb
      cases fb
      · obtain rfl : false = r := by rw [← HR.out, vr_no HX.out (vt_feat (of_decide_eq_false HFB.out))]
        go_wp2_with (first
          | (go_at_call 51; rw [← HWW.out]; ((with_reducible refine (feat_is _ _ _ HFB.out).mono ?_); rintro e w2 ⟨rfl, hb2⟩; have HB2 := Lib.hid (HWB.out.trans (hb2.mono HWB.out.size)); clear hb2)))
        go_ret
        exact ⟨rfl, HB1.out.trans ((HB.out.trans (HB2.out.mono HB.out.size)).mono HB1.out.size)⟩
      have hf5 := of_decide_eq_true HFB.out
      cases tb
      · obtain rfl : false = r := by rw [← HR.out, vr_no HX.out (vt_thr (fun e => by have := HTB.out; simp [okT, e.1, e.2] at this))]
        clear hf5
        go_wp2_with (first
          | (go_at_call 51; rw [← HWW.out]; ((with_reducible refine (feat_is _ _ _ HFB.out).mono ?_); rintro e w2 ⟨rfl, hb2⟩; have x1 := (HT4.out.below hb2).three1; have HB2 := Lib.hid (HWB.out.trans (hb2.mono HWB.out.size)); clear hb2))
          | (go_at_call 52; (with_reducible refine (threshold_is t _ _ HTB.out).mono ?_); rintro e w3 ⟨rfl, rfl⟩))
        go_ret
        exact ⟨rfl, HB1.out.trans ((HB.out.trans (HB2.out.mono HB.out.size)).mono HB1.out.size)⟩
      have HVT := Lib.hid (show vtB ((f, t), u) = true from vt_yes hf5 (by have := HTB.out; simpa [okT] using this))
      clear hf5
      by_cases h0 : k = 0
      · subst h0
        rw [Nat.zero_mul, Nat.add_zero] at c0 c1 c2
        have d0 : decide ((0 : Int) < 0) = false := rfl
        go_wp2_with (first
          | (go_at_call 51; rw [← HWW.out]; ((with_reducible refine (feat_is _ _ _ HFB.out).mono ?_); rintro e w2 ⟨rfl, hb2⟩; have x1 := (HT4.out.below hb2).three1; have HB2 := Lib.hid (HWB.out.trans (hb2.mono HWB.out.size)); clear hb2))
          | (go_at_call 52; (with_reducible refine (threshold_is t _ _ HTB.out).mono ?_); rintro e w3 ⟨rfl, rfl⟩; refine Hid.out ?_))
        refine Lib.hid ?_
        go_wp2
        go_quiet (fail)
        go_wp2
        go_roundw
        case rel => exact ⟨0 + 1, by omega, by go_num, all_take HALL.out HX.out HVT.out, asc_take1 l, (HB.out.trans (HB2.out.mono HB.out.size)).trans (quiet_f _ _ _)⟩
        case measure => simp [intOf]; omega
      · obtain ⟨j, rfl⟩ : ∃ j, k = j + 1 := ⟨k - 1, by omega⟩
        obtain ⟨b', off', f', t', u', hb', hbw', hy, e0, e1, e2⟩ := (HIN.out.below HB.out).at_ (show j < l.length by omega)
        injection hb' with hb'
        injection hb' with hbb hoo
        subst hbb hoo
        have HY := Lib.hid hy
        have d0 : decide ((0 : Int) < (j : Int) + 1) = true := decide_eq_true (by omega)
        clear hy e1 e2 hbw' h0
        obtain ⟨ab, hab⟩ : ∃ ab, decide (f ≤ f') = ab := ⟨_, rfl⟩
        have HAB := Lib.hid hab
        clear hab
        have HE0 := Lib.hid (fun (W : World) (hW : Below wr.heap.size wr W) => (hW.cell (p := ⟨b, off + j * 3, none⟩) HBW.out).trans e0)
        have HQB := Lib.hid (fun (W : World) (hW : Below wr.heap.size wr W) => (HBX.out.below (HB.out.trans (hW.mono HB.out.size))).one0)
        clear e0
        cases ab
        · have HLT := Lib.hid (of_decide_eq_false HAB.out)
          go_wp2_with (first
            | (go_at_call 51; rw [← HWW.out]; ((with_reducible refine (feat_is _ _ _ HFB.out).mono ?_); rintro e w2 ⟨rfl, hb2⟩; have z0 := (HT4.out.below hb2).three0; have x1 := (HT4.out.below hb2).three1; have HB2 := Lib.hid (HWB.out.trans (hb2.mono HWB.out.size)); have y0 := HE0.out _ HB2.out; have q0 := HQB.out _ HB2.out; clear hb2))
            | (go_at_call 52; (with_reducible refine (threshold_is t _ _ HTB.out).mono ?_); rintro e w3 ⟨rfl, rfl⟩; refine Hid.out ?_))
          refine Lib.hid ?_
          have hab : decide (f ≤ f') = false := HAB.out
          go_wp2
          go_quiet (fail)
          go_wp2
          go_roundw
          case rel =>
            refine ⟨j + 1 + 1, by omega, by go_num, all_take HALL.out HX.out HVT.out, ?_, (HB.out.trans (HB2.out.mono HB.out.size)).trans (quiet_f _ _ _)⟩
            rw [asc_step HASC.out HY.out HX.out]
            have := HLT.out
            exact decide_eq_true (by show f' < f; omega)
          case measure => simp [intOf]; omega
        · have HLT := Lib.hid (of_decide_eq_true HAB.out)
          obtain rfl : false = r := by
            rw [← HR.out, vr_nasc (k := j + 1 + 1) (by rw [asc_step HASC.out HY.out HX.out]; have := HLT.out; exact decide_eq_false (by show ¬ f' < f; omega))]
          go_wp2_with (first
            | (go_at_call 51; rw [← HWW.out]; ((with_reducible refine (feat_is _ _ _ HFB.out).mono ?_); rintro e w2 ⟨rfl, hb2⟩; have z0 := (HT4.out.below hb2).three0; have x1 := (HT4.out.below hb2).three1; have HB2 := Lib.hid (HWB.out.trans (hb2.mono HWB.out.size)); have y0 := HE0.out _ HB2.out; have q0 := HQB.out _ HB2.out; clear hb2))
            | (go_at_call 52; (with_reducible refine (threshold_is t _ _ HTB.out).mono ?_); rintro e w3 ⟨rfl, rfl⟩; refine Hid.out ?_))
          refine Lib.hid ?_
          have hab : decide (f ≤ f') = true := HAB.out
          go_wp2
          go_quiet (fail)
          go_wp2
          go_ret
          exact ⟨rfl, HB1.out.trans (((HB.out.trans (HB2.out.mono HB.out.size)).trans (quiet_f _ _ _)).mono HB1.out.size)⟩
    · obtain rfl : k = l.length := by omega
      obtain rfl : true = r := by
        rw [← HR2.out]
        have h1 := HALL.out
        have h2 := HASC.out
        rw [List.take_length] at h1 h2
        rw [h1, h2]; rfl
      go_wp2
      go_ret
      exact ⟨rfl, HB1.out.trans (HB.out.mono HB1.out.size)⟩

set_option maxRecDepth 100000 in
set_option maxHeartbeats 2000000 in
theorem vs_impl (a : Option Addr) (c : Nat) (R : List (List TS)) (r : Bool) (w : World) (hr : vsB R = r) (h : SmRu w a R c) :
    Calls Try.prog 18 #[.agg #[.slice a R.length c]] w fun e w' => e = .returned (.bool r) ∧ Below w.heap.size w w' := by
  have HR := Lib.hid hr
  have hl := h.len
  obtain ⟨w1, hw1⟩ : ∃ w1, w1 = (w.alloc (.cells #[.slice a R.length c] 26)).alloc (.cells #[.int .i64 (R.length : Int)] 3) := ⟨_, rfl⟩
  have HW := Lib.hid hw1
  have HB1 := Lib.hid (show Below w.heap.size w w1 by rw [hw1]; exact ((Below.refl w.heap.size w).alloc (Nat.le_refl _) _).alloc (by simp) _)
  have HBX := Lib.hid (show BlkV w1 w.heap.size 26 #[.slice a R.length c] by rw [hw1]; exact (BlkV.new _ _ _).alloc _)
  have HS := Lib.hid (h.below HB1.out)
  by_cases h13 : 1 ≤ R.length ∧ R.length ≤ 3
  case neg =>
    obtain rfl : false = r := by rw [← HR.out, vs_bad h13]
    have HL := Lib.hid (show decide ((1 : Int) ≤ (R.length : Int) ∧ (R.length : Int) ≤ 3) = false from decide_eq_false (by omega))
    clear hr h hw1 h13
    go_enter Try.func18, Try.ntmps18
    go_wp2_with (go_at_call 34; ((with_reducible refine (uwithin2 _ _ _ _ _ _ HL.out).mono ?_); rintro e w' ⟨rfl, rfl⟩))
    go_ret
    exact ⟨rfl, by rw [← HW.out]; exact HB1.out⟩
  case pos =>
  have HL := Lib.hid (show decide ((1 : Int) ≤ (R.length : Int) ∧ (R.length : Int) ≤ 3) = true from decide_eq_true (by omega))
  have HR2 := Lib.hid (show R.all vrB = r by rw [← HR.out, vs_ok h13])
  have q0 := HBX.out.one0
  clear hr h hw1 h13
  go_enter Try.func18, Try.ntmps18
  go_wp2_with (go_at_call 34; ((with_reducible refine (uwithin2 _ _ _ _ _ _ HL.out).mono ?_); rintro e w' ⟨rfl, rfl⟩); rw [← HW.out]; refine Hid.out ?_)
  refine Lib.hid ?_
  go_wp2
  go_loopw [14] (fun i wr => ∃ k : Nat, k ≤ R.length ∧ i = .int .i64 k ∧ (R.take k).all vrB = true ∧ Below w1.heap.size w1 wr) (fun i _ => R.length - (intOf i).toNat)
  case atStart => exact ⟨0, Nat.zero_le _, rfl, rfl, Below.refl _ _⟩
  case round =>
    obtain ⟨k, hk, rfl, hall, hb⟩ := hrel
    have HALL := Lib.hid hall
    have HB := Lib.hid hb
    clear hall hb q0
    by_cases hlt : k < R.length
    · obtain ⟨b, off, l, a', c', rfl, hbw, hx, c0, hsm⟩ := (HS.out.below HB.out).at_ hlt
      have HX := Lib.hid hx
      obtain ⟨ok, hok⟩ : ∃ ok, vrB l = ok := ⟨_, rfl⟩
      have HOK := Lib.hid hok
      have HC := Lib.hid (fun (W : World) (hW : Below wr.heap.size wr W) => rv_impl a' c' l ok W hok (hsm.below hW))
      have HA1 := Lib.hid ((Below.refl wr.heap.size wr).alloc (Nat.le_refl _) (.cells #[.slice a' l.length c'] 50))
      clear hx hok hsm hbw
      cases ok
      · obtain rfl : false = r := by rw [← HR.out, vs_no HX.out HOK.out]
        go_wp2_with (go_at_call 35; ((with_reducible refine (HC.out _ HA1.out).mono ?_); rintro e w2 ⟨rfl, hb2⟩; have HB2 := Lib.hid (HA1.out.trans (hb2.mono HA1.out.size)); clear hb2))
        go_ret
        exact ⟨rfl, HB1.out.trans ((HB.out.trans (HB2.out.mono HB.out.size)).mono HB1.out.size)⟩
      · go_wp2_with (go_at_call 35; ((with_reducible refine (HC.out _ HA1.out).mono ?_); rintro e w2 ⟨rfl, hb2⟩; have HB2 := Lib.hid (HA1.out.trans (hb2.mono HA1.out.size)); clear hb2))
        go_roundw
        case rel => exact ⟨k + 1, by omega, by go_num, all_take HALL.out HX.out HOK.out, HB.out.trans (HB2.out.mono HB.out.size)⟩
        case measure => simp [intOf]; omega
    · obtain rfl : k = R.length := by omega
      obtain rfl : true = r := by
        rw [← HR2.out]
        have h1 := HALL.out
        rw [List.take_length] at h1
        rw [h1]
      go_wp2
      go_ret
      exact ⟨rfl, HB1.out.trans (HB.out.mono HB1.out.size)⟩

end Go.Proofs.Ytpldjihajclblaa

