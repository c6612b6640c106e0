/-
  Chapter 10's numbers: LengthFilter, spec.l10Good, MinCommonGrams and EditLimit on both sides. By an AI agent.
-/
import Derived.Test.YtkeimdobcfoplaaBounds
import Derived.Test.YtkeimdobcfoplaaInts
namespace Go.Proofs.Ytkeimdobcfoplaa
open Go.RowKit
set_option linter.unusedVariables false

/-- whether the lengths differ by at most limit -/
def lfR (a b : ByteArray) (limit : Int) : Bool := decide ((((max a.size b.size) - (min a.size b.size) : Nat) : Int) ≤ limit)

set_option maxRecDepth 100000 in
theorem lf_spec (a b : ByteArray) (limit : Int) (r : Bool) (w : World) (ha : a.size ≤ 1048576) (hb : b.size ≤ 1048576) (hr : lfR a b limit = r) :
    Calls Try.prog 15 #[.string a, .string b, .int .i64 limit] w fun e w' => e = .returned (.bool r) ∧ w' = w := by
  have HR := Lib.hid hr
  clear hr
  rcases Nat.lt_trichotomy a.size b.size with h | h | h
  · have HV := Lib.hid (show decide ((b.size : Int) - (a.size : Int) ≤ limit) = r by rw [← HR.out, lfR]; congr 1; apply propext; constructor <;> intro _ <;> omega)
    go_enter Try.func15, Try.ntmps15
    go_wp2
    go_ret
    exact ⟨iret_bool HV.out, rfl⟩
  · have HV := Lib.hid (show decide ((0 : Int) ≤ limit) = r by rw [← HR.out, lfR]; congr 1; apply propext; constructor <;> intro _ <;> omega)
    go_enter Try.func15, Try.ntmps15
    go_wp2
    go_ret
    exact ⟨iret_bool HV.out, rfl⟩
  · have HV := Lib.hid (show decide ((a.size : Int) - (b.size : Int) ≤ limit) = r by rw [← HR.out, lfR]; congr 1; apply propext; constructor <;> intro _ <;> omega)
    go_enter Try.func15, Try.ntmps15
    go_wp2
    go_ret
    exact ⟨iret_bool HV.out, rfl⟩

set_option maxRecDepth 100000 in
theorem lf_impl (a b : ByteArray) (limit : Int) (r : Bool) (w : World) (ha : a.size ≤ 1048576) (hb : b.size ≤ 1048576) (hr : lfR a b limit = r) :
    Calls Try.prog 14 #[.string a, .string b, .int .i64 limit] w fun e w' => e = .returned (.bool r) ∧ w' = w := by
  have HR := Lib.hid hr
  clear hr
  rcases Nat.lt_trichotomy a.size b.size with h | h | h
  · have HV := Lib.hid (show decide ((b.size : Int) - (a.size : Int) ≤ limit) = r by rw [← HR.out, lfR]; congr 1; apply propext; constructor <;> intro _ <;> omega)
    go_enter Try.func14, Try.ntmps14
    go_wp2
    go_ret
    exact ⟨iret_bool HV.out, rfl⟩
  · have HV := Lib.hid (show decide ((0 : Int) ≤ limit) = r by rw [← HR.out, lfR]; congr 1; apply propext; constructor <;> intro _ <;> omega)
    go_enter Try.func14, Try.ntmps14
    go_wp2
    go_ret
    exact ⟨iret_bool HV.out, rfl⟩
  · have HV := Lib.hid (show decide ((a.size : Int) - (b.size : Int) ≤ limit) = r by rw [← HR.out, lfR]; congr 1; apply propext; constructor <;> intro _ <;> omega)
    go_enter Try.func14, Try.ntmps14
    go_wp2
    go_ret
    exact ⟨iret_bool HV.out, rfl⟩

/-- lengths and a limit from 0 to 40, a gram of 1 to 3 bytes -/
def goodE (x y q l : Int) : Bool := decide (0 ≤ x ∧ x ≤ 40) && (decide (0 ≤ y ∧ y ≤ 40) && (decide (1 ≤ q ∧ q ≤ 3) && decide (0 ≤ l ∧ l ≤ 40)))
theorem goodE_yes {x y q l : Int} (h : goodE x y q l = true) : (0 ≤ x ∧ x ≤ 40) ∧ (0 ≤ y ∧ y ≤ 40) ∧ (1 ≤ q ∧ q ≤ 3) ∧ (0 ≤ l ∧ l ≤ 40) := by
  simp only [goodE, Bool.and_eq_true, decide_eq_true_eq] at h
  exact h

theorem four_ways (bx b0 bq bl : Bool) : bx = false ∨ (bx = true ∧ b0 = false) ∨ (bx = true ∧ b0 = true ∧ bq = false) ∨ (bx = true ∧ b0 = true ∧ bq = true) := by
  cases bx <;> cases b0 <;> cases bq <;> simp

set_option maxRecDepth 100000 in
theorem good10_is (x y q l : Int) (r : Bool) (w : World) (hr : goodE x y q l = r) :
    Calls Try.prog 46 #[.int .i64 x, .int .i64 y, .int .i64 q, .int .i64 l] w fun e w' => e = .returned (.bool r) ∧ w' = w := by
  obtain ⟨bx, hx⟩ : ∃ b, decide (0 ≤ x ∧ x ≤ 40) = b := ⟨_, rfl⟩
  obtain ⟨b0, hy⟩ : ∃ b, decide (0 ≤ y ∧ y ≤ 40) = b := ⟨_, rfl⟩
  obtain ⟨bq, hq⟩ : ∃ b, decide (1 ≤ q ∧ q ≤ 3) = b := ⟨_, rfl⟩
  obtain ⟨bl, hl⟩ : ∃ b, decide (0 ≤ l ∧ l ≤ 40) = b := ⟨_, rfl⟩
  have HV := Lib.hid (show (bx && (b0 && (bq && bl))) = r by rw [← hr, goodE, hx, hy, hq, hl])
  have HX := Lib.hid hx
  have HY := Lib.hid hy
  have HQ := Lib.hid hq
  have HL := Lib.hid hl
  clear hx hy hq hl hr
  rcases four_ways bx b0 bq bl with rfl | ⟨rfl, rfl⟩ | ⟨rfl, rfl, rfl⟩ | ⟨rfl, rfl, rfl⟩
  all_goals
    go_enter Try.func46, Try.ntmps46
    go_wp2_with (first
      | (go_at_call 47; (with_reducible refine (l1In_any _ _ _ _ _ HX.out).mono ?_); rintro e w' ⟨rfl, rfl⟩)
      | (go_at_call 47; (with_reducible refine (l1In_any _ _ _ _ _ HY.out).mono ?_); rintro e w' ⟨rfl, rfl⟩)
      | (go_at_call 47; (with_reducible refine (l1In_any _ _ _ _ _ HQ.out).mono ?_); rintro e w' ⟨rfl, rfl⟩)
      | (go_at_call 47; (with_reducible refine (l1In_any _ _ _ _ _ HL.out).mono ?_); rintro e w' ⟨rfl, rfl⟩))
    all_goals go_ret
    all_goals exact ⟨sret_bool (by rw [← HV.out]; first | rfl | (cases bl <;> rfl)), rfl⟩

/-- the greater of two numbers, as the program finds it -/
def mxI (x y : Int) : Int := if x < y then y else x
theorem mxI_yes {x y : Int} (h : x < y) : mxI x y = y := if_pos h
theorem mxI_no {x y : Int} (h : ¬ x < y) : mxI x y = x := if_neg h
/-- what MinCommonGrams answers for good arguments; what it answers -/
def mcV (x y q l : Int) : Int := if 0 < mxI x y - q + 1 - q * l then mxI x y - q + 1 - q * l else 0
def mcR (x y q l : Int) : Int := if goodE x y q l then mcV x y q l else -1
theorem mcV_nn (x y q l : Int) : 0 ≤ mcV x y q l := by unfold mcV; split <;> omega
theorem prod_range {q l : Int} (h1 : 1 ≤ q) (h2 : q ≤ 3) (h3 : 0 ≤ l) (h4 : l ≤ 40) : 0 ≤ q * l ∧ q * l ≤ 120 := by
  have := mul_range (show 0 ≤ q by omega) h2 h3 h4
  omega

set_option maxRecDepth 100000 in
theorem mc_spec (x y q l r : Int) (w : World) (hr : mcR x y q l = r) :
    Calls Try.prog 25 #[.int .i64 x, .int .i64 y, .int .i64 q, .int .i64 l] w fun e w' => e = .returned (.int .i64 r) ∧ w' = w := by
  obtain ⟨g, hg⟩ : ∃ g, goodE x y q l = g := ⟨_, rfl⟩
  have HG := Lib.hid hg
  cases g
  · have HV := Lib.hid (show -1 = r by rw [← hr, mcR, hg]; rfl)
    clear hg hr
    go_enter Try.func25, Try.ntmps25
    go_wp2_with (go_at_call 46; refine (good10_is _ _ _ _ _ _ HG.out).mono ?_; rintro e w' ⟨rfl, rfl⟩)
    go_ret
    exact ⟨sret_int HV.out, rfl⟩
  · obtain ⟨⟨x0, x1⟩, ⟨y0, y1⟩, ⟨q0, q1⟩, ⟨l0, l1⟩⟩ := goodE_yes hg
    obtain ⟨p, hp⟩ : ∃ p, q * l = p := ⟨_, rfl⟩
    have hpr := prod_range q0 q1 l0 l1
    rw [hp] at hpr
    obtain ⟨hp1, hp2⟩ := hpr
    have hw : IntKind.i64.wrap (q * l) = p := by rw [hp]; exact wrap_of hp1 (by omega)
    have HV0 := Lib.hid (show (if 0 < mxI x y - q + 1 - p then mxI x y - q + 1 - p else 0) = r by rw [← hr, mcR, hg, ← hp]; rfl)
    clear hg hr hp
    by_cases hxy : x < y
    · by_cases h0 : 0 < y - q + 1 - p
      · have HV := Lib.hid (show y - q + 1 - p = r by rw [← HV0.out, mxI_yes hxy, if_pos h0])
        go_enter Try.func25, Try.ntmps25
        go_wp2_with (go_at_call 46; refine (good10_is _ _ _ _ _ _ HG.out).mono ?_; rintro e w' ⟨rfl, rfl⟩)
        go_ret
        exact ⟨sret_int HV.out, rfl⟩
      · have HV := Lib.hid (show 0 = r by rw [← HV0.out, mxI_yes hxy, if_neg h0])
        go_enter Try.func25, Try.ntmps25
        go_wp2_with (go_at_call 46; refine (good10_is _ _ _ _ _ _ HG.out).mono ?_; rintro e w' ⟨rfl, rfl⟩)
        go_ret
        exact ⟨sret_int HV.out, rfl⟩
    · by_cases h0 : 0 < x - q + 1 - p
      · have HV := Lib.hid (show x - q + 1 - p = r by rw [← HV0.out, mxI_no hxy, if_pos h0])
        go_enter Try.func25, Try.ntmps25
        go_wp2_with (go_at_call 46; refine (good10_is _ _ _ _ _ _ HG.out).mono ?_; rintro e w' ⟨rfl, rfl⟩)
        go_ret
        exact ⟨sret_int HV.out, rfl⟩
      · have HV := Lib.hid (show 0 = r by rw [← HV0.out, mxI_no hxy, if_neg h0])
        go_enter Try.func25, Try.ntmps25
        go_wp2_with (go_at_call 46; refine (good10_is _ _ _ _ _ _ HG.out).mono ?_; rintro e w' ⟨rfl, rfl⟩)
        go_ret
        exact ⟨sret_int HV.out, rfl⟩

theorem in_three (lo hi a b c : Int) (r : Bool) (w : World) (h : withinB lo hi [a, b, c] = r) : Calls Try.prog 45 #[.int .i64 lo, .int .i64 hi, .slice (some ⟨w.heap.size, 0, none⟩) 3 3] (w.alloc (.cells #[.int .i64 a, .int .i64 b, .int .i64 c] 3)) fun e w' => e = .returned (.bool r) ∧ w' = w.alloc (.cells #[.int .i64 a, .int .i64 b, .int .i64 c] 3) := within_is lo hi _ 3 [a, b, c] r _ (by simp) (InI.new w [a, b, c]) h

theorem in_two (lo hi a b : Int) (r : Bool) (w : World) (h : withinB lo hi [a, b] = r) : Calls Try.prog 45 #[.int .i64 lo, .int .i64 hi, .slice (some ⟨w.heap.size, 0, none⟩) 2 2] (w.alloc (.cells #[.int .i64 a, .int .i64 b] 3)) fun e w' => e = .returned (.bool r) ∧ w' = w.alloc (.cells #[.int .i64 a, .int .i64 b] 3) := within_is lo hi _ 2 [a, b] r _ (by simp) (InI.new w [a, b]) h

theorem in_one1 (lo hi s : Int) (r : Bool) (w : World) (h : withinB lo hi [s] = r) : Calls Try.prog 45 #[.int .i64 lo, .int .i64 hi, .slice (some ⟨w.heap.size, 0, none⟩) 1 1] (w.alloc (.cells #[.int .i64 s] 3)) fun e w' => e = .returned (.bool r) ∧ w' = w.alloc (.cells #[.int .i64 s] 3) := within_is lo hi _ 1 [s] r _ (by simp) (InI.new w [s]) h

theorem in_one2 (lo hi s : Int) (r : Bool) (w : World) (x : Obj) (h : withinB lo hi [s] = r) : Calls Try.prog 45 #[.int .i64 lo, .int .i64 hi, .slice (some ⟨w.heap.size + 1, 0, none⟩) 1 1] ((w.alloc x).alloc (.cells #[.int .i64 s] 3)) fun e w' => e = .returned (.bool r) ∧ w' = (w.alloc x).alloc (.cells #[.int .i64 s] 3) := by
  have h1 := in_one1 lo hi s r (w.alloc x) h
  rw [show (w.alloc x).heap.size = w.heap.size + 1 by simp] at h1
  exact h1

theorem alloc2_below (w : World) (x y : Obj) : Below w.heap.size w ((w.alloc x).alloc y) := ((Below.refl _ _).alloc (Nat.le_refl _) x).alloc (by simp) y
theorem alloc1_below (w : World) (x : Obj) : Below w.heap.size w (w.alloc x) := (Below.refl _ _).alloc (Nat.le_refl _) x

theorem goodE_parts (x y q l : Int) (A B : Bool) (ha : withinB 0 40 [x, y, l] = A) (hb : withinB 1 3 [q] = B) : goodE x y q l = (A && B) := by
  rw [← ha, ← hb, Bool.eq_iff_iff]
  simp [goodE, withinB]
  constructor <;> intro h <;> omega

set_option maxRecDepth 100000 in
theorem mc_impl (x y q l r : Int) (w : World) (hr : mcR x y q l = r) :
    Calls Try.prog 26 #[.int .i64 x, .int .i64 y, .int .i64 q, .int .i64 l] w fun e w' => e = .returned (.int .i64 r) ∧ Below w.heap.size w w' := by
  obtain ⟨A, hA⟩ : ∃ g, withinB 0 40 [x, y, l] = g := ⟨_, rfl⟩
  obtain ⟨B, hB⟩ : ∃ g, withinB 1 3 [q] = g := ⟨_, rfl⟩
  have hg := goodE_parts x y q l A B hA hB
  have HA := Lib.hid hA
  have HB := Lib.hid hB
  clear hA hB
  cases A
  · have HV := Lib.hid (show -1 = r by rw [← hr, mcR, hg]; rfl)
    clear hg hr
    go_enter Try.func26, Try.ntmps26
    go_wp2_with (go_at_call 45; (with_reducible refine (in_three _ _ _ _ _ _ _ HA.out).mono ?_); rintro e w' ⟨rfl, rfl⟩)
    go_ret
    exact ⟨sret_int HV.out, alloc1_below _ _⟩
  · cases B
    · have HV := Lib.hid (show -1 = r by rw [← hr, mcR, hg]; rfl)
      clear hg hr
      go_enter Try.func26, Try.ntmps26
      go_wp2_with (first
        | (go_at_call 45; (with_reducible refine (in_three _ _ _ _ _ _ _ HA.out).mono ?_); rintro e w' ⟨rfl, rfl⟩)
        | (go_at_call 45; (with_reducible refine (in_one2 _ _ _ _ _ _ HB.out).mono ?_); rintro e w' ⟨rfl, rfl⟩))
      go_ret
      exact ⟨sret_int HV.out, alloc2_below _ _ _⟩
    · rw [Bool.and_self] at hg
      obtain ⟨⟨x0, x1⟩, ⟨y0, y1⟩, ⟨q0, q1⟩, ⟨l0, l1⟩⟩ := goodE_yes hg
      obtain ⟨p, hp⟩ : ∃ p, q * l = p := ⟨_, rfl⟩
      have hpr := prod_range q0 q1 l0 l1
      rw [hp] at hpr
      obtain ⟨hp1, hp2⟩ := hpr
      have hw : IntKind.i64.wrap (q * l) = p := by rw [hp]; exact wrap_of hp1 (by omega)
      have HV0 := Lib.hid (show (if 0 < mxI x y - q + 1 - p then mxI x y - q + 1 - p else 0) = r by rw [← hr, mcR, hg, ← hp]; rfl)
      clear hg hr hp
      by_cases hxy : x < y
      · by_cases h0 : 0 < y - q + 1 - p
        · have HV := Lib.hid (show y - q + 1 - p = r by rw [← HV0.out, mxI_yes hxy, if_pos h0])
          go_enter Try.func26, Try.ntmps26
          go_wp2_with (first
            | (go_at_call 45; (with_reducible refine (in_three _ _ _ _ _ _ _ HA.out).mono ?_); rintro e w' ⟨rfl, rfl⟩)
            | (go_at_call 45; (with_reducible refine (in_one2 _ _ _ _ _ _ HB.out).mono ?_); rintro e w' ⟨rfl, rfl⟩))
          go_ret
          exact ⟨sret_int HV.out, alloc2_below _ _ _⟩
        · have HV := Lib.hid (show 0 = r by rw [← HV0.out, mxI_yes hxy, if_neg h0])
          go_enter Try.func26, Try.ntmps26
          go_wp2_with (first
            | (go_at_call 45; (with_reducible refine (in_three _ _ _ _ _ _ _ HA.out).mono ?_); rintro e w' ⟨rfl, rfl⟩)
            | (go_at_call 45; (with_reducible refine (in_one2 _ _ _ _ _ _ HB.out).mono ?_); rintro e w' ⟨rfl, rfl⟩))
          go_ret
          exact ⟨sret_int HV.out, alloc2_below _ _ _⟩
      · by_cases h0 : 0 < x - q + 1 - p
        · have HV := Lib.hid (show x - q + 1 - p = r by rw [← HV0.out, mxI_no hxy, if_pos h0])
          go_enter Try.func26, Try.ntmps26
          go_wp2_with (first
            | (go_at_call 45; (with_reducible refine (in_three _ _ _ _ _ _ _ HA.out).mono ?_); rintro e w' ⟨rfl, rfl⟩)
            | (go_at_call 45; (with_reducible refine (in_one2 _ _ _ _ _ _ HB.out).mono ?_); rintro e w' ⟨rfl, rfl⟩))
          go_ret
          exact ⟨sret_int HV.out, alloc2_below _ _ _⟩
        · have HV := Lib.hid (show 0 = r by rw [← HV0.out, mxI_no hxy, if_neg h0])
          go_enter Try.func26, Try.ntmps26
          go_wp2_with (first
            | (go_at_call 45; (with_reducible refine (in_three _ _ _ _ _ _ _ HA.out).mono ?_); rintro e w' ⟨rfl, rfl⟩)
            | (go_at_call 45; (with_reducible refine (in_one2 _ _ _ _ _ _ HB.out).mono ?_); rintro e w' ⟨rfl, rfl⟩))
          go_ret
          exact ⟨sret_int HV.out, alloc2_below _ _ _⟩

/-- what EditLimit answers -/
def elR (x y s : Int) : Int := if goodE x y 1 0 && decide (0 ≤ s ∧ s ≤ 1000) then mxI x y * (1000 - s) / 1000 else -1
theorem goodE_two {x y : Int} (h : goodE x y 1 0 = true) : (0 ≤ x ∧ x ≤ 40) ∧ (0 ≤ y ∧ y ≤ 40) := ⟨(goodE_yes h).1, (goodE_yes h).2.1⟩
theorem prod2_range {m s : Int} (h1 : 0 ≤ m) (h2 : m ≤ 40) (h3 : 0 ≤ s) (h4 : s ≤ 1000) : 0 ≤ m * (1000 - s) ∧ m * (1000 - s) ≤ 40000 := by
  have := mul_range h1 h2 (show 0 ≤ 1000 - s by omega) (show 1000 - s ≤ 1000 by omega)
  omega
theorem goodE_pair (x y : Int) (A : Bool) (ha : withinB 0 40 [x, y] = A) : goodE x y 1 0 = A := by
  rw [← ha, Bool.eq_iff_iff]
  simp [goodE, withinB]
theorem one_in (s : Int) (B : Bool) (hb : withinB 0 1000 [s] = B) : decide (0 ≤ s ∧ s ≤ 1000) = B := by
  rw [← hb, Bool.eq_iff_iff]
  simp [withinB]

set_option maxRecDepth 100000 in
theorem el_spec (x y s r : Int) (w : World) (hr : elR x y s = r) :
    Calls Try.prog 23 #[.int .i64 x, .int .i64 y, .int .i64 s] w fun e w' => e = .returned (.int .i64 r) ∧ w' = w := by
  obtain ⟨A, hA⟩ : ∃ g, goodE x y 1 0 = g := ⟨_, rfl⟩
  obtain ⟨B, hB⟩ : ∃ g, decide (0 ≤ s ∧ s ≤ 1000) = g := ⟨_, rfl⟩
  rw [elR, hA, hB] at hr
  have HA := Lib.hid hA
  have HB := Lib.hid hB
  have HR := Lib.hid hr
  clear hr
  cases A
  · clear hA hB
    go_enter Try.func23, Try.ntmps23
    go_wp2_with (go_at_call 46; (with_reducible refine (good10_is _ _ _ _ _ _ HA.out).mono ?_); rintro e w' ⟨rfl, rfl⟩)
    go_ret
    exact ⟨sret_int HR.out, rfl⟩
  · cases B
    · clear hA hB
      go_enter Try.func23, Try.ntmps23
      go_wp2_with (first
        | (go_at_call 46; (with_reducible refine (good10_is _ _ _ _ _ _ HA.out).mono ?_); rintro e w' ⟨rfl, rfl⟩)
        | (go_at_call 47; (with_reducible refine (l1In_any _ _ _ _ _ HB.out).mono ?_); rintro e w' ⟨rfl, rfl⟩))
      go_ret
      exact ⟨sret_int HR.out, rfl⟩
    · obtain ⟨⟨x0, x1⟩, ⟨y0, y1⟩⟩ := goodE_two hA
      obtain ⟨s0, s1⟩ := of_decide_eq_true hB
      clear hA hB
      by_cases hxy : x < y
      · obtain ⟨p, hp⟩ : ∃ p, y * (1000 - s) = p := ⟨_, rfl⟩
        obtain ⟨hp1, hp2⟩ := prod2_range y0 y1 s0 s1
        rw [hp] at hp1 hp2
        have hw : IntKind.i64.wrap (y * (1000 - s)) = p := by rw [hp]; exact wrap_of hp1 (by omega)
        have hq : 0 ≤ p / 1000 ∧ p / 1000 ≤ p := by omega
        obtain ⟨hq1, hq2⟩ := hq
        have HV := Lib.hid (show p / 1000 = r by rw [← HR.out, ← hp]; simp only [Bool.and_self, if_true]; rw [mxI_yes hxy])
        clear hp
        go_enter Try.func23, Try.ntmps23
        go_wp2_with (first
          | (go_at_call 46; (with_reducible refine (good10_is _ _ _ _ _ _ HA.out).mono ?_); rintro e w' ⟨rfl, rfl⟩)
          | (go_at_call 47; (with_reducible refine (l1In_any _ _ _ _ _ HB.out).mono ?_); rintro e w' ⟨rfl, rfl⟩))
        go_ret
        exact ⟨sret_int HV.out, rfl⟩
      · obtain ⟨p, hp⟩ : ∃ p, x * (1000 - s) = p := ⟨_, rfl⟩
        obtain ⟨hp1, hp2⟩ := prod2_range x0 x1 s0 s1
        rw [hp] at hp1 hp2
        have hw : IntKind.i64.wrap (x * (1000 - s)) = p := by rw [hp]; exact wrap_of hp1 (by omega)
        have hq : 0 ≤ p / 1000 ∧ p / 1000 ≤ p := by omega
        obtain ⟨hq1, hq2⟩ := hq
        have HV := Lib.hid (show p / 1000 = r by rw [← HR.out, ← hp]; simp only [Bool.and_self, if_true]; rw [mxI_no hxy])
        clear hp
        go_enter Try.func23, Try.ntmps23
        go_wp2_with (first
          | (go_at_call 46; (with_reducible refine (good10_is _ _ _ _ _ _ HA.out).mono ?_); rintro e w' ⟨rfl, rfl⟩)
          | (go_at_call 47; (with_reducible refine (l1In_any _ _ _ _ _ HB.out).mono ?_); rintro e w' ⟨rfl, rfl⟩))
        go_ret
        exact ⟨sret_int HV.out, rfl⟩

set_option maxRecDepth 100000 in
theorem el_impl (x y s r : Int) (w : World) (hr : elR x y s = r) :
    Calls Try.prog 22 #[.int .i64 x, .int .i64 y, .int .i64 s] w fun e w' => e = .returned (.int .i64 r) ∧ Below w.heap.size w w' := by
  obtain ⟨A, hA0⟩ : ∃ g, withinB 0 40 [x, y] = g := ⟨_, rfl⟩
  obtain ⟨B, hB0⟩ : ∃ g, withinB 0 1000 [s] = g := ⟨_, rfl⟩
  have hA := goodE_pair x y A hA0
  have hB := one_in s B hB0
  rw [elR, hA, hB] at hr
  have HA := Lib.hid hA0
  have HB := Lib.hid hB0
  have HR := Lib.hid hr
  clear hr hA0 hB0
  cases A
  · clear hA hB
    go_enter Try.func22, Try.ntmps22
    go_wp2_with (go_at_call 45; (with_reducible refine (in_two _ _ _ _ _ _ HA.out).mono ?_); rintro e w' ⟨rfl, rfl⟩)
    go_ret
    exact ⟨sret_int HR.out, alloc1_below _ _⟩
  · cases B
    · clear hA hB
      go_enter Try.func22, Try.ntmps22
      go_wp2_with (first
        | (go_at_call 45; (with_reducible refine (in_two _ _ _ _ _ _ HA.out).mono ?_); rintro e w' ⟨rfl, rfl⟩)
        | (go_at_call 45; (with_reducible refine (in_one2 _ _ _ _ _ _ HB.out).mono ?_); rintro e w' ⟨rfl, rfl⟩))
      go_ret
      exact ⟨sret_int HR.out, alloc2_below _ _ _⟩
    · obtain ⟨⟨x0, x1⟩, ⟨y0, y1⟩⟩ := goodE_two hA
      obtain ⟨s0, s1⟩ := of_decide_eq_true hB
      clear hA hB
      by_cases hxy : x < y
      · obtain ⟨p, hp⟩ : ∃ p, y * (1000 - s) = p := ⟨_, rfl⟩
        obtain ⟨hp1, hp2⟩ := prod2_range y0 y1 s0 s1
        rw [hp] at hp1 hp2
        have hw : IntKind.i64.wrap (y * (1000 - s)) = p := by rw [hp]; exact wrap_of hp1 (by omega)
        have hq : 0 ≤ p / 1000 ∧ p / 1000 ≤ p := by omega
        obtain ⟨hq1, hq2⟩ := hq
        have HV := Lib.hid (show p / 1000 = r by rw [← HR.out, ← hp]; simp only [Bool.and_self, if_true]; rw [mxI_yes hxy])
        clear hp
        go_enter Try.func22, Try.ntmps22
        go_wp2_with (first
          | (go_at_call 45; (with_reducible refine (in_two _ _ _ _ _ _ HA.out).mono ?_); rintro e w' ⟨rfl, rfl⟩)
          | (go_at_call 45; (with_reducible refine (in_one2 _ _ _ _ _ _ HB.out).mono ?_); rintro e w' ⟨rfl, rfl⟩))
        go_ret
        exact ⟨sret_int HV.out, alloc2_below _ _ _⟩
      · obtain ⟨p, hp⟩ : ∃ p, x * (1000 - s) = p := ⟨_, rfl⟩
        obtain ⟨hp1, hp2⟩ := prod2_range x0 x1 s0 s1
        rw [hp] at hp1 hp2
        have hw : IntKind.i64.wrap (x * (1000 - s)) = p := by rw [hp]; exact wrap_of hp1 (by omega)
        have hq : 0 ≤ p / 1000 ∧ p / 1000 ≤ p := by omega
        obtain ⟨hq1, hq2⟩ := hq
        have HV := Lib.hid (show p / 1000 = r by rw [← HR.out, ← hp]; simp only [Bool.and_self, if_true]; rw [mxI_no hxy])
        clear hp
        go_enter Try.func22, Try.ntmps22
        go_wp2_with (first
          | (go_at_call 45; (with_reducible refine (in_two _ _ _ _ _ _ HA.out).mono ?_); rintro e w' ⟨rfl, rfl⟩)
          | (go_at_call 45; (with_reducible refine (in_one2 _ _ _ _ _ _ HB.out).mono ?_); rintro e w' ⟨rfl, rfl⟩))
        go_ret
        exact ⟨sret_int HV.out, alloc2_below _ _ _⟩

end Go.Proofs.Ytkeimdobcfoplaa
