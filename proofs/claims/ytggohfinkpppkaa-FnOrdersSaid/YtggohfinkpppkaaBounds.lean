/-
  Chapter 5's numbers: spec.l5Good, MinOverlap and LengthBounds on both sides, the quotients in thousandths. By an AI agent.
-/
import Derived.Test.YtggohfinkpppkaaSpecIn
import Derived.BigQuiet
import Derived.Deep.QuietTactic
import Derived.Lib.Hide
import Derived.Below
namespace Go.Proofs.Ytggohfinkpppkaa
open Go.RowKit
set_option linter.unusedVariables false

/-- a size from 0 to 1000, a threshold from 1 to 1000 -/
def okS (x : Int) : Bool := decide (0 ≤ x) && decide (x ≤ 1000)
def okT (x : Int) : Bool := decide (1 ≤ x) && decide (x ≤ 1000)
theorem okS_yes {x : Int} (h : okS x = true) : 0 ≤ x ∧ x ≤ 1000 := by simpa [okS] using h
theorem okS_no {x : Int} (h : okS x = false) : ¬ (0 ≤ x ∧ x ≤ 1000) := fun k => by simp [okS, k.1, k.2] at h
theorem okT_yes {x : Int} (h : okT x = true) : 1 ≤ x ∧ x ≤ 1000 := by simpa [okT] using h
theorem okT_no {x : Int} (h : okT x = false) : ¬ (1 ≤ x ∧ x ≤ 1000) := fun k => by simp [okT, k.1, k.2] at h
theorem sret_bool {a b : Bool} (h : a = b) : Ending.returned (.bool a) = .returned (.bool b) := by rw [h]
theorem sret_int {k : IntKind} {a b : Int} (h : a = b) : Ending.returned (.int k a) = .returned (.int k b) := by rw [h]

set_option maxRecDepth 100000 in
theorem setSize_is (x : Int) (b : Bool) (w : World) (hb : okS x = b) :
    Calls Try.prog 99 #[.int .i64 x] w fun e w' => e = .returned (.bool b) ∧ w' = w := by
  have HB := Lib.hid hb
  clear hb
  by_cases h1 : 0 ≤ x
  · by_cases h2 : x ≤ 1000
    · go_enter Try.func99, Try.ntmps99
      go_wp2
      go_ret
      exact ⟨sret_bool (by rw [← HB.out]; simp [okS, h1, h2]), rfl⟩
    · go_enter Try.func99, Try.ntmps99
      go_wp2
      go_ret
      exact ⟨sret_bool (by rw [← HB.out]; simp [okS, h1, h2]), rfl⟩
  · go_enter Try.func99, Try.ntmps99
    go_wp2
    go_ret
    exact ⟨sret_bool (by rw [← HB.out]; simp [okS]; intro _; omega), rfl⟩

set_option maxRecDepth 100000 in
theorem threshold_is (x : Int) (b : Bool) (w : World) (hb : okT x = b) :
    Calls Try.prog 74 #[.int .i64 x] w fun e w' => e = .returned (.bool b) ∧ w' = w := by
  have HB := Lib.hid hb
  clear hb
  by_cases h1 : 1 ≤ x
  · by_cases h2 : x ≤ 1000
    · go_enter Try.func74, Try.ntmps74
      go_wp2
      go_ret
      exact ⟨sret_bool (by rw [← HB.out]; simp [okT, h1, h2]), rfl⟩
    · go_enter Try.func74, Try.ntmps74
      go_wp2
      go_ret
      exact ⟨sret_bool (by rw [← HB.out]; simp [okT, h1, h2]), rfl⟩
  · go_enter Try.func74, Try.ntmps74
    go_wp2
    go_ret
    exact ⟨sret_bool (by rw [← HB.out]; simp [okT]; intro _; omega), rfl⟩

theorem l1In_any (x a b : Int) (r : Bool) (w : World) (h : decide (a ≤ x ∧ x ≤ b) = r) :
    Calls Try.prog 64 #[.int .i64 x, .int .i64 a, .int .i64 b] w fun e w' => e = .returned (.bool r) ∧ w' = w := by
  cases r with
  | true =>
    have h1 := of_decide_eq_true h
    exact (l1In_yes x a b w h1.1 h1.2).mono fun e w' k => ⟨k.1, k.2.symm⟩
  | false => exact (l1In_no x a b w (of_decide_eq_false h)).mono fun e w' k => ⟨k.1, k.2.symm⟩
theorem okS_dec (x : Int) : decide (0 ≤ x ∧ x ≤ 1000) = okS x := by unfold okS; by_cases h1 : 0 ≤ x <;> by_cases h2 : x ≤ 1000 <;> simp [h1, h2]
theorem okT_dec (x : Int) : decide (1 ≤ x ∧ x ≤ 1000) = okT x := by unfold okT; by_cases h1 : 1 ≤ x <;> by_cases h2 : x ≤ 1000 <;> simp [h1, h2]

def goodR (x y t : Int) : Bool := okS x && (okS y && okT t)

set_option maxRecDepth 100000 in
theorem good_is (x y t : Int) (r : Bool) (w : World) (h : goodR x y t = r) :
    Calls Try.prog 102 #[.int .i64 x, .int .i64 y, .int .i64 t] w fun e w' => e = .returned (.bool r) ∧ w' = w := by
  have HR := Lib.hid h
  clear h
  obtain ⟨bx, hx⟩ : ∃ b, okS x = b := ⟨_, rfl⟩
  obtain ⟨bt, ht⟩ : ∃ b, okT t = b := ⟨_, rfl⟩
  obtain ⟨b0, hy⟩ : ∃ b, okS y = b := ⟨_, rfl⟩
  have HX := Lib.hid ((okS_dec x).trans hx)
  have HY := Lib.hid ((okS_dec y).trans hy)
  have HT := Lib.hid ((okT_dec t).trans ht)
  have HV := Lib.hid (show (bx && (b0 && bt)) = r by rw [← HR.out, goodR, hx, hy, ht])
  clear hx hy ht HR
  have HC := Lib.hid (fun (v c d : Int) (b : Bool) (W : World) (h : decide (c ≤ v ∧ v ≤ d) = b) => l1In_any v c d b W h)
  cases bx
  · go_enter Try.func102, Try.ntmps102
    go_wp2_with (go_at_call 64; refine (l1In_any _ _ _ _ _ HX.out).mono ?_; rintro e w' ⟨rfl, rfl⟩)
    go_ret
    exact ⟨sret_bool (by rw [← HV.out]; rfl), rfl⟩
  · cases b0
    · go_enter Try.func102, Try.ntmps102
      go_wp2_with (first
        | (go_at_call 64; (with_reducible refine (l1In_any _ _ _ _ _ HX.out).mono ?_); rintro e w' ⟨rfl, rfl⟩)
        | (go_at_call 64; (with_reducible refine (l1In_any _ _ _ _ _ HY.out).mono ?_); rintro e w' ⟨rfl, rfl⟩))
      all_goals go_ret
      all_goals exact ⟨sret_bool (by rw [← HV.out]; rfl), rfl⟩
    · go_enter Try.func102, Try.ntmps102
      go_wp2_with (first
        | (go_at_call 64; (with_reducible refine (l1In_any _ _ _ _ _ HX.out).mono ?_); rintro e w' ⟨rfl, rfl⟩)
        | (go_at_call 64; (with_reducible refine (l1In_any _ _ _ _ _ HY.out).mono ?_); rintro e w' ⟨rfl, rfl⟩)
        | (go_at_call 64; (with_reducible refine (l1In_any _ _ _ _ _ HT.out).mono ?_); rintro e w' ⟨rfl, rfl⟩))
      all_goals go_ret
      all_goals exact ⟨sret_bool (by rw [← HV.out]; first | rfl | (cases bt <;> rfl)), rfl⟩

set_option maxRecDepth 100000 in
theorem divideUp_is (n d r : Int) (w : World) (hn : 0 ≤ n) (hn2 : n ≤ 3000000) (hd : 1 ≤ d) (hd2 : d ≤ 3000) (hr : (n + d - 1) / d = r) :
    Calls Try.prog 104 #[.int .i64 n, .int .i64 d] w fun e w' => e = .returned (.int .i64 r) ∧ w' = w := by
  have HR := Lib.hid hr
  clear hr
  obtain ⟨m, hm⟩ : ∃ m, n + d - 1 = m := ⟨_, rfl⟩
  have hm0 : 0 ≤ m := by omega
  have hm1 : m ≤ 3003000 := by omega
  have h1 := Int.ediv_nonneg hm0 (show (0 : Int) ≤ d by omega)
  have h2 : m / d ≤ m := Int.ediv_le_self d hm0
  have HM := Lib.hid hm
  go_enter Try.func104, Try.ntmps104
  go_wp2
  go_ret
  exact ⟨sret_int (by rw [← HR.out, HM.out]), rfl⟩

/-- the least overlap -/
def moR (x y t : Int) : Int := (t * (x + y) + 999 + t) / (1000 + t)

theorem mul_range {a b m n : Int} (h1 : 0 ≤ a) (h2 : a ≤ m) (h3 : 0 ≤ b) (h4 : b ≤ n) : 0 ≤ a * b ∧ a * b ≤ m * n := by
  refine ⟨Int.mul_nonneg h1 h3, ?_⟩
  calc a * b ≤ m * b := Int.mul_le_mul_of_nonneg_right h2 h3
    _ ≤ m * n := Int.mul_le_mul_of_nonneg_left h4 (by omega)
theorem wrap_of {p : Int} (h1 : 0 ≤ p) (h2 : p ≤ 3000000) : IntKind.i64.wrap p = p := IntWalk.i64_in p (by omega)
theorem sret_two {a b c d : Int} (h1 : a = c) (h2 : b = d) : Ending.returned (.tuple #[.int .i64 a, .int .i64 b]) = .returned (.tuple #[.int .i64 c, .int .i64 d]) := by rw [h1, h2]
theorem quo_range {m d : Int} (h1 : 0 ≤ m) (h2 : 1 ≤ d) : 0 ≤ m / d ∧ m / d ≤ m := ⟨Int.ediv_nonneg h1 (by omega), Int.ediv_le_self d h1⟩

set_option maxRecDepth 100000 in
theorem mo_spec (x y t r : Int) (w : World) (hr : (if goodR x y t then moR x y t else -1) = r) :
    Calls Try.prog 57 #[.int .i64 x, .int .i64 y, .int .i64 t] w fun e w' => e = .returned (.int .i64 r) ∧ w' = w := by
  obtain ⟨g, hg⟩ : ∃ g, goodR x y t = g := ⟨_, rfl⟩
  rw [hg] at hr
  have HG := Lib.hid hg
  have HR := Lib.hid hr
  clear hr
  cases g
  · clear hg
    go_enter Try.func57, Try.ntmps57
    go_wp2_with (go_at_call 102; refine (good_is _ _ _ _ _ HG.out).mono ?_; rintro e w' ⟨rfl, rfl⟩)
    go_ret
    exact ⟨sret_int HR.out, rfl⟩
  · rw [goodR, Bool.and_eq_true, Bool.and_eq_true] at hg
    obtain ⟨hx, hy, ht⟩ := hg
    have hx := okS_yes hx
    have hy := okS_yes hy
    have ht := okT_yes ht
    obtain ⟨hx1, hx2⟩ := hx
    obtain ⟨hy1, hy2⟩ := hy
    obtain ⟨ht1, ht2⟩ := ht
    obtain ⟨p, hp⟩ : ∃ p, t * (x + y) = p := ⟨_, rfl⟩
    have hpr := mul_range (show 0 ≤ t by omega) ht2 (show 0 ≤ x + y by omega) (show x + y ≤ 2000 by omega)
    rw [hp] at hpr
    obtain ⟨hp1, hp2⟩ := hpr
    have hw : IntKind.i64.wrap (t * (x + y)) = p := by rw [hp]; exact wrap_of hp1 (by omega)
    have hq := quo_range (show 0 ≤ p + 999 + t by omega) (show 1 ≤ 1000 + t by omega)
    obtain ⟨hq1, hq2⟩ := hq
    have HR2 := Lib.hid (show (p + 999 + t) / (1000 + t) = r by rw [← HR.out, if_pos rfl, moR, hp])
    clear hp
    go_enter Try.func57, Try.ntmps57
    go_wp2_with (go_at_call 102; refine (good_is _ _ _ _ _ HG.out).mono ?_; rintro e w' ⟨rfl, rfl⟩)
    go_ret
    exact ⟨sret_int HR2.out, rfl⟩

set_option maxRecDepth 100000 in
theorem mo_impl (x y t r : Int) (w : World) (hr : (if goodR x y t then moR x y t else -1) = r) :
    Calls Try.prog 56 #[.int .i64 x, .int .i64 y, .int .i64 t] w fun e w' => e = .returned (.int .i64 r) ∧ w' = w := by
  obtain ⟨bx, hx⟩ : ∃ b, okS x = b := ⟨_, rfl⟩
  obtain ⟨b0, hy⟩ : ∃ b, okS y = b := ⟨_, rfl⟩
  obtain ⟨bt, ht⟩ : ∃ b, okT t = b := ⟨_, rfl⟩
  rw [goodR, hx, hy, ht] at hr
  have HX := Lib.hid hx
  have HY := Lib.hid hy
  have HT := Lib.hid ht
  have HR := Lib.hid hr
  clear hr
  cases bx
  · clear hx hy ht
    go_enter Try.func56, Try.ntmps56
    go_wp2_with (go_at_call 99; refine (setSize_is _ _ _ HX.out).mono ?_; rintro e w' ⟨rfl, rfl⟩)
    go_ret
    exact ⟨sret_int HR.out, rfl⟩
  · cases b0
    · clear hx hy ht
      go_enter Try.func56, Try.ntmps56
      go_wp2_with (first
        | (go_at_call 99; (with_reducible refine (setSize_is _ _ _ HX.out).mono ?_); rintro e w' ⟨rfl, rfl⟩)
        | (go_at_call 99; (with_reducible refine (setSize_is _ _ _ HY.out).mono ?_); rintro e w' ⟨rfl, rfl⟩))
      all_goals go_ret
      all_goals exact ⟨sret_int HR.out, rfl⟩
    · cases bt
      · clear hx hy ht
        go_enter Try.func56, Try.ntmps56
        go_wp2_with (first
          | (go_at_call 99; (with_reducible refine (setSize_is _ _ _ HX.out).mono ?_); rintro e w' ⟨rfl, rfl⟩)
          | (go_at_call 99; (with_reducible refine (setSize_is _ _ _ HY.out).mono ?_); rintro e w' ⟨rfl, rfl⟩)
          | (go_at_call 74; (with_reducible refine (threshold_is _ _ _ HT.out).mono ?_); rintro e w' ⟨rfl, rfl⟩))
        all_goals go_ret
        all_goals exact ⟨sret_int HR.out, rfl⟩
      · have hx := okS_yes hx
        have hy := okS_yes hy
        have ht := okT_yes ht
        obtain ⟨hx1, hx2⟩ := hx
        obtain ⟨hy1, hy2⟩ := hy
        obtain ⟨ht1, ht2⟩ := ht
        obtain ⟨p, hp⟩ : ∃ p, t * (x + y) = p := ⟨_, rfl⟩
        have hpr := mul_range (show 0 ≤ t by omega) ht2 (show 0 ≤ x + y by omega) (show x + y ≤ 2000 by omega)
        rw [hp] at hpr
        obtain ⟨hp1, hp2⟩ := hpr
        have hw : IntKind.i64.wrap (t * (x + y)) = p := by rw [hp]; exact wrap_of hp1 (by omega)
        have HR2 := Lib.hid (show (p + (1000 + t) - 1) / (1000 + t) = r by rw [← HR.out, show (if (true && (true && true)) = true then moR x y t else -1) = moR x y t from rfl, moR, hp]; congr 1; omega)
        clear hp
        go_enter Try.func56, Try.ntmps56
        go_wp2_with (first
          | (go_at_call 99; (with_reducible refine (setSize_is _ _ _ HX.out).mono ?_); rintro e w' ⟨rfl, rfl⟩)
          | (go_at_call 99; (with_reducible refine (setSize_is _ _ _ HY.out).mono ?_); rintro e w' ⟨rfl, rfl⟩)
          | (go_at_call 74; (with_reducible refine (threshold_is _ _ _ HT.out).mono ?_); rintro e w' ⟨rfl, rfl⟩)
          | (go_at_call 104; (with_reducible refine (divideUp_is _ _ _ _ hp1 (by omega) (by omega) (by omega) HR2.out).mono ?_); rintro e w' ⟨rfl, rfl⟩))
        all_goals go_ret
        all_goals exact ⟨rfl, rfl⟩

/-- the bounds of a size -/
def lbLo (x t : Int) : Int := (x * t + 999) / 1000
def lbHi (x t : Int) : Int := x * 1000 / t

set_option maxRecDepth 100000 in
theorem lb_spec (x t r s : Int) (w : World) (hr : (if okS x && okT t then lbLo x t else -1) = r) (hs : (if okS x && okT t then lbHi x t else -1) = s) :
    Calls Try.prog 55 #[.int .i64 x, .int .i64 t] w fun e w' => e = .returned (.tuple #[.int .i64 r, .int .i64 s]) ∧ Below w.heap.size w w' := by
  obtain ⟨g, hg⟩ : ∃ g, (okS x && okT t) = g := ⟨_, rfl⟩
  rw [hg] at hr hs
  have HG := Lib.hid (show goodR x 0 t = g by rw [← hg]; unfold goodR; rw [show okS 0 = true from rfl]; simp)
  have HR := Lib.hid hr
  have HS := Lib.hid hs
  clear hr hs
  cases g
  · clear hg
    go_enter Try.func55, Try.ntmps55
    go_wp2_with (go_at_call 102; refine (good_is _ _ _ _ _ HG.out).mono ?_; rintro e w' ⟨rfl, rfl⟩)
    go_ret2
    exact ⟨sret_two HR.out HS.out, Below.refl _ _⟩
  · rw [Bool.and_eq_true] at hg
    obtain ⟨hx, ht⟩ := hg
    have hx := okS_yes hx
    have ht := okT_yes ht
    obtain ⟨hx1, hx2⟩ := hx
    obtain ⟨ht1, ht2⟩ := ht
    obtain ⟨p, hp⟩ : ∃ p, x * t = p := ⟨_, rfl⟩
    have hpr := mul_range hx1 hx2 (show 0 ≤ t by omega) ht2
    rw [hp] at hpr
    obtain ⟨hp1, hp2⟩ := hpr
    have hw : IntKind.i64.wrap (x * t) = p := by rw [hp]; exact wrap_of hp1 (by omega)
    have hq := quo_range (show 0 ≤ x * 1000 by omega) (show 1 ≤ t by omega)
    obtain ⟨hq1, hq2⟩ := hq
    have HR2 := Lib.hid (show (p + 999) / 1000 = r by rw [← HR.out, if_pos rfl, lbLo, hp])
    have HS2 := Lib.hid (show x * 1000 / t = s by rw [← HS.out, if_pos rfl, lbHi])
    clear hp
    go_enter Try.func55, Try.ntmps55
    go_wp2_with (go_at_call 102; refine (good_is _ _ _ _ _ HG.out).mono ?_; rintro e w' ⟨rfl, rfl⟩)
    go_quiet (fail)
    go_wp2
    go_ret2
    exact ⟨sret_two HR2.out HS2.out, ⟨rfl, rfl, rfl, Nat.le_refl _, fun _ _ => rfl⟩⟩

set_option maxRecDepth 100000 in
theorem lb_impl (x t r s : Int) (w : World) (hr : (if okS x && okT t then lbLo x t else -1) = r) (hs : (if okS x && okT t then lbHi x t else -1) = s) :
    Calls Try.prog 54 #[.int .i64 x, .int .i64 t] w fun e w' => e = .returned (.tuple #[.int .i64 r, .int .i64 s]) ∧ Below w.heap.size w w' := by
  obtain ⟨bx, hx⟩ : ∃ b, okS x = b := ⟨_, rfl⟩
  obtain ⟨bt, ht⟩ : ∃ b, okT t = b := ⟨_, rfl⟩
  rw [hx, ht] at hr hs
  have HX := Lib.hid hx
  have HT := Lib.hid ht
  have HR := Lib.hid hr
  have HS := Lib.hid hs
  clear hr hs
  cases bx
  · clear hx ht
    go_enter Try.func54, Try.ntmps54
    go_wp2_with (go_at_call 99; refine (setSize_is _ _ _ HX.out).mono ?_; rintro e w' ⟨rfl, rfl⟩)
    go_ret2
    exact ⟨sret_two HR.out HS.out, Below.refl _ _⟩
  · cases bt
    · clear hx ht
      go_enter Try.func54, Try.ntmps54
      go_wp2_with (first
        | (go_at_call 99; (with_reducible refine (setSize_is _ _ _ HX.out).mono ?_); rintro e w' ⟨rfl, rfl⟩)
        | (go_at_call 74; (with_reducible refine (threshold_is _ _ _ HT.out).mono ?_); rintro e w' ⟨rfl, rfl⟩))
      go_ret2
      exact ⟨sret_two HR.out HS.out, Below.refl _ _⟩
    · have hx := okS_yes hx
      have ht := okT_yes ht
      obtain ⟨hx1, hx2⟩ := hx
      obtain ⟨ht1, ht2⟩ := ht
      obtain ⟨p, hp⟩ : ∃ p, x * t = p := ⟨_, rfl⟩
      have hpr := mul_range hx1 hx2 (show 0 ≤ t by omega) ht2
      rw [hp] at hpr
      obtain ⟨hp1, hp2⟩ := hpr
      have hw : IntKind.i64.wrap (x * t) = p := by rw [hp]; exact wrap_of hp1 (by omega)
      have hq := quo_range (show 0 ≤ x * 1000 by omega) (show 1 ≤ t by omega)
      obtain ⟨hq1, hq2⟩ := hq
      have HR2 := Lib.hid (show (p + 1000 - 1) / 1000 = r by rw [← HR.out, show (if (true && true) = true then lbLo x t else -1) = lbLo x t from rfl, lbLo, hp]; congr 1; omega)
      have HS2 := Lib.hid (show x * 1000 / t = s by rw [← HS.out]; rfl)
      have HD := Lib.hid (fun j : Nat => divideUp_is p 1000 r (w.drewN j) hp1 (by omega) (by omega) (by omega) HR2.out)
      clear hp
      go_enter Try.func54, Try.ntmps54
      go_wp2_with (first
        | (go_at_call 99; (with_reducible refine (setSize_is _ _ _ HX.out).mono ?_); rintro e w' ⟨rfl, rfl⟩)
        | (go_at_call 74; (with_reducible refine (threshold_is _ _ _ HT.out).mono ?_); rintro e w' ⟨rfl, rfl⟩))
      go_quiet ((go_at_call 104; with_reducible exact Calls.quiet_of_same (HD.out _)))
      go_wp2
      go_ret2
      exact ⟨sret_two rfl HS2.out, ⟨rfl, rfl, rfl, Nat.le_refl _, fun _ _ => rfl⟩⟩

end Go.Proofs.Ytggohfinkpppkaa
