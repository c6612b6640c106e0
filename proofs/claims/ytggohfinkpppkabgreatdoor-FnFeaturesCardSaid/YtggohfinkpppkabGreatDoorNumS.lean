/-
  What NumberScore answers, on both sides. By an AI agent.
-/
import Derived.Test.YtggohfinkpppkabGreatDoorGMem
namespace Go.Proofs.YtggohfinkpppkabGreatDoor
open Go.RowKit
set_option linter.unusedVariables false

/-- a number from 0 to 9999; a scale from 1 to 9999 -/
def okN (x : Int) : Bool := decide (0 ≤ x) && decide (x ≤ 9999)
def okC (x : Int) : Bool := decide (1 ≤ x) && decide (x ≤ 9999)
theorem okN_yes {x : Int} (h : okN x = true) : 0 ≤ x ∧ x ≤ 9999 := by simpa [okN] using h
theorem okN_no {x : Int} (h : okN x = false) : ¬ (0 ≤ x ∧ x ≤ 9999) := fun k => by simp [okN, k.1, k.2] at h
theorem okC_yes {x : Int} (h : okC x = true) : 1 ≤ x ∧ x ≤ 9999 := by simpa [okC] using h
theorem okC_no {x : Int} (h : okC x = false) : ¬ (1 ≤ x ∧ x ≤ 9999) := fun k => by simp [okC, k.1, k.2] at h
theorem okN_dec (x : Int) : decide (0 ≤ x ∧ x ≤ 9999) = okN x := by unfold okN; by_cases h1 : 0 ≤ x <;> by_cases h2 : x ≤ 9999 <;> simp [h1, h2]
theorem okC_dec (x : Int) : decide (1 ≤ x ∧ x ≤ 9999) = okC x := by unfold okC; by_cases h1 : 1 ≤ x <;> by_cases h2 : x ≤ 9999 <;> simp [h1, h2]

/-- the difference -/
def difI (a b : Int) : Int := if a < b then b - a else a - b
theorem difI_lt {a b : Int} (h : a < b) : difI a b = b - a := if_pos h
theorem difI_gt {a b : Int} (h : b < a) : difI a b = a - b := if_neg (by omega)
theorem difI_self (a : Int) : difI a a = 0 := by simp [difI]
def nsR (a b s : Int) : Int := if okN a && (okN b && okC s) then (if s ≤ difI a b then 0 else 1000 * (s - difI a b) / s) else 0

theorem nl1In (x a b : Int) (r : Bool) (w : World) (h : decide (a ≤ x ∧ x ≤ b) = r) :
    Calls Tryz.prog 32 #[.int .i64 x, .int .i64 a, .int .i64 b] w fun e w' => e = .returned (.bool r) ∧ w' = w := by
  cases r with
  | true =>
    have h1 := of_decide_eq_true h
    exact (l1In_yes x a b w h1.1 h1.2).mono fun e w' k => ⟨k.1, k.2.symm⟩
  | false => exact (l1In_no x a b w (of_decide_eq_false h)).mono fun e w' k => ⟨k.1, k.2.symm⟩

set_option maxRecDepth 100000 in
theorem l7Num_is (x : Int) (r : Bool) (w : World) (h : okN x = r) :
    Calls Tryz.prog 60 #[.int .i64 x] w fun e w' => e = .returned (.bool r) ∧ w' = w := by
  have HX := Lib.hid ((okN_dec x).trans h)
  clear h
  go_enter Tryz.func60, Tryz.ntmps60
  go_wp2_with (go_at_call 32; refine (nl1In _ _ _ _ _ HX.out).mono ?_; rintro e w' ⟨rfl, rfl⟩)
  go_ret
  exact ⟨rfl, rfl⟩


set_option maxRecDepth 100000 in
theorem ns_spec (a b s r : Int) (w : World) (hr : nsR a b s = r) :
    Calls Tryz.prog 30 #[.int .i64 a, .int .i64 b, .int .i64 s] w fun e w' => e = .returned (.int .i64 r) ∧ w' = w := by
  have HR := Lib.hid hr
  clear hr
  obtain ⟨ba, ha⟩ : ∃ x, okN a = x := ⟨_, rfl⟩
  obtain ⟨bb, hb⟩ : ∃ x, okN b = x := ⟨_, rfl⟩
  obtain ⟨bs, hs⟩ : ∃ x, okC s = x := ⟨_, rfl⟩
  have HA := Lib.hid ha
  have HB := Lib.hid hb
  have HS := Lib.hid ((okC_dec s).trans hs)
  have HV := Lib.hid (show (if ba && (bb && bs) then (if s ≤ difI a b then 0 else 1000 * (s - difI a b) / s) else 0) = r by rw [← HR.out, nsR, ha, hb, hs])
  cases ba
  · clear ha hb hs
    go_enter Tryz.func30, Tryz.ntmps30
    go_wp2_with (go_at_call 60; ((with_reducible refine (l7Num_is _ _ _ HA.out).mono ?_); rintro e w' ⟨rfl, rfl⟩))
    go_ret
    exact ⟨iret_int HV.out, rfl⟩
  · cases bb
    · clear ha hb hs
      go_enter Tryz.func30, Tryz.ntmps30
      go_wp2_with (first
        | (go_at_call 60; ((with_reducible refine (l7Num_is _ _ _ HA.out).mono ?_); rintro e w' ⟨rfl, rfl⟩))
        | (go_at_call 60; ((with_reducible refine (l7Num_is _ _ _ HB.out).mono ?_); rintro e w' ⟨rfl, rfl⟩)))
      go_ret
      exact ⟨iret_int HV.out, rfl⟩
    · cases bs
      · clear ha hb hs
        go_enter Tryz.func30, Tryz.ntmps30
        go_wp2_with (first
          | (go_at_call 60; ((with_reducible refine (l7Num_is _ _ _ HA.out).mono ?_); rintro e w' ⟨rfl, rfl⟩))
          | (go_at_call 60; ((with_reducible refine (l7Num_is _ _ _ HB.out).mono ?_); rintro e w' ⟨rfl, rfl⟩))
          | (go_at_call 32; ((with_reducible refine (nl1In _ _ _ _ _ HS.out).mono ?_); rintro e w' ⟨rfl, rfl⟩)))
        go_ret
        exact ⟨iret_int HV.out, rfl⟩
      · obtain ⟨a0, a1⟩ := okN_yes ha
        obtain ⟨b0, b1⟩ := okN_yes hb
        obtain ⟨s0, s1⟩ := okC_yes hs
        clear ha hb hs HR
        rcases Int.lt_trichotomy a b with hab | rfl | hab
        · have HD := Lib.hid (difI_lt hab)
          by_cases hd : s ≤ b - a
          · skip
            go_enter Tryz.func30, Tryz.ntmps30
            go_wp2_with (first
              | (go_at_call 60; ((with_reducible refine (l7Num_is _ _ _ HA.out).mono ?_); rintro e w' ⟨rfl, rfl⟩))
              | (go_at_call 60; ((with_reducible refine (l7Num_is _ _ _ HB.out).mono ?_); rintro e w' ⟨rfl, rfl⟩))
              | (go_at_call 32; ((with_reducible refine (nl1In _ _ _ _ _ HS.out).mono ?_); rintro e w' ⟨rfl, rfl⟩)))
            go_ret
            exact ⟨iret_int (by rw [← HV.out, HD.out]; simp; omega), rfl⟩
          · have m0 : 0 ≤ 1000 * (s - (b - a)) := by omega
            have q0 := Int.ediv_nonneg m0 (show (0 : Int) ≤ s by omega)
            have q1 : 1000 * (s - (b - a)) / s ≤ 1000 * (s - (b - a)) := Int.ediv_le_self s m0
            go_enter Tryz.func30, Tryz.ntmps30
            go_wp2_with (first
              | (go_at_call 60; ((with_reducible refine (l7Num_is _ _ _ HA.out).mono ?_); rintro e w' ⟨rfl, rfl⟩))
              | (go_at_call 60; ((with_reducible refine (l7Num_is _ _ _ HB.out).mono ?_); rintro e w' ⟨rfl, rfl⟩))
              | (go_at_call 32; ((with_reducible refine (nl1In _ _ _ _ _ HS.out).mono ?_); rintro e w' ⟨rfl, rfl⟩)))
            go_ret
            exact ⟨iret_int (by rw [← HV.out, HD.out]; simp; omega), rfl⟩
        · have HD := Lib.hid (difI_self a)
          have q0 := Int.ediv_nonneg (show (0 : Int) ≤ 1000 * s by omega) (show (0 : Int) ≤ s by omega)
          have q1 : 1000 * s / s ≤ 1000 * s := Int.ediv_le_self s (by omega)
          go_enter Tryz.func30, Tryz.ntmps30
          go_wp2_with (first
            | (go_at_call 60; ((with_reducible refine (l7Num_is _ _ _ HA.out).mono ?_); rintro e w' ⟨rfl, rfl⟩))
            | (go_at_call 60; ((with_reducible refine (l7Num_is _ _ _ HB.out).mono ?_); rintro e w' ⟨rfl, rfl⟩))
            | (go_at_call 32; ((with_reducible refine (nl1In _ _ _ _ _ HS.out).mono ?_); rintro e w' ⟨rfl, rfl⟩)))
          go_ret
          exact ⟨iret_int (by rw [← HV.out, HD.out]; simp; omega), rfl⟩
        · have HD := Lib.hid (difI_gt hab)
          by_cases hd : s ≤ a - b
          · skip
            go_enter Tryz.func30, Tryz.ntmps30
            go_wp2_with (first
              | (go_at_call 60; ((with_reducible refine (l7Num_is _ _ _ HA.out).mono ?_); rintro e w' ⟨rfl, rfl⟩))
              | (go_at_call 60; ((with_reducible refine (l7Num_is _ _ _ HB.out).mono ?_); rintro e w' ⟨rfl, rfl⟩))
              | (go_at_call 32; ((with_reducible refine (nl1In _ _ _ _ _ HS.out).mono ?_); rintro e w' ⟨rfl, rfl⟩)))
            go_ret
            exact ⟨iret_int (by rw [← HV.out, HD.out]; simp; omega), rfl⟩
          · have m0 : 0 ≤ 1000 * (s - (a - b)) := by omega
            have q0 := Int.ediv_nonneg m0 (show (0 : Int) ≤ s by omega)
            have q1 : 1000 * (s - (a - b)) / s ≤ 1000 * (s - (a - b)) := Int.ediv_le_self s m0
            go_enter Tryz.func30, Tryz.ntmps30
            go_wp2_with (first
              | (go_at_call 60; ((with_reducible refine (l7Num_is _ _ _ HA.out).mono ?_); rintro e w' ⟨rfl, rfl⟩))
              | (go_at_call 60; ((with_reducible refine (l7Num_is _ _ _ HB.out).mono ?_); rintro e w' ⟨rfl, rfl⟩))
              | (go_at_call 32; ((with_reducible refine (nl1In _ _ _ _ _ HS.out).mono ?_); rintro e w' ⟨rfl, rfl⟩)))
            go_ret
            exact ⟨iret_int (by rw [← HV.out, HD.out]; simp; omega), rfl⟩

set_option maxRecDepth 100000 in
theorem th_is (x s : Int) (w : World) (h0 : 0 ≤ x) (h1 : x ≤ 9999) (h2 : 1 ≤ s) (h3 : s ≤ 9999) :
    Calls Tryz.prog 98 #[.int .i64 x, .int .i64 s] w fun e w' => e = .returned (.int .i64 (1000 * x / s)) ∧ w' = w := by
  have m0 : 0 ≤ 1000 * x := by omega
  have q0 := Int.ediv_nonneg m0 (show (0 : Int) ≤ s by omega)
  have q1 : 1000 * x / s ≤ 1000 * x := Int.ediv_le_self s m0
  have hz : (s == 0) = false := by simp; omega
  go_enter Tryz.func98, Tryz.ntmps98
  go_wp2
  go_ret
  exact ⟨rfl, rfl⟩

theorem two_within (a b : Int) : withinB 0 9999 [a, b] = (okN a && okN b) := by simp [withinB, okN]
theorem one_within (s : Int) : withinB 1 9999 [s] = okC s := by simp [withinB, okC]
theorem within_two (a b : Int) (r : Bool) (w : World) (h : withinB 0 9999 [a, b] = r) : Calls Tryz.prog 37 #[.int .i64 0, .int .i64 9999, .slice (some ⟨w.heap.size, 0, none⟩) 2 2] (w.alloc (.cells #[.int .i64 a, .int .i64 b] 3)) fun e w' => e = .returned (.bool r) ∧ w' = w.alloc (.cells #[.int .i64 a, .int .i64 b] 3) := within_is 0 9999 _ 2 [a, b] r _ (by simp) (InI.new w [a, b]) h
theorem within_one (s : Int) (r : Bool) (w : World) (h : withinB 1 9999 [s] = r) : Calls Tryz.prog 37 #[.int .i64 1, .int .i64 9999, .slice (some ⟨w.heap.size, 0, none⟩) 1 1] (w.alloc (.cells #[.int .i64 s] 3)) fun e w' => e = .returned (.bool r) ∧ w' = w.alloc (.cells #[.int .i64 s] 3) := within_is 1 9999 _ 1 [s] r _ (by simp) (InI.new w [s]) h
theorem within_one2 (s : Int) (r : Bool) (w : World) (x : Obj) (h : withinB 1 9999 [s] = r) : Calls Tryz.prog 37 #[.int .i64 1, .int .i64 9999, .slice (some ⟨w.heap.size + 1, 0, none⟩) 1 1] ((w.alloc x).alloc (.cells #[.int .i64 s] 3)) fun e w' => e = .returned (.bool r) ∧ w' = (w.alloc x).alloc (.cells #[.int .i64 s] 3) := by
  have h1 := within_one s r (w.alloc x) h
  rw [show (w.alloc x).heap.size = w.heap.size + 1 by simp] at h1
  exact h1
theorem ns_edge {s d : Int} (h : d ≤ s) (h1 : 1 ≤ s) : (if (true && (true && true)) then (if s ≤ d then 0 else 1000 * (s - d) / s) else 0) = 1000 * (s - d) / s := by
  by_cases h2 : s ≤ d
  · obtain rfl : s = d := by omega
    simp
  · simp [h2]
theorem two_below (w : World) (x y : Obj) : Below w.heap.size w ((w.alloc x).alloc y) := ((Below.refl w.heap.size w).alloc (Nat.le_refl _) x).alloc (by simp) y
theorem one_below (w : World) (x : Obj) : Below w.heap.size w (w.alloc x) := (Below.refl w.heap.size w).alloc (Nat.le_refl _) x

set_option maxRecDepth 100000 in
theorem ns_impl (a b s r : Int) (w : World) (hr : nsR a b s = r) :
    Calls Tryz.prog 80 #[.int .i64 a, .int .i64 b, .int .i64 s] w fun e w' => e = .returned (.int .i64 r) ∧ Below w.heap.size w w' := by
  have HR := Lib.hid hr
  clear hr
  obtain ⟨ba, ha⟩ : ∃ x, okN a = x := ⟨_, rfl⟩
  obtain ⟨bb, hb⟩ : ∃ x, okN b = x := ⟨_, rfl⟩
  obtain ⟨bs, hs⟩ : ∃ x, okC s = x := ⟨_, rfl⟩
  have HA := Lib.hid (show withinB 0 9999 [a, b] = (ba && bb) by rw [two_within, ha, hb])
  have HS := Lib.hid ((one_within s).trans hs)
  have HV := Lib.hid (show (if ba && (bb && bs) then (if s ≤ difI a b then 0 else 1000 * (s - difI a b) / s) else 0) = r by rw [← HR.out, nsR, ha, hb, hs])
  obtain ⟨bx, hx⟩ : ∃ x, (ba && bb) = x := ⟨_, rfl⟩
  rw [hx] at HA
  cases bx
  · have HV2 := Lib.hid (show 0 = r by rw [← HV.out]; cases ba <;> cases bb <;> first | rfl | cases hx)
    clear ha hb hs HV HR hx
    go_enter Tryz.func80, Tryz.ntmps80
    go_wp2_with (go_at_call 37; ((with_reducible refine (within_two _ _ _ _ HA.out).mono ?_); rintro e w' ⟨rfl, rfl⟩))
    go_ret
    exact ⟨iret_int HV2.out, one_below _ _⟩
  · obtain ⟨rfl, rfl⟩ : ba = true ∧ bb = true := by simpa using hx
    clear hx
    cases bs
    · clear ha hb hs
      go_enter Tryz.func80, Tryz.ntmps80
      go_wp2_with (first
        | (go_at_call 37; ((with_reducible refine (within_two _ _ _ _ HA.out).mono ?_); rintro e w' ⟨rfl, rfl⟩))
        | (go_at_call 37; ((with_reducible refine (within_one2 _ _ _ _ HS.out).mono ?_); rintro e w' ⟨rfl, rfl⟩)))
      go_ret
      exact ⟨iret_int HV.out, two_below _ _ _⟩
    · obtain ⟨a0, a1⟩ := okN_yes ha
      obtain ⟨b0, b1⟩ := okN_yes hb
      obtain ⟨s0, s1⟩ := okC_yes hs
      clear ha hb hs HR
      rcases Int.lt_trichotomy a b with hab | rfl | hab
      · have HD := Lib.hid (difI_lt hab)
        by_cases hd : s < b - a
        · skip
          go_enter Tryz.func80, Tryz.ntmps80
          go_wp2_with (first
            | (go_at_call 37; ((with_reducible refine (within_two _ _ _ _ HA.out).mono ?_); rintro e w' ⟨rfl, rfl⟩))
            | (go_at_call 37; ((with_reducible refine (within_one2 _ _ _ _ HS.out).mono ?_); rintro e w' ⟨rfl, rfl⟩))
            | (go_at_call 98; ((with_reducible refine (th_is 0 s _ (by omega) (by omega) (by omega) (by omega)).mono ?_); rintro e w' ⟨rfl, rfl⟩)))
          go_ret
          exact ⟨iret_int (by rw [← HV.out, HD.out]; simp; omega), two_below _ _ _⟩
        · skip
          go_enter Tryz.func80, Tryz.ntmps80
          go_wp2_with (first
            | (go_at_call 37; ((with_reducible refine (within_two _ _ _ _ HA.out).mono ?_); rintro e w' ⟨rfl, rfl⟩))
            | (go_at_call 37; ((with_reducible refine (within_one2 _ _ _ _ HS.out).mono ?_); rintro e w' ⟨rfl, rfl⟩))
            | (go_at_call 98; ((with_reducible refine (th_is (s - (b - a)) s _ (by omega) (by omega) (by omega) (by omega)).mono ?_); rintro e w' ⟨rfl, rfl⟩)))
          go_ret
          exact ⟨iret_int (by rw [← HV.out, HD.out]; exact (ns_edge (by omega) (by omega)).symm), two_below _ _ _⟩
      · have HD := Lib.hid (difI_self a)
        go_enter Tryz.func80, Tryz.ntmps80
        go_wp2_with (first
          | (go_at_call 37; ((with_reducible refine (within_two _ _ _ _ HA.out).mono ?_); rintro e w' ⟨rfl, rfl⟩))
          | (go_at_call 37; ((with_reducible refine (within_one2 _ _ _ _ HS.out).mono ?_); rintro e w' ⟨rfl, rfl⟩))
          | (go_at_call 98; ((with_reducible refine (th_is s s _ (by omega) (by omega) (by omega) (by omega)).mono ?_); rintro e w' ⟨rfl, rfl⟩)))
        go_ret
        exact ⟨iret_int (by rw [← HV.out, HD.out]; simp; omega), two_below _ _ _⟩
      · have HD := Lib.hid (difI_gt hab)
        by_cases hd : s < a - b
        · skip
          go_enter Tryz.func80, Tryz.ntmps80
          go_wp2_with (first
            | (go_at_call 37; ((with_reducible refine (within_two _ _ _ _ HA.out).mono ?_); rintro e w' ⟨rfl, rfl⟩))
            | (go_at_call 37; ((with_reducible refine (within_one2 _ _ _ _ HS.out).mono ?_); rintro e w' ⟨rfl, rfl⟩))
            | (go_at_call 98; ((with_reducible refine (th_is 0 s _ (by omega) (by omega) (by omega) (by omega)).mono ?_); rintro e w' ⟨rfl, rfl⟩)))
          go_ret
          exact ⟨iret_int (by rw [← HV.out, HD.out]; simp; omega), two_below _ _ _⟩
        · skip
          go_enter Tryz.func80, Tryz.ntmps80
          go_wp2_with (first
            | (go_at_call 37; ((with_reducible refine (within_two _ _ _ _ HA.out).mono ?_); rintro e w' ⟨rfl, rfl⟩))
            | (go_at_call 37; ((with_reducible refine (within_one2 _ _ _ _ HS.out).mono ?_); rintro e w' ⟨rfl, rfl⟩))
            | (go_at_call 98; ((with_reducible refine (th_is (s - (a - b)) s _ (by omega) (by omega) (by omega) (by omega)).mono ?_); rintro e w' ⟨rfl, rfl⟩)))
          go_ret
          exact ⟨iret_int (by rw [← HV.out, HD.out]; exact (ns_edge (by omega) (by omega)).symm), two_below _ _ _⟩

end Go.Proofs.YtggohfinkpppkabGreatDoor
