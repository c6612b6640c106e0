/-
  Chapter 10's numbers: LengthFilter, spec.l10Good, MinCommonGrams and EditLimit on both sides. By an AI agent.
-/
import Derived.Test.YthjbekgognfiiaaGreatJ3
import Derived.Test.YthjbekgognfiiaaGreatJ8
namespace Go.Proofs.YthjbekgognfiiaaGreat
open Go.RowKit
set_option linter.unusedVariables false

/-- whether the lengths differ by at most limit -/
def lfR (a b : ByteArray) (limit : Int) : Bool := decide ((((max a.size b.size) - (min a.size b.size) : Nat) : Int) ≤ limit)

/-- lengths and a limit from 0 to 40, a gram of 1 to 3 bytes -/
def goodE (x y q l : Int) : Bool := decide (0 ≤ x ∧ x ≤ 40) && (decide (0 ≤ y ∧ y ≤ 40) && (decide (1 ≤ q ∧ q ≤ 3) && decide (0 ≤ l ∧ l ≤ 40)))
theorem goodE_yes {x y q l : Int} (h : goodE x y q l = true) : (0 ≤ x ∧ x ≤ 40) ∧ (0 ≤ y ∧ y ≤ 40) ∧ (1 ≤ q ∧ q ≤ 3) ∧ (0 ≤ l ∧ l ≤ 40) := by
  simp only [goodE, Bool.and_eq_true, decide_eq_true_eq] at h
  exact h

theorem four_ways (bx b0 bq bl : Bool) : bx = false ∨ (bx = true ∧ b0 = false) ∨ (bx = true ∧ b0 = true ∧ bq = false) ∨ (bx = true ∧ b0 = true ∧ bq = true) := by
  cases bx <;> cases b0 <;> cases bq <;> simp

/-- the greater of two numbers, as the program finds it -/
def mxI (x y : Int) : Int := if x < y then y else x
theorem mxI_yes {x y : Int} (h : x < y) : mxI x y = y := if_pos h
theorem mxI_no {x y : Int} (h : ¬ x < y) : mxI x y = x := if_neg h
/-- what MinCommonGrams answers for good arguments; what it answers -/
def mcV (x y q l : Int) : Int := if 0 < mxI x y - q + 1 - q * l then mxI x y - q + 1 - q * l else 0
def mcR (x y q l : Int) : Int := if goodE x y q l then mcV x y q l else -1
theorem mcV_nn (x y q l : Int) : 0 ≤ mcV x y q l := by unfold mcV; split <;> omega
theorem prod_range {q l : Int} (h1 : 1 ≤ q) (h2 : q ≤ 3) (h3 : 0 ≤ l) (h4 : l ≤ 40) : 0 ≤ q * l ∧ q * l ≤ 120 := by
  have := mul_range (show 0 ≤ q by omega) h2 h3 h4
  omega

theorem in_three (lo hi a b c : Int) (r : Bool) (w : World) (h : withinB lo hi [a, b, c] = r) : Calls Tryz.prog 70 #[.int .i64 lo, .int .i64 hi, .slice (some ⟨w.heap.size, 0, none⟩) 3 3] (w.alloc (.cells #[.int .i64 a, .int .i64 b, .int .i64 c] 3)) fun e w' => e = .returned (.bool r) ∧ w' = w.alloc (.cells #[.int .i64 a, .int .i64 b, .int .i64 c] 3) := within_is lo hi _ 3 [a, b, c] r _ (by simp) (InI.new w [a, b, c]) h

theorem in_two (lo hi a b : Int) (r : Bool) (w : World) (h : withinB lo hi [a, b] = r) : Calls Tryz.prog 70 #[.int .i64 lo, .int .i64 hi, .slice (some ⟨w.heap.size, 0, none⟩) 2 2] (w.alloc (.cells #[.int .i64 a, .int .i64 b] 3)) fun e w' => e = .returned (.bool r) ∧ w' = w.alloc (.cells #[.int .i64 a, .int .i64 b] 3) := within_is lo hi _ 2 [a, b] r _ (by simp) (InI.new w [a, b]) h

theorem in_one1 (lo hi s : Int) (r : Bool) (w : World) (h : withinB lo hi [s] = r) : Calls Tryz.prog 70 #[.int .i64 lo, .int .i64 hi, .slice (some ⟨w.heap.size, 0, none⟩) 1 1] (w.alloc (.cells #[.int .i64 s] 3)) fun e w' => e = .returned (.bool r) ∧ w' = w.alloc (.cells #[.int .i64 s] 3) := within_is lo hi _ 1 [s] r _ (by simp) (InI.new w [s]) h

theorem in_one2 (lo hi s : Int) (r : Bool) (w : World) (x : Obj) (h : withinB lo hi [s] = r) : Calls Tryz.prog 70 #[.int .i64 lo, .int .i64 hi, .slice (some ⟨w.heap.size + 1, 0, none⟩) 1 1] ((w.alloc x).alloc (.cells #[.int .i64 s] 3)) fun e w' => e = .returned (.bool r) ∧ w' = (w.alloc x).alloc (.cells #[.int .i64 s] 3) := by
  have h1 := in_one1 lo hi s r (w.alloc x) h
  rw [show (w.alloc x).heap.size = w.heap.size + 1 by simp] at h1
  exact h1

theorem alloc2_below (w : World) (x y : Obj) : Below w.heap.size w ((w.alloc x).alloc y) := ((Below.refl _ _).alloc (Nat.le_refl _) x).alloc (by simp) y
theorem alloc1_below (w : World) (x : Obj) : Below w.heap.size w (w.alloc x) := (Below.refl _ _).alloc (Nat.le_refl _) x

theorem goodE_parts (x y q l : Int) (A B : Bool) (ha : withinB 0 40 [x, y, l] = A) (hb : withinB 1 3 [q] = B) : goodE x y q l = (A && B) := by
  rw [← ha, ← hb, Bool.eq_iff_iff]
  simp [goodE, withinB]
  constructor <;> intro h <;> omega

/-- what EditLimit answers -/
def elR (x y s : Int) : Int := if goodE x y 1 0 && decide (0 ≤ s ∧ s ≤ 1000) then mxI x y * (1000 - s) / 1000 else -1
theorem goodE_two {x y : Int} (h : goodE x y 1 0 = true) : (0 ≤ x ∧ x ≤ 40) ∧ (0 ≤ y ∧ y ≤ 40) := ⟨(goodE_yes h).1, (goodE_yes h).2.1⟩
theorem prod2_range {m s : Int} (h1 : 0 ≤ m) (h2 : m ≤ 40) (h3 : 0 ≤ s) (h4 : s ≤ 1000) : 0 ≤ m * (1000 - s) ∧ m * (1000 - s) ≤ 40000 := by
  have := mul_range h1 h2 (show 0 ≤ 1000 - s by omega) (show 1000 - s ≤ 1000 by omega)
  omega
theorem goodE_pair (x y : Int) (A : Bool) (ha : withinB 0 40 [x, y] = A) : goodE x y 1 0 = A := by
  rw [← ha, Bool.eq_iff_iff]
  simp [goodE, withinB]
theorem one_in (s : Int) (B : Bool) (hb : withinB 0 1000 [s] = B) : decide (0 ≤ s ∧ s ≤ 1000) = B := by
  rw [← hb, Bool.eq_iff_iff]
  simp [withinB]

end Go.Proofs.YthjbekgognfiiaaGreat
