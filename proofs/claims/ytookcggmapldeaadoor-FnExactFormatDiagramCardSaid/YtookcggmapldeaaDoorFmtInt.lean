/-
  What spec.FormatInt and impl.FormatInt answer, for every integer. By an AI agent.
-/
import Derived.Test.YtookcggmapldeaaDoorOwnBytes
import Derived.Test.YtookcggmapldeaaDoorEncVar
import Derived.Test.YtookcggmapldeaaDoorShelf
import Derived.Lib.ItoaLen
import Derived.Lib.ItoaMem
import Derived.Lib.AppendIntMem
import Derived.Lib.LaidTab
namespace Go.Proofs.YtookcggmapldeaaDoor
open Go.RowKit
set_option linter.unusedVariables false

/-- what has been written of a's digits when k is what is left of a -/
def DecInv (a k : Nat) (l : List UInt8) : Prop := (k = 0 ∧ Lib.decDigits a = l) ∨ (0 < k ∧ Lib.decDigits a = Lib.decDigits k ++ l)

theorem DecInv.start {a : Nat} (h : 0 < a) : DecInv a a [] := .inr ⟨h, by simp⟩

theorem DecInv.step {a k : Nat} {l : List UInt8} (h : DecInv a k l) (hk : 0 < k) : DecInv a (k / 10) (UInt8.ofNat (48 + k % 10) :: l) := by
  rcases h with ⟨h, _⟩ | ⟨_, h⟩
  · omega
  · by_cases h10 : k < 10
    · refine .inl ⟨by omega, ?_⟩
      rw [h, Lib.decDigits_one h10, Nat.mod_eq_of_lt h10]
      rfl
    · refine .inr ⟨by omega, ?_⟩
      rw [h, Lib.decDigits, dif_neg h10, List.append_assoc]
      rfl

theorem DecInv.done {a : Nat} {l : List UInt8} (h : DecInv a 0 l) : Lib.decDigits a = l := by
  rcases h with ⟨_, h⟩ | ⟨h, _⟩
  · exact h
  · omega

theorem dig48 (x : Nat) : (48 : UInt8) + UInt8.ofNat x = UInt8.ofNat (48 + x) := by
  rw [UInt8.ofNat_add]; rfl

theorem str_cons (b c : UInt8) (l : List UInt8) (h : b = c) : Value.string ((⟨#[b]⟩ : ByteArray) ++ strOf l) = .string (strOf (c :: l)) := by
  subst h
  exact congrArg _ (strOf_append [b] l)

theorem dec_len (a : Nat) (h : a ≤ 9223372036854775808) : (Lib.decDigits a).length ≤ 21 := by
  rcases Nat.eq_zero_or_pos a with rfl | h0
  · rw [Lib.decDigits_one (by omega)]; simp
  · have h1 := Lib.itoa_length_le (-(a : Int)) (by omega) (by omega)
    rw [Lib.itoa_neg a h0, List.length_cons] at h1
    omega

theorem DecInv.len {a k : Nat} {l : List UInt8} (h : DecInv a k l) (ha : a ≤ 9223372036854775808) : l.length ≤ 21 := by
  have h1 := dec_len a ha
  rcases h with ⟨_, h⟩ | ⟨_, h⟩
  · rw [h] at h1; exact h1
  · rw [h, List.length_append] at h1; omega

set_option maxRecDepth 100000 in
set_option maxHeartbeats 800000 in
theorem spec_fi_zero (w : World) :
    Calls Tryd.prog 11 #[.int .i64 0] w fun e w' => e = .returned (.string (strOf (Lib.itoa 0))) ∧ Below w.heap.size w w' := by
  have e : Lib.itoa 0 = [48] := by rw [show (0 : Int) = ((0 : Nat) : Int) from rfl, Lib.itoa_nonneg, Lib.decDigits_one (by omega)]; rfl
  rw [e]
  clear e
  go_enter Tryd.func11, Tryd.ntmps11
  go_wp2
  go_ret
  exact ⟨rfl, Below.refl _ _⟩

set_option maxRecDepth 100000 in
set_option maxHeartbeats 800000 in
theorem spec_fi_pos (a : Nat) (w : World) (h0 : 0 < a) (ha : (a : Int) ≤ 9223372036854775807) :
    Calls Tryd.prog 11 #[.int .i64 a] w fun e w' => e = .returned (.string (strOf (Lib.decDigits a))) ∧ Below w.heap.size w w' := by
  have hz : ((a : Int) == 0) = false := by simp; omega
  have hl0 : decide ((a : Int) < 0) = false := by simp
  go_enter Tryd.func11, Tryd.ntmps11
  go_wp2
  clear hz hl0
  go_loopw [0, 3] (fun m o wr => ∃ (k : Nat) (l : List UInt8), k ≤ a ∧ m = .int .i64 k ∧ o = .string (strOf l) ∧ DecInv a k l ∧ Below w.heap.size w wr) (fun m _ _ => (intOf m).toNat)
  case atStart => exact ⟨a, [], Nat.le_refl _, rfl, rfl, DecInv.start h0, Below.refl _ _⟩
  case round =>
    obtain ⟨k, l, hk, rfl, rfl, hd, hb⟩ := hrel
    have hsz : (strOf l).size ≤ 21 := by rw [strOf_size]; exact hd.len (by omega)
    have HD := Lib.hid hd
    have HB := Lib.hid hb
    have hka : (k : Int) ≤ 9223372036854775807 := by omega
    clear hd hb
    by_cases hk0 : k = 0
    · subst hk0
      go_wp2
      go_ret
      exact ⟨ret_str (by rw [HD.out.done]), HB.out⟩
    · have hne : ((k : Int) != 0) = true := by simp; omega
      have hcv := convert_one wr (48 + (k : Int) % 10) (by omega) (by omega)
      go_wp2
      go_roundw
      case rel =>
        refine ⟨k / 10, _, by omega, by go_num, ?_, HD.out.step (by omega), HB.out.trans ((Below.refl _ _).alloc HB.out.size _)⟩
        exact str_cons _ _ l (dig48 _)
      case measure => simp [intOf]; omega

set_option maxRecDepth 100000 in
set_option maxHeartbeats 800000 in
theorem spec_fi_neg (a : Nat) (w : World) (h0 : 0 < a) (ha : (a : Int) ≤ 9223372036854775808) :
    Calls Tryd.prog 11 #[.int .i64 (-(a : Int))] w fun e w' => e = .returned (.string (strOf (45 :: Lib.decDigits a))) ∧ Below w.heap.size w w' := by
  have hz : (-(a : Int) == 0) = false := by simp; omega
  have hl0 : decide (-(a : Int) < 0) = true := by simp; omega
  go_enter Tryd.func11, Tryd.ntmps11
  go_wp2
  clear hz hl0
  go_loopw [0, 3] (fun m o wr => ∃ (k : Nat) (l : List UInt8), k ≤ a ∧ m = .int .i64 (-(k : Int)) ∧ o = .string (strOf l) ∧ DecInv a k l ∧ Below w.heap.size w wr) (fun m _ _ => (-(intOf m)).toNat)
  case atStart => exact ⟨a, [], Nat.le_refl _, rfl, rfl, DecInv.start h0, Below.refl _ _⟩
  case round =>
    obtain ⟨k, l, hk, rfl, rfl, hd, hb⟩ := hrel
    have hsz : (strOf l).size ≤ 21 := by rw [strOf_size]; exact hd.len (by omega)
    have HD := Lib.hid hd
    have HB := Lib.hid hb
    have hka : (k : Int) ≤ 9223372036854775808 := by omega
    clear hd hb
    by_cases hk0 : k = 0
    · subst hk0
      go_wp2
      go_ret
      exact ⟨ret_str (by rw [HD.out.done]; exact strOf_append [45] l), HB.out⟩
    · have hne : (-(k : Int) != 0) = true := by simp; omega
      by_cases hd0 : k % 10 = 0
      · have hcv := convert_one wr 48 (by omega) (by omega)
        have hz10 : (k : Int) % 10 = 0 := by omega
        have HZ := Lib.hid hd0
        clear hd0
        go_wp2
        go_roundw
        case rel =>
          refine ⟨k / 10, _, by omega, by go_num, ?_, HD.out.step (by omega), HB.out.trans ((Below.refl _ _).alloc HB.out.size _)⟩
          exact str_cons _ _ l (by rw [HZ.out]; rfl)
        case measure => simp [intOf]; omega
      · have hcv := convert_one wr (48 + (k : Int) % 10) (by omega) (by omega)
        go_wp2
        go_roundw
        case rel =>
          refine ⟨k / 10, _, by omega, by go_num, ?_, HD.out.step (by omega), HB.out.trans ((Below.refl _ _).alloc HB.out.size _)⟩
          exact str_cons _ _ l (dig48 _)
        case measure => simp [intOf]; omega

theorem spec_fi (n : Int) (w : World) (h0 : -9223372036854775808 ≤ n) (h1 : n ≤ 9223372036854775807) :
    Calls Tryd.prog 11 #[.int .i64 n] w fun e w' => e = .returned (.string (strOf (Lib.itoa n))) ∧ Below w.heap.size w w' := by
  rcases Int.lt_trichotomy n 0 with h | h | h
  · obtain ⟨a, rfl⟩ : ∃ a : Nat, n = -(a : Int) := ⟨n.natAbs, by omega⟩
    rw [Lib.itoa_neg a (by omega)]
    exact spec_fi_neg a w (by omega) (by omega)
  · subst h
    exact spec_fi_zero w
  · obtain ⟨a, rfl⟩ : ∃ a : Nat, n = (a : Int) := ⟨n.toNat, by omega⟩
    rw [Lib.itoa_nonneg a]
    exact spec_fi_pos a w (by omega) (by omega)

/-- the library's table of powers of ten -/
def TabAt (w : World) : Prop := Lib.TabIs Tryd.prog w "internal/strconv.uint64pow10" .u64 Lib.pow10Tab

theorem TabAt.on {w w' : World} (h : TabAt w) (hb : Below w.heap.size w w') : TabAt w' := ((Lib.tabBelow_of_tabIs h).on hb).here

set_option maxRecDepth 100000 in
set_option maxHeartbeats 400000 in
theorem impl_fi (n : Int) (w : World) (h0 : -9223372036854775808 ≤ n) (h1 : n ≤ 9223372036854775807) (ht : TabAt w) :
    Calls Tryd.prog 16 #[.int .i64 n] w fun e w' => e = .returned (.string (strOf (Lib.itoa n))) ∧ Below w.heap.size w w' := by
  have HT := Lib.hid ht
  have H0 := Lib.hid h0
  have H1 := Lib.hid h1
  clear ht h0 h1
  go_enter Tryd.func16, Tryd.ntmps16
  go_wp2_with (go_at_call 26; (refine (Tryd.strconv_Itoa n H0.out H1.out _ HT.out).mono ?_); rintro e w' ⟨rfl, k, os, rfl⟩)
  go_ret
  exact ⟨rfl, Lib.below_grow _ _ (Nat.le_refl _) _ _⟩

end Go.Proofs.YtookcggmapldeaaDoor
