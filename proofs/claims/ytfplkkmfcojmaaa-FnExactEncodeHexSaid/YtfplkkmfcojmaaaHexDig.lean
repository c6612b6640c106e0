/-
  What spec.l1Digit, spec.l1FromHex and impl.hexValue answer. By an AI agent.
-/
import Derived.Test.YtfplkkmfcojmaaaOwnBytes
import Derived.Test.YtfplkkmfcojmaaaPlainHex
namespace Go.Proofs.Ytfplkkmfcojmaaa
open Go.RowKit
set_option linter.unusedVariables false

theorem ret_u8 {a b : Int} (h : a = b) : Ending.returned (.int .u8 a) = .returned (.int .u8 b) := by rw [h]
theorem ret_i64 {a b : Int} (h : a = b) : Ending.returned (.int .i64 a) = .returned (.int .i64 b) := by rw [h]

set_option maxRecDepth 100000 in
theorem l1Digit_any (k : Nat) (w : World) (h : k < 16) :
    Calls Try.prog 24 #[.int .i64 k] w fun e w' => e = .returned (.int .u8 (digN k)) ∧ w = w' := by
  go_enter Try.func24, Try.ntmps24
  go_wp2
  go_ret
  exact ⟨ret_u8 (by rw [hexDs_at k h]), rfl⟩

theorem l1Digit_q (b : UInt8) (w : World) :
    Calls Try.prog 24 #[.int .i64 ((b.toNat : Int) / 16)] w fun e w' => e = .returned (.int .u8 (digN (b.toNat / 16))) ∧ w = w' :=
  l1Digit_any (b.toNat / 16) w (by have := b.toNat_lt; omega)

theorem l1Digit_r (b : UInt8) (w : World) :
    Calls Try.prog 24 #[.int .i64 ((b.toNat : Int) % 16)] w fun e w' => e = .returned (.int .u8 (digN (b.toNat % 16))) ∧ w = w' :=
  l1Digit_any (b.toNat % 16) w (by omega)

def SomeHv (x : Int) (w : World) (e : Ending) (w' : World) : Prop := e = .returned (.int .i64 (hv x)) ∧ w = w'

set_option maxRecDepth 100000 in
set_option maxHeartbeats 400000 in
theorem l1FromHex_any (x : Int) (w : World) :
    Calls Try.prog 28 #[.int .u8 x] w (SomeHv x w) := by
  go_enter Try.func28, Try.ntmps28
  go_wp2
  go_loop [3] (fun i => ∃ k : Nat, k ≤ 16 ∧ i = .int .i64 k ∧ ∀ j, j < k → (digN j : Int) ≠ x) (fun i => 16 - (intOf i).toNat)
  case atStart => exact ⟨0, Nat.zero_le _, rfl, fun j hj => by omega⟩
  case round =>
    obtain ⟨k, hk, rfl, hno⟩ := hrel
    have HNO := Lib.hid hno
    clear hno
    by_cases hlt : k < 16
    · have HLT := Lib.hid hlt
      by_cases he : (digN k : Int) = x
      · have HE := Lib.hid he
        have hb : ((digN k : Int) == x) = true := by simpa using he
        clear he
        go_wp2_with (go_at_call 24; refine (l1Digit_any k _ HLT.out).mono ?_; rintro e w' ⟨rfl, rfl⟩)
        go_ret
        exact ⟨ret_i64 (by rw [← HE.out, hv_dig k HLT.out]), rfl⟩
      · have HE := Lib.hid he
        have hb : ((digN k : Int) == x) = false := by simpa using he
        clear he
        go_wp2_with (go_at_call 24; refine (l1Digit_any k _ HLT.out).mono ?_; rintro e w' ⟨rfl, rfl⟩)
        go_round
        case rel =>
          refine ⟨k + 1, by omega, by go_num, fun j hj => ?_⟩
          rcases Nat.lt_or_ge j k with h | h
          · exact HNO.out j h
          · obtain rfl : j = k := by omega
            exact HE.out
        case measure => simp [intOf]; omega
    · go_wp2
      go_ret
      exact ⟨ret_i64 (by rw [hv_none x (fun j hj => HNO.out j (by omega))]), rfl⟩

set_option maxRecDepth 100000 in
theorem hexValue_any (r : Int) (w : World) :
    Calls Try.prog 29 #[.int .i32 r] w fun e w' => e = .returned (.int .i64 (hv r)) ∧ w = w' := by
  by_cases h1 : 48 ≤ r ∧ r ≤ 57
  · obtain ⟨h2, h3⟩ := h1
    have e : hv r = r - 48 := by unfold hv; rw [if_pos ⟨h2, h3⟩]
    rw [e]
    clear e
    go_enter Try.func29, Try.ntmps29
    go_wp2
    go_ret
    exact ⟨rfl, rfl⟩
  · by_cases h2 : 97 ≤ r ∧ r ≤ 102
    · obtain ⟨h3, h4⟩ := h2
      have e : hv r = r - 97 + 10 := by unfold hv; rw [if_neg h1, if_pos ⟨h3, h4⟩]; omega
      rw [e]
      clear e h1
      have h5 : ¬ r ≤ 57 := by omega
      go_enter Try.func29, Try.ntmps29
      go_wp2
      go_ret
      exact ⟨rfl, rfl⟩
    · have e : hv r = -1 := by unfold hv; rw [if_neg h1, if_neg h2]
      rw [e]
      clear e
      have c1 : ¬ 48 ≤ r ∨ 48 ≤ r ∧ ¬ r ≤ 57 := by omega
      have c2 : ¬ 97 ≤ r ∨ 97 ≤ r ∧ ¬ r ≤ 102 := by omega
      clear h1 h2
      rcases c1 with h1 | ⟨h1, h1'⟩ <;> rcases c2 with h2 | ⟨h2, h2'⟩
      all_goals first
        | (exfalso; omega)
        | (go_enter Try.func29, Try.ntmps29
           go_wp2
           go_ret
           exact ⟨rfl, rfl⟩)

end Go.Proofs.Ytfplkkmfcojmaaa
