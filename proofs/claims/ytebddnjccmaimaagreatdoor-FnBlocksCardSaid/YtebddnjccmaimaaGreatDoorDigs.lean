/-
  What spec.DigitsOf and impl.DigitsOf answer, for every string of at most 2^20 bytes; the walk of laws.FnExactDigitsOf. By an AI agent.
-/
import Derived.Test.YtebddnjccmaimaaGreatDoorGNorm
import Derived.Test.YtebddnjccmaimaaGreatDoorGPlain
namespace Go.Proofs.YtebddnjccmaimaaGreatDoor
open Go.RowKit
set_option linter.unusedVariables false

theorem dig_yes (s : ByteArray) (k : Nat) (h : k < s.size) (h1 : 48 ≤ s[k].toNat) (h2 : s[k].toNat ≤ 57) : digL (s.data.toList.take (k + 1)) = digL (s.data.toList.take k) ++ [s[k]] := by
  rw [ftake_snoc s k h, digL_yes h1 h2]
theorem dig_no (s : ByteArray) (k : Nat) (h : k < s.size) (h1 : ¬ (48 ≤ s[k].toNat ∧ s[k].toNat ≤ 57)) : digL (s.data.toList.take (k + 1)) = digL (s.data.toList.take k) := by
  rw [ftake_snoc s k h, digL_no h1]
theorem dig_len (s : ByteArray) (k : Nat) (hk : k ≤ s.size) (hs : s.size ≤ 1048576) : (digL (s.data.toList.take k)).length ≤ 70368744177664 := by
  have h1 := digL_length (s.data.toList.take k)
  have h2 : (s.data.toList.take k).length ≤ k := List.length_take_le _ _
  omega

set_option maxRecDepth 100000 in
set_option maxHeartbeats 800000 in
theorem spec_dg (s : ByteArray) (w : World) (hs : s.size ≤ 1048576) :
    Calls Tryz.prog 67 #[.string s] w fun e w' => e = .returned (.string (nstr (digL s.data.toList))) ∧ Below w.heap.size w w' := by
  have HS := Lib.hid hs
  go_enter Tryz.func67, Tryz.ntmps67
  go_wp2
  go_loopw [3, 4] (fun v i wr => ∃ k : Nat, k ≤ s.size ∧ i = .int .i64 k ∧ OwnB wr w.heap.size v (digL (s.data.toList.take k)) ∧ Below w.heap.size w wr) (fun _ i _ => s.size - (intOf i).toNat)
  case atStart => exact ⟨0, Nat.zero_le _, rfl, OwnB.made w _ #[] 0 (Nat.le_refl _) (Nat.zero_le _) rfl, (Below.refl _ _).alloc (Nat.le_refl _) _⟩
  case round =>
    obtain ⟨k, hk, rfl, hown, hb⟩ := hrel
    have HOWN := Lib.hid hown
    have HB := Lib.hid hb
    clear hown hb
    by_cases hlt : k < s.size
    · have hby := s[k].toNat_lt
      have HLN := Lib.hid (dig_len s k hk hs)
      have hbs := Lib.hid HB.out.size
      by_cases h1 : 48 ≤ s[k].toNat
      · by_cases h2 : s[k].toNat ≤ 57
        · have HTK := Lib.hid (dig_yes s k hlt h1 h2)
          go_wp2_with (at_builtin; refine append_byte rfl _ _ rfl w.heap.size _ (digL (s.data.toList.take k)) (s[k].toNat : Int) HOWN.out rfl rfl (by omega) (by omega) HLN.out hbs.out ?_; intro v1 w1 hown1 hb1)
          go_roundw
          case rel =>
            refine ⟨k + 1, by omega, by go_num, ?_, HB.out.trans hb1⟩
            rw [HTK.out]
            rw [byte_of_nat] at hown1
            exact hown1
          case measure => simp [intOf]; omega
        · have HTK := Lib.hid (dig_no s k hlt (fun e => h2 e.2))
          go_wp2
          go_roundw
          case rel =>
            refine ⟨k + 1, by omega, by go_num, ?_, HB.out⟩
            rw [HTK.out]
            exact HOWN.out
          case measure => simp [intOf]; omega
      · have HTK := Lib.hid (dig_no s k hlt (fun e => h1 e.1))
        go_wp2
        go_roundw
        case rel =>
          refine ⟨k + 1, by omega, by go_num, ?_, HB.out⟩
          rw [HTK.out]
          exact HOWN.out
        case measure => simp [intOf]; omega
    · obtain rfl : k = s.size := by omega
      have hcv := HOWN.out.convert
      go_wp2
      go_ret
      exact ⟨nret_str (by rw [ftake_all]; rfl), HB.out⟩

set_option maxRecDepth 100000 in
set_option maxHeartbeats 800000 in
theorem impl_dg (s : ByteArray) (w : World) (hs : s.size ≤ 1048576) :
    Calls Tryz.prog 92 #[.string s] w fun e w' => e = .returned (.string (nstr (digL s.data.toList))) ∧ Below w.heap.size w w' := by
  have HS := Lib.hid hs
  have hmk : (Instr.makeSlice 22 (.int .i64 0) (.int .i64 (s.size : Int))).run Tryz.prog w = .ok (.slice (some ⟨w.heap.size, 0, none⟩) 0 s.size) (w.alloc (.cells (madeCells #[.int .u8 0] s.size) 5)) := make_bytes w 0 s.size (Nat.zero_le _) (by omega)
  go_enter Tryz.func92, Tryz.ntmps92
  go_wp2
  clear hmk
  go_loopw [3, 10] (fun v i wr => ∃ k : Nat, k ≤ s.size ∧ i = .int .i64 k ∧ OwnB wr w.heap.size v (digL (s.data.toList.take k)) ∧ Below w.heap.size w wr) (fun _ i _ => s.size - (intOf i).toNat)
  case atStart => exact ⟨0, Nat.zero_le _, rfl, OwnB.made0 w _ s.size (Nat.le_refl _) (by unfold maxLen; omega), (Below.refl _ _).alloc (Nat.le_refl _) _⟩
  case round =>
    obtain ⟨k, hk, rfl, hown, hb⟩ := hrel
    have HOWN := Lib.hid hown
    have HB := Lib.hid hb
    clear hown hb
    by_cases hlt : k < s.size
    · have hby := s[k].toNat_lt
      have HLN := Lib.hid (dig_len s k hk hs)
      have hbs := Lib.hid HB.out.size
      by_cases h1 : 48 ≤ s[k].toNat
      · by_cases h2 : s[k].toNat ≤ 57
        · have HTK := Lib.hid (dig_yes s k hlt h1 h2)
          go_wp2_with (at_builtin; refine append_byte rfl _ _ rfl w.heap.size _ (digL (s.data.toList.take k)) (s[k].toNat : Int) HOWN.out rfl rfl (by omega) (by omega) HLN.out hbs.out ?_; intro v1 w1 hown1 hb1)
          go_roundw
          case rel =>
            refine ⟨k + 1, by omega, by go_num, ?_, HB.out.trans hb1⟩
            rw [HTK.out]
            rw [byte_of_nat] at hown1
            exact hown1
          case measure => simp [intOf]; omega
        · have HTK := Lib.hid (dig_no s k hlt (fun e => h2 e.2))
          go_wp2
          go_roundw
          case rel =>
            refine ⟨k + 1, by omega, by go_num, ?_, HB.out⟩
            rw [HTK.out]
            exact HOWN.out
          case measure => simp [intOf]; omega
      · have HTK := Lib.hid (dig_no s k hlt (fun e => h1 e.1))
        go_wp2
        go_roundw
        case rel =>
          refine ⟨k + 1, by omega, by go_num, ?_, HB.out⟩
          rw [HTK.out]
          exact HOWN.out
        case measure => simp [intOf]; omega
    · obtain rfl : k = s.size := by omega
      have hcv := HOWN.out.convert
      go_wp2
      go_ret
      exact ⟨nret_str (by rw [ftake_all]; rfl), HB.out⟩

end Go.Proofs.YtebddnjccmaimaaGreatDoor
