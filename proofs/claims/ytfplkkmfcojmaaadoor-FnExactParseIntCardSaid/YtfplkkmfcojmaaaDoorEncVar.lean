/-
  What spec.EncodeVarint and impl.EncodeVarint answer, for every integer. By an AI agent.
-/
import Derived.Test.YtfplkkmfcojmaaaDoorOwnBytes
import Derived.Test.YtfplkkmfcojmaaaDoorPlainVarint
import Derived.Test.YtfplkkmfcojmaaaDoorSpecIn
namespace Go.Proofs.YtfplkkmfcojmaaaDoor
open Go.RowKit
set_option linter.unusedVariables false

def strOf (l : List UInt8) : ByteArray := ⟨l.toArray⟩

theorem ret_str {a b : ByteArray} (h : a = b) : Ending.returned (.string a) = .returned (.string b) := by rw [h]

theorem strOf_append (l r : List UInt8) : strOf l ++ strOf r = strOf (l ++ r) := by
  apply ByteArray.ext
  simp [strOf]

theorem strOf_size (l : List UInt8) : (strOf l).size = l.length := by simp [strOf, ByteArray.size]

set_option maxHeartbeats 400000 in
theorem impl_ev_no (n : Int) (w : World) (h : n < 0 ∨ 562949953421311 < n) :
    Calls Tryd.prog 9 #[.int .i64 n] w fun e w' => e = .returned (.string ⟨#[]⟩) ∧ Below w.heap.size w w' := by
  rcases h with h | h
  · go_enter Tryd.func9, Tryd.ntmps9
    go_wp2
    go_ret
    exact ⟨rfl, Below.refl _ _⟩
  · have h' : 0 ≤ n := by omega
    have hd : decide (n ≤ 562949953421311) = false := by simp; omega
    go_enter Tryd.func9, Tryd.ntmps9
    go_wp2
    go_ret
    exact ⟨rfl, Below.refl _ _⟩

set_option maxRecDepth 100000 in
set_option maxHeartbeats 800000 in
theorem impl_ev_yes (n : Nat) (w : World) (h : n ≤ 562949953421311) :
    Calls Tryd.prog 9 #[.int .i64 n] w fun e w' => e = .returned (.string (strOf (vint n))) ∧ Below w.heap.size w w' := by
  have hmk : (Instr.makeSlice 22 (.int .i64 0) (.int .i64 7)).run Tryd.prog w = .ok (.slice (some ⟨w.heap.size, 0, none⟩) 0 7) (w.alloc (.cells (madeCells #[.int .u8 0] 7) 5)) := make_bytes w 0 7 (by omega) (by omega)
  go_enter Tryd.func9, Tryd.ntmps9
  go_wp2
  have h' := Lib.hid h
  clear h
  go_loopw [0, 3] (fun m v wr => ∃ (k : Nat) (l : List UInt8), m = .int .i64 k ∧ k ≤ n ∧ l ++ vint k = vint n ∧ OwnB wr w.heap.size v l ∧ Below w.heap.size w wr) (fun m _ _ => (intOf m).toNat)
  case atStart => exact ⟨n, [], rfl, Nat.le_refl _, rfl, OwnB.made0 w _ 7 (Nat.le_refl _) (by unfold maxLen; omega), (Below.refl _ _).alloc (Nat.le_refl _) _⟩
  case round =>
    obtain ⟨k, l, rfl, hk, HL, hown, hb⟩ := hrel
    have hlen : l.length ≤ 70368744177664 := by
      have h1 := vint_length n
      have h := h'.out
      have h2 := congrArg List.length HL
      rw [List.length_append] at h2
      omega
    have HL' := Lib.hid HL
    have hlen' := Lib.hid hlen
    have hkb : (k : Int) ≤ 562949953421311 := by have h := h'.out; omega
    have hk' := Lib.hid hk
    have hbs := Lib.hid hb.size
    clear HL hlen hk
    by_cases hlt : k < 128
    · go_wp2_with (at_builtin; refine append_byte rfl _ _ rfl w.heap.size _ l (k : Int) hown rfl rfl (by omega) (by omega) hlen'.out hbs.out ?_; intro v1 w1 hown1 hb1; refine Hid.out ?_)
      refine Lib.hid ?_
      have hcv := hown1.convert
      go_wp2
      go_ret
      refine ⟨?_, hb.trans hb1⟩
      have e := HL'.out
      rw [vint_small k hlt] at e
      rw [← e]
      rfl
    · go_wp2_with (at_builtin; refine append_byte rfl _ _ rfl w.heap.size _ l ((k : Int) % 128 + 128) hown rfl rfl (by omega) (by omega) hlen'.out hbs.out ?_; intro v1 w1 hown1 hb1)
      go_roundw
      case rel =>
        refine ⟨k / 128, l ++ [UInt8.ofNat ((k : Int) % 128 + 128).toNat], by go_num, by have := hk'.out; omega, ?_, hown1, hb.trans hb1⟩
        have e := HL'.out
        rw [vint_large k hlt] at e
        rw [← e, List.append_assoc, show ((k : Int) % 128 + 128).toNat = 128 + k % 128 by omega]
        rfl
      case measure => simp [intOf]; omega

end Go.Proofs.YtfplkkmfcojmaaaDoor
