/-
  What SoundCode answers on both sides, for every byte. By an AI agent.
-/
import Derived.Test.YtggohfinkpppkabGreatDoorNFold
import Derived.Test.YtggohfinkpppkabGreatDoorGPlain
namespace Go.Proofs.YtggohfinkpppkabGreatDoor
open Go.RowKit
set_option linter.unusedVariables false

theorem one_str (y k : UInt8) : ((⟨#[y]⟩ : ByteArray) = ⟨#[k]⟩) ↔ y = k := by
  constructor
  · intro h
    injection h with h
    injection h with h
    injection h
  · intro h
    rw [h]

theorem foldByte_is (c : UInt8) (w : World) (y : UInt8) (h : foldB c = y) :
    Calls Tryz.prog 114 #[.int .u8 (c.toNat : Int)] w fun e w' => e = .returned (.int .u8 (y.toNat : Int)) ∧ w = w' := by
  subst h
  exact foldByte_any c w

set_option maxRecDepth 100000 in
set_option maxHeartbeats 2000000 in
theorem impl_sc (c : UInt8) (w : World) :
    Calls Tryz.prog 122 #[.int .u8 (c.toNat : Int)] w fun e w' => e = .returned (.int .i64 (sc c)) ∧ w = w' := by
  obtain ⟨y, hy⟩ : ∃ y, foldB c = y := ⟨_, rfl⟩
  have HY := Lib.hid hy
  have e : sc c = scF (y.toNat : Int) := by unfold sc; rw [hy]
  rw [e]
  clear hy e
  go_enter Tryz.func122, Tryz.ntmps122
  go_wp2_with (go_at_call 114; refine (foldByte_is c _ y HY.out).mono ?_; rintro e w' ⟨rfl, rfl⟩)
  all_goals
    go_ret
    refine ⟨congrArg (fun x => Ending.returned (.int .i64 x)) (show _ = scF (y.toNat : Int) from ?_), rfl⟩
    simp_all [scF]

theorem fold_one (c : UInt8) : foldL (⟨#[c]⟩ : ByteArray).data.toList = [foldB c] := rfl

theorem spec_fc_one (c : UInt8) (w : World) (y : UInt8) (h : foldB c = y) :
    Calls Tryz.prog 35 #[.string ⟨#[c]⟩] w fun e w' => e = .returned (.string ⟨#[y]⟩) ∧ Below w.heap.size w w' := by
  subst h
  exact spec_fc ⟨#[c]⟩ w (show (1 : Nat) ≤ 1048576 by decide)

theorem conv_one (w : World) (c : UInt8) :
    (convert 22 9 (.slice (some ⟨w.heap.size, 0, none⟩) 1 1)).run Tryz.prog (w.alloc (.cells #[.int .u8 (c.toNat : Int)] 5)) =
      .ok (.string ⟨#[c]⟩) (w.alloc (.cells #[.int .u8 (c.toNat : Int)] 5)) := by
  have h := convert_one w (c.toNat : Int) (by omega) (by have := c.toNat_lt; omega)
  rw [byte_of_nat] at h
  exact h

end Go.Proofs.YtggohfinkpppkabGreatDoor
