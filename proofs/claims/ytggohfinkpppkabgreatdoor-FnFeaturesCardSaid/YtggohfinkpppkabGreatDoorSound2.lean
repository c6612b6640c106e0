/-
  What spec.SoundCode answers, for every byte. By an AI agent.
-/
import Derived.Test.YtggohfinkpppkabGreatDoorSound
namespace Go.Proofs.YtggohfinkpppkabGreatDoor
open Go.RowKit
set_option linter.unusedVariables false

theorem spec_fc_named (c : UInt8) (w : World) (S : ByteArray) (h : S = ⟨#[foldB c]⟩) :
    Calls Tryz.prog 35 #[.string ⟨#[c]⟩] w fun e w' => e = .returned (.string S) ∧ Below w.heap.size w w' := by
  subst h
  exact spec_fc_one c w _ rfl

theorem one_is (y k : UInt8) : ((⟨#[y]⟩ : ByteArray).toList == [k]) = ((y.toNat : Int) == (k.toNat : Int)) := by
  rw [ByteArray.toList_eq]
  apply Bool.eq_iff_iff.2
  simp only [beq_iff_eq]
  constructor
  · intro h
    have h : [y] = [k] := h
    injection h with h
    rw [h]
  · intro h
    have h : y = k := UInt8.toNat_inj.1 (by omega)
    rw [h]

set_option maxRecDepth 100000 in
set_option maxHeartbeats 2000000 in
theorem spec_sc (c : UInt8) (w : World) :
    Calls Tryz.prog 88 #[.int .u8 (c.toNat : Int)] w fun e w' => e = .returned (.int .i64 (sc c)) ∧ Below w.heap.size w w' := by
  obtain ⟨y, hy⟩ : ∃ y, foldB c = y := ⟨_, rfl⟩
  have HY := Lib.hid hy
  have e : sc c = scF (y.toNat : Int) := by unfold sc; rw [hy]
  rw [e]
  clear hy e
  have hcv := conv_one w c
  obtain ⟨S, hS⟩ : ∃ S : ByteArray, S = ⟨#[foldB c]⟩ := ⟨_, rfl⟩
  have HS := Lib.hid hS
  have hq : ∀ k : UInt8, (S.toList == [k]) = ((y.toNat : Int) == (k.toNat : Int)) := by
    rw [hS, HY.out]
    exact one_is y
  clear hS
  go_enter Tryz.func88, Tryz.ntmps88
  go_wp2_with (go_at_call 35; with_reducible refine (spec_fc_named c _ S HS.out).mono ?_; rintro e w' ⟨rfl, hb⟩)
  all_goals
    go_ret
    refine ⟨congrArg (fun x => Ending.returned (.int .i64 x)) (show _ = scF (y.toNat : Int) from ?_), ?_⟩
    · clear hq hcv hb
      simp_all [scF]
    · exact ((Below.refl _ _).alloc (Nat.le_refl _) _).trans (hb.mono (by simp))

end Go.Proofs.YtggohfinkpppkabGreatDoor
