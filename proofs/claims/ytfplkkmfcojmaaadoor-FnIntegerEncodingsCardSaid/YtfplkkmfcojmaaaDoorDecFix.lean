/-
  What spec.DecodeFixed and impl.DecodeFixed answer, for every string and every width. By an AI agent.
-/
import Derived.Test.YtfplkkmfcojmaaaDoorRows
import Derived.WalkKit
import Derived.WalkSpells
import Derived.WalkLawsBesides
import Derived.Lib.Hide
import Derived.Test.YtfplkkmfcojmaaaDoorPlainNum
namespace Go.Proofs.YtfplkkmfcojmaaaDoor
open Go.RowKit
set_option linter.unusedVariables false

def dfOk (s : ByteArray) (m : Int) : Bool := decide (1 ≤ m ∧ m ≤ 7 ∧ m ≤ s.size)
def dfVal (s : ByteArray) (m : Int) : Int := if dfOk s m then (beN (s.data.toList.take m.toNat) : Int) else 0

theorem dfOk_false {s : ByteArray} {m : Int} (h : ¬ (1 ≤ m ∧ m ≤ 7 ∧ m ≤ s.size)) : dfOk s m = false := by simp only [dfOk, h, decide_false]
theorem dfVal_no {s : ByteArray} {m : Int} (h : ¬ (1 ≤ m ∧ m ≤ 7 ∧ m ≤ s.size)) : dfVal s m = 0 := by simp only [dfVal, dfOk_false h]; rfl

set_option maxHeartbeats 400000 in
theorem impl_df_no (s : ByteArray) (m : Int) (w : World) (hs : s.size ≤ maxLen) (h : ¬ (1 ≤ m ∧ m ≤ 7 ∧ m ≤ s.size)) :
    Calls Tryd.prog 13 #[.string s, .int .i64 m] w fun e w' => e = .returned (.tuple #[.int .i64 0, .bool false]) ∧ w = w' := by
  unfold maxLen at hs
  by_cases h1 : 1 ≤ m
  · by_cases h2 : m ≤ 7
    · have h3 : (s.size : Int) < m := by omega
      clear h
      go_enter Tryd.func13, Tryd.ntmps13
      go_wp2
      go_ret2
      exact ⟨rfl, rfl⟩
    · clear h
      go_enter Tryd.func13, Tryd.ntmps13
      go_wp2
      go_ret2
      exact ⟨rfl, rfl⟩
  · clear h
    go_enter Tryd.func13, Tryd.ntmps13
    go_wp2
    go_ret2
    exact ⟨rfl, rfl⟩

set_option maxHeartbeats 400000 in
theorem impl_df_yes (s : ByteArray) (m : Nat) (w : World) (hs : s.size ≤ maxLen) (h1 : 1 ≤ m) (h2 : m ≤ 7) (h3 : m ≤ s.size) :
    Calls Tryd.prog 13 #[.string s, .int .i64 m] w fun e w' => e = .returned (.tuple #[.int .i64 (beN (s.data.toList.take m)), .bool true]) ∧ w = w' := by
  unfold maxLen at hs
  go_enter Tryd.func13, Tryd.ntmps13
  go_wp2
  go_loop [6, 18] (fun n i => ∃ k : Nat, k ≤ m ∧ i = .int .i64 k ∧ n = .int .i64 (beN (s.data.toList.take k))) (fun _ i => m - (intOf i).toNat)
  case atStart => exact ⟨0, Nat.zero_le _, rfl, rfl⟩
  case round =>
    obtain ⟨k, hk, rfl, rfl⟩ := hrel
    by_cases hlt : k < m
    · have hb := beN_small6 s k (by omega)
      have HS := Lib.hid (beN_take s k (by omega))
      have hks : k < s.size := by omega
      have hby := s[k].toNat_lt
      go_wp2
      go_round
      case rel => exact ⟨k + 1, by omega, by go_num, by rw [HS.out, i64_or8 _ _ (by omega) (by omega) (by omega) (by omega) (by omega)]; go_num⟩
      case measure => simp [intOf]; omega
    · obtain rfl : k = m := by omega
      go_wp2
      go_ret2
      exact ⟨rfl, rfl⟩

end Go.Proofs.YtfplkkmfcojmaaaDoor
