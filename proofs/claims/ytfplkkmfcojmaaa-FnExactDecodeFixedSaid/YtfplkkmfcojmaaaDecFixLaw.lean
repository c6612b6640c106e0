/-
  The walk of laws.FnExactDecodeFixed: it answers true, whatever the string and the width. By an AI agent.
-/
import Derived.Test.YtfplkkmfcojmaaaDecFix
namespace Go.Proofs.Ytfplkkmfcojmaaa
open Go.RowKit
set_option linter.unusedVariables false

set_option maxHeartbeats 400000 in
theorem FnExactDecodeFixed_walk (a0 : ByteArray) (a1 : Int) (w0 : a0.size ≤ maxLen) (w1 : (Lit.int .i64 a1).wf = true) (w : World) :
    Calls Try.prog 4 #[.string a0, .int .i64 a1] w fun e w' => e = .returned (.bool true) ∧ Below w.heap.size w w' := by
  by_cases hbig : 1048576 < (a0.size : Int)
  · go_enter Try.func4, Try.ntmps4
    go_wp2
    go_ret
    exact ⟨rfl, Below.refl _ _⟩
  · by_cases h : 1 ≤ a1 ∧ a1 ≤ 7 ∧ a1 ≤ a0.size
    · obtain ⟨h1, h2, h3⟩ := h
      obtain ⟨m, rfl⟩ := Int.eq_ofNat_of_zero_le (show 0 ≤ a1 by omega)
      have g1 : 1 ≤ m := by omega
      have g2 : m ≤ 7 := by omega
      have g3 : m ≤ a0.size := by omega
      clear w1 h1 h2 h3
      go_enter Try.func4, Try.ntmps4
      go_wp2_with (first
        | (go_at_call 11; (with_reducible refine (spec_df_yes _ _ _ w0 g1 g2 g3).mono ?_); rintro e w' ⟨rfl, rfl⟩)
        | (go_at_call 12; (with_reducible refine (impl_df_yes _ _ _ w0 g1 g2 g3).mono ?_); rintro e w' ⟨rfl, rfl⟩))
      go_ret
      exact ⟨rfl, Below.refl _ _⟩
    · have H := Lib.hid h
      clear h
      go_enter Try.func4, Try.ntmps4
      go_wp2_with (first
        | (go_at_call 11; (with_reducible refine (spec_df_no _ _ _ w0 H.out).mono ?_); rintro e w' ⟨rfl, rfl⟩)
        | (go_at_call 12; (with_reducible refine (impl_df_no _ _ _ w0 H.out).mono ?_); rintro e w' ⟨rfl, rfl⟩))
      go_ret
      exact ⟨rfl, Below.refl _ _⟩

end Go.Proofs.Ytfplkkmfcojmaaa
