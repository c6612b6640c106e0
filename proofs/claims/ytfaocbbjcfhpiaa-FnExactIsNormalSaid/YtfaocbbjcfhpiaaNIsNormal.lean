/-
  What spec.IsNormal and impl.IsNormal answer, for every string of at most 2^20 bytes; the walk of laws.FnExactIsNormal. By an AI agent.
-/
import Derived.Test.YtfaocbbjcfhpiaaNNorm
import Derived.Test.YtfaocbbjcfhpiaaNText
namespace Go.Proofs.Ytfaocbbjcfhpiaa
open Go.RowKit
set_option linter.unusedVariables false

def isNormalB (l : List UInt8) : Bool := isTextB l && (normL l == l)

theorem nstr_same (l : List UInt8) (s : ByteArray) : ((nstr l).toList == s.toList) = (l == s.data.toList) := by
  rw [show (nstr l).toList = l from ByteArray.toList_mk l, ByteArray.toList_eq]

set_option maxRecDepth 100000 in
theorem spec_in (s : ByteArray) (w : World) (hs : s.size ≤ 1048576) (b : Bool) (hb : isNormalB s.data.toList = b) :
    Calls Try.prog 13 #[.string s] w fun e w' => e = .returned (.bool b) ∧ Below w.heap.size w w' := by
  have HS := Lib.hid hs
  unfold isNormalB at hb
  cases ht : isTextB s.data.toList
  · rw [ht] at hb
    obtain rfl : false = b := by simpa using hb
    have HT := Lib.hid ht
    clear ht hb hs
    go_enter Try.func13, Try.ntmps13
    go_wp2_with (go_at_call 26; (refine (spec_it _ _ HS.out _ HT.out).mono ?_); rintro e w1 ⟨rfl, rfl⟩)
    go_ret
    exact ⟨rfl, Below.refl _ _⟩
  · rw [ht, Bool.true_and, ← nstr_same] at hb
    have HT := Lib.hid ht
    have HB := Lib.hid hb
    clear ht hb hs
    go_enter Try.func13, Try.ntmps13
    go_wp2_with (first
      | (go_at_call 26; (refine (spec_it _ _ HS.out _ HT.out).mono ?_); rintro e w1 ⟨rfl, rfl⟩)
      | (go_at_call 11; (refine (spec_no _ _ HS.out).mono ?_); rintro e w2 ⟨rfl, hb2⟩))
    go_ret
    exact ⟨nret_bool (by first | exact HB.out | simpa using HB.out), hb2⟩

set_option maxRecDepth 100000 in
theorem impl_in (s : ByteArray) (w : World) (hs : s.size ≤ 1048576) (b : Bool) (hb : isNormalB s.data.toList = b) :
    Calls Try.prog 14 #[.string s] w fun e w' => e = .returned (.bool b) ∧ Below w.heap.size w w' := by
  have HS := Lib.hid hs
  unfold isNormalB at hb
  cases ht : isTextB s.data.toList
  · rw [ht] at hb
    obtain rfl : false = b := by simpa using hb
    have HT := Lib.hid ht
    clear ht hb hs
    go_enter Try.func14, Try.ntmps14
    go_wp2_with (go_at_call 27; (refine (impl_it _ _ HS.out _ HT.out).mono ?_); rintro e w1 ⟨rfl, hb1⟩)
    go_ret
    exact ⟨rfl, hb1⟩
  · rw [ht, Bool.true_and, ← nstr_same] at hb
    have HT := Lib.hid ht
    have HB := Lib.hid hb
    clear ht hb hs
    go_enter Try.func14, Try.ntmps14
    go_wp2_with (first
      | (go_at_call 27; (refine (impl_it _ _ HS.out _ HT.out).mono ?_); rintro e w1 ⟨rfl, hb1⟩)
      | (go_at_call 12; (refine (impl_no _ _ HS.out).mono ?_); rintro e w2 ⟨rfl, hb2⟩))
    go_ret
    exact ⟨nret_bool (by first | exact HB.out | simpa using HB.out), hb1.trans (hb2.mono hb1.size)⟩

set_option maxRecDepth 100000 in
set_option maxHeartbeats 400000 in
theorem FnExactIsNormal_walk (a0 : ByteArray) (w0 : a0.size ≤ maxLen) (w : World) :
    Calls Try.prog 5 #[.string a0] w fun e w' => e = .returned (.bool true) ∧ Below w.heap.size w w' := by
  by_cases hbig : 1048576 < (a0.size : Int)
  · go_enter Try.func5, Try.ntmps5
    go_wp2
    go_ret
    exact ⟨rfl, Below.refl _ _⟩
  · have W0 := Lib.hid (show a0.size ≤ 1048576 by omega)
    cases hr : isNormalB a0.data.toList
    all_goals
      have HR := Lib.hid hr
      clear hr
      go_enter Try.func5, Try.ntmps5
      go_wp2_with (first
        | (go_at_call 13; (refine (spec_in _ _ W0.out _ HR.out).mono ?_); rintro e w1 ⟨rfl, hb1⟩)
        | (go_at_call 14; (refine (impl_in _ _ W0.out _ HR.out).mono ?_); rintro e w2 ⟨rfl, hb2⟩))
      go_ret
      exact ⟨rfl, hb1.trans (hb2.mono hb1.size)⟩

end Go.Proofs.Ytfaocbbjcfhpiaa
