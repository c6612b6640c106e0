/-
  What spec.IsNormal and impl.IsNormal answer, for every string of at most 2^20 bytes; the walk of laws.FnExactIsNormal. By an AI agent.
-/
import Derived.Test.YtggohfinkpppkabDoorNNorm
import Derived.Test.YtggohfinkpppkabDoorNText
namespace Go.Proofs.YtggohfinkpppkabDoor
open Go.RowKit
set_option linter.unusedVariables false

def isNormalB (l : List UInt8) : Bool := isTextB l && (normL l == l)

theorem nstr_same (l : List UInt8) (s : ByteArray) : ((nstr l).toList == s.toList) = (l == s.data.toList) := by
  rw [show (nstr l).toList = l from ByteArray.toList_mk l, ByteArray.toList_eq]

set_option maxRecDepth 100000 in
theorem spec_in (s : ByteArray) (w : World) (hs : s.size ≤ 1048576) (b : Bool) (hb : isNormalB s.data.toList = b) :
    Calls Tryd.prog 19 #[.string s] w fun e w' => e = .returned (.bool b) ∧ Below w.heap.size w w' := by
  have HS := Lib.hid hs
  unfold isNormalB at hb
  cases ht : isTextB s.data.toList
  · rw [ht] at hb
    obtain rfl : false = b := by simpa using hb
    have HT := Lib.hid ht
    clear ht hb hs
    go_enter Tryd.func19, Tryd.ntmps19
    go_wp2_with (go_at_call 17; (refine (spec_it _ _ HS.out _ HT.out).mono ?_); rintro e w1 ⟨rfl, rfl⟩)
    go_ret
    exact ⟨rfl, Below.refl _ _⟩
  · rw [ht, Bool.true_and, ← nstr_same] at hb
    have HT := Lib.hid ht
    have HB := Lib.hid hb
    clear ht hb hs
    go_enter Tryd.func19, Tryd.ntmps19
    go_wp2_with (first
      | (go_at_call 17; (refine (spec_it _ _ HS.out _ HT.out).mono ?_); rintro e w1 ⟨rfl, rfl⟩)
      | (go_at_call 15; (refine (spec_no _ _ HS.out).mono ?_); rintro e w2 ⟨rfl, hb2⟩))
    go_ret
    exact ⟨nret_bool (by first | exact HB.out | simpa using HB.out), hb2⟩

set_option maxRecDepth 100000 in
theorem impl_in (s : ByteArray) (w : World) (hs : s.size ≤ 1048576) (b : Bool) (hb : isNormalB s.data.toList = b) :
    Calls Tryd.prog 18 #[.string s] w fun e w' => e = .returned (.bool b) ∧ Below w.heap.size w w' := by
  have HS := Lib.hid hs
  unfold isNormalB at hb
  cases ht : isTextB s.data.toList
  · rw [ht] at hb
    obtain rfl : false = b := by simpa using hb
    have HT := Lib.hid ht
    clear ht hb hs
    go_enter Tryd.func18, Tryd.ntmps18
    go_wp2_with (go_at_call 16; (refine (impl_it _ _ HS.out _ HT.out).mono ?_); rintro e w1 ⟨rfl, hb1⟩)
    go_ret
    exact ⟨rfl, hb1⟩
  · rw [ht, Bool.true_and, ← nstr_same] at hb
    have HT := Lib.hid ht
    have HB := Lib.hid hb
    clear ht hb hs
    go_enter Tryd.func18, Tryd.ntmps18
    go_wp2_with (first
      | (go_at_call 16; (refine (impl_it _ _ HS.out _ HT.out).mono ?_); rintro e w1 ⟨rfl, hb1⟩)
      | (go_at_call 14; (refine (impl_no _ _ HS.out).mono ?_); rintro e w2 ⟨rfl, hb2⟩))
    go_ret
    exact ⟨nret_bool (by first | exact HB.out | simpa using HB.out), hb1.trans (hb2.mono hb1.size)⟩

end Go.Proofs.YtggohfinkpppkabDoor
