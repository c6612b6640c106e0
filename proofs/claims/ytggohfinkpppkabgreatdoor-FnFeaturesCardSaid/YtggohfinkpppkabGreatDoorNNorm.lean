/-
  What spec.Normalize, impl.Normalize, spec.IsNormal and impl.IsNormal answer, for every string of at most 2^20 bytes; the walks of laws.FnExactNormalize and laws.FnExactIsNormal. By an AI agent.
-/
import Derived.Test.YtggohfinkpppkabGreatDoorNStrip
import Derived.Test.YtggohfinkpppkabGreatDoorNColl
namespace Go.Proofs.YtggohfinkpppkabGreatDoor
open Go.RowKit
set_option linter.unusedVariables false

theorem norm_parts (l : List UInt8) : normL l = collL (stripL (foldL l)) := rfl

theorem size_fold (s : ByteArray) (hs : s.size ≤ 1048576) : (nstr (foldL s.data.toList)).size ≤ 1048576 := by
  rw [nstr_size, foldL_length]; simpa using hs
theorem size_strip (s : ByteArray) (hs : s.size ≤ 1048576) : (nstr (stripL (nstr (foldL s.data.toList)).data.toList)).size ≤ 1048576 := by
  rw [nstr_size, nstr_list]
  have h1 := stripL_length (foldL s.data.toList)
  rw [foldL_length] at h1
  have : s.data.toList.length = s.size := by simp
  omega

set_option maxRecDepth 100000 in
theorem spec_no (s : ByteArray) (w : World) (hs : s.size ≤ 1048576) :
    Calls Tryz.prog 11 #[.string s] w fun e w' => e = .returned (.string (nstr (normL s.data.toList))) ∧ Below w.heap.size w w' := by
  have HS := Lib.hid hs
  have HF := Lib.hid (size_fold s hs)
  have HG := Lib.hid (size_strip s hs)
  clear hs
  go_enter Tryz.func11, Tryz.ntmps11
  go_wp2_with (first
    | (go_at_call 35; (refine (spec_fc _ _ HS.out).mono ?_); rintro e w1 ⟨rfl, hb1⟩)
    | (go_at_call 34; (refine (spec_sm _ _ HF.out).mono ?_); rintro e w2 ⟨rfl, hb2⟩)
    | (go_at_call 33; (refine (spec_cs _ _ HG.out).mono ?_); rintro e w3 ⟨rfl, hb3⟩))
  go_ret
  refine ⟨nret_str (by rw [nstr_list, nstr_list]; rfl), ?_⟩
  have h12 := hb1.trans (hb2.mono hb1.size)
  exact h12.trans (hb3.mono h12.size)

set_option maxRecDepth 100000 in
theorem impl_no (s : ByteArray) (w : World) (hs : s.size ≤ 1048576) :
    Calls Tryz.prog 71 #[.string s] w fun e w' => e = .returned (.string (nstr (normL s.data.toList))) ∧ Below w.heap.size w w' := by
  have HS := Lib.hid hs
  have HF := Lib.hid (size_fold s hs)
  have HG := Lib.hid (size_strip s hs)
  clear hs
  go_enter Tryz.func71, Tryz.ntmps71
  go_wp2_with (first
    | (go_at_call 94; (refine (impl_fc _ _ HS.out).mono ?_); rintro e w1 ⟨rfl, hb1⟩)
    | (go_at_call 93; (refine (impl_sm _ _ HF.out).mono ?_); rintro e w2 ⟨rfl, hb2⟩)
    | (go_at_call 92; (refine (impl_cs _ _ HG.out).mono ?_); rintro e w3 ⟨rfl, hb3⟩))
  go_ret
  refine ⟨nret_str (by rw [nstr_list, nstr_list]; rfl), ?_⟩
  have h12 := hb1.trans (hb2.mono hb1.size)
  exact h12.trans (hb3.mono h12.size)

end Go.Proofs.YtggohfinkpppkabGreatDoor
