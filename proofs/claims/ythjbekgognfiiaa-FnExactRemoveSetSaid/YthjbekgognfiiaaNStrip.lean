/-
  What spec.StripMarks and impl.StripMarks answer, for every string of at most 2^20 bytes; the walk of laws.FnExactStripMarks. By an AI agent.
-/
import Derived.Test.YthjbekgognfiiaaNFold
namespace Go.Proofs.Ythjbekgognfiiaa
open Go.RowKit
set_option linter.unusedVariables false

/-- the five ways in which a byte is no letter and no digit, and the three in which it is one -/
theorem word_ways (x : Int) : (x < 48 ∧ isWordI x = false) ∨ (48 ≤ x ∧ x ≤ 57 ∧ isWordI x = true) ∨ (57 < x ∧ x < 65 ∧ isWordI x = false) ∨ (65 ≤ x ∧ x ≤ 90 ∧ isWordI x = true) ∨
    (90 < x ∧ x < 97 ∧ isWordI x = false) ∨ (97 ≤ x ∧ x ≤ 122 ∧ isWordI x = true) ∨ (122 < x ∧ isWordI x = false) := by
  by_cases h1 : x < 48
  · exact .inl ⟨h1, wordI_no (by omega)⟩
  · by_cases h2 : x ≤ 57
    · exact .inr (.inl ⟨by omega, h2, wordI_yes (by omega)⟩)
    · by_cases h3 : x < 65
      · exact .inr (.inr (.inl ⟨by omega, h3, wordI_no (by omega)⟩))
      · by_cases h4 : x ≤ 90
        · exact .inr (.inr (.inr (.inl ⟨by omega, h4, wordI_yes (by omega)⟩)))
        · by_cases h5 : x < 97
          · exact .inr (.inr (.inr (.inr (.inl ⟨by omega, h5, wordI_no (by omega)⟩))))
          · by_cases h6 : x ≤ 122
            · exact .inr (.inr (.inr (.inr (.inr (.inl ⟨by omega, h6, wordI_yes (by omega)⟩)))))
            · exact .inr (.inr (.inr (.inr (.inr (.inr ⟨by omega, wordI_no (by omega)⟩)))))

set_option maxRecDepth 100000 in
theorem l2Word_is (x : Int) (b : Bool) (w : World) (hb : isWordI x = b) :
    Calls Try.prog 44 #[.int .u8 x] w fun e w' => e = .returned (.bool b) ∧ w = w' := by
  rcases word_ways x with ⟨h1, h⟩ | ⟨h1, h2, h⟩ | ⟨h1, h2, h⟩ | ⟨h1, h2, h⟩ | ⟨h1, h2, h⟩ | ⟨h1, h2, h⟩ | ⟨h1, h⟩
  all_goals
    obtain rfl := h.symm.trans hb
    clear h hb
    go_enter Try.func44, Try.ntmps44
    go_wp2
    go_ret
    exact ⟨nret_bool (by first | rfl | (simp; omega)), rfl⟩

set_option maxRecDepth 100000 in
theorem isWordByte_is (x : Int) (b : Bool) (w : World) (hb : isWordI x = b) :
    Calls Try.prog 67 #[.int .u8 x] w fun e w' => e = .returned (.bool b) ∧ w = w' := by
  rcases word_ways x with ⟨h1, h⟩ | ⟨h1, h2, h⟩ | ⟨h1, h2, h⟩ | ⟨h1, h2, h⟩ | ⟨h1, h2, h⟩ | ⟨h1, h2, h⟩ | ⟨h1, h⟩
  all_goals
    obtain rfl := h.symm.trans hb
    clear h hb
    go_enter Try.func67, Try.ntmps67
    go_wp2
    go_ret
    exact ⟨nret_bool (by first | rfl | (simp; omega)), rfl⟩

theorem strip_take (s : ByteArray) (k : Nat) (h : k < s.size) : stripL (s.data.toList.take (k + 1)) = stripL (s.data.toList.take k) ++ stripB s[k] := by
  rw [ftake_snoc s k h, stripL_snoc]

theorem strip_len (s : ByteArray) (k : Nat) (hk : k ≤ s.size) (hs : s.size ≤ 1048576) : (stripL (s.data.toList.take k)).length ≤ 70368744177664 := by
  have h1 := stripL_length (s.data.toList.take k)
  have h2 : (s.data.toList.take k).length ≤ k := List.length_take_le _ _
  omega

/-- what becomes of the byte at k -/
inductive Way (c : UInt8) : Prop
  | word (h : isWordI c.toNat = true) (h1 : c.toNat ≠ 39) (e : stripB c = [c])
  | space (h : isWordI c.toNat = false) (h1 : c.toNat = 32) (e : stripB c = [c])
  | mark (h : isWordI c.toNat = false) (h1 : c.toNat = 39) (e : stripB c = [])
  | other (h : isWordI c.toNat = false) (h1 : c.toNat ≠ 39) (h2 : c.toNat ≠ 32) (e : stripB c = [32])

theorem way_of (c : UInt8) : Way c := by
  cases h : isWordI c.toNat
  · by_cases h1 : c.toNat = 39
    · exact .mark h h1 (stripB_mark h1)
    · by_cases h2 : c.toNat = 32
      · refine .space h h2 ?_
        rw [stripB_other h h1]
        rw [show c = 32 from UInt8.toNat_inj.1 h2]
      · exact .other h h1 h2 (stripB_other h h1)
  · exact .word h (fun e => by rw [e] at h; exact absurd h (by decide)) (stripB_word h)

end Go.Proofs.Ythjbekgognfiiaa
