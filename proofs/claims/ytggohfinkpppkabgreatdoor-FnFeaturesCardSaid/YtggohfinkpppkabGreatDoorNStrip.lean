/-
  What spec.StripMarks and impl.StripMarks answer, for every string of at most 2^20 bytes; the walk of laws.FnExactStripMarks. By an AI agent.
-/
import Derived.Test.YtggohfinkpppkabGreatDoorNFold
namespace Go.Proofs.YtggohfinkpppkabGreatDoor
open Go.RowKit
set_option linter.unusedVariables false

/-- the five ways in which a byte is no letter and no digit, and the three in which it is one -/
theorem word_ways (x : Int) : (x < 48 ∧ isWordI x = false) ∨ (48 ≤ x ∧ x ≤ 57 ∧ isWordI x = true) ∨ (57 < x ∧ x < 65 ∧ isWordI x = false) ∨ (65 ≤ x ∧ x ≤ 90 ∧ isWordI x = true) ∨
    (90 < x ∧ x < 97 ∧ isWordI x = false) ∨ (97 ≤ x ∧ x ≤ 122 ∧ isWordI x = true) ∨ (122 < x ∧ isWordI x = false) := by
  by_cases h1 : x < 48
  · exact .inl ⟨h1, wordI_no (by omega)⟩
  · by_cases h2 : x ≤ 57
    · exact .inr (.inl ⟨by omega, h2, wordI_yes (by omega)⟩)
    · by_cases h3 : x < 65
      · exact .inr (.inr (.inl ⟨by omega, h3, wordI_no (by omega)⟩))
      · by_cases h4 : x ≤ 90
        · exact .inr (.inr (.inr (.inl ⟨by omega, h4, wordI_yes (by omega)⟩)))
        · by_cases h5 : x < 97
          · exact .inr (.inr (.inr (.inr (.inl ⟨by omega, h5, wordI_no (by omega)⟩))))
          · by_cases h6 : x ≤ 122
            · exact .inr (.inr (.inr (.inr (.inr (.inl ⟨by omega, h6, wordI_yes (by omega)⟩)))))
            · exact .inr (.inr (.inr (.inr (.inr (.inr ⟨by omega, wordI_no (by omega)⟩)))))

set_option maxRecDepth 100000 in
theorem l2Word_is (x : Int) (b : Bool) (w : World) (hb : isWordI x = b) :
    Calls Tryz.prog 62 #[.int .u8 x] w fun e w' => e = .returned (.bool b) ∧ w = w' := by
  rcases word_ways x with ⟨h1, h⟩ | ⟨h1, h2, h⟩ | ⟨h1, h2, h⟩ | ⟨h1, h2, h⟩ | ⟨h1, h2, h⟩ | ⟨h1, h2, h⟩ | ⟨h1, h⟩
  all_goals
    obtain rfl := h.symm.trans hb
    clear h hb
    go_enter Tryz.func62, Tryz.ntmps62
    go_wp2
    go_ret
    exact ⟨nret_bool (by first | rfl | (simp; omega)), rfl⟩

set_option maxRecDepth 100000 in
theorem isWordByte_is (x : Int) (b : Bool) (w : World) (hb : isWordI x = b) :
    Calls Tryz.prog 113 #[.int .u8 x] w fun e w' => e = .returned (.bool b) ∧ w = w' := by
  rcases word_ways x with ⟨h1, h⟩ | ⟨h1, h2, h⟩ | ⟨h1, h2, h⟩ | ⟨h1, h2, h⟩ | ⟨h1, h2, h⟩ | ⟨h1, h2, h⟩ | ⟨h1, h⟩
  all_goals
    obtain rfl := h.symm.trans hb
    clear h hb
    go_enter Tryz.func113, Tryz.ntmps113
    go_wp2
    go_ret
    exact ⟨nret_bool (by first | rfl | (simp; omega)), rfl⟩

theorem strip_take (s : ByteArray) (k : Nat) (h : k < s.size) : stripL (s.data.toList.take (k + 1)) = stripL (s.data.toList.take k) ++ stripB s[k] := by
  rw [ftake_snoc s k h, stripL_snoc]

theorem strip_len (s : ByteArray) (k : Nat) (hk : k ≤ s.size) (hs : s.size ≤ 1048576) : (stripL (s.data.toList.take k)).length ≤ 70368744177664 := by
  have h1 := stripL_length (s.data.toList.take k)
  have h2 : (s.data.toList.take k).length ≤ k := List.length_take_le _ _
  omega

/-- what becomes of the byte at k -/
inductive Way (c : UInt8) : Prop
  | word (h : isWordI c.toNat = true) (h1 : c.toNat ≠ 39) (e : stripB c = [c])
  | space (h : isWordI c.toNat = false) (h1 : c.toNat = 32) (e : stripB c = [c])
  | mark (h : isWordI c.toNat = false) (h1 : c.toNat = 39) (e : stripB c = [])
  | other (h : isWordI c.toNat = false) (h1 : c.toNat ≠ 39) (h2 : c.toNat ≠ 32) (e : stripB c = [32])

theorem way_of (c : UInt8) : Way c := by
  cases h : isWordI c.toNat
  · by_cases h1 : c.toNat = 39
    · exact .mark h h1 (stripB_mark h1)
    · by_cases h2 : c.toNat = 32
      · refine .space h h2 ?_
        rw [stripB_other h h1]
        rw [show c = 32 from UInt8.toNat_inj.1 h2]
      · exact .other h h1 h2 (stripB_other h h1)
  · exact .word h (fun e => by rw [e] at h; exact absurd h (by decide)) (stripB_word h)

set_option maxRecDepth 100000 in
set_option maxHeartbeats 1600000 in
theorem spec_sm (s : ByteArray) (w : World) (hs : s.size ≤ 1048576) :
    Calls Tryz.prog 34 #[.string s] w fun e w' => e = .returned (.string (nstr (stripL s.data.toList))) ∧ Below w.heap.size w w' := by
  have HS := Lib.hid hs
  go_enter Tryz.func34, Tryz.ntmps34
  go_wp2
  go_loopw [3, 4] (fun v i wr => ∃ k : Nat, k ≤ s.size ∧ i = .int .i64 k ∧ OwnB wr w.heap.size v (stripL (s.data.toList.take k)) ∧ Below w.heap.size w wr) (fun _ i _ => s.size - (intOf i).toNat)
  case atStart => exact ⟨0, Nat.zero_le _, rfl, OwnB.made w _ #[] 0 (Nat.le_refl _) (Nat.zero_le _) rfl, (Below.refl _ _).alloc (Nat.le_refl _) _⟩
  case round =>
    obtain ⟨k, hk, rfl, hown, hb⟩ := hrel
    have HOWN := Lib.hid hown
    have HB := Lib.hid hb
    clear hown hb
    by_cases hlt : k < s.size
    · have hby := s[k].toNat_lt
      have HLN := Lib.hid (strip_len s k hk hs)
      have HTK := Lib.hid (strip_take s k hlt)
      have hbs := Lib.hid HB.out.size
      rcases way_of s[k] with ⟨h, h1, e⟩ | ⟨h, h1, e⟩ | ⟨h, h1, e⟩ | ⟨h, h1, h2, e⟩
      · have HW := Lib.hid h
        have HE := Lib.hid e
        clear h h1 e
        go_wp2_with (first
          | (go_at_call 62; refine (l2Word_is _ true _ HW.out).mono ?_; rintro e w' ⟨rfl, rfl⟩)
          | (at_builtin; refine append_byte rfl _ _ rfl w.heap.size _ (stripL (s.data.toList.take k)) (s[k].toNat : Int) HOWN.out rfl rfl (by omega) (by omega) HLN.out hbs.out ?_; intro v1 w1 hown1 hb1))
        go_roundw
        case rel =>
          refine ⟨k + 1, by omega, by go_num, ?_, HB.out.trans hb1⟩
          rw [HTK.out, HE.out]
          rw [byte_of_nat] at hown1
          exact hown1
        case measure => simp [intOf]; omega
      · have HW := Lib.hid h
        have HE := Lib.hid e
        have hq : ((s[k].toNat : Int) == 32) = true := by simp; omega
        clear h h1 e
        go_wp2_with (first
          | (go_at_call 62; refine (l2Word_is _ false _ HW.out).mono ?_; rintro e w' ⟨rfl, rfl⟩)
          | (at_builtin; refine append_byte rfl _ _ rfl w.heap.size _ (stripL (s.data.toList.take k)) (s[k].toNat : Int) HOWN.out rfl rfl (by omega) (by omega) HLN.out hbs.out ?_; intro v1 w1 hown1 hb1))
        go_roundw
        case rel =>
          refine ⟨k + 1, by omega, by go_num, ?_, HB.out.trans hb1⟩
          rw [HTK.out, HE.out]
          rw [byte_of_nat] at hown1
          exact hown1
        case measure => simp [intOf]; omega
      · have HW := Lib.hid h
        have HE := Lib.hid e
        have hq : ((s[k].toNat : Int) == 32) = false := by simp; omega
        have hq2 : ((s[k].toNat : Int) != 39) = false := by simp; omega
        clear h h1 e
        go_wp2_with (go_at_call 62; refine (l2Word_is _ false _ HW.out).mono ?_; rintro e w' ⟨rfl, rfl⟩)
        go_roundw
        case rel =>
          refine ⟨k + 1, by omega, by go_num, ?_, HB.out⟩
          rw [HTK.out, HE.out, List.append_nil]
          exact HOWN.out
        case measure => simp [intOf]; omega
      · have HW := Lib.hid h
        have HE := Lib.hid e
        have hq : ((s[k].toNat : Int) == 32) = false := by simp; omega
        have hq2 : ((s[k].toNat : Int) != 39) = true := by simp; omega
        clear h h1 h2 e
        go_wp2_with (first
          | (go_at_call 62; refine (l2Word_is _ false _ HW.out).mono ?_; rintro e w' ⟨rfl, rfl⟩)
          | (at_builtin; refine append_byte rfl _ _ rfl w.heap.size _ (stripL (s.data.toList.take k)) 32 HOWN.out rfl rfl (by omega) (by omega) HLN.out hbs.out ?_; intro v1 w1 hown1 hb1))
        go_roundw
        case rel =>
          refine ⟨k + 1, by omega, by go_num, ?_, HB.out.trans hb1⟩
          rw [HTK.out, HE.out]
          exact hown1
        case measure => simp [intOf]; omega
    · obtain rfl : k = s.size := by omega
      have hcv := HOWN.out.convert
      go_wp2
      go_ret
      exact ⟨nret_str (by rw [ftake_all]; rfl), HB.out⟩

set_option maxRecDepth 100000 in
set_option maxHeartbeats 1600000 in
theorem impl_sm (s : ByteArray) (w : World) (hs : s.size ≤ 1048576) :
    Calls Tryz.prog 93 #[.string s] w fun e w' => e = .returned (.string (nstr (stripL s.data.toList))) ∧ Below w.heap.size w w' := by
  have HS := Lib.hid hs
  have hmk : (Instr.makeSlice 22 (.int .i64 0) (.int .i64 (s.size : Int))).run Tryz.prog w = .ok (.slice (some ⟨w.heap.size, 0, none⟩) 0 s.size) (w.alloc (.cells (madeCells #[.int .u8 0] s.size) 5)) := make_bytes w 0 s.size (Nat.zero_le _) (by omega)
  go_enter Tryz.func93, Tryz.ntmps93
  go_wp2
  clear hmk
  go_loopw [3, 11] (fun v i wr => ∃ k : Nat, k ≤ s.size ∧ i = .int .i64 k ∧ OwnB wr w.heap.size v (stripL (s.data.toList.take k)) ∧ Below w.heap.size w wr) (fun _ i _ => s.size - (intOf i).toNat)
  case atStart => exact ⟨0, Nat.zero_le _, rfl, OwnB.made0 w _ s.size (Nat.le_refl _) (by unfold maxLen; omega), (Below.refl _ _).alloc (Nat.le_refl _) _⟩
  case round =>
    obtain ⟨k, hk, rfl, hown, hb⟩ := hrel
    have HOWN := Lib.hid hown
    have HB := Lib.hid hb
    clear hown hb
    by_cases hlt : k < s.size
    · have hby := s[k].toNat_lt
      have HLN := Lib.hid (strip_len s k hk hs)
      have HTK := Lib.hid (strip_take s k hlt)
      have hbs := Lib.hid HB.out.size
      rcases way_of s[k] with ⟨h, h1, e⟩ | ⟨h, h1, e⟩ | ⟨h, h1, e⟩ | ⟨h, h1, h2, e⟩
      · have HW := Lib.hid h
        have HE := Lib.hid e
        have hq : ((s[k].toNat : Int) == 39) = false := by simp; omega
        clear h h1 e
        go_wp2_with (first
          | (go_at_call 113; refine (isWordByte_is _ true _ HW.out).mono ?_; rintro e w' ⟨rfl, rfl⟩)
          | (at_builtin; refine append_byte rfl _ _ rfl w.heap.size _ (stripL (s.data.toList.take k)) (s[k].toNat : Int) HOWN.out rfl rfl (by omega) (by omega) HLN.out hbs.out ?_; intro v1 w1 hown1 hb1))
        go_roundw
        case rel =>
          refine ⟨k + 1, by omega, by go_num, ?_, HB.out.trans hb1⟩
          rw [HTK.out, HE.out]
          rw [byte_of_nat] at hown1
          exact hown1
        case measure => simp [intOf]; omega
      · have HW := Lib.hid h
        have HE := Lib.hid (show stripB s[k] = [32] from stripB_other h (by omega))
        have hq : ((s[k].toNat : Int) == 39) = false := by simp; omega
        clear h h1 e
        go_wp2_with (first
          | (go_at_call 113; refine (isWordByte_is _ false _ HW.out).mono ?_; rintro e w' ⟨rfl, rfl⟩)
          | (at_builtin; refine append_byte rfl _ _ rfl w.heap.size _ (stripL (s.data.toList.take k)) 32 HOWN.out rfl rfl (by omega) (by omega) HLN.out hbs.out ?_; intro v1 w1 hown1 hb1))
        go_roundw
        case rel =>
          refine ⟨k + 1, by omega, by go_num, ?_, HB.out.trans hb1⟩
          rw [HTK.out, HE.out]
          exact hown1
        case measure => simp [intOf]; omega
      · have HW := Lib.hid h
        have HE := Lib.hid e
        have hq : ((s[k].toNat : Int) == 39) = true := by simp; omega
        clear h h1 e
        go_wp2
        go_roundw
        case rel =>
          refine ⟨k + 1, by omega, by go_num, ?_, HB.out⟩
          rw [HTK.out, HE.out, List.append_nil]
          exact HOWN.out
        case measure => simp [intOf]; omega
      · have HW := Lib.hid h
        have HE := Lib.hid e
        have hq : ((s[k].toNat : Int) == 39) = false := by simp; omega
        clear h h1 h2 e
        go_wp2_with (first
          | (go_at_call 113; refine (isWordByte_is _ false _ HW.out).mono ?_; rintro e w' ⟨rfl, rfl⟩)
          | (at_builtin; refine append_byte rfl _ _ rfl w.heap.size _ (stripL (s.data.toList.take k)) 32 HOWN.out rfl rfl (by omega) (by omega) HLN.out hbs.out ?_; intro v1 w1 hown1 hb1))
        go_roundw
        case rel =>
          refine ⟨k + 1, by omega, by go_num, ?_, HB.out.trans hb1⟩
          rw [HTK.out, HE.out]
          exact hown1
        case measure => simp [intOf]; omega
    · obtain rfl : k = s.size := by omega
      have hcv := HOWN.out.convert
      go_wp2
      go_ret
      exact ⟨nret_str (by rw [ftake_all]; rfl), HB.out⟩

end Go.Proofs.YtggohfinkpppkabGreatDoor
