/-
  What spec.CollapseSpaces and impl.CollapseSpaces answer, for every string of at most 2^20 bytes; the walk of laws.FnExactCollapseSpaces. By an AI agent.
-/
import Derived.Test.YtggohfinkpppkabGreatDoorNFold
namespace Go.Proofs.YtggohfinkpppkabGreatDoor
open Go.RowKit
set_option linter.unusedVariables false

theorem OwnB.form {w : World} {base : Nat} {v : Value} {l : List UInt8} (h : OwnB w base v l) : ∃ A c, v = .slice A l.length c := by
  rcases h.2 with ⟨rfl, h0⟩ | ⟨g, cap, cur, rfl, -, -, -, -, -, -⟩
  · exact ⟨none, 0, by rw [h0]⟩
  · exact ⟨_, cap, rfl⟩

theorem coll_sp (s : ByteArray) (k : Nat) (h : k < s.size) (hc : s[k].toNat = 32) : collL (s.data.toList.take (k + 1)) = collL (s.data.toList.take k) := by
  rw [ftake_snoc s k h, show s[k] = 32 from UInt8.toNat_inj.1 hc, collL_space]

theorem ne32 {c : UInt8} (h : c.toNat ≠ 32) : c ≠ 32 := fun e => h (by rw [e]; rfl)

theorem coll_first (s : ByteArray) (k : Nat) (h : k < s.size) (hc : s[k].toNat ≠ 32) (h0 : collL (s.data.toList.take k) = []) : collL (s.data.toList.take (k + 1)) = [] ++ [s[k]] := by
  rw [ftake_snoc s k h]
  exact collL_first (ne32 hc) h0

theorem last_take (s : ByteArray) (j : Nat) (h : j < s.size) : (s.data.toList.take (j + 1)).getLast? = some s[j] := by
  rw [ftake_snoc s j h, List.getLast?_append]
  rfl

theorem coll_join (s : ByteArray) (j : Nat) (h : j + 1 < s.size) (hc : s[j + 1].toNat ≠ 32) (h0 : collL (s.data.toList.take (j + 1)) ≠ []) (hl : s[j].toNat = 32) :
    collL (s.data.toList.take (j + 1 + 1)) = (collL (s.data.toList.take (j + 1)) ++ [32]) ++ [s[j + 1]] := by
  rw [ftake_snoc s (j + 1) h]
  refine collL_join (ne32 hc) h0 ?_
  rw [last_take s j (by omega), show s[j] = 32 from UInt8.toNat_inj.1 hl]

theorem coll_next (s : ByteArray) (j : Nat) (h : j + 1 < s.size) (hc : s[j + 1].toNat ≠ 32) (hl : s[j].toNat ≠ 32) :
    collL (s.data.toList.take (j + 1 + 1)) = collL (s.data.toList.take (j + 1)) ++ [s[j + 1]] := by
  rw [ftake_snoc s (j + 1) h]
  refine collL_next (ne32 hc) ?_
  rw [last_take s j (by omega)]
  intro e
  injection e with e
  exact ne32 hl e

theorem coll_len (s : ByteArray) (k : Nat) (hk : k ≤ s.size) (hs : s.size ≤ 1048576) : (collL (s.data.toList.take k)).length ≤ 70368744177600 := by
  have h1 := collL_length (s.data.toList.take k)
  have h2 : (s.data.toList.take k).length ≤ k := List.length_take_le _ _
  omega

theorem coll_nil (s : ByteArray) : collL (s.data.toList.take 0) = [] := by simp [collL, collS]

set_option maxRecDepth 100000 in
set_option maxHeartbeats 1600000 in
theorem spec_cs (s : ByteArray) (w : World) (hs : s.size ≤ 1048576) :
    Calls Tryz.prog 33 #[.string s] w fun e w' => e = .returned (.string (nstr (collL s.data.toList))) ∧ Below w.heap.size w w' := by
  have HS := Lib.hid hs
  go_enter Tryz.func33, Tryz.ntmps33
  go_wp2
  go_loopw [3, 4] (fun v i wr => ∃ k : Nat, k ≤ s.size ∧ i = .int .i64 k ∧ OwnB wr w.heap.size v (collL (s.data.toList.take k)) ∧ Below w.heap.size w wr) (fun _ i _ => s.size - (intOf i).toNat)
  case atStart => exact ⟨0, Nat.zero_le _, rfl, by rw [coll_nil]; exact OwnB.made w _ #[] 0 (Nat.le_refl _) (Nat.zero_le _) rfl, (Below.refl _ _).alloc (Nat.le_refl _) _⟩
  case round =>
    obtain ⟨k, hk, rfl, hown, hb⟩ := hrel
    have HB := Lib.hid hb
    clear hb
    by_cases hlt : k < s.size
    · have hby := s[k].toNat_lt
      have hbs := Lib.hid HB.out.size
      by_cases hc : s[k].toNat = 32
      · have HOWN := Lib.hid hown
        have HE := Lib.hid (coll_sp s k hlt hc)
        have hq : ((s[k].toNat : Int) != 32) = false := by simp; omega
        clear hown hc
        go_wp2
        go_roundw
        case rel => exact ⟨k + 1, by omega, by go_num, by rw [HE.out]; exact HOWN.out, HB.out⟩
        case measure => simp [intOf]; omega
      · have hq : ((s[k].toNat : Int) != 32) = true := by simp; omega
        have HLN := Lib.hid (coll_len s k hk hs)
        obtain ⟨A, cp, hv⟩ := hown.form
        obtain ⟨n, hn⟩ : ∃ n, n = (collL (s.data.toList.take k)).length := ⟨_, rfl⟩
        rw [← hn] at hv
        subst hv
        have HOWN := Lib.hid hown
        have HN := Lib.hid hn
        have HC := Lib.hid hc
        clear hown hn hc
        have hnl : n ≤ 70368744177600 := by rw [HN.out]; exact HLN.out
        by_cases h0 : n = 0
        · have HE := Lib.hid (coll_first s k hlt HC.out (List.eq_nil_of_length_eq_zero (by rw [← HN.out]; exact h0)))
          have HNIL := Lib.hid (show collL (s.data.toList.take k) = [] from List.eq_nil_of_length_eq_zero (by rw [← HN.out]; exact h0))
          subst h0
          go_wp2_with (at_builtin; refine append_byte rfl _ _ rfl w.heap.size _ (collL (s.data.toList.take k)) (s[k].toNat : Int) HOWN.out rfl rfl (by omega) (by omega) (Nat.le_trans HLN.out (by omega)) hbs.out ?_; intro v1 w1 hown1 hb1)
          go_roundw
          case rel =>
            refine ⟨k + 1, by omega, by go_num, ?_, HB.out.trans hb1⟩
            rw [HE.out]
            rw [byte_of_nat, HNIL.out] at hown1
            exact hown1
          case measure => simp [intOf]; omega
        · have h0' : 0 < n := by omega
          have HNE := Lib.hid (show collL (s.data.toList.take k) ≠ [] from fun e => h0 (by rw [HN.out, e]; rfl))
          have hk0 : 0 < k := by
            rcases Nat.eq_zero_or_pos k with rfl | h
            · exact absurd (coll_nil s) HNE.out
            · exact h
          obtain ⟨j, rfl⟩ : ∃ j, k = j + 1 := ⟨k - 1, by omega⟩
          clear h0 hk0
          have hby2 := s[j].toNat_lt
          by_cases hl : s[j].toNat = 32
          · have hq2 : ((s[j].toNat : Int) == 32) = true := by simp; omega
            have HE := Lib.hid (coll_join s j hlt HC.out HNE.out hl)
            clear hl
            go_wp2_with (at_builtin; refine append_byte rfl _ _ rfl w.heap.size _ (collL (s.data.toList.take (j + 1))) 32 HOWN.out rfl rfl (by omega) (by omega) (Nat.le_trans HLN.out (by omega)) hbs.out ?_; intro v1 w1 hown1 hb1; refine Hid.out ?_)
            refine Lib.hid ?_
            have HOWN1 := Lib.hid hown1
            have HB1 := Lib.hid hb1
            have HLN1 := Lib.hid (show (collL (s.data.toList.take (j + 1)) ++ [UInt8.ofNat (32 : Int).toNat]).length ≤ 70368744177664 by rw [List.length_append]; have := HLN.out; simp at this ⊢; omega)
            have HBS1 := Lib.hid (Nat.le_trans hbs.out hb1.size)
            clear hown1 hb1
            go_wp2_with (at_builtin; refine append_byte rfl _ _ rfl w.heap.size _ _ (s[j + 1].toNat : Int) HOWN1.out rfl rfl (by omega) (by omega) HLN1.out HBS1.out ?_; intro v2 w2 hown2 hb2)
            go_roundw
            case rel =>
              refine ⟨j + 1 + 1, by omega, by go_num, ?_, (HB.out.trans HB1.out).trans hb2⟩
              rw [HE.out]
              rw [byte_of_nat] at hown2
              exact hown2
            case measure => simp [intOf]; omega
          · have hq2 : ((s[j].toNat : Int) == 32) = false := by simp; omega
            have HE := Lib.hid (coll_next s j hlt HC.out hl)
            clear hl
            go_wp2_with (at_builtin; refine append_byte rfl _ _ rfl w.heap.size _ (collL (s.data.toList.take (j + 1))) (s[j + 1].toNat : Int) HOWN.out rfl rfl (by omega) (by omega) (Nat.le_trans HLN.out (by omega)) hbs.out ?_; intro v1 w1 hown1 hb1)
            go_roundw
            case rel =>
              refine ⟨j + 1 + 1, by omega, by go_num, ?_, HB.out.trans hb1⟩
              rw [HE.out]
              rw [byte_of_nat] at hown1
              exact hown1
            case measure => simp [intOf]; omega
    · obtain rfl : k = s.size := by omega
      have hcv := hown.convert
      clear hown
      go_wp2
      go_ret
      exact ⟨nret_str (by rw [ftake_all]; rfl), HB.out⟩

set_option maxRecDepth 100000 in
set_option maxHeartbeats 1600000 in
theorem impl_cs (s : ByteArray) (w : World) (hs : s.size ≤ 1048576) :
    Calls Tryz.prog 92 #[.string s] w fun e w' => e = .returned (.string (nstr (collL s.data.toList))) ∧ Below w.heap.size w w' := by
  have HS := Lib.hid hs
  have hmk : (Instr.makeSlice 22 (.int .i64 0) (.int .i64 (s.size : Int))).run Tryz.prog w = .ok (.slice (some ⟨w.heap.size, 0, none⟩) 0 s.size) (w.alloc (.cells (madeCells #[.int .u8 0] s.size) 5)) := make_bytes w 0 s.size (Nat.zero_le _) (by omega)
  go_enter Tryz.func92, Tryz.ntmps92
  go_wp2
  clear hmk
  go_loopw [3, 10] (fun v i wr => ∃ k : Nat, k ≤ s.size ∧ i = .int .i64 k ∧ OwnB wr w.heap.size v (collL (s.data.toList.take k)) ∧ Below w.heap.size w wr) (fun _ i _ => s.size - (intOf i).toNat)
  case atStart => exact ⟨0, Nat.zero_le _, rfl, by rw [coll_nil]; exact OwnB.made0 w _ s.size (Nat.le_refl _) (by unfold maxLen; omega), (Below.refl _ _).alloc (Nat.le_refl _) _⟩
  case round =>
    obtain ⟨k, hk, rfl, hown, hb⟩ := hrel
    have HB := Lib.hid hb
    clear hb
    by_cases hlt : k < s.size
    · have hby := s[k].toNat_lt
      have hbs := Lib.hid HB.out.size
      by_cases hc : s[k].toNat = 32
      · have HOWN := Lib.hid hown
        have HE := Lib.hid (coll_sp s k hlt hc)
        have hq : ((s[k].toNat : Int) == 32) = true := by simp; omega
        clear hown hc
        go_wp2
        go_roundw
        case rel => exact ⟨k + 1, by omega, by go_num, by rw [HE.out]; exact HOWN.out, HB.out⟩
        case measure => simp [intOf]; omega
      · have hq : ((s[k].toNat : Int) == 32) = false := by simp; omega
        have HLN := Lib.hid (coll_len s k hk hs)
        obtain ⟨A, cp, hv⟩ := hown.form
        obtain ⟨n, hn⟩ : ∃ n, n = (collL (s.data.toList.take k)).length := ⟨_, rfl⟩
        rw [← hn] at hv
        subst hv
        have HOWN := Lib.hid hown
        have HN := Lib.hid hn
        have HC := Lib.hid hc
        clear hown hn hc
        have hnl : n ≤ 70368744177600 := by rw [HN.out]; exact HLN.out
        by_cases h0 : n = 0
        · have HE := Lib.hid (coll_first s k hlt HC.out (List.eq_nil_of_length_eq_zero (by rw [← HN.out]; exact h0)))
          have HNIL := Lib.hid (show collL (s.data.toList.take k) = [] from List.eq_nil_of_length_eq_zero (by rw [← HN.out]; exact h0))
          subst h0
          go_wp2_with (at_builtin; refine append_byte rfl _ _ rfl w.heap.size _ (collL (s.data.toList.take k)) (s[k].toNat : Int) HOWN.out rfl rfl (by omega) (by omega) (Nat.le_trans HLN.out (by omega)) hbs.out ?_; intro v1 w1 hown1 hb1)
          go_roundw
          case rel =>
            refine ⟨k + 1, by omega, by go_num, ?_, HB.out.trans hb1⟩
            rw [HE.out]
            rw [byte_of_nat, HNIL.out] at hown1
            exact hown1
          case measure => simp [intOf]; omega
        · have h0' : 0 < n := by omega
          have HNE := Lib.hid (show collL (s.data.toList.take k) ≠ [] from fun e => h0 (by rw [HN.out, e]; rfl))
          have hk0 : 0 < k := by
            rcases Nat.eq_zero_or_pos k with rfl | h
            · exact absurd (coll_nil s) HNE.out
            · exact h
          obtain ⟨j, rfl⟩ : ∃ j, k = j + 1 := ⟨k - 1, by omega⟩
          clear h0 hk0
          have hby2 := s[j].toNat_lt
          by_cases hl : s[j].toNat = 32
          · have hq2 : ((s[j].toNat : Int) == 32) = true := by simp; omega
            have HE := Lib.hid (coll_join s j hlt HC.out HNE.out hl)
            clear hl
            go_wp2_with (at_builtin; refine append_byte rfl _ _ rfl w.heap.size _ (collL (s.data.toList.take (j + 1))) 32 HOWN.out rfl rfl (by omega) (by omega) (Nat.le_trans HLN.out (by omega)) hbs.out ?_; intro v1 w1 hown1 hb1; refine Hid.out ?_)
            refine Lib.hid ?_
            have HOWN1 := Lib.hid hown1
            have HB1 := Lib.hid hb1
            have HLN1 := Lib.hid (show (collL (s.data.toList.take (j + 1)) ++ [UInt8.ofNat (32 : Int).toNat]).length ≤ 70368744177664 by rw [List.length_append]; have := HLN.out; simp at this ⊢; omega)
            have HBS1 := Lib.hid (Nat.le_trans hbs.out hb1.size)
            clear hown1 hb1
            go_wp2_with (at_builtin; refine append_byte rfl _ _ rfl w.heap.size _ _ (s[j + 1].toNat : Int) HOWN1.out rfl rfl (by omega) (by omega) HLN1.out HBS1.out ?_; intro v2 w2 hown2 hb2)
            go_roundw
            case rel =>
              refine ⟨j + 1 + 1, by omega, by go_num, ?_, (HB.out.trans HB1.out).trans hb2⟩
              rw [HE.out]
              rw [byte_of_nat] at hown2
              exact hown2
            case measure => simp [intOf]; omega
          · have hq2 : ((s[j].toNat : Int) == 32) = false := by simp; omega
            have HE := Lib.hid (coll_next s j hlt HC.out hl)
            clear hl
            go_wp2_with (at_builtin; refine append_byte rfl _ _ rfl w.heap.size _ (collL (s.data.toList.take (j + 1))) (s[j + 1].toNat : Int) HOWN.out rfl rfl (by omega) (by omega) (Nat.le_trans HLN.out (by omega)) hbs.out ?_; intro v1 w1 hown1 hb1)
            go_roundw
            case rel =>
              refine ⟨j + 1 + 1, by omega, by go_num, ?_, HB.out.trans hb1⟩
              rw [HE.out]
              rw [byte_of_nat] at hown1
              exact hown1
            case measure => simp [intOf]; omega
    · obtain rfl : k = s.size := by omega
      have hcv := hown.convert
      clear hown
      go_wp2
      go_ret
      exact ⟨nret_str (by rw [ftake_all]; rfl), HB.out⟩

end Go.Proofs.YtggohfinkpppkabGreatDoor
