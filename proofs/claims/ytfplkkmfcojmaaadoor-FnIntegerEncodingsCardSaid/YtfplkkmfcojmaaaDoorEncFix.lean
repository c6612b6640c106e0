/-
  What spec.EncodeFixed and impl.EncodeFixed answer, for all integers. By an AI agent.
-/
import Derived.Test.YtfplkkmfcojmaaaDoorOwnBytes
import Derived.Test.YtfplkkmfcojmaaaDoorPlainNum
import Derived.Test.YtfplkkmfcojmaaaDoorSpecIn
import Derived.Test.YtfplkkmfcojmaaaDoorEncVar
namespace Go.Proofs.YtfplkkmfcojmaaaDoor
open Go.RowKit
set_option linter.unusedVariables false

set_option maxRecDepth 100000 in
set_option maxHeartbeats 800000 in
theorem spec_ef (n m : Nat) (w : World) (hn : (n : Int) ≤ 9223372036854775807) (h1 : 1 ≤ m) (h2 : m ≤ 7) :
    Calls Tryd.prog 14 #[.int .i64 n, .int .i64 m] w fun e w' => e = .returned (.string (strOf (efL n m))) ∧ Below w.heap.size w w' := by
  go_enter Tryd.func14, Tryd.ntmps14
  go_wp2_with (go_at_call 27; refine (l1In_yes _ _ _ _ (by omega) (by omega)).mono ?_; rintro e w' ⟨rfl, rfl⟩)
  go_loopw [0, 5, 6] (fun a o i wr => ∃ (j : Nat) (l : List UInt8), j ≤ m ∧ i = .int .i64 j ∧ a = .int .i64 ((n / 256 ^ j : Nat) : Int) ∧ o = .string (strOf l) ∧ l.length = j ∧ fixB m n = fixB (m - j) (n / 256 ^ j) ++ l ∧ Below w.heap.size w wr) (fun _ _ i _ => m - (intOf i).toNat)
  case atStart => exact ⟨0, [], Nat.zero_le _, rfl, by simp, rfl, rfl, by simp, Below.refl _ _⟩
  case round =>
    obtain ⟨j, l, hj, rfl, rfl, rfl, hlen, hl, hb⟩ := hrel
    have HL := Lib.hid hl
    have HB := Lib.hid hb
    have HLEN := Lib.hid hlen
    have hsz : (strOf l).size ≤ 7 := by rw [strOf_size]; omega
    clear hl hb hlen
    have hkn : n / 256 ^ j ≤ n := Nat.div_le_self _ _
    obtain ⟨k, hk⟩ : ∃ k, k = n / 256 ^ j := ⟨_, rfl⟩
    rw [← hk] at hkn ⊢
    have HK := Lib.hid hk
    clear hk
    by_cases hlt : j < m
    · have hcv := convert_one wr ((k : Int) % 256) (by omega) (by omega)
      go_wp2
      go_roundw
      case rel =>
        refine ⟨j + 1, UInt8.ofNat (k % 256) :: l, by omega, by go_num, ?_, ?_, by simp [HLEN.out], ?_, HB.out.trans ((Below.refl _ _).alloc HB.out.size _)⟩
        · rw [HK.out, Nat.pow_succ, ← Nat.div_div_eq_div_mul]; go_num
        · exact congrArg _ (strOf_append [UInt8.ofNat (k % 256)] l)
        · rw [HK.out]; exact fixB_step hlt HL.out
      case measure => simp [intOf]; omega
    · obtain rfl : j = m := by omega
      by_cases hk0 : 0 < k
      · go_wp2
        go_ret
        exact ⟨ret_str (by rw [efL_not (by rw [← HK.out]; omega)]; rfl), HB.out⟩
      · go_wp2
        go_ret
        have hl := HL.out
        rw [Nat.sub_self, fixB, List.nil_append] at hl
        exact ⟨ret_str (by rw [efL_fits (by rw [← HK.out]; omega), hl]), HB.out⟩

/-- block g is just the bytes cs -/
def BlkB (w : World) (g : Nat) (cs : Array Value) : Prop := w.heap[g]? = some (.cells cs 5 (0, 0))

theorem BlkB.cell {w : World} {g : Nat} {cs : Array Value} (h : BlkB w g cs) (i : Nat) : w.cell? ⟨g, i, none⟩ = cs[i]? := cell_of_row w g i cs 5 (0, 0) h
theorem BlkB.frozen {w : World} {g : Nat} {cs : Array Value} (h : BlkB w g cs) (i : Nat) : w.frozen? ⟨g, i, none⟩ = false := by
  unfold BlkB at h
  simp [World.frozen?, h]
theorem BlkB.new (w : World) (cs : Array Value) : BlkB (w.alloc (.cells cs 5)) w.heap.size cs := heap_alloc_new w _
theorem BlkB.set_ {w : World} {g : Nat} {cs : Array Value} (h : BlkB w g cs) (i : Nat) (u : Value) : BlkB (w.setCell ⟨g, i, none⟩ u) g (cs.setIfInBounds i u) := by
  unfold BlkB at h ⊢
  simp [World.setCell, Array.getElem?_modify, h]

theorem drop_set {cs : Array Value} {i : Nat} {u : Value} (hi : i < cs.size) : (cs.setIfInBounds i u).toList.drop i = u :: cs.toList.drop (i + 1) := by
  have hl : i < cs.toList.length := by simpa using hi
  rw [Array.toList_setIfInBounds, List.drop_set, if_neg (by omega), List.drop_eq_getElem_cons hl, Nat.sub_self, List.set_cons_zero]

theorem BlkB.convert {w : World} {g m : Nat} {cs : Array Value} {l : List UInt8} (h : BlkB w g cs) (hd : cs.toList = Lib.byteCells l) (hm : l.length = m) :
    (convert 22 9 (.slice (some ⟨g, 0, none⟩) m m)).run Tryd.prog w = .ok (.string (strOf l)) w := by
  subst hm
  refine run_convert_bytes_back (P := Tryd.prog) w 22 9 5 ⟨g, 0, none⟩ l.length l Tryd.underlying22 Tryd.underlying5 Tryd.underlying9 (fun j hj => ?_)
  have e : (⟨g, 0, none⟩ : Addr).add j = ⟨g, j, none⟩ := by unfold Addr.add; split <;> simp_all
  rw [e, h.cell, ← Array.getElem?_toList, hd]
  simp [Lib.byteCells, hj]

set_option maxRecDepth 100000 in
set_option maxHeartbeats 800000 in
theorem impl_ef_no (n m : Nat) (w : World) (hn : (n : Int) ≤ 9223372036854775807) (h1 : 1 ≤ m) (h2 : m ≤ 7) (h : ¬ n < 256 ^ m) :
    Calls Tryd.prog 12 #[.int .i64 n, .int .i64 m] w fun e w' => e = .returned (.string (strOf (efL n m))) ∧ Below w.heap.size w w' := by
  have hsh : wrap64 (2 ^ (8 * m)) ≤ (n : Int) := by rw [wrap_shl m h2]; omega
  have H := Lib.hid h
  clear h
  go_enter Tryd.func12, Tryd.ntmps12
  go_wp2
  go_ret
  exact ⟨ret_str (by rw [efL, if_neg H.out]; rfl), Below.refl _ _⟩

set_option maxRecDepth 100000 in
set_option maxHeartbeats 800000 in
theorem impl_ef_yes (n m : Nat) (w : World) (hn : (n : Int) ≤ 9223372036854775807) (h1 : 1 ≤ m) (h2 : m ≤ 7) (h : n < 256 ^ m) :
    Calls Tryd.prog 12 #[.int .i64 n, .int .i64 m] w fun e w' => e = .returned (.string (strOf (efL n m))) ∧ Below w.heap.size w w' := by
  have hsh : (n : Int) < wrap64 (2 ^ (8 * m)) := by rw [wrap_shl m h2]; omega
  have H := Lib.hid h
  clear h
  have hmk := make_bytes w m m (Nat.le_refl _) (by omega)
  go_enter Tryd.func12, Tryd.ntmps12
  go_wp2
  clear hsh hmk
  go_loopw [0, 6] (fun a i wr => ∃ (j : Nat) (cs : Array Value) (l : List UInt8), j ≤ m ∧ i = .int .i64 ((j : Int) - 1) ∧ a = .int .i64 ((n / 256 ^ (m - j) : Nat) : Int) ∧ l.length = m - j ∧
      fixB m n = fixB j (n / 256 ^ (m - j)) ++ l ∧ cs.size = m ∧ cs.toList.drop j = Lib.byteCells l ∧ BlkB wr w.heap.size cs ∧ Below w.heap.size w wr) (fun _ i _ => (intOf i + 1).toNat)
  case atStart =>
    refine ⟨m, _, [], Nat.le_refl _, rfl, by simp, by simp, by simp, size_madeCells _ _, ?_, BlkB.new w _, (Below.refl _ _).alloc (Nat.le_refl _) _⟩
    have hsz : (madeCells #[Value.int .u8 0] m).size = m := size_madeCells _ _
    rw [List.drop_eq_nil_of_le (by rw [Array.length_toList, hsz]; omega)]
    rfl
  case round =>
    obtain ⟨j, cs, l, hj, rfl, rfl, hlen, hl, hcs, hdr, hbk, hb⟩ := hrel
    have HL := Lib.hid hl
    have HB := Lib.hid hb
    have HLEN := Lib.hid hlen
    have HCS := Lib.hid hcs
    have HDR := Lib.hid hdr
    have HBK := Lib.hid hbk
    clear hl hb hlen hcs hdr hbk
    have hkn : n / 256 ^ (m - j) ≤ n := Nat.div_le_self _ _
    obtain ⟨k, hk⟩ : ∃ k, k = n / 256 ^ (m - j) := ⟨_, rfl⟩
    rw [← hk] at hkn ⊢
    have HK := Lib.hid hk
    clear hk
    by_cases hj0 : 0 < j
    · obtain ⟨i, rfl⟩ : ∃ i, j = i + 1 := ⟨j - 1, by omega⟩
      have hc : wr.cell? ⟨w.heap.size, i, none⟩ = some (cs[i]'(by rw [HCS.out]; omega)) := by rw [HBK.out.cell]; exact Array.getElem?_eq_getElem _
      have hf := HBK.out.frozen i
      have hw8 : IntKind.u8.wrap (k : Int) = (k : Int) % 256 := IntKind.wrap_u8 _
      go_wp2
      go_roundw
      case rel =>
        have hq : n / 256 ^ (m - i) = n / 256 ^ (m - (i + 1)) / 256 := by
          rw [Nat.div_div_eq_div_mul, ← Nat.pow_succ, show (m - (i + 1)).succ = m - i by omega]
        refine ⟨i, cs.setIfInBounds i (.int .u8 ((k : Int) % 256)), UInt8.ofNat (k % 256) :: l, by omega, rfl, ?_, ?_, ?_, by simp [HCS.out], ?_, HBK.out.set_ _ _, HB.out.setCell (Nat.le_refl _) _⟩
        · rw [hq, ← HK.out]; go_num
        · rw [List.length_cons, HLEN.out]; omega
        · rw [HL.out, fixB, hq, List.append_assoc, ← HK.out]; rfl
        · rw [drop_set (by rw [HCS.out]; omega), HDR.out]
          simp only [Lib.byteCells, List.map_cons]
          rw [show ((UInt8.ofNat (k % 256)).toNat : Int) = (k : Int) % 256 by rw [UInt8.toNat_ofNat']; omega]
      case measure => simp [intOf]
    · obtain rfl : j = 0 := by omega
      have hcv := HBK.out.convert (l := l) (m := m) (by simpa using HDR.out) (by rw [HLEN.out]; omega)
      go_wp2
      go_ret
      refine ⟨ret_str ?_, HB.out⟩
      have hl := HL.out
      rw [fixB, List.nil_append] at hl
      rw [efL, if_pos H.out, hl]

/-- outside 1 ≤ width ≤ 7, 0 ≤ n: the empty string -/
def EfOff (n m : Int) : Prop := ¬ (1 ≤ m) ∨ (1 ≤ m ∧ 7 < m) ∨ (1 ≤ m ∧ m ≤ 7 ∧ n < 0)

set_option maxRecDepth 100000 in
set_option maxHeartbeats 400000 in
theorem impl_ef_off (n m : Int) (w : World) (h : EfOff n m) :
    Calls Tryd.prog 12 #[.int .i64 n, .int .i64 m] w fun e w' => e = .returned (.string ⟨#[]⟩) ∧ Below w.heap.size w w' := by
  rcases h with h | ⟨h1, h⟩ | ⟨h1, h2, h⟩
  · go_enter Tryd.func12, Tryd.ntmps12
    go_wp2
    go_ret
    exact ⟨rfl, Below.refl _ _⟩
  · have h' : ¬ m ≤ 7 := by omega
    go_enter Tryd.func12, Tryd.ntmps12
    go_wp2
    go_ret
    exact ⟨rfl, Below.refl _ _⟩
  · go_enter Tryd.func12, Tryd.ntmps12
    go_wp2
    go_ret
    exact ⟨rfl, Below.refl _ _⟩

set_option maxRecDepth 100000 in
set_option maxHeartbeats 400000 in
theorem spec_ef_off (n m : Int) (w : World) (h : EfOff n m) :
    Calls Tryd.prog 14 #[.int .i64 n, .int .i64 m] w fun e w' => e = .returned (.string ⟨#[]⟩) ∧ Below w.heap.size w w' := by
  rcases h with h | ⟨h1, h⟩ | ⟨h1, h2, h⟩
  · go_enter Tryd.func14, Tryd.ntmps14
    go_wp2_with (go_at_call 27; refine (l1In_no _ _ _ _ (by omega)).mono ?_; rintro e w' ⟨rfl, rfl⟩)
    go_ret
    exact ⟨rfl, Below.refl _ _⟩
  · go_enter Tryd.func14, Tryd.ntmps14
    go_wp2_with (go_at_call 27; refine (l1In_no _ _ _ _ (by omega)).mono ?_; rintro e w' ⟨rfl, rfl⟩)
    go_ret
    exact ⟨rfl, Below.refl _ _⟩
  · go_enter Tryd.func14, Tryd.ntmps14
    go_wp2_with (go_at_call 27; refine (l1In_yes _ _ _ _ (by omega) (by omega)).mono ?_; rintro e w' ⟨rfl, rfl⟩)
    go_ret
    exact ⟨rfl, Below.refl _ _⟩

theorem impl_ef (n m : Nat) (w : World) (hn : (n : Int) ≤ 9223372036854775807) (h1 : 1 ≤ m) (h2 : m ≤ 7) :
    Calls Tryd.prog 12 #[.int .i64 n, .int .i64 m] w fun e w' => e = .returned (.string (strOf (efL n m))) ∧ Below w.heap.size w w' := by
  by_cases h : n < 256 ^ m
  · exact impl_ef_yes n m w hn h1 h2 h
  · exact impl_ef_no n m w hn h1 h2 h

end Go.Proofs.YtfplkkmfcojmaaaDoor
