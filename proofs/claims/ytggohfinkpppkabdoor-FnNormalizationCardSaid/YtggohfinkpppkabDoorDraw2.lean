/-
  What the drawing functions of chapter 2 (l1Pick, l1Spoil, l2Name, l2Text) hand back: some texts within their bounds; nothing but the cursor is written. By an AI agent.
-/
import Derived.Test.YtggohfinkpppkabDoorDraw1
import Derived.Test.YtggohfinkpppkabDoorStrS
import Derived.Deep.RegionWith
namespace Go.Proofs.YtggohfinkpppkabDoor
open Go.RowKit
set_option linter.unusedVariables false

def SomeStr (w : World) (B c m : Nat) (e : Ending) (w' : World) : Prop := ∃ s : ByteArray, e = .returned (.string s) ∧ s.size ≤ m ∧ Cur w' B c ∧ w.grownBy w' (some c)

theorem lit_strs (w : World) (l : List ByteArray) (m : Nat) (hr : ∀ s ∈ l, s.size ≤ m) : ∀ j, j < l.length → ∃ s : ByteArray, s.size ≤ m ∧ (w.alloc (.cells (l.map Value.string).toArray 9)).cell? ⟨w.heap.size, j, none⟩ = some (.string s) := by
  intro j hj
  refine ⟨l[j], hr _ (List.getElem_mem hj), ?_⟩
  rw [World.cell?_alloc_at _ _ _ _ rfl]
  simp [hj]

set_option maxRecDepth 100000 in
set_option maxHeartbeats 1000000 in
theorem l1Pick_any (B c g n m : Nat) (w : World) (hcur : Cur w B c) (hn : 0 < n) (hn2 : n ≤ 65536) (hg : g ≠ c)
    (hl : ∀ j, j < n → ∃ s : ByteArray, s.size ≤ m ∧ w.cell? ⟨g, j, none⟩ = some (.string s)) :
    Calls Tryd.prog 72 #[.pointer (some ⟨c, 0, none⟩), .slice (some ⟨g, 0, none⟩) n n] w (SomeStr w B c m) := by
  have HC := Lib.hid hcur
  have HL := Lib.hid hl
  clear hcur hl
  go_enter Tryd.func72, Tryd.ntmps72
  go_wp2_with (go_at_call 69; (refine (l1Below_any B c _ _ HC.out (by omega) (by omega)).mono ?_); rintro e w1 ⟨x, rfl, hx0, hx1, hc1, hg1⟩; refine Hid.out ?_)
  refine Lib.hid ?_
  obtain ⟨k, rfl⟩ := Int.eq_ofNat_of_zero_le hx0
  obtain ⟨s, hs, hcell⟩ := HL.out k (by omega)
  have hcell1 : w1.cell? ⟨g, k, none⟩ = some (.string s) := hg1.cell hcell (by simpa using hg)
  have HC1 := Lib.hid hc1
  have HG1 := Lib.hid hg1
  clear hc1 hg1
  go_wp2
  go_ret
  exact ⟨s, rfl, hs, HC1.out, HG1.out⟩

set_option maxRecDepth 100000 in
set_option maxHeartbeats 2000000 in
theorem l2Name_any (B c : Nat) (w : World) (hcur : Cur w B c) : Calls Tryd.prog 71 #[.pointer (some ⟨c, 0, none⟩)] w (SomeStr w B c 40) := by
  have HC := Lib.hid hcur
  have HLT := Lib.hid hcur.lt
  clear hcur
  go_enter Tryd.func71, Tryd.ntmps71
  go_wp2_with (go_at_call 72; (refine (l1Pick_any B c w.heap.size 10 6 _ (HC.out.alloc _) (by omega) (by omega) (by have := HLT.out; omega) (lit_strs w [⟨#[97, 110, 110, 97]⟩, ⟨#[65, 110, 110, 97]⟩, ⟨#[97, 110, 110]⟩, ⟨#[106, 111, 104, 110]⟩, ⟨#[74, 111, 110]⟩, ⟨#[109, 97, 114, 105, 97]⟩, ⟨#[77, 97, 114, 121]⟩, ⟨#[112, 101, 116, 101, 114]⟩, ⟨#[79, 39, 78, 101, 105, 108]⟩, ⟨#[108, 105]⟩] 6 (by decide))).mono ?_); rintro e w1 ⟨s1, rfl, hs1, hc1, hg1⟩; refine Hid.out ?_)
  refine Lib.hid ?_
  have HC1 := Lib.hid hc1
  have HG1 := Lib.hid (grown_trans (grown_alloc w _ c) hg1)
  have HL1 := Lib.hid hc1.lt
  clear hc1 hg1
  go_wp2_with (go_at_call 72; (refine (l1Pick_any B c w1.heap.size 9 10 _ (HC1.out.alloc _) (by omega) (by omega) (by have := HL1.out; omega) (lit_strs w1 [⟨#[115, 109, 105, 116, 104]⟩, ⟨#[83, 109, 121, 116, 104]⟩, ⟨#[115, 99, 104, 109, 105, 100, 116]⟩, ⟨#[106, 111, 110, 101, 115]⟩, ⟨#[74, 111, 110, 97, 115]⟩, ⟨#[108, 101, 101]⟩, ⟨#[100, 101, 32, 108, 97, 32, 67, 114, 117, 122]⟩, ⟨#[109, 105, 108, 108, 101, 114]⟩, ⟨#[77, 117, 108, 108, 101, 114]⟩] 10 (by decide))).mono ?_); rintro e w2 ⟨s2, rfl, hs2, hc2, hg2⟩; refine Hid.out ?_)
  refine Lib.hid ?_
  have HC2 := Lib.hid hc2
  have HG2 := Lib.hid (grown_trans HG1.out (grown_trans (grown_alloc w1 _ c) hg2))
  clear hc2 hg2
  go_wp2_with (go_at_call 69; (refine (l1Below_any B c _ _ HC2.out (by omega) (by omega)).mono ?_); rintro e w3 ⟨x, rfl, hx0, hx1, hc3, hg3⟩; refine Hid.out ?_)
  refine Lib.hid ?_
  have HC3 := Lib.hid hc3
  have HG3 := Lib.hid (grown_trans HG2.out hg3)
  have HL3 := Lib.hid hc3.lt
  clear hc3 hg3
  have hcase : x = 0 ∨ x = 1 ∨ x = 2 ∨ 2 < x := by omega
  rcases hcase with rfl | rfl | rfl | hx
  · go_wp2
    go_ret
    exact ⟨_, rfl, by simp only [ByteArray.size_append]; have e : (⟨#[44, 32]⟩ : ByteArray).size = 2 := rfl; omega, HC3.out, HG3.out⟩
  · go_wp2_with (go_at_call 72; (refine (l1Pick_any B c w3.heap.size 3 2 _ (HC3.out.alloc _) (by omega) (by omega) (by have := HL3.out; omega) (lit_strs w3 [⟨#[97, 46]⟩, ⟨#[66]⟩, ⟨#[106]⟩] 2 (by decide))).mono ?_); rintro e w4 ⟨s4, rfl, hs4, hc4, hg4⟩; refine Hid.out ?_)
    refine Lib.hid ?_
    have HC4 := Lib.hid hc4
    have HG4 := Lib.hid (grown_trans HG3.out (grown_trans (grown_alloc w3 _ c) hg4))
    clear hc4 hg4
    go_wp2
    go_ret
    exact ⟨_, rfl, by simp only [ByteArray.size_append]; have e : (⟨#[32]⟩ : ByteArray).size = 1 := rfl; omega, HC4.out, HG4.out⟩
  · go_wp2
    go_ret
    exact ⟨s1, rfl, by omega, HC3.out, HG3.out⟩
  · have e0 : (x == 0) = false := by simp; omega
    have e1 : (x == 1) = false := by simp; omega
    have e2 : (x == 2) = false := by simp; omega
    go_wp2
    go_ret
    exact ⟨_, rfl, by simp only [ByteArray.size_append]; have e : (⟨#[32]⟩ : ByteArray).size = 1 := rfl; omega, HC3.out, HG3.out⟩

theorem ext_le (s : ByteArray) (a b : Nat) : (s.extract a b).size ≤ s.size := by rw [ByteArray.size_extract]; omega
theorem u8_lo (z : Int) : 0 ≤ IntKind.u8.wrap z := by rw [IntKind.wrap_u8]; omega
theorem u8_hi (z : Int) : IntKind.u8.wrap z ≤ 255 := by rw [IntKind.wrap_u8]; omega
theorem one_size (x : UInt8) : (⟨#[x]⟩ : ByteArray).size = 1 := rfl

set_option maxRecDepth 100000 in
set_option maxHeartbeats 2000000 in
theorem l1Spoil_m (m : Nat) (hm : m ≤ 1000) (B c : Nat) (s : ByteArray) (w : World) (hcur : Cur w B c) (hs : s.size ≤ m) : Calls Tryd.prog 70 #[.pointer (some ⟨c, 0, none⟩), .string s] w (SomeStr w B c (2 * m + 20)) := by
  have HC := Lib.hid hcur
  clear hcur
  by_cases h0 : s.size = 0
  · have hz : ((s.size : Int) == 0) = true := beq_iff_eq.2 (by omega)
    clear h0
    go_enter Tryd.func70, Tryd.ntmps70
    go_wp2_with (go_at_call 81; (refine (l1Text_any B c 3 _ HC.out (by omega)).mono ?_); rintro e w1 ⟨l, rfl, hl, hc1, hg1⟩)
    go_ret
    exact ⟨_, rfl, by rw [strOf_size]; omega, hc1, hg1⟩
  · have hz : ((s.size : Int) == 0) = false := beq_eq_false_iff_ne.2 (by omega)
    have hpos : 0 < s.size := by omega
    clear h0
    go_enter Tryd.func70, Tryd.ntmps70
    go_wp2_with (go_at_call 69; (refine (l1Below_any B c _ _ HC.out (by omega) (by omega)).mono ?_); rintro e w1 ⟨x, rfl, hx0, hx1, hc1, hg1⟩; refine Hid.out ?_)
    refine Lib.hid ?_
    obtain ⟨k, rfl⟩ := Int.eq_ofNat_of_zero_le hx0
    have HC1 := Lib.hid hc1
    have HG1 := Lib.hid hg1
    clear hc1 hg1
    go_wp2_with (go_at_call 69; (refine (l1Below_any B c _ _ HC1.out (by omega) (by omega)).mono ?_); rintro e w2 ⟨y, rfl, hy0, hy1, hc2, hg2⟩; refine Hid.out ?_)
    refine Lib.hid ?_
    have HC2 := Lib.hid hc2
    have HG2 := Lib.hid (grown_trans HG1.out hg2)
    clear hc2 hg2
    have hk1 : (k : Int) ≤ (s.size : Int) := by omega
    have hk2 : (k : Int) + 1 ≤ (s.size : Int) := by omega
    have hwk : IntKind.i64.wrap ((k : Int) + 1) = (k : Int) + 1 := IntWalk.i64_in _ (by omega)
    have hwk2 : (0 : Int) ≤ (k : Int) + 1 := by omega
    have E1 := Lib.hid (ext_le s 0 k)
    have E2 := Lib.hid (ext_le s (k + 1) s.size)
    have E3 := Lib.hid (ext_le s k s.size)
    have HS := Lib.hid hs
    have hcase : y = 0 ∨ y = 1 ∨ y = 2 ∨ 2 < y := by omega
    rcases hcase with rfl | rfl | rfl | hy
    · go_wp2
      go_quiet (fail)
      go_wp2
      go_ret
      exact ⟨_, rfl, by simp only [ByteArray.size_append]; have := E1.out; have := E2.out; have := HS.out; omega, HC2.out, grown_drewN HG2.out _⟩
    · go_wp2
      go_region_with (first | (go_at_call 80; refine (l1Byte_any B c _ (show Cur w2.drew B c from HC2.out)).mono ?_; rintro e w3 ⟨z, rfl, hz0, hz1, hc3, hg3⟩; have hcv := convert_one w3 (IntKind.u8.wrap z) (u8_lo z) (u8_hi z); have HC3 := Lib.hid hc3; have HG3 := Lib.hid hg3; clear hc3 hg3))
      go_wp2
      go_ret
      exact ⟨_, rfl, by simp only [ByteArray.size_append, one_size]; have := E1.out; have := E3.out; have := HS.out; omega, HC3.out.alloc _, grown_trans (grown_trans HG2.out (show w2.grownBy w3 (some c) from ⟨HG3.out.os, HG3.out.tape, HG3.out.output, HG3.out.size, HG3.out.block⟩)) (grown_alloc w3 _ c)⟩
    · go_wp2
      go_ret
      exact ⟨_, rfl, by have := E1.out; have := HS.out; omega, HC2.out, HG2.out⟩
    · have e0 : (y == 0) = false := by simp; omega
      have e1 : (y == 1) = false := by simp; omega
      have e2 : (y == 2) = false := by simp; omega
      go_wp2
      go_region_with (first | (go_at_call 69; refine (l1Below_any B c 255 _ (show Cur w2.drew B c from HC2.out) (by omega) (by omega)).mono ?_; rintro e w3 ⟨z, rfl, hz0, hz1, hc3, hg3⟩; have hcv := convert_one w3 (IntKind.u8.wrap (bits .xor .i64 (IntKind.i64.wrap (s[k].toNat : Int)) (IntKind.i64.wrap (1 + z)))) (u8_lo _) (u8_hi _); have HC3 := Lib.hid hc3; have HG3 := Lib.hid hg3; clear hc3 hg3))
      all_goals go_wp2
      all_goals go_ret
      all_goals exact ⟨_, rfl, by simp only [ByteArray.size_append, one_size]; have := E1.out; have := E2.out; have := HS.out; omega, HC3.out.alloc _, grown_trans (grown_trans HG2.out (show w2.grownBy w3 (some c) from ⟨HG3.out.os, HG3.out.tape, HG3.out.output, HG3.out.size, HG3.out.block⟩)) (grown_alloc w3 _ c)⟩

theorem l1Spoil_any (B c : Nat) (s : ByteArray) (w : World) (hcur : Cur w B c) (hs : s.size ≤ 40) : Calls Tryd.prog 70 #[.pointer (some ⟨c, 0, none⟩), .string s] w (SomeStr w B c 100) := l1Spoil_m 40 (by omega) B c s w hcur hs

set_option maxRecDepth 100000 in
set_option maxHeartbeats 2000000 in
theorem l2Text_any (B c : Nat) (w : World) (hcur : Cur w B c) : Calls Tryd.prog 54 #[.pointer (some ⟨c, 0, none⟩)] w (SomeStr w B c 100) := by
  have HC := Lib.hid hcur
  clear hcur
  go_enter Tryd.func54, Tryd.ntmps54
  go_wp2_with (go_at_call 69; (refine (l1Below_any B c _ _ HC.out (by omega) (by omega)).mono ?_); rintro e w1 ⟨x, rfl, hx0, hx1, hc1, hg1⟩; refine Hid.out ?_)
  refine Lib.hid ?_
  have HC1 := Lib.hid hc1
  have HG1 := Lib.hid hg1
  have HL1 := Lib.hid hc1.lt
  clear hc1 hg1
  have hcase : x = 0 ∨ x = 1 ∨ x = 2 ∨ 2 < x := by omega
  rcases hcase with rfl | rfl | rfl | hx
  · go_wp2_with (go_at_call 71; (refine (l2Name_any B c _ HC1.out).mono ?_); rintro e w2 ⟨s2, rfl, hs2, hc2, hg2⟩; refine Hid.out ?_)
    refine Lib.hid ?_
    have HC2 := Lib.hid hc2
    have HG2 := Lib.hid (grown_trans HG1.out hg2)
    clear hc2 hg2
    go_wp2_with (go_at_call 70; (refine (l1Spoil_any B c s2 _ HC2.out hs2).mono ?_); rintro e w3 ⟨s3, rfl, hs3, hc3, hg3⟩)
    go_ret
    exact ⟨s3, rfl, hs3, hc3, grown_trans HG2.out hg3⟩
  · go_wp2_with (go_at_call 72; (refine (l1Pick_any B c w1.heap.size 9 8 _ (HC1.out.alloc _) (by omega) (by omega) (by have := HL1.out; omega) (lit_strs w1 [⟨#[]⟩, ⟨#[32]⟩, ⟨#[32, 32, 97, 32, 32]⟩, ⟨#[65, 45, 66]⟩, ⟨#[120, 46, 121]⟩, ⟨#[100, 111, 110, 39, 116]⟩, ⟨#[9]⟩, ⟨#[97, 128, 98]⟩, ⟨#[95, 95, 95]⟩] 8 (by decide))).mono ?_); rintro e w2 ⟨s2, rfl, hs2, hc2, hg2⟩; refine Hid.out ?_)
    refine Lib.hid ?_
    go_wp2
    go_ret
    exact ⟨s2, rfl, by omega, hc2, grown_trans HG1.out (grown_trans (grown_alloc w1 _ c) hg2)⟩
  · go_wp2_with (go_at_call 69; (refine (l1Below_any B c _ _ HC1.out (by omega) (by omega)).mono ?_); rintro e w2 ⟨y, rfl, hy0, hy1, hc2, hg2⟩; refine Hid.out ?_)
    refine Lib.hid ?_
    obtain ⟨m, rfl⟩ := Int.eq_ofNat_of_zero_le hy0
    have HC2 := Lib.hid hc2
    have HG2 := Lib.hid (grown_trans HG1.out hg2)
    clear hc2 hg2
    go_wp2
    go_loopw [3, 4] (fun v n wr => ∃ (k : Nat) (s : ByteArray), n = .int .i64 k ∧ v = .string s ∧ s.size + k ≤ 60 ∧ Cur wr B c ∧ w.grownBy wr (some c)) (fun _ n _ => (intOf n).toNat)
    case atStart => exact ⟨36 + m, ⟨#[]⟩, by go_num, rfl, by show 0 + (36 + m) ≤ 60; omega, HC2.out, HG2.out⟩
    case round =>
      obtain ⟨k, s, rfl, rfl, hk, hc, hg⟩ := hrel
      have HCR := Lib.hid hc
      have HLR := Lib.hid hc.lt
      have HGR := Lib.hid hg
      clear hc hg
      by_cases h0 : 0 < k
      · go_wp2_with (go_at_call 72; (refine (l1Pick_any B c wr.heap.size 4 1 _ (HCR.out.alloc _) (by omega) (by omega) (by have := HLR.out; omega) (lit_strs wr [⟨#[97]⟩, ⟨#[32]⟩, ⟨#[90]⟩, ⟨#[45]⟩] 1 (by decide))).mono ?_); rintro e w3 ⟨s3, rfl, hs3, hc3, hg3⟩; refine Hid.out ?_)
        refine Lib.hid ?_
        have HC3 := Lib.hid hc3
        have HG3 := Lib.hid (grown_trans HGR.out (grown_trans (grown_alloc wr _ c) hg3))
        clear hc3 hg3
        go_wp2
        go_roundw
        case rel => exact ⟨k - 1, s ++ s3, by rw [Int.ofNat_sub (by omega)]; rfl, rfl, by rw [ByteArray.size_append]; omega, HC3.out, HG3.out⟩
        case measure => simp [intOf]; omega
      · obtain rfl : k = 0 := by omega
        go_wp2
        go_ret
        exact ⟨s, rfl, by omega, HCR.out, HGR.out⟩
  · have e0 : (x == 0) = false := by simp; omega
    have e1 : (x == 1) = false := by simp; omega
    have e2 : (x == 2) = false := by simp; omega
    go_wp2_with (go_at_call 71; (refine (l2Name_any B c _ HC1.out).mono ?_); rintro e w2 ⟨s2, rfl, hs2, hc2, hg2⟩)
    go_ret
    exact ⟨s2, rfl, by omega, hc2, grown_trans HG1.out hg2⟩

end Go.Proofs.YtggohfinkpppkabDoor
