/-
  What spec.l3Has, spec.CommonTokens and impl.CommonTokens answer. By an AI agent.
-/
import Derived.Test.YtggohfinkpppkabGreatDoorSetOf
import Derived.Test.YtggohfinkpppkabGreatDoorPut2
import Derived.Test.YtggohfinkpppkabGreatDoorGMem
namespace Go.Proofs.YtggohfinkpppkabGreatDoor
open Go.RowKit Go.Maps
set_option linter.unusedVariables false

set_option maxRecDepth 100000 in
theorem has_yes (a : Option Addr) (cap : Nat) (l : List Str) (t : ByteArray) (y : Str) (w : World) (hl : l.length ≤ 4000000) (hin : InS w a l) (ht : t.data.toList = y) (hy : y ∈ l) :
    Calls Tryz.prog 107 #[.slice a l.length cap, .string t] w fun e w' => e = .returned (.bool true) ∧ w' = w := by
  have HIN := Lib.hid hin
  have HT := Lib.hid ht
  have HY := Lib.hid hy
  clear hin ht hy
  go_enter Tryz.func107, Tryz.ntmps107
  go_wp2
  go_loop [5] (fun i => ∃ k : Nat, k ≤ l.length ∧ i = .int .i64 k ∧ y ∉ l.take k) (fun i => l.length - (intOf i).toNat)
  case atStart => exact ⟨0, Nat.zero_le _, rfl, by simp⟩
  case round =>
    obtain ⟨k, hk, rfl, hm⟩ := hrel
    have HM := Lib.hid hm
    clear hm
    by_cases hlt : k < l.length
    · obtain ⟨b, off, rfl, hbw, hc⟩ := HIN.out (by omega)
      obtain ⟨x, s, hx1, hx2, hx3, hx4⟩ := str_at hlt
      have hcell : w.cell? ⟨b, off + k, none⟩ = some (.string s) := by rw [← hx3]; exact hc k x hx1
      have H1 := Lib.hid hx1
      by_cases hxy : x = y
      · obtain rfl := str_eq3 hx2 HT.out hxy
        clear hc hx1 hx2 hx3 hx4 hbw hxy
        go_wp2
        go_ret
        exact ⟨rfl, rfl⟩
      · have HXY := Lib.hid hxy
        have hne := str_ne3 hx2 HT.out hxy
        clear hc hx1 hx2 hx3 hx4 hbw hxy
        go_wp2
        go_round
        case rel => exact ⟨k + 1, by omega, by go_num, by rw [take_snoc' H1.out, List.mem_append, List.mem_singleton]; exact fun h => h.elim HM.out (fun e => HXY.out e.symm)⟩
        case measure => simp [intOf]; omega
    · obtain rfl : k = l.length := by omega
      exact absurd HY.out (by have := HM.out; rwa [List.take_length] at this)

set_option maxRecDepth 100000 in
theorem has_no (a : Option Addr) (cap : Nat) (l : List Str) (t : ByteArray) (y : Str) (w : World) (hl : l.length ≤ 4000000) (hin : InS w a l) (ht : t.data.toList = y) (hy : y ∉ l) :
    Calls Tryz.prog 107 #[.slice a l.length cap, .string t] w fun e w' => e = .returned (.bool false) ∧ w' = w := by
  have HIN := Lib.hid hin
  have HT := Lib.hid ht
  have HY := Lib.hid hy
  clear hin ht hy
  go_enter Tryz.func107, Tryz.ntmps107
  go_wp2
  go_loop [5] (fun i => ∃ k : Nat, k ≤ l.length ∧ i = .int .i64 k) (fun i => l.length - (intOf i).toNat)
  case atStart => exact ⟨0, Nat.zero_le _, rfl⟩
  case round =>
    obtain ⟨k, hk, rfl⟩ := hrel
    by_cases hlt : k < l.length
    · obtain ⟨b, off, rfl, hbw, hc⟩ := HIN.out (by omega)
      obtain ⟨x, s, hx1, hx2, hx3, hx4⟩ := str_at hlt
      have hcell : w.cell? ⟨b, off + k, none⟩ = some (.string s) := by rw [← hx3]; exact hc k x hx1
      have hne := str_ne3 hx2 HT.out (fun e => HY.out (by rw [← e]; exact List.mem_of_getElem? hx1))
      clear hc hx1 hx2 hx3 hx4 hbw
      go_wp2
      go_round
      case rel => exact ⟨k + 1, by omega, by go_num⟩
      case measure => simp [intOf]; omega
    · obtain rfl : k = l.length := by omega
      go_wp2
      go_ret
      exact ⟨rfl, rfl⟩

/-- what both lists have -/
def bothL (l m : List Str) : List Str := l.filter fun x => decide (x ∈ m)
abbrev commonR (l m : List Str) : List Str := setL (bothL l m)
theorem both_yes {l m : List Str} {k : Nat} {x : Str} (h : l[k]? = some x) (hm : x ∈ m) : bothL (l.take (k + 1)) m = bothL (l.take k) m ++ [x] := by
  unfold bothL; rw [take_snoc' h, List.filter_append]; simp [hm]
theorem both_no {l m : List Str} {k : Nat} {x : Str} (h : l[k]? = some x) (hm : x ∉ m) : bothL (l.take (k + 1)) m = bothL (l.take k) m := by
  unfold bothL; rw [take_snoc' h, List.filter_append]; simp [hm]
theorem both_len (l m : List Str) : (bothL l m).length ≤ l.length := List.length_filter_le _ _
theorem common_len (l m : List Str) (h0 : szL l ≤ 1048576) (h1 : szL m ≤ 1048576) : (commonR l m).length ≤ 4000000 := by
  have h2 := setL_length (bothL l m)
  have h3 := both_len l m
  have h4 := szL_len l
  show (setL (bothL l m)).length ≤ 4000000
  omega

set_option maxRecDepth 100000 in
set_option maxHeartbeats 1000000 in
theorem common_spec (a0 a1 : Option Addr) (c0 c1 : Nat) (l0 l1 : List Str) (w : World) (h0 : Sm w a0 l0 c0) (h1 : Sm w a1 l1 c1) :
    Calls Tryz.prog 86 #[.slice a0 l0.length c0, .slice a1 l1.length c1] w (GivesS w (commonR l0 l1)) := by
  obtain ⟨hin0, -, -, hl0, -⟩ := h0
  obtain ⟨hin1, -, -, hl1, -⟩ := h1
  have H0 := Lib.hid hin0
  have H1 := Lib.hid hin1
  clear hin0 hin1
  go_enter Tryz.func86, Tryz.ntmps86
  go_wp2
  go_loopw [5, 6] (fun v i wr => ∃ (k : Nat) (a : Option Addr) (c : Nat) (r : List Str), k ≤ l0.length ∧ i = .int .i64 k ∧ v = .slice a r.length c ∧ r = setL (bothL (l0.take k) l1) ∧ OwnS wr w.heap.size (.slice a r.length c) r ∧ Below w.heap.size w wr) (fun _ i _ => l0.length - (intOf i).toNat)
  case atStart => exact ⟨0, _, _, [], Nat.zero_le _, rfl, rfl, rfl, own_new w w.heap.size w.heap.size rfl (Nat.le_refl _), (Below.refl _ _).alloc (Nat.le_refl _) _⟩
  case round =>
    obtain ⟨k, a, c, r, hk, rfl, rfl, hr, hown, hb⟩ := hrel
    have hrl : r.length ≤ k := by
      rw [hr]
      have h2 := setL_length (bothL (l0.take k) l1)
      have h3 := both_len (l0.take k) l1
      have h4 : (l0.take k).length ≤ k := List.length_take_le _ _
      omega
    have HR := Lib.hid hr
    have HOWN := Lib.hid hown
    have HB := Lib.hid hb
    clear hr hown hb
    by_cases hlt : k < l0.length
    · obtain ⟨b, off, rfl, hbw, hc⟩ := H0.out (by omega)
      obtain ⟨x, s, hx1, hx2, hx3, hx4⟩ := str_at hlt
      have hcell : wr.cell? ⟨b, off + k, none⟩ = some (.string s) := by
        rw [HB.out.cell (p := ⟨b, off + k, none⟩) hbw, ← hx3]
        exact hc k x hx1
      have HX1 := Lib.hid hx1
      have HX2 := Lib.hid hx2
      clear hc hx1 hx2 hx3 hx4 hbw
      by_cases hm : x ∈ l1
      · have HM := Lib.hid hm
        clear hm
        go_wp2_with (first
          | (go_at_call 107; (refine (has_yes a1 c1 l1 s x _ hl1 (H1.out.below HB.out) HX2.out HM.out).mono ?_); rintro e w' ⟨rfl, rfl⟩)
          | (go_at_call 57; (refine (put_any false w.heap.size a c r s x _ (by omega) HOWN.out HB.out.size HX2.out).mono ?_); rintro e w2 ⟨a2, c2, rfl, ho2, hb2⟩; have HO2 := Lib.hid ho2; have HB2 := Lib.hid hb2; clear ho2 hb2))
        go_roundw
        case rel =>
          refine ⟨k + 1, a2, c2, putL false r x, by omega, by go_num, rfl, ?_, HO2.out, HB.out.trans (HB2.out.mono HB.out.size)⟩
          rw [both_yes HX1.out HM.out, setL_snoc, ← HR.out]
        case measure => simp [intOf]; omega
      · have HM := Lib.hid hm
        clear hm
        go_wp2_with (go_at_call 107; (refine (has_no a1 c1 l1 s x _ hl1 (H1.out.below HB.out) HX2.out HM.out).mono ?_); rintro e w' ⟨rfl, rfl⟩)
        go_roundw
        case rel =>
          refine ⟨k + 1, a, c, r, by omega, by go_num, rfl, ?_, HOWN.out, HB.out⟩
          rw [both_no HX1.out HM.out]
          exact HR.out
        case measure => simp [intOf]; omega
    · obtain rfl : k = l0.length := by omega
      go_wp2
      go_ret
      have e : r = commonR l0 l1 := by
        have h := HR.out
        rw [List.take_length] at h
        exact h
      rw [← e]
      exact ⟨a, c, rfl, HOWN.out, HB.out⟩

end Go.Proofs.YtggohfinkpppkabGreatDoor
