/-
  What slices.Grow and slices.Concat do at []string, spec.UniteTokens and impl.UniteTokens. By an AI agent.
-/
import Derived.Test.YtggohfinkpppkabGreatDoorSetOf
import Derived.Test.YtggohfinkpppkabGreatDoorPut2
import Derived.Test.YtggohfinkpppkabGreatDoorGMem
import Derived.Lib.AppendZeros
namespace Go.Proofs.YtggohfinkpppkabGreatDoor
open Go.RowKit Go.Maps
set_option linter.unusedVariables false

abbrev uniteR (l m : List Str) : List Str := setL (l ++ m)
theorem unite_len (l m : List Str) (h0 : szL l ≤ 1048576) (h1 : szL m ≤ 1048576) : (uniteR l m).length ≤ 4000000 := by
  have h2 := setL_length (l ++ m)
  have h3 := szL_len l
  have h4 := szL_len m
  rw [List.length_append] at h2
  show (setL (l ++ m)).length ≤ 4000000
  omega

set_option maxRecDepth 100000 in
set_option maxHeartbeats 1000000 in
theorem unite_spec (a0 a1 : Option Addr) (c0 c1 : Nat) (l0 l1 : List Str) (w : World) (h0 : Sm w a0 l0 c0) (h1 : Sm w a1 l1 c1) :
    Calls Tryz.prog 87 #[.slice a0 l0.length c0, .slice a1 l1.length c1] w (GivesS w (uniteR l0 l1)) := by
  obtain ⟨hin0, -, -, hl0, -⟩ := h0
  obtain ⟨hin1, -, -, hl1, -⟩ := h1
  have H0 := Lib.hid hin0
  have H1 := Lib.hid hin1
  clear hin0 hin1
  go_enter Tryz.func87, Tryz.ntmps87
  go_wp2
  go_loopw [5, 6] (fun v i wr => ∃ (k : Nat) (a : Option Addr) (c : Nat) (r : List Str), k ≤ l0.length ∧ i = .int .i64 k ∧ v = .slice a r.length c ∧ r = setL (l0.take k) ∧ OwnS wr w.heap.size (.slice a r.length c) r ∧ Below w.heap.size w wr) (fun _ i _ => l0.length - (intOf i).toNat)
  case atStart => exact ⟨0, _, _, [], Nat.zero_le _, rfl, rfl, rfl, own_new w w.heap.size w.heap.size rfl (Nat.le_refl _), (Below.refl _ _).alloc (Nat.le_refl _) _⟩
  case round =>
    obtain ⟨k, a, c, r, hk, rfl, rfl, hr, hown, hb⟩ := hrel
    have hrl : r.length ≤ k := by
      rw [hr]
      have h2 := setL_length (l0.take k)
      have h4 : (l0.take k).length ≤ k := List.length_take_le _ _
      omega
    have HR := Lib.hid hr
    have HOWN := Lib.hid hown
    have HB := Lib.hid hb
    clear hr hown hb
    by_cases hlt : k < l0.length
    · obtain ⟨b, off, rfl, hbw, hc⟩ := H0.out (by omega)
      obtain ⟨x, s, hx1, hx2, hx3, hx4⟩ := str_at hlt
      have hcell : wr.cell? ⟨b, off + k, none⟩ = some (.string s) := by
        rw [HB.out.cell (p := ⟨b, off + k, none⟩) hbw, ← hx3]
        exact hc k x hx1
      have HX1 := Lib.hid hx1
      have HX2 := Lib.hid hx2
      clear hc hx1 hx2 hx3 hx4 hbw
      go_wp2_with (go_at_call 57; (refine (put_any false w.heap.size a c r s x _ (by omega) HOWN.out HB.out.size HX2.out).mono ?_); rintro e w2 ⟨a2, c2, rfl, ho2, hb2⟩; have HO2 := Lib.hid ho2; have HB2 := Lib.hid hb2; clear ho2 hb2)
      go_roundw
      case rel =>
        refine ⟨k + 1, a2, c2, putL false r x, by omega, by go_num, rfl, ?_, HO2.out, HB.out.trans (HB2.out.mono HB.out.size)⟩
        rw [take_snoc' HX1.out, setL_snoc, ← HR.out]
      case measure => simp [intOf]; omega
    · obtain rfl : k = l0.length := by omega
      have HR0 := Lib.hid (show r = setL l0 by have h := HR.out; rwa [List.take_length] at h)
      go_wp2
      go_loopw [5, 7] (fun v i wr => ∃ (k : Nat) (a : Option Addr) (c : Nat) (r : List Str), k ≤ l1.length ∧ i = .int .i64 k ∧ v = .slice a r.length c ∧ r = setL (l0 ++ l1.take k) ∧ OwnS wr w.heap.size (.slice a r.length c) r ∧ Below w.heap.size w wr) (fun _ i _ => l1.length - (intOf i).toNat)
      case atStart => exact ⟨0, a, c, r, Nat.zero_le _, rfl, rfl, by rw [HR0.out]; simp, HOWN.out, HB.out⟩
      case round =>
        clear HR HOWN HB hrl HR0
        obtain ⟨k, a, c, r, hk, rfl, rfl, hr, hown, hb⟩ := hrel
        have hrl : r.length ≤ l0.length + k := by
          rw [hr]
          have h2 := setL_length (l0 ++ l1.take k)
          have h4 : (l1.take k).length ≤ k := List.length_take_le _ _
          rw [List.length_append] at h2
          omega
        have HR := Lib.hid hr
        have HOWN := Lib.hid hown
        have HB := Lib.hid hb
        clear hr hown hb
        by_cases hlt : k < l1.length
        · obtain ⟨b, off, rfl, hbw, hc⟩ := H1.out (by omega)
          obtain ⟨x, s, hx1, hx2, hx3, hx4⟩ := str_at hlt
          have hcell : wr.cell? ⟨b, off + k, none⟩ = some (.string s) := by
            rw [HB.out.cell (p := ⟨b, off + k, none⟩) hbw, ← hx3]
            exact hc k x hx1
          have HX1 := Lib.hid hx1
          have HX2 := Lib.hid hx2
          clear hc hx1 hx2 hx3 hx4 hbw
          go_wp2_with (go_at_call 57; (refine (put_any false w.heap.size a c r s x _ (by omega) HOWN.out HB.out.size HX2.out).mono ?_); rintro e w2 ⟨a2, c2, rfl, ho2, hb2⟩; have HO2 := Lib.hid ho2; have HB2 := Lib.hid hb2; clear ho2 hb2)
          go_roundw
          case rel =>
            refine ⟨k + 1, a2, c2, putL false r x, by omega, by go_num, rfl, ?_, HO2.out, HB.out.trans (HB2.out.mono HB.out.size)⟩
            rw [take_snoc' HX1.out, ← List.append_assoc, setL_snoc, ← HR.out]
          case measure => simp [intOf]; omega
        · obtain rfl : k = l1.length := by omega
          go_wp2
          go_ret
          have e : r = uniteR l0 l1 := by
            have h := HR.out
            rw [List.take_length] at h
            exact h
          rw [← e]
          exact ⟨a, c, rfl, HOWN.out, HB.out⟩

end Go.Proofs.YtggohfinkpppkabGreatDoor
