/-
  What slices.Sort does to a slice of the call's own, and impl.QGrams. By an AI agent.
-/
import Derived.Test.YtggohfinkpppkabDoorSetOf
import Derived.Test.YtggohfinkpppkabDoorQgSpec
import Derived.Test.YtggohfinkpppkabDoorPut2
import Derived.Test.YtggohfinkpppkabDoorHeld
import Derived.Test.YtggohfinkpppkabDoorSpecIn
import Derived.Test.YtggohfinkpppkabDoorPlainTok
import Derived.Lib.AppendZeros
namespace Go.Proofs.YtggohfinkpppkabDoor
open Go.RowKit Go.Maps Go.Sort
set_option linter.unusedVariables false

theorem sort_own (base : Nat) (a : Option Addr) (c : Nat) (l : List Str) (w : World) (hown : OwnS w base (.slice a l.length c) l) (hl : l.length ≤ 9000000) :
    Calls Tryd.prog 62 #[.slice a l.length c] w fun e w' => e = .returned (.tuple #[]) ∧ OwnS w' base (.slice a l.length c) (sortL l) ∧ w.grownBy w' (Value.slice a l.length c).ownBlock := by
  by_cases h0 : l.length = 0
  · obtain rfl : l = [] := List.eq_nil_of_length_eq_zero h0
    refine (Tryd.slices_Sort_string_none a c w).mono fun e w' ⟨he, hw⟩ => ⟨he, ?_, ?_⟩
    · rw [hw]; exact hown
    · rw [hw]; exact World.grownBy.refl _ _
  · rcases hown.2 with ⟨_, h1⟩ | ⟨g, cap, cur, hv, hbase, hb, h1, h2, h3, h4⟩
    · exact absurd h1 h0
    · simp only [Value.slice.injEq] at hv
      obtain ⟨rfl, -, rfl⟩ := hv
      have hH : Holds encStr w g 0 l.toArray := holds_of_block hb (by simpa using h4)
      refine (Tryd.slices_Sort_string g 0 c l w hH (Array.getElem?_eq_some_iff.1 hb).1 (by omega)).mono fun e w' ⟨he, nn, os, hw⟩ => ⟨he, ?_, ?_⟩
      · rw [hw]
        have e1 : l.mergeSort (fun x y => decide (x ≤ y)) = sortL l := sortL_is l
        have ho := ownsRow_sorted (n := nn) (os := os) (ts := l.mergeSort fun x y => decide (x ≤ y)) (by simp) hbase hb h1 h2 h3
        rw [e1] at ho ⊢
        unfold OwnS
        rw [sortL_length]
        exact ho
      · rw [hw]
        exact grownBy_sorted _

set_option maxRecDepth 100000 in
theorem qg_impl_no (s : ByteArray) (q : Int) (w : World) (hs : s.size ≤ 3000000) (hq : ¬ (1 ≤ q ∧ q ≤ 3)) (hq0 : -9223372036854775808 ≤ q) (hq1 : q ≤ 9223372036854775807) :
    Calls Tryd.prog 31 #[.string s, .int .i64 q] w (GivesS w (qgR s.data.toList q)) := by
  rw [qgR_no hq]
  by_cases h1 : q < 1
  · clear hq
    go_enter Tryd.func31, Tryd.ntmps31
    go_wp2
    go_ret
    exact ⟨none, 0, rfl, OwnS.nil _ _, Below.refl _ _⟩
  · have h2 : 3 < q := by omega
    clear hq
    go_enter Tryd.func31, Tryd.ntmps31
    go_wp2
    go_ret
    exact ⟨none, 0, rfl, OwnS.nil _ _, Below.refl _ _⟩

set_option maxRecDepth 100000 in
set_option maxHeartbeats 1000000 in
theorem qg_impl_yes (s : ByteArray) (m : Nat) (w : World) (hs : s.size ≤ 3000000) (h1 : 1 ≤ m) (h2 : m ≤ 3) :
    Calls Tryd.prog 31 #[.string s, .int .i64 m] w (GivesS w (qgR s.data.toList m)) := by
  have hsl : s.data.toList.length = s.size := Array.length_toList
  have HSL := Lib.hid hsl
  rw [qgR_yes h1 h2]
  clear hsl
  by_cases hsh : s.size < m
  · rw [grams_short (by rw [HSL.out]; exact hsh)]
    go_enter Tryd.func31, Tryd.ntmps31
    go_wp2
    go_ret
    exact ⟨none, 0, rfl, OwnS.nil _ _, Below.refl _ _⟩
  · obtain ⟨i0, hi, hz0, hz1, hz2⟩ := info_parts info_str
    obtain ⟨n, hn⟩ : ∃ n : Nat, s.size + 1 = n + m := ⟨s.size + 1 - m, by omega⟩
    have hni : (s.size : Int) - (m : Int) + 1 = (n : Int) := by omega
    have HN := Lib.hid hn
    have hd1 : decide ((m : Int) < 1) = false := decide_eq_false (by omega)
    have hd2 : decide ((3 : Int) < (m : Int)) = false := decide_eq_false (by omega)
    have hn1 : n ≤ 3000000 := by omega
    have hn2 : 1 ≤ n := by omega
    go_enter Tryd.func31, Tryd.ntmps31
    go_wp2_with (at_make; refine wpList_make_own _ rfl _ _ 22 rfl w.heap.size 9 i0 (.string ⟨#[]⟩) 1 Tryd.underlying22 hi hz0 hz1 _ _ _ n rfl rfl (by first | rfl | exact hni | omega) (by rw [hz2]; omega) (by unfold maxLen; omega) (Nat.le_refl _) ?_; intro w1 hrow1 hg1; have HO1 := Lib.hid (show OwnS w1 w.heap.size (.slice (some ⟨w.heap.size, 0, none⟩) ([] : List Str).length n) [] from hrow1); have HB1 := Lib.hid ((Below.refl w.heap.size w).grown hg1 (Nat.le_refl _) (fun k hk => by cases hk)); clear hrow1 hg1)
    go_loopw [5, 30] (fun v i wr => ∃ (k : Nat) (a : Option Addr) (c : Nat) (r : List Str), k ≤ n ∧ i = .int .i64 k ∧ v = .slice a r.length c ∧ r = (gramsL s.data.toList m).take k ∧ OwnS wr w.heap.size (.slice a r.length c) r ∧ Below w.heap.size w wr) (fun _ i _ => n - (intOf i).toNat)
    case atStart => exact ⟨0, _, _, [], Nat.zero_le _, rfl, rfl, rfl, HO1.out, HB1.out⟩
    case round =>
      obtain ⟨k, a, c, r, hk, rfl, rfl, hr, hown, hb⟩ := hrel
      have hrl : r.length ≤ k := by
        rw [hr]
        exact List.length_take_le _ _
      have HR := Lib.hid hr
      have HOWN := Lib.hid hown
      have HB := Lib.hid hb
      clear hr hown hb HO1 HB1
      by_cases hlt : k < n
      · have hle : k + m ≤ s.size := by have := HN.out; omega
        have hle1 : (k : Int) + (m : Int) ≤ (s.size : Int) := by omega
        obtain ⟨x, hx⟩ : ∃ x, x = (s.data.toList.drop k).take m := ⟨_, rfl⟩
        have HX := Lib.hid hx
        obtain ⟨v', w2, hrun, ho, hgr⟩ := run_app 22 w.heap.size (.slice a r.length c) r (wr.alloc (.cells #[.string (s.extract k (k + m))] 9)) (HOWN.out.alloc _) (some ⟨wr.heap.size, 0, none⟩) 1 [x]
          (in_one wr wr.heap.size (s.extract k (k + m)) x rfl (by rw [ext_part, hx])) nofun (by simp; omega) (by have := HB.out.size; simp; omega)
        obtain ⟨a', c', rfl⟩ := ho.shape
        have HRUN := Lib.hid hrun
        have HO := Lib.hid ho
        have HG := Lib.hid ((HB.out.alloc HB.out.size _).grown hgr (by have := HB.out.size; simp; omega) (fun k hk => (World.ownsRow.lt HOWN.out k hk).1))
        clear hrun ho hgr hx
        go_wp2_with (at_builtin; refine Lib.wpList_append_run _ rfl _ _ _ _ rfl _ _ rfl rfl _ _ HRUN.out ?_)
        go_roundw
        case rel =>
          refine ⟨k + 1, a', c', r ++ [x], by omega, by go_num, by simp, ?_, HO.out, HG.out⟩
          rw [grams_take _ _ _ (by rw [HSL.out]; exact hle), ← HR.out, ← HX.out]
        case measure => simp [intOf]; omega
      · obtain rfl : k = n := by omega
        have HALL := Lib.hid (show r = gramsL s.data.toList m by
          have h := HR.out
          rw [grams_all _ _ _ (by rw [HSL.out]; have := HN.out; omega)] at h
          exact h)
        go_wp2_with (go_at_call 62; (refine (sort_own w.heap.size a c r _ HOWN.out (by omega)).mono ?_); rintro e w3 ⟨rfl, ho3, hg3⟩; have HO3 := Lib.hid ho3; have HG3 := Lib.hid (HB.out.grown hg3 HB.out.size (fun k hk => (World.ownsRow.lt HOWN.out k hk).1)); clear ho3 hg3)
        go_ret
        have e1 : (sortL r).length = r.length := sortL_length r
        rw [← HALL.out]
        exact ⟨a, c, by rw [e1]; rfl, by rw [e1]; exact HO3.out, HG3.out⟩

theorem qg_impl (s : ByteArray) (q : Int) (w : World) (hs : s.size ≤ 3000000) (hq0 : -9223372036854775808 ≤ q) (hq1 : q ≤ 9223372036854775807) :
    Calls Tryd.prog 31 #[.string s, .int .i64 q] w (GivesS w (qgR s.data.toList q)) := by
  by_cases hq : 1 ≤ q ∧ q ≤ 3
  · obtain ⟨m, rfl⟩ := Int.eq_ofNat_of_zero_le (show 0 ≤ q by omega)
    exact qg_impl_yes s m w hs (by omega) (by omega)
  · exact qg_impl_no s q w hs hq hq0 hq1

theorem qgrams_impl (s : ByteArray) (q : Int) (w : World) (hs : s.size ≤ 1048576) (hq0 : -9223372036854775808 ≤ q) (hq1 : q ≤ 9223372036854775807) :
    Calls Tryd.prog 31 #[.string s, .int .i64 q] w (GivesS w (qgramsR s.data.toList q)) := qg_impl s q w (by omega) hq0 hq1

end Go.Proofs.YtggohfinkpppkabDoor
