/-
  What impl.sortedKeys does at a map with strings as keys that holds any values. By an AI agent.
-/
import Derived.Test.YtebddnjccmaimaaGreatDoorVMap
import Derived.Test.YtebddnjccmaimaaGreatDoorGSet
namespace Go.Proofs.YtebddnjccmaimaaGreatDoor
open Go.RowKit Go.Maps Go.Sort
set_option linter.unusedVariables false

set_option maxRecDepth 100000 in
set_option maxHeartbeats 1000000 in
theorem sorted_mk (b n : Nat) (F : Str → Option Value) (ls : List Str) (w : World) (hn : n ≤ 9000000) (hset : SMap w b n F) (hls : ∀ x, x ∈ ls ↔ (F x).isSome = true) :
    Calls Tryz.prog 51 #[.map (some b)] w (GivesS w (setL ls)) := by
  obtain ⟨D, hown, hhas, hat0⟩ := hset
  clear hat0
  obtain ⟨i0, hi, hz0, hz1, hz2⟩ := info_parts info_str
  have hbl := hown.lt
  have hsz := size_own hown
  have HHAS := Lib.hid (fun x => show Maps.has D (.string x) = decide (x ∈ ls) by
    rw [hhas x]
    cases h : (F x).isSome with
    | true => exact (decide_eq_true ((hls x).2 h)).symm
    | false => exact (decide_eq_false (fun e => by rw [(hls x).1 e] at h; cases h)).symm)
  clear hhas hls
  go_enter Tryz.func51, Tryz.ntmps51
  go_wp2_with (first
    | (at_len; refine wpList_len_own _ rfl _ 66 rfl 9 40 Tryz.underlying66 _ b n _ rfl hown ?_)
    | (at_make; refine wpList_make_own _ rfl _ _ 31 rfl w.heap.size 9 i0 (.string ⟨#[]⟩) 1 Tryz.underlying31 hi hz0 hz1 _ _ _ (Maps.size D) rfl rfl rfl (by rw [hz2]; omega) (by unfold maxLen; omega) (Nat.le_refl _) ?_; intro w1 hrow1 hg1)
    | (at_range; refine wpList_range_own _ rfl _ 66 rfl 9 40 keyS Tryz.underlying66 _ b n _ rfl (hown.kept hg1 (by simp)) ?_; intro w0 hrg0 hg0 hs0)
    | go_in)
  go_frame
  go_loopw [3] (fun v wr => ∃ (left : Lit → Bool) (cnt : Nat) (ss : List (List UInt8)), wr.ranges Tryz.prog 9 heldE b w1.heap.size n D left cnt ∧ ss.length + cnt ≤ Maps.size D ∧
      wr.ownsRow w.heap.size 9 1 v ss.length (ss.map encStr) ∧ v ≠ .slice none 0 0 ∧ Collected D left ss ∧ Below w.heap.size w wr)
    (fun _ wr => wr.rangeLeft b w1.heap.size)
  case atStart =>
    exact ⟨_, _, [], hrg0, by simp, hrow1.kept hg0 (Or.inr (by simp [Value.ownBlock])), by simp, Collected.start D,
      ((Below.refl _ _).grown hg1 (Nat.le_refl _) (fun j hj => by cases hj)).grown hg0 hg1.size (fun j hj => by cases hj)⟩
  case round =>
    obtain ⟨left, cnt, ss, hrg, hcs, hrow, hnn, hC, hnx⟩ := hrel
    go_wp2_with (first
      | (at_next; refine wpList_next_ranges _ rfl _ rfl 9 keyS heldE encStr (fun v : Value => v) (fun key kl hk => by obtain ⟨x, hx, _⟩ := Maps.keyOf_str Tryz.underlying9 hk; exact ⟨x, hx⟩) (fun v y hv => ⟨v, rfl⟩) b w1.heap.size n _ _ _ rfl hrg ?_ ?_)
      | go_in)
    · -- nothing is left: the slice is sorted and handed back
      intro hc0 hl0
      rcases hrow.2 with ⟨hnil, _⟩ | ⟨g, cap, cur, rfl, hbase, hb, h1, h2, h3, h4⟩
      · exact absurd hnil hnn
      have hH : Holds encStr wr g 0 ss.toArray := holds_of_block hb (by simpa using h4)
      have hgl : g < wr.heap.size := (Array.getElem?_eq_some_iff.1 hb).1
      have hc := Tryz.slices_Sort_string g 0 cap ss wr hH hgl (by omega)
      have HC := Lib.hid hC
      have HN := Lib.hid hnx
      have HB := Lib.hid hb
      have HP := Lib.hid (And.intro hbase (And.intro h1 (And.intro h2 h3)))
      go_wp2_with (go_at_call 87; refine hc.mono ?_; rintro e w' ⟨rfl, nn, os, rfl⟩)
      go_ret
      have e1 : ss.mergeSort leB = setL ls := ms_set HC.out.1 (fun x => by
        rw [HC.out.2 x, hl0, HHAS.out x]
        simp)
      have e2 : ss.length = (setL ls).length := by rw [← e1]; simp
      have ho := ownsRow_sorted (n := nn) (os := os) (ts := ss.mergeSort leB) (by simp) HP.out.1 HB.out HP.out.2.1 HP.out.2.2.1 HP.out.2.2.2
      rw [e1, e2] at ho
      rw [e2]
      have e3 : ss.mergeSort (fun x y => decide (x ≤ y)) = setL ls := e1
      rw [e3]
      exact ⟨_, cap, rfl, ho, HN.out.grown (grownBy_sorted _) HN.out.size (fun j hj => by cases hj; exact HP.out.1)⟩
    · -- an entry has come: its key goes to the slice's end
      intro x c kl yd yp w2 cnt2 hkey hlk hv hat hrg2 hlt hg2 hs2 hen
      obtain ⟨x', ex, rfl, _⟩ := Maps.keyOf_str Tryz.underlying9 hkey
      obtain rfl : x = x' := encStr_inj ex
      have hrow2 := hrow.kept hg2 (Or.inr (row_ne_iter hrow hrg).symm)
      clear hs2
      go_wp2_with (first
        | (at_builtin; refine wpList_append_own _ rfl _ _ 31 rfl w.heap.size 9 i0 (.string ⟨#[]⟩) 1 16 Tryz.underlying31 hi hz0 hz1 hz2 rfl (by decide) _ _ _ rfl (hrow2.alloc _) ⟨w2.heap.size, 0, none⟩ 1 1 [encStr x] rfl rfl (cell_one_new _ _ _) (by simp [Value.oneCell', encStr]) (by unfold maxLen at *; omega) (by omega) (by have := hnx.size; have := hg2.size; simp; omega) ?_; intro v' w3 hown' hg3 hnil3; go_frame)
        | go_in)
      have hrg3 := (hrg2.alloc _).kept hg3 (row_ne_low hrow2 hbl) (row_ne_iter hrow2 hrg2)
      go_roundw
      case rel =>
        refine ⟨_, cnt2, ss ++ [x], hrg3, by simp; omega, by simpa using hown', fun hv' => by have := (hnil3.1 hv').2; omega, hC.step hlk hat, ?_⟩
        exact ((hnx.grown hg2 hnx.size (fun j hj => by cases hj; exact hg1.size)).alloc (by have := hnx.size; have := hg2.size; omega) _).grown hg3 (by have := hnx.size; have := hg2.size; simp; omega) (fun j hj => (hrow2.lt j hj).1)
      case measure => rw [hrg3.left_eq, hrg.left_eq]; exact hlt

end Go.Proofs.YtebddnjccmaimaaGreatDoor
