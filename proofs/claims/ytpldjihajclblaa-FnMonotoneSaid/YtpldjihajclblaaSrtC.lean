/-
  slices.Sort, slices.Compact and slices.Clone at a slice of integers of the call's own. By an AI agent.
-/
import Derived.Test.YtpldjihajclblaaPutI
import Derived.Test.YtpldjihajclblaaShelf
import Derived.Sort.OwnSortedInts
namespace Go.Proofs.Ytpldjihajclblaa
open Go.RowKit Go.Sort
set_option linter.unusedVariables false

theorem OwnI.cut {w : World} {base : Nat} {a : Option Addr} {n cap k : Nat} {l : List Int} (h : OwnI w base (.slice a n cap) l) (hk : k ≤ l.length) : OwnI w base (.slice a k cap) (l.take k) := by
  obtain ⟨h1, h2⟩ := h
  have hl : (l.take k).length = k := by rw [List.length_take]; omega
  refine ⟨by simp, ?_⟩
  rcases h2 with ⟨hv, h0⟩ | ⟨g, cap', cur, hv, hb, hg, hn, hc, hcs, ht⟩
  · simp only [Value.slice.injEq] at hv
    obtain ⟨rfl, rfl, rfl⟩ := hv
    have hk0 : k = 0 := by omega
    subst hk0
    exact .inl ⟨rfl, by simp⟩
  · simp only [Value.slice.injEq] at hv
    obtain ⟨rfl, rfl, rfl⟩ := hv
    refine .inr ⟨g, cap, cur, by rw [hl], hb, hg, by omega, hc, hcs, ?_⟩
    rw [hl, List.map_take, ← ht, List.take_take]
    congr 1
    omega

theorem sort_own (base g n cap : Nat) (l : List Int) (w : World) (hown : OwnI w base (.slice (some ⟨g, 0, none⟩) n cap) l) (hn : l.length = n) (hl : l.length ≤ 9000000) :
    Calls Try.prog 36 #[.slice (some ⟨g, 0, none⟩) n cap] w fun e w' => e = .returned (.tuple #[]) ∧ OwnI w' base (.slice (some ⟨g, 0, none⟩) n cap) (l.mergeSort fun x y => decide (x ≤ y)) ∧ w.grownBy w' (some g) := by
  subst hn
  rcases hown.2 with ⟨hv, _⟩ | ⟨g', cap', cur, hv, hb, hg, hn, hc, hcs, ht⟩
  · cases hv
  · simp only [Value.slice.injEq, Option.some.injEq, Addr.mk.injEq, and_true, true_and] at hv
    obtain ⟨rfl, rfl⟩ := hv
    rw [Nat.mul_one] at ht
    have hH : Holds (Value.int .i64) w g 0 l.toArray := holds_of_blockI hg ht
    refine (Try.slices_Sort_int g 0 cap l w hH (Array.getElem?_eq_some_iff.1 hg).1 (by omega)).mono ?_
    rintro e w' ⟨rfl, nn, os, rfl⟩
    have ho := ownsRow_sortedI (n := nn) (os := os) (ts := l.mergeSort fun x y => decide (x ≤ y)) (by simp) hb hg hn hc hcs
    refine ⟨rfl, ?_, grownBy_sortedI _⟩
    unfold OwnI
    rw [List.length_mergeSort]
    exact ho

theorem compact_own (base g n m cap : Nat) (l : List Int) (w : World) (hown : OwnI w base (.slice (some ⟨g, 0, none⟩) n cap) l) (hn : l.length = n) (hl : l.length ≤ 9000000) (hm : (Lib.compact l).length = m) :
    Calls Try.prog 37 #[.slice (some ⟨g, 0, none⟩) n cap] w fun e w' => e = .returned (.slice (some ⟨g, 0, none⟩) m cap) ∧ OwnI w' base (.slice (some ⟨g, 0, none⟩) m cap) (Lib.compact l) ∧ w.grownBy w' (some g) := by
  subst hn hm
  rcases hown.2 with ⟨hv, _⟩ | ⟨g', cap', cur, hv, hb, hg, hn, hc, hcs, ht⟩
  · cases hv
  · simp only [Value.slice.injEq, Option.some.injEq, Addr.mk.injEq, and_true, true_and] at hv
    obtain ⟨rfl, rfl⟩ := hv
    rw [Nat.mul_one] at ht
    have hH : Holds (Value.int .i64) w g 0 l.toArray := holds_of_blockI hg ht
    have hle := Lib.compact_length_le l
    refine (Try.slices_Compact_int g 0 cap l w hH (by omega) hn).mono ?_
    rintro e w' ⟨rfl, nn, rfl⟩
    have ho := ownsRow_sortedI (n := nn) (os := #[]) (ts := Lib.compact l ++ List.replicate (l.length - (Lib.compact l).length) 0) (ss := l) (by simp; omega) hb hg hn hc hcs
    have hgb := grownBy_sortedI (w := w) (g := g) (n := nn) (os := #[]) (Lib.compact l ++ List.replicate (l.length - (Lib.compact l).length) 0).toArray
    rw [grow_empty] at ho hgb
    refine ⟨rfl, ?_, hgb⟩
    have h2 : OwnI (putRow (Value.int .i64) (Sort.ahead w nn) g 0 (Lib.compact l ++ List.replicate (l.length - (Lib.compact l).length) 0).toArray) base (.slice (some ⟨g, 0, none⟩) l.length cap) (Lib.compact l ++ List.replicate (l.length - (Lib.compact l).length) 0) := by
      unfold OwnI
      have hlen : (Lib.compact l ++ List.replicate (l.length - (Lib.compact l).length) 0).length = l.length := by simp; omega
      rw [hlen]
      exact ho
    have h3 := h2.cut (k := (Lib.compact l).length) (by simp)
    rw [List.take_left] at h3
    exact h3

theorem clone_own (b off n c : Nat) (l : List Int) (w : World) (hin : InI w (some ⟨b, off, none⟩) l) (hn : l.length = n) (hl : l.length ≤ 9000000) (h0 : 0 < l.length) :
    Calls Try.prog 43 #[.slice (some ⟨b, off, none⟩) n c] w fun e w' => ∃ a' c', e = .returned (.slice a' n c') ∧ OwnI w' w.heap.size (.slice a' n c') l ∧ Below w.heap.size w w' := by
  subst hn
  obtain ⟨b', off', e, hb, hc⟩ := hin h0
  injection e with e
  injection e with e1 e2
  subst e1 e2
  refine (Try.slices_Clone_int b off l.length c l w (Nat.le_refl _) (by omega) (fun j hj => hc j _ (by rw [List.getElem?_eq_getElem hj, List.getD_eq_getElem?_getD, List.getElem?_eq_getElem hj]; rfl))).mono ?_
  rintro e w' ⟨v', rfl, ho, _, hbl⟩
  rw [List.take_length] at ho
  have h1 : OwnI w' w.heap.size v' l := ho
  obtain ⟨a', c', rfl⟩ := h1.shape
  exact ⟨a', c', rfl, h1, hbl⟩
theorem index_own (b off n c : Nat) (l : List Int) (x : Int) (w : World) (hin : InI w (some ⟨b, off, none⟩) l) (hn : l.length = n) (hl : l.length ≤ 9000000) (h0 : 0 < l.length) :
    Calls Try.prog 44 #[.slice (some ⟨b, off, none⟩) n c, .int .i64 x] w fun e w' => e = .returned (.int .i64 (Lib.idxOf l x)) ∧ w' = w := by
  subst hn
  obtain ⟨b', off', e, hb, hc⟩ := hin h0
  injection e with e
  injection e with e1 e2
  subst e1 e2
  have h := Try.slices_Index_int b off l.length c l x w (Nat.le_refl _) (by omega) (fun j hj => hc j _ (by rw [List.getElem?_eq_getElem hj, List.getD_eq_getElem?_getD, List.getElem?_eq_getElem hj]; rfl))
  rw [List.take_length] at h
  exact h

end Go.Proofs.Ytpldjihajclblaa
