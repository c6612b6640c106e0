/-
  Splitting and joining, in plain lists. By an AI agent.
-/
import Derived.Test.YtknkhljegmielaaDoorGPlain
import Derived.Lib.Join
import Derived.Lib.Split
namespace Go.Proofs.YtknkhljegmielaaDoor
open Go.RowKit
set_option linter.unusedVariables false

theorem ix_none {c : UInt8} : ∀ {s : Str}, c ∉ s → Lib.index s [c] = -1
  | [], _ => rfl
  | b :: s, h => by
    have h1 := ix_none (c := c) (s := s) (fun e => h (List.mem_cons_of_mem _ e))
    have h2 : c ≠ b := fun e => h (by rw [e]; exact List.mem_cons_self ..)
    have h3 : ([c] : Str).isPrefixOf (b :: s) = false := by simp [List.isPrefixOf, h2]
    rw [Lib.index, h3, h1]
    rfl
theorem ix_at {c : UInt8} (y : Str) : ∀ {x : Str}, c ∉ x → Lib.index (x ++ c :: y) [c] = (x.length : Nat)
  | [], _ => by
    have h3 : ([c] : Str).isPrefixOf (c :: y) = true := by simp [List.isPrefixOf]
    rw [List.nil_append, Lib.index, h3]
    rfl
  | b :: x, h => by
    have h1 := ix_at y (c := c) (x := x) (fun e => h (List.mem_cons_of_mem _ e))
    have h2 : c ≠ b := fun e => h (by rw [e]; exact List.mem_cons_self ..)
    have h3 : ([c] : Str).isPrefixOf (b :: (x ++ c :: y)) = false := by simp [List.isPrefixOf, h2]
    rw [List.cons_append, Lib.index, h3, h1]
    have h4 : ¬ ((x.length : Nat) : Int) = -1 := by omega
    simp [h4]
theorem first_of (c : UInt8) : ∀ s : Str, c ∉ s ∨ ∃ x y, s = x ++ c :: y ∧ c ∉ x
  | [] => .inl (by simp)
  | b :: s => by
    by_cases hb : c = b
    · exact .inr ⟨[], s, by rw [hb]; rfl, by simp⟩
    · rcases first_of c s with h | ⟨x, y, rfl, h⟩
      · exact .inl (by simp [hb, h])
      · exact .inr ⟨b :: x, y, rfl, by simp [hb, h]⟩

theorem tail_nil (c : UInt8) : Lib.joinTail [c] [] = [] := rfl
theorem tail_cons (c : UInt8) (y : Str) (L : List Str) : Lib.joinTail [c] (y :: L) = c :: (y ++ Lib.joinTail [c] L) := by simp [Lib.joinTail]

theorem split_back (c : UInt8) : ∀ (k : Nat) (s : Str), ∃ x L, Lib.splitK [c] 0 k s = x :: L ∧ s = x ++ Lib.joinTail [c] L
  | 0, s => ⟨s, [], rfl, by simp [Lib.joinTail]⟩
  | k + 1, s => by
    rcases first_of c s with h | ⟨x, y, rfl, h⟩
    · refine ⟨s, [], ?_, by simp [Lib.joinTail]⟩
      rw [Lib.splitK, ix_none h]
      rfl
    · obtain ⟨z, L, h1, h2⟩ := split_back c k y
      refine ⟨x, z :: L, ?_, by rw [tail_cons, ← h2]⟩
      have h4 : ¬ ((x.length : Nat) : Int) = -1 := by omega
      rw [Lib.splitK, ix_at y h, ← h1]
      simp [h4]
theorem split_fwd (c : UInt8) : ∀ (L : List Str) (k : Nat) (x : Str), L.length ≤ k → c ∉ x → (∀ y ∈ L, c ∉ y) → Lib.splitK [c] 0 k (x ++ Lib.joinTail [c] L) = x :: L
  | [], k, x, _, hx, _ => by
    rw [tail_nil, List.append_nil]
    cases k with
    | zero => rfl
    | succ k => rw [Lib.splitK, ix_none hx]; rfl
  | y :: L, k, x, hk, hx, hL => by
    obtain ⟨k, rfl⟩ : ∃ k', k = k' + 1 := ⟨k - 1, by simp at hk; omega⟩
    have h1 := split_fwd c L k y (by simp at hk; omega) (hL y (List.mem_cons_self ..)) (fun z hz => hL z (List.mem_cons_of_mem _ hz))
    have h4 : ¬ ((x.length : Nat) : Int) = -1 := by omega
    rw [tail_cons, Lib.splitK, ix_at _ hx, ← h1]
    simp [h4]

theorem cut_at (c : UInt8) {x : Str} (y : Str) (h : c ∉ x) : Lib.cut (x ++ c :: y) [c] = (x, y, true) := by
  have h4 : (0 : Int) ≤ ((x.length : Nat) : Int) := by omega
  unfold Lib.cut
  rw [ix_at y h, if_pos h4]
  simp
theorem cut_not (c : UInt8) {s : Str} (h : c ∉ s) : Lib.cut s [c] = (s, [], false) := by
  unfold Lib.cut
  rw [ix_none h, if_neg (by decide)]

theorem fold_off (c : UInt8) : ∀ (l : Str) (P : List Str) (q : Str), c ∉ l → l.foldl (kStep c) (P, q) = (P, q ++ l)
  | [], P, q, _ => by simp
  | b :: l, P, q, h => by
    have h2 : b ≠ c := fun e => h (by rw [e]; exact List.mem_cons_self ..)
    have h1 := fold_off c l P (q ++ [b]) (fun e => h (List.mem_cons_of_mem _ e))
    rw [List.foldl_cons]
    unfold kStep at h1 ⊢
    rw [if_neg h2, h1]
    simp
theorem fold_tail (c : UInt8) : ∀ (L : List Str) (P : List Str) (q : Str), (∀ y ∈ L, c ∉ y) → ((Lib.joinTail [c] L).foldl (kStep c) (P, q)).1 ++ [((Lib.joinTail [c] L).foldl (kStep c) (P, q)).2] = P ++ q :: L
  | [], P, q, _ => by simp [Lib.joinTail]
  | y :: L, P, q, h => by
    have h1 := fold_tail c L (P ++ [q]) y (fun z hz => h z (List.mem_cons_of_mem _ hz))
    have e : kStep c (P, q) c = (P ++ [q], []) := by unfold kStep; rw [if_pos rfl]
    rw [tail_cons, List.foldl_cons, e, List.foldl_append, fold_off c y _ _ (h y (List.mem_cons_self ..)), List.nil_append, h1]
    simp
theorem cutL_fwd (c : UInt8) (x : Str) (L : List Str) (hx : c ∉ x) (hL : ∀ y ∈ L, c ∉ y) : cutL c (x ++ Lib.joinTail [c] L) = x :: L := by
  unfold cutL kS
  rw [List.foldl_append, fold_off c x _ _ hx, List.nil_append, fold_tail c L [] x hL]
  rfl
theorem cutL_cons (c : UInt8) (s : Str) : ∃ x L, cutL c s = x :: L := by
  cases h : cutL c s with
  | nil => unfold cutL at h; simp at h
  | cons x L => exact ⟨x, L, rfl⟩
theorem kS_parts (c : UInt8) (s : Str) : (∀ y ∈ (kS c s).1, y.length ≤ s.length) ∧ (kS c s).2.length ≤ s.length := by
  induction s using snoc_ind with
  | h0 => simp [kS]
  | h1 s b ih =>
    obtain ⟨h1, h2⟩ := ih
    by_cases hb : b = c
    · rw [kS_at _ _ _ hb]
      refine ⟨fun y hy => ?_, by simp⟩
      simp only [List.mem_append, List.mem_singleton] at hy
      rw [List.length_append]
      rcases hy with hy | rfl
      · have := h1 y hy; omega
      · omega
    · rw [kS_off _ _ _ hb]
      refine ⟨fun y hy => ?_, by simp; exact h2⟩
      have := h1 y hy
      rw [List.length_append]
      omega
theorem cutL_part {c : UInt8} {s y : Str} (h : y ∈ cutL c s) : y.length ≤ s.length := by
  unfold cutL at h
  simp only [List.mem_append, List.mem_singleton] at h
  rcases h with h | rfl
  · exact (kS_parts c s).1 y h
  · exact (kS_parts c s).2
theorem cutL_nil (c : UInt8) : cutL c [] = [[]] := rfl

theorem itoa_digits {k : Int} (h : 1 ≤ k) {b : UInt8} (hb : b ∈ Lib.itoa k) : 48 ≤ b.toNat ∧ b.toNat ≤ 57 := by
  obtain ⟨a, rfl⟩ : ∃ a : Nat, k = a := ⟨k.toNat, by omega⟩
  rw [Lib.itoa_nonneg] at hb
  exact dec_all a b hb
theorem itoa_ne {k : Int} (h : 1 ≤ k) : Lib.itoa k ≠ [] := by
  obtain ⟨a, rfl⟩ : ∃ a : Nat, k = a := ⟨k.toNat, by omega⟩
  rw [Lib.itoa_nonneg]
  exact dec_ne a
theorem itoa_off {k : Int} (h : 1 ≤ k) {c : UInt8} (hc : c.toNat < 48 ∨ 57 < c.toNat) : c ∉ Lib.itoa k := fun hm => by
  have := itoa_digits h hm
  omega

end Go.Proofs.YtknkhljegmielaaDoor
