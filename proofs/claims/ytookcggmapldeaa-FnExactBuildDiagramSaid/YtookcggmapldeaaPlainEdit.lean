/-
  Plain facts on edit distances, without the program: the least cost by remaining parts, alignments, reversal, the triangle inequality, the script. By an AI agent.
-/
import Derived.WalkKit
namespace Go.Proofs.Ytookcggmapldeaa

/-- the least cost of a script from a to b; sw: adjacent bytes may be exchanged -/
def lev (sw : Bool) : List UInt8 → List UInt8 → Nat
  | [], b => b.length
  | _ :: a, [] => a.length + 1
  | x :: a, y :: b =>
    let m := if x = y then lev sw a b else 1 + min (min (lev sw a b) (lev sw a (y :: b))) (lev sw (x :: a) b)
    if sw = true ∧ a.head? = some y ∧ b.head? = some x then min m (1 + lev sw a.tail b.tail) else m
termination_by a b => a.length + b.length
decreasing_by all_goals (simp <;> omega)

/-- alignments of two byte strings with their cost -/
inductive Al (sw : Bool) : List UInt8 → List UInt8 → Nat → Prop
  | nil : Al sw [] [] 0
  | keep (x : UInt8) {a b : List UInt8} {n : Nat} : Al sw a b n → Al sw (x :: a) (x :: b) n
  | rep (x y : UInt8) {a b : List UInt8} {n : Nat} : Al sw a b n → Al sw (x :: a) (y :: b) (n + 1)
  | del (x : UInt8) {a b : List UInt8} {n : Nat} : Al sw a b n → Al sw (x :: a) b (n + 1)
  | ins (y : UInt8) {a b : List UInt8} {n : Nat} : Al sw a b n → Al sw a (y :: b) (n + 1)
  | exch (x y : UInt8) {a b : List UInt8} {n : Nat} : sw = true → Al sw a b n → Al sw (x :: y :: a) (y :: x :: b) (n + 1)

theorem lev_nil (sw : Bool) (b : List UInt8) : lev sw [] b = b.length := by rw [lev]
theorem lev_nil' (sw : Bool) (a : List UInt8) : lev sw a [] = a.length := by cases a <;> rw [lev] <;> rfl

theorem Al.cast {sw : Bool} {a b : List UInt8} {n m : Nat} (h : Al sw a b n) (e : n = m) : Al sw a b m := e ▸ h

theorem Al.lens {sw : Bool} {a b : List UInt8} {n : Nat} (h : Al sw a b n) : a.length ≤ b.length + n ∧ b.length ≤ a.length + n := by
  induction h <;> simp_all <;> omega

theorem Al.symm {sw : Bool} {a b : List UInt8} {n : Nat} (h : Al sw a b n) : Al sw b a n := by
  induction h with
  | nil => exact .nil
  | keep x _ ih => exact .keep x ih
  | rep x y _ ih => exact .rep y x ih
  | del x _ ih => exact .ins x ih
  | ins y _ ih => exact .del y ih
  | exch x y e _ ih => exact .exch y x e ih

theorem Al.append {sw : Bool} {a b : List UInt8} {n : Nat} (h : Al sw a b n) {a' b' : List UInt8} {m : Nat} (h2 : Al sw a' b' m) : Al sw (a ++ a') (b ++ b') (n + m) := by
  induction h with
  | nil => simpa using h2
  | keep x _ ih => exact .keep x ih
  | rep x y _ ih => exact (Al.rep x y ih).cast (by omega)
  | del x _ ih => exact (Al.del x ih).cast (by omega)
  | ins y _ ih => exact (Al.ins y ih).cast (by omega)
  | exch x y e _ ih => exact (Al.exch x y e ih).cast (by omega)

theorem Al.rev {sw : Bool} {a b : List UInt8} {n : Nat} (h : Al sw a b n) : Al sw a.reverse b.reverse n := by
  induction h with
  | nil => exact .nil
  | keep x _ ih => simpa using ih.append (.keep x .nil)
  | rep x y _ ih => simpa using ih.append (.rep x y .nil)
  | del x _ ih => simpa using ih.append (.del x .nil)
  | ins y _ ih => simpa using ih.append (.ins y .nil)
  | exch x y e _ ih => simpa using ih.append (.exch y x e .nil)

theorem Al.all_ins (sw : Bool) (b : List UInt8) : Al sw [] b b.length := by
  induction b with
  | nil => exact .nil
  | cons y b ih => exact .ins y ih
theorem Al.all_del (sw : Bool) (a : List UInt8) : Al sw a [] a.length := (Al.all_ins sw a).symm

theorem lev_cons (sw : Bool) (x y : UInt8) (a b : List UInt8) : lev sw (x :: a) (y :: b) =
    (if sw = true ∧ a.head? = some y ∧ b.head? = some x then
      min (if x = y then lev sw a b else 1 + min (min (lev sw a b) (lev sw a (y :: b))) (lev sw (x :: a) b)) (1 + lev sw a.tail b.tail)
    else (if x = y then lev sw a b else 1 + min (min (lev sw a b) (lev sw a (y :: b))) (lev sw (x :: a) b))) := by
  rw [lev]

theorem head_tail {a : List UInt8} {y : UInt8} (h : a.head? = some y) : a = y :: a.tail := by
  cases a with
  | nil => simp at h
  | cons z a => simp at h; rw [h]; rfl

theorem lev_al (sw : Bool) : ∀ (N : Nat) (a b : List UInt8), a.length + b.length ≤ N → Al sw a b (lev sw a b) := by
  intro N
  induction N with
  | zero =>
    intro a b h
    have h1 : a = [] := List.eq_nil_of_length_eq_zero (by omega)
    have h2 : b = [] := List.eq_nil_of_length_eq_zero (by omega)
    subst h1 h2
    rw [lev_nil]; exact .nil
  | succ N ih =>
    intro a b h
    match a, b, h with
    | [], b, h => rw [lev_nil]; exact Al.all_ins sw b
    | x :: a, [], h => rw [lev_nil']; exact Al.all_del sw _
    | x :: a, y :: b, h =>
      simp only [List.length_cons] at h
      have hm : Al sw (x :: a) (y :: b) (if x = y then lev sw a b else 1 + min (min (lev sw a b) (lev sw a (y :: b))) (lev sw (x :: a) b)) := by
        split
        · rename_i e; subst e; exact .keep x (ih a b (by omega))
        · have h1 := Al.rep x y (ih a b (by omega))
          have h2 := Al.del x (ih a (y :: b) (by simp; omega))
          have h3 := Al.ins y (ih (x :: a) b (by simp; omega))
          by_cases c1 : lev sw a b ≤ lev sw a (y :: b)
          · by_cases c2 : lev sw a b ≤ lev sw (x :: a) b
            · exact h1.cast (by omega)
            · exact h3.cast (by omega)
          · by_cases c2 : lev sw a (y :: b) ≤ lev sw (x :: a) b
            · exact h2.cast (by omega)
            · exact h3.cast (by omega)
      rw [lev_cons]
      split
      · rename_i e
        obtain ⟨e1, e2, e3⟩ := e
        have ha := head_tail e2
        have hb := head_tail e3
        have l1 : a.tail.length ≤ a.length := by simp
        have l2 : b.tail.length ≤ b.length := by simp
        have hs : Al sw (x :: a) (y :: b) (1 + lev sw a.tail b.tail) := by
          have := Al.exch x y e1 (ih a.tail b.tail (by omega))
          rw [← ha, ← hb] at this
          exact this.cast (by omega)
        rcases Nat.le_total (if x = y then lev sw a b else 1 + min (min (lev sw a b) (lev sw a (y :: b))) (lev sw (x :: a) b)) (1 + lev sw a.tail b.tail) with hc | hc
        · rw [Nat.min_eq_left hc]; exact hm
        · rw [Nat.min_eq_right hc]; exact hs
      · exact hm

theorem Al.of_lev (sw : Bool) (a b : List UInt8) : Al sw a b (lev sw a b) := lev_al sw _ a b (Nat.le_refl _)

/-- an alignment less the first byte of a -/
theorem Al.drop_one {sw : Bool} {a0 b : List UInt8} {n : Nat} (h : Al sw a0 b n) : ∀ x a, a0 = x :: a → ∃ m, m ≤ n + 1 ∧ Al sw a b m := by
  induction h with
  | nil => intro x a e; cases e
  | keep z h _ => intro x a e; cases e; exact ⟨_, Nat.le_refl _, .ins z h⟩
  | rep z y h _ => intro x a e; cases e; exact ⟨_, by omega, .ins y h⟩
  | del z h _ => intro x a e; cases e; exact ⟨_, by omega, h⟩
  | ins y h ih => intro x a e; obtain ⟨m, hm, hh⟩ := ih x a e; exact ⟨_, by omega, .ins y hh⟩
  | exch z y e1 h _ => intro x a e; cases e; exact ⟨_, by omega, .keep y (.ins z h)⟩

theorem lev_le_m (sw : Bool) (x y : UInt8) (a b : List UInt8) : lev sw (x :: a) (y :: b) ≤ (if x = y then lev sw a b else 1 + min (min (lev sw a b) (lev sw a (y :: b))) (lev sw (x :: a) b)) := by
  rw [lev_cons]
  split
  · exact Nat.min_le_left _ _
  · exact Nat.le_refl _

theorem lev_min (sw : Bool) : ∀ (N : Nat) (a b : List UInt8), a.length + b.length ≤ N → ∀ n, Al sw a b n → lev sw a b ≤ n := by
  intro N
  induction N with
  | zero =>
    intro a b h n _
    have h1 : a = [] := List.eq_nil_of_length_eq_zero (by omega)
    have h2 : b = [] := List.eq_nil_of_length_eq_zero (by omega)
    subst h1 h2
    rw [lev_nil]; exact Nat.zero_le _
  | succ N ih =>
    intro a b h n hal
    cases hal with
    | nil => rw [lev_nil]; exact Nat.zero_le _
    | keep x hh =>
      simp only [List.length_cons] at h
      refine Nat.le_trans (lev_le_m _ _ _ _ _) ?_
      rw [if_pos rfl]
      exact ih _ _ (by omega) _ hh
    | rep x y hh =>
      simp only [List.length_cons] at h
      have h1 := ih _ _ (by omega) _ hh
      refine Nat.le_trans (lev_le_m _ _ _ _ _) ?_
      split <;> omega
    | @del x a b n hh =>
      simp only [List.length_cons] at h
      have h1 := ih _ _ (by omega) _ hh
      cases b with
      | nil => rw [lev_nil'] at h1 ⊢; simp; exact h1
      | cons y b =>
        refine Nat.le_trans (lev_le_m _ _ _ _ _) ?_
        split
        · obtain ⟨m, hm, h3⟩ := hh.symm.drop_one y b rfl
          simp only [List.length_cons] at h
          have := ih a b (by omega) m h3.symm
          omega
        · omega
    | @ins y a b n hh =>
      simp only [List.length_cons] at h
      have h1 := ih _ _ (by omega) _ hh
      cases a with
      | nil => rw [lev_nil] at h1 ⊢; simp; exact h1
      | cons x a =>
        refine Nat.le_trans (lev_le_m _ _ _ _ _) ?_
        split
        · obtain ⟨m, hm, h3⟩ := hh.drop_one x a rfl
          simp only [List.length_cons] at h
          have := ih a b (by omega) m h3
          omega
        · omega
    | @exch x y a b n e hh =>
      simp only [List.length_cons] at h
      have h1 := ih _ _ (by omega) _ hh
      rw [lev_cons, if_pos ⟨e, rfl, rfl⟩]
      refine Nat.le_trans (Nat.min_le_right _ _) ?_
      simp only [List.tail_cons]
      omega

theorem Al.lev_le {sw : Bool} {a b : List UInt8} {n : Nat} (h : Al sw a b n) : lev sw a b ≤ n := lev_min sw _ a b (Nat.le_refl _) n h

theorem lev_symm (sw : Bool) (a b : List UInt8) : lev sw a b = lev sw b a :=
  Nat.le_antisymm (Al.of_lev sw b a).symm.lev_le (Al.of_lev sw a b).symm.lev_le
theorem lev_rev (sw : Bool) (a b : List UInt8) : lev sw a.reverse b.reverse = lev sw a b := by
  refine Nat.le_antisymm (Al.of_lev sw a b).rev.lev_le ?_
  have h := (Al.of_lev sw a.reverse b.reverse).rev
  rw [List.reverse_reverse, List.reverse_reverse] at h
  exact h.lev_le
theorem lev_lens (sw : Bool) (a b : List UInt8) : a.length ≤ b.length + lev sw a b ∧ b.length ≤ a.length + lev sw a b := (Al.of_lev sw a b).lens
theorem al_most (sw : Bool) : ∀ a b : List UInt8, ∃ n, n ≤ max a.length b.length ∧ Al sw a b n
  | [], b => ⟨_, by simp, Al.all_ins sw b⟩
  | x :: a, [] => ⟨_, by simp, Al.all_del sw _⟩
  | x :: a, y :: b => by
    obtain ⟨n, hn, h⟩ := al_most sw a b
    exact ⟨_, by simp; omega, .rep x y h⟩
theorem lev_most (sw : Bool) (a b : List UInt8) : lev sw a b ≤ max a.length b.length := by
  obtain ⟨n, hn, h⟩ := al_most sw a b
  exact Nat.le_trans h.lev_le hn
theorem al_same (sw : Bool) : ∀ a : List UInt8, Al sw a a 0
  | [] => .nil
  | x :: a => .keep x (al_same sw a)
theorem lev_same (sw : Bool) (a : List UInt8) : lev sw a a = 0 := Nat.le_zero.1 (al_same sw a).lev_le
theorem al_zero {sw : Bool} {a b : List UInt8} {n : Nat} (h : Al sw a b n) : n = 0 → a = b := by
  induction h with
  | nil => intro _; rfl
  | keep x _ ih => intro e; rw [ih e]
  | _ => intro e; omega
theorem lev_zero {sw : Bool} {a b : List UInt8} : lev sw a b = 0 ↔ a = b := ⟨al_zero (Al.of_lev sw a b), fun e => e ▸ lev_same sw a⟩
theorem Al.more {a b : List UInt8} {n : Nat} (h : Al false a b n) : Al true a b n := by
  induction h with
  | nil => exact .nil
  | keep x _ ih => exact .keep x ih
  | rep x y _ ih => exact .rep x y ih
  | del x _ ih => exact .del x ih
  | ins y _ ih => exact .ins y ih
  | exch x y e _ ih => cases e
theorem lev_swap_le (a b : List UInt8) : lev true a b ≤ lev false a b := (Al.of_lev false a b).more.lev_le

theorem al_trans : ∀ (N : Nat) (a b c : List UInt8) (n m : Nat), a.length + b.length + c.length ≤ N → Al false a b n → Al false b c m → ∃ k, k ≤ n + m ∧ Al false a c k := by
  intro N
  induction N with
  | zero =>
    intro a b c n m h h1 h2
    have e1 : a = [] := List.eq_nil_of_length_eq_zero (by omega)
    have e2 : c = [] := List.eq_nil_of_length_eq_zero (by omega)
    subst e1 e2
    exact ⟨0, by omega, .nil⟩
  | succ N ih =>
    intro a b c n m h h1 h2
    cases h2 with
    | ins z h2 =>
      simp only [List.length_cons] at h
      obtain ⟨k, hk, hh⟩ := ih _ _ _ _ _ (by omega) h1 h2
      exact ⟨_, by omega, .ins z hh⟩
    | exch _ _ e _ => cases e
    | nil =>
      cases h1 with
      | nil => exact ⟨0, by omega, .nil⟩
      | del x h1 => exact ⟨_, by omega, .del x h1⟩
    | keep y h2 =>
      cases h1 with
      | keep _ h1 => simp only [List.length_cons] at h; obtain ⟨k, hk, hh⟩ := ih _ _ _ _ _ (by omega) h1 h2; exact ⟨_, by omega, .keep y hh⟩
      | rep x _ h1 => simp only [List.length_cons] at h; obtain ⟨k, hk, hh⟩ := ih _ _ _ _ _ (by omega) h1 h2; exact ⟨_, by omega, .rep x y hh⟩
      | del x h1 => simp only [List.length_cons] at h; obtain ⟨k, hk, hh⟩ := ih _ _ _ _ _ (by simp; omega) h1 (.keep y h2); exact ⟨_, by omega, .del x hh⟩
      | ins _ h1 => simp only [List.length_cons] at h; obtain ⟨k, hk, hh⟩ := ih _ _ _ _ _ (by omega) h1 h2; exact ⟨_, by omega, .ins y hh⟩
      | exch _ _ e _ => cases e
    | rep y z h2 =>
      cases h1 with
      | keep _ h1 => simp only [List.length_cons] at h; obtain ⟨k, hk, hh⟩ := ih _ _ _ _ _ (by omega) h1 h2; exact ⟨_, by omega, .rep y z hh⟩
      | rep x _ h1 => simp only [List.length_cons] at h; obtain ⟨k, hk, hh⟩ := ih _ _ _ _ _ (by omega) h1 h2; exact ⟨_, by omega, .rep x z hh⟩
      | del x h1 => simp only [List.length_cons] at h; obtain ⟨k, hk, hh⟩ := ih _ _ _ _ _ (by simp; omega) h1 (.rep y z h2); exact ⟨_, by omega, .del x hh⟩
      | ins _ h1 => simp only [List.length_cons] at h; obtain ⟨k, hk, hh⟩ := ih _ _ _ _ _ (by omega) h1 h2; exact ⟨_, by omega, .ins z hh⟩
      | exch _ _ e _ => cases e
    | del y h2 =>
      cases h1 with
      | keep _ h1 => simp only [List.length_cons] at h; obtain ⟨k, hk, hh⟩ := ih _ _ _ _ _ (by omega) h1 h2; exact ⟨_, by omega, .del y hh⟩
      | rep x _ h1 => simp only [List.length_cons] at h; obtain ⟨k, hk, hh⟩ := ih _ _ _ _ _ (by omega) h1 h2; exact ⟨_, by omega, .del x hh⟩
      | del x h1 => simp only [List.length_cons] at h; obtain ⟨k, hk, hh⟩ := ih _ _ _ _ _ (by simp; omega) h1 (.del y h2); exact ⟨_, by omega, .del x hh⟩
      | ins _ h1 => simp only [List.length_cons] at h; obtain ⟨k, hk, hh⟩ := ih _ _ _ _ _ (by omega) h1 h2; exact ⟨_, by omega, hh⟩
      | exch _ _ e _ => cases e

theorem lev_triangle (a c b : List UInt8) : lev false a b ≤ lev false a c + lev false c b := by
  obtain ⟨k, hk, h⟩ := al_trans _ a c b _ _ (Nat.le_refl _) (Al.of_lev false a c) (Al.of_lev false c b)
  exact Nat.le_trans h.lev_le hk

/-! the recurrences that both tables use -/

theorem lev_eqf {x y : UInt8} {a b : List UInt8} (h : x = y) : lev false (x :: a) (y :: b) = lev false a b := by
  rw [lev_cons, if_neg (by simp), if_pos h]
theorem lev_nef {x y : UInt8} {a b : List UInt8} (h : x ≠ y) : lev false (x :: a) (y :: b) = 1 + min (min (lev false a b) (lev false a (y :: b))) (lev false (x :: a) b) := by
  rw [lev_cons, if_neg (by simp), if_neg h]

/-! the script -/

def scr : List UInt8 → List UInt8 → List UInt8
  | [], [] => []
  | [], y :: b => 43 :: y :: scr [] b
  | _ :: a, [] => 45 :: scr a []
  | x :: a, y :: b =>
    if x = y then 61 :: scr a b
    else if lev false (x :: a) (y :: b) = 1 + lev false a b then 126 :: y :: scr a b
    else if lev false (x :: a) (y :: b) = 1 + lev false a (y :: b) then 45 :: scr a (y :: b)
    else 43 :: y :: scr (x :: a) b
termination_by a b => a.length + b.length
decreasing_by all_goals (simp <;> omega)

theorem scr_nil : scr [] [] = [] := by rw [scr]
theorem scr_ins (y : UInt8) (b : List UInt8) : scr [] (y :: b) = 43 :: y :: scr [] b := by rw [scr]
theorem scr_del (x : UInt8) (a : List UInt8) : scr (x :: a) [] = 45 :: scr a [] := by rw [scr]
theorem scr_keep {x y : UInt8} {a b : List UInt8} (h : x = y) : scr (x :: a) (y :: b) = 61 :: scr a b := by rw [scr, if_pos h]
theorem scr_rep {x y : UInt8} {a b : List UInt8} (h : x ≠ y) (h1 : lev false (x :: a) (y :: b) = 1 + lev false a b) : scr (x :: a) (y :: b) = 126 :: y :: scr a b := by
  rw [scr, if_neg h, if_pos h1]
theorem scr_drop {x y : UInt8} {a b : List UInt8} (h : x ≠ y) (h1 : ¬ lev false (x :: a) (y :: b) = 1 + lev false a b) (h2 : lev false (x :: a) (y :: b) = 1 + lev false a (y :: b)) : scr (x :: a) (y :: b) = 45 :: scr a (y :: b) := by
  rw [scr, if_neg h, if_neg h1, if_pos h2]
theorem scr_put {x y : UInt8} {a b : List UInt8} (h : x ≠ y) (h1 : ¬ lev false (x :: a) (y :: b) = 1 + lev false a b) (h2 : ¬ lev false (x :: a) (y :: b) = 1 + lev false a (y :: b)) : scr (x :: a) (y :: b) = 43 :: y :: scr (x :: a) b := by
  rw [scr, if_neg h, if_neg h1, if_neg h2]

/-- what a script makes of a -/
def app : List UInt8 → List UInt8 → Option (List UInt8)
  | a, [] => if a = [] then some [] else none
  | a, c :: s =>
    if c = 61 then (if a = [] then none else (app a.tail s).map (a.headD 0 :: ·))
    else if c = 126 then (if a = [] then none else if s = [] then none else (app a.tail s.tail).map (s.headD 0 :: ·))
    else if c = 45 then (if a = [] then none else app a.tail s)
    else if c = 43 then (if s = [] then none else (app a s.tail).map (s.headD 0 :: ·))
    else none
termination_by _ s => s.length
decreasing_by all_goals (simp <;> omega)

theorem app_nil (a : List UInt8) : app a [] = if a = [] then some [] else none := by rw [app]
theorem app_keep (x : UInt8) (a s : List UInt8) : app (x :: a) (61 :: s) = (app a s).map (x :: ·) := by rw [app]; simp
theorem app_rep (x y : UInt8) (a s : List UInt8) : app (x :: a) (126 :: y :: s) = (app a s).map (y :: ·) := by rw [app]; simp
theorem app_del (x : UInt8) (a s : List UInt8) : app (x :: a) (45 :: s) = app a s := by rw [app]; simp
theorem app_ins (y : UInt8) (a s : List UInt8) : app a (43 :: y :: s) = (app a s).map (y :: ·) := by rw [app]; simp
theorem app_keep_no (s : List UInt8) : app [] (61 :: s) = none := by rw [app]; simp
theorem app_rep_no (s : List UInt8) : app [] (126 :: s) = none := by rw [app]; simp
theorem app_rep_end (a : List UInt8) : app a [126] = none := by rw [app]; simp
theorem app_del_no (s : List UInt8) : app [] (45 :: s) = none := by rw [app]; simp
theorem app_ins_end (a : List UInt8) : app a [43] = none := by rw [app]; simp
theorem app_other {c : UInt8} (a s : List UInt8) (h1 : c ≠ 61) (h2 : c ≠ 126) (h3 : c ≠ 45) (h4 : c ≠ 43) : app a (c :: s) = none := by
  rw [app, if_neg h1, if_neg h2, if_neg h3, if_neg h4]

/-- the cost of a script -/
def costS : List UInt8 → Nat
  | [] => 0
  | c :: s => if c = 126 ∨ c = 43 then 1 + costS s.tail else if c = 45 then 1 + costS s else costS s
termination_by s => s.length
decreasing_by all_goals (simp <;> omega)

theorem costS_nil : costS [] = 0 := by rw [costS]
theorem costS_keep (s : List UInt8) : costS (61 :: s) = costS s := by rw [costS]; simp
theorem costS_rep (y : UInt8) (s : List UInt8) : costS (126 :: y :: s) = 1 + costS s := by rw [costS]; simp
theorem costS_ins (y : UInt8) (s : List UInt8) : costS (43 :: y :: s) = 1 + costS s := by rw [costS]; simp
theorem costS_del (s : List UInt8) : costS (45 :: s) = 1 + costS s := by rw [costS]; simp

theorem lev_put {x y : UInt8} {a b : List UInt8} (h : x ≠ y) (h1 : ¬ lev false (x :: a) (y :: b) = 1 + lev false a b) (h2 : ¬ lev false (x :: a) (y :: b) = 1 + lev false a (y :: b)) :
    lev false (x :: a) (y :: b) = 1 + lev false (x :: a) b := by
  have := lev_nef (a := a) (b := b) h
  omega

theorem scr_all : ∀ (N : Nat) (a b : List UInt8), a.length + b.length ≤ N → app a (scr a b) = some b ∧ costS (scr a b) = lev false a b ∧ (scr a b).length ≤ 2 * (a.length + b.length) := by
  intro N
  induction N with
  | zero =>
    intro a b h
    have e1 : a = [] := List.eq_nil_of_length_eq_zero (by omega)
    have e2 : b = [] := List.eq_nil_of_length_eq_zero (by omega)
    subst e1 e2
    rw [scr_nil, app_nil, costS_nil, lev_nil]; simp
  | succ N ih =>
    intro a b h
    match a, b, h with
    | [], [], _ => rw [scr_nil, app_nil, costS_nil, lev_nil]; simp
    | [], y :: b, h =>
      simp only [List.length_cons] at h
      obtain ⟨h1, h2, h3⟩ := ih [] b (by omega)
      rw [scr_ins, app_ins, h1, costS_ins, h2, lev_nil, lev_nil]
      refine ⟨rfl, by simp; omega, by simp at h3 ⊢; omega⟩
    | x :: a, [], h =>
      simp only [List.length_cons] at h
      obtain ⟨h1, h2, h3⟩ := ih a [] (by omega)
      rw [scr_del, app_del, h1, costS_del, h2, lev_nil', lev_nil']
      refine ⟨rfl, by simp; omega, by simp at h3 ⊢; omega⟩
    | x :: a, y :: b, h =>
      simp only [List.length_cons] at h
      by_cases c0 : x = y
      · obtain ⟨h1, h2, h3⟩ := ih a b (by omega)
        rw [scr_keep c0, app_keep, h1, costS_keep, h2, lev_eqf c0]
        exact ⟨by rw [c0]; rfl, rfl, by simp at h3 ⊢; omega⟩
      · by_cases c1 : lev false (x :: a) (y :: b) = 1 + lev false a b
        · obtain ⟨h1, h2, h3⟩ := ih a b (by omega)
          rw [scr_rep c0 c1, app_rep, h1, costS_rep, h2, c1]
          exact ⟨rfl, rfl, by simp at h3 ⊢; omega⟩
        · by_cases c2 : lev false (x :: a) (y :: b) = 1 + lev false a (y :: b)
          · obtain ⟨h1, h2, h3⟩ := ih a (y :: b) (by simp; omega)
            rw [scr_drop c0 c1 c2, app_del, h1, costS_del, h2, c2]
            exact ⟨rfl, rfl, by simp at h3 ⊢; omega⟩
          · obtain ⟨h1, h2, h3⟩ := ih (x :: a) b (by simp; omega)
            rw [scr_put c0 c1 c2, app_ins, h1, costS_ins, h2, lev_put c0 c1 c2]
            exact ⟨rfl, rfl, by simp at h3 ⊢; omega⟩

theorem scr_app (a b : List UInt8) : app a (scr a b) = some b := (scr_all _ a b (Nat.le_refl _)).1
theorem scr_cost (a b : List UInt8) : costS (scr a b) = lev false a b := (scr_all _ a b (Nat.le_refl _)).2.1
theorem scr_length (a b : List UInt8) : (scr a b).length ≤ 2 * (a.length + b.length) := (scr_all _ a b (Nat.le_refl _)).2.2

end Go.Proofs.Ytookcggmapldeaa
