/-
  Texts laid together: PlainEdit, EdBlk, PlainNorm, PlainWords, PlainTok, Bounds, PlainIx. By an AI agent.
-/
import Derived.WalkKit
import Derived.Test.YthjbekgognfiiaaGreatJ1
import Derived.Laws.CopyRow
import Derived.Laws.AppendOwn
import Derived.Maps.AppendAt
import Derived.BigQuiet
import Derived.Deep.QuietTactic
import Derived.Lib.Hide
import Derived.Below
import Derived.Test.YthjbekgognfiiaaGreatJ2
/-
  Plain facts on edit distances, without the program: the least cost by remaining parts, alignments, reversal, the triangle inequality, the script. By an AI agent.
-/
namespace Go.Proofs.YthjbekgognfiiaaGreat

/-- the least cost of a script from a to b; sw: adjacent bytes may be exchanged -/
def lev (sw : Bool) : List UInt8 → List UInt8 → Nat
  | [], b => b.length
  | _ :: a, [] => a.length + 1
  | x :: a, y :: b =>
    let m := if x = y then lev sw a b else 1 + min (min (lev sw a b) (lev sw a (y :: b))) (lev sw (x :: a) b)
    if sw = true ∧ a.head? = some y ∧ b.head? = some x then min m (1 + lev sw a.tail b.tail) else m
termination_by a b => a.length + b.length
decreasing_by all_goals (simp <;> omega)

/-- alignments of two byte strings with their cost -/
inductive Al (sw : Bool) : List UInt8 → List UInt8 → Nat → Prop
  | nil : Al sw [] [] 0
  | keep (x : UInt8) {a b : List UInt8} {n : Nat} : Al sw a b n → Al sw (x :: a) (x :: b) n
  | rep (x y : UInt8) {a b : List UInt8} {n : Nat} : Al sw a b n → Al sw (x :: a) (y :: b) (n + 1)
  | del (x : UInt8) {a b : List UInt8} {n : Nat} : Al sw a b n → Al sw (x :: a) b (n + 1)
  | ins (y : UInt8) {a b : List UInt8} {n : Nat} : Al sw a b n → Al sw a (y :: b) (n + 1)
  | exch (x y : UInt8) {a b : List UInt8} {n : Nat} : sw = true → Al sw a b n → Al sw (x :: y :: a) (y :: x :: b) (n + 1)

theorem lev_nil (sw : Bool) (b : List UInt8) : lev sw [] b = b.length := by rw [lev]
theorem lev_nil' (sw : Bool) (a : List UInt8) : lev sw a [] = a.length := by cases a <;> rw [lev] <;> rfl

theorem Al.cast {sw : Bool} {a b : List UInt8} {n m : Nat} (h : Al sw a b n) (e : n = m) : Al sw a b m := e ▸ h

theorem Al.lens {sw : Bool} {a b : List UInt8} {n : Nat} (h : Al sw a b n) : a.length ≤ b.length + n ∧ b.length ≤ a.length + n := by
  induction h <;> simp_all <;> omega

theorem Al.symm {sw : Bool} {a b : List UInt8} {n : Nat} (h : Al sw a b n) : Al sw b a n := by
  induction h with
  | nil => exact .nil
  | keep x _ ih => exact .keep x ih
  | rep x y _ ih => exact .rep y x ih
  | del x _ ih => exact .ins x ih
  | ins y _ ih => exact .del y ih
  | exch x y e _ ih => exact .exch y x e ih

theorem Al.append {sw : Bool} {a b : List UInt8} {n : Nat} (h : Al sw a b n) {a' b' : List UInt8} {m : Nat} (h2 : Al sw a' b' m) : Al sw (a ++ a') (b ++ b') (n + m) := by
  induction h with
  | nil => simpa using h2
  | keep x _ ih => exact .keep x ih
  | rep x y _ ih => exact (Al.rep x y ih).cast (by omega)
  | del x _ ih => exact (Al.del x ih).cast (by omega)
  | ins y _ ih => exact (Al.ins y ih).cast (by omega)
  | exch x y e _ ih => exact (Al.exch x y e ih).cast (by omega)

theorem Al.rev {sw : Bool} {a b : List UInt8} {n : Nat} (h : Al sw a b n) : Al sw a.reverse b.reverse n := by
  induction h with
  | nil => exact .nil
  | keep x _ ih => simpa using ih.append (.keep x .nil)
  | rep x y _ ih => simpa using ih.append (.rep x y .nil)
  | del x _ ih => simpa using ih.append (.del x .nil)
  | ins y _ ih => simpa using ih.append (.ins y .nil)
  | exch x y e _ ih => simpa using ih.append (.exch y x e .nil)

theorem Al.all_ins (sw : Bool) (b : List UInt8) : Al sw [] b b.length := by
  induction b with
  | nil => exact .nil
  | cons y b ih => exact .ins y ih
theorem Al.all_del (sw : Bool) (a : List UInt8) : Al sw a [] a.length := (Al.all_ins sw a).symm

theorem lev_cons (sw : Bool) (x y : UInt8) (a b : List UInt8) : lev sw (x :: a) (y :: b) =
    (if sw = true ∧ a.head? = some y ∧ b.head? = some x then
      min (if x = y then lev sw a b else 1 + min (min (lev sw a b) (lev sw a (y :: b))) (lev sw (x :: a) b)) (1 + lev sw a.tail b.tail)
    else (if x = y then lev sw a b else 1 + min (min (lev sw a b) (lev sw a (y :: b))) (lev sw (x :: a) b))) := by
  rw [lev]

theorem head_tail {a : List UInt8} {y : UInt8} (h : a.head? = some y) : a = y :: a.tail := by
  cases a with
  | nil => simp at h
  | cons z a => simp at h; rw [h]; rfl

theorem lev_al (sw : Bool) : ∀ (N : Nat) (a b : List UInt8), a.length + b.length ≤ N → Al sw a b (lev sw a b) := by
  intro N
  induction N with
  | zero =>
    intro a b h
    have h1 : a = [] := List.eq_nil_of_length_eq_zero (by omega)
    have h2 : b = [] := List.eq_nil_of_length_eq_zero (by omega)
    subst h1 h2
    rw [lev_nil]; exact .nil
  | succ N ih =>
    intro a b h
    match a, b, h with
    | [], b, h => rw [lev_nil]; exact Al.all_ins sw b
    | x :: a, [], h => rw [lev_nil']; exact Al.all_del sw _
    | x :: a, y :: b, h =>
      simp only [List.length_cons] at h
      have hm : Al sw (x :: a) (y :: b) (if x = y then lev sw a b else 1 + min (min (lev sw a b) (lev sw a (y :: b))) (lev sw (x :: a) b)) := by
        split
        · rename_i e; subst e; exact .keep x (ih a b (by omega))
        · have h1 := Al.rep x y (ih a b (by omega))
          have h2 := Al.del x (ih a (y :: b) (by simp; omega))
          have h3 := Al.ins y (ih (x :: a) b (by simp; omega))
          by_cases c1 : lev sw a b ≤ lev sw a (y :: b)
          · by_cases c2 : lev sw a b ≤ lev sw (x :: a) b
            · exact h1.cast (by omega)
            · exact h3.cast (by omega)
          · by_cases c2 : lev sw a (y :: b) ≤ lev sw (x :: a) b
            · exact h2.cast (by omega)
            · exact h3.cast (by omega)
      rw [lev_cons]
      split
      · rename_i e
        obtain ⟨e1, e2, e3⟩ := e
        have ha := head_tail e2
        have hb := head_tail e3
        have l1 : a.tail.length ≤ a.length := by simp
        have l2 : b.tail.length ≤ b.length := by simp
        have hs : Al sw (x :: a) (y :: b) (1 + lev sw a.tail b.tail) := by
          have := Al.exch x y e1 (ih a.tail b.tail (by omega))
          rw [← ha, ← hb] at this
          exact this.cast (by omega)
        rcases Nat.le_total (if x = y then lev sw a b else 1 + min (min (lev sw a b) (lev sw a (y :: b))) (lev sw (x :: a) b)) (1 + lev sw a.tail b.tail) with hc | hc
        · rw [Nat.min_eq_left hc]; exact hm
        · rw [Nat.min_eq_right hc]; exact hs
      · exact hm

theorem Al.of_lev (sw : Bool) (a b : List UInt8) : Al sw a b (lev sw a b) := lev_al sw _ a b (Nat.le_refl _)

/-- an alignment less the first byte of a -/
theorem Al.drop_one {sw : Bool} {a0 b : List UInt8} {n : Nat} (h : Al sw a0 b n) : ∀ x a, a0 = x :: a → ∃ m, m ≤ n + 1 ∧ Al sw a b m := by
  induction h with
  | nil => intro x a e; cases e
  | keep z h _ => intro x a e; cases e; exact ⟨_, Nat.le_refl _, .ins z h⟩
  | rep z y h _ => intro x a e; cases e; exact ⟨_, by omega, .ins y h⟩
  | del z h _ => intro x a e; cases e; exact ⟨_, by omega, h⟩
  | ins y h ih => intro x a e; obtain ⟨m, hm, hh⟩ := ih x a e; exact ⟨_, by omega, .ins y hh⟩
  | exch z y e1 h _ => intro x a e; cases e; exact ⟨_, by omega, .keep y (.ins z h)⟩

theorem lev_le_m (sw : Bool) (x y : UInt8) (a b : List UInt8) : lev sw (x :: a) (y :: b) ≤ (if x = y then lev sw a b else 1 + min (min (lev sw a b) (lev sw a (y :: b))) (lev sw (x :: a) b)) := by
  rw [lev_cons]
  split
  · exact Nat.min_le_left _ _
  · exact Nat.le_refl _

theorem lev_min (sw : Bool) : ∀ (N : Nat) (a b : List UInt8), a.length + b.length ≤ N → ∀ n, Al sw a b n → lev sw a b ≤ n := by
  intro N
  induction N with
  | zero =>
    intro a b h n _
    have h1 : a = [] := List.eq_nil_of_length_eq_zero (by omega)
    have h2 : b = [] := List.eq_nil_of_length_eq_zero (by omega)
    subst h1 h2
    rw [lev_nil]; exact Nat.zero_le _
  | succ N ih =>
    intro a b h n hal
    cases hal with
    | nil => rw [lev_nil]; exact Nat.zero_le _
    | keep x hh =>
      simp only [List.length_cons] at h
      refine Nat.le_trans (lev_le_m _ _ _ _ _) ?_
      rw [if_pos rfl]
      exact ih _ _ (by omega) _ hh
    | rep x y hh =>
      simp only [List.length_cons] at h
      have h1 := ih _ _ (by omega) _ hh
      refine Nat.le_trans (lev_le_m _ _ _ _ _) ?_
      split <;> omega
    | @del x a b n hh =>
      simp only [List.length_cons] at h
      have h1 := ih _ _ (by omega) _ hh
      cases b with
      | nil => rw [lev_nil'] at h1 ⊢; simp; exact h1
      | cons y b =>
        refine Nat.le_trans (lev_le_m _ _ _ _ _) ?_
        split
        · obtain ⟨m, hm, h3⟩ := hh.symm.drop_one y b rfl
          simp only [List.length_cons] at h
          have := ih a b (by omega) m h3.symm
          omega
        · omega
    | @ins y a b n hh =>
      simp only [List.length_cons] at h
      have h1 := ih _ _ (by omega) _ hh
      cases a with
      | nil => rw [lev_nil] at h1 ⊢; simp; exact h1
      | cons x a =>
        refine Nat.le_trans (lev_le_m _ _ _ _ _) ?_
        split
        · obtain ⟨m, hm, h3⟩ := hh.drop_one x a rfl
          simp only [List.length_cons] at h
          have := ih a b (by omega) m h3
          omega
        · omega
    | @exch x y a b n e hh =>
      simp only [List.length_cons] at h
      have h1 := ih _ _ (by omega) _ hh
      rw [lev_cons, if_pos ⟨e, rfl, rfl⟩]
      refine Nat.le_trans (Nat.min_le_right _ _) ?_
      simp only [List.tail_cons]
      omega

theorem Al.lev_le {sw : Bool} {a b : List UInt8} {n : Nat} (h : Al sw a b n) : lev sw a b ≤ n := lev_min sw _ a b (Nat.le_refl _) n h

theorem lev_symm (sw : Bool) (a b : List UInt8) : lev sw a b = lev sw b a :=
  Nat.le_antisymm (Al.of_lev sw b a).symm.lev_le (Al.of_lev sw a b).symm.lev_le
theorem lev_rev (sw : Bool) (a b : List UInt8) : lev sw a.reverse b.reverse = lev sw a b := by
  refine Nat.le_antisymm (Al.of_lev sw a b).rev.lev_le ?_
  have h := (Al.of_lev sw a.reverse b.reverse).rev
  rw [List.reverse_reverse, List.reverse_reverse] at h
  exact h.lev_le
theorem lev_lens (sw : Bool) (a b : List UInt8) : a.length ≤ b.length + lev sw a b ∧ b.length ≤ a.length + lev sw a b := (Al.of_lev sw a b).lens
theorem al_most (sw : Bool) : ∀ a b : List UInt8, ∃ n, n ≤ max a.length b.length ∧ Al sw a b n
  | [], b => ⟨_, by simp, Al.all_ins sw b⟩
  | x :: a, [] => ⟨_, by simp, Al.all_del sw _⟩
  | x :: a, y :: b => by
    obtain ⟨n, hn, h⟩ := al_most sw a b
    exact ⟨_, by simp; omega, .rep x y h⟩
theorem lev_most (sw : Bool) (a b : List UInt8) : lev sw a b ≤ max a.length b.length := by
  obtain ⟨n, hn, h⟩ := al_most sw a b
  exact Nat.le_trans h.lev_le hn
theorem al_same (sw : Bool) : ∀ a : List UInt8, Al sw a a 0
  | [] => .nil
  | x :: a => .keep x (al_same sw a)
theorem lev_same (sw : Bool) (a : List UInt8) : lev sw a a = 0 := Nat.le_zero.1 (al_same sw a).lev_le
theorem al_zero {sw : Bool} {a b : List UInt8} {n : Nat} (h : Al sw a b n) : n = 0 → a = b := by
  induction h with
  | nil => intro _; rfl
  | keep x _ ih => intro e; rw [ih e]
  | _ => intro e; omega
theorem lev_zero {sw : Bool} {a b : List UInt8} : lev sw a b = 0 ↔ a = b := ⟨al_zero (Al.of_lev sw a b), fun e => e ▸ lev_same sw a⟩
theorem Al.more {a b : List UInt8} {n : Nat} (h : Al false a b n) : Al true a b n := by
  induction h with
  | nil => exact .nil
  | keep x _ ih => exact .keep x ih
  | rep x y _ ih => exact .rep x y ih
  | del x _ ih => exact .del x ih
  | ins y _ ih => exact .ins y ih
  | exch x y e _ ih => cases e
theorem lev_swap_le (a b : List UInt8) : lev true a b ≤ lev false a b := (Al.of_lev false a b).more.lev_le

theorem al_trans : ∀ (N : Nat) (a b c : List UInt8) (n m : Nat), a.length + b.length + c.length ≤ N → Al false a b n → Al false b c m → ∃ k, k ≤ n + m ∧ Al false a c k := by
  intro N
  induction N with
  | zero =>
    intro a b c n m h h1 h2
    have e1 : a = [] := List.eq_nil_of_length_eq_zero (by omega)
    have e2 : c = [] := List.eq_nil_of_length_eq_zero (by omega)
    subst e1 e2
    exact ⟨0, by omega, .nil⟩
  | succ N ih =>
    intro a b c n m h h1 h2
    cases h2 with
    | ins z h2 =>
      simp only [List.length_cons] at h
      obtain ⟨k, hk, hh⟩ := ih _ _ _ _ _ (by omega) h1 h2
      exact ⟨_, by omega, .ins z hh⟩
    | exch _ _ e _ => cases e
    | nil =>
      cases h1 with
      | nil => exact ⟨0, by omega, .nil⟩
      | del x h1 => exact ⟨_, by omega, .del x h1⟩
    | keep y h2 =>
      cases h1 with
      | keep _ h1 => simp only [List.length_cons] at h; obtain ⟨k, hk, hh⟩ := ih _ _ _ _ _ (by omega) h1 h2; exact ⟨_, by omega, .keep y hh⟩
      | rep x _ h1 => simp only [List.length_cons] at h; obtain ⟨k, hk, hh⟩ := ih _ _ _ _ _ (by omega) h1 h2; exact ⟨_, by omega, .rep x y hh⟩
      | del x h1 => simp only [List.length_cons] at h; obtain ⟨k, hk, hh⟩ := ih _ _ _ _ _ (by simp; omega) h1 (.keep y h2); exact ⟨_, by omega, .del x hh⟩
      | ins _ h1 => simp only [List.length_cons] at h; obtain ⟨k, hk, hh⟩ := ih _ _ _ _ _ (by omega) h1 h2; exact ⟨_, by omega, .ins y hh⟩
      | exch _ _ e _ => cases e
    | rep y z h2 =>
      cases h1 with
      | keep _ h1 => simp only [List.length_cons] at h; obtain ⟨k, hk, hh⟩ := ih _ _ _ _ _ (by omega) h1 h2; exact ⟨_, by omega, .rep y z hh⟩
      | rep x _ h1 => simp only [List.length_cons] at h; obtain ⟨k, hk, hh⟩ := ih _ _ _ _ _ (by omega) h1 h2; exact ⟨_, by omega, .rep x z hh⟩
      | del x h1 => simp only [List.length_cons] at h; obtain ⟨k, hk, hh⟩ := ih _ _ _ _ _ (by simp; omega) h1 (.rep y z h2); exact ⟨_, by omega, .del x hh⟩
      | ins _ h1 => simp only [List.length_cons] at h; obtain ⟨k, hk, hh⟩ := ih _ _ _ _ _ (by omega) h1 h2; exact ⟨_, by omega, .ins z hh⟩
      | exch _ _ e _ => cases e
    | del y h2 =>
      cases h1 with
      | keep _ h1 => simp only [List.length_cons] at h; obtain ⟨k, hk, hh⟩ := ih _ _ _ _ _ (by omega) h1 h2; exact ⟨_, by omega, .del y hh⟩
      | rep x _ h1 => simp only [List.length_cons] at h; obtain ⟨k, hk, hh⟩ := ih _ _ _ _ _ (by omega) h1 h2; exact ⟨_, by omega, .del x hh⟩
      | del x h1 => simp only [List.length_cons] at h; obtain ⟨k, hk, hh⟩ := ih _ _ _ _ _ (by simp; omega) h1 (.del y h2); exact ⟨_, by omega, .del x hh⟩
      | ins _ h1 => simp only [List.length_cons] at h; obtain ⟨k, hk, hh⟩ := ih _ _ _ _ _ (by omega) h1 h2; exact ⟨_, by omega, hh⟩
      | exch _ _ e _ => cases e

theorem lev_triangle (a c b : List UInt8) : lev false a b ≤ lev false a c + lev false c b := by
  obtain ⟨k, hk, h⟩ := al_trans _ a c b _ _ (Nat.le_refl _) (Al.of_lev false a c) (Al.of_lev false c b)
  exact Nat.le_trans h.lev_le hk

/-! the recurrences that both tables use -/

theorem lev_eqf {x y : UInt8} {a b : List UInt8} (h : x = y) : lev false (x :: a) (y :: b) = lev false a b := by
  rw [lev_cons, if_neg (by simp), if_pos h]
theorem lev_nef {x y : UInt8} {a b : List UInt8} (h : x ≠ y) : lev false (x :: a) (y :: b) = 1 + min (min (lev false a b) (lev false a (y :: b))) (lev false (x :: a) b) := by
  rw [lev_cons, if_neg (by simp), if_neg h]

/-! the script -/

def scr : List UInt8 → List UInt8 → List UInt8
  | [], [] => []
  | [], y :: b => 43 :: y :: scr [] b
  | _ :: a, [] => 45 :: scr a []
  | x :: a, y :: b =>
    if x = y then 61 :: scr a b
    else if lev false (x :: a) (y :: b) = 1 + lev false a b then 126 :: y :: scr a b
    else if lev false (x :: a) (y :: b) = 1 + lev false a (y :: b) then 45 :: scr a (y :: b)
    else 43 :: y :: scr (x :: a) b
termination_by a b => a.length + b.length
decreasing_by all_goals (simp <;> omega)

theorem scr_nil : scr [] [] = [] := by rw [scr]
theorem scr_ins (y : UInt8) (b : List UInt8) : scr [] (y :: b) = 43 :: y :: scr [] b := by rw [scr]
theorem scr_del (x : UInt8) (a : List UInt8) : scr (x :: a) [] = 45 :: scr a [] := by rw [scr]
theorem scr_keep {x y : UInt8} {a b : List UInt8} (h : x = y) : scr (x :: a) (y :: b) = 61 :: scr a b := by rw [scr, if_pos h]
theorem scr_rep {x y : UInt8} {a b : List UInt8} (h : x ≠ y) (h1 : lev false (x :: a) (y :: b) = 1 + lev false a b) : scr (x :: a) (y :: b) = 126 :: y :: scr a b := by
  rw [scr, if_neg h, if_pos h1]
theorem scr_drop {x y : UInt8} {a b : List UInt8} (h : x ≠ y) (h1 : ¬ lev false (x :: a) (y :: b) = 1 + lev false a b) (h2 : lev false (x :: a) (y :: b) = 1 + lev false a (y :: b)) : scr (x :: a) (y :: b) = 45 :: scr a (y :: b) := by
  rw [scr, if_neg h, if_neg h1, if_pos h2]
theorem scr_put {x y : UInt8} {a b : List UInt8} (h : x ≠ y) (h1 : ¬ lev false (x :: a) (y :: b) = 1 + lev false a b) (h2 : ¬ lev false (x :: a) (y :: b) = 1 + lev false a (y :: b)) : scr (x :: a) (y :: b) = 43 :: y :: scr (x :: a) b := by
  rw [scr, if_neg h, if_neg h1, if_neg h2]

/-- what a script makes of a -/
def app : List UInt8 → List UInt8 → Option (List UInt8)
  | a, [] => if a = [] then some [] else none
  | a, c :: s =>
    if c = 61 then (if a = [] then none else (app a.tail s).map (a.headD 0 :: ·))
    else if c = 126 then (if a = [] then none else if s = [] then none else (app a.tail s.tail).map (s.headD 0 :: ·))
    else if c = 45 then (if a = [] then none else app a.tail s)
    else if c = 43 then (if s = [] then none else (app a s.tail).map (s.headD 0 :: ·))
    else none
termination_by _ s => s.length
decreasing_by all_goals (simp <;> omega)

theorem app_nil (a : List UInt8) : app a [] = if a = [] then some [] else none := by rw [app]
theorem app_keep (x : UInt8) (a s : List UInt8) : app (x :: a) (61 :: s) = (app a s).map (x :: ·) := by rw [app]; simp
theorem app_rep (x y : UInt8) (a s : List UInt8) : app (x :: a) (126 :: y :: s) = (app a s).map (y :: ·) := by rw [app]; simp
theorem app_del (x : UInt8) (a s : List UInt8) : app (x :: a) (45 :: s) = app a s := by rw [app]; simp
theorem app_ins (y : UInt8) (a s : List UInt8) : app a (43 :: y :: s) = (app a s).map (y :: ·) := by rw [app]; simp
theorem app_keep_no (s : List UInt8) : app [] (61 :: s) = none := by rw [app]; simp
theorem app_rep_no (s : List UInt8) : app [] (126 :: s) = none := by rw [app]; simp
theorem app_rep_end (a : List UInt8) : app a [126] = none := by rw [app]; simp
theorem app_del_no (s : List UInt8) : app [] (45 :: s) = none := by rw [app]; simp
theorem app_ins_end (a : List UInt8) : app a [43] = none := by rw [app]; simp
theorem app_other {c : UInt8} (a s : List UInt8) (h1 : c ≠ 61) (h2 : c ≠ 126) (h3 : c ≠ 45) (h4 : c ≠ 43) : app a (c :: s) = none := by
  rw [app, if_neg h1, if_neg h2, if_neg h3, if_neg h4]

/-- the cost of a script -/
def costS : List UInt8 → Nat
  | [] => 0
  | c :: s => if c = 126 ∨ c = 43 then 1 + costS s.tail else if c = 45 then 1 + costS s else costS s
termination_by s => s.length
decreasing_by all_goals (simp <;> omega)

theorem costS_nil : costS [] = 0 := by rw [costS]
theorem costS_keep (s : List UInt8) : costS (61 :: s) = costS s := by rw [costS]; simp
theorem costS_rep (y : UInt8) (s : List UInt8) : costS (126 :: y :: s) = 1 + costS s := by rw [costS]; simp
theorem costS_ins (y : UInt8) (s : List UInt8) : costS (43 :: y :: s) = 1 + costS s := by rw [costS]; simp
theorem costS_del (s : List UInt8) : costS (45 :: s) = 1 + costS s := by rw [costS]; simp

theorem lev_put {x y : UInt8} {a b : List UInt8} (h : x ≠ y) (h1 : ¬ lev false (x :: a) (y :: b) = 1 + lev false a b) (h2 : ¬ lev false (x :: a) (y :: b) = 1 + lev false a (y :: b)) :
    lev false (x :: a) (y :: b) = 1 + lev false (x :: a) b := by
  have := lev_nef (a := a) (b := b) h
  omega

theorem scr_all : ∀ (N : Nat) (a b : List UInt8), a.length + b.length ≤ N → app a (scr a b) = some b ∧ costS (scr a b) = lev false a b ∧ (scr a b).length ≤ 2 * (a.length + b.length) := by
  intro N
  induction N with
  | zero =>
    intro a b h
    have e1 : a = [] := List.eq_nil_of_length_eq_zero (by omega)
    have e2 : b = [] := List.eq_nil_of_length_eq_zero (by omega)
    subst e1 e2
    rw [scr_nil, app_nil, costS_nil, lev_nil]; simp
  | succ N ih =>
    intro a b h
    match a, b, h with
    | [], [], _ => rw [scr_nil, app_nil, costS_nil, lev_nil]; simp
    | [], y :: b, h =>
      simp only [List.length_cons] at h
      obtain ⟨h1, h2, h3⟩ := ih [] b (by omega)
      rw [scr_ins, app_ins, h1, costS_ins, h2, lev_nil, lev_nil]
      refine ⟨rfl, by simp; omega, by simp at h3 ⊢; omega⟩
    | x :: a, [], h =>
      simp only [List.length_cons] at h
      obtain ⟨h1, h2, h3⟩ := ih a [] (by omega)
      rw [scr_del, app_del, h1, costS_del, h2, lev_nil', lev_nil']
      refine ⟨rfl, by simp; omega, by simp at h3 ⊢; omega⟩
    | x :: a, y :: b, h =>
      simp only [List.length_cons] at h
      by_cases c0 : x = y
      · obtain ⟨h1, h2, h3⟩ := ih a b (by omega)
        rw [scr_keep c0, app_keep, h1, costS_keep, h2, lev_eqf c0]
        exact ⟨by rw [c0]; rfl, rfl, by simp at h3 ⊢; omega⟩
      · by_cases c1 : lev false (x :: a) (y :: b) = 1 + lev false a b
        · obtain ⟨h1, h2, h3⟩ := ih a b (by omega)
          rw [scr_rep c0 c1, app_rep, h1, costS_rep, h2, c1]
          exact ⟨rfl, rfl, by simp at h3 ⊢; omega⟩
        · by_cases c2 : lev false (x :: a) (y :: b) = 1 + lev false a (y :: b)
          · obtain ⟨h1, h2, h3⟩ := ih a (y :: b) (by simp; omega)
            rw [scr_drop c0 c1 c2, app_del, h1, costS_del, h2, c2]
            exact ⟨rfl, rfl, by simp at h3 ⊢; omega⟩
          · obtain ⟨h1, h2, h3⟩ := ih (x :: a) b (by simp; omega)
            rw [scr_put c0 c1 c2, app_ins, h1, costS_ins, h2, lev_put c0 c1 c2]
            exact ⟨rfl, rfl, by simp at h3 ⊢; omega⟩

theorem scr_app (a b : List UInt8) : app a (scr a b) = some b := (scr_all _ a b (Nat.le_refl _)).1
theorem scr_cost (a b : List UInt8) : costS (scr a b) = lev false a b := (scr_all _ a b (Nat.le_refl _)).2.1
theorem scr_length (a b : List UInt8) : (scr a b).length ≤ 2 * (a.length + b.length) := (scr_all _ a b (Nat.le_refl _)).2.2

end Go.Proofs.YthjbekgognfiiaaGreat

/-
  A block of cells that the call stores into; a row of least costs in it. By an AI agent.
-/
namespace Go.Proofs.YthjbekgognfiiaaGreat
open Go.RowKit
set_option linter.unusedVariables false

/-- block g holds the cells cs of type t -/
def BlkV (w : World) (g : Nat) (t : TypeId) (cs : Array Value) : Prop := w.heap[g]? = some (.cells cs t (0, 0))

theorem BlkV.cell {w : World} {g : Nat} {t : TypeId} {cs : Array Value} (h : BlkV w g t cs) (i : Nat) : w.cell? ⟨g, i, none⟩ = cs[i]? := cell_of_row w g i cs t (0, 0) h
theorem BlkV.frozen {w : World} {g : Nat} {t : TypeId} {cs : Array Value} (h : BlkV w g t cs) (i : Nat) : w.frozen? ⟨g, i, none⟩ = false := by
  unfold BlkV at h
  simp [World.frozen?, h]
theorem BlkV.lt {w : World} {g : Nat} {t : TypeId} {cs : Array Value} (h : BlkV w g t cs) : g < w.heap.size := (Array.getElem?_eq_some_iff.1 h).1
theorem BlkV.new (w : World) (t : TypeId) (cs : Array Value) : BlkV (w.alloc (.cells cs t)) w.heap.size t cs := heap_alloc_new w _
theorem BlkV.set_ {w : World} {g : Nat} {t : TypeId} {cs : Array Value} (h : BlkV w g t cs) (i : Nat) (u : Value) : BlkV (w.setCell ⟨g, i, none⟩ u) g t (cs.setIfInBounds i u) := by
  unfold BlkV at h ⊢
  simp [World.setCell, Array.getElem?_modify, h]
theorem BlkV.row {w : World} {g : Nat} {t : TypeId} {cs : Array Value} (h : BlkV w g t cs) (cs' : Array Value) : BlkV (w.setRow g cs') g t cs' := setRow_heap w g cs cs' t (0, 0) h
theorem BlkV.grown {w w' : World} {g : Nat} {t : TypeId} {cs : Array Value} {row : Option Nat} (h : BlkV w g t cs) (hg : w.grownBy w' row) (hne : some g ≠ row) : BlkV w' g t cs := (hg.block g h.lt hne).trans h
theorem BlkV.n {w : World} {g : Nat} {t : TypeId} {cs : Array Value} (h : BlkV w g t cs) (k : Nat) : BlkV (w.drewN k) g t cs := h
theorem BlkV.alloc {w : World} {g : Nat} {t : TypeId} {cs : Array Value} (h : BlkV w g t cs) (o : Obj) : BlkV (w.alloc o) g t cs := h.grown (World.grownBy_alloc w o none) (by simp)
theorem BlkV.below {w w' : World} {g : Nat} {t : TypeId} {cs : Array Value} (h : BlkV w g t cs) (hb : Below w.heap.size w w') : BlkV w' g t cs := (hb.block g h.lt).trans h

theorem egrown_set (w : World) (g i : Nat) (u : Value) : w.grownBy (w.setCell ⟨g, i, none⟩ u) (some g) :=
  ⟨rfl, rfl, rfl, by simp [World.setCell], fun k _ hne => by
    have : k ≠ g := fun e => hne (by rw [e])
    simp [World.setCell, Array.getElem?_modify, Ne.symm this]⟩
theorem egrown_row (w : World) (g : Nat) (cs : Array Value) : w.grownBy (w.setRow g cs) (some g) :=
  ⟨rfl, rfl, rfl, by simp, fun k _ hne => setRow_other w g k cs (fun e => hne (by rw [e]))⟩
theorem egrown_n {a b : World} {row : Option Nat} (h : a.grownBy b row) (n : Nat) : a.grownBy (b.drewN n) row := ⟨h.os, h.tape, h.output, h.size, h.block⟩

theorem belowN {base : Nat} {w w' : World} (h : Below base w w') (n : Nat) : Below base w (w'.drewN n) := ⟨h.os, h.tape, h.output, h.size, h.block⟩
theorem below_grown {base g : Nat} {w0 w w' : World} (h : Below base w0 w) (hg : w.grownBy w' (some g)) (hb : base ≤ g) (hs : base ≤ w.heap.size) : Below base w0 w' :=
  h.grown hg hs (fun k hk => by cases hk; exact hb)

theorem toNat_lt_maxLen {n : Nat} (h : n ≤ 100000) : n ≤ maxLen := by unfold maxLen; omega

def intC (n : Nat) : Value := .int .i64 (n : Int)

/-- the row of A at o, filled from k on; ahead of k the costs behind a byte that is kept or replaced -/
def FillAt (sw : Bool) (A B : List UInt8) (cs0 cs : Array Value) (o k : Nat) : Prop :=
  cs.size = cs0.size ∧ (∀ q, k ≤ q → q ≤ B.length → cs[o + q]? = some (intC (lev sw A (B.drop q)))) ∧
    (∀ q, q < k → cs[o + q]? = some (intC (lev sw A.tail (B.drop (q + 1))))) ∧ ∀ p, p < o ∨ o + B.length + 1 ≤ p → cs[p]? = cs0[p]?

theorem set_at {cs : Array Value} {p : Nat} {u : Value} (h : p < cs.size) : (cs.setIfInBounds p u)[p]? = some u := by
  rw [Array.getElem?_setIfInBounds]; simp [h]
theorem set_ne {cs : Array Value} {p q : Nat} {u : Value} (h : p ≠ q) : (cs.setIfInBounds p u)[q]? = cs[q]? := by
  rw [Array.getElem?_setIfInBounds]; simp [h]

theorem FillAt.set {sw : Bool} {A B : List UInt8} {cs0 cs : Array Value} {o k : Nat} (h : FillAt sw A B cs0 cs o (k + 1)) (hk : k ≤ B.length) (hs : o + B.length < cs0.size) {u : Value} (hu : u = intC (lev sw A (B.drop k))) :
    FillAt sw A B cs0 (cs.setIfInBounds (o + k) u) o k := by
  obtain ⟨h1, h2, h3, h4⟩ := h
  refine ⟨by simp [h1], fun q hq hqB => ?_, fun q hq => ?_, fun p hp => ?_⟩
  · by_cases e : k = q
    · subst e
      rw [set_at (by rw [h1]; omega), hu]
    · rw [set_ne (by omega)]
      exact h2 q (by omega) hqB
  · rw [set_ne (by omega)]
    exact h3 q (by omega)
  · rw [set_ne (by omega)]
    exact h4 p hp
theorem FillAt.same {sw : Bool} {A B : List UInt8} {cs0 cs : Array Value} {o k : Nat} (h : FillAt sw A B cs0 cs o (k + 1)) (hk : k ≤ B.length) (hu : lev sw A.tail (B.drop (k + 1)) = lev sw A (B.drop k)) :
    FillAt sw A B cs0 cs o k := by
  obtain ⟨h1, h2, h3, h4⟩ := h
  refine ⟨h1, fun q hq hqB => ?_, fun q hq => h3 q (by omega), h4⟩
  by_cases e : k = q
  · subst e
    rw [h3 k (by omega), hu]
  · exact h2 q (by omega) hqB
/-- a store at k that is stored over again: the cells of the row are open there -/
def FillOpen (sw : Bool) (A B : List UInt8) (cs0 cs : Array Value) (o k : Nat) (m : Nat) : Prop :=
  FillAt sw A B cs0 (cs.setIfInBounds (o + k) (intC (lev sw A (B.drop k)))) o k ∧ cs.size = cs0.size ∧ cs[o + k]? = some (intC m)

theorem FillAt.opens {sw : Bool} {A B : List UInt8} {cs0 cs : Array Value} {o k : Nat} (h : FillAt sw A B cs0 cs o (k + 1)) (hk : k ≤ B.length) (hs : o + B.length < cs0.size) :
    FillOpen sw A B cs0 cs o k (lev sw A.tail (B.drop (k + 1))) := ⟨h.set hk hs rfl, h.1, h.2.2.1 k (by omega)⟩
theorem FillOpen.set {sw : Bool} {A B : List UInt8} {cs0 cs : Array Value} {o k m : Nat} (h : FillOpen sw A B cs0 cs o k m) (hs : o + k < cs0.size) {u : Value} {m' : Nat} (hu : u = intC m') :
    FillOpen sw A B cs0 (cs.setIfInBounds (o + k) u) o k m' := by
  obtain ⟨h1, h2, h3⟩ := h
  refine ⟨?_, by simp [h2], ?_⟩
  · rw [Array.setIfInBounds_setIfInBounds]
    exact h1
  · rw [set_at (by rw [h2]; exact hs), hu]
theorem FillOpen.far {sw : Bool} {A B : List UInt8} {cs0 cs : Array Value} {o k m : Nat} (h : FillOpen sw A B cs0 cs o k m) (hk : k ≤ B.length) {p : Nat} (hp : o + B.length + 1 ≤ p) : cs[p]? = cs0[p]? := by
  rw [← h.1.2.2.2 p (.inr hp), set_ne (by omega)]
theorem FillOpen.shut {sw : Bool} {A B : List UInt8} {cs0 cs : Array Value} {o k m : Nat} (h : FillOpen sw A B cs0 cs o k m) (hs : o + k < cs0.size) (hm : m = lev sw A (B.drop k)) : FillAt sw A B cs0 cs o k := by
  obtain ⟨h1, h2, h3⟩ := h
  subst hm
  have hlt : o + k < cs.size := by rw [h2]; exact hs
  have e : cs.setIfInBounds (o + k) (intC (lev sw A (B.drop k))) = cs := by
    apply Array.ext_getElem?
    intro p
    by_cases e : o + k = p
    · subst e
      rw [set_at hlt, h3]
    · rw [set_ne e]
  rw [e] at h1
  exact h1

/-- the cells behind copy(row, below[1:]) -/
theorem copied (cs0 : Array Value) (o W : Nat) (hW : 1 ≤ W) (hs : o + 2 * W ≤ cs0.size) : ∃ (l : List Value) (cs1 : Array Value), l.length = W - 1 ∧ (∀ q, q < W - 1 → l[q]? = cs0[o + W + (1 + q)]?) ∧
    cs1 = (cs0.toList.take o ++ l ++ cs0.toList.drop (o + l.length)).toArray ∧ cs1.size = cs0.size ∧ (∀ q, q < W - 1 → cs1[o + q]? = cs0[o + W + (1 + q)]?) ∧
    ∀ p, p < o ∨ o + (W - 1) ≤ p → cs1[p]? = cs0[p]? := by
  have hlen : cs0.toList.length = cs0.size := by simp
  refine ⟨(cs0.toList.drop (o + W + 1)).take (W - 1), _, by simp; omega, fun q hq => ?_, rfl, ?_, fun q hq => ?_, fun p hp => ?_⟩
  · rw [List.getElem?_take_of_lt hq, List.getElem?_drop, Array.getElem?_toList]
    congr 1; omega
  · simp; omega
  · rw [List.getElem?_toArray, List.append_assoc, List.getElem?_append_right (by simp; omega)]
    have e : o + q - (cs0.toList.take o).length = q := by simp; omega
    rw [e, List.getElem?_append_left (by simp; omega), List.getElem?_take_of_lt hq, List.getElem?_drop, Array.getElem?_toList]
    congr 1; omega
  · rw [List.getElem?_toArray]
    rcases hp with hp | hp
    · rw [List.append_assoc, List.getElem?_append_left (by simp; omega), List.getElem?_take_of_lt hp, Array.getElem?_toList]
    · have e2 : ((cs0.toList.drop (o + W + 1)).take (W - 1)).length = W - 1 := by simp; omega
      have e1 : (cs0.toList.take o ++ (cs0.toList.drop (o + W + 1)).take (W - 1)).length = o + (W - 1) := by rw [List.length_append, e2]; simp; omega
      rw [List.getElem?_append_right (by rw [e1]; exact hp), e1, List.getElem?_drop, e2, Array.getElem?_toList]
      congr 1; omega

/-- copy(row, below[1:]) -/
theorem run_copied (w : World) (gc o W : Nat) (src : Addr) (cs0 : Array Value) (l : List Value) (cs1 : Array Value) (hB : BlkV w gc 3 cs0) (hl : l.length = W - 1) (hW : 1 ≤ W) (hs : o + 2 * W ≤ cs0.size)
    (hsrc : ∀ q, q < W - 1 → ∃ n, l[q]? = some (intC n) ∧ w.cell? (src.add q) = some (intC n)) (h1 : cs1 = (cs0.toList.take o ++ l ++ cs0.toList.drop (o + l.length)).toArray) :
    ∃ w2, (Builtin.copy_ #[31, 31] 3 #[.slice (some ⟨gc, o, none⟩) W W, .slice (some src) (W - 1) (W - 1)]).run Tryz.prog w = .ok (goInt l.length) w2 ∧ BlkV w2 gc 3 cs1 ∧ w.grownBy w2 (some gc) := by
  refine ⟨_, run_copy_row Tryz.prog w 31 31 3 3 gc o W W src (W - 1) (W - 1) cs0 3 l Tryz.underlying31 (by kernel_rfl) hB ?_ ?_ ?_ ?_, ?_, ?_⟩
  · rw [hl]
    exact (Nat.min_eq_left (by omega)).symm
  · intro j v hv
    obtain ⟨n, e1, e2⟩ := hsrc j (by rw [← hl]; exact (List.getElem?_eq_some_iff.1 hv).1)
    rw [e2, ← e1, hv]
  · rw [hl]; omega
  · intro v hv
    obtain ⟨j, hj⟩ := List.getElem?_of_mem hv
    obtain ⟨n, e1, e2⟩ := hsrc j (by rw [← hl]; exact (List.getElem?_eq_some_iff.1 hj).1)
    rw [hj] at e1
    cases e1
    rfl
  · rw [h1]; exact hB.row _
  · rw [← h1]; exact egrown_row _ _ _

/-- what lies below the row -/
def BelowAt (sw : Bool) (A B : List UInt8) (cs : Array Value) (o : Nat) : Prop :=
  o + 2 * (B.length + 1) ≤ cs.size ∧ (∀ q, q ≤ B.length → cs[o + (B.length + 1) + q]? = some (intC (lev sw A.tail (B.drop q)))) ∧
    (1 < A.length → o + 3 * (B.length + 1) ≤ cs.size ∧ ∀ q, q ≤ B.length → cs[o + 2 * (B.length + 1) + q]? = some (intC (lev sw A.tail.tail (B.drop q))))

theorem BelowAt.fill {sw : Bool} {A B : List UInt8} {cs0 cs : Array Value} {o k : Nat} (h : BelowAt sw A B cs0 o) (hf : FillAt sw A B cs0 cs o k) : BelowAt sw A B cs o := by
  obtain ⟨h1, h2, h3⟩ := h
  obtain ⟨f1, f2, f3, f4⟩ := hf
  refine ⟨by rw [f1]; exact h1, fun q hq => ?_, fun hA => ⟨by rw [f1]; exact (h3 hA).1, fun q hq => ?_⟩⟩
  · rw [f4 _ (.inr (by omega))]; exact h2 q hq
  · rw [f4 _ (.inr (by omega))]; exact (h3 hA).2 q hq

end Go.Proofs.YthjbekgognfiiaaGreat

/-
  Normalization: plain facts without the program. By an AI agent.
-/
namespace Go.Proofs.YthjbekgognfiiaaGreat

def isTextB (l : List UInt8) : Bool := decide (l.length ≤ 40 ∧ ∀ c ∈ l, 32 ≤ c.toNat ∧ c.toNat ≤ 126)

theorem text_long {l : List UInt8} (h : 40 < l.length) : isTextB l = false := by
  unfold isTextB
  exact decide_eq_false (fun e => by omega)

theorem text_bad {l : List UInt8} {c : UInt8} (hc : c ∈ l) (h : c.toNat < 32 ∨ 126 < c.toNat) : isTextB l = false := by
  unfold isTextB
  refine decide_eq_false (fun e => ?_)
  have := e.2 c hc
  omega

theorem text_ok {l : List UInt8} (h1 : l.length ≤ 40) (h2 : ∀ c ∈ l, 32 ≤ c.toNat ∧ c.toNat ≤ 126) : isTextB l = true := by
  unfold isTextB
  exact decide_eq_true ⟨h1, h2⟩

/-- A to Z by a to z -/
def foldB (c : UInt8) : UInt8 := if 65 ≤ c.toNat ∧ c.toNat ≤ 90 then UInt8.ofNat (c.toNat + 32) else c
def foldL (l : List UInt8) : List UInt8 := l.map foldB

theorem foldB_yes {c : UInt8} (h1 : 65 ≤ c.toNat) (h2 : c.toNat ≤ 90) : foldB c = UInt8.ofNat (c.toNat + 32) := by unfold foldB; rw [if_pos ⟨h1, h2⟩]
theorem foldB_no {c : UInt8} (h : ¬ (65 ≤ c.toNat ∧ c.toNat ≤ 90)) : foldB c = c := by unfold foldB; rw [if_neg h]
theorem foldL_snoc (l : List UInt8) (c : UInt8) : foldL (l ++ [c]) = foldL l ++ [foldB c] := by simp [foldL]
theorem foldL_length (l : List UInt8) : (foldL l).length = l.length := by simp [foldL]

/-- a letter or a digit -/
def isWordI (x : Int) : Bool := decide ((97 ≤ x ∧ x ≤ 122) ∨ (65 ≤ x ∧ x ≤ 90) ∨ (48 ≤ x ∧ x ≤ 57))

theorem wordI_yes {x : Int} (h : (97 ≤ x ∧ x ≤ 122) ∨ (65 ≤ x ∧ x ≤ 90) ∨ (48 ≤ x ∧ x ≤ 57)) : isWordI x = true := decide_eq_true h
theorem wordI_no {x : Int} (h : ¬ ((97 ≤ x ∧ x ≤ 122) ∨ (65 ≤ x ∧ x ≤ 90) ∨ (48 ≤ x ∧ x ≤ 57))) : isWordI x = false := decide_eq_false h
theorem of_wordI {x : Int} (h : isWordI x = true) : (97 ≤ x ∧ x ≤ 122) ∨ (65 ≤ x ∧ x ≤ 90) ∨ (48 ≤ x ∧ x ≤ 57) := of_decide_eq_true h
theorem of_not_wordI {x : Int} (h : isWordI x = false) : ¬ ((97 ≤ x ∧ x ≤ 122) ∨ (65 ≤ x ∧ x ≤ 90) ∨ (48 ≤ x ∧ x ≤ 57)) := of_decide_eq_false h

/-- no apostrophe; any other byte that is neither a letter nor a digit by a space -/
def stripB (c : UInt8) : List UInt8 := if isWordI c.toNat = true then [c] else if c.toNat = 39 then [] else [32]
def stripL (l : List UInt8) : List UInt8 := l.flatMap stripB

theorem stripB_word {c : UInt8} (h : isWordI c.toNat = true) : stripB c = [c] := by unfold stripB; rw [if_pos h]
theorem stripB_mark {c : UInt8} (h : c.toNat = 39) : stripB c = [] := by
  unfold stripB
  rw [if_neg (by rw [h]; decide), if_pos h]
theorem stripB_other {c : UInt8} (h : isWordI c.toNat = false) (h1 : c.toNat ≠ 39) : stripB c = [32] := by
  unfold stripB
  rw [if_neg (by rw [h]; decide), if_neg h1]
theorem stripL_snoc (l : List UInt8) (c : UInt8) : stripL (l ++ [c]) = stripL l ++ stripB c := by simp [stripL]
theorem stripB_length (c : UInt8) : (stripB c).length ≤ 1 := by unfold stripB; split <;> (try split) <;> simp
theorem stripL_length (l : List UInt8) : (stripL l).length ≤ l.length := by
  induction l with
  | nil => simp [stripL]
  | cons c l ih =>
    have h1 := stripB_length c
    have e : stripL (c :: l) = stripB c ++ stripL l := by simp [stripL]
    rw [e, List.length_append, List.length_cons]
    omega

/-- one byte more, what is written and whether the byte before was a space -/
def cStep (p : List UInt8 × Bool) (c : UInt8) : List UInt8 × Bool :=
  if c = 32 then (p.1, true) else ((if p.1 ≠ [] ∧ p.2 = true then p.1 ++ [32] else p.1) ++ [c], false)
def collS (l : List UInt8) : List UInt8 × Bool := l.foldl cStep ([], false)
def collL (l : List UInt8) : List UInt8 := (collS l).1

theorem collS_snoc (l : List UInt8) (c : UInt8) : collS (l ++ [c]) = cStep (collS l) c := by simp [collS]
theorem collS_snd (l : List UInt8) : (collS l).2 = (l.getLast? == some 32) := by
  rcases List.eq_nil_or_concat l with rfl | ⟨r, c, rfl⟩
  · rfl
  · rw [List.concat_eq_append, collS_snoc, List.getLast?_append]
    unfold cStep
    by_cases h : c = 32
    · simp [h]
    · simp [h]

theorem collL_space (l : List UInt8) : collL (l ++ [32]) = collL l := by
  unfold collL; rw [collS_snoc]; rfl

theorem collL_join {l : List UInt8} {c : UInt8} (hc : c ≠ 32) (h1 : collL l ≠ []) (h2 : l.getLast? = some 32) : collL (l ++ [c]) = (collL l ++ [32]) ++ [c] := by
  have h3 : (collS l).2 = true := by rw [collS_snd, h2]; rfl
  unfold collL at h1 ⊢
  rw [collS_snoc]
  unfold cStep
  rw [if_neg hc, if_pos ⟨h1, h3⟩]

theorem collL_first {l : List UInt8} {c : UInt8} (hc : c ≠ 32) (h : collL l = []) : collL (l ++ [c]) = [] ++ [c] := by
  unfold collL at h ⊢
  rw [collS_snoc]
  unfold cStep
  rw [if_neg hc, if_neg (fun e => e.1 h), h]

theorem collL_next {l : List UInt8} {c : UInt8} (hc : c ≠ 32) (h : l.getLast? ≠ some 32) : collL (l ++ [c]) = collL l ++ [c] := by
  have h3 : (collS l).2 = false := by rw [collS_snd]; simpa using h
  unfold collL
  rw [collS_snoc]
  unfold cStep
  rw [if_neg hc, if_neg (fun e => by rw [h3] at e; exact absurd e.2 (by decide))]

theorem snoc_ind {α : Type} {P : List α → Prop} (h0 : P []) (h1 : ∀ l c, P l → P (l ++ [c])) (l : List α) : P l := by
  have h : ∀ l : List α, P l.reverse := by
    intro l
    induction l with
    | nil => exact h0
    | cons c l ih => rw [List.reverse_cons]; exact h1 _ _ ih
  simpa using h l.reverse

theorem collL_length (l : List UInt8) : (collL l).length ≤ 2 * l.length := by
  induction l using snoc_ind with
  | h0 => simp [collL, collS]
  | h1 l c ih =>
    by_cases hc : c = 32
    · subst hc; rw [collL_space]; simp; omega
    · unfold collL at ih ⊢
      rw [collS_snoc]
      unfold cStep
      rw [if_neg hc]
      simp only [List.length_append, List.length_cons, List.length_nil]
      split <;> (try simp only [List.length_append, List.length_cons, List.length_nil]) <;> omega

def normL (l : List UInt8) : List UInt8 := collL (stripL (foldL l))

theorem norm_len (l : List UInt8) : (normL l).length ≤ 2 * l.length := by
  have h1 := collL_length (stripL (foldL l))
  have h2 := stripL_length (foldL l)
  rw [foldL_length] at h2
  unfold normL
  omega

end Go.Proofs.YthjbekgognfiiaaGreat

/-
  Words and their first bytes: plain facts without the program. By an AI agent.
-/
namespace Go.Proofs.YthjbekgognfiiaaGreat

/-- one byte more: the words that have ended and the one under way -/
def wStep (p : List (List UInt8) × List UInt8) (c : UInt8) : List (List UInt8) × List UInt8 :=
  if c = 32 then (if p.2 = [] then p else (p.1 ++ [p.2], [])) else (p.1, p.2 ++ [c])
def wS (l : List UInt8) : List (List UInt8) × List UInt8 := l.foldl wStep ([], [])
def wordsL (l : List UInt8) : List (List UInt8) := if (wS l).2 = [] then (wS l).1 else (wS l).1 ++ [(wS l).2]

theorem wS_snoc (l : List UInt8) (c : UInt8) : wS (l ++ [c]) = wStep (wS l) c := by simp [wS]

/-- the bytes behind a space, and the first one -/
def iStep (p : List UInt8 × Bool) (c : UInt8) : List UInt8 × Bool := (if p.2 = true then p.1 ++ [c] else p.1, c == 32)
def iS (l : List UInt8) : List UInt8 × Bool := l.foldl iStep ([], true)
theorem iS_snoc (l : List UInt8) (c : UInt8) : iS (l ++ [c]) = iStep (iS l) c := by simp [iS]

/-- no space at the head, no two spaces in a row -/
def Good (l : List UInt8) : Prop := ∀ k : Nat, l[k]? = some 32 → 0 < k ∧ l[k - 1]? ≠ some 32

theorem Good.snoc {l : List UInt8} {c : UInt8} (h : Good (l ++ [c])) : Good l := by
  intro k hk
  have hlt : k < l.length := (List.getElem?_eq_some_iff.1 hk).1
  have := h k (by rw [List.getElem?_append_left hlt]; exact hk)
  refine ⟨this.1, ?_⟩
  have h2 := this.2
  rw [List.getElem?_append_left (by omega)] at h2
  exact h2

theorem Good.nil : Good [] := by intro k hk; simp at hk

theorem Good.add {l : List UInt8} {c : UInt8} (h : Good l) (hc : c = 32 → l ≠ [] ∧ l.getLast? ≠ some 32) : Good (l ++ [c]) := by
  intro k hk
  have hlt : k < (l ++ [c]).length := (List.getElem?_eq_some_iff.1 hk).1
  rw [List.length_append, List.length_singleton] at hlt
  rcases Nat.lt_or_ge k l.length with h1 | h1
  · rw [List.getElem?_append_left h1] at hk
    have := h k hk
    exact ⟨this.1, by rw [List.getElem?_append_left (by omega)]; exact this.2⟩
  · obtain rfl : k = l.length := by omega
    simp at hk
    obtain ⟨h2, h3⟩ := hc hk
    have h4 : 0 < l.length := List.length_pos_iff.2 h2
    refine ⟨h4, ?_⟩
    rw [List.getElem?_append_left (by omega), ← List.getLast?_eq_getElem?]
    exact h3

/-- what is collapsed ends with no space -/
theorem coll_last (l : List UInt8) : (collL l).getLast? ≠ some 32 := by
  induction l using snoc_ind with
  | h0 => simp [collL, collS]
  | h1 l c ih =>
    by_cases hc : c = 32
    · subst hc; rw [collL_space]; exact ih
    · unfold collL at ih ⊢
      rw [collS_snoc]
      unfold cStep
      rw [if_neg hc]
      simp [List.getLast?_append, hc]

theorem coll_good (l : List UInt8) : Good (collL l) := by
  induction l using snoc_ind with
  | h0 => simpa [collL, collS] using Good.nil
  | h1 l c ih =>
    by_cases hc : c = 32
    · subst hc; rw [collL_space]; exact ih
    · have hl := coll_last l
      unfold collL at ih hl ⊢
      rw [collS_snoc]
      unfold cStep
      rw [if_neg hc]
      refine Good.add ?_ (fun e => absurd e hc)
      split
      · rename_i h
        exact Good.add ih (fun _ => ⟨h.1, hl⟩)
      · exact ih

theorem norm_good (l : List UInt8) : Good (normL l) := coll_good _

/-- every byte is a letter, a digit or a space -/
def AllWS (l : List UInt8) : Prop := ∀ c ∈ l, isWordI c.toNat = true ∨ c = 32

theorem strip_ws (l : List UInt8) : AllWS (stripL l) := by
  intro c hc
  unfold stripL at hc
  rw [List.mem_flatMap] at hc
  obtain ⟨x, _, hx⟩ := hc
  unfold stripB at hx
  split at hx
  · rename_i h
    simp at hx
    subst hx
    exact .inl h
  · split at hx
    · simp at hx
    · simp at hx
      exact .inr hx

theorem coll_mem {l : List UInt8} {c : UInt8} (h : c ∈ collL l) : c ∈ l ∨ c = 32 := by
  induction l using snoc_ind with
  | h0 => simp [collL, collS] at h
  | h1 l x ih =>
    by_cases hx : x = 32
    · subst hx
      rw [collL_space] at h
      rcases ih h with h | h
      · exact .inl (by simp [h])
      · exact .inr h
    · unfold collL at h ih
      rw [collS_snoc] at h
      unfold cStep at h
      rw [if_neg hx] at h
      simp only [List.mem_append, List.mem_singleton] at h
      rcases h with h | h
      · split at h
        · simp only [List.mem_append, List.mem_singleton] at h
          rcases h with h | h
          · rcases ih h with h | h
            · exact .inl (by simp [h])
            · exact .inr h
          · exact .inr h
        · rcases ih h with h | h
          · exact .inl (by simp [h])
          · exact .inr h
      · exact .inl (by simp [h])

theorem norm_ws (l : List UInt8) : AllWS (normL l) := by
  intro c hc
  rcases coll_mem hc with h | h
  · exact strip_ws _ c h
  · exact .inr h

/-- the first byte of each word -/
def headsL (ws : List (List UInt8)) : List UInt8 := ws.filterMap List.head?

theorem heads_snoc (ws : List (List UInt8)) (c : UInt8) (r : List UInt8) : headsL (ws ++ [c :: r]) = headsL ws ++ [c] := by simp [headsL]

theorem last_snd (l : List UInt8) : (iS l).2 = (decide (l = []) || (l.getLast? == some 32)) := by
  rcases List.eq_nil_or_concat l with rfl | ⟨r, c, rfl⟩
  · rfl
  · rw [List.concat_eq_append, iS_snoc, List.getLast?_append]
    unfold iStep
    simp

theorem words_inv (l : List UInt8) (h : Good l) : (iS l).1 = headsL (wordsL l) ∧ (iS l).2 = decide ((wS l).2 = []) := by
  induction l using snoc_ind with
  | h0 => simp [iS, wS, wordsL, headsL]
  | h1 l c ih =>
    obtain ⟨h1, h2⟩ := ih h.snoc
    have hp := last_snd l
    by_cases hc : c = 32
    · subst hc
      have hg := h l.length (by simp)
      have hp2 : (iS l).2 = false := by
        rw [hp]
        have h4 : l ≠ [] := List.length_pos_iff.1 hg.1
        have h5 := hg.2
        rw [List.getElem?_append_left (by omega), ← List.getLast?_eq_getElem?] at h5
        simp [h4, h5]
      have hw : (wS l).2 ≠ [] := by
        intro e
        rw [h2] at hp2
        simp [e] at hp2
      unfold wordsL at h1 ⊢
      rw [iS_snoc, wS_snoc]
      unfold iStep wStep
      rw [if_neg hw] at h1
      simp [hp2, hw, h1]
    · unfold wordsL at h1 ⊢
      rw [iS_snoc, wS_snoc]
      unfold iStep wStep
      rw [if_neg hc]
      simp only [List.append_ne_nil_of_right_ne_nil _ (List.cons_ne_nil c []), if_false, decide_false]
      refine ⟨?_, by simp [hc]⟩
      by_cases hw : (wS l).2 = []
      · rw [h2, hw]
        rw [if_pos hw] at h1
        simp only [List.nil_append, heads_snoc, decide_true, if_true]
        rw [h1]
      · rw [h2]
        rw [if_neg hw] at h1
        obtain ⟨x, r, hx⟩ := List.exists_cons_of_ne_nil hw
        rw [hx] at h1 ⊢
        rw [heads_snoc] at h1
        rw [List.cons_append, heads_snoc]
        simpa using h1

theorem initials_same (l : List UInt8) (h : Good l) : (iS l).1 = headsL (wordsL l) := (words_inv l h).1

end Go.Proofs.YthjbekgognfiiaaGreat

/-
  Tokens and grams: plain facts without the program. By an AI agent.
-/
namespace Go.Proofs.YthjbekgognfiiaaGreat
open Go

/-- a text cut at a byte: the parts that have ended and the one under way -/
def kStep (sep : UInt8) (p : List Str × Str) (c : UInt8) : List Str × Str := if c = sep then (p.1 ++ [p.2], []) else (p.1, p.2 ++ [c])
def kS (sep : UInt8) (l : Str) : List Str × Str := l.foldl (kStep sep) ([], [])
def cutL (sep : UInt8) (l : Str) : List Str := (kS sep l).1 ++ [(kS sep l).2]
theorem kS_snoc (sep : UInt8) (l : Str) (c : UInt8) : kS sep (l ++ [c]) = kStep sep (kS sep l) c := by simp [kS]
theorem kS_len (sep : UInt8) (l : Str) : (kS sep l).1.length ≤ l.length := by
  induction l using snoc_ind with
  | h0 => simp [kS]
  | h1 l c ih =>
    rw [kS_snoc]
    unfold kStep
    split <;> simp <;> omega
theorem kS_at (sep : UInt8) (l : Str) (c : UInt8) (h : c = sep) : kS sep (l ++ [c]) = ((kS sep l).1 ++ [(kS sep l).2], []) := by
  rw [kS_snoc]; unfold kStep; rw [if_pos h]
theorem kS_off (sep : UInt8) (l : Str) (c : UInt8) (h : c ≠ sep) : kS sep (l ++ [c]) = ((kS sep l).1, (kS sep l).2 ++ [c]) := by
  rw [kS_snoc]; unfold kStep; rw [if_neg h]

def ne0 (x : Str) : Bool := !x.isEmpty
theorem ne0_yes {x : Str} (h : x ≠ []) : ne0 x = true := by cases x <;> simp_all [ne0]
theorem ne0_nil : ne0 [] = false := rfl

theorem cut_words_inv (l : Str) : (kS 32 l).1.filter ne0 = (wS l).1 ∧ (kS 32 l).2 = (wS l).2 := by
  induction l using snoc_ind with
  | h0 => simp [kS, wS]
  | h1 l c ih =>
    obtain ⟨h1, h2⟩ := ih
    rw [kS_snoc, wS_snoc]
    unfold kStep wStep
    by_cases hc : c = 32
    · rw [if_pos hc, if_pos hc]
      by_cases he : (wS l).2 = []
      · rw [if_pos he]
        refine ⟨?_, by simp [he]⟩
        rw [List.filter_append, h1, h2, he]
        simp [ne0_nil]
      · rw [if_neg he]
        refine ⟨?_, rfl⟩
        rw [List.filter_append, h1, h2]
        simp [ne0_yes he]
    · rw [if_neg hc, if_neg hc]
      exact ⟨h1, by rw [h2]⟩

theorem cut_words (l : Str) : (cutL 32 l).filter ne0 = wordsL l := by
  obtain ⟨h1, h2⟩ := cut_words_inv l
  unfold cutL wordsL
  rw [List.filter_append, h1, h2]
  by_cases he : (wS l).2 = []
  · rw [if_pos he, he]; simp [ne0_nil]
  · rw [if_neg he]; simp [ne0_yes he]

theorem words_len (l : Str) : (wordsL l).length ≤ l.length + 1 := by
  have h1 := congrArg List.length (cut_words l)
  have h2 := List.length_filter_le ne0 (cutL 32 l)
  have h3 := kS_len 32 l
  unfold cutL at h2
  unfold cutL at h1
  simp only [List.length_append, List.length_singleton] at h2
  omega

/-- all bytes of the words are bytes of the text, and no spaces -/
theorem wS_bytes (l : Str) : (∀ x ∈ (wS l).1, x ≠ [] ∧ ∀ c ∈ x, c ∈ l ∧ c ≠ 32) ∧ (∀ c ∈ (wS l).2, c ∈ l ∧ c ≠ 32) := by
  induction l using snoc_ind with
  | h0 => simp [wS]
  | h1 l c ih =>
    obtain ⟨h1, h2⟩ := ih
    have m1 : ∀ x ∈ (wS l).1, x ≠ [] ∧ ∀ d ∈ x, d ∈ l ++ [c] ∧ d ≠ 32 := fun x hx => ⟨(h1 x hx).1, fun d hd => ⟨by simp [((h1 x hx).2 d hd).1], ((h1 x hx).2 d hd).2⟩⟩
    have m2 : ∀ d ∈ (wS l).2, d ∈ l ++ [c] ∧ d ≠ 32 := fun d hd => ⟨by simp [(h2 d hd).1], (h2 d hd).2⟩
    rw [wS_snoc]
    unfold wStep
    by_cases hc : c = 32
    · rw [if_pos hc]
      by_cases he : (wS l).2 = []
      · rw [if_pos he]; exact ⟨m1, m2⟩
      · rw [if_neg he]
        refine ⟨fun x hx => ?_, fun d hd => by cases hd⟩
        rcases List.mem_append.1 hx with hx | hx
        · exact m1 x hx
        · simp at hx; subst hx; exact ⟨he, m2⟩
    · rw [if_neg hc]
      refine ⟨m1, fun d hd => ?_⟩
      rcases List.mem_append.1 hd with hd | hd
      · exact m2 d hd
      · simp at hd; subst hd; exact ⟨by simp, hc⟩

theorem words_bytes (l : Str) : ∀ x ∈ wordsL l, x ≠ [] ∧ ∀ c ∈ x, c ∈ l ∧ c ≠ 32 := by
  obtain ⟨h1, h2⟩ := wS_bytes l
  intro x hx
  unfold wordsL at hx
  by_cases he : (wS l).2 = []
  · rw [if_pos he] at hx; exact h1 x hx
  · rw [if_neg he] at hx
    rcases List.mem_append.1 hx with hx | hx
    · exact h1 x hx
    · simp at hx; subst hx; exact ⟨he, h2⟩

theorem wS_short (l : Str) : (∀ x ∈ (wS l).1, x.length ≤ l.length) ∧ (wS l).2.length ≤ l.length := by
  induction l using snoc_ind with
  | h0 => simp [wS]
  | h1 l c ih =>
    obtain ⟨h1, h2⟩ := ih
    rw [wS_snoc]
    unfold wStep
    have hl : (l ++ [c]).length = l.length + 1 := by simp
    rw [hl]
    split
    · split
      · exact ⟨fun x hx => by have := h1 x hx; omega, by omega⟩
      · refine ⟨fun x hx => ?_, by simp⟩
        rcases List.mem_append.1 hx with hx | hx
        · have := h1 x hx; omega
        · simp at hx; subst hx; omega
    · refine ⟨fun x hx => by have := h1 x hx; omega, ?_⟩
      simp
      omega
theorem words_short (l : Str) : ∀ x ∈ wordsL l, x.length ≤ l.length := by
  obtain ⟨h1, h2⟩ := wS_short l
  intro x hx
  unfold wordsL at hx
  split at hx
  · exact h1 x hx
  · rcases List.mem_append.1 hx with hx | hx
    · exact h1 x hx
    · simp at hx; subst hx; exact h2

/-- the tokens of a text -/
def toksL (s : Str) : List Str := setL (wordsL (normL s))

/-- all parts of q bytes -/
def gramsL (s : Str) (q : Nat) : List Str := (List.range (s.length + 1 - q)).map fun i => (s.drop i).take q
theorem grams_len (s : Str) (q : Nat) : (gramsL s q).length = s.length + 1 - q := by simp [gramsL]
theorem grams_take (s : Str) (q k : Nat) (h : k + q ≤ s.length) : (gramsL s q).take (k + 1) = (gramsL s q).take k ++ [(s.drop k).take q] := by
  have hlt : k < (gramsL s q).length := by rw [grams_len]; omega
  rw [List.take_succ_eq_append_getElem hlt]
  simp [gramsL]
theorem grams_all (s : Str) (q k : Nat) (h : s.length + 1 - q ≤ k) : (gramsL s q).take k = gramsL s q := List.take_of_length_le (by rw [grams_len]; exact h)

/-- a letter a to z or a digit -/
def lowB (c : UInt8) : Bool := isWordI c.toNat && !(decide (65 ≤ c.toNat ∧ c.toNat ≤ 90))
def tokB (x : Str) : Bool := ne0 x && x.all lowB

theorem lowB_fold {c : UInt8} (h : isWordI c.toNat = true) : lowB c = true ↔ foldB c = c := by
  unfold lowB
  rw [h]
  by_cases hu : 65 ≤ c.toNat ∧ c.toNat ≤ 90
  · rw [foldB_yes hu.1 hu.2]
    simp only [hu, and_self, decide_true, Bool.not_true, Bool.and_false, Bool.false_eq_true, false_iff]
    intro e
    have := congrArg UInt8.toNat e
    rw [UInt8.toNat_ofNat'] at this
    omega
  · rw [foldB_no hu]
    simp [hu]

/-- every element is a token and greater than the one before it -/
def TokSet (l : List Str) : Prop := (∀ x ∈ l, tokB x = true) ∧ Asc l

theorem asc_snoc {l : List Str} {x : Str} : Asc (l ++ [x]) ↔ Asc l ∧ ∀ y, l.getLast? = some y → y < x := by
  unfold Asc
  rw [List.pairwise_append]
  constructor
  · rintro ⟨h1, -, h2⟩
    exact ⟨h1, fun y hy => h2 y (List.mem_of_getLast? hy) x (by simp)⟩
  · rintro ⟨h1, h2⟩
    refine ⟨h1, by simp, fun y hy z hz => ?_⟩
    simp at hz
    subst hz
    rcases List.eq_nil_or_concat l with rfl | ⟨r, c, rfl⟩
    · cases hy
    · rw [List.concat_eq_append] at *
      have hc := h2 c (by simp)
      rcases List.mem_append.1 hy with hy | hy
      · exact str_lt_trans ((List.pairwise_append.1 h1).2.2 y hy c (by simp)) hc
      · simp at hy; subst hy; exact hc

noncomputable def tsB (l : List Str) : Bool := @decide (TokSet l) (Classical.propDecidable _)
theorem tsB_yes {l : List Str} (h : TokSet l) : tsB l = true := by unfold tsB; exact (@decide_eq_true_iff _ (Classical.propDecidable _)).2 h
theorem tsB_no {l : List Str} (h : ¬ TokSet l) : tsB l = false := by unfold tsB; exact (@decide_eq_false_iff_not _ (Classical.propDecidable _)).2 h

theorem tok_step {l : List Str} {x : Str} (h : TokSet l) (hx : tokB x = true) (hl : ∀ y, l.getLast? = some y → y < x) : TokSet (l ++ [x]) :=
  ⟨fun y hy => by rcases List.mem_append.1 hy with hy | hy; exact h.1 y hy; simp at hy; subst hy; exact hx, asc_snoc.2 ⟨h.2, hl⟩⟩
theorem tok_bad {l : List Str} {x : Str} (hx : x ∈ l) (h : tokB x = false) : ¬ TokSet l := fun e => by rw [e.1 x hx] at h; cases h
theorem tok_order {l : List Str} {k : Nat} {x y : Str} (hy : l[k]? = some y) (hx : l[k + 1]? = some x) (h : ¬ y < x) : ¬ TokSet l := fun e => by
  obtain ⟨h1, e1⟩ := List.getElem?_eq_some_iff.1 hy
  obtain ⟨h2, e2⟩ := List.getElem?_eq_some_iff.1 hx
  have := List.pairwise_iff_getElem.1 e.2 k (k + 1) h1 h2 (by omega)
  rw [e1, e2] at this
  exact h this

theorem fold_low (c : UInt8) : ¬ (65 ≤ (foldB c).toNat ∧ (foldB c).toNat ≤ 90) := by
  by_cases h : 65 ≤ c.toNat ∧ c.toNat ≤ 90
  · rw [foldB_yes h.1 h.2, UInt8.toNat_ofNat']
    omega
  · rw [foldB_no h]; exact h

/-- no upper-case letter -/
def NoUp (l : Str) : Prop := ∀ c ∈ l, ¬ (65 ≤ c.toNat ∧ c.toNat ≤ 90)
theorem norm_noUp (s : Str) : NoUp (normL s) := by
  intro c hc
  rcases coll_mem hc with h | h
  · unfold stripL at h
    rw [List.mem_flatMap] at h
    obtain ⟨x, hx, hcx⟩ := h
    unfold foldL at hx
    rw [List.mem_map] at hx
    obtain ⟨y, _, rfl⟩ := hx
    unfold stripB at hcx
    split at hcx
    · simp at hcx; subst hcx; exact fold_low y
    · split at hcx
      · simp at hcx
      · simp at hcx; subst hcx; decide
  · subst h; decide

theorem toks_tok (s : Str) : TokSet (toksL s) := by
  refine ⟨fun x hx => ?_, setL_asc _⟩
  unfold toksL at hx
  rw [setL_mem] at hx
  obtain ⟨h1, h2⟩ := words_bytes _ x hx
  unfold tokB
  rw [ne0_yes h1, Bool.true_and, List.all_eq_true]
  intro c hc
  obtain ⟨h3, h4⟩ := h2 c hc
  have h5 : isWordI c.toNat = true := by
    rcases norm_ws s c h3 with h | h
    · exact h
    · exact absurd h h4
  unfold lowB
  rw [h5]
  have := norm_noUp s c h3
  simp [this]

end Go.Proofs.YthjbekgognfiiaaGreat

/-
  Chapter 5's numbers: spec.l5Good, MinOverlap and LengthBounds on both sides, the quotients in thousandths. By an AI agent.
-/
namespace Go.Proofs.YthjbekgognfiiaaGreat
open Go.RowKit
set_option linter.unusedVariables false

/-- a size from 0 to 1000, a threshold from 1 to 1000 -/
def okS (x : Int) : Bool := decide (0 ≤ x) && decide (x ≤ 1000)
def okT (x : Int) : Bool := decide (1 ≤ x) && decide (x ≤ 1000)
theorem okS_yes {x : Int} (h : okS x = true) : 0 ≤ x ∧ x ≤ 1000 := by simpa [okS] using h
theorem okS_no {x : Int} (h : okS x = false) : ¬ (0 ≤ x ∧ x ≤ 1000) := fun k => by simp [okS, k.1, k.2] at h
theorem okT_yes {x : Int} (h : okT x = true) : 1 ≤ x ∧ x ≤ 1000 := by simpa [okT] using h
theorem okT_no {x : Int} (h : okT x = false) : ¬ (1 ≤ x ∧ x ≤ 1000) := fun k => by simp [okT, k.1, k.2] at h
theorem sret_bool {a b : Bool} (h : a = b) : Ending.returned (.bool a) = .returned (.bool b) := by rw [h]
theorem sret_int {k : IntKind} {a b : Int} (h : a = b) : Ending.returned (.int k a) = .returned (.int k b) := by rw [h]

set_option maxRecDepth 100000 in
theorem setSize_is (x : Int) (b : Bool) (w : World) (hb : okS x = b) :
    Calls Tryz.prog 103 #[.int .i64 x] w fun e w' => e = .returned (.bool b) ∧ w' = w := by
  have HB := Lib.hid hb
  clear hb
  by_cases h1 : 0 ≤ x
  · by_cases h2 : x ≤ 1000
    · go_enter Tryz.func103, Tryz.ntmps103
      go_wp2
      go_ret
      exact ⟨sret_bool (by rw [← HB.out]; simp [okS, h1, h2]), rfl⟩
    · go_enter Tryz.func103, Tryz.ntmps103
      go_wp2
      go_ret
      exact ⟨sret_bool (by rw [← HB.out]; simp [okS, h1, h2]), rfl⟩
  · go_enter Tryz.func103, Tryz.ntmps103
    go_wp2
    go_ret
    exact ⟨sret_bool (by rw [← HB.out]; simp [okS]; intro _; omega), rfl⟩

set_option maxRecDepth 100000 in
theorem threshold_is (x : Int) (b : Bool) (w : World) (hb : okT x = b) :
    Calls Tryz.prog 51 #[.int .i64 x] w fun e w' => e = .returned (.bool b) ∧ w' = w := by
  have HB := Lib.hid hb
  clear hb
  by_cases h1 : 1 ≤ x
  · by_cases h2 : x ≤ 1000
    · go_enter Tryz.func51, Tryz.ntmps51
      go_wp2
      go_ret
      exact ⟨sret_bool (by rw [← HB.out]; simp [okT, h1, h2]), rfl⟩
    · go_enter Tryz.func51, Tryz.ntmps51
      go_wp2
      go_ret
      exact ⟨sret_bool (by rw [← HB.out]; simp [okT, h1, h2]), rfl⟩
  · go_enter Tryz.func51, Tryz.ntmps51
    go_wp2
    go_ret
    exact ⟨sret_bool (by rw [← HB.out]; simp [okT]; intro _; omega), rfl⟩

theorem l1In_any (x a b : Int) (r : Bool) (w : World) (h : decide (a ≤ x ∧ x ≤ b) = r) :
    Calls Tryz.prog 37 #[.int .i64 x, .int .i64 a, .int .i64 b] w fun e w' => e = .returned (.bool r) ∧ w' = w := by
  cases r with
  | true =>
    have h1 := of_decide_eq_true h
    exact (l1In_yes x a b w h1.1 h1.2).mono fun e w' k => ⟨k.1, k.2.symm⟩
  | false => exact (l1In_no x a b w (of_decide_eq_false h)).mono fun e w' k => ⟨k.1, k.2.symm⟩
theorem okS_dec (x : Int) : decide (0 ≤ x ∧ x ≤ 1000) = okS x := by unfold okS; by_cases h1 : 0 ≤ x <;> by_cases h2 : x ≤ 1000 <;> simp [h1, h2]
theorem okT_dec (x : Int) : decide (1 ≤ x ∧ x ≤ 1000) = okT x := by unfold okT; by_cases h1 : 1 ≤ x <;> by_cases h2 : x ≤ 1000 <;> simp [h1, h2]

def goodR (x y t : Int) : Bool := okS x && (okS y && okT t)

set_option maxRecDepth 100000 in
theorem good_is (x y t : Int) (r : Bool) (w : World) (h : goodR x y t = r) :
    Calls Tryz.prog 75 #[.int .i64 x, .int .i64 y, .int .i64 t] w fun e w' => e = .returned (.bool r) ∧ w' = w := by
  have HR := Lib.hid h
  clear h
  obtain ⟨bx, hx⟩ : ∃ b, okS x = b := ⟨_, rfl⟩
  obtain ⟨bt, ht⟩ : ∃ b, okT t = b := ⟨_, rfl⟩
  obtain ⟨b0, hy⟩ : ∃ b, okS y = b := ⟨_, rfl⟩
  have HX := Lib.hid ((okS_dec x).trans hx)
  have HY := Lib.hid ((okS_dec y).trans hy)
  have HT := Lib.hid ((okT_dec t).trans ht)
  have HV := Lib.hid (show (bx && (b0 && bt)) = r by rw [← HR.out, goodR, hx, hy, ht])
  clear hx hy ht HR
  have HC := Lib.hid (fun (v c d : Int) (b : Bool) (W : World) (h : decide (c ≤ v ∧ v ≤ d) = b) => l1In_any v c d b W h)
  cases bx
  · go_enter Tryz.func75, Tryz.ntmps75
    go_wp2_with (go_at_call 37; refine (l1In_any _ _ _ _ _ HX.out).mono ?_; rintro e w' ⟨rfl, rfl⟩)
    go_ret
    exact ⟨sret_bool (by rw [← HV.out]; rfl), rfl⟩
  · cases b0
    · go_enter Tryz.func75, Tryz.ntmps75
      go_wp2_with (first
        | (go_at_call 37; (with_reducible refine (l1In_any _ _ _ _ _ HX.out).mono ?_); rintro e w' ⟨rfl, rfl⟩)
        | (go_at_call 37; (with_reducible refine (l1In_any _ _ _ _ _ HY.out).mono ?_); rintro e w' ⟨rfl, rfl⟩))
      all_goals go_ret
      all_goals exact ⟨sret_bool (by rw [← HV.out]; rfl), rfl⟩
    · go_enter Tryz.func75, Tryz.ntmps75
      go_wp2_with (first
        | (go_at_call 37; (with_reducible refine (l1In_any _ _ _ _ _ HX.out).mono ?_); rintro e w' ⟨rfl, rfl⟩)
        | (go_at_call 37; (with_reducible refine (l1In_any _ _ _ _ _ HY.out).mono ?_); rintro e w' ⟨rfl, rfl⟩)
        | (go_at_call 37; (with_reducible refine (l1In_any _ _ _ _ _ HT.out).mono ?_); rintro e w' ⟨rfl, rfl⟩))
      all_goals go_ret
      all_goals exact ⟨sret_bool (by rw [← HV.out]; first | rfl | (cases bt <;> rfl)), rfl⟩

set_option maxRecDepth 100000 in
theorem divideUp_is (n d r : Int) (w : World) (hn : 0 ≤ n) (hn2 : n ≤ 3000000) (hd : 1 ≤ d) (hd2 : d ≤ 3000) (hr : (n + d - 1) / d = r) :
    Calls Tryz.prog 104 #[.int .i64 n, .int .i64 d] w fun e w' => e = .returned (.int .i64 r) ∧ w' = w := by
  have HR := Lib.hid hr
  clear hr
  obtain ⟨m, hm⟩ : ∃ m, n + d - 1 = m := ⟨_, rfl⟩
  have hm0 : 0 ≤ m := by omega
  have hm1 : m ≤ 3003000 := by omega
  have h1 := Int.ediv_nonneg hm0 (show (0 : Int) ≤ d by omega)
  have h2 : m / d ≤ m := Int.ediv_le_self d hm0
  have HM := Lib.hid hm
  go_enter Tryz.func104, Tryz.ntmps104
  go_wp2
  go_ret
  exact ⟨sret_int (by rw [← HR.out, HM.out]), rfl⟩

/-- the least overlap -/
def moR (x y t : Int) : Int := (t * (x + y) + 999 + t) / (1000 + t)

theorem mul_range {a b m n : Int} (h1 : 0 ≤ a) (h2 : a ≤ m) (h3 : 0 ≤ b) (h4 : b ≤ n) : 0 ≤ a * b ∧ a * b ≤ m * n := by
  refine ⟨Int.mul_nonneg h1 h3, ?_⟩
  calc a * b ≤ m * b := Int.mul_le_mul_of_nonneg_right h2 h3
    _ ≤ m * n := Int.mul_le_mul_of_nonneg_left h4 (by omega)
theorem wrap_of {p : Int} (h1 : 0 ≤ p) (h2 : p ≤ 3000000) : IntKind.i64.wrap p = p := IntWalk.i64_in p (by omega)
theorem sret_two {a b c d : Int} (h1 : a = c) (h2 : b = d) : Ending.returned (.tuple #[.int .i64 a, .int .i64 b]) = .returned (.tuple #[.int .i64 c, .int .i64 d]) := by rw [h1, h2]
theorem quo_range {m d : Int} (h1 : 0 ≤ m) (h2 : 1 ≤ d) : 0 ≤ m / d ∧ m / d ≤ m := ⟨Int.ediv_nonneg h1 (by omega), Int.ediv_le_self d h1⟩

/-- the bounds of a size -/
def lbLo (x t : Int) : Int := (x * t + 999) / 1000
def lbHi (x t : Int) : Int := x * 1000 / t

set_option maxRecDepth 100000 in
theorem lb_spec (x t r s : Int) (w : World) (hr : (if okS x && okT t then lbLo x t else -1) = r) (hs : (if okS x && okT t then lbHi x t else -1) = s) :
    Calls Tryz.prog 36 #[.int .i64 x, .int .i64 t] w fun e w' => e = .returned (.tuple #[.int .i64 r, .int .i64 s]) ∧ Below w.heap.size w w' := by
  obtain ⟨g, hg⟩ : ∃ g, (okS x && okT t) = g := ⟨_, rfl⟩
  rw [hg] at hr hs
  have HG := Lib.hid (show goodR x 0 t = g by rw [← hg]; unfold goodR; rw [show okS 0 = true from rfl]; simp)
  have HR := Lib.hid hr
  have HS := Lib.hid hs
  clear hr hs
  cases g
  · clear hg
    go_enter Tryz.func36, Tryz.ntmps36
    go_wp2_with (go_at_call 75; refine (good_is _ _ _ _ _ HG.out).mono ?_; rintro e w' ⟨rfl, rfl⟩)
    go_ret2
    exact ⟨sret_two HR.out HS.out, Below.refl _ _⟩
  · rw [Bool.and_eq_true] at hg
    obtain ⟨hx, ht⟩ := hg
    have hx := okS_yes hx
    have ht := okT_yes ht
    obtain ⟨hx1, hx2⟩ := hx
    obtain ⟨ht1, ht2⟩ := ht
    obtain ⟨p, hp⟩ : ∃ p, x * t = p := ⟨_, rfl⟩
    have hpr := mul_range hx1 hx2 (show 0 ≤ t by omega) ht2
    rw [hp] at hpr
    obtain ⟨hp1, hp2⟩ := hpr
    have hw : IntKind.i64.wrap (x * t) = p := by rw [hp]; exact wrap_of hp1 (by omega)
    have hq := quo_range (show 0 ≤ x * 1000 by omega) (show 1 ≤ t by omega)
    obtain ⟨hq1, hq2⟩ := hq
    have HR2 := Lib.hid (show (p + 999) / 1000 = r by rw [← HR.out, if_pos rfl, lbLo, hp])
    have HS2 := Lib.hid (show x * 1000 / t = s by rw [← HS.out, if_pos rfl, lbHi])
    clear hp
    go_enter Tryz.func36, Tryz.ntmps36
    go_wp2_with (go_at_call 75; refine (good_is _ _ _ _ _ HG.out).mono ?_; rintro e w' ⟨rfl, rfl⟩)
    go_quiet (fail)
    go_wp2
    go_ret2
    exact ⟨sret_two HR2.out HS2.out, ⟨rfl, rfl, rfl, Nat.le_refl _, fun _ _ => rfl⟩⟩

set_option maxRecDepth 100000 in
theorem lb_impl (x t r s : Int) (w : World) (hr : (if okS x && okT t then lbLo x t else -1) = r) (hs : (if okS x && okT t then lbHi x t else -1) = s) :
    Calls Tryz.prog 68 #[.int .i64 x, .int .i64 t] w fun e w' => e = .returned (.tuple #[.int .i64 r, .int .i64 s]) ∧ Below w.heap.size w w' := by
  obtain ⟨bx, hx⟩ : ∃ b, okS x = b := ⟨_, rfl⟩
  obtain ⟨bt, ht⟩ : ∃ b, okT t = b := ⟨_, rfl⟩
  rw [hx, ht] at hr hs
  have HX := Lib.hid hx
  have HT := Lib.hid ht
  have HR := Lib.hid hr
  have HS := Lib.hid hs
  clear hr hs
  cases bx
  · clear hx ht
    go_enter Tryz.func68, Tryz.ntmps68
    go_wp2_with (go_at_call 103; refine (setSize_is _ _ _ HX.out).mono ?_; rintro e w' ⟨rfl, rfl⟩)
    go_ret2
    exact ⟨sret_two HR.out HS.out, Below.refl _ _⟩
  · cases bt
    · clear hx ht
      go_enter Tryz.func68, Tryz.ntmps68
      go_wp2_with (first
        | (go_at_call 103; (with_reducible refine (setSize_is _ _ _ HX.out).mono ?_); rintro e w' ⟨rfl, rfl⟩)
        | (go_at_call 51; (with_reducible refine (threshold_is _ _ _ HT.out).mono ?_); rintro e w' ⟨rfl, rfl⟩))
      go_ret2
      exact ⟨sret_two HR.out HS.out, Below.refl _ _⟩
    · have hx := okS_yes hx
      have ht := okT_yes ht
      obtain ⟨hx1, hx2⟩ := hx
      obtain ⟨ht1, ht2⟩ := ht
      obtain ⟨p, hp⟩ : ∃ p, x * t = p := ⟨_, rfl⟩
      have hpr := mul_range hx1 hx2 (show 0 ≤ t by omega) ht2
      rw [hp] at hpr
      obtain ⟨hp1, hp2⟩ := hpr
      have hw : IntKind.i64.wrap (x * t) = p := by rw [hp]; exact wrap_of hp1 (by omega)
      have hq := quo_range (show 0 ≤ x * 1000 by omega) (show 1 ≤ t by omega)
      obtain ⟨hq1, hq2⟩ := hq
      have HR2 := Lib.hid (show (p + 1000 - 1) / 1000 = r by rw [← HR.out, show (if (true && true) = true then lbLo x t else -1) = lbLo x t from rfl, lbLo, hp]; congr 1; omega)
      have HS2 := Lib.hid (show x * 1000 / t = s by rw [← HS.out]; rfl)
      have HD := Lib.hid (fun j : Nat => divideUp_is p 1000 r (w.drewN j) hp1 (by omega) (by omega) (by omega) HR2.out)
      clear hp
      go_enter Tryz.func68, Tryz.ntmps68
      go_wp2_with (first
        | (go_at_call 103; (with_reducible refine (setSize_is _ _ _ HX.out).mono ?_); rintro e w' ⟨rfl, rfl⟩)
        | (go_at_call 51; (with_reducible refine (threshold_is _ _ _ HT.out).mono ?_); rintro e w' ⟨rfl, rfl⟩))
      go_quiet ((go_at_call 104; with_reducible exact Calls.quiet_of_same (HD.out _)))
      go_wp2
      go_ret2
      exact ⟨sret_two rfl HS2.out, ⟨rfl, rfl, rfl, Nat.le_refl _, fun _ _ => rfl⟩⟩

end Go.Proofs.YthjbekgognfiiaaGreat

/-
  Plain facts on indexes of sets: validity, the place of an identifier, candidates, searches, joins. By an AI agent.
-/
namespace Go.Proofs.YthjbekgognfiiaaGreat
open Go
set_option linter.unusedVariables false

/-- an identifier with tokens -/
abbrev IS := Int × List Str
def idB (z : Int) : Bool := decide (0 ≤ z ∧ z ≤ 999)
noncomputable def okX (x : IS) : Bool := idB x.1 && tsB x.2
theorem okX_parts {x : IS} (h : okX x = true) : 0 ≤ x.1 ∧ x.1 ≤ 999 ∧ tsB x.2 = true := by
  unfold okX idB at h
  rw [Bool.and_eq_true, decide_eq_true_eq] at h
  exact ⟨h.1.1, h.1.2, h.2⟩
def AscX (S : List IS) : Prop := S.Pairwise fun x y => x.1 < y.1
def GoodX (S : List IS) : Prop := (∀ x ∈ S, okX x = true) ∧ AscX S
noncomputable def gxB (S : List IS) : Bool := @decide (GoodX S) (Classical.propDecidable _)
theorem gxB_true {S : List IS} : gxB S = true ↔ GoodX S := by unfold gxB; simp
theorem gxB_no {S : List IS} (h : ¬ GoodX S) : gxB S = false := by unfold gxB; simp [h]
theorem ascX_at {S : List IS} (h : AscX S) {j k : Nat} {x y : IS} (hj : S[j]? = some x) (hk : S[k]? = some y) (hjk : j < k) : x.1 < y.1 := by
  obtain ⟨h1, e1⟩ := List.getElem?_eq_some_iff.1 hj
  obtain ⟨h2, e2⟩ := List.getElem?_eq_some_iff.1 hk
  have := List.pairwise_iff_getElem.1 h j k h1 h2 hjk
  rwa [e1, e2] at this
theorem gx_bad {S : List IS} {k : Nat} {x : IS} (hk : S[k]? = some x) (h : okX x = false) : gxB S = false :=
  gxB_no fun hG => by have := hG.1 x (List.mem_of_getElem? hk); rw [h] at this; cases this
theorem gx_order {S : List IS} {k : Nat} {x y : IS} (hy : S[k]? = some y) (hx : S[k + 1]? = some x) (h : ¬ y.1 < x.1) : gxB S = false :=
  gxB_no fun hG => h (ascX_at hG.2 hy hx (by omega))
theorem takeX {S : List IS} {k : Nat} {x : IS} (h : S[k]? = some x) : S.take (k + 1) = S.take k ++ [x] := by
  obtain ⟨hlt, he⟩ := List.getElem?_eq_some_iff.1 h
  rw [List.take_succ_eq_append_getElem hlt, he]
theorem gx_nil : GoodX [] := ⟨(fun x hx => by cases hx), List.Pairwise.nil⟩
theorem gx_step {S : List IS} {k : Nat} {x : IS} (h : GoodX (S.take k)) (hx : S[k]? = some x) (ho : okX x = true) (hy : ∀ y, k ≠ 0 → S[k - 1]? = some y → y.1 < x.1) : GoodX (S.take (k + 1)) := by
  rw [takeX hx]
  refine ⟨fun y hm => ?_, ?_⟩
  · rcases List.mem_append.1 hm with h1 | h1
    · exact h.1 y h1
    · simp at h1; subst h1; exact ho
  · unfold AscX
    rw [List.pairwise_append]
    refine ⟨h.2, by simp, fun y hm z hz => ?_⟩
    simp at hz
    subst hz
    obtain ⟨j, hj⟩ := List.getElem?_of_mem hm
    have hjk : j < k := by have := (List.getElem?_eq_some_iff.1 hj).1; rw [List.length_take] at this; omega
    have hkl : k < S.length := (List.getElem?_eq_some_iff.1 hx).1
    have hl : S[k - 1]? = some (S[k - 1]'(by omega)) := List.getElem?_eq_getElem _
    have h2 := hy _ (by omega) hl
    by_cases e : j = k - 1
    · subst e
      rw [List.getElem?_take_of_lt (by omega), hl] at hj
      rw [← Option.some.inj hj]
      exact h2
    · have h3 : (S.take k)[k - 1]? = some (S[k - 1]'(by omega)) := by rw [List.getElem?_take_of_lt (by omega)]; exact hl
      have := ascX_at h.2 hj h3 (by omega)
      omega

/-- a valid index -/
noncomputable def ixB (t : Int) (T : List TC) (S : List IS) : Bool := ttB T && (okT t && (decide (S.length ≤ 12) && gxB S))
theorem ixB_parts {t : Int} {T : List TC} {S : List IS} (h : ixB t T S = true) : ttB T = true ∧ okT t = true ∧ S.length ≤ 12 ∧ GoodX S := by
  unfold ixB at h
  rw [Bool.and_eq_true, Bool.and_eq_true, Bool.and_eq_true, decide_eq_true_eq, gxB_true] at h
  exact ⟨h.1, h.2.1, h.2.2.1, h.2.2.2⟩

/-- the first place of an identifier -/
def hasId (S : List IS) (id : Int) : Bool := S.any fun x => x.1 == id
def fiX (S : List IS) (id : Int) : Int := match S.findIdx? fun x => x.1 == id with
  | some k => (k : Int)
  | none => -1
theorem fi_at {S : List IS} {id : Int} {k : Nat} {x : IS} (h : ∀ (j : Nat) (y : IS), j < k → S[j]? = some y → y.1 ≠ id) (hx : S[k]? = some x) (he : x.1 = id) : fiX S id = (k : Int) := by
  have : S.findIdx? (fun x => x.1 == id) = some k := by
    rw [List.findIdx?_eq_some_iff_getElem]
    obtain ⟨hlt, e⟩ := List.getElem?_eq_some_iff.1 hx
    exact ⟨hlt, by rw [e]; simpa using he, fun j hj => by have := h j _ hj (List.getElem?_eq_getElem (by omega)); simpa using this⟩
  unfold fiX
  rw [this]
theorem fi_none {S : List IS} {id : Int} (h : ∀ (j : Nat) (y : IS), S[j]? = some y → y.1 ≠ id) : fiX S id = -1 := by
  have : S.findIdx? (fun x => x.1 == id) = none := by
    rw [List.findIdx?_eq_none_iff]
    intro x hx
    obtain ⟨j, hj⟩ := List.getElem?_of_mem hx
    simpa using h j x hj
  unfold fiX
  rw [this]
theorem hasid_no {S : List IS} {id : Int} (h : ∀ (j : Nat) (y : IS), S[j]? = some y → y.1 ≠ id) : hasId S id = false := by
  unfold hasId
  rw [List.any_eq_false]
  intro x hx
  obtain ⟨j, hj⟩ := List.getElem?_of_mem hx
  simpa using h j x hj
theorem hasid_yes {S : List IS} {id : Int} {k : Nat} {x : IS} (hx : S[k]? = some x) (he : x.1 = id) : hasId S id = true := by
  unfold hasId
  rw [List.any_eq_true]
  exact ⟨x, List.mem_of_getElem? hx, by simpa using he⟩
theorem fi_cases (S : List IS) (id : Int) : (fiX S id = -1 ∧ hasId S id = false) ∨ ∃ k x, fiX S id = (k : Nat) ∧ S[k]? = some x ∧ x.1 = id ∧ hasId S id = true := by
  unfold fiX
  cases e : S.findIdx? fun x => x.1 == id with
  | none =>
    rw [List.findIdx?_eq_none_iff] at e
    refine .inl ⟨rfl, ?_⟩
    unfold hasId
    rw [List.any_eq_false]
    intro x hx
    have := e x hx
    simpa using this
  | some k =>
    rw [List.findIdx?_eq_some_iff_getElem] at e
    obtain ⟨hlt, h1, _⟩ := e
    have hx := List.getElem?_eq_getElem hlt
    exact .inr ⟨k, _, rfl, hx, by simpa using h1, hasid_yes hx (by simpa using h1)⟩

/-- how many sets lie ahead of an identifier -/
def plX (S : List IS) (id : Int) : Nat := (S.takeWhile fun x => decide (x.1 < id)).length
theorem pl_le (S : List IS) (id : Int) : plX S id ≤ S.length := by
  unfold plX
  have := (List.takeWhile_sublist (l := S) fun x => decide (x.1 < id)).length_le
  exact this
theorem pl_at {S : List IS} {id : Int} {k : Nat} (h : ∀ (j : Nat) (y : IS), j < k → S[j]? = some y → y.1 < id) (hk : k ≤ S.length) (hx : ∀ x : IS, S[k]? = some x → ¬ x.1 < id) : plX S id = k := by
  induction S generalizing k with
  | nil => simp at hk; subst hk; rfl
  | cons y S ih =>
    cases k with
    | zero =>
      have := hx y rfl
      simp [plX, this]
    | succ k =>
      have h0 := h 0 y (by omega) rfl
      have h1 : plX S id = k := ih (fun j z hj hz => h (j + 1) z (by omega) (by simpa using hz)) (by simpa using hk) (fun x hx' => hx x (by simpa using hx'))
      unfold plX at h1 ⊢
      rw [List.takeWhile_cons, if_pos (by simpa using h0), List.length_cons, h1]
theorem pl_of_has {S : List IS} {id : Int} {k : Nat} {x : IS} (h : AscX S) (hx : S[k]? = some x) (he : x.1 = id) : plX S id = k := by
  subst he
  exact pl_at (fun j y hj hy => ascX_at h hy hx hj) (by have := (List.getElem?_eq_some_iff.1 hx).1; omega) (fun y hy => by rw [hx] at hy; rw [← Option.some.inj hy]; omega)

def insX (S : List IS) (id : Int) (l : List Str) : List IS := S.take (plX S id) ++ (id, l) :: S.drop (plX S id)
def remX (S : List IS) (id : Int) : List IS := S.eraseIdx (plX S id)
noncomputable def okIns (t : Int) (T : List TC) (S : List IS) (id : Int) (l : List Str) : Bool := ixB t T S && (okX (id, l) && (!hasId S id && decide (S.length ≠ 12)))
noncomputable def okRem (t : Int) (T : List TC) (S : List IS) (id : Int) : Bool := ixB t T S && hasId S id
noncomputable def insR (t : Int) (T : List TC) (S : List IS) (id : Int) (l : List Str) : List IS := if okIns t T S id l then insX S id l else S
noncomputable def remR (t : Int) (T : List TC) (S : List IS) (id : Int) : List IS := if okRem t T S id then remX S id else S
noncomputable def newR (t : Int) (T : List TC) : Bool := ttB T && okT t

end Go.Proofs.YthjbekgognfiiaaGreat

