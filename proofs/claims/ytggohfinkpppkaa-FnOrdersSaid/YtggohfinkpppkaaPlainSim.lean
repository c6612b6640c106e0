/-
  How many strings two ascending lists share: plain facts without the program. By an AI agent.
-/
import Derived.Test.YtggohfinkpppkaaPlainSet
namespace Go.Proofs.Ytggohfinkpppkaa
open Go

/-- how many of a are in b -/
def ccN (a b : List Str) : Nat := (a.filter fun x => decide (x ∈ b)).length
theorem cc_nil_left (b : List Str) : ccN [] b = 0 := rfl
theorem cc_nil_right (a : List Str) : ccN a [] = 0 := by simp [ccN]
theorem cc_le (a b : List Str) : ccN a b ≤ a.length := List.length_filter_le _ _
theorem cc_comm {a b : List Str} (ha : Asc a) (hb : Asc b) : ccN a b = ccN b a := by
  have na : a.Nodup := ha.imp fun h => str_ne_of h
  have nb : b.Nodup := hb.imp fun h => str_ne_of h
  exact ((List.perm_ext_iff_of_nodup (List.Pairwise.filter (fun x => decide (x ∈ b)) na) (List.Pairwise.filter (fun x => decide (x ∈ a)) nb)).2 fun x => by simp [List.mem_filter, and_comm]).length_eq
theorem cc_le' {a b : List Str} (ha : Asc a) (hb : Asc b) : ccN a b ≤ b.length := by rw [cc_comm ha hb]; exact cc_le b a
theorem cc_congr {a b b' : List Str} (h : ∀ x ∈ a, (x ∈ b ↔ x ∈ b')) : ccN a b = ccN a b' := by
  unfold ccN
  rw [List.filter_congr (q := fun x => decide (x ∈ b')) fun x hx => by simp [h x hx]]
theorem cc_cons_in {x : Str} {a b : List Str} (h : x ∈ b) : ccN (x :: a) b = ccN a b + 1 := by
  unfold ccN
  rw [List.filter_cons_of_pos (by simpa using h), List.length_cons]
theorem cc_cons_out {x : Str} {a b : List Str} (h : x ∉ b) : ccN (x :: a) b = ccN a b := by
  unfold ccN
  rw [List.filter_cons_of_neg (by simpa using h)]
theorem asc_head {x : Str} {a : List Str} (h : Asc (x :: a)) : ∀ y ∈ a, x < y := (List.pairwise_cons.1 h).1
theorem asc_tail {x : Str} {a : List Str} (h : Asc (x :: a)) : Asc a := (List.pairwise_cons.1 h).2
theorem cc_eq {x : Str} {a b : List Str} (ha : Asc (x :: a)) : ccN (x :: a) (x :: b) = ccN a b + 1 := by
  rw [cc_cons_in (List.mem_cons_self ..)]
  congr 1
  refine cc_congr fun y hy => ?_
  have := asc_head ha y hy
  rw [List.mem_cons]
  exact ⟨fun e => e.resolve_left (fun e => by subst e; exact List.lt_irrefl _ this), .inr⟩
theorem cc_lt {x y : Str} {a b : List Str} (h : x < y) (hb : Asc (y :: b)) : ccN (x :: a) (y :: b) = ccN a (y :: b) := by
  refine cc_cons_out fun e => ?_
  rcases List.mem_cons.1 e with e | e
  · exact str_ne_of h e
  · exact str_ne_of (str_lt_trans h (asc_head hb x e)) rfl
theorem cc_gt {x y : Str} {a b : List Str} (h : y < x) (ha : Asc (x :: a)) : ccN (x :: a) (y :: b) = ccN (x :: a) b := by
  refine cc_congr fun z hz => ?_
  rw [List.mem_cons]
  refine ⟨fun e => e.resolve_left (fun e => ?_), .inr⟩
  subst e
  rcases List.mem_cons.1 hz with e | e
  · exact str_ne_of h e
  · exact str_ne_of (str_lt_trans h (asc_head ha z e)) rfl
theorem common_count {a b : List Str} (ha : Asc a) : (setL (a.filter fun x => decide (x ∈ b))).length = ccN a b := by
  have h : Asc (a.filter fun x => decide (x ∈ b)) := List.Pairwise.filter _ ha
  rw [setL_of_asc h]
  rfl
theorem unite_count {a b : List Str} (ha : Asc a) (hb : Asc b) : (setL (a ++ b)).length + ccN a b = a.length + b.length := by
  have na : a.Nodup := ha.imp fun h => str_ne_of h
  have nb : b.Nodup := hb.imp fun h => str_ne_of h
  have ns : (setL (a ++ b)).Nodup := (setL_asc _).imp fun h => str_ne_of h
  have nc : (a ++ b.filter fun x => !decide (x ∈ a)).Nodup := by
    rw [List.nodup_append]
    refine ⟨na, List.Pairwise.filter _ nb, fun x hx y hy => ?_⟩
    rw [List.mem_filter] at hy
    rintro rfl
    simp [hx] at hy
  have h1 := ((List.perm_ext_iff_of_nodup ns nc).2 fun x => by
    rw [setL_mem, List.mem_append, List.mem_append, List.mem_filter]
    by_cases hx : x ∈ a <;> simp [hx]).length_eq
  rw [h1, List.length_append, cc_comm ha hb]
  have h2 : (b.filter fun x => !decide (x ∈ a)).length + ccN b a = b.length := by
    clear h1 nc ns nb hb
    induction b with
    | nil => rfl
    | cons x b ih =>
      by_cases hx : x ∈ a
      · rw [List.filter_cons_of_neg (by simp [hx]), cc_cons_in hx, List.length_cons]; omega
      · rw [List.filter_cons_of_pos (by simp [hx]), cc_cons_out hx, List.length_cons, List.length_cons]; omega
  omega

end Go.Proofs.Ytggohfinkpppkaa
