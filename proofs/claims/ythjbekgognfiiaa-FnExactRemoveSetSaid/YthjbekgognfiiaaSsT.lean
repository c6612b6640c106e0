/-
  What the laws' own szStringSS, toStringSS, eqStringSS and markStringSS do. By an AI agent.
-/
import Derived.Test.YthjbekgognfiiaaSsS
namespace Go.Proofs.Ythjbekgognfiiaa
open Go.RowKit
set_option linter.unusedVariables false

theorem info_ss : (Try.prog.info? 26).map (fun i => (i.zero, i.size, i.bytes)) = some (some (.slice none 0 0), 1, 24) := by kernel_rfl

theorem ss_row_at {vs rest : List Value} {k n : Nat} (h : (vs ++ rest).length = n) (hv : vs.length = k) (hk : k < n) : ∃ y r, rest = y :: r ∧ (vs ++ y :: r)[k]? = some y ∧ ∀ u, (vs ++ y :: r).set k u = (vs ++ [u]) ++ r := by
  match rest, h with
  | [], h => simp at h; omega
  | y :: r, _ =>
    refine ⟨y, r, rfl, ?_, fun u => ?_⟩
    · rw [List.getElem?_append_right (by omega), hv, Nat.sub_self]; rfl
    · rw [List.set_append_right _ _ (by omega), hv, Nat.sub_self, List.set_cons_zero]; simp
theorem snoc_at {α : Type} {vs : List α} {u x : α} {j : Nat} (h : (vs ++ [u])[j]? = some x) : vs[j]? = some x ∨ (j = vs.length ∧ x = u) := by
  rcases Nat.lt_or_ge j vs.length with hlt | hge
  · rw [List.getElem?_append_left hlt] at h; exact .inl h
  · rw [List.getElem?_append_right hge] at h
    have : j - vs.length = 0 := by have := (List.getElem?_eq_some_iff.1 h).1; simp at this; omega
    rw [this] at h
    simp at h
    exact .inr ⟨by omega, h.symm⟩
theorem row_kept {w w' : World} {base : Nat} {v : Value} {l : List Str} {g : Nat} (h : OwnS w base v l) (hg : w.grownBy w' (some g)) (hn : ∀ k, v.ownBlock = some k → k ≠ g) : OwnS w' base v l := by
  refine World.ownsRow.kept h hg ?_
  cases hv : v.ownBlock with
  | none => exact .inl rfl
  | some k => exact .inr fun e => hn k hv (by injection e)

/-- lists of the same lengths -/
def SameLen (ls ls' : List (List Str)) : Prop := ls'.length = ls.length ∧ ∀ (j : Nat) (l l' : List Str), ls[j]? = some l → ls'[j]? = some l' → l'.length = l.length
theorem SameLen.refl (ls : List (List Str)) : SameLen ls ls := ⟨rfl, fun j l l' h h' => by rw [h] at h'; rw [Option.some.inj h']⟩
def sumL (ls : List (List Str)) (k : Nat) : Nat := (ls.take k).flatten.length
theorem sumL_succ {ls : List (List Str)} {k : Nat} {l : List Str} (h : ls[k]? = some l) : sumL ls (k + 1) = sumL ls k + l.length := by
  unfold sumL
  rw [ss_take h]
  simp
theorem sumL_all (ls : List (List Str)) : sumL ls ls.length = ls.flatten.length := by unfold sumL; rw [List.take_length]
theorem sumL_le (ls : List (List Str)) (k : Nat) : sumL ls k ≤ ls.flatten.length := by
  unfold sumL
  conv => rhs; rw [← List.take_append_drop k ls]
  rw [List.flatten_append, List.length_append]
  omega

end Go.Proofs.Ythjbekgognfiiaa
