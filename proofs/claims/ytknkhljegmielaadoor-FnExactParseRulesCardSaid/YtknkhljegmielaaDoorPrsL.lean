/-
  Slices of rules of the call's own, grown by append; the answer of ParseRules. By an AI agent.
-/
import Derived.Test.YtknkhljegmielaaDoorRuT
import Derived.Test.YtknkhljegmielaaDoorPlainPrs
import Derived.Deep.AppendLies
namespace Go.Proofs.YtknkhljegmielaaDoor
open Go.RowKit
set_option linter.unusedVariables false
set_option linter.unnecessarySimpa false
set_option linter.unusedSimpArgs false

/-- rules and whether they were read are handed back -/
def GivesPR (w : World) (R : List (List TS)) (b : Bool) (e : Ending) (w' : World) : Prop :=
  ∃ a cap q, e = .returned (.tuple #[.agg #[.slice a R.length cap], .bool b]) ∧ rulesU q = R ∧ OwnRu w' w.heap.size (.slice a R.length cap) q ∧ Below w.heap.size w w'
theorem evens_snoc {α : Type} : ∀ {L : List α} {i : Nat} {y : α}, L[i]? = some y → evens (L.take (i + 1)) = if i % 2 = 0 then evens (L.take i) ++ [y] else evens (L.take i)
  | [], i, y, h => by simp at h
  | [x], i, y, h => by
    cases i with
    | zero => simp at h; subst h; rfl
    | succ i => simp at h
  | x :: z :: L, 0, y, h => by simp at h; subst h; rfl
  | x :: z :: L, 1, y, h => by simp [evens]
  | x :: z :: L, i + 2, y, h => by
    have h1 := evens_snoc (L := L) (i := i) (y := y) (by simpa using h)
    simp only [List.take_succ_cons, evens]
    rw [h1, Nat.add_mod_right]
    split <;> rfl
theorem evens_len {α : Type} : ∀ (L : List α), (evens L).length ≤ L.length
  | [] => Nat.le_refl _
  | [x] => Nat.le_refl _
  | x :: y :: L => by have := evens_len L; simp [evens]; omega
theorem OwnRu.snoc {w w3 : World} {lo g : Nat} {v v' u : Value} {q : List XU} {l : List TS} (h : OwnRu w lo v q) (hu : OwnTs w lo u l) (hd : ∀ k, u.ownBlock = some k → v.ownBlock ≠ some k ∧ ∀ p ∈ q, p.2.ownBlock ≠ some k)
    (hg : w.grownBy w3 v.ownBlock) (ho : w3.ownsRow lo 41 1 v' (q.length + 1) (valsU q ++ [u])) (hv' : v'.ownBlock = some g) (hat : v.ownBlock = some g ∨ g = w.heap.size) : OwnRu w3 lo v' (q ++ [(l, u)]) := by
  refine ⟨by simpa [valsU] using ho, fun p hp => ?_, fun p hp k hk e => ?_, ?_⟩
  · rcases List.mem_append.1 hp with h1 | h1
    · exact row_keptO (h.row p h1) hg fun k hk e => h.apart p h1 k e hk
    · obtain rfl : p = (l, u) := by simpa using h1
      exact row_keptO hu hg fun k hk e => (hd k e).1 hk
  · rw [hv'] at e
    injection e with e
    subst e
    rcases List.mem_append.1 hp with h1 | h1
    · rcases hat with h2 | h2
      · exact h.apart p h1 _ hk h2
      · have := (World.ownsRow.lt (h.row p h1) _ hk).2
        omega
    · obtain rfl : p = (l, u) := by simpa using h1
      rcases hat with h2 | h2
      · exact (hd _ hk).1 h2
      · have := (World.ownsRow.lt hu _ hk).2
        omega
  · rw [List.pairwise_append]
    refine ⟨h.dis, List.pairwise_singleton _ _, fun p hp r hr k hk e => ?_⟩
    obtain rfl : r = (l, u) := by simpa using hr
    exact (hd k e).2 p hp hk

/-- append of one test, which lies in a block of its own -/
theorem step_testP {ops : Array Oper} {o : Oper} {a : Act} {W : World} {K : Act → World → Prop} {Q : Exit → Act → World → Prop} {E : Prop} (hgd : o.guard = none) (s y : Operand)
    (hop : o.op = .call { callee := .builtin .append, args := #[s, y], argTypes := #[39, 39] })
    (base : Nat) (v : Value) (l F : List TS) (n m : Nat) (t : TS) (hown : OwnTs W base v l) (hs : a.eval s = v) (hF : l ++ [t] = F) (hn : l.length = n) (hm : n + 1 = m) (q : Nat)
    (hy : a.eval y = .slice (some ⟨q, 0, none⟩) 1 1) (hc : BlkV W q 43 #[.int .i64 t.1.1, .int .i64 t.1.2, .bool t.2]) (hlen : n ≤ 4000000) (hbase : base ≤ W.heap.size)
    (h : ∀ g cap w', OwnTs w' base (.slice (some ⟨g, 0, none⟩) m cap) F → W.grownBy w' v.ownBlock → (v.ownBlock = some g ∨ g = W.heap.size) → K (a.put o.dst (.slice (some ⟨g, 0, none⟩) m cap)) w') :
    if Region.wanted o (yielded ops a.tmps) = true then Oper.wp Tryd.prog o a W K Q else E := by
  obtain ⟨i0, hi, hz0, hz1, hz2⟩ := info_parts info_ts
  subst hn
  refine step_append_lies _ hgd s y 39 hop base 43 i0 _ 3 24 Tryd.underlying39 hi hz0 hz1 hz2 rfl (by decide) v l.length (flatTs l) hs hown
    ⟨q, 0, none⟩ 1 1 [.int .i64 t.1.1, .int .i64 t.1.2, .bool t.2] hy rfl (World.news_of_block (cs := #[.int .i64 t.1.1, .int .i64 t.1.2, .bool t.2]) (fr := (0, 0)) hc) (by simp [Value.oneCell'])
    (by omega) (by unfold maxLen; omega) (by omega) hbase W.heap.size rfl ?_
  intro g cap w' h2 h3 h4 _
  rw [hm] at h2 ⊢
  refine h g cap w' ?_ h3 h4
  unfold OwnTs
  have e : F.length = m := by rw [← hF, ← hm]; simp
  rw [e, ← hF, flatTs_snoc]
  exact h2

end Go.Proofs.YtknkhljegmielaaDoor
