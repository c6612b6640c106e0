/-
  Slices of slices of integers of the call's own, grown by append. By an AI agent.
-/
import Derived.Test.YtpldjihajclblaaPutI
import Derived.Test.YtpldjihajclblaaGMem
import Derived.Deep.AppendLies
import Derived.Deep.RegionHeld3
namespace Go.Proofs.Ytpldjihajclblaa
open Go.RowKit
set_option linter.unusedVariables false

theorem info_row : (Try.prog.info? 28).map (fun i => (i.zero, i.size, i.bytes)) = some (some (.slice none 0 0), 1, 24) := by kernel_rfl

/-- a slice that reads as a list of lists -/
def InII (w : World) (a : Option Addr) (ls : List (List Int)) : Prop :=
  0 < ls.length → ∃ b, a = some ⟨b, 0, none⟩ ∧ b < w.heap.size ∧ ∀ j l, ls[j]? = some l → ∃ a' c', w.cell? ⟨b, j, none⟩ = some (.slice a' l.length c') ∧ (a' = none → c' = 0) ∧ l.length ≤ c' ∧ InI w a' l
theorem InII.below {w w' : World} {a : Option Addr} {ls : List (List Int)} (h : InII w a ls) (hb : Below w.heap.size w w') : InII w' a ls := by
  intro h0
  obtain ⟨b, ha, hlt, hc⟩ := h h0
  refine ⟨b, ha, Nat.lt_of_lt_of_le hlt hb.size, fun j l hj => ?_⟩
  obtain ⟨a', c', h1, h2, h3, h4⟩ := hc j l hj
  exact ⟨a', c', (World.cell?_of_block (hb.block b hlt)).trans h1, h2, h3, h4.below hb⟩

structure RowsI (w : World) (lo : Nat) (v : Value) (vs : List Value) (ls : List (List Int)) : Prop where
  len : vs.length = ls.length
  out : w.ownsRow lo 28 1 v ls.length vs
  row : ∀ (j : Nat) (u : Value) (l : List Int), vs[j]? = some u → ls[j]? = some l → OwnI w lo u l
  apart : ∀ (j : Nat) (u : Value) (k : Nat), vs[j]? = some u → u.ownBlock = some k → v.ownBlock ≠ some k
theorem RowsI.below {w w' : World} {lo : Nat} {v : Value} {vs : List Value} {ls : List (List Int)} (h : RowsI w lo v vs ls) (hb : Below w.heap.size w w') : RowsI w' lo v vs ls :=
  ⟨h.len, World.ownsRow.kept h.out (row := none) ⟨hb.os, hb.tape, hb.output, hb.size, fun i hi _ => hb.block i hi⟩ (by cases hv : v.ownBlock <;> simp), fun j u l h1 h2 => (h.row j u l h1 h2).below hb, h.apart⟩
theorem RowsI.mono {w : World} {lo lo' : Nat} {v : Value} {vs : List Value} {ls : List (List Int)} (h : RowsI w lo v vs ls) (hl : lo' ≤ lo) : RowsI w lo' v vs ls := ⟨h.len, row_mono h.out hl, fun j u l h1 h2 => (h.row j u l h1 h2).mono hl, h.apart⟩
theorem RowsI.inII {w : World} {lo : Nat} {a : Option Addr} {cap : Nat} {vs : List Value} {ls : List (List Int)} (h : RowsI w lo (.slice a ls.length cap) vs ls) : InII w a ls := by
  intro h0
  obtain ⟨g, rfl, _, hg, hc⟩ := cell_own h.out h0
  refine ⟨g, rfl, hg, fun j l hj => ?_⟩
  have hlt := (List.getElem?_eq_some_iff.1 hj).1
  have hv : vs[j]? = some (vs[j]'(by rw [h.len]; exact hlt)) := List.getElem?_eq_getElem _
  have ho := h.row j _ l hv hj
  obtain ⟨a', c', e⟩ := ho.shape
  have hcell := hc j _ hv
  rw [e] at ho hcell
  rw [Nat.zero_add] at hcell
  exact ⟨a', c', hcell, rowX_none ho, rowX_cap ho, ho.inI⟩
theorem RowsI.shape {w : World} {lo : Nat} {v : Value} {vs : List Value} {ls : List (List Int)} (h : RowsI w lo v vs ls) : ∃ a cap, v = .slice a ls.length cap := by
  rcases h.out.2 with ⟨rfl, h0⟩ | ⟨g, cap, cur, rfl, _⟩
  · exact ⟨none, 0, by rw [h0]⟩
  · exact ⟨_, _, rfl⟩
theorem RowsI.nil (w : World) (lo : Nat) : RowsI w lo (.slice none 0 0) [] [] := ⟨rfl, World.ownsRow_nil _ _ _ _, fun j u l h => by simp at h, fun j u k h => by simp at h⟩
/-- one slice more -/
theorem RowsI.snoc {w w1 w2 w3 : World} {lo g : Nat} {v v' u : Value} {vs : List Value} {ls : List (List Int)} {l : List Int} (h : RowsI w lo v vs ls) (hlo : lo ≤ w.heap.size) (h1 : Below w.heap.size w w1) (hu : OwnI w1 w.heap.size u l) (h2 : Below w1.heap.size w1 w2) (hg : w2.grownBy w3 v.ownBlock)
    (ho : w3.ownsRow lo 28 1 v' (ls.length + 1) (vs ++ [u])) (hv' : v'.ownBlock = some g) (hat : v.ownBlock = some g ∨ g = w2.heap.size) : RowsI w3 lo v' (vs ++ [u]) (ls ++ [l]) := by
  have h3 := (h.below h1).below h2
  have hvl : ∀ k, v.ownBlock = some k → k < w.heap.size := fun k hk => (World.ownsRow.lt h.out k hk).2
  have hul := fun k hk => World.ownsRow.lt (hu.below h2) k hk
  have hul1 := fun k hk => World.ownsRow.lt hu k hk
  refine ⟨by simp [h.len], by simpa using ho, fun j z m hj hm => ?_, fun j z k hj hk e => ?_⟩
  · rcases snoc_at hj with hj1 | ⟨rfl, rfl⟩
    · have hjl : j < ls.length := by have := (List.getElem?_eq_some_iff.1 hj1).1; have := h.len; omega
      rw [List.getElem?_append_left hjl] at hm
      have h4 := h3.row j z m hj1 hm
      refine World.ownsRow.kept h4 hg ?_
      cases hz : z.ownBlock with
      | none => exact .inl rfl
      | some k => exact .inr fun e => h.apart j z k hj1 hz e.symm
    · rw [h.len, List.getElem?_append_right (Nat.le_refl _), Nat.sub_self] at hm
      simp at hm
      subst hm
      refine World.ownsRow.kept ((hu.below h2).mono hlo) hg ?_
      cases hz : z.ownBlock with
      | none => exact .inl rfl
      | some k => exact .inr fun e => by have := hvl k e.symm; have := (hul k hz).1; omega
  · rw [hv'] at e
    injection e with e
    subst e
    rcases snoc_at hj with hj1 | ⟨rfl, rfl⟩
    · have hjl : j < ls.length := by have := (List.getElem?_eq_some_iff.1 hj1).1; have := h.len; omega
      have h5 := (World.ownsRow.lt (h3.row j z _ hj1 (List.getElem?_eq_getElem hjl)) _ hk).2
      rcases hat with h6 | h6
      · exact h.apart j z _ hj1 hk h6
      · omega
    · have h5 := hul1 _ hk
      rcases hat with h6 | h6
      · have := hvl _ h6; omega
      · have := h2.size; omega

/-- append of one integer to a slice of the call's own: the new slice under a name -/
theorem step_oneI {ops : Array Oper} {o : Oper} {a : Act} {w : World} {K : Act → World → Prop} {Q : Exit → Act → World → Prop} {E : Prop}
    (hg : o.guard = none) (s x : Operand) (hop : o.op = Op.call { callee := Callee.builtin Builtin.append, args := #[s, x], argTypes := #[28, 28] })
    (base : Nat) (v : Value) (l F : List Int) (n : Nat) (y : Int) (hs : a.eval s = v) (ad : Option Addr) (hx : a.eval x = .slice ad 1 1) (hF : l ++ [y] = F) (hn : F.length = n)
    (hown : OwnI w base v l) (hin : InI w ad [y]) (hne : ad ≠ none) (hsz : l.length + 1 ≤ 9000000) (hbase : base ≤ w.heap.size)
    (hK : ∀ a' c' w', OwnI w' base (.slice a' n c') F → w.grownBy w' v.ownBlock → K (a.put o.dst (.slice a' n c')) w') :
    if Region.wanted o (yielded ops a.tmps) = true then Oper.wp Try.prog o a w K Q else E := by
  refine step_appI hg s x hop base v l hs ad 1 1 [y] hx rfl hown hin (fun e => absurd e hne) hsz hbase fun v' w' h1 h2 => ?_
  rw [hF] at h1
  obtain ⟨a', c', rfl⟩ := h1.shape
  rw [hn] at h1 ⊢
  exact hK a' c' w' h1 h2

/-- append of one slice, which lies in a new block of one cell, to a slice of slices of the call's own -/
theorem step_rowI {ops : Array Oper} {o : Oper} {a : Act} {W : World} {K : Act → World → Prop} {Q : Exit → Act → World → Prop} {E : Prop} (hgd : o.guard = none) (s y : Operand)
    (hop : o.op = .call { callee := .builtin .append, args := #[s, y], argTypes := #[39, 39] })
    (base : Nat) (v : Value) (vs : List Value) (n m : Nat) (u : Value) (hown : W.ownsRow base 28 1 v n vs) (hs : a.eval s = v) (hm : n + 1 = m) (q : Nat)
    (hy : a.eval y = .slice (some ⟨q, 0, none⟩) 1 1) (hu : u.oneCell' = true) (hc : W.cell? ⟨q, 0, none⟩ = some u) (hlen : n ≤ 4000000) (hbase : base ≤ W.heap.size)
    (h : ∀ g cap w', w'.ownsRow base 28 1 (.slice (some ⟨g, 0, none⟩) m cap) (n + 1) (vs ++ [u]) → W.grownBy w' v.ownBlock → (v.ownBlock = some g ∨ g = W.heap.size) → K (a.put o.dst (.slice (some ⟨g, 0, none⟩) m cap)) w') :
    if Region.wanted o (yielded ops a.tmps) = true then Oper.wp Try.prog o a W K Q else E := by
  obtain ⟨i0, hi, hz0, hz1, hz2⟩ := info_parts info_row
  refine step_append_lies _ hgd s y 39 hop base 28 i0 _ 1 24 Try.underlying39 hi hz0 hz1 hz2 rfl (by decide) v n vs hs hown
    ⟨q, 0, none⟩ 1 1 [u] hy rfl (fun j x hj => by
      match j, hj with
      | 0, hj => simp at hj; subst hj; simpa [Addr.add] using hc) (fun x hx => by simp at hx; subst hx; exact hu)
    (by omega) (by unfold maxLen; omega) (by omega) hbase W.heap.size rfl ?_
  intro g cap w' h2 h3 h4 _
  subst hm
  exact h g cap w' h2 h3 h4

/-- the lists are handed back -/
def GivesII (w : World) (ls : List (List Int)) (e : Ending) (w' : World) : Prop :=
  ∃ a cap vs, e = .returned (.slice a ls.length cap) ∧ RowsI w' w.heap.size (.slice a ls.length cap) vs ls ∧ Below w.heap.size w w'

end Go.Proofs.Ytpldjihajclblaa
