/-
  Helpers for violations of monotonicity: a copy of a list of integers, a store into it, an element of a slice of slices. By an AI agent.
-/
import Derived.Test.YtpldjihajclblaaRowI
import Derived.Test.YtpldjihajclblaaPlainGrd
namespace Go.Proofs.Ytpldjihajclblaa
open Go.RowKit
set_option linter.unusedVariables false

/-- append of a slice that reads as a list of integers -/
theorem append_l {ops : Array Oper} {rest : List Oper} {o : Oper} {a : Act} {Q : Exit → Act → World → Prop} {W : World} (hgd : o.guard = none) (s y : Operand)
    (ho : o.op = .call { callee := .builtin .append, args := #[s, y], argTypes := #[28, 28] })
    (base : Nat) (v : Value) (l ms F : List Int) (ad : Addr) (c n : Nat) (hF : l ++ ms = F) (hown : OwnI W base v l) (hs : a.eval s = v)
    (hy : a.eval y = .slice (some ad) n c) (hn : n = ms.length) (hin : InI W (some ad) ms) (h0 : 0 < ms.length) (hlen : l.length + ms.length ≤ 9000000) (hbase : base ≤ W.heap.size)
    (h : ∀ a' c' w', OwnI w' base (.slice a' F.length c') F → W.grownBy w' v.ownBlock → wpList Try.prog ops Q rest (a.put o.dst (.slice a' F.length c')) w') :
    wpList Try.prog ops Q (o :: rest) a W := by
  obtain ⟨i0, hi, hz0, hz1, hz2⟩ := info_parts info_i64
  subst hn
  refine wpList_append_own _ hgd s y 28 ho base 3 i0 (.int .i64 0) 1 8 Try.underlying28 hi hz0 hz1 hz2 rfl (by decide) v l.length (l.map encI) hs hown
    ad ms.length c (ms.map encI) hy (by simp) (fun j u hj => by
        rw [List.getElem?_map] at hj
        cases hx : ms[j]? with
        | none => rw [hx] at hj; cases hj
        | some x =>
          rw [hx] at hj
          obtain ⟨b, off, e, _, hc⟩ := hin h0
          obtain rfl : ad = ⟨b, off, none⟩ := Option.some.inj e
          have h2 : (⟨b, off, none⟩ : Addr).add j = ⟨b, off + j, none⟩ := by unfold Addr.add; split <;> simp_all
          rw [h2, hc j x hx]
          exact hj) (by intro u hu; obtain ⟨x, _, rfl⟩ := List.mem_map.1 hu; rfl) (by unfold maxLen; omega) (by omega) hbase ?_
  intro v' w' h2 h3 _
  have h4 : OwnI w' base v' (l ++ ms) := by
    unfold OwnI
    rw [List.length_append, List.map_append]
    exact h2
  rw [hF] at h4
  obtain ⟨a', c', rfl⟩ := h4.shape
  exact h a' c' w' h4 h3

/-- a store into a slice of the call's own -/
theorem OwnI.set {w : World} {base g n cap : Nat} {l : List Int} (h : OwnI w base (.slice (some ⟨g, 0, none⟩) n cap) l) (j : Nat) (x : Int) :
    OwnI (w.setCell ⟨g, j, none⟩ (.int .i64 x)) base (.slice (some ⟨g, 0, none⟩) n cap) (l.set j x) ∧ w.grownBy (w.setCell ⟨g, j, none⟩ (.int .i64 x)) (some g) := by
  obtain ⟨a', c', e⟩ := h.shape
  injection e with e1 e2 e3
  subst e2
  have hs := World.ownsRow.stored h j (encI x)
  refine ⟨?_, hs.2⟩
  unfold OwnI
  rw [List.length_set, List.map_set]
  exact hs.1
theorem OwnI.cellI {w : World} {base g n cap : Nat} {l : List Int} (h : OwnI w base (.slice (some ⟨g, 0, none⟩) n cap) l) {j : Nat} (hj : j < l.length) : w.cell? ⟨g, j, none⟩ = some (.int .i64 (l.getD j 0)) ∧ w.frozen? ⟨g, j, none⟩ = false := by
  obtain ⟨a', c', e⟩ := h.shape
  injection e with e1 e2 e3
  subst e2
  refine ⟨?_, World.ownsRow.frozenAt h j⟩
  rw [World.ownsRow.cellAt h j (by omega), List.getElem?_map, List.getElem?_eq_getElem hj, List.getD_eq_getElem?_getD, List.getElem?_eq_getElem hj]
  rfl

/-- an element of a slice of slices -/
theorem RowsI.at_ {w : World} {lo : Nat} {a : Option Addr} {cap : Nat} {vs : List Value} {ls : List (List Int)} {j : Nat} {l : List Int} (h : RowsI w lo (.slice a ls.length cap) vs ls) (hj : ls[j]? = some l) : ∃ b a' c', a = some ⟨b, 0, none⟩ ∧ b < w.heap.size ∧ w.cell? ⟨b, j, none⟩ = some (.slice a' l.length c') ∧ OwnI w lo (.slice a' l.length c') l := by
  have hlt := (List.getElem?_eq_some_iff.1 hj).1
  obtain ⟨g, rfl, _, hg, hc⟩ := cell_own h.out (by omega)
  have hv : vs[j]? = some (vs[j]'(by rw [h.len]; exact hlt)) := List.getElem?_eq_getElem _
  have ho := h.row j _ l hv hj
  obtain ⟨a', c', e⟩ := ho.shape
  have hcell := hc j _ hv
  rw [e] at ho hcell
  rw [Nat.zero_add] at hcell
  exact ⟨g, a', c', rfl, hg, hcell, ho⟩

/-- two vectors, and whether they are a violation, are handed back -/
def GivesV (w : World) (A B : List Int) (s : Bool) (e : Ending) (w' : World) : Prop :=
  ∃ a1 c1 a2 c2, e = .returned (.tuple #[.slice a1 A.length c1, .slice a2 B.length c2, .bool s]) ∧ PairI w' w.heap.size (.slice a1 A.length c1) (.slice a2 B.length c2) A B ∧ Below w.heap.size w w'
theorem vret {a b : Value} {c d : Value} {p q : Value} (h1 : a = b) (h2 : c = d) (h3 : p = q) : Ending.returned (.tuple #[a, c, p]) = .returned (.tuple #[b, d, q]) := by rw [h1, h2, h3]
theorem two_nil (w : World) (base : Nat) (hb : base ≤ w.heap.size) : PairI ((w.alloc (.cells #[] 3)).alloc (.cells #[] 3)) base (.slice (some ⟨w.heap.size, 0, none⟩) 0 0) (.slice (some ⟨w.heap.size + 1, 0, none⟩) 0 0) [] [] := by
  refine ⟨(OwnI.made w base #[] 0 hb (Nat.zero_le _) rfl).alloc _, ?_, fun k hk e => ?_⟩
  · have h := OwnI.made (w.alloc (.cells #[] 3)) base #[] 0 (by simp; omega) (Nat.zero_le _) rfl
    simpa using h
  · simp [Value.ownBlock] at hk e
    omega

end Go.Proofs.Ytpldjihajclblaa
