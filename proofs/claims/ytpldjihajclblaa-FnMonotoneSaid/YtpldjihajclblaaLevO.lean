/-
  The slice of the levels of the six features while it is being filled. By an AI agent.
-/
import Derived.Test.YtpldjihajclblaaMonH
import Derived.Test.YtpldjihajclblaaGRul
namespace Go.Proofs.Ytpldjihajclblaa
open Go.RowKit
set_option linter.unusedVariables false

structure LevO (w : World) (b : Nat) (vs : List Value) (ls : List (List Int)) : Prop where
  len : vs.length = ls.length
  six : ls.length = 6
  out : w.ownsRow b 28 1 (.slice (some ⟨b, 0, none⟩) 6 6) 6 vs
  row : ∀ (j : Nat) (u : Value) (l : List Int), vs[j]? = some u → ls[j]? = some l → OwnI w (b + 1) u l
  dis : ∀ (i j : Nat) (u z : Value) (k : Nat), i ≠ j → vs[i]? = some u → vs[j]? = some z → u.ownBlock = some k → z.ownBlock ≠ some k
theorem LevO.below {w w' : World} {b : Nat} {vs : List Value} {ls : List (List Int)} (h : LevO w b vs ls) (hb : Below w.heap.size w w') : LevO w' b vs ls :=
  ⟨h.len, h.six, World.ownsRow.kept h.out (row := none) ⟨hb.os, hb.tape, hb.output, hb.size, fun i hi _ => hb.block i hi⟩ (by simp [Value.ownBlock]), fun j u l h1 h2 => (h.row j u l h1 h2).below hb, h.dis⟩
theorem LevO.lt {w : World} {b : Nat} {vs : List Value} {ls : List (List Int)} (h : LevO w b vs ls) : b < w.heap.size := (World.ownsRow.lt h.out b rfl).2
/-- an element -/
theorem LevO.at_ {w : World} {b j : Nat} {vs : List Value} {ls : List (List Int)} {l : List Int} (h : LevO w b vs ls) (hl : ls[j]? = some l) : ∃ a c, vs[j]? = some (.slice a l.length c) ∧ w.cell? ⟨b, j, none⟩ = some (.slice a l.length c) ∧ w.frozen? ⟨b, j, none⟩ = false ∧ OwnI w (b + 1) (.slice a l.length c) l := by
  have hlt := (List.getElem?_eq_some_iff.1 hl).1
  have hv : vs[j]? = some (vs[j]'(by rw [h.len]; exact hlt)) := List.getElem?_eq_getElem _
  have ho := h.row j _ l hv hl
  obtain ⟨a', c', e⟩ := ho.shape
  rw [e] at ho hv
  exact ⟨a', c', hv, by rw [h.out.cellAt j (by have := h.six; omega)]; exact hv, h.out.frozenAt j, ho⟩
/-- another value for one element -/
theorem LevO.put {w w2 : World} {b j : Nat} {vs : List Value} {ls : List (List Int)} {u u' : Value} {l' : List Int} (h : LevO w b vs ls) (hj : vs[j]? = some u) (hg : w.grownBy w2 u.ownBlock) (hu : OwnI w2 (b + 1) u' l') (hat : ∀ k, u'.ownBlock = some k → u.ownBlock = some k ∨ w.heap.size ≤ k) :
    LevO (w2.setCell ⟨b, j, none⟩ u') b (vs.set j u') (ls.set j l') ∧ w2.grownBy (w2.setCell ⟨b, j, none⟩ u') (some b) := by
  have hjl : j < ls.length := by rw [← h.len]; exact (List.getElem?_eq_some_iff.1 hj).1
  have hur := h.row j u _ hj (List.getElem?_eq_getElem hjl)
  have hub : ∀ k, u.ownBlock = some k → b + 1 ≤ k ∧ k < w.heap.size := fun k hk => World.ownsRow.lt hur k hk
  have hout := row_keptO h.out hg (fun k hk e => by have := hub k hk; simp [Value.ownBlock] at e; omega)
  have hst := hout.stored j u'
  refine ⟨⟨by simp [h.len], by simpa using h.six, hst.1, fun i z l hz hl => ?_, fun i i' z y k hne hz hy hk => ?_⟩, hst.2⟩
  · by_cases e : i = j
    · subst e
      rw [List.getElem?_set_self (by rw [h.len]; exact hjl)] at hz
      rw [List.getElem?_set_self hjl] at hl
      rw [← Option.some.inj hz, ← Option.some.inj hl]
      exact row_setCell hu _ _ (by show b < b + 1; omega)
    · rw [List.getElem?_set_ne (fun h => e h.symm)] at hz hl
      have h1 := h.row i z l hz hl
      exact row_setCell (row_keptO h1 hg (fun k hk e2 => h.dis i j z u k e hz hj e2 hk)) _ _ (by show b < b + 1; omega)
  · have hold : ∀ (m : Nat) (x : Value) (k : Nat), m ≠ j → (vs.set j u')[m]? = some x → x.ownBlock = some k → vs[m]? = some x ∧ k < w.heap.size := fun m x k hm hx hk => by
      rw [List.getElem?_set_ne (fun h => hm h.symm)] at hx
      have hml : m < ls.length := by rw [← h.len]; exact (List.getElem?_eq_some_iff.1 hx).1
      exact ⟨hx, (World.ownsRow.lt (h.row m x _ hx (List.getElem?_eq_getElem hml)) k hk).2⟩
    have hnew : ∀ x, (vs.set j u')[j]? = some x → x = u' := fun x hx => by
      rw [List.getElem?_set_self (by rw [h.len]; exact hjl)] at hx
      exact (Option.some.inj hx).symm
    intro hyk
    by_cases e : i = j
    · subst e
      have hz' := hnew z hz
      subst hz'
      obtain ⟨h1, h2⟩ := hold i' y k (fun h => hne h.symm) hy hyk
      rcases hat k hk with h3 | h3
      · exact h.dis i i' u y k hne hj h1 h3 hyk
      · omega
    · by_cases e2 : i' = j
      · subst e2
        have hy' := hnew y hy
        subst hy'
        obtain ⟨h1, h2⟩ := hold i z k e hz hk
        rcases hat k hyk with h3 | h3
        · exact h.dis i i' z u k hne h1 hj hk h3
        · omega
      · obtain ⟨h1, _⟩ := hold i z k e hz hk
        obtain ⟨h2, _⟩ := hold i' y k e2 hy hyk
        exact h.dis i i' z y k hne h1 h2 hk hyk
theorem LevO.rows {w : World} {b lo : Nat} {vs : List Value} {ls : List (List Int)} (h : LevO w b vs ls) (hl : lo ≤ b) : RowsI w lo (.slice (some ⟨b, 0, none⟩) ls.length 6) vs ls := by
  refine ⟨h.len, ?_, fun j u l h1 h2 => (h.row j u l h1 h2).mono (by omega), fun j u k hj hk e => ?_⟩
  · rw [h.six]
    exact row_mono h.out hl
  · have hjl : j < ls.length := by rw [← h.len]; exact (List.getElem?_eq_some_iff.1 hj).1
    have := (World.ownsRow.lt (h.row j u _ hj (List.getElem?_eq_getElem hjl)) k hk).1
    simp [Value.ownBlock] at e
    omega

/-- the six lists while the tests are read -/
def startL (k : Nat) : List (List Int) := (List.range 6).map fun n => if n < k then [0] else []
def rawL (ts : List TS) : List (List Int) := (List.range 6).map fun n : Nat => rawF ts n
def mixL (R : List (List TS)) (k : Nat) : List (List Int) := (List.range 6).map fun n : Nat => if n < k then levR R n else rawF R.flatten n
theorem startL_six (k : Nat) : (startL k).length = 6 := by simp [startL]
theorem six_at {α : Type} (g : Nat → α) {n : Nat} (hn : n < 6) : ((List.range 6).map g)[n]? = some (g n) := by simp [hn]
theorem six_set {α : Type} (g g' : Nat → α) {n : Nat} {x : α} (hx : g' n = x) (hne : ∀ m, m < 6 → m ≠ n → g' m = g m) : ((List.range 6).map g).set n x = (List.range 6).map g' := by
  apply List.ext_getElem
  · simp
  · intro i h1 h2
    simp at h1
    rw [List.getElem_set]
    split
    · rename_i e
      subst e
      simp [hx]
    · rename_i e
      simp [hne i h1 (fun h => e h.symm)]
theorem startL_set {k : Nat} : (startL k).set k [0] = startL (k + 1) := six_set _ _ (by simp) (fun m _ hm => by by_cases h : m < k <;> simp [h] <;> omega)
theorem startL_all : startL 6 = rawL [] := by decide
theorem rawL_set {ts : List TS} {t : TS} {n : Nat} (hn : t.1.1 = n) : (rawL ts).set n (rawF ts n ++ [t.1.2]) = rawL (ts ++ [t]) := six_set _ _ (by rw [rawF_snoc, if_pos hn]) (fun m _ hm => by rw [rawF_snoc, if_neg (by rw [hn]; omega)])
theorem mixL_zero (R : List (List TS)) : mixL R 0 = rawL R.flatten := by simp [mixL, rawL]
theorem mixL_set {R : List (List TS)} {k : Nat} : (mixL R k).set k (levR R k) = mixL R (k + 1) := six_set _ _ (by simp) (fun m _ hm => by by_cases h : m < k <;> simp [h] <;> omega)
theorem mixL_all (R : List (List TS)) : mixL R 6 = levs R := by
  unfold mixL levs
  apply List.map_congr_left
  intro n hn
  rw [if_pos (List.mem_range.1 hn)]
theorem rawL_at (ts : List TS) {n : Nat} (hn : n < 6) : (rawL ts)[n]? = some (rawF ts n) := six_at _ hn
theorem startL_at {k : Nat} (hn : k < 6) : (startL k)[k]? = some [] := by rw [startL, six_at _ hn, if_neg (Nat.lt_irrefl k)]
theorem mixL_at (R : List (List TS)) {k : Nat} (hn : k < 6) : (mixL R k)[k]? = some (rawF R.flatten k) := by rw [mixL, six_at _ hn, if_neg (Nat.lt_irrefl k)]

end Go.Proofs.Ytpldjihajclblaa
