/-
  What the laws' own toStringS, eqStringS, markText, markStringS and heldStringS do, and spec.EqualTokens. By an AI agent.
-/
import Derived.Test.YtknkhljegmielaaDoorStrS
import Derived.Test.YtknkhljegmielaaDoorEncVar
import Derived.Deep.RegionHeld3
namespace Go.Proofs.YtknkhljegmielaaDoor
open Go.RowKit
set_option linter.unusedVariables false

theorem quiet_below (B : Nat) (w : World) (n : Nat) : Below B w (w.drewN n) := ⟨rfl, rfl, rfl, Nat.le_refl _, fun _ _ => rfl⟩

/-- the first k strings are copied, the rest is empty -/
def fillV (l : List Str) (k : Nat) : List Value := (l.take k).map encStr ++ List.replicate (l.length - k) (.string ⟨#[]⟩)
theorem fill_zero (l : List Str) : fillV l 0 = List.replicate l.length (.string ⟨#[]⟩) := by simp [fillV]
theorem fill_all (l : List Str) : fillV l l.length = l.map encStr := by simp [fillV]
theorem fill_len {l : List Str} {k : Nat} (h : k < l.length) : ((l.take k).map encStr).length = k := by
  rw [List.length_map, List.length_take]; omega
theorem fill_at {l : List Str} {k : Nat} (h : k < l.length) : (fillV l k)[k]? = some (.string ⟨#[]⟩) := by
  unfold fillV
  rw [List.getElem?_append_right (by rw [fill_len h]; omega), fill_len h, Nat.sub_self, List.getElem?_replicate, if_pos (by omega)]
theorem fill_set {l : List Str} {k : Nat} {x : Str} (h : l[k]? = some x) : (fillV l k).set k (encStr x) = fillV l (k + 1) := by
  obtain ⟨hlt, he⟩ := List.getElem?_eq_some_iff.1 h
  have e1 : l.length - k = (l.length - (k + 1)) + 1 := by omega
  unfold fillV
  rw [List.set_append_right _ _ (by rw [fill_len hlt]; omega), fill_len hlt, Nat.sub_self, e1, List.replicate_succ, List.take_succ_eq_append_getElem hlt, he, List.set_cons_zero]
  simp

end Go.Proofs.YtknkhljegmielaaDoor
