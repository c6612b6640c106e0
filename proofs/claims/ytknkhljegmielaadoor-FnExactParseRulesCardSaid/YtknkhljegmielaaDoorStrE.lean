/-
  Two strings compared; a string that is empty or not. By an AI agent.
-/
import Derived.Test.YtknkhljegmielaaDoorRows
import Derived.WalkKit
namespace Go.Proofs.YtknkhljegmielaaDoor
open Go.RowKit

theorem dsize (t : ByteArray) : t.data.toList.length = t.size := by simp
theorem sames {a b : ByteArray} (h : a ≠ b) : (a.toList == b.toList) = false := by
  rw [ByteArray.toList_eq, ByteArray.toList_eq]
  simp
  intro e
  exact h (ByteArray.ext e)
theorem empt {s : ByteArray} (h : s.size = 0) : s = ⟨#[]⟩ := by
  apply ByteArray.ext
  apply Array.ext'
  exact List.eq_nil_of_length_eq_zero (by simpa using h)
theorem fulls {s : ByteArray} (h : ¬ s.size = 0) : (s.toList == ([] : List UInt8)) = false ∧ s.toList.isEmpty = false := by
  rw [ByteArray.toList_eq]
  have h1 : s.data.toList ≠ [] := fun e => h (by rw [← dsize, e]; rfl)
  cases h2 : s.data.toList with
  | nil => exact absurd h2 h1
  | cons a b => exact ⟨rfl, rfl⟩
theorem empties {s : ByteArray} (h : s.size = 0) : (s.toList == ([] : List UInt8)) = true ∧ s.toList.isEmpty = true := by
  rw [empt h, ByteArray.toList_eq]
  exact ⟨rfl, rfl⟩

end Go.Proofs.YtknkhljegmielaaDoor
