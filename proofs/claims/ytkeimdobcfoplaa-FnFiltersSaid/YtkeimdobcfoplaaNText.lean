/-
  What spec.IsText and impl.IsText answer, for every string of at most 2^20 bytes; the walk of laws.FnExactIsText. By an AI agent.
-/
import Derived.Test.YtkeimdobcfoplaaNFold
import Derived.Lib.Strings
import Derived.Lib.OthersKept
import Derived.Laws.RangeAny
namespace Go.Proofs.Ytkeimdobcfoplaa
open Go.RowKit
set_option linter.unusedVariables false

theorem nbyte_at? (s : ByteArray) (k : Nat) (h : k < s.size) : s.data.toList[k]? = some s[k] := by
  rw [List.getElem?_eq_getElem (by simpa using h)]
  rfl

theorem ntake_snoc (s : ByteArray) (k : Nat) (h : k < s.size) : s.data.toList.take (k + 1) = s.data.toList.take k ++ [s[k]] := by
  rw [List.take_succ_eq_append_getElem (by simpa using h)]; rfl

theorem ntake_all (s : ByteArray) : s.data.toList.take s.size = s.data.toList := List.take_of_length_le (by simp)

theorem niterPos_at {w : World} {k p : Nat} {s : ByteArray} (h : w.heap[k]? = some (.stringIter s p)) : w.iterPos k = p := by
  simp [World.iterPos, h]

/-- the first k bytes are printable -/
def TextTo (s : ByteArray) (k : Nat) : Prop := ∀ c ∈ s.data.toList.take k, 32 ≤ c.toNat ∧ c.toNat ≤ 126

theorem TextTo.zero (s : ByteArray) : TextTo s 0 := by intro c hc; simp at hc
theorem TextTo.succ {s : ByteArray} {k : Nat} (h : TextTo s k) (hk : k < s.size) (h1 : 32 ≤ s[k].toNat) (h2 : s[k].toNat ≤ 126) : TextTo s (k + 1) := by
  intro c hc
  rw [ntake_snoc s k hk] at hc
  rcases List.mem_append.1 hc with hc | hc
  · exact h c hc
  · simp at hc; subst hc; exact ⟨h1, h2⟩
theorem TextTo.all {s : ByteArray} (h : TextTo s s.size) (h1 : s.size ≤ 40) : isTextB s.data.toList = true := by
  unfold TextTo at h
  rw [ntake_all] at h
  exact text_ok (by simpa using h1) h
theorem text_bad_at {s : ByteArray} {k : Nat} (hk : k < s.size) (h : s[k].toNat < 32 ∨ 126 < s[k].toNat) : isTextB s.data.toList = false :=
  text_bad (List.mem_of_getElem? (nbyte_at? s k hk)) h
theorem text_long_at {s : ByteArray} (h : 40 < s.size) : isTextB s.data.toList = false := text_long (by simpa using h)

end Go.Proofs.Ytkeimdobcfoplaa
