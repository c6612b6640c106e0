/-
  Maps of the call's own, keyed by strings: a set (map[string]bool) and a count (map[string]int); what impl.setOf and impl.sortedMembers do. By an AI agent.
-/
import Derived.Test.YthjbekgognfiiaaJ1
import Derived.Test.YthjbekgognfiiaaShelf
import Derived.Maps.OwnOps
import Derived.Maps.OwnSet
import Derived.Maps.RangeWalk
import Derived.Sort.KeysCollected
import Derived.Sort.OwnSorted
namespace Go.Proofs.Ythjbekgognfiiaa
open Go.RowKit Go.Maps Go.Sort
set_option linter.unusedVariables false

theorem keyS : Keyed Try.prog 9 := string_keyed Try.underlying9
theorem keyOf_s {s : ByteArray} {x : Str} (hs : s.data.toList = x) (hl : s.size ≤ maxLen) : keyOf Try.prog 9 (.string s) = some (.string x) := by
  subst hs
  exact Go.WideMaps.keyOf_string_mk Try.underlying9 hl
theorem lit_ne {x y : Str} (h : y ≠ x) : (Lit.string y) ≠ .string x := fun e => h (by injection e)

theorem size_own {H : Type} {P : Program} {k : TypeId} {R : Value → Option (DataW H × List MemPlace)} {w : World} {b n : Nat} {D : DataW H} (h : w.ownsMap P k R b n D) : Maps.size D ≤ n := by
  obtain ⟨es, clock, _, _, hs, rfl⟩ := h
  show ((es.toList.map (Go.WideElems.rg P k R)).foldr DataW.insert []).length ≤ n
  rw [length_sorted]
  simpa using hs

theorem plainElem_bool_inv {H : Type} {P : Program} {e : TypeId} (he : P.underlying e = some .bool) {v : Value} {z : DataW H × List MemPlace} (h : plainElem P e v = some z) : ∃ a, v = .bool a ∧ z = (.lit (.bool a), []) := by
  unfold plainElem at h
  rw [he] at h
  cases v <;> simp at h
  subst h
  exact ⟨_, rfl, rfl⟩

/-- block b is a map[string]bool whose keys are the strings of the list, each with true -/
def SetM (w : World) (b n : Nat) (ls : List Str) : Prop :=
  ∃ D : DataW Unit, w.ownsMap Try.prog 9 (plainElem Try.prog 4) b n D ∧ (∀ x : Str, Maps.has D (.string x) = decide (x ∈ ls)) ∧ (∀ x : Str, D.atKey (.string x) (.lit (.bool false)) = .lit (.bool (decide (x ∈ ls))))

theorem zeroB (w : World) : (zeroValue 4).run Try.prog w = .ok (.bool false) w := by kernel_rfl

theorem SetM.made (w : World) : SetM (w.alloc (.map #[] 0)) w.heap.size 0 [] :=
  ⟨.map [], World.ownsMap_made _ _ _ _, fun x => by simp [Maps.has], fun x => by simp [DataW.atKey]⟩
theorem SetM.kept {w w' : World} {b n : Nat} {ls : List Str} {row : Option Nat} (h : SetM w b n ls) (hg : w.grownBy w' row) (hne : some b ≠ row) : SetM w' b n ls := by
  obtain ⟨D, h1, h2, h3⟩ := h
  exact ⟨D, h1.kept hg hne, h2, h3⟩
theorem SetM.lt {w : World} {b n : Nat} {ls : List Str} (h : SetM w b n ls) : b < w.heap.size := by obtain ⟨D, h1, _⟩ := h; exact h1.lt
theorem SetM.below {w w' : World} {b n : Nat} {ls : List Str} (h : SetM w b n ls) (hb : Below w.heap.size w w') : SetM w' b n ls :=
  h.kept (row := none) ⟨hb.os, hb.tape, hb.output, hb.size, fun i hi _ => hb.block i hi⟩ (by simp)
theorem SetM.alloc {w : World} {b n : Nat} {ls : List Str} (h : SetM w b n ls) (o : Obj) : SetM (w.alloc o) b n ls := h.below ((Below.refl _ _).alloc (Nat.le_refl _) o)
theorem SetM.mono {w : World} {b n n' : Nat} {ls : List Str} (h : SetM w b n ls) (hn : n ≤ n') : SetM w b n' ls := by
  obtain ⟨D, h1, h2, h3⟩ := h
  exact ⟨D, h1.mono hn, h2, h3⟩

/-- block b is a map[string]int that gives f -/
def CntM (w : World) (b n : Nat) (f : Str → Nat) : Prop :=
  ∃ D : DataW Unit, w.ownsMap Try.prog 9 (plainElem Try.prog 3) b n D ∧ ∀ x : Str, D.atKey (.string x) (.lit (.int .i64 0)) = .lit (.int .i64 (f x : Int))

theorem zeroI (w : World) : (zeroValue 3).run Try.prog w = .ok (.int .i64 0) w := by kernel_rfl

theorem CntM.made (w : World) : CntM (w.alloc (.map #[] 0)) w.heap.size 0 (fun _ => 0) :=
  ⟨.map [], World.ownsMap_made _ _ _ _, fun x => by simp [DataW.atKey]⟩
theorem CntM.kept {w w' : World} {b n : Nat} {f : Str → Nat} {row : Option Nat} (h : CntM w b n f) (hg : w.grownBy w' row) (hne : some b ≠ row) : CntM w' b n f := by
  obtain ⟨D, h1, h2⟩ := h
  exact ⟨D, h1.kept hg hne, h2⟩
theorem CntM.mono {w : World} {b n n' : Nat} {f : Str → Nat} (h : CntM w b n f) (hn : n ≤ n') : CntM w b n' f := by
  obtain ⟨D, h1, h2⟩ := h
  exact ⟨D, h1.mono hn, h2⟩
theorem CntM.congr {w : World} {b n : Nat} {f g : Str → Nat} (h : CntM w b n f) (hf : ∀ x, f x = g x) : CntM w b n g := by
  obtain ⟨D, h1, h2⟩ := h
  exact ⟨D, h1, fun x => by rw [h2 x, hf x]⟩

end Go.Proofs.Ythjbekgognfiiaa
