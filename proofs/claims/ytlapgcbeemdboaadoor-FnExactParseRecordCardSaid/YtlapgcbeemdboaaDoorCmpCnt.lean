/-
  What cmp.Compare answers at two strings, and impl.commonCount at two ascending lists. By an AI agent.
-/
import Derived.Test.YtlapgcbeemdboaaDoorPut
import Derived.Test.YtlapgcbeemdboaaDoorPlainSim
namespace Go.Proofs.YtlapgcbeemdboaaDoor
open Go.RowKit
set_option linter.unusedVariables false

/-- the order of two strings -/
def cmpR (x y : Str) : Int := if x = y then 0 else if x < y then -1 else 1

def lenS : Value → Nat | .slice _ n _ => n | _ => 0

theorem Sm.tail {w : World} {x : Str} {l : List Str} {c : Nat} {b off : Nat} (h : Sm w (some ⟨b, off, none⟩) (x :: l) c) : Sm w (if c = 1 then some ⟨b, off, none⟩ else some ⟨b, off + 1, none⟩) l (c - 1) := by
  obtain ⟨h1, h2, h3, h4, h5⟩ := h
  rw [List.length_cons] at h3 h4
  have hn : (if c = 1 then some (⟨b, off, none⟩ : Addr) else some ⟨b, off + 1, none⟩) = none → c - 1 = 0 := by
    intro e
    split at e <;> cases e
  refine ⟨fun h0 => ?_, hn, by omega, by omega, fun y hy => h5 y (List.mem_cons_of_mem _ hy)⟩
  obtain ⟨b', off', e, hb, hc⟩ := h1 (by simp)
  simp only [Option.some.injEq, Addr.mk.injEq, and_true] at e
  obtain ⟨rfl, rfl⟩ := e
  rw [if_neg (by omega)]
  exact ⟨b, off + 1, rfl, hb, fun j y hj => by rw [show off + 1 + j = off + (j + 1) by omega]; exact hc (j + 1) y (by simpa using hj)⟩
theorem Sm.head {w : World} {a : Option Addr} {x : Str} {l : List Str} {c : Nat} (h : Sm w a (x :: l) c) : ∃ b off s, a = some ⟨b, off, none⟩ ∧ w.cell? ⟨b, off, none⟩ = some (.string s) ∧ s.data.toList = x := by
  obtain ⟨h1, -⟩ := h
  obtain ⟨b, off, e, hb, hc⟩ := h1 (by simp)
  exact ⟨b, off, ⟨x.toArray⟩, e, hc 0 x (by simp), by simp⟩

theorem cmpR_eq (x : Str) : cmpR x x = 0 := by unfold cmpR; rw [if_pos rfl]
theorem cmpR_lt {x y : Str} (h : x < y) : cmpR x y = -1 := by unfold cmpR; rw [if_neg (str_ne_of h), if_pos h]
theorem cmpR_gt {x y : Str} (h : y < x) : cmpR x y = 1 := by
  unfold cmpR
  rw [if_neg (fun e => str_ne_of h e.symm), if_neg (fun k => List.lt_irrefl _ (str_lt_trans h k))]

end Go.Proofs.YtlapgcbeemdboaaDoor
