/-
  Slices of integers: one that reads as a list; what impl.allWithin answers. By an AI agent.
-/
import Derived.Test.YtookcggmapldeaaRows
import Derived.WalkKit
import Derived.WalkSpells
import Derived.WalkLawsBesides
import Derived.Lib.Hide
import Derived.Below
import Derived.BigQuiet
import Derived.Deep.QuietTactic
namespace Go.Proofs.Ytookcggmapldeaa
open Go.RowKit
set_option linter.unusedVariables false

/-- a slice whose elements are the integers of a list -/
def InI (w : World) (a : Option Addr) (l : List Int) : Prop :=
  0 < l.length → ∃ b off, a = some ⟨b, off, none⟩ ∧ b < w.heap.size ∧ ∀ j x, l[j]? = some x → w.cell? ⟨b, off + j, none⟩ = some (.int .i64 x)

theorem InI.keep {w w' : World} {a : Option Addr} {l : List Int} (h : InI w a l) (hs : w.heap.size ≤ w'.heap.size) (hk : ∀ b off, a = some ⟨b, off, none⟩ → b < w.heap.size → w'.heap[b]? = w.heap[b]?) : InI w' a l := by
  intro h0
  obtain ⟨b, off, ha, hb, hc⟩ := h h0
  exact ⟨b, off, ha, Nat.lt_of_lt_of_le hb hs, fun j x hj => (World.cell?_of_block (hk b off ha hb)).trans (hc j x hj)⟩
theorem InI.below {w w' : World} {a : Option Addr} {l : List Int} (h : InI w a l) (hb : Below w.heap.size w w') : InI w' a l :=
  h.keep hb.size fun b _ _ hlt => hb.block b hlt
theorem InI.alloc {w : World} {a : Option Addr} {l : List Int} (h : InI w a l) (o : Obj) : InI (w.alloc o) a l := h.below ((Below.refl _ _).alloc (Nat.le_refl _) o)
theorem InI.new (w : World) (l : List Int) : InI (w.alloc (.cells (l.map fun z => Value.int .i64 z).toArray 3)) (some ⟨w.heap.size, 0, none⟩) l := by
  intro h0
  refine ⟨w.heap.size, 0, rfl, by simp, fun j x hj => ?_⟩
  rw [World.cell?_alloc_at _ _ _ _ rfl]
  simp [hj]

/-- every number lies from lo to hi -/
def withinB (lo hi : Int) (l : List Int) : Bool := l.all fun x => decide (lo ≤ x) && decide (x ≤ hi)
theorem within_zero (lo hi : Int) (l : List Int) : withinB lo hi (l.take 0) = true := by simp [withinB]
theorem within_yes {lo hi x : Int} {l : List Int} {k : Nat} (h : withinB lo hi (l.take k) = true) (hx : l[k]? = some x) (h1 : lo ≤ x) (h2 : x ≤ hi) : withinB lo hi (l.take (k + 1)) = true := by
  obtain ⟨hlt, he⟩ := List.getElem?_eq_some_iff.1 hx
  rw [List.take_succ_eq_append_getElem hlt, he]
  unfold withinB at h ⊢
  rw [List.all_append, h]
  simp [h1, h2]
theorem within_no {lo hi x : Int} {l : List Int} (hx : x ∈ l) (h : ¬ (lo ≤ x ∧ x ≤ hi)) : withinB lo hi l = false := by
  rw [Bool.eq_false_iff]
  intro e
  have h1 := List.all_eq_true.1 e x hx
  simp at h1
  exact h h1
theorem within_mem {lo hi x : Int} {l : List Int} (h : withinB lo hi l = true) (hx : x ∈ l) : lo ≤ x ∧ x ≤ hi := by
  have h1 := List.all_eq_true.1 h x hx
  simpa using h1

theorem iret_bool {a b : Bool} (h : a = b) : Ending.returned (.bool a) = .returned (.bool b) := by rw [h]
theorem iret_int {k : IntKind} {a b : Int} (h : a = b) : Ending.returned (.int k a) = .returned (.int k b) := by rw [h]

set_option maxRecDepth 100000 in
theorem within_is (lo hi : Int) (a : Option Addr) (cap : Nat) (l : List Int) (r : Bool) (w : World) (hl : l.length ≤ 4000000) (hin : InI w a l) (hr : withinB lo hi l = r) :
    Calls Try.prog 65 #[.int .i64 lo, .int .i64 hi, .slice a l.length cap] w fun e w' => e = .returned (.bool r) ∧ w' = w := by
  have HR := Lib.hid hr
  have HIN := Lib.hid hin
  clear hr hin
  go_enter Try.func65, Try.ntmps65
  go_wp2
  go_loop [11] (fun i => ∃ k : Nat, k ≤ l.length ∧ i = .int .i64 k ∧ withinB lo hi (l.take k) = true) (fun i => l.length - (intOf i).toNat)
  case atStart => exact ⟨0, Nat.zero_le _, rfl, within_zero _ _ _⟩
  case round =>
    obtain ⟨k, hk, rfl, hw⟩ := hrel
    have HW := Lib.hid hw
    clear hw
    by_cases hlt : k < l.length
    · obtain ⟨b, off, rfl, hb, hc⟩ := HIN.out (by omega)
      obtain ⟨x, hx⟩ : ∃ x, l[k]? = some x := ⟨_, List.getElem?_eq_getElem hlt⟩
      have hcell : w.cell? ⟨b, off + k, none⟩ = some (.int .i64 x) := hc k x hx
      have HX := Lib.hid hx
      clear hc hx
      by_cases h1 : lo ≤ x
      · by_cases h2 : x ≤ hi
        · go_wp2
          go_round
          case rel => exact ⟨k + 1, by omega, by go_num, within_yes HW.out HX.out h1 h2⟩
          case measure => simp [intOf]; omega
        · go_wp2
          go_ret
          exact ⟨iret_bool (by rw [← HR.out, within_no (List.mem_of_getElem? HX.out) (fun e => by omega)]), rfl⟩
      · go_wp2
        go_ret
        exact ⟨iret_bool (by rw [← HR.out, within_no (List.mem_of_getElem? HX.out) (fun e => by omega)]), rfl⟩
    · obtain rfl : k = l.length := by omega
      go_wp2
      go_ret
      exact ⟨iret_bool (by have := HW.out; rw [List.take_length, HR.out] at this; exact this.symm), rfl⟩

end Go.Proofs.Ytookcggmapldeaa
