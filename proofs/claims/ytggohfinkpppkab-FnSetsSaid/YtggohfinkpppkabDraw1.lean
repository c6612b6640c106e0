/-
  What the drawing functions of chapter 1 (l1New, l1Num, l1Text, DrawEncodeVarint, DrawEncodeHex, DrawEncodeFixed) hand back: some numbers and texts within their bounds. By an AI agent.
-/
import Derived.Test.YtggohfinkpppkabDraw
import Derived.Test.YtggohfinkpppkabEncVar
namespace Go.Proofs.Ytggohfinkpppkab
open Go.RowKit
set_option linter.unusedVariables false

def SomeCur (w : World) (e : Ending) (w' : World) : Prop := ∃ c, e = .returned (.pointer (some ⟨c, 0, none⟩)) ∧ Cur w' w.heap.size c ∧ Below w.heap.size w w'

set_option maxRecDepth 100000 in
set_option maxHeartbeats 1000000 in
theorem l1New_any (A : Option Addr) (len cap : Nat) (w : World) (hcode : CodeAt w w.heap.size A len) : Calls Try.prog 26 #[.slice A len cap] w (SomeCur w) := by
  have HCODE := Lib.hid hcode
  have hlen : (len : Int) ≤ 1048576 := by have := hcode.1; omega
  clear hcode
  go_enter Try.func26, Try.ntmps26
  go_wp2
  go_loop [3, 4] (fun h i => ∃ (k : Nat) (x : Int), k ≤ len ∧ k ≤ 4000 ∧ i = .int .i64 k ∧ h = .int .i64 x) (fun _ i => 4000 - (intOf i).toNat)
  case atStart => exact ⟨0, _, Nat.zero_le _, by omega, rfl, rfl⟩
  case round =>
    obtain ⟨k, x, hk, hk4, rfl, rfl⟩ := hrel
    by_cases hlt : k < len ∧ k < 4000
    · obtain ⟨h1, h2⟩ := hlt
      obtain ⟨b, off, rfl, hb, hz⟩ := HCODE.out.2 (by omega)
      obtain ⟨z, z0, z1, hcell⟩ := hz k h1
      clear hz
      go_wp2
      go_round
      case rel => exact ⟨k + 1, _, by omega, by omega, by go_num, rfl⟩
      case measure => simp [intOf]; omega
    · have hex : ¬ k < len ∨ ¬ k < 4000 := by omega
      clear hlt
      rcases hex with hex | hex
      all_goals go_wp2
      all_goals go_ret
      all_goals refine ⟨w.heap.size, rfl, ⟨Nat.le_refl _, A, len, cap, 0, _, Nat.zero_le _, heap_alloc_new w _, HCODE.out.keep fun j hj => Below.heap_alloc w _ j hj⟩, (Below.refl _ _).alloc (Nat.le_refl _) _⟩

theorem lit_cells (w : World) (l : List Int) (hr : ∀ z ∈ l, -9223372036854775808 ≤ z ∧ z ≤ 9223372036854775807) : ∀ j, j < l.length → ∃ z : Int, -9223372036854775808 ≤ z ∧ z ≤ 9223372036854775807 ∧
    (w.alloc (.cells (l.map (Value.int .i64)).toArray 3)).cell? ⟨w.heap.size, j, none⟩ = some (.int .i64 z) := by
  intro j hj
  refine ⟨l[j], (hr _ (List.getElem_mem hj)).1, (hr _ (List.getElem_mem hj)).2, ?_⟩
  rw [World.cell?_alloc_at _ _ _ _ rfl]
  simp [hj]

theorem grown_alloc (w : World) (o : Obj) (c : Nat) : w.grownBy (w.alloc o) (some c) := World.grownBy_alloc w o _

theorem OwnB.kept {w w' : World} {base c : Nat} {v : Value} {l : List UInt8} (h : OwnB w base v l) (hg : w.grownBy w' (some c)) (hc : c < base) : OwnB w' base v l := by
  refine World.ownsRow.kept h hg (.inr fun e => ?_)
  have := (World.ownsRow.lt h c e).1
  omega

theorem grown_below {a b d : World} {c : Nat} (h1 : a.grownBy b (some c)) (h2 : Below a.heap.size b d) : a.grownBy d (some c) :=
  ⟨h2.os.trans h1.os, h2.tape.trans h1.tape, h2.output.trans h1.output, Nat.le_trans h1.size h2.size, fun k hk hne => (h2.block k hk).trans (h1.block k hk hne)⟩

def SomeText (w : World) (B c : Nat) (most : Nat) (e : Ending) (w' : World) : Prop := ∃ l : List UInt8, e = .returned (.string (strOf l)) ∧ l.length ≤ most ∧ Cur w' B c ∧ w.grownBy w' (some c)

end Go.Proofs.Ytggohfinkpppkab
