/-
  What impl.measures hands back: the six measures, two of them closures. By an AI agent.
-/
import Derived.Test.YtggohfinkpppkabGreatDoorRows
import Derived.WalkKit
import Derived.WalkSpells
import Derived.WalkLawsBesides
import Derived.Lib.Hide
import Derived.Below
import Derived.Laws.Rows
import Derived.Laws.EntriesVeiled
import Derived.Test.YtggohfinkpppkabGreatDoorEdBlk
namespace Go.Proofs.YtggohfinkpppkabGreatDoor
open Go.RowKit
set_option linter.unusedVariables false

abbrev fnV (k : FuncId) : Value := .func (.func k) #[] #[]
abbrev cloV (g : Nat) : Value := .func (.func 73) #[] #[.pointer (some ⟨g, 0, none⟩)]
def measA (g1 g2 : Nat) : Array Value := #[
  .int .i64 0, fnV 48,
  .int .i64 0, cloV g1,
  .int .i64 0, cloV g2,
  .int .i64 1, fnV 48,
  .int .i64 2, fnV 52,
  .int .i64 3, fnV 53]

theorem clo_new (k : FuncId) (w : World) :
    Calls Tryz.prog 49 #[fnV k] w fun e w' => e = .returned (cloV w.heap.size) ∧ w' = w.alloc (.cells #[fnV k] 53) := by
  have hmf : ∀ (fn : Fn) (first cap : Array Value) (w : World), (Instr.makeFunc fn first cap).run Tryz.prog w = .ok (.func fn first cap) w := fun _ _ _ _ => rfl
  go_enter Tryz.func49, Tryz.ntmps49
  go_wp2
  go_ret
  exact ⟨rfl, rfl⟩

set_option maxRecDepth 100000 in
set_option maxHeartbeats 1600000 in
theorem meas_any (w : World) :
    Calls Tryz.prog 24 #[] w fun e w' => ∃ g1 g2, e = .returned (.agg (measA g1 g2)) ∧ w'.cell? ⟨g1, 0, none⟩ = some (fnV 50) ∧ w'.cell? ⟨g2, 0, none⟩ = some (fnV 51) ∧ w.heap.size ≤ g1 ∧ w.heap.size ≤ g2 ∧ Below w.heap.size w w' := by
  obtain ⟨w3, hw3⟩ : ∃ w3, w3 = ((w.alloc (.cells #[.int .i64 0, .nilFunc, .int .i64 0, .nilFunc, .int .i64 0, .nilFunc, .int .i64 0, .nilFunc, .int .i64 0, .nilFunc, .int .i64 0, .nilFunc] 50)).alloc (.cells #[fnV 50] 53)).alloc (.cells #[fnV 51] 53) := ⟨_, rfl⟩
  have hblk : BlkV w3 w.heap.size 50 #[.int .i64 0, .nilFunc, .int .i64 0, .nilFunc, .int .i64 0, .nilFunc, .int .i64 0, .nilFunc, .int .i64 0, .nilFunc, .int .i64 0, .nilFunc] := by rw [hw3]; exact ((BlkV.new w _ _).alloc _).alloc _
  have hc1 : w3.cell? ⟨w.heap.size + 1, 0, none⟩ = some (fnV 50) := by
    rw [hw3]
    have h := (((BlkV.new (w.alloc (.cells #[.int .i64 0, .nilFunc, .int .i64 0, .nilFunc, .int .i64 0, .nilFunc, .int .i64 0, .nilFunc, .int .i64 0, .nilFunc, .int .i64 0, .nilFunc] 50)) 53 #[fnV 50]).alloc (.cells #[fnV 51] 53)).cell 0)
    simpa using h
  have hc2 : w3.cell? ⟨w.heap.size + 1 + 1, 0, none⟩ = some (fnV 51) := by
    rw [hw3]
    have h := ((BlkV.new ((w.alloc (.cells #[.int .i64 0, .nilFunc, .int .i64 0, .nilFunc, .int .i64 0, .nilFunc, .int .i64 0, .nilFunc, .int .i64 0, .nilFunc, .int .i64 0, .nilFunc] 50)).alloc (.cells #[fnV 50] 53)) 53 #[fnV 51]).cell 0)
    simpa using h
  have hb3 : Below w.heap.size w w3 := by rw [hw3]; exact (((Below.refl _ _).alloc (Nat.le_refl _) _).alloc (by simp) _).alloc (by simp; omega) _
  have HW := Lib.hid hw3
  have HC1 := Lib.hid hc1
  have HC2 := Lib.hid hc2
  have HB := Lib.hid hb3
  have HBLK := Lib.hid hblk
  have c0 := hblk.cell 0
  have f0 := hblk.frozen 0
  have c1 := hblk.cell 1
  have f1 := hblk.frozen 1
  have c2 := hblk.cell 2
  have f2 := hblk.frozen 2
  have c3 := hblk.cell 3
  have f3 := hblk.frozen 3
  have c4 := hblk.cell 4
  have f4 := hblk.frozen 4
  have c5 := hblk.cell 5
  have f5 := hblk.frozen 5
  have c6 := hblk.cell 6
  have f6 := hblk.frozen 6
  have c7 := hblk.cell 7
  have f7 := hblk.frozen 7
  have c8 := hblk.cell 8
  have f8 := hblk.frozen 8
  have c9 := hblk.cell 9
  have f9 := hblk.frozen 9
  have c10 := hblk.cell 10
  have f10 := hblk.frozen 10
  have c11 := hblk.cell 11
  have f11 := hblk.frozen 11
  simp only [List.getElem?_toArray, List.getElem?_cons_zero, List.getElem?_cons_succ] at c0 c1 c2 c3 c4 c5 c6 c7 c8 c9 c10 c11
  clear hw3 hc1 hc2 hb3 hblk
  go_enter Tryz.func24, Tryz.ntmps24
  go_wp2_with (go_at_call 49; (refine (clo_new 50 _).mono ?_); rintro e w1 ⟨rfl, rfl⟩; refine Hid.out ?_)
  refine Lib.hid ?_
  go_wp2_with (go_at_call 49; (refine (clo_new 51 _).mono ?_); rintro e w1 ⟨rfl, rfl⟩; refine Hid.out ?_)
  rw [← HW.out]
  refine Lib.hid ?_
  go_wp2
  have harr : (((((((((((((#[.int .i64 0, .nilFunc, .int .i64 0, .nilFunc, .int .i64 0, .nilFunc, .int .i64 0, .nilFunc, .int .i64 0, .nilFunc, .int .i64 0, .nilFunc] : Array Value).setIfInBounds 0 (.int .i64 0)).setIfInBounds 1 (fnV 48)).setIfInBounds 2 (.int .i64 0)).setIfInBounds 3 (cloV (w.heap.size + 1))).setIfInBounds 4 (.int .i64 0)).setIfInBounds 5 (cloV (w.heap.size + 1 + 1))).setIfInBounds 6 (.int .i64 1)).setIfInBounds 7 (fnV 48)).setIfInBounds 8 (.int .i64 2)).setIfInBounds 9 (fnV 52)).setIfInBounds 10 (.int .i64 3)).setIfInBounds 11 (fnV 53)) = measA (w.heap.size + 1) (w.heap.size + 1 + 1) := by kernel_rfl
  have z := ((((((((((((HBLK.out.set_ 0 (.int .i64 0)).set_ 1 (fnV 48)).set_ 2 (.int .i64 0)).set_ 3 (cloV (w.heap.size + 1))).set_ 4 (.int .i64 0)).set_ 5 (cloV (w.heap.size + 1 + 1))).set_ 6 (.int .i64 1)).set_ 7 (fnV 48)).set_ 8 (.int .i64 2)).set_ 9 (fnV 52)).set_ 10 (.int .i64 3)).set_ 11 (fnV 53))
  rw [harr] at z
  have hB : Below w.heap.size w ((((((((((((w3.setCell ⟨w.heap.size, 0, none⟩ (.int .i64 0)).setCell ⟨w.heap.size, 1, none⟩ (fnV 48)).setCell ⟨w.heap.size, 2, none⟩ (.int .i64 0)).setCell ⟨w.heap.size, 3, none⟩ (cloV (w.heap.size + 1))).setCell ⟨w.heap.size, 4, none⟩ (.int .i64 0)).setCell ⟨w.heap.size, 5, none⟩ (cloV (w.heap.size + 1 + 1))).setCell ⟨w.heap.size, 6, none⟩ (.int .i64 1)).setCell ⟨w.heap.size, 7, none⟩ (fnV 48)).setCell ⟨w.heap.size, 8, none⟩ (.int .i64 2)).setCell ⟨w.heap.size, 9, none⟩ (fnV 52)).setCell ⟨w.heap.size, 10, none⟩ (.int .i64 3)).setCell ⟨w.heap.size, 11, none⟩ (fnV 53)) := ((((((((((((HB.out.setCell (by simp) _).setCell (by simp) _).setCell (by simp) _).setCell (by simp) _).setCell (by simp) _).setCell (by simp) _).setCell (by simp) _).setCell (by simp) _).setCell (by simp) _).setCell (by simp) _).setCell (by simp) _).setCell (by simp) _)
  have hh : ∀ q, q ≠ w.heap.size → ((((((((((((w3.setCell ⟨w.heap.size, 0, none⟩ (.int .i64 0)).setCell ⟨w.heap.size, 1, none⟩ (fnV 48)).setCell ⟨w.heap.size, 2, none⟩ (.int .i64 0)).setCell ⟨w.heap.size, 3, none⟩ (cloV (w.heap.size + 1))).setCell ⟨w.heap.size, 4, none⟩ (.int .i64 0)).setCell ⟨w.heap.size, 5, none⟩ (cloV (w.heap.size + 1 + 1))).setCell ⟨w.heap.size, 6, none⟩ (.int .i64 1)).setCell ⟨w.heap.size, 7, none⟩ (fnV 48)).setCell ⟨w.heap.size, 8, none⟩ (.int .i64 2)).setCell ⟨w.heap.size, 9, none⟩ (fnV 52)).setCell ⟨w.heap.size, 10, none⟩ (.int .i64 3)).setCell ⟨w.heap.size, 11, none⟩ (fnV 53)).cell? ⟨q, 0, none⟩ = w3.cell? ⟨q, 0, none⟩ := fun q hq => by
    refine World.cell?_of_block ?_
    have hn : ∀ (u : World) (k : Nat) (x : Value), (u.setCell ⟨w.heap.size, k, none⟩ x).heap[q]? = u.heap[q]? := fun u k x => Below.heap_setCell u ⟨w.heap.size, k, none⟩ x q hq
    simp only [hn]
  have k1 := (hh (w.heap.size + 1) (by omega)).trans HC1.out
  have k2 := (hh (w.heap.size + 1 + 1) (by omega)).trans HC2.out
  clear hh HB HC1 HC2 HBLK
  generalize ((((((((((((w3.setCell ⟨w.heap.size, 0, none⟩ (.int .i64 0)).setCell ⟨w.heap.size, 1, none⟩ (fnV 48)).setCell ⟨w.heap.size, 2, none⟩ (.int .i64 0)).setCell ⟨w.heap.size, 3, none⟩ (cloV (w.heap.size + 1))).setCell ⟨w.heap.size, 4, none⟩ (.int .i64 0)).setCell ⟨w.heap.size, 5, none⟩ (cloV (w.heap.size + 1 + 1))).setCell ⟨w.heap.size, 6, none⟩ (.int .i64 1)).setCell ⟨w.heap.size, 7, none⟩ (fnV 48)).setCell ⟨w.heap.size, 8, none⟩ (.int .i64 2)).setCell ⟨w.heap.size, 9, none⟩ (fnV 52)).setCell ⟨w.heap.size, 10, none⟩ (.int .i64 3)).setCell ⟨w.heap.size, 11, none⟩ (fnV 53)) = wf at z hB k1 k2 ⊢
  have e0 := z.cell 0
  have e1 := z.cell 1
  have e2 := z.cell 2
  have e3 := z.cell 3
  have e4 := z.cell 4
  have e5 := z.cell 5
  have e6 := z.cell 6
  have e7 := z.cell 7
  have e8 := z.cell 8
  have e9 := z.cell 9
  have e10 := z.cell 10
  have e11 := z.cell 11
  simp only [measA, List.getElem?_toArray, List.getElem?_cons_zero, List.getElem?_cons_succ] at e0 e1 e2 e3 e4 e5 e6 e7 e8 e9 e10 e11
  refine bodyPost_ret (v := .agg (measA (w.heap.size + 1) (w.heap.size + 1 + 1))) (by simp [results, Tryz.results24, go_sem, e0, e1, e2, e3, e4, e5, e6, e7, e8, e9, e10, e11, measA]) rfl ⟨_, _, rfl, k1, k2, by omega, by omega, hB⟩

end Go.Proofs.YtggohfinkpppkabGreatDoor
