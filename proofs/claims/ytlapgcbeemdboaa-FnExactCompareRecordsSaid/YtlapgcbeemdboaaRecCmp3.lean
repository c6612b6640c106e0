/-
  What impl.CompareRecords answers. By an AI agent.
-/
import Derived.Test.YtlapgcbeemdboaaRecCmp2
import Derived.Deep.RegionHeld3
namespace Go.Proofs.Ytlapgcbeemdboaa
open Go.RowKit
set_option linter.unusedVariables false

theorem or_at (x1 x2 x3 x4 r : Int) (w : World) (hr : orI x1 (orI x2 (orI x3 x4)) = r) :
    Calls Try.prog 32 #[.slice (some ⟨w.heap.size, 0, none⟩) 4 4] (w.alloc (.cells #[.int .i64 x1, .int .i64 x2, .int .i64 x3, .int .i64 x4] 3)).drew fun e w' => e = .returned (.int .i64 r) ∧ w' = (w.alloc (.cells #[.int .i64 x1, .int .i64 x2, .int .i64 x3, .int .i64 x4] 3)).drew := by
  refine or_is _ 4 [x1, x2, x3, x4] r _ (by simp) (show InI (w.alloc _) _ _ from InI.new w [x1, x2, x3, x4]) ?_
  rw [← hr]
  show orI x1 (orI x2 (orI x3 (orI x4 0))) = _
  congr 3
  unfold orI
  split <;> simp_all

set_option maxRecDepth 100000 in
set_option maxHeartbeats 3200000 in
theorem cr_impl (s0 k0 v0 s1 k1 v1 : Int) (b0 b1 : Option Addr) (d0 d1 : Nat) (l0 l1 : List Str) (r : Int) (w : World) (hr : crR s0 k0 v0 s1 k1 v1 l0 l1 = r) (h0 : Sm w b0 l0 d0) (h1 : Sm w b1 l1 d1) :
    Calls Try.prog 21 #[.agg #[.int .i64 s0, .int .i64 k0, .int .i64 v0, .slice b0 l0.length d0], .agg #[.int .i64 s1, .int .i64 k1, .int .i64 v1, .slice b1 l1.length d1]] w fun e w' => e = .returned (.int .i64 r) ∧ Below w.heap.size w w' := by
  obtain ⟨x1, hx1⟩ : ∃ x, ci s0 s1 = x := ⟨_, rfl⟩
  obtain ⟨x2, hx2⟩ : ∃ x, ci k0 k1 = x := ⟨_, rfl⟩
  obtain ⟨x3, hx3⟩ : ∃ x, ci v0 v1 = x := ⟨_, rfl⟩
  obtain ⟨x4, hx4⟩ : ∃ x, cmpL l0 l1 = x := ⟨_, rfl⟩
  have HR := Lib.hid (show orI x1 (orI x2 (orI x3 x4)) = r by rw [← hr, ← hx1, ← hx2, ← hx3, ← hx4]; rfl)
  have X1 := Lib.hid hx1
  have X2 := Lib.hid hx2
  have X3 := Lib.hid hx3
  have X4 := Lib.hid hx4
  clear hx1 hx2 hx3 hx4 hr
  obtain ⟨wb, hwb⟩ : ∃ wb, wb = (w.alloc (.cells #[.int .i64 s0, .int .i64 k0, .int .i64 v0, .slice b0 l0.length d0] 27)).alloc (.cells #[.int .i64 s1, .int .i64 k1, .int .i64 v1, .slice b1 l1.length d1] 27) := ⟨_, rfl⟩
  have HB0 := Lib.hid (show Below w.heap.size w wb by rw [hwb]; exact ((Below.refl w.heap.size w).alloc (Nat.le_refl _) _).alloc (by simp) _)
  have r0 : RecB 27 wb w.heap.size s0 k0 v0 (.slice b0 l0.length d0) := by rw [hwb]; exact (RecB.new _ _ _ _ _ _ _ rfl).alloc _
  have r1 : RecB 27 wb (w.heap.size + 1) s1 k1 v1 (.slice b1 l1.length d1) := by rw [hwb]; exact RecB.new _ _ _ _ _ _ _ (by simp)
  have q0 := r0.c0
  have q1 := r0.c1
  have q2 := r0.c2
  have q3 := r0.c3
  have p0 := r1.c0
  have p1 := r1.c1
  have p2 := r1.c2
  have p3 := r1.c3
  have z0 := fun o => (r0.alloc o).c0
  have z1 := fun o => (r0.alloc o).c1
  have z2 := fun o => (r0.alloc o).c2
  have z3 := fun o => (r0.alloc o).c3
  have y0 := fun o => (r1.alloc o).c0
  have y1 := fun o => (r1.alloc o).c1
  have y2 := fun o => (r1.alloc o).c2
  have y3 := fun o => (r1.alloc o).c3
  have H0 := Lib.hid (h0.below HB0.out)
  have H1 := Lib.hid (h1.below HB0.out)
  have HWB := Lib.hid hwb
  clear r0 r1 h0 h1 hwb
  go_enter Try.func21, Try.ntmps21
  go_wp2_with (fail)
  rw [← HWB.out]
  go_region_held3 (fun w' => w'.cell? ⟨w.heap.size, 0, none⟩ = some (.int .i64 s0) ∧ w'.cell? ⟨w.heap.size, 1, none⟩ = some (.int .i64 k0) ∧ w'.cell? ⟨w.heap.size, 2, none⟩ = some (.int .i64 v0) ∧ w'.cell? ⟨w.heap.size, 3, none⟩ = some (.slice b0 l0.length d0) ∧ w'.cell? ⟨w.heap.size + 1, 0, none⟩ = some (.int .i64 s1) ∧ w'.cell? ⟨w.heap.size + 1, 1, none⟩ = some (.int .i64 k1) ∧ w'.cell? ⟨w.heap.size + 1, 2, none⟩ = some (.int .i64 v1) ∧ w'.cell? ⟨w.heap.size + 1, 3, none⟩ = some (.slice b1 l1.length d1))
    (first | exact ⟨z0 _, z1 _, z2 _, z3 _, y0 _, y1 _, y2 _, y3 _⟩ | exact ⟨q0, q1, q2, q3, p0, p1, p2, p3⟩)
    (first
      | (go_at_call 33; (with_reducible refine (cmpi_is s0 s1 _ _ X1.out).mono ?_); rintro e w1 ⟨rfl, rfl⟩)
      | (go_at_call 33; (with_reducible refine (cmpi_is k0 k1 _ _ X2.out).mono ?_); rintro e w1 ⟨rfl, rfl⟩)
      | (go_at_call 33; (with_reducible refine (cmpi_is v0 v1 _ _ X3.out).mono ?_); rintro e w1 ⟨rfl, rfl⟩)
      | (go_at_call 34; (with_reducible refine (cmps_is b0 b1 d0 d1 l0 l1 x4 _ ?_ ?_ X4.out).mono ?_); exact H0.out; exact H1.out; rintro e w1 ⟨rfl, rfl⟩)
      | (go_at_call 32; (refine (or_at x1 x2 x3 x4 _ _ HR.out).mono ?_); rintro e w1 ⟨rfl, rfl⟩))
  all_goals
    go_wp2
    go_ret
    exact ⟨rfl, (HB0.out.alloc HB0.out.size _).drew⟩

end Go.Proofs.Ytlapgcbeemdboaa
