/-
  What spec.SameOrigin and impl.SameOrigin answer. By an AI agent.
-/
import Derived.Test.YtlapgcbeemdboaaRecV
import Derived.Laws.StructEq
import Derived.Deep.RegionWith
namespace Go.Proofs.Ytlapgcbeemdboaa
open Go.RowKit
set_option linter.unusedVariables false

def soB (s1 k1 s2 k2 : Int) : Bool := decide (s1 = s2) && decide (k1 = k2)

theorem rret_bool {a b : Bool} (h : a = b) : Ending.returned (.bool a) = .returned (.bool b) := by rw [h]

set_option maxRecDepth 100000 in
theorem so_spec (s1 k1 v1 s2 k2 v2 : Int) (V1 V2 : Value) (r : Bool) (w : World) (hr : soB s1 k1 s2 k2 = r) :
    Calls Try.prog 22 #[.agg #[.int .i64 s1, .int .i64 k1, .int .i64 v1, V1], .agg #[.int .i64 s2, .int .i64 k2, .int .i64 v2, V2]] w fun e w' => e = .returned (.bool r) ∧ Below w.heap.size w w' := by
  have HR := Lib.hid hr
  clear hr
  go_enter Try.func22, Try.ntmps22
  go_wp2
  all_goals go_ret
  all_goals refine ⟨rret_bool ?_, ((Below.refl w.heap.size w).alloc (Nat.le_refl _) _).alloc (by simp) _⟩
  all_goals
    rw [← HR.out]
    unfold soB
    rw [Bool.eq_iff_iff]
    simp_all

set_option maxRecDepth 100000 in
theorem origin_is (s k v : Int) (V : Value) (w : World) :
    Calls Try.prog 35 #[.agg #[.int .i64 s, .int .i64 k, .int .i64 v, V]] w fun e w' => e = .returned (.agg #[.int .i64 s, .int .i64 k]) ∧ Below w.heap.size w w' := by
  go_enter Try.func35, Try.ntmps35
  go_wp2
  exact bodyPost_ret (v := .agg #[.int .i64 s, .int .i64 k]) (by simp [results, Try.results35, go_sem]) rfl ⟨rfl, ((Below.refl w.heap.size w).alloc (Nat.le_refl _) _).alloc (by simp) _⟩

set_option maxRecDepth 100000 in
set_option maxHeartbeats 1600000 in
theorem so_impl (s1 k1 v1 s2 k2 v2 : Int) (V1 V2 : Value) (r : Bool) (w : World) (hr : soB s1 k1 s2 k2 = r) :
    Calls Try.prog 23 #[.agg #[.int .i64 s1, .int .i64 k1, .int .i64 v1, V1], .agg #[.int .i64 s2, .int .i64 k2, .int .i64 v2, V2]] w fun e w' => e = .returned (.bool r) ∧ Below w.heap.size w w' := by
  have hway : ((s1 == s2) = true ∧ (k1 == k2) = true ∧ r = true) ∨ ((s1 == s2) = true ∧ (k1 == k2) = false ∧ r = false) ∨ ((s1 == s2) = false ∧ r = false) := by
    rw [← hr]
    unfold soB
    by_cases h1 : s1 = s2 <;> by_cases h2 : k1 = k2 <;> simp [h1, h2]
  clear hr
  rcases hway with ⟨q1, q2, rfl⟩ | ⟨q1, q2, rfl⟩ | ⟨q1, rfl⟩
  all_goals
    go_enter Try.func23, Try.ntmps23
    go_wp2_with (fail)
    have r1 : RecB 27 ((w.alloc (.cells #[.int .i64 s1, .int .i64 k1, .int .i64 v1, V1] 27)).alloc (.cells #[.int .i64 s2, .int .i64 k2, .int .i64 v2, V2] 27)) w.heap.size s1 k1 v1 V1 := (RecB.new _ _ _ _ _ _ _ rfl).alloc _
    have r2 : RecB 27 ((w.alloc (.cells #[.int .i64 s1, .int .i64 k1, .int .i64 v1, V1] 27)).alloc (.cells #[.int .i64 s2, .int .i64 k2, .int .i64 v2, V2] 27)) (w.heap.size + 1) s2 k2 v2 V2 := RecB.new _ _ _ _ _ _ _ (by simp)
    have hbb : Below w.heap.size w ((w.alloc (.cells #[.int .i64 s1, .int .i64 k1, .int .i64 v1, V1] 27)).alloc (.cells #[.int .i64 s2, .int .i64 k2, .int .i64 v2, V2] 27)) := ((Below.refl w.heap.size w).alloc (Nat.le_refl _) _).alloc (by simp) _
    have hl2 : w.heap.size + 1 < ((w.alloc (.cells #[.int .i64 s1, .int .i64 k1, .int .i64 v1, V1] 27)).alloc (.cells #[.int .i64 s2, .int .i64 k2, .int .i64 v2, V2] 27)).heap.size := by simp
    generalize ((w.alloc (.cells #[.int .i64 s1, .int .i64 k1, .int .i64 v1, V1] 27)).alloc (.cells #[.int .i64 s2, .int .i64 k2, .int .i64 v2, V2] 27)) = wb at r1 r2 hbb hl2 ⊢
    have HBB := Lib.hid hbb
    have HL2 := Lib.hid hl2
    have HL1 := Lib.hid (show w.heap.size < wb.heap.size by omega)
    have c10 := r1.c0
    have c11 := r1.c1
    have c12 := r1.c2
    have c13 := r1.c3
    have c20 := r2.c0
    have c21 := r2.c1
    have c22 := r2.c2
    have c23 := r2.c3
    clear r1 r2 hbb hl2
    go_region_with (go_at_call 35; (refine (origin_is _ _ _ _ _).mono ?_); rintro e w1 ⟨rfl, hb⟩; try have k10 := (hb.cell (p := ⟨w.heap.size, 0, none⟩) HL1.out).trans c10; try have k11 := (hb.cell (p := ⟨w.heap.size, 1, none⟩) HL1.out).trans c11; try have k12 := (hb.cell (p := ⟨w.heap.size, 2, none⟩) HL1.out).trans c12; try have k13 := (hb.cell (p := ⟨w.heap.size, 3, none⟩) HL1.out).trans c13; try have k20 := (hb.cell (p := ⟨w.heap.size + 1, 0, none⟩) HL2.out).trans c20; try have k21 := (hb.cell (p := ⟨w.heap.size + 1, 1, none⟩) HL2.out).trans c21; try have k22 := (hb.cell (p := ⟨w.heap.size + 1, 2, none⟩) HL2.out).trans c22; try have k23 := (hb.cell (p := ⟨w.heap.size + 1, 3, none⟩) HL2.out).trans c23; have HB := Lib.hid hb; clear hb)
    all_goals
      go_wp2
      go_ret
      exact ⟨rfl, ((HBB.out.drew).trans (HB.out.mono HBB.out.size)).trans (hb.mono (Nat.le_trans HBB.out.size HB.out.size))⟩

def soR (s0 k0 v0 s1 k1 v1 : Int) (l0 l1 : List Str) : Bool := soB s0 k0 s1 k1
abbrev sorR := soR
theorem sor_spec (s0 k0 v0 s1 k1 v1 : Int) (b0 b1 : Option Addr) (d0 d1 : Nat) (l0 l1 : List Str) (r : Bool) (w : World) (hr : sorR s0 k0 v0 s1 k1 v1 l0 l1 = r) (h0 : Sm w b0 l0 d0) (h1 : Sm w b1 l1 d1) :
    Calls Try.prog 22 #[.agg #[.int .i64 s0, .int .i64 k0, .int .i64 v0, .slice b0 l0.length d0], .agg #[.int .i64 s1, .int .i64 k1, .int .i64 v1, .slice b1 l1.length d1]] w fun e w' => e = .returned (.bool r) ∧ Below w.heap.size w w' :=
  so_spec s0 k0 v0 s1 k1 v1 _ _ r w hr
theorem sor_impl (s0 k0 v0 s1 k1 v1 : Int) (b0 b1 : Option Addr) (d0 d1 : Nat) (l0 l1 : List Str) (r : Bool) (w : World) (hr : sorR s0 k0 v0 s1 k1 v1 l0 l1 = r) (h0 : Sm w b0 l0 d0) (h1 : Sm w b1 l1 d1) :
    Calls Try.prog 23 #[.agg #[.int .i64 s0, .int .i64 k0, .int .i64 v0, .slice b0 l0.length d0], .agg #[.int .i64 s1, .int .i64 k1, .int .i64 v1, .slice b1 l1.length d1]] w fun e w' => e = .returned (.bool r) ∧ Below w.heap.size w w' :=
  so_impl s0 k0 v0 s1 k1 v1 _ _ r w hr

end Go.Proofs.Ytlapgcbeemdboaa
