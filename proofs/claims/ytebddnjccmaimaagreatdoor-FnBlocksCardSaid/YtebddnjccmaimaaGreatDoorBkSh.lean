/-
  What spec.ShareBlock and impl.ShareBlock answer. By an AI agent.
-/
import Derived.Test.YtebddnjccmaimaaGreatDoorBkS
import Derived.Test.YtebddnjccmaimaaGreatDoorBkJ
import Derived.Test.YtebddnjccmaimaaGreatDoorGSet
import Derived.Deep.RegionHeld3
namespace Go.Proofs.YtebddnjccmaimaaGreatDoor
open Go.RowKit Go.Maps
set_option linter.unusedVariables false

noncomputable def shareR (s0 k0 v0 s1 k1 v1 : Int) (l0 l1 : List Str) : Bool := decide (0 < (commonR (bkR ((s0, k0, v0), l0)) (bkR ((s1, k1, v1), l1))).length)
theorem bk_small (x : RC) : (bkR x).length ≤ 4000000 ∧ ∀ y ∈ bkR x, y.length ≤ 1048576 :=
  ⟨by have := bk_len x; omega, fun y hy => by have := bk_mem hy; omega⟩
theorem share_iff (x y : RC) : 0 < (commonR (bkR x) (bkR y)).length ↔ ∃ z, z ∈ bkR x ∧ z ∈ bkR y := by
  constructor
  · intro h
    obtain ⟨z, hz⟩ := List.exists_mem_of_length_pos h
    rw [setL_mem] at hz
    simp [bothL] at hz
    exact ⟨z, hz⟩
  · rintro ⟨z, h1, h2⟩
    exact List.length_pos_of_mem (a := z) ((setL_mem (bothL (bkR x) (bkR y)) z).2 (by simp [bothL, h1, h2]))
theorem BlkV.four0 {w : World} {g : Nat} {t : TypeId} {a b c d : Value} (h : BlkV w g t #[a, b, c, d]) : w.cell? ⟨g, 0, none⟩ = some a := h.cell 0
theorem BlkV.four1 {w : World} {g : Nat} {t : TypeId} {a b c d : Value} (h : BlkV w g t #[a, b, c, d]) : w.cell? ⟨g, 1, none⟩ = some b := h.cell 1
theorem BlkV.four2 {w : World} {g : Nat} {t : TypeId} {a b c d : Value} (h : BlkV w g t #[a, b, c, d]) : w.cell? ⟨g, 2, none⟩ = some c := h.cell 2
theorem BlkV.four3 {w : World} {g : Nat} {t : TypeId} {a b c d : Value} (h : BlkV w g t #[a, b, c, d]) : w.cell? ⟨g, 3, none⟩ = some d := h.cell 3
/-- the cells of two records -/
def TwoR (w : World) (g h : Nat) (s0 k0 v0 : Int) (V0 : Value) (s1 k1 v1 : Int) (V1 : Value) : Prop :=
  w.cell? ⟨g, 0, none⟩ = some (.int .i64 s0) ∧ w.cell? ⟨g, 1, none⟩ = some (.int .i64 k0) ∧ w.cell? ⟨g, 2, none⟩ = some (.int .i64 v0) ∧ w.cell? ⟨g, 3, none⟩ = some V0 ∧ w.cell? ⟨h, 0, none⟩ = some (.int .i64 s1) ∧ w.cell? ⟨h, 1, none⟩ = some (.int .i64 k1) ∧ w.cell? ⟨h, 2, none⟩ = some (.int .i64 v1) ∧ w.cell? ⟨h, 3, none⟩ = some V1
theorem TwoR.below {w w' : World} {g h : Nat} {s0 k0 v0 : Int} {V0 : Value} {s1 k1 v1 : Int} {V1 : Value} (t : TwoR w g h s0 k0 v0 V0 s1 k1 v1 V1) (hb : Below w.heap.size w w') : TwoR w' g h s0 k0 v0 V0 s1 k1 v1 V1 := by
  have k : ∀ {p : Addr} {v : Value}, w.cell? p = some v → w'.cell? p = some v := fun {p v} hc => (hb.cell (World.block_lt_of_cell? w _ hc)).trans hc
  exact ⟨k t.1, k t.2.1, k t.2.2.1, k t.2.2.2.1, k t.2.2.2.2.1, k t.2.2.2.2.2.1, k t.2.2.2.2.2.2.1, k t.2.2.2.2.2.2.2⟩

set_option maxRecDepth 100000 in
set_option maxHeartbeats 3200000 in
theorem share_spec (s0 k0 v0 s1 k1 v1 : Int) (b0 b1 : Option Addr) (d0 d1 : Nat) (l0 l1 : List Str) (r : Bool) (w : World) (hr : shareR s0 k0 v0 s1 k1 v1 l0 l1 = r) (h0 : Sm w b0 l0 d0) (h1 : Sm w b1 l1 d1) (hT : SpT w) :
    Calls Tryz.prog 41 #[.agg #[.int .i64 s0, .int .i64 k0, .int .i64 v0, .slice b0 l0.length d0], .agg #[.int .i64 s1, .int .i64 k1, .int .i64 v1, .slice b1 l1.length d1]] w fun e w' => e = .returned (.bool r) ∧ Below w.heap.size w w' := by
  obtain ⟨wb, hwb⟩ : ∃ wb, wb = (w.alloc (.cells #[.int .i64 s0, .int .i64 k0, .int .i64 v0, .slice b0 l0.length d0] 37)).alloc (.cells #[.int .i64 s1, .int .i64 k1, .int .i64 v1, .slice b1 l1.length d1] 37) := ⟨_, rfl⟩
  have B0 := Lib.hid (show Below w.heap.size w wb by rw [hwb]; exact ((Below.refl w.heap.size w).alloc (Nat.le_refl _) _).alloc (by simp) _)
  have RA := Lib.hid (show RecB 37 wb w.heap.size s0 k0 v0 (.slice b0 l0.length d0) by rw [hwb]; exact (RecB.new _ _ _ _ _ _ _ rfl).alloc _)
  have RB := Lib.hid (show RecB 37 wb (w.heap.size + 1) s1 k1 v1 (.slice b1 l1.length d1) by rw [hwb]; exact RecB.new _ _ _ _ _ _ _ (by simp))
  have HWB := Lib.hid hwb
  have t0 : TwoR wb w.heap.size (w.heap.size + 1) s0 k0 v0 (.slice b0 l0.length d0) s1 k1 v1 (.slice b1 l1.length d1) := ⟨RA.out.c0, RA.out.c1, RA.out.c2, RA.out.c3, RB.out.c0, RB.out.c1, RB.out.c2, RB.out.c3⟩
  obtain ⟨K0, hK0⟩ : ∃ x, bkR ((s0, k0, v0), l0) = x := ⟨_, rfl⟩
  obtain ⟨K1, hK1⟩ : ∃ x, bkR ((s1, k1, v1), l1) = x := ⟨_, rfl⟩
  have S0 := Lib.hid (show K0.length ≤ 4000000 ∧ ∀ y ∈ K0, y.length ≤ 1048576 by rw [← hK0]; exact bk_small _)
  have S1 := Lib.hid (show K1.length ≤ 4000000 ∧ ∀ y ∈ K1, y.length ≤ 1048576 by rw [← hK1]; exact bk_small _)
  obtain ⟨C, hC⟩ : ∃ C, commonR K0 K1 = C := ⟨_, rfl⟩
  have hrr : decide (0 < C.length) = r := by rw [← hr, ← hC, ← hK0, ← hK1]; rfl
  have XC := Lib.hid (fun (a0 a1 : Option Addr) (c0 c1 : Nat) (u : World) (h0 : Sm u a0 K0 c0) (h1 : Sm u a1 K1 c1) => show Calls Tryz.prog 77 #[.slice a0 K0.length c0, .slice a1 K1.length c1] u (GivesS u C) by rw [← hC]; exact common_spec a0 a1 c0 c1 K0 K1 u h0 h1)
  have X0 := Lib.hid (fun u (hb : Below w.heap.size w u) => bk_spec s0 k0 v0 b0 d0 l0 K0 u hK0 (h0.below hb) (hT.below hb))
  have X1 := Lib.hid (fun u (hb : Below w.heap.size w u) => bk_spec s1 k1 v1 b1 d1 l1 K1 u hK1 (h1.below hb) (hT.below hb))
  clear hwb h0 h1 hT hr hK0 hK1 hC
  have hcase : (r = true ∧ 0 < C.length) ∨ (r = false ∧ ¬ 0 < C.length) := by
    rw [← hrr]
    by_cases h : 0 < C.length
    · exact .inl ⟨decide_eq_true h, h⟩
    · exact .inr ⟨decide_eq_false h, h⟩
  clear hrr
  rcases hcase with ⟨rfl, hn⟩ | ⟨rfl, hn⟩
  all_goals
    go_enter Tryz.func41, Tryz.ntmps41
    go_wp2_with (fail)
    rw [← HWB.out]
    go_region_held3 (fun w' => w'.cell? ⟨w.heap.size, 0, none⟩ = some (.int .i64 s0) ∧ w'.cell? ⟨w.heap.size, 1, none⟩ = some (.int .i64 k0) ∧ w'.cell? ⟨w.heap.size, 2, none⟩ = some (.int .i64 v0) ∧ w'.cell? ⟨w.heap.size, 3, none⟩ = some (.slice b0 l0.length d0) ∧ w'.cell? ⟨w.heap.size + 1, 0, none⟩ = some (.int .i64 s1) ∧ w'.cell? ⟨w.heap.size + 1, 1, none⟩ = some (.int .i64 k1) ∧ w'.cell? ⟨w.heap.size + 1, 2, none⟩ = some (.int .i64 v1) ∧ w'.cell? ⟨w.heap.size + 1, 3, none⟩ = some (.slice b1 l1.length d1))
      (first | exact t3 | exact t2 | exact t1 | exact t0)
      (first
        | (go_at_call 24; (with_reducible refine (X0.out _ B0.out.drew).mono ?_); rintro e w1 ⟨a0, c0, rfl, ho, hb⟩; have hq := undrew hb; have t1 := t0.below hq; have B1 := Lib.hid (B0.out.trans (hq.mono B0.out.size)); have O0_1 := Lib.hid ho; clear ho hb hq)
        | (go_at_call 24; (with_reducible refine (X1.out _ B1.out).mono ?_); rintro e w2 ⟨a1, c1, rfl, ho, hb⟩; have t2 := t1.below hb; have B2 := Lib.hid (B1.out.trans (hb.mono B1.out.size)); have O0_2 := Lib.hid (O0_1.out.below hb); have O1_2 := Lib.hid ho; clear ho hb)
        | (go_at_call 77; (with_reducible refine (XC.out a0 a1 c0 c1 _ (O0_2.out.sm S0.out.1 S0.out.2) (O1_2.out.sm S1.out.1 S1.out.2)).mono ?_); rintro e w3 ⟨a3, c3, rfl, ho, hb⟩; have t3 := t2.below hb; have B3 := Lib.hid (B2.out.trans (hb.mono B2.out.size)); clear ho hb))
    refine Hid.out ?_
    refine Lib.hid ?_
    go_wp2
    go_ret
    exact ⟨rfl, B3.out⟩


set_option maxRecDepth 100000 in
set_option maxHeartbeats 3200000 in
theorem share_impl (s0 k0 v0 s1 k1 v1 : Int) (b0 b1 : Option Addr) (d0 d1 : Nat) (l0 l1 : List Str) (r : Bool) (w : World) (hr : shareR s0 k0 v0 s1 k1 v1 l0 l1 = r) (h0 : Sm w b0 l0 d0) (h1 : Sm w b1 l1 d1) (hA : TabAt w) (hT : SpT w) :
    Calls Tryz.prog 19 #[.agg #[.int .i64 s0, .int .i64 k0, .int .i64 v0, .slice b0 l0.length d0], .agg #[.int .i64 s1, .int .i64 k1, .int .i64 v1, .slice b1 l1.length d1]] w fun e w' => e = .returned (.bool r) ∧ Below w.heap.size w w' := by
  obtain ⟨wb, hwb⟩ : ∃ wb, wb = (w.alloc (.cells #[.int .i64 s0, .int .i64 k0, .int .i64 v0, .slice b0 l0.length d0] 37)).alloc (.cells #[.int .i64 s1, .int .i64 k1, .int .i64 v1, .slice b1 l1.length d1] 37) := ⟨_, rfl⟩
  have B0 := Lib.hid (show Below w.heap.size w wb by rw [hwb]; exact ((Below.refl w.heap.size w).alloc (Nat.le_refl _) _).alloc (by simp) _)
  have RA := Lib.hid (show RecB 37 wb w.heap.size s0 k0 v0 (.slice b0 l0.length d0) by rw [hwb]; exact (RecB.new _ _ _ _ _ _ _ rfl).alloc _)
  have RB := Lib.hid (show RecB 37 wb (w.heap.size + 1) s1 k1 v1 (.slice b1 l1.length d1) by rw [hwb]; exact RecB.new _ _ _ _ _ _ _ (by simp))
  have HWB := Lib.hid hwb
  have t0 : TwoR wb w.heap.size (w.heap.size + 1) s0 k0 v0 (.slice b0 l0.length d0) s1 k1 v1 (.slice b1 l1.length d1) := ⟨RA.out.c0, RA.out.c1, RA.out.c2, RA.out.c3, RB.out.c0, RB.out.c1, RB.out.c2, RB.out.c3⟩
  obtain ⟨K0, hK0⟩ : ∃ x, bkR ((s0, k0, v0), l0) = x := ⟨_, rfl⟩
  obtain ⟨K1, hK1⟩ : ∃ x, bkR ((s1, k1, v1), l1) = x := ⟨_, rfl⟩
  have S0 := Lib.hid (show K0.length ≤ 4000000 ∧ ∀ y ∈ K0, y.length ≤ 1048576 by rw [← hK0]; exact bk_small _)
  have S1 := Lib.hid (show K1.length ≤ 4000000 ∧ ∀ y ∈ K1, y.length ≤ 1048576 by rw [← hK1]; exact bk_small _)
  obtain ⟨C, hC⟩ : ∃ C, commonR K0 K1 = C := ⟨_, rfl⟩
  have hrr : decide (0 < C.length) = r := by rw [← hr, ← hC, ← hK0, ← hK1]; rfl
  have XC := Lib.hid (fun (a0 a1 : Option Addr) (c0 c1 : Nat) (u : World) (h0 : Sm u a0 K0 c0) (h1 : Sm u a1 K1 c1) => show Calls Tryz.prog 52 #[.slice a0 K0.length c0, .slice a1 K1.length c1] u (GivesS u C) by rw [← hC]; exact common_impl a0 a1 c0 c1 K0 K1 u h0 h1)
  have X0 := Lib.hid (fun u (hb : Below w.heap.size w u) => bk_impl s0 k0 v0 b0 d0 l0 K0 u hK0 (h0.below hb) (hT.below hb) (hA.on hb))
  have X1 := Lib.hid (fun u (hb : Below w.heap.size w u) => bk_impl s1 k1 v1 b1 d1 l1 K1 u hK1 (h1.below hb) (hT.below hb) (hA.on hb))
  clear hwb h0 h1 hT hA hr hK0 hK1 hC
  have hcase : (r = true ∧ 0 < C.length) ∨ (r = false ∧ ¬ 0 < C.length) := by
    rw [← hrr]
    by_cases h : 0 < C.length
    · exact .inl ⟨decide_eq_true h, h⟩
    · exact .inr ⟨decide_eq_false h, h⟩
  clear hrr
  rcases hcase with ⟨rfl, hn⟩ | ⟨rfl, hn⟩
  all_goals
    go_enter Tryz.func19, Tryz.ntmps19
    go_wp2_with (fail)
    rw [← HWB.out]
    go_region_held3 (fun w' => w'.cell? ⟨w.heap.size, 0, none⟩ = some (.int .i64 s0) ∧ w'.cell? ⟨w.heap.size, 1, none⟩ = some (.int .i64 k0) ∧ w'.cell? ⟨w.heap.size, 2, none⟩ = some (.int .i64 v0) ∧ w'.cell? ⟨w.heap.size, 3, none⟩ = some (.slice b0 l0.length d0) ∧ w'.cell? ⟨w.heap.size + 1, 0, none⟩ = some (.int .i64 s1) ∧ w'.cell? ⟨w.heap.size + 1, 1, none⟩ = some (.int .i64 k1) ∧ w'.cell? ⟨w.heap.size + 1, 2, none⟩ = some (.int .i64 v1) ∧ w'.cell? ⟨w.heap.size + 1, 3, none⟩ = some (.slice b1 l1.length d1))
      (first | exact t3 | exact t2 | exact t1 | exact t0)
      (first
        | (go_at_call 21; (with_reducible refine (X0.out _ B0.out.drew).mono ?_); rintro e w1 ⟨a0, c0, rfl, ho, hb⟩; have hq := undrew hb; have t1 := t0.below hq; have B1 := Lib.hid (B0.out.trans (hq.mono B0.out.size)); have O0_1 := Lib.hid ho; clear ho hb hq)
        | (go_at_call 21; (with_reducible refine (X1.out _ B1.out).mono ?_); rintro e w2 ⟨a1, c1, rfl, ho, hb⟩; have t2 := t1.below hb; have B2 := Lib.hid (B1.out.trans (hb.mono B1.out.size)); have O0_2 := Lib.hid (O0_1.out.below hb); have O1_2 := Lib.hid ho; clear ho hb)
        | (go_at_call 52; (with_reducible refine (XC.out a0 a1 c0 c1 _ (O0_2.out.sm S0.out.1 S0.out.2) (O1_2.out.sm S1.out.1 S1.out.2)).mono ?_); rintro e w3 ⟨a3, c3, rfl, ho, hb⟩; have t3 := t2.below hb; have B3 := Lib.hid (B2.out.trans (hb.mono B2.out.size)); clear ho hb))
    refine Hid.out ?_
    refine Lib.hid ?_
    go_wp2
    go_ret
    exact ⟨rfl, B3.out⟩


end Go.Proofs.YtebddnjccmaimaaGreatDoor
