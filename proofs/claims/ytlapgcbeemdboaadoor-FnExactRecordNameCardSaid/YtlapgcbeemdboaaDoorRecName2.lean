/-
  What impl.RecordName with its methods answers. By an AI agent.
-/
import Derived.Test.YtlapgcbeemdboaaDoorRecName
import Derived.Test.YtlapgcbeemdboaaDoorRecSame
namespace Go.Proofs.YtlapgcbeemdboaaDoor
open Go.RowKit
set_option linter.unusedVariables false

theorem impl_fi_at (n : Int) (t : ByteArray) (w : World) (h0 : -9223372036854775808 ≤ n) (h1 : n ≤ 9223372036854775807) (ht : TabAt w) (hn : strOf (Lib.itoa n) = t) :
    Calls Tryd.prog 38 #[.int .i64 n] w fun e w' => e = .returned (.string t) ∧ Below w.heap.size w w' := by
  rw [← hn]
  exact impl_fi n w h0 h1 ht

set_option maxRecDepth 100000 in
set_option maxHeartbeats 1600000 in
theorem name_impl (s k : Int) (w : World) (hs0 : 0 ≤ s) (hs1 : s ≤ 3) (hk0 : 1 ≤ k) (hk1 : k ≤ 99) (ht : TabAt w) :
    Calls Tryd.prog 23 #[.agg #[.int .i64 s, .int .i64 k]] w fun e w' => e = .returned (.string (strOf (nmL s k))) ∧ Below w.heap.size w w' := by
  obtain ⟨wb, hwb⟩ : ∃ wb, wb = w.alloc (.cells #[.int .i64 s, .int .i64 k] 41) := ⟨_, rfl⟩
  have HB := Lib.hid (show Below w.heap.size w wb by rw [hwb]; exact (Below.refl _ _).alloc (Nat.le_refl _) _)
  have q0 : wb.cell? ⟨w.heap.size, 0, none⟩ = some (.int .i64 s) := by rw [hwb, World.cell?_alloc_at _ _ _ _ rfl]; rfl
  have q1 : wb.cell? ⟨w.heap.size, 1, none⟩ = some (.int .i64 k) := by rw [hwb, World.cell?_alloc_at _ _ _ _ rfl]; rfl
  have HLT := Lib.hid (show w.heap.size < wb.heap.size by rw [hwb]; simp)
  have HT := Lib.hid (ht.on HB.out)
  have HWB := Lib.hid hwb
  obtain ⟨t, htt⟩ : ∃ t, strOf (Lib.itoa k) = t := ⟨_, rfl⟩
  have hil : t.size ≤ 21 := by rw [← htt, strOf_size]; exact Lib.itoa_length_le k (by omega) (by omega)
  have HTT := Lib.hid htt
  clear hwb ht htt
  have hway : s = 0 ∨ s = 1 ∨ s = 2 ∨ s = 3 := by omega
  rcases hway with rfl | rfl | rfl | rfl
  · go_enter Tryd.func23, Tryd.ntmps23
    have hwr : IntKind.i64.wrap 1 = 1 := by decide
    have hzz : ¬ 9223372036854775807 < 1 + t.size := by omega
    go_wp2_with (fail)
    rw [← HWB.out]
    go_region_held3 (fun w' => w'.cell? ⟨w.heap.size, 0, none⟩ = some (.int .i64 0) ∧ w'.cell? ⟨w.heap.size, 1, none⟩ = some (.int .i64 k))
      (first | exact ⟨t0, t1⟩ | exact ⟨q0, q1⟩)
      (first
        | (go_at_call 38; (with_reducible refine (impl_fi_at k t _ (by omega) (by omega) ?_ HTT.out).mono ?_); exact HT.out; rintro e w1 ⟨rfl, hb⟩; have t0 := ((undrew hb).cell (p := ⟨w.heap.size, 0, none⟩) HLT.out).trans q0; have t1 := ((undrew hb).cell (p := ⟨w.heap.size, 1, none⟩) HLT.out).trans q1; have HB1 := Lib.hid (undrew hb); clear hb))
    all_goals
      go_wp2
      go_ret
      exact ⟨by rw [← HTT.out]; exact congrArg Ending.returned (str_cons _ _ _ rfl), HB.out.trans (HB1.out.mono HB.out.size)⟩
  · go_enter Tryd.func23, Tryd.ntmps23
    have hwr : IntKind.i64.wrap 2 = 2 := by decide
    have hzz : ¬ 9223372036854775807 < 1 + t.size := by omega
    go_wp2_with (fail)
    rw [← HWB.out]
    go_region_held3 (fun w' => w'.cell? ⟨w.heap.size, 0, none⟩ = some (.int .i64 1) ∧ w'.cell? ⟨w.heap.size, 1, none⟩ = some (.int .i64 k))
      (first | exact ⟨t0, t1⟩ | exact ⟨q0, q1⟩)
      (first
        | (go_at_call 38; (with_reducible refine (impl_fi_at k t _ (by omega) (by omega) ?_ HTT.out).mono ?_); exact HT.out; rintro e w1 ⟨rfl, hb⟩; have t0 := ((undrew hb).cell (p := ⟨w.heap.size, 0, none⟩) HLT.out).trans q0; have t1 := ((undrew hb).cell (p := ⟨w.heap.size, 1, none⟩) HLT.out).trans q1; have HB1 := Lib.hid (undrew hb); clear hb))
    all_goals
      go_wp2
      go_ret
      exact ⟨by rw [← HTT.out]; exact congrArg Ending.returned (str_cons _ _ _ rfl), HB.out.trans (HB1.out.mono HB.out.size)⟩
  · go_enter Tryd.func23, Tryd.ntmps23
    have hwr : IntKind.i64.wrap 3 = 3 := by decide
    have hzz : ¬ 9223372036854775807 < 1 + t.size := by omega
    go_wp2_with (fail)
    rw [← HWB.out]
    go_region_held3 (fun w' => w'.cell? ⟨w.heap.size, 0, none⟩ = some (.int .i64 2) ∧ w'.cell? ⟨w.heap.size, 1, none⟩ = some (.int .i64 k))
      (first | exact ⟨t0, t1⟩ | exact ⟨q0, q1⟩)
      (first
        | (go_at_call 38; (with_reducible refine (impl_fi_at k t _ (by omega) (by omega) ?_ HTT.out).mono ?_); exact HT.out; rintro e w1 ⟨rfl, hb⟩; have t0 := ((undrew hb).cell (p := ⟨w.heap.size, 0, none⟩) HLT.out).trans q0; have t1 := ((undrew hb).cell (p := ⟨w.heap.size, 1, none⟩) HLT.out).trans q1; have HB1 := Lib.hid (undrew hb); clear hb))
    all_goals
      go_wp2
      go_ret
      exact ⟨by rw [← HTT.out]; exact congrArg Ending.returned (str_cons _ _ _ rfl), HB.out.trans (HB1.out.mono HB.out.size)⟩
  · go_enter Tryd.func23, Tryd.ntmps23
    have hwr : IntKind.i64.wrap 4 = 4 := by decide
    have hzz : ¬ 9223372036854775807 < 1 + t.size := by omega
    go_wp2_with (fail)
    rw [← HWB.out]
    go_region_held3 (fun w' => w'.cell? ⟨w.heap.size, 0, none⟩ = some (.int .i64 3) ∧ w'.cell? ⟨w.heap.size, 1, none⟩ = some (.int .i64 k))
      (first | exact ⟨t0, t1⟩ | exact ⟨q0, q1⟩)
      (first
        | (go_at_call 38; (with_reducible refine (impl_fi_at k t _ (by omega) (by omega) ?_ HTT.out).mono ?_); exact HT.out; rintro e w1 ⟨rfl, hb⟩; have t0 := ((undrew hb).cell (p := ⟨w.heap.size, 0, none⟩) HLT.out).trans q0; have t1 := ((undrew hb).cell (p := ⟨w.heap.size, 1, none⟩) HLT.out).trans q1; have HB1 := Lib.hid (undrew hb); clear hb))
    all_goals
      go_wp2
      go_ret
      exact ⟨by rw [← HTT.out]; exact congrArg Ending.returned (str_cons _ _ _ rfl), HB.out.trans (HB1.out.mono HB.out.size)⟩

set_option maxRecDepth 100000 in
set_option maxHeartbeats 800000 in
theorem rn_impl (s0 k0 v0 : Int) (b0 : Option Addr) (d0 : Nat) (l0 : List Str) (r : ByteArray) (w : World) (hr : rnR s0 k0 v0 l0 = r) (h0 : Sm w b0 l0 d0) (ht : TabAt w) :
    Calls Tryd.prog 9 #[.agg #[.int .i64 s0, .int .i64 k0, .int .i64 v0, .slice b0 l0.length d0]] w fun e w' => e = .returned (.string r) ∧ Below w.heap.size w w' := by
  have HSM := Lib.hid (h0.below ((Below.refl _ _).alloc (Nat.le_refl _) (.cells #[.int .i64 s0, .int .i64 k0, .int .i64 v0, .slice b0 l0.length d0] 27)))
  have HR := Lib.hid hr
  have HT := Lib.hid ht
  clear h0 hr ht
  by_cases hv : recB s0 k0 v0 l0 = true
  · obtain ⟨hs0, hs1, hk0, hk1, -, -⟩ := head_of hv
    have HRR := Lib.hid (show strOf (nmL s0 k0) = r by rw [← HR.out, rn_yes hv])
    have HV := Lib.hid hv
    clear hv
    go_enter Tryd.func9, Tryd.ntmps9
    go_wp2_with (go_at_call 21; (refine (iv_impl _ _ _ _ _ _ _ _ HV.out HSM.out).mono ?_); rintro e w1 ⟨rfl, hb⟩; refine Hid.out ?_)
    have r1 := (RecB.new 27 w _ s0 k0 v0 (.slice b0 l0.length d0) rfl).below hb
    have HB := Lib.hid (below_new hb)
    have q0 := r1.c0
    have q1 := r1.c1
    have q2 := r1.c2
    have q3 := r1.c3
    clear r1 hb
    refine Lib.hid ?_
    go_wp2_with (first
      | (go_at_call 22; (refine (origin_is _ _ _ _ _).mono ?_); rintro e w2 ⟨rfl, hb2⟩; have HB2 := Lib.hid (HB.out.trans (hb2.mono HB.out.size)); clear hb2)
      | (go_at_call 23; (refine (name_impl _ _ _ hs0 hs1 hk0 hk1 (HT.out.on HB2.out)).mono ?_); rintro e w3 ⟨rfl, hb3⟩))
    go_ret
    exact ⟨ret_str HRR.out, HB2.out.trans (hb3.mono HB2.out.size)⟩
  · have HV := Lib.hid (show recB s0 k0 v0 l0 = false by simpa using hv)
    have HRR := Lib.hid (show ⟨#[]⟩ = r by rw [← HR.out, rn_no HV.out])
    clear hv
    go_enter Tryd.func9, Tryd.ntmps9
    go_wp2_with (go_at_call 21; (refine (iv_impl _ _ _ _ _ _ _ _ HV.out HSM.out).mono ?_); rintro e w1 ⟨rfl, hb⟩)
    go_ret
    exact ⟨ret_str HRR.out, below_new hb⟩

end Go.Proofs.YtlapgcbeemdboaaDoor
