/-
  What spec.RecordName and impl.RecordName answer. By an AI agent.
-/
import Derived.Test.YtlapgcbeemdboaaDoorRecOk
import Derived.Test.YtlapgcbeemdboaaDoorFmtInt
import Derived.Deep.RegionWith
import Derived.Deep.RegionHeld3
namespace Go.Proofs.YtlapgcbeemdboaaDoor
open Go.RowKit
set_option linter.unusedVariables false

def nmL (s k : Int) : List UInt8 := UInt8.ofNat (97 + s).toNat :: Lib.itoa k
def rnR (s k v : Int) (l : List Str) : ByteArray := if recB s k v l = true then strOf (nmL s k) else ⟨#[]⟩
theorem rn_yes {s k v : Int} {l : List Str} (h : recB s k v l = true) : rnR s k v l = strOf (nmL s k) := if_pos h
theorem rn_no {s k v : Int} {l : List Str} (h : recB s k v l = false) : rnR s k v l = ⟨#[]⟩ := if_neg (by rw [h]; exact Bool.false_ne_true)
theorem head_of {s k v : Int} {l : List Str} (h : recB s k v l = true) : 0 ≤ s ∧ s ≤ 3 ∧ 1 ≤ k ∧ k ≤ 99 ∧ 1 ≤ v ∧ v ≤ 999 := by
  unfold recB headB at h
  simp at h
  omega

theorem convert_at (w : World) (g : Nat) (x : Int) (h0 : 0 ≤ x) (h1 : x ≤ 255) (hc : w.cell? ⟨g, 0, none⟩ = some (.int .u8 x)) :
    (convert 37 9 (.slice (some ⟨g, 0, none⟩) 1 1)).run Tryd.prog w = .ok (.string ⟨#[UInt8.ofNat x.toNat]⟩) w :=
  run_convert_bytes_back (P := Tryd.prog) w 37 9 5 ⟨g, 0, none⟩ 1 [UInt8.ofNat x.toNat] Tryd.underlying37 Tryd.underlying5 Tryd.underlying9
    (fun j hj => by
      obtain rfl : j = 0 := by simpa using hj
      simp [Addr.add, hc]
      have := ofNat_toNat_int x h0 h1
      simpa using this.symm)

theorem new_cell (w : World) (x : Int) : (w.alloc (.cells #[.int .u8 x] 5)).cell? ⟨w.heap.size, 0, none⟩ = some (.int .u8 x) := by
  rw [World.cell?_alloc_at _ _ _ _ rfl]
  rfl

set_option maxRecDepth 100000 in
set_option maxHeartbeats 1600000 in
theorem rn_spec (s0 k0 v0 : Int) (b0 : Option Addr) (d0 : Nat) (l0 : List Str) (r : ByteArray) (w : World) (hr : rnR s0 k0 v0 l0 = r) (h0 : Sm w b0 l0 d0) :
    Calls Tryd.prog 7 #[.agg #[.int .i64 s0, .int .i64 k0, .int .i64 v0, .slice b0 l0.length d0]] w fun e w' => e = .returned (.string r) ∧ Below w.heap.size w w' := by
  have HSM := Lib.hid (h0.below ((Below.refl _ _).alloc (Nat.le_refl _) (.cells #[.int .i64 s0, .int .i64 k0, .int .i64 v0, .slice b0 l0.length d0] 27)))
  have HR := Lib.hid hr
  clear h0 hr
  by_cases hv : recB s0 k0 v0 l0 = true
  · obtain ⟨hs0, hs1, hk0, hk1, -, -⟩ := head_of hv
    have HRR := Lib.hid (show strOf (nmL s0 k0) = r by rw [← HR.out, rn_yes hv])
    have HV := Lib.hid hv
    clear hv
    go_enter Tryd.func7, Tryd.ntmps7
    go_wp2_with (go_at_call 18; (refine (iv_spec _ _ _ _ _ _ _ _ HV.out HSM.out).mono ?_); rintro e w1 ⟨rfl, hb⟩; refine Hid.out ?_)
    have r1 := (RecB.new 27 w _ s0 k0 v0 (.slice b0 l0.length d0) rfl).below hb
    have HB := Lib.hid (below_new hb)
    have R1 := Lib.hid r1
    have q0 := r1.c0
    have q1 := r1.c1
    have z0 := fun o => (r1.alloc o).c0
    have z1 := fun o => (r1.alloc o).c1
    have hw1 : IntKind.i64.wrap (97 + s0) = 97 + s0 := IntWalk.i64_in _ (by omega)
    have hw2 : IntKind.u8.wrap (97 + s0) = 97 + s0 := by unfold IntKind.wrap; simp [IntKind.signed, IntKind.bits]; omega
    have hil : (strOf (Lib.itoa k0)).size ≤ 21 := by rw [strOf_size]; exact Lib.itoa_length_le k0 (by omega) (by omega)
    have hb0 : 0 ≤ 97 + s0 := by omega
    have hb1 : 97 + s0 ≤ 255 := by omega
    have hcv := convert_at (w1.alloc (.cells #[.int .u8 (97 + s0)] 5)) w1.heap.size (97 + s0) hb0 hb1 (new_cell w1 _)
    have hcd := convert_at (w1.alloc (.cells #[.int .u8 (97 + s0)] 5)).drew w1.heap.size (97 + s0) hb0 hb1 (new_cell w1 _)
    clear r1 hb
    refine Lib.hid ?_
    go_wp2_with (fail)
    go_region_with (go_at_call 19; (refine (spec_fi k0 _ (by omega) (by omega)).mono ?_); rintro e w2 ⟨rfl, hb2⟩; first
      | (have HB2 := Lib.hid (undrew hb2); have t0 := (R1.out.below (undrew hb2)).c0; have hce := convert_at (w2.alloc (.cells #[.int .u8 (97 + s0)] 5)) w2.heap.size (97 + s0) hb0 hb1 (new_cell w2 _); clear hb2)
      | (have HB2 := Lib.hid (below_new (undrew hb2)); have t0 := ((undrew hb2).cell (p := ⟨w1.heap.size, 0, none⟩) (by simp)).trans (new_cell w1 (97 + s0)); have hce := convert_at w2 w1.heap.size (97 + s0) hb0 hb1 t0; clear hb2))
    all_goals
      go_wp2
      go_ret
      first
        | exact ⟨by rw [← HRR.out]; exact congrArg Ending.returned (str_cons _ _ _ rfl), HB.out.trans (HB2.out.mono HB.out.size)⟩
        | exact ⟨by rw [← HRR.out]; exact congrArg Ending.returned (str_cons _ _ _ rfl), (HB.out.trans (HB2.out.mono HB.out.size)).alloc (Nat.le_trans HB.out.size HB2.out.size) _⟩
  · have HV := Lib.hid (show recB s0 k0 v0 l0 = false by simpa using hv)
    have HRR := Lib.hid (show ⟨#[]⟩ = r by rw [← HR.out, rn_no HV.out])
    clear hv
    go_enter Tryd.func7, Tryd.ntmps7
    go_wp2_with (go_at_call 18; (refine (iv_spec _ _ _ _ _ _ _ _ HV.out HSM.out).mono ?_); rintro e w1 ⟨rfl, hb⟩)
    go_ret
    exact ⟨ret_str HRR.out, below_new hb⟩

end Go.Proofs.YtlapgcbeemdboaaDoor
