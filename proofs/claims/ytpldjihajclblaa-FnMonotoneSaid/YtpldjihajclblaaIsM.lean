/-
  What IsMonotone answers, on both sides. By an AI agent.
-/
import Derived.Test.YtpldjihajclblaaMvI
namespace Go.Proofs.Ytpldjihajclblaa
open Go.RowKit
set_option linter.unusedVariables false
set_option linter.unusedSimpArgs false
set_option linter.unnecessarySimpa false

theorem mon_of {R : List (List TS)} {A B : List Int} {s : Bool} (h : VioOut R A B s) : monB R = (vsB R && !s) := by
  unfold monB
  rcases h with ⟨rfl, h⟩ | ⟨rfl, h, _, _⟩ <;> rw [h] <;> rfl

set_option maxRecDepth 100000 in
theorem im_impl (a : Option Addr) (c : Nat) (R : List (List TS)) (r : Bool) (w : World) (hr : monB R = r) (h : SmRu w a R c) :
    Calls Try.prog 9 #[.agg #[.slice a R.length c]] w fun e w' => e = .returned (.bool r) ∧ Below w.heap.size w w' := by
  obtain ⟨A, B, s, ho⟩ := vio_some R
  rw [mon_of ho] at hr
  obtain ⟨w1, hw1⟩ : ∃ w1, w.alloc (.cells #[.slice a R.length c] 26) = w1 := ⟨_, rfl⟩
  have HB1 := Lib.hid (show Below w.heap.size w w1 by rw [← hw1]; exact (Below.refl w.heap.size w).alloc (Nat.le_refl _) _)
  have HBX := Lib.hid (show BlkV w1 w.heap.size 26 #[.slice a R.length c] by rw [← hw1]; exact BlkV.new _ _ _)
  have HS := Lib.hid (h.below HB1.out)
  have q0 := HBX.out.one0
  have HWE := Lib.hid hw1
  obtain ⟨bv, hbv⟩ : ∃ b, vsB R = b := ⟨_, rfl⟩
  rw [hbv] at hr
  have HC := Lib.hid (mv_impl a c R A B s w1 HS.out ho)
  have HCV := Lib.hid (fun (W : World) (hW : Below w1.heap.size w1 W) => vs_impl a c R bv W hbv (HS.out.below hW))
  clear h ho hbv hw1
  subst hr
  go_enter Try.func9, Try.ntmps9
  cases bv <;> cases s
  all_goals
    go_wp2_with (first
      | (go_at_call 6; rw [HWE.out]; ((with_reducible refine HC.out.mono ?_); rintro e w2 ⟨a1, c1, a2, c2, rfl, -, hb2⟩; have z0 := (HBX.out.below hb2).one0; have HB2 := Lib.hid hb2; clear hb2))
      | (go_at_call 18; ((with_reducible refine (HCV.out _ HB2.out).mono ?_); rintro e w3 ⟨rfl, hb3⟩; have HB3 := Lib.hid (HB2.out.trans (hb3.mono HB2.out.size)); clear hb3)))
    go_ret
    exact ⟨rfl, HB1.out.trans (HB3.out.mono HB1.out.size)⟩

end Go.Proofs.Ytpldjihajclblaa
