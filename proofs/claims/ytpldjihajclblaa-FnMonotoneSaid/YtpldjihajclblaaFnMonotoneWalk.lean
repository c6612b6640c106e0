/-
  The walk of laws.FnMonotone: it answers true for every slice of bytes, a nil one too. By an AI agent.
-/
import Derived.Test.YtpldjihajclblaaRul14
import Derived.Test.YtpldjihajclblaaMvDraw
import Derived.Test.YtpldjihajclblaaMvI
import Derived.Test.YtpldjihajclblaaMvS
import Derived.Test.YtpldjihajclblaaIsM
import Derived.Test.YtpldjihajclblaaPlainMono
import Derived.Test.YtpldjihajclblaaGDraw
import Derived.Deep.RegionHeld3
namespace Go.Proofs.Ytpldjihajclblaa
open Go.RowKit
set_option linter.unusedVariables false
set_option linter.unusedSimpArgs false
set_option linter.unnecessarySimpa false

set_option maxRecDepth 100000 in
set_option maxHeartbeats 8000000 in
theorem FnMonotone_core (A0 : Option Addr) (len cap : Nat) (w : World) (hcode : CodeAt w w.heap.size A0 len) :
    Calls Try.prog 3 #[.slice A0 len cap] w fun e w' => e = .returned (.bool true) ∧ Below w.heap.size w w' := by
  have HCODE := Lib.hid hcode
  have hlen : (len : Int) ≤ 1048576 := by have := hcode.1; omega
  clear hcode
  go_enter Try.func3, Try.ntmps3
  go_wp2_with (go_at_call 4; (refine (big_no A0 len cap _ hlen).mono ?_); rintro e w0 ⟨rfl, rfl⟩; refine Hid.out ?_)
  refine Lib.hid ?_
  clear hlen
  go_wp2_with (go_at_call 5; ((with_reducible refine (mvdraw_any A0 len cap _ HCODE.out rules_any).mono ?_); rintro e wd ⟨R, a, cp, q, rfl, hq, ho, hsm, hbd⟩; refine Hid.out ?_))
  obtain ⟨w3, hw3⟩ : ∃ w3, wd.alloc (.cells #[.slice a R.length cp] 26) = w3 := ⟨_, rfl⟩
  have HX3 := Lib.hid (show BlkV w3 wd.heap.size 26 #[.slice a R.length cp] by rw [← hw3]; exact BlkV.new _ _ _)
  have HB3 := Lib.hid (show Below w.heap.size w w3 by rw [← hw3]; exact hbd.alloc hbd.size _)
  have HS := Lib.hid (show SmRu w3 a R cp by rw [← hw3]; exact (ho.smRu hq (by have := hsm.1; omega) (fun x hx => by have := hsm.2 x hx; omega)).alloc _)
  have HWE := Lib.hid hw3
  obtain ⟨A, B, s, hv⟩ := vio_some R
  have hab : A.length ≤ 6 ∧ B.length ≤ 6 := by
    rcases hv with ⟨_, h1⟩ | ⟨_, _, rfl, rfl⟩
    · have h2 := vio_is h1
      omega
    · exact ⟨by simp, by simp⟩
  have HAL := Lib.hid (show A.length ≤ maxLen ∧ B.length ≤ maxLen by unfold maxLen; omega)
  have HA6 := Lib.hid (show A.length ≤ 4000000 ∧ B.length ≤ 4000000 by omega)
  have HV := Lib.hid hv
  obtain ⟨v, hvv⟩ : ∃ v, vsB R = v := ⟨_, rfl⟩
  obtain ⟨m, hmm⟩ : ∃ m, monB R = m := ⟨_, rfl⟩
  have HVV := Lib.hid hvv
  have HMM := Lib.hid hmm
  have hcase : (s = true ∧ v = true ∧ m = false) ∨ (s = false ∧ v = true ∧ m = true) ∨ (s = false ∧ v = false ∧ m = false) := by
    have h1 := mon_of hv
    rw [hvv, hmm] at h1
    subst h1
    cases s
    · cases v
      · exact .inr (.inr ⟨rfl, rfl, rfl⟩)
      · exact .inr (.inl ⟨rfl, rfl, rfl⟩)
    · cases v
      · exact absurd (vio_bad hv hvv).2.2 (by simp)
      · exact .inl ⟨rfl, rfl, rfl⟩
  clear hq ho hsm hbd hw3 hab hv hvv hmm
  refine Lib.hid ?_
  go_wp2_with (first
    | (go_at_call 6; rw [HWE.out]; ((with_reducible refine (mv_impl a cp R A B s w3 HS.out HV.out).mono ?_); rintro e w4 ⟨a1, c1, a2, c2, rfl, hp, hb⟩; have HW4 := Lib.hid hb; have HI4 := Lib.hid hp.1.inI; have HK4 := Lib.hid hp.2.1.inI; have q4 : w4.cell? ⟨wd.heap.size, 0, none⟩ = some (.slice a R.length cp) := (HX3.out.below hb).cell 0; clear hp hb))
    | (go_at_call 7; ((with_reducible refine (mv_spec a cp R A B s _ (HS.out.below HW4.out) HV.out).mono ?_); rintro e w5 ⟨x1, d1, x2, d2, rfl, hp, hb⟩; refine Hid.out ?_)))
  have HJ5 := Lib.hid hp.1.inI
  have HL5 := Lib.hid hp.2.1.inI
  have HW5 := Lib.hid (HW4.out.trans (hb.mono HW4.out.size))
  have HI5 := Lib.hid (HI4.out.below hb)
  have HK5 := Lib.hid (HK4.out.below hb)
  have q5 : w5.cell? ⟨wd.heap.size, 0, none⟩ = some (.slice a R.length cp) := (HX3.out.below HW5.out).cell 0
  clear hp hb HW4 HI4 HK4
  (try clear q4)
  rcases hcase with ⟨rfl, rfl, rfl⟩ | ⟨rfl, rfl, rfl⟩ | ⟨rfl, rfl, rfl⟩
  · have HYES := Lib.hid (show rhB R A = true ∧ rhB R B = false ∧ domB B A = true by
      rcases HV.out with ⟨_, h1⟩ | ⟨h1, _⟩
      · have h2 := vio_is h1
        exact ⟨h2.1, h2.2.1, h2.2.2.1⟩
      · cases h1)
    refine Lib.hid ?_
    go_wp2_with (fail)
    refine wp_region_noPanic ?_
    refine wp_region_held_drew (S := (fun w' => w'.cell? ⟨wd.heap.size, 0, none⟩ = some (.slice a R.length cp))) (by kernel_rfl) ?hSb (fun hHeld => ?hRb)
    case hSb => exact q5
    refine wpAnyH_take (i := 0) (v := ?vb0) rfl (by kernel_rfl) (by kernel_rfl) (by kernel_rfl) (fun _ _ _ h => h) (Or.inl ⟨by kernel_rfl, ?hyb0⟩) (by assumption) ?hrb0
    case hyb0 => (intro w' hSw; (try dsimp only at hSw); go_simp; (try with_reducible rfl))
    (try simp only [Act.put, List.getElem_toArray, List.getElem_cons_succ, List.getElem_cons_zero, List.setIfInBounds_toArray, List.set_cons_zero, List.set_cons_succ])
    refine wpAnyH_take (i := 1) (v := ?vb1) rfl (by kernel_rfl) (by kernel_rfl) (by kernel_rfl) (fun _ _ _ h => h) (Or.inl ⟨by kernel_rfl, ?hyb1⟩) (by assumption) ?hrb1
    case hyb1 => (intro w' hSw; (try dsimp only at hSw); go_simp; (try with_reducible rfl))
    (try simp only [Act.put, List.getElem_toArray, List.getElem_cons_succ, List.getElem_cons_zero, List.setIfInBounds_toArray, List.set_cons_zero, List.set_cons_succ])
    refine wpAnyH_take (i := 2) (v := ?vb2) rfl (by kernel_rfl) (by kernel_rfl) (by kernel_rfl) (fun _ _ _ h => h) (Or.inl ⟨by kernel_rfl, ?hyb2⟩) (by assumption) ?hrb2
    case hyb2 => (intro w' hSw; (try dsimp only at hSw); go_simp; (try with_reducible rfl))
    (try simp only [Act.put, List.getElem_toArray, List.getElem_cons_succ, List.getElem_cons_zero, List.setIfInBounds_toArray, List.set_cons_zero, List.set_cons_succ])
    refine wpAnyH_take (i := 3) (v := ?vb3) rfl (by kernel_rfl) (by kernel_rfl) (by kernel_rfl) (fun _ _ _ h => h) (Or.inl ⟨by kernel_rfl, ?hyb3⟩) (by assumption) ?hrb3
    case hyb3 => (intro w' hSw; (try dsimp only at hSw); go_simp; (try with_reducible rfl))
    (try simp only [Act.put, List.getElem_toArray, List.getElem_cons_succ, List.getElem_cons_zero, List.setIfInBounds_toArray, List.set_cons_zero, List.set_cons_succ])
    refine wpAnyH_take (i := 4) (v := ?vb4) rfl (by kernel_rfl) (by kernel_rfl) (by kernel_rfl) (fun _ _ _ h => h) (Or.inl ⟨by kernel_rfl, ?hyb4⟩) (by assumption) ?hrb4
    case hyb4 => (intro w' hSw; (try dsimp only at hSw); go_simp; (try with_reducible rfl))
    (try simp only [Act.put, List.getElem_toArray, List.getElem_cons_succ, List.getElem_cons_zero, List.setIfInBounds_toArray, List.set_cons_zero, List.set_cons_succ])
    refine wpAnyH_take (i := 5) (v := ?vb5) rfl (by kernel_rfl) (by kernel_rfl) (by kernel_rfl) (fun _ _ _ h => h) (Or.inl ⟨by kernel_rfl, ?hyb5⟩) (by assumption) ?hrb5
    case hyb5 => (intro w' hSw; (try dsimp only at hSw); go_simp; (try with_reducible rfl))
    (try simp only [Act.put, List.getElem_toArray, List.getElem_cons_succ, List.getElem_cons_zero, List.setIfInBounds_toArray, List.set_cons_zero, List.set_cons_succ])
    refine wpAnyH_ready (rs := [6]) (by kernel_rfl) (by simp) ?_
    refine AllReadyH.cons rfl (fun K hK => ?_) AllReadyH.nil
    go_simp
    go_at_call 8
    refine (same_ints a1 x1 c1 d1 A _ HAL.out.1 (show InI w5.drew a1 A from HI5.out) (show InI w5.drew x1 A from HJ5.out)).mono ?_
    rintro e w6 ⟨rfl, hb⟩
    have hb6 := drew_below hb
    have HW6 := Lib.hid (HW5.out.trans (hb6.mono HW5.out.size))
    have q6 : w6.cell? ⟨wd.heap.size, 0, none⟩ = some (.slice a R.length cp) := (HX3.out.below HW6.out).cell 0
    have HI6 := Lib.hid (HI5.out.below hb6)
    have HK6 := Lib.hid (HK5.out.below hb6)
    have HJ6 := Lib.hid (HJ5.out.below hb6)
    have HL6 := Lib.hid (HL5.out.below hb6)
    clear hb hb6
    refine hK.out _ _ ?hSb6 (fun hHeld6 => ?hTb6)
    case hSb6 => exact q6
    clear hK K
    (try simp only [Act.put, List.getElem_toArray, List.getElem_cons_succ, List.getElem_cons_zero, List.setIfInBounds_toArray, List.set_cons_zero, List.set_cons_succ])
    refine wpAnyH_take (i := 7) (v := ?vb7) rfl (by kernel_rfl) (by kernel_rfl) (by kernel_rfl) (fun _ _ _ h => h) (Or.inl ⟨by kernel_rfl, ?hyb7⟩) (by assumption) ?hrb7
    case hyb7 => (intro w' hSw; (try dsimp only at hSw); go_simp; (try with_reducible rfl))
    (try simp only [Act.put, List.getElem_toArray, List.getElem_cons_succ, List.getElem_cons_zero, List.setIfInBounds_toArray, List.set_cons_zero, List.set_cons_succ])
    refine wpAnyH_take (i := 8) (v := ?vb8) rfl (by kernel_rfl) (by kernel_rfl) (by kernel_rfl) (fun _ _ _ h => h) (Or.inl ⟨by kernel_rfl, ?hyb8⟩) (by assumption) ?hrb8
    case hyb8 => (intro w' hSw; (try dsimp only at hSw); go_simp; (try with_reducible rfl))
    (try simp only [Act.put, List.getElem_toArray, List.getElem_cons_succ, List.getElem_cons_zero, List.setIfInBounds_toArray, List.set_cons_zero, List.set_cons_succ])
    refine wpAnyH_take (i := 9) (v := ?vb9) rfl (by kernel_rfl) (by kernel_rfl) (by kernel_rfl) (fun _ _ _ h => h) (Or.inl ⟨by kernel_rfl, ?hyb9⟩) (by assumption) ?hrb9
    case hyb9 => (intro w' hSw; (try dsimp only at hSw); go_simp; (try with_reducible rfl))
    (try simp only [Act.put, List.getElem_toArray, List.getElem_cons_succ, List.getElem_cons_zero, List.setIfInBounds_toArray, List.set_cons_zero, List.set_cons_succ])
    refine wpAnyH_take (i := 10) (v := ?vb10) rfl (by kernel_rfl) (by kernel_rfl) (by kernel_rfl) (fun _ _ _ h => h) (Or.inl ⟨by kernel_rfl, ?hyb10⟩) (by assumption) ?hrb10
    case hyb10 => (intro w' hSw; (try dsimp only at hSw); go_simp; (try with_reducible rfl))
    (try simp only [Act.put, List.getElem_toArray, List.getElem_cons_succ, List.getElem_cons_zero, List.setIfInBounds_toArray, List.set_cons_zero, List.set_cons_succ])
    refine wpAnyH_take (i := 11) (v := ?vb11) rfl (by kernel_rfl) (by kernel_rfl) (by kernel_rfl) (fun _ _ _ h => h) (Or.inl ⟨by kernel_rfl, ?hyb11⟩) (by assumption) ?hrb11
    case hyb11 => (intro w' hSw; (try dsimp only at hSw); go_simp; (try with_reducible rfl))
    (try simp only [Act.put, List.getElem_toArray, List.getElem_cons_succ, List.getElem_cons_zero, List.setIfInBounds_toArray, List.set_cons_zero, List.set_cons_succ])
    refine wpAnyH_ready (rs := [12]) (by kernel_rfl) (by simp) ?_
    refine AllReadyH.cons rfl (fun K hK => ?_) AllReadyH.nil
    go_simp
    go_at_call 8
    refine (same_ints a2 x2 c2 d2 B _ HAL.out.2 HK6.out HL6.out).mono ?_
    rintro e w7 ⟨rfl, hb⟩
    have hb7 := hb
    have HW7 := Lib.hid (HW6.out.trans (hb7.mono HW6.out.size))
    have q7 : w7.cell? ⟨wd.heap.size, 0, none⟩ = some (.slice a R.length cp) := (HX3.out.below HW7.out).cell 0
    have HI7 := Lib.hid (HI6.out.below hb7)
    have HK7 := Lib.hid (HK6.out.below hb7)
    clear hb hb7
    refine hK.out _ _ ?hSb12 (fun hHeld12 => ?hTb12)
    case hSb12 => exact q7
    clear hK K
    (try simp only [Act.put, List.getElem_toArray, List.getElem_cons_succ, List.getElem_cons_zero, List.setIfInBounds_toArray, List.set_cons_zero, List.set_cons_succ])
    refine wpAnyH_take (i := 13) (v := ?vb13) rfl (by kernel_rfl) (by kernel_rfl) (by kernel_rfl) (fun _ _ _ h => h) (Or.inl ⟨by kernel_rfl, ?hyb13⟩) (by assumption) ?hrb13
    case hyb13 => (intro w' hSw; (try dsimp only at hSw); go_simp; (try with_reducible rfl))
    (try simp only [Act.put, List.getElem_toArray, List.getElem_cons_succ, List.getElem_cons_zero, List.setIfInBounds_toArray, List.set_cons_zero, List.set_cons_succ])
    refine wpAnyH_take (i := 14) (v := ?vb14) rfl (by kernel_rfl) (by kernel_rfl) (by kernel_rfl) (fun _ _ _ h => h) (Or.inl ⟨by kernel_rfl, ?hyb14⟩) (by assumption) ?hrb14
    case hyb14 => (intro w' hSw; (try dsimp only at hSw); go_simp; (try with_reducible rfl))
    (try simp only [Act.put, List.getElem_toArray, List.getElem_cons_succ, List.getElem_cons_zero, List.setIfInBounds_toArray, List.set_cons_zero, List.set_cons_succ])
    refine wpAnyH_take (i := 15) (v := ?vb15) rfl (by kernel_rfl) (by kernel_rfl) (by kernel_rfl) (fun _ _ _ h => h) (Or.inl ⟨by kernel_rfl, ?hyb15⟩) (by assumption) ?hrb15
    case hyb15 => (intro w' hSw; (try dsimp only at hSw); go_simp; (try with_reducible rfl))
    (try simp only [Act.put, List.getElem_toArray, List.getElem_cons_succ, List.getElem_cons_zero, List.setIfInBounds_toArray, List.set_cons_zero, List.set_cons_succ])
    refine wpAnyH_take (i := 16) (v := ?vb16) rfl (by kernel_rfl) (by kernel_rfl) (by kernel_rfl) (fun _ _ _ h => h) (Or.inl ⟨by kernel_rfl, ?hyb16⟩) (by assumption) ?hrb16
    case hyb16 => (intro w' hSw; (try dsimp only at hSw); go_simp; (try with_reducible rfl))
    (try simp only [Act.put, List.getElem_toArray, List.getElem_cons_succ, List.getElem_cons_zero, List.setIfInBounds_toArray, List.set_cons_zero, List.set_cons_succ])
    refine wpAnyH_take (i := 18) (v := ?vb18) rfl (by kernel_rfl) (by kernel_rfl) (by kernel_rfl) (fun _ _ _ h => h) (Or.inl ⟨by kernel_rfl, ?hyb18⟩) (by assumption) ?hrb18
    case hyb18 => (intro w' hSw; (try dsimp only at hSw); go_simp; (try with_reducible rfl))
    (try simp only [Act.put, List.getElem_toArray, List.getElem_cons_succ, List.getElem_cons_zero, List.setIfInBounds_toArray, List.set_cons_zero, List.set_cons_succ])
    refine wpAnyH_ready (rs := [17]) (by kernel_rfl) (by simp) ?_
    refine AllReadyH.cons rfl (fun K hK => ?_) AllReadyH.nil
    go_simp
    go_at_call 9
    refine (im_impl a cp R _ _ HMM.out (HS.out.below HW7.out)).mono ?_
    rintro e w8 ⟨rfl, hb⟩
    have hb8 := hb
    have HW8 := Lib.hid (HW7.out.trans (hb8.mono HW7.out.size))
    have q8 : w8.cell? ⟨wd.heap.size, 0, none⟩ = some (.slice a R.length cp) := (HX3.out.below HW8.out).cell 0
    have HI8 := Lib.hid (HI7.out.below hb8)
    have HK8 := Lib.hid (HK7.out.below hb8)
    clear hb hb8
    refine hK.out _ _ ?hSb17 (fun hHeld17 => ?hTb17)
    case hSb17 => exact q8
    clear hK K
    (try simp only [Act.put, List.getElem_toArray, List.getElem_cons_succ, List.getElem_cons_zero, List.setIfInBounds_toArray, List.set_cons_zero, List.set_cons_succ])
    refine wpAnyH_ready (rs := [19]) (by kernel_rfl) (by simp) ?_
    refine AllReadyH.cons rfl (fun K hK => ?_) AllReadyH.nil
    go_simp
    go_at_call 10
    refine (vs_spec a cp R _ _ HVV.out (HS.out.below HW8.out)).mono ?_
    rintro e w9 ⟨rfl, hb⟩
    have hb9 := hb
    have HW9 := Lib.hid (HW8.out.trans (hb9.mono HW8.out.size))
    have q9 : w9.cell? ⟨wd.heap.size, 0, none⟩ = some (.slice a R.length cp) := (HX3.out.below HW9.out).cell 0
    have HI9 := Lib.hid (HI8.out.below hb9)
    have HK9 := Lib.hid (HK8.out.below hb9)
    clear hb hb9
    refine hK.out _ _ ?hSb19 (fun hHeld19 => ?hTb19)
    case hSb19 => exact q9
    clear hK K
    (try simp only [Act.put, List.getElem_toArray, List.getElem_cons_succ, List.getElem_cons_zero, List.setIfInBounds_toArray, List.set_cons_zero, List.set_cons_succ])
    refine wpAnyH_take (i := 20) (v := ?vb20) rfl (by kernel_rfl) (by kernel_rfl) (by kernel_rfl) (fun _ _ _ h => h) (Or.inl ⟨by kernel_rfl, ?hyb20⟩) (by assumption) ?hrb20
    case hyb20 => (intro w' hSw; (try dsimp only at hSw); go_simp; (try with_reducible rfl))
    (try simp only [Act.put, List.getElem_toArray, List.getElem_cons_succ, List.getElem_cons_zero, List.setIfInBounds_toArray, List.set_cons_zero, List.set_cons_succ])
    refine wpAnyH_take (i := 21) (v := ?vb21) rfl (by kernel_rfl) (by kernel_rfl) (by kernel_rfl) (fun _ _ _ h => h) (Or.inl ⟨by kernel_rfl, ?hyb21⟩) (by assumption) ?hrb21
    case hyb21 => (intro w' hSw; (try dsimp only at hSw); go_simp; (try with_reducible rfl))
    (try simp only [Act.put, List.getElem_toArray, List.getElem_cons_succ, List.getElem_cons_zero, List.setIfInBounds_toArray, List.set_cons_zero, List.set_cons_succ])
    refine wpAnyH_take (i := 22) (v := ?vb22) rfl (by kernel_rfl) (by kernel_rfl) (by kernel_rfl) (fun _ _ _ h => h) (Or.inl ⟨by kernel_rfl, ?hyb22⟩) (by assumption) ?hrb22
    case hyb22 => (intro w' hSw; (try dsimp only at hSw); go_simp; (try with_reducible rfl))
    (try simp only [Act.put, List.getElem_toArray, List.getElem_cons_succ, List.getElem_cons_zero, List.setIfInBounds_toArray, List.set_cons_zero, List.set_cons_succ])
    refine wpAnyH_take (i := 23) (v := ?vb23) rfl (by kernel_rfl) (by kernel_rfl) (by kernel_rfl) (fun _ _ _ h => h) (Or.inl ⟨by kernel_rfl, ?hyb23⟩) (by assumption) ?hrb23
    case hyb23 => (intro w' hSw; (try dsimp only at hSw); go_simp; (try with_reducible rfl))
    (try simp only [Act.put, List.getElem_toArray, List.getElem_cons_succ, List.getElem_cons_zero, List.setIfInBounds_toArray, List.set_cons_zero, List.set_cons_succ])
    refine wpAnyH_take (i := 24) (v := ?vb24) rfl (by kernel_rfl) (by kernel_rfl) (by kernel_rfl) (fun _ _ _ h => h) (Or.inl ⟨by kernel_rfl, ?hyb24⟩) (by assumption) ?hrb24
    case hyb24 => (intro w' hSw; (try dsimp only at hSw); go_simp; (try with_reducible rfl))
    (try simp only [Act.put, List.getElem_toArray, List.getElem_cons_succ, List.getElem_cons_zero, List.setIfInBounds_toArray, List.set_cons_zero, List.set_cons_succ])
    refine wpAnyH_take (i := 25) (v := ?vb25) rfl (by kernel_rfl) (by kernel_rfl) (by kernel_rfl) (fun _ _ _ h => h) (Or.inl ⟨by kernel_rfl, ?hyb25⟩) (by assumption) ?hrb25
    case hyb25 => (intro w' hSw; (try dsimp only at hSw); go_simp; (try with_reducible rfl))
    (try simp only [Act.put, List.getElem_toArray, List.getElem_cons_succ, List.getElem_cons_zero, List.setIfInBounds_toArray, List.set_cons_zero, List.set_cons_succ])
    refine wpAnyH_done (by kernel_rfl) ?_ _
    refine NoPanic.normal ?_
    have HW := HW9
    have HI := HI9
    have HK := HK9
    clear HW5 HW6 HW7 HW8 HW9 HI5 HI6 HI7 HI8 HI9 HK5 HK6 HK7 HK8 HK9 HJ5 HJ6 HL5 HL6
    clear q5 q6 q7 q8
    go_wp2_with (first
      | (go_at_call 11; ((with_reducible refine (rhs_impl a cp R a1 c1 A true _ (HS.out.below HW.out) HA6.out.1 HI.out HYES.out.1).mono ?_); rintro e wn ⟨rfl, hb⟩; have T1 := Lib.hid (HW.out.trans (hb.mono HW.out.size)); clear HW; have HW := T1; clear T1; have T2 := Lib.hid (HI.out.below hb); clear HI; have HI := T2; clear T2; have T3 := Lib.hid (HK.out.below hb); clear HK; have HK := T3; clear T3; clear hb; have q0 : wn.cell? ⟨wd.heap.size, 0, none⟩ = some (.slice a R.length cp) := (HX3.out.below HW.out).cell 0))
      | (go_at_call 11; ((with_reducible refine (rhs_impl a cp R a2 c2 B false _ (HS.out.below HW.out) HA6.out.2 HK.out HYES.out.2.1).mono ?_); rintro e wn ⟨rfl, hb⟩; have T1 := Lib.hid (HW.out.trans (hb.mono HW.out.size)); clear HW; have HW := T1; clear T1; have T2 := Lib.hid (HI.out.below hb); clear HI; have HI := T2; clear T2; have T3 := Lib.hid (HK.out.below hb); clear HK; have HK := T3; clear T3; clear hb; have q0 : wn.cell? ⟨wd.heap.size, 0, none⟩ = some (.slice a R.length cp) := (HX3.out.below HW.out).cell 0))
      | (go_at_call 12; ((with_reducible refine (dom_impl a2 a1 c2 c1 B A true _ HA6.out.2 HA6.out.1 HK.out HI.out HYES.out.2.2).mono ?_); rintro e wn ⟨rfl, hb⟩; have T1 := Lib.hid (HW.out.trans (hb.mono HW.out.size)); clear HW; have HW := T1; clear T1; have T2 := Lib.hid (HI.out.below hb); clear HI; have HI := T2; clear T2; have T3 := Lib.hid (HK.out.below hb); clear HK; have HK := T3; clear T3; clear hb; have q0 : wn.cell? ⟨wd.heap.size, 0, none⟩ = some (.slice a R.length cp) := (HX3.out.below HW.out).cell 0)))
    go_ret
    exact ⟨rfl, HB3.out.trans (HW.out.mono HB3.out.size)⟩
  · have HNO := Lib.hid (show vioR R = none by
      rcases HV.out with ⟨h1, _⟩ | ⟨_, h1, _⟩
      · cases h1
      · exact h1)
    refine Lib.hid ?_
    go_wp2_with (fail)
    refine wp_region_noPanic ?_
    refine wp_region_held_drew (S := (fun w' => w'.cell? ⟨wd.heap.size, 0, none⟩ = some (.slice a R.length cp))) (by kernel_rfl) ?hSc (fun hHeld => ?hRc)
    case hSc => exact q5
    refine wpAnyH_take (i := 0) (v := ?vc0) rfl (by kernel_rfl) (by kernel_rfl) (by kernel_rfl) (fun _ _ _ h => h) (Or.inl ⟨by kernel_rfl, ?hyc0⟩) (by assumption) ?hrc0
    case hyc0 => (intro w' hSw; (try dsimp only at hSw); go_simp; (try with_reducible rfl))
    (try simp only [Act.put, List.getElem_toArray, List.getElem_cons_succ, List.getElem_cons_zero, List.setIfInBounds_toArray, List.set_cons_zero, List.set_cons_succ])
    refine wpAnyH_take (i := 1) (v := ?vc1) rfl (by kernel_rfl) (by kernel_rfl) (by kernel_rfl) (fun _ _ _ h => h) (Or.inl ⟨by kernel_rfl, ?hyc1⟩) (by assumption) ?hrc1
    case hyc1 => (intro w' hSw; (try dsimp only at hSw); go_simp; (try with_reducible rfl))
    (try simp only [Act.put, List.getElem_toArray, List.getElem_cons_succ, List.getElem_cons_zero, List.setIfInBounds_toArray, List.set_cons_zero, List.set_cons_succ])
    refine wpAnyH_take (i := 2) (v := ?vc2) rfl (by kernel_rfl) (by kernel_rfl) (by kernel_rfl) (fun _ _ _ h => h) (Or.inl ⟨by kernel_rfl, ?hyc2⟩) (by assumption) ?hrc2
    case hyc2 => (intro w' hSw; (try dsimp only at hSw); go_simp; (try with_reducible rfl))
    (try simp only [Act.put, List.getElem_toArray, List.getElem_cons_succ, List.getElem_cons_zero, List.setIfInBounds_toArray, List.set_cons_zero, List.set_cons_succ])
    refine wpAnyH_take (i := 3) (v := ?vc3) rfl (by kernel_rfl) (by kernel_rfl) (by kernel_rfl) (fun _ _ _ h => h) (Or.inl ⟨by kernel_rfl, ?hyc3⟩) (by assumption) ?hrc3
    case hyc3 => (intro w' hSw; (try dsimp only at hSw); go_simp; (try with_reducible rfl))
    (try simp only [Act.put, List.getElem_toArray, List.getElem_cons_succ, List.getElem_cons_zero, List.setIfInBounds_toArray, List.set_cons_zero, List.set_cons_succ])
    refine wpAnyH_take (i := 4) (v := ?vc4) rfl (by kernel_rfl) (by kernel_rfl) (by kernel_rfl) (fun _ _ _ h => h) (Or.inl ⟨by kernel_rfl, ?hyc4⟩) (by assumption) ?hrc4
    case hyc4 => (intro w' hSw; (try dsimp only at hSw); go_simp; (try with_reducible rfl))
    (try simp only [Act.put, List.getElem_toArray, List.getElem_cons_succ, List.getElem_cons_zero, List.setIfInBounds_toArray, List.set_cons_zero, List.set_cons_succ])
    refine wpAnyH_take (i := 5) (v := ?vc5) rfl (by kernel_rfl) (by kernel_rfl) (by kernel_rfl) (fun _ _ _ h => h) (Or.inl ⟨by kernel_rfl, ?hyc5⟩) (by assumption) ?hrc5
    case hyc5 => (intro w' hSw; (try dsimp only at hSw); go_simp; (try with_reducible rfl))
    (try simp only [Act.put, List.getElem_toArray, List.getElem_cons_succ, List.getElem_cons_zero, List.setIfInBounds_toArray, List.set_cons_zero, List.set_cons_succ])
    refine wpAnyH_ready (rs := [6]) (by kernel_rfl) (by simp) ?_
    refine AllReadyH.cons rfl (fun K hK => ?_) AllReadyH.nil
    go_simp
    go_at_call 8
    refine (same_ints a1 x1 c1 d1 A _ HAL.out.1 (show InI w5.drew a1 A from HI5.out) (show InI w5.drew x1 A from HJ5.out)).mono ?_
    rintro e w6 ⟨rfl, hb⟩
    have hb6 := drew_below hb
    have HW6 := Lib.hid (HW5.out.trans (hb6.mono HW5.out.size))
    have q6 : w6.cell? ⟨wd.heap.size, 0, none⟩ = some (.slice a R.length cp) := (HX3.out.below HW6.out).cell 0
    have HI6 := Lib.hid (HI5.out.below hb6)
    have HK6 := Lib.hid (HK5.out.below hb6)
    have HJ6 := Lib.hid (HJ5.out.below hb6)
    have HL6 := Lib.hid (HL5.out.below hb6)
    clear hb hb6
    refine hK.out _ _ ?hSc6 (fun hHeld6 => ?hTc6)
    case hSc6 => exact q6
    clear hK K
    (try simp only [Act.put, List.getElem_toArray, List.getElem_cons_succ, List.getElem_cons_zero, List.setIfInBounds_toArray, List.set_cons_zero, List.set_cons_succ])
    refine wpAnyH_take (i := 7) (v := ?vc7) rfl (by kernel_rfl) (by kernel_rfl) (by kernel_rfl) (fun _ _ _ h => h) (Or.inl ⟨by kernel_rfl, ?hyc7⟩) (by assumption) ?hrc7
    case hyc7 => (intro w' hSw; (try dsimp only at hSw); go_simp; (try with_reducible rfl))
    (try simp only [Act.put, List.getElem_toArray, List.getElem_cons_succ, List.getElem_cons_zero, List.setIfInBounds_toArray, List.set_cons_zero, List.set_cons_succ])
    refine wpAnyH_take (i := 8) (v := ?vc8) rfl (by kernel_rfl) (by kernel_rfl) (by kernel_rfl) (fun _ _ _ h => h) (Or.inl ⟨by kernel_rfl, ?hyc8⟩) (by assumption) ?hrc8
    case hyc8 => (intro w' hSw; (try dsimp only at hSw); go_simp; (try with_reducible rfl))
    (try simp only [Act.put, List.getElem_toArray, List.getElem_cons_succ, List.getElem_cons_zero, List.setIfInBounds_toArray, List.set_cons_zero, List.set_cons_succ])
    refine wpAnyH_take (i := 9) (v := ?vc9) rfl (by kernel_rfl) (by kernel_rfl) (by kernel_rfl) (fun _ _ _ h => h) (Or.inl ⟨by kernel_rfl, ?hyc9⟩) (by assumption) ?hrc9
    case hyc9 => (intro w' hSw; (try dsimp only at hSw); go_simp; (try with_reducible rfl))
    (try simp only [Act.put, List.getElem_toArray, List.getElem_cons_succ, List.getElem_cons_zero, List.setIfInBounds_toArray, List.set_cons_zero, List.set_cons_succ])
    refine wpAnyH_take (i := 10) (v := ?vc10) rfl (by kernel_rfl) (by kernel_rfl) (by kernel_rfl) (fun _ _ _ h => h) (Or.inl ⟨by kernel_rfl, ?hyc10⟩) (by assumption) ?hrc10
    case hyc10 => (intro w' hSw; (try dsimp only at hSw); go_simp; (try with_reducible rfl))
    (try simp only [Act.put, List.getElem_toArray, List.getElem_cons_succ, List.getElem_cons_zero, List.setIfInBounds_toArray, List.set_cons_zero, List.set_cons_succ])
    refine wpAnyH_take (i := 11) (v := ?vc11) rfl (by kernel_rfl) (by kernel_rfl) (by kernel_rfl) (fun _ _ _ h => h) (Or.inl ⟨by kernel_rfl, ?hyc11⟩) (by assumption) ?hrc11
    case hyc11 => (intro w' hSw; (try dsimp only at hSw); go_simp; (try with_reducible rfl))
    (try simp only [Act.put, List.getElem_toArray, List.getElem_cons_succ, List.getElem_cons_zero, List.setIfInBounds_toArray, List.set_cons_zero, List.set_cons_succ])
    refine wpAnyH_ready (rs := [12]) (by kernel_rfl) (by simp) ?_
    refine AllReadyH.cons rfl (fun K hK => ?_) AllReadyH.nil
    go_simp
    go_at_call 8
    refine (same_ints a2 x2 c2 d2 B _ HAL.out.2 HK6.out HL6.out).mono ?_
    rintro e w7 ⟨rfl, hb⟩
    have hb7 := hb
    have HW7 := Lib.hid (HW6.out.trans (hb7.mono HW6.out.size))
    have q7 : w7.cell? ⟨wd.heap.size, 0, none⟩ = some (.slice a R.length cp) := (HX3.out.below HW7.out).cell 0
    have HI7 := Lib.hid (HI6.out.below hb7)
    have HK7 := Lib.hid (HK6.out.below hb7)
    clear hb hb7
    refine hK.out _ _ ?hSc12 (fun hHeld12 => ?hTc12)
    case hSc12 => exact q7
    clear hK K
    (try simp only [Act.put, List.getElem_toArray, List.getElem_cons_succ, List.getElem_cons_zero, List.setIfInBounds_toArray, List.set_cons_zero, List.set_cons_succ])
    refine wpAnyH_take (i := 13) (v := ?vc13) rfl (by kernel_rfl) (by kernel_rfl) (by kernel_rfl) (fun _ _ _ h => h) (Or.inl ⟨by kernel_rfl, ?hyc13⟩) (by assumption) ?hrc13
    case hyc13 => (intro w' hSw; (try dsimp only at hSw); go_simp; (try with_reducible rfl))
    (try simp only [Act.put, List.getElem_toArray, List.getElem_cons_succ, List.getElem_cons_zero, List.setIfInBounds_toArray, List.set_cons_zero, List.set_cons_succ])
    refine wpAnyH_take (i := 14) (v := ?vc14) rfl (by kernel_rfl) (by kernel_rfl) (by kernel_rfl) (fun _ _ _ h => h) (Or.inl ⟨by kernel_rfl, ?hyc14⟩) (by assumption) ?hrc14
    case hyc14 => (intro w' hSw; (try dsimp only at hSw); go_simp; (try with_reducible rfl))
    (try simp only [Act.put, List.getElem_toArray, List.getElem_cons_succ, List.getElem_cons_zero, List.setIfInBounds_toArray, List.set_cons_zero, List.set_cons_succ])
    refine wpAnyH_take (i := 15) (v := ?vc15) rfl (by kernel_rfl) (by kernel_rfl) (by kernel_rfl) (fun _ _ _ h => h) (Or.inl ⟨by kernel_rfl, ?hyc15⟩) (by assumption) ?hrc15
    case hyc15 => (intro w' hSw; (try dsimp only at hSw); go_simp; (try with_reducible rfl))
    (try simp only [Act.put, List.getElem_toArray, List.getElem_cons_succ, List.getElem_cons_zero, List.setIfInBounds_toArray, List.set_cons_zero, List.set_cons_succ])
    refine wpAnyH_take (i := 16) (v := ?vc16) rfl (by kernel_rfl) (by kernel_rfl) (by kernel_rfl) (fun _ _ _ h => h) (Or.inl ⟨by kernel_rfl, ?hyc16⟩) (by assumption) ?hrc16
    case hyc16 => (intro w' hSw; (try dsimp only at hSw); go_simp; (try with_reducible rfl))
    (try simp only [Act.put, List.getElem_toArray, List.getElem_cons_succ, List.getElem_cons_zero, List.setIfInBounds_toArray, List.set_cons_zero, List.set_cons_succ])
    refine wpAnyH_take (i := 18) (v := ?vc18) rfl (by kernel_rfl) (by kernel_rfl) (by kernel_rfl) (fun _ _ _ h => h) (Or.inl ⟨by kernel_rfl, ?hyc18⟩) (by assumption) ?hrc18
    case hyc18 => (intro w' hSw; (try dsimp only at hSw); go_simp; (try with_reducible rfl))
    (try simp only [Act.put, List.getElem_toArray, List.getElem_cons_succ, List.getElem_cons_zero, List.setIfInBounds_toArray, List.set_cons_zero, List.set_cons_succ])
    refine wpAnyH_ready (rs := [17]) (by kernel_rfl) (by simp) ?_
    refine AllReadyH.cons rfl (fun K hK => ?_) AllReadyH.nil
    go_simp
    go_at_call 9
    refine (im_impl a cp R _ _ HMM.out (HS.out.below HW7.out)).mono ?_
    rintro e w8 ⟨rfl, hb⟩
    have hb8 := hb
    have HW8 := Lib.hid (HW7.out.trans (hb8.mono HW7.out.size))
    have q8 : w8.cell? ⟨wd.heap.size, 0, none⟩ = some (.slice a R.length cp) := (HX3.out.below HW8.out).cell 0
    have HI8 := Lib.hid (HI7.out.below hb8)
    have HK8 := Lib.hid (HK7.out.below hb8)
    clear hb hb8
    refine hK.out _ _ ?hSc17 (fun hHeld17 => ?hTc17)
    case hSc17 => exact q8
    clear hK K
    (try simp only [Act.put, List.getElem_toArray, List.getElem_cons_succ, List.getElem_cons_zero, List.setIfInBounds_toArray, List.set_cons_zero, List.set_cons_succ])
    refine wpAnyH_ready (rs := [19]) (by kernel_rfl) (by simp) ?_
    refine AllReadyH.cons rfl (fun K hK => ?_) AllReadyH.nil
    go_simp
    go_at_call 10
    refine (vs_spec a cp R _ _ HVV.out (HS.out.below HW8.out)).mono ?_
    rintro e w9 ⟨rfl, hb⟩
    have hb9 := hb
    have HW9 := Lib.hid (HW8.out.trans (hb9.mono HW8.out.size))
    have q9 : w9.cell? ⟨wd.heap.size, 0, none⟩ = some (.slice a R.length cp) := (HX3.out.below HW9.out).cell 0
    have HI9 := Lib.hid (HI8.out.below hb9)
    have HK9 := Lib.hid (HK8.out.below hb9)
    clear hb hb9
    refine hK.out _ _ ?hSc19 (fun hHeld19 => ?hTc19)
    case hSc19 => exact q9
    clear hK K
    (try simp only [Act.put, List.getElem_toArray, List.getElem_cons_succ, List.getElem_cons_zero, List.setIfInBounds_toArray, List.set_cons_zero, List.set_cons_succ])
    refine wpAnyH_take (i := 20) (v := ?vc20) rfl (by kernel_rfl) (by kernel_rfl) (by kernel_rfl) (fun _ _ _ h => h) (Or.inl ⟨by kernel_rfl, ?hyc20⟩) (by assumption) ?hrc20
    case hyc20 => (intro w' hSw; (try dsimp only at hSw); go_simp; (try with_reducible rfl))
    (try simp only [Act.put, List.getElem_toArray, List.getElem_cons_succ, List.getElem_cons_zero, List.setIfInBounds_toArray, List.set_cons_zero, List.set_cons_succ])
    refine wpAnyH_take (i := 21) (v := ?vc21) rfl (by kernel_rfl) (by kernel_rfl) (by kernel_rfl) (fun _ _ _ h => h) (Or.inl ⟨by kernel_rfl, ?hyc21⟩) (by assumption) ?hrc21
    case hyc21 => (intro w' hSw; (try dsimp only at hSw); go_simp; (try with_reducible rfl))
    (try simp only [Act.put, List.getElem_toArray, List.getElem_cons_succ, List.getElem_cons_zero, List.setIfInBounds_toArray, List.set_cons_zero, List.set_cons_succ])
    refine wpAnyH_take (i := 22) (v := ?vc22) rfl (by kernel_rfl) (by kernel_rfl) (by kernel_rfl) (fun _ _ _ h => h) (Or.inl ⟨by kernel_rfl, ?hyc22⟩) (by assumption) ?hrc22
    case hyc22 => (intro w' hSw; (try dsimp only at hSw); go_simp; (try with_reducible rfl))
    (try simp only [Act.put, List.getElem_toArray, List.getElem_cons_succ, List.getElem_cons_zero, List.setIfInBounds_toArray, List.set_cons_zero, List.set_cons_succ])
    refine wpAnyH_take (i := 23) (v := ?vc23) rfl (by kernel_rfl) (by kernel_rfl) (by kernel_rfl) (fun _ _ _ h => h) (Or.inl ⟨by kernel_rfl, ?hyc23⟩) (by assumption) ?hrc23
    case hyc23 => (intro w' hSw; (try dsimp only at hSw); go_simp; (try with_reducible rfl))
    (try simp only [Act.put, List.getElem_toArray, List.getElem_cons_succ, List.getElem_cons_zero, List.setIfInBounds_toArray, List.set_cons_zero, List.set_cons_succ])
    refine wpAnyH_take (i := 24) (v := ?vc24) rfl (by kernel_rfl) (by kernel_rfl) (by kernel_rfl) (fun _ _ _ h => h) (Or.inl ⟨by kernel_rfl, ?hyc24⟩) (by assumption) ?hrc24
    case hyc24 => (intro w' hSw; (try dsimp only at hSw); go_simp; (try with_reducible rfl))
    (try simp only [Act.put, List.getElem_toArray, List.getElem_cons_succ, List.getElem_cons_zero, List.setIfInBounds_toArray, List.set_cons_zero, List.set_cons_succ])
    refine wpAnyH_take (i := 25) (v := ?vc25) rfl (by kernel_rfl) (by kernel_rfl) (by kernel_rfl) (fun _ _ _ h => h) (Or.inl ⟨by kernel_rfl, ?hyc25⟩) (by assumption) ?hrc25
    case hyc25 => (intro w' hSw; (try dsimp only at hSw); go_simp; (try with_reducible rfl))
    (try simp only [Act.put, List.getElem_toArray, List.getElem_cons_succ, List.getElem_cons_zero, List.setIfInBounds_toArray, List.set_cons_zero, List.set_cons_succ])
    refine wpAnyH_done (by kernel_rfl) ?_ _
    refine NoPanic.normal ?_
    have HW := HW9
    have HI := HI9
    have HK := HK9
    clear HW5 HW6 HW7 HW8 HW9 HI5 HI6 HI7 HI8 HI9 HK5 HK6 HK7 HK8 HK9 HJ5 HJ6 HL5 HL6
    clear q5 q6 q7 q8
    go_wp2_with (go_at_call 13; ((with_reducible refine (domdraw_any A0 len cap _ ((HCODE.out.keep (fun k hk => (HB3.out.trans (HW.out.mono HB3.out.size)).block k hk)).more (HB3.out.trans (HW.out.mono HB3.out.size)).size)).mono ?_); rintro e wt ⟨f, g, y1, y2, e1, e2, rfl, hf, hg, hif, hig, hb⟩; refine Hid.out ?_))
    have HW10 := Lib.hid (HW.out.trans (hb.mono HW.out.size))
    clear HW HI HK
    have HW := HW10
    clear HW10
    have q10 : wt.cell? ⟨wd.heap.size, 0, none⟩ = some (.slice a R.length cp) := (HX3.out.below HW.out).cell 0
    have HI := Lib.hid hif
    have HK := Lib.hid hig
    have HF6 := Lib.hid (show f.length ≤ 4000000 by omega)
    have HG6 := Lib.hid (show g.length ≤ 4000000 by omega)
    obtain ⟨d, hd⟩ : ∃ d, domB f g = d := ⟨_, rfl⟩
    obtain ⟨rg, hrg⟩ : ∃ d, rhB R g = d := ⟨_, rfl⟩
    obtain ⟨rf, hrf⟩ : ∃ d, rhB R f = d := ⟨_, rfl⟩
    have HD := Lib.hid hd
    have HRG := Lib.hid hrg
    have HRF := Lib.hid hrf
    have hfin : d = false ∨ (d = true ∧ rg = false) ∨ (d = true ∧ rg = true ∧ rf = true) := by
      cases d
      · exact .inl rfl
      · cases rg
        · exact .inr (.inl ⟨rfl, rfl⟩)
        · exact .inr (.inr ⟨rfl, rfl, by rw [← hrf]; exact mono_all HNO.out hd hrg⟩)
    clear hd hrg hrf hb hf hg hif hig
    rcases hfin with rfl | ⟨rfl, rfl⟩ | ⟨rfl, rfl, rfl⟩
    all_goals
      refine Lib.hid ?_
      go_wp2_with (first
        | (go_at_call 12; ((with_reducible refine (dom_impl y1 y2 e1 e2 f g _ _ HF6.out HG6.out HI.out HK.out HD.out).mono ?_); rintro e wn ⟨rfl, hb⟩; have T1 := Lib.hid (HW.out.trans (hb.mono HW.out.size)); clear HW; have HW := T1; clear T1; have T2 := Lib.hid (HI.out.below hb); clear HI; have HI := T2; clear T2; have T3 := Lib.hid (HK.out.below hb); clear HK; have HK := T3; clear T3; clear hb; have q0 : wn.cell? ⟨wd.heap.size, 0, none⟩ = some (.slice a R.length cp) := (HX3.out.below HW.out).cell 0))
        | (go_at_call 14; ((with_reducible refine (dom_spec y1 y2 e1 e2 f g _ _ HF6.out HG6.out HI.out HK.out HD.out).mono ?_); rintro e wn ⟨rfl, hb⟩; have T1 := Lib.hid (HW.out.trans (hb.mono HW.out.size)); clear HW; have HW := T1; clear T1; have T2 := Lib.hid (HI.out.below hb); clear HI; have HI := T2; clear T2; have T3 := Lib.hid (HK.out.below hb); clear HK; have HK := T3; clear T3; clear hb; have q0 : wn.cell? ⟨wd.heap.size, 0, none⟩ = some (.slice a R.length cp) := (HX3.out.below HW.out).cell 0))
        | (go_at_call 15; ((with_reducible refine (rhs_spec a cp R y2 e2 g _ _ (HS.out.below HW.out) HG6.out HK.out HRG.out).mono ?_); rintro e wn ⟨rfl, hb⟩; have T1 := Lib.hid (HW.out.trans (hb.mono HW.out.size)); clear HW; have HW := T1; clear T1; have T2 := Lib.hid (HI.out.below hb); clear HI; have HI := T2; clear T2; have T3 := Lib.hid (HK.out.below hb); clear HK; have HK := T3; clear T3; clear hb; have q0 : wn.cell? ⟨wd.heap.size, 0, none⟩ = some (.slice a R.length cp) := (HX3.out.below HW.out).cell 0))
        | (go_at_call 11; ((with_reducible refine (rhs_impl a cp R y1 e1 f _ _ (HS.out.below HW.out) HF6.out HI.out HRF.out).mono ?_); rintro e wn ⟨rfl, hb⟩; have T1 := Lib.hid (HW.out.trans (hb.mono HW.out.size)); clear HW; have HW := T1; clear T1; have T2 := Lib.hid (HI.out.below hb); clear HI; have HI := T2; clear T2; have T3 := Lib.hid (HK.out.below hb); clear HK; have HK := T3; clear T3; clear hb; have q0 : wn.cell? ⟨wd.heap.size, 0, none⟩ = some (.slice a R.length cp) := (HX3.out.below HW.out).cell 0)))
      go_ret
      exact ⟨rfl, HB3.out.trans (HW.out.mono HB3.out.size)⟩
  · have HNO := Lib.hid (show vioR R = none by
      rcases HV.out with ⟨h1, _⟩ | ⟨_, h1, _⟩
      · cases h1
      · exact h1)
    refine Lib.hid ?_
    go_wp2_with (fail)
    refine wp_region_noPanic ?_
    refine wp_region_held_drew (S := (fun w' => w'.cell? ⟨wd.heap.size, 0, none⟩ = some (.slice a R.length cp))) (by kernel_rfl) ?hSd (fun hHeld => ?hRd)
    case hSd => exact q5
    refine wpAnyH_take (i := 0) (v := ?vd0) rfl (by kernel_rfl) (by kernel_rfl) (by kernel_rfl) (fun _ _ _ h => h) (Or.inl ⟨by kernel_rfl, ?hyd0⟩) (by assumption) ?hrd0
    case hyd0 => (intro w' hSw; (try dsimp only at hSw); go_simp; (try with_reducible rfl))
    (try simp only [Act.put, List.getElem_toArray, List.getElem_cons_succ, List.getElem_cons_zero, List.setIfInBounds_toArray, List.set_cons_zero, List.set_cons_succ])
    refine wpAnyH_take (i := 1) (v := ?vd1) rfl (by kernel_rfl) (by kernel_rfl) (by kernel_rfl) (fun _ _ _ h => h) (Or.inl ⟨by kernel_rfl, ?hyd1⟩) (by assumption) ?hrd1
    case hyd1 => (intro w' hSw; (try dsimp only at hSw); go_simp; (try with_reducible rfl))
    (try simp only [Act.put, List.getElem_toArray, List.getElem_cons_succ, List.getElem_cons_zero, List.setIfInBounds_toArray, List.set_cons_zero, List.set_cons_succ])
    refine wpAnyH_take (i := 2) (v := ?vd2) rfl (by kernel_rfl) (by kernel_rfl) (by kernel_rfl) (fun _ _ _ h => h) (Or.inl ⟨by kernel_rfl, ?hyd2⟩) (by assumption) ?hrd2
    case hyd2 => (intro w' hSw; (try dsimp only at hSw); go_simp; (try with_reducible rfl))
    (try simp only [Act.put, List.getElem_toArray, List.getElem_cons_succ, List.getElem_cons_zero, List.setIfInBounds_toArray, List.set_cons_zero, List.set_cons_succ])
    refine wpAnyH_take (i := 3) (v := ?vd3) rfl (by kernel_rfl) (by kernel_rfl) (by kernel_rfl) (fun _ _ _ h => h) (Or.inl ⟨by kernel_rfl, ?hyd3⟩) (by assumption) ?hrd3
    case hyd3 => (intro w' hSw; (try dsimp only at hSw); go_simp; (try with_reducible rfl))
    (try simp only [Act.put, List.getElem_toArray, List.getElem_cons_succ, List.getElem_cons_zero, List.setIfInBounds_toArray, List.set_cons_zero, List.set_cons_succ])
    refine wpAnyH_take (i := 4) (v := ?vd4) rfl (by kernel_rfl) (by kernel_rfl) (by kernel_rfl) (fun _ _ _ h => h) (Or.inl ⟨by kernel_rfl, ?hyd4⟩) (by assumption) ?hrd4
    case hyd4 => (intro w' hSw; (try dsimp only at hSw); go_simp; (try with_reducible rfl))
    (try simp only [Act.put, List.getElem_toArray, List.getElem_cons_succ, List.getElem_cons_zero, List.setIfInBounds_toArray, List.set_cons_zero, List.set_cons_succ])
    refine wpAnyH_take (i := 5) (v := ?vd5) rfl (by kernel_rfl) (by kernel_rfl) (by kernel_rfl) (fun _ _ _ h => h) (Or.inl ⟨by kernel_rfl, ?hyd5⟩) (by assumption) ?hrd5
    case hyd5 => (intro w' hSw; (try dsimp only at hSw); go_simp; (try with_reducible rfl))
    (try simp only [Act.put, List.getElem_toArray, List.getElem_cons_succ, List.getElem_cons_zero, List.setIfInBounds_toArray, List.set_cons_zero, List.set_cons_succ])
    refine wpAnyH_ready (rs := [6]) (by kernel_rfl) (by simp) ?_
    refine AllReadyH.cons rfl (fun K hK => ?_) AllReadyH.nil
    go_simp
    go_at_call 8
    refine (same_ints a1 x1 c1 d1 A _ HAL.out.1 (show InI w5.drew a1 A from HI5.out) (show InI w5.drew x1 A from HJ5.out)).mono ?_
    rintro e w6 ⟨rfl, hb⟩
    have hb6 := drew_below hb
    have HW6 := Lib.hid (HW5.out.trans (hb6.mono HW5.out.size))
    have q6 : w6.cell? ⟨wd.heap.size, 0, none⟩ = some (.slice a R.length cp) := (HX3.out.below HW6.out).cell 0
    have HI6 := Lib.hid (HI5.out.below hb6)
    have HK6 := Lib.hid (HK5.out.below hb6)
    have HJ6 := Lib.hid (HJ5.out.below hb6)
    have HL6 := Lib.hid (HL5.out.below hb6)
    clear hb hb6
    refine hK.out _ _ ?hSd6 (fun hHeld6 => ?hTd6)
    case hSd6 => exact q6
    clear hK K
    (try simp only [Act.put, List.getElem_toArray, List.getElem_cons_succ, List.getElem_cons_zero, List.setIfInBounds_toArray, List.set_cons_zero, List.set_cons_succ])
    refine wpAnyH_take (i := 7) (v := ?vd7) rfl (by kernel_rfl) (by kernel_rfl) (by kernel_rfl) (fun _ _ _ h => h) (Or.inl ⟨by kernel_rfl, ?hyd7⟩) (by assumption) ?hrd7
    case hyd7 => (intro w' hSw; (try dsimp only at hSw); go_simp; (try with_reducible rfl))
    (try simp only [Act.put, List.getElem_toArray, List.getElem_cons_succ, List.getElem_cons_zero, List.setIfInBounds_toArray, List.set_cons_zero, List.set_cons_succ])
    refine wpAnyH_take (i := 8) (v := ?vd8) rfl (by kernel_rfl) (by kernel_rfl) (by kernel_rfl) (fun _ _ _ h => h) (Or.inl ⟨by kernel_rfl, ?hyd8⟩) (by assumption) ?hrd8
    case hyd8 => (intro w' hSw; (try dsimp only at hSw); go_simp; (try with_reducible rfl))
    (try simp only [Act.put, List.getElem_toArray, List.getElem_cons_succ, List.getElem_cons_zero, List.setIfInBounds_toArray, List.set_cons_zero, List.set_cons_succ])
    refine wpAnyH_take (i := 9) (v := ?vd9) rfl (by kernel_rfl) (by kernel_rfl) (by kernel_rfl) (fun _ _ _ h => h) (Or.inl ⟨by kernel_rfl, ?hyd9⟩) (by assumption) ?hrd9
    case hyd9 => (intro w' hSw; (try dsimp only at hSw); go_simp; (try with_reducible rfl))
    (try simp only [Act.put, List.getElem_toArray, List.getElem_cons_succ, List.getElem_cons_zero, List.setIfInBounds_toArray, List.set_cons_zero, List.set_cons_succ])
    refine wpAnyH_take (i := 10) (v := ?vd10) rfl (by kernel_rfl) (by kernel_rfl) (by kernel_rfl) (fun _ _ _ h => h) (Or.inl ⟨by kernel_rfl, ?hyd10⟩) (by assumption) ?hrd10
    case hyd10 => (intro w' hSw; (try dsimp only at hSw); go_simp; (try with_reducible rfl))
    (try simp only [Act.put, List.getElem_toArray, List.getElem_cons_succ, List.getElem_cons_zero, List.setIfInBounds_toArray, List.set_cons_zero, List.set_cons_succ])
    refine wpAnyH_take (i := 11) (v := ?vd11) rfl (by kernel_rfl) (by kernel_rfl) (by kernel_rfl) (fun _ _ _ h => h) (Or.inl ⟨by kernel_rfl, ?hyd11⟩) (by assumption) ?hrd11
    case hyd11 => (intro w' hSw; (try dsimp only at hSw); go_simp; (try with_reducible rfl))
    (try simp only [Act.put, List.getElem_toArray, List.getElem_cons_succ, List.getElem_cons_zero, List.setIfInBounds_toArray, List.set_cons_zero, List.set_cons_succ])
    refine wpAnyH_ready (rs := [12]) (by kernel_rfl) (by simp) ?_
    refine AllReadyH.cons rfl (fun K hK => ?_) AllReadyH.nil
    go_simp
    go_at_call 8
    refine (same_ints a2 x2 c2 d2 B _ HAL.out.2 HK6.out HL6.out).mono ?_
    rintro e w7 ⟨rfl, hb⟩
    have hb7 := hb
    have HW7 := Lib.hid (HW6.out.trans (hb7.mono HW6.out.size))
    have q7 : w7.cell? ⟨wd.heap.size, 0, none⟩ = some (.slice a R.length cp) := (HX3.out.below HW7.out).cell 0
    have HI7 := Lib.hid (HI6.out.below hb7)
    have HK7 := Lib.hid (HK6.out.below hb7)
    clear hb hb7
    refine hK.out _ _ ?hSd12 (fun hHeld12 => ?hTd12)
    case hSd12 => exact q7
    clear hK K
    (try simp only [Act.put, List.getElem_toArray, List.getElem_cons_succ, List.getElem_cons_zero, List.setIfInBounds_toArray, List.set_cons_zero, List.set_cons_succ])
    refine wpAnyH_take (i := 13) (v := ?vd13) rfl (by kernel_rfl) (by kernel_rfl) (by kernel_rfl) (fun _ _ _ h => h) (Or.inl ⟨by kernel_rfl, ?hyd13⟩) (by assumption) ?hrd13
    case hyd13 => (intro w' hSw; (try dsimp only at hSw); go_simp; (try with_reducible rfl))
    (try simp only [Act.put, List.getElem_toArray, List.getElem_cons_succ, List.getElem_cons_zero, List.setIfInBounds_toArray, List.set_cons_zero, List.set_cons_succ])
    refine wpAnyH_take (i := 14) (v := ?vd14) rfl (by kernel_rfl) (by kernel_rfl) (by kernel_rfl) (fun _ _ _ h => h) (Or.inl ⟨by kernel_rfl, ?hyd14⟩) (by assumption) ?hrd14
    case hyd14 => (intro w' hSw; (try dsimp only at hSw); go_simp; (try with_reducible rfl))
    (try simp only [Act.put, List.getElem_toArray, List.getElem_cons_succ, List.getElem_cons_zero, List.setIfInBounds_toArray, List.set_cons_zero, List.set_cons_succ])
    refine wpAnyH_take (i := 15) (v := ?vd15) rfl (by kernel_rfl) (by kernel_rfl) (by kernel_rfl) (fun _ _ _ h => h) (Or.inl ⟨by kernel_rfl, ?hyd15⟩) (by assumption) ?hrd15
    case hyd15 => (intro w' hSw; (try dsimp only at hSw); go_simp; (try with_reducible rfl))
    (try simp only [Act.put, List.getElem_toArray, List.getElem_cons_succ, List.getElem_cons_zero, List.setIfInBounds_toArray, List.set_cons_zero, List.set_cons_succ])
    refine wpAnyH_take (i := 16) (v := ?vd16) rfl (by kernel_rfl) (by kernel_rfl) (by kernel_rfl) (fun _ _ _ h => h) (Or.inl ⟨by kernel_rfl, ?hyd16⟩) (by assumption) ?hrd16
    case hyd16 => (intro w' hSw; (try dsimp only at hSw); go_simp; (try with_reducible rfl))
    (try simp only [Act.put, List.getElem_toArray, List.getElem_cons_succ, List.getElem_cons_zero, List.setIfInBounds_toArray, List.set_cons_zero, List.set_cons_succ])
    refine wpAnyH_take (i := 18) (v := ?vd18) rfl (by kernel_rfl) (by kernel_rfl) (by kernel_rfl) (fun _ _ _ h => h) (Or.inl ⟨by kernel_rfl, ?hyd18⟩) (by assumption) ?hrd18
    case hyd18 => (intro w' hSw; (try dsimp only at hSw); go_simp; (try with_reducible rfl))
    (try simp only [Act.put, List.getElem_toArray, List.getElem_cons_succ, List.getElem_cons_zero, List.setIfInBounds_toArray, List.set_cons_zero, List.set_cons_succ])
    refine wpAnyH_ready (rs := [17]) (by kernel_rfl) (by simp) ?_
    refine AllReadyH.cons rfl (fun K hK => ?_) AllReadyH.nil
    go_simp
    go_at_call 9
    refine (im_impl a cp R _ _ HMM.out (HS.out.below HW7.out)).mono ?_
    rintro e w8 ⟨rfl, hb⟩
    have hb8 := hb
    have HW8 := Lib.hid (HW7.out.trans (hb8.mono HW7.out.size))
    have q8 : w8.cell? ⟨wd.heap.size, 0, none⟩ = some (.slice a R.length cp) := (HX3.out.below HW8.out).cell 0
    have HI8 := Lib.hid (HI7.out.below hb8)
    have HK8 := Lib.hid (HK7.out.below hb8)
    clear hb hb8
    refine hK.out _ _ ?hSd17 (fun hHeld17 => ?hTd17)
    case hSd17 => exact q8
    clear hK K
    (try simp only [Act.put, List.getElem_toArray, List.getElem_cons_succ, List.getElem_cons_zero, List.setIfInBounds_toArray, List.set_cons_zero, List.set_cons_succ])
    refine wpAnyH_ready (rs := [19]) (by kernel_rfl) (by simp) ?_
    refine AllReadyH.cons rfl (fun K hK => ?_) AllReadyH.nil
    go_simp
    go_at_call 10
    refine (vs_spec a cp R _ _ HVV.out (HS.out.below HW8.out)).mono ?_
    rintro e w9 ⟨rfl, hb⟩
    have hb9 := hb
    have HW9 := Lib.hid (HW8.out.trans (hb9.mono HW8.out.size))
    have q9 : w9.cell? ⟨wd.heap.size, 0, none⟩ = some (.slice a R.length cp) := (HX3.out.below HW9.out).cell 0
    have HI9 := Lib.hid (HI8.out.below hb9)
    have HK9 := Lib.hid (HK8.out.below hb9)
    clear hb hb9
    refine hK.out _ _ ?hSd19 (fun hHeld19 => ?hTd19)
    case hSd19 => exact q9
    clear hK K
    (try simp only [Act.put, List.getElem_toArray, List.getElem_cons_succ, List.getElem_cons_zero, List.setIfInBounds_toArray, List.set_cons_zero, List.set_cons_succ])
    refine wpAnyH_take (i := 20) (v := ?vd20) rfl (by kernel_rfl) (by kernel_rfl) (by kernel_rfl) (fun _ _ _ h => h) (Or.inl ⟨by kernel_rfl, ?hyd20⟩) (by assumption) ?hrd20
    case hyd20 => (intro w' hSw; (try dsimp only at hSw); go_simp; (try with_reducible rfl))
    (try simp only [Act.put, List.getElem_toArray, List.getElem_cons_succ, List.getElem_cons_zero, List.setIfInBounds_toArray, List.set_cons_zero, List.set_cons_succ])
    refine wpAnyH_take (i := 21) (v := undef) rfl (by kernel_rfl) (by kernel_rfl) (by kernel_rfl) (fun _ _ _ h => h) (Or.inr ⟨by kernel_rfl, rfl⟩) (by assumption) ?_
    (try simp only [Act.put, List.getElem_toArray, List.getElem_cons_succ, List.getElem_cons_zero, List.setIfInBounds_toArray, List.set_cons_zero, List.set_cons_succ])
    refine wpAnyH_take (i := 22) (v := undef) rfl (by kernel_rfl) (by kernel_rfl) (by kernel_rfl) (fun _ _ _ h => h) (Or.inr ⟨by kernel_rfl, rfl⟩) (by assumption) ?_
    (try simp only [Act.put, List.getElem_toArray, List.getElem_cons_succ, List.getElem_cons_zero, List.setIfInBounds_toArray, List.set_cons_zero, List.set_cons_succ])
    refine wpAnyH_take (i := 23) (v := ?vd23) rfl (by kernel_rfl) (by kernel_rfl) (by kernel_rfl) (fun _ _ _ h => h) (Or.inl ⟨by kernel_rfl, ?hyd23⟩) (by assumption) ?hrd23
    case hyd23 => (intro w' hSw; (try dsimp only at hSw); go_simp; (try with_reducible rfl))
    (try simp only [Act.put, List.getElem_toArray, List.getElem_cons_succ, List.getElem_cons_zero, List.setIfInBounds_toArray, List.set_cons_zero, List.set_cons_succ])
    refine wpAnyH_take (i := 24) (v := ?vd24) rfl (by kernel_rfl) (by kernel_rfl) (by kernel_rfl) (fun _ _ _ h => h) (Or.inl ⟨by kernel_rfl, ?hyd24⟩) (by assumption) ?hrd24
    case hyd24 => (intro w' hSw; (try dsimp only at hSw); go_simp; (try with_reducible rfl))
    (try simp only [Act.put, List.getElem_toArray, List.getElem_cons_succ, List.getElem_cons_zero, List.setIfInBounds_toArray, List.set_cons_zero, List.set_cons_succ])
    refine wpAnyH_take (i := 25) (v := ?vd25) rfl (by kernel_rfl) (by kernel_rfl) (by kernel_rfl) (fun _ _ _ h => h) (Or.inl ⟨by kernel_rfl, ?hyd25⟩) (by assumption) ?hrd25
    case hyd25 => (intro w' hSw; (try dsimp only at hSw); go_simp; (try with_reducible rfl))
    (try simp only [Act.put, List.getElem_toArray, List.getElem_cons_succ, List.getElem_cons_zero, List.setIfInBounds_toArray, List.set_cons_zero, List.set_cons_succ])
    refine wpAnyH_done (by kernel_rfl) ?_ _
    refine NoPanic.normal ?_
    have HW := HW9
    have HI := HI9
    have HK := HK9
    clear HW5 HW6 HW7 HW8 HW9 HI5 HI6 HI7 HI8 HI9 HK5 HK6 HK7 HK8 HK9 HJ5 HJ6 HL5 HL6
    clear q5 q6 q7 q8
    go_wp2_with (go_at_call 13; ((with_reducible refine (domdraw_any A0 len cap _ ((HCODE.out.keep (fun k hk => (HB3.out.trans (HW.out.mono HB3.out.size)).block k hk)).more (HB3.out.trans (HW.out.mono HB3.out.size)).size)).mono ?_); rintro e wt ⟨f, g, y1, y2, e1, e2, rfl, hf, hg, hif, hig, hb⟩; refine Hid.out ?_))
    have HW10 := Lib.hid (HW.out.trans (hb.mono HW.out.size))
    clear HW HI HK
    have HW := HW10
    clear HW10
    have q10 : wt.cell? ⟨wd.heap.size, 0, none⟩ = some (.slice a R.length cp) := (HX3.out.below HW.out).cell 0
    have HI := Lib.hid hif
    have HK := Lib.hid hig
    have HF6 := Lib.hid (show f.length ≤ 4000000 by omega)
    have HG6 := Lib.hid (show g.length ≤ 4000000 by omega)
    obtain ⟨d, hd⟩ : ∃ d, domB f g = d := ⟨_, rfl⟩
    obtain ⟨rg, hrg⟩ : ∃ d, rhB R g = d := ⟨_, rfl⟩
    obtain ⟨rf, hrf⟩ : ∃ d, rhB R f = d := ⟨_, rfl⟩
    have HD := Lib.hid hd
    have HRG := Lib.hid hrg
    have HRF := Lib.hid hrf
    have hfin : d = false ∨ (d = true ∧ rg = false) ∨ (d = true ∧ rg = true ∧ rf = true) := by
      cases d
      · exact .inl rfl
      · cases rg
        · exact .inr (.inl ⟨rfl, rfl⟩)
        · exact .inr (.inr ⟨rfl, rfl, by rw [← hrf]; exact mono_all HNO.out hd hrg⟩)
    clear hd hrg hrf hb hf hg hif hig
    rcases hfin with rfl | ⟨rfl, rfl⟩ | ⟨rfl, rfl, rfl⟩
    all_goals
      refine Lib.hid ?_
      go_wp2_with (first
        | (go_at_call 12; ((with_reducible refine (dom_impl y1 y2 e1 e2 f g _ _ HF6.out HG6.out HI.out HK.out HD.out).mono ?_); rintro e wn ⟨rfl, hb⟩; have T1 := Lib.hid (HW.out.trans (hb.mono HW.out.size)); clear HW; have HW := T1; clear T1; have T2 := Lib.hid (HI.out.below hb); clear HI; have HI := T2; clear T2; have T3 := Lib.hid (HK.out.below hb); clear HK; have HK := T3; clear T3; clear hb; have q0 : wn.cell? ⟨wd.heap.size, 0, none⟩ = some (.slice a R.length cp) := (HX3.out.below HW.out).cell 0))
        | (go_at_call 14; ((with_reducible refine (dom_spec y1 y2 e1 e2 f g _ _ HF6.out HG6.out HI.out HK.out HD.out).mono ?_); rintro e wn ⟨rfl, hb⟩; have T1 := Lib.hid (HW.out.trans (hb.mono HW.out.size)); clear HW; have HW := T1; clear T1; have T2 := Lib.hid (HI.out.below hb); clear HI; have HI := T2; clear T2; have T3 := Lib.hid (HK.out.below hb); clear HK; have HK := T3; clear T3; clear hb; have q0 : wn.cell? ⟨wd.heap.size, 0, none⟩ = some (.slice a R.length cp) := (HX3.out.below HW.out).cell 0))
        | (go_at_call 15; ((with_reducible refine (rhs_spec a cp R y2 e2 g _ _ (HS.out.below HW.out) HG6.out HK.out HRG.out).mono ?_); rintro e wn ⟨rfl, hb⟩; have T1 := Lib.hid (HW.out.trans (hb.mono HW.out.size)); clear HW; have HW := T1; clear T1; have T2 := Lib.hid (HI.out.below hb); clear HI; have HI := T2; clear T2; have T3 := Lib.hid (HK.out.below hb); clear HK; have HK := T3; clear T3; clear hb; have q0 : wn.cell? ⟨wd.heap.size, 0, none⟩ = some (.slice a R.length cp) := (HX3.out.below HW.out).cell 0))
        | (go_at_call 11; ((with_reducible refine (rhs_impl a cp R y1 e1 f _ _ (HS.out.below HW.out) HF6.out HI.out HRF.out).mono ?_); rintro e wn ⟨rfl, hb⟩; have T1 := Lib.hid (HW.out.trans (hb.mono HW.out.size)); clear HW; have HW := T1; clear T1; have T2 := Lib.hid (HI.out.below hb); clear HI; have HI := T2; clear T2; have T3 := Lib.hid (HK.out.below hb); clear HK; have HK := T3; clear T3; clear hb; have q0 : wn.cell? ⟨wd.heap.size, 0, none⟩ = some (.slice a R.length cp) := (HX3.out.below HW.out).cell 0)))
      go_ret
      exact ⟨rfl, HB3.out.trans (HW.out.mono HB3.out.size)⟩

theorem FnMonotone_walk (A : Option Addr) (len cap : Nat) (zs : List Int) (w : World) (h : IsRow .u8 w A len cap zs) :
    Calls Try.prog 3 #[.slice A len cap] w fun e w' => e = .returned (.bool true) ∧ Below w.heap.size w w' := by
  by_cases hl : 1048576 < (len : Int)
  · go_enter Try.func3, Try.ntmps3
    go_wp2_with (go_at_call 4; (refine (big_yes A len cap _ hl).mono ?_); rintro e w0 ⟨rfl, rfl⟩)
    go_ret
    exact ⟨rfl, Below.refl _ _⟩
  · exact FnMonotone_core A len cap w (codeAt_of h (by omega))

end Go.Proofs.Ytpldjihajclblaa
