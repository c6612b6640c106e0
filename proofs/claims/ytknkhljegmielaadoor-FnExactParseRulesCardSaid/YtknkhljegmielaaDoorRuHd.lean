/-
  Slices of rules: what the laws' own heldRuleSet finds. By an AI agent.
-/
import Derived.Test.YtknkhljegmielaaDoorRuU
import Derived.Test.YtknkhljegmielaaDoorRuT
import Derived.Test.YtknkhljegmielaaDoorPrsL
namespace Go.Proofs.YtknkhljegmielaaDoor
open Go.RowKit
set_option linter.unusedVariables false
set_option linter.unusedSimpArgs false
set_option linter.unnecessarySimpa false

theorem sum_small {R : List (List TS)} (h : ∀ l ∈ R, l.length ≤ 3) : (R.map List.length).sum ≤ 3 * R.length := by
  induction R with
  | nil => simp
  | cons l R ih =>
    have h1 := ih (fun x hx => h x (List.mem_cons_of_mem _ hx))
    have h2 := h l (List.mem_cons_self ..)
    simp only [List.map_cons, List.sum_cons, List.length_cons]
    omega
theorem pr_ruz {s : Str} {R : List (List TS)} {b : Bool} (h : PRout s R b) : ruz R ≤ 1048576 := by
  have h1 := pr_small h
  have h2 := sum_small h1.2
  have h3 : ruz R = R.length + (R.map List.length).sum := by unfold ruz ruzT; rw [List.take_length]
  omega
theorem pr_lens {s : Str} {R : List (List TS)} {b : Bool} (h : PRout s R b) : R.length ≤ 4000000 ∧ ∀ x ∈ R, x.length ≤ 4000000 :=
  ⟨by have := (pr_small h).1; omega, fun x hx => by have := (pr_small h).2 x hx; omega⟩

set_option maxRecDepth 100000 in
set_option maxHeartbeats 1600000 in
theorem tsheld_any (a : Option Addr) (cap n k0 m : Nat) (w : World) (hl : n ≤ 4000000) (hk1 : k0 ≤ 90000000) (hm : k0 + 3 * n = m) (hin : InTs w a (mkTs k0 n)) :
    Calls Tryd.prog 47 #[.slice a n cap, .int .i64 k0] w fun e w' => e = .returned (.int .i64 (m : Int)) ∧ Below w.heap.size w w' := by
  have HIN := Lib.hid hin
  have HMM := Lib.hid hm
  clear hin hm
  go_enter Tryd.func47, Tryd.ntmps47
  go_wp2
  go_loopw [1, 5] (fun kk i wr => ∃ k m' : Nat, k ≤ n ∧ i = .int .i64 k ∧ kk = .int .i64 (m' : Int) ∧ k0 + 3 * k = m' ∧ Below w.heap.size w wr) (fun _ i _ => n - (intOf i).toNat)
  case atStart => exact ⟨0, k0, Nat.zero_le _, rfl, rfl, by omega, Below.refl _ _⟩
  case round =>
    obtain ⟨k, m', hk, rfl, rfl, hkm, hb⟩ := hrel
    have HB := Lib.hid hb
    have HKM := Lib.hid hkm
    have hm9 : m' ≤ 190000000 := by omega
    clear hb
    by_cases hlt : k < n
    · obtain ⟨b, off, rfl, hbw, hc⟩ := HIN.out (by rw [mkTs_len]; omega)
      obtain ⟨p0, p1, p2⟩ := hc k _ (mkTs_at hlt)
      rw [HKM.out] at p0 p1 p2
      have g0 : wr.cell? ⟨b, off + k * 3, none⟩ = some (.int .i64 (m' : Int)) := (HB.out.cell (p := ⟨b, off + k * 3, none⟩) hbw).trans p0
      have g1 : wr.cell? ⟨b, off + k * 3 + 1, none⟩ = some (.int .i64 ((m' : Int) + 1)) := (HB.out.cell (p := ⟨b, off + k * 3 + 1, none⟩) hbw).trans p1
      have g2 : wr.cell? ⟨b, off + k * 3 + 2, none⟩ = some (.bool (((m' : Int) + 1 + 1) % 3 == 0)) := (HB.out.cell (p := ⟨b, off + k * 3 + 2, none⟩) hbw).trans p2
      clear hc hbw p0 p1 p2 hkm
      go_wp2
      go_roundw
      case rel => exact ⟨k + 1, m' + 3, by omega, by go_num, by go_num, by have := HKM.out; omega, HB.out⟩
      case measure => simp [intOf]; omega
    · obtain rfl : k = n := by omega
      clear hkm
      go_wp2
      go_ret
      exact ⟨by rw [← HMM.out, HKM.out]; rfl, HB.out⟩

set_option maxRecDepth 100000 in
set_option maxHeartbeats 1600000 in
theorem ruheld_l (a : Option Addr) (cap n k0 m : Nat) (R : List (List TS)) (w : World) (hn : R.length = n) (hl : n ≤ 4000000) (hx : ∀ x ∈ R, x.length ≤ 4000000) (hmx : m ≤ 80000000) (hm : k0 + ruT R R.length = m) (hin : InRu w a (mkR k0 R)) :
    Calls Tryd.prog 30 #[.slice a n cap, .int .i64 k0] w fun e w' => e = .returned (.int .i64 (m : Int)) ∧ Below w.heap.size w w' := by
  have HIN := Lib.hid hin
  have HMM := Lib.hid hm
  have HX := Lib.hid hx
  have HRN := Lib.hid hn
  clear hin hm hx hn
  go_enter Tryd.func30, Tryd.ntmps30
  go_wp2
  go_loopw [1, 5] (fun kk i wr => ∃ k m' : Nat, k ≤ n ∧ i = .int .i64 k ∧ kk = .int .i64 (m' : Int) ∧ k0 + ruT R k = m' ∧ Below w.heap.size w wr) (fun _ i _ => n - (intOf i).toNat)
  case atStart => exact ⟨0, k0, Nat.zero_le _, rfl, rfl, by simp [ruT], Below.refl _ _⟩
  case round =>
    obtain ⟨k, m', hk, rfl, rfl, hkm, hb⟩ := hrel
    have HB := Lib.hid hb
    have HKM := Lib.hid hkm
    have hm9 : m' ≤ 80000000 := by have := ruT_le (R := R) (k := k) (by rw [HRN.out]; exact hk); have := HMM.out; omega
    clear hb
    by_cases hlt : k < n
    · obtain ⟨b, off, rfl, hbw, hc⟩ := HIN.out (by rw [mkR_len, HRN.out]; omega)
      obtain ⟨l, hj⟩ : ∃ l, R[k]? = some l := ⟨_, List.getElem?_eq_getElem (by rw [HRN.out]; exact hlt)⟩
      have hat := mkR_at (k0 := k0) hj
      rw [HKM.out] at hat
      obtain ⟨a', c', p0, _, _, hin'⟩ := hc k _ hat
      rw [mkTs_len] at p0
      have g0 : wr.cell? ⟨b, off + k, none⟩ = some (.slice a' l.length c') := (HB.out.cell (p := ⟨b, off + k, none⟩) hbw).trans p0
      have hll := HX.out l (List.mem_of_getElem? hj)
      obtain ⟨m2, hm2⟩ : ∃ m2, m' + 3 * l.length = m2 := ⟨_, rfl⟩
      have HM2 := Lib.hid hm2
      have hm29 : m2 ≤ 100000000 := by omega
      have HNX := Lib.hid (show k0 + ruT R (k + 1) = m2 by rw [ruT_succ hj]; omega)
      have HC := Lib.hid (tsheld_any a' c' l.length m' m2 wr hll (by omega) hm2 (hin'.below HB.out))
      clear hc hbw p0 hkm hat hin' hj hm2
      go_wp2_with (go_at_call 47; ((with_reducible refine HC.out.mono ?_); rintro e w2 ⟨rfl, hb2⟩; have HB2 := Lib.hid (HB.out.trans (hb2.mono HB.out.size)); clear hb2))
      go_roundw
      case rel => exact ⟨k + 1, m2, by omega, by go_num, by go_num, HNX.out, HB2.out⟩
      case measure => simp [intOf]; omega
    · obtain rfl : k = n := by omega
      clear hkm
      go_wp2
      go_ret
      exact ⟨by rw [← HMM.out, HRN.out, HKM.out]; rfl, HB.out⟩

set_option maxRecDepth 100000 in
theorem ruheld_m (a : Option Addr) (cap n k0 m : Nat) (R : List (List TS)) (w : World) (hn : R.length = n) (hk1 : k0 ≤ 90000) (hz : ruz R ≤ 1048576) (hm : k0 + ruT R R.length = m) (hin : InRu w a (mkR k0 R)) :
    Calls Tryd.prog 13 #[.agg #[.slice a n cap], .int .i64 k0] w fun e w' => e = .returned (.int .i64 (m : Int)) ∧ Below w.heap.size w w' := by
  have h9 := ruT_small hz
  obtain ⟨w1, hw1⟩ : ∃ w1, w1 = w.alloc (.cells #[.slice a n cap] 29) := ⟨_, rfl⟩
  have HW := Lib.hid hw1
  have HB1 := Lib.hid (show Below w.heap.size w w1 by rw [hw1]; exact (Below.refl w.heap.size w).alloc (Nat.le_refl _) _)
  have HBX := Lib.hid (show BlkV w1 w.heap.size 29 #[.slice a n cap] by rw [hw1]; exact BlkV.new _ _ _)
  have q0 : w1.cell? ⟨w.heap.size, 0, none⟩ = some (.slice a n cap) := HBX.out.cell 0
  have HC := Lib.hid (ruheld_l a cap n k0 m R w1 hn (by have := ru_len hz; omega) (ru_mem hz) (by omega) hm (hin.below HB1.out))
  have hm9 : m ≤ 4000000 := by omega
  clear hin hw1 h9 hm hn
  rw [HW.out] at q0
  go_enter Tryd.func13, Tryd.ntmps13
  go_wp2_with (go_at_call 30; rw [← HW.out]; ((with_reducible refine HC.out.mono ?_); rintro e w2 ⟨rfl, hb2⟩; have HB2 := Lib.hid (HB1.out.trans (hb2.mono HB1.out.size)); clear hb2))
  go_ret
  exact ⟨rfl, HB2.out⟩

end Go.Proofs.YtknkhljegmielaaDoor
