/-
  Texts laid together: RuF, RuG, PlainDec, PlainNorm, PlainWords, PlainTok. By an AI agent.
-/
import Derived.Test.YtpmfabpnjacegaaGreatDoorGQ11
import Derived.Test.YtpmfabpnjacegaaGreatDoorGQ7
import Derived.Test.YtpmfabpnjacegaaGreatDoorRuE
import Derived.WalkKit
import Derived.Lib.ItoaLen
import Derived.Lib.ItoaMem
import Derived.Test.YtpmfabpnjacegaaGreatDoorGQ2
/-
  What spec's IsValidRules, TestHolds, RuleHolds, FirstRule and RulesHold answer. By an AI agent.
-/
namespace Go.Proofs.YtpmfabpnjacegaaGreatDoor
open Go.RowKit
set_option linter.unusedVariables false

theorem fv_specF (a : Option Addr) (cap : Nat) (l : List Int) (r : Bool) (w : World) (hl : l.length ≤ 4000000) (hin : InI w a l) (hr : fvB l = r) :
    Calls Tryz.prog 41 #[.slice a l.length cap] w fun e w' => e = .returned (.bool r) ∧ w' = w :=
  (fv_spec a cap l r w hl hin hr).mono fun e w' ⟨he, hw⟩ => ⟨he, hw.symm⟩
theorem cond_nofeat {f t : Int} {u : Bool} {l : List Int} (h : ¬ (0 ≤ f ∧ f ≤ 5)) : condT ((f, t), u) l = false := by unfold condT featB; rw [decide_eq_false h]; rfl

set_option maxRecDepth 100000 in
set_option maxHeartbeats 2000000 in
theorem th_spec (f t : Int) (u : Bool) (a : Option Addr) (c : Nat) (l : List Int) (r : Bool) (w : World) (hl : l.length ≤ 4000000) (hin : InI w a l) (hr : tshB ((f, t), u) l = r) :
    Calls Tryz.prog 67 #[.agg #[.int .i64 f, .int .i64 t, .bool u], .slice a l.length c] w fun e w' => e = .returned (.bool r) ∧ Below w.heap.size w w' := by
  obtain ⟨b, hb⟩ : ∃ b, fvB l = b := ⟨_, rfl⟩
  have HF := Lib.hid hb
  have HR := Lib.hid (show (b && condT ((f, t), u) l) = r by rw [← hr, ← hb]; rfl)
  obtain ⟨w1, hw1⟩ : ∃ w1, w.alloc (.cells #[.int .i64 f, .int .i64 t, .bool u] 86) = w1 := ⟨_, rfl⟩
  have HB1 := Lib.hid (show Below w.heap.size w w1 by rw [← hw1]; exact (Below.refl w.heap.size w).alloc (Nat.le_refl _) _)
  have HT4 := Lib.hid (show BlkV w1 w.heap.size 86 #[.int .i64 f, .int .i64 t, .bool u] by rw [← hw1]; exact BlkV.new _ _ _)
  have x0 := HT4.out.three0
  have x1 := HT4.out.three1
  have x2 := HT4.out.three2
  have HIN := Lib.hid (hin.below HB1.out)
  have HC1 := Lib.hid (fun n : Nat => fv_specF a c l b (w1.drewN n) hl (HIN.out.below (quiet_f _ _ n)) hb)
  clear hb hr hin
  cases b
  · obtain rfl : false = r := HR.out
    go_enter Tryz.func67, Tryz.ntmps67
    go_wp2
    go_quiet ((go_at_call 41; with_reducible exact Calls.quiet_of_same (HC1.out _)))
    go_wp2
    go_ret
    exact ⟨rfl, HB1.out.trans (quiet_f _ _ _)⟩
  · obtain ⟨fb, hfb⟩ : ∃ fb, decide (0 ≤ f ∧ f ≤ 5) = fb := ⟨_, rfl⟩
    have HFB := Lib.hid hfb
    have HC2 := Lib.hid (fun n : Nat => cl1In f 0 5 fb (w1.drewN n) hfb)
    clear hfb
    cases fb
    · obtain rfl : false = r := by rw [← HR.out, cond_nofeat (of_decide_eq_false HFB.out)]; rfl
      go_enter Tryz.func67, Tryz.ntmps67
      go_wp2
      go_quiet ((first | (go_at_call 41; with_reducible exact Calls.quiet_of_same (HC1.out _)) | (go_at_call 45; with_reducible exact Calls.quiet_of_same (HC2.out _))))
      go_wp2
      go_ret
      exact ⟨rfl, HB1.out.trans (quiet_f _ _ _)⟩
    · have hf5 := of_decide_eq_true HFB.out
      obtain ⟨j, rfl⟩ : ∃ j : Nat, f = j := ⟨f.toNat, by omega⟩
      have hj5 : j ≤ 5 := by omega
      have h6 := (fv_of HF.out).1
      obtain ⟨b, off, rfl, hb, hc⟩ := HIN.out (by omega)
      have hlt : j < l.length := by omega
      obtain ⟨x, hx⟩ : ∃ x, l[j]? = some x := ⟨_, List.getElem?_eq_getElem hlt⟩
      have hcell : w1.cell? ⟨b, off + j, none⟩ = some (.int .i64 x) := hc j x hx
      obtain ⟨d, hd⟩ : ∃ d, decide (t ≤ x) = d := ⟨_, rfl⟩
      have HD := Lib.hid (show (d != u) = r by
        rw [← HR.out, Bool.true_and]
        cases u
        · rw [cond_ge hj5, getD_is hx, hd]; cases d <;> rfl
        · rw [cond_lt hj5, getD_is hx]
          have : decide (x < t) = !d := by rw [← hd]; by_cases e : t ≤ x <;> simp [e] <;> omega
          rw [this]; cases d <;> rfl)
      clear hc hx hb h6 hf5 hj5
      go_enter Tryz.func67, Tryz.ntmps67
      go_wp2
      go_quiet ((first | (go_at_call 41; with_reducible exact Calls.quiet_of_same (HC1.out _)) | (go_at_call 45; with_reducible exact Calls.quiet_of_same (HC2.out _))))
      go_wp2
      go_ret
      exact ⟨iret_bool HD.out, HB1.out.trans (quiet_f _ _ _)⟩

set_option maxRecDepth 100000 in
set_option maxHeartbeats 1000000 in
theorem rh_spec (ra : Option Addr) (rc : Nat) (q : List TS) (a : Option Addr) (c : Nat) (l : List Int) (r : Bool) (w : World) (h : SmTs w ra q rc) (hl : l.length ≤ 4000000) (hin : InI w a l) (hr : ruB q l = r) :
    Calls Tryz.prog 32 #[.agg #[.slice ra q.length rc], .slice a l.length c] w fun e w' => e = .returned (.bool r) ∧ Below w.heap.size w w' := by
  obtain ⟨b, hb⟩ : ∃ b, fvB l = b := ⟨_, rfl⟩
  have HF := Lib.hid hb
  have HR := Lib.hid (show (b && q.all fun t => condT t l) = r by rw [← hr, ← hb]; rfl)
  obtain ⟨w1, hw1⟩ : ∃ w1, w.alloc (.cells #[.slice ra q.length rc] 66) = w1 := ⟨_, rfl⟩
  have HB1 := Lib.hid (show Below w.heap.size w w1 by rw [← hw1]; exact (Below.refl w.heap.size w).alloc (Nat.le_refl _) _)
  have HT4 := Lib.hid (show BlkV w1 w.heap.size 66 #[.slice ra q.length rc] by rw [← hw1]; exact BlkV.new _ _ _)
  have HIN := Lib.hid (hin.below HB1.out)
  have HSM := Lib.hid (h.below HB1.out)
  have hql := h.len
  clear hb hr hin h
  go_enter Tryz.func32, Tryz.ntmps32
  go_wp2
  go_loopw [5] (fun i wr => ∃ k : Nat, k ≤ q.length ∧ i = .int .i64 k ∧ ((q.take k).all fun t => condT t l) = true ∧ Below w1.heap.size w1 wr) (fun i _ => q.length - (intOf i).toNat)
  case atStart => exact ⟨0, Nat.zero_le _, rfl, rfl, Below.refl _ _⟩
  case round =>
    obtain ⟨k, hk, rfl, hall, hb⟩ := hrel
    have HALL := Lib.hid hall
    have HB := Lib.hid hb
    have q0 := (HT4.out.below hb).one0
    clear hall hb
    by_cases hlt : k < q.length
    · obtain ⟨b1, o1, f, t, u, rfl, hbw, hx, c0, c1, c2⟩ := (HSM.out.inTs.below HB.out).at_ hlt
      have HX := Lib.hid hx
      obtain ⟨d, hd⟩ : ∃ d, condT ((f, t), u) l = d := ⟨_, rfl⟩
      have HD := Lib.hid hd
      have HC := Lib.hid (th_spec f t u a c l (b && d) wr hl (HIN.out.below HB.out) (by unfold tshB; rw [HF.out, hd]))
      clear hx hd hbw
      cases b
      · obtain rfl : false = r := HR.out
        go_wp2_with (go_at_call 67; ((with_reducible refine HC.out.mono ?_); rintro e w2 ⟨rfl, hb2⟩; have HB2 := Lib.hid hb2; clear hb2))
        go_ret
        exact ⟨rfl, HB1.out.trans ((HB.out.trans (HB2.out.mono HB.out.size)).mono HB1.out.size)⟩
      · cases d
        · obtain rfl : false = r := by rw [← HR.out, all_no (p := fun t => condT t l) HX.out HD.out]; rfl
          go_wp2_with (go_at_call 67; ((with_reducible refine HC.out.mono ?_); rintro e w2 ⟨rfl, hb2⟩; have HB2 := Lib.hid hb2; clear hb2))
          go_ret
          exact ⟨rfl, HB1.out.trans ((HB.out.trans (HB2.out.mono HB.out.size)).mono HB1.out.size)⟩
        · go_wp2_with (go_at_call 67; ((with_reducible refine HC.out.mono ?_); rintro e w2 ⟨rfl, hb2⟩; have HB2 := Lib.hid hb2; clear hb2))
          go_roundw
          case rel => exact ⟨k + 1, by omega, by go_num, all_take (p := fun t => condT t l) HALL.out HX.out HD.out, HB.out.trans (HB2.out.mono HB.out.size)⟩
          case measure => simp [intOf]; omega
    · obtain rfl : k = q.length := by omega
      have HI2 := Lib.hid (HIN.out.below HB.out)
      obtain rfl : b = r := by
        rw [← HR.out]
        have h := HALL.out
        rw [List.take_length] at h
        rw [h, Bool.and_true]
      go_wp2_with (go_at_call 41; ((with_reducible refine (fv_specF a c l b _ hl HI2.out HF.out).mono ?_); rintro e w2 ⟨rfl, rfl⟩))
      go_ret
      exact ⟨rfl, HB1.out.trans (HB.out.mono HB1.out.size)⟩

end Go.Proofs.YtpmfabpnjacegaaGreatDoor

/-
  What spec's FirstRule and RulesHold answer. By an AI agent.
-/
namespace Go.Proofs.YtpmfabpnjacegaaGreatDoor
open Go.RowKit
set_option linter.unusedVariables false

set_option maxRecDepth 100000 in
set_option maxHeartbeats 2000000 in
theorem fr_spec (ra : Option Addr) (rc : Nat) (R : List (List TS)) (a : Option Addr) (c : Nat) (l : List Int) (z : Int) (w : World) (h : SmRu w ra R rc) (hl : l.length ≤ 4000000) (hin : InI w a l) (hz : frR R l = z) :
    Calls Tryz.prog 10 #[.agg #[.slice ra R.length rc], .slice a l.length c] w fun e w' => e = .returned (.int .i64 z) ∧ Below w.heap.size w w' := by
  obtain ⟨b1, hb1⟩ : ∃ b, vsB R = b := ⟨_, rfl⟩
  have HV := Lib.hid hb1
  have HZ := Lib.hid hz
  obtain ⟨w1, hw1⟩ : ∃ w1, w.alloc (.cells #[.slice ra R.length rc] 26) = w1 := ⟨_, rfl⟩
  have HB1 := Lib.hid (show Below w.heap.size w w1 by rw [← hw1]; exact (Below.refl w.heap.size w).alloc (Nat.le_refl _) _)
  have HT4 := Lib.hid (show BlkV w1 w.heap.size 26 #[.slice ra R.length rc] by rw [← hw1]; exact BlkV.new _ _ _)
  have HIN := Lib.hid (hin.below HB1.out)
  have HSM := Lib.hid (h.below HB1.out)
  have hRl := h.len
  have HVC := Lib.hid (fun (W : World) (hW : Below w1.heap.size w1 W) => vs_spec ra rc R b1 W hb1 (HSM.out.below hW))
  clear hb1 hz hin h
  go_enter Tryz.func10, Tryz.ntmps10
  go_wp2
  go_loopw [5] (fun i wr => ∃ k : Nat, k ≤ R.length ∧ i = .int .i64 k ∧ (vsB R = true → fvB l = true → k ≤ firstU R l) ∧ Below w1.heap.size w1 wr) (fun i _ => R.length - (intOf i).toNat)
  case atStart => exact ⟨0, Nat.zero_le _, rfl, fun _ _ => Nat.zero_le _, Below.refl _ _⟩
  case round =>
    obtain ⟨k, hk, rfl, hfi, hb⟩ := hrel
    have HFI := Lib.hid hfi
    have HB := Lib.hid hb
    have q0 := (HT4.out.below hb).one0
    clear hfi hb
    by_cases hlt : k < R.length
    · cases b1
      · obtain rfl : -1 = z := by rw [← HZ.out, fr_bad1 HV.out]
        go_wp2_with (go_at_call 27; ((with_reducible refine (HVC.out _ HB.out).mono ?_); rintro e w2 ⟨rfl, hb2⟩; have HB2 := Lib.hid (HB.out.trans (hb2.mono HB.out.size)); clear hb2))
        go_ret
        exact ⟨rfl, HB1.out.trans (HB2.out.mono HB1.out.size)⟩
      · obtain ⟨b, off, q, a', c', rfl, hbw, hx, c0, hsm⟩ := (HSM.out.below HB.out).at_ hlt
        have HX := Lib.hid hx
        have HBW := Lib.hid hbw
        have HC0 := Lib.hid c0
        obtain ⟨d, hd⟩ : ∃ d, ruB q l = d := ⟨_, rfl⟩
        have HD := Lib.hid hd
        have HC := Lib.hid (fun (W : World) (hW : Below wr.heap.size wr W) => rh_spec a' c' q a c l d W (hsm.below hW) hl ((HIN.out.below HB.out).below hW) hd)
        clear hx hsm hbw hd c0
        cases d
        · go_wp2_with (first
            | (go_at_call 27; ((with_reducible refine (HVC.out _ HB.out).mono ?_); rintro e w2 ⟨rfl, hb2⟩; have HBB := Lib.hid hb2; have z0 := (HT4.out.below (HB.out.trans (hb2.mono HB.out.size))).one0; have y0 := (hb2.cell (p := ⟨b, off + k, none⟩) HBW.out).trans HC0.out; clear hb2))
            | (go_at_call 32; ((with_reducible refine (HC.out _ HBB.out).mono ?_); rintro e w3 ⟨rfl, hb3⟩; have HB3 := Lib.hid (HB.out.trans ((HBB.out.trans (hb3.mono HBB.out.size)).mono HB.out.size)); clear hb3)))
          go_roundw
          case rel =>
            refine ⟨k + 1, by omega, by go_num, fun hv hf => first_next (HFI.out hv hf) HX.out ?_, HB3.out⟩
            have := HD.out
            unfold ruB at this
            rwa [hf, Bool.true_and] at this
          case measure => simp [intOf]; omega
        · obtain ⟨hf, ha⟩ : fvB l = true ∧ (q.all fun t => condT t l) = true := by have := HD.out; unfold ruB at this; rwa [Bool.and_eq_true] at this
          obtain rfl : (k : Int) = z := by rw [← HZ.out, fr_ok HV.out hf, first_at (HFI.out HV.out hf) HX.out ha]
          clear hf ha
          go_wp2_with (first
            | (go_at_call 27; ((with_reducible refine (HVC.out _ HB.out).mono ?_); rintro e w2 ⟨rfl, hb2⟩; have HBB := Lib.hid hb2; have z0 := (HT4.out.below (HB.out.trans (hb2.mono HB.out.size))).one0; have y0 := (hb2.cell (p := ⟨b, off + k, none⟩) HBW.out).trans HC0.out; clear hb2))
            | (go_at_call 32; ((with_reducible refine (HC.out _ HBB.out).mono ?_); rintro e w3 ⟨rfl, hb3⟩; have HB3 := Lib.hid (HB.out.trans ((HBB.out.trans (hb3.mono HBB.out.size)).mono HB.out.size)); clear hb3)))
          go_ret
          exact ⟨rfl, HB1.out.trans (HB3.out.mono HB1.out.size)⟩
    · obtain rfl : k = R.length := by omega
      obtain rfl : -1 = z := by
        rw [← HZ.out]
        cases hv : vsB R with
        | false => rw [fr_bad1 hv]
        | true =>
          cases hf : fvB l with
          | false => rw [fr_bad2 hf]
          | true => rw [fr_ok hv hf, first_end (HFI.out hv hf)]
      go_wp2
      go_ret
      exact ⟨rfl, HB1.out.trans (HB.out.mono HB1.out.size)⟩

set_option maxRecDepth 100000 in
theorem rhs_spec (ra : Option Addr) (rc : Nat) (R : List (List TS)) (a : Option Addr) (c : Nat) (l : List Int) (r : Bool) (w : World) (h : SmRu w ra R rc) (hl : l.length ≤ 4000000) (hin : InI w a l) (hr : rhB R l = r) :
    Calls Tryz.prog 20 #[.agg #[.slice ra R.length rc], .slice a l.length c] w fun e w' => e = .returned (.bool r) ∧ Below w.heap.size w w' := by
  obtain ⟨z, hz⟩ : ∃ z, frR R l = z := ⟨_, rfl⟩
  have hrange := fr_range (l := l) h.len
  rw [hz] at hrange
  have HC := Lib.hid (fun (W : World) (hW : Below w.heap.size w W) => fr_spec ra rc R a c l z W (h.below hW) hl (hin.below hW) hz)
  have HA1 := Lib.hid ((Below.refl w.heap.size w).alloc (Nat.le_refl _) (.cells #[.slice ra R.length rc] 26))
  have hd : decide (0 ≤ z) = r := by rw [← hr, rhB_of hz]
  clear hin h hz hr hrange
  go_enter Tryz.func20, Tryz.ntmps20
  go_wp2_with (first
    | (go_at_call 10; ((with_reducible refine (HC.out _ HA1.out).mono ?_); rintro e w2 ⟨rfl, hb2⟩; have HB2 := Lib.hid (HA1.out.trans (hb2.mono HA1.out.size)); clear hb2)))
  all_goals go_ret
  all_goals exact ⟨by first | rfl | (simp [hd]), HB2.out⟩

end Go.Proofs.YtpmfabpnjacegaaGreatDoor

/-
  Decimal numerals that are read back: plain facts without the program. By an AI agent.
-/
namespace Go.Proofs.YtpmfabpnjacegaaGreatDoor
set_option linter.unusedVariables false

def isD (b : UInt8) : Bool := decide (48 ≤ b.toNat ∧ b.toNat ≤ 57)

/-- the number that digits spell -/
def dv (l : List UInt8) : Nat := l.foldl (fun n b => 10 * n + (b.toNat - 48)) 0

theorem dv_snoc (l : List UInt8) (b : UInt8) : dv (l ++ [b]) = 10 * dv l + (b.toNat - 48) := by simp [dv]

def AllD (l : List UInt8) : Prop := ∀ b ∈ l, 48 ≤ b.toNat ∧ b.toNat ≤ 57

theorem dv_from (l : List UInt8) : ∀ n : Nat, AllD l → l.foldl (fun n b => 10 * n + (b.toNat - 48)) n < (n + 1) * 10 ^ l.length := by
  induction l with
  | nil => intro n _; simp
  | cons b l ih =>
    intro n h
    have hb := h b (by simp)
    have h1 := ih (10 * n + (b.toNat - 48)) (fun c hc => h c (by simp [hc]))
    rw [List.foldl_cons, List.length_cons, Nat.pow_succ]
    have h2 : (10 * n + (b.toNat - 48) + 1) * 10 ^ l.length ≤ ((n + 1) * 10) * 10 ^ l.length := Nat.mul_le_mul_right _ (by omega)
    have h3 : (n + 1) * (10 ^ l.length * 10) = ((n + 1) * 10) * 10 ^ l.length := by rw [Nat.mul_comm (10 ^ l.length), ← Nat.mul_assoc]
    omega

theorem dv_lt {l : List UInt8} (h : AllD l) : dv l < 10 ^ l.length := by
  have := dv_from l 0 h
  simpa [dv] using this

theorem dv_le {l : List UInt8} {k : Nat} (h : AllD l) (hk : l.length ≤ k) : dv l < 10 ^ k :=
  Nat.lt_of_lt_of_le (dv_lt h) (Nat.pow_le_pow_right (by omega) hk)

theorem dec_all (a : Nat) : AllD (Lib.decDigits a) := by
  induction a using Nat.strongRecOn with
  | ind a ih =>
    intro b hb
    by_cases h : a < 10
    · rw [Lib.decDigits_one h] at hb
      simp at hb
      subst hb
      rw [UInt8.toNat_add, UInt8.toNat_ofNat']
      simp
      omega
    · rw [Lib.decDigits, dif_neg h] at hb
      rcases List.mem_append.1 hb with hb | hb
      · exact ih (a / 10) (by omega) b hb
      · simp only [List.mem_singleton] at hb
        subst hb
        rw [UInt8.toNat_ofNat']
        omega

theorem dv_dec (a : Nat) : dv (Lib.decDigits a) = a := by
  induction a using Nat.strongRecOn with
  | ind a ih =>
    by_cases h : a < 10
    · rw [Lib.decDigits_one h, show [UInt8.ofNat (48 + a)] = [] ++ [UInt8.ofNat (48 + a)] from rfl, dv_snoc, UInt8.toNat_ofNat']
      simp [dv]
      omega
    · rw [Lib.decDigits, dif_neg h, dv_snoc, ih (a / 10) (by omega), UInt8.toNat_ofNat']
      omega

theorem dec_short (k : Nat) : ∀ a, a < 10 ^ (k + 1) → (Lib.decDigits a).length ≤ k + 1 := by
  induction k with
  | zero => intro a h; rw [Lib.decDigits_one (by simpa using h)]; simp
  | succ k ih =>
    intro a h
    by_cases h10 : a < 10
    · rw [Lib.decDigits_one h10]; simp
    · rw [Lib.decDigits, dif_neg h10, List.length_append]
      have := ih (a / 10) (by rw [Nat.pow_succ] at h; omega)
      simp
      omega

theorem dec_ne (a : Nat) : Lib.decDigits a ≠ [] := by
  by_cases h : a < 10
  · rw [Lib.decDigits_one h]; simp
  · rw [Lib.decDigits, dif_neg h]; simp

/-- what ParseInt answers at l -/
def PiOk (l : List UInt8) (n : Int) (ok : Bool) : Prop :=
  (ok = true ∧ Lib.itoa n = l ∧ -1000000000 < n ∧ n < 1000000000) ∨ (ok = false ∧ n = 0 ∧ ∀ m : Int, -1000000000 < m → m < 1000000000 → Lib.itoa m ≠ l)

/-- l is a sign, perhaps, and what stands behind it -/
def Cut (l : List UInt8) (neg : Bool) (d : List UInt8) : Prop := (neg = true ∧ l = 45 :: d) ∨ (neg = false ∧ l = d ∧ d.head? ≠ some 45)

def sgn (neg : Bool) (v : Nat) : Int := if neg then -(v : Int) else v

theorem dec_head (a : Nat) : (Lib.decDigits a).head? ≠ some 45 := by
  intro h
  have hm : (45 : UInt8) ∈ Lib.decDigits a := by
    cases hd : Lib.decDigits a with
    | nil => exact absurd hd (dec_ne a)
    | cons b r => rw [hd] at h; simp at h; simp [h]
  have := (dec_all a 45 hm).1
  revert this
  decide

theorem cut_itoa {m : Int} {neg : Bool} {d : List UInt8} (h : Cut (Lib.itoa m) neg d) : d = Lib.decDigits m.natAbs ∧ sgn neg m.natAbs = m := by
  by_cases hm : m < 0
  · have e : Lib.itoa m = 45 :: Lib.decDigits m.natAbs := by unfold Lib.itoa; rw [if_pos hm]
    rw [e] at h
    rcases h with ⟨rfl, h⟩ | ⟨rfl, h, h2⟩
    · injection h with _ h
      exact ⟨h.symm, by simp [sgn]; omega⟩
    · rw [← h] at h2
      simp at h2
  · have e : Lib.itoa m = Lib.decDigits m.natAbs := by unfold Lib.itoa; rw [if_neg hm]; congr 1; omega
    rw [e] at h
    rcases h with ⟨rfl, h⟩ | ⟨rfl, h, h2⟩
    · have := dec_head m.natAbs
      rw [h] at this
      simp at this
    · exact ⟨h.symm, by simp [sgn]; omega⟩

theorem itoa_inj {a b : Int} (h : Lib.itoa a = Lib.itoa b) : a = b := by
  obtain ⟨neg, d, hc⟩ : ∃ neg d, Cut (Lib.itoa a) neg d := by
    cases hl : Lib.itoa a with
    | nil => exact ⟨false, [], .inr ⟨rfl, rfl, by simp⟩⟩
    | cons x r =>
      by_cases hx : x = 45
      · subst hx; exact ⟨true, r, .inl ⟨rfl, rfl⟩⟩
      · exact ⟨false, x :: r, .inr ⟨rfl, rfl, by simpa using hx⟩⟩
  have h1 := cut_itoa hc
  rw [h] at hc
  have h2 := cut_itoa hc
  have e := congrArg dv (h1.1.symm.trans h2.1)
  rw [dv_dec, dv_dec] at e
  rw [← h1.2, ← h2.2, e]

theorem PiOk.same {l : List UInt8} {n n' : Int} {ok ok' : Bool} (h : PiOk l n ok) (h' : PiOk l n' ok') : n = n' ∧ ok = ok' := by
  rcases h with ⟨rfl, h1, h2, h3⟩ | ⟨rfl, rfl, h1⟩ <;> rcases h' with ⟨rfl, g1, g2, g3⟩ | ⟨rfl, rfl, g1⟩
  · exact ⟨itoa_inj (h1.trans g1.symm), rfl⟩
  · exact absurd h1 (g1 n h2 h3)
  · exact absurd g1 (h1 n' g2 g3)
  · exact ⟨rfl, rfl⟩

theorem range_of {neg : Bool} {d : List UInt8} (h : AllD d) (hl : d.length ≤ 9) : -1000000000 < sgn neg (dv d) ∧ sgn neg (dv d) < 1000000000 := by
  have h1 := dv_le h hl
  have h2 : (10 : Nat) ^ 9 = 1000000000 := by decide
  unfold sgn
  cases neg <;> simp <;> omega

theorem short_of {m : Int} (h1 : -1000000000 < m) (h2 : m < 1000000000) : (Lib.decDigits m.natAbs).length ≤ 9 := by
  refine dec_short 8 _ ?_
  have : (10 : Nat) ^ (8 + 1) = 1000000000 := by decide
  omega

/-! what impl.ParseInt does -/
theorem pi_yes {l d : List UInt8} {neg : Bool} (hc : Cut l neg d) (hd : AllD d) (hl : d.length ≤ 9) (e : Lib.itoa (sgn neg (dv d)) = l) : PiOk l (sgn neg (dv d)) true :=
  .inl ⟨rfl, e, range_of hd hl⟩

theorem pi_other {l d : List UInt8} {neg : Bool} (hc : Cut l neg d) (e : Lib.itoa (sgn neg (dv d)) ≠ l) : PiOk l 0 false := by
  refine .inr ⟨rfl, rfl, fun m h1 h2 hm => e ?_⟩
  rw [← hm] at hc
  obtain ⟨rfl, h⟩ := cut_itoa hc
  rw [dv_dec, h, hm]

theorem pi_long {l d : List UInt8} {neg : Bool} (hc : Cut l neg d) (hl : 9 < d.length) : PiOk l 0 false := by
  refine .inr ⟨rfl, rfl, fun m h1 h2 hm => ?_⟩
  rw [← hm] at hc
  obtain ⟨rfl, h⟩ := cut_itoa hc
  have := short_of h1 h2
  omega

theorem pi_letter {l d : List UInt8} {neg : Bool} (hc : Cut l neg d) {b : UInt8} (hb : b ∈ d) (hn : ¬ (48 ≤ b.toNat ∧ b.toNat ≤ 57)) : PiOk l 0 false := by
  refine .inr ⟨rfl, rfl, fun m h1 h2 hm => ?_⟩
  rw [← hm] at hc
  obtain ⟨rfl, h⟩ := cut_itoa hc
  exact hn (dec_all _ b hb)

/-! what spec.ParseInt does -/
theorem filter_all {l : List UInt8} (h : AllD l) : l.filter isD = l := by
  rw [List.filter_eq_self]
  intro b hb
  have := h b hb
  simp [isD, this]

theorem filter_allD (l : List UInt8) : AllD (l.filter isD) := by
  intro b hb
  have := (List.mem_filter.1 hb).2
  simpa [isD] using this

theorem filter_cut {l d : List UInt8} {neg : Bool} (hc : Cut l neg d) : l.filter isD = d.filter isD := by
  rcases hc with ⟨_, rfl⟩ | ⟨_, rfl, _⟩
  · rw [List.filter_cons_of_neg (by decide)]
  · rfl

theorem pi_spec_yes {l d : List UInt8} {neg : Bool} (hc : Cut l neg d) (hk : (l.filter isD).length ≤ 9) (e : Lib.itoa (sgn neg (dv (l.filter isD))) = l) : PiOk l (sgn neg (dv (l.filter isD))) true :=
  .inl ⟨rfl, e, range_of (filter_allD l) hk⟩

theorem pi_spec_no {l d : List UInt8} {neg : Bool} (hc : Cut l neg d) (e : Lib.itoa (sgn neg (dv (l.filter isD))) ≠ l) : PiOk l 0 false := by
  refine .inr ⟨rfl, rfl, fun m h1 h2 hm => e ?_⟩
  rw [filter_cut hc]
  rw [← hm] at hc
  obtain ⟨rfl, h⟩ := cut_itoa hc
  rw [filter_all (dec_all _), dv_dec, h, hm]

theorem pi_spec_many {l : List UInt8} (i : Nat) (h : 9 < ((l.take i).filter isD).length) : PiOk l 0 false := by
  refine .inr ⟨rfl, rfl, fun m h1 h2 hm => ?_⟩
  have hs := short_of h1 h2
  have hle : ((l.take i).filter isD).length ≤ (l.filter isD).length := ((List.take_sublist i l).filter isD).length_le
  have e : (l.filter isD).length ≤ 9 := by
    rw [← hm]
    by_cases hn : m < 0
    · rw [show Lib.itoa m = 45 :: Lib.decDigits m.natAbs by unfold Lib.itoa; rw [if_pos hn], List.filter_cons_of_neg (by decide), filter_all (dec_all _)]
      exact hs
    · rw [show Lib.itoa m = Lib.decDigits m.natAbs by unfold Lib.itoa; rw [if_neg hn]; congr 1; omega, filter_all (dec_all _)]
      exact hs
  omega

theorem pi_spec_long {l : List UInt8} (h : 10 < l.length) : PiOk l 0 false := by
  refine .inr ⟨rfl, rfl, fun m h1 h2 hm => ?_⟩
  have hs := short_of h1 h2
  rw [← hm] at h
  by_cases hn : m < 0
  · rw [show Lib.itoa m = 45 :: Lib.decDigits m.natAbs by unfold Lib.itoa; rw [if_pos hn], List.length_cons] at h
    omega
  · rw [show Lib.itoa m = Lib.decDigits m.natAbs by unfold Lib.itoa; rw [if_neg hn]; congr 1; omega] at h
    omega

end Go.Proofs.YtpmfabpnjacegaaGreatDoor

/-
  Normalization: plain facts without the program. By an AI agent.
-/
namespace Go.Proofs.YtpmfabpnjacegaaGreatDoor

def isTextB (l : List UInt8) : Bool := decide (l.length ≤ 40 ∧ ∀ c ∈ l, 32 ≤ c.toNat ∧ c.toNat ≤ 126)

theorem text_long {l : List UInt8} (h : 40 < l.length) : isTextB l = false := by
  unfold isTextB
  exact decide_eq_false (fun e => by omega)

theorem text_bad {l : List UInt8} {c : UInt8} (hc : c ∈ l) (h : c.toNat < 32 ∨ 126 < c.toNat) : isTextB l = false := by
  unfold isTextB
  refine decide_eq_false (fun e => ?_)
  have := e.2 c hc
  omega

theorem text_ok {l : List UInt8} (h1 : l.length ≤ 40) (h2 : ∀ c ∈ l, 32 ≤ c.toNat ∧ c.toNat ≤ 126) : isTextB l = true := by
  unfold isTextB
  exact decide_eq_true ⟨h1, h2⟩

/-- A to Z by a to z -/
def foldB (c : UInt8) : UInt8 := if 65 ≤ c.toNat ∧ c.toNat ≤ 90 then UInt8.ofNat (c.toNat + 32) else c
def foldL (l : List UInt8) : List UInt8 := l.map foldB

theorem foldB_yes {c : UInt8} (h1 : 65 ≤ c.toNat) (h2 : c.toNat ≤ 90) : foldB c = UInt8.ofNat (c.toNat + 32) := by unfold foldB; rw [if_pos ⟨h1, h2⟩]
theorem foldB_no {c : UInt8} (h : ¬ (65 ≤ c.toNat ∧ c.toNat ≤ 90)) : foldB c = c := by unfold foldB; rw [if_neg h]
theorem foldL_snoc (l : List UInt8) (c : UInt8) : foldL (l ++ [c]) = foldL l ++ [foldB c] := by simp [foldL]
theorem foldL_length (l : List UInt8) : (foldL l).length = l.length := by simp [foldL]

/-- a letter or a digit -/
def isWordI (x : Int) : Bool := decide ((97 ≤ x ∧ x ≤ 122) ∨ (65 ≤ x ∧ x ≤ 90) ∨ (48 ≤ x ∧ x ≤ 57))

theorem wordI_yes {x : Int} (h : (97 ≤ x ∧ x ≤ 122) ∨ (65 ≤ x ∧ x ≤ 90) ∨ (48 ≤ x ∧ x ≤ 57)) : isWordI x = true := decide_eq_true h
theorem wordI_no {x : Int} (h : ¬ ((97 ≤ x ∧ x ≤ 122) ∨ (65 ≤ x ∧ x ≤ 90) ∨ (48 ≤ x ∧ x ≤ 57))) : isWordI x = false := decide_eq_false h
theorem of_wordI {x : Int} (h : isWordI x = true) : (97 ≤ x ∧ x ≤ 122) ∨ (65 ≤ x ∧ x ≤ 90) ∨ (48 ≤ x ∧ x ≤ 57) := of_decide_eq_true h
theorem of_not_wordI {x : Int} (h : isWordI x = false) : ¬ ((97 ≤ x ∧ x ≤ 122) ∨ (65 ≤ x ∧ x ≤ 90) ∨ (48 ≤ x ∧ x ≤ 57)) := of_decide_eq_false h

/-- no apostrophe; any other byte that is neither a letter nor a digit by a space -/
def stripB (c : UInt8) : List UInt8 := if isWordI c.toNat = true then [c] else if c.toNat = 39 then [] else [32]
def stripL (l : List UInt8) : List UInt8 := l.flatMap stripB

theorem stripB_word {c : UInt8} (h : isWordI c.toNat = true) : stripB c = [c] := by unfold stripB; rw [if_pos h]
theorem stripB_mark {c : UInt8} (h : c.toNat = 39) : stripB c = [] := by
  unfold stripB
  rw [if_neg (by rw [h]; decide), if_pos h]
theorem stripB_other {c : UInt8} (h : isWordI c.toNat = false) (h1 : c.toNat ≠ 39) : stripB c = [32] := by
  unfold stripB
  rw [if_neg (by rw [h]; decide), if_neg h1]
theorem stripL_snoc (l : List UInt8) (c : UInt8) : stripL (l ++ [c]) = stripL l ++ stripB c := by simp [stripL]
theorem stripB_length (c : UInt8) : (stripB c).length ≤ 1 := by unfold stripB; split <;> (try split) <;> simp
theorem stripL_length (l : List UInt8) : (stripL l).length ≤ l.length := by
  induction l with
  | nil => simp [stripL]
  | cons c l ih =>
    have h1 := stripB_length c
    have e : stripL (c :: l) = stripB c ++ stripL l := by simp [stripL]
    rw [e, List.length_append, List.length_cons]
    omega

/-- one byte more, what is written and whether the byte before was a space -/
def cStep (p : List UInt8 × Bool) (c : UInt8) : List UInt8 × Bool :=
  if c = 32 then (p.1, true) else ((if p.1 ≠ [] ∧ p.2 = true then p.1 ++ [32] else p.1) ++ [c], false)
def collS (l : List UInt8) : List UInt8 × Bool := l.foldl cStep ([], false)
def collL (l : List UInt8) : List UInt8 := (collS l).1

theorem collS_snoc (l : List UInt8) (c : UInt8) : collS (l ++ [c]) = cStep (collS l) c := by simp [collS]
theorem collS_snd (l : List UInt8) : (collS l).2 = (l.getLast? == some 32) := by
  rcases List.eq_nil_or_concat l with rfl | ⟨r, c, rfl⟩
  · rfl
  · rw [List.concat_eq_append, collS_snoc, List.getLast?_append]
    unfold cStep
    by_cases h : c = 32
    · simp [h]
    · simp [h]

theorem collL_space (l : List UInt8) : collL (l ++ [32]) = collL l := by
  unfold collL; rw [collS_snoc]; rfl

theorem collL_join {l : List UInt8} {c : UInt8} (hc : c ≠ 32) (h1 : collL l ≠ []) (h2 : l.getLast? = some 32) : collL (l ++ [c]) = (collL l ++ [32]) ++ [c] := by
  have h3 : (collS l).2 = true := by rw [collS_snd, h2]; rfl
  unfold collL at h1 ⊢
  rw [collS_snoc]
  unfold cStep
  rw [if_neg hc, if_pos ⟨h1, h3⟩]

theorem collL_first {l : List UInt8} {c : UInt8} (hc : c ≠ 32) (h : collL l = []) : collL (l ++ [c]) = [] ++ [c] := by
  unfold collL at h ⊢
  rw [collS_snoc]
  unfold cStep
  rw [if_neg hc, if_neg (fun e => e.1 h), h]

theorem collL_next {l : List UInt8} {c : UInt8} (hc : c ≠ 32) (h : l.getLast? ≠ some 32) : collL (l ++ [c]) = collL l ++ [c] := by
  have h3 : (collS l).2 = false := by rw [collS_snd]; simpa using h
  unfold collL
  rw [collS_snoc]
  unfold cStep
  rw [if_neg hc, if_neg (fun e => by rw [h3] at e; exact absurd e.2 (by decide))]

theorem snoc_ind {α : Type} {P : List α → Prop} (h0 : P []) (h1 : ∀ l c, P l → P (l ++ [c])) (l : List α) : P l := by
  have h : ∀ l : List α, P l.reverse := by
    intro l
    induction l with
    | nil => exact h0
    | cons c l ih => rw [List.reverse_cons]; exact h1 _ _ ih
  simpa using h l.reverse

theorem collL_length (l : List UInt8) : (collL l).length ≤ 2 * l.length := by
  induction l using snoc_ind with
  | h0 => simp [collL, collS]
  | h1 l c ih =>
    by_cases hc : c = 32
    · subst hc; rw [collL_space]; simp; omega
    · unfold collL at ih ⊢
      rw [collS_snoc]
      unfold cStep
      rw [if_neg hc]
      simp only [List.length_append, List.length_cons, List.length_nil]
      split <;> (try simp only [List.length_append, List.length_cons, List.length_nil]) <;> omega

def normL (l : List UInt8) : List UInt8 := collL (stripL (foldL l))

theorem norm_len (l : List UInt8) : (normL l).length ≤ 2 * l.length := by
  have h1 := collL_length (stripL (foldL l))
  have h2 := stripL_length (foldL l)
  rw [foldL_length] at h2
  unfold normL
  omega

end Go.Proofs.YtpmfabpnjacegaaGreatDoor

/-
  Words and their first bytes: plain facts without the program. By an AI agent.
-/
namespace Go.Proofs.YtpmfabpnjacegaaGreatDoor

/-- one byte more: the words that have ended and the one under way -/
def wStep (p : List (List UInt8) × List UInt8) (c : UInt8) : List (List UInt8) × List UInt8 :=
  if c = 32 then (if p.2 = [] then p else (p.1 ++ [p.2], [])) else (p.1, p.2 ++ [c])
def wS (l : List UInt8) : List (List UInt8) × List UInt8 := l.foldl wStep ([], [])
def wordsL (l : List UInt8) : List (List UInt8) := if (wS l).2 = [] then (wS l).1 else (wS l).1 ++ [(wS l).2]

theorem wS_snoc (l : List UInt8) (c : UInt8) : wS (l ++ [c]) = wStep (wS l) c := by simp [wS]

/-- the bytes behind a space, and the first one -/
def iStep (p : List UInt8 × Bool) (c : UInt8) : List UInt8 × Bool := (if p.2 = true then p.1 ++ [c] else p.1, c == 32)
def iS (l : List UInt8) : List UInt8 × Bool := l.foldl iStep ([], true)
theorem iS_snoc (l : List UInt8) (c : UInt8) : iS (l ++ [c]) = iStep (iS l) c := by simp [iS]

/-- no space at the head, no two spaces in a row -/
def Good (l : List UInt8) : Prop := ∀ k : Nat, l[k]? = some 32 → 0 < k ∧ l[k - 1]? ≠ some 32

theorem Good.snoc {l : List UInt8} {c : UInt8} (h : Good (l ++ [c])) : Good l := by
  intro k hk
  have hlt : k < l.length := (List.getElem?_eq_some_iff.1 hk).1
  have := h k (by rw [List.getElem?_append_left hlt]; exact hk)
  refine ⟨this.1, ?_⟩
  have h2 := this.2
  rw [List.getElem?_append_left (by omega)] at h2
  exact h2

theorem Good.nil : Good [] := by intro k hk; simp at hk

theorem Good.add {l : List UInt8} {c : UInt8} (h : Good l) (hc : c = 32 → l ≠ [] ∧ l.getLast? ≠ some 32) : Good (l ++ [c]) := by
  intro k hk
  have hlt : k < (l ++ [c]).length := (List.getElem?_eq_some_iff.1 hk).1
  rw [List.length_append, List.length_singleton] at hlt
  rcases Nat.lt_or_ge k l.length with h1 | h1
  · rw [List.getElem?_append_left h1] at hk
    have := h k hk
    exact ⟨this.1, by rw [List.getElem?_append_left (by omega)]; exact this.2⟩
  · obtain rfl : k = l.length := by omega
    simp at hk
    obtain ⟨h2, h3⟩ := hc hk
    have h4 : 0 < l.length := List.length_pos_iff.2 h2
    refine ⟨h4, ?_⟩
    rw [List.getElem?_append_left (by omega), ← List.getLast?_eq_getElem?]
    exact h3

/-- what is collapsed ends with no space -/
theorem coll_last (l : List UInt8) : (collL l).getLast? ≠ some 32 := by
  induction l using snoc_ind with
  | h0 => simp [collL, collS]
  | h1 l c ih =>
    by_cases hc : c = 32
    · subst hc; rw [collL_space]; exact ih
    · unfold collL at ih ⊢
      rw [collS_snoc]
      unfold cStep
      rw [if_neg hc]
      simp [List.getLast?_append, hc]

theorem coll_good (l : List UInt8) : Good (collL l) := by
  induction l using snoc_ind with
  | h0 => simpa [collL, collS] using Good.nil
  | h1 l c ih =>
    by_cases hc : c = 32
    · subst hc; rw [collL_space]; exact ih
    · have hl := coll_last l
      unfold collL at ih hl ⊢
      rw [collS_snoc]
      unfold cStep
      rw [if_neg hc]
      refine Good.add ?_ (fun e => absurd e hc)
      split
      · rename_i h
        exact Good.add ih (fun _ => ⟨h.1, hl⟩)
      · exact ih

theorem norm_good (l : List UInt8) : Good (normL l) := coll_good _

/-- every byte is a letter, a digit or a space -/
def AllWS (l : List UInt8) : Prop := ∀ c ∈ l, isWordI c.toNat = true ∨ c = 32

theorem strip_ws (l : List UInt8) : AllWS (stripL l) := by
  intro c hc
  unfold stripL at hc
  rw [List.mem_flatMap] at hc
  obtain ⟨x, _, hx⟩ := hc
  unfold stripB at hx
  split at hx
  · rename_i h
    simp at hx
    subst hx
    exact .inl h
  · split at hx
    · simp at hx
    · simp at hx
      exact .inr hx

theorem coll_mem {l : List UInt8} {c : UInt8} (h : c ∈ collL l) : c ∈ l ∨ c = 32 := by
  induction l using snoc_ind with
  | h0 => simp [collL, collS] at h
  | h1 l x ih =>
    by_cases hx : x = 32
    · subst hx
      rw [collL_space] at h
      rcases ih h with h | h
      · exact .inl (by simp [h])
      · exact .inr h
    · unfold collL at h ih
      rw [collS_snoc] at h
      unfold cStep at h
      rw [if_neg hx] at h
      simp only [List.mem_append, List.mem_singleton] at h
      rcases h with h | h
      · split at h
        · simp only [List.mem_append, List.mem_singleton] at h
          rcases h with h | h
          · rcases ih h with h | h
            · exact .inl (by simp [h])
            · exact .inr h
          · exact .inr h
        · rcases ih h with h | h
          · exact .inl (by simp [h])
          · exact .inr h
      · exact .inl (by simp [h])

theorem norm_ws (l : List UInt8) : AllWS (normL l) := by
  intro c hc
  rcases coll_mem hc with h | h
  · exact strip_ws _ c h
  · exact .inr h

/-- the first byte of each word -/
def headsL (ws : List (List UInt8)) : List UInt8 := ws.filterMap List.head?

theorem heads_snoc (ws : List (List UInt8)) (c : UInt8) (r : List UInt8) : headsL (ws ++ [c :: r]) = headsL ws ++ [c] := by simp [headsL]

theorem last_snd (l : List UInt8) : (iS l).2 = (decide (l = []) || (l.getLast? == some 32)) := by
  rcases List.eq_nil_or_concat l with rfl | ⟨r, c, rfl⟩
  · rfl
  · rw [List.concat_eq_append, iS_snoc, List.getLast?_append]
    unfold iStep
    simp

theorem words_inv (l : List UInt8) (h : Good l) : (iS l).1 = headsL (wordsL l) ∧ (iS l).2 = decide ((wS l).2 = []) := by
  induction l using snoc_ind with
  | h0 => simp [iS, wS, wordsL, headsL]
  | h1 l c ih =>
    obtain ⟨h1, h2⟩ := ih h.snoc
    have hp := last_snd l
    by_cases hc : c = 32
    · subst hc
      have hg := h l.length (by simp)
      have hp2 : (iS l).2 = false := by
        rw [hp]
        have h4 : l ≠ [] := List.length_pos_iff.1 hg.1
        have h5 := hg.2
        rw [List.getElem?_append_left (by omega), ← List.getLast?_eq_getElem?] at h5
        simp [h4, h5]
      have hw : (wS l).2 ≠ [] := by
        intro e
        rw [h2] at hp2
        simp [e] at hp2
      unfold wordsL at h1 ⊢
      rw [iS_snoc, wS_snoc]
      unfold iStep wStep
      rw [if_neg hw] at h1
      simp [hp2, hw, h1]
    · unfold wordsL at h1 ⊢
      rw [iS_snoc, wS_snoc]
      unfold iStep wStep
      rw [if_neg hc]
      simp only [List.append_ne_nil_of_right_ne_nil _ (List.cons_ne_nil c []), if_false, decide_false]
      refine ⟨?_, by simp [hc]⟩
      by_cases hw : (wS l).2 = []
      · rw [h2, hw]
        rw [if_pos hw] at h1
        simp only [List.nil_append, heads_snoc, decide_true, if_true]
        rw [h1]
      · rw [h2]
        rw [if_neg hw] at h1
        obtain ⟨x, r, hx⟩ := List.exists_cons_of_ne_nil hw
        rw [hx] at h1 ⊢
        rw [heads_snoc] at h1
        rw [List.cons_append, heads_snoc]
        simpa using h1

theorem initials_same (l : List UInt8) (h : Good l) : (iS l).1 = headsL (wordsL l) := (words_inv l h).1

end Go.Proofs.YtpmfabpnjacegaaGreatDoor

/-
  Tokens and grams: plain facts without the program. By an AI agent.
-/
namespace Go.Proofs.YtpmfabpnjacegaaGreatDoor
open Go

/-- a text cut at a byte: the parts that have ended and the one under way -/
def kStep (sep : UInt8) (p : List Str × Str) (c : UInt8) : List Str × Str := if c = sep then (p.1 ++ [p.2], []) else (p.1, p.2 ++ [c])
def kS (sep : UInt8) (l : Str) : List Str × Str := l.foldl (kStep sep) ([], [])
def cutL (sep : UInt8) (l : Str) : List Str := (kS sep l).1 ++ [(kS sep l).2]
theorem kS_snoc (sep : UInt8) (l : Str) (c : UInt8) : kS sep (l ++ [c]) = kStep sep (kS sep l) c := by simp [kS]
theorem kS_len (sep : UInt8) (l : Str) : (kS sep l).1.length ≤ l.length := by
  induction l using snoc_ind with
  | h0 => simp [kS]
  | h1 l c ih =>
    rw [kS_snoc]
    unfold kStep
    split <;> simp <;> omega
theorem kS_at (sep : UInt8) (l : Str) (c : UInt8) (h : c = sep) : kS sep (l ++ [c]) = ((kS sep l).1 ++ [(kS sep l).2], []) := by
  rw [kS_snoc]; unfold kStep; rw [if_pos h]
theorem kS_off (sep : UInt8) (l : Str) (c : UInt8) (h : c ≠ sep) : kS sep (l ++ [c]) = ((kS sep l).1, (kS sep l).2 ++ [c]) := by
  rw [kS_snoc]; unfold kStep; rw [if_neg h]

def ne0 (x : Str) : Bool := !x.isEmpty
theorem ne0_yes {x : Str} (h : x ≠ []) : ne0 x = true := by cases x <;> simp_all [ne0]
theorem ne0_nil : ne0 [] = false := rfl

theorem cut_words_inv (l : Str) : (kS 32 l).1.filter ne0 = (wS l).1 ∧ (kS 32 l).2 = (wS l).2 := by
  induction l using snoc_ind with
  | h0 => simp [kS, wS]
  | h1 l c ih =>
    obtain ⟨h1, h2⟩ := ih
    rw [kS_snoc, wS_snoc]
    unfold kStep wStep
    by_cases hc : c = 32
    · rw [if_pos hc, if_pos hc]
      by_cases he : (wS l).2 = []
      · rw [if_pos he]
        refine ⟨?_, by simp [he]⟩
        rw [List.filter_append, h1, h2, he]
        simp [ne0_nil]
      · rw [if_neg he]
        refine ⟨?_, rfl⟩
        rw [List.filter_append, h1, h2]
        simp [ne0_yes he]
    · rw [if_neg hc, if_neg hc]
      exact ⟨h1, by rw [h2]⟩

theorem cut_words (l : Str) : (cutL 32 l).filter ne0 = wordsL l := by
  obtain ⟨h1, h2⟩ := cut_words_inv l
  unfold cutL wordsL
  rw [List.filter_append, h1, h2]
  by_cases he : (wS l).2 = []
  · rw [if_pos he, he]; simp [ne0_nil]
  · rw [if_neg he]; simp [ne0_yes he]

theorem words_len (l : Str) : (wordsL l).length ≤ l.length + 1 := by
  have h1 := congrArg List.length (cut_words l)
  have h2 := List.length_filter_le ne0 (cutL 32 l)
  have h3 := kS_len 32 l
  unfold cutL at h2
  unfold cutL at h1
  simp only [List.length_append, List.length_singleton] at h2
  omega

/-- all bytes of the words are bytes of the text, and no spaces -/
theorem wS_bytes (l : Str) : (∀ x ∈ (wS l).1, x ≠ [] ∧ ∀ c ∈ x, c ∈ l ∧ c ≠ 32) ∧ (∀ c ∈ (wS l).2, c ∈ l ∧ c ≠ 32) := by
  induction l using snoc_ind with
  | h0 => simp [wS]
  | h1 l c ih =>
    obtain ⟨h1, h2⟩ := ih
    have m1 : ∀ x ∈ (wS l).1, x ≠ [] ∧ ∀ d ∈ x, d ∈ l ++ [c] ∧ d ≠ 32 := fun x hx => ⟨(h1 x hx).1, fun d hd => ⟨by simp [((h1 x hx).2 d hd).1], ((h1 x hx).2 d hd).2⟩⟩
    have m2 : ∀ d ∈ (wS l).2, d ∈ l ++ [c] ∧ d ≠ 32 := fun d hd => ⟨by simp [(h2 d hd).1], (h2 d hd).2⟩
    rw [wS_snoc]
    unfold wStep
    by_cases hc : c = 32
    · rw [if_pos hc]
      by_cases he : (wS l).2 = []
      · rw [if_pos he]; exact ⟨m1, m2⟩
      · rw [if_neg he]
        refine ⟨fun x hx => ?_, fun d hd => by cases hd⟩
        rcases List.mem_append.1 hx with hx | hx
        · exact m1 x hx
        · simp at hx; subst hx; exact ⟨he, m2⟩
    · rw [if_neg hc]
      refine ⟨m1, fun d hd => ?_⟩
      rcases List.mem_append.1 hd with hd | hd
      · exact m2 d hd
      · simp at hd; subst hd; exact ⟨by simp, hc⟩

theorem words_bytes (l : Str) : ∀ x ∈ wordsL l, x ≠ [] ∧ ∀ c ∈ x, c ∈ l ∧ c ≠ 32 := by
  obtain ⟨h1, h2⟩ := wS_bytes l
  intro x hx
  unfold wordsL at hx
  by_cases he : (wS l).2 = []
  · rw [if_pos he] at hx; exact h1 x hx
  · rw [if_neg he] at hx
    rcases List.mem_append.1 hx with hx | hx
    · exact h1 x hx
    · simp at hx; subst hx; exact ⟨he, h2⟩

theorem wS_short (l : Str) : (∀ x ∈ (wS l).1, x.length ≤ l.length) ∧ (wS l).2.length ≤ l.length := by
  induction l using snoc_ind with
  | h0 => simp [wS]
  | h1 l c ih =>
    obtain ⟨h1, h2⟩ := ih
    rw [wS_snoc]
    unfold wStep
    have hl : (l ++ [c]).length = l.length + 1 := by simp
    rw [hl]
    split
    · split
      · exact ⟨fun x hx => by have := h1 x hx; omega, by omega⟩
      · refine ⟨fun x hx => ?_, by simp⟩
        rcases List.mem_append.1 hx with hx | hx
        · have := h1 x hx; omega
        · simp at hx; subst hx; omega
    · refine ⟨fun x hx => by have := h1 x hx; omega, ?_⟩
      simp
      omega
theorem words_short (l : Str) : ∀ x ∈ wordsL l, x.length ≤ l.length := by
  obtain ⟨h1, h2⟩ := wS_short l
  intro x hx
  unfold wordsL at hx
  split at hx
  · exact h1 x hx
  · rcases List.mem_append.1 hx with hx | hx
    · exact h1 x hx
    · simp at hx; subst hx; exact h2

/-- the tokens of a text -/
def toksL (s : Str) : List Str := setL (wordsL (normL s))

/-- all parts of q bytes -/
def gramsL (s : Str) (q : Nat) : List Str := (List.range (s.length + 1 - q)).map fun i => (s.drop i).take q
theorem grams_len (s : Str) (q : Nat) : (gramsL s q).length = s.length + 1 - q := by simp [gramsL]
theorem grams_take (s : Str) (q k : Nat) (h : k + q ≤ s.length) : (gramsL s q).take (k + 1) = (gramsL s q).take k ++ [(s.drop k).take q] := by
  have hlt : k < (gramsL s q).length := by rw [grams_len]; omega
  rw [List.take_succ_eq_append_getElem hlt]
  simp [gramsL]
theorem grams_all (s : Str) (q k : Nat) (h : s.length + 1 - q ≤ k) : (gramsL s q).take k = gramsL s q := List.take_of_length_le (by rw [grams_len]; exact h)

/-- a letter a to z or a digit -/
def lowB (c : UInt8) : Bool := isWordI c.toNat && !(decide (65 ≤ c.toNat ∧ c.toNat ≤ 90))
def tokB (x : Str) : Bool := ne0 x && x.all lowB

theorem lowB_fold {c : UInt8} (h : isWordI c.toNat = true) : lowB c = true ↔ foldB c = c := by
  unfold lowB
  rw [h]
  by_cases hu : 65 ≤ c.toNat ∧ c.toNat ≤ 90
  · rw [foldB_yes hu.1 hu.2]
    simp only [hu, and_self, decide_true, Bool.not_true, Bool.and_false, Bool.false_eq_true, false_iff]
    intro e
    have := congrArg UInt8.toNat e
    rw [UInt8.toNat_ofNat'] at this
    omega
  · rw [foldB_no hu]
    simp [hu]

/-- every element is a token and greater than the one before it -/
def TokSet (l : List Str) : Prop := (∀ x ∈ l, tokB x = true) ∧ Asc l

theorem asc_snoc {l : List Str} {x : Str} : Asc (l ++ [x]) ↔ Asc l ∧ ∀ y, l.getLast? = some y → y < x := by
  unfold Asc
  rw [List.pairwise_append]
  constructor
  · rintro ⟨h1, -, h2⟩
    exact ⟨h1, fun y hy => h2 y (List.mem_of_getLast? hy) x (by simp)⟩
  · rintro ⟨h1, h2⟩
    refine ⟨h1, by simp, fun y hy z hz => ?_⟩
    simp at hz
    subst hz
    rcases List.eq_nil_or_concat l with rfl | ⟨r, c, rfl⟩
    · cases hy
    · rw [List.concat_eq_append] at *
      have hc := h2 c (by simp)
      rcases List.mem_append.1 hy with hy | hy
      · exact str_lt_trans ((List.pairwise_append.1 h1).2.2 y hy c (by simp)) hc
      · simp at hy; subst hy; exact hc

noncomputable def tsB (l : List Str) : Bool := @decide (TokSet l) (Classical.propDecidable _)
theorem tsB_yes {l : List Str} (h : TokSet l) : tsB l = true := by unfold tsB; exact (@decide_eq_true_iff _ (Classical.propDecidable _)).2 h
theorem tsB_no {l : List Str} (h : ¬ TokSet l) : tsB l = false := by unfold tsB; exact (@decide_eq_false_iff_not _ (Classical.propDecidable _)).2 h

theorem tok_step {l : List Str} {x : Str} (h : TokSet l) (hx : tokB x = true) (hl : ∀ y, l.getLast? = some y → y < x) : TokSet (l ++ [x]) :=
  ⟨fun y hy => by rcases List.mem_append.1 hy with hy | hy; exact h.1 y hy; simp at hy; subst hy; exact hx, asc_snoc.2 ⟨h.2, hl⟩⟩
theorem tok_bad {l : List Str} {x : Str} (hx : x ∈ l) (h : tokB x = false) : ¬ TokSet l := fun e => by rw [e.1 x hx] at h; cases h
theorem tok_order {l : List Str} {k : Nat} {x y : Str} (hy : l[k]? = some y) (hx : l[k + 1]? = some x) (h : ¬ y < x) : ¬ TokSet l := fun e => by
  obtain ⟨h1, e1⟩ := List.getElem?_eq_some_iff.1 hy
  obtain ⟨h2, e2⟩ := List.getElem?_eq_some_iff.1 hx
  have := List.pairwise_iff_getElem.1 e.2 k (k + 1) h1 h2 (by omega)
  rw [e1, e2] at this
  exact h this

theorem fold_low (c : UInt8) : ¬ (65 ≤ (foldB c).toNat ∧ (foldB c).toNat ≤ 90) := by
  by_cases h : 65 ≤ c.toNat ∧ c.toNat ≤ 90
  · rw [foldB_yes h.1 h.2, UInt8.toNat_ofNat']
    omega
  · rw [foldB_no h]; exact h

/-- no upper-case letter -/
def NoUp (l : Str) : Prop := ∀ c ∈ l, ¬ (65 ≤ c.toNat ∧ c.toNat ≤ 90)
theorem norm_noUp (s : Str) : NoUp (normL s) := by
  intro c hc
  rcases coll_mem hc with h | h
  · unfold stripL at h
    rw [List.mem_flatMap] at h
    obtain ⟨x, hx, hcx⟩ := h
    unfold foldL at hx
    rw [List.mem_map] at hx
    obtain ⟨y, _, rfl⟩ := hx
    unfold stripB at hcx
    split at hcx
    · simp at hcx; subst hcx; exact fold_low y
    · split at hcx
      · simp at hcx
      · simp at hcx; subst hcx; decide
  · subst h; decide

theorem toks_tok (s : Str) : TokSet (toksL s) := by
  refine ⟨fun x hx => ?_, setL_asc _⟩
  unfold toksL at hx
  rw [setL_mem] at hx
  obtain ⟨h1, h2⟩ := words_bytes _ x hx
  unfold tokB
  rw [ne0_yes h1, Bool.true_and, List.all_eq_true]
  intro c hc
  obtain ⟨h3, h4⟩ := h2 c hc
  have h5 : isWordI c.toNat = true := by
    rcases norm_ws s c h3 with h | h
    · exact h
    · exact absurd h h4
  unfold lowB
  rw [h5]
  have := norm_noUp s c h3
  simp [this]

end Go.Proofs.YtpmfabpnjacegaaGreatDoor

