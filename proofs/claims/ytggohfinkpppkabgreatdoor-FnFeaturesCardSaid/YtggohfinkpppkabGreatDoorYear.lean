/-
  What ParseYear answers, on both sides; the walk of laws.FnExactParseYear. By an AI agent.
-/
import Derived.Test.YtggohfinkpppkabGreatDoorParseInt
import Derived.Test.YtggohfinkpppkabGreatDoorGMem
namespace Go.Proofs.YtggohfinkpppkabGreatDoor
open Go.RowKit
set_option linter.unusedVariables false

/-- the year that is read from l -/
def YrOk (l : List UInt8) (y : Int) : Prop := ∃ (n : Int) (ok : Bool), PiOk l n ok ∧ y = if ok = true ∧ (1000 ≤ n ∧ n ≤ 9999) then n else 0
theorem YrOk.same {l : List UInt8} {y z : Int} (h : YrOk l y) (h' : YrOk l z) : y = z := by
  obtain ⟨n, ok, h1, rfl⟩ := h
  obtain ⟨n', ok', h2, rfl⟩ := h'
  obtain ⟨rfl, rfl⟩ := h1.same h2
  rfl
open Classical in
noncomputable def yrR (l : List UInt8) : Int := if h : ∃ y, YrOk l y then h.choose else 0
theorem yrR_of {l : List UInt8} {y : Int} (h : YrOk l y) : yrR l = y := by
  have h1 : ∃ y, YrOk l y := ⟨y, h⟩
  unfold yrR
  rw [dif_pos h1]
  exact h1.choose_spec.same h
theorem yr_no {l : List UInt8} {n r : Int} (h : PiOk l n false) (hr : yrR l = r) : 0 = r := by
  rw [← hr, yrR_of ⟨n, false, h, by rw [if_neg (fun e => by cases e.1)]⟩]
theorem yr_bad {l : List UInt8} {n r : Int} (h : PiOk l n true) (hr : yrR l = r) (hn : ¬ (1000 ≤ n ∧ n ≤ 9999)) : 0 = r := by
  rw [← hr, yrR_of ⟨n, true, h, by rw [if_neg (fun e => hn e.2)]⟩]
theorem yr_yes {l : List UInt8} {n r : Int} (h : PiOk l n true) (hr : yrR l = r) (hn : 1000 ≤ n ∧ n ≤ 9999) : n = r := by
  rw [← hr, yrR_of ⟨n, true, h, by rw [if_pos ⟨rfl, hn⟩]⟩]

theorem yl1In (x a b : Int) (r : Bool) (w : World) (h : decide (a ≤ x ∧ x ≤ b) = r) :
    Calls Tryz.prog 32 #[.int .i64 x, .int .i64 a, .int .i64 b] w fun e w' => e = .returned (.bool r) ∧ w' = w := by
  cases r with
  | true =>
    have h1 := of_decide_eq_true h
    exact (l1In_yes x a b w h1.1 h1.2).mono fun e w' k => ⟨k.1, k.2.symm⟩
  | false => exact (l1In_no x a b w (of_decide_eq_false h)).mono fun e w' k => ⟨k.1, k.2.symm⟩

set_option maxRecDepth 100000 in
set_option maxHeartbeats 400000 in
theorem yr_spec (s : ByteArray) (r : Int) (w : World) (hs : s.size ≤ 1048576) (hr : yrR s.data.toList = r) :
    Calls Tryz.prog 12 #[.string s] w fun e w' => e = .returned (.int .i64 r) ∧ Below w.heap.size w w' := by
  have HS := Lib.hid hs
  have HR := Lib.hid hr
  clear hs hr
  go_enter Tryz.func12, Tryz.ntmps12
  go_wp2_with (go_at_call 36; ((with_reducible refine (spec_pi s _ HS.out).mono ?_); rintro e w1 ⟨n, ok, rfl, hpi, hb⟩; refine Hid.out ?_))
  refine Lib.hid ?_
  have HB := Lib.hid hb
  have HPI := Lib.hid hpi
  clear hb hpi
  cases ok
  · go_wp2
    go_ret
    exact ⟨iret_int (yr_no HPI.out HR.out), HB.out⟩
  · obtain ⟨b, hb⟩ : ∃ b, decide (1000 ≤ n ∧ n ≤ 9999) = b := ⟨_, rfl⟩
    have HD := Lib.hid hb
    clear hb
    cases b
    all_goals
      go_wp2_with (go_at_call 32; ((with_reducible refine (yl1In _ _ _ _ _ HD.out).mono ?_); rintro e w' ⟨rfl, rfl⟩))
      go_ret
    · exact ⟨iret_int (yr_bad HPI.out HR.out (of_decide_eq_false HD.out)), HB.out⟩
    · exact ⟨iret_int (yr_yes HPI.out HR.out (of_decide_eq_true HD.out)), HB.out⟩

theorem year_one (n : Int) : withinB 1000 9999 [n] = decide (1000 ≤ n ∧ n ≤ 9999) := by
  unfold withinB
  by_cases h1 : 1000 ≤ n <;> by_cases h2 : n ≤ 9999 <;> simp [h1, h2]
theorem year_within (n : Int) (r : Bool) (w : World) (h : decide (1000 ≤ n ∧ n ≤ 9999) = r) : Calls Tryz.prog 37 #[.int .i64 1000, .int .i64 9999, .slice (some ⟨w.heap.size, 0, none⟩) 1 1] (w.alloc (.cells #[.int .i64 n] 3)) fun e w' => e = .returned (.bool r) ∧ w' = w.alloc (.cells #[.int .i64 n] 3) :=
  within_is 1000 9999 _ 1 [n] r _ (by simp) (InI.new w [n]) ((year_one n).trans h)

set_option maxRecDepth 100000 in
set_option maxHeartbeats 400000 in
theorem yr_impl (s : ByteArray) (r : Int) (w : World) (hs : s.size ≤ 1048576) (ht : TabAt w) (hr : yrR s.data.toList = r) :
    Calls Tryz.prog 79 #[.string s] w fun e w' => e = .returned (.int .i64 r) ∧ Below w.heap.size w w' := by
  have HS := Lib.hid hs
  have HT := Lib.hid ht
  have HR := Lib.hid hr
  clear hs ht hr
  go_enter Tryz.func79, Tryz.ntmps79
  go_wp2_with (go_at_call 103; ((with_reducible refine (impl_pi s _ HS.out HT.out).mono ?_); rintro e w1 ⟨n, ok, rfl, hpi, hb⟩; refine Hid.out ?_))
  refine Lib.hid ?_
  have HB := Lib.hid hb
  have HPI := Lib.hid hpi
  clear hb hpi
  cases ok
  · go_wp2
    go_ret
    exact ⟨iret_int (yr_no HPI.out HR.out), HB.out⟩
  · obtain ⟨b, hb⟩ : ∃ b, decide (1000 ≤ n ∧ n ≤ 9999) = b := ⟨_, rfl⟩
    have HD := Lib.hid hb
    clear hb
    cases b
    all_goals
      go_wp2_with (go_at_call 37; ((with_reducible refine (year_within _ _ _ HD.out).mono ?_); rintro e w' ⟨rfl, rfl⟩))
      go_ret
    · exact ⟨iret_int (yr_bad HPI.out HR.out (of_decide_eq_false HD.out)), HB.out.trans (((Below.refl _ _).alloc (Nat.le_refl _) _).mono HB.out.size)⟩
    · exact ⟨iret_int (yr_yes HPI.out HR.out (of_decide_eq_true HD.out)), HB.out.trans (((Below.refl _ _).alloc (Nat.le_refl _) _).mono HB.out.size)⟩

end Go.Proofs.YtggohfinkpppkabGreatDoor
