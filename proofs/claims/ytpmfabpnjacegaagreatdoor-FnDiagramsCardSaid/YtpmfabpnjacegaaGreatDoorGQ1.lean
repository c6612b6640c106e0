/-
  Texts laid together: SpecIn, Ints, LIn, Feat, PlainRul, PlainMon. By an AI agent.
-/
import Derived.Test.YtpmfabpnjacegaaGreatDoorRows
import Derived.WalkKit
import Derived.WalkSpells
import Derived.WalkLawsBesides
import Derived.Lib.Hide
import Derived.Below
import Derived.BigQuiet
import Derived.Deep.QuietTactic
import Derived.Lib.SlicesCompact
import Derived.Lib.RowBridge
/-
  What spec.l1In answers. By an AI agent.
-/
namespace Go.Proofs.YtpmfabpnjacegaaGreatDoor
open Go.RowKit
set_option linter.unusedVariables false

theorem l1In_yes (x a b : Int) (w : World) (h1 : a ≤ x) (h2 : x ≤ b) :
    Calls Tryz.prog 45 #[.int .i64 x, .int .i64 a, .int .i64 b] w fun e w' => e = .returned (.bool true) ∧ w = w' := by
  go_enter Tryz.func45, Tryz.ntmps45
  go_wp2
  go_ret
  exact ⟨by first | rfl | simp, rfl⟩

theorem l1In_no (x a b : Int) (w : World) (h : ¬ (a ≤ x ∧ x ≤ b)) :
    Calls Tryz.prog 45 #[.int .i64 x, .int .i64 a, .int .i64 b] w fun e w' => e = .returned (.bool false) ∧ w = w' := by
  by_cases h1 : a ≤ x
  · have h2 : decide (x ≤ b) = false := by simp; omega
    clear h
    go_enter Tryz.func45, Tryz.ntmps45
    go_wp2
    go_ret
    exact ⟨rfl, rfl⟩
  · clear h
    go_enter Tryz.func45, Tryz.ntmps45
    go_wp2
    go_ret
    exact ⟨rfl, rfl⟩

end Go.Proofs.YtpmfabpnjacegaaGreatDoor

/-
  Slices of integers: one that reads as a list; what impl.allWithin answers. By an AI agent.
-/
namespace Go.Proofs.YtpmfabpnjacegaaGreatDoor
open Go.RowKit
set_option linter.unusedVariables false

/-- a slice whose elements are the integers of a list -/
def InI (w : World) (a : Option Addr) (l : List Int) : Prop :=
  0 < l.length → ∃ b off, a = some ⟨b, off, none⟩ ∧ b < w.heap.size ∧ ∀ j x, l[j]? = some x → w.cell? ⟨b, off + j, none⟩ = some (.int .i64 x)

theorem InI.keep {w w' : World} {a : Option Addr} {l : List Int} (h : InI w a l) (hs : w.heap.size ≤ w'.heap.size) (hk : ∀ b off, a = some ⟨b, off, none⟩ → b < w.heap.size → w'.heap[b]? = w.heap[b]?) : InI w' a l := by
  intro h0
  obtain ⟨b, off, ha, hb, hc⟩ := h h0
  exact ⟨b, off, ha, Nat.lt_of_lt_of_le hb hs, fun j x hj => (World.cell?_of_block (hk b off ha hb)).trans (hc j x hj)⟩
theorem InI.below {w w' : World} {a : Option Addr} {l : List Int} (h : InI w a l) (hb : Below w.heap.size w w') : InI w' a l :=
  h.keep hb.size fun b _ _ hlt => hb.block b hlt
theorem InI.alloc {w : World} {a : Option Addr} {l : List Int} (h : InI w a l) (o : Obj) : InI (w.alloc o) a l := h.below ((Below.refl _ _).alloc (Nat.le_refl _) o)
theorem InI.new (w : World) (l : List Int) : InI (w.alloc (.cells (l.map fun z => Value.int .i64 z).toArray 3)) (some ⟨w.heap.size, 0, none⟩) l := by
  intro h0
  refine ⟨w.heap.size, 0, rfl, by simp, fun j x hj => ?_⟩
  rw [World.cell?_alloc_at _ _ _ _ rfl]
  simp [hj]

/-- every number lies from lo to hi -/
def withinB (lo hi : Int) (l : List Int) : Bool := l.all fun x => decide (lo ≤ x) && decide (x ≤ hi)
theorem within_zero (lo hi : Int) (l : List Int) : withinB lo hi (l.take 0) = true := by simp [withinB]
theorem within_yes {lo hi x : Int} {l : List Int} {k : Nat} (h : withinB lo hi (l.take k) = true) (hx : l[k]? = some x) (h1 : lo ≤ x) (h2 : x ≤ hi) : withinB lo hi (l.take (k + 1)) = true := by
  obtain ⟨hlt, he⟩ := List.getElem?_eq_some_iff.1 hx
  rw [List.take_succ_eq_append_getElem hlt, he]
  unfold withinB at h ⊢
  rw [List.all_append, h]
  simp [h1, h2]
theorem within_no {lo hi x : Int} {l : List Int} (hx : x ∈ l) (h : ¬ (lo ≤ x ∧ x ≤ hi)) : withinB lo hi l = false := by
  rw [Bool.eq_false_iff]
  intro e
  have h1 := List.all_eq_true.1 e x hx
  simp at h1
  exact h h1
theorem within_mem {lo hi x : Int} {l : List Int} (h : withinB lo hi l = true) (hx : x ∈ l) : lo ≤ x ∧ x ≤ hi := by
  have h1 := List.all_eq_true.1 h x hx
  simpa using h1

theorem iret_bool {a b : Bool} (h : a = b) : Ending.returned (.bool a) = .returned (.bool b) := by rw [h]
theorem iret_int {k : IntKind} {a b : Int} (h : a = b) : Ending.returned (.int k a) = .returned (.int k b) := by rw [h]

set_option maxRecDepth 100000 in
theorem within_is (lo hi : Int) (a : Option Addr) (cap : Nat) (l : List Int) (r : Bool) (w : World) (hl : l.length ≤ 4000000) (hin : InI w a l) (hr : withinB lo hi l = r) :
    Calls Tryz.prog 56 #[.int .i64 lo, .int .i64 hi, .slice a l.length cap] w fun e w' => e = .returned (.bool r) ∧ w' = w := by
  have HR := Lib.hid hr
  have HIN := Lib.hid hin
  clear hr hin
  go_enter Tryz.func56, Tryz.ntmps56
  go_wp2
  go_loop [11] (fun i => ∃ k : Nat, k ≤ l.length ∧ i = .int .i64 k ∧ withinB lo hi (l.take k) = true) (fun i => l.length - (intOf i).toNat)
  case atStart => exact ⟨0, Nat.zero_le _, rfl, within_zero _ _ _⟩
  case round =>
    obtain ⟨k, hk, rfl, hw⟩ := hrel
    have HW := Lib.hid hw
    clear hw
    by_cases hlt : k < l.length
    · obtain ⟨b, off, rfl, hb, hc⟩ := HIN.out (by omega)
      obtain ⟨x, hx⟩ : ∃ x, l[k]? = some x := ⟨_, List.getElem?_eq_getElem hlt⟩
      have hcell : w.cell? ⟨b, off + k, none⟩ = some (.int .i64 x) := hc k x hx
      have HX := Lib.hid hx
      clear hc hx
      by_cases h1 : lo ≤ x
      · by_cases h2 : x ≤ hi
        · go_wp2
          go_round
          case rel => exact ⟨k + 1, by omega, by go_num, within_yes HW.out HX.out h1 h2⟩
          case measure => simp [intOf]; omega
        · go_wp2
          go_ret
          exact ⟨iret_bool (by rw [← HR.out, within_no (List.mem_of_getElem? HX.out) (fun e => by omega)]), rfl⟩
      · go_wp2
        go_ret
        exact ⟨iret_bool (by rw [← HR.out, within_no (List.mem_of_getElem? HX.out) (fun e => by omega)]), rfl⟩
    · obtain rfl : k = l.length := by omega
      go_wp2
      go_ret
      exact ⟨iret_bool (by have := HW.out; rw [List.take_length, HR.out] at this; exact this.symm), rfl⟩

end Go.Proofs.YtpmfabpnjacegaaGreatDoor

/-
  spec.l1In under a decided test. By an AI agent.
-/
namespace Go.Proofs.YtpmfabpnjacegaaGreatDoor
open Go.RowKit

theorem cl1In (x a b : Int) (r : Bool) (w : World) (h : decide (a ≤ x ∧ x ≤ b) = r) :
    Calls Tryz.prog 45 #[.int .i64 x, .int .i64 a, .int .i64 b] w fun e w' => e = .returned (.bool r) ∧ w' = w := by
  cases r with
  | true =>
    have h1 := of_decide_eq_true h
    exact (l1In_yes x a b w h1.1 h1.2).mono fun e w' k => ⟨k.1, k.2.symm⟩
  | false => exact (l1In_no x a b w (of_decide_eq_false h)).mono fun e w' k => ⟨k.1, k.2.symm⟩

end Go.Proofs.YtpmfabpnjacegaaGreatDoor

/-
  What IsFeatureVector and DominatesFeatures answer, on both sides, for lists of at most 4,000,000 integers. By an AI agent.
-/
namespace Go.Proofs.YtpmfabpnjacegaaGreatDoor
open Go.RowKit
set_option linter.unusedVariables false

/-- a feature vector -/
def fvB (l : List Int) : Bool := decide (l.length = 6) && withinB 0 1000 l
theorem fv_bad {l : List Int} (h : withinB 0 1000 l = false) : fvB l = false := by unfold fvB; rw [h, Bool.and_false]
theorem fv_len {l : List Int} (h : l.length ≠ 6) : fvB l = false := by unfold fvB; rw [decide_eq_false h, Bool.false_and]
theorem fv_ok {l : List Int} (h : l.length = 6) (h2 : withinB 0 1000 l = true) : fvB l = true := by unfold fvB; rw [decide_eq_true h, h2]; rfl
theorem fv_of {l : List Int} (h : fvB l = true) : l.length = 6 ∧ withinB 0 1000 l = true := by
  unfold fvB at h
  simpa using h

set_option maxRecDepth 100000 in
theorem fv_spec (a : Option Addr) (cap : Nat) (l : List Int) (r : Bool) (w : World) (hl : l.length ≤ 4000000) (hin : InI w a l) (hr : fvB l = r) :
    Calls Tryz.prog 41 #[.slice a l.length cap] w fun e w' => e = .returned (.bool r) ∧ w = w' := by
  have HR := Lib.hid hr
  have HIN := Lib.hid hin
  clear hr hin
  go_enter Tryz.func41, Tryz.ntmps41
  go_wp2
  go_loop [3] (fun i => ∃ k : Nat, k ≤ l.length ∧ i = .int .i64 k ∧ withinB 0 1000 (l.take k) = true) (fun i => l.length - (intOf i).toNat)
  case atStart => exact ⟨0, Nat.zero_le _, rfl, within_zero _ _ _⟩
  case round =>
    obtain ⟨k, hk, rfl, hw⟩ := hrel
    have HW := Lib.hid hw
    clear hw
    by_cases hlt : k < l.length
    · obtain ⟨b, off, rfl, hb, hc⟩ := HIN.out (by omega)
      obtain ⟨x, hx⟩ : ∃ x, l[k]? = some x := ⟨_, List.getElem?_eq_getElem hlt⟩
      have hcell : w.cell? ⟨b, off + k, none⟩ = some (.int .i64 x) := hc k x hx
      have HX := Lib.hid hx
      clear hc hx
      obtain ⟨bx, hbx⟩ : ∃ b, decide (0 ≤ x ∧ x ≤ 1000) = b := ⟨_, rfl⟩
      have HBX := Lib.hid hbx
      cases bx
      · have HB := Lib.hid (of_decide_eq_false hbx)
        clear hbx
        go_wp2_with (go_at_call 45; ((with_reducible refine (cl1In _ _ _ _ _ HBX.out).mono ?_); rintro e w' ⟨rfl, rfl⟩))
        go_ret
        exact ⟨iret_bool (by rw [← HR.out, fv_bad (within_no (List.mem_of_getElem? HX.out) HB.out)]), rfl⟩
      · have HB := Lib.hid (of_decide_eq_true hbx)
        clear hbx
        go_wp2_with (go_at_call 45; ((with_reducible refine (cl1In _ _ _ _ _ HBX.out).mono ?_); rintro e w' ⟨rfl, rfl⟩))
        go_round
        case rel => exact ⟨k + 1, by omega, by go_num, within_yes HW.out HX.out HB.out.1 HB.out.2⟩
        case measure => simp [intOf]; omega
    · obtain rfl : k = l.length := by omega
      have HW2 := Lib.hid (show withinB 0 1000 l = true by have := HW.out; rwa [List.take_length] at this)
      by_cases h6 : l.length = 6
      · obtain rfl : r = true := by rw [← HR.out, fv_ok h6 HW2.out]
        have h6' : (l.length : Int) = 6 := by omega
        go_wp2
        go_ret
        exact ⟨by first | rfl | (simp [h6]), rfl⟩
      · obtain rfl : r = false := by rw [← HR.out, fv_len h6]
        have h6' : ((l.length : Int) == 6) = false := by simp; omega
        go_wp2
        go_ret
        exact ⟨rfl, rfl⟩

set_option maxRecDepth 100000 in
theorem fv_impl (a : Option Addr) (cap : Nat) (l : List Int) (r : Bool) (w : World) (hl : l.length ≤ 4000000) (hin : InI w a l) (hr : fvB l = r) :
    Calls Tryz.prog 30 #[.slice a l.length cap] w fun e w' => e = .returned (.bool r) ∧ w = w' := by
  have HR := Lib.hid hr
  have HIN := Lib.hid hin
  clear hr hin
  by_cases h6 : l.length = 6
  · have HRW := Lib.hid (show withinB 0 1000 l = r by rw [← HR.out]; unfold fvB; rw [decide_eq_true h6, Bool.true_and])
    have h6' : ((l.length : Int) == 6) = true := by simp; omega
    have H6 := Lib.hid h6
    clear h6
    go_enter Tryz.func30, Tryz.ntmps30
    go_wp2_with (go_at_call 56; ((with_reducible refine (within_is 0 1000 a cap l r _ hl HIN.out HRW.out).mono ?_); rintro e w' ⟨rfl, rfl⟩))
    go_ret
    exact ⟨rfl, rfl⟩
  · obtain rfl : r = false := by rw [← HR.out, fv_len h6]
    have h6' : ((l.length : Int) == 6) = false := by simp; omega
    go_enter Tryz.func30, Tryz.ntmps30
    go_wp2
    go_ret
    exact ⟨rfl, rfl⟩

/-- the first k features of l are at least those of m -/
def leT (l m : List Int) (k : Nat) : Bool := (List.range k).all fun i => decide (m.getD i 0 ≤ l.getD i 0)
theorem leT_zero (l m : List Int) : leT l m 0 = true := by simp [leT]
theorem leT_succ {l m : List Int} {k : Nat} (h : leT l m k = true) (hk : m.getD k 0 ≤ l.getD k 0) : leT l m (k + 1) = true := by
  unfold leT at h ⊢
  rw [List.range_succ, List.all_append, h]
  simpa using hk
theorem leT_no {l m : List Int} {k n : Nat} (hn : k < n) (hk : l.getD k 0 < m.getD k 0) : leT l m n = false := by
  rw [Bool.eq_false_iff]
  intro e
  have h1 := List.all_eq_true.1 e k (List.mem_range.2 hn)
  have h2 := of_decide_eq_true h1
  omega

/-- the answer -/
def domB (l m : List Int) : Bool := fvB l && fvB m && leT l m 6
theorem dom_bad1 {l m : List Int} (h : fvB l = false) : domB l m = false := by unfold domB; rw [h]; rfl
theorem dom_bad2 {l m : List Int} (h : fvB m = false) : domB l m = false := by unfold domB; rw [h]; cases fvB l <;> rfl
theorem dom_is {l m : List Int} (h1 : fvB l = true) (h2 : fvB m = true) : domB l m = leT l m 6 := by unfold domB; rw [h1, h2]; rfl
theorem dom_less {l m : List Int} {k : Nat} (h1 : k < l.length) (h2 : k < m.length) (hk : l.getD k 0 < m.getD k 0) : domB l m = false := by
  cases e1 : fvB l with
  | false => exact dom_bad1 e1
  | true =>
    cases e2 : fvB m with
    | false => exact dom_bad2 e2
    | true => rw [dom_is e1 e2, leT_no (show k < 6 by have := (fv_of e1).1; omega) hk]
theorem dom_end {l m : List Int} {k : Nat} (h1 : ¬ (k < l.length ∧ k < m.length)) (hk : k ≤ l.length ∧ k ≤ m.length) (h : leT l m k = true) : domB l m = (fvB l && fvB m) := by
  cases e1 : fvB l with
  | false => exact dom_bad1 e1
  | true =>
    cases e2 : fvB m with
    | false => exact dom_bad2 e2
    | true =>
      obtain rfl : k = 6 := by have := (fv_of e1).1; have := (fv_of e2).1; omega
      rw [dom_is e1 e2, h]; rfl
theorem getD_is {l : List Int} {k : Nat} {x : Int} (h : l[k]? = some x) : l.getD k 0 = x := by rw [List.getD_eq_getElem?_getD, h]; rfl
theorem quiet_f (B : Nat) (w : World) (n : Nat) : Below B w (w.drewN n) := ⟨rfl, rfl, rfl, Nat.le_refl _, fun _ _ => rfl⟩

theorem fv_spec_b (a : Option Addr) (cap : Nat) (l : List Int) (r : Bool) (w : World) (hl : l.length ≤ 4000000) (hin : InI w a l) (hr : fvB l = r) :
    Calls Tryz.prog 41 #[.slice a l.length cap] w fun e w' => e = .returned (.bool r) ∧ Below w.heap.size w w' :=
  (fv_spec a cap l r w hl hin hr).mono fun e w' ⟨he, hw⟩ => ⟨he, by rw [← hw]; exact Below.refl _ _⟩
theorem fv_impl_b (a : Option Addr) (cap : Nat) (l : List Int) (r : Bool) (w : World) (hl : l.length ≤ 4000000) (hin : InI w a l) (hr : fvB l = r) :
    Calls Tryz.prog 30 #[.slice a l.length cap] w fun e w' => e = .returned (.bool r) ∧ Below w.heap.size w w' :=
  (fv_impl a cap l r w hl hin hr).mono fun e w' ⟨he, hw⟩ => ⟨he, by rw [← hw]; exact Below.refl _ _⟩

end Go.Proofs.YtpmfabpnjacegaaGreatDoor

/-
  Decision rules in plain words: tests, rules, rule sets; when one is valid, when one holds. By an AI agent.
-/
namespace Go.Proofs.YtpmfabpnjacegaaGreatDoor
open Go.RowKit
set_option linter.unusedVariables false

/-- a test: feature and threshold; whether it is a test for less -/
abbrev TS := (Int × Int) × Bool
def featB (t : TS) : Bool := decide (0 ≤ t.1.1 ∧ t.1.1 ≤ 5)
def thrB (t : TS) : Bool := decide (1 ≤ t.1.2 ∧ t.1.2 ≤ 1000)
def vtB (t : TS) : Bool := featB t && thrB t
/-- the features ascend -/
def ascB : List TS → Bool
  | [] => true
  | [_] => true
  | x :: y :: l => decide (x.1.1 < y.1.1) && ascB (y :: l)
def vrB (l : List TS) : Bool := decide (1 ≤ l.length ∧ l.length ≤ 3) && (l.all vtB && ascB l)
def vsB (R : List (List TS)) : Bool := decide (1 ≤ R.length ∧ R.length ≤ 3) && R.all vrB

/-- a test's comparison with the features -/
def cmpT (t : TS) (l : List Int) : Bool := if t.2 then decide (l.getD t.1.1.toNat 0 < t.1.2) else decide (t.1.2 ≤ l.getD t.1.1.toNat 0)
/-- the condition of a test (of a feature vector) -/
def condT (t : TS) (l : List Int) : Bool := featB t && cmpT t l
def tshB (t : TS) (l : List Int) : Bool := fvB l && condT t l
def ruB (r : List TS) (l : List Int) : Bool := fvB l && r.all fun t => condT t l
/-- the first rule that holds -/
def firstU (R : List (List TS)) (l : List Int) : Nat := R.findIdx fun r => r.all fun t => condT t l
def frR (R : List (List TS)) (l : List Int) : Int := if vsB R && fvB l && decide (firstU R l < R.length) then (firstU R l : Int) else -1
def rhB (R : List (List TS)) (l : List Int) : Bool := decide (0 ≤ frR R l)

theorem ascB_snoc : ∀ {l : List TS} {x y : TS}, ascB (l ++ [x, y]) = (ascB (l ++ [x]) && decide (x.1.1 < y.1.1))
  | [], x, y => by simp [ascB]
  | [a], x, y => by simp [ascB]
  | a :: b :: l, x, y => by
    have h := ascB_snoc (l := b :: l) (x := x) (y := y)
    simp only [List.cons_append, ascB] at h ⊢
    rw [h, Bool.and_assoc]
theorem asc_take1 (l : List TS) : ascB (l.take 1) = true := by
  cases l with
  | nil => rfl
  | cons x l => rfl
theorem take_two {l : List TS} {k : Nat} {x y : TS} (hx : l[k]? = some x) (hy : l[k + 1]? = some y) : l.take (k + 1 + 1) = l.take k ++ [x, y] := by
  obtain ⟨h1, e1⟩ := List.getElem?_eq_some_iff.1 hx
  obtain ⟨h2, e2⟩ := List.getElem?_eq_some_iff.1 hy
  rw [List.take_succ_eq_append_getElem h2, List.take_succ_eq_append_getElem h1, e1, e2]
  simp
theorem take_one {α : Type} {l : List α} {k : Nat} {x : α} (hx : l[k]? = some x) : l.take (k + 1) = l.take k ++ [x] := by
  obtain ⟨h1, e1⟩ := List.getElem?_eq_some_iff.1 hx
  rw [List.take_succ_eq_append_getElem h1, e1]
/-- one element more -/
theorem asc_step {l : List TS} {k : Nat} {x y : TS} (h : ascB (l.take (k + 1)) = true) (hx : l[k]? = some x) (hy : l[k + 1]? = some y) : ascB (l.take (k + 1 + 1)) = decide (x.1.1 < y.1.1) := by
  rw [take_two hx hy, ascB_snoc, ← take_one hx, h, Bool.true_and]
theorem asc_prefix : ∀ {l m : List TS}, ascB (l ++ m) = true → ascB l = true
  | [], m, h => rfl
  | [x], m, h => rfl
  | x :: y :: l, m, h => by
    simp only [List.cons_append, ascB, Bool.and_eq_true] at h ⊢
    exact ⟨h.1, asc_prefix (l := y :: l) (m := m) h.2⟩
theorem asc_no {l : List TS} {k : Nat} (h : ascB (l.take k) = false) : ascB l = false := by
  rw [Bool.eq_false_iff]
  intro e
  rw [← List.take_append_drop k l] at e
  rw [asc_prefix e] at h
  cases h
theorem all_take {α : Type} {p : α → Bool} {l : List α} {k : Nat} {x : α} (h : (l.take k).all p = true) (hx : l[k]? = some x) (h1 : p x = true) : (l.take (k + 1)).all p = true := by
  rw [take_one hx, List.all_append, h]
  simp [h1]
theorem all_no {α : Type} {p : α → Bool} {l : List α} {k : Nat} {x : α} (hx : l[k]? = some x) (h1 : p x = false) : l.all p = false := by
  rw [Bool.eq_false_iff]
  intro e
  rw [List.all_eq_true.1 e x (List.mem_of_getElem? hx)] at h1
  cases h1

theorem vr_len {l : List TS} (h : vrB l = true) : 1 ≤ l.length ∧ l.length ≤ 3 := by
  unfold vrB at h
  simp only [Bool.and_eq_true, decide_eq_true_eq] at h
  exact h.1
theorem vr_test {l : List TS} {t : TS} (h : vrB l = true) (ht : t ∈ l) : vtB t = true := by
  unfold vrB at h
  simp only [Bool.and_eq_true, decide_eq_true_eq] at h
  exact List.all_eq_true.1 h.2.1 t ht
theorem vs_len {R : List (List TS)} (h : vsB R = true) : 1 ≤ R.length ∧ R.length ≤ 3 := by
  unfold vsB at h
  simp only [Bool.and_eq_true, decide_eq_true_eq] at h
  exact h.1
theorem vs_rule {R : List (List TS)} {l : List TS} (h : vsB R = true) (hl : l ∈ R) : vrB l = true := by
  unfold vsB at h
  simp only [Bool.and_eq_true, decide_eq_true_eq] at h
  exact List.all_eq_true.1 h.2 l hl
theorem vr_bad {l : List TS} (h : ¬ (1 ≤ l.length ∧ l.length ≤ 3)) : vrB l = false := by unfold vrB; rw [decide_eq_false h, Bool.false_and]
theorem vr_ok {l : List TS} (h : 1 ≤ l.length ∧ l.length ≤ 3) : vrB l = (l.all vtB && ascB l) := by unfold vrB; rw [decide_eq_true h, Bool.true_and]
theorem vr_no {l : List TS} {k : Nat} {x : TS} (hx : l[k]? = some x) (h : vtB x = false) : vrB l = false := by unfold vrB; rw [all_no hx h, Bool.false_and, Bool.and_false]
theorem vr_nasc {l : List TS} {k : Nat} (h : ascB (l.take k) = false) : vrB l = false := by unfold vrB; rw [asc_no h, Bool.and_false, Bool.and_false]
theorem vs_bad {R : List (List TS)} (h : ¬ (1 ≤ R.length ∧ R.length ≤ 3)) : vsB R = false := by unfold vsB; rw [decide_eq_false h, Bool.false_and]
theorem vs_ok {R : List (List TS)} (h : 1 ≤ R.length ∧ R.length ≤ 3) : vsB R = R.all vrB := by unfold vsB; rw [decide_eq_true h, Bool.true_and]
theorem vs_no {R : List (List TS)} {k : Nat} {l : List TS} (hx : R[k]? = some l) (h : vrB l = false) : vsB R = false := by unfold vsB; rw [all_no hx h, Bool.and_false]
theorem vt_of {t : TS} (h : vtB t = true) : (0 ≤ t.1.1 ∧ t.1.1 ≤ 5) ∧ 1 ≤ t.1.2 ∧ t.1.2 ≤ 1000 := by
  unfold vtB featB thrB at h
  simp only [Bool.and_eq_true, decide_eq_true_eq] at h
  exact h
theorem vt_yes {t : TS} (h1 : 0 ≤ t.1.1 ∧ t.1.1 ≤ 5) (h2 : 1 ≤ t.1.2 ∧ t.1.2 ≤ 1000) : vtB t = true := by unfold vtB featB thrB; rw [decide_eq_true h1, decide_eq_true h2]; rfl
theorem vt_feat {t : TS} (h : ¬ (0 ≤ t.1.1 ∧ t.1.1 ≤ 5)) : vtB t = false := by unfold vtB featB; rw [decide_eq_false h, Bool.false_and]
theorem vt_thr {t : TS} (h : ¬ (1 ≤ t.1.2 ∧ t.1.2 ≤ 1000)) : vtB t = false := by unfold vtB thrB; rw [decide_eq_false h, Bool.and_false]

end Go.Proofs.YtpmfabpnjacegaaGreatDoor

/-
  Levels, grid vectors and violations of monotonicity, in plain lists. By an AI agent.
-/
namespace Go.Proofs.YtpmfabpnjacegaaGreatDoor
open Go.RowKit
set_option linter.unusedVariables false

/-- one number more in an ascending list -/
def putI : List Int → Int → List Int
  | [], n => [n]
  | x :: l, n => if x < n then x :: putI l n else if x = n then x :: l else n :: x :: l
theorem putI_new {l : List Int} {n : Int} : ∀ {k : Nat}, (∀ (j : Nat) (x : Int), l[j]? = some x → j < k → x < n) → (∀ x, l[k]? = some x → ¬ x < n ∧ x ≠ n) → k ≤ l.length → putI l n = l.take k ++ n :: l.drop k := by
  induction l with
  | nil => intro k _ _ hk; simp at hk; subst hk; rfl
  | cons x l ih =>
    intro k h1 h2 hk
    cases k with
    | zero =>
      have h := h2 x rfl
      simp [putI, h.1, h.2]
    | succ k =>
      have h := h1 0 x rfl (by omega)
      rw [putI, if_pos h, ih (k := k) (fun j y hy hj => h1 (j + 1) y (by simpa using hy) (by omega)) (fun y hy => h2 y (by simpa using hy)) (by simpa using hk)]
      simp
theorem putI_same {l : List Int} {n : Int} : ∀ {k : Nat}, (∀ (j : Nat) (x : Int), l[j]? = some x → j < k → x < n) → l[k]? = some n → putI l n = l := by
  induction l with
  | nil => intro k _ h; simp at h
  | cons x l ih =>
    intro k h1 h2
    cases k with
    | zero =>
      simp at h2
      subst h2
      simp [putI]
    | succ k =>
      have h := h1 0 x rfl (by omega)
      rw [putI, if_pos h, ih (k := k) (fun j y hy hj => h1 (j + 1) y (by simpa using hy) (by omega)) (by simpa using h2)]
theorem putI_mem {l : List Int} {n x : Int} : x ∈ putI l n ↔ x = n ∨ x ∈ l := by
  induction l with
  | nil => simp [putI]
  | cons y l ih =>
    unfold putI
    by_cases h1 : y < n
    · rw [if_pos h1, List.mem_cons, ih, List.mem_cons]
      constructor <;> (rintro (h | h | h) <;> simp [h])
    · rw [if_neg h1]
      by_cases h2 : y = n
      · rw [if_pos h2, List.mem_cons]
        subst h2
        constructor
        · exact .inr
        · rintro (h | h)
          · exact .inl h
          · exact h
      · rw [if_neg h2, List.mem_cons]
theorem putI_len (l : List Int) (n : Int) : (putI l n).length ≤ l.length + 1 := by
  induction l with
  | nil => simp [putI]
  | cons y l ih =>
    unfold putI
    split
    · simp; omega
    · split <;> simp
theorem putI_asc {l : List Int} {n : Int} (h : l.Pairwise (· < ·)) : (putI l n).Pairwise (· < ·) := by
  induction l with
  | nil => simp [putI]
  | cons y l ih =>
    obtain ⟨h1, h2⟩ := List.pairwise_cons.1 h
    unfold putI
    by_cases h3 : y < n
    · rw [if_pos h3, List.pairwise_cons]
      refine ⟨fun z hz => ?_, ih h2⟩
      rcases putI_mem.1 hz with rfl | hz
      · exact h3
      · exact h1 z hz
    · rw [if_neg h3]
      by_cases h4 : y = n
      · rw [if_pos h4]; exact h
      · rw [if_neg h4, List.pairwise_cons]
        refine ⟨fun z hz => ?_, h⟩
        rcases List.mem_cons.1 hz with rfl | hz
        · omega
        · have := h1 z hz; omega

/-- the levels of a feature in some tests -/
def levF (ts : List TS) (n : Int) : List Int := ts.foldl (fun acc t => if t.1.1 = n then putI acc t.1.2 else acc) [0]
/-- the thresholds as they come, behind a 0 -/
def rawF (ts : List TS) (n : Int) : List Int := 0 :: (ts.filter fun t => decide (t.1.1 = n)).map fun t => t.1.2
theorem levF_snoc (ts : List TS) (t : TS) (n : Int) : levF (ts ++ [t]) n = if t.1.1 = n then putI (levF ts n) t.1.2 else levF ts n := by simp [levF, List.foldl_append]
theorem rawF_snoc (ts : List TS) (t : TS) (n : Int) : rawF (ts ++ [t]) n = if t.1.1 = n then rawF ts n ++ [t.1.2] else rawF ts n := by
  unfold rawF
  by_cases h : t.1.1 = n <;> simp [h]
theorem levF_asc (ts : List TS) (n : Int) : (levF ts n).Pairwise (· < ·) := by
  suffices ∀ (acc : List Int), acc.Pairwise (· < ·) → (ts.foldl (fun acc t => if t.1.1 = n then putI acc t.1.2 else acc) acc).Pairwise (· < ·) from this [0] (by simp)
  induction ts with
  | nil => exact fun acc h => h
  | cons t ts ih =>
    intro acc h
    rw [List.foldl_cons]
    apply ih
    split
    · exact putI_asc h
    · exact h
theorem levF_mem (ts : List TS) (n x : Int) : x ∈ levF ts n ↔ x ∈ rawF ts n := by
  suffices ∀ (acc : List Int), x ∈ ts.foldl (fun acc t => if t.1.1 = n then putI acc t.1.2 else acc) acc ↔ x ∈ acc ∨ x ∈ (ts.filter fun t => decide (t.1.1 = n)).map (fun t => t.1.2) by
    have h := this [0]
    unfold levF rawF
    rw [h]
    simp
  induction ts with
  | nil => intro acc; simp
  | cons t ts ih =>
    intro acc
    rw [List.foldl_cons, ih]
    by_cases h : t.1.1 = n
    · rw [if_pos h, List.filter_cons_of_pos (by simpa using h), List.map_cons, List.mem_cons, putI_mem]
      constructor
      · rintro ((h1 | h1) | h1)
        · exact .inr (.inl h1)
        · exact .inl h1
        · exact .inr (.inr h1)
      · rintro (h1 | h1 | h1)
        · exact .inl (.inr h1)
        · exact .inl (.inl h1)
        · exact .inr h1
    · rw [if_neg h, List.filter_cons_of_neg (by simpa using h)]
theorem levF_len (ts : List TS) (n : Int) : (levF ts n).length ≤ ts.length + 1 := by
  suffices ∀ (acc : List Int), (ts.foldl (fun acc t => if t.1.1 = n then putI acc t.1.2 else acc) acc).length ≤ ts.length + acc.length by have h := this [0]; simpa [levF] using h
  induction ts with
  | nil => simp
  | cons t ts ih =>
    intro acc
    rw [List.foldl_cons, List.length_cons]
    have h1 := ih (if t.1.1 = n then putI acc t.1.2 else acc)
    have h2 : (if t.1.1 = n then putI acc t.1.2 else acc).length ≤ acc.length + 1 := by split; exact putI_len _ _; omega
    omega
theorem levF_pos (ts : List TS) (n : Int) : 0 < (levF ts n).length := by
  have : (0 : Int) ∈ levF ts n := (levF_mem ts n 0).2 (by simp [rawF])
  exact List.length_pos_of_mem this
theorem rawF_len (ts : List TS) (n : Int) : (rawF ts n).length ≤ ts.length + 1 := by
  unfold rawF
  have := List.length_filter_le (fun t : TS => decide (t.1.1 = n)) ts
  simp only [List.length_cons, List.length_map]
  omega

/-- two ascending lists with the same members are equal -/
theorem asc_same : ∀ {l m : List Int}, l.Pairwise (· < ·) → m.Pairwise (· < ·) → (∀ x, x ∈ l ↔ x ∈ m) → l = m
  | [], [], _, _, _ => rfl
  | [], y :: m, _, _, h => by have := (h y).2 (List.mem_cons_self ..); simp at this
  | x :: l, [], _, _, h => by have := (h x).1 (List.mem_cons_self ..); simp at this
  | x :: l, y :: m, hl, hm, h => by
    obtain ⟨h1, h2⟩ := List.pairwise_cons.1 hl
    obtain ⟨h3, h4⟩ := List.pairwise_cons.1 hm
    have e : x = y := by
      rcases List.mem_cons.1 ((h x).1 (List.mem_cons_self ..)) with e | e
      · exact e
      · rcases List.mem_cons.1 ((h y).2 (List.mem_cons_self ..)) with e2 | e2
        · exact e2.symm
        · have := h3 x e; have := h1 y e2; omega
    subst e
    rw [asc_same h2 h4 fun z => ?_]
    constructor
    · intro hz
      rcases List.mem_cons.1 ((h z).1 (List.mem_cons_of_mem _ hz)) with e | e
      · have := h1 z hz; omega
      · exact e
    · intro hz
      rcases List.mem_cons.1 ((h z).2 (List.mem_cons_of_mem _ hz)) with e | e
      · have := h3 z hz; omega
      · exact e

/-- compaction keeps the members, and makes what is sorted ascend -/
theorem cupto {d : List Int} (hs : d.Pairwise (· ≤ ·)) : ∀ (m : Nat), m ≤ d.length → (Lib.compactUpTo d.toArray m).Pairwise (· < ·) ∧ (∀ x, x ∈ Lib.compactUpTo d.toArray m ↔ x ∈ d.take m)
  | 0, _ => by simp [Lib.compactUpTo]
  | m + 1, hm => by
    obtain ⟨h1, h2⟩ := cupto hs m (by omega)
    have hlt : m < d.length := by omega
    have hg : (d.toArray)[m]! = d[m] := by rw [getElem!_pos _ m (by simpa using hlt)]; rfl
    rw [Lib.compactUpTo_succ, hg]
    have htk : d.take (m + 1) = d.take m ++ [d[m]] := List.take_succ_eq_append_getElem hlt
    have hle : ∀ x ∈ d.take m, x ≤ d[m] := fun x hx => by
      obtain ⟨j, hj⟩ := List.getElem?_of_mem hx
      rw [List.getElem?_take] at hj
      split at hj
      · rename_i hjm
        obtain ⟨hj2, e⟩ := List.getElem?_eq_some_iff.1 hj
        rw [← e]
        exact List.pairwise_iff_getElem.1 hs j m hj2 hlt hjm
      · cases hj
    by_cases hk : Lib.keeps d.toArray m = true
    · rw [hk]
      simp only [if_true]
      refine ⟨?_, fun x => by rw [htk, List.mem_append, List.mem_append, h2]⟩
      rw [List.pairwise_append]
      refine ⟨h1, by simp, fun x hx y hy => ?_⟩
      simp at hy
      subst hy
      have h3 := hle x ((h2 x).1 hx)
      rcases Int.lt_or_eq_of_le h3 with h4 | h4
      · exact h4
      · exfalso
        have hx2 := (h2 x).1 hx
        have hm0 : 0 < m := by
          rcases Nat.eq_zero_or_pos m with e | e
          · subst e; simp at hx2
          · exact e
        unfold Lib.keeps at hk
        simp only [decide_eq_true_eq] at hk
        rcases hk with e | e
        · omega
        · apply e
          have hg2 : (d.toArray)[m - 1]! = d[m - 1]'(by omega) := by rw [getElem!_pos _ (m - 1) (by simp; omega)]; rfl
          rw [hg, hg2]
          have h5 : d[m - 1]'(by omega) ≤ d[m] := List.pairwise_iff_getElem.1 hs (m - 1) m (by omega) hlt (by omega)
          have h6 : d[m] ≤ d[m - 1]'(by omega) := by
            rw [← h4]
            obtain ⟨j, hj⟩ := List.getElem?_of_mem hx2
            rw [List.getElem?_take] at hj
            split at hj
            · rename_i hjm
              obtain ⟨hj2, e2⟩ := List.getElem?_eq_some_iff.1 hj
              rw [← e2]
              rcases Nat.lt_or_ge j (m - 1) with h7 | h7
              · exact List.pairwise_iff_getElem.1 hs j (m - 1) hj2 (by omega) h7
              · have : j = m - 1 := by omega
                subst this
                exact Int.le_refl _
            · cases hj
          omega
    · rw [if_neg hk, List.append_nil]
      refine ⟨h1, fun x => ?_⟩
      rw [h2, htk, List.mem_append]
      constructor
      · exact .inl
      · rintro (h | h)
        · exact h
        · simp at h
          subst h
          have hm0 : m ≠ 0 ∧ (d.toArray)[m]! = (d.toArray)[m - 1]! := by
            unfold Lib.keeps at hk
            simpa using hk
          have hg2 : (d.toArray)[m - 1]! = d[m - 1]'(by omega) := by rw [getElem!_pos _ (m - 1) (by simp; omega)]; rfl
          rw [hg, hg2] at hm0
          rw [hm0.2]
          exact List.mem_of_getElem? (i := m - 1) (by rw [List.getElem?_take_of_lt (by omega)]; exact List.getElem?_eq_getElem _)
theorem sort_ints (l : List Int) : (l.mergeSort fun x y => decide (x ≤ y)).Pairwise (· ≤ ·) := by
  have h := List.pairwise_mergeSort (le := fun x y : Int => decide (x ≤ y)) (fun a b c h1 h2 => by simp at h1 h2 ⊢; omega) (fun a b => by simp; omega) l
  exact h.imp fun h => by simpa using h
/-- the two ways to the levels -/
theorem levF_same (ts : List TS) (n : Int) : Lib.compact ((rawF ts n).mergeSort fun x y => decide (x ≤ y)) = levF ts n := by
  have hs := sort_ints (rawF ts n)
  obtain ⟨h1, h2⟩ := cupto hs _ (Nat.le_refl _)
  refine asc_same h1 (levF_asc ts n) fun x => ?_
  rw [levF_mem]
  refine (h2 x).trans ?_
  rw [List.take_length, List.mem_mergeSort]

/-- the levels of the six features -/
def levR (R : List (List TS)) (n : Int) : List Int := levF R.flatten n
def levs (R : List (List TS)) : List (List Int) := (List.range 6).map fun n : Nat => levR R (n : Int)
/-- the vectors, a feature longer -/
def growV (vs : List (List Int)) (l : List Int) : List (List Int) := vs.flatMap fun f => l.map fun x => f ++ [x]
def gridV (ls : List (List Int)) : List (List Int) := ls.foldl growV [[]]
/-- the vector with the next greater level -/
def raiseV (f : List Int) (n : Nat) (l : List Int) : Option (List Int) :=
  if l.idxOf (f.getD n 0) + 1 < l.length then some (f.set n (l.getD (l.idxOf (f.getD n 0) + 1) 0)) else none
/-- the first feature whose raising breaks the rules -/
def breakV (R : List (List TS)) (f : List Int) (n : Nat) : Option (List Int) := (raiseV f n (levR R n)).filter fun u => !rhB R u
def vioV (R : List (List TS)) (f : List Int) : Option (List Int × List Int) := if rhB R f = true then ((List.range 6).findSome? fun n => breakV R f n).map fun u => (f, u) else none
def vioR (R : List (List TS)) : Option (List Int × List Int) := if vsB R = true then (gridV (levs R)).findSome? (vioV R) else none
/-- the answer -/
def VioOut (R : List (List TS)) (A B : List Int) (s : Bool) : Prop := (s = true ∧ vioR R = some (A, B)) ∨ (s = false ∧ vioR R = none ∧ A = [] ∧ B = [])
def monB (R : List (List TS)) : Bool := vsB R && !(vioR R).isSome
theorem vio_some (R : List (List TS)) : ∃ A B s, VioOut R A B s := by
  cases h : vioR R with
  | none => exact ⟨[], [], false, .inr ⟨rfl, h, rfl, rfl⟩⟩
  | some p => exact ⟨p.1, p.2, true, .inl ⟨rfl, h⟩⟩
theorem vio_bad {R : List (List TS)} {A B : List Int} {s : Bool} (h : VioOut R A B s) (hv : vsB R = false) : A = [] ∧ B = [] ∧ s = false := by
  rcases h with ⟨_, h⟩ | ⟨h1, _, h2, h3⟩
  · unfold vioR at h; rw [hv] at h; cases h
  · exact ⟨h2, h3, h1⟩
theorem vio_none {R : List (List TS)} {A B : List Int} {s : Bool} (h : VioOut R A B s) (hv : vioR R = none) : A = [] ∧ B = [] ∧ s = false := by
  rcases h with ⟨_, h⟩ | ⟨h1, _, h2, h3⟩
  · rw [hv] at h; cases h
  · exact ⟨h2, h3, h1⟩
theorem vio_yes {R : List (List TS)} {A B f u : List Int} {s : Bool} (h : VioOut R A B s) (hv : vioR R = some (f, u)) : A = f ∧ B = u ∧ s = true := by
  rcases h with ⟨h1, h⟩ | ⟨_, h, _⟩
  · rw [hv] at h
    injection h with h
    injection h with h2 h3
    exact ⟨h2.symm, h3.symm, h1⟩
  · rw [hv] at h; cases h
/-- none of the first k -/
def noneV {α β : Type} (g : α → Option β) (l : List α) (k : Nat) : Prop := ∀ j x, j < k → l[j]? = some x → g x = none
theorem noneV_zero {α β : Type} (g : α → Option β) (l : List α) : noneV g l 0 := fun j x h => absurd h (Nat.not_lt_zero _)
theorem noneV_succ {α β : Type} {g : α → Option β} {l : List α} {k : Nat} {x : α} (h : noneV g l k) (hx : l[k]? = some x) (hg : g x = none) : noneV g l (k + 1) := by
  intro j y hj hy
  by_cases e : j = k
  · subst e; rw [hx] at hy; injection hy with hy; subst hy; exact hg
  · exact h j y (by omega) hy
theorem findSome_at {α β : Type} {g : α → Option β} : ∀ {l : List α} {k : Nat} {x : α} {y : β}, noneV g l k → l[k]? = some x → g x = some y → l.findSome? g = some y
  | [], k, x, y, _, h, _ => by simp at h
  | z :: l, 0, x, y, _, h, hg => by
    simp at h
    subst h
    rw [List.findSome?_cons, hg]
  | z :: l, k + 1, x, y, hn, h, hg => by
    rw [List.findSome?_cons, hn 0 z (by omega) rfl]
    exact findSome_at (k := k) (fun j y hj hy => hn (j + 1) y (by omega) (by simpa using hy)) (by simpa using h) hg
theorem findSome_none {α β : Type} {g : α → Option β} {l : List α} (h : noneV g l l.length) : l.findSome? g = none := by
  rw [List.findSome?_eq_none_iff]
  intro x hx
  obtain ⟨k, hk⟩ := List.getElem?_of_mem hx
  exact h k x (List.getElem?_eq_some_iff.1 hk).1 hk
theorem range_at {n m : Nat} (h : n < m) : (List.range m)[n]? = some n := by simp [h]
theorem vioV_no {R : List (List TS)} {f : List Int} (h : rhB R f = false) : vioV R f = none := by unfold vioV; rw [h]; rfl
theorem vioV_none {R : List (List TS)} {f : List Int} (h : noneV (breakV R f) (List.range 6) 6) : vioV R f = none := by
  unfold vioV
  split
  · rw [findSome_none (by simpa using h)]; rfl
  · rfl
theorem vioV_yes {R : List (List TS)} {f u : List Int} {n : Nat} (hr : rhB R f = true) (h : noneV (breakV R f) (List.range 6) n) (hn : n < 6) (hu : breakV R f n = some u) : vioV R f = some (f, u) := by
  unfold vioV
  rw [if_pos hr, findSome_at h (range_at hn) hu]
  rfl
/-- a break, if there is one, lies at the vector's level or behind -/
theorem break_some {R : List (List TS)} {f u : List Int} {n : Nat} (h : breakV R f n = some u) : (levR R n).idxOf (f.getD n 0) + 1 < (levR R n).length ∧ u = f.set n ((levR R n).getD ((levR R n).idxOf (f.getD n 0) + 1) 0) ∧ rhB R u = false := by
  unfold breakV raiseV at h
  split at h
  · rename_i hlt
    rw [Option.filter_some] at h
    split at h
    · rename_i hr
      injection h with h
      subst h
      exact ⟨hlt, rfl, by simpa using hr⟩
    · cases h
  · cases h
theorem break_yes {R : List (List TS)} {f : List Int} {n : Nat} (hlt : (levR R n).idxOf (f.getD n 0) + 1 < (levR R n).length) (hr : rhB R (f.set n ((levR R n).getD ((levR R n).idxOf (f.getD n 0) + 1) 0)) = false) : breakV R f n = some (f.set n ((levR R n).getD ((levR R n).idxOf (f.getD n 0) + 1) 0)) := by
  unfold breakV raiseV
  rw [if_pos hlt, Option.filter_some, hr]
  rfl
theorem break_no {R : List (List TS)} {f : List Int} {n : Nat} (hr : rhB R (f.set n ((levR R n).getD ((levR R n).idxOf (f.getD n 0) + 1) 0)) = true) : breakV R f n = none := by
  cases h : breakV R f n with
  | none => rfl
  | some u =>
    obtain ⟨_, h2, h3⟩ := break_some h
    rw [h2, hr] at h3
    cases h3
theorem idx_asc {l : List Int} (h : l.Pairwise (· < ·)) {j : Nat} {x : Int} (hx : l[j]? = some x) : l.idxOf x = j := by
  induction l generalizing j with
  | nil => simp at hx
  | cons y l ih =>
    obtain ⟨h1, h2⟩ := List.pairwise_cons.1 h
    cases j with
    | zero =>
      simp at hx
      subst hx
      simp
    | succ j =>
      have hx1 : l[j]? = some x := by simpa using hx
      have h3 := h1 x (List.mem_of_getElem? hx1)
      rw [List.idxOf_cons, ih h2 hx1]
      have : (y == x) = false := by simp; omega
      rw [this]
      rfl
theorem levR_asc (R : List (List TS)) (n : Int) : (levR R n).Pairwise (· < ·) := levF_asc _ _
/-- vectors of the grid -/
theorem grow_mem {ls : List (List Int)} {vs : List (List Int)} {f : List Int} : f ∈ ls.foldl growV vs → ∃ g h, f = g ++ h ∧ g ∈ vs ∧ h.length = ls.length ∧ ∀ (n : Nat) (l : List Int), ls[n]? = some l → h.getD n 0 ∈ l := by
  induction ls generalizing vs with
  | nil => intro hf; exact ⟨f, [], by simp, hf, rfl, fun n l h => by simp at h⟩
  | cons l ls ih =>
    intro hf
    rw [List.foldl_cons] at hf
    obtain ⟨g, h, rfl, hg, hh, hl⟩ := ih hf
    unfold growV at hg
    obtain ⟨g0, hg0, hg⟩ := List.mem_flatMap.1 hg
    obtain ⟨x, hx, rfl⟩ := List.mem_map.1 hg
    refine ⟨g0, x :: h, by simp, hg0, by simp [hh], fun n m hm => ?_⟩
    cases n with
    | zero => simp at hm; subst hm; simpa using hx
    | succ n => have := hl n m (by simpa using hm); simpa using this
theorem grid_mem {R : List (List TS)} {f : List Int} (h : f ∈ gridV (levs R)) : f.length = 6 ∧ ∀ (n : Nat), n < 6 → f.getD n 0 ∈ levR R n := by
  obtain ⟨g, h, rfl, hg, hh, hl⟩ := grow_mem h
  simp at hg
  subst hg
  rw [List.nil_append]
  refine ⟨by rw [hh]; simp [levs], fun n hn => hl n _ (by simp [levs, hn])⟩

end Go.Proofs.YtpmfabpnjacegaaGreatDoor

