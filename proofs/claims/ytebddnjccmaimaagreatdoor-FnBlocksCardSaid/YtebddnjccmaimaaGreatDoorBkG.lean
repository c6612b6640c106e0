/-
  Which lists of records are taken: spec.l13Good and impl.validList. By an AI agent.
-/
import Derived.Test.YtebddnjccmaimaaGreatDoorBkSh
namespace Go.Proofs.YtebddnjccmaimaaGreatDoor
open Go.RowKit Go.Maps
set_option linter.unusedVariables false

def recOk (x : RC) : Bool := recB x.1.1 x.1.2.1 x.1.2.2 x.2
def goodB (S : List RC) : Bool := decide (S.length ≤ 12) && S.all recOk
/-- the keys of the records of a list -/
noncomputable def kbR (S : List RC) : List (List Str) := if goodB S = true then S.map bkR else []
theorem good_len {S : List RC} (h : goodB S = true) : S.length ≤ 12 := by
  unfold goodB at h
  simp at h
  exact h.1
theorem good_all {S : List RC} (h : goodB S = true) {x : RC} (hx : x ∈ S) : recOk x = true := by
  unfold goodB at h
  simp only [Bool.and_eq_true, List.all_eq_true] at h
  exact h.2 x hx
theorem good_bad {S : List RC} {x : RC} (hx : x ∈ S) (h : recOk x = false) : goodB S = false := by
  cases hg : goodB S with
  | false => rfl
  | true => rw [good_all hg hx] at h; cases h
theorem good_many {S : List RC} (h : 12 < S.length) : goodB S = false := by
  cases hg : goodB S with
  | false => rfl
  | true => have := good_len hg; omega
def AllOk (S : List RC) (k : Nat) : Prop := ∀ x ∈ S.take k, recOk x = true
theorem AllOk.zero (S : List RC) : AllOk S 0 := fun x hx => by simp at hx
theorem AllOk.succ {S : List RC} {k : Nat} {x : RC} (h : AllOk S k) (hx : S[k]? = some x) (hr : recOk x = true) : AllOk S (k + 1) := fun y hy => by
  rw [rcs_take hx] at hy
  rcases List.mem_append.1 hy with h1 | h1
  · exact h y h1
  · simp at h1; rw [h1]; exact hr
theorem AllOk.all {S : List RC} (h : AllOk S S.length) : goodB S = decide (S.length ≤ 12) := by
  unfold goodB
  have : S.all recOk = true := List.all_eq_true.2 fun x hx => h x (by rw [List.take_length]; exact hx)
  rw [this, Bool.and_true]
theorem kb_no {S : List RC} (h : goodB S = false) : kbR S = [] := by
  unfold kbR
  rw [if_neg (by rw [h]; decide)]
theorem kb_yes {S : List RC} (h : goodB S = true) : kbR S = S.map bkR := if_pos h
theorem kb_len (S : List RC) : (kbR S).length ≤ 12 := by
  unfold kbR
  split
  · rename_i h; rw [List.length_map]; exact good_len h
  · simp
theorem kb_mem {S : List RC} {l : List Str} (h : l ∈ kbR S) : l.length ≤ 163 ∧ ∀ y ∈ l, y.length ≤ 100 := by
  unfold kbR at h
  split at h
  · obtain ⟨x, _, rfl⟩ := List.mem_map.1 h
    exact ⟨bk_len x, fun y hy => bk_mem hy⟩
  · cases h
theorem flat_bound (n : Nat) : ∀ (K : List (List Str)), (∀ l ∈ K, l.length ≤ n) → K.flatten.length ≤ K.length * n
  | [], _ => by simp
  | l :: K, h => by
    have h1 := flat_bound n K fun l hl => h l (List.mem_cons_of_mem _ hl)
    have h2 := h l (List.mem_cons_self ..)
    simp only [List.flatten_cons, List.length_append, List.length_cons, Nat.succ_mul]
    omega
theorem kb_flat (S : List RC) : (kbR S).flatten.length ≤ 1956 := by
  have h1 := flat_bound 163 (kbR S) fun l hl => (kb_mem hl).1
  have h2 := kb_len S
  omega
theorem kb_key {S : List RC} {x : Str} (h : x ∈ (kbR S).flatten) : x.length ≤ 100 := by
  obtain ⟨l, hl, hx⟩ := List.mem_flatten.1 h
  exact (kb_mem hl).2 x hx

set_option maxRecDepth 100000 in
set_option maxHeartbeats 1000000 in
theorem good_spec (a : Option Addr) (c : Nat) (S : List RC) (r : Bool) (w : World) (hr : goodB S = r) (h : SmRc w a S c) :
    Calls Tryz.prog 60 #[.slice a S.length c] w fun e w' => e = .returned (.bool r) ∧ Below w.heap.size w w' := by
  have H := Lib.hid h
  have HR := Lib.hid hr
  have hl := h.2.2.2.1
  clear h hr
  go_enter Tryz.func60, Tryz.ntmps60
  go_wp2
  go_loopw [3] (fun i wr => ∃ k : Nat, k ≤ S.length ∧ i = .int .i64 k ∧ AllOk S k ∧ Below w.heap.size w wr) (fun i _ => S.length - (intOf i).toNat)
  case atStart => exact ⟨0, Nat.zero_le _, rfl, AllOk.zero S, Below.refl _ _⟩
  case round =>
    obtain ⟨k, hk, rfl, ha, hb⟩ := hrel
    have HA := Lib.hid ha
    have HB := Lib.hid hb
    clear ha hb
    by_cases hlt : k < S.length
    · obtain ⟨b, off, s, kk, v, l, a', c', rfl, hbl, hx, q0, q1, q2, q3, hsm⟩ := (H.out.below HB.out).at_ hlt
      have HX := Lib.hid hx
      have HSM := Lib.hid hsm
      obtain ⟨x, hxr⟩ : ∃ x, recB s kk v l = x := ⟨_, rfl⟩
      have HXR := Lib.hid hxr
      clear hx hsm hxr
      cases x
      · go_wp2_with (go_at_call 64; ((with_reducible refine (iv_spec s kk v a' c' l _ _ HXR.out HSM.out).mono ?_); rintro e w1 ⟨rfl, hb⟩; have HB1 := Lib.hid hb; clear hb))
        go_ret
        exact ⟨by rw [← HR.out, good_bad (List.mem_of_getElem? HX.out) HXR.out]; rfl, HB.out.trans (HB1.out.mono HB.out.size)⟩
      · go_wp2_with (go_at_call 64; ((with_reducible refine (iv_spec s kk v a' c' l _ _ HXR.out HSM.out).mono ?_); rintro e w1 ⟨rfl, hb⟩; have HB1 := Lib.hid hb; clear hb))
        go_roundw
        case rel => exact ⟨k + 1, by omega, by go_num, HA.out.succ HX.out HXR.out, HB.out.trans (HB1.out.mono HB.out.size)⟩
        case measure => simp [intOf]; omega
    · obtain rfl : k = S.length := by omega
      have hrr : decide (S.length ≤ 12) = r := by rw [← HR.out, HA.out.all]
      by_cases h12 : S.length ≤ 12
      · obtain rfl : true = r := by rw [← hrr]; exact (decide_eq_true h12).symm
        clear hrr
        have h12' : (S.length : Int) ≤ 12 := by omega
        go_wp2
        go_ret
        exact ⟨rfl, HB.out⟩
      · obtain rfl : false = r := by rw [← hrr]; exact (decide_eq_false h12).symm
        clear hrr
        have h12' : ¬ (S.length : Int) ≤ 12 := by omega
        go_wp2
        go_ret
        exact ⟨rfl, HB.out⟩

/-- the list, or none -/
def pickA (r : Bool) (a : Option Addr) : Option Addr := if r = true then a else none
def pickN (r : Bool) (n : Nat) : Nat := if r = true then n else 0

set_option maxRecDepth 100000 in
set_option maxHeartbeats 1000000 in
theorem vl_impl (a : Option Addr) (c : Nat) (S : List RC) (r : Bool) (w : World) (hr : goodB S = r) (h : SmRc w a S c) :
    Calls Tryz.prog 82 #[.slice a S.length c] w fun e w' => e = .returned (.slice (pickA r a) (pickN r S.length) (pickN r c)) ∧ Below w.heap.size w w' := by
  have H := Lib.hid h
  have HR := Lib.hid hr
  have hl := h.2.2.2.1
  clear h hr
  by_cases h12 : S.length ≤ 12
  · have h12' : ¬ (12 : Int) < S.length := by omega
    go_enter Tryz.func82, Tryz.ntmps82
    go_wp2
    go_loopw [10] (fun i wr => ∃ k : Nat, k ≤ S.length ∧ i = .int .i64 k ∧ AllOk S k ∧ Below w.heap.size w wr) (fun i _ => S.length - (intOf i).toNat)
    case atStart => exact ⟨0, Nat.zero_le _, rfl, AllOk.zero S, Below.refl _ _⟩
    case round =>
      obtain ⟨k, hk, rfl, ha, hb⟩ := hrel
      have HA := Lib.hid ha
      have HB := Lib.hid hb
      clear ha hb
      by_cases hlt : k < S.length
      · obtain ⟨b, off, s, kk, v, l, a', c', rfl, hbl, hx, q0, q1, q2, q3, hsm⟩ := (H.out.below HB.out).at_ hlt
        have HX := Lib.hid hx
        obtain ⟨w1, hw1⟩ : ∃ w1, w1 = wr.alloc (.cells #[.int .i64 s, .int .i64 kk, .int .i64 v, .slice a' l.length c'] 37) := ⟨_, rfl⟩
        have HW1 := Lib.hid hw1
        have HB1 := Lib.hid (show Below wr.heap.size wr w1 by rw [hw1]; exact (Below.refl _ _).alloc (Nat.le_refl _) _)
        have HSM := Lib.hid (hsm.below HB1.out)
        obtain ⟨x, hxr⟩ : ∃ x, recB s kk v l = x := ⟨_, rfl⟩
        have HXR := Lib.hid hxr
        clear hx hsm hxr hw1
        cases x
        · go_wp2_with (go_at_call 53; rw [← HW1.out]; ((with_reducible refine (iv_impl s kk v a' c' l _ _ HXR.out HSM.out).mono ?_); rintro e w2 ⟨rfl, hb⟩; have HB2 := Lib.hid (HB1.out.trans (hb.mono HB1.out.size)); clear hb))
          go_ret
          have e := HR.out
          rw [good_bad (List.mem_of_getElem? HX.out) HXR.out] at e
          subst e
          exact ⟨rfl, HB.out.trans (HB2.out.mono HB.out.size)⟩
        · go_wp2_with (go_at_call 53; rw [← HW1.out]; ((with_reducible refine (iv_impl s kk v a' c' l _ _ HXR.out HSM.out).mono ?_); rintro e w2 ⟨rfl, hb⟩; have HB2 := Lib.hid (HB1.out.trans (hb.mono HB1.out.size)); clear hb))
          go_roundw
          case rel => exact ⟨k + 1, by omega, by go_num, HA.out.succ HX.out HXR.out, HB.out.trans (HB2.out.mono HB.out.size)⟩
          case measure => simp [intOf]; omega
      · obtain rfl : k = S.length := by omega
        go_wp2
        go_ret
        have e := HR.out
        rw [HA.out.all, decide_eq_true h12] at e
        subst e
        exact ⟨rfl, HB.out⟩
  · have h12' : (12 : Int) < S.length := by omega
    go_enter Tryz.func82, Tryz.ntmps82
    go_wp2
    go_ret
    have e := HR.out
    rw [good_many (by omega)] at e
    subst e
    exact ⟨rfl, Below.refl _ _⟩

end Go.Proofs.YtebddnjccmaimaaGreatDoor
