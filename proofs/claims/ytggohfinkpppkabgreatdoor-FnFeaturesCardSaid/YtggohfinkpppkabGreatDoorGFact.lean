/-
  Texts laid together: Feat, NsFacts, EqTokS, SimFacts, PairM. By an AI agent.
-/
import Derived.Test.YtggohfinkpppkabGreatDoorGMem
import Derived.Test.YtggohfinkpppkabGreatDoorNumS
import Derived.Test.YtggohfinkpppkabGreatDoorSim
import Derived.Test.YtggohfinkpppkabGreatDoorPairS
/-
  What IsFeatureVector and DominatesFeatures answer, on both sides, for lists of at most 4,000,000 integers. By an AI agent.
-/
namespace Go.Proofs.YtggohfinkpppkabGreatDoor
open Go.RowKit
set_option linter.unusedVariables false

/-- a feature vector -/
def fvB (l : List Int) : Bool := decide (l.length = 6) && withinB 0 1000 l
theorem fv_bad {l : List Int} (h : withinB 0 1000 l = false) : fvB l = false := by unfold fvB; rw [h, Bool.and_false]
theorem fv_len {l : List Int} (h : l.length ≠ 6) : fvB l = false := by unfold fvB; rw [decide_eq_false h, Bool.false_and]
theorem fv_ok {l : List Int} (h : l.length = 6) (h2 : withinB 0 1000 l = true) : fvB l = true := by unfold fvB; rw [decide_eq_true h, h2]; rfl
theorem fv_of {l : List Int} (h : fvB l = true) : l.length = 6 ∧ withinB 0 1000 l = true := by
  unfold fvB at h
  simpa using h

set_option maxRecDepth 100000 in
theorem fv_impl (a : Option Addr) (cap : Nat) (l : List Int) (r : Bool) (w : World) (hl : l.length ≤ 4000000) (hin : InI w a l) (hr : fvB l = r) :
    Calls Tryz.prog 13 #[.slice a l.length cap] w fun e w' => e = .returned (.bool r) ∧ w = w' := by
  have HR := Lib.hid hr
  have HIN := Lib.hid hin
  clear hr hin
  by_cases h6 : l.length = 6
  · have HRW := Lib.hid (show withinB 0 1000 l = r by rw [← HR.out]; unfold fvB; rw [decide_eq_true h6, Bool.true_and])
    have h6' : ((l.length : Int) == 6) = true := by simp; omega
    have H6 := Lib.hid h6
    clear h6
    go_enter Tryz.func13, Tryz.ntmps13
    go_wp2_with (go_at_call 37; ((with_reducible refine (within_is 0 1000 a cap l r _ hl HIN.out HRW.out).mono ?_); rintro e w' ⟨rfl, rfl⟩))
    go_ret
    exact ⟨rfl, rfl⟩
  · obtain rfl : r = false := by rw [← HR.out, fv_len h6]
    have h6' : ((l.length : Int) == 6) = false := by simp; omega
    go_enter Tryz.func13, Tryz.ntmps13
    go_wp2
    go_ret
    exact ⟨rfl, rfl⟩

/-- the first k features of l are at least those of m -/
def leT (l m : List Int) (k : Nat) : Bool := (List.range k).all fun i => decide (m.getD i 0 ≤ l.getD i 0)
theorem leT_zero (l m : List Int) : leT l m 0 = true := by simp [leT]
theorem leT_succ {l m : List Int} {k : Nat} (h : leT l m k = true) (hk : m.getD k 0 ≤ l.getD k 0) : leT l m (k + 1) = true := by
  unfold leT at h ⊢
  rw [List.range_succ, List.all_append, h]
  simpa using hk
theorem leT_no {l m : List Int} {k n : Nat} (hn : k < n) (hk : l.getD k 0 < m.getD k 0) : leT l m n = false := by
  rw [Bool.eq_false_iff]
  intro e
  have h1 := List.all_eq_true.1 e k (List.mem_range.2 hn)
  have h2 := of_decide_eq_true h1
  omega

/-- the answer -/
def domB (l m : List Int) : Bool := fvB l && fvB m && leT l m 6
theorem dom_bad1 {l m : List Int} (h : fvB l = false) : domB l m = false := by unfold domB; rw [h]; rfl
theorem dom_bad2 {l m : List Int} (h : fvB m = false) : domB l m = false := by unfold domB; rw [h]; cases fvB l <;> rfl
theorem dom_is {l m : List Int} (h1 : fvB l = true) (h2 : fvB m = true) : domB l m = leT l m 6 := by unfold domB; rw [h1, h2]; rfl
theorem dom_less {l m : List Int} {k : Nat} (h1 : k < l.length) (h2 : k < m.length) (hk : l.getD k 0 < m.getD k 0) : domB l m = false := by
  cases e1 : fvB l with
  | false => exact dom_bad1 e1
  | true =>
    cases e2 : fvB m with
    | false => exact dom_bad2 e2
    | true => rw [dom_is e1 e2, leT_no (show k < 6 by have := (fv_of e1).1; omega) hk]
theorem dom_end {l m : List Int} {k : Nat} (h1 : ¬ (k < l.length ∧ k < m.length)) (hk : k ≤ l.length ∧ k ≤ m.length) (h : leT l m k = true) : domB l m = (fvB l && fvB m) := by
  cases e1 : fvB l with
  | false => exact dom_bad1 e1
  | true =>
    cases e2 : fvB m with
    | false => exact dom_bad2 e2
    | true =>
      obtain rfl : k = 6 := by have := (fv_of e1).1; have := (fv_of e2).1; omega
      rw [dom_is e1 e2, h]; rfl
theorem getD_is {l : List Int} {k : Nat} {x : Int} (h : l[k]? = some x) : l.getD k 0 = x := by rw [List.getD_eq_getElem?_getD, h]; rfl
theorem quiet_f (B : Nat) (w : World) (n : Nat) : Below B w (w.drewN n) := ⟨rfl, rfl, rfl, Nat.le_refl _, fun _ _ => rfl⟩

end Go.Proofs.YtggohfinkpppkabGreatDoor

/-
  Scores of numbers are symmetric and lie within 0 to 1000. By an AI agent.
-/
namespace Go.Proofs.YtggohfinkpppkabGreatDoor
open Go.RowKit
set_option linter.unusedVariables false

theorem difI_symm (a b : Int) : difI a b = difI b a := by
  unfold difI
  (repeat' split) <;> omega
theorem difI_nonneg (a b : Int) : 0 ≤ difI a b := by
  unfold difI
  split <;> omega
theorem nsR_symm (a b s : Int) : nsR a b s = nsR b a s := by
  unfold nsR
  rw [difI_symm a b, show (okN a && (okN b && okC s)) = (okN b && (okN a && okC s)) by cases okN a <;> cases okN b <;> rfl]
theorem nsR_range (a b s : Int) : 0 ≤ nsR a b s ∧ nsR a b s ≤ 1000 := by
  unfold nsR
  split
  · rename_i h
    rw [Bool.and_eq_true, Bool.and_eq_true] at h
    obtain ⟨s0, s1⟩ := okC_yes h.2.2
    split
    · omega
    · rename_i h2
      have hd := difI_nonneg a b
      refine ⟨Int.ediv_nonneg (by omega) (by omega), ?_⟩
      have h3 : 1000 * (s - difI a b) / s ≤ 1000 * s / s := Int.ediv_le_ediv (by omega) (by omega)
      rw [Int.mul_ediv_cancel _ (by omega)] at h3
      exact h3
  · omega

end Go.Proofs.YtggohfinkpppkabGreatDoor

/-
  What spec.EqualTokens answers at any two lists. By an AI agent.
-/
namespace Go.Proofs.YtggohfinkpppkabGreatDoor
open Go.RowKit
set_option linter.unusedVariables false

def eqB (l m : List Str) : Bool := decide (l = m)

theorem str_ne {x y : Str} {s t : ByteArray} (hs : s.data.toList = x) (ht : t.data.toList = y) (h : x ≠ y) : (s.toList == t.toList) = false := by
  rw [ByteArray.toList_eq, ByteArray.toList_eq, hs, ht]
  simpa using h

theorem ret_bool {a b : Bool} (h : a = b) : Ending.returned (.bool a) = .returned (.bool b) := by rw [h]

theorem eqB_same {l m : List Str} (hn : l.length = m.length) (h : ∀ j, j < l.length → l[j]? = m[j]?) : eqB l m = true := by
  unfold eqB
  refine decide_eq_true (List.ext_getElem? fun j => ?_)
  by_cases hj : j < l.length
  · exact h j hj
  · rw [List.getElem?_eq_none (by omega), List.getElem?_eq_none (by omega)]
theorem eqB_other {l m : List Str} {k : Nat} {x y : Str} (hx : l[k]? = some x) (hy : m[k]? = some y) (h : x ≠ y) : eqB l m = false := by
  unfold eqB
  refine decide_eq_false fun e => ?_
  rw [e, hy] at hx
  exact h (Option.some.inj hx).symm
theorem eqB_len {l m : List Str} (h : l.length ≠ m.length) : eqB l m = false := by
  unfold eqB
  exact decide_eq_false fun e => h (by rw [e])

end Go.Proofs.YtggohfinkpppkabGreatDoor

/-
  Facts of the similarities of two lists: symmetric, ordered, 1000 for equal sets alone. By an AI agent.
-/
namespace Go.Proofs.YtggohfinkpppkabGreatDoor
open Go.RowKit
set_option linter.unusedVariables false

theorem sim_comm (a b : List Str) : (tsB a && tsB b) = (tsB b && tsB a) := Bool.and_comm _ _
theorem uni_comm {a b : List Str} : (uniteR a b).length = (uniteR b a).length := by
  have : uniteR a b = uniteR b a := setL_congr fun x => by rw [List.mem_append, List.mem_append]; exact or_comm
  rw [this]
theorem jac_comm (a b : List Str) : jacR b a = jacR a b := by
  unfold jacR
  rw [sim_comm b a]
  cases h : tsB a && tsB b
  · rfl
  · obtain ⟨ha, hb⟩ := pair_yes h
    rw [cc_comm hb ha, uni_comm]
theorem dice_comm (a b : List Str) : diceR b a = diceR a b := by
  unfold diceR
  rw [sim_comm b a]
  cases h : tsB a && tsB b
  · rfl
  · obtain ⟨ha, hb⟩ := pair_yes h
    rw [cc_comm hb ha, Int.add_comm]
theorem cont_comm (a b : List Str) : contR b a = contR a b := by
  unfold contR
  rw [sim_comm b a]
  cases h : tsB a && tsB b
  · rfl
  · obtain ⟨ha, hb⟩ := pair_yes h
    rw [cc_comm hb ha, Int.min_comm]

theorem rat_le {n d m e : Int} (hn : 0 ≤ n) (hd : 0 < d) (he : 0 < e) (h : n * e ≤ m * d) : ratI n d ≤ ratI m e := by
  rw [ratI_some (by omega), ratI_some (by omega), Int.le_ediv_iff_mul_le he]
  have h1 : 1000 * n / d * d ≤ 1000 * n := Int.ediv_mul_le _ (by omega)
  have h2 : 1000 * n / d * d * e ≤ 1000 * n * e := Int.mul_le_mul_of_nonneg_right h1 (by omega)
  have h3 : 1000 * n * e ≤ 1000 * m * d := by rw [Int.mul_assoc, Int.mul_assoc]; omega
  have h4 : 1000 * n / d * e * d ≤ 1000 * m * d := by
    rw [Int.mul_right_comm]
    exact Int.le_trans h2 h3
  exact Int.le_of_mul_le_mul_right h4 hd

theorem jac_dice (a b : List Str) : jacR a b ≤ diceR a b := by
  unfold jacR diceR
  cases h : tsB a && tsB b
  · exact Int.le_refl _
  · obtain ⟨ha, hb⟩ := pair_yes h
    rw [if_pos rfl, if_pos rfl]
    have h1 := unite_count ha hb
    have h2 := cc_le a b
    have h3 := cc_le' ha hb
    obtain ⟨n, hn⟩ : ∃ n, ccN a b = n := ⟨_, rfl⟩
    obtain ⟨u, hu⟩ : ∃ u, (uniteR a b).length = u := ⟨_, rfl⟩
    rw [show (setL (a ++ b)).length = u from hu] at h1
    rw [hn] at h1 h2 h3 ⊢
    rw [hu]
    by_cases h0 : u = 0
    · rw [ratI_zero (by omega), ratI_zero (by omega)]
      exact Int.le_refl _
    · refine rat_le (by omega) (by omega) (by omega) ?_
      have e1 : (a.length : Int) + (b.length : Int) = (u : Int) + (n : Int) := by omega
      rw [e1, Int.mul_add, Int.mul_assoc, Int.two_mul]
      have h5 : (n : Int) * (n : Int) ≤ (n : Int) * (u : Int) := Int.mul_le_mul_of_nonneg_left (by omega) (by omega)
      omega
theorem dice_cont (a b : List Str) : diceR a b ≤ contR a b := by
  unfold diceR contR
  cases h : tsB a && tsB b
  · exact Int.le_refl _
  · obtain ⟨ha, hb⟩ := pair_yes h
    rw [if_pos rfl, if_pos rfl]
    have h2 := cc_le a b
    have h3 := cc_le' ha hb
    obtain ⟨n, hn⟩ : ∃ n, ccN a b = n := ⟨_, rfl⟩
    obtain ⟨m, hm⟩ : ∃ m : Int, min (a.length : Int) (b.length : Int) = m := ⟨_, rfl⟩
    rw [hn] at h2 h3 ⊢
    rw [hm]
    by_cases h0 : m = 0
    · rw [ratI_zero h0]
      by_cases h1 : (a.length : Int) + (b.length : Int) = 0
      · rw [ratI_zero h1]; exact Int.le_refl _
      · obtain rfl : n = 0 := by omega
        rw [ratI_some h1]
        simp
    · refine rat_le (by omega) (by omega) (by omega) ?_
      have h5 : 2 * m ≤ (a.length : Int) + (b.length : Int) := by omega
      have h6 : (n : Int) * (2 * m) ≤ (n : Int) * ((a.length : Int) + (b.length : Int)) := Int.mul_le_mul_of_nonneg_left h5 (by omega)
      rw [show 2 * (n : Int) * m = (n : Int) * (2 * m) by rw [Int.mul_comm 2 (n : Int), Int.mul_assoc]]
      exact h6
theorem ratI_nonneg {n d : Int} (hn : 0 ≤ n) (hd : 0 ≤ d) : 0 ≤ ratI n d := by
  unfold ratI
  split
  · omega
  · exact Int.ediv_nonneg (by omega) hd

theorem cc_full {a b : List Str} (h : ccN a b = a.length) : ∀ x ∈ a, x ∈ b := by
  have h2 := List.length_filter_eq_length_iff.1 h
  intro x hx
  simpa using h2 x hx
theorem cc_self (a : List Str) : ccN a a = a.length := by
  unfold ccN
  rw [List.length_filter_eq_length_iff.2 (fun x hx => by simpa using hx)]
theorem jac_same {a b : List Str} (h : (tsB a && tsB b) = true) : (jacR a b == 1000) = eqB a b := by
  obtain ⟨ha, hb⟩ := pair_yes h
  unfold jacR eqB
  rw [h, if_pos rfl, Bool.eq_iff_iff, beq_iff_eq, decide_eq_true_iff]
  have h1 := unite_count ha hb
  have h2 := cc_le a b
  have h3 := cc_le' ha hb
  obtain ⟨u, hu⟩ : ∃ u, (uniteR a b).length = u := ⟨_, rfl⟩
  rw [show (setL (a ++ b)).length = u from hu] at h1
  rw [hu]
  constructor
  · intro e
    have hn : ccN a b = a.length ∧ ccN a b = b.length := by
      by_cases h0 : u = 0
      · omega
      · rw [ratI_some (by omega)] at e
        have h4 : (1000 : Int) * (u : Int) ≤ 1000 * (ccN a b : Int) := (Int.le_ediv_iff_mul_le (by omega)).1 (Int.le_of_eq e.symm)
        omega
    refine asc_ext ha hb fun x => ⟨fun hx => cc_full hn.1 x hx, fun hx => cc_full (by rw [← cc_comm ha hb]; exact hn.2) x hx⟩
  · rintro rfl
    rw [cc_self] at h1 ⊢
    have hu2 : u = a.length := by omega
    rw [hu2]
    by_cases h0 : (a.length : Int) = 0
    · rw [ratI_zero h0]
    · rw [ratI_some h0, Int.mul_ediv_cancel _ h0]
theorem tok_common {a b : List Str} (h : (tsB a && tsB b) = true) : tsB (commonR a b) = true := by
  rw [Bool.and_eq_true] at h
  refine tsB_yes ⟨fun x hx => ?_, setL_asc _⟩
  have h2 := (setL_mem _ x).1 hx
  exact (tsB_true h.1).1 x (List.mem_filter.1 h2).1
theorem tok_unite {a b : List Str} (h : (tsB a && tsB b) = true) : tsB (uniteR a b) = true := by
  rw [Bool.and_eq_true] at h
  refine tsB_yes ⟨fun x hx => ?_, setL_asc _⟩
  have h2 := (setL_mem _ x).1 hx
  rcases List.mem_append.1 h2 with h2 | h2
  · exact (tsB_true h.1).1 x h2
  · exact (tsB_true h.2).1 x h2
theorem both_lens {a b : List Str} (h : (tsB a && tsB b) = true) : (commonR a b).length + (uniteR a b).length = a.length + b.length := by
  obtain ⟨ha, hb⟩ := pair_yes h
  have h1 := unite_count ha hb
  have h2 := common_count (b := b) ha
  show (setL (a.filter fun x => decide (x ∈ b))).length + (setL (a ++ b)).length = a.length + b.length
  omega
theorem jac_no {a b : List Str} (h : (tsB a && tsB b) = false) : jacR a b = 0 := by unfold jacR; rw [h]; rfl
theorem dice_no {a b : List Str} (h : (tsB a && tsB b) = false) : diceR a b = 0 := by unfold diceR; rw [h]; rfl
theorem cont_no {a b : List Str} (h : (tsB a && tsB b) = false) : contR a b = 0 := by unfold contR; rw [h]; rfl
theorem eqB_refl (a : List Str) : eqB a a = true := by unfold eqB; simp

end Go.Proofs.YtggohfinkpppkabGreatDoor

/-
  Features in plain lists: the same in both orders, within 0 to 1000, full for a record with itself. By an AI agent.
-/
namespace Go.Proofs.YtggohfinkpppkabGreatDoor
open Go.RowKit
set_option linter.unusedVariables false

theorem coll_inv (l : List UInt8) : (collS l).1.length + (if (collS l).1 ≠ [] ∧ (collS l).2 = true then 1 else 0) ≤ l.length := by
  induction l using snoc_ind with
  | h0 => simp [collS]
  | h1 l c ih =>
    rw [collS_snoc]
    unfold cStep
    by_cases hc : c = 32
    · rw [if_pos hc]
      simp only [List.length_append, List.length_cons, List.length_nil]
      split <;> split at ih <;> omega
    · rw [if_neg hc]
      simp only [List.length_append, List.length_cons, List.length_nil]
      by_cases hp : (collS l).1 ≠ [] ∧ (collS l).2 = true
      · rw [if_pos hp] at ih ⊢
        rw [if_neg (fun e => by cases e.2)]
        simp only [List.length_append, List.length_cons, List.length_nil]
        omega
      · rw [if_neg hp] at ih ⊢
        rw [if_neg (fun e => by cases e.2)]
        omega
theorem norm_short (l : List UInt8) : (normL l).length ≤ l.length := by
  have h1 := coll_inv (stripL (foldL l))
  have h2 := stripL_length (foldL l)
  rw [foldL_length] at h2
  unfold normL collL
  omega

theorem es_range (X Y : ByteArray) : 0 ≤ esR (edD false X Y) (max X.size Y.size) ∧ esR (edD false X Y) (max X.size Y.size) ≤ 1000 := by
  have h1 := edD_max false X Y
  unfold esR
  split
  · omega
  · rename_i h0
    split
    · omega
    · rename_i h2
      have hm : 0 < ((max X.size Y.size : Nat) : Int) := by omega
      refine ⟨Int.ediv_nonneg (by omega) (by omega), ?_⟩
      have h3 : 1000 * (((max X.size Y.size : Nat) : Int) - edD false X Y) / ((max X.size Y.size : Nat) : Int) ≤ 1000 * ((max X.size Y.size : Nat) : Int) / ((max X.size Y.size : Nat) : Int) := Int.ediv_le_ediv hm (by omega)
      rw [Int.mul_ediv_cancel _ (by omega)] at h3
      exact h3
theorem edD_symm (X Y : ByteArray) : edD false X Y = edD false Y X := by
  unfold edD
  rw [lev_symm]
  by_cases h : X.size ≤ 40 ∧ Y.size ≤ 40
  · rw [if_pos h, if_pos ⟨h.2, h.1⟩]
  · rw [if_neg h, if_neg (fun e => h ⟨e.2, e.1⟩)]
theorem edR_symm (x y : List UInt8) : edR x y = edR y x := by
  unfold edR
  rw [edD_symm, Nat.max_comm]
  by_cases h : normL x = [] ∨ normL y = []
  · rw [if_pos h, if_pos h.symm]
  · rw [if_neg h, if_neg (fun e => h e.symm)]
theorem edR_range (x y : List UInt8) : 0 ≤ edR x y ∧ edR x y ≤ 1000 := by
  unfold edR
  split
  · omega
  · have h := es_range (nstr (normL x)) (nstr (normL y))
    rw [nstr_size, nstr_size] at h
    exact h
theorem edR_self {x : List UInt8} (h : x.length ≤ 40) (hn : normL x ≠ []) : edR x x = 1000 := by
  have h1 := norm_short x
  have h2 : (normL x).length ≠ 0 := fun e => hn (List.eq_nil_of_length_eq_zero e)
  have h3 : edD false (nstr (normL x)) (nstr (normL x)) = 0 := by
    rw [edD_yes (by rw [nstr_size]; omega) (by rw [nstr_size]; omega), lev_same]
    rfl
  unfold edR
  rw [if_neg (by rintro (e | e) <;> exact hn e), h3, Nat.max_self]
  unfold esR
  rw [if_neg (by omega), if_neg h2, Int.sub_zero, Int.mul_ediv_cancel _ (by omega)]

theorem jac_range (A B : List Str) : 0 ≤ jacR A B ∧ jacR A B ≤ 1000 := by
  cases h : tsB A && tsB B with
  | false => rw [jac_no h]; omega
  | true =>
    obtain ⟨ha, hb⟩ := pair_yes h
    have h1 := unite_count ha hb
    have h2 := cc_le A B
    have h3 := cc_le' ha hb
    obtain ⟨u, hu⟩ : ∃ u, (uniteR A B).length = u := ⟨_, rfl⟩
    rw [show (setL (A ++ B)).length = u from hu] at h1
    unfold jacR
    rw [h, if_pos rfl, hu]
    refine ⟨ratI_nonneg (by omega) (by omega), ?_⟩
    unfold ratI
    split
    · omega
    · rename_i h0
      have h4 : 1000 * ((ccN A B : Nat) : Int) / (u : Int) ≤ 1000 * (u : Int) / (u : Int) := Int.ediv_le_ediv (by omega) (by omega)
      rw [Int.mul_ediv_cancel _ h0] at h4
      exact h4
theorem setR_symm (A B : List Str) : setR A B = setR B A := by
  unfold setR
  rw [jac_comm]
  by_cases h : A.length = 0 ∨ B.length = 0
  · rw [if_pos h, if_pos h.symm]
  · rw [if_neg h, if_neg (fun e => h e.symm)]
theorem setR_range (A B : List Str) : 0 ≤ setR A B ∧ setR A B ≤ 1000 := by
  unfold setR
  split
  · omega
  · exact jac_range A B
theorem wS_spaces (l : List UInt8) : (wS l).1 = [] → (wS l).2 = [] → ∀ c ∈ l, c = 32 := by
  induction l using snoc_ind with
  | h0 => intro _ _ c hc; cases hc
  | h1 l c ih =>
    rw [wS_snoc]
    unfold wStep
    by_cases hc : c = 32
    · rw [if_pos hc]
      by_cases hp : (wS l).2 = []
      · rw [if_pos hp]
        intro h1 h2 d hd
        rcases List.mem_append.1 hd with h | h
        · exact ih h1 h2 d h
        · rw [List.mem_singleton.1 h]; exact hc
      · rw [if_neg hp]
        intro h1
        simp at h1
    · rw [if_neg hc]
      intro _ h2
      simp at h2
theorem toks_full {x : List UInt8} (hn : normL x ≠ []) : (tokensR x).length ≠ 0 := by
  intro e
  have e1 : toksL x = [] := List.eq_nil_of_length_eq_zero e
  have e2 : wordsL (normL x) = [] := by
    cases h : wordsL (normL x) with
    | nil => rfl
    | cons y ys =>
      have h1 := (setL_mem (wordsL (normL x)) y).2 (by rw [h]; exact List.mem_cons_self ..)
      unfold toksL at e1
      rw [e1] at h1
      cases h1
  have e3 : (wS (normL x)).1 = [] ∧ (wS (normL x)).2 = [] := by
    unfold wordsL at e2
    split at e2
    · rename_i h
      exact ⟨e2, h⟩
    · simp at e2
  have h4 := wS_spaces _ e3.1 e3.2
  have hg := norm_good x
  cases h : normL x with
  | nil => exact hn h
  | cons c r =>
    have h5 := h4 c (by rw [h]; exact List.mem_cons_self ..)
    have h6 := (hg 0 (by rw [h, h5]; rfl)).1
    omega
theorem setR_self {x : List UInt8} (hn : normL x ≠ []) : setR (tokensR x) (tokensR x) = 1000 := by
  have h0 := toks_full hn
  have ht : tsB (tokensR x) = true := tsB_yes (toks_tok x)
  have h1 := jac_same (a := tokensR x) (b := tokensR x) (by rw [ht]; rfl)
  rw [eqB_refl, beq_iff_eq] at h1
  unfold setR
  rw [if_neg (by rintro (e | e) <;> exact h0 e), h1]
theorem yr_top (l : List UInt8) : yrR l ≤ 9999 := by
  by_cases h : ∃ y, YrOk l y
  · obtain ⟨y, hy⟩ := h
    rw [yrR_of hy]
    obtain ⟨n, ok, h1, rfl⟩ := hy
    split
    · omega
    · omega
  · unfold yrR
    rw [dif_neg h]
    omega
theorem yearR_symm (x y : List UInt8) : yearR x y = yearR y x := by
  unfold yearR
  rw [nsR_symm]
  by_cases h : yrR x = 0 ∨ yrR y = 0
  · rw [if_pos h, if_pos h.symm]
  · rw [if_neg h, if_neg (fun e => h e.symm)]
theorem yearR_range (x y : List UInt8) : 0 ≤ yearR x y ∧ yearR x y ≤ 1000 := by
  unfold yearR
  split
  · omega
  · exact nsR_range _ _ _
theorem yearR_self {x : List UInt8} (h : 0 < yrR x) : yearR x x = 1000 := by
  have h1 := yr_top x
  have h2 : okN (yrR x) = true := by unfold okN; simp; omega
  have h3 : okC 10 = true := by decide
  unfold yearR
  rw [if_neg (by rintro (e | e) <;> omega)]
  unfold nsR
  rw [h2, h3, difI_self]
  rfl
theorem phR_range (x y : List UInt8) : 0 ≤ phR x y ∧ phR x y ≤ 1000 := by
  unfold phR phN
  (repeat' split) <;> omega

theorem feats_symm (l m : List Str) : featsL l m = featsL m l := by
  unfold featsL
  rw [edR_symm, setR_symm, setR_symm (soundR _), edR_symm (l.getD 1 []), yearR_symm, phR_symm]
theorem pair_symm (s0 k0 v0 : Int) (l0 : List Str) (s1 k1 v1 : Int) (l1 : List Str) : pairR s0 k0 v0 l0 s1 k1 v1 l1 = pairR s1 k1 v1 l1 s0 k0 v0 l0 := by
  unfold pairR
  rw [feats_symm]
  by_cases h : recB s0 k0 v0 l0 = true ∧ recB s1 k1 v1 l1 = true
  · rw [if_pos h, if_pos h.symm]
  · rw [if_neg h, if_neg (fun e => h e.symm)]
theorem feats_fv (l m : List Str) : fvB (featsL l m) = true := by
  refine fv_ok rfl ?_
  unfold withinB featsL
  have h0 := edR_range (l.getD 0 []) (m.getD 0 [])
  have h1 := setR_range (tokensR (l.getD 0 [])) (tokensR (m.getD 0 []))
  have h2 := setR_range (soundR (l.getD 0 [])) (soundR (m.getD 0 []))
  have h3 := edR_range (l.getD 1 []) (m.getD 1 [])
  have h4 := yearR_range (l.getD 2 []) (m.getD 2 [])
  have h5 := phR_range (digL (l.getD 3 [])) (digL (m.getD 3 []))
  simp only [List.all_cons, List.all_nil, Bool.and_true, Bool.and_eq_true, decide_eq_true_eq]
  exact ⟨h0, h1, h2, h3, h4, h5⟩
theorem pair_none {s0 k0 v0 : Int} {l0 : List Str} {s1 k1 v1 : Int} {l1 : List Str} (h : pairR s0 k0 v0 l0 s1 k1 v1 l1 = []) : ¬ (recB s0 k0 v0 l0 = true ∧ recB s1 k1 v1 l1 = true) := by
  intro e
  rw [pair_yes' e.1 e.2] at h
  cases h

end Go.Proofs.YtggohfinkpppkabGreatDoor

