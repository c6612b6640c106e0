/-
  The format of decision rules, in plain lists. By an AI agent.
-/
import Derived.Test.YtknkhljegmielaaDoorPlainRul
import Derived.Test.YtknkhljegmielaaDoorFeatN
import Derived.Test.YtknkhljegmielaaDoorSplitL
import Derived.Test.YtknkhljegmielaaDoorGMem
import Derived.Lib.ItoaLen
namespace Go.Proofs.YtknkhljegmielaaDoor
open Go.RowKit
set_option linter.unusedVariables false

def marL (u : Bool) : Str := if u then [60] else [62, 61]
def marR (u : Bool) : ByteArray := if u then ⟨#[60]⟩ else ⟨#[62, 61]⟩
def tsL (t : TS) : Str := (fnL t.1.1 ++ marL t.2) ++ Lib.itoa t.1.2
def ruL (l : List TS) : Str := Lib.join (l.map tsL) [44]
abbrev orS : Str := [32, 111, 114, 32]
def rsL (R : List (List TS)) : Str := Lib.join (R.map ruL) orS
def rsR (R : List (List TS)) : ByteArray := if vsB R = true then strOf (rsL R) else ⟨#[]⟩
theorem rsR_yes {R : List (List TS)} (h : vsB R = true) : rsR R = strOf (rsL R) := if_pos h
theorem rsR_no {R : List (List TS)} (h : vsB R = false) : rsR R = ⟨#[]⟩ := if_neg (by rw [h]; exact Bool.false_ne_true)

theorem tailG_cons (s : Str) (y : Str) (L : List Str) : Lib.joinTail s (y :: L) = s ++ (y ++ Lib.joinTail s L) := by simp [Lib.joinTail]
theorem tailG_len (s : Str) (B : Nat) : ∀ (L : List Str), (∀ y ∈ L, y.length ≤ B) → (Lib.joinTail s L).length ≤ (B + s.length) * L.length
  | [], _ => by simp [Lib.joinTail]
  | x :: l, h => by
    have h1 := tailG_len s B l (fun y hy => h y (List.mem_cons_of_mem _ hy))
    have h2 := h x (List.mem_cons_self ..)
    rw [tailG_cons]
    simp only [List.length_append, List.length_cons, Nat.mul_succ]
    omega
theorem joinG_len {s : Str} {B : Nat} {L : List Str} (h : ∀ y ∈ L, y.length ≤ B) : (Lib.join L s).length ≤ (B + s.length) * L.length := by
  cases L with
  | nil => simp [Lib.join_nil]
  | cons x l =>
    rw [Lib.join_cons]
    have h1 := tailG_len s B l (fun y hy => h y (List.mem_cons_of_mem _ hy))
    have h2 := h x (List.mem_cons_self ..)
    simp only [List.length_append, List.length_cons, Nat.mul_succ]
    omega
theorem joinG_snoc {s : Str} {L : List Str} {k : Nat} {y : Str} (h : L[k]? = some y) (hk : 0 < k) : Lib.join (L.take (k + 1)) s = Lib.join (L.take k) s ++ s ++ y := by
  cases L with
  | nil => simp at h
  | cons x r =>
    obtain ⟨j, rfl⟩ : ∃ j, k = j + 1 := ⟨k - 1, by omega⟩
    have h1 : r[j]? = some y := by simpa using h
    rw [List.take_succ_cons, List.take_succ_cons, Lib.join_cons, Lib.join_cons, Lib.joinTail_take_succ _ _ _ _ h1]
    simp [List.append_assoc]
theorem joinG_first {s : Str} {L : List Str} {y : Str} (h : L[0]? = some y) : Lib.join (L.take 1) s = y := by
  cases L with
  | nil => simp at h
  | cons x r =>
    simp at h
    subst h
    exact Lib.join_one _ _

theorem fnL_len (n : Int) : (fnL n).length ≤ 6 := by
  unfold fnL
  repeat' split
  all_goals decide
theorem fnR_size (n : Int) : (fnR n).size ≤ 6 := fnL_len n
theorem marL_len (u : Bool) : (marL u).length ≤ 2 := by cases u <;> decide
theorem tsL_len {t : TS} (h : vtB t = true) : (tsL t).length ≤ 29 := by
  have h1 := vt_of h
  have h2 := fnL_len t.1.1
  have h3 := marL_len t.2
  have h4 := Lib.itoa_length_le t.1.2 (by omega) (by omega)
  unfold tsL
  simp only [List.length_append]
  omega
theorem tsL_small {l : List TS} (h : vrB l = true) : ∀ y ∈ l.map tsL, y.length ≤ 29 := by
  intro y hy
  obtain ⟨t, ht, rfl⟩ := List.mem_map.1 hy
  exact tsL_len (vr_test h ht)
theorem ruL_len {l : List TS} (h : vrB l = true) : (ruL l).length ≤ 90 := by
  have h1 := joinG_len (s := [44]) (tsL_small h)
  have h2 := (vr_len h).2
  rw [List.length_map] at h1
  have h3 : (29 + ([44] : Str).length) * l.length ≤ 30 * 3 := Nat.mul_le_mul_left 30 h2
  unfold ruL
  omega
theorem ruL_small {R : List (List TS)} (h : vsB R = true) : ∀ y ∈ R.map ruL, y.length ≤ 90 := by
  intro y hy
  obtain ⟨l, hl, rfl⟩ := List.mem_map.1 hy
  exact ruL_len (vs_rule h hl)
theorem rsL_len {R : List (List TS)} (h : vsB R = true) : (rsL R).length ≤ 282 := by
  have h1 := joinG_len (s := orS) (ruL_small h)
  have h2 := (vs_len h).2
  rw [List.length_map] at h1
  have h3 : (90 + orS.length) * R.length ≤ 94 * 3 := Nat.mul_le_mul_left 94 h2
  unfold rsL
  omega

/-- the text behind k rules -/
def rsT (R : List (List TS)) (k : Nat) : ByteArray := strOf (Lib.join ((R.map ruL).take k) orS)
/-- what stands ahead of rule k -/
def preT (R : List (List TS)) (k : Nat) : Str := if k = 0 then [] else Lib.join ((R.map ruL).take k) orS ++ orS
/-- the text behind j tests of rule k -/
def utT (R : List (List TS)) (k : Nat) (l : List TS) (j : Nat) : ByteArray := strOf (preT R k ++ Lib.join ((l.map tsL).take j) [44])
theorem rsT_zero (R : List (List TS)) : rsT R 0 = ⟨#[]⟩ := rfl
theorem rsT_all {R : List (List TS)} (h : vsB R = true) : rsT R R.length = rsR R := by
  unfold rsT
  rw [List.take_of_length_le (by simp), rsR_yes h]
  rfl
theorem utT_zero0 (R : List (List TS)) (l : List TS) : utT R 0 l 0 = ⟨#[]⟩ := rfl
theorem utT_zero {R : List (List TS)} {k : Nat} {l : List TS} (hk : 0 < k) : rsT R k ++ ⟨#[32, 111, 114, 32]⟩ = utT R k l 0 := by
  unfold rsT utT preT
  show strOf _ ++ strOf orS = _
  rw [strOf_append, if_neg (by omega)]
  simp [Lib.join_nil]
theorem utT_all {R : List (List TS)} {k : Nat} {l : List TS} (h : R[k]? = some l) : utT R k l l.length = rsT R (k + 1) := by
  have h1 : (R.map ruL)[k]? = some (ruL l) := by rw [List.getElem?_map, h]; rfl
  unfold utT rsT preT
  rw [show (l.map tsL).take l.length = l.map tsL from List.take_of_length_le (by simp)]
  by_cases h0 : k = 0
  · subst h0
    rw [if_pos rfl, joinG_first h1]
    rfl
  · rw [if_neg h0, joinG_snoc h1 (by omega)]
    rfl
theorem ts_str {t : TS} {N s : ByteArray} (hN : fnR t.1.1 = N) (hs : strOf (Lib.itoa t.1.2) = s) : (N ++ marR t.2) ++ s = strOf (tsL t) := by
  have hm : marR t.2 = strOf (marL t.2) := by cases t.2 <;> rfl
  rw [← hN, ← hs, hm]
  show (strOf (fnL t.1.1) ++ strOf _) ++ strOf _ = _
  rw [strOf_append, strOf_append]
  rfl
theorem utT_first {R : List (List TS)} {k : Nat} {l : List TS} {t : TS} {u N s : ByteArray} (ht : l[0]? = some t) (hu : utT R k l 0 = u) (hN : fnR t.1.1 = N) (hs : strOf (Lib.itoa t.1.2) = s) : ((u ++ N) ++ marR t.2) ++ s = utT R k l 1 := by
  have h1 : (l.map tsL)[0]? = some (tsL t) := by rw [List.getElem?_map, ht]; rfl
  have e : ((u ++ N) ++ marR t.2) ++ s = u ++ ((N ++ marR t.2) ++ s) := by simp only [ByteArray.append_assoc]
  rw [e, ts_str hN hs, ← hu]
  unfold utT
  rw [strOf_append, joinG_first h1]
  simp [Lib.join_nil]
theorem utT_next {R : List (List TS)} {k j : Nat} {l : List TS} {t : TS} {u N s : ByteArray} (hj : 0 < j) (ht : l[j]? = some t) (hu : utT R k l j = u) (hN : fnR t.1.1 = N) (hs : strOf (Lib.itoa t.1.2) = s) : (((u ++ ⟨#[44]⟩) ++ N) ++ marR t.2) ++ s = utT R k l (j + 1) := by
  have h1 : (l.map tsL)[j]? = some (tsL t) := by rw [List.getElem?_map, ht]; rfl
  have e : (((u ++ ⟨#[44]⟩) ++ N) ++ marR t.2) ++ s = (u ++ strOf [44]) ++ ((N ++ marR t.2) ++ s) := by
    show (((u ++ strOf [44]) ++ N) ++ marR t.2) ++ s = _
    simp only [ByteArray.append_assoc]
  rw [e, ts_str hN hs, ← hu]
  unfold utT
  rw [strOf_append, strOf_append, joinG_snoc h1 hj]
  simp [List.append_assoc]
theorem preT_len {R : List (List TS)} (h : vsB R = true) (k : Nat) : (preT R k).length ≤ 286 := by
  unfold preT
  split
  · simp
  · have h1 := joinG_len (s := orS) (L := (R.map ruL).take k) (fun y hy => ruL_small h y (List.mem_of_mem_take hy))
    have h2 : ((R.map ruL).take k).length ≤ 3 := by rw [List.length_take, List.length_map]; have := (vs_len h).2; omega
    have h3 : (90 + orS.length) * ((R.map ruL).take k).length ≤ 94 * 3 := Nat.mul_le_mul_left 94 h2
    rw [List.length_append]
    have : orS.length = 4 := rfl
    omega
theorem utT_size {R : List (List TS)} {l : List TS} (h : vsB R = true) (hl : vrB l = true) (k j : Nat) : (utT R k l j).size ≤ 400 := by
  unfold utT
  rw [strOf_size, List.length_append]
  have h0 := preT_len h k
  have h1 := joinG_len (s := [44]) (L := (l.map tsL).take j) (fun y hy => tsL_small hl y (List.mem_of_mem_take hy))
  have h2 : ((l.map tsL).take j).length ≤ 3 := by rw [List.length_take, List.length_map]; have := (vr_len hl).2; omega
  have h3 : (29 + ([44] : Str).length) * ((l.map tsL).take j).length ≤ 30 * 3 := Nat.mul_le_mul_left 30 h2
  omega
theorem rsT_size {R : List (List TS)} (h : vsB R = true) (k : Nat) : (rsT R k).size ≤ 400 := by
  unfold rsT
  rw [strOf_size]
  have h1 := joinG_len (s := orS) (L := (R.map ruL).take k) (fun y hy => ruL_small h y (List.mem_of_mem_take hy))
  have h2 : ((R.map ruL).take k).length ≤ 3 := by rw [List.length_take, List.length_map]; have := (vs_len h).2; omega
  have h3 : (90 + orS.length) * ((R.map ruL).take k).length ≤ 94 * 3 := Nat.mul_le_mul_left 94 h2
  omega

end Go.Proofs.YtknkhljegmielaaDoor
