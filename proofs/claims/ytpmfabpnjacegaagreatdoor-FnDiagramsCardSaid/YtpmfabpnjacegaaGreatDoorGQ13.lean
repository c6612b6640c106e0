/-
  Texts laid together: SplitL, PlainFmtR, PiR, FeatP, PlainPrs, PrsL. By an AI agent.
-/
import Derived.Test.YtpmfabpnjacegaaGreatDoorGQ12
import Derived.Lib.Join
import Derived.Lib.Split
import Derived.Test.YtpmfabpnjacegaaGreatDoorGQ1
import Derived.Test.YtpmfabpnjacegaaGreatDoorGQ10
import Derived.Lib.ItoaLen
import Derived.Test.YtpmfabpnjacegaaGreatDoorGQ7
import Derived.Deep.AppendLies
/-
  Splitting and joining, in plain lists. By an AI agent.
-/
namespace Go.Proofs.YtpmfabpnjacegaaGreatDoor
open Go.RowKit
set_option linter.unusedVariables false

theorem ix_none {c : UInt8} : ∀ {s : Str}, c ∉ s → Lib.index s [c] = -1
  | [], _ => rfl
  | b :: s, h => by
    have h1 := ix_none (c := c) (s := s) (fun e => h (List.mem_cons_of_mem _ e))
    have h2 : c ≠ b := fun e => h (by rw [e]; exact List.mem_cons_self ..)
    have h3 : ([c] : Str).isPrefixOf (b :: s) = false := by simp [List.isPrefixOf, h2]
    rw [Lib.index, h3, h1]
    rfl
theorem ix_at {c : UInt8} (y : Str) : ∀ {x : Str}, c ∉ x → Lib.index (x ++ c :: y) [c] = (x.length : Nat)
  | [], _ => by
    have h3 : ([c] : Str).isPrefixOf (c :: y) = true := by simp [List.isPrefixOf]
    rw [List.nil_append, Lib.index, h3]
    rfl
  | b :: x, h => by
    have h1 := ix_at y (c := c) (x := x) (fun e => h (List.mem_cons_of_mem _ e))
    have h2 : c ≠ b := fun e => h (by rw [e]; exact List.mem_cons_self ..)
    have h3 : ([c] : Str).isPrefixOf (b :: (x ++ c :: y)) = false := by simp [List.isPrefixOf, h2]
    rw [List.cons_append, Lib.index, h3, h1]
    have h4 : ¬ ((x.length : Nat) : Int) = -1 := by omega
    simp [h4]
theorem first_of (c : UInt8) : ∀ s : Str, c ∉ s ∨ ∃ x y, s = x ++ c :: y ∧ c ∉ x
  | [] => .inl (by simp)
  | b :: s => by
    by_cases hb : c = b
    · exact .inr ⟨[], s, by rw [hb]; rfl, by simp⟩
    · rcases first_of c s with h | ⟨x, y, rfl, h⟩
      · exact .inl (by simp [hb, h])
      · exact .inr ⟨b :: x, y, rfl, by simp [hb, h]⟩

theorem tail_nil (c : UInt8) : Lib.joinTail [c] [] = [] := rfl
theorem tail_cons (c : UInt8) (y : Str) (L : List Str) : Lib.joinTail [c] (y :: L) = c :: (y ++ Lib.joinTail [c] L) := by simp [Lib.joinTail]

theorem split_back (c : UInt8) : ∀ (k : Nat) (s : Str), ∃ x L, Lib.splitK [c] 0 k s = x :: L ∧ s = x ++ Lib.joinTail [c] L
  | 0, s => ⟨s, [], rfl, by simp [Lib.joinTail]⟩
  | k + 1, s => by
    rcases first_of c s with h | ⟨x, y, rfl, h⟩
    · refine ⟨s, [], ?_, by simp [Lib.joinTail]⟩
      rw [Lib.splitK, ix_none h]
      rfl
    · obtain ⟨z, L, h1, h2⟩ := split_back c k y
      refine ⟨x, z :: L, ?_, by rw [tail_cons, ← h2]⟩
      have h4 : ¬ ((x.length : Nat) : Int) = -1 := by omega
      rw [Lib.splitK, ix_at y h, ← h1]
      simp [h4]
theorem split_fwd (c : UInt8) : ∀ (L : List Str) (k : Nat) (x : Str), L.length ≤ k → c ∉ x → (∀ y ∈ L, c ∉ y) → Lib.splitK [c] 0 k (x ++ Lib.joinTail [c] L) = x :: L
  | [], k, x, _, hx, _ => by
    rw [tail_nil, List.append_nil]
    cases k with
    | zero => rfl
    | succ k => rw [Lib.splitK, ix_none hx]; rfl
  | y :: L, k, x, hk, hx, hL => by
    obtain ⟨k, rfl⟩ : ∃ k', k = k' + 1 := ⟨k - 1, by simp at hk; omega⟩
    have h1 := split_fwd c L k y (by simp at hk; omega) (hL y (List.mem_cons_self ..)) (fun z hz => hL z (List.mem_cons_of_mem _ hz))
    have h4 : ¬ ((x.length : Nat) : Int) = -1 := by omega
    rw [tail_cons, Lib.splitK, ix_at _ hx, ← h1]
    simp [h4]

theorem cut_at (c : UInt8) {x : Str} (y : Str) (h : c ∉ x) : Lib.cut (x ++ c :: y) [c] = (x, y, true) := by
  have h4 : (0 : Int) ≤ ((x.length : Nat) : Int) := by omega
  unfold Lib.cut
  rw [ix_at y h, if_pos h4]
  simp
theorem cut_not (c : UInt8) {s : Str} (h : c ∉ s) : Lib.cut s [c] = (s, [], false) := by
  unfold Lib.cut
  rw [ix_none h, if_neg (by decide)]

theorem fold_off (c : UInt8) : ∀ (l : Str) (P : List Str) (q : Str), c ∉ l → l.foldl (kStep c) (P, q) = (P, q ++ l)
  | [], P, q, _ => by simp
  | b :: l, P, q, h => by
    have h2 : b ≠ c := fun e => h (by rw [e]; exact List.mem_cons_self ..)
    have h1 := fold_off c l P (q ++ [b]) (fun e => h (List.mem_cons_of_mem _ e))
    rw [List.foldl_cons]
    unfold kStep at h1 ⊢
    rw [if_neg h2, h1]
    simp
theorem fold_tail (c : UInt8) : ∀ (L : List Str) (P : List Str) (q : Str), (∀ y ∈ L, c ∉ y) → ((Lib.joinTail [c] L).foldl (kStep c) (P, q)).1 ++ [((Lib.joinTail [c] L).foldl (kStep c) (P, q)).2] = P ++ q :: L
  | [], P, q, _ => by simp [Lib.joinTail]
  | y :: L, P, q, h => by
    have h1 := fold_tail c L (P ++ [q]) y (fun z hz => h z (List.mem_cons_of_mem _ hz))
    have e : kStep c (P, q) c = (P ++ [q], []) := by unfold kStep; rw [if_pos rfl]
    rw [tail_cons, List.foldl_cons, e, List.foldl_append, fold_off c y _ _ (h y (List.mem_cons_self ..)), List.nil_append, h1]
    simp
theorem cutL_fwd (c : UInt8) (x : Str) (L : List Str) (hx : c ∉ x) (hL : ∀ y ∈ L, c ∉ y) : cutL c (x ++ Lib.joinTail [c] L) = x :: L := by
  unfold cutL kS
  rw [List.foldl_append, fold_off c x _ _ hx, List.nil_append, fold_tail c L [] x hL]
  rfl
theorem cutL_cons (c : UInt8) (s : Str) : ∃ x L, cutL c s = x :: L := by
  cases h : cutL c s with
  | nil => unfold cutL at h; simp at h
  | cons x L => exact ⟨x, L, rfl⟩
theorem kS_parts (c : UInt8) (s : Str) : (∀ y ∈ (kS c s).1, y.length ≤ s.length) ∧ (kS c s).2.length ≤ s.length := by
  induction s using snoc_ind with
  | h0 => simp [kS]
  | h1 s b ih =>
    obtain ⟨h1, h2⟩ := ih
    by_cases hb : b = c
    · rw [kS_at _ _ _ hb]
      refine ⟨fun y hy => ?_, by simp⟩
      simp only [List.mem_append, List.mem_singleton] at hy
      rw [List.length_append]
      rcases hy with hy | rfl
      · have := h1 y hy; omega
      · omega
    · rw [kS_off _ _ _ hb]
      refine ⟨fun y hy => ?_, by simp; exact h2⟩
      have := h1 y hy
      rw [List.length_append]
      omega
theorem cutL_part {c : UInt8} {s y : Str} (h : y ∈ cutL c s) : y.length ≤ s.length := by
  unfold cutL at h
  simp only [List.mem_append, List.mem_singleton] at h
  rcases h with h | rfl
  · exact (kS_parts c s).1 y h
  · exact (kS_parts c s).2
theorem cutL_nil (c : UInt8) : cutL c [] = [[]] := rfl

theorem itoa_digits {k : Int} (h : 1 ≤ k) {b : UInt8} (hb : b ∈ Lib.itoa k) : 48 ≤ b.toNat ∧ b.toNat ≤ 57 := by
  obtain ⟨a, rfl⟩ : ∃ a : Nat, k = a := ⟨k.toNat, by omega⟩
  rw [Lib.itoa_nonneg] at hb
  exact dec_all a b hb
theorem itoa_ne {k : Int} (h : 1 ≤ k) : Lib.itoa k ≠ [] := by
  obtain ⟨a, rfl⟩ : ∃ a : Nat, k = a := ⟨k.toNat, by omega⟩
  rw [Lib.itoa_nonneg]
  exact dec_ne a
theorem itoa_off {k : Int} (h : 1 ≤ k) {c : UInt8} (hc : c.toNat < 48 ∨ 57 < c.toNat) : c ∉ Lib.itoa k := fun hm => by
  have := itoa_digits h hm
  omega

end Go.Proofs.YtpmfabpnjacegaaGreatDoor

/-
  The format of decision rules, in plain lists. By an AI agent.
-/
namespace Go.Proofs.YtpmfabpnjacegaaGreatDoor
open Go.RowKit
set_option linter.unusedVariables false

def marL (u : Bool) : Str := if u then [60] else [62, 61]
def marR (u : Bool) : ByteArray := if u then ⟨#[60]⟩ else ⟨#[62, 61]⟩
def tsL (t : TS) : Str := (fnL t.1.1 ++ marL t.2) ++ Lib.itoa t.1.2
def ruL (l : List TS) : Str := Lib.join (l.map tsL) [44]
abbrev orS : Str := [32, 111, 114, 32]
def rsL (R : List (List TS)) : Str := Lib.join (R.map ruL) orS
def rsR (R : List (List TS)) : ByteArray := if vsB R = true then strOf (rsL R) else ⟨#[]⟩
theorem rsR_yes {R : List (List TS)} (h : vsB R = true) : rsR R = strOf (rsL R) := if_pos h
theorem rsR_no {R : List (List TS)} (h : vsB R = false) : rsR R = ⟨#[]⟩ := if_neg (by rw [h]; exact Bool.false_ne_true)

theorem tailG_cons (s : Str) (y : Str) (L : List Str) : Lib.joinTail s (y :: L) = s ++ (y ++ Lib.joinTail s L) := by simp [Lib.joinTail]
theorem tailG_len (s : Str) (B : Nat) : ∀ (L : List Str), (∀ y ∈ L, y.length ≤ B) → (Lib.joinTail s L).length ≤ (B + s.length) * L.length
  | [], _ => by simp [Lib.joinTail]
  | x :: l, h => by
    have h1 := tailG_len s B l (fun y hy => h y (List.mem_cons_of_mem _ hy))
    have h2 := h x (List.mem_cons_self ..)
    rw [tailG_cons]
    simp only [List.length_append, List.length_cons, Nat.mul_succ]
    omega
theorem joinG_len {s : Str} {B : Nat} {L : List Str} (h : ∀ y ∈ L, y.length ≤ B) : (Lib.join L s).length ≤ (B + s.length) * L.length := by
  cases L with
  | nil => simp [Lib.join_nil]
  | cons x l =>
    rw [Lib.join_cons]
    have h1 := tailG_len s B l (fun y hy => h y (List.mem_cons_of_mem _ hy))
    have h2 := h x (List.mem_cons_self ..)
    simp only [List.length_append, List.length_cons, Nat.mul_succ]
    omega
theorem joinG_snoc {s : Str} {L : List Str} {k : Nat} {y : Str} (h : L[k]? = some y) (hk : 0 < k) : Lib.join (L.take (k + 1)) s = Lib.join (L.take k) s ++ s ++ y := by
  cases L with
  | nil => simp at h
  | cons x r =>
    obtain ⟨j, rfl⟩ : ∃ j, k = j + 1 := ⟨k - 1, by omega⟩
    have h1 : r[j]? = some y := by simpa using h
    rw [List.take_succ_cons, List.take_succ_cons, Lib.join_cons, Lib.join_cons, Lib.joinTail_take_succ _ _ _ _ h1]
    simp [List.append_assoc]
theorem joinG_first {s : Str} {L : List Str} {y : Str} (h : L[0]? = some y) : Lib.join (L.take 1) s = y := by
  cases L with
  | nil => simp at h
  | cons x r =>
    simp at h
    subst h
    exact Lib.join_one _ _

theorem fnL_len (n : Int) : (fnL n).length ≤ 6 := by
  unfold fnL
  repeat' split
  all_goals decide
theorem fnR_size (n : Int) : (fnR n).size ≤ 6 := fnL_len n
theorem marL_len (u : Bool) : (marL u).length ≤ 2 := by cases u <;> decide
theorem tsL_len {t : TS} (h : vtB t = true) : (tsL t).length ≤ 29 := by
  have h1 := vt_of h
  have h2 := fnL_len t.1.1
  have h3 := marL_len t.2
  have h4 := Lib.itoa_length_le t.1.2 (by omega) (by omega)
  unfold tsL
  simp only [List.length_append]
  omega
theorem tsL_small {l : List TS} (h : vrB l = true) : ∀ y ∈ l.map tsL, y.length ≤ 29 := by
  intro y hy
  obtain ⟨t, ht, rfl⟩ := List.mem_map.1 hy
  exact tsL_len (vr_test h ht)
theorem ruL_len {l : List TS} (h : vrB l = true) : (ruL l).length ≤ 90 := by
  have h1 := joinG_len (s := [44]) (tsL_small h)
  have h2 := (vr_len h).2
  rw [List.length_map] at h1
  have h3 : (29 + ([44] : Str).length) * l.length ≤ 30 * 3 := Nat.mul_le_mul_left 30 h2
  unfold ruL
  omega
theorem ruL_small {R : List (List TS)} (h : vsB R = true) : ∀ y ∈ R.map ruL, y.length ≤ 90 := by
  intro y hy
  obtain ⟨l, hl, rfl⟩ := List.mem_map.1 hy
  exact ruL_len (vs_rule h hl)
theorem rsL_len {R : List (List TS)} (h : vsB R = true) : (rsL R).length ≤ 282 := by
  have h1 := joinG_len (s := orS) (ruL_small h)
  have h2 := (vs_len h).2
  rw [List.length_map] at h1
  have h3 : (90 + orS.length) * R.length ≤ 94 * 3 := Nat.mul_le_mul_left 94 h2
  unfold rsL
  omega

/-- the text behind k rules -/
def rsT (R : List (List TS)) (k : Nat) : ByteArray := strOf (Lib.join ((R.map ruL).take k) orS)
/-- what stands ahead of rule k -/
def preT (R : List (List TS)) (k : Nat) : Str := if k = 0 then [] else Lib.join ((R.map ruL).take k) orS ++ orS
/-- the text behind j tests of rule k -/
def utT (R : List (List TS)) (k : Nat) (l : List TS) (j : Nat) : ByteArray := strOf (preT R k ++ Lib.join ((l.map tsL).take j) [44])
theorem rsT_zero (R : List (List TS)) : rsT R 0 = ⟨#[]⟩ := rfl
theorem rsT_all {R : List (List TS)} (h : vsB R = true) : rsT R R.length = rsR R := by
  unfold rsT
  rw [List.take_of_length_le (by simp), rsR_yes h]
  rfl
theorem utT_zero0 (R : List (List TS)) (l : List TS) : utT R 0 l 0 = ⟨#[]⟩ := rfl
theorem utT_zero {R : List (List TS)} {k : Nat} {l : List TS} (hk : 0 < k) : rsT R k ++ ⟨#[32, 111, 114, 32]⟩ = utT R k l 0 := by
  unfold rsT utT preT
  show strOf _ ++ strOf orS = _
  rw [strOf_append, if_neg (by omega)]
  simp [Lib.join_nil]
theorem utT_all {R : List (List TS)} {k : Nat} {l : List TS} (h : R[k]? = some l) : utT R k l l.length = rsT R (k + 1) := by
  have h1 : (R.map ruL)[k]? = some (ruL l) := by rw [List.getElem?_map, h]; rfl
  unfold utT rsT preT
  rw [show (l.map tsL).take l.length = l.map tsL from List.take_of_length_le (by simp)]
  by_cases h0 : k = 0
  · subst h0
    rw [if_pos rfl, joinG_first h1]
    rfl
  · rw [if_neg h0, joinG_snoc h1 (by omega)]
    rfl
theorem ts_str {t : TS} {N s : ByteArray} (hN : fnR t.1.1 = N) (hs : strOf (Lib.itoa t.1.2) = s) : (N ++ marR t.2) ++ s = strOf (tsL t) := by
  have hm : marR t.2 = strOf (marL t.2) := by cases t.2 <;> rfl
  rw [← hN, ← hs, hm]
  show (strOf (fnL t.1.1) ++ strOf _) ++ strOf _ = _
  rw [strOf_append, strOf_append]
  rfl
theorem utT_first {R : List (List TS)} {k : Nat} {l : List TS} {t : TS} {u N s : ByteArray} (ht : l[0]? = some t) (hu : utT R k l 0 = u) (hN : fnR t.1.1 = N) (hs : strOf (Lib.itoa t.1.2) = s) : ((u ++ N) ++ marR t.2) ++ s = utT R k l 1 := by
  have h1 : (l.map tsL)[0]? = some (tsL t) := by rw [List.getElem?_map, ht]; rfl
  have e : ((u ++ N) ++ marR t.2) ++ s = u ++ ((N ++ marR t.2) ++ s) := by simp only [ByteArray.append_assoc]
  rw [e, ts_str hN hs, ← hu]
  unfold utT
  rw [strOf_append, joinG_first h1]
  simp [Lib.join_nil]
theorem utT_next {R : List (List TS)} {k j : Nat} {l : List TS} {t : TS} {u N s : ByteArray} (hj : 0 < j) (ht : l[j]? = some t) (hu : utT R k l j = u) (hN : fnR t.1.1 = N) (hs : strOf (Lib.itoa t.1.2) = s) : (((u ++ ⟨#[44]⟩) ++ N) ++ marR t.2) ++ s = utT R k l (j + 1) := by
  have h1 : (l.map tsL)[j]? = some (tsL t) := by rw [List.getElem?_map, ht]; rfl
  have e : (((u ++ ⟨#[44]⟩) ++ N) ++ marR t.2) ++ s = (u ++ strOf [44]) ++ ((N ++ marR t.2) ++ s) := by
    show (((u ++ strOf [44]) ++ N) ++ marR t.2) ++ s = _
    simp only [ByteArray.append_assoc]
  rw [e, ts_str hN hs, ← hu]
  unfold utT
  rw [strOf_append, strOf_append, joinG_snoc h1 hj]
  simp [List.append_assoc]
theorem preT_len {R : List (List TS)} (h : vsB R = true) (k : Nat) : (preT R k).length ≤ 286 := by
  unfold preT
  split
  · simp
  · have h1 := joinG_len (s := orS) (L := (R.map ruL).take k) (fun y hy => ruL_small h y (List.mem_of_mem_take hy))
    have h2 : ((R.map ruL).take k).length ≤ 3 := by rw [List.length_take, List.length_map]; have := (vs_len h).2; omega
    have h3 : (90 + orS.length) * ((R.map ruL).take k).length ≤ 94 * 3 := Nat.mul_le_mul_left 94 h2
    rw [List.length_append]
    have : orS.length = 4 := rfl
    omega
theorem utT_size {R : List (List TS)} {l : List TS} (h : vsB R = true) (hl : vrB l = true) (k j : Nat) : (utT R k l j).size ≤ 400 := by
  unfold utT
  rw [strOf_size, List.length_append]
  have h0 := preT_len h k
  have h1 := joinG_len (s := [44]) (L := (l.map tsL).take j) (fun y hy => tsL_small hl y (List.mem_of_mem_take hy))
  have h2 : ((l.map tsL).take j).length ≤ 3 := by rw [List.length_take, List.length_map]; have := (vr_len hl).2; omega
  have h3 : (29 + ([44] : Str).length) * ((l.map tsL).take j).length ≤ 30 * 3 := Nat.mul_le_mul_left 30 h2
  omega
theorem rsT_size {R : List (List TS)} (h : vsB R = true) (k : Nat) : (rsT R k).size ≤ 400 := by
  unfold rsT
  rw [strOf_size]
  have h1 := joinG_len (s := orS) (L := (R.map ruL).take k) (fun y hy => ruL_small h y (List.mem_of_mem_take hy))
  have h2 : ((R.map ruL).take k).length ≤ 3 := by rw [List.length_take, List.length_map]; have := (vs_len h).2; omega
  have h3 : (90 + orS.length) * ((R.map ruL).take k).length ≤ 94 * 3 := Nat.mul_le_mul_left 94 h2
  omega

end Go.Proofs.YtpmfabpnjacegaaGreatDoor

/-
  The number that ParseInt reads, as a function; both sides' contracts with it. By an AI agent.
-/
namespace Go.Proofs.YtpmfabpnjacegaaGreatDoor
open Go.RowKit
set_option linter.unusedVariables false

open Classical in
noncomputable def piR (l : List UInt8) : Int := if h : ∃ n ok, PiOk l n ok then h.choose else 0
theorem piR_of {l : List UInt8} {n : Int} {ok : Bool} (h : PiOk l n ok) : piR l = n := by
  have h1 : ∃ n ok, PiOk l n ok := ⟨n, ok, h⟩
  unfold piR
  rw [dif_pos h1]
  obtain ⟨ok', h2⟩ := h1.choose_spec
  exact (h2.same h).1

end Go.Proofs.YtpmfabpnjacegaaGreatDoor

/-
  Feature vectors and their format, in plain lists: a format can be read in one way alone. By an AI agent.
-/
namespace Go.Proofs.YtpmfabpnjacegaaGreatDoor
open Go.RowKit
set_option linter.unusedVariables false

def fpart (i : Nat) (x : Int) : Str := fnL i ++ 61 :: Lib.itoa x
def fparts (l : List Int) : List Str := l.mapIdx fpart
def ffL (l : List Int) : Str := Lib.join (fparts l) [32]
def ffR (l : List Int) : ByteArray := if fvB l = true then ⟨(ffL l).toArray⟩ else ⟨#[]⟩
theorem ff_yes {l : List Int} (h : fvB l = true) : ffR l = ⟨(ffL l).toArray⟩ := if_pos h
theorem ff_no {l : List Int} (h : fvB l = false) : ffR l = ⟨#[]⟩ := if_neg (by rw [h]; exact Bool.false_ne_true)
theorem fparts_len (l : List Int) : (fparts l).length = l.length := by simp [fparts]
theorem fparts_at {l : List Int} {k : Nat} {x : Int} (h : l[k]? = some x) : (fparts l)[k]? = some (fpart k x) := by
  unfold fparts
  rw [List.getElem?_mapIdx, h]
  rfl

theorem fn_len (n : Int) : (fnL n).length ≤ 6 := by
  unfold fnL
  repeat' split
  all_goals decide
theorem fv_at {l : List Int} (h : fvB l = true) {k : Nat} {x : Int} (hx : l[k]? = some x) : 0 ≤ x ∧ x ≤ 1000 := within_mem (fv_of h).2 (List.mem_of_getElem? hx)
theorem fpart_len {k : Nat} {x : Int} (h0 : 0 ≤ x) (h1 : x ≤ 1000) : (fpart k x).length ≤ 28 := by
  have h2 := fn_len k
  have h3 := Lib.itoa_length_le x (by omega) (by omega)
  unfold fpart
  simp
  omega
theorem mem_part {l : List Int} {y : Str} (h : y ∈ fparts l) : ∃ k x, l[k]? = some x ∧ y = fpart k x := by
  obtain ⟨k, hk⟩ := List.getElem?_of_mem h
  have hlt : k < l.length := by rw [← fparts_len]; exact (List.getElem?_eq_some_iff.1 hk).1
  have h1 := fparts_at (List.getElem?_eq_getElem hlt)
  rw [hk] at h1
  injection h1 with h1
  exact ⟨k, l[k], List.getElem?_eq_getElem hlt, h1⟩
theorem jtail_len : ∀ (L : List Str), (∀ y ∈ L, y.length ≤ 28) → (Lib.joinTail [32] L).length ≤ 29 * L.length
  | [], _ => by simp [Lib.joinTail]
  | x :: l, h => by
    have h1 := jtail_len l (fun y hy => h y (List.mem_cons_of_mem _ hy))
    have h2 := h x (List.mem_cons_self ..)
    rw [tail_cons]
    simp at h1 ⊢
    omega
theorem join_len {L : List Str} (h : ∀ y ∈ L, y.length ≤ 28) : (Lib.join L [32]).length ≤ 29 * L.length := by
  cases L with
  | nil => simp [Lib.join_nil]
  | cons x l =>
    rw [Lib.join_cons]
    have h1 := jtail_len l (fun y hy => h y (List.mem_cons_of_mem _ hy))
    have h2 := h x (List.mem_cons_self ..)
    simp
    omega
theorem fparts_small {l : List Int} (h : fvB l = true) : ∀ y ∈ fparts l, y.length ≤ 28 := by
  intro y hy
  obtain ⟨k, x, hx, rfl⟩ := mem_part hy
  have := fv_at h hx
  exact fpart_len this.1 this.2
theorem join_snoc {L : List Str} {k : Nat} {y : Str} (h : L[k]? = some y) (hk : 0 < k) : Lib.join (L.take (k + 1)) [32] = Lib.join (L.take k) [32] ++ [32] ++ y := by
  cases L with
  | nil => simp at h
  | cons x r =>
    obtain ⟨j, rfl⟩ : ∃ j, k = j + 1 := ⟨k - 1, by omega⟩
    have h1 : r[j]? = some y := by simpa using h
    rw [List.take_succ_cons, List.take_succ_cons, Lib.join_cons, Lib.join_cons, Lib.joinTail_take_succ _ _ _ _ h1]
    simp [List.append_assoc]
theorem join_first {L : List Str} {y : Str} (h : L[0]? = some y) : Lib.join (L.take 1) [32] = y := by
  cases L with
  | nil => simp at h
  | cons x r =>
    simp at h
    subst h
    exact Lib.join_one _ _

theorem itoa_digits0 {k : Int} (h : 0 ≤ k) {b : UInt8} (hb : b ∈ Lib.itoa k) : 48 ≤ b.toNat ∧ b.toNat ≤ 57 := by
  obtain ⟨a, rfl⟩ : ∃ a : Nat, k = a := ⟨k.toNat, by omega⟩
  rw [Lib.itoa_nonneg] at hb
  exact dec_all a b hb
theorem fn_off (n : Int) {b : UInt8} (hb : b ∈ fnL n) : 97 ≤ b.toNat := by
  have h : ∀ c ∈ fnL n, 97 ≤ c.toNat := by
    unfold fnL
    repeat' split
    all_goals decide
  exact h b hb
theorem fpart_sp {k : Nat} {x : Int} (h : 0 ≤ x) : (32 : UInt8) ∉ fpart k x := by
  intro hm
  unfold fpart at hm
  rcases List.mem_append.1 hm with h1 | h1
  · have := fn_off _ h1
    revert this
    decide
  · rcases List.mem_cons.1 h1 with h2 | h2
    · revert h2
      decide
    · have := (itoa_digits0 h h2).1
      revert this
      decide
theorem fn_eq (n : Int) : (61 : UInt8) ∉ fnL n := by
  intro hm
  have := fn_off _ hm
  revert this
  decide
theorem itoa_eq {x : Int} (h : 0 ≤ x) : (61 : UInt8) ∉ Lib.itoa x := by
  intro hm
  have := (itoa_digits0 h hm).2
  revert this
  decide
theorem cut_part {k : Nat} {x : Int} (h : 0 ≤ x) : (cutL 61 (fpart k x)).getLastD [] = Lib.itoa x := by
  have e : fpart k x = fnL k ++ Lib.joinTail [61] [Lib.itoa x] := by simp [fpart, Lib.joinTail]
  rw [e, cutL_fwd 61 _ _ (fn_eq _) (fun y hy => by rw [List.mem_singleton.1 hy]; exact itoa_eq h)]
  rfl
theorem cut_part2 {k : Nat} {x : Int} (h : 0 ≤ x) : (Lib.cut (fpart k x) [61]).2.1 = Lib.itoa x := by
  unfold fpart
  rw [cut_at 61 _ (fn_eq _)]
theorem piR_itoa {x : Int} (h0 : 0 ≤ x) (h1 : x ≤ 1000) : piR (Lib.itoa x) = x := piR_of (.inl ⟨rfl, rfl, by omega, by omega⟩)

/-- what the two sides read -/
noncomputable def specF (s : Str) : List Int := ((cutL 32 s).take 7).map fun y => piR ((cutL 61 y).getLastD [])
noncomputable def implF (k : Nat) (s : Str) : List Int := (Lib.splitK [32] 0 k s).map fun y => piR (Lib.cut y [61]).2.1

theorem join_parts {l : List Int} (h : fvB l = true) : ∃ p L, fparts l = p :: L ∧ ffL l = p ++ Lib.joinTail [32] L ∧ L.length = 5 ∧ ∀ y ∈ p :: L, (32 : UInt8) ∉ y := by
  have h6 := (fv_of h).1
  have hl := fparts_len l
  cases hp : fparts l with
  | nil => rw [hp] at hl; simp at hl; omega
  | cons p L =>
    rw [hp] at hl
    simp at hl
    refine ⟨p, L, rfl, by unfold ffL; rw [hp, Lib.join_cons], by omega, fun y hy => ?_⟩
    rw [← hp] at hy
    obtain ⟨k, x, hx, rfl⟩ := mem_part hy
    exact fpart_sp (fv_at h hx).1
theorem map_back {l : List Int} (h : fvB l = true) (g : Str → Int) (hg : ∀ k x, 0 ≤ x → x ≤ 1000 → g (fpart k x) = x) : (fparts l).map g = l := by
  apply List.ext_getElem?
  intro k
  rw [List.getElem?_map]
  cases hk : l[k]? with
  | none =>
    have : (fparts l)[k]? = none := by
      rw [List.getElem?_eq_none_iff, fparts_len]
      exact List.getElem?_eq_none_iff.1 hk
    rw [this]
    rfl
  | some x =>
    rw [fparts_at hk]
    have := fv_at h hk
    show some (g (fpart k x)) = _
    rw [hg k x this.1 this.2]
theorem spec_read {l : List Int} (h : fvB l = true) : specF (ffL l) = l := by
  obtain ⟨p, L, h1, h2, h3, h4⟩ := join_parts h
  unfold specF
  rw [h2, cutL_fwd 32 p L (h4 p (List.mem_cons_self ..)) (fun y hy => h4 y (List.mem_cons_of_mem _ hy)), ← h1, List.take_of_length_le (by rw [h1]; simp; omega)]
  exact map_back h _ (fun k x x0 x1 => by rw [cut_part x0, piR_itoa x0 x1])
theorem impl_read {l : List Int} (h : fvB l = true) {k : Nat} (hk : 5 ≤ k) : implF k (ffL l) = l := by
  obtain ⟨p, L, h1, h2, h3, h4⟩ := join_parts h
  unfold implF
  rw [h2, split_fwd 32 L k p (by omega) (h4 p (List.mem_cons_self ..)) (fun y hy => h4 y (List.mem_cons_of_mem _ hy)), ← h1]
  exact map_back h _ (fun k x x0 x1 => by rw [cut_part2 x0, piR_itoa x0 x1])
theorem ff_long {l : List Int} (h : fvB l = true) : 5 ≤ (ffL l).length := by
  obtain ⟨p, L, h1, h2, h3, h4⟩ := join_parts h
  have h5 : ∀ M : List Str, M.length ≤ (Lib.joinTail [32] M).length := by
    intro M
    induction M with
    | nil => simp [Lib.joinTail]
    | cons y M ih => rw [tail_cons]; simp at ih ⊢; omega
  have := h5 L
  rw [h2, List.length_append]
  omega
theorem ff_len {l : List Int} (h : fvB l = true) : (ffL l).length ≤ 200 := by
  have h1 := join_len (fparts_small h)
  rw [fparts_len, (fv_of h).1] at h1
  exact Nat.le_trans h1 (by decide)

/-- what ParseFeatures answers at s -/
def PFout (s : Str) (L : List Int) (r : Bool) : Prop := (r = true ∧ fvB L = true ∧ ffL L = s) ∨ (r = false ∧ L = [] ∧ ∀ l, fvB l = true → ffL l ≠ s)
theorem pf_some (s : Str) : ∃ L r, PFout s L r := by
  by_cases h : ∃ l, fvB l = true ∧ ffL l = s
  · obtain ⟨l, h1, h2⟩ := h
    exact ⟨l, true, .inl ⟨rfl, h1, h2⟩⟩
  · exact ⟨[], false, .inr ⟨rfl, rfl, fun l h1 h2 => h ⟨l, h1, h2⟩⟩⟩
theorem pf_len {s : Str} {L : List Int} {r : Bool} (h : PFout s L r) : L.length ≤ 6 := by
  rcases h with ⟨-, h, -⟩ | ⟨-, rfl, -⟩
  · have := (fv_of h).1; omega
  · simp
theorem pf_yes {s : Str} {L F : List Int} {r : Bool} (h : PFout s L r) (h1 : fvB F = true) (h2 : ffL F = s) : L = F ∧ r = true := by
  rcases h with ⟨rfl, h3, h4⟩ | ⟨-, -, h3⟩
  · refine ⟨?_, rfl⟩
    rw [← spec_read h3, ← spec_read h1, h4, h2]
  · exact absurd h2 (h3 F h1)
theorem pf_spec_no {s : Str} {L : List Int} {r : Bool} (h : PFout s L r) (hn : ¬ (fvB (specF s) = true ∧ ffL (specF s) = s)) : L = [] ∧ r = false := by
  rcases h with ⟨rfl, h3, h4⟩ | ⟨rfl, rfl, -⟩
  · exfalso
    apply hn
    rw [← h4, spec_read h3]
    exact ⟨h3, rfl⟩
  · exact ⟨rfl, rfl⟩
theorem pf_impl_no {s : Str} {L : List Int} {r : Bool} {k : Nat} (hk : s.length < 5 ∨ 5 ≤ k) (h : PFout s L r) (hn : ¬ (fvB (implF k s) = true ∧ ffL (implF k s) = s)) : L = [] ∧ r = false := by
  rcases h with ⟨rfl, h3, h4⟩ | ⟨rfl, rfl, -⟩
  · exfalso
    have h5 := ff_long h3
    rw [h4] at h5
    apply hn
    rw [← h4, impl_read h3 (by omega)]
    exact ⟨h3, rfl⟩
  · exact ⟨rfl, rfl⟩
theorem ff_same {F : List Int} {s : ByteArray} (h : ffR F = s) (h0 : s.data.toList ≠ []) : fvB F = true ∧ ffL F = s.data.toList := by
  cases e : fvB F with
  | true =>
    rw [ff_yes e] at h
    rw [← h]
    exact ⟨rfl, rfl⟩
  | false =>
    rw [ff_no e] at h
    rw [← h] at h0
    exact absurd rfl h0
theorem ff_other {F : List Int} {s : ByteArray} (h : ffR F ≠ s) : ¬ (fvB F = true ∧ ffL F = s.data.toList) := by
  rintro ⟨h1, h2⟩
  apply h
  rw [ff_yes h1, h2]
theorem ff_empty {F : List Int} {s : Str} (h : s = []) : ¬ (fvB F = true ∧ ffL F = s) := by
  rintro ⟨h1, h2⟩
  have := ff_long h1
  rw [h2, h] at this
  simp at this

end Go.Proofs.YtpmfabpnjacegaaGreatDoor

/-
  Reading decision rules, in plain lists. By an AI agent.
-/
namespace Go.Proofs.YtpmfabpnjacegaaGreatDoor
open Go.RowKit
set_option linter.unusedVariables false
set_option linter.unnecessarySimpa false
set_option linter.unusedSimpArgs false

/-! ### splitting at any separator -/
theorem gx_split (sep : Str) : ∀ s : Str, Lib.index s sep = -1 ∨ ∃ x y, s = x ++ (sep ++ y) ∧ Lib.index s sep = ((x.length : Nat) : Int)
  | [] => by
    cases sep with
    | nil => exact .inr ⟨[], [], rfl, rfl⟩
    | cons a t => exact .inl rfl
  | b :: l => by
    cases h : sep.isPrefixOf (b :: l) with
    | true =>
      obtain ⟨t, ht⟩ := List.isPrefixOf_iff_prefix.1 h
      refine .inr ⟨[], t, by rw [List.nil_append]; exact ht.symm, ?_⟩
      rw [Lib.index, h]
      rfl
    | false =>
      rcases gx_split sep l with h1 | ⟨x, y, h1, h2⟩
      · left
        rw [Lib.index, h, h1]
        rfl
      · right
        refine ⟨b :: x, y, by rw [List.cons_append, ← h1], ?_⟩
        have h4 : ¬ ((x.length : Nat) : Int) = -1 := by omega
        rw [Lib.index, h, h2]
        simp [h4]
theorem gx_at (c : UInt8) (t y : Str) : ∀ {x : Str}, c ∉ x → Lib.index (x ++ (c :: t ++ y)) (c :: t) = ((x.length : Nat) : Int)
  | [], _ => by
    have h3 : (c :: t).isPrefixOf (c :: (t ++ y)) = true := List.isPrefixOf_iff_prefix.2 ⟨y, rfl⟩
    rw [List.nil_append, List.cons_append, Lib.index, h3]
    rfl
  | b :: x, h => by
    have h1 := gx_at c t y (x := x) (fun e => h (List.mem_cons_of_mem _ e))
    have h2 : c ≠ b := fun e => h (by rw [e]; exact List.mem_cons_self ..)
    have h3 : (c :: t).isPrefixOf (b :: (x ++ (c :: t ++ y))) = false := by simp [List.isPrefixOf, h2]
    rw [List.cons_append, Lib.index, h3, h1]
    have h4 : ¬ ((x.length : Nat) : Int) = -1 := by omega
    simp [h4]
theorem gx_none (c : UInt8) (t : Str) : ∀ {s : Str}, c ∉ s → Lib.index s (c :: t) = -1
  | [], _ => rfl
  | b :: s, h => by
    have h1 := gx_none c t (s := s) (fun e => h (List.mem_cons_of_mem _ e))
    have h2 : c ≠ b := fun e => h (by rw [e]; exact List.mem_cons_self ..)
    have h3 : (c :: t).isPrefixOf (b :: s) = false := by simp [List.isPrefixOf, h2]
    rw [Lib.index, h3, h1]
    rfl
theorem gs_back (sep : Str) : ∀ (k : Nat) (s : Str), ∃ x L, Lib.splitK sep 0 k s = x :: L ∧ s = x ++ Lib.joinTail sep L ∧ L.length ≤ k
  | 0, s => ⟨s, [], rfl, by simp [Lib.joinTail], Nat.zero_le _⟩
  | k + 1, s => by
    rcases gx_split sep s with h | ⟨x, y, h, hi⟩
    · refine ⟨s, [], ?_, by simp [Lib.joinTail], Nat.zero_le _⟩
      rw [Lib.splitK, h]
      rfl
    · obtain ⟨z, L, h1, h2, h3⟩ := gs_back sep k y
      refine ⟨x, z :: L, ?_, by rw [tailG_cons, ← h2]; exact h, by simp; omega⟩
      have h4 : ¬ ((x.length : Nat) : Int) = -1 := by omega
      rw [Lib.splitK, hi, ← h1]
      simp [h4, h]
theorem gs_fwd (c : UInt8) (t : Str) : ∀ (L : List Str) (k : Nat) (x : Str), L.length ≤ k → c ∉ x → (∀ y ∈ L, c ∉ y) → Lib.splitK (c :: t) 0 k (x ++ Lib.joinTail (c :: t) L) = x :: L
  | [], k, x, _, hx, _ => by
    rw [show Lib.joinTail (c :: t) [] = [] from rfl, List.append_nil]
    cases k with
    | zero => rfl
    | succ k => rw [Lib.splitK, gx_none c t hx]; rfl
  | y :: L, k, x, hk, hx, hL => by
    obtain ⟨k, rfl⟩ : ∃ k', k = k' + 1 := ⟨k - 1, by simp at hk; omega⟩
    have h1 := gs_fwd c t L k y (by simp at hk; omega) (hL y (List.mem_cons_self ..)) (fun z hz => hL z (List.mem_cons_of_mem _ hz))
    have h4 : ¬ ((x.length : Nat) : Int) = -1 := by omega
    rw [tailG_cons, Lib.splitK, gx_at c t _ hx, ← h1]
    simp [h4]
theorem gc_at (c : UInt8) (t y : Str) {x : Str} (h : c ∉ x) : Lib.cut (x ++ (c :: t ++ y)) (c :: t) = (x, y, true) := by
  have h4 : (0 : Int) ≤ ((x.length : Nat) : Int) := by omega
  unfold Lib.cut
  rw [gx_at c t y h, if_pos h4]
  simp
theorem gc_cases (sep s : Str) : (∃ x y, s = x ++ (sep ++ y) ∧ Lib.cut s sep = (x, y, true)) ∨ Lib.cut s sep = (s, [], false) := by
  rcases gx_split sep s with h | ⟨x, y, h, hi⟩
  · right
    unfold Lib.cut
    rw [h, if_neg (by omega)]
  · left
    refine ⟨x, y, h, ?_⟩
    have h4 : (0 : Int) ≤ ((x.length : Nat) : Int) := by omega
    unfold Lib.cut
    rw [hi, if_pos h4]
    simp [h]
theorem gc_none (c : UInt8) (t : Str) {s : Str} (h : c ∉ s) : Lib.cut s (c :: t) = (s, [], false) := by
  unfold Lib.cut
  rw [gx_none c t h, if_neg (by omega)]

/-! ### the specification's reading -/
noncomputable def tryT (y : Str) (n : Nat) : Option TS :=
  if (fnL n).length < y.length ∧ y.take (fnL n).length = fnL n then
    if (y.drop (fnL n).length).head? = some 60 then some ((n, piR ((y.drop (fnL n).length).drop 1)), true)
    else if 2 < (y.drop (fnL n).length).length ∧ (y.drop (fnL n).length).take 2 = [62, 61] then some ((n, piR ((y.drop (fnL n).length).drop 2)), false)
    else none
  else none
noncomputable def sptT (y : Str) : TS := ((List.range 6).findSome? (tryT y)).getD ((0, 0), false)
noncomputable def spuT (p : Str) : List TS := ((cutL 44 p).take 4).map sptT
def evens {α : Type} : List α → List α
  | [] => []
  | [x] => [x]
  | x :: _ :: l => x :: evens l
noncomputable def spR (s : Str) : List (List TS) := (evens ((cutL 32 s).take 7)).map spuT

theorem first_some {β : Type} {g : Nat → Option β} {y : β} : ∀ {N n : Nat}, n < N → (∀ m, m < n → g m = none) → g n = some y → (List.range N).findSome? g = some y
  | 0, n, hn, _, _ => by omega
  | N + 1, n, hn, h0, h1 => by
    rw [List.range_succ, List.findSome?_append]
    rcases Nat.lt_or_ge n N with h | h
    · rw [first_some h h0 h1]; rfl
    · obtain rfl : n = N := by omega
      have h2 : (List.range n).findSome? g = none := by
        rw [List.findSome?_eq_none_iff]
        exact fun m hm => h0 m (List.mem_range.1 hm)
      rw [h2]
      simp [h1]
theorem fn_heads : ∀ n, n < 6 → ∀ m, m < 6 → m ≠ n → (fnL (n : Nat)).head? ≠ (fnL (m : Nat)).head? ∧ (fnL (m : Nat)) ≠ [] ∧ (fnL (n : Nat)) ≠ [] := by decide
theorem tsl_form {t : TS} (h : vtB t = true) : ∃ n : Nat, n < 6 ∧ t.1.1 = (n : Int) ∧ tsL t = fnL (n : Nat) ++ (marL t.2 ++ Lib.itoa t.1.2) := by
  have h1 := (vt_of h).1
  refine ⟨t.1.1.toNat, by omega, by omega, ?_⟩
  unfold tsL
  rw [List.append_assoc, show ((t.1.1.toNat : Nat) : Int) = t.1.1 by omega]
theorem spt_back {t : TS} (h : vtB t = true) : sptT (tsL t) = t := by
  obtain ⟨⟨f, x⟩, u⟩ := t
  obtain ⟨n, hn, hf, e⟩ := tsl_form h
  have hx := (vt_of h).2
  simp only at hf hx e
  subst hf
  have hne : Lib.itoa x ≠ [] := itoa_ne (by omega)
  have hl : 0 < (Lib.itoa x).length := List.length_pos_iff.2 hne
  unfold sptT
  rw [e]
  have hp : piR (Lib.itoa x) = x := piR_itoa (by omega) hx.2
  have h1 : tryT (fnL (n : Nat) ++ (marL u ++ Lib.itoa x)) n = some ((((n : Int), x), u) : TS) := by
    unfold tryT
    rw [if_pos ⟨by rw [List.length_append, List.length_append]; omega, List.take_left⟩, List.drop_left]
    cases u
    · rw [if_neg (by simp [marL]), if_pos ⟨by simp [marL]; omega, rfl⟩]
      show some ((((n : Int), piR (Lib.itoa x)), false) : TS) = _
      rw [hp]
    · rw [if_pos (show List.head? (marL true ++ Lib.itoa x) = some 60 from rfl)]
      show some ((((n : Int), piR (Lib.itoa x)), true) : TS) = _
      rw [hp]
  rw [first_some (n := n) (y := ((((n : Int), x), u) : TS)) hn (fun m hm => ?_) h1]
  · rfl
  · obtain ⟨g1, g2, g3⟩ := fn_heads n hn m (by omega) (by omega)
    unfold tryT
    rw [if_neg]
    rintro ⟨_, h3⟩
    apply g1
    have h4 := congrArg List.head? h3
    rw [List.head?_take, if_neg (by rw [List.length_eq_zero_iff]; exact g2)] at h4
    rw [← h4, List.head?_append]
    cases hh : fnL (n : Nat) with
    | nil => exact absurd hh g3
    | cons b l => rfl
theorem tsl_off {t : TS} (h : vtB t = true) {c : UInt8} (hc : c = 32 ∨ c = 44) : c ∉ tsL t := by
  have hx := (vt_of h).2
  unfold tsL
  intro hm
  rcases List.mem_append.1 hm with h1 | h1
  · rcases List.mem_append.1 h1 with h2 | h2
    · have := fn_off _ h2
      rcases hc with rfl | rfl <;> simp at this
    · unfold marL at h2
      rcases hc with rfl | rfl <;> split at h2 <;> simp at h2
  · have := itoa_digits0 (by omega) h1
    rcases hc with rfl | rfl <;> simp at this
theorem join_form {sep : Str} {L : List Str} {x : Str} {M : List Str} (h : L = x :: M) : Lib.join L sep = x ++ Lib.joinTail sep M := by rw [h, Lib.join_cons]
theorem vr_cons {l : List TS} (h : vrB l = true) : ∃ t r, l = t :: r ∧ r.length ≤ 2 := by
  have h1 := vr_len h
  cases l with
  | nil => simp at h1
  | cons t r => exact ⟨t, r, rfl, by simp at h1; omega⟩
theorem spu_back {l : List TS} (h : vrB l = true) : spuT (ruL l) = l := by
  obtain ⟨t, r, e, hr⟩ := vr_cons h
  have h1 : cutL 44 (ruL l) = l.map tsL := by
    unfold ruL
    rw [e, List.map_cons, Lib.join_cons]
    refine cutL_fwd 44 _ _ (tsl_off (vr_test h (by rw [e]; exact List.mem_cons_self ..)) (.inr rfl)) fun y hy => ?_
    obtain ⟨z, hz, rfl⟩ := List.mem_map.1 hy
    exact tsl_off (vr_test h (by rw [e]; exact List.mem_cons_of_mem _ hz)) (.inr rfl)
  unfold spuT
  rw [h1, List.take_of_length_le (by rw [List.length_map]; have := (vr_len h).2; omega), List.map_map]
  exact (List.map_congr_left fun y hy => spt_back (vr_test h hy)).trans (List.map_id _)
theorem tail_off {sep : Str} {c : UInt8} (hs : c ∉ sep) : ∀ {L : List Str}, (∀ y ∈ L, c ∉ y) → c ∉ Lib.joinTail sep L
  | [], _ => by simp [Lib.joinTail]
  | y :: L, h => by
    rw [tailG_cons]
    intro hm
    rcases List.mem_append.1 hm with h1 | h1
    · exact hs h1
    · rcases List.mem_append.1 h1 with h2 | h2
      · exact h y (List.mem_cons_self ..) h2
      · exact tail_off hs (fun z hz => h z (List.mem_cons_of_mem _ hz)) h2
theorem rul_off {l : List TS} (h : vrB l = true) : (32 : UInt8) ∉ ruL l := by
  obtain ⟨t, r, e, hr⟩ := vr_cons h
  unfold ruL
  rw [e, List.map_cons, Lib.join_cons]
  intro hm
  rcases List.mem_append.1 hm with h1 | h1
  · exact tsl_off (vr_test h (by rw [e]; exact List.mem_cons_self ..)) (.inl rfl) h1
  · refine tail_off (by decide) (fun y hy => ?_) h1
    obtain ⟨z, hz, rfl⟩ := List.mem_map.1 hy
    exact tsl_off (vr_test h (by rw [e]; exact List.mem_cons_of_mem _ hz)) (.inl rfl)
theorem vs_size {R : List (List TS)} (h : vsB R = true) : 1 ≤ R.length ∧ R.length ≤ 3 := by
  unfold vsB at h
  simp only [Bool.and_eq_true, decide_eq_true_eq] at h
  exact h.1
theorem spr_back {R : List (List TS)} (h : vsB R = true) : spR (rsL R) = R := by
  have h1 := vs_size h
  have ho : (32 : UInt8) ∉ ([111, 114] : Str) := by decide
  unfold spR rsL
  match R, h1, h with
  | [a], _, h =>
    have ha := vs_rule h (List.mem_cons_self ..)
    have e : Lib.join ([a].map ruL) orS = ruL a ++ Lib.joinTail [32] [] := by simp [Lib.joinTail, Lib.join_one]
    rw [e, cutL_fwd 32 _ _ (rul_off ha) (fun y hy => by cases hy)]
    simp [evens, spu_back ha]
  | [a, b], _, h =>
    have ha := vs_rule h (List.mem_cons_self ..)
    have hb := vs_rule h (List.mem_cons_of_mem _ (List.mem_cons_self ..))
    have e : Lib.join ([a, b].map ruL) orS = ruL a ++ Lib.joinTail [32] [[111, 114], ruL b] := by simp [Lib.joinTail, Lib.join_cons]
    rw [e, cutL_fwd 32 _ _ (rul_off ha) (fun y hy => by
      rcases List.mem_cons.1 hy with rfl | hy
      · exact ho
      · rcases List.mem_cons.1 hy with rfl | hy
        · exact rul_off hb
        · cases hy)]
    simp [evens, spu_back ha, spu_back hb]
  | [a, b, d], _, h =>
    have ha := vs_rule h (List.mem_cons_self ..)
    have hb := vs_rule h (List.mem_cons_of_mem _ (List.mem_cons_self ..))
    have hd := vs_rule h (List.mem_cons_of_mem _ (List.mem_cons_of_mem _ (List.mem_cons_self ..)))
    have e : Lib.join ([a, b, d].map ruL) orS = ruL a ++ Lib.joinTail [32] [[111, 114], ruL b, [111, 114], ruL d] := by simp [Lib.joinTail, Lib.join_cons]
    rw [e, cutL_fwd 32 _ _ (rul_off ha) (fun y hy => by
      rcases List.mem_cons.1 hy with rfl | hy
      · exact ho
      · rcases List.mem_cons.1 hy with rfl | hy
        · exact rul_off hb
        · rcases List.mem_cons.1 hy with rfl | hy
          · exact ho
          · rcases List.mem_cons.1 hy with rfl | hy
            · exact rul_off hd
            · cases hy)]
    simp [evens, spu_back ha, spu_back hb, spu_back hd]

/-! ### the program's reading -/
def featN (h : Str) : Int := if (List.range 6).findIdx (fun n => fnL (n : Nat) == h) < 6 then ((List.range 6).findIdx (fun n => fnL (n : Nat) == h) : Nat) else -1
noncomputable def imtT (y : Str) : TS :=
  if (Lib.cut y [62, 61]).2.2 = true then ((featN (Lib.cut y [62, 61]).1, piR (Lib.cut y [62, 61]).2.1), false)
  else ((featN (Lib.cut y [60]).1, piR (Lib.cut y [60]).2.1), true)
noncomputable def imuT (p : Str) : List TS := (Lib.splitN p [44] 4).map imtT
noncomputable def imR (s : Str) : List (List TS) := (Lib.splitN s orS 4).map imuT
theorem feat_n : ∀ n, n < 6 → featN (fnL (n : Nat)) = ((n : Nat) : Int) := by decide
theorem feat_ok {h : Str} (h1 : 0 ≤ featN h) (h2 : featN h ≤ 5) : fnL (featN h) = h := by
  unfold featN at h1 h2 ⊢
  split at h1
  · rename_i hlt
    rw [if_pos hlt]
    have h3 := List.findIdx_getElem (xs := List.range 6) (p := fun n => fnL (n : Nat) == h) (w := by simpa using hlt)
    simp at h3
    exact h3
  · omega
theorem fnl_mark (n : Int) {c : UInt8} (hc : c = 60 ∨ c = 62) : c ∉ fnL n := fun h => by
  have := fn_off _ h
  rcases hc with rfl | rfl <;> simp at this
theorem itoa_mark {x : Int} (h : 0 ≤ x) {c : UInt8} (hc : c = 60 ∨ c = 62) : c ∉ Lib.itoa x := fun hm => by
  have := itoa_digits0 h hm
  rcases hc with rfl | rfl <;> simp at this
theorem imt_back {t : TS} (h : vtB t = true) : imtT (tsL t) = t := by
  obtain ⟨⟨f, x⟩, u⟩ := t
  obtain ⟨n, hn, hf, e⟩ := tsl_form h
  have hx := (vt_of h).2
  simp only at hf hx e
  subst hf
  have hp : piR (Lib.itoa x) = x := piR_itoa (by omega) hx.2
  unfold imtT
  rw [e]
  cases u
  · have h1 : Lib.cut (fnL (n : Nat) ++ (marL false ++ Lib.itoa x)) [62, 61] = (fnL (n : Nat), Lib.itoa x, true) := gc_at 62 [61] (Lib.itoa x) (fnl_mark _ (.inr rfl))
    rw [h1, if_pos rfl, feat_n n hn, hp]
  · have h1 : Lib.cut (fnL (n : Nat) ++ (marL true ++ Lib.itoa x)) [62, 61] = (fnL (n : Nat) ++ (marL true ++ Lib.itoa x), [], false) := gc_none 62 [61] (fun hm => by
      rcases List.mem_append.1 hm with h1 | h1
      · exact fnl_mark _ (.inr rfl) h1
      · rcases List.mem_append.1 h1 with h2 | h2
        · simp [marL] at h2
        · exact itoa_mark (by omega) (.inr rfl) h2)
    have h2 : Lib.cut (fnL (n : Nat) ++ (marL true ++ Lib.itoa x)) [60] = (fnL (n : Nat), Lib.itoa x, true) := gc_at 60 [] (Lib.itoa x) (fnl_mark _ (.inl rfl))
    rw [h1, if_neg (by simp), h2, feat_n n hn, hp]
theorem piR_pos {l : Str} (h : 1 ≤ piR l) : Lib.itoa (piR l) = l := by
  unfold piR at h ⊢
  split
  · rename_i h1
    rw [dif_pos h1] at h
    obtain ⟨ok, h2⟩ := h1.choose_spec
    rcases h2 with h3 | h3
    · exact h3.2.1
    · omega
  · rename_i h1
    rw [dif_neg h1] at h
    omega
theorem piR_ok (l : Str) : ∃ ok, PiOk l (piR l) ok ∨ piR l = 0 := by
  unfold piR
  split
  · rename_i h1
    obtain ⟨ok, h2⟩ := h1.choose_spec
    exact ⟨ok, .inl h2⟩
  · exact ⟨false, .inr rfl⟩
theorem imt_fwd {y : Str} (h : vtB (imtT y) = true) : tsL (imtT y) = y := by
  have h1 := vt_of h
  unfold imtT at h1 ⊢
  rcases gc_cases [62, 61] y with ⟨a, b, e, hc⟩ | hc
  · rw [hc] at h1 ⊢
    simp only [if_pos] at h1 ⊢
    unfold tsL
    simp only
    rw [feat_ok h1.1.1 h1.1.2, piR_pos h1.2.1, e]
    simp [marL]
  · rw [hc] at h1 ⊢
    rw [if_neg (by simp)] at h1 ⊢
    rcases gc_cases [60] y with ⟨a, b, e, hd⟩ | hd
    · rw [hd] at h1 ⊢
      unfold tsL
      simp only at h1 ⊢
      rw [feat_ok h1.1.1 h1.1.2, piR_pos h1.2.1, e]
      simp [marL]
    · rw [hd] at h1
      simp only at h1
      have h2 := piR_pos h1.2.1
      exact absurd h2 (itoa_ne h1.2.1)
theorem sn_back (sep s : Str) (n : Nat) : ∃ x L, Lib.splitN s sep n = x :: L ∧ Lib.join (x :: L) sep = s := by
  obtain ⟨x, L, h1, h2, _⟩ := gs_back sep (min n (s.length + 1) - 1) s
  exact ⟨x, L, h1, by rw [Lib.join_cons, ← h2]⟩
theorem imu_fwd {p : Str} (h : vrB (imuT p) = true) : ruL (imuT p) = p := by
  obtain ⟨x, L, h1, h2⟩ := sn_back [44] p 4
  have e : imuT p = (x :: L).map imtT := by unfold imuT; rw [h1]
  rw [e] at h ⊢
  unfold ruL
  rw [List.map_map]
  have h3 : (x :: L).map (tsL ∘ imtT) = x :: L := (List.map_congr_left fun y hy => imt_fwd (vr_test h (List.mem_map_of_mem hy))).trans (List.map_id _)
  rw [h3, h2]
theorem imr_fwd {s : Str} (h : vsB (imR s) = true) : rsL (imR s) = s := by
  obtain ⟨x, L, h1, h2⟩ := sn_back orS s 4
  have e : imR s = (x :: L).map imuT := by unfold imR; rw [h1]
  rw [e] at h ⊢
  unfold rsL
  rw [List.map_map]
  have h3 : (x :: L).map (ruL ∘ imuT) = x :: L := (List.map_congr_left fun y hy => imu_fwd (vs_rule h (List.mem_map_of_mem hy))).trans (List.map_id _)
  rw [h3, h2]
theorem join_long {sep x : Str} : ∀ {L : List Str}, 0 < sep.length → L.length ≤ (x ++ Lib.joinTail sep L).length
  | [], _ => Nat.zero_le _
  | y :: L, h => by
    have h1 := join_long (x := y) (L := L) h
    rw [tailG_cons]
    simp only [List.length_append, List.length_cons] at h1 ⊢
    omega
theorem imu_back {l : List TS} (h : vrB l = true) : imuT (ruL l) = l := by
  obtain ⟨t, r, e, hr⟩ := vr_cons h
  have hj : ruL l = tsL t ++ Lib.joinTail [44] (r.map tsL) := by unfold ruL; rw [e, List.map_cons, Lib.join_cons]
  have hlong := join_long (sep := [44]) (x := tsL t) (L := r.map tsL) (by decide)
  have h1 : Lib.splitN (ruL l) [44] 4 = l.map tsL := by
    unfold Lib.splitN
    rw [hj, e, List.map_cons]
    refine gs_fwd 44 [] _ _ _ ?_ (tsl_off (vr_test h (by rw [e]; exact List.mem_cons_self ..)) (.inr rfl)) fun y hy => ?_
    · rw [List.length_map] at hlong ⊢; omega
    · obtain ⟨z, hz, rfl⟩ := List.mem_map.1 hy
      exact tsl_off (vr_test h (by rw [e]; exact List.mem_cons_of_mem _ hz)) (.inr rfl)
  unfold imuT
  rw [h1, List.map_map]
  exact (List.map_congr_left fun y hy => imt_back (vr_test h hy)).trans (List.map_id _)
theorem imr_back {R : List (List TS)} (h : vsB R = true) : imR (rsL R) = R := by
  have h1 := vs_size h
  obtain ⟨t, r, e⟩ : ∃ t r, R = t :: r := by
    cases R with
    | nil => simp at h1
    | cons t r => exact ⟨t, r, rfl⟩
  have hj : rsL R = ruL t ++ Lib.joinTail orS (r.map ruL) := by unfold rsL; rw [e, List.map_cons, Lib.join_cons]
  have hlong := join_long (sep := orS) (x := ruL t) (L := r.map ruL) (by decide)
  have hr : r.length ≤ 2 := by rw [e] at h1; simp at h1; omega
  have h2 : Lib.splitN (rsL R) orS 4 = R.map ruL := by
    unfold Lib.splitN
    rw [hj, e, List.map_cons]
    refine gs_fwd 32 [111, 114, 32] _ _ _ ?_ (rul_off (vs_rule h (by rw [e]; exact List.mem_cons_self ..))) fun y hy => ?_
    · rw [List.length_map] at hlong ⊢; omega
    · obtain ⟨z, hz, rfl⟩ := List.mem_map.1 hy
      exact rul_off (vs_rule h (by rw [e]; exact List.mem_cons_of_mem _ hz))
  unfold imR
  rw [h2, List.map_map]
  exact (List.map_congr_left fun y hy => imu_back (vs_rule h hy)).trans (List.map_id _)

/-! ### the answer -/
def PRout (s : Str) (R : List (List TS)) (b : Bool) : Prop := (b = true ∧ vsB R = true ∧ rsL R = s) ∨ (b = false ∧ R = [] ∧ ∀ l, vsB l = true → rsL l ≠ s)
theorem pr_some (s : Str) : ∃ R b, PRout s R b := by
  by_cases h : ∃ l, vsB l = true ∧ rsL l = s
  · obtain ⟨l, h1, h2⟩ := h
    exact ⟨l, true, .inl ⟨rfl, h1, h2⟩⟩
  · exact ⟨[], false, .inr ⟨rfl, rfl, fun l h1 h2 => h ⟨l, h1, h2⟩⟩⟩
theorem pr_yes {s : Str} {R F : List (List TS)} {b : Bool} (h : PRout s R b) (h1 : vsB F = true) (h2 : rsL F = s) : R = F ∧ b = true := by
  rcases h with ⟨hb, h3, h4⟩ | ⟨_, _, h3⟩
  · have h5 := imr_back h3
    have h6 := imr_back h1
    rw [h4, ← h2, h6] at h5
    exact ⟨h5.symm, hb⟩
  · exact absurd h2 (h3 F h1)
theorem pr_spec_no {s : Str} {R : List (List TS)} {b : Bool} (h : PRout s R b) (hn : ¬ (vsB (spR s) = true ∧ rsL (spR s) = s)) : R = [] ∧ b = false := by
  rcases h with ⟨hb, h3, h4⟩ | ⟨h1, h2, _⟩
  · have h5 := spr_back h3
    rw [h4] at h5
    exact absurd (by rw [h5]; exact ⟨h3, h4⟩) hn
  · exact ⟨h2, h1⟩
theorem pr_impl_no {s : Str} {R : List (List TS)} {b : Bool} (h : PRout s R b) (hn : vsB (imR s) = false) : R = [] ∧ b = false := by
  rcases h with ⟨hb, h3, h4⟩ | ⟨h1, h2, _⟩
  · have h5 := imr_back h3
    rw [h4] at h5
    rw [h5, h3] at hn
    cases hn
  · exact ⟨h2, h1⟩
theorem pr_impl_yes {s : Str} {R : List (List TS)} {b : Bool} (h : PRout s R b) (hv : vsB (imR s) = true) : R = imR s ∧ b = true := pr_yes h hv (imr_fwd hv)
theorem pr_small {s : Str} {R : List (List TS)} {b : Bool} (h : PRout s R b) : R.length ≤ 3 ∧ ∀ l ∈ R, l.length ≤ 3 := by
  rcases h with ⟨_, h3, _⟩ | ⟨_, rfl, _⟩
  · exact ⟨(vs_size h3).2, fun l hl => (vr_len (vs_rule h3 hl)).2⟩
  · simp
theorem rs_same {F : List (List TS)} {s : ByteArray} (h : rsR F = s) (h0 : s.data.toList ≠ []) : vsB F = true ∧ rsL F = s.data.toList := by
  cases hv : vsB F with
  | false =>
    rw [rsR_no hv] at h
    subst h
    exact absurd rfl h0
  | true =>
    rw [rsR_yes hv] at h
    refine ⟨rfl, ?_⟩
    rw [← h]
    simp [strOf]
theorem rs_other {F : List (List TS)} {s : ByteArray} (h : rsR F ≠ s) : ¬ (vsB F = true ∧ rsL F = s.data.toList) := by
  rintro ⟨h1, h2⟩
  apply h
  rw [rsR_yes h1, h2]
  simp [strOf]
theorem rsl_ne {F : List (List TS)} (h : vsB F = true) : rsL F ≠ [] := by
  obtain ⟨t, r, e⟩ : ∃ t r, F = t :: r := by
    have h1 := vs_size h
    cases F with
    | nil => simp at h1
    | cons t r => exact ⟨t, r, rfl⟩
  have hv := vs_rule h (show t ∈ F by rw [e]; exact List.mem_cons_self ..)
  obtain ⟨x, l, e2, _⟩ := vr_cons hv
  have hx := (vt_of (vr_test hv (show x ∈ t by rw [e2]; exact List.mem_cons_self ..))).2.1
  unfold rsL
  rw [e, List.map_cons, Lib.join_cons]
  unfold ruL
  rw [e2, List.map_cons, Lib.join_cons]
  unfold tsL
  simp [itoa_ne hx]

end Go.Proofs.YtpmfabpnjacegaaGreatDoor

/-
  Slices of rules of the call's own, grown by append; the answer of ParseRules. By an AI agent.
-/
namespace Go.Proofs.YtpmfabpnjacegaaGreatDoor
open Go.RowKit
set_option linter.unusedVariables false
set_option linter.unnecessarySimpa false
set_option linter.unusedSimpArgs false

/-- rules and whether they were read are handed back -/
def GivesPR (w : World) (R : List (List TS)) (b : Bool) (e : Ending) (w' : World) : Prop :=
  ∃ a cap q, e = .returned (.tuple #[.agg #[.slice a R.length cap], .bool b]) ∧ rulesU q = R ∧ OwnRu w' w.heap.size (.slice a R.length cap) q ∧ Below w.heap.size w w'
theorem evens_snoc {α : Type} : ∀ {L : List α} {i : Nat} {y : α}, L[i]? = some y → evens (L.take (i + 1)) = if i % 2 = 0 then evens (L.take i) ++ [y] else evens (L.take i)
  | [], i, y, h => by simp at h
  | [x], i, y, h => by
    cases i with
    | zero => simp at h; subst h; rfl
    | succ i => simp at h
  | x :: z :: L, 0, y, h => by simp at h; subst h; rfl
  | x :: z :: L, 1, y, h => by simp [evens]
  | x :: z :: L, i + 2, y, h => by
    have h1 := evens_snoc (L := L) (i := i) (y := y) (by simpa using h)
    simp only [List.take_succ_cons, evens]
    rw [h1, Nat.add_mod_right]
    split <;> rfl
theorem evens_len {α : Type} : ∀ (L : List α), (evens L).length ≤ L.length
  | [] => Nat.le_refl _
  | [x] => Nat.le_refl _
  | x :: y :: L => by have := evens_len L; simp [evens]; omega
theorem OwnRu.snoc {w w3 : World} {lo g : Nat} {v v' u : Value} {q : List XU} {l : List TS} (h : OwnRu w lo v q) (hu : OwnTs w lo u l) (hd : ∀ k, u.ownBlock = some k → v.ownBlock ≠ some k ∧ ∀ p ∈ q, p.2.ownBlock ≠ some k)
    (hg : w.grownBy w3 v.ownBlock) (ho : w3.ownsRow lo 66 1 v' (q.length + 1) (valsU q ++ [u])) (hv' : v'.ownBlock = some g) (hat : v.ownBlock = some g ∨ g = w.heap.size) : OwnRu w3 lo v' (q ++ [(l, u)]) := by
  refine ⟨by simpa [valsU] using ho, fun p hp => ?_, fun p hp k hk e => ?_, ?_⟩
  · rcases List.mem_append.1 hp with h1 | h1
    · exact row_keptO (h.row p h1) hg fun k hk e => h.apart p h1 k e hk
    · obtain rfl : p = (l, u) := by simpa using h1
      exact row_keptO hu hg fun k hk e => (hd k e).1 hk
  · rw [hv'] at e
    injection e with e
    subst e
    rcases List.mem_append.1 hp with h1 | h1
    · rcases hat with h2 | h2
      · exact h.apart p h1 _ hk h2
      · have := (World.ownsRow.lt (h.row p h1) _ hk).2
        omega
    · obtain rfl : p = (l, u) := by simpa using h1
      rcases hat with h2 | h2
      · exact (hd _ hk).1 h2
      · have := (World.ownsRow.lt hu _ hk).2
        omega
  · rw [List.pairwise_append]
    refine ⟨h.dis, List.pairwise_singleton _ _, fun p hp r hr k hk e => ?_⟩
    obtain rfl : r = (l, u) := by simpa using hr
    exact (hd k e).2 p hp hk

/-- append of one test, which lies in a block of its own -/
theorem step_testP {ops : Array Oper} {o : Oper} {a : Act} {W : World} {K : Act → World → Prop} {Q : Exit → Act → World → Prop} {E : Prop} (hgd : o.guard = none) (s y : Operand)
    (hop : o.op = .call { callee := .builtin .append, args := #[s, y], argTypes := #[44, 44] })
    (base : Nat) (v : Value) (l F : List TS) (n m : Nat) (t : TS) (hown : OwnTs W base v l) (hs : a.eval s = v) (hF : l ++ [t] = F) (hn : l.length = n) (hm : n + 1 = m) (q : Nat)
    (hy : a.eval y = .slice (some ⟨q, 0, none⟩) 1 1) (hc : BlkV W q 86 #[.int .i64 t.1.1, .int .i64 t.1.2, .bool t.2]) (hlen : n ≤ 4000000) (hbase : base ≤ W.heap.size)
    (h : ∀ g cap w', OwnTs w' base (.slice (some ⟨g, 0, none⟩) m cap) F → W.grownBy w' v.ownBlock → (v.ownBlock = some g ∨ g = W.heap.size) → K (a.put o.dst (.slice (some ⟨g, 0, none⟩) m cap)) w') :
    if Region.wanted o (yielded ops a.tmps) = true then Oper.wp Tryz.prog o a W K Q else E := by
  obtain ⟨i0, hi, hz0, hz1, hz2⟩ := info_parts info_ts
  subst hn
  refine step_append_lies _ hgd s y 44 hop base 86 i0 _ 3 24 Tryz.underlying44 hi hz0 hz1 hz2 rfl (by decide) v l.length (flatTs l) hs hown
    ⟨q, 0, none⟩ 1 1 [.int .i64 t.1.1, .int .i64 t.1.2, .bool t.2] hy rfl (World.news_of_block (cs := #[.int .i64 t.1.1, .int .i64 t.1.2, .bool t.2]) (fr := (0, 0)) hc) (by simp [Value.oneCell'])
    (by omega) (by unfold maxLen; omega) (by omega) hbase W.heap.size rfl ?_
  intro g cap w' h2 h3 h4 _
  rw [hm] at h2 ⊢
  refine h g cap w' ?_ h3 h4
  unfold OwnTs
  have e : F.length = m := by rw [← hF, ← hm]; simp
  rw [e, ← hF, flatTs_snoc]
  exact h2

end Go.Proofs.YtpmfabpnjacegaaGreatDoor

