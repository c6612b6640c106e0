/-
  Feature vectors and their format, in plain lists: a format can be read in one way alone. By an AI agent.
-/
import Derived.Test.YtknkhljegmielaaDoorFeat
import Derived.Test.YtknkhljegmielaaDoorFeatN
import Derived.Test.YtknkhljegmielaaDoorSplitL
import Derived.Test.YtknkhljegmielaaDoorPiR
import Derived.Lib.ItoaLen
namespace Go.Proofs.YtknkhljegmielaaDoor
open Go.RowKit
set_option linter.unusedVariables false

def fpart (i : Nat) (x : Int) : Str := fnL i ++ 61 :: Lib.itoa x
def fparts (l : List Int) : List Str := l.mapIdx fpart
def ffL (l : List Int) : Str := Lib.join (fparts l) [32]
def ffR (l : List Int) : ByteArray := if fvB l = true then ⟨(ffL l).toArray⟩ else ⟨#[]⟩
theorem ff_yes {l : List Int} (h : fvB l = true) : ffR l = ⟨(ffL l).toArray⟩ := if_pos h
theorem ff_no {l : List Int} (h : fvB l = false) : ffR l = ⟨#[]⟩ := if_neg (by rw [h]; exact Bool.false_ne_true)
theorem fparts_len (l : List Int) : (fparts l).length = l.length := by simp [fparts]
theorem fparts_at {l : List Int} {k : Nat} {x : Int} (h : l[k]? = some x) : (fparts l)[k]? = some (fpart k x) := by
  unfold fparts
  rw [List.getElem?_mapIdx, h]
  rfl

theorem fn_len (n : Int) : (fnL n).length ≤ 6 := by
  unfold fnL
  repeat' split
  all_goals decide
theorem fv_at {l : List Int} (h : fvB l = true) {k : Nat} {x : Int} (hx : l[k]? = some x) : 0 ≤ x ∧ x ≤ 1000 := within_mem (fv_of h).2 (List.mem_of_getElem? hx)
theorem fpart_len {k : Nat} {x : Int} (h0 : 0 ≤ x) (h1 : x ≤ 1000) : (fpart k x).length ≤ 28 := by
  have h2 := fn_len k
  have h3 := Lib.itoa_length_le x (by omega) (by omega)
  unfold fpart
  simp
  omega
theorem mem_part {l : List Int} {y : Str} (h : y ∈ fparts l) : ∃ k x, l[k]? = some x ∧ y = fpart k x := by
  obtain ⟨k, hk⟩ := List.getElem?_of_mem h
  have hlt : k < l.length := by rw [← fparts_len]; exact (List.getElem?_eq_some_iff.1 hk).1
  have h1 := fparts_at (List.getElem?_eq_getElem hlt)
  rw [hk] at h1
  injection h1 with h1
  exact ⟨k, l[k], List.getElem?_eq_getElem hlt, h1⟩
theorem jtail_len : ∀ (L : List Str), (∀ y ∈ L, y.length ≤ 28) → (Lib.joinTail [32] L).length ≤ 29 * L.length
  | [], _ => by simp [Lib.joinTail]
  | x :: l, h => by
    have h1 := jtail_len l (fun y hy => h y (List.mem_cons_of_mem _ hy))
    have h2 := h x (List.mem_cons_self ..)
    rw [tail_cons]
    simp at h1 ⊢
    omega
theorem join_len {L : List Str} (h : ∀ y ∈ L, y.length ≤ 28) : (Lib.join L [32]).length ≤ 29 * L.length := by
  cases L with
  | nil => simp [Lib.join_nil]
  | cons x l =>
    rw [Lib.join_cons]
    have h1 := jtail_len l (fun y hy => h y (List.mem_cons_of_mem _ hy))
    have h2 := h x (List.mem_cons_self ..)
    simp
    omega
theorem fparts_small {l : List Int} (h : fvB l = true) : ∀ y ∈ fparts l, y.length ≤ 28 := by
  intro y hy
  obtain ⟨k, x, hx, rfl⟩ := mem_part hy
  have := fv_at h hx
  exact fpart_len this.1 this.2
theorem join_snoc {L : List Str} {k : Nat} {y : Str} (h : L[k]? = some y) (hk : 0 < k) : Lib.join (L.take (k + 1)) [32] = Lib.join (L.take k) [32] ++ [32] ++ y := by
  cases L with
  | nil => simp at h
  | cons x r =>
    obtain ⟨j, rfl⟩ : ∃ j, k = j + 1 := ⟨k - 1, by omega⟩
    have h1 : r[j]? = some y := by simpa using h
    rw [List.take_succ_cons, List.take_succ_cons, Lib.join_cons, Lib.join_cons, Lib.joinTail_take_succ _ _ _ _ h1]
    simp [List.append_assoc]
theorem join_first {L : List Str} {y : Str} (h : L[0]? = some y) : Lib.join (L.take 1) [32] = y := by
  cases L with
  | nil => simp at h
  | cons x r =>
    simp at h
    subst h
    exact Lib.join_one _ _

theorem itoa_digits0 {k : Int} (h : 0 ≤ k) {b : UInt8} (hb : b ∈ Lib.itoa k) : 48 ≤ b.toNat ∧ b.toNat ≤ 57 := by
  obtain ⟨a, rfl⟩ : ∃ a : Nat, k = a := ⟨k.toNat, by omega⟩
  rw [Lib.itoa_nonneg] at hb
  exact dec_all a b hb
theorem fn_off (n : Int) {b : UInt8} (hb : b ∈ fnL n) : 97 ≤ b.toNat := by
  have h : ∀ c ∈ fnL n, 97 ≤ c.toNat := by
    unfold fnL
    repeat' split
    all_goals decide
  exact h b hb
theorem fpart_sp {k : Nat} {x : Int} (h : 0 ≤ x) : (32 : UInt8) ∉ fpart k x := by
  intro hm
  unfold fpart at hm
  rcases List.mem_append.1 hm with h1 | h1
  · have := fn_off _ h1
    revert this
    decide
  · rcases List.mem_cons.1 h1 with h2 | h2
    · revert h2
      decide
    · have := (itoa_digits0 h h2).1
      revert this
      decide
theorem fn_eq (n : Int) : (61 : UInt8) ∉ fnL n := by
  intro hm
  have := fn_off _ hm
  revert this
  decide
theorem itoa_eq {x : Int} (h : 0 ≤ x) : (61 : UInt8) ∉ Lib.itoa x := by
  intro hm
  have := (itoa_digits0 h hm).2
  revert this
  decide
theorem cut_part {k : Nat} {x : Int} (h : 0 ≤ x) : (cutL 61 (fpart k x)).getLastD [] = Lib.itoa x := by
  have e : fpart k x = fnL k ++ Lib.joinTail [61] [Lib.itoa x] := by simp [fpart, Lib.joinTail]
  rw [e, cutL_fwd 61 _ _ (fn_eq _) (fun y hy => by rw [List.mem_singleton.1 hy]; exact itoa_eq h)]
  rfl
theorem cut_part2 {k : Nat} {x : Int} (h : 0 ≤ x) : (Lib.cut (fpart k x) [61]).2.1 = Lib.itoa x := by
  unfold fpart
  rw [cut_at 61 _ (fn_eq _)]
theorem piR_itoa {x : Int} (h0 : 0 ≤ x) (h1 : x ≤ 1000) : piR (Lib.itoa x) = x := piR_of (.inl ⟨rfl, rfl, by omega, by omega⟩)

/-- what the two sides read -/
noncomputable def specF (s : Str) : List Int := ((cutL 32 s).take 7).map fun y => piR ((cutL 61 y).getLastD [])
noncomputable def implF (k : Nat) (s : Str) : List Int := (Lib.splitK [32] 0 k s).map fun y => piR (Lib.cut y [61]).2.1

theorem join_parts {l : List Int} (h : fvB l = true) : ∃ p L, fparts l = p :: L ∧ ffL l = p ++ Lib.joinTail [32] L ∧ L.length = 5 ∧ ∀ y ∈ p :: L, (32 : UInt8) ∉ y := by
  have h6 := (fv_of h).1
  have hl := fparts_len l
  cases hp : fparts l with
  | nil => rw [hp] at hl; simp at hl; omega
  | cons p L =>
    rw [hp] at hl
    simp at hl
    refine ⟨p, L, rfl, by unfold ffL; rw [hp, Lib.join_cons], by omega, fun y hy => ?_⟩
    rw [← hp] at hy
    obtain ⟨k, x, hx, rfl⟩ := mem_part hy
    exact fpart_sp (fv_at h hx).1
theorem map_back {l : List Int} (h : fvB l = true) (g : Str → Int) (hg : ∀ k x, 0 ≤ x → x ≤ 1000 → g (fpart k x) = x) : (fparts l).map g = l := by
  apply List.ext_getElem?
  intro k
  rw [List.getElem?_map]
  cases hk : l[k]? with
  | none =>
    have : (fparts l)[k]? = none := by
      rw [List.getElem?_eq_none_iff, fparts_len]
      exact List.getElem?_eq_none_iff.1 hk
    rw [this]
    rfl
  | some x =>
    rw [fparts_at hk]
    have := fv_at h hk
    show some (g (fpart k x)) = _
    rw [hg k x this.1 this.2]
theorem spec_read {l : List Int} (h : fvB l = true) : specF (ffL l) = l := by
  obtain ⟨p, L, h1, h2, h3, h4⟩ := join_parts h
  unfold specF
  rw [h2, cutL_fwd 32 p L (h4 p (List.mem_cons_self ..)) (fun y hy => h4 y (List.mem_cons_of_mem _ hy)), ← h1, List.take_of_length_le (by rw [h1]; simp; omega)]
  exact map_back h _ (fun k x x0 x1 => by rw [cut_part x0, piR_itoa x0 x1])
theorem impl_read {l : List Int} (h : fvB l = true) {k : Nat} (hk : 5 ≤ k) : implF k (ffL l) = l := by
  obtain ⟨p, L, h1, h2, h3, h4⟩ := join_parts h
  unfold implF
  rw [h2, split_fwd 32 L k p (by omega) (h4 p (List.mem_cons_self ..)) (fun y hy => h4 y (List.mem_cons_of_mem _ hy)), ← h1]
  exact map_back h _ (fun k x x0 x1 => by rw [cut_part2 x0, piR_itoa x0 x1])
theorem ff_long {l : List Int} (h : fvB l = true) : 5 ≤ (ffL l).length := by
  obtain ⟨p, L, h1, h2, h3, h4⟩ := join_parts h
  have h5 : ∀ M : List Str, M.length ≤ (Lib.joinTail [32] M).length := by
    intro M
    induction M with
    | nil => simp [Lib.joinTail]
    | cons y M ih => rw [tail_cons]; simp at ih ⊢; omega
  have := h5 L
  rw [h2, List.length_append]
  omega
theorem ff_len {l : List Int} (h : fvB l = true) : (ffL l).length ≤ 200 := by
  have h1 := join_len (fparts_small h)
  rw [fparts_len, (fv_of h).1] at h1
  exact Nat.le_trans h1 (by decide)

/-- what ParseFeatures answers at s -/
def PFout (s : Str) (L : List Int) (r : Bool) : Prop := (r = true ∧ fvB L = true ∧ ffL L = s) ∨ (r = false ∧ L = [] ∧ ∀ l, fvB l = true → ffL l ≠ s)
theorem pf_some (s : Str) : ∃ L r, PFout s L r := by
  by_cases h : ∃ l, fvB l = true ∧ ffL l = s
  · obtain ⟨l, h1, h2⟩ := h
    exact ⟨l, true, .inl ⟨rfl, h1, h2⟩⟩
  · exact ⟨[], false, .inr ⟨rfl, rfl, fun l h1 h2 => h ⟨l, h1, h2⟩⟩⟩
theorem pf_len {s : Str} {L : List Int} {r : Bool} (h : PFout s L r) : L.length ≤ 6 := by
  rcases h with ⟨-, h, -⟩ | ⟨-, rfl, -⟩
  · have := (fv_of h).1; omega
  · simp
theorem pf_yes {s : Str} {L F : List Int} {r : Bool} (h : PFout s L r) (h1 : fvB F = true) (h2 : ffL F = s) : L = F ∧ r = true := by
  rcases h with ⟨rfl, h3, h4⟩ | ⟨-, -, h3⟩
  · refine ⟨?_, rfl⟩
    rw [← spec_read h3, ← spec_read h1, h4, h2]
  · exact absurd h2 (h3 F h1)
theorem pf_spec_no {s : Str} {L : List Int} {r : Bool} (h : PFout s L r) (hn : ¬ (fvB (specF s) = true ∧ ffL (specF s) = s)) : L = [] ∧ r = false := by
  rcases h with ⟨rfl, h3, h4⟩ | ⟨rfl, rfl, -⟩
  · exfalso
    apply hn
    rw [← h4, spec_read h3]
    exact ⟨h3, rfl⟩
  · exact ⟨rfl, rfl⟩
theorem pf_impl_no {s : Str} {L : List Int} {r : Bool} {k : Nat} (hk : s.length < 5 ∨ 5 ≤ k) (h : PFout s L r) (hn : ¬ (fvB (implF k s) = true ∧ ffL (implF k s) = s)) : L = [] ∧ r = false := by
  rcases h with ⟨rfl, h3, h4⟩ | ⟨rfl, rfl, -⟩
  · exfalso
    have h5 := ff_long h3
    rw [h4] at h5
    apply hn
    rw [← h4, impl_read h3 (by omega)]
    exact ⟨h3, rfl⟩
  · exact ⟨rfl, rfl⟩
theorem ff_same {F : List Int} {s : ByteArray} (h : ffR F = s) (h0 : s.data.toList ≠ []) : fvB F = true ∧ ffL F = s.data.toList := by
  cases e : fvB F with
  | true =>
    rw [ff_yes e] at h
    rw [← h]
    exact ⟨rfl, rfl⟩
  | false =>
    rw [ff_no e] at h
    rw [← h] at h0
    exact absurd rfl h0
theorem ff_other {F : List Int} {s : ByteArray} (h : ffR F ≠ s) : ¬ (fvB F = true ∧ ffL F = s.data.toList) := by
  rintro ⟨h1, h2⟩
  apply h
  rw [ff_yes h1, h2]
theorem ff_empty {F : List Int} {s : Str} (h : s = []) : ¬ (fvB F = true ∧ ffL F = s) := by
  rintro ⟨h1, h2⟩
  have := ff_long h1
  rw [h2, h] at this
  simp at this

end Go.Proofs.YtknkhljegmielaaDoor
