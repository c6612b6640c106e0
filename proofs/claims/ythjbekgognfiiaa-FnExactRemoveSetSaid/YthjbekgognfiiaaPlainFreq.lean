/-
  Tokens with counts: plain facts without the program. By an AI agent.
-/
import Derived.Test.YthjbekgognfiiaaJ1
namespace Go.Proofs.Ythjbekgognfiiaa
open Go

abbrev TC := Str × Int

/-- the count of the first element with this token, or 0 -/
def frqL : List TC → Str → Int
  | [], _ => 0
  | x :: l, s => if x.1 = s then x.2 else frqL l s

theorem frq_none {l : List TC} {s : Str} (h : ∀ x ∈ l, x.1 ≠ s) : frqL l s = 0 := by
  induction l with
  | nil => rfl
  | cons x l ih =>
    unfold frqL
    rw [if_neg (h x (by simp))]
    exact ih fun y hy => h y (List.mem_cons_of_mem x hy)
theorem frq_at {l : List TC} {s : Str} : ∀ {k : Nat} {x : TC}, l[k]? = some x → x.1 = s → (∀ j y, j < k → l[j]? = some y → y.1 ≠ s) → frqL l s = x.2 := by
  induction l with
  | nil => intro k x hk; simp at hk
  | cons z l ih =>
    intro k x hk hs hb
    unfold frqL
    cases k with
    | zero =>
      simp at hk
      subst hk
      rw [if_pos hs]
    | succ k =>
      rw [if_neg (hb 0 z (by omega) (by simp))]
      exact ih (by simpa using hk) hs fun j y hj hy => hb (j + 1) y (by omega) (by simpa using hy)
theorem frq_range {l : List TC} {s : Str} {B : Int} (hB : 0 ≤ B) (h : ∀ x ∈ l, -B ≤ x.2 ∧ x.2 ≤ B) : -B ≤ frqL l s ∧ frqL l s ≤ B := by
  induction l with
  | nil => unfold frqL; omega
  | cons x l ih =>
    unfold frqL
    split
    · exact h x (by simp)
    · exact ih fun y hy => h y (List.mem_cons_of_mem x hy)
theorem frq_snoc (l : List TC) (x : TC) (s : Str) : frqL (l ++ [x]) s = if s ∈ l.map (·.1) then frqL l s else if x.1 = s then x.2 else 0 := by
  induction l with
  | nil => simp [frqL]
  | cons z l ih =>
    rw [List.cons_append]
    unfold frqL
    rw [ih]
    by_cases h : z.1 = s
    · simp [h]
    · simp only [if_neg h, List.map_cons, List.mem_cons, show ¬ s = z.1 from fun e => h e.symm, false_or]

/-- the order: by frequency, then by alphabet -/
def kleB (t : List TC) (x y : Str) : Bool := decide (frqL t x < frqL t y) || (decide (frqL t x = frqL t y) && decide (x ≤ y))
abbrev KLe (t : List TC) (x y : Str) : Prop := kleB t x y = true
theorem kle_iff {t : List TC} {x y : Str} : KLe t x y ↔ frqL t x < frqL t y ∨ (frqL t x = frqL t y ∧ x ≤ y) := by
  unfold KLe kleB
  simp
theorem kle_trans {t : List TC} {x y z : Str} (h : KLe t x y) (k : KLe t y z) : KLe t x z := by
  rw [kle_iff] at *
  rcases h with h | ⟨h1, h2⟩
  · rcases k with k | ⟨k1, k2⟩
    · exact .inl (by omega)
    · exact .inl (by omega)
  · rcases k with k | ⟨k1, k2⟩
    · exact .inl (by omega)
    · exact .inr ⟨by omega, str_le_trans h2 k2⟩
theorem kle_total (t : List TC) (x y : Str) : KLe t x y ∨ KLe t y x := by
  rw [kle_iff, kle_iff]
  rcases Int.lt_trichotomy (frqL t x) (frqL t y) with h | h | h
  · exact .inl (.inl h)
  · rcases List.le_total x y with k | k
    · exact .inl (.inr ⟨h, k⟩)
    · exact .inr (.inr ⟨h.symm, k⟩)
  · exact .inr (.inl h)
theorem kle_antisymm {t : List TC} {x y : Str} (h : KLe t x y) (k : KLe t y x) : x = y := by
  rw [kle_iff] at *
  rcases h with h | ⟨h1, h2⟩
  · rcases k with k | ⟨k1, k2⟩ <;> omega
  · rcases k with k | ⟨k1, k2⟩
    · omega
    · exact List.le_antisymm h2 k2
theorem kle_refl (t : List TC) (x : Str) : KLe t x x := by
  rcases kle_total t x x with h | h <;> exact h

/-- the tokens in the order of a table -/
def ordR (t : List TC) (l : List Str) : List Str := l.mergeSort (kleB t)
theorem ord_perm (t : List TC) (l : List Str) : (ordR t l).Perm l := List.mergeSort_perm l (kleB t)
theorem ord_sorted (t : List TC) (l : List Str) : (ordR t l).Pairwise (KLe t) := by
  have tr : ∀ a b c : Str, kleB t a b = true → kleB t b c = true → kleB t a c = true := fun a b c h1 h2 => kle_trans h1 h2
  have to : ∀ a b : Str, (kleB t a b || kleB t b a) = true := fun a b => by rw [Bool.or_eq_true]; exact kle_total t a b
  exact List.pairwise_mergeSort tr to l
theorem ord_len (t : List TC) (l : List Str) : (ordR t l).length = l.length := (ord_perm t l).length_eq
theorem ord_unique {t : List TC} {l r : List Str} (hp : r.Perm l) (hs : r.Pairwise (KLe t)) : r = ordR t l :=
  List.Perm.eq_of_pairwise (le := fun x y => KLe t x y) (fun _ _ _ _ h1 h2 => kle_antisymm h1 h2) hs (ord_sorted t l) (hp.trans (ord_perm t l).symm)

/-- one token more, behind all that are not greater -/
theorem ord_step {t : List TC} {out l : List Str} {k : Nat} {x : Str} (hp : out.Perm l) (hs : out.Pairwise (KLe t)) (hk : k ≤ out.length)
    (hlo : ∀ y, 0 < k → out[k - 1]? = some y → KLe t y x) (hhi : ∀ y, out[k]? = some y → KLe t x y) :
    (out.take k ++ x :: out.drop k).Perm (l ++ [x]) ∧ (out.take k ++ x :: out.drop k).Pairwise (KLe t) := by
  refine ⟨?_, ?_⟩
  · refine List.perm_middle.trans ?_
    rw [List.take_append_drop]
    exact (List.Perm.cons x hp).trans (List.perm_append_singleton x l).symm
  · have hs2 : (out.take k ++ out.drop k).Pairwise (KLe t) := by rw [List.take_append_drop]; exact hs
    obtain ⟨h1, h2, h3⟩ := List.pairwise_append.1 hs2
    have hL : ∀ y ∈ out.take k, KLe t y x := by
      intro y hy
      obtain ⟨j, hj⟩ := List.getElem?_of_mem hy
      have hjk : j < k := by
        have := (List.getElem?_eq_some_iff.1 hj).1
        rw [List.length_take] at this
        omega
      rw [List.getElem?_take_of_lt hjk] at hj
      have hk1 : k - 1 < out.length := by omega
      have hz := List.getElem?_eq_getElem hk1
      have h0 := hlo _ (by omega) hz
      by_cases e : j = k - 1
      · subst e
        rw [hz] at hj
        rw [← Option.some.inj hj]
        exact h0
      · obtain ⟨hj1, hj2⟩ := List.getElem?_eq_some_iff.1 hj
        have := (List.pairwise_iff_getElem.1 hs) j (k - 1) hj1 hk1 (by omega)
        rw [hj2] at this
        exact kle_trans this h0
    have hG : ∀ y ∈ out.drop k, KLe t x y := by
      intro y hy
      obtain ⟨j, hj⟩ := List.getElem?_of_mem hy
      rw [List.getElem?_drop] at hj
      obtain ⟨hj1, hj2⟩ := List.getElem?_eq_some_iff.1 hj
      have hz := List.getElem?_eq_getElem (show k < out.length by omega)
      have h0 := hhi _ hz
      by_cases e : j = 0
      · subst e
        rw [← hj2]
        exact h0
      · have := (List.pairwise_iff_getElem.1 hs) k (k + j) (by omega) hj1 (by omega)
        rw [hj2] at this
        exact kle_trans h0 this
    refine List.pairwise_append.2 ⟨h1, List.pairwise_cons.2 ⟨hG, h2⟩, fun a ha b hb => ?_⟩
    rcases List.mem_cons.1 hb with rfl | hb
    · exact hL a ha
    · exact h3 a ha b hb

/-- a table: counts of at least 1, tokens ascending -/
def TokTab (l : List TC) : Prop := (∀ x ∈ l, 1 ≤ x.2) ∧ Asc (l.map (·.1))
noncomputable def ttB (l : List TC) : Bool := @decide (TokTab l) (Classical.propDecidable _)
theorem ttB_true {l : List TC} : ttB l = true ↔ TokTab l := by unfold ttB; simp
theorem ttB_no {l : List TC} (h : ¬ TokTab l) : ttB l = false := by unfold ttB; simp [h]
theorem tt_count {l : List TC} {k : Nat} {x : TC} (hk : l[k]? = some x) (h : x.2 < 1) : ttB l = false :=
  ttB_no fun hT => by have := hT.1 x (List.mem_of_getElem? hk); omega
theorem tt_asc {l : List TC} (h : TokTab l) {j k : Nat} {x y : TC} (hj : l[j]? = some x) (hk : l[k]? = some y) (hjk : j < k) : x.1 < y.1 := by
  have h2 := List.pairwise_iff_getElem.1 h.2
  obtain ⟨hj1, hj2⟩ := List.getElem?_eq_some_iff.1 hj
  obtain ⟨hk1, hk2⟩ := List.getElem?_eq_some_iff.1 hk
  have := h2 j k (by simpa using hj1) (by simpa using hk1) hjk
  simpa [hj2, hk2] using this
theorem tt_order {l : List TC} {k : Nat} {x y : TC} (hy : l[k]? = some y) (hx : l[k + 1]? = some x) (h : ¬ y.1 < x.1) : ttB l = false :=
  ttB_no fun hT => h (tt_asc hT hy hx (by omega))
theorem tc_take {l : List TC} {k : Nat} {x : TC} (h : l[k]? = some x) : l.take (k + 1) = l.take k ++ [x] := by
  obtain ⟨hlt, he⟩ := List.getElem?_eq_some_iff.1 h
  rw [List.take_succ_eq_append_getElem hlt, he]
theorem tt_step {l : List TC} {k : Nat} {x : TC} (h : TokTab (l.take k)) (hx : l[k]? = some x) (hc : 1 ≤ x.2) (hy : ∀ y, k ≠ 0 → l[k - 1]? = some y → y.1 < x.1) : TokTab (l.take (k + 1)) := by
  rw [tc_take hx]
  refine ⟨fun z hz => ?_, ?_⟩
  · rcases List.mem_append.1 hz with hz | hz
    · exact h.1 z hz
    · rw [List.mem_singleton.1 hz]; exact hc
  · unfold Asc
    rw [List.map_append]
    refine List.pairwise_append.2 ⟨h.2, by simp, fun a ha b hb => ?_⟩
    simp at hb
    subst hb
    obtain ⟨z, hz, rfl⟩ := List.mem_map.1 ha
    obtain ⟨j, hj⟩ := List.getElem?_of_mem hz
    have hlt := (List.getElem?_eq_some_iff.1 hx).1
    have hjk : j < k := by
      have := (List.getElem?_eq_some_iff.1 hj).1
      rw [List.length_take] at this
      omega
    have hk1 : k - 1 < l.length := by omega
    have hw := List.getElem?_eq_getElem hk1
    have h0 := hy _ (by omega) hw
    by_cases e : j = k - 1
    · subst e
      rw [List.getElem?_take_of_lt hjk, hw] at hj
      rw [← Option.some.inj hj]
      exact h0
    · have hw2 : (l.take k)[k - 1]? = some l[k - 1] := by rw [List.getElem?_take_of_lt (by omega)]; exact hw
      exact str_lt_trans (tt_asc h hj hw2 (by omega)) h0

/-- a search that ends at k: all ahead of it are less, the one there is the token -/
theorem frq_found {l : List TC} (h : TokTab l) {k : Nat} {x : TC} {s : Str} (hk : l[k]? = some x) (hs : x.1 = s) : frqL l s = x.2 := by
  refine frq_at hk hs fun j y hj hy e => ?_
  have := tt_asc h hy hk hj
  rw [e, hs] at this
  exact List.lt_irrefl s this
theorem frq_missing {l : List TC} (h : TokTab l) {k : Nat} {s : Str} (hlo : ∀ j y, j < k → l[j]? = some y → y.1 < s) (hk : ∀ x, l[k]? = some x → s < x.1) : frqL l s = 0 := by
  refine frq_none fun y hy e => ?_
  obtain ⟨j, hj⟩ := List.getElem?_of_mem hy
  rcases Nat.lt_trichotomy j k with hlt | rfl | hgt
  · have := hlo j y hlt hj
    rw [e] at this
    exact List.lt_irrefl s this
  · have := hk y hj
    rw [e] at this
    exact List.lt_irrefl s this
  · have hkl : k < l.length := by have := (List.getElem?_eq_some_iff.1 hj).1; omega
    have hw := List.getElem?_eq_getElem hkl
    have h1 := hk _ hw
    have h2 := tt_asc h hw hj hgt
    rw [e] at h2
    exact List.lt_irrefl s (str_lt_trans h1 h2)

/-- in how many of the lists a token stands -/
def hasN (ls : List (List Str)) (t : Str) : Nat := (ls.filter fun l => decide (t ∈ l)).length
theorem hasN_nil (t : Str) : hasN [] t = 0 := rfl
theorem hasN_snoc (ls : List (List Str)) (l : List Str) (t : Str) : hasN (ls ++ [l]) t = hasN ls t + if t ∈ l then 1 else 0 := by
  unfold hasN
  rw [List.filter_append, List.length_append]
  by_cases h : t ∈ l <;> simp [h]
theorem hasN_le (ls : List (List Str)) (t : Str) : hasN ls t ≤ ls.length := List.length_filter_le _ _
theorem hasN_pos {ls : List (List Str)} {t : Str} : 1 ≤ hasN ls t ↔ t ∈ ls.flatten := by
  unfold hasN
  rw [List.mem_flatten]
  constructor
  · intro h
    obtain ⟨l, hl⟩ := List.exists_mem_of_length_pos h
    obtain ⟨h1, h2⟩ := List.mem_filter.1 hl
    exact ⟨l, h1, by simpa using h2⟩
  · rintro ⟨l, h1, h2⟩
    exact List.length_pos_of_mem (List.mem_filter.2 ⟨h1, by simpa using h2⟩)

/-- the table of the lists -/
def ctR (ls : List (List Str)) : List TC := (setL ls.flatten).map fun t => (t, (hasN ls t : Int))
theorem ct_tokens (ls : List (List Str)) : (ctR ls).map (·.1) = setL ls.flatten := by
  unfold ctR
  rw [List.map_map]
  exact List.map_id' _
theorem ct_table (ls : List (List Str)) : TokTab (ctR ls) := by
  refine ⟨fun x hx => ?_, by rw [ct_tokens]; exact setL_asc _⟩
  obtain ⟨t, ht, rfl⟩ := List.mem_map.1 hx
  have := hasN_pos.2 ((setL_mem _ _).1 ht)
  show (1 : Int) ≤ (hasN ls t : Int)
  omega
theorem ct_count {ls : List (List Str)} {x : TC} (h : x ∈ ctR ls) : 1 ≤ x.2 ∧ x.2 ≤ (ls.length : Int) := by
  obtain ⟨t, ht, rfl⟩ := List.mem_map.1 h
  have := hasN_pos.2 ((setL_mem _ _).1 ht)
  have := hasN_le ls t
  show (1 : Int) ≤ (hasN ls t : Int) ∧ (hasN ls t : Int) ≤ (ls.length : Int)
  omega
theorem ct_len (ls : List (List Str)) : (ctR ls).length ≤ ls.flatten.length := by
  unfold ctR
  rw [List.length_map]
  exact setL_length _

/-- the tokens of a list in order, each with its number -/
def grpL (m : List Str) : List TC := (setL m).map fun t => (t, (m.count t : Int))
theorem grp_nil : grpL [] = [] := rfl
theorem setL_big {m : List Str} {x : Str} (h : ∀ y ∈ m, y < x) : setL (m ++ [x]) = setL m ++ [x] := by
  refine asc_ext (setL_asc _) ?_ fun z => ?_
  · refine List.pairwise_append.2 ⟨setL_asc m, by simp, fun a ha b hb => ?_⟩
    rw [List.mem_singleton.1 hb]
    exact h a ((setL_mem m a).1 ha)
  · rw [setL_mem, List.mem_append, List.mem_append, setL_mem]
theorem count_not {m : List Str} {x : Str} (h : x ∉ m) : m.count x = 0 := List.count_eq_zero.2 h
theorem grp_new {m : List Str} {x : Str} (h : ∀ y ∈ m, y < x) : grpL (m ++ [x]) = grpL m ++ [(x, 1)] := by
  have hx : x ∉ m := fun e => List.lt_irrefl x (h x e)
  unfold grpL
  rw [setL_big h, List.map_append]
  congr 1
  · refine List.map_congr_left fun t ht => ?_
    have hne : x ≠ t := fun e => hx (by rw [e]; exact (setL_mem m t).1 ht)
    rw [count_snoc, if_neg hne]
    rfl
  · rw [List.map_singleton, count_snoc, if_pos rfl, count_not hx]
    rfl
theorem asc_last {l : List Str} {x : Str} (ha : Asc l) (hm : x ∈ l) (hb : ∀ y ∈ l, y ≤ x) : ∃ q, l = q ++ [x] ∧ ∀ y ∈ q, y < x := by
  have hne : l ≠ [] := fun e => by rw [e] at hm; cases hm
  have e := List.dropLast_concat_getLast hne
  have ha2 : Asc (l.dropLast ++ [l.getLast hne]) := by rw [e]; exact ha
  obtain ⟨_, _, h3⟩ := List.pairwise_append.1 ha2
  have hx : l.getLast hne = x := by
    rw [← e] at hm
    rcases List.mem_append.1 hm with hm | hm
    · have h4 := h3 x hm (l.getLast hne) (by simp)
      exact absurd h4 (List.not_lt.2 (hb _ (List.getLast_mem hne)))
    · exact (List.mem_singleton.1 hm).symm
  rw [hx] at e h3
  exact ⟨l.dropLast, e.symm, fun y hy => h3 y hy x (by simp)⟩
theorem grp_same {m : List Str} {x : Str} (hm : x ∈ m) (hb : ∀ y ∈ m, y ≤ x) : ∃ (q : List TC) (c : Nat), grpL m = q ++ [(x, (c : Int))] ∧ grpL (m ++ [x]) = q ++ [(x, ((c + 1 : Nat) : Int))] ∧ c + 1 ≤ m.length + 1 := by
  obtain ⟨q, hq, hlt⟩ := asc_last (setL_asc m) ((setL_mem m x).2 hm) fun y hy => hb y ((setL_mem m y).1 hy)
  refine ⟨q.map fun t => (t, (m.count t : Int)), m.count x, ?_, ?_, ?_⟩
  · unfold grpL
    rw [hq, List.map_append]
    rfl
  · have e : setL (m ++ [x]) = setL m := setL_congr fun z => by
      rw [List.mem_append, List.mem_singleton]
      exact ⟨fun h => h.elim id (fun h => by rw [h]; exact hm), .inl⟩
    unfold grpL
    rw [e, hq, List.map_append, List.map_singleton, count_snoc, if_pos rfl]
    congr 1
    refine List.map_congr_left fun t ht => ?_
    rw [count_snoc, if_neg (fun e => List.lt_irrefl x (by have := hlt t ht; rw [← e] at this; exact this))]
    rfl
  · have := List.count_le_length (a := x) (l := m)
    omega
theorem grp_is {m : List Str} {ls : List (List Str)} (h : ∀ t, m.count t = hasN ls t) : grpL m = ctR ls := by
  have e : setL m = setL ls.flatten := setL_congr fun z => by
    rw [← hasN_pos, ← h z]
    exact List.count_pos_iff.symm
  unfold grpL ctR
  rw [e]
  exact List.map_congr_left fun t _ => by rw [h t]
theorem grp_len (m : List Str) : (grpL m).length ≤ m.length := by unfold grpL; rw [List.length_map]; exact setL_length m

theorem nodup_len {c : List Str} : ∀ {d : List Str}, c.Nodup → (∀ y ∈ c, y ∈ d) → c.length ≤ d.length := by
  induction c with
  | nil => intro d _ _; exact Nat.zero_le _
  | cons x c ih =>
    intro d hn hs
    obtain ⟨h1, h2⟩ := List.nodup_cons.1 hn
    have hx := hs x (by simp)
    have h3 := ih (d := d.erase x) h2 fun y hy => (List.mem_erase_of_ne (fun e => h1 (by rw [← e]; exact hy))).2 (hs y (List.mem_cons_of_mem x hy))
    have h4 := List.length_erase_of_mem hx
    have h5 := List.length_pos_of_mem hx
    rw [List.length_cons]
    omega

/-- what two sets have in common, the least of it in the order -/
theorem share_take {t : List TC} {a c : List Str} {k : Nat} {z : Str} (ha : a.Nodup) (hc : c.Nodup) (hsub : ∀ y ∈ c, y ∈ a) (hz : z ∈ c) (hmin : ∀ y ∈ c, KLe t z y) (hk : a.length < k + c.length) : z ∈ (ordR t a).take k := by
  have hzA : z ∈ (ordR t a).take k ++ (ordR t a).drop k := by rw [List.take_append_drop]; exact (ord_perm t a).mem_iff.2 (hsub z hz)
  rcases List.mem_append.1 hzA with h | h
  · exact h
  · exfalso
    have hs : ((ordR t a).take k ++ (ordR t a).drop k).Pairwise (KLe t) := by rw [List.take_append_drop]; exact ord_sorted t a
    obtain ⟨_, _, h3⟩ := List.pairwise_append.1 hs
    have hn : ((ordR t a).take k ++ (ordR t a).drop k).Nodup := by rw [List.take_append_drop]; exact (ord_perm t a).nodup_iff.2 ha
    have hd : ∀ y ∈ c, y ∈ (ordR t a).drop k := by
      intro y hy
      have hyA : y ∈ (ordR t a).take k ++ (ordR t a).drop k := by rw [List.take_append_drop]; exact (ord_perm t a).mem_iff.2 (hsub y hy)
      rcases List.mem_append.1 hyA with h4 | h4
      · have e : y = z := kle_antisymm (h3 y h4 z h) (hmin y hy)
        rw [e]; exact h
      · exact h4
    have hl := nodup_len hc hd
    rw [List.length_drop, ord_len] at hl
    have h5 : 0 < c.length := List.length_pos_of_mem hz
    omega
theorem least_common (t : List TC) (a b : List Str) (h : 0 < (a.filter fun x => decide (x ∈ b)).length) : ∃ z, z ∈ a.filter (fun x => decide (x ∈ b)) ∧ ∀ y ∈ a.filter (fun x => decide (x ∈ b)), KLe t z y := by
  have hl : 0 < (ordR t (a.filter fun x => decide (x ∈ b))).length := by rw [ord_len]; exact h
  cases hr : ordR t (a.filter fun x => decide (x ∈ b)) with
  | nil => rw [hr] at hl; simp at hl
  | cons z r =>
    have hs := ord_sorted t (a.filter fun x => decide (x ∈ b))
    have hp := ord_perm t (a.filter fun x => decide (x ∈ b))
    rw [hr] at hs hp
    refine ⟨z, hp.mem_iff.1 (by simp), fun y hy => ?_⟩
    rcases List.mem_cons.1 (hp.mem_iff.2 hy) with rfl | hy
    · exact kle_refl t y
    · exact (List.pairwise_cons.1 hs).1 y hy

end Go.Proofs.Ythjbekgognfiiaa
