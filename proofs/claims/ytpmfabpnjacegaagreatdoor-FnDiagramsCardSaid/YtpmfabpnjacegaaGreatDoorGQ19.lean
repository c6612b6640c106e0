/-
  Texts laid together: PlainBdC, PlainBdN, LawCode. By an AI agent.
-/
import Derived.Test.YtpmfabpnjacegaaGreatDoorGQ2
import Derived.Test.YtpmfabpnjacegaaGreatDoorGQ16
/-
  The diagram that is built is valid, decides as the rules do, and asks each variable once at most. By an AI agent.
-/
namespace Go.Proofs.YtpmfabpnjacegaaGreatDoor
open Go.RowKit
set_option linter.unusedVariables false
set_option linter.unusedSimpArgs false
set_option linter.unnecessarySimpa false

theorem nodes_nil : nodesB [] = true := rfl
theorem nodes_snoc {D : List DN} {x : DN} (h : nodesB D = true) (hx : dvB x D = true) : nodesB (D ++ [x]) = true := by
  rw [nodes_iff] at h ⊢
  intro i y hy
  by_cases hi : i < D.length
  · rw [List.getElem?_append_left hi] at hy
    rw [List.take_append_of_le_length (by omega)]
    exact h i y hy
  · have hlt := (List.getElem?_eq_some_iff.1 hy).1
    simp at hlt
    obtain rfl : i = D.length := by omega
    rw [List.getElem?_append_right (Nat.le_refl _), Nat.sub_self] at hy
    simp at hy
    subst hy
    rw [List.take_append_of_le_length (Nat.le_refl _), List.take_length]
    exact hx
theorem asc_lt {V : List IQ} (h : AscP V) {j i : Nat} {p q : IQ} (hj : V[j]? = some p) (hi : V[i]? = some q) (hji : j < i) : varLt p q = true := by
  obtain ⟨l1, e1⟩ := List.getElem?_eq_some_iff.1 hj
  obtain ⟨l2, e2⟩ := List.getElem?_eq_some_iff.1 hi
  have := List.pairwise_iff_getElem.1 h j i l1 l2 hji
  rw [e1, e2] at this
  unfold varLt
  unfold plt at this
  simpa using this

/-- what holds of a reference and of the nodes -/
structure BInv (V : List IQ) (i : Nat) (D D' : List DN) (x : Int) : Prop where
  nodes : nodesB D' = true
  vars : ∀ y ∈ D', y.1 ∈ V
  ext : ∃ E, D' = D ++ E
  range : 0 ≤ x ∧ x ≤ (D'.length : Int) + 1
  later : ∀ y, 2 ≤ x → D'[(x - 2).toNat]? = some y → ∀ j p, j < i → V[j]? = some p → varLt p y.1 = true
theorem ext_at {D D' : List DN} (h : ∃ E, D' = D ++ E) {i : Nat} (hi : i < D.length) : D'[i]? = D[i]? := by
  obtain ⟨E, rfl⟩ := h
  exact List.getElem?_append_left hi
theorem ext_len {D D' : List DN} (h : ∃ E, D' = D ++ E) : D.length ≤ D'.length := by
  obtain ⟨E, rfl⟩ := h
  simp
theorem ext_trans {A B C : List DN} (h : ∃ E, B = A ++ E) (k : ∃ E, C = B ++ E) : ∃ E, C = A ++ E := by
  obtain ⟨E, rfl⟩ := h
  obtain ⟨F, rfl⟩ := k
  exact ⟨E ++ F, by simp⟩
theorem pre_later {V : List IQ} {i : Nat} {D D1 D2 : List DN} {x : Int} {v : IQ} (h : BInv V (i + 1) D D1 x) (hv : V[i]? = some v) (he : ∃ E, D2 = D1 ++ E) : preB v D2 x = true := by
  by_cases hx : x < 2
  · exact pre_small hx
  · have hr := h.range
    have hlt : (x - 2).toNat < D1.length := by omega
    have hy := List.getElem?_eq_getElem hlt
    rw [pre_at (i := (x - 2).toNat) (y := D1[(x - 2).toNat]) (by omega) (by rw [ext_at he hlt]; exact hy)]
    exact h.later _ (by omega) hy i v (by omega) hv
/-- one reference to a node -/
theorem ref_inv {V : List IQ} {i : Nat} {v : IQ} {D D1 D2 : List DN} {x1 x2 : Int} (hasc : AscP V) (hv : V[i]? = some v) (hr : (0 ≤ v.1 ∧ v.1 ≤ 5) ∧ 1 ≤ v.2 ∧ v.2 ≤ 1000) (h1 : BInv V (i + 1) D D1 x1) (h2 : BInv V (i + 1) D1 D2 x2) :
    BInv V i D (refD (v, (x1, x2)) D2).2 (refD (v, (x1, x2)) D2).1 := by
  have hl := ext_len h2.ext
  have hr1 := h1.range
  have hr2 := h2.range
  have hvm := List.mem_of_getElem? hv
  by_cases e : x1 = x2
  · rw [ref_same (show (v, (x1, x2)).2.1 = (v, (x1, x2)).2.2 from e)]
    refine ⟨h2.nodes, h2.vars, ext_trans h1.ext h2.ext, ⟨hr1.1, by show x1 ≤ (D2.length : Int) + 1; omega⟩, fun y hy hy2 j p hj hp => ?_⟩
    have hy : 2 ≤ x1 := hy
    have hy2 : D2[(x1 - 2).toNat]? = some y := hy2
    rw [e] at hy hy2
    exact h2.later y hy hy2 j p (by omega) hp
  · cases hc : D2.contains (v, (x1, x2)) with
    | true =>
      have hm := List.contains_iff_mem.1 hc
      have hlt := List.idxOf_lt_length_of_mem hm
      have hat : D2[D2.idxOf (v, (x1, x2))]? = some (v, (x1, x2)) := by rw [List.getElem?_eq_getElem hlt, List.getElem_idxOf]
      have er : refD (v, (x1, x2)) D2 = ((D2.idxOf (v, (x1, x2)) : Int) + 2, D2) := by
        unfold refD
        rw [if_neg e, if_pos hc]
      rw [er]
      refine ⟨h2.nodes, h2.vars, ext_trans h1.ext h2.ext, ⟨by show (0 : Int) ≤ ((D2.idxOf (v, (x1, x2)) : Nat) : Int) + 2; omega, by show ((D2.idxOf (v, (x1, x2)) : Nat) : Int) + 2 ≤ (D2.length : Int) + 1; omega⟩, fun y hy hy2 j p hj hp => ?_⟩
      have hy2 : D2[(((D2.idxOf (v, (x1, x2)) : Nat) : Int) + 2 - 2).toNat]? = some y := hy2
      rw [show (((D2.idxOf (v, (x1, x2)) : Nat) : Int) + 2 - 2).toNat = D2.idxOf (v, (x1, x2)) by omega, hat] at hy2
      injection hy2 with hy2
      subst hy2
      exact asc_lt hasc hp hv hj
    | false =>
      rw [ref_new (show (v, (x1, x2)).2.1 ≠ (v, (x1, x2)).2.2 from e) hc]
      refine ⟨nodes_snoc h2.nodes (dv_yes (num_yes hr.1 hr.2 e ⟨hr1.1, by show x1 ≤ _; omega⟩ hr2) (pre_later h1 hv h2.ext) (pre_later h2 hv ⟨[], by simp⟩) hc), fun y hy => ?_, ext_trans (ext_trans h1.ext h2.ext) ⟨_, rfl⟩, ⟨by show (0 : Int) ≤ (D2.length : Int) + 2; omega, by show (D2.length : Int) + 2 ≤ ((D2 ++ [(v, (x1, x2))]).length : Int) + 1; simp; omega⟩, fun y hy hy2 j p hj hp => ?_⟩
      · rcases List.mem_append.1 hy with h | h
        · exact h2.vars y h
        · simp at h
          subst h
          exact hvm
      · have hy2 : (D2 ++ [(v, (x1, x2))])[((D2.length : Int) + 2 - 2).toNat]? = some y := hy2
        rw [show ((D2.length : Int) + 2 - 2).toNat = D2.length by omega, List.getElem?_append_right (Nat.le_refl _), Nat.sub_self] at hy2
        simp at hy2
        subst hy2
        exact asc_lt hasc hp hv hj
theorem bld_inv (R : List (List TS)) (V : List IQ) (hasc : AscP V) (hv : ∀ p ∈ V, (0 ≤ p.1 ∧ p.1 ≤ 5) ∧ 1 ≤ p.2 ∧ p.2 ≤ 1000) : ∀ (n : Nat) (bs : List Bool) (D : List DN), bs.length + n = V.length → nodesB D = true → (∀ y ∈ D, y.1 ∈ V) →
    BInv V bs.length D (bldD R V n bs D).2 (bldD R V n bs D).1
  | 0, bs, D, hl, hn, hm => by
    rw [bldD]
    refine ⟨hn, hm, ⟨[], by simp⟩, ?_, fun y hy => ?_⟩
    · show 0 ≤ (if vaR R V bs then (1 : Int) else 0) ∧ (if vaR R V bs then (1 : Int) else 0) ≤ _
      split <;> omega
    · exfalso
      have hy : 2 ≤ (if vaR R V bs then (1 : Int) else 0) := hy
      split at hy <;> omega
  | n + 1, bs, D, hl, hn, hm => by
    have h1 := bld_inv R V hasc hv n (bs ++ [false]) D (by simp; omega) hn hm
    have h2 := bld_inv R V hasc hv n (bs ++ [true]) (bldD R V n (bs ++ [false]) D).2 (by simp; omega) h1.nodes h1.vars
    rw [show (bs ++ [false]).length = bs.length + 1 by simp] at h1
    rw [show (bs ++ [true]).length = bs.length + 1 by simp] at h2
    have hi : bs.length < V.length := by omega
    have hvi := List.getElem?_eq_getElem hi
    rw [bldD, List.getD_eq_getElem?_getD, hvi]
    exact ref_inv hasc hvi (hv _ (List.getElem_mem hi)) h1 h2

/-! ### what it decides -/
def bitL (l : List Int) (p : IQ) : Bool := decide (p.2 ≤ l.getD p.1.toNat 0)
theorem wkF_ext {D E : List DN} {l : List Int} (hn : nodesB D = true) : ∀ (s : Nat) (r : Int), r ≤ (D.length : Int) + 1 → wkF (D ++ E) l s r = wkF D l s r
  | 0, r, h => rfl
  | s + 1, r, h => by
    rw [wkF, wkF]
    by_cases h2 : r < 2
    · rw [if_pos h2, if_pos h2]
    · rw [if_neg h2, if_neg h2]
      have hlt : (r - 2).toNat < D.length := by omega
      rw [List.getElem?_append_left hlt, List.getElem?_eq_getElem hlt]
      have h1 := goes_in (l := l) hn (List.getElem?_eq_getElem hlt)
      simp only
      rw [wkF_ext hn s (goesT D[(r - 2).toNat] l) (by omega)]
theorem wk_ext {D D' : List DN} {l : List Int} {r : Int} (hn : nodesB D = true) (he : ∃ E, D' = D ++ E) (h : r ≤ (D.length : Int) + 1) : wkD D' l r = wkD D l r := by
  obtain ⟨E, rfl⟩ := he
  exact wkF_ext hn _ r h
/-- one step of the recursion -/
theorem ref_ev {V : List IQ} {i : Nat} {v : IQ} {D D1 D2 : List DN} {x1 x2 : Int} {l : List Int} {a b : Int} {n : Nat} (hI : BInv V i D (refD (v, (x1, x2)) D2).2 (refD (v, (x1, x2)) D2).1) (h1 : BInv V (i + 1) D D1 x1) (h2 : BInv V (i + 1) D1 D2 x2)
    (ha : (wkD D1 l x1).1 = a ∧ (wkD D1 l x1).2 ≤ n) (hb : (wkD D2 l x2).1 = b ∧ (wkD D2 l x2).2 ≤ n) :
    (wkD (refD (v, (x1, x2)) D2).2 l (refD (v, (x1, x2)) D2).1).1 = (if bitL l v then b else a) ∧ (wkD (refD (v, (x1, x2)) D2).2 l (refD (v, (x1, x2)) D2).1).2 ≤ n + 1 := by
  have hl := ext_len h2.ext
  have hr1 := h1.range
  have hr2 := h2.range
  have e1 : wkD D2 l x1 = wkD D1 l x1 := wk_ext h1.nodes h2.ext hr1.2
  have hstep : ∀ (D3 : List DN) (k : Nat), nodesB D3 = true → (∃ E, D3 = D2 ++ E) → D3[k]? = some (v, (x1, x2)) → (wkD D3 l ((k : Int) + 2)).1 = (if bitL l v then b else a) ∧ (wkD D3 l ((k : Int) + 2)).2 ≤ n + 1 := fun D3 k hn3 he3 hk => by
    have g1 : wkD D3 l x1 = wkD D1 l x1 := (wk_ext h2.nodes he3 (by omega)).trans e1
    have g2 : wkD D3 l x2 = wkD D2 l x2 := wk_ext h2.nodes he3 hr2.2
    rw [wk_step hn3 rfl hk]
    unfold goesT bitL
    show (wkD D3 l (if v.2 ≤ l.getD v.1.toNat 0 then x2 else x1)).1 = _ ∧ (wkD D3 l (if v.2 ≤ l.getD v.1.toNat 0 then x2 else x1)).2 + 1 ≤ n + 1
    by_cases hc : v.2 ≤ l.getD v.1.toNat 0
    · rw [if_pos hc, if_pos (decide_eq_true hc), g2]
      exact ⟨hb.1, by omega⟩
    · rw [if_neg hc, if_neg (fun e => hc (of_decide_eq_true e)), g1]
      exact ⟨ha.1, by omega⟩
  by_cases e : x1 = x2
  · rw [ref_same (show (v, (x1, x2)).2.1 = (v, (x1, x2)).2.2 from e)]
    show (wkD D2 l x1).1 = _ ∧ (wkD D2 l x1).2 ≤ n + 1
    have hab : a = b := by rw [← ha.1, ← hb.1, ← e1, e]
    rw [e1, ha.1, hab]
    exact ⟨by split <;> rfl, by omega⟩
  · cases hc : D2.contains (v, (x1, x2)) with
    | true =>
      have hm := List.contains_iff_mem.1 hc
      have hlt := List.idxOf_lt_length_of_mem hm
      have hat : D2[D2.idxOf (v, (x1, x2))]? = some (v, (x1, x2)) := by rw [List.getElem?_eq_getElem hlt, List.getElem_idxOf]
      have er : refD (v, (x1, x2)) D2 = ((D2.idxOf (v, (x1, x2)) : Int) + 2, D2) := by
        unfold refD
        rw [if_neg e, if_pos hc]
      rw [er]
      exact hstep D2 _ h2.nodes ⟨[], by simp⟩ hat
    | false =>
      have er := ref_new (show (v, (x1, x2)).2.1 ≠ (v, (x1, x2)).2.2 from e) hc
      rw [er] at hI ⊢
      exact hstep (D2 ++ [(v, (x1, x2))]) D2.length hI.nodes ⟨_, rfl⟩ (by rw [List.getElem?_append_right (Nat.le_refl _), Nat.sub_self]; rfl)
theorem bld_ev (R : List (List TS)) (V : List IQ) (hasc : AscP V) (hv : ∀ p ∈ V, (0 ≤ p.1 ∧ p.1 ≤ 5) ∧ 1 ≤ p.2 ∧ p.2 ≤ 1000) (l : List Int) : ∀ (n : Nat) (bs : List Bool) (D : List DN), bs.length + n = V.length → nodesB D = true → (∀ y ∈ D, y.1 ∈ V) →
    (wkD (bldD R V n bs D).2 l (bldD R V n bs D).1).1 = (if vaR R V (bs ++ (V.drop bs.length).map (bitL l)) then 1 else 0) ∧ (wkD (bldD R V n bs D).2 l (bldD R V n bs D).1).2 ≤ n
  | 0, bs, D, hl, hn, hm => by
    rw [bldD]
    have hz : (if vaR R V bs then (1 : Int) else 0) < 2 := by split <;> omega
    show (wkD D l (if vaR R V bs then (1 : Int) else 0)).1 = _ ∧ (wkD D l (if vaR R V bs then (1 : Int) else 0)).2 ≤ 0
    rw [wk_end hz, List.drop_of_length_le (by omega)]
    simp
  | n + 1, bs, D, hl, hn, hm => by
    have h1 := bld_inv R V hasc hv n (bs ++ [false]) D (by simp; omega) hn hm
    have h2 := bld_inv R V hasc hv n (bs ++ [true]) (bldD R V n (bs ++ [false]) D).2 (by simp; omega) h1.nodes h1.vars
    have k1 := bld_ev R V hasc hv l n (bs ++ [false]) D (by simp; omega) hn hm
    have k2 := bld_ev R V hasc hv l n (bs ++ [true]) (bldD R V n (bs ++ [false]) D).2 (by simp; omega) h1.nodes h1.vars
    have hI := bld_inv R V hasc hv (n + 1) bs D hl hn hm
    rw [show (bs ++ [false]).length = bs.length + 1 by simp] at h1 k1
    rw [show (bs ++ [true]).length = bs.length + 1 by simp] at h2 k2
    have hi : bs.length < V.length := by omega
    have hvi := List.getElem?_eq_getElem hi
    rw [bldD, List.getD_eq_getElem?_getD, hvi] at hI ⊢
    have h := ref_ev hI h1 h2 k1 k2
    refine ⟨h.1.trans ?_, h.2⟩
    rw [List.drop_eq_getElem_cons hi, List.map_cons]
    show (if bitL l V[bs.length] then _ else _) = _
    cases hb : bitL l V[bs.length]
    · rw [if_neg Bool.false_ne_true, List.append_assoc]; rfl
    · rw [if_pos rfl, List.append_assoc]; rfl

theorem nd_at {V : List IQ} {j k : Nat} {p : IQ} (hd : V.Nodup) (h1 : V[j]? = some p) (h2 : V[k]? = some p) : j = k := by
  obtain ⟨l1, e1⟩ := List.getElem?_eq_some_iff.1 h1
  obtain ⟨l2, e2⟩ := List.getElem?_eq_some_iff.1 h2
  rcases Nat.lt_trichotomy j k with h | h | h
  · exact absurd (e1.trans e2.symm) (List.pairwise_iff_getElem.1 hd j k l1 l2 h)
  · exact h
  · exact absurd (e2.trans e1.symm) (List.pairwise_iff_getElem.1 hd k j l2 l1 h)
theorem te_bit {V : List IQ} (hd : V.Nodup) {g : IQ → Bool} {t : TS} (ht : t.1 ∈ V) : teB V (V.map g) t = (g t.1 != t.2) := by
  obtain ⟨j, hj⟩ := List.mem_iff_getElem?.1 ht
  have hb : (V.map g)[j]? = some (g t.1) := by rw [List.getElem?_map, hj]; rfl
  unfold teB
  rw [Bool.eq_iff_iff, List.all_eq_true]
  constructor
  · intro ha
    have hm : (t.1, g t.1) ∈ V.zip (V.map g) := List.mem_of_getElem? (i := j) (List.getElem?_zip_eq_some.2 ⟨hj, hb⟩)
    have h1 := ha _ hm
    simp at h1
    simp only [bne_iff_ne]
    exact h1
  · intro ha q hq
    obtain ⟨k, hk⟩ := List.mem_iff_getElem?.1 hq
    obtain ⟨h1, h2⟩ := List.getElem?_zip_eq_some.1 hk
    simp only [bne_iff_ne] at ha
    by_cases e : q.1 = t.1
    · rw [e] at h1
      have := nd_at hd hj h1
      subst this
      rw [hb] at h2
      injection h2 with h2
      rw [← h2]
      simp [e, ha]
    · simp [e]
theorem any_eq {α : Type} {p q : α → Bool} : ∀ {l : List α}, (∀ x ∈ l, p x = q x) → l.any p = l.any q
  | [], _ => rfl
  | x :: l, h => by rw [List.any_cons, List.any_cons, h x (List.mem_cons_self ..), any_eq fun y hy => h y (List.mem_cons_of_mem _ hy)]
theorem all_eq {α : Type} {p q : α → Bool} : ∀ {l : List α}, (∀ x ∈ l, p x = q x) → l.all p = l.all q
  | [], _ => rfl
  | x :: l, h => by rw [List.all_cons, List.all_cons, h x (List.mem_cons_self ..), all_eq fun y hy => h y (List.mem_cons_of_mem _ hy)]
theorem find_any {α : Type} {p : α → Bool} : ∀ {l : List α}, decide (l.findIdx p < l.length) = l.any p
  | [] => rfl
  | x :: l => by
    rw [List.findIdx_cons, List.any_cons]
    cases h : p x
    · have := find_any (p := p) (l := l)
      simp only [cond_false, List.length_cons, Nat.add_lt_add_iff_right, Bool.false_or]
      exact this
    · simp
theorem rh_any {R : List (List TS)} {l : List Int} (h : vsB R = true) (hl : fvB l = true) : rhB R l = R.any fun r => r.all fun t => condT t l := by
  unfold rhB frR
  rw [h, hl, Bool.true_and, Bool.true_and]
  unfold firstU
  rw [find_any]
  cases (R.any fun r => r.all fun t => condT t l)
  · rfl
  · simp
theorem cond_bit {R : List (List TS)} (h : vsB R = true) {t : TS} (ht : t ∈ R.flatten) (l : List Int) : condT t l = (bitL l t.1 != t.2) := by
  have hf := flat_test h ht
  unfold condT featB cmpT bitL
  rw [decide_eq_true hf.1, Bool.true_and]
  cases t.2
  · simp
  · by_cases hc : t.1.2 ≤ l.getD t.1.1.toNat 0
    · simp only [hc, decide_true, if_true, bne_self_eq_false, decide_eq_false_iff_not]
      omega
    · simp only [hc, decide_false, if_true]
      simp at hc ⊢
      exact hc
theorem va_bit {R : List (List TS)} {l : List Int} (h : vsB R = true) (hl : fvB l = true) : vaR R (varsL R) ((varsL R).map (bitL l)) = rhB R l := by
  rw [rh_any h hl]
  unfold vaR
  refine any_eq fun r hr => all_eq fun t ht => ?_
  have hm : t ∈ R.flatten := List.mem_flatten.2 ⟨r, hr, ht⟩
  rw [te_bit ((varsL_asc h).imp fun h => plt_ne h) ((varsL_mem h _).2 (List.mem_map.2 ⟨t, hm, rfl⟩)), cond_bit h hm]

end Go.Proofs.YtpmfabpnjacegaaGreatDoor

/-
  A built diagram has at most 200 nodes: few nodes test the last two variables. By an AI agent.
-/
namespace Go.Proofs.YtpmfabpnjacegaaGreatDoor
open Go.RowKit
set_option linter.unusedVariables false
set_option linter.unusedSimpArgs false
set_option linter.unnecessarySimpa false

theorem nd_atD {α : Type} {V : List α} {j k : Nat} {p : α} (hd : V.Nodup) (h1 : V[j]? = some p) (h2 : V[k]? = some p) : j = k := by
  obtain ⟨l1, e1⟩ := List.getElem?_eq_some_iff.1 h1
  obtain ⟨l2, e2⟩ := List.getElem?_eq_some_iff.1 h2
  rcases Nat.lt_trichotomy j k with h | h | h
  · exact absurd (e1.trans e2.symm) (List.pairwise_iff_getElem.1 hd j k l1 l2 h)
  · exact h
  · exact absurd (e2.trans e1.symm) (List.pairwise_iff_getElem.1 hd k j l2 l1 h)
theorem cover3 {α : Type} {e a b : α → Bool} : ∀ {l : List α}, (∀ x ∈ l, (e x || (a x || b x)) = true) → l.length ≤ (l.filter e).length + (l.filter a).length + (l.filter b).length
  | [], _ => by simp
  | x :: l, h => by
    have h1 := cover3 (e := e) (a := a) (b := b) (l := l) fun y hy => h y (List.mem_cons_of_mem _ hy)
    have h2 := h x (List.mem_cons_self ..)
    rw [List.filter_cons, List.filter_cons, List.filter_cons, List.length_cons]
    cases he : e x <;> cases ha : a x <;> cases hb : b x <;> simp only [he, ha, hb, if_true, if_false, List.length_cons, Bool.false_eq_true] at h2 ⊢ <;> first | omega | (exfalso; simp at h2)
theorem nodes_nodup {D : List DN} (h : nodesB D = true) : D.Nodup := by
  refine List.pairwise_iff_getElem.2 fun i j hi hj hij e => ?_
  have h1 := (dv_of (nodes_iff.1 h j _ (List.getElem?_eq_getElem hj))).2.2.2
  refine h1 ?_
  rw [← e]
  exact List.mem_of_getElem? (i := i) (by rw [List.getElem?_take, if_pos hij]; exact List.getElem?_eq_getElem hi)
theorem ref_cases {D : List DN} (h : nodesB D = true) {x : DN} (hx : x ∈ D) {r : Int} (hr : r = x.2.1 ∨ r = x.2.2) : r = 0 ∨ r = 1 ∨ ∃ (i : Nat) (y : DN), r = (i : Int) + 2 ∧ D[i]? = some y ∧ varLt x.1 y.1 = true := by
  obtain ⟨k, hk⟩ := List.mem_iff_getElem?.1 hx
  have hd := dv_of (nodes_iff.1 h k x hk)
  have hn := num_of hd.1
  have hp : preB x.1 (D.take k) r = true ∧ 0 ≤ r := by
    rcases hr with rfl | rfl
    · exact ⟨hd.2.1, hn.2.2.2.1.1⟩
    · exact ⟨hd.2.2.1, hn.2.2.2.2.1⟩
  by_cases h2 : r < 2
  · omega
  · refine .inr (.inr ⟨(r - 2).toNat, ?_⟩)
    have h3 := hp.1
    unfold preB at h3
    rw [decide_eq_false h2, Bool.false_or] at h3
    cases hy : (D.take k)[(r - 2).toNat]? with
    | none => rw [hy] at h3; cases h3
    | some y =>
      rw [hy] at h3
      have hy2 : D[(r - 2).toNat]? = some y := by
        rw [List.getElem?_take] at hy
        split at hy
        · exact hy
        · cases hy
      exact ⟨y, by omega, hy2, by simpa using h3⟩
def prodN (v : IQ) (S : List Int) : List DN := S.flatMap fun a => S.map fun b => (v, (a, b))
theorem prod_len (v : IQ) (S : List Int) : (prodN v S).length = S.length * S.length := by
  have h : ∀ T : List Int, (T.flatMap fun a => S.map fun b => ((v, (a, b)) : DN)).length = T.length * S.length := fun T => by
    induction T with
    | nil => simp
    | cons t T ih => rw [List.flatMap_cons, List.length_append, ih, List.length_map, List.length_cons, Nat.succ_mul, Nat.add_comm]
  exact h S
theorem late_le {D : List DN} (hd : D.Nodup) (v : IQ) (S : List Int) (h : ∀ x ∈ D, x.1 = v → x.2.1 ∈ S ∧ x.2.2 ∈ S) : (D.filter fun x => x.1 == v).length ≤ S.length * S.length := by
  rw [← prod_len v S]
  refine nodup_le (hd.filter _) fun x hx => ?_
  obtain ⟨h1, h2⟩ := List.mem_filter.1 hx
  have e : x.1 = v := by simpa using h2
  have h3 := h x h1 e
  refine List.mem_flatMap.2 ⟨x.2.1, h3.1, List.mem_map.2 ⟨x.2.2, h3.2, ?_⟩⟩
  rw [← e]

/-- nodes that test another variable than the last two -/
def wst : Nat → Nat
  | 0 => 0
  | 1 => 0
  | 2 => 0
  | n + 3 => 2 * wst (n + 2) + 1
theorem ref_filter (p : DN → Bool) (x : DN) (D : List DN) : ((refD x D).2.filter p).length ≤ (D.filter p).length + (if p x then 1 else 0) := by
  unfold refD
  split
  · simp
  · split
    · simp
    · rw [List.filter_append, List.length_append]
      cases h : p x <;> simp [h]
theorem bld_early (R : List (List TS)) (V : List IQ) (p : DN → Bool) (hp : ∀ (i : Nat) (v : IQ) (q : Int × Int), V[i]? = some v → V.length ≤ i + 2 → p (v, q) = false) : ∀ (n : Nat) (bs : List Bool) (D : List DN), bs.length + n = V.length → ((bldD R V n bs D).2.filter p).length ≤ (D.filter p).length + wst n
  | 0, bs, D, hl => by simp [bldD, wst]
  | n + 1, bs, D, hl => by
    have h1 := bld_early R V p hp n (bs ++ [false]) D (by simp; omega)
    have h2 := bld_early R V p hp n (bs ++ [true]) (bldD R V n (bs ++ [false]) D).2 (by simp; omega)
    have hi : bs.length < V.length := by omega
    have hvi := List.getElem?_eq_getElem hi
    rw [bldD, List.getD_eq_getElem?_getD, hvi]
    have h3 := ref_filter p (V[bs.length], ((bldD R V n (bs ++ [false]) D).1, (bldD R V n (bs ++ [true]) (bldD R V n (bs ++ [false]) D).2).1)) (bldD R V n (bs ++ [true]) (bldD R V n (bs ++ [false]) D).2).2
    refine Nat.le_trans h3 ?_
    match n, h1, h2, hl with
    | 0, h1, h2, hl => rw [hp bs.length _ _ hvi (by omega), if_neg Bool.false_ne_true]; simp only [wst] at h1 h2 ⊢; omega
    | 1, h1, h2, hl => rw [hp bs.length _ _ hvi (by omega), if_neg Bool.false_ne_true]; simp only [wst] at h1 h2 ⊢; omega
    | n + 2, h1, h2, hl =>
      have : ∀ b : Bool, (if b then 1 else 0) ≤ 1 := fun b => by cases b <;> simp
      have h4 := this (p (V[bs.length], ((bldD R V (n + 2) (bs ++ [false]) D).1, (bldD R V (n + 2) (bs ++ [true]) (bldD R V (n + 2) (bs ++ [false]) D).2).1)))
      rw [wst]
      omega
theorem wst_le : ∀ {n : Nat}, n ≤ 9 → wst n ≤ 127
  | 0, _ => by decide
  | 1, _ => by decide
  | 2, _ => by decide
  | 3, _ => by decide
  | 4, _ => by decide
  | 5, _ => by decide
  | 6, _ => by decide
  | 7, _ => by decide
  | 8, _ => by decide
  | 9, _ => by decide
  | n + 10, h => by omega
theorem lt_asc {V : List IQ} (h : AscP V) {i j : Nat} {p q : IQ} (hi : V[i]? = some p) (hj : V[j]? = some q) (hpq : varLt p q = true) : i < j := by
  rcases Nat.lt_trichotomy i j with h1 | h1 | h1
  · exact h1
  · subst h1
    rw [hi] at hj
    injection hj with hj
    subst hj
    unfold varLt at hpq
    simp at hpq
  · have h2 := asc_lt h hj hi h1
    unfold varLt at hpq h2
    simp only [decide_eq_true_eq] at hpq h2
    omega
/-- few nodes test the last two variables -/
theorem late_count {V : List IQ} {D : List DN} (hasc : AscP V) (hL : 2 ≤ V.length) (hn : nodesB D = true) (hv : ∀ y ∈ D, y.1 ∈ V) : ∃ p : DN → Bool, (∀ (i : Nat) (v : IQ) (q : Int × Int), V[i]? = some v → V.length ≤ i + 2 → p (v, q) = false) ∧ D.length ≤ (D.filter p).length + 40 := by
  have hd := nodes_nodup hn
  obtain ⟨u, hu⟩ : ∃ u, V[V.length - 2]? = some u := ⟨_, List.getElem?_eq_getElem (by omega)⟩
  obtain ⟨v, hvv⟩ : ∃ v, V[V.length - 1]? = some v := ⟨_, List.getElem?_eq_getElem (by omega)⟩
  have hlast : ∀ y ∈ D, varLt v y.1 = true → False := fun y hy h => by
    obtain ⟨j, hj⟩ := List.mem_iff_getElem?.1 (hv y hy)
    have h1 := lt_asc hasc hvv hj h
    have := (List.getElem?_eq_some_iff.1 hj).1
    omega
  have hlast2 : ∀ y ∈ D, varLt u y.1 = true → y.1 = v := fun y hy h => by
    obtain ⟨j, hj⟩ := List.mem_iff_getElem?.1 (hv y hy)
    have h1 := lt_asc hasc hu hj h
    have h2 := (List.getElem?_eq_some_iff.1 hj).1
    obtain rfl : j = V.length - 1 := by omega
    rw [hvv] at hj
    injection hj with hj
    exact hj.symm
  have hA := late_le hd v [0, 1] fun x hx e => by
    have hr : ∀ r, (r = x.2.1 ∨ r = x.2.2) → r ∈ ([0, 1] : List Int) := fun r hr => by
      rcases ref_cases hn hx hr with h | h | ⟨i, y, _, hy, hlt⟩
      · simp [h]
      · simp [h]
      · exact (hlast y (List.mem_of_getElem? hy) (by rw [← e]; exact hlt)).elim
    exact ⟨hr _ (.inl rfl), hr _ (.inr rfl)⟩
  have hB := late_le hd u (0 :: 1 :: (D.filter fun x => x.1 == v).map fun y => (D.idxOf y : Int) + 2) fun x hx e => by
    have hr : ∀ r, (r = x.2.1 ∨ r = x.2.2) → r ∈ (0 :: 1 :: (D.filter fun x => x.1 == v).map fun y => (D.idxOf y : Int) + 2 : List Int) := fun r hr => by
      rcases ref_cases hn hx hr with h | h | ⟨i, y, hi, hy, hlt⟩
      · simp [h]
      · simp [h]
      · refine List.mem_cons_of_mem _ (List.mem_cons_of_mem _ (List.mem_map.2 ⟨y, List.mem_filter.2 ⟨List.mem_of_getElem? hy, ?_⟩, ?_⟩))
        · rw [hlast2 y (List.mem_of_getElem? hy) (by rw [← e]; exact hlt)]
          simp
        · have hm := List.mem_of_getElem? hy
          have hlt2 := List.idxOf_lt_length_of_mem hm
          have hat : D[D.idxOf y]? = some y := by rw [List.getElem?_eq_getElem hlt2, List.getElem_idxOf]
          rw [nd_atD hd hat hy, hi]
    exact ⟨hr _ (.inl rfl), hr _ (.inr rfl)⟩
  refine ⟨fun x => !(x.1 == u || x.1 == v), fun i w q hw hi => ?_, ?_⟩
  · have hlt := (List.getElem?_eq_some_iff.1 hw).1
    rcases (show i = V.length - 2 ∨ i = V.length - 1 by omega) with rfl | rfl
    · rw [hu] at hw
      injection hw with hw
      subst hw
      simp
    · rw [hvv] at hw
      injection hw with hw
      subst hw
      simp
  · have hc := cover3 (l := D) (e := fun x => !(x.1 == u || x.1 == v)) (a := fun x => x.1 == u) (b := fun x => x.1 == v) fun x hx => by cases (x.1 == u) <;> cases (x.1 == v) <;> rfl
    simp only [List.length_cons, List.length_nil, List.length_map] at hA hB
    have hB2 : (D.filter fun x => x.1 == u).length ≤ 36 := Nat.le_trans hB (Nat.mul_le_mul (show _ ≤ 6 by omega) (show _ ≤ 6 by omega))
    omega
theorem bd_few {R : List (List TS)} (h : vsB R = true) : (bldD R (varsL R) (varsL R).length [] []).2.length ≤ 200 := by
  have hI := bld_inv R (varsL R) (varsL_asc h) (fun p hp => by
    obtain ⟨t, ht, rfl⟩ := List.mem_map.1 ((varsL_mem h p).1 hp)
    exact flat_test h ht) (varsL R).length [] [] (by simp) rfl (by simp)
  have h9 := vars_len9 h
  by_cases hL : 2 ≤ (varsL R).length
  · obtain ⟨p, h1, h2⟩ := late_count (varsL_asc h) hL hI.nodes hI.vars
    have h3 := bld_early R (varsL R) p h1 (varsL R).length [] [] (by simp)
    have h4 := wst_le h9
    simp only [List.filter_nil, List.length_nil] at h3
    omega
  · have h1 := (bld_len R (varsL R) (varsL R).length [] []).1
    have h2 : cst (varsL R).length ≤ 1 := by
      rcases (show (varsL R).length = 0 ∨ (varsL R).length = 1 by omega) with e | e <;> rw [e] <;> decide
    simp only [List.length_nil] at h1
    omega
/-- what holds of the diagram that is built -/
theorem bd_facts {R : List (List TS)} {y : Int} {D : List DN} {b : Bool} (hr : bdR R = ((y, D), b)) (l : List Int) (hb : b = true) : dgB y D = true ∧ evR y D l = rhB R l ∧ teR y D l ≤ ((varsR R).length : Int) := by
  subst hb
  cases h : vsB R with
  | false => unfold bdR at hr; rw [h] at hr; simp at hr
  | true =>
    unfold bdR at hr
    rw [h, if_pos rfl] at hr
    have hv : ∀ p ∈ varsL R, (0 ≤ p.1 ∧ p.1 ≤ 5) ∧ 1 ≤ p.2 ∧ p.2 ≤ 1000 := fun p hp => by
      obtain ⟨t, ht, rfl⟩ := List.mem_map.1 ((varsL_mem h p).1 hp)
      exact flat_test h ht
    have hI := bld_inv R (varsL R) (varsL_asc h) hv (varsL R).length [] [] (by simp) rfl (by simp)
    have hE := bld_ev R (varsL R) (varsL_asc h) hv l (varsL R).length [] [] (by simp) rfl (by simp)
    have hF := bd_few h
    have e : bldD R (varsL R) (varsL R).length [] [] = (y, D) := (Prod.mk.inj hr).1
    rw [e] at hI hE hF
    have hdg : dgB y D = true := dg_yes hF hI.range hI.nodes
    refine ⟨hdg, ?_, ?_⟩
    · unfold evR
      rw [hdg, Bool.true_and]
      cases hl : fvB l with
      | false =>
        rw [Bool.false_and]
        unfold rhB frR
        rw [hl]
        simp
      | true =>
        rw [Bool.true_and, ← va_bit h hl]
        have h1 := hE.1
        simp only [List.length_nil, List.drop_zero, List.nil_append] at h1
        show decide ((wkD D l y).1 = 1) = _
        rw [show (wkD D l y).1 = _ from h1]
        cases vaR R (varsL R) ((varsL R).map (bitL l)) <;> rfl
    · unfold teR varsR
      rw [h, if_pos rfl]
      split
      · have h1 : (wkD D l y).2 ≤ (varsL R).length := hE.2
        omega
      · omega

end Go.Proofs.YtpmfabpnjacegaaGreatDoor

/-
  The argument of a named law: a slice of bytes that came in; laws.big. By an AI agent.
-/
namespace Go.Proofs.YtpmfabpnjacegaaGreatDoor
open Go.RowKit
set_option linter.unusedVariables false

/-- a slice of integers that came in: nil, or a row of 'cap' cells, the numbers 'zs', each fitting its kind -/
def IsRow (k : IntKind) (w : World) (a : Option Addr) (len cap : Nat) (zs : List Int) : Prop :=
  (a = none ∧ len = 0 ∧ cap = 0 ∧ zs = []) ∨
  ∃ x, a = some x ∧ len ≤ cap ∧ cap ≤ maxLen ∧ zs.length = cap ∧ (∀ i, i < zs.length → w.cell? (x.add i) = some (.int k (zs.getD i 0))) ∧ ∀ n ∈ zs, (Lit.int k n).wf = true

theorem codeAt_of {w : World} {a : Option Addr} {len cap : Nat} {zs : List Int} (h : IsRow .u8 w a len cap zs) (hl : len ≤ 1048576) : CodeAt w w.heap.size a len := by
  refine ⟨hl, fun h0 => ?_⟩
  rcases h with ⟨rfl, rfl, rfl, rfl⟩ | ⟨x, rfl, hlc, hm, hz, hc, hwf⟩
  · omega
  · obtain ⟨b, off, spot⟩ := x
    have hc0 := hc 0 (by omega)
    have hspot : spot = none := by simpa [Addr.add] using World.cell?_spot hc0
    subst hspot
    have hlt : b < w.heap.size := by
      have := World.block_lt_of_cell? w _ hc0
      simpa [Addr.add] using this
    refine ⟨b, off, rfl, hlt, fun j hj => ⟨zs.getD j 0, ?_, ?_, ?_⟩⟩
    · have hw := hwf (zs.getD j 0) (by rw [List.getD_eq_getElem?_getD, List.getElem?_eq_getElem (by omega)]; simp)
      simp [Lit.wf, IntKind.min, IntKind.max, IntKind.signed, IntKind.bits] at hw ⊢
      omega
    · have hw := hwf (zs.getD j 0) (by rw [List.getD_eq_getElem?_getD, List.getElem?_eq_getElem (by omega)]; simp)
      simp [Lit.wf, IntKind.min, IntKind.max, IntKind.signed, IntKind.bits] at hw ⊢
      omega
    · have e : (⟨b, off, none⟩ : Addr).add j = ⟨b, off + j, none⟩ := by unfold Addr.add; split <;> simp_all
      rw [← e]
      exact hc j (by omega)

theorem big_no (A : Option Addr) (len cap : Nat) (w : World) (h : (len : Int) ≤ 1048576) : Calls Tryz.prog 4 #[.slice A len cap] w fun e w' => e = .returned (.bool false) ∧ w = w' := by
  have hd : decide (1048576 < (len : Int)) = false := by simp; omega
  go_enter Tryz.func4, Tryz.ntmps4
  go_wp2
  go_ret
  exact ⟨rfl, rfl⟩

theorem big_yes (A : Option Addr) (len cap : Nat) (w : World) (h : 1048576 < (len : Int)) : Calls Tryz.prog 4 #[.slice A len cap] w fun e w' => e = .returned (.bool true) ∧ w = w' := by
  have hd : decide (1048576 < (len : Int)) = true := by simp; omega
  go_enter Tryz.func4, Tryz.ntmps4
  go_wp2
  go_ret
  exact ⟨rfl, rfl⟩

end Go.Proofs.YtpmfabpnjacegaaGreatDoor

