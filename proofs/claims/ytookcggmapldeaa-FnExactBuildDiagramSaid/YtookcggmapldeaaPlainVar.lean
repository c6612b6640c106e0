/-
  The variables of rules in plain lists. By an AI agent.
-/
import Derived.Test.YtookcggmapldeaaPlainMon
import Derived.Test.YtookcggmapldeaaPlainBlk
namespace Go.Proofs.Ytookcggmapldeaa
open Go.RowKit
set_option linter.unusedVariables false
set_option linter.unusedSimpArgs false
set_option linter.unnecessarySimpa false

/-- a variable as a test -/
def tsV (p : IQ) : TS := (p, false)
/-- the variables as they come -/
def rawV (R : List (List TS)) : List IQ := R.flatten.map Prod.fst
/-- the variables of one feature, then those of the features up to n -/
def varF (R : List (List TS)) (n : Nat) : List IQ := ((levR R (n : Int)).drop 1).map fun t => ((n : Int), t)
def varsT (R : List (List TS)) (k : Nat) : List IQ := (List.range k).flatMap (varF R)
def varsL (R : List (List TS)) : List IQ := varsT R 6
def varsR (R : List (List TS)) : List IQ := if vsB R then varsL R else []
theorem varsT_succ (R : List (List TS)) (k : Nat) : varsT R (k + 1) = varsT R k ++ varF R k := by simp [varsT, List.range_succ]

theorem flat_test {R : List (List TS)} {t : TS} (h : vsB R = true) (ht : t ∈ R.flatten) : (0 ≤ t.1.1 ∧ t.1.1 ≤ 5) ∧ 1 ≤ t.1.2 ∧ t.1.2 ≤ 1000 := by
  obtain ⟨l, hl, hx⟩ := List.mem_flatten.1 ht
  exact vt_of (vr_test (vs_rule h hl) hx)
theorem lev_split {R : List (List TS)} (h : vsB R = true) (n : Int) : ∃ r, levR R n = 0 :: r ∧ r.Pairwise (· < ·) ∧ ∀ x, x ∈ r ↔ ∃ t ∈ R.flatten, t.1 = (n, x) := by
  have ha := levR_asc R n
  have hm : ∀ x, x ∈ levR R n ↔ x ∈ rawF R.flatten n := fun x => levF_mem _ _ _
  have h0 : (0 : Int) ∈ levR R n := (hm 0).2 (by simp [rawF])
  have hge : ∀ x ∈ levR R n, x = 0 ∨ 0 < x ∧ ∃ t ∈ R.flatten, t.1 = (n, x) := fun x hx => by
    have h1 := (hm x).1 hx
    unfold rawF at h1
    rcases List.mem_cons.1 h1 with h1 | h1
    · exact .inl h1
    · obtain ⟨t, ht, rfl⟩ := List.mem_map.1 h1
      obtain ⟨ht1, ht2⟩ := List.mem_filter.1 ht
      have h2 := flat_test h ht1
      simp only [decide_eq_true_eq] at ht2
      exact .inr ⟨by omega, t, ht1, Prod.ext ht2 rfl⟩
  revert ha h0 hge hm
  generalize levR R n = L
  intro ha hm h0 hge
  cases L with
  | nil => simp at h0
  | cons y r =>
    obtain ⟨h1, h2⟩ := List.pairwise_cons.1 ha
    have hy : y = 0 := by
      rcases List.mem_cons.1 h0 with e | e
      · exact e.symm
      · have h3 := h1 0 e
        rcases hge y (List.mem_cons_self ..) with e2 | ⟨e2, _⟩
        · exact e2
        · omega
    subst hy
    refine ⟨r, rfl, h2, fun x => ⟨fun hx => ?_, fun hx => ?_⟩⟩
    · have h3 := h1 x hx
      rcases hge x (List.mem_cons_of_mem _ hx) with e | ⟨_, e⟩
      · omega
      · exact e
    · obtain ⟨t, ht, e⟩ := hx
      have h4 : x ∈ (0 : Int) :: r := (hm x).2 (by
        unfold rawF
        refine List.mem_cons_of_mem _ (List.mem_map.2 ⟨t, List.mem_filter.2 ⟨ht, by simp [e]⟩, by rw [e]⟩))
      rcases List.mem_cons.1 h4 with e2 | e2
      · have h5 := flat_test h ht
        rw [e] at h5
        simp at h5
        omega
      · exact e2
theorem varF_mem {R : List (List TS)} (h : vsB R = true) (n : Nat) (p : IQ) : p ∈ varF R n ↔ p.1 = n ∧ p ∈ rawV R := by
  obtain ⟨r, hr, _, hm⟩ := lev_split h (n : Int)
  unfold varF rawV
  rw [hr, List.drop_one, List.tail_cons, List.mem_map, List.mem_map]
  constructor
  · rintro ⟨x, hx, rfl⟩
    obtain ⟨t, ht, e⟩ := (hm x).1 hx
    exact ⟨rfl, t, ht, e⟩
  · rintro ⟨h1, t, ht, e⟩
    refine ⟨p.2, (hm _).2 ⟨t, ht, by rw [e]; exact Prod.ext h1 rfl⟩, Prod.ext h1.symm rfl⟩
theorem varF_asc {R : List (List TS)} (h : vsB R = true) (n : Nat) : AscP (varF R n) := by
  obtain ⟨r, hr, ha, _⟩ := lev_split h (n : Int)
  unfold varF AscP
  rw [hr, List.drop_one, List.tail_cons, List.pairwise_map]
  exact ha.imp fun h => .inr ⟨rfl, h⟩
theorem varsT_mem {R : List (List TS)} (h : vsB R = true) (k : Nat) (p : IQ) : p ∈ varsT R k ↔ (∃ n : Nat, n < k ∧ p.1 = n) ∧ p ∈ rawV R := by
  unfold varsT
  rw [List.mem_flatMap]
  constructor
  · rintro ⟨n, hn, hp⟩
    have h1 := (varF_mem h n p).1 hp
    exact ⟨⟨n, List.mem_range.1 hn, h1.1⟩, h1.2⟩
  · rintro ⟨⟨n, hn, h1⟩, h2⟩
    exact ⟨n, List.mem_range.2 hn, (varF_mem h n p).2 ⟨h1, h2⟩⟩
theorem varsT_asc {R : List (List TS)} (h : vsB R = true) : ∀ k, AscP (varsT R k)
  | 0 => List.Pairwise.nil
  | k + 1 => by
    rw [varsT_succ]
    unfold AscP
    rw [List.pairwise_append]
    refine ⟨varsT_asc h k, varF_asc h k, fun p hp q hq => ?_⟩
    obtain ⟨⟨n, hn, e⟩, _⟩ := (varsT_mem h k p).1 hp
    have e2 := ((varF_mem h k q).1 hq).1
    exact .inl (by rw [e, e2]; omega)
theorem raw_feat {R : List (List TS)} (h : vsB R = true) {p : IQ} (hp : p ∈ rawV R) : (0 ≤ p.1 ∧ p.1 ≤ 5) ∧ 1 ≤ p.2 ∧ p.2 ≤ 1000 := by
  obtain ⟨t, ht, rfl⟩ := List.mem_map.1 hp
  exact flat_test h ht
theorem varsL_mem {R : List (List TS)} (h : vsB R = true) (p : IQ) : p ∈ varsL R ↔ p ∈ rawV R := by
  unfold varsL
  rw [varsT_mem h 6 p]
  refine ⟨fun e => e.2, fun e => ⟨⟨p.1.toNat, ?_, ?_⟩, e⟩⟩
  · have := raw_feat h e; omega
  · have := raw_feat h e; omega
theorem varsL_asc {R : List (List TS)} (h : vsB R = true) : AscP (varsL R) := varsT_asc h 6
/-- sorting and compaction give the variables -/
theorem vars_cmp {R : List (List TS)} (h : vsB R = true) {s : List IQ} (hs : s.Pairwise fun p q => ¬ plt q p) (hm : ∀ x, x ∈ s ↔ x ∈ rawV R) : cmpP s = varsL R :=
  ascP_ext (cmpP_asc hs) (varsL_asc h) fun x => by rw [cmpP_mem, hm x, varsL_mem h x]
theorem nodup_le {α : Type} [BEq α] [LawfulBEq α] : ∀ {l m : List α}, l.Nodup → (∀ x ∈ l, x ∈ m) → l.length ≤ m.length
  | [], m, _, _ => Nat.zero_le _
  | x :: l, m, hn, h => by
    obtain ⟨h1, h2⟩ := List.nodup_cons.1 hn
    have hx := h x (List.mem_cons_self ..)
    have h3 := nodup_le (l := l) (m := m.erase x) h2 fun y hy => (List.mem_erase_of_ne (fun e => h1 (by rw [← e]; exact hy))).2 (h y (List.mem_cons_of_mem _ hy))
    rw [List.length_erase_of_mem hx] at h3
    have := List.length_pos_of_mem hx
    simp only [List.length_cons]
    omega
theorem flat_len9 {R : List (List TS)} (h : vsB R = true) : R.flatten.length ≤ 9 := by
  have h1 := vs_len h
  have h2 : ∀ l ∈ R, l.length ≤ 3 := fun l hl => (vr_len (vs_rule h hl)).2
  have : ∀ (R : List (List TS)), (∀ l ∈ R, l.length ≤ 3) → R.flatten.length ≤ 3 * R.length := by
    intro R
    induction R with
    | nil => intro _; simp
    | cons l R ih =>
      intro h
      have h3 := h l (List.mem_cons_self ..)
      have h4 := ih fun x hx => h x (List.mem_cons_of_mem _ hx)
      simp only [List.flatten_cons, List.length_append, List.length_cons]
      omega
  have := this R h2
  omega
theorem raw_len9 {R : List (List TS)} (h : vsB R = true) : (rawV R).length ≤ 9 := by unfold rawV; rw [List.length_map]; exact flat_len9 h
theorem vars_len9 {R : List (List TS)} (h : vsB R = true) : (varsL R).length ≤ 9 :=
  Nat.le_trans (nodup_le ((varsL_asc h).imp fun h => plt_ne h) fun x hx => (varsL_mem h x).1 hx) (raw_len9 h)
theorem varsR_len (R : List (List TS)) : (varsR R).length ≤ 9 := by
  unfold varsR
  cases h : vsB R
  · simp
  · rw [if_pos rfl]; exact vars_len9 h
theorem raw_pos {R : List (List TS)} (h : vsB R = true) : 0 < R.flatten.length := by
  have h1 := vs_len h
  match R, h1 with
  | l :: R, _ =>
    have h2 := vr_len (vs_rule h (List.mem_cons_self ..))
    simp only [List.flatten_cons, List.length_append]
    omega
theorem varF_len {R : List (List TS)} (h : vsB R = true) (n : Nat) : (varF R n).length ≤ 9 :=
  Nat.le_trans (nodup_le ((varF_asc h n).imp fun h => plt_ne h) fun x hx => ((varF_mem h n x).1 hx).2) (raw_len9 h)
theorem varsT_len {R : List (List TS)} (h : vsB R = true) (n : Nat) : (varsT R n).length ≤ 9 :=
  Nat.le_trans (nodup_le ((varsT_asc h n).imp fun h => plt_ne h) fun x hx => ((varsT_mem h n x).1 hx).2) (raw_len9 h)

end Go.Proofs.Ytookcggmapldeaa
