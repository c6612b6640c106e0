/-
  Levels, grid vectors and violations of monotonicity, in plain lists. By an AI agent.
-/
import Derived.Test.YtookcggmapldeaaPlainRul
import Derived.Lib.SlicesCompact
import Derived.Lib.RowBridge
namespace Go.Proofs.Ytookcggmapldeaa
open Go.RowKit
set_option linter.unusedVariables false

/-- one number more in an ascending list -/
def putI : List Int → Int → List Int
  | [], n => [n]
  | x :: l, n => if x < n then x :: putI l n else if x = n then x :: l else n :: x :: l
theorem putI_new {l : List Int} {n : Int} : ∀ {k : Nat}, (∀ (j : Nat) (x : Int), l[j]? = some x → j < k → x < n) → (∀ x, l[k]? = some x → ¬ x < n ∧ x ≠ n) → k ≤ l.length → putI l n = l.take k ++ n :: l.drop k := by
  induction l with
  | nil => intro k _ _ hk; simp at hk; subst hk; rfl
  | cons x l ih =>
    intro k h1 h2 hk
    cases k with
    | zero =>
      have h := h2 x rfl
      simp [putI, h.1, h.2]
    | succ k =>
      have h := h1 0 x rfl (by omega)
      rw [putI, if_pos h, ih (k := k) (fun j y hy hj => h1 (j + 1) y (by simpa using hy) (by omega)) (fun y hy => h2 y (by simpa using hy)) (by simpa using hk)]
      simp
theorem putI_same {l : List Int} {n : Int} : ∀ {k : Nat}, (∀ (j : Nat) (x : Int), l[j]? = some x → j < k → x < n) → l[k]? = some n → putI l n = l := by
  induction l with
  | nil => intro k _ h; simp at h
  | cons x l ih =>
    intro k h1 h2
    cases k with
    | zero =>
      simp at h2
      subst h2
      simp [putI]
    | succ k =>
      have h := h1 0 x rfl (by omega)
      rw [putI, if_pos h, ih (k := k) (fun j y hy hj => h1 (j + 1) y (by simpa using hy) (by omega)) (by simpa using h2)]
theorem putI_mem {l : List Int} {n x : Int} : x ∈ putI l n ↔ x = n ∨ x ∈ l := by
  induction l with
  | nil => simp [putI]
  | cons y l ih =>
    unfold putI
    by_cases h1 : y < n
    · rw [if_pos h1, List.mem_cons, ih, List.mem_cons]
      constructor <;> (rintro (h | h | h) <;> simp [h])
    · rw [if_neg h1]
      by_cases h2 : y = n
      · rw [if_pos h2, List.mem_cons]
        subst h2
        constructor
        · exact .inr
        · rintro (h | h)
          · exact .inl h
          · exact h
      · rw [if_neg h2, List.mem_cons]
theorem putI_len (l : List Int) (n : Int) : (putI l n).length ≤ l.length + 1 := by
  induction l with
  | nil => simp [putI]
  | cons y l ih =>
    unfold putI
    split
    · simp; omega
    · split <;> simp
theorem putI_asc {l : List Int} {n : Int} (h : l.Pairwise (· < ·)) : (putI l n).Pairwise (· < ·) := by
  induction l with
  | nil => simp [putI]
  | cons y l ih =>
    obtain ⟨h1, h2⟩ := List.pairwise_cons.1 h
    unfold putI
    by_cases h3 : y < n
    · rw [if_pos h3, List.pairwise_cons]
      refine ⟨fun z hz => ?_, ih h2⟩
      rcases putI_mem.1 hz with rfl | hz
      · exact h3
      · exact h1 z hz
    · rw [if_neg h3]
      by_cases h4 : y = n
      · rw [if_pos h4]; exact h
      · rw [if_neg h4, List.pairwise_cons]
        refine ⟨fun z hz => ?_, h⟩
        rcases List.mem_cons.1 hz with rfl | hz
        · omega
        · have := h1 z hz; omega

/-- the levels of a feature in some tests -/
def levF (ts : List TS) (n : Int) : List Int := ts.foldl (fun acc t => if t.1.1 = n then putI acc t.1.2 else acc) [0]
/-- the thresholds as they come, behind a 0 -/
def rawF (ts : List TS) (n : Int) : List Int := 0 :: (ts.filter fun t => decide (t.1.1 = n)).map fun t => t.1.2
theorem levF_snoc (ts : List TS) (t : TS) (n : Int) : levF (ts ++ [t]) n = if t.1.1 = n then putI (levF ts n) t.1.2 else levF ts n := by simp [levF, List.foldl_append]
theorem rawF_snoc (ts : List TS) (t : TS) (n : Int) : rawF (ts ++ [t]) n = if t.1.1 = n then rawF ts n ++ [t.1.2] else rawF ts n := by
  unfold rawF
  by_cases h : t.1.1 = n <;> simp [h]
theorem levF_asc (ts : List TS) (n : Int) : (levF ts n).Pairwise (· < ·) := by
  suffices ∀ (acc : List Int), acc.Pairwise (· < ·) → (ts.foldl (fun acc t => if t.1.1 = n then putI acc t.1.2 else acc) acc).Pairwise (· < ·) from this [0] (by simp)
  induction ts with
  | nil => exact fun acc h => h
  | cons t ts ih =>
    intro acc h
    rw [List.foldl_cons]
    apply ih
    split
    · exact putI_asc h
    · exact h
theorem levF_mem (ts : List TS) (n x : Int) : x ∈ levF ts n ↔ x ∈ rawF ts n := by
  suffices ∀ (acc : List Int), x ∈ ts.foldl (fun acc t => if t.1.1 = n then putI acc t.1.2 else acc) acc ↔ x ∈ acc ∨ x ∈ (ts.filter fun t => decide (t.1.1 = n)).map (fun t => t.1.2) by
    have h := this [0]
    unfold levF rawF
    rw [h]
    simp
  induction ts with
  | nil => intro acc; simp
  | cons t ts ih =>
    intro acc
    rw [List.foldl_cons, ih]
    by_cases h : t.1.1 = n
    · rw [if_pos h, List.filter_cons_of_pos (by simpa using h), List.map_cons, List.mem_cons, putI_mem]
      constructor
      · rintro ((h1 | h1) | h1)
        · exact .inr (.inl h1)
        · exact .inl h1
        · exact .inr (.inr h1)
      · rintro (h1 | h1 | h1)
        · exact .inl (.inr h1)
        · exact .inl (.inl h1)
        · exact .inr h1
    · rw [if_neg h, List.filter_cons_of_neg (by simpa using h)]
theorem levF_len (ts : List TS) (n : Int) : (levF ts n).length ≤ ts.length + 1 := by
  suffices ∀ (acc : List Int), (ts.foldl (fun acc t => if t.1.1 = n then putI acc t.1.2 else acc) acc).length ≤ ts.length + acc.length by have h := this [0]; simpa [levF] using h
  induction ts with
  | nil => simp
  | cons t ts ih =>
    intro acc
    rw [List.foldl_cons, List.length_cons]
    have h1 := ih (if t.1.1 = n then putI acc t.1.2 else acc)
    have h2 : (if t.1.1 = n then putI acc t.1.2 else acc).length ≤ acc.length + 1 := by split; exact putI_len _ _; omega
    omega
theorem levF_pos (ts : List TS) (n : Int) : 0 < (levF ts n).length := by
  have : (0 : Int) ∈ levF ts n := (levF_mem ts n 0).2 (by simp [rawF])
  exact List.length_pos_of_mem this
theorem rawF_len (ts : List TS) (n : Int) : (rawF ts n).length ≤ ts.length + 1 := by
  unfold rawF
  have := List.length_filter_le (fun t : TS => decide (t.1.1 = n)) ts
  simp only [List.length_cons, List.length_map]
  omega

/-- two ascending lists with the same members are equal -/
theorem asc_same : ∀ {l m : List Int}, l.Pairwise (· < ·) → m.Pairwise (· < ·) → (∀ x, x ∈ l ↔ x ∈ m) → l = m
  | [], [], _, _, _ => rfl
  | [], y :: m, _, _, h => by have := (h y).2 (List.mem_cons_self ..); simp at this
  | x :: l, [], _, _, h => by have := (h x).1 (List.mem_cons_self ..); simp at this
  | x :: l, y :: m, hl, hm, h => by
    obtain ⟨h1, h2⟩ := List.pairwise_cons.1 hl
    obtain ⟨h3, h4⟩ := List.pairwise_cons.1 hm
    have e : x = y := by
      rcases List.mem_cons.1 ((h x).1 (List.mem_cons_self ..)) with e | e
      · exact e
      · rcases List.mem_cons.1 ((h y).2 (List.mem_cons_self ..)) with e2 | e2
        · exact e2.symm
        · have := h3 x e; have := h1 y e2; omega
    subst e
    rw [asc_same h2 h4 fun z => ?_]
    constructor
    · intro hz
      rcases List.mem_cons.1 ((h z).1 (List.mem_cons_of_mem _ hz)) with e | e
      · have := h1 z hz; omega
      · exact e
    · intro hz
      rcases List.mem_cons.1 ((h z).2 (List.mem_cons_of_mem _ hz)) with e | e
      · have := h3 z hz; omega
      · exact e

/-- compaction keeps the members, and makes what is sorted ascend -/
theorem cupto {d : List Int} (hs : d.Pairwise (· ≤ ·)) : ∀ (m : Nat), m ≤ d.length → (Lib.compactUpTo d.toArray m).Pairwise (· < ·) ∧ (∀ x, x ∈ Lib.compactUpTo d.toArray m ↔ x ∈ d.take m)
  | 0, _ => by simp [Lib.compactUpTo]
  | m + 1, hm => by
    obtain ⟨h1, h2⟩ := cupto hs m (by omega)
    have hlt : m < d.length := by omega
    have hg : (d.toArray)[m]! = d[m] := by rw [getElem!_pos _ m (by simpa using hlt)]; rfl
    rw [Lib.compactUpTo_succ, hg]
    have htk : d.take (m + 1) = d.take m ++ [d[m]] := List.take_succ_eq_append_getElem hlt
    have hle : ∀ x ∈ d.take m, x ≤ d[m] := fun x hx => by
      obtain ⟨j, hj⟩ := List.getElem?_of_mem hx
      rw [List.getElem?_take] at hj
      split at hj
      · rename_i hjm
        obtain ⟨hj2, e⟩ := List.getElem?_eq_some_iff.1 hj
        rw [← e]
        exact List.pairwise_iff_getElem.1 hs j m hj2 hlt hjm
      · cases hj
    by_cases hk : Lib.keeps d.toArray m = true
    · rw [hk]
      simp only [if_true]
      refine ⟨?_, fun x => by rw [htk, List.mem_append, List.mem_append, h2]⟩
      rw [List.pairwise_append]
      refine ⟨h1, by simp, fun x hx y hy => ?_⟩
      simp at hy
      subst hy
      have h3 := hle x ((h2 x).1 hx)
      rcases Int.lt_or_eq_of_le h3 with h4 | h4
      · exact h4
      · exfalso
        have hx2 := (h2 x).1 hx
        have hm0 : 0 < m := by
          rcases Nat.eq_zero_or_pos m with e | e
          · subst e; simp at hx2
          · exact e
        unfold Lib.keeps at hk
        simp only [decide_eq_true_eq] at hk
        rcases hk with e | e
        · omega
        · apply e
          have hg2 : (d.toArray)[m - 1]! = d[m - 1]'(by omega) := by rw [getElem!_pos _ (m - 1) (by simp; omega)]; rfl
          rw [hg, hg2]
          have h5 : d[m - 1]'(by omega) ≤ d[m] := List.pairwise_iff_getElem.1 hs (m - 1) m (by omega) hlt (by omega)
          have h6 : d[m] ≤ d[m - 1]'(by omega) := by
            rw [← h4]
            obtain ⟨j, hj⟩ := List.getElem?_of_mem hx2
            rw [List.getElem?_take] at hj
            split at hj
            · rename_i hjm
              obtain ⟨hj2, e2⟩ := List.getElem?_eq_some_iff.1 hj
              rw [← e2]
              rcases Nat.lt_or_ge j (m - 1) with h7 | h7
              · exact List.pairwise_iff_getElem.1 hs j (m - 1) hj2 (by omega) h7
              · have : j = m - 1 := by omega
                subst this
                exact Int.le_refl _
            · cases hj
          omega
    · rw [if_neg hk, List.append_nil]
      refine ⟨h1, fun x => ?_⟩
      rw [h2, htk, List.mem_append]
      constructor
      · exact .inl
      · rintro (h | h)
        · exact h
        · simp at h
          subst h
          have hm0 : m ≠ 0 ∧ (d.toArray)[m]! = (d.toArray)[m - 1]! := by
            unfold Lib.keeps at hk
            simpa using hk
          have hg2 : (d.toArray)[m - 1]! = d[m - 1]'(by omega) := by rw [getElem!_pos _ (m - 1) (by simp; omega)]; rfl
          rw [hg, hg2] at hm0
          rw [hm0.2]
          exact List.mem_of_getElem? (i := m - 1) (by rw [List.getElem?_take_of_lt (by omega)]; exact List.getElem?_eq_getElem _)
theorem sort_ints (l : List Int) : (l.mergeSort fun x y => decide (x ≤ y)).Pairwise (· ≤ ·) := by
  have h := List.pairwise_mergeSort (le := fun x y : Int => decide (x ≤ y)) (fun a b c h1 h2 => by simp at h1 h2 ⊢; omega) (fun a b => by simp; omega) l
  exact h.imp fun h => by simpa using h
/-- the two ways to the levels -/
theorem levF_same (ts : List TS) (n : Int) : Lib.compact ((rawF ts n).mergeSort fun x y => decide (x ≤ y)) = levF ts n := by
  have hs := sort_ints (rawF ts n)
  obtain ⟨h1, h2⟩ := cupto hs _ (Nat.le_refl _)
  refine asc_same h1 (levF_asc ts n) fun x => ?_
  rw [levF_mem]
  refine (h2 x).trans ?_
  rw [List.take_length, List.mem_mergeSort]

/-- the levels of the six features -/
def levR (R : List (List TS)) (n : Int) : List Int := levF R.flatten n
def levs (R : List (List TS)) : List (List Int) := (List.range 6).map fun n : Nat => levR R (n : Int)
/-- the vectors, a feature longer -/
def growV (vs : List (List Int)) (l : List Int) : List (List Int) := vs.flatMap fun f => l.map fun x => f ++ [x]
def gridV (ls : List (List Int)) : List (List Int) := ls.foldl growV [[]]
/-- the vector with the next greater level -/
def raiseV (f : List Int) (n : Nat) (l : List Int) : Option (List Int) :=
  if l.idxOf (f.getD n 0) + 1 < l.length then some (f.set n (l.getD (l.idxOf (f.getD n 0) + 1) 0)) else none
/-- the first feature whose raising breaks the rules -/
def breakV (R : List (List TS)) (f : List Int) (n : Nat) : Option (List Int) := (raiseV f n (levR R n)).filter fun u => !rhB R u
def vioV (R : List (List TS)) (f : List Int) : Option (List Int × List Int) := if rhB R f = true then ((List.range 6).findSome? fun n => breakV R f n).map fun u => (f, u) else none
def vioR (R : List (List TS)) : Option (List Int × List Int) := if vsB R = true then (gridV (levs R)).findSome? (vioV R) else none
/-- the answer -/
def VioOut (R : List (List TS)) (A B : List Int) (s : Bool) : Prop := (s = true ∧ vioR R = some (A, B)) ∨ (s = false ∧ vioR R = none ∧ A = [] ∧ B = [])
def monB (R : List (List TS)) : Bool := vsB R && !(vioR R).isSome
theorem vio_some (R : List (List TS)) : ∃ A B s, VioOut R A B s := by
  cases h : vioR R with
  | none => exact ⟨[], [], false, .inr ⟨rfl, h, rfl, rfl⟩⟩
  | some p => exact ⟨p.1, p.2, true, .inl ⟨rfl, h⟩⟩
theorem vio_bad {R : List (List TS)} {A B : List Int} {s : Bool} (h : VioOut R A B s) (hv : vsB R = false) : A = [] ∧ B = [] ∧ s = false := by
  rcases h with ⟨_, h⟩ | ⟨h1, _, h2, h3⟩
  · unfold vioR at h; rw [hv] at h; cases h
  · exact ⟨h2, h3, h1⟩
theorem vio_none {R : List (List TS)} {A B : List Int} {s : Bool} (h : VioOut R A B s) (hv : vioR R = none) : A = [] ∧ B = [] ∧ s = false := by
  rcases h with ⟨_, h⟩ | ⟨h1, _, h2, h3⟩
  · rw [hv] at h; cases h
  · exact ⟨h2, h3, h1⟩
theorem vio_yes {R : List (List TS)} {A B f u : List Int} {s : Bool} (h : VioOut R A B s) (hv : vioR R = some (f, u)) : A = f ∧ B = u ∧ s = true := by
  rcases h with ⟨h1, h⟩ | ⟨_, h, _⟩
  · rw [hv] at h
    injection h with h
    injection h with h2 h3
    exact ⟨h2.symm, h3.symm, h1⟩
  · rw [hv] at h; cases h
/-- none of the first k -/
def noneV {α β : Type} (g : α → Option β) (l : List α) (k : Nat) : Prop := ∀ j x, j < k → l[j]? = some x → g x = none
theorem noneV_zero {α β : Type} (g : α → Option β) (l : List α) : noneV g l 0 := fun j x h => absurd h (Nat.not_lt_zero _)
theorem noneV_succ {α β : Type} {g : α → Option β} {l : List α} {k : Nat} {x : α} (h : noneV g l k) (hx : l[k]? = some x) (hg : g x = none) : noneV g l (k + 1) := by
  intro j y hj hy
  by_cases e : j = k
  · subst e; rw [hx] at hy; injection hy with hy; subst hy; exact hg
  · exact h j y (by omega) hy
theorem findSome_at {α β : Type} {g : α → Option β} : ∀ {l : List α} {k : Nat} {x : α} {y : β}, noneV g l k → l[k]? = some x → g x = some y → l.findSome? g = some y
  | [], k, x, y, _, h, _ => by simp at h
  | z :: l, 0, x, y, _, h, hg => by
    simp at h
    subst h
    rw [List.findSome?_cons, hg]
  | z :: l, k + 1, x, y, hn, h, hg => by
    rw [List.findSome?_cons, hn 0 z (by omega) rfl]
    exact findSome_at (k := k) (fun j y hj hy => hn (j + 1) y (by omega) (by simpa using hy)) (by simpa using h) hg
theorem findSome_none {α β : Type} {g : α → Option β} {l : List α} (h : noneV g l l.length) : l.findSome? g = none := by
  rw [List.findSome?_eq_none_iff]
  intro x hx
  obtain ⟨k, hk⟩ := List.getElem?_of_mem hx
  exact h k x (List.getElem?_eq_some_iff.1 hk).1 hk
theorem range_at {n m : Nat} (h : n < m) : (List.range m)[n]? = some n := by simp [h]
theorem vioV_no {R : List (List TS)} {f : List Int} (h : rhB R f = false) : vioV R f = none := by unfold vioV; rw [h]; rfl
theorem vioV_none {R : List (List TS)} {f : List Int} (h : noneV (breakV R f) (List.range 6) 6) : vioV R f = none := by
  unfold vioV
  split
  · rw [findSome_none (by simpa using h)]; rfl
  · rfl
theorem vioV_yes {R : List (List TS)} {f u : List Int} {n : Nat} (hr : rhB R f = true) (h : noneV (breakV R f) (List.range 6) n) (hn : n < 6) (hu : breakV R f n = some u) : vioV R f = some (f, u) := by
  unfold vioV
  rw [if_pos hr, findSome_at h (range_at hn) hu]
  rfl
/-- a break, if there is one, lies at the vector's level or behind -/
theorem break_some {R : List (List TS)} {f u : List Int} {n : Nat} (h : breakV R f n = some u) : (levR R n).idxOf (f.getD n 0) + 1 < (levR R n).length ∧ u = f.set n ((levR R n).getD ((levR R n).idxOf (f.getD n 0) + 1) 0) ∧ rhB R u = false := by
  unfold breakV raiseV at h
  split at h
  · rename_i hlt
    rw [Option.filter_some] at h
    split at h
    · rename_i hr
      injection h with h
      subst h
      exact ⟨hlt, rfl, by simpa using hr⟩
    · cases h
  · cases h
theorem break_yes {R : List (List TS)} {f : List Int} {n : Nat} (hlt : (levR R n).idxOf (f.getD n 0) + 1 < (levR R n).length) (hr : rhB R (f.set n ((levR R n).getD ((levR R n).idxOf (f.getD n 0) + 1) 0)) = false) : breakV R f n = some (f.set n ((levR R n).getD ((levR R n).idxOf (f.getD n 0) + 1) 0)) := by
  unfold breakV raiseV
  rw [if_pos hlt, Option.filter_some, hr]
  rfl
theorem break_no {R : List (List TS)} {f : List Int} {n : Nat} (hr : rhB R (f.set n ((levR R n).getD ((levR R n).idxOf (f.getD n 0) + 1) 0)) = true) : breakV R f n = none := by
  cases h : breakV R f n with
  | none => rfl
  | some u =>
    obtain ⟨_, h2, h3⟩ := break_some h
    rw [h2, hr] at h3
    cases h3
theorem idx_asc {l : List Int} (h : l.Pairwise (· < ·)) {j : Nat} {x : Int} (hx : l[j]? = some x) : l.idxOf x = j := by
  induction l generalizing j with
  | nil => simp at hx
  | cons y l ih =>
    obtain ⟨h1, h2⟩ := List.pairwise_cons.1 h
    cases j with
    | zero =>
      simp at hx
      subst hx
      simp
    | succ j =>
      have hx1 : l[j]? = some x := by simpa using hx
      have h3 := h1 x (List.mem_of_getElem? hx1)
      rw [List.idxOf_cons, ih h2 hx1]
      have : (y == x) = false := by simp; omega
      rw [this]
      rfl
theorem levR_asc (R : List (List TS)) (n : Int) : (levR R n).Pairwise (· < ·) := levF_asc _ _
/-- vectors of the grid -/
theorem grow_mem {ls : List (List Int)} {vs : List (List Int)} {f : List Int} : f ∈ ls.foldl growV vs → ∃ g h, f = g ++ h ∧ g ∈ vs ∧ h.length = ls.length ∧ ∀ (n : Nat) (l : List Int), ls[n]? = some l → h.getD n 0 ∈ l := by
  induction ls generalizing vs with
  | nil => intro hf; exact ⟨f, [], by simp, hf, rfl, fun n l h => by simp at h⟩
  | cons l ls ih =>
    intro hf
    rw [List.foldl_cons] at hf
    obtain ⟨g, h, rfl, hg, hh, hl⟩ := ih hf
    unfold growV at hg
    obtain ⟨g0, hg0, hg⟩ := List.mem_flatMap.1 hg
    obtain ⟨x, hx, rfl⟩ := List.mem_map.1 hg
    refine ⟨g0, x :: h, by simp, hg0, by simp [hh], fun n m hm => ?_⟩
    cases n with
    | zero => simp at hm; subst hm; simpa using hx
    | succ n => have := hl n m (by simpa using hm); simpa using this
theorem grid_mem {R : List (List TS)} {f : List Int} (h : f ∈ gridV (levs R)) : f.length = 6 ∧ ∀ (n : Nat), n < 6 → f.getD n 0 ∈ levR R n := by
  obtain ⟨g, h, rfl, hg, hh, hl⟩ := grow_mem h
  simp at hg
  subst hg
  rw [List.nil_append]
  refine ⟨by rw [hh]; simp [levs], fun n hn => hl n _ (by simp [levs, hn])⟩

end Go.Proofs.Ytookcggmapldeaa
