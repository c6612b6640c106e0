/-
  No violation on the grid: the rules are monotone on all feature vectors; a violation is one. By an AI agent.
-/
import Derived.Test.YtpldjihajclblaaRaiI
import Derived.Deep.Slices
namespace Go.Proofs.Ytpldjihajclblaa
open Go.RowKit
set_option linter.unusedVariables false
set_option linter.unusedSimpArgs false

theorem max_ex : ∀ (l : List Int) (x : Int), (∃ z ∈ l, z ≤ x) → ∃ y ∈ l, y ≤ x ∧ ∀ z ∈ l, z ≤ x → z ≤ y
  | [], x, ⟨z, hz, _⟩ => by cases hz
  | a :: l, x, h => by
    by_cases hl : ∃ z ∈ l, z ≤ x
    · obtain ⟨y, hy, hyx, hmax⟩ := max_ex l x hl
      by_cases ha : a ≤ x ∧ y < a
      · refine ⟨a, List.mem_cons_self .., ha.1, fun z hz hzx => ?_⟩
        rcases List.mem_cons.1 hz with rfl | hz
        · omega
        · have := hmax z hz hzx; omega
      · refine ⟨y, List.mem_cons_of_mem _ hy, hyx, fun z hz hzx => ?_⟩
        rcases List.mem_cons.1 hz with rfl | hz
        · omega
        · exact hmax z hz hzx
    · obtain ⟨z, hz, hzx⟩ := h
      rcases List.mem_cons.1 hz with rfl | hz
      · refine ⟨z, List.mem_cons_self .., hzx, fun u hu hux => ?_⟩
        rcases List.mem_cons.1 hu with rfl | hu
        · omega
        · exact absurd ⟨u, hu, hux⟩ hl
      · exact absurd ⟨z, hz, hzx⟩ hl
theorem vec_ex {P : Nat → Int → Prop} (h : ∀ n, n < 6 → ∃ y, P n y) : ∃ f : List Int, f.length = 6 ∧ ∀ n, n < 6 → P n (f.getD n 0) := by
  obtain ⟨F, hF⟩ := Go.Deep.choose_lt (n := 6) (p := P) h
  refine ⟨(List.range 6).map F, by simp, fun n hn => ?_⟩
  have e : ((List.range 6).map F).getD n 0 = F n := getD_is (by rw [List.getElem?_map, range_at hn]; rfl)
  rw [e]
  exact hF n hn
theorem grow_in : ∀ {ls : List (List Int)} {vs : List (List Int)} {g h : List Int}, g ∈ vs → h.length = ls.length → (∀ (n : Nat) (l : List Int), ls[n]? = some l → h.getD n 0 ∈ l) → g ++ h ∈ ls.foldl growV vs
  | [], vs, g, h, hg, hl, _ => by
    obtain rfl : h = [] := List.eq_nil_of_length_eq_zero hl
    rw [List.append_nil]
    exact hg
  | l :: ls, vs, g, [], hg, hl, _ => by simp at hl
  | l :: ls, vs, g, x :: h, hg, hl, hm => by
    have h1 : x ∈ l := hm 0 l rfl
    have h2 : g ++ [x] ∈ growV vs l := List.mem_flatMap.2 ⟨g, hg, List.mem_map_of_mem h1⟩
    have h3 := grow_in (ls := ls) (vs := growV vs l) (g := g ++ [x]) (h := h) h2 (by simpa using hl) (fun n m hn => by
      have := hm (n + 1) m (by simpa using hn)
      simpa using this)
    rw [List.append_assoc] at h3
    exact h3
theorem grid_in {R : List (List TS)} {f : List Int} (h : f.length = 6) (hm : ∀ n : Nat, n < 6 → f.getD n 0 ∈ levR R (n : Int)) : f ∈ gridV (levs R) := by
  have h1 := grow_in (ls := levs R) (vs := [[]]) (g := []) (h := f) (by simp) (by rw [h, levs_len]) (fun n l hl => by
    have hn : n < 6 := by have := (List.getElem?_eq_some_iff.1 hl).1; rwa [levs_len] at this
    rw [levs_at R hn] at hl
    injection hl with hl
    rw [← hl]
    exact hm n hn)
  exact h1
theorem find_congr {α : Type} {p q : α → Bool} : ∀ {l : List α}, (∀ x ∈ l, p x = q x) → l.findIdx p = l.findIdx q
  | [], _ => rfl
  | a :: l, h => by
    rw [List.findIdx_cons, List.findIdx_cons, h a (List.mem_cons_self ..), find_congr fun x hx => h x (List.mem_cons_of_mem _ hx)]
theorem all_congr {α : Type} {p q : α → Bool} : ∀ {l : List α}, (∀ x ∈ l, p x = q x) → l.all p = l.all q
  | [], _ => rfl
  | a :: l, h => by
    rw [List.all_cons, List.all_cons, h a (List.mem_cons_self ..), all_congr fun x hx => h x (List.mem_cons_of_mem _ hx)]
theorem rh_same {R : List (List TS)} {f f' : List Int} (h1 : fvB f = true) (h2 : fvB f' = true) (h : ∀ t ∈ R.flatten, condT t f = condT t f') : rhB R f = rhB R f' := by
  have e : firstU R f = firstU R f' := find_congr fun r hr => all_congr fun t ht => h t (List.mem_flatten.2 ⟨r, hr, ht⟩)
  unfold rhB frR
  rw [e, h1, h2]
theorem thr_mem {R : List (List TS)} {t : TS} (h : t ∈ R.flatten) : t.1.2 ∈ levR R t.1.1 := by
  unfold levR
  rw [levF_mem]
  exact List.mem_cons_of_mem _ (List.mem_map.2 ⟨t, List.mem_filter.2 ⟨h, by simp⟩, rfl⟩)
theorem zero_lev (R : List (List TS)) (n : Int) : (0 : Int) ∈ levR R n := by
  unfold levR
  rw [levF_mem]
  exact List.mem_cons_self ..
theorem fv_coord {f : List Int} (h : fvB f = true) {n : Nat} (hn : n < 6) : 0 ≤ f.getD n 0 ∧ f.getD n 0 ≤ 1000 := by
  have h1 := fv_of h
  have hlt : n < f.length := by omega
  rw [List.getD_eq_getElem?_getD, List.getElem?_eq_getElem hlt]
  exact within_mem h1.2 (List.getElem_mem hlt)
/-- a vector, each number lowered to a level -/
theorem down_ex {R : List (List TS)} (hv : vsB R = true) {f : List Int} (hf : fvB f = true) : ∃ f' : List Int, f'.length = 6 ∧ (∀ n : Nat, n < 6 → f'.getD n 0 ∈ levR R (n : Int)) ∧ fvB f' = true ∧ rhB R f = rhB R f' ∧ ∀ n : Nat, n < 6 → f'.getD n 0 ≤ f.getD n 0 ∧ ∀ z ∈ levR R (n : Int), z ≤ f.getD n 0 → z ≤ f'.getD n 0 := by
  obtain ⟨f', h6, hF⟩ := vec_ex (P := fun (n : Nat) y => y ∈ levR R (n : Int) ∧ y ≤ f.getD n 0 ∧ ∀ z ∈ levR R (n : Int), z ≤ f.getD n 0 → z ≤ y) (fun n hn => by
    obtain ⟨y, h1, h2, h3⟩ := max_ex (levR R n) (f.getD n 0) ⟨0, zero_lev R n, (fv_coord hf hn).1⟩
    exact ⟨y, h1, h2, h3⟩)
  have hfv : fvB f' = true := fv_each h6 fun n hn => levR_range hv (hF n hn).1
  refine ⟨f', h6, fun n hn => (hF n hn).1, hfv, rh_same hf hfv fun t ht => ?_, fun n hn => (hF n hn).2⟩
  obtain ⟨r, hr, htr⟩ := List.mem_flatten.1 ht
  have hvt := vt_of (vr_test (vs_rule hv hr) htr)
  have hth := thr_mem ht
  have hn : t.1.1.toNat < 6 := by omega
  have hcast : ((t.1.1.toNat : Nat) : Int) = t.1.1 := by omega
  obtain ⟨k1, k2, k3⟩ := hF _ hn
  rw [hcast] at k3
  have k4 := k3 _ hth
  unfold condT cmpT
  cases hu : t.2
  · have e : decide (t.1.2 ≤ f.getD t.1.1.toNat 0) = decide (t.1.2 ≤ f'.getD t.1.1.toNat 0) := decide_eq_decide.2 ⟨fun h => k4 h, fun h => by omega⟩
    rw [if_neg (by simp), if_neg (by simp), e]
  · have e : decide (f.getD t.1.1.toNat 0 < t.1.2) = decide (f'.getD t.1.1.toNat 0 < t.1.2) := decide_eq_decide.2 ⟨fun h => by omega, fun h => by
      rcases Int.lt_or_le (f.getD t.1.1.toNat 0) t.1.2 with h1 | h1
      · exact h1
      · have := k4 h1; omega⟩
    rw [if_pos rfl, if_pos rfl, e]
theorem set_coord {f : List Int} {n m : Nat} {x : Int} (hn : n < f.length) : (f.set n x).getD m 0 = if m = n then x else f.getD m 0 := by
  rw [List.getD_eq_getElem?_getD, List.getElem?_set, List.getD_eq_getElem?_getD]
  by_cases h : n = m
  · subst h; simp [hn]
  · rw [if_neg h, if_neg (fun e => h e.symm)]
theorem set_grid {R : List (List TS)} {f : List Int} {n : Nat} {x : Int} (h : f ∈ gridV (levs R)) (hn : n < 6) (hx : x ∈ levR R n) : f.set n x ∈ gridV (levs R) := by
  have h1 := grid_mem h
  refine grid_in (by rw [List.length_set]; exact h1.1) fun m hm => ?_
  rw [set_coord (by rw [h1.1]; exact hn)]
  by_cases e : m = n
  · subst e; rw [if_pos rfl]; exact hx
  · rw [if_neg e]; exact h1.2 m hm
theorem no_break {R : List (List TS)} (hv : vsB R = true) (hno : vioR R = none) {f : List Int} (hf : f ∈ gridV (levs R)) (hr : rhB R f = true) {n : Nat} (hn : n < 6) : breakV R f n = none := by
  unfold vioR at hno
  rw [if_pos hv] at hno
  have h1 := List.findSome?_eq_none_iff.1 hno f hf
  cases hb : breakV R f n with
  | none => rfl
  | some u =>
    exfalso
    unfold vioV at h1
    rw [if_pos hr, Option.map_eq_none_iff] at h1
    have h2 := List.findSome?_eq_none_iff.1 h1 n (List.mem_range.2 hn)
    rw [h2] at hb
    cases hb
/-- one coordinate climbs -/
theorem climb {R : List (List TS)} (hv : vsB R = true) (hno : vioR R = none) {h : List Int} {n : Nat} (hn : n < 6) (hg : h ∈ gridV (levs R)) (hr : rhB R h = true) {i : Nat} (hi : (levR R n)[i]? = some (h.getD n 0)) :
    ∀ (d : Nat) (x : Int), (levR R n)[i + d]? = some x → rhB R (h.set n x) = true
  | 0, x, hx => by
    rw [Nat.add_zero, hi] at hx
    injection hx with hx
    have hlt : n < h.length := by rw [(grid_mem hg).1]; exact hn
    have e : h.set n x = h := by
      rw [← hx, List.getD_eq_getElem?_getD, List.getElem?_eq_getElem hlt]
      simp
    rw [e]
    exact hr
  | d + 1, x, hx => by
    have hlt : i + d < (levR R n).length := by have := (List.getElem?_eq_some_iff.1 hx).1; omega
    obtain ⟨y, hy⟩ : ∃ y, (levR R n)[i + d]? = some y := ⟨_, List.getElem?_eq_getElem hlt⟩
    have ih := climb hv hno hn hg hr hi d y hy
    have hg2 := set_grid hg hn (List.mem_of_getElem? hy)
    have hb := no_break hv hno hg2 ih hn
    have hlen : n < h.length := by rw [(grid_mem hg).1]; exact hn
    have hyn : (h.set n y).getD n 0 = y := by rw [set_coord hlen, if_pos rfl]
    have hidx : (levR R n).idxOf ((h.set n y).getD n 0) = i + d := by rw [hyn]; exact idx_asc (levR_asc R n) hy
    have hxd : (levR R n).getD (i + d + 1) 0 = x := getD_is (by rw [← hx]; rfl)
    cases hc : rhB R (h.set n x) with
    | true => rfl
    | false =>
      exfalso
      have h3 := break_yes (R := R) (f := h.set n y) (n := n) (by rw [hidx]; have := (List.getElem?_eq_some_iff.1 hx).1; omega) (by rw [hidx, hxd, List.set_set]; exact hc)
      rw [hb] at h3
      cases h3
theorem climb_to {R : List (List TS)} (hv : vsB R = true) (hno : vioR R = none) {h : List Int} {n : Nat} {x : Int} (hn : n < 6) (hg : h ∈ gridV (levs R)) (hr : rhB R h = true) (hx : x ∈ levR R n) (hle : h.getD n 0 ≤ x) : rhB R (h.set n x) = true := by
  obtain ⟨i, hi⟩ := List.getElem?_of_mem ((grid_mem hg).2 n hn)
  obtain ⟨j, hj⟩ := List.getElem?_of_mem hx
  have hij : i ≤ j := by
    rcases Nat.lt_or_ge j i with h1 | h1
    · exfalso
      obtain ⟨hli, hei⟩ := List.getElem?_eq_some_iff.1 hi
      obtain ⟨hlj, hej⟩ := List.getElem?_eq_some_iff.1 hj
      have h2 := List.pairwise_iff_getElem.1 (levR_asc R n) j i hlj hli h1
      rw [hei, hej] at h2
      omega
    · exact h1
  exact climb hv hno hn hg hr hi (j - i) x (by rw [show i + (j - i) = j by omega]; exact hj)
/-- from one vector of the grid to another above it -/
theorem climb_all {R : List (List TS)} (hv : vsB R = true) (hno : vioR R = none) {g f : List Int} (hg : g ∈ gridV (levs R)) (hf : f ∈ gridV (levs R)) (hr : rhB R g = true) (hle : ∀ n, n < 6 → g.getD n 0 ≤ f.getD n 0) : rhB R f = true := by
  have key : ∀ k, k ≤ 6 → ∃ h, h ∈ gridV (levs R) ∧ rhB R h = true ∧ (∀ n, n < 6 → h.getD n 0 = if n < k then f.getD n 0 else g.getD n 0) := by
    intro k
    induction k with
    | zero => exact fun _ => ⟨g, hg, hr, fun n _ => by simp⟩
    | succ k ih =>
      intro hk
      obtain ⟨h, h1, h2, h3⟩ := ih (by omega)
      have hkn : k < 6 := by omega
      have hfk := (grid_mem hf).2 k hkn
      have hlen : k < h.length := by rw [(grid_mem h1).1]; exact hkn
      refine ⟨h.set k (f.getD k 0), set_grid h1 hkn hfk, climb_to hv hno hkn h1 h2 hfk ?_, fun n hn => ?_⟩
      · rw [h3 k hkn, if_neg (by omega)]
        exact hle k hkn
      · rw [set_coord hlen]
        by_cases e : n = k
        · subst e; simp
        · rw [if_neg e, h3 n hn]
          by_cases hlt : n < k
          · rw [if_pos hlt, if_pos (by omega)]
          · rw [if_neg hlt, if_neg (by omega)]
  obtain ⟨h, h1, h2, h3⟩ := key 6 (Nat.le_refl _)
  have e : h = f := by
    have l1 := (grid_mem h1).1
    have l2 := (grid_mem hf).1
    refine List.ext_getElem (by omega) fun n a b => ?_
    have h4 := h3 n (by omega)
    rw [if_pos (by omega)] at h4
    rw [List.getD_eq_getElem?_getD, List.getD_eq_getElem?_getD, List.getElem?_eq_getElem a, List.getElem?_eq_getElem b] at h4
    simpa using h4
  rw [← e]
  exact h2
theorem mono_all {R : List (List TS)} (hno : vioR R = none) {f g : List Int} (hd : domB f g = true) (hr : rhB R g = true) : rhB R f = true := by
  have hv : vsB R = true := by
    cases hv : vsB R with
    | true => rfl
    | false =>
      unfold rhB frR at hr
      rw [hv] at hr
      simp at hr
  unfold domB at hd
  simp only [Bool.and_eq_true] at hd
  obtain ⟨⟨hf, hg⟩, hle⟩ := hd
  obtain ⟨f', a1, a2, a3, a4, a5⟩ := down_ex hv hf
  obtain ⟨g', b1, b2, b3, b4, b5⟩ := down_ex hv hg
  rw [a4]
  rw [b4] at hr
  refine climb_all hv hno (grid_in b1 b2) (grid_in a1 a2) hr fun n hn => ?_
  have h1 := of_decide_eq_true (List.all_eq_true.1 hle n (List.mem_range.2 hn))
  exact (a5 n hn).2 _ (b2 n hn) (by have := (b5 n hn).1; omega)
/-- a violation is one -/
theorem vio_is {R : List (List TS)} {A B : List Int} (h : vioR R = some (A, B)) : rhB R A = true ∧ rhB R B = false ∧ domB B A = true ∧ A.length = 6 ∧ B.length = 6 := by
  have hv : vsB R = true := by
    cases hv : vsB R with
    | true => rfl
    | false => unfold vioR at h; rw [hv] at h; cases h
  unfold vioR at h
  rw [if_pos hv] at h
  obtain ⟨f, hf, hb⟩ := List.exists_of_findSome?_eq_some h
  unfold vioV at hb
  split at hb
  · rename_i hr
    rw [Option.map_eq_some_iff] at hb
    obtain ⟨u, hu, e⟩ := hb
    injection e with e1 e2
    subst e1 e2
    obtain ⟨n, hn, hbr⟩ := List.exists_of_findSome?_eq_some hu
    have hn6 := List.mem_range.1 hn
    obtain ⟨k1, k2, k3⟩ := break_some hbr
    have h6 := (grid_mem hf).1
    have hfv := fv_grid hv hf
    have hlt : (levR R n).idxOf (f.getD n 0) < (levR R n).length := by omega
    have hup : (levR R n)[(levR R n).idxOf (f.getD n 0) + 1]? = some ((levR R n).getD ((levR R n).idxOf (f.getD n 0) + 1) 0) := by
      rw [List.getElem?_eq_getElem k1, List.getD_eq_getElem?_getD (l := levR R n), List.getElem?_eq_getElem k1]
      rfl
    have hst := List.pairwise_iff_getElem.1 (levR_asc R n) _ _ hlt k1 (by omega)
    rw [List.getElem_idxOf] at hst
    have hub : fvB u = true := by rw [k2]; exact fv_set hv hfv (List.mem_of_getElem? hup)
    refine ⟨hr, k3, ?_, h6, by rw [k2, List.length_set]; exact h6⟩
    rw [dom_is hub hfv]
    refine List.all_eq_true.2 fun m hm => decide_eq_true ?_
    rw [k2, set_coord (by rw [h6]; exact hn6)]
    by_cases e : m = n
    · subst e
      rw [if_pos rfl, List.getD_eq_getElem?_getD (l := levR R m), List.getElem?_eq_getElem k1]
      simp only [Option.getD_some]
      omega
    · rw [if_neg e]
      exact Int.le_refl _
  · cases hb

end Go.Proofs.Ytpldjihajclblaa
