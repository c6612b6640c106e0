/-
  The grid of vectors, feature by feature, in plain lists. By an AI agent.
-/
import Derived.Test.YtpldjihajclblaaPlainMon
namespace Go.Proofs.Ytpldjihajclblaa
open Go.RowKit
set_option linter.unusedVariables false

def gridT (R : List (List TS)) (n : Nat) : List (List Int) := ((levs R).take n).foldl growV [[]]
theorem levs_len (R : List (List TS)) : (levs R).length = 6 := by simp [levs]
theorem levs_at (R : List (List TS)) {n : Nat} (hn : n < 6) : (levs R)[n]? = some (levR R n) := by simp [levs, hn]
theorem gridT_all (R : List (List TS)) : gridT R 6 = gridV (levs R) := by unfold gridT gridV; rw [List.take_of_length_le (by rw [levs_len]; exact Nat.le_refl _)]
theorem gridT_succ (R : List (List TS)) {n : Nat} (hn : n < 6) : gridT R (n + 1) = growV (gridT R n) (levR R n) := by
  unfold gridT
  rw [take_one (levs_at R hn), List.foldl_append]
  rfl
theorem growV_len (vs : List (List Int)) (l : List Int) : (growV vs l).length = vs.length * l.length := by
  unfold growV
  rw [List.length_flatMap]
  simp
  induction vs with
  | nil => simp
  | cons f vs ih => simp [ih, Nat.succ_mul]; omega
theorem growV_snoc {vs : List (List Int)} {l : List Int} {i : Nat} {f : List Int} (h : vs[i]? = some f) : growV (vs.take (i + 1)) l = growV (vs.take i) l ++ l.map fun x => f ++ [x] := by
  unfold growV
  rw [take_one h, List.flatMap_append]
  simp
/-- behind some of the levels of vector i -/
def growK (vs : List (List Int)) (l : List Int) (i : Nat) (f : List Int) (k : Nat) : List (List Int) := growV (vs.take i) l ++ (l.take k).map fun x => f ++ [x]
theorem growK_zero (vs : List (List Int)) (l : List Int) (i : Nat) (f : List Int) : growK vs l i f 0 = growV (vs.take i) l := by simp [growK]
theorem growK_succ {vs : List (List Int)} {l : List Int} {i k : Nat} {f : List Int} {x : Int} (h : l[k]? = some x) : growK vs l i f (k + 1) = growK vs l i f k ++ [f ++ [x]] := by
  unfold growK
  rw [take_one h]
  simp
theorem growK_all {vs : List (List Int)} {l : List Int} {i : Nat} {f : List Int} (h : vs[i]? = some f) : growK vs l i f l.length = growV (vs.take (i + 1)) l := by
  unfold growK
  rw [growV_snoc h, List.take_length]
theorem growK_lt {vs : List (List Int)} {l : List Int} {i k : Nat} {f : List Int} (h : i < vs.length) (hv : vs.length ≤ 100000) (hl : l.length ≤ 10) : (growK vs l i f k).length ≤ 1000000 := by
  unfold growK
  rw [List.length_append, growV_len, List.length_map, List.length_take, List.length_take]
  have h1 : min i vs.length * l.length ≤ 99999 * 10 := Nat.mul_le_mul (by omega) hl
  omega
theorem growK_len {vs : List (List Int)} {l : List Int} {i k : Nat} {f : List Int} (h : i < vs.length) (hv : vs.length ≤ 1000000) (hl : l.length ≤ 10) : (growK vs l i f k).length ≤ 10000000 := by
  unfold growK
  rw [List.length_append, growV_len, List.length_map, List.length_take, List.length_take]
  have h1 : min i vs.length * l.length ≤ 1000000 * 9 ∨ min i vs.length * l.length ≤ 999999 * 10 := by
    right
    exact Nat.mul_le_mul (by omega) hl
  omega
theorem flat_le {R : List (List TS)} (h : vsB R = true) : R.flatten.length ≤ 9 := by
  have h1 := (vs_len h).2
  have h2 : ∀ l ∈ R, l.length ≤ 3 := fun l hl => (vr_len (vs_rule h hl)).2
  have : ∀ (S : List (List TS)), (∀ l ∈ S, l.length ≤ 3) → S.flatten.length ≤ 3 * S.length := by
    intro S
    induction S with
    | nil => simp
    | cons x S ih =>
      intro hS
      have h3 := ih (fun l hl => hS l (List.mem_cons_of_mem _ hl))
      have h4 := hS x (List.mem_cons_self ..)
      rw [List.flatten_cons, List.length_append, List.length_cons]
      omega
  have := this R h2
  omega
theorem levR_len {R : List (List TS)} (h : vsB R = true) (n : Int) : (levR R n).length ≤ 10 := by
  have h1 := levF_len R.flatten n
  have h2 := flat_le h
  unfold levR
  omega
theorem gridT_len {R : List (List TS)} (h : vsB R = true) : ∀ (n : Nat), n ≤ 6 → (gridT R n).length ≤ 10 ^ n
  | 0, _ => by simp [gridT]
  | n + 1, hn => by
    rw [gridT_succ R (by omega), growV_len, Nat.pow_succ]
    exact Nat.mul_le_mul (gridT_len h n (by omega)) (levR_len h n)
theorem gridT_le {R : List (List TS)} (h : vsB R = true) {n : Nat} (hn : n ≤ 6) : (gridT R n).length ≤ 1000000 :=
  Nat.le_trans (gridT_len h n hn) (Nat.le_trans (Nat.pow_le_pow_right (by decide) hn) (by decide))
theorem gridT_lt {R : List (List TS)} (h : vsB R = true) {n : Nat} (hn : n < 6) : (gridT R n).length ≤ 100000 :=
  Nat.le_trans (gridT_len h n (by omega)) (Nat.le_trans (Nat.pow_le_pow_right (by decide) (show n ≤ 5 by omega)) (by decide))
theorem gridT_rows {R : List (List TS)} : ∀ (n : Nat), n ≤ 6 → ∀ f ∈ gridT R n, f.length = n
  | 0, _ => by intro f hf; simp [gridT] at hf; simp [hf]
  | n + 1, hn => by
    intro f hf
    rw [gridT_succ R (by omega)] at hf
    unfold growV at hf
    obtain ⟨g, hg, hf⟩ := List.mem_flatMap.1 hf
    obtain ⟨x, _, rfl⟩ := List.mem_map.1 hf
    rw [List.length_append, gridT_rows n (by omega) g hg]
    rfl

end Go.Proofs.Ytpldjihajclblaa
