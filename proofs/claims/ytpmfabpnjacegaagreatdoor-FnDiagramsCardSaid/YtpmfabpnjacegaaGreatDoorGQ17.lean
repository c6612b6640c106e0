/-
  Texts laid together: RuH, RuU. By an AI agent.
-/
import Derived.Test.YtpmfabpnjacegaaGreatDoorGQ6
/-
  What is read of a slice of rules of the call's own that lies in a span of blocks. By an AI agent.
-/
namespace Go.Proofs.YtpmfabpnjacegaaGreatDoor
open Go.RowKit
set_option linter.unusedVariables false

theorem OwnHRu.smRu {w : World} {lo hi : Nat} {a : Option Addr} {n cap : Nat} {q : List XU} {R : List (List TS)} (h : OwnHRu w lo hi (.slice a n cap) q) (hq : rulesU q = R) (h1 : R.length ≤ 4000000) (h2 : ∀ x ∈ R, x.length ≤ 4000000) : SmRu w a R cap := h.1.smRu hq h1 h2
theorem OwnHRu.inRu {w : World} {lo hi : Nat} {a : Option Addr} {n cap : Nat} {q : List XU} {R : List (List TS)} (h : OwnHRu w lo hi (.slice a n cap) q) (hq : rulesU q = R) : InRu w a R := by rw [← hq]; exact h.1.inRu
theorem ArgRu.inRu {w : World} {a : Option Addr} {R : List (List TS)} (h : ArgRu w a R) : InRu w a R := h.1
theorem ArgTs.inTs {w : World} {a : Option Addr} {l : List TS} (h : ArgTs w a l) : InTs w a l := h.1
theorem rl_len {l : List TS} (h : l.length ≤ 1048576) : l.length ≤ 4000000 := by omega

end Go.Proofs.YtpmfabpnjacegaaGreatDoor

/-
  Slices of rules: what the laws' own markRuleSet writes. By an AI agent.
-/
namespace Go.Proofs.YtpmfabpnjacegaaGreatDoor
open Go.RowKit
set_option linter.unusedVariables false
set_option linter.unusedSimpArgs false
set_option linter.unnecessarySimpa false

/-- numbers for tests -/
def mkT (m : Nat) : TS := (((m : Nat), (m : Int) + 1), ((m : Int) + 1 + 1) % 3 == 0)
def mkTs (k0 n : Nat) : List TS := (List.range n).map fun j => mkT (k0 + 3 * j)
theorem mkTs_len (k0 n : Nat) : (mkTs k0 n).length = n := by simp [mkTs]
theorem mkTs_succ (k0 n : Nat) : mkTs k0 (n + 1) = mkTs k0 n ++ [mkT (k0 + 3 * n)] := by simp [mkTs, List.range_succ]
theorem mkTs_at {k0 n j : Nat} (h : j < n) : (mkTs k0 n)[j]? = some (mkT (k0 + 3 * j)) := by simp [mkTs, h]
def mkR (k0 : Nat) : List (List TS) → List (List TS)
  | [] => []
  | l :: R => mkTs k0 l.length :: mkR (k0 + 3 * l.length) R
/-- the numbers that are given to the first k rules -/
def ruT (R : List (List TS)) (k : Nat) : Nat := 3 * ((R.take k).map List.length).sum
theorem ruT_succ {R : List (List TS)} {k : Nat} {l : List TS} (h : R[k]? = some l) : ruT R (k + 1) = ruT R k + 3 * l.length := by
  unfold ruT
  obtain ⟨hlt, he⟩ := List.getElem?_eq_some_iff.1 h
  rw [List.take_succ_eq_append_getElem hlt, he]
  simp
  omega
theorem ruT_le {R : List (List TS)} {k : Nat} (hk : k ≤ R.length) : ruT R k ≤ ruT R R.length := by
  obtain ⟨d, hd⟩ : ∃ d, R.length = k + d := ⟨R.length - k, by omega⟩
  unfold ruT
  rw [List.take_length]
  have e : (R.map List.length).sum = ((R.take k).map List.length).sum + ((R.drop k).map List.length).sum := by
    rw [← List.sum_append, ← List.map_append, List.take_append_drop]
  omega
theorem mkR_append (k0 : Nat) (R S : List (List TS)) : mkR k0 (R ++ S) = mkR k0 R ++ mkR (k0 + 3 * (R.map List.length).sum) S := by
  induction R generalizing k0 with
  | nil => simp [mkR]
  | cons l R ih =>
    simp only [List.cons_append, mkR, ih, List.map_cons, List.sum_cons]
    rw [show k0 + 3 * l.length + 3 * (R.map List.length).sum = k0 + 3 * (l.length + (R.map List.length).sum) by omega]
theorem mkR_next {R : List (List TS)} {k k0 : Nat} {l : List TS} (h : R[k]? = some l) : mkR k0 (R.take (k + 1)) = mkR k0 (R.take k) ++ [mkTs (k0 + ruT R k) l.length] := by
  obtain ⟨hlt, he⟩ := List.getElem?_eq_some_iff.1 h
  rw [List.take_succ_eq_append_getElem hlt, he, mkR_append]
  rfl
theorem mkR_len (k0 : Nat) (R : List (List TS)) : (mkR k0 R).length = R.length := by
  induction R generalizing k0 with
  | nil => rfl
  | cons l R ih => simp [mkR, ih]
theorem mkR_at {R : List (List TS)} {k k0 : Nat} {l : List TS} (h : R[k]? = some l) : (mkR k0 R)[k]? = some (mkTs (k0 + ruT R k) l.length) := by
  have h1 := mkR_next (k0 := k0) h
  have h2 : mkR k0 R = mkR k0 (R.take (k + 1)) ++ mkR (k0 + 3 * ((R.take (k + 1)).map List.length).sum) (R.drop (k + 1)) := by rw [← mkR_append, List.take_append_drop]
  have hlt := (List.getElem?_eq_some_iff.1 h).1
  have h3 : (mkR k0 (R.take k)).length = k := by rw [mkR_len, List.length_take]; omega
  rw [h2, h1, List.append_assoc, List.getElem?_append_right (by omega), h3, Nat.sub_self]
  rfl

theorem flatTs_drop {l : List TS} {k : Nat} {x : TS} (h : l[k]? = some x) : flatTs (l.drop k) = .int .i64 x.1.1 :: .int .i64 x.1.2 :: .bool x.2 :: flatTs (l.drop (k + 1)) := by
  obtain ⟨hlt, he⟩ := List.getElem?_eq_some_iff.1 h
  rw [List.drop_eq_getElem_cons hlt, he, flatTs_cons]
theorem grown3u {a b d : World} {r : Option Nat} (h1 : a.grownBy b r) (h2 : b.grownBy d r) : a.grownBy d r :=
  ⟨h2.os.trans h1.os, h2.tape.trans h1.tape, h2.output.trans h1.output, Nat.le_trans h1.size h2.size, fun k hk hne => (h2.block k (Nat.lt_of_lt_of_le hk h1.size) hne).trans (h1.block k hk hne)⟩

theorem valsU_mid (q1 q2 : List XU) (p : XU) : valsU (q1 ++ p :: q2) = valsU q1 ++ p.2 :: valsU q2 := by simp [valsU]
/-- another rule of as many tests is stored -/
theorem OwnRu.setrow {w w' : World} {lo : Nat} {v : Value} {q1 q2 : List XU} {p : XU} {l : List TS} (h : OwnRu w lo v (q1 ++ p :: q2)) (hg : w.grownBy w' p.2.ownBlock) (ho : OwnTs w' lo p.2 l) : OwnRu w' lo v (q1 ++ (l, p.2) :: q2) := by
  have hp : p ∈ q1 ++ p :: q2 := List.mem_append_right _ (List.mem_cons_self ..)
  have hd := List.pairwise_append.1 h.dis
  have hd2 := List.pairwise_cons.1 hd.2.1
  refine ⟨?_, fun r hr => ?_, fun r hr k hk => ?_, ?_⟩
  · have h1 := row_keptO h.out hg (fun k hk => h.apart p hp k hk)
    rw [valsU_mid] at h1
    rw [valsU_mid]
    simpa using h1
  · rcases List.mem_append.1 hr with h1 | h1
    · exact row_keptO (h.row r (List.mem_append_left _ h1)) hg (fun k hk e => hd.2.2 r h1 p (List.mem_cons_self ..) k e hk)
    · rcases List.mem_cons.1 h1 with rfl | h1
      · exact ho
      · exact row_keptO (h.row r (List.mem_append_right _ (List.mem_cons_of_mem _ h1))) hg (fun k hk e => hd2.1 r h1 k hk e)
  · rcases List.mem_append.1 hr with h1 | h1
    · exact h.apart r (List.mem_append_left _ h1) k hk
    · rcases List.mem_cons.1 h1 with rfl | h1
      · exact h.apart p hp k hk
      · exact h.apart r (List.mem_append_right _ (List.mem_cons_of_mem _ h1)) k hk
  · have h1 : ((q1 ++ p :: q2).map Prod.snd).Pairwise fun u z => ∀ k, u.ownBlock = some k → z.ownBlock ≠ some k := by rw [List.pairwise_map]; exact h.dis
    have h2 : ((q1 ++ (l, p.2) :: q2).map Prod.snd).Pairwise fun u z => ∀ k, u.ownBlock = some k → z.ownBlock ≠ some k := by simpa using h1
    rw [List.pairwise_map] at h2
    exact h2
theorem xu_drop {q : List XU} {k : Nat} {p : XU} (h : q[k]? = some p) : q.drop k = p :: q.drop (k + 1) := by
  obtain ⟨hlt, he⟩ := List.getElem?_eq_some_iff.1 h
  rw [List.drop_eq_getElem_cons hlt, he]
theorem OwnHRu.setrow {w w' : World} {lo hi : Nat} {v : Value} {q1 q2 : List XU} {p : XU} {l : List TS} (h : OwnHRu w lo hi v (q1 ++ p :: q2)) (hg : w.grownBy w' p.2.ownBlock) (ho : OwnTs w' lo p.2 l) : OwnHRu w' lo hi v (q1 ++ (l, p.2) :: q2) :=
  ⟨h.1.setrow hg ho, h.2.1, fun r hr k hk => by
    rcases List.mem_append.1 hr with h1 | h1
    · exact h.2.2 r (List.mem_append_left _ h1) k hk
    · rcases List.mem_cons.1 h1 with rfl | h1
      · exact h.2.2 p (List.mem_append_right _ (List.mem_cons_self ..)) k hk
      · exact h.2.2 r (List.mem_append_right _ (List.mem_cons_of_mem _ h1)) k hk⟩

end Go.Proofs.YtpmfabpnjacegaaGreatDoor

