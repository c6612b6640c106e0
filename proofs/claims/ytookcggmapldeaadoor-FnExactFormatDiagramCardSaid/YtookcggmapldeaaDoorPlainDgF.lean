/-
  The format of a diagram in plain lists. By an AI agent.
-/
import Derived.Test.YtookcggmapldeaaDoorPlainDg
import Derived.Test.YtookcggmapldeaaDoorFeatN
import Derived.Test.YtookcggmapldeaaDoorEncVar
import Derived.Lib.ItoaLen
namespace Go.Proofs.YtookcggmapldeaaDoor
open Go.RowKit
set_option linter.unusedVariables false
set_option linter.unusedSimpArgs false
set_option linter.unnecessarySimpa false

def vrL (v : Int × Int) : List UInt8 := (fnL v.1 ++ [62, 61]) ++ Lib.itoa v.2
def ndL (x : DN) : List UInt8 := (((vrL x.1 ++ [32]) ++ Lib.itoa x.2.2) ++ [32]) ++ Lib.itoa x.2.1
def dgT (y : Int) (D : List DN) : Nat → List UInt8
  | 0 => [114, 111, 111, 116, 32] ++ Lib.itoa y
  | k + 1 => dgT y D k ++ ((([59, 32] ++ Lib.itoa ((k : Int) + 2)) ++ [58, 32]) ++ ((D[k]?).map ndL).getD [])
def dgR (y : Int) (D : List DN) : ByteArray := if dgB y D then strOf (dgT y D D.length) else ⟨#[]⟩
theorem itoa21 {x : Int} (h : -1000000 ≤ x) (h2 : x ≤ 1000000) : (Lib.itoa x).length ≤ 21 := Lib.itoa_length_le x (by omega) (by omega)
theorem fnl6 (n : Int) : (fnL n).length ≤ 6 := by
  unfold fnL
  repeat' split
  all_goals decide
theorem dgT_len {y : Int} {D : List DN} (hy : 0 ≤ y ∧ y ≤ 1000000) (hD : ∀ x ∈ D, (-1000000 ≤ x.1.2 ∧ x.1.2 ≤ 1000000) ∧ (-1000000 ≤ x.2.1 ∧ x.2.1 ≤ 1000000) ∧ (-1000000 ≤ x.2.2 ∧ x.2.2 ≤ 1000000)) : ∀ k, k ≤ 1000 → (dgT y D k).length ≤ 26 + 100 * k
  | 0, _ => by
    have := itoa21 (x := y) (by omega) (by omega)
    simp only [dgT, List.length_append, List.length_cons, List.length_nil]
    omega
  | k + 1, hk => by
    have h1 := dgT_len hy hD k (by omega)
    have h2 := itoa21 (x := (k : Int) + 2) (by omega) (by omega)
    have h3 : (((D[k]?).map ndL).getD []).length ≤ 73 := by
      cases hx : D[k]? with
      | none => simp
      | some x =>
        obtain ⟨a1, a2, a3⟩ := hD x (List.mem_of_getElem? hx)
        have b1 := itoa21 a1.1 a1.2
        have b2 := itoa21 a2.1 a2.2
        have b3 := itoa21 a3.1 a3.2
        have b4 := fnl6 x.1.1
        simp only [Option.map_some, Option.getD_some, ndL, vrL, List.length_append, List.length_cons, List.length_nil]
        omega
    simp only [dgT, List.length_append, List.length_cons, List.length_nil]
    omega
theorem dg_small {y : Int} {D : List DN} (h : dgB y D = true) : (0 ≤ y ∧ y ≤ 1000000) ∧ ∀ x ∈ D, (0 ≤ x.1.1 ∧ x.1.1 ≤ 5) ∧ (-1000000 ≤ x.1.2 ∧ x.1.2 ≤ 1000000) ∧ (-1000000 ≤ x.2.1 ∧ x.2.1 ≤ 1000000) ∧ (-1000000 ≤ x.2.2 ∧ x.2.2 ≤ 1000000) := by
  have h1 := dg_nodes h
  refine ⟨by omega, fun x hx => ?_⟩
  obtain ⟨k, hk⟩ := List.getElem?_of_mem hx
  have h2 := num_of (dv_of (nodes_iff.1 h1.2.2 k x hk)).1
  have h3 : (D.take k).length ≤ 200 := by rw [List.length_take]; omega
  refine ⟨h2.1, ?_, ?_, ?_⟩
  · omega
  · omega
  · omega
theorem dgT_size {y : Int} {D : List DN} (h : dgB y D = true) (k : Nat) (hk : k ≤ D.length) : (strOf (dgT y D k)).size ≤ 20026 := by
  have h1 := dg_small h
  have h2 := (dg_nodes h).1
  have h3 := dgT_len h1.1 (fun x hx => (h1.2 x hx).2) k (by omega)
  rw [strOf_size]
  omega
theorem dgR_no {y : Int} {D : List DN} (h : dgB y D = false) : dgR y D = ⟨#[]⟩ := by unfold dgR; rw [h]; rfl
theorem dgR_yes {y : Int} {D : List DN} (h : dgB y D = true) : dgR y D = strOf (dgT y D D.length) := by unfold dgR; rw [h]; rfl
theorem vr_str {f t : Int} {N T : ByteArray} (hN : fnR f = N) (hT : strOf (Lib.itoa t) = T) : (N ++ ⟨#[62, 61]⟩) ++ T = strOf (vrL (f, t)) := by
  subst hN hT
  show (strOf (fnL f) ++ strOf [62, 61]) ++ strOf _ = _
  rw [strOf_append, strOf_append]
  rfl
theorem nd_str {x : DN} {V H L : ByteArray} (hV : strOf (vrL x.1) = V) (hH : strOf (Lib.itoa x.2.2) = H) (hL : strOf (Lib.itoa x.2.1) = L) : (((V ++ ⟨#[32]⟩) ++ H) ++ ⟨#[32]⟩) ++ L = strOf (ndL x) := by
  subst hV hH hL
  show (((strOf _ ++ strOf [32]) ++ strOf _) ++ strOf [32]) ++ strOf _ = _
  rw [strOf_append, strOf_append, strOf_append, strOf_append]
  rfl
theorem dgT_first {y : Int} {D : List DN} {Y : ByteArray} (hY : strOf (Lib.itoa y) = Y) : (⟨#[114, 111, 111, 116, 32]⟩ : ByteArray) ++ Y = strOf (dgT y D 0) := by
  subst hY
  show strOf [114, 111, 111, 116, 32] ++ strOf _ = _
  rw [strOf_append]
  rfl
/-- what is written for a node -/
theorem dgT_part {y : Int} {D : List DN} {k : Nat} {x : DN} (hx : D[k]? = some x) : dgT y D (k + 1) = dgT y D k ++ ((([59, 32] ++ Lib.itoa ((k : Int) + 2)) ++ [58, 32]) ++ ndL x) := by rw [dgT, hx]; rfl
theorem part_str {k : Nat} {x : DN} {I P : ByteArray} (hI : strOf (Lib.itoa ((k : Int) + 2)) = I) (hP : strOf (ndL x) = P) : ((⟨#[59, 32]⟩ ++ I) ++ ⟨#[58, 32]⟩) ++ P = strOf ((([59, 32] ++ Lib.itoa ((k : Int) + 2)) ++ [58, 32]) ++ ndL x) := by
  subst hI hP
  show ((strOf [59, 32] ++ strOf _) ++ strOf [58, 32]) ++ strOf _ = _
  rw [strOf_append, strOf_append, strOf_append]
theorem dgT_next {y : Int} {D : List DN} {k : Nat} {x : DN} {S I N T H L : ByteArray} (hx : D[k]? = some x) (hS : strOf (dgT y D k) = S) (hI : strOf (Lib.itoa ((k : Int) + 2)) = I) (hN : fnR x.1.1 = N) (hT : strOf (Lib.itoa x.1.2) = T) (hH : strOf (Lib.itoa x.2.2) = H) (hL : strOf (Lib.itoa x.2.1) = L) :
    (((((((((S ++ ⟨#[59, 32]⟩) ++ I) ++ ⟨#[58, 32]⟩) ++ N) ++ ⟨#[62, 61]⟩) ++ T) ++ ⟨#[32]⟩) ++ H) ++ ⟨#[32]⟩) ++ L = strOf (dgT y D (k + 1)) := by
  have h1 := nd_str (x := x) (V := (N ++ ⟨#[62, 61]⟩) ++ T) (vr_str hN hT).symm hH hL
  have h2 := part_str (k := k) (x := x) hI h1.symm
  rw [dgT_part hx, ← strOf_append, hS, ← h2]
  simp only [ByteArray.append_assoc]

end Go.Proofs.YtookcggmapldeaaDoor
