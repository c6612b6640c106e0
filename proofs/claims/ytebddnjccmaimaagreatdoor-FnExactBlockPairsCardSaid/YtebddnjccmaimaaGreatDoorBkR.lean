/-
  The keys of a record for blocks, in plain lists. By an AI agent.
-/
import Derived.Test.YtebddnjccmaimaaGreatDoorFours
import Derived.Test.YtebddnjccmaimaaGreatDoorDigs
import Derived.Test.YtebddnjccmaimaaGreatDoorGNum
import Derived.Test.YtebddnjccmaimaaGreatDoorGRc
import Derived.Test.YtebddnjccmaimaaGreatDoorGPlain
import Derived.Lib.ItoaLen
namespace Go.Proofs.YtebddnjccmaimaaGreatDoor
open Go.RowKit
set_option linter.unusedVariables false

def sKeys (nm : Str) : List Str := (soundR nm).map fun t => 115 :: t
def pKeys (ph : Str) : List Str := if 4 ≤ (digL ph).length then [112 :: (digL ph).drop ((digL ph).length - 4)] else []
noncomputable def yKey (y : Int) (t : Str) : Str := 121 :: (Lib.itoa y ++ t.take 1)
noncomputable def yKeys (yr nm : Str) : List Str := if yrR yr = 0 then [] else (tokensR nm).map (yKey (yrR yr))
noncomputable def rawK (l : List Str) : List Str := sKeys (l.getD 0 []) ++ pKeys (l.getD 3 []) ++ yKeys (l.getD 2 []) (l.getD 0 [])
/-- the keys of a record -/
noncomputable def bkR (x : RC) : List Str := if recB x.1.1 x.1.2.1 x.1.2.2 x.2 = true then setL (rawK x.2) else []

theorem bk_no {s k v : Int} {l : List Str} (h : recB s k v l = false) : bkR ((s, k, v), l) = [] := by
  unfold bkR
  rw [if_neg (by rw [h]; decide)]
theorem bk_yes {s k v : Int} {l : List Str} (h : recB s k v l = true) : bkR ((s, k, v), l) = setL (rawK l) := by
  unfold bkR
  rw [if_pos h]
theorem toks_len40 {l : Str} (h : l.length ≤ 40) : (tokensR l).length ≤ 81 := by
  have h1 := setL_length (wordsL (normL l))
  have h2 := words_len (normL l)
  have h3 := norm_len l
  show (setL (wordsL (normL l))).length ≤ 81
  omega
theorem snd_len40 {l : Str} (h : l.length ≤ 40) : (soundR l).length ≤ 81 := by
  have h1 := setL_length (keysL (tokensR l))
  have h2 := keys_len (tokensR l)
  have h3 := toks_len40 h
  show (setL (keysL (tokensR l))).length ≤ 81
  omega
theorem pKeys_len (ph : Str) : (pKeys ph).length ≤ 1 := by unfold pKeys; split <;> simp
theorem yKeys_len {yr nm : Str} (h : nm.length ≤ 40) : (yKeys yr nm).length ≤ 81 := by
  unfold yKeys
  split
  · simp
  · rw [List.length_map]; exact toks_len40 h
theorem getD_short {s k v : Int} {l : List Str} (h : recB s k v l = true) (i : Nat) : (l.getD i []).length ≤ 40 := by
  obtain ⟨h4, hx⟩ := rec_list h
  rw [List.getD_eq_getElem?_getD]
  cases hi : l[i]? with
  | none => simp
  | some x => exact hx x (List.mem_of_getElem? hi)
theorem rawK_len {s k v : Int} {l : List Str} (h : recB s k v l = true) : (rawK l).length ≤ 163 := by
  unfold rawK
  rw [List.length_append, List.length_append]
  have h1 : (sKeys (l.getD 0 [])).length ≤ 81 := by unfold sKeys; rw [List.length_map]; exact snd_len40 (getD_short h 0)
  have h2 := pKeys_len (l.getD 3 [])
  have h3 := yKeys_len (yr := l.getD 2 []) (getD_short h 0)
  omega
theorem bk_len (x : RC) : (bkR x).length ≤ 163 := by
  obtain ⟨⟨s, k, v⟩, l⟩ := x
  cases h : recB s k v l
  · rw [bk_no h]; simp
  · rw [bk_yes h]
    have h1 := setL_length (rawK l)
    have h2 := rawK_len h
    omega
theorem bk_asc (x : RC) : Asc (bkR x) := by
  unfold bkR
  split
  · exact setL_asc _
  · exact List.Pairwise.nil
theorem yKey_len (y : Int) (t : Str) (h0 : 0 ≤ y) (h1 : y ≤ 9999) : (yKey y t).length ≤ 23 := by
  have h := Lib.itoa_length_le y (by omega) (by omega)
  have h2 : (t.take 1).length ≤ 1 := List.length_take_le _ _
  unfold yKey
  rw [List.length_cons, List.length_append]
  omega
theorem rawK_mem {s k v : Int} {l : List Str} (h : recB s k v l = true) {x : Str} (hx : x ∈ rawK l) : x.length ≤ 100 := by
  unfold rawK at hx
  rcases List.mem_append.1 hx with hx | hx
  · rcases List.mem_append.1 hx with hx | hx
    · obtain ⟨t, ht, rfl⟩ := List.mem_map.1 hx
      have h1 := (setL_mem (keysL (tokensR (l.getD 0 []))) t).1 ht
      obtain ⟨y, hy, rfl⟩ := List.mem_map.1 (List.mem_filter.1 h1).1
      have := sx_short y
      simp
      omega
    · unfold pKeys at hx
      split at hx
      · simp at hx
        subst hx
        simp
        omega
      · cases hx
  · unfold yKeys at hx
    split at hx
    · cases hx
    · obtain ⟨t, ht, rfl⟩ := List.mem_map.1 hx
      rcases yr_pos (l.getD 2 []) with h1 | h1
      · have := yKey_len (yrR (l.getD 2 [])) t (by omega) (by omega)
        omega
      · have := yKey_len (yrR (l.getD 2 [])) t (by omega) (yr_top _)
        omega
theorem bk_mem {x : RC} {y : Str} (hy : y ∈ bkR x) : y.length ≤ 100 := by
  obtain ⟨⟨s, k, v⟩, l⟩ := x
  cases h : recB s k v l
  · rw [bk_no h] at hy; cases hy
  · rw [bk_yes h, setL_mem] at hy
    exact rawK_mem h hy
theorem tok_full (t : Str) : ∀ x ∈ tokensR t, x ≠ [] := fun x hx => (words_bytes _ x ((setL_mem (wordsL (normL t)) x).1 hx)).1

/-! ### bytes -/
theorem cons_list (b : UInt8) (u : ByteArray) : ((⟨#[b]⟩ : ByteArray) ++ u).data.toList = b :: u.data.toList := by simp
theorem cons_size (b : UInt8) (u : ByteArray) : ((⟨#[b]⟩ : ByteArray) ++ u).size = u.size + 1 := by
  rw [ByteArray.size_append]
  have : (⟨#[b]⟩ : ByteArray).size = 1 := rfl
  omega
theorem ext_list' (s : ByteArray) (k : Nat) : (s.extract 0 k).data.toList = s.data.toList.take k := by
  rw [Lib.extract_data]
  simp
theorem ext_tail' (s : ByteArray) (k : Nat) : (s.extract k s.size).data.toList = s.data.toList.drop k := by
  rw [Lib.extract_data]
  have h : (s.data.toList.drop k).length = s.size - k := by simp
  rw [← h, List.take_length]
theorem yKey_is {y : Int} {T u : ByteArray} {t : Str} (hT : strOf (Lib.itoa y) = T) (hu : u.data.toList = t) : ((⟨#[121]⟩ : ByteArray) ++ T ++ u.extract 0 1).data.toList = yKey y t := by
  rw [← hT]
  have e := ext_list' u 1
  have e2 : ((⟨#[121]⟩ : ByteArray) ++ strOf (Lib.itoa y) ++ u.extract 0 1).data.toList = ((⟨#[121]⟩ : ByteArray) ++ strOf (Lib.itoa y)).data.toList ++ (u.extract 0 1).data.toList := by simp
  rw [e2, e, cons_list, hu]
  unfold yKey strOf
  simp

/-- what is read of the record -/
def FixR (w : World) (g ba oa c : Nat) (A0 A2 A3 : ByteArray) : Prop :=
  w.cell? ⟨g, 3, none⟩ = some (.slice (some ⟨ba, oa, none⟩) 4 c) ∧ w.cell? ⟨ba, oa, none⟩ = some (.string A0) ∧ w.cell? ⟨ba, oa + 2, none⟩ = some (.string A2) ∧ w.cell? ⟨ba, oa + 3, none⟩ = some (.string A3)
theorem FixR.below {w w' : World} {g ba oa c : Nat} {A0 A2 A3 : ByteArray} (h : FixR w g ba oa c A0 A2 A3) (hb : Below w.heap.size w w') : FixR w' g ba oa c A0 A2 A3 := by
  have k : ∀ {p : Addr} {v : Value}, w.cell? p = some v → w'.cell? p = some v := fun {p v} hc => (hb.cell (World.block_lt_of_cell? w _ hc)).trans hc
  exact ⟨k h.1, k h.2.1, k h.2.2.1, k h.2.2.2⟩

end Go.Proofs.YtebddnjccmaimaaGreatDoor
