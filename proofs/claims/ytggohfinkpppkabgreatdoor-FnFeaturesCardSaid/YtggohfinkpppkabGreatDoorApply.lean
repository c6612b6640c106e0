/-
  What spec.ApplyScript and impl.ApplyScript answer, for every two strings. By an AI agent.
-/
import Derived.Test.YtggohfinkpppkabGreatDoorGPlain
import Derived.Test.YtggohfinkpppkabGreatDoorGMem
import Derived.BigQuiet
import Derived.Deep.QuietTactic
import Derived.Lib.Strings
namespace Go.Proofs.YtggohfinkpppkabGreatDoor
open Go.RowKit
set_option linter.unusedVariables false

/-- the answer of ApplyScript -/
def apR (r : Option (List UInt8)) : Ending := .returned (.tuple #[.string (strOf (r.getD [])), .bool r.isSome])

theorem ba_nil {s : ByteArray} (h : ¬ 0 < s.size) : s.data.toList = [] := List.eq_nil_of_length_eq_zero (by have : s.size = s.data.toList.length := by simp
                                                                                                            omega)
theorem ba_len (s : ByteArray) : s.data.toList.length = s.size := by simp
theorem ba_cons (s : ByteArray) (h : 0 < s.size) : s.data.toList = s[0] :: s.data.toList.drop 1 := by
  have hl : 0 < s.data.toList.length := by rw [ba_len]; exact h
  have h1 := List.drop_eq_getElem_cons hl
  rw [List.drop_zero] at h1
  exact h1
theorem ba_at (s : ByteArray) (k : Nat) (h : k < s.size) : s.data.toList.drop k = s[k] :: s.data.toList.drop (k + 1) := by
  have hl : k < s.data.toList.length := by rw [ba_len]; exact h
  exact List.drop_eq_getElem_cons hl
theorem ba_tail (s : ByteArray) (k : Nat) : (s.extract k s.size).data.toList = s.data.toList.drop k := by
  rw [Lib.extract_data]
  rw [List.take_of_length_le (by simp)]
theorem ba_byte {x : UInt8} {n : Nat} (h : x.toNat = n) (hn : n < 256) : x = UInt8.ofNat n := by
  apply UInt8.toNat_inj.1
  rw [h, UInt8.toNat_ofNat', Nat.mod_eq_of_lt hn]
theorem ba_not {x : UInt8} {n : Nat} (h : x.toNat ≠ n) (hn : n < 256) : x ≠ UInt8.ofNat n := fun e => h (by rw [e, UInt8.toNat_ofNat', Nat.mod_eq_of_lt hn])

theorem ba_of_nat (b : UInt8) : UInt8.ofNat (b.toNat : Int).toNat = b := by simp
theorem ba_esize (s : ByteArray) (k : Nat) : (s.extract k s.size).size = s.size - k := by simp
theorem ba_full {s : ByteArray} (h : 0 < s.size) : s.toList.isEmpty = false := by
  rw [ByteArray.toList_eq, ba_cons s h]
  rfl
theorem ba_none {s : ByteArray} (h : ¬ 0 < s.size) : s.toList.isEmpty = true := by
  rw [ByteArray.toList_eq, ba_nil h]
  rfl
theorem ba_one {s : ByteArray} (h : 0 < s.size) (h1 : ¬ 1 < s.size) : s.data.toList.drop 1 = [] := List.drop_eq_nil_of_le (by rw [ba_len]; omega)
theorem app_short {c : UInt8} (a : List UInt8) (h1 : c ≠ 61) (h2 : c ≠ 45) : app a [c] = none := by
  rw [app, if_neg h1, if_neg h2]
  simp
theorem app_empty {c : UInt8} (s : List UInt8) (h : c ≠ 43) : app [] (c :: s) = none := by
  rw [app]
  simp [h]

theorem below_n {base : Nat} {w w' : World} (h : Below base w w') (n : Nat) : Below base w (w'.drewN n) := ⟨h.os, h.tape, h.output, h.size, h.block⟩

/-- where a run of ApplyScript is: r is the answer, l is written, A and S are left -/
def ApAt (r : Option (List UInt8)) (l A S : List UInt8) : Prop := r = (app A S).map (l ++ ·)

theorem ApAt.start {r : Option (List UInt8)} {A S : List UInt8} (h : app A S = r) : ApAt r [] A S := by
  unfold ApAt
  rw [h]
  cases r <;> rfl
theorem ApAt.fin {r : Option (List UInt8)} {l : List UInt8} (h : ApAt r l [] []) : some l = r := by
  unfold ApAt at h
  rw [app_nil] at h
  simpa using h.symm
theorem ApAt.left {r : Option (List UInt8)} {l A : List UInt8} (h : ApAt r l A []) (hA : A ≠ []) : none = r := by
  unfold ApAt at h
  rw [app_nil, if_neg hA] at h
  exact h.symm
theorem ApAt.no {r : Option (List UInt8)} {l A S : List UInt8} (h : ApAt r l A S) (hn : app A S = none) : none = r := by
  unfold ApAt at h
  rw [hn] at h
  exact h.symm
theorem ApAt.keep {r : Option (List UInt8)} {l A S : List UInt8} {x : UInt8} (h : ApAt r l (x :: A) (61 :: S)) : ApAt r (l ++ [x]) A S := by
  unfold ApAt at h ⊢
  rw [h, app_keep]
  cases app A S <;> simp
theorem ApAt.rep {r : Option (List UInt8)} {l A S : List UInt8} {x y : UInt8} (h : ApAt r l (x :: A) (126 :: y :: S)) : ApAt r (l ++ [y]) A S := by
  unfold ApAt at h ⊢
  rw [h, app_rep]
  cases app A S <;> simp
theorem ApAt.del {r : Option (List UInt8)} {l A S : List UInt8} {x : UInt8} (h : ApAt r l (x :: A) (45 :: S)) : ApAt r l A S := by
  unfold ApAt at h ⊢
  rw [h, app_del]
theorem ApAt.ins {r : Option (List UInt8)} {l A S : List UInt8} {y : UInt8} (h : ApAt r l A (43 :: y :: S)) : ApAt r (l ++ [y]) A S := by
  unfold ApAt at h ⊢
  rw [h, app_ins]
  cases app A S <;> simp

theorem ext_one (s : ByteArray) (k : Nat) (h : k < s.size) : s.extract k (k + 1) = strOf [s[k]] := by
  apply ByteArray.ext
  apply Array.ext'
  show (s.extract k (k + 1)).data.toList = (strOf [s[k]]).data.toList
  rw [Lib.extract_data, ba_at s k h, show k + 1 - k = 1 by omega]
  rfl

end Go.Proofs.YtggohfinkpppkabGreatDoor
