/-
  Hexadecimal digits: plain facts without the program. By an AI agent.
-/
import Derived.WalkKit
namespace Go.Proofs.YtfplkkmfcojmaaaDoor
set_option linter.unusedVariables false

/-- the k-th hexadecimal digit -/
def digN (k : Nat) : Nat := if k < 10 then 48 + k else 87 + k

/-- the value of a digit, or -1 -/
def hv (x : Int) : Int := if 48 ≤ x ∧ x ≤ 57 then x - 48 else if 97 ≤ x ∧ x ≤ 102 then x - 87 else -1

theorem hv_dig (k : Nat) (h : k < 16) : hv (digN k) = k := by
  unfold hv digN
  by_cases h1 : k < 10
  · rw [if_pos h1, if_pos (by omega)]; omega
  · rw [if_neg h1, if_neg (by omega), if_pos (by omega)]; omega

theorem hv_none (x : Int) (h : ∀ j : Nat, j < 16 → (digN j : Int) ≠ x) : hv x = -1 := by
  unfold hv
  by_cases h1 : 48 ≤ x ∧ x ≤ 57
  · exfalso
    have := h (x - 48).toNat (by omega)
    unfold digN at this
    rw [if_pos (by omega)] at this
    omega
  · rw [if_neg h1]
    by_cases h2 : 97 ≤ x ∧ x ≤ 102
    · exfalso
      have := h (x - 87).toNat (by omega)
      unfold digN at this
      rw [if_neg (by omega)] at this
      omega
    · rw [if_neg h2]

theorem hv_range (x : Int) : -1 ≤ hv x ∧ hv x ≤ 15 := by
  unfold hv
  by_cases h1 : 48 ≤ x ∧ x ≤ 57
  · rw [if_pos h1]; omega
  · rw [if_neg h1]
    by_cases h2 : 97 ≤ x ∧ x ≤ 102
    · rw [if_pos h2]; omega
    · rw [if_neg h2]; omega

theorem hv_high (x : Int) (h : 128 ≤ x) : hv x = -1 := by
  unfold hv
  rw [if_neg (by omega), if_neg (by omega)]

/-- the two digits of each byte -/
def hexL : List UInt8 → List UInt8
  | [] => []
  | b :: l => UInt8.ofNat (digN (b.toNat / 16)) :: UInt8.ofNat (digN (b.toNat % 16)) :: hexL l

theorem hexL_append (l r : List UInt8) : hexL (l ++ r) = hexL l ++ hexL r := by
  induction l with
  | nil => rfl
  | cons b l ih => simp [hexL, ih]

theorem hexL_length (l : List UInt8) : (hexL l).length = 2 * l.length := by
  induction l with
  | nil => rfl
  | cons b l ih => simp [hexL, ih]; omega

theorem digN_lt (k : Nat) (h : k < 16) : digN k < 128 := by unfold digN; by_cases h1 : k < 10 <;> simp [h1] <;> omega

theorem hexDs_at (k : Nat) (h : k < 16) (h' : k < (⟨#[48, 49, 50, 51, 52, 53, 54, 55, 56, 57, 97, 98, 99, 100, 101, 102]⟩ : ByteArray).size) :
    ((⟨#[48, 49, 50, 51, 52, 53, 54, 55, 56, 57, 97, 98, 99, 100, 101, 102]⟩ : ByteArray)[k]'h').toNat = digN k := by
  have e : ∀ j : Fin 16, ((⟨#[48, 49, 50, 51, 52, 53, 54, 55, 56, 57, 97, 98, 99, 100, 101, 102]⟩ : ByteArray)[j.val]'(j.isLt)).toNat = digN j.val := by decide
  exact e ⟨k, h⟩

/-- the bytes that pairs of digits spell, or none -/
def unhex : List UInt8 → Option (List UInt8)
  | [] => some []
  | [_] => none
  | a :: b :: r => if hv a.toNat < 0 ∨ hv b.toNat < 0 then none else (unhex r).map (UInt8.ofNat (16 * hv a.toNat + hv b.toNat).toNat :: ·)

def dhL (l : List UInt8) : List UInt8 := (unhex l).getD []
def dhB (l : List UInt8) : Bool := (unhex l).isSome

theorem dh_none {l : List UInt8} (h : unhex l = none) : dhL l = [] ∧ dhB l = false := by simp [dhL, dhB, h]
theorem dh_some {l r : List UInt8} (h : unhex l = some r) : dhL l = r ∧ dhB l = true := by simp [dhL, dhB, h]

theorem unhex_odd : ∀ (n : Nat) (l : List UInt8), l.length = 2 * n + 1 → unhex l = none := by
  intro n
  induction n with
  | zero =>
    intro l h
    match l, h with
    | [_], _ => rfl
  | succ n ih =>
    intro l h
    match l, h with
    | a :: b :: r, h =>
      have := ih r (by simp at h; omega)
      simp only [unhex, this]
      split <;> rfl

theorem unhex_pair {l : List UInt8} {i : Nat} {a b : UInt8} {l' : List UInt8} (hi : l.drop i = a :: b :: l.drop (i + 2)) (ha : 0 ≤ hv a.toNat) (hb : 0 ≤ hv b.toNat)
    (h : unhex l = (unhex (l.drop i)).map (l' ++ ·)) : unhex l = (unhex (l.drop (i + 2))).map ((l' ++ [UInt8.ofNat (16 * hv a.toNat + hv b.toNat).toNat]) ++ ·) := by
  rw [h, hi, unhex, if_neg (by omega), Option.map_map]
  congr 1
  funext x
  simp

theorem unhex_bad {l : List UInt8} {i : Nat} {a b : UInt8} {r l' : List UInt8} (hi : l.drop i = a :: b :: r) (hab : hv a.toNat < 0 ∨ hv b.toNat < 0)
    (h : unhex l = (unhex (l.drop i)).map (l' ++ ·)) : unhex l = none := by
  rw [h, hi, unhex, if_pos hab]
  rfl

/-- what the bytes L hold when the first i digits of l have been read -/
def DhInv (l : List UInt8) (m i : Nat) (L : List UInt8) : Prop :=
  ∃ l' : List UInt8, l'.length = i / 2 ∧ unhex l = (unhex (l.drop (2 * (i / 2)))).map (l' ++ ·) ∧
    ((i % 2 = 0 ∧ L = l' ++ List.replicate (m - i / 2) 0) ∨
     (i % 2 = 1 ∧ ∃ a, l[i - 1]? = some a ∧ 0 ≤ hv a.toNat ∧ L = l' ++ UInt8.ofNat (hv a.toNat).toNat :: List.replicate (m - i / 2 - 1) 0))

theorem DhInv.start (l : List UInt8) (m : Nat) : DhInv l m 0 (List.replicate m 0) := by
  refine ⟨[], rfl, ?_, .inl ⟨rfl, by simp⟩⟩
  cases h : unhex l <;> simp [h]

theorem drop_two {l : List UInt8} {i : Nat} {a b : UInt8} (ha : l[i]? = some a) (hb : l[i + 1]? = some b) : l.drop i = a :: b :: l.drop (i + 2) := by
  obtain ⟨h1, e1⟩ := List.getElem?_eq_some_iff.1 ha
  obtain ⟨h2, e2⟩ := List.getElem?_eq_some_iff.1 hb
  rw [List.drop_eq_getElem_cons h1, List.drop_eq_getElem_cons h2, e1, e2]

theorem replicate_cons {n : Nat} {x : UInt8} (h : 0 < n) : List.replicate n x = x :: List.replicate (n - 1) x := by
  obtain ⟨k, rfl⟩ : ∃ k, n = k + 1 := ⟨n - 1, by omega⟩
  rfl

/-- the byte that the digit number i goes into: what it holds, and what becomes of it -/
theorem DhInv.step {l : List UInt8} {m i : Nat} {L : List UInt8} {a : UInt8} (h : DhInv l m i L) (hl : l.length = 2 * m) (hi : i < 2 * m) (ha : l[i]? = some a) (hv0 : 0 ≤ hv a.toNat) :
    ∃ c : UInt8, L[i / 2]? = some c ∧ c.toNat ≤ 15 ∧ DhInv l m (i + 1) (L.set (i / 2) (UInt8.ofNat (16 * (c.toNat : Int) + hv a.toNat).toNat)) := by
  have hr := hv_range a.toNat
  obtain ⟨l', h1, h2, ⟨h3, rfl⟩ | ⟨h3, b, hb, hb0, rfl⟩⟩ := h
  · refine ⟨0, ?_, by decide, l', by omega, ?_, .inr ⟨by omega, a, by simpa using ha, hv0, ?_⟩⟩
    · rw [replicate_cons (by omega), List.getElem?_append_right (by omega), h1, Nat.sub_self]; rfl
    · rw [show (i + 1) / 2 = i / 2 by omega]; exact h2
    · rw [show (i + 1) / 2 = i / 2 by omega, ← h1, List.set_append_right _ _ (Nat.le_refl _), Nat.sub_self, replicate_cons (by omega), List.set_cons_zero]
      simp
  · have hrb := hv_range b.toNat
    refine ⟨UInt8.ofNat (hv b.toNat).toNat, ?_, ?_, l' ++ [UInt8.ofNat (16 * hv b.toNat + hv a.toNat).toNat], by simp; omega, ?_, .inl ⟨by omega, ?_⟩⟩
    · rw [List.getElem?_append_right (by omega), h1, Nat.sub_self]; rfl
    · rw [UInt8.toNat_ofNat']; omega
    · have e : l.drop (2 * (i / 2)) = b :: a :: l.drop (2 * (i / 2) + 2) :=
        drop_two (by rw [← hb]; congr 1; omega) (by rw [← ha]; congr 1; omega)
      rw [show 2 * ((i + 1) / 2) = 2 * (i / 2) + 2 by omega]
      exact unhex_pair e hb0 hv0 h2
    · have e2 : (16 * ((UInt8.ofNat (hv b.toNat).toNat).toNat : Int) + hv a.toNat).toNat = (16 * hv b.toNat + hv a.toNat).toNat := by
        rw [UInt8.toNat_ofNat']; omega
      rw [e2, ← h1, List.set_append_right _ _ (Nat.le_refl _), Nat.sub_self, List.set_cons_zero, List.append_assoc]
      simp only [List.cons_append, List.nil_append]
      rw [show m - (i + 1) / 2 = m - l'.length - 1 by omega]

theorem DhInv.bad {l : List UInt8} {m i : Nat} {L : List UInt8} {a : UInt8} (h : DhInv l m i L) (hl : l.length = 2 * m) (hi : i < 2 * m) (ha : l[i]? = some a) (hv0 : hv a.toNat < 0) : unhex l = none := by
  obtain ⟨l', h1, h2, ⟨h3, rfl⟩ | ⟨h3, b, hb, hb0, rfl⟩⟩ := h
  · obtain ⟨b, hb⟩ : ∃ b, l[i + 1]? = some b := ⟨l[i + 1]'(by omega), List.getElem?_eq_getElem (by omega)⟩
    have e : l.drop (2 * (i / 2)) = a :: b :: l.drop (2 * (i / 2) + 2) :=
      drop_two (by rw [← ha]; congr 1; omega) (by rw [← hb]; congr 1; omega)
    exact unhex_bad e (.inl hv0) h2
  · have e : l.drop (2 * (i / 2)) = b :: a :: l.drop (2 * (i / 2) + 2) :=
      drop_two (by rw [← hb]; congr 1; omega) (by rw [← ha]; congr 1; omega)
    exact unhex_bad e (.inr hv0) h2

theorem DhInv.done {l : List UInt8} {m : Nat} {L : List UInt8} (h : DhInv l m (2 * m) L) (hl : l.length = 2 * m) : unhex l = some L := by
  obtain ⟨l', h1, h2, ⟨h3, rfl⟩ | ⟨h3, _⟩⟩ := h
  · rw [h2, List.drop_eq_nil_of_le (by omega), show m - 2 * m / 2 = 0 by omega]
    simp [unhex]
  · omega

theorem DhInv.length {l : List UInt8} {m i : Nat} {L : List UInt8} (h : DhInv l m i L) (hi : i ≤ 2 * m) : L.length = m := by
  obtain ⟨l', h1, h2, ⟨h3, rfl⟩ | ⟨h3, b, hb, hb0, rfl⟩⟩ := h
  · simp; omega
  · simp; omega

end Go.Proofs.YtfplkkmfcojmaaaDoor
