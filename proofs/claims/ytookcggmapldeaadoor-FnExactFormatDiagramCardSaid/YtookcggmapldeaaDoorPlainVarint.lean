/-
  The bytes of a varint: plain facts without the program. By an AI agent.
-/
import Derived.WalkKit
import Derived.Laws.BitsLemmas
namespace Go.Proofs.YtookcggmapldeaaDoor

/-- the bytes of n, seven bits each, the lowest first -/
def vint (n : Nat) : List UInt8 := if n < 128 then [UInt8.ofNat n] else UInt8.ofNat (128 + n % 128) :: vint (n / 128)
termination_by n
decreasing_by omega

theorem vint_small (n : Nat) (h : n < 128) : vint n = [UInt8.ofNat n] := by rw [vint, if_pos h]
theorem vint_large (n : Nat) (h : ¬ n < 128) : vint n = UInt8.ofNat (128 + n % 128) :: vint (n / 128) := by rw [vint, if_neg h]

theorem vint_length (n : Nat) : (vint n).length ≤ n / 128 + 1 := by
  induction n using Nat.strongRecOn with
  | ind n ih =>
    by_cases h : n < 128
    · rw [vint_small n h]; simp
    · rw [vint_large n h]
      have := ih (n / 128) (by omega)
      simp only [List.length_cons]
      omega

theorem vint_length_pos (n : Nat) : 0 < (vint n).length := by
  by_cases h : n < 128
  · rw [vint_small n h]; simp
  · rw [vint_large n h]; simp

/-- what seven bits of each byte spell, the lowest first -/
def leN : List UInt8 → Nat
  | [] => 0
  | b :: l => b.toNat % 128 + 128 * leN l

theorem leN_lt (l : List UInt8) : leN l < 128 ^ l.length := by
  induction l with
  | nil => simp [leN]
  | cons b l ih =>
    simp only [leN, List.length_cons, Nat.pow_succ]
    have : b.toNat % 128 < 128 := Nat.mod_lt _ (by omega)
    omega

theorem leN_small (l : List UInt8) (h : l.length ≤ 7) : leN l ≤ 562949953421311 := by
  have h1 := leN_lt l
  have h2 : 128 ^ l.length ≤ 128 ^ 7 := Nat.pow_le_pow_right (by omega) h
  have h3 : (128 : Nat) ^ 7 = 562949953421312 := by decide
  omega

theorem leN_small6 (l : List UInt8) (h : l.length ≤ 6) : leN l < 4398046511104 := by
  have h1 := leN_lt l
  have h2 : 128 ^ l.length ≤ 128 ^ 6 := Nat.pow_le_pow_right (by omega) h
  have h3 : (128 : Nat) ^ 6 = 4398046511104 := by decide
  omega

theorem leN_snoc (l : List UInt8) (b : UInt8) : leN (l ++ [b]) = leN l + 128 ^ l.length * (b.toNat % 128) := by
  induction l with
  | nil => simp [leN]
  | cons c l ih =>
    simp only [List.cons_append, leN, ih, List.length_cons, Nat.pow_succ]
    rw [Nat.mul_add, Nat.mul_comm (128 ^ l.length) 128, Nat.mul_assoc, Nat.add_assoc]

/-- the last byte of a varint is below 128, all others are not -/
theorem vint_form (n : Nat) : ∃ pre last, vint n = pre ++ [last] ∧ last.toNat < 128 ∧ ∀ b ∈ pre, 128 ≤ b.toNat := by
  induction n using Nat.strongRecOn with
  | ind n ih =>
    by_cases h : n < 128
    · refine ⟨[], UInt8.ofNat n, by rw [vint_small n h]; rfl, ?_, by simp⟩
      rw [UInt8.toNat_ofNat']
      omega
    · obtain ⟨pre, last, h1, h2, h3⟩ := ih (n / 128) (by omega)
      refine ⟨UInt8.ofNat (128 + n % 128) :: pre, last, by rw [vint_large n h, h1]; rfl, h2, ?_⟩
      intro b hb
      rcases List.mem_cons.1 hb with rfl | hb
      · rw [UInt8.toNat_ofNat']
        omega
      · exact h3 b hb

/-- a prefix of l that is a varint ends at the first byte below 128 -/
theorem vint_take {l : List UInt8} {n k : Nat} (hk : k ≤ l.length) (h : vint n = l.take k) :
    0 < k ∧ (∃ b, l[k - 1]? = some b ∧ b.toNat < 128) ∧ ∀ j b, j < k - 1 → l[j]? = some b → 128 ≤ b.toNat := by
  obtain ⟨pre, last, h1, h2, h3⟩ := vint_form n
  have hlen : pre.length + 1 = k := by
    have e := congrArg List.length (h1.symm.trans h)
    rw [List.length_append, List.length_take, List.length_singleton] at e
    omega
  have e : l.take k = pre ++ [last] := by rw [← h, h1]
  have get : ∀ j, j < k → l[j]? = (pre ++ [last])[j]? := by
    intro j hj
    rw [← e, List.getElem?_take_of_lt hj]
  refine ⟨by omega, ⟨last, ?_, h2⟩, ?_⟩
  · rw [get _ (by omega), show k - 1 = pre.length by omega]
    simp
  · intro j b hj hb
    rw [get j (by omega), List.getElem?_append_left (by omega)] at hb
    exact h3 b (List.mem_of_getElem? hb)

/-- what DecodeVarint answers at l: the number n and the length k -/
def DvOk (l : List UInt8) (n k : Nat) : Prop :=
  (1 ≤ k ∧ k ≤ 7 ∧ k ≤ l.length ∧ n = leN (l.take k) ∧ vint n = l.take k) ∨
  (k = 0 ∧ n = 0 ∧ ∀ j, 1 ≤ j → j ≤ 7 → j ≤ l.length → vint (leN (l.take j)) ≠ l.take j)

theorem DvOk.same {l : List UInt8} {n k n' k' : Nat} (h : DvOk l n k) (h' : DvOk l n' k') : n = n' ∧ k = k' := by
  rcases h with ⟨a1, a2, a3, a4, a5⟩ | ⟨a1, a2, a3⟩ <;> rcases h' with ⟨b1, b2, b3, b4, b5⟩ | ⟨b1, b2, b3⟩
  · obtain ⟨_, ⟨x, hx, hx1⟩, hx2⟩ := vint_take a3 a5
    obtain ⟨_, ⟨y, hy, hy1⟩, hy2⟩ := vint_take b3 b5
    have hkk : k = k' := by
      rcases Nat.lt_trichotomy k k' with hlt | heq | hgt
      · have := hy2 (k - 1) x (by omega) hx; omega
      · exact heq
      · have := hx2 (k' - 1) y (by omega) hy; omega
    subst hkk
    exact ⟨by rw [a4, b4], rfl⟩
  · exact absurd (a4 ▸ a5) (b3 k a1 a2 a3)
  · exact absurd (b4 ▸ b5) (a3 k' b1 b2 b3)
  · omega

/-- what varintLength answers at l: the place behind the first byte below 128 among the first seven, or 0 -/
def IsVlen (l : List UInt8) (k : Nat) : Prop :=
  (k = 0 ∧ ∀ j b, j < 7 → l[j]? = some b → 128 ≤ b.toNat) ∨
  (1 ≤ k ∧ k ≤ 7 ∧ k ≤ l.length ∧ (∃ b, l[k - 1]? = some b ∧ b.toNat < 128) ∧ ∀ j b, j < k - 1 → l[j]? = some b → 128 ≤ b.toNat)

theorem IsVlen.le {l : List UInt8} {k : Nat} (h : IsVlen l k) : k ≤ 7 ∧ k ≤ l.length := by
  rcases h with ⟨h, _⟩ | ⟨_, h1, h2, _⟩ <;> omega

theorem vlen_yes {l : List UInt8} {k : Nat} (h : IsVlen l k) (e : vint (leN (l.take k)) = l.take k) : DvOk l (leN (l.take k)) k := by
  rcases h with ⟨rfl, _⟩ | ⟨h1, h2, h3, _⟩
  · have := vint_length_pos (leN (l.take 0))
    rw [e] at this
    simp at this
  · exact .inl ⟨h1, h2, h3, rfl, e⟩

theorem vlen_no {l : List UInt8} {k : Nat} (h : IsVlen l k) (e : vint (leN (l.take k)) ≠ l.take k) : DvOk l 0 0 := by
  refine .inr ⟨rfl, rfl, fun j j1 j2 j3 hj => ?_⟩
  obtain ⟨_, ⟨x, hx, hx1⟩, hx2⟩ := vint_take j3 hj
  rcases h with ⟨rfl, h0⟩ | ⟨h1, h2, h3, ⟨y, hy, hy1⟩, hy2⟩
  · have := h0 (j - 1) x (by omega) hx; omega
  · have hjk : j = k := by
      rcases Nat.lt_trichotomy j k with hlt | heq | hgt
      · have := hy2 (j - 1) x (by omega) hx; omega
      · exact heq
      · have := hx2 (k - 1) y (by omega) hy; omega
    subst hjk
    exact e hj

end Go.Proofs.YtookcggmapldeaaDoor
