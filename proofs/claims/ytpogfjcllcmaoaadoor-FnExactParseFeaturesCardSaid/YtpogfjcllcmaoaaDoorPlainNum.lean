/-
  Plain facts on byte strings and numbers, without the program: the big-endian value of a list of bytes. By an AI agent.
-/
import Derived.WalkKit
import Derived.Laws.BitsLemmas
import Derived.Lib.EndianBits
namespace Go.Proofs.YtpogfjcllcmaoaaDoor

/-- the big-endian value of a list of bytes -/
def beN (l : List UInt8) : Nat := l.foldl (fun n b => n * 256 + b.toNat) 0

theorem beN_snoc (l : List UInt8) (b : UInt8) : beN (l ++ [b]) = beN l * 256 + b.toNat := by
  simp [beN]

theorem beN_from (l : List UInt8) : ∀ a : Nat, l.foldl (fun n b => n * 256 + b.toNat) a < (a + 1) * 256 ^ l.length := by
  induction l with
  | nil => intro a; simp
  | cons b l ih =>
    intro a
    have h := ih (a * 256 + b.toNat)
    have hb := b.toNat_lt
    rw [List.foldl_cons, List.length_cons, Nat.pow_succ]
    have h2 : (a * 256 + b.toNat + 1) * 256 ^ l.length ≤ ((a + 1) * 256) * 256 ^ l.length := Nat.mul_le_mul_right _ (by omega)
    have h3 : (a + 1) * (256 ^ l.length * 256) = ((a + 1) * 256) * 256 ^ l.length := by rw [Nat.mul_comm (256 ^ l.length), ← Nat.mul_assoc]
    omega

theorem beN_lt (l : List UInt8) : beN l < 256 ^ l.length := by
  have h := beN_from l 0
  simpa [beN] using h

theorem take_snoc (s : ByteArray) (k : Nat) (h : k < s.size) : s.data.toList.take (k + 1) = s.data.toList.take k ++ [s[k]] := by
  rw [List.take_succ_eq_append_getElem (by simpa using h)]; rfl

theorem beN_take (s : ByteArray) (k : Nat) (h : k < s.size) : beN (s.data.toList.take (k + 1)) = beN (s.data.toList.take k) * 256 + s[k].toNat := by
  rw [take_snoc s k h, beN_snoc]

theorem beN_small (s : ByteArray) (k : Nat) (h : k ≤ 7) : beN (s.data.toList.take k) < 72057594037927936 := by
  have h1 := beN_lt (s.data.toList.take k)
  have h2 : (s.data.toList.take k).length ≤ k := List.length_take_le _ _
  have h3 : 256 ^ (s.data.toList.take k).length ≤ 256 ^ 7 := Nat.pow_le_pow_right (by omega) (by omega)
  have h4 : (256 : Nat) ^ 7 = 72057594037927936 := by decide
  omega

theorem beN_small6 (s : ByteArray) (k : Nat) (h : k < 7) : beN (s.data.toList.take k) < 281474976710656 := by
  have h1 := beN_lt (s.data.toList.take k)
  have h2 : (s.data.toList.take k).length ≤ k := List.length_take_le _ _
  have h3 : 256 ^ (s.data.toList.take k).length ≤ 256 ^ 6 := Nat.pow_le_pow_right (by omega) (by omega)
  have h4 : (256 : Nat) ^ 6 = 281474976710656 := by decide
  omega

theorem wraps_i64 (n : Int) (h0 : 0 ≤ n) (h1 : n < 2 ^ 63) : IntKind.i64.wrap n = n := by rw [IntKind.wrap_i64]; omega

theorem i64_or8 (x y : Int) (hx0 : 0 ≤ x) (hx : x % 256 = 0) (hx1 : x < 9223372036854775808) (hy0 : 0 ≤ y) (hy : y < 256) : bits .or .i64 x y = x + y :=
  bits_join .i64 63 (by decide) wraps_i64 8 x y hx0 hx hx1 hy0 hy (by omega)

/-- the m low bytes of n, the highest first -/
def fixB : Nat → Nat → List UInt8
  | 0, _ => []
  | m + 1, n => fixB m (n / 256) ++ [UInt8.ofNat (n % 256)]

theorem fixB_length (m : Nat) : ∀ n, (fixB m n).length = m := by
  induction m with
  | zero => intro n; rfl
  | succ m ih => intro n; rw [fixB, List.length_append, ih]; rfl

/-- what EncodeFixed answers, for 0 ≤ n and a width m of 1 to 7 -/
def efL (n m : Nat) : List UInt8 := if n < 256 ^ m then fixB m n else []

theorem efL_fits {n m : Nat} (h : n / 256 ^ m = 0) : efL n m = fixB m n := by
  have hp : 0 < 256 ^ m := Nat.pow_pos (by omega)
  have : n < 256 ^ m := by
    rcases Nat.div_eq_zero_iff.1 h with h | h
    · omega
    · exact h
  rw [efL, if_pos this]

theorem efL_not {n m : Nat} (h : n / 256 ^ m ≠ 0) : efL n m = [] := by
  have : ¬ n < 256 ^ m := fun hl => h (Nat.div_eq_of_lt hl)
  rw [efL, if_neg this]

theorem fixB_step {n m j : Nat} {l : List UInt8} (hj : j < m) (h : fixB m n = fixB (m - j) (n / 256 ^ j) ++ l) :
    fixB m n = fixB (m - (j + 1)) (n / 256 ^ (j + 1)) ++ (UInt8.ofNat (n / 256 ^ j % 256) :: l) := by
  rw [h, show m - j = (m - (j + 1)) + 1 by omega, fixB, Nat.div_div_eq_div_mul, ← Nat.pow_succ, List.append_assoc]
  rfl

theorem wrap_shl (m : Nat) (h : m ≤ 7) : RowKit.wrap64 (2 ^ (8 * m)) = ((256 ^ m : Nat) : Int) := by
  match m, h with
  | 0, _ => simp [RowKit.wrap64]
  | 1, _ => simp [RowKit.wrap64]
  | 2, _ => simp [RowKit.wrap64]
  | 3, _ => simp [RowKit.wrap64]
  | 4, _ => simp [RowKit.wrap64]
  | 5, _ => simp [RowKit.wrap64]
  | 6, _ => simp [RowKit.wrap64]
  | 7, _ => simp [RowKit.wrap64]

end Go.Proofs.YtpogfjcllcmaoaaDoor
