/-
  Texts laid together: FeatN, PlainVarint, EncVar, PlainDgF, FmtInt, FmtAt. By an AI agent.
-/
import Derived.Test.YtpmfabpnjacegaaGreatDoorGQ1
import Derived.WalkKit
import Derived.Laws.BitsLemmas
import Derived.Test.YtpmfabpnjacegaaGreatDoorGQ2
import Derived.Lib.ItoaLen
import Derived.Test.YtpmfabpnjacegaaGreatDoorShelf
import Derived.Lib.ItoaMem
import Derived.Lib.AppendIntMem
import Derived.Lib.LaidTab
/-
  What FeatureName answers, on both sides, for every integer. By an AI agent.
-/
namespace Go.Proofs.YtpmfabpnjacegaaGreatDoor
open Go.RowKit
set_option linter.unusedVariables false

/-- the name's bytes -/
def fnL (n : Int) : List UInt8 :=
  if n = 0 then [110, 97, 109, 101] else if n = 1 then [116, 111, 107, 101, 110, 115] else if n = 2 then [115, 111, 117, 110, 100]
  else if n = 3 then [99, 105, 116, 121] else if n = 4 then [121, 101, 97, 114] else if n = 5 then [112, 104, 111, 110, 101] else []
def fnR (n : Int) : ByteArray := ⟨(fnL n).toArray⟩
theorem fn_no {n : Int} (h : ¬ (0 ≤ n ∧ n ≤ 5)) : fnR n = ⟨#[]⟩ := by
  unfold fnR fnL
  rw [if_neg (by omega), if_neg (by omega), if_neg (by omega), if_neg (by omega), if_neg (by omega), if_neg (by omega)]
theorem fret_str {a b : ByteArray} (h : a = b) : Ending.returned (.string a) = .returned (.string b) := by rw [h]

set_option maxRecDepth 100000 in
set_option maxHeartbeats 800000 in
theorem fn_spec (n : Int) (r : ByteArray) (w : World) (hr : fnR n = r) :
    Calls Tryz.prog 38 #[.int .i64 n] w fun e w' => e = .returned (.string r) ∧ Below w.heap.size w w' := by
  have HR := Lib.hid hr
  clear hr
  obtain ⟨bx, hbx⟩ : ∃ b, decide (0 ≤ n ∧ n ≤ 5) = b := ⟨_, rfl⟩
  have HBX := Lib.hid hbx
  cases bx
  · obtain rfl : ⟨#[]⟩ = r := by rw [← HR.out, fn_no (of_decide_eq_false HBX.out)]
    clear hbx
    go_enter Tryz.func38, Tryz.ntmps38
    go_wp2_with (go_at_call 45; ((with_reducible refine (cl1In _ _ _ _ _ HBX.out).mono ?_); rintro e w' ⟨rfl, rfl⟩))
    go_ret
    exact ⟨rfl, Below.refl _ _⟩
  · have hc := of_decide_eq_true hbx
    clear hbx
    have hc2 : n = 0 ∨ n = 1 ∨ n = 2 ∨ n = 3 ∨ n = 4 ∨ n = 5 := by omega
    clear hc
    rcases hc2 with rfl | rfl | rfl | rfl | rfl | rfl <;> obtain rfl := HR.out
    all_goals
      go_enter Tryz.func38, Tryz.ntmps38
      go_wp2_with (go_at_call 45; ((with_reducible refine (cl1In _ _ _ _ _ HBX.out).mono ?_); rintro e w' ⟨rfl, rfl⟩))
      go_ret
      exact ⟨rfl, (Below.refl _ _).alloc (Nat.le_refl _) _⟩

set_option maxRecDepth 100000 in
set_option maxHeartbeats 800000 in
theorem fn_impl (n : Int) (r : ByteArray) (w : World) (hr : fnR n = r) :
    Calls Tryz.prog 91 #[.int .i64 n] w fun e w' => e = .returned (.string r) ∧ w = w' := by
  have HR := Lib.hid hr
  clear hr
  by_cases hc : 0 ≤ n ∧ n ≤ 5
  · have hc2 : n = 0 ∨ n = 1 ∨ n = 2 ∨ n = 3 ∨ n = 4 ∨ n = 5 := by omega
    clear hc
    rcases hc2 with rfl | rfl | rfl | rfl | rfl | rfl <;> obtain rfl := HR.out
    all_goals
      go_enter Tryz.func91, Tryz.ntmps91
      go_wp2
      go_ret
      exact ⟨rfl, rfl⟩
  · obtain rfl : ⟨#[]⟩ = r := by rw [← HR.out, fn_no hc]
    have e0 : (n == 0) = false := by simp; omega
    have e1 : (n == 1) = false := by simp; omega
    have e2 : (n == 2) = false := by simp; omega
    have e3 : (n == 3) = false := by simp; omega
    have e4 : (n == 4) = false := by simp; omega
    have e5 : (n == 5) = false := by simp; omega
    clear hc
    go_enter Tryz.func91, Tryz.ntmps91
    go_wp2
    go_ret
    exact ⟨rfl, rfl⟩

end Go.Proofs.YtpmfabpnjacegaaGreatDoor

/-
  The bytes of a varint: plain facts without the program. By an AI agent.
-/
namespace Go.Proofs.YtpmfabpnjacegaaGreatDoor

/-- the bytes of n, seven bits each, the lowest first -/
def vint (n : Nat) : List UInt8 := if n < 128 then [UInt8.ofNat n] else UInt8.ofNat (128 + n % 128) :: vint (n / 128)
termination_by n
decreasing_by omega

theorem vint_small (n : Nat) (h : n < 128) : vint n = [UInt8.ofNat n] := by rw [vint, if_pos h]
theorem vint_large (n : Nat) (h : ¬ n < 128) : vint n = UInt8.ofNat (128 + n % 128) :: vint (n / 128) := by rw [vint, if_neg h]

theorem vint_length (n : Nat) : (vint n).length ≤ n / 128 + 1 := by
  induction n using Nat.strongRecOn with
  | ind n ih =>
    by_cases h : n < 128
    · rw [vint_small n h]; simp
    · rw [vint_large n h]
      have := ih (n / 128) (by omega)
      simp only [List.length_cons]
      omega

theorem vint_length_pos (n : Nat) : 0 < (vint n).length := by
  by_cases h : n < 128
  · rw [vint_small n h]; simp
  · rw [vint_large n h]; simp

/-- what seven bits of each byte spell, the lowest first -/
def leN : List UInt8 → Nat
  | [] => 0
  | b :: l => b.toNat % 128 + 128 * leN l

theorem leN_lt (l : List UInt8) : leN l < 128 ^ l.length := by
  induction l with
  | nil => simp [leN]
  | cons b l ih =>
    simp only [leN, List.length_cons, Nat.pow_succ]
    have : b.toNat % 128 < 128 := Nat.mod_lt _ (by omega)
    omega

theorem leN_small (l : List UInt8) (h : l.length ≤ 7) : leN l ≤ 562949953421311 := by
  have h1 := leN_lt l
  have h2 : 128 ^ l.length ≤ 128 ^ 7 := Nat.pow_le_pow_right (by omega) h
  have h3 : (128 : Nat) ^ 7 = 562949953421312 := by decide
  omega

theorem leN_small6 (l : List UInt8) (h : l.length ≤ 6) : leN l < 4398046511104 := by
  have h1 := leN_lt l
  have h2 : 128 ^ l.length ≤ 128 ^ 6 := Nat.pow_le_pow_right (by omega) h
  have h3 : (128 : Nat) ^ 6 = 4398046511104 := by decide
  omega

theorem leN_snoc (l : List UInt8) (b : UInt8) : leN (l ++ [b]) = leN l + 128 ^ l.length * (b.toNat % 128) := by
  induction l with
  | nil => simp [leN]
  | cons c l ih =>
    simp only [List.cons_append, leN, ih, List.length_cons, Nat.pow_succ]
    rw [Nat.mul_add, Nat.mul_comm (128 ^ l.length) 128, Nat.mul_assoc, Nat.add_assoc]

/-- the last byte of a varint is below 128, all others are not -/
theorem vint_form (n : Nat) : ∃ pre last, vint n = pre ++ [last] ∧ last.toNat < 128 ∧ ∀ b ∈ pre, 128 ≤ b.toNat := by
  induction n using Nat.strongRecOn with
  | ind n ih =>
    by_cases h : n < 128
    · refine ⟨[], UInt8.ofNat n, by rw [vint_small n h]; rfl, ?_, by simp⟩
      rw [UInt8.toNat_ofNat']
      omega
    · obtain ⟨pre, last, h1, h2, h3⟩ := ih (n / 128) (by omega)
      refine ⟨UInt8.ofNat (128 + n % 128) :: pre, last, by rw [vint_large n h, h1]; rfl, h2, ?_⟩
      intro b hb
      rcases List.mem_cons.1 hb with rfl | hb
      · rw [UInt8.toNat_ofNat']
        omega
      · exact h3 b hb

/-- a prefix of l that is a varint ends at the first byte below 128 -/
theorem vint_take {l : List UInt8} {n k : Nat} (hk : k ≤ l.length) (h : vint n = l.take k) :
    0 < k ∧ (∃ b, l[k - 1]? = some b ∧ b.toNat < 128) ∧ ∀ j b, j < k - 1 → l[j]? = some b → 128 ≤ b.toNat := by
  obtain ⟨pre, last, h1, h2, h3⟩ := vint_form n
  have hlen : pre.length + 1 = k := by
    have e := congrArg List.length (h1.symm.trans h)
    rw [List.length_append, List.length_take, List.length_singleton] at e
    omega
  have e : l.take k = pre ++ [last] := by rw [← h, h1]
  have get : ∀ j, j < k → l[j]? = (pre ++ [last])[j]? := by
    intro j hj
    rw [← e, List.getElem?_take_of_lt hj]
  refine ⟨by omega, ⟨last, ?_, h2⟩, ?_⟩
  · rw [get _ (by omega), show k - 1 = pre.length by omega]
    simp
  · intro j b hj hb
    rw [get j (by omega), List.getElem?_append_left (by omega)] at hb
    exact h3 b (List.mem_of_getElem? hb)

/-- what DecodeVarint answers at l: the number n and the length k -/
def DvOk (l : List UInt8) (n k : Nat) : Prop :=
  (1 ≤ k ∧ k ≤ 7 ∧ k ≤ l.length ∧ n = leN (l.take k) ∧ vint n = l.take k) ∨
  (k = 0 ∧ n = 0 ∧ ∀ j, 1 ≤ j → j ≤ 7 → j ≤ l.length → vint (leN (l.take j)) ≠ l.take j)

theorem DvOk.same {l : List UInt8} {n k n' k' : Nat} (h : DvOk l n k) (h' : DvOk l n' k') : n = n' ∧ k = k' := by
  rcases h with ⟨a1, a2, a3, a4, a5⟩ | ⟨a1, a2, a3⟩ <;> rcases h' with ⟨b1, b2, b3, b4, b5⟩ | ⟨b1, b2, b3⟩
  · obtain ⟨_, ⟨x, hx, hx1⟩, hx2⟩ := vint_take a3 a5
    obtain ⟨_, ⟨y, hy, hy1⟩, hy2⟩ := vint_take b3 b5
    have hkk : k = k' := by
      rcases Nat.lt_trichotomy k k' with hlt | heq | hgt
      · have := hy2 (k - 1) x (by omega) hx; omega
      · exact heq
      · have := hx2 (k' - 1) y (by omega) hy; omega
    subst hkk
    exact ⟨by rw [a4, b4], rfl⟩
  · exact absurd (a4 ▸ a5) (b3 k a1 a2 a3)
  · exact absurd (b4 ▸ b5) (a3 k' b1 b2 b3)
  · omega

/-- what varintLength answers at l: the place behind the first byte below 128 among the first seven, or 0 -/
def IsVlen (l : List UInt8) (k : Nat) : Prop :=
  (k = 0 ∧ ∀ j b, j < 7 → l[j]? = some b → 128 ≤ b.toNat) ∨
  (1 ≤ k ∧ k ≤ 7 ∧ k ≤ l.length ∧ (∃ b, l[k - 1]? = some b ∧ b.toNat < 128) ∧ ∀ j b, j < k - 1 → l[j]? = some b → 128 ≤ b.toNat)

theorem IsVlen.le {l : List UInt8} {k : Nat} (h : IsVlen l k) : k ≤ 7 ∧ k ≤ l.length := by
  rcases h with ⟨h, _⟩ | ⟨_, h1, h2, _⟩ <;> omega

theorem vlen_yes {l : List UInt8} {k : Nat} (h : IsVlen l k) (e : vint (leN (l.take k)) = l.take k) : DvOk l (leN (l.take k)) k := by
  rcases h with ⟨rfl, _⟩ | ⟨h1, h2, h3, _⟩
  · have := vint_length_pos (leN (l.take 0))
    rw [e] at this
    simp at this
  · exact .inl ⟨h1, h2, h3, rfl, e⟩

theorem vlen_no {l : List UInt8} {k : Nat} (h : IsVlen l k) (e : vint (leN (l.take k)) ≠ l.take k) : DvOk l 0 0 := by
  refine .inr ⟨rfl, rfl, fun j j1 j2 j3 hj => ?_⟩
  obtain ⟨_, ⟨x, hx, hx1⟩, hx2⟩ := vint_take j3 hj
  rcases h with ⟨rfl, h0⟩ | ⟨h1, h2, h3, ⟨y, hy, hy1⟩, hy2⟩
  · have := h0 (j - 1) x (by omega) hx; omega
  · have hjk : j = k := by
      rcases Nat.lt_trichotomy j k with hlt | heq | hgt
      · have := hy2 (j - 1) x (by omega) hx; omega
      · exact heq
      · have := hx2 (k - 1) y (by omega) hy; omega
    subst hjk
    exact e hj

end Go.Proofs.YtpmfabpnjacegaaGreatDoor

/-
  What spec.EncodeVarint and impl.EncodeVarint answer, for every integer. By an AI agent.
-/
namespace Go.Proofs.YtpmfabpnjacegaaGreatDoor
open Go.RowKit
set_option linter.unusedVariables false

def strOf (l : List UInt8) : ByteArray := ⟨l.toArray⟩

theorem ret_str {a b : ByteArray} (h : a = b) : Ending.returned (.string a) = .returned (.string b) := by rw [h]

theorem strOf_append (l r : List UInt8) : strOf l ++ strOf r = strOf (l ++ r) := by
  apply ByteArray.ext
  simp [strOf]

theorem strOf_size (l : List UInt8) : (strOf l).size = l.length := by simp [strOf, ByteArray.size]

end Go.Proofs.YtpmfabpnjacegaaGreatDoor

/-
  The format of a diagram in plain lists. By an AI agent.
-/
namespace Go.Proofs.YtpmfabpnjacegaaGreatDoor
open Go.RowKit
set_option linter.unusedVariables false
set_option linter.unusedSimpArgs false
set_option linter.unnecessarySimpa false

def vrL (v : Int × Int) : List UInt8 := (fnL v.1 ++ [62, 61]) ++ Lib.itoa v.2
def ndL (x : DN) : List UInt8 := (((vrL x.1 ++ [32]) ++ Lib.itoa x.2.2) ++ [32]) ++ Lib.itoa x.2.1
def dgT (y : Int) (D : List DN) : Nat → List UInt8
  | 0 => [114, 111, 111, 116, 32] ++ Lib.itoa y
  | k + 1 => dgT y D k ++ ((([59, 32] ++ Lib.itoa ((k : Int) + 2)) ++ [58, 32]) ++ ((D[k]?).map ndL).getD [])
def dgR (y : Int) (D : List DN) : ByteArray := if dgB y D then strOf (dgT y D D.length) else ⟨#[]⟩
theorem itoa21 {x : Int} (h : -1000000 ≤ x) (h2 : x ≤ 1000000) : (Lib.itoa x).length ≤ 21 := Lib.itoa_length_le x (by omega) (by omega)
theorem fnl6 (n : Int) : (fnL n).length ≤ 6 := by
  unfold fnL
  repeat' split
  all_goals decide
theorem dgT_len {y : Int} {D : List DN} (hy : 0 ≤ y ∧ y ≤ 1000000) (hD : ∀ x ∈ D, (-1000000 ≤ x.1.2 ∧ x.1.2 ≤ 1000000) ∧ (-1000000 ≤ x.2.1 ∧ x.2.1 ≤ 1000000) ∧ (-1000000 ≤ x.2.2 ∧ x.2.2 ≤ 1000000)) : ∀ k, k ≤ 1000 → (dgT y D k).length ≤ 26 + 100 * k
  | 0, _ => by
    have := itoa21 (x := y) (by omega) (by omega)
    simp only [dgT, List.length_append, List.length_cons, List.length_nil]
    omega
  | k + 1, hk => by
    have h1 := dgT_len hy hD k (by omega)
    have h2 := itoa21 (x := (k : Int) + 2) (by omega) (by omega)
    have h3 : (((D[k]?).map ndL).getD []).length ≤ 73 := by
      cases hx : D[k]? with
      | none => simp
      | some x =>
        obtain ⟨a1, a2, a3⟩ := hD x (List.mem_of_getElem? hx)
        have b1 := itoa21 a1.1 a1.2
        have b2 := itoa21 a2.1 a2.2
        have b3 := itoa21 a3.1 a3.2
        have b4 := fnl6 x.1.1
        simp only [Option.map_some, Option.getD_some, ndL, vrL, List.length_append, List.length_cons, List.length_nil]
        omega
    simp only [dgT, List.length_append, List.length_cons, List.length_nil]
    omega
theorem dg_small {y : Int} {D : List DN} (h : dgB y D = true) : (0 ≤ y ∧ y ≤ 1000000) ∧ ∀ x ∈ D, (0 ≤ x.1.1 ∧ x.1.1 ≤ 5) ∧ (-1000000 ≤ x.1.2 ∧ x.1.2 ≤ 1000000) ∧ (-1000000 ≤ x.2.1 ∧ x.2.1 ≤ 1000000) ∧ (-1000000 ≤ x.2.2 ∧ x.2.2 ≤ 1000000) := by
  have h1 := dg_nodes h
  refine ⟨by omega, fun x hx => ?_⟩
  obtain ⟨k, hk⟩ := List.getElem?_of_mem hx
  have h2 := num_of (dv_of (nodes_iff.1 h1.2.2 k x hk)).1
  have h3 : (D.take k).length ≤ 200 := by rw [List.length_take]; omega
  refine ⟨h2.1, ?_, ?_, ?_⟩
  · omega
  · omega
  · omega
theorem dgT_size {y : Int} {D : List DN} (h : dgB y D = true) (k : Nat) (hk : k ≤ D.length) : (strOf (dgT y D k)).size ≤ 20026 := by
  have h1 := dg_small h
  have h2 := (dg_nodes h).1
  have h3 := dgT_len h1.1 (fun x hx => (h1.2 x hx).2) k (by omega)
  rw [strOf_size]
  omega
theorem dgR_no {y : Int} {D : List DN} (h : dgB y D = false) : dgR y D = ⟨#[]⟩ := by unfold dgR; rw [h]; rfl
theorem dgR_yes {y : Int} {D : List DN} (h : dgB y D = true) : dgR y D = strOf (dgT y D D.length) := by unfold dgR; rw [h]; rfl
theorem vr_str {f t : Int} {N T : ByteArray} (hN : fnR f = N) (hT : strOf (Lib.itoa t) = T) : (N ++ ⟨#[62, 61]⟩) ++ T = strOf (vrL (f, t)) := by
  subst hN hT
  show (strOf (fnL f) ++ strOf [62, 61]) ++ strOf _ = _
  rw [strOf_append, strOf_append]
  rfl
theorem nd_str {x : DN} {V H L : ByteArray} (hV : strOf (vrL x.1) = V) (hH : strOf (Lib.itoa x.2.2) = H) (hL : strOf (Lib.itoa x.2.1) = L) : (((V ++ ⟨#[32]⟩) ++ H) ++ ⟨#[32]⟩) ++ L = strOf (ndL x) := by
  subst hV hH hL
  show (((strOf _ ++ strOf [32]) ++ strOf _) ++ strOf [32]) ++ strOf _ = _
  rw [strOf_append, strOf_append, strOf_append, strOf_append]
  rfl
theorem dgT_first {y : Int} {D : List DN} {Y : ByteArray} (hY : strOf (Lib.itoa y) = Y) : (⟨#[114, 111, 111, 116, 32]⟩ : ByteArray) ++ Y = strOf (dgT y D 0) := by
  subst hY
  show strOf [114, 111, 111, 116, 32] ++ strOf _ = _
  rw [strOf_append]
  rfl
/-- what is written for a node -/
theorem dgT_part {y : Int} {D : List DN} {k : Nat} {x : DN} (hx : D[k]? = some x) : dgT y D (k + 1) = dgT y D k ++ ((([59, 32] ++ Lib.itoa ((k : Int) + 2)) ++ [58, 32]) ++ ndL x) := by rw [dgT, hx]; rfl
theorem part_str {k : Nat} {x : DN} {I P : ByteArray} (hI : strOf (Lib.itoa ((k : Int) + 2)) = I) (hP : strOf (ndL x) = P) : ((⟨#[59, 32]⟩ ++ I) ++ ⟨#[58, 32]⟩) ++ P = strOf ((([59, 32] ++ Lib.itoa ((k : Int) + 2)) ++ [58, 32]) ++ ndL x) := by
  subst hI hP
  show ((strOf [59, 32] ++ strOf _) ++ strOf [58, 32]) ++ strOf _ = _
  rw [strOf_append, strOf_append, strOf_append]
theorem dgT_next {y : Int} {D : List DN} {k : Nat} {x : DN} {S I N T H L : ByteArray} (hx : D[k]? = some x) (hS : strOf (dgT y D k) = S) (hI : strOf (Lib.itoa ((k : Int) + 2)) = I) (hN : fnR x.1.1 = N) (hT : strOf (Lib.itoa x.1.2) = T) (hH : strOf (Lib.itoa x.2.2) = H) (hL : strOf (Lib.itoa x.2.1) = L) :
    (((((((((S ++ ⟨#[59, 32]⟩) ++ I) ++ ⟨#[58, 32]⟩) ++ N) ++ ⟨#[62, 61]⟩) ++ T) ++ ⟨#[32]⟩) ++ H) ++ ⟨#[32]⟩) ++ L = strOf (dgT y D (k + 1)) := by
  have h1 := nd_str (x := x) (V := (N ++ ⟨#[62, 61]⟩) ++ T) (vr_str hN hT).symm hH hL
  have h2 := part_str (k := k) (x := x) hI h1.symm
  rw [dgT_part hx, ← strOf_append, hS, ← h2]
  simp only [ByteArray.append_assoc]

end Go.Proofs.YtpmfabpnjacegaaGreatDoor

/-
  What spec.FormatInt and impl.FormatInt answer, for every integer. By an AI agent.
-/
namespace Go.Proofs.YtpmfabpnjacegaaGreatDoor
open Go.RowKit
set_option linter.unusedVariables false

/-- what has been written of a's digits when k is what is left of a -/
def DecInv (a k : Nat) (l : List UInt8) : Prop := (k = 0 ∧ Lib.decDigits a = l) ∨ (0 < k ∧ Lib.decDigits a = Lib.decDigits k ++ l)

theorem DecInv.start {a : Nat} (h : 0 < a) : DecInv a a [] := .inr ⟨h, by simp⟩

theorem DecInv.step {a k : Nat} {l : List UInt8} (h : DecInv a k l) (hk : 0 < k) : DecInv a (k / 10) (UInt8.ofNat (48 + k % 10) :: l) := by
  rcases h with ⟨h, _⟩ | ⟨_, h⟩
  · omega
  · by_cases h10 : k < 10
    · refine .inl ⟨by omega, ?_⟩
      rw [h, Lib.decDigits_one h10, Nat.mod_eq_of_lt h10]
      rfl
    · refine .inr ⟨by omega, ?_⟩
      rw [h, Lib.decDigits, dif_neg h10, List.append_assoc]
      rfl

theorem DecInv.done {a : Nat} {l : List UInt8} (h : DecInv a 0 l) : Lib.decDigits a = l := by
  rcases h with ⟨_, h⟩ | ⟨h, _⟩
  · exact h
  · omega

theorem dig48 (x : Nat) : (48 : UInt8) + UInt8.ofNat x = UInt8.ofNat (48 + x) := by
  rw [UInt8.ofNat_add]; rfl

theorem str_cons (b c : UInt8) (l : List UInt8) (h : b = c) : Value.string ((⟨#[b]⟩ : ByteArray) ++ strOf l) = .string (strOf (c :: l)) := by
  subst h
  exact congrArg _ (strOf_append [b] l)

theorem dec_len (a : Nat) (h : a ≤ 9223372036854775808) : (Lib.decDigits a).length ≤ 21 := by
  rcases Nat.eq_zero_or_pos a with rfl | h0
  · rw [Lib.decDigits_one (by omega)]; simp
  · have h1 := Lib.itoa_length_le (-(a : Int)) (by omega) (by omega)
    rw [Lib.itoa_neg a h0, List.length_cons] at h1
    omega

theorem DecInv.len {a k : Nat} {l : List UInt8} (h : DecInv a k l) (ha : a ≤ 9223372036854775808) : l.length ≤ 21 := by
  have h1 := dec_len a ha
  rcases h with ⟨_, h⟩ | ⟨_, h⟩
  · rw [h] at h1; exact h1
  · rw [h, List.length_append] at h1; omega

set_option maxRecDepth 100000 in
set_option maxHeartbeats 800000 in
theorem spec_fi_zero (w : World) :
    Calls Tryz.prog 37 #[.int .i64 0] w fun e w' => e = .returned (.string (strOf (Lib.itoa 0))) ∧ Below w.heap.size w w' := by
  have e : Lib.itoa 0 = [48] := by rw [show (0 : Int) = ((0 : Nat) : Int) from rfl, Lib.itoa_nonneg, Lib.decDigits_one (by omega)]; rfl
  rw [e]
  clear e
  go_enter Tryz.func37, Tryz.ntmps37
  go_wp2
  go_ret
  exact ⟨rfl, Below.refl _ _⟩

set_option maxRecDepth 100000 in
set_option maxHeartbeats 800000 in
theorem spec_fi_pos (a : Nat) (w : World) (h0 : 0 < a) (ha : (a : Int) ≤ 9223372036854775807) :
    Calls Tryz.prog 37 #[.int .i64 a] w fun e w' => e = .returned (.string (strOf (Lib.decDigits a))) ∧ Below w.heap.size w w' := by
  have hz : ((a : Int) == 0) = false := by simp; omega
  have hl0 : decide ((a : Int) < 0) = false := by simp
  go_enter Tryz.func37, Tryz.ntmps37
  go_wp2
  clear hz hl0
  go_loopw [0, 3] (fun m o wr => ∃ (k : Nat) (l : List UInt8), k ≤ a ∧ m = .int .i64 k ∧ o = .string (strOf l) ∧ DecInv a k l ∧ Below w.heap.size w wr) (fun m _ _ => (intOf m).toNat)
  case atStart => exact ⟨a, [], Nat.le_refl _, rfl, rfl, DecInv.start h0, Below.refl _ _⟩
  case round =>
    obtain ⟨k, l, hk, rfl, rfl, hd, hb⟩ := hrel
    have hsz : (strOf l).size ≤ 21 := by rw [strOf_size]; exact hd.len (by omega)
    have HD := Lib.hid hd
    have HB := Lib.hid hb
    have hka : (k : Int) ≤ 9223372036854775807 := by omega
    clear hd hb
    by_cases hk0 : k = 0
    · subst hk0
      go_wp2
      go_ret
      exact ⟨ret_str (by rw [HD.out.done]), HB.out⟩
    · have hne : ((k : Int) != 0) = true := by simp; omega
      have hcv := convert_one wr (48 + (k : Int) % 10) (by omega) (by omega)
      go_wp2
      go_roundw
      case rel =>
        refine ⟨k / 10, _, by omega, by go_num, ?_, HD.out.step (by omega), HB.out.trans ((Below.refl _ _).alloc HB.out.size _)⟩
        exact str_cons _ _ l (dig48 _)
      case measure => simp [intOf]; omega

set_option maxRecDepth 100000 in
set_option maxHeartbeats 800000 in
theorem spec_fi_neg (a : Nat) (w : World) (h0 : 0 < a) (ha : (a : Int) ≤ 9223372036854775808) :
    Calls Tryz.prog 37 #[.int .i64 (-(a : Int))] w fun e w' => e = .returned (.string (strOf (45 :: Lib.decDigits a))) ∧ Below w.heap.size w w' := by
  have hz : (-(a : Int) == 0) = false := by simp; omega
  have hl0 : decide (-(a : Int) < 0) = true := by simp; omega
  go_enter Tryz.func37, Tryz.ntmps37
  go_wp2
  clear hz hl0
  go_loopw [0, 3] (fun m o wr => ∃ (k : Nat) (l : List UInt8), k ≤ a ∧ m = .int .i64 (-(k : Int)) ∧ o = .string (strOf l) ∧ DecInv a k l ∧ Below w.heap.size w wr) (fun m _ _ => (-(intOf m)).toNat)
  case atStart => exact ⟨a, [], Nat.le_refl _, rfl, rfl, DecInv.start h0, Below.refl _ _⟩
  case round =>
    obtain ⟨k, l, hk, rfl, rfl, hd, hb⟩ := hrel
    have hsz : (strOf l).size ≤ 21 := by rw [strOf_size]; exact hd.len (by omega)
    have HD := Lib.hid hd
    have HB := Lib.hid hb
    have hka : (k : Int) ≤ 9223372036854775808 := by omega
    clear hd hb
    by_cases hk0 : k = 0
    · subst hk0
      go_wp2
      go_ret
      exact ⟨ret_str (by rw [HD.out.done]; exact strOf_append [45] l), HB.out⟩
    · have hne : (-(k : Int) != 0) = true := by simp; omega
      by_cases hd0 : k % 10 = 0
      · have hcv := convert_one wr 48 (by omega) (by omega)
        have hz10 : (k : Int) % 10 = 0 := by omega
        have HZ := Lib.hid hd0
        clear hd0
        go_wp2
        go_roundw
        case rel =>
          refine ⟨k / 10, _, by omega, by go_num, ?_, HD.out.step (by omega), HB.out.trans ((Below.refl _ _).alloc HB.out.size _)⟩
          exact str_cons _ _ l (by rw [HZ.out]; rfl)
        case measure => simp [intOf]; omega
      · have hcv := convert_one wr (48 + (k : Int) % 10) (by omega) (by omega)
        go_wp2
        go_roundw
        case rel =>
          refine ⟨k / 10, _, by omega, by go_num, ?_, HD.out.step (by omega), HB.out.trans ((Below.refl _ _).alloc HB.out.size _)⟩
          exact str_cons _ _ l (dig48 _)
        case measure => simp [intOf]; omega

theorem spec_fi (n : Int) (w : World) (h0 : -9223372036854775808 ≤ n) (h1 : n ≤ 9223372036854775807) :
    Calls Tryz.prog 37 #[.int .i64 n] w fun e w' => e = .returned (.string (strOf (Lib.itoa n))) ∧ Below w.heap.size w w' := by
  rcases Int.lt_trichotomy n 0 with h | h | h
  · obtain ⟨a, rfl⟩ : ∃ a : Nat, n = -(a : Int) := ⟨n.natAbs, by omega⟩
    rw [Lib.itoa_neg a (by omega)]
    exact spec_fi_neg a w (by omega) (by omega)
  · subst h
    exact spec_fi_zero w
  · obtain ⟨a, rfl⟩ : ∃ a : Nat, n = (a : Int) := ⟨n.toNat, by omega⟩
    rw [Lib.itoa_nonneg a]
    exact spec_fi_pos a w (by omega) (by omega)

/-- the library's table of powers of ten -/
def TabAt (w : World) : Prop := Lib.TabIs Tryz.prog w "internal/strconv.uint64pow10" .u64 Lib.pow10Tab

theorem TabAt.on {w w' : World} (h : TabAt w) (hb : Below w.heap.size w w') : TabAt w' := ((Lib.tabBelow_of_tabIs h).on hb).here

set_option maxRecDepth 100000 in
set_option maxHeartbeats 400000 in
theorem impl_fi (n : Int) (w : World) (h0 : -9223372036854775808 ≤ n) (h1 : n ≤ 9223372036854775807) (ht : TabAt w) :
    Calls Tryz.prog 34 #[.int .i64 n] w fun e w' => e = .returned (.string (strOf (Lib.itoa n))) ∧ Below w.heap.size w w' := by
  have HT := Lib.hid ht
  have H0 := Lib.hid h0
  have H1 := Lib.hid h1
  clear ht h0 h1
  go_enter Tryz.func34, Tryz.ntmps34
  go_wp2_with (go_at_call 69; (refine (Tryz.strconv_Itoa n H0.out H1.out _ HT.out).mono ?_); rintro e w' ⟨rfl, k, os, rfl⟩)
  go_ret
  exact ⟨rfl, Lib.below_grow _ _ (Nat.le_refl _) _ _⟩

end Go.Proofs.YtpmfabpnjacegaaGreatDoor

/-
  FormatInt on both sides with its answer under a name. By an AI agent.
-/
namespace Go.Proofs.YtpmfabpnjacegaaGreatDoor
open Go.RowKit
set_option linter.unusedVariables false

theorem str_of_list (t : ByteArray) : strOf t.data.toList = t := by
  unfold strOf
  simp

theorem spec_fi_at (n : Int) (t : ByteArray) (w : World) (h0 : -9223372036854775808 ≤ n) (h1 : n ≤ 9223372036854775807) (hn : strOf (Lib.itoa n) = t) :
    Calls Tryz.prog 37 #[.int .i64 n] w fun e w' => e = .returned (.string t) ∧ Below w.heap.size w w' := by
  rw [← hn]
  exact spec_fi n w h0 h1

theorem impl_fi_at (n : Int) (t : ByteArray) (w : World) (h0 : -9223372036854775808 ≤ n) (h1 : n ≤ 9223372036854775807) (ht : TabAt w) (hn : strOf (Lib.itoa n) = t) :
    Calls Tryz.prog 34 #[.int .i64 n] w fun e w' => e = .returned (.string t) ∧ Below w.heap.size w w' := by
  rw [← hn]
  exact impl_fi n w h0 h1 ht

end Go.Proofs.YtpmfabpnjacegaaGreatDoor

