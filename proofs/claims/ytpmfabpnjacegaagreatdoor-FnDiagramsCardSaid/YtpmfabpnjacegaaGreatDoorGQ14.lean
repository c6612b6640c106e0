/-
  Texts laid together: PlainNum, ParseInt, StrE, SptT, StrT, Put. By an AI agent.
-/
import Derived.WalkKit
import Derived.Laws.BitsLemmas
import Derived.Lib.EndianBits
import Derived.Test.YtpmfabpnjacegaaGreatDoorGQ10
import Derived.Test.YtpmfabpnjacegaaGreatDoorGQ12
import Derived.Lib.Strings
import Derived.Lib.OthersKept
import Derived.Laws.RangeAny
import Derived.Test.YtpmfabpnjacegaaGreatDoorRows
import Derived.Test.YtpmfabpnjacegaaGreatDoorGQ13
import Derived.Test.YtpmfabpnjacegaaGreatDoorGQ6
import Derived.Deep.DeepCutAuto
import Derived.Test.YtpmfabpnjacegaaGreatDoorGQ3
import Derived.Deep.RegionHeld3
import Derived.WalkLawsBesides
import Derived.Deep.RegionLaw
/-
  Plain facts on byte strings and numbers, without the program: the big-endian value of a list of bytes. By an AI agent.
-/
namespace Go.Proofs.YtpmfabpnjacegaaGreatDoor

/-- the big-endian value of a list of bytes -/
def beN (l : List UInt8) : Nat := l.foldl (fun n b => n * 256 + b.toNat) 0

theorem beN_snoc (l : List UInt8) (b : UInt8) : beN (l ++ [b]) = beN l * 256 + b.toNat := by
  simp [beN]

theorem beN_from (l : List UInt8) : ∀ a : Nat, l.foldl (fun n b => n * 256 + b.toNat) a < (a + 1) * 256 ^ l.length := by
  induction l with
  | nil => intro a; simp
  | cons b l ih =>
    intro a
    have h := ih (a * 256 + b.toNat)
    have hb := b.toNat_lt
    rw [List.foldl_cons, List.length_cons, Nat.pow_succ]
    have h2 : (a * 256 + b.toNat + 1) * 256 ^ l.length ≤ ((a + 1) * 256) * 256 ^ l.length := Nat.mul_le_mul_right _ (by omega)
    have h3 : (a + 1) * (256 ^ l.length * 256) = ((a + 1) * 256) * 256 ^ l.length := by rw [Nat.mul_comm (256 ^ l.length), ← Nat.mul_assoc]
    omega

theorem beN_lt (l : List UInt8) : beN l < 256 ^ l.length := by
  have h := beN_from l 0
  simpa [beN] using h

theorem take_snoc (s : ByteArray) (k : Nat) (h : k < s.size) : s.data.toList.take (k + 1) = s.data.toList.take k ++ [s[k]] := by
  rw [List.take_succ_eq_append_getElem (by simpa using h)]; rfl

theorem beN_take (s : ByteArray) (k : Nat) (h : k < s.size) : beN (s.data.toList.take (k + 1)) = beN (s.data.toList.take k) * 256 + s[k].toNat := by
  rw [take_snoc s k h, beN_snoc]

theorem beN_small (s : ByteArray) (k : Nat) (h : k ≤ 7) : beN (s.data.toList.take k) < 72057594037927936 := by
  have h1 := beN_lt (s.data.toList.take k)
  have h2 : (s.data.toList.take k).length ≤ k := List.length_take_le _ _
  have h3 : 256 ^ (s.data.toList.take k).length ≤ 256 ^ 7 := Nat.pow_le_pow_right (by omega) (by omega)
  have h4 : (256 : Nat) ^ 7 = 72057594037927936 := by decide
  omega

theorem beN_small6 (s : ByteArray) (k : Nat) (h : k < 7) : beN (s.data.toList.take k) < 281474976710656 := by
  have h1 := beN_lt (s.data.toList.take k)
  have h2 : (s.data.toList.take k).length ≤ k := List.length_take_le _ _
  have h3 : 256 ^ (s.data.toList.take k).length ≤ 256 ^ 6 := Nat.pow_le_pow_right (by omega) (by omega)
  have h4 : (256 : Nat) ^ 6 = 281474976710656 := by decide
  omega

theorem wraps_i64 (n : Int) (h0 : 0 ≤ n) (h1 : n < 2 ^ 63) : IntKind.i64.wrap n = n := by rw [IntKind.wrap_i64]; omega

theorem i64_or8 (x y : Int) (hx0 : 0 ≤ x) (hx : x % 256 = 0) (hx1 : x < 9223372036854775808) (hy0 : 0 ≤ y) (hy : y < 256) : bits .or .i64 x y = x + y :=
  bits_join .i64 63 (by decide) wraps_i64 8 x y hx0 hx hx1 hy0 hy (by omega)

/-- the m low bytes of n, the highest first -/
def fixB : Nat → Nat → List UInt8
  | 0, _ => []
  | m + 1, n => fixB m (n / 256) ++ [UInt8.ofNat (n % 256)]

theorem fixB_length (m : Nat) : ∀ n, (fixB m n).length = m := by
  induction m with
  | zero => intro n; rfl
  | succ m ih => intro n; rw [fixB, List.length_append, ih]; rfl

/-- what EncodeFixed answers, for 0 ≤ n and a width m of 1 to 7 -/
def efL (n m : Nat) : List UInt8 := if n < 256 ^ m then fixB m n else []

theorem efL_fits {n m : Nat} (h : n / 256 ^ m = 0) : efL n m = fixB m n := by
  have hp : 0 < 256 ^ m := Nat.pow_pos (by omega)
  have : n < 256 ^ m := by
    rcases Nat.div_eq_zero_iff.1 h with h | h
    · omega
    · exact h
  rw [efL, if_pos this]

theorem efL_not {n m : Nat} (h : n / 256 ^ m ≠ 0) : efL n m = [] := by
  have : ¬ n < 256 ^ m := fun hl => h (Nat.div_eq_of_lt hl)
  rw [efL, if_neg this]

theorem fixB_step {n m j : Nat} {l : List UInt8} (hj : j < m) (h : fixB m n = fixB (m - j) (n / 256 ^ j) ++ l) :
    fixB m n = fixB (m - (j + 1)) (n / 256 ^ (j + 1)) ++ (UInt8.ofNat (n / 256 ^ j % 256) :: l) := by
  rw [h, show m - j = (m - (j + 1)) + 1 by omega, fixB, Nat.div_div_eq_div_mul, ← Nat.pow_succ, List.append_assoc]
  rfl

theorem wrap_shl (m : Nat) (h : m ≤ 7) : RowKit.wrap64 (2 ^ (8 * m)) = ((256 ^ m : Nat) : Int) := by
  match m, h with
  | 0, _ => simp [RowKit.wrap64]
  | 1, _ => simp [RowKit.wrap64]
  | 2, _ => simp [RowKit.wrap64]
  | 3, _ => simp [RowKit.wrap64]
  | 4, _ => simp [RowKit.wrap64]
  | 5, _ => simp [RowKit.wrap64]
  | 6, _ => simp [RowKit.wrap64]
  | 7, _ => simp [RowKit.wrap64]

end Go.Proofs.YtpmfabpnjacegaaGreatDoor

/-
  What spec.ParseInt and impl.ParseInt answer, for every string of at most 2^20 bytes; the walk of laws.FnExactParseInt. By an AI agent.
-/
namespace Go.Proofs.YtpmfabpnjacegaaGreatDoor
open Go.RowKit
set_option linter.unusedVariables false

def SomePi (s : ByteArray) (w : World) (e : Ending) (w' : World) : Prop := ∃ (n : Int) (ok : Bool), e = .returned (.tuple #[.int .i64 n, .bool ok]) ∧ PiOk s.data.toList n ok ∧ Below w.heap.size w w'

theorem eq_of_same {l : List UInt8} {s : ByteArray} (h : (!(strOf l).toList == s.toList) = false) : l = s.data.toList := by
  rw [show (strOf l).toList = l from ByteArray.toList_mk l, ByteArray.toList_eq] at h
  simpa using h

theorem ne_of_other {l : List UInt8} {s : ByteArray} (h : (!(strOf l).toList == s.toList) = true) : l ≠ s.data.toList := by
  rw [show (strOf l).toList = l from ByteArray.toList_mk l, ByteArray.toList_eq] at h
  simpa using h

theorem filter_snoc_yes (l : List UInt8) (b : UInt8) (h : isD b = true) : (l ++ [b]).filter isD = l.filter isD ++ [b] := by
  rw [List.filter_append]; simp [h]

theorem filter_snoc_no (l : List UInt8) (b : UInt8) (h : isD b = false) : (l ++ [b]).filter isD = l.filter isD := by
  rw [List.filter_append]; simp [h]

theorem byte_at? (s : ByteArray) (k : Nat) (h : k < s.size) : s.data.toList[k]? = some s[k] := by
  rw [List.getElem?_eq_getElem (by simpa using h)]
  rfl

theorem head_at (s : ByteArray) (h : 0 < s.size) : s.data.toList.head? = some s[0] := by
  rw [List.head?_eq_getElem?]
  exact byte_at? s 0 h

/-- where the sign is -/
theorem cut_of (s : ByteArray) (neg : Bool) (h : neg = true ↔ s.data.toList.head? = some 45) : Cut s.data.toList neg (if neg then s.data.toList.drop 1 else s.data.toList) := by
  cases neg with
  | true =>
    have h1 := h.1 rfl
    refine .inl ⟨rfl, ?_⟩
    cases hl : s.data.toList with
    | nil => rw [hl] at h1; simp at h1
    | cons x r => rw [hl] at h1; simp at h1; simp [h1]
  | false =>
    refine .inr ⟨rfl, rfl, fun h1 => ?_⟩
    have := h.2 h1
    simp at this

theorem pi_fin_yes {l d : List UInt8} {neg : Bool} {i : Nat} (hc : Cut l neg d) (hi : l.length ≤ i) (hk : ((l.take i).filter isD).length ≤ 9) (e : Lib.itoa (sgn neg (dv ((l.take i).filter isD))) = l) :
    PiOk l (sgn neg (dv ((l.take i).filter isD))) true := by
  rw [List.take_of_length_le hi] at hk e ⊢
  exact pi_spec_yes hc hk e

theorem pi_fin_no {l d : List UInt8} {neg : Bool} {i : Nat} (hc : Cut l neg d) (hi : l.length ≤ i) (e : Lib.itoa (sgn neg (dv ((l.take i).filter isD))) ≠ l) : PiOk l 0 false := by
  rw [List.take_of_length_le hi] at e
  exact pi_spec_no hc e

theorem head_is (s : ByteArray) (h : 0 < s.size) (h45 : s[0].toNat = 45) : s.data.toList.head? = some 45 := by
  rw [head_at s h]
  congr 1
  exact UInt8.toNat_inj.1 h45

theorem head_not (s : ByteArray) (h : 0 < s.size) (h45 : ¬ s[0].toNat = 45) : ¬ s.data.toList.head? = some 45 := by
  rw [head_at s h]
  intro e
  injection e with e
  rw [e] at h45
  exact h45 rfl

theorem head_none (s : ByteArray) (h : ¬ 0 < s.size) : ¬ s.data.toList.head? = some 45 := by
  have : s.data.toList = [] := List.eq_nil_of_length_eq_zero (by have : s.size = s.data.toList.length := by simp
                                                                 omega)
  rw [this]
  simp

set_option maxRecDepth 100000 in
set_option maxHeartbeats 1000000 in
theorem spec_pi (s : ByteArray) (w : World) (hs : s.size ≤ 1048576) :
    Calls Tryz.prog 126 #[.string s] w (SomePi s w) := by
  have HS := Lib.hid hs
  go_enter Tryz.func126, Tryz.ntmps126
  go_wp2
  go_loop [4, 5, 6] (fun n k i => ∃ j : Nat, j ≤ s.size ∧ j ≤ 11 ∧ i = .int .i64 j ∧ n = .int .i64 (dv ((s.data.toList.take j).filter isD)) ∧ k = .int .i64 (((s.data.toList.take j).filter isD).length : Nat)) (fun _ _ i => 11 - (intOf i).toNat)
  case atStart => exact ⟨0, Nat.zero_le _, by omega, rfl, rfl, rfl⟩
  case round =>
    obtain ⟨j, hj, hj11, rfl, rfl, rfl⟩ := hrel
    have hlen : ((s.data.toList.take j).filter isD).length ≤ j := Nat.le_trans (List.length_filter_le _ _) (List.length_take_le _ _)
    have hdv : dv ((s.data.toList.take j).filter isD) < 100000000000 := by
      have h1 := dv_le (filter_allD (s.data.toList.take j)) (Nat.le_trans hlen hj11)
      have h2 : (10 : Nat) ^ 11 = 100000000000 := by decide
      omega
    by_cases hlt : j < s.size ∧ j < 11
    · obtain ⟨hjs, hjl⟩ := hlt
      have hby := s[j].toNat_lt
      by_cases hd : isD s[j] = true
      · have hd2 : 48 ≤ s[j].toNat ∧ s[j].toNat ≤ 57 := by simpa [isD] using hd
        obtain ⟨hd3, hd4⟩ := hd2
        have HE := Lib.hid (show (s.data.toList.take (j + 1)).filter isD = (s.data.toList.take j).filter isD ++ [s[j]] by rw [take_snoc s j hjs]; exact filter_snoc_yes _ _ hd)
        clear hd
        go_wp2
        go_round
        case rel => exact ⟨j + 1, by omega, by omega, by go_num, by rw [HE.out, dv_snoc]; go_num, by rw [HE.out, List.length_append]; go_num⟩
        case measure => simp [intOf]; omega
      · have hd2 : ¬ (48 ≤ s[j].toNat ∧ s[j].toNat ≤ 57) := by simpa [isD] using hd
        have HE := Lib.hid (show (s.data.toList.take (j + 1)).filter isD = (s.data.toList.take j).filter isD by rw [take_snoc s j hjs]; exact filter_snoc_no _ _ (by simpa using hd))
        have hd3 : s[j].toNat < 48 ∨ (48 ≤ s[j].toNat ∧ 57 < s[j].toNat) := by omega
        clear hd hd2
        rcases hd3 with hx | ⟨hx, hy⟩
        all_goals
          go_wp2
          go_round
        all_goals first
          | exact ⟨j + 1, by omega, by omega, by go_num, by rw [HE.out], by rw [HE.out]⟩
          | (simp [intOf]; omega)
    · have hfin : j = s.size ∨ j = 11 := by omega
      by_cases hz : 0 < s.size
      · by_cases h45 : s[0].toNat = 45
        · have HC := Lib.hid (cut_of s true ⟨fun _ => head_is s hz h45, fun _ => rfl⟩)
          have hb45 : ((s[0].toNat : Int) == 45) = true := by simp; omega
          clear h45
          by_cases hk : 9 < ((s.data.toList.take j).filter isD).length
          · have d1 : decide (9 < ((((s.data.toList.take j).filter isD).length : Nat) : Int)) = true := by simp; omega
            have HK := Lib.hid hk
            clear hk
            go_wp2
            all_goals go_ret2
            all_goals exact ⟨0, false, rfl, pi_spec_many j HK.out, Below.refl _ _⟩
          · have d1 : decide (9 < ((((s.data.toList.take j).filter isD).length : Nat) : Int)) = false := by simp; omega
            have HK := Lib.hid (show ((s.data.toList.take j).filter isD).length ≤ 9 by omega)
            clear hk
            by_cases hl : 10 < s.size
            · have d2 : decide (10 < (s.size : Int)) = true := by simp; omega
              have HL := Lib.hid (show 10 < s.data.toList.length by simpa using hl)
              clear hl
              go_wp2
              all_goals go_ret2
              all_goals exact ⟨0, false, rfl, pi_spec_long HL.out, Below.refl _ _⟩
            · have d2 : decide (10 < (s.size : Int)) = false := by simp; omega
              have HJ := Lib.hid (show s.data.toList.length ≤ j by have : s.size = s.data.toList.length := by simp
                                                                   omega)
              have HDV := Lib.hid hdv
              clear hl hfin
              go_wp2_with (go_at_call 37; (refine (spec_fi _ _ ?_ ?_).mono ?_); (have := HDV.out; omega); (have := HDV.out; omega); rintro e w1 ⟨rfl, hb1⟩)
              all_goals go_ret2
              all_goals first
                | exact ⟨_, true, rfl, pi_fin_yes (neg := true) HC.out HJ.out HK.out (eq_of_same (by assumption)), hb1⟩
                | exact ⟨0, false, rfl, pi_fin_no (neg := true) HC.out HJ.out (ne_of_other (by assumption)), hb1⟩
        · have HC := Lib.hid (cut_of s false ⟨fun h => by simp at h, fun h => absurd h (head_not s hz h45)⟩)
          have hb45 : ((s[0].toNat : Int) == 45) = false := by simp; omega
          clear h45
          by_cases hk : 9 < ((s.data.toList.take j).filter isD).length
          · have d1 : decide (9 < ((((s.data.toList.take j).filter isD).length : Nat) : Int)) = true := by simp; omega
            have HK := Lib.hid hk
            clear hk
            go_wp2
            all_goals go_ret2
            all_goals exact ⟨0, false, rfl, pi_spec_many j HK.out, Below.refl _ _⟩
          · have d1 : decide (9 < ((((s.data.toList.take j).filter isD).length : Nat) : Int)) = false := by simp; omega
            have HK := Lib.hid (show ((s.data.toList.take j).filter isD).length ≤ 9 by omega)
            clear hk
            by_cases hl : 10 < s.size
            · have d2 : decide (10 < (s.size : Int)) = true := by simp; omega
              have HL := Lib.hid (show 10 < s.data.toList.length by simpa using hl)
              clear hl
              go_wp2
              all_goals go_ret2
              all_goals exact ⟨0, false, rfl, pi_spec_long HL.out, Below.refl _ _⟩
            · have d2 : decide (10 < (s.size : Int)) = false := by simp; omega
              have HJ := Lib.hid (show s.data.toList.length ≤ j by have : s.size = s.data.toList.length := by simp
                                                                   omega)
              have HDV := Lib.hid hdv
              clear hl hfin
              go_wp2_with (go_at_call 37; (refine (spec_fi _ _ ?_ ?_).mono ?_); (have := HDV.out; omega); (have := HDV.out; omega); rintro e w1 ⟨rfl, hb1⟩)
              all_goals go_ret2
              all_goals first
                | exact ⟨_, true, rfl, pi_fin_yes (neg := false) HC.out HJ.out HK.out (eq_of_same (by assumption)), hb1⟩
                | exact ⟨0, false, rfl, pi_fin_no (neg := false) HC.out HJ.out (ne_of_other (by assumption)), hb1⟩
      · have HC := Lib.hid (cut_of s false ⟨fun h => by simp at h, fun h => absurd h (head_none s hz)⟩)
        by_cases hk : 9 < ((s.data.toList.take j).filter isD).length
        · have d1 : decide (9 < ((((s.data.toList.take j).filter isD).length : Nat) : Int)) = true := by simp; omega
          have HK := Lib.hid hk
          clear hk
          go_wp2
          all_goals go_ret2
          all_goals exact ⟨0, false, rfl, pi_spec_many j HK.out, Below.refl _ _⟩
        · have d1 : decide (9 < ((((s.data.toList.take j).filter isD).length : Nat) : Int)) = false := by simp; omega
          have HK := Lib.hid (show ((s.data.toList.take j).filter isD).length ≤ 9 by omega)
          clear hk
          by_cases hl : 10 < s.size
          · have d2 : decide (10 < (s.size : Int)) = true := by simp; omega
            have HL := Lib.hid (show 10 < s.data.toList.length by simpa using hl)
            clear hl
            go_wp2
            all_goals go_ret2
            all_goals exact ⟨0, false, rfl, pi_spec_long HL.out, Below.refl _ _⟩
          · have d2 : decide (10 < (s.size : Int)) = false := by simp; omega
            have HJ := Lib.hid (show s.data.toList.length ≤ j by have : s.size = s.data.toList.length := by simp
                                                                 omega)
            have HDV := Lib.hid hdv
            clear hl hfin
            go_wp2_with (go_at_call 37; (refine (spec_fi _ _ ?_ ?_).mono ?_); (have := HDV.out; omega); (have := HDV.out; omega); rintro e w1 ⟨rfl, hb1⟩)
            all_goals go_ret2
            all_goals first
              | exact ⟨_, true, rfl, pi_fin_yes (neg := false) HC.out HJ.out HK.out (eq_of_same (by assumption)), hb1⟩
              | exact ⟨0, false, rfl, pi_fin_no (neg := false) HC.out HJ.out (ne_of_other (by assumption)), hb1⟩

theorem strOf_list (l : List UInt8) : (strOf l).data.toList = l := by simp [strOf]

theorem rune_letter (s : ByteArray) (i : Nat) (h : i < s.size) (hn : ¬ (48 ≤ s[i].toNat ∧ s[i].toNat ≤ 57)) : ((Utf8.decode s i).1 : Int) < 48 ∨ (48 ≤ ((Utf8.decode s i).1 : Int) ∧ 57 < ((Utf8.decode s i).1 : Int)) := by
  by_cases ha : s[i].toNat < 128
  · rw [decode_ascii s i h ha]
    simp only
    omega
  · have h1 := (decode_high s i h (by omega)).1
    omega

theorem AllD.snoc {l : List UInt8} {b : UInt8} (h : AllD l) (hb : 48 ≤ b.toNat ∧ b.toNat ≤ 57) : AllD (l ++ [b]) := by
  intro c hc
  rcases List.mem_append.1 hc with hc | hc
  · exact h c hc
  · simp at hc; subst hc; exact hb

theorem iterPos_at' {w : World} {k p : Nat} {s : ByteArray} (h : w.heap[k]? = some (.stringIter s p)) : w.iterPos k = p := by
  simp [World.iterPos, h]

theorem pi_end_yes {l d : List UInt8} {neg : Bool} {i : Nat} (hc : Cut l neg d) (hi : d.take i = d) (hd : AllD (d.take i)) (hl : d.length ≤ 9) (e : Lib.itoa (sgn neg (dv (d.take i))) = l) : PiOk l (sgn neg (dv (d.take i))) true := by
  rw [hi] at hd e ⊢
  exact pi_yes hc hd hl e

theorem pi_end_no {l d : List UInt8} {neg : Bool} {i : Nat} (hc : Cut l neg d) (hi : d.take i = d) (e : Lib.itoa (sgn neg (dv (d.take i))) ≠ l) : PiOk l 0 false := by
  rw [hi] at e
  exact pi_other hc e

end Go.Proofs.YtpmfabpnjacegaaGreatDoor

/-
  Two strings compared; a string that is empty or not. By an AI agent.
-/
namespace Go.Proofs.YtpmfabpnjacegaaGreatDoor
open Go.RowKit

theorem dsize (t : ByteArray) : t.data.toList.length = t.size := by simp
theorem sames {a b : ByteArray} (h : a ≠ b) : (a.toList == b.toList) = false := by
  rw [ByteArray.toList_eq, ByteArray.toList_eq]
  simp
  intro e
  exact h (ByteArray.ext e)
theorem empt {s : ByteArray} (h : s.size = 0) : s = ⟨#[]⟩ := by
  apply ByteArray.ext
  apply Array.ext'
  exact List.eq_nil_of_length_eq_zero (by simpa using h)
theorem fulls {s : ByteArray} (h : ¬ s.size = 0) : (s.toList == ([] : List UInt8)) = false ∧ s.toList.isEmpty = false := by
  rw [ByteArray.toList_eq]
  have h1 : s.data.toList ≠ [] := fun e => h (by rw [← dsize, e]; rfl)
  cases h2 : s.data.toList with
  | nil => exact absurd h2 h1
  | cons a b => exact ⟨rfl, rfl⟩
theorem empties {s : ByteArray} (h : s.size = 0) : (s.toList == ([] : List UInt8)) = true ∧ s.toList.isEmpty = true := by
  rw [empt h, ByteArray.toList_eq]
  exact ⟨rfl, rfl⟩

end Go.Proofs.YtpmfabpnjacegaaGreatDoor

/-
  What spec.l14Test answers. By an AI agent.
-/
namespace Go.Proofs.YtpmfabpnjacegaaGreatDoor
open Go.RowKit
set_option linter.unusedVariables false
set_option linter.unnecessarySimpa false
set_option linter.unusedSimpArgs false

def noT (y : Str) (n : Nat) : Prop := ∀ m, m < n → tryT y m = none
theorem noT_next {y : Str} {n : Nat} (h : noT y n) (hn : tryT y n = none) : noT y (n + 1) := fun m hm => by
  rcases Nat.lt_or_ge m n with h1 | h1
  · exact h m h1
  · obtain rfl : m = n := by omega
    exact hn
theorem spt_some {y : Str} {n : Nat} {t : TS} (h : noT y n) (hn : n < 6) (ht : tryT y n = some t) : sptT y = t := by
  unfold sptT
  rw [first_some hn h ht]
  rfl
theorem spt_none {y : Str} (h : noT y 6) : sptT y = ((0, 0), false) := by
  unfold sptT
  have : (List.range 6).findSome? (tryT y) = none := by
    rw [List.findSome?_eq_none_iff]
    exact fun m hm => h m (List.mem_range.1 hm)
  rw [this]
  rfl
theorem try_short {y : Str} {n : Nat} (h : ¬ (fnL n).length < y.length) : tryT y n = none := by
  unfold tryT
  rw [if_neg (fun e => h e.1)]
theorem try_other {y : Str} {n : Nat} (h : y.take (fnL n).length ≠ fnL n) : tryT y n = none := by
  unfold tryT
  rw [if_neg (fun e => h e.2)]
theorem try_below {y t : Str} {n : Nat} {x : Int} (h1 : (fnL n).length < y.length) (h2 : y.take (fnL n).length = fnL n) (ht : y.drop (fnL n).length = t) (h3 : t.head? = some 60) (hx : piR (t.drop 1) = x) : tryT y n = some (((n : Int), x), true) := by
  unfold tryT
  rw [if_pos ⟨h1, h2⟩, ht, if_pos h3, hx]
theorem try_least {y t : Str} {n : Nat} {x : Int} (h1 : (fnL n).length < y.length) (h2 : y.take (fnL n).length = fnL n) (ht : y.drop (fnL n).length = t) (h3 : t.head? ≠ some 60) (h4 : 2 < t.length) (h5 : t.take 2 = [62, 61]) (hx : piR (t.drop 2) = x) : tryT y n = some (((n : Int), x), false) := by
  unfold tryT
  rw [if_pos ⟨h1, h2⟩, ht, if_neg h3, if_pos ⟨h4, h5⟩, hx]
theorem try_no {y t : Str} {n : Nat} (ht : y.drop (fnL n).length = t) (h3 : t.head? ≠ some 60) (h4 : ¬ (2 < t.length ∧ t.take 2 = [62, 61])) : tryT y n = none := by
  unfold tryT
  split
  · rw [ht, if_neg h3, if_neg h4]
  · rfl
theorem headT_at (T : ByteArray) (h : 0 < T.size) : T.data.toList.head? = some (T[0]'h) := by
  rw [List.head?_eq_getElem?, List.getElem?_eq_getElem (by rw [dsize]; exact h)]
  simp
  rfl
theorem fnR_data (n : Int) : (fnR n).data.toList = fnL n := by simp [fnR]
theorem ext_take (s : ByteArray) (k : Nat) : (s.extract 0 k).data.toList = s.data.toList.take k := by rw [Lib.extract_data]; simp
theorem ext_drop (s : ByteArray) (k : Nat) : (s.extract k s.size).data.toList = s.data.toList.drop k := by
  rw [Lib.extract_data]
  rw [List.take_of_length_le]
  rw [List.length_drop, dsize]
  exact Nat.le_refl _

set_option maxRecDepth 100000 in
set_option maxHeartbeats 16000000 in
theorem spt_any (s : ByteArray) (t : TS) (w : World) (hs : s.size ≤ 1048576) (ht : sptT s.data.toList = t) :
    Calls Tryz.prog 119 #[.string s] w fun e w' => e = .returned (aggTs t) ∧ Below w.heap.size w w' := by
  have HS := Lib.hid hs
  have HT := Lib.hid ht
  clear ht
  obtain ⟨w1, hw1⟩ : ∃ w1, w.alloc (.cells #[.int .i64 0, .int .i64 0, .bool false] 86) = w1 := ⟨_, rfl⟩
  have HB1 := Lib.hid (show Below w.heap.size w w1 by rw [← hw1]; exact (Below.refl w.heap.size w).alloc (Nat.le_refl _) _)
  have HBX := Lib.hid (show BlkV w1 w.heap.size 86 #[.int .i64 0, .int .i64 0, .bool false] by rw [← hw1]; exact BlkV.new _ _ _)
  have HWE := Lib.hid hw1
  clear hw1
  go_enter Tryz.func119, Tryz.ntmps119
  go_wp2
  rw [HWE.out]
  go_loopw [3] (fun i wr => ∃ n : Nat, n ≤ 6 ∧ i = .int .i64 n ∧ noT s.data.toList n ∧ Below w1.heap.size w1 wr) (fun i _ => 6 - (intOf i).toNat)
  case atStart => exact ⟨0, Nat.zero_le _, rfl, fun m hm => absurd hm (Nat.not_lt_zero _), Below.refl _ _⟩
  case round =>
    obtain ⟨n, hn, rfl, hno, hb⟩ := hrel
    have HNO := Lib.hid hno
    have HB := Lib.hid hb
    clear hno hb
    by_cases hlt : n < 6
    · obtain ⟨h, hh⟩ : ∃ h, fnR n = h := ⟨_, rfl⟩
      have HD := Lib.hid (show h.data.toList = fnL n by rw [← hh]; exact fnR_data n)
      have HZ := Lib.hid (show h.size = (fnL n).length by rw [← dsize, HD.out])
      have HF := Lib.hid (fn_spec n h wr hh)
      clear hh
      by_cases hlen : h.size < s.size
      · by_cases hpre : s.extract 0 h.size = h
        · have hpq : (h.toList == h.toList) = true := by simp
          have hsz : (s.extract h.size s.size).size = s.size - h.size := by simp
          have HL1 := Lib.hid (show (fnL n).length < s.data.toList.length by rw [dsize, ← HZ.out]; exact hlen)
          have HL2 := Lib.hid (show s.data.toList.take (fnL n).length = fnL n by rw [← HZ.out, ← ext_take, hpre, HD.out])
          go_upto_region 7 with (go_at_call 38; ((with_reducible refine HF.out.mono ?_); rintro e w2 ⟨rfl, hb2⟩; have HB2 := Lib.hid (HB.out.trans (hb2.mono HB.out.size)); clear hb2))
          obtain ⟨T, hT⟩ : ∃ T, s.extract h.size s.size = T := ⟨_, rfl⟩
          have hT0 : 0 < T.size := by rw [← hT, hsz]; omega
          have hT9 : T.size ≤ 1048576 := by rw [← hT, hsz]; omega
          have HTD := Lib.hid (show s.data.toList.drop (fnL n).length = T.data.toList by rw [← hT, ext_drop, HZ.out])
          rw [hT]
          clear hT hsz hpq hpre
          by_cases h60 : (T[0]'hT0).toNat = 60
          · have hq60 : (((T[0]'hT0).toNat : Int) == 60) = true := by simp; omega
            have HH := Lib.hid (show T.data.toList.head? = some 60 by rw [headT_at T hT0, UInt8.toNat_inj.1 (show (T[0]'hT0).toNat = (60 : UInt8).toNat from h60)])
            have HPI := Lib.hid (fun (W : World) => spec_pi (T.extract 1 T.size) W (by simp; omega))
            have HXD := Lib.hid (ext_drop T 1)
            clear h60
            go_wp2_with (go_at_call 126; ((with_reducible refine (HPI.out _).mono ?_); rintro e w4 ⟨x, ok, rfl, hpi, hb4⟩; have HB4 := Lib.hid (HB2.out.trans (hb4.mono HB2.out.size)); have HPX := Lib.hid (piR_of hpi); clear hpi hb4; refine Hid.out ?_))
            have z := ((((HBX.out.below HB4.out).set_ 0 (.int .i64 (n : Int))).set_ 1 (.int .i64 x)).set_ 2 (.bool true))
            have e0 : _ = some (Value.int .i64 (n : Int)) := z.cell 0
            have e1 : _ = some (Value.int .i64 x) := z.cell 1
            have e2 : _ = some (Value.bool true) := z.cell 2
            have c0 := (HBX.out.below HB4.out).three0
            have c1 := (HBX.out.below HB4.out).three1
            have c2 := (HBX.out.below HB4.out).three2
            have f0 := (HBX.out.below HB4.out).frozen 0
            have f1 := (HBX.out.below HB4.out).frozen 1
            have f2 := (HBX.out.below HB4.out).frozen 2
            refine Lib.hid ?_
            go_wp2
            have HTT := spt_some HNO.out hlt (try_below (x := x) HL1.out HL2.out HTD.out HH.out (by rw [← HXD.out]; exact HPX.out))
            rw [HT.out] at HTT
            subst HTT
            refine bodyPost_ret (v := aggTs (((n : Int), x), true)) (by simp [results, Tryz.results119, go_sem, e0, e1, e2]) rfl ⟨rfl, ?_⟩
            exact HB1.out.trans ((((HB4.out.mono HB1.out.size).setCell (by simp) _).setCell (by simp) _).setCell (by simp) _)
          · have hq60 : (((T[0]'hT0).toNat : Int) == 60) = false := by simp; omega
            have HH := Lib.hid (show T.data.toList.head? ≠ some 60 by
              rw [headT_at T hT0]
              intro e
              injection e with e
              exact h60 (by rw [e]; rfl))
            clear h60
            by_cases h2 : 2 < T.size
            · by_cases hge : T.extract 0 2 = ⟨#[62, 61]⟩
              · have H2 := Lib.hid (show 2 < T.data.toList.length by rw [dsize]; exact h2)
                have HGE := Lib.hid (show T.data.toList.take 2 = [62, 61] by rw [← ext_take, hge])
                have hl2 : (2 : Int) < (T.size : Int) := by omega
                have HPI := Lib.hid (fun (W : World) => spec_pi (T.extract 2 T.size) W (by simp; omega))
                have HXD := Lib.hid (ext_drop T 2)
                go_wp2_with (go_at_call 126; ((with_reducible refine (HPI.out _).mono ?_); rintro e w4 ⟨x, ok, rfl, hpi, hb4⟩; have HB4 := Lib.hid (HB2.out.trans (hb4.mono HB2.out.size)); have HPX := Lib.hid (piR_of hpi); clear hpi hb4; refine Hid.out ?_))
                have z := ((((HBX.out.below HB4.out).set_ 0 (.int .i64 (n : Int))).set_ 1 (.int .i64 x)).set_ 2 (.bool false))
                have e0 : _ = some (Value.int .i64 (n : Int)) := z.cell 0
                have e1 : _ = some (Value.int .i64 x) := z.cell 1
                have e2 : _ = some (Value.bool false) := z.cell 2
                have c0 := (HBX.out.below HB4.out).three0
                have c1 := (HBX.out.below HB4.out).three1
                have c2 := (HBX.out.below HB4.out).three2
                have f0 := (HBX.out.below HB4.out).frozen 0
                have f1 := (HBX.out.below HB4.out).frozen 1
                have f2 := (HBX.out.below HB4.out).frozen 2
                refine Lib.hid ?_
                go_wp2
                have HTT := spt_some HNO.out hlt (try_least (x := x) HL1.out HL2.out HTD.out HH.out H2.out HGE.out (by rw [← HXD.out]; exact HPX.out))
                rw [HT.out] at HTT
                subst HTT
                refine bodyPost_ret (v := aggTs (((n : Int), x), false)) (by simp [results, Tryz.results119, go_sem, e0, e1, e2]) rfl ⟨rfl, ?_⟩
                exact HB1.out.trans ((((HB4.out.mono HB1.out.size).setCell (by simp) _).setCell (by simp) _).setCell (by simp) _)
              · have HTN := Lib.hid (show tryT s.data.toList n = none from try_no HTD.out HH.out (fun e => hge (by
                  apply ByteArray.ext
                  apply Array.toList_inj.1
                  rw [ext_take, e.2])))
                have hl2 : (2 : Int) < (T.size : Int) := by omega
                have hqg := sames hge
                have hqh : ((T.extract 0 2).toList == ([62, 61] : List UInt8)) = false := by
                  have h := hqg
                  rw [ByteArray.toList_eq ⟨#[62, 61]⟩] at h
                  exact h
                go_wp2
                go_roundw
                case rel => exact ⟨n + 1, by omega, by go_num, noT_next HNO.out HTN.out, HB2.out⟩
                case measure => simp [intOf]; omega
            · have HTN := Lib.hid (show tryT s.data.toList n = none from try_no HTD.out HH.out (fun e => h2 (by rw [← dsize]; exact e.1)))
              go_wp2
              go_roundw
              case rel => exact ⟨n + 1, by omega, by go_num, noT_next HNO.out HTN.out, HB2.out⟩
              case measure => simp [intOf]; omega
        · have HTN := Lib.hid (show tryT s.data.toList n = none from try_other (fun e => hpre (by
            apply ByteArray.ext
            apply Array.toList_inj.1
            rw [ext_take, HZ.out, e, HD.out])))
          have hq := sames hpre
          go_wp2_with (go_at_call 38; ((with_reducible refine HF.out.mono ?_); rintro e w2 ⟨rfl, hb2⟩; have HB2 := Lib.hid (HB.out.trans (hb2.mono HB.out.size)); clear hb2))
          go_roundw
          case rel => exact ⟨n + 1, by omega, by go_num, noT_next HNO.out HTN.out, HB2.out⟩
          case measure => simp [intOf]; omega
      · have HTN := Lib.hid (show tryT s.data.toList n = none from try_short (by rw [dsize, ← HZ.out]; exact hlen))
        go_wp2_with (go_at_call 38; ((with_reducible refine HF.out.mono ?_); rintro e w2 ⟨rfl, hb2⟩; have HB2 := Lib.hid (HB.out.trans (hb2.mono HB.out.size)); clear hb2))
        go_roundw
        case rel => exact ⟨n + 1, by omega, by go_num, noT_next HNO.out HTN.out, HB2.out⟩
        case measure => simp [intOf]; omega
    · obtain rfl : n = 6 := by omega
      have HTT := spt_none HNO.out
      rw [HT.out] at HTT
      subst HTT
      have c0 := (HBX.out.below HB.out).three0
      have c1 := (HBX.out.below HB.out).three1
      have c2 := (HBX.out.below HB.out).three2
      have f0 := (HBX.out.below HB.out).frozen 0
      have f1 := (HBX.out.below HB.out).frozen 1
      have f2 := (HBX.out.below HB.out).frozen 2
      have z := ((((HBX.out.below HB.out).set_ 0 (.int .i64 0)).set_ 1 (.int .i64 0)).set_ 2 (.bool false))
      have e0 : _ = some (Value.int .i64 0) := z.cell 0
      have e1 : _ = some (Value.int .i64 0) := z.cell 1
      have e2 : _ = some (Value.bool false) := z.cell 2
      go_wp2
      refine bodyPost_ret (v := aggTs ((0, 0), false)) (by simp [results, Tryz.results119, go_sem, e0, e1, e2]) rfl ⟨rfl, ?_⟩
      exact HB1.out.trans ((((HB.out.mono HB1.out.size).setCell (by simp) _).setCell (by simp) _).setCell (by simp) _)

end Go.Proofs.YtpmfabpnjacegaaGreatDoor

/-
  What the laws' own toStringS, eqStringS, markText, markStringS and heldStringS do, and spec.EqualTokens. By an AI agent.
-/
namespace Go.Proofs.YtpmfabpnjacegaaGreatDoor
open Go.RowKit
set_option linter.unusedVariables false

theorem quiet_below (B : Nat) (w : World) (n : Nat) : Below B w (w.drewN n) := ⟨rfl, rfl, rfl, Nat.le_refl _, fun _ _ => rfl⟩

/-- the first k strings are copied, the rest is empty -/
def fillV (l : List Str) (k : Nat) : List Value := (l.take k).map encStr ++ List.replicate (l.length - k) (.string ⟨#[]⟩)
theorem fill_zero (l : List Str) : fillV l 0 = List.replicate l.length (.string ⟨#[]⟩) := by simp [fillV]
theorem fill_all (l : List Str) : fillV l l.length = l.map encStr := by simp [fillV]
theorem fill_len {l : List Str} {k : Nat} (h : k < l.length) : ((l.take k).map encStr).length = k := by
  rw [List.length_map, List.length_take]; omega
theorem fill_at {l : List Str} {k : Nat} (h : k < l.length) : (fillV l k)[k]? = some (.string ⟨#[]⟩) := by
  unfold fillV
  rw [List.getElem?_append_right (by rw [fill_len h]; omega), fill_len h, Nat.sub_self, List.getElem?_replicate, if_pos (by omega)]
theorem fill_set {l : List Str} {k : Nat} {x : Str} (h : l[k]? = some x) : (fillV l k).set k (encStr x) = fillV l (k + 1) := by
  obtain ⟨hlt, he⟩ := List.getElem?_eq_some_iff.1 h
  have e1 : l.length - k = (l.length - (k + 1)) + 1 := by omega
  unfold fillV
  rw [List.set_append_right _ _ (by rw [fill_len hlt]; omega), fill_len hlt, Nat.sub_self, e1, List.replicate_succ, List.take_succ_eq_append_getElem hlt, he, List.set_cons_zero]
  simp

end Go.Proofs.YtpmfabpnjacegaaGreatDoor

/-
  What spec.l3Put does: one string more in an ascending list of the call's own. By an AI agent.
-/
namespace Go.Proofs.YtpmfabpnjacegaaGreatDoor
open Go.RowKit
set_option linter.unusedVariables false

theorem less_is : ∀ (x y : List UInt8), Op.bytesLess x y = decide (x < y)
  | [], [] => by simp [Op.bytesLess]
  | _ :: _, [] => by simp [Op.bytesLess]
  | [], _ :: _ => by simp [Op.bytesLess]
  | a :: x, b :: y => by
    rw [Op.bytesLess, less_is x y]
    simp only [List.cons_lt_cons_iff]
    by_cases h1 : a < b <;> by_cases h2 : a = b <;> by_cases h3 : x < y <;> simp [h1, h2, h3]
theorem less_yes {x y : Str} {s t : ByteArray} (hs : s.data.toList = x) (ht : t.data.toList = y) (h : x < y) : Op.bytesLess s.toList t.toList = true := by
  rw [less_is, ByteArray.toList_eq, ByteArray.toList_eq, hs, ht]
  exact decide_eq_true h
theorem less_no {x y : Str} {s t : ByteArray} (hs : s.data.toList = x) (ht : t.data.toList = y) (h : ¬ x < y) : Op.bytesLess s.toList t.toList = false := by
  rw [less_is, ByteArray.toList_eq, ByteArray.toList_eq, hs, ht]
  exact decide_eq_false h
theorem str_ne3 {x y : Str} {s t : ByteArray} (hs : s.data.toList = x) (ht : t.data.toList = y) (h : x ≠ y) : (s.toList == t.toList) = false := by
  rw [ByteArray.toList_eq, ByteArray.toList_eq, hs, ht]
  simpa using h
theorem str_eq3 {x y : Str} {s t : ByteArray} (hs : s.data.toList = x) (ht : t.data.toList = y) (h : x = y) : s = t := by
  have h2 : s.data.toList = t.data.toList := by rw [hs, ht, h]
  exact ByteArray.ext (Array.toList_inj.1 h2)

/-- append of a slice that reads as a list to a slice of the call's own -/
theorem run_app (ty : TypeId) (base : Nat) (v : Value) (l : List Str) (w : World) (hown : OwnS w base v l) (a : Option Addr) (c : Nat) (ms : List Str) (hin : InS w a ms) (hn : a = none → c = 0) (hsz : l.length + ms.length ≤ 9000000) (hbase : base ≤ w.heap.size) :
    ∃ v' w', (Builtin.append_ #[112, 112] ty #[v, .slice a ms.length c]).run Tryz.prog w = .ok v' w' ∧ OwnS w' base v' (l ++ ms) ∧ w.grownBy w' v.ownBlock := by
  obtain ⟨i0, hi, hz0, hz1, hz2⟩ := info_parts info_str
  have e1 : (l ++ ms).length = l.length + ms.length := by simp
  have e2 : (l ++ ms).map encStr = l.map encStr ++ ms.map encStr := by simp
  cases a with
  | none =>
    obtain rfl : ms = [] := by
      rcases Nat.eq_zero_or_pos ms.length with h | h
      · exact List.eq_nil_of_length_eq_zero h
      · obtain ⟨_, _, h2, _⟩ := hin h
        cases h2
    rw [hn rfl]
    refine ⟨v, w, run_append_owned_none (P := Tryz.prog) (w := w) base 112 ty 9 i0 1 Tryz.underlying112 hi v l.length (l.map encStr) hown, ?_, World.grownBy.refl _ _⟩
    rw [List.append_nil]
    exact hown
  | some ad =>
    obtain ⟨v', w', h1, h2, h3, -⟩ := run_append_own (P := Tryz.prog) w base 112 ty 9 i0 (.string ⟨#[]⟩) 1 16 Tryz.underlying112 hi hz0 hz1 hz2 rfl (by decide) v l.length (l.map encStr) hown
      ad ms.length c (ms.map encStr) (by simp) (fun j u hj => by
        rw [List.getElem?_map] at hj
        cases hx : ms[j]? with
        | none => rw [hx] at hj; cases hj
        | some x =>
          rw [hx] at hj
          have hlt := (List.getElem?_eq_some_iff.1 hx).1
          obtain ⟨b, off, e, _, hc⟩ := hin (by omega)
          obtain rfl : ad = ⟨b, off, none⟩ := Option.some.inj e
          have h2 : (⟨b, off, none⟩ : Addr).add j = ⟨b, off + j, none⟩ := by unfold Addr.add; split <;> simp_all
          rw [h2, hc j x hx]
          exact hj) (by intro u hu; obtain ⟨x, _, rfl⟩ := List.mem_map.1 hu; rfl) (by unfold maxLen; omega) (by omega) hbase
    refine ⟨v', w', h1, ?_, h3⟩
    unfold OwnS
    rw [e1, e2]
    exact h2

theorem step_app {ops : Array Oper} {o : Oper} {a : Act} {w : World} {K : Act → World → Prop} {Q : Exit → Act → World → Prop} {E : Prop}
    (hg : o.guard = none) (s x : Operand) (hop : o.op = Op.call { callee := Callee.builtin Builtin.append, args := #[s, x], argTypes := #[112, 112] })
    (base : Nat) (v : Value) (l : List Str) (hs : a.eval s = v) (ad : Option Addr) (m c : Nat) (ms : List Str) (hx : a.eval x = .slice ad m c) (hm : m = ms.length)
    (hown : OwnS w base v l) (hin : InS w ad ms) (hn : ad = none → c = 0) (hsz : l.length + ms.length ≤ 9000000) (hbase : base ≤ w.heap.size)
    (hK : ∀ v' w', OwnS w' base v' (l ++ ms) → w.grownBy w' v.ownBlock → K (a.put o.dst v') w') :
    if Region.wanted o (yielded ops a.tmps) = true then Oper.wp Tryz.prog o a w K Q else E := by
  subst hm
  rw [if_pos (by simp [Region.wanted, hg])]
  obtain ⟨v', w', hrun, h1, h2⟩ := run_app o.type base v l w hown ad c ms hin hn hsz hbase
  unfold Oper.wp
  simp [execOp, hop, resolve, invoke, builtin, hs, hx, hrun, Result.andThen]
  exact hK v' w' h1 h2

theorem own_new (w : World) (base g : Nat) (hg : w.heap.size = g) (hb : base ≤ g) : OwnS (w.alloc (.cells #[] 9)) base (.slice (some ⟨g, 0, none⟩) 0 0) [] := by
  subst hg
  exact OwnS.made w base #[] 0 hb (Nat.zero_le _) rfl
theorem in_one (w : World) (g : Nat) (t : ByteArray) (y : Str) (hg : w.heap.size = g) (ht : t.data.toList = y) : InS (w.alloc (.cells #[.string t] 9)) (some ⟨g, 0, none⟩) [y] := by
  subst hg
  intro _
  refine ⟨w.heap.size, 0, rfl, by simp, fun j x hj => ?_⟩
  cases j with
  | zero =>
    simp at hj
    subst hj
    rw [World.cell?_alloc_at _ _ _ _ rfl]
    subst ht
    rfl
  | succ j => simp at hj
theorem InS.grown {w w' : World} {a : Option Addr} {l : List Str} {r : Option Nat} (h : InS w a l) (hg : w.grownBy w' r) (hne : ∀ b off, a = some ⟨b, off, none⟩ → some b ≠ r) : InS w' a l :=
  h.keep hg.size fun b off ha hb => hg.block b hb (hne b off ha)
theorem InS.take' {w : World} {a : Option Addr} {l : List Str} (h : InS w a l) (k : Nat) : InS w a (l.take k) := by
  intro h0
  obtain ⟨b', off', e, hb, hc⟩ := h (by rw [List.length_take] at h0; omega)
  refine ⟨b', off', e, hb, fun j x hj => hc j x ?_⟩
  rw [List.getElem?_take] at hj
  split at hj
  · exact hj
  · cases hj
theorem InS.drop {w : World} {b off : Nat} {l : List Str} (h : InS w (some ⟨b, off, none⟩) l) (k : Nat) : InS w (some ⟨b, off + k, none⟩) (l.drop k) := by
  intro h0
  obtain ⟨b', off', e, hb, hc⟩ := h (by rw [List.length_drop] at h0; omega)
  obtain ⟨rfl, rfl⟩ : b = b' ∧ off = off' := by simpa using e
  refine ⟨b, off + k, rfl, hb, fun j x hj => ?_⟩
  rw [List.getElem?_drop] at hj
  rw [Nat.add_assoc]
  exact hc (k + j) x hj

theorem InS.drop0 {w : World} {b : Nat} {l : List Str} (h : InS w (some ⟨b, 0, none⟩) l) (k : Nat) : InS w (some ⟨b, k, none⟩) (l.drop k) := by
  have h2 := h.drop k
  rw [Nat.zero_add] at h2
  exact h2

/-- what is handed back: a slice of the caller's own -/
def PutsS (w : World) (base : Nat) (l : List Str) (e : Ending) (w' : World) : Prop :=
  ∃ a cap, e = .returned (.slice a l.length cap) ∧ OwnS w' base (.slice a l.length cap) l ∧ Below w.heap.size w w'
theorem PutsS.mk {w w' : World} {base : Nat} {v : Value} {l : List Str} (h : OwnS w' base v l) (hb : Below w.heap.size w w') : PutsS w base l (.returned v) w' := by
  obtain ⟨a, cap, rfl⟩ := h.shape
  exact ⟨a, cap, rfl, h, hb⟩
theorem grown_old {w0 w w' : World} {v : Value} {l : List Str} (hb : Below w0.heap.size w0 w) (hg : w.grownBy w' v.ownBlock) (ho : OwnS w w0.heap.size v l) : Below w0.heap.size w0 w' :=
  hb.grown hg hb.size fun k hk => (World.ownsRow.lt ho k hk).1

end Go.Proofs.YtpmfabpnjacegaaGreatDoor

