/-
  Texts laid together: FmtInt, FmtAt, ParseInt. By an AI agent.
-/
import Derived.Test.YtpldjihajclblaaGMem
import Derived.Test.YtpldjihajclblaaShelf
import Derived.Lib.ItoaLen
import Derived.Lib.ItoaMem
import Derived.Lib.AppendIntMem
import Derived.Lib.LaidTab
import Derived.Test.YtpldjihajclblaaGPlain
import Derived.Lib.Strings
import Derived.Lib.OthersKept
import Derived.Laws.RangeAny
/-
  What spec.FormatInt and impl.FormatInt answer, for every integer. By an AI agent.
-/
namespace Go.Proofs.Ytpldjihajclblaa
open Go.RowKit
set_option linter.unusedVariables false

/-- what has been written of a's digits when k is what is left of a -/
def DecInv (a k : Nat) (l : List UInt8) : Prop := (k = 0 ∧ Lib.decDigits a = l) ∨ (0 < k ∧ Lib.decDigits a = Lib.decDigits k ++ l)

theorem DecInv.start {a : Nat} (h : 0 < a) : DecInv a a [] := .inr ⟨h, by simp⟩

theorem DecInv.step {a k : Nat} {l : List UInt8} (h : DecInv a k l) (hk : 0 < k) : DecInv a (k / 10) (UInt8.ofNat (48 + k % 10) :: l) := by
  rcases h with ⟨h, _⟩ | ⟨_, h⟩
  · omega
  · by_cases h10 : k < 10
    · refine .inl ⟨by omega, ?_⟩
      rw [h, Lib.decDigits_one h10, Nat.mod_eq_of_lt h10]
      rfl
    · refine .inr ⟨by omega, ?_⟩
      rw [h, Lib.decDigits, dif_neg h10, List.append_assoc]
      rfl

theorem DecInv.done {a : Nat} {l : List UInt8} (h : DecInv a 0 l) : Lib.decDigits a = l := by
  rcases h with ⟨_, h⟩ | ⟨h, _⟩
  · exact h
  · omega

theorem dig48 (x : Nat) : (48 : UInt8) + UInt8.ofNat x = UInt8.ofNat (48 + x) := by
  rw [UInt8.ofNat_add]; rfl

theorem str_cons (b c : UInt8) (l : List UInt8) (h : b = c) : Value.string ((⟨#[b]⟩ : ByteArray) ++ strOf l) = .string (strOf (c :: l)) := by
  subst h
  exact congrArg _ (strOf_append [b] l)

theorem dec_len (a : Nat) (h : a ≤ 9223372036854775808) : (Lib.decDigits a).length ≤ 21 := by
  rcases Nat.eq_zero_or_pos a with rfl | h0
  · rw [Lib.decDigits_one (by omega)]; simp
  · have h1 := Lib.itoa_length_le (-(a : Int)) (by omega) (by omega)
    rw [Lib.itoa_neg a h0, List.length_cons] at h1
    omega

theorem DecInv.len {a k : Nat} {l : List UInt8} (h : DecInv a k l) (ha : a ≤ 9223372036854775808) : l.length ≤ 21 := by
  have h1 := dec_len a ha
  rcases h with ⟨_, h⟩ | ⟨_, h⟩
  · rw [h] at h1; exact h1
  · rw [h, List.length_append] at h1; omega

set_option maxRecDepth 100000 in
set_option maxHeartbeats 800000 in
theorem spec_fi_zero (w : World) :
    Calls Try.prog 87 #[.int .i64 0] w fun e w' => e = .returned (.string (strOf (Lib.itoa 0))) ∧ Below w.heap.size w w' := by
  have e : Lib.itoa 0 = [48] := by rw [show (0 : Int) = ((0 : Nat) : Int) from rfl, Lib.itoa_nonneg, Lib.decDigits_one (by omega)]; rfl
  rw [e]
  clear e
  go_enter Try.func87, Try.ntmps87
  go_wp2
  go_ret
  exact ⟨rfl, Below.refl _ _⟩

set_option maxRecDepth 100000 in
set_option maxHeartbeats 800000 in
theorem spec_fi_pos (a : Nat) (w : World) (h0 : 0 < a) (ha : (a : Int) ≤ 9223372036854775807) :
    Calls Try.prog 87 #[.int .i64 a] w fun e w' => e = .returned (.string (strOf (Lib.decDigits a))) ∧ Below w.heap.size w w' := by
  have hz : ((a : Int) == 0) = false := by simp; omega
  have hl0 : decide ((a : Int) < 0) = false := by simp
  go_enter Try.func87, Try.ntmps87
  go_wp2
  clear hz hl0
  go_loopw [0, 3] (fun m o wr => ∃ (k : Nat) (l : List UInt8), k ≤ a ∧ m = .int .i64 k ∧ o = .string (strOf l) ∧ DecInv a k l ∧ Below w.heap.size w wr) (fun m _ _ => (intOf m).toNat)
  case atStart => exact ⟨a, [], Nat.le_refl _, rfl, rfl, DecInv.start h0, Below.refl _ _⟩
  case round =>
    obtain ⟨k, l, hk, rfl, rfl, hd, hb⟩ := hrel
    have hsz : (strOf l).size ≤ 21 := by rw [strOf_size]; exact hd.len (by omega)
    have HD := Lib.hid hd
    have HB := Lib.hid hb
    have hka : (k : Int) ≤ 9223372036854775807 := by omega
    clear hd hb
    by_cases hk0 : k = 0
    · subst hk0
      go_wp2
      go_ret
      exact ⟨ret_str (by rw [HD.out.done]), HB.out⟩
    · have hne : ((k : Int) != 0) = true := by simp; omega
      have hcv := convert_one wr (48 + (k : Int) % 10) (by omega) (by omega)
      go_wp2
      go_roundw
      case rel =>
        refine ⟨k / 10, _, by omega, by go_num, ?_, HD.out.step (by omega), HB.out.trans ((Below.refl _ _).alloc HB.out.size _)⟩
        exact str_cons _ _ l (dig48 _)
      case measure => simp [intOf]; omega

set_option maxRecDepth 100000 in
set_option maxHeartbeats 800000 in
theorem spec_fi_neg (a : Nat) (w : World) (h0 : 0 < a) (ha : (a : Int) ≤ 9223372036854775808) :
    Calls Try.prog 87 #[.int .i64 (-(a : Int))] w fun e w' => e = .returned (.string (strOf (45 :: Lib.decDigits a))) ∧ Below w.heap.size w w' := by
  have hz : (-(a : Int) == 0) = false := by simp; omega
  have hl0 : decide (-(a : Int) < 0) = true := by simp; omega
  go_enter Try.func87, Try.ntmps87
  go_wp2
  clear hz hl0
  go_loopw [0, 3] (fun m o wr => ∃ (k : Nat) (l : List UInt8), k ≤ a ∧ m = .int .i64 (-(k : Int)) ∧ o = .string (strOf l) ∧ DecInv a k l ∧ Below w.heap.size w wr) (fun m _ _ => (-(intOf m)).toNat)
  case atStart => exact ⟨a, [], Nat.le_refl _, rfl, rfl, DecInv.start h0, Below.refl _ _⟩
  case round =>
    obtain ⟨k, l, hk, rfl, rfl, hd, hb⟩ := hrel
    have hsz : (strOf l).size ≤ 21 := by rw [strOf_size]; exact hd.len (by omega)
    have HD := Lib.hid hd
    have HB := Lib.hid hb
    have hka : (k : Int) ≤ 9223372036854775808 := by omega
    clear hd hb
    by_cases hk0 : k = 0
    · subst hk0
      go_wp2
      go_ret
      exact ⟨ret_str (by rw [HD.out.done]; exact strOf_append [45] l), HB.out⟩
    · have hne : (-(k : Int) != 0) = true := by simp; omega
      by_cases hd0 : k % 10 = 0
      · have hcv := convert_one wr 48 (by omega) (by omega)
        have hz10 : (k : Int) % 10 = 0 := by omega
        have HZ := Lib.hid hd0
        clear hd0
        go_wp2
        go_roundw
        case rel =>
          refine ⟨k / 10, _, by omega, by go_num, ?_, HD.out.step (by omega), HB.out.trans ((Below.refl _ _).alloc HB.out.size _)⟩
          exact str_cons _ _ l (by rw [HZ.out]; rfl)
        case measure => simp [intOf]; omega
      · have hcv := convert_one wr (48 + (k : Int) % 10) (by omega) (by omega)
        go_wp2
        go_roundw
        case rel =>
          refine ⟨k / 10, _, by omega, by go_num, ?_, HD.out.step (by omega), HB.out.trans ((Below.refl _ _).alloc HB.out.size _)⟩
          exact str_cons _ _ l (dig48 _)
        case measure => simp [intOf]; omega

theorem spec_fi (n : Int) (w : World) (h0 : -9223372036854775808 ≤ n) (h1 : n ≤ 9223372036854775807) :
    Calls Try.prog 87 #[.int .i64 n] w fun e w' => e = .returned (.string (strOf (Lib.itoa n))) ∧ Below w.heap.size w w' := by
  rcases Int.lt_trichotomy n 0 with h | h | h
  · obtain ⟨a, rfl⟩ : ∃ a : Nat, n = -(a : Int) := ⟨n.natAbs, by omega⟩
    rw [Lib.itoa_neg a (by omega)]
    exact spec_fi_neg a w (by omega) (by omega)
  · subst h
    exact spec_fi_zero w
  · obtain ⟨a, rfl⟩ : ∃ a : Nat, n = (a : Int) := ⟨n.toNat, by omega⟩
    rw [Lib.itoa_nonneg a]
    exact spec_fi_pos a w (by omega) (by omega)

/-- the library's table of powers of ten -/
def TabAt (w : World) : Prop := Lib.TabIs Try.prog w "internal/strconv.uint64pow10" .u64 Lib.pow10Tab

theorem TabAt.on {w w' : World} (h : TabAt w) (hb : Below w.heap.size w w') : TabAt w' := ((Lib.tabBelow_of_tabIs h).on hb).here

end Go.Proofs.Ytpldjihajclblaa

/-
  FormatInt on both sides with its answer under a name. By an AI agent.
-/
namespace Go.Proofs.Ytpldjihajclblaa
open Go.RowKit
set_option linter.unusedVariables false

theorem str_of_list (t : ByteArray) : strOf t.data.toList = t := by
  unfold strOf
  simp

theorem spec_fi_at (n : Int) (t : ByteArray) (w : World) (h0 : -9223372036854775808 ≤ n) (h1 : n ≤ 9223372036854775807) (hn : strOf (Lib.itoa n) = t) :
    Calls Try.prog 87 #[.int .i64 n] w fun e w' => e = .returned (.string t) ∧ Below w.heap.size w w' := by
  rw [← hn]
  exact spec_fi n w h0 h1

end Go.Proofs.Ytpldjihajclblaa

/-
  What spec.ParseInt and impl.ParseInt answer, for every string of at most 2^20 bytes; the walk of laws.FnExactParseInt. By an AI agent.
-/
namespace Go.Proofs.Ytpldjihajclblaa
open Go.RowKit
set_option linter.unusedVariables false

def SomePi (s : ByteArray) (w : World) (e : Ending) (w' : World) : Prop := ∃ (n : Int) (ok : Bool), e = .returned (.tuple #[.int .i64 n, .bool ok]) ∧ PiOk s.data.toList n ok ∧ Below w.heap.size w w'

theorem eq_of_same {l : List UInt8} {s : ByteArray} (h : (!(strOf l).toList == s.toList) = false) : l = s.data.toList := by
  rw [show (strOf l).toList = l from ByteArray.toList_mk l, ByteArray.toList_eq] at h
  simpa using h

theorem ne_of_other {l : List UInt8} {s : ByteArray} (h : (!(strOf l).toList == s.toList) = true) : l ≠ s.data.toList := by
  rw [show (strOf l).toList = l from ByteArray.toList_mk l, ByteArray.toList_eq] at h
  simpa using h

theorem filter_snoc_yes (l : List UInt8) (b : UInt8) (h : isD b = true) : (l ++ [b]).filter isD = l.filter isD ++ [b] := by
  rw [List.filter_append]; simp [h]

theorem filter_snoc_no (l : List UInt8) (b : UInt8) (h : isD b = false) : (l ++ [b]).filter isD = l.filter isD := by
  rw [List.filter_append]; simp [h]

theorem byte_at? (s : ByteArray) (k : Nat) (h : k < s.size) : s.data.toList[k]? = some s[k] := by
  rw [List.getElem?_eq_getElem (by simpa using h)]
  rfl

theorem head_at (s : ByteArray) (h : 0 < s.size) : s.data.toList.head? = some s[0] := by
  rw [List.head?_eq_getElem?]
  exact byte_at? s 0 h

/-- where the sign is -/
theorem cut_of (s : ByteArray) (neg : Bool) (h : neg = true ↔ s.data.toList.head? = some 45) : Cut s.data.toList neg (if neg then s.data.toList.drop 1 else s.data.toList) := by
  cases neg with
  | true =>
    have h1 := h.1 rfl
    refine .inl ⟨rfl, ?_⟩
    cases hl : s.data.toList with
    | nil => rw [hl] at h1; simp at h1
    | cons x r => rw [hl] at h1; simp at h1; simp [h1]
  | false =>
    refine .inr ⟨rfl, rfl, fun h1 => ?_⟩
    have := h.2 h1
    simp at this

theorem pi_fin_yes {l d : List UInt8} {neg : Bool} {i : Nat} (hc : Cut l neg d) (hi : l.length ≤ i) (hk : ((l.take i).filter isD).length ≤ 9) (e : Lib.itoa (sgn neg (dv ((l.take i).filter isD))) = l) :
    PiOk l (sgn neg (dv ((l.take i).filter isD))) true := by
  rw [List.take_of_length_le hi] at hk e ⊢
  exact pi_spec_yes hc hk e

theorem pi_fin_no {l d : List UInt8} {neg : Bool} {i : Nat} (hc : Cut l neg d) (hi : l.length ≤ i) (e : Lib.itoa (sgn neg (dv ((l.take i).filter isD))) ≠ l) : PiOk l 0 false := by
  rw [List.take_of_length_le hi] at e
  exact pi_spec_no hc e

theorem head_is (s : ByteArray) (h : 0 < s.size) (h45 : s[0].toNat = 45) : s.data.toList.head? = some 45 := by
  rw [head_at s h]
  congr 1
  exact UInt8.toNat_inj.1 h45

theorem head_not (s : ByteArray) (h : 0 < s.size) (h45 : ¬ s[0].toNat = 45) : ¬ s.data.toList.head? = some 45 := by
  rw [head_at s h]
  intro e
  injection e with e
  rw [e] at h45
  exact h45 rfl

theorem head_none (s : ByteArray) (h : ¬ 0 < s.size) : ¬ s.data.toList.head? = some 45 := by
  have : s.data.toList = [] := List.eq_nil_of_length_eq_zero (by have : s.size = s.data.toList.length := by simp
                                                                 omega)
  rw [this]
  simp

set_option maxRecDepth 100000 in
set_option maxHeartbeats 1000000 in
theorem spec_pi (s : ByteArray) (w : World) (hs : s.size ≤ 1048576) :
    Calls Try.prog 86 #[.string s] w (SomePi s w) := by
  have HS := Lib.hid hs
  go_enter Try.func86, Try.ntmps86
  go_wp2
  go_loop [4, 5, 6] (fun n k i => ∃ j : Nat, j ≤ s.size ∧ j ≤ 11 ∧ i = .int .i64 j ∧ n = .int .i64 (dv ((s.data.toList.take j).filter isD)) ∧ k = .int .i64 (((s.data.toList.take j).filter isD).length : Nat)) (fun _ _ i => 11 - (intOf i).toNat)
  case atStart => exact ⟨0, Nat.zero_le _, by omega, rfl, rfl, rfl⟩
  case round =>
    obtain ⟨j, hj, hj11, rfl, rfl, rfl⟩ := hrel
    have hlen : ((s.data.toList.take j).filter isD).length ≤ j := Nat.le_trans (List.length_filter_le _ _) (List.length_take_le _ _)
    have hdv : dv ((s.data.toList.take j).filter isD) < 100000000000 := by
      have h1 := dv_le (filter_allD (s.data.toList.take j)) (Nat.le_trans hlen hj11)
      have h2 : (10 : Nat) ^ 11 = 100000000000 := by decide
      omega
    by_cases hlt : j < s.size ∧ j < 11
    · obtain ⟨hjs, hjl⟩ := hlt
      have hby := s[j].toNat_lt
      by_cases hd : isD s[j] = true
      · have hd2 : 48 ≤ s[j].toNat ∧ s[j].toNat ≤ 57 := by simpa [isD] using hd
        obtain ⟨hd3, hd4⟩ := hd2
        have HE := Lib.hid (show (s.data.toList.take (j + 1)).filter isD = (s.data.toList.take j).filter isD ++ [s[j]] by rw [take_snoc s j hjs]; exact filter_snoc_yes _ _ hd)
        clear hd
        go_wp2
        go_round
        case rel => exact ⟨j + 1, by omega, by omega, by go_num, by rw [HE.out, dv_snoc]; go_num, by rw [HE.out, List.length_append]; go_num⟩
        case measure => simp [intOf]; omega
      · have hd2 : ¬ (48 ≤ s[j].toNat ∧ s[j].toNat ≤ 57) := by simpa [isD] using hd
        have HE := Lib.hid (show (s.data.toList.take (j + 1)).filter isD = (s.data.toList.take j).filter isD by rw [take_snoc s j hjs]; exact filter_snoc_no _ _ (by simpa using hd))
        have hd3 : s[j].toNat < 48 ∨ (48 ≤ s[j].toNat ∧ 57 < s[j].toNat) := by omega
        clear hd hd2
        rcases hd3 with hx | ⟨hx, hy⟩
        all_goals
          go_wp2
          go_round
        all_goals first
          | exact ⟨j + 1, by omega, by omega, by go_num, by rw [HE.out], by rw [HE.out]⟩
          | (simp [intOf]; omega)
    · have hfin : j = s.size ∨ j = 11 := by omega
      by_cases hz : 0 < s.size
      · by_cases h45 : s[0].toNat = 45
        · have HC := Lib.hid (cut_of s true ⟨fun _ => head_is s hz h45, fun _ => rfl⟩)
          have hb45 : ((s[0].toNat : Int) == 45) = true := by simp; omega
          clear h45
          by_cases hk : 9 < ((s.data.toList.take j).filter isD).length
          · have d1 : decide (9 < ((((s.data.toList.take j).filter isD).length : Nat) : Int)) = true := by simp; omega
            have HK := Lib.hid hk
            clear hk
            go_wp2
            all_goals go_ret2
            all_goals exact ⟨0, false, rfl, pi_spec_many j HK.out, Below.refl _ _⟩
          · have d1 : decide (9 < ((((s.data.toList.take j).filter isD).length : Nat) : Int)) = false := by simp; omega
            have HK := Lib.hid (show ((s.data.toList.take j).filter isD).length ≤ 9 by omega)
            clear hk
            by_cases hl : 10 < s.size
            · have d2 : decide (10 < (s.size : Int)) = true := by simp; omega
              have HL := Lib.hid (show 10 < s.data.toList.length by simpa using hl)
              clear hl
              go_wp2
              all_goals go_ret2
              all_goals exact ⟨0, false, rfl, pi_spec_long HL.out, Below.refl _ _⟩
            · have d2 : decide (10 < (s.size : Int)) = false := by simp; omega
              have HJ := Lib.hid (show s.data.toList.length ≤ j by have : s.size = s.data.toList.length := by simp
                                                                   omega)
              have HDV := Lib.hid hdv
              clear hl hfin
              go_wp2_with (go_at_call 87; (refine (spec_fi _ _ ?_ ?_).mono ?_); (have := HDV.out; omega); (have := HDV.out; omega); rintro e w1 ⟨rfl, hb1⟩)
              all_goals go_ret2
              all_goals first
                | exact ⟨_, true, rfl, pi_fin_yes (neg := true) HC.out HJ.out HK.out (eq_of_same (by assumption)), hb1⟩
                | exact ⟨0, false, rfl, pi_fin_no (neg := true) HC.out HJ.out (ne_of_other (by assumption)), hb1⟩
        · have HC := Lib.hid (cut_of s false ⟨fun h => by simp at h, fun h => absurd h (head_not s hz h45)⟩)
          have hb45 : ((s[0].toNat : Int) == 45) = false := by simp; omega
          clear h45
          by_cases hk : 9 < ((s.data.toList.take j).filter isD).length
          · have d1 : decide (9 < ((((s.data.toList.take j).filter isD).length : Nat) : Int)) = true := by simp; omega
            have HK := Lib.hid hk
            clear hk
            go_wp2
            all_goals go_ret2
            all_goals exact ⟨0, false, rfl, pi_spec_many j HK.out, Below.refl _ _⟩
          · have d1 : decide (9 < ((((s.data.toList.take j).filter isD).length : Nat) : Int)) = false := by simp; omega
            have HK := Lib.hid (show ((s.data.toList.take j).filter isD).length ≤ 9 by omega)
            clear hk
            by_cases hl : 10 < s.size
            · have d2 : decide (10 < (s.size : Int)) = true := by simp; omega
              have HL := Lib.hid (show 10 < s.data.toList.length by simpa using hl)
              clear hl
              go_wp2
              all_goals go_ret2
              all_goals exact ⟨0, false, rfl, pi_spec_long HL.out, Below.refl _ _⟩
            · have d2 : decide (10 < (s.size : Int)) = false := by simp; omega
              have HJ := Lib.hid (show s.data.toList.length ≤ j by have : s.size = s.data.toList.length := by simp
                                                                   omega)
              have HDV := Lib.hid hdv
              clear hl hfin
              go_wp2_with (go_at_call 87; (refine (spec_fi _ _ ?_ ?_).mono ?_); (have := HDV.out; omega); (have := HDV.out; omega); rintro e w1 ⟨rfl, hb1⟩)
              all_goals go_ret2
              all_goals first
                | exact ⟨_, true, rfl, pi_fin_yes (neg := false) HC.out HJ.out HK.out (eq_of_same (by assumption)), hb1⟩
                | exact ⟨0, false, rfl, pi_fin_no (neg := false) HC.out HJ.out (ne_of_other (by assumption)), hb1⟩
      · have HC := Lib.hid (cut_of s false ⟨fun h => by simp at h, fun h => absurd h (head_none s hz)⟩)
        by_cases hk : 9 < ((s.data.toList.take j).filter isD).length
        · have d1 : decide (9 < ((((s.data.toList.take j).filter isD).length : Nat) : Int)) = true := by simp; omega
          have HK := Lib.hid hk
          clear hk
          go_wp2
          all_goals go_ret2
          all_goals exact ⟨0, false, rfl, pi_spec_many j HK.out, Below.refl _ _⟩
        · have d1 : decide (9 < ((((s.data.toList.take j).filter isD).length : Nat) : Int)) = false := by simp; omega
          have HK := Lib.hid (show ((s.data.toList.take j).filter isD).length ≤ 9 by omega)
          clear hk
          by_cases hl : 10 < s.size
          · have d2 : decide (10 < (s.size : Int)) = true := by simp; omega
            have HL := Lib.hid (show 10 < s.data.toList.length by simpa using hl)
            clear hl
            go_wp2
            all_goals go_ret2
            all_goals exact ⟨0, false, rfl, pi_spec_long HL.out, Below.refl _ _⟩
          · have d2 : decide (10 < (s.size : Int)) = false := by simp; omega
            have HJ := Lib.hid (show s.data.toList.length ≤ j by have : s.size = s.data.toList.length := by simp
                                                                 omega)
            have HDV := Lib.hid hdv
            clear hl hfin
            go_wp2_with (go_at_call 87; (refine (spec_fi _ _ ?_ ?_).mono ?_); (have := HDV.out; omega); (have := HDV.out; omega); rintro e w1 ⟨rfl, hb1⟩)
            all_goals go_ret2
            all_goals first
              | exact ⟨_, true, rfl, pi_fin_yes (neg := false) HC.out HJ.out HK.out (eq_of_same (by assumption)), hb1⟩
              | exact ⟨0, false, rfl, pi_fin_no (neg := false) HC.out HJ.out (ne_of_other (by assumption)), hb1⟩

theorem strOf_list (l : List UInt8) : (strOf l).data.toList = l := by simp [strOf]

theorem rune_letter (s : ByteArray) (i : Nat) (h : i < s.size) (hn : ¬ (48 ≤ s[i].toNat ∧ s[i].toNat ≤ 57)) : ((Utf8.decode s i).1 : Int) < 48 ∨ (48 ≤ ((Utf8.decode s i).1 : Int) ∧ 57 < ((Utf8.decode s i).1 : Int)) := by
  by_cases ha : s[i].toNat < 128
  · rw [decode_ascii s i h ha]
    simp only
    omega
  · have h1 := (decode_high s i h (by omega)).1
    omega

theorem AllD.snoc {l : List UInt8} {b : UInt8} (h : AllD l) (hb : 48 ≤ b.toNat ∧ b.toNat ≤ 57) : AllD (l ++ [b]) := by
  intro c hc
  rcases List.mem_append.1 hc with hc | hc
  · exact h c hc
  · simp at hc; subst hc; exact hb

theorem iterPos_at' {w : World} {k p : Nat} {s : ByteArray} (h : w.heap[k]? = some (.stringIter s p)) : w.iterPos k = p := by
  simp [World.iterPos, h]

theorem pi_end_yes {l d : List UInt8} {neg : Bool} {i : Nat} (hc : Cut l neg d) (hi : d.take i = d) (hd : AllD (d.take i)) (hl : d.length ≤ 9) (e : Lib.itoa (sgn neg (dv (d.take i))) = l) : PiOk l (sgn neg (dv (d.take i))) true := by
  rw [hi] at hd e ⊢
  exact pi_yes hc hd hl e

theorem pi_end_no {l d : List UInt8} {neg : Bool} {i : Nat} (hc : Cut l neg d) (hi : d.take i = d) (e : Lib.itoa (sgn neg (dv (d.take i))) ≠ l) : PiOk l 0 false := by
  rw [hi] at e
  exact pi_other hc e

end Go.Proofs.Ytpldjihajclblaa

