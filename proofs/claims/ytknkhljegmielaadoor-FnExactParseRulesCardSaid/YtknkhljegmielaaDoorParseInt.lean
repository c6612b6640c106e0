/-
  What spec.ParseInt and impl.ParseInt answer, for every string of at most 2^20 bytes; the walk of laws.FnExactParseInt. By an AI agent.
-/
import Derived.Test.YtknkhljegmielaaDoorFmtInt
import Derived.Test.YtknkhljegmielaaDoorGPlain
import Derived.Lib.Strings
import Derived.Lib.OthersKept
import Derived.Laws.RangeAny
namespace Go.Proofs.YtknkhljegmielaaDoor
open Go.RowKit
set_option linter.unusedVariables false

def SomePi (s : ByteArray) (w : World) (e : Ending) (w' : World) : Prop := ∃ (n : Int) (ok : Bool), e = .returned (.tuple #[.int .i64 n, .bool ok]) ∧ PiOk s.data.toList n ok ∧ Below w.heap.size w w'

theorem eq_of_same {l : List UInt8} {s : ByteArray} (h : (!(strOf l).toList == s.toList) = false) : l = s.data.toList := by
  rw [show (strOf l).toList = l from ByteArray.toList_mk l, ByteArray.toList_eq] at h
  simpa using h

theorem ne_of_other {l : List UInt8} {s : ByteArray} (h : (!(strOf l).toList == s.toList) = true) : l ≠ s.data.toList := by
  rw [show (strOf l).toList = l from ByteArray.toList_mk l, ByteArray.toList_eq] at h
  simpa using h

theorem filter_snoc_yes (l : List UInt8) (b : UInt8) (h : isD b = true) : (l ++ [b]).filter isD = l.filter isD ++ [b] := by
  rw [List.filter_append]; simp [h]

theorem filter_snoc_no (l : List UInt8) (b : UInt8) (h : isD b = false) : (l ++ [b]).filter isD = l.filter isD := by
  rw [List.filter_append]; simp [h]

theorem byte_at? (s : ByteArray) (k : Nat) (h : k < s.size) : s.data.toList[k]? = some s[k] := by
  rw [List.getElem?_eq_getElem (by simpa using h)]
  rfl

theorem head_at (s : ByteArray) (h : 0 < s.size) : s.data.toList.head? = some s[0] := by
  rw [List.head?_eq_getElem?]
  exact byte_at? s 0 h

/-- where the sign is -/
theorem cut_of (s : ByteArray) (neg : Bool) (h : neg = true ↔ s.data.toList.head? = some 45) : Cut s.data.toList neg (if neg then s.data.toList.drop 1 else s.data.toList) := by
  cases neg with
  | true =>
    have h1 := h.1 rfl
    refine .inl ⟨rfl, ?_⟩
    cases hl : s.data.toList with
    | nil => rw [hl] at h1; simp at h1
    | cons x r => rw [hl] at h1; simp at h1; simp [h1]
  | false =>
    refine .inr ⟨rfl, rfl, fun h1 => ?_⟩
    have := h.2 h1
    simp at this

theorem pi_fin_yes {l d : List UInt8} {neg : Bool} {i : Nat} (hc : Cut l neg d) (hi : l.length ≤ i) (hk : ((l.take i).filter isD).length ≤ 9) (e : Lib.itoa (sgn neg (dv ((l.take i).filter isD))) = l) :
    PiOk l (sgn neg (dv ((l.take i).filter isD))) true := by
  rw [List.take_of_length_le hi] at hk e ⊢
  exact pi_spec_yes hc hk e

theorem pi_fin_no {l d : List UInt8} {neg : Bool} {i : Nat} (hc : Cut l neg d) (hi : l.length ≤ i) (e : Lib.itoa (sgn neg (dv ((l.take i).filter isD))) ≠ l) : PiOk l 0 false := by
  rw [List.take_of_length_le hi] at e
  exact pi_spec_no hc e

theorem head_is (s : ByteArray) (h : 0 < s.size) (h45 : s[0].toNat = 45) : s.data.toList.head? = some 45 := by
  rw [head_at s h]
  congr 1
  exact UInt8.toNat_inj.1 h45

theorem head_not (s : ByteArray) (h : 0 < s.size) (h45 : ¬ s[0].toNat = 45) : ¬ s.data.toList.head? = some 45 := by
  rw [head_at s h]
  intro e
  injection e with e
  rw [e] at h45
  exact h45 rfl

theorem head_none (s : ByteArray) (h : ¬ 0 < s.size) : ¬ s.data.toList.head? = some 45 := by
  have : s.data.toList = [] := List.eq_nil_of_length_eq_zero (by have : s.size = s.data.toList.length := by simp
                                                                 omega)
  rw [this]
  simp

set_option maxRecDepth 100000 in
set_option maxHeartbeats 1000000 in
theorem spec_pi (s : ByteArray) (w : World) (hs : s.size ≤ 1048576) :
    Calls Tryd.prog 42 #[.string s] w (SomePi s w) := by
  have HS := Lib.hid hs
  go_enter Tryd.func42, Tryd.ntmps42
  go_wp2
  go_loop [4, 5, 6] (fun n k i => ∃ j : Nat, j ≤ s.size ∧ j ≤ 11 ∧ i = .int .i64 j ∧ n = .int .i64 (dv ((s.data.toList.take j).filter isD)) ∧ k = .int .i64 (((s.data.toList.take j).filter isD).length : Nat)) (fun _ _ i => 11 - (intOf i).toNat)
  case atStart => exact ⟨0, Nat.zero_le _, by omega, rfl, rfl, rfl⟩
  case round =>
    obtain ⟨j, hj, hj11, rfl, rfl, rfl⟩ := hrel
    have hlen : ((s.data.toList.take j).filter isD).length ≤ j := Nat.le_trans (List.length_filter_le _ _) (List.length_take_le _ _)
    have hdv : dv ((s.data.toList.take j).filter isD) < 100000000000 := by
      have h1 := dv_le (filter_allD (s.data.toList.take j)) (Nat.le_trans hlen hj11)
      have h2 : (10 : Nat) ^ 11 = 100000000000 := by decide
      omega
    by_cases hlt : j < s.size ∧ j < 11
    · obtain ⟨hjs, hjl⟩ := hlt
      have hby := s[j].toNat_lt
      by_cases hd : isD s[j] = true
      · have hd2 : 48 ≤ s[j].toNat ∧ s[j].toNat ≤ 57 := by simpa [isD] using hd
        obtain ⟨hd3, hd4⟩ := hd2
        have HE := Lib.hid (show (s.data.toList.take (j + 1)).filter isD = (s.data.toList.take j).filter isD ++ [s[j]] by rw [take_snoc s j hjs]; exact filter_snoc_yes _ _ hd)
        clear hd
        go_wp2
        go_round
        case rel => exact ⟨j + 1, by omega, by omega, by go_num, by rw [HE.out, dv_snoc]; go_num, by rw [HE.out, List.length_append]; go_num⟩
        case measure => simp [intOf]; omega
      · have hd2 : ¬ (48 ≤ s[j].toNat ∧ s[j].toNat ≤ 57) := by simpa [isD] using hd
        have HE := Lib.hid (show (s.data.toList.take (j + 1)).filter isD = (s.data.toList.take j).filter isD by rw [take_snoc s j hjs]; exact filter_snoc_no _ _ (by simpa using hd))
        have hd3 : s[j].toNat < 48 ∨ (48 ≤ s[j].toNat ∧ 57 < s[j].toNat) := by omega
        clear hd hd2
        rcases hd3 with hx | ⟨hx, hy⟩
        all_goals
          go_wp2
          go_round
        all_goals first
          | exact ⟨j + 1, by omega, by omega, by go_num, by rw [HE.out], by rw [HE.out]⟩
          | (simp [intOf]; omega)
    · have hfin : j = s.size ∨ j = 11 := by omega
      by_cases hz : 0 < s.size
      · by_cases h45 : s[0].toNat = 45
        · have HC := Lib.hid (cut_of s true ⟨fun _ => head_is s hz h45, fun _ => rfl⟩)
          have hb45 : ((s[0].toNat : Int) == 45) = true := by simp; omega
          clear h45
          by_cases hk : 9 < ((s.data.toList.take j).filter isD).length
          · have d1 : decide (9 < ((((s.data.toList.take j).filter isD).length : Nat) : Int)) = true := by simp; omega
            have HK := Lib.hid hk
            clear hk
            go_wp2
            all_goals go_ret2
            all_goals exact ⟨0, false, rfl, pi_spec_many j HK.out, Below.refl _ _⟩
          · have d1 : decide (9 < ((((s.data.toList.take j).filter isD).length : Nat) : Int)) = false := by simp; omega
            have HK := Lib.hid (show ((s.data.toList.take j).filter isD).length ≤ 9 by omega)
            clear hk
            by_cases hl : 10 < s.size
            · have d2 : decide (10 < (s.size : Int)) = true := by simp; omega
              have HL := Lib.hid (show 10 < s.data.toList.length by simpa using hl)
              clear hl
              go_wp2
              all_goals go_ret2
              all_goals exact ⟨0, false, rfl, pi_spec_long HL.out, Below.refl _ _⟩
            · have d2 : decide (10 < (s.size : Int)) = false := by simp; omega
              have HJ := Lib.hid (show s.data.toList.length ≤ j by have : s.size = s.data.toList.length := by simp
                                                                   omega)
              have HDV := Lib.hid hdv
              clear hl hfin
              go_wp2_with (go_at_call 17; (refine (spec_fi _ _ ?_ ?_).mono ?_); (have := HDV.out; omega); (have := HDV.out; omega); rintro e w1 ⟨rfl, hb1⟩)
              all_goals go_ret2
              all_goals first
                | exact ⟨_, true, rfl, pi_fin_yes (neg := true) HC.out HJ.out HK.out (eq_of_same (by assumption)), hb1⟩
                | exact ⟨0, false, rfl, pi_fin_no (neg := true) HC.out HJ.out (ne_of_other (by assumption)), hb1⟩
        · have HC := Lib.hid (cut_of s false ⟨fun h => by simp at h, fun h => absurd h (head_not s hz h45)⟩)
          have hb45 : ((s[0].toNat : Int) == 45) = false := by simp; omega
          clear h45
          by_cases hk : 9 < ((s.data.toList.take j).filter isD).length
          · have d1 : decide (9 < ((((s.data.toList.take j).filter isD).length : Nat) : Int)) = true := by simp; omega
            have HK := Lib.hid hk
            clear hk
            go_wp2
            all_goals go_ret2
            all_goals exact ⟨0, false, rfl, pi_spec_many j HK.out, Below.refl _ _⟩
          · have d1 : decide (9 < ((((s.data.toList.take j).filter isD).length : Nat) : Int)) = false := by simp; omega
            have HK := Lib.hid (show ((s.data.toList.take j).filter isD).length ≤ 9 by omega)
            clear hk
            by_cases hl : 10 < s.size
            · have d2 : decide (10 < (s.size : Int)) = true := by simp; omega
              have HL := Lib.hid (show 10 < s.data.toList.length by simpa using hl)
              clear hl
              go_wp2
              all_goals go_ret2
              all_goals exact ⟨0, false, rfl, pi_spec_long HL.out, Below.refl _ _⟩
            · have d2 : decide (10 < (s.size : Int)) = false := by simp; omega
              have HJ := Lib.hid (show s.data.toList.length ≤ j by have : s.size = s.data.toList.length := by simp
                                                                   omega)
              have HDV := Lib.hid hdv
              clear hl hfin
              go_wp2_with (go_at_call 17; (refine (spec_fi _ _ ?_ ?_).mono ?_); (have := HDV.out; omega); (have := HDV.out; omega); rintro e w1 ⟨rfl, hb1⟩)
              all_goals go_ret2
              all_goals first
                | exact ⟨_, true, rfl, pi_fin_yes (neg := false) HC.out HJ.out HK.out (eq_of_same (by assumption)), hb1⟩
                | exact ⟨0, false, rfl, pi_fin_no (neg := false) HC.out HJ.out (ne_of_other (by assumption)), hb1⟩
      · have HC := Lib.hid (cut_of s false ⟨fun h => by simp at h, fun h => absurd h (head_none s hz)⟩)
        by_cases hk : 9 < ((s.data.toList.take j).filter isD).length
        · have d1 : decide (9 < ((((s.data.toList.take j).filter isD).length : Nat) : Int)) = true := by simp; omega
          have HK := Lib.hid hk
          clear hk
          go_wp2
          all_goals go_ret2
          all_goals exact ⟨0, false, rfl, pi_spec_many j HK.out, Below.refl _ _⟩
        · have d1 : decide (9 < ((((s.data.toList.take j).filter isD).length : Nat) : Int)) = false := by simp; omega
          have HK := Lib.hid (show ((s.data.toList.take j).filter isD).length ≤ 9 by omega)
          clear hk
          by_cases hl : 10 < s.size
          · have d2 : decide (10 < (s.size : Int)) = true := by simp; omega
            have HL := Lib.hid (show 10 < s.data.toList.length by simpa using hl)
            clear hl
            go_wp2
            all_goals go_ret2
            all_goals exact ⟨0, false, rfl, pi_spec_long HL.out, Below.refl _ _⟩
          · have d2 : decide (10 < (s.size : Int)) = false := by simp; omega
            have HJ := Lib.hid (show s.data.toList.length ≤ j by have : s.size = s.data.toList.length := by simp
                                                                 omega)
            have HDV := Lib.hid hdv
            clear hl hfin
            go_wp2_with (go_at_call 17; (refine (spec_fi _ _ ?_ ?_).mono ?_); (have := HDV.out; omega); (have := HDV.out; omega); rintro e w1 ⟨rfl, hb1⟩)
            all_goals go_ret2
            all_goals first
              | exact ⟨_, true, rfl, pi_fin_yes (neg := false) HC.out HJ.out HK.out (eq_of_same (by assumption)), hb1⟩
              | exact ⟨0, false, rfl, pi_fin_no (neg := false) HC.out HJ.out (ne_of_other (by assumption)), hb1⟩

theorem cut_yes (s : ByteArray) (w : World) (h : s.data.toList.head? = some 45) :
    Calls Tryd.prog 73 #[.string s, .string ⟨#[45]⟩] w fun e w' => e = .returned (.tuple #[.string (strOf (s.data.toList.drop 1)), .bool true]) ∧ w = w' := by
  refine (Tryd.strings_CutPrefix s ⟨#[45]⟩ w).mono ?_
  rintro e w' ⟨rfl, rfl⟩
  have hp : Lib.hasPrefix s.data.toList [45] = true := by
    unfold Lib.hasPrefix
    cases hl : s.data.toList with
    | nil => rw [hl] at h; simp at h
    | cons x r => rw [hl] at h; simp at h; subst h; simp [List.isPrefixOf]
  have e1 : Lib.trimPrefix s.data.toList [45] = s.data.toList.drop 1 := by unfold Lib.trimPrefix; rw [if_pos hp]; rfl
  refine ⟨?_, rfl⟩
  show Ending.returned (.tuple #[.string (strOf (Lib.trimPrefix s.data.toList [45])), .bool (Lib.hasPrefix s.data.toList [45])]) = _
  rw [e1, hp]

theorem cut_no (s : ByteArray) (w : World) (h : ¬ s.data.toList.head? = some 45) :
    Calls Tryd.prog 73 #[.string s, .string ⟨#[45]⟩] w fun e w' => e = .returned (.tuple #[.string (strOf s.data.toList), .bool false]) ∧ w = w' := by
  refine (Tryd.strings_CutPrefix s ⟨#[45]⟩ w).mono ?_
  rintro e w' ⟨rfl, rfl⟩
  have hp : Lib.hasPrefix s.data.toList [45] = false := by
    unfold Lib.hasPrefix
    cases hl : s.data.toList with
    | nil => rfl
    | cons x r => rw [hl] at h; simp at h; simp [List.isPrefixOf]; exact fun e => h e.symm
  have e1 : Lib.trimPrefix s.data.toList [45] = s.data.toList := by unfold Lib.trimPrefix; rw [if_neg (by rw [hp]; simp)]
  refine ⟨?_, rfl⟩
  show Ending.returned (.tuple #[.string (strOf (Lib.trimPrefix s.data.toList [45])), .bool (Lib.hasPrefix s.data.toList [45])]) = _
  rw [e1, hp]

theorem strOf_list (l : List UInt8) : (strOf l).data.toList = l := by simp [strOf]

theorem rune_letter (s : ByteArray) (i : Nat) (h : i < s.size) (hn : ¬ (48 ≤ s[i].toNat ∧ s[i].toNat ≤ 57)) : ((Utf8.decode s i).1 : Int) < 48 ∨ (48 ≤ ((Utf8.decode s i).1 : Int) ∧ 57 < ((Utf8.decode s i).1 : Int)) := by
  by_cases ha : s[i].toNat < 128
  · rw [decode_ascii s i h ha]
    simp only
    omega
  · have h1 := (decode_high s i h (by omega)).1
    omega

theorem AllD.snoc {l : List UInt8} {b : UInt8} (h : AllD l) (hb : 48 ≤ b.toNat ∧ b.toNat ≤ 57) : AllD (l ++ [b]) := by
  intro c hc
  rcases List.mem_append.1 hc with hc | hc
  · exact h c hc
  · simp at hc; subst hc; exact hb

theorem iterPos_at' {w : World} {k p : Nat} {s : ByteArray} (h : w.heap[k]? = some (.stringIter s p)) : w.iterPos k = p := by
  simp [World.iterPos, h]

theorem pi_end_yes {l d : List UInt8} {neg : Bool} {i : Nat} (hc : Cut l neg d) (hi : d.take i = d) (hd : AllD (d.take i)) (hl : d.length ≤ 9) (e : Lib.itoa (sgn neg (dv (d.take i))) = l) : PiOk l (sgn neg (dv (d.take i))) true := by
  rw [hi] at hd e ⊢
  exact pi_yes hc hd hl e

theorem pi_end_no {l d : List UInt8} {neg : Bool} {i : Nat} (hc : Cut l neg d) (hi : d.take i = d) (e : Lib.itoa (sgn neg (dv (d.take i))) ≠ l) : PiOk l 0 false := by
  rw [hi] at e
  exact pi_other hc e

set_option maxRecDepth 100000 in
set_option maxHeartbeats 1600000 in
theorem impl_pi_core (s D : ByteArray) (neg : Bool) (w : World) (hc : Cut s.data.toList neg D.data.toList) (ht : TabAt w)
    (hcut : ∀ w, Calls Tryd.prog 73 #[.string s, .string ⟨#[45]⟩] w fun e w' => e = .returned (.tuple #[.string D, .bool neg]) ∧ w = w') :
    Calls Tryd.prog 62 #[.string s] w (SomePi s w) := by
  have HT := Lib.hid ht
  have HC := Lib.hid hc
  have HCUT := Lib.hid hcut
  have HLEN := Lib.hid (show D.size = D.data.toList.length by simp)
  clear ht hc hcut
  by_cases h9 : 9 < D.size
  · cases neg
    all_goals
      go_enter Tryd.func62, Tryd.ntmps62
      go_wp2_with (go_at_call 73; (refine (HCUT.out _).mono ?_); rintro e w' ⟨rfl, rfl⟩)
      go_ret2
      exact ⟨0, false, rfl, pi_long HC.out (by have := HLEN.out; omega), Below.refl _ _⟩
  · have h9' : D.size ≤ 9 := by omega
    clear h9
    cases neg
    all_goals
      go_enter Tryd.func62, Tryd.ntmps62
      go_wp2_with (go_at_call 73; (refine (HCUT.out _).mono ?_); rintro e w' ⟨rfl, rfl⟩)
      go_loopw [6] (fun n wr => ∃ i : Nat, i ≤ D.size ∧ n = .int .i64 (dv (D.data.toList.take i)) ∧ AllD (D.data.toList.take i) ∧ wr.heap[w.heap.size]? = some (.stringIter D i) ∧ Below w.heap.size w wr) (fun _ wr => D.size - wr.iterPos w.heap.size)
      case atStart => exact ⟨0, Nat.zero_le _, rfl, fun b hb => by simp at hb, World.iter_heap w D 0, (Below.refl _ _).alloc (Nat.le_refl _) _⟩
      case round =>
        obtain ⟨i, hi, rfl, had, hit, hb⟩ := hrel
        have hdv : dv (D.data.toList.take i) < 1000000000 := by
          have h1 := dv_le (k := 9) had (by rw [List.length_take]; omega)
          have h2 : (10 : Nat) ^ 9 = 1000000000 := by decide
          omega
        have HDV := Lib.hid hdv
        have HAD := Lib.hid had
        have HIT := Lib.hid hit
        have HB := Lib.hid hb
        clear had hit hb
        by_cases hlt : i < D.size
        · by_cases hdig : 48 ≤ D[i].toNat ∧ D[i].toNat ≤ 57
          · obtain ⟨h48, h57⟩ := hdig
            have hnx := fun ty => Lib.run_next_ascii_at (P := Tryd.prog) wr w.heap.size D i ty HIT.out hlt (by omega)
            have HE := Lib.hid (show dv (D.data.toList.take (i + 1)) = 10 * dv (D.data.toList.take i) + (D[i].toNat - 48) by rw [take_snoc D i hlt, dv_snoc])
            have HA2 := Lib.hid (show AllD (D.data.toList.take (i + 1)) by rw [take_snoc D i hlt]; exact HAD.out.snoc ⟨h48, h57⟩)
            have hit2 := Lib.iterAt_heap wr w.heap.size D i (i + 1) HIT.out
            have HIT2 := Lib.hid hit2
            clear hit2
            go_wp2
            go_roundw
            case rel => exact ⟨i + 1, by omega, by rw [HE.out]; go_num, HA2.out, HIT2.out, Lib.below_iterAt HB.out (Nat.le_refl _) _ _⟩
            case measure =>
              rw [iterPos_at' HIT2.out, iterPos_at' HIT.out]
              omega
          · have hnx := fun ty => Lib.run_next_any_at (P := Tryd.prog) wr w.heap.size D i ty HIT.out hlt
            have hr := rune_letter D i hlt hdig
            have HPI := Lib.hid (pi_letter HC.out (List.mem_of_getElem? (byte_at? D i hlt)) hdig)
            clear hdig
            rcases hr with hr | ⟨hr, hr'⟩
            all_goals
              go_wp2
              go_ret2
              exact ⟨0, false, rfl, HPI.out, Lib.below_iterAt HB.out (Nat.le_refl _) _ _⟩
        · have hnx := fun ty => Lib.run_next_end_at (P := Tryd.prog) wr w.heap.size D i ty HIT.out hlt
          have hall : D.data.toList.take i = D.data.toList := List.take_of_length_le (by have := HLEN.out; omega)
          have HALL := Lib.hid hall
          have HT2 := Lib.hid (HT.out.on HB.out)
          clear hall
          go_wp2_with (go_at_call 55; (refine (impl_fi _ _ ?_ ?_ HT2.out).mono ?_); (have := HDV.out; omega); (have := HDV.out; omega); rintro e w1 ⟨rfl, hb1⟩)
          all_goals go_ret2
          all_goals first
            | exact ⟨_, true, rfl, pi_end_yes HC.out HALL.out HAD.out (by have := HLEN.out; omega) (eq_of_same (by assumption)), HB.out.trans (hb1.mono HB.out.size)⟩
            | exact ⟨0, false, rfl, pi_end_no HC.out HALL.out (ne_of_other (by assumption)), HB.out.trans (hb1.mono HB.out.size)⟩

set_option maxRecDepth 100000 in
theorem impl_pi (s : ByteArray) (w : World) (hs : s.size ≤ 1048576) (ht : TabAt w) :
    Calls Tryd.prog 62 #[.string s] w (SomePi s w) := by
  by_cases hh : s.data.toList.head? = some 45
  · refine impl_pi_core s (strOf (s.data.toList.drop 1)) true w ?_ ht (fun w => cut_yes s w hh)
    rw [strOf_list]
    exact cut_of s true ⟨fun _ => hh, fun _ => rfl⟩
  · refine impl_pi_core s (strOf s.data.toList) false w ?_ ht (fun w => cut_no s w hh)
    rw [strOf_list]
    exact cut_of s false ⟨fun h => by simp at h, fun h => absurd h hh⟩

end Go.Proofs.YtknkhljegmielaaDoor
