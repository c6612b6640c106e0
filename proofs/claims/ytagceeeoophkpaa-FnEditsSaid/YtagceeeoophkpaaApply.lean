/-
  What spec.ApplyScript and impl.ApplyScript answer, for every two strings. By an AI agent.
-/
import Derived.Test.YtagceeeoophkpaaPlainEdit
import Derived.Test.YtagceeeoophkpaaEncVar
import Derived.BigQuiet
import Derived.Deep.QuietTactic
import Derived.Lib.Strings
namespace Go.Proofs.Ytagceeeoophkpaa
open Go.RowKit
set_option linter.unusedVariables false

/-- the answer of ApplyScript -/
def apR (r : Option (List UInt8)) : Ending := .returned (.tuple #[.string (strOf (r.getD [])), .bool r.isSome])

theorem ba_nil {s : ByteArray} (h : ¬ 0 < s.size) : s.data.toList = [] := List.eq_nil_of_length_eq_zero (by have : s.size = s.data.toList.length := by simp
                                                                                                            omega)
theorem ba_len (s : ByteArray) : s.data.toList.length = s.size := by simp
theorem ba_cons (s : ByteArray) (h : 0 < s.size) : s.data.toList = s[0] :: s.data.toList.drop 1 := by
  have hl : 0 < s.data.toList.length := by rw [ba_len]; exact h
  have h1 := List.drop_eq_getElem_cons hl
  rw [List.drop_zero] at h1
  exact h1
theorem ba_at (s : ByteArray) (k : Nat) (h : k < s.size) : s.data.toList.drop k = s[k] :: s.data.toList.drop (k + 1) := by
  have hl : k < s.data.toList.length := by rw [ba_len]; exact h
  exact List.drop_eq_getElem_cons hl
theorem ba_tail (s : ByteArray) (k : Nat) : (s.extract k s.size).data.toList = s.data.toList.drop k := by
  rw [Lib.extract_data]
  rw [List.take_of_length_le (by simp)]
theorem ba_byte {x : UInt8} {n : Nat} (h : x.toNat = n) (hn : n < 256) : x = UInt8.ofNat n := by
  apply UInt8.toNat_inj.1
  rw [h, UInt8.toNat_ofNat', Nat.mod_eq_of_lt hn]
theorem ba_not {x : UInt8} {n : Nat} (h : x.toNat ≠ n) (hn : n < 256) : x ≠ UInt8.ofNat n := fun e => h (by rw [e, UInt8.toNat_ofNat', Nat.mod_eq_of_lt hn])

theorem ba_of_nat (b : UInt8) : UInt8.ofNat (b.toNat : Int).toNat = b := by simp
theorem ba_esize (s : ByteArray) (k : Nat) : (s.extract k s.size).size = s.size - k := by simp
theorem ba_full {s : ByteArray} (h : 0 < s.size) : s.toList.isEmpty = false := by
  rw [ByteArray.toList_eq, ba_cons s h]
  rfl
theorem ba_none {s : ByteArray} (h : ¬ 0 < s.size) : s.toList.isEmpty = true := by
  rw [ByteArray.toList_eq, ba_nil h]
  rfl
theorem ba_one {s : ByteArray} (h : 0 < s.size) (h1 : ¬ 1 < s.size) : s.data.toList.drop 1 = [] := List.drop_eq_nil_of_le (by rw [ba_len]; omega)
theorem app_short {c : UInt8} (a : List UInt8) (h1 : c ≠ 61) (h2 : c ≠ 45) : app a [c] = none := by
  rw [app, if_neg h1, if_neg h2]
  simp
theorem app_empty {c : UInt8} (s : List UInt8) (h : c ≠ 43) : app [] (c :: s) = none := by
  rw [app]
  simp [h]

theorem below_n {base : Nat} {w w' : World} (h : Below base w w') (n : Nat) : Below base w (w'.drewN n) := ⟨h.os, h.tape, h.output, h.size, h.block⟩

/-- where a run of ApplyScript is: r is the answer, l is written, A and S are left -/
def ApAt (r : Option (List UInt8)) (l A S : List UInt8) : Prop := r = (app A S).map (l ++ ·)

theorem ApAt.start {r : Option (List UInt8)} {A S : List UInt8} (h : app A S = r) : ApAt r [] A S := by
  unfold ApAt
  rw [h]
  cases r <;> rfl
theorem ApAt.fin {r : Option (List UInt8)} {l : List UInt8} (h : ApAt r l [] []) : some l = r := by
  unfold ApAt at h
  rw [app_nil] at h
  simpa using h.symm
theorem ApAt.left {r : Option (List UInt8)} {l A : List UInt8} (h : ApAt r l A []) (hA : A ≠ []) : none = r := by
  unfold ApAt at h
  rw [app_nil, if_neg hA] at h
  exact h.symm
theorem ApAt.no {r : Option (List UInt8)} {l A S : List UInt8} (h : ApAt r l A S) (hn : app A S = none) : none = r := by
  unfold ApAt at h
  rw [hn] at h
  exact h.symm
theorem ApAt.keep {r : Option (List UInt8)} {l A S : List UInt8} {x : UInt8} (h : ApAt r l (x :: A) (61 :: S)) : ApAt r (l ++ [x]) A S := by
  unfold ApAt at h ⊢
  rw [h, app_keep]
  cases app A S <;> simp
theorem ApAt.rep {r : Option (List UInt8)} {l A S : List UInt8} {x y : UInt8} (h : ApAt r l (x :: A) (126 :: y :: S)) : ApAt r (l ++ [y]) A S := by
  unfold ApAt at h ⊢
  rw [h, app_rep]
  cases app A S <;> simp
theorem ApAt.del {r : Option (List UInt8)} {l A S : List UInt8} {x : UInt8} (h : ApAt r l (x :: A) (45 :: S)) : ApAt r l A S := by
  unfold ApAt at h ⊢
  rw [h, app_del]
theorem ApAt.ins {r : Option (List UInt8)} {l A S : List UInt8} {y : UInt8} (h : ApAt r l A (43 :: y :: S)) : ApAt r (l ++ [y]) A S := by
  unfold ApAt at h ⊢
  rw [h, app_ins]
  cases app A S <;> simp

set_option maxRecDepth 100000 in
set_option maxHeartbeats 1000000 in
theorem impl_ap (a s : ByteArray) (w : World) (ha : a.size ≤ 1048576) (hs : s.size ≤ 1048576) (r : Option (List UInt8)) (hr : app a.data.toList s.data.toList = r) :
    Calls Try.prog 24 #[.string a, .string s] w fun e w' => e = apR r ∧ Below w.heap.size w w' := by
  have HR := Lib.hid hr
  have HA := Lib.hid ha
  clear hr ha
  go_enter Try.func24, Try.ntmps24
  go_wp2
  go_loopw [0, 1, 6] (fun va vs vo wr => ∃ (A S : ByteArray) (l : List UInt8), va = .string A ∧ vs = .string S ∧ A.size ≤ 1048576 ∧ l.length + S.size ≤ s.size ∧ ApAt r l A.data.toList S.data.toList ∧ OwnB wr w.heap.size vo l ∧ Below w.heap.size w wr)
    (fun _ vs _ _ => match vs with | .string S => S.size | _ => 0)
  case atStart => exact ⟨a, s, [], rfl, rfl, HA.out, by simp, ApAt.start HR.out, OwnB.nil _ _, Below.refl _ _⟩
  case round =>
    obtain ⟨A, S, l, rfl, rfl, hA, hl, hat, hown, hb⟩ := hrel
    have HAT := Lib.hid hat
    have HOWN := Lib.hid hown
    have HB := Lib.hid hb
    clear hat hown hb
    by_cases h0 : 0 < S.size
    · have hby := S[0].toNat_lt
      have he : S.toList.isEmpty = false := ba_full h0
      have HS := Lib.hid (ba_cons S h0)
      have HLN := Lib.hid (show l.length ≤ 70368744177664 by omega)
      have HBS := Lib.hid HB.out.size
      by_cases hz : 0 < A.size
      · have ha : A.toList.isEmpty = false := ba_full hz
        have HAA := Lib.hid (ba_cons A hz)
        have hbA := A[0].toNat_lt
        by_cases c61 : S[0].toNat = 61
        · have HN := Lib.hid (show ApAt r (l ++ [A[0]]) (A.extract 1 A.size).data.toList (S.extract 1 S.size).data.toList by
            have h := HAT.out
            rw [HAA.out, HS.out, ba_byte c61 (by omega)] at h
            rw [ba_tail, ba_tail]
            exact h.keep)
          go_wp2_with (at_builtin; refine append_byte rfl _ _ rfl w.heap.size _ l (A[0].toNat : Int) HOWN.out rfl rfl (by omega) (by omega) HLN.out HBS.out ?_; intro v1 w1 hown1 hb1; have HO1 := Lib.hid hown1; have HB1 := Lib.hid hb1; clear hown1 hb1)
          go_quiet (fail)
          go_wp2
          go_roundw
          case rel =>
            have h := HO1.out
            rw [ba_of_nat] at h
            exact ⟨_, _, _, rfl, rfl, by rw [ba_esize]; omega, by rw [ba_esize, List.length_append]; simp; omega, HN.out, h, below_n (HB.out.trans HB1.out) _⟩
          case measure => simp only [ba_esize]; omega
        · by_cases c45 : S[0].toNat = 45
          · have HN := Lib.hid (show ApAt r l (A.extract 1 A.size).data.toList (S.extract 1 S.size).data.toList by
              have h := HAT.out
              rw [HAA.out, HS.out, ba_byte c45 (by omega)] at h
              rw [ba_tail, ba_tail]
              exact h.del)
            go_wp2
            go_quiet (fail)
            go_wp2
            go_roundw
            case rel => exact ⟨_, _, l, rfl, rfl, by rw [ba_esize]; omega, by rw [ba_esize]; omega, HN.out, HOWN.out, below_n HB.out _⟩
            case measure => simp only [ba_esize]; omega
          · by_cases h1 : 1 < S.size
            · have hby1 := S[1].toNat_lt
              have HS1 := Lib.hid (ba_at S 1 h1)
              by_cases c126 : S[0].toNat = 126
              · have HN := Lib.hid (show ApAt r (l ++ [S[1]]) (A.extract 1 A.size).data.toList (S.extract 2 S.size).data.toList by
                  have h := HAT.out
                  rw [HAA.out, HS.out, HS1.out, ba_byte c126 (by omega)] at h
                  rw [ba_tail, ba_tail]
                  exact h.rep)
                go_wp2_with (at_builtin; refine append_byte rfl _ _ rfl w.heap.size _ l (S[1].toNat : Int) HOWN.out rfl rfl (by omega) (by omega) HLN.out HBS.out ?_; intro v1 w1 hown1 hb1; have HO1 := Lib.hid hown1; have HB1 := Lib.hid hb1; clear hown1 hb1)
                go_quiet (fail)
                go_wp2
                go_roundw
                case rel =>
                  have h := HO1.out
                  rw [ba_of_nat] at h
                  exact ⟨_, _, _, rfl, rfl, by rw [ba_esize]; omega, by rw [ba_esize, List.length_append]; simp; omega, HN.out, h, below_n (HB.out.trans HB1.out) _⟩
                case measure => simp only [ba_esize]; omega
              · by_cases c43 : S[0].toNat = 43
                · have HN := Lib.hid (show ApAt r (l ++ [S[1]]) A.data.toList (S.extract 2 S.size).data.toList by
                    have h := HAT.out
                    rw [HS.out, HS1.out, ba_byte c43 (by omega)] at h
                    rw [ba_tail]
                    exact h.ins)
                  go_wp2_with (at_builtin; refine append_byte rfl _ _ rfl w.heap.size _ l (S[1].toNat : Int) HOWN.out rfl rfl (by omega) (by omega) HLN.out HBS.out ?_; intro v1 w1 hown1 hb1; have HO1 := Lib.hid hown1; have HB1 := Lib.hid hb1; clear hown1 hb1)
                  go_roundw
                  case rel =>
                    have h := HO1.out
                    rw [ba_of_nat] at h
                    exact ⟨_, _, _, rfl, rfl, hA, by rw [ba_esize, List.length_append]; simp; omega, HN.out, h, HB.out.trans HB1.out⟩
                  case measure => simp only [ba_esize]; omega
                · obtain rfl : none = r := HAT.out.no (by
                    rw [HS.out]
                    exact app_other _ _ (ba_not (n := 61) c61 (by omega)) (ba_not (n := 126) c126 (by omega)) (ba_not (n := 45) c45 (by omega)) (ba_not (n := 43) c43 (by omega)))
                  go_wp2
                  go_ret2
                  exact ⟨rfl, HB.out⟩
            · obtain rfl : none = r := HAT.out.no (by
                rw [HS.out, ba_one h0 h1]
                exact app_short _ (ba_not (n := 61) c61 (by omega)) (ba_not (n := 45) c45 (by omega)))
              by_cases c126 : S[0].toNat = 126
              · go_wp2
                go_ret2
                exact ⟨rfl, HB.out⟩
              · by_cases c43 : S[0].toNat = 43
                · go_wp2
                  go_ret2
                  exact ⟨rfl, HB.out⟩
                · go_wp2
                  go_ret2
                  exact ⟨rfl, HB.out⟩
      · have ha : A.toList.isEmpty = true := ba_none hz
        have HA0 := Lib.hid (ba_nil hz)
        by_cases c43 : S[0].toNat = 43
        · by_cases h1 : 1 < S.size
          · have hby1 := S[1].toNat_lt
            have HS1 := Lib.hid (ba_at S 1 h1)
            have HN := Lib.hid (show ApAt r (l ++ [S[1]]) A.data.toList (S.extract 2 S.size).data.toList by
              have h := HAT.out
              rw [HS.out, HS1.out, ba_byte c43 (by omega)] at h
              rw [ba_tail]
              exact h.ins)
            go_wp2_with (at_builtin; refine append_byte rfl _ _ rfl w.heap.size _ l (S[1].toNat : Int) HOWN.out rfl rfl (by omega) (by omega) HLN.out HBS.out ?_; intro v1 w1 hown1 hb1; have HO1 := Lib.hid hown1; have HB1 := Lib.hid hb1; clear hown1 hb1)
            go_roundw
            case rel =>
              have h := HO1.out
              rw [ba_of_nat] at h
              exact ⟨_, _, _, rfl, rfl, hA, by rw [ba_esize, List.length_append]; simp; omega, HN.out, h, HB.out.trans HB1.out⟩
            case measure => simp only [ba_esize]; omega
          · obtain rfl : none = r := HAT.out.no (by
              rw [HS.out, ba_one h0 h1, ba_byte c43 (by omega)]
              exact app_ins_end _)
            go_wp2
            go_ret2
            exact ⟨rfl, HB.out⟩
        · obtain rfl : none = r := HAT.out.no (by
            rw [HS.out, HA0.out]
            exact app_empty _ (ba_not (n := 43) c43 (by omega)))
          by_cases c61 : S[0].toNat = 61
          · go_wp2
            go_ret2
            exact ⟨rfl, HB.out⟩
          · by_cases c126 : S[0].toNat = 126
            · go_wp2
              go_ret2
              exact ⟨rfl, HB.out⟩
            · by_cases c45 : S[0].toNat = 45
              · go_wp2
                go_ret2
                exact ⟨rfl, HB.out⟩
              · go_wp2
                go_ret2
                exact ⟨rfl, HB.out⟩
    · have he : S.toList.isEmpty = true := ba_none h0
      by_cases hz : 0 < A.size
      · have ha : A.toList.isEmpty = false := ba_full hz
        obtain rfl : none = r := by
          have h := HAT.out
          rw [ba_nil h0, ba_cons A hz] at h
          exact h.left (by simp)
        go_wp2
        go_ret2
        exact ⟨rfl, HB.out⟩
      · have ha : A.toList.isEmpty = true := ba_none hz
        obtain rfl : some l = r := by
          have h := HAT.out
          rw [ba_nil h0, ba_nil hz] at h
          exact h.fin
        have hcv := HOWN.out.convert
        clear HR
        go_wp2
        go_ret2
        exact ⟨rfl, HB.out⟩

theorem ext_one (s : ByteArray) (k : Nat) (h : k < s.size) : s.extract k (k + 1) = strOf [s[k]] := by
  apply ByteArray.ext
  apply Array.ext'
  show (s.extract k (k + 1)).data.toList = (strOf [s[k]]).data.toList
  rw [Lib.extract_data, ba_at s k h, show k + 1 - k = 1 by omega]
  rfl

set_option maxRecDepth 100000 in
set_option maxHeartbeats 1000000 in
theorem spec_ap (a s : ByteArray) (w : World) (ha : a.size ≤ 1048576) (hs : s.size ≤ 1048576) (r : Option (List UInt8)) (hr : app a.data.toList s.data.toList = r) :
    Calls Try.prog 26 #[.string a, .string s] w fun e w' => e = apR r ∧ w = w' := by
  have HR := Lib.hid hr
  clear hr
  go_enter Try.func26, Try.ntmps26
  go_wp2
  go_loop [6, 7, 8] (fun vo vi vk => ∃ (i k : Nat) (l : List UInt8), vo = .string (strOf l) ∧ vi = .int .i64 i ∧ vk = .int .i64 k ∧ i ≤ a.size ∧ k ≤ s.size ∧ l.length ≤ k ∧ ApAt r l (a.data.toList.drop i) (s.data.toList.drop k))
    (fun _ _ vk => s.size - (intOf vk).toNat)
  case atStart => exact ⟨0, 0, [], rfl, rfl, rfl, by omega, by omega, by simp, ApAt.start (by rw [List.drop_zero, List.drop_zero]; exact HR.out)⟩
  case round =>
    obtain ⟨i, k, l, rfl, rfl, rfl, hi, hk, hl, hat⟩ := hrel
    have HAT := Lib.hid hat
    clear hat
    have hsz : (strOf l).size = l.length := strOf_size l
    by_cases h0 : k < s.size
    · have hby := s[k].toNat_lt
      have HS := Lib.hid (ba_at s k h0)
      by_cases hz : i < a.size
      · have hbA := a[i].toNat_lt
        have HAA := Lib.hid (ba_at a i hz)
        by_cases c61 : s[k].toNat = 61
        · have HN := Lib.hid (show ApAt r (l ++ [a[i]]) (a.data.toList.drop (i + 1)) (s.data.toList.drop (k + 1)) by
            have h := HAT.out
            rw [HAA.out, HS.out, ba_byte c61 (by omega)] at h
            exact h.keep)
          go_wp2
          go_round
          case rel => exact ⟨i + 1, k + 1, l ++ [a[i]], by rw [ext_one a i hz, strOf_append], by go_num, by go_num, by omega, by omega, by simp; omega, HN.out⟩
          case measure => simp [intOf]; omega
        · by_cases c45 : s[k].toNat = 45
          · have HN := Lib.hid (show ApAt r l (a.data.toList.drop (i + 1)) (s.data.toList.drop (k + 1)) by
              have h := HAT.out
              rw [HAA.out, HS.out, ba_byte c45 (by omega)] at h
              exact h.del)
            go_wp2
            go_round
            case rel => exact ⟨i + 1, k + 1, l, rfl, by go_num, by go_num, by omega, by omega, by omega, HN.out⟩
            case measure => simp [intOf]; omega
          · by_cases h1 : k + 1 < s.size
            · have HS1 := Lib.hid (ba_at s (k + 1) h1)
              have hcast : ((k + 1 : Nat) : Int) = k + 1 := by simp
              by_cases c126 : s[k].toNat = 126
              · have HN := Lib.hid (show ApAt r (l ++ [s[k + 1]]) (a.data.toList.drop (i + 1)) (s.data.toList.drop (k + 2)) by
                  have h := HAT.out
                  rw [HAA.out, HS.out, HS1.out, ba_byte c126 (by omega)] at h
                  exact h.rep)
                go_wp2
                go_round
                case rel => exact ⟨i + 1, k + 2, l ++ [s[k + 1]], by rw [ext_one s (k + 1) h1, strOf_append], by go_num, by go_num, by omega, by omega, by simp; omega, HN.out⟩
                case measure => simp [intOf]; omega
              · by_cases c43 : s[k].toNat = 43
                · have HN := Lib.hid (show ApAt r (l ++ [s[k + 1]]) (a.data.toList.drop i) (s.data.toList.drop (k + 2)) by
                    have h := HAT.out
                    rw [HS.out, HS1.out, ba_byte c43 (by omega)] at h
                    exact h.ins)
                  go_wp2
                  go_round
                  case rel => exact ⟨i, k + 2, l ++ [s[k + 1]], by rw [ext_one s (k + 1) h1, strOf_append], rfl, by go_num, by omega, by omega, by simp; omega, HN.out⟩
                  case measure => simp [intOf]; omega
                · obtain rfl : none = r := HAT.out.no (by
                    rw [HS.out]
                    exact app_other _ _ (ba_not (n := 61) c61 (by omega)) (ba_not (n := 126) c126 (by omega)) (ba_not (n := 45) c45 (by omega)) (ba_not (n := 43) c43 (by omega)))
                  have b126 : ((s[k].toNat : Int) == 126) = false := by simp; omega
                  have b43 : ((s[k].toNat : Int) == 43) = false := by simp; omega
                  go_wp2
                  all_goals go_ret2
                  all_goals exact ⟨rfl, rfl⟩
            · have hk1 : k + 1 = s.size := by omega
              have hk2 : ((k : Int) + 1 == (s.size : Int)) = true := by simp; omega
              obtain rfl : none = r := HAT.out.no (by
                rw [HS.out, show s.data.toList.drop (k + 1) = [] from List.drop_eq_nil_of_le (by rw [ba_len]; omega)]
                exact app_short _ (ba_not (n := 61) c61 (by omega)) (ba_not (n := 45) c45 (by omega)))
              by_cases c126 : s[k].toNat = 126
              · go_wp2
                all_goals go_ret2
                all_goals exact ⟨rfl, rfl⟩
              · by_cases c43 : s[k].toNat = 43
                · go_wp2
                  all_goals go_ret2
                  all_goals exact ⟨rfl, rfl⟩
                · go_wp2
                  all_goals go_ret2
                  all_goals exact ⟨rfl, rfl⟩
      · obtain rfl : i = a.size := by omega
        have HA0 := Lib.hid (show a.data.toList.drop a.size = [] from List.drop_eq_nil_of_le (by rw [ba_len]; omega))
        by_cases c43 : s[k].toNat = 43
        · by_cases h1 : k + 1 < s.size
          · have HS1 := Lib.hid (ba_at s (k + 1) h1)
            have hcast : ((k + 1 : Nat) : Int) = k + 1 := by simp
            have HN := Lib.hid (show ApAt r (l ++ [s[k + 1]]) (a.data.toList.drop a.size) (s.data.toList.drop (k + 2)) by
              have h := HAT.out
              rw [HS.out, HS1.out, ba_byte c43 (by omega)] at h
              exact h.ins)
            go_wp2
            go_round
            case rel => exact ⟨a.size, k + 2, l ++ [s[k + 1]], by rw [ext_one s (k + 1) h1, strOf_append], rfl, by go_num, by omega, by omega, by simp; omega, HN.out⟩
            case measure => simp [intOf]; omega
          · obtain rfl : none = r := HAT.out.no (by
              rw [HS.out, show s.data.toList.drop (k + 1) = [] from List.drop_eq_nil_of_le (by rw [ba_len]; omega), ba_byte c43 (by omega)]
              exact app_ins_end _)
            go_wp2
            all_goals go_ret2
            all_goals exact ⟨rfl, rfl⟩
        · obtain rfl : none = r := HAT.out.no (by
            rw [HS.out, HA0.out]
            exact app_empty _ (ba_not (n := 43) c43 (by omega)))
          by_cases c61 : s[k].toNat = 61
          · go_wp2
            all_goals go_ret2
            all_goals exact ⟨rfl, rfl⟩
          · by_cases c126 : s[k].toNat = 126
            · by_cases h1 : k + 1 < s.size
              · have hcast : ((k + 1 : Nat) : Int) = k + 1 := by simp
                go_wp2
                all_goals go_ret2
                all_goals exact ⟨rfl, rfl⟩
              · go_wp2
                all_goals go_ret2
                all_goals exact ⟨rfl, rfl⟩
            · by_cases c45 : s[k].toNat = 45
              · go_wp2
                all_goals go_ret2
                all_goals exact ⟨rfl, rfl⟩
              · have b126 : ((s[k].toNat : Int) == 126) = false := by simp; omega
                have b43 : ((s[k].toNat : Int) == 43) = false := by simp; omega
                go_wp2
                all_goals go_ret2
                all_goals exact ⟨rfl, rfl⟩
    · obtain rfl : k = s.size := by omega
      have HS0 := Lib.hid (show s.data.toList.drop s.size = [] from List.drop_eq_nil_of_le (by rw [ba_len]; omega))
      by_cases hz : i < a.size
      · obtain rfl : none = r := by
          have h := HAT.out
          rw [HS0.out, ba_at a i hz] at h
          exact h.left (by simp)
        have hne : ((i : Int) == (a.size : Int)) = false := by simp; omega
        go_wp2
        all_goals go_ret2
        all_goals exact ⟨rfl, rfl⟩
      · obtain rfl : i = a.size := by omega
        obtain rfl : some l = r := by
          have h := HAT.out
          rw [HS0.out, List.drop_eq_nil_of_le (show a.data.toList.length ≤ a.size by rw [ba_len]; omega)] at h
          exact h.fin
        go_wp2
        all_goals go_ret2
        all_goals exact ⟨rfl, rfl⟩

end Go.Proofs.Ytagceeeoophkpaa
