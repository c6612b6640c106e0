/-
  What GramFilter and PassesFilters answer, on both sides. By an AI agent.
-/
import Derived.Test.YtkeimdobcfoplaaPlainFilt
import Derived.Test.YtkeimdobcfoplaaFilt
import Derived.Test.YtkeimdobcfoplaaEdBlk
import Derived.Test.YtkeimdobcfoplaaCmSpec
import Derived.Test.YtkeimdobcfoplaaQgSpec
import Derived.Deep.LoopGhost
namespace Go.Proofs.Ytkeimdobcfoplaa
open Go.RowKit
set_option linter.unusedVariables false

/-- the grams that both strings have -/
def cgN (a b : ByteArray) (m : Nat) : Nat := cgL (gramsL a.data.toList m) (gramsL b.data.toList m)
/-- what GramFilter answers -/
def gfR (a b : ByteArray) (q l : Int) : Bool := goodE (a.size : Int) (b.size : Int) q l && decide (mcV (a.size : Int) (b.size : Int) q l ≤ (cgN a b q.toNat : Int))
theorem gfR_no {a b : ByteArray} {q l : Int} (h : goodE (a.size : Int) (b.size : Int) q l = false) : gfR a b q l = false := by unfold gfR; rw [h]; rfl
theorem gfR_yes {a b : ByteArray} {m : Nat} {l : Int} (h : goodE (a.size : Int) (b.size : Int) (m : Int) l = true) : gfR a b (m : Int) l = decide (mcV (a.size : Int) (b.size : Int) (m : Int) l ≤ (cgN a b m : Int)) := by unfold gfR; rw [h, Int.toNat_natCast]; rfl

theorem grams_mem {s : Str} {m : Nat} {x : Str} (h : x ∈ gramsL s m) : x.length ≤ m := by
  unfold gramsL at h
  obtain ⟨i, -, rfl⟩ := List.mem_map.1 h
  simp
  omega
theorem qg_mem {s : Str} {m : Nat} {x : Str} (h : x ∈ sortL (gramsL s m)) : x.length ≤ m := grams_mem ((sortL_perm _).mem_iff.1 h)

set_option maxRecDepth 100000 in
set_option maxHeartbeats 400000 in
theorem gf_spec (a b : ByteArray) (q l : Int) (r : Bool) (w : World) (ha : a.size ≤ 1048576) (hb : b.size ≤ 1048576) (hr : gfR a b q l = r) :
    Calls Try.prog 27 #[.string a, .string b, .int .i64 q, .int .i64 l] w fun e w' => e = .returned (.bool r) ∧ Below w.heap.size w w' := by
  obtain ⟨g, hg⟩ : ∃ g, goodE (a.size : Int) (b.size : Int) q l = g := ⟨_, rfl⟩
  have HG := Lib.hid hg
  cases g
  · have HV := Lib.hid (show false = r by rw [← hr, gfR_no hg])
    clear hg hr
    go_enter Try.func27, Try.ntmps27
    go_wp2_with (go_at_call 46; (with_reducible refine (good10_is _ _ _ _ _ _ HG.out).mono ?_); rintro e w' ⟨rfl, rfl⟩)
    go_ret
    exact ⟨sret_bool HV.out, Below.refl _ _⟩
  · obtain ⟨⟨x0, x1⟩, ⟨y0, y1⟩, ⟨q0, q1⟩, ⟨l0, l1⟩⟩ := goodE_yes hg
    obtain ⟨m, rfl⟩ := Int.eq_ofNat_of_zero_le (show 0 ≤ q by omega)
    obtain ⟨v, hv⟩ : ∃ v, mcR (a.size : Int) (b.size : Int) (m : Int) l = v := ⟨_, rfl⟩
    obtain ⟨A, hA⟩ : ∃ A, A = qgR a.data.toList (m : Int) := ⟨_, rfl⟩
    obtain ⟨B, hB⟩ : ∃ B, B = qgR b.data.toList (m : Int) := ⟨_, rfl⟩
    have HV := Lib.hid hv
    have hA2 : A = sortL (gramsL a.data.toList m) := by rw [hA, qgR_yes (by omega) (by omega)]
    have hB2 : B = sortL (gramsL b.data.toList m) := by rw [hB, qgR_yes (by omega) (by omega)]
    have HR := Lib.hid (show decide (v ≤ cgramsR A B) = r by
      rw [← hr, gfR_yes hg, ← hv, mcR, hg, hA2, hB2, cgramsR, cg_sort]
      rfl)
    have HQ1 := Lib.hid (show ∀ W, Calls Try.prog 49 #[.string a, .int .i64 m] W (GivesS W A) from fun W => by rw [hA]; exact qg_spec a m W (by omega) (by omega) (by omega))
    have HQ2 := Lib.hid (show ∀ W, Calls Try.prog 49 #[.string b, .int .i64 m] W (GivesS W B) from fun W => by rw [hB]; exact qg_spec b m W (by omega) (by omega) (by omega))
    have HL1 := Lib.hid (show A.length ≤ 4000000 by rw [hA2, sortL_length, grams_len]; have h2 : a.data.toList.length = a.size := Array.length_toList; omega)
    have HL2 := Lib.hid (show B.length ≤ 4000000 by rw [hB2, sortL_length, grams_len]; have h2 : b.data.toList.length = b.size := Array.length_toList; omega)
    have HM1 := Lib.hid (show ∀ x ∈ A, x.length ≤ 1048576 from fun x hx => by rw [hA2] at hx; have := qg_mem hx; omega)
    have HM2 := Lib.hid (show ∀ x ∈ B, x.length ≤ 1048576 from fun x hx => by rw [hB2] at hx; have := qg_mem hx; omega)
    clear hA hB hA2 hB2 hv hg hr
    have HBW := Lib.hid (Below.refl w.heap.size w)
    go_enter Try.func27, Try.ntmps27
    go_wp2_with (first
      | (go_at_call 46; (with_reducible refine (good10_is _ _ _ _ _ _ HG.out).mono ?_); rintro e w' ⟨rfl, rfl⟩)
      | (go_at_call 49; (with_reducible refine (HQ1.out _).mono ?_); rintro e w1 ⟨a1, c1, rfl, ho1, hb1⟩; have HO1 := Lib.hid ho1; have HBW2 := Lib.hid (HBW.out.trans (hb1.mono HBW.out.size)); clear ho1 hb1 HBW; have HBW := HBW2; clear HBW2)
      | (go_at_call 49; (with_reducible refine (HQ2.out _).mono ?_); rintro e w2 ⟨a2, c2, rfl, ho2, hb2⟩; have HO2 := Lib.hid ho2; have HS1 := Lib.hid ((HO1.out.sm HL1.out HM1.out).below hb2); have HBW2 := Lib.hid (HBW.out.trans (hb2.mono HBW.out.size)); clear ho2 hb2 HBW; have HBW := HBW2; clear HBW2)
      | (go_at_call 48; (with_reducible refine (cgrams_spec _ _ _ _ _ _ _ HS1.out (HO2.out.sm HL2.out HM2.out)).mono ?_); rintro e w3 ⟨rfl, hb3⟩; have HBW2 := Lib.hid (HBW.out.trans (hb3.mono HBW.out.size)); clear hb3 HBW; have HBW := HBW2; clear HBW2)
      | (go_at_call 25; (with_reducible refine (mc_spec _ _ _ _ _ _ HV.out).mono ?_); rintro e w' ⟨rfl, rfl⟩))
    go_ret
    exact ⟨sret_bool HR.out, HBW.out⟩

/-- cells of an array of bools -/
def boolC (t : List Bool) : Array Value := (t.map Value.bool).toArray
theorem boolC_at {t : List Bool} {j : Nat} {b : Bool} (h : t[j]? = some b) : (boolC t)[j]? = some (.bool b) := by
  unfold boolC
  rw [List.getElem?_toArray]
  simp [h]
theorem boolC_set (t : List Bool) (j : Nat) (b : Bool) : (boolC t).setIfInBounds j (.bool b) = boolC (t.set j b) := by
  unfold boolC
  simp [List.map_set]

theorem grams_at {s : Str} {m k : Nat} (h : k + m ≤ s.length) : (gramsL s m)[k]? = some ((s.drop k).take m) := by
  have hlt : k < (gramsL s m).length := by rw [grams_len]; omega
  rw [List.getElem?_eq_getElem hlt]
  simp [gramsL]

/-- where the search for partners is -/
structure GfAt (ga gb : List Str) (le k : Nat) (mm : Int) (t : List Bool) : Prop where
  left : mm = (ga.length : Int) - (le : Int) - (k : Int) + (cgL (ga.take k) gb : Int)
  len : t.length = 40
  took : Took gb t (ga.take k)
theorem GfAt.start (ga gb : List Str) (le : Nat) : GfAt ga gb le 0 ((ga.length : Int) - (le : Int)) (List.replicate 40 false) := ⟨by simp [cg_nil], by simp, Took.start gb 40⟩
theorem GfAt.found {ga gb : List Str} {le k j : Nat} {mm : Int} {t : List Bool} {x : Str} (h : GfAt ga gb le k mm t) (hx : ga[k]? = some x) (hj : gb[j]? = some x) (ht : t[j]? = some false) : GfAt ga gb le (k + 1) mm (t.set j true) := by
  obtain ⟨h1, h2⟩ := h.took.yes hj ht
  refine ⟨?_, by rw [List.length_set]; exact h.len, by rw [take_snoc' hx]; exact h2⟩
  rw [take_snoc' hx, cg_snoc, if_pos h1, h.left]
  omega
theorem GfAt.missed {ga gb : List Str} {le k : Nat} {mm : Int} {t : List Bool} {x : Str} (h : GfAt ga gb le k mm t) (hx : ga[k]? = some x) (hl : gb.length ≤ 40) (hn : ∀ j : Nat, gb[j]? = some x → t[j]? = some true) : GfAt ga gb le (k + 1) (mm - 1) t := by
  obtain ⟨h1, h2⟩ := h.took.no (by rw [h.len]; exact hl) hn
  refine ⟨?_, h.len, by rw [take_snoc' hx]; exact h2⟩
  rw [take_snoc' hx, cg_snoc, if_neg h1, h.left]
  omega
theorem GfAt.fin {ga gb : List Str} {le : Nat} {mm : Int} {t : List Bool} (h : GfAt ga gb le ga.length mm t) : decide (0 ≤ mm) = decide ((le : Int) ≤ (cgL ga gb : Int)) := by
  have h1 := h.left
  rw [List.take_length] at h1
  congr 1
  apply propext
  constructor <;> intro _ <;> omega
theorem GfAt.early {ga gb : List Str} {le k : Nat} {mm : Int} {t : List Bool} (h : GfAt ga gb le k mm t) (hk : k ≤ ga.length) (hm : mm < 0) : false = decide ((le : Int) ≤ (cgL ga gb : Int)) := by
  have h1 := h.left
  have h2 := cg_take ga gb k
  symm
  apply decide_eq_false
  omega

set_option maxRecDepth 100000 in
set_option maxHeartbeats 400000 in
theorem gf_impl_no (a b : ByteArray) (q l : Int) (w : World) (ha : a.size ≤ 1048576) (hb : b.size ≤ 1048576) (hg : goodE (a.size : Int) (b.size : Int) q l = false) :
    Calls Try.prog 28 #[.string a, .string b, .int .i64 q, .int .i64 l] w fun e w' => e = .returned (.bool false) ∧ Below w.heap.size w w' := by
  have HV := Lib.hid (show mcR (a.size : Int) (b.size : Int) q l = -1 by rw [mcR, hg]; rfl)
  clear hg
  go_enter Try.func28, Try.ntmps28
  go_wp2
  go_step3
  go_wp2_with (go_at_call 26; (with_reducible refine (mc_impl _ _ _ _ _ _ HV.out).mono ?_); rintro e w1 ⟨rfl, hb1⟩; have HB1 := Lib.hid hb1; clear hb1)
  rw [Exit.noGoto_ret]
  go_ret
  exact ⟨rfl, HB1.out⟩

theorem gram_data (s : ByteArray) (k m : Nat) : (s.extract k (k + m)).data.toList = (s.data.toList.drop k).take m := ext_part s k m

set_option maxRecDepth 100000 in
set_option maxHeartbeats 2000000 in
theorem gf_impl_long (a b : ByteArray) (m : Nat) (l : Int) (le : Nat) (r : Bool) (w : World) (hb : b.size ≤ 40) (hm1 : 1 ≤ m) (hm2 : m ≤ 3) (hma : m ≤ a.size) (ha : a.size ≤ 40)
    (hle : mcR (a.size : Int) (b.size : Int) (m : Int) l = (le : Int)) (hr : decide ((le : Int) ≤ (cgN a b m : Int)) = r) (hle2 : le ≤ 1000) :
    Calls Try.prog 28 #[.string a, .string b, .int .i64 m, .int .i64 l] w fun e w' => e = .returned (.bool r) ∧ Below w.heap.size w w' := by
  have hal : a.data.toList.length = a.size := Array.length_toList
  have hbl : b.data.toList.length = b.size := Array.length_toList
  obtain ⟨ga, hga⟩ : ∃ ga, ga = gramsL a.data.toList m := ⟨_, rfl⟩
  obtain ⟨gb, hgb⟩ : ∃ gb, gb = gramsL b.data.toList m := ⟨_, rfl⟩
  obtain ⟨n, hn⟩ : ∃ n : Nat, a.size + 1 = n + m := ⟨a.size + 1 - m, by omega⟩
  obtain ⟨nb, hnb⟩ : ∃ nb : Nat, nb = b.size + 1 - m := ⟨_, rfl⟩
  obtain ⟨z, hz⟩ : ∃ z : Int, (b.size : Int) - (m : Int) + 1 = z := ⟨_, rfl⟩
  have hni : (a.size : Int) - (m : Int) + 1 = (n : Int) := by omega
  have HGA := Lib.hid hga
  have HGB := Lib.hid hgb
  have HGL := Lib.hid (show ga.length = n by rw [hga, grams_len]; omega)
  have HGLB := Lib.hid (show gb.length = nb by rw [hgb, grams_len]; omega)
  have HN := Lib.hid (show a.size + 1 = n + m from hn)
  have HNB := Lib.hid (show nb = b.size + 1 - m from hnb)
  have HV := Lib.hid hle
  have HR := Lib.hid (show decide ((le : Int) ≤ (cgL ga gb : Int)) = r by rw [← hr, cgN, hga, hgb])
  have HAL := Lib.hid hal
  have HBL := Lib.hid hbl
  have hn0 : (0 : Int) < (n : Int) := by omega
  have hn40 : n ≤ 40 := by omega
  have hnb40 : nb ≤ 40 := by omega
  have hz1 : -3 ≤ z := by omega
  have hz2 : z ≤ 40 := by omega
  have hzn : ∀ j : Nat, j < nb → (j : Int) < z := by intro j hj; omega
  have hzN : ¬ (nb : Int) < z := by omega
  have HZN := Lib.hid hzn
  clear hga hgb hal hbl hle hr hn hnb hzn
  go_enter Try.func28, Try.ntmps28
  go_wp2
  go_step3
  go_wp2_with (go_at_call 26; (with_reducible refine (mc_impl _ _ _ _ _ _ HV.out).mono ?_); rintro e w1 ⟨rfl, hb1⟩; have HB1 := Lib.hid hb1; have HW1 := Lib.hid hb1.size; clear hb1)
  go_step3
  go_wp2
  go_loopg [11, 13] n (fun g s11 s13 wx => ∃ (k : Nat) (mm : Int) (t : List Bool), k + g = n ∧ s13 = .int .i64 k ∧ s11 = .int .i64 mm ∧ -2000 ≤ mm ∧ mm ≤ 2000 ∧ Aside (GfAt ga gb le k mm t) ∧ Aside (BlkV wx w1.heap.size 59 (boolC t)) ∧ Aside (Below w.heap.size w wx))
  case atStart =>
    refine ⟨0, (n : Int) - (le : Int), List.replicate 40 false, by omega, rfl, by first | rfl | simp, by omega, by omega, ?_, ?_, ?_⟩
    · have h := GfAt.start ga gb le
      rw [HGL.out] at h
      exact h
    · exact BlkV.new w1 _ _
    · exact HB1.out.alloc HB1.out.size _
  case round =>
    obtain ⟨k, mm, t, hkg, rfl, rfl, hmm1, hmm2, HF, HK, HB⟩ := hrel
    clear HB1
    cases gk with
    | zero =>
      obtain rfl : k = n := by omega
      have HD := Lib.hid (show decide (0 ≤ mm) = r by rw [← HR.out]; have h := HF.out; rw [← HGL.out] at h; exact h.fin)
      clear HR
      go_wp2
      all_goals first
        | rw [Exit.noGoto_ret]
        | skip
      all_goals go_ret
      all_goals exact ⟨sret_bool HD.out, HB.out⟩
    | succ g =>
      by_cases hm0 : 0 ≤ mm
      · have hlt : k < n := by omega
        have hka : k + m ≤ a.size := by have := HN.out; omega
        have hka2 : (k : Int) + (m : Int) ≤ (a.size : Int) := by omega
        obtain ⟨X, hX⟩ : ∃ X, X = (a.data.toList.drop k).take m := ⟨_, rfl⟩
        have HX := Lib.hid (show ga[k]? = some X by rw [HGA.out, hX]; exact grams_at (by rw [HAL.out]; exact hka))
        have HXD := Lib.hid (show (a.extract k (k + m)).data.toList = X by rw [hX]; exact gram_data a k m)
        clear hX HR
        go_wp2
        go_loopg [47] nb (fun g2 s47 wy => ∃ j : Nat, j + g2 = nb ∧ s47 = .int .i64 j ∧ Aside (∀ i : Nat, i < j → gb[i]? = some X → t[i]? = some true) ∧ Aside (BlkV wy w1.heap.size 59 (boolC t)) ∧ Aside (Below w.heap.size w wy))
        case atStart => exact ⟨0, by omega, by first | rfl | simp, fun i hi => absurd hi (by omega), HK, HB⟩
        case round =>
          obtain ⟨j, hjg, rfl, HJ, HK2, HB2⟩ := hrel
          cases gk with
          | zero =>
            obtain rfl : j = nb := by omega
            have HM := Lib.hid (HF.out.missed HX.out (by rw [HGLB.out]; exact hnb40) (fun i hi => HJ.out i (by rw [← HGLB.out]; exact (List.getElem?_eq_some_iff.1 hi).1) hi))
            go_wp2
            go_roundg g
            case measure => omega
            case rel => exact ⟨k + 1, mm - 1, t, by omega, by go_num, rfl, by omega, by omega, HM.out, HK2, HB2⟩
          | succ g2 =>
            have hjlt : j < nb := by omega
            have hjz := HZN.out j hjlt
            have hjb : j + m ≤ b.size := by have := HNB.out; omega
            have hjb2 : (j : Int) + (m : Int) ≤ (b.size : Int) := by omega
            have hj40 : j < 40 := by omega
            obtain ⟨tb, htb⟩ : ∃ tb, t[j]? = some tb := ⟨_, List.getElem?_eq_getElem (by rw [HF.out.len]; exact hj40)⟩
            have HTB := Lib.hid htb
            have hcell : wr.cell? ⟨w1.heap.size, j, none⟩ = some (.bool tb) := by rw [HK2.out.cell]; exact boolC_at htb
            have hfz := HK2.out.frozen j
            have HG := Lib.hid (show gb[j]? = some ((b.data.toList.drop j).take m) by rw [HGB.out]; exact grams_at (by rw [HBL.out]; exact hjb))
            clear htb
            cases tb
            · by_cases hxy : (b.data.toList.drop j).take m = X
              · have hcmp : ((a.extract k (k + m)).toList == (b.extract j (j + m)).toList) = true := by
                  rw [ByteArray.toList_eq, ByteArray.toList_eq, HXD.out, gram_data b j m, hxy]
                  simp
                have HFD := Lib.hid (HF.out.found HX.out (by rw [← hxy]; exact HG.out) HTB.out)
                clear hxy
                go_wp2
                go_quiet (fail)
                go_wp2
                go_roundg g
                case measure => omega
                case rel => exact ⟨k + 1, mm, t.set j true, by omega, by go_num, rfl, by omega, by omega, HFD.out, by rw [← boolC_set]; exact (HK2.out.n _).set_ _ _, (belowN HB2.out _).setCell HW1.out _⟩
              · have hcmp : ((a.extract k (k + m)).toList == (b.extract j (j + m)).toList) = false := by
                  rw [ByteArray.toList_eq, ByteArray.toList_eq, HXD.out, gram_data b j m]
                  simp
                  exact fun e => hxy e.symm
                have HJ2 := Lib.hid (show ∀ i : Nat, i < j + 1 → gb[i]? = some X → t[i]? = some true from fun i hi he => by
                  by_cases e : i = j
                  · subst e
                    rw [HG.out] at he
                    injection he with he
                    exact absurd he hxy
                  · exact HJ.out i (by omega) he)
                clear hxy
                go_wp2
                go_quiet (fail)
                go_wp2
                go_roundg g2
                case measure => omega
                case rel => exact ⟨j + 1, by omega, by go_num, HJ2.out, HK2.out.n _, belowN HB2.out _⟩
            · have HJ2 := Lib.hid (show ∀ i : Nat, i < j + 1 → gb[i]? = some X → t[i]? = some true from fun i hi he => by
                by_cases e : i = j
                · subst e
                  exact HTB.out
                · exact HJ.out i (by omega) he)
              go_wp2
              go_quiet (fail)
              go_wp2
              go_roundg g2
              case measure => omega
              case rel => exact ⟨j + 1, by omega, by go_num, HJ2.out, HK2.out.n _, belowN HB2.out _⟩
      · have hlt : k < n := by omega
        have HE := Lib.hid (show false = r by rw [← HR.out]; exact HF.out.early (by rw [HGL.out]; omega) (by omega))
        have dm : decide (0 ≤ mm) = false := by simp; omega
        clear HR
        go_wp2
        all_goals first
          | rw [Exit.noGoto_ret]
          | skip
        all_goals go_ret
        all_goals exact ⟨sret_bool HE.out, HB.out⟩

theorem mcV_le {x y q l : Int} (h : goodE x y q l = true) : mcV x y q l ≤ 1000 := by
  obtain ⟨⟨x0, x1⟩, ⟨y0, y1⟩, ⟨q0, q1⟩, ⟨l0, l1⟩⟩ := goodE_yes h
  have := prod_range q0 q1 l0 l1
  unfold mcV mxI
  split <;> split <;> omega
theorem mcR_is {x y q l : Int} (h : goodE x y q l = true) : ∃ le : Nat, mcR x y q l = (le : Int) ∧ mcV x y q l = (le : Int) ∧ le ≤ 1000 := by
  obtain ⟨le, hle⟩ := Int.eq_ofNat_of_zero_le (mcV_nn x y q l)
  have := mcV_le h
  exact ⟨le, by rw [mcR, h]; exact hle, hle, by omega⟩

set_option maxRecDepth 100000 in
set_option maxHeartbeats 400000 in
theorem gf_impl_short (a b : ByteArray) (m : Nat) (l : Int) (le : Nat) (r : Bool) (w : World) (hb : b.size ≤ 40) (hm1 : 1 ≤ m) (hm2 : m ≤ 3) (hma : a.size < m) (ha : a.size ≤ 40)
    (hle : mcR (a.size : Int) (b.size : Int) (m : Int) l = (le : Int)) (hr : decide ((le : Int) ≤ (cgN a b m : Int)) = r) (hle2 : le ≤ 1000) :
    Calls Try.prog 28 #[.string a, .string b, .int .i64 m, .int .i64 l] w fun e w' => e = .returned (.bool r) ∧ Below w.heap.size w w' := by
  have hal : a.data.toList.length = a.size := Array.length_toList
  have HR := Lib.hid (show decide (le = 0) = r by
    rw [← hr, cgN, grams_few (by omega), cg_nil]
    congr 1
    apply propext
    constructor <;> intro _ <;> omega)
  have HV := Lib.hid hle
  clear hr hle hal
  by_cases h0 : le = 0
  · subst h0
    go_enter Try.func28, Try.ntmps28
    go_wp2
    go_step3
    go_wp2_with (go_at_call 26; (with_reducible refine (mc_impl _ _ _ _ _ _ HV.out).mono ?_); rintro e w1 ⟨rfl, hb1⟩; have HB1 := Lib.hid hb1; clear hb1)
    go_step3
    go_wp2
    refine wp_loop_rounds 1 ?_
    rw [rounds_succ]
    go_wp2
    all_goals first
      | rw [Exit.noGoto_ret]
      | skip
    all_goals go_ret
    all_goals exact ⟨sret_bool (by rw [← HR.out]; rfl), HB1.out.alloc HB1.out.size _⟩
  · go_enter Try.func28, Try.ntmps28
    go_wp2
    go_step3
    go_wp2_with (go_at_call 26; (with_reducible refine (mc_impl _ _ _ _ _ _ HV.out).mono ?_); rintro e w1 ⟨rfl, hb1⟩; have HB1 := Lib.hid hb1; clear hb1)
    go_step3
    go_wp2
    refine wp_loop_rounds 1 ?_
    rw [rounds_succ]
    go_wp2
    all_goals first
      | rw [Exit.noGoto_ret]
      | skip
    all_goals go_ret
    all_goals exact ⟨sret_bool (by rw [← HR.out]; simp <;> omega), HB1.out.alloc HB1.out.size _⟩

theorem gf_impl (a b : ByteArray) (q l : Int) (r : Bool) (w : World) (ha : a.size ≤ 1048576) (hb : b.size ≤ 1048576) (hr : gfR a b q l = r) :
    Calls Try.prog 28 #[.string a, .string b, .int .i64 q, .int .i64 l] w fun e w' => e = .returned (.bool r) ∧ Below w.heap.size w w' := by
  cases hg : goodE (a.size : Int) (b.size : Int) q l
  · rw [gfR_no hg] at hr
    subst hr
    exact gf_impl_no a b q l w ha hb hg
  · obtain ⟨⟨x0, x1⟩, ⟨y0, y1⟩, ⟨q0, q1⟩, ⟨l0, l1⟩⟩ := goodE_yes hg
    obtain ⟨m, rfl⟩ := Int.eq_ofNat_of_zero_le (show 0 ≤ q by omega)
    obtain ⟨le, h1, h2, h3⟩ := mcR_is hg
    rw [gfR_yes hg, h2] at hr
    by_cases hma : m ≤ a.size
    · exact gf_impl_long a b m l le r w (by omega) (by omega) (by omega) hma (by omega) h1 hr h3
    · exact gf_impl_short a b m l le r w (by omega) (by omega) (by omega) (by omega) (by omega) h1 hr h3

/-- what PassesFilters answers -/
def pfR (a b : ByteArray) (l : Int) : Bool := lfR a b l && (gfR a b 2 l && gfR a b 3 l)
theorem three_ways (x y : Bool) : x = false ∨ (x = true ∧ y = false) ∨ (x = true ∧ y = true) := by
  cases x <;> cases y <;> simp

set_option maxRecDepth 100000 in
set_option maxHeartbeats 400000 in
theorem pf_spec (a b : ByteArray) (l : Int) (r : Bool) (w : World) (ha : a.size ≤ 1048576) (hb : b.size ≤ 1048576) (hr : pfR a b l = r) :
    Calls Try.prog 13 #[.string a, .string b, .int .i64 l] w fun e w' => e = .returned (.bool r) ∧ Below w.heap.size w w' := by
  obtain ⟨x, hx⟩ : ∃ x, lfR a b l = x := ⟨_, rfl⟩
  obtain ⟨y, hy⟩ : ∃ y, gfR a b 2 l = y := ⟨_, rfl⟩
  obtain ⟨z, hz⟩ : ∃ z, gfR a b 3 l = z := ⟨_, rfl⟩
  have HV := Lib.hid (show (x && (y && z)) = r by rw [← hr, pfR, hx, hy, hz])
  have HX := Lib.hid hx
  have HY := Lib.hid hy
  have HZ := Lib.hid hz
  have HBW := Lib.hid (Below.refl w.heap.size w)
  clear hx hy hz hr
  rcases three_ways x y with rfl | ⟨rfl, rfl⟩ | ⟨rfl, rfl⟩
  all_goals
    go_enter Try.func13, Try.ntmps13
    go_wp2_with (first
      | (go_at_call 15; (with_reducible refine (lf_spec _ _ _ _ _ ha hb HX.out).mono ?_); rintro e w' ⟨rfl, rfl⟩)
      | (go_at_call 27; (with_reducible refine (gf_spec _ _ _ _ _ _ ha hb HY.out).mono ?_); rintro e w2 ⟨rfl, hb2⟩; have HBW2 := Lib.hid (HBW.out.trans (hb2.mono HBW.out.size)); clear hb2 HBW; have HBW := HBW2; clear HBW2)
      | (go_at_call 27; (with_reducible refine (gf_spec _ _ _ _ _ _ ha hb HZ.out).mono ?_); rintro e w2 ⟨rfl, hb2⟩; have HBW2 := Lib.hid (HBW.out.trans (hb2.mono HBW.out.size)); clear hb2 HBW; have HBW := HBW2; clear HBW2))
    all_goals go_ret
    all_goals exact ⟨sret_bool (by rw [← HV.out]; first | rfl | (cases z <;> rfl)), HBW.out⟩

set_option maxRecDepth 100000 in
set_option maxHeartbeats 400000 in
theorem pf_impl (a b : ByteArray) (l : Int) (r : Bool) (w : World) (ha : a.size ≤ 1048576) (hb : b.size ≤ 1048576) (hr : pfR a b l = r) :
    Calls Try.prog 12 #[.string a, .string b, .int .i64 l] w fun e w' => e = .returned (.bool r) ∧ Below w.heap.size w w' := by
  obtain ⟨x, hx⟩ : ∃ x, lfR a b l = x := ⟨_, rfl⟩
  obtain ⟨y, hy⟩ : ∃ y, gfR a b 2 l = y := ⟨_, rfl⟩
  obtain ⟨z, hz⟩ : ∃ z, gfR a b 3 l = z := ⟨_, rfl⟩
  have HV := Lib.hid (show (x && (y && z)) = r by rw [← hr, pfR, hx, hy, hz])
  have HX := Lib.hid hx
  have HY := Lib.hid hy
  have HZ := Lib.hid hz
  have HBW := Lib.hid (Below.refl w.heap.size w)
  clear hx hy hz hr
  rcases three_ways x y with rfl | ⟨rfl, rfl⟩ | ⟨rfl, rfl⟩
  all_goals
    go_enter Try.func12, Try.ntmps12
    go_wp2_with (first
      | (go_at_call 14; (with_reducible refine (lf_impl _ _ _ _ _ ha hb HX.out).mono ?_); rintro e w' ⟨rfl, rfl⟩)
      | (go_at_call 28; (with_reducible refine (gf_impl _ _ _ _ _ _ ha hb HY.out).mono ?_); rintro e w2 ⟨rfl, hb2⟩; have HBW2 := Lib.hid (HBW.out.trans (hb2.mono HBW.out.size)); clear hb2 HBW; have HBW := HBW2; clear HBW2)
      | (go_at_call 28; (with_reducible refine (gf_impl _ _ _ _ _ _ ha hb HZ.out).mono ?_); rintro e w2 ⟨rfl, hb2⟩; have HBW2 := Lib.hid (HBW.out.trans (hb2.mono HBW.out.size)); clear hb2 HBW; have HBW := HBW2; clear HBW2))
    all_goals go_ret
    all_goals exact ⟨sret_bool (by rw [← HV.out]; first | rfl | (cases z <;> rfl)), HBW.out⟩

/-- no pair within the limit is dropped -/
theorem lev_lfR {a b : ByteArray} {l : Int} (h : ((lev false a.data.toList b.data.toList : Nat) : Int) ≤ l) : lfR a b l = true := by
  have h1 := lev_lens false a.data.toList b.data.toList
  have h2 : a.data.toList.length = a.size := Array.length_toList
  have h3 : b.data.toList.length = b.size := Array.length_toList
  rw [h2, h3] at h1
  unfold lfR
  apply decide_eq_true
  omega
theorem lev_gfR {a b : ByteArray} {l : Int} {m : Nat} (ha : a.size ≤ 40) (hb : b.size ≤ 40) (hm1 : 1 ≤ m) (hm2 : m ≤ 3) (hl : l ≤ 40) (h : ((lev false a.data.toList b.data.toList : Nat) : Int) ≤ l) : gfR a b (m : Int) l = true := by
  have hg : goodE (a.size : Int) (b.size : Int) (m : Int) l = true := by
    simp only [goodE, Bool.and_eq_true, decide_eq_true_eq]
    omega
  obtain ⟨n, rfl⟩ := Int.eq_ofNat_of_zero_le (show 0 ≤ l by omega)
  have h1 := grams_near (q := m) (by omega) a.data.toList b.data.toList
  have h2 : a.data.toList.length = a.size := Array.length_toList
  have h3 : b.data.toList.length = b.size := Array.length_toList
  have h4 : m * lev false a.data.toList b.data.toList ≤ m * n := Nat.mul_le_mul_left m (by omega)
  rw [h2, h3] at h1
  rw [gfR_yes hg]
  apply decide_eq_true
  unfold mcV cgN
  have h5 : ((m * n : Nat) : Int) = (m : Int) * (n : Int) := Int.natCast_mul m n
  rw [← h5]
  unfold mxI
  split <;> split <;> omega
theorem lev_pfR {a b : ByteArray} {l : Int} (ha : a.size ≤ 40) (hb : b.size ≤ 40) (hl : l ≤ 40) (h : ((lev false a.data.toList b.data.toList : Nat) : Int) ≤ l) : pfR a b l = true := by
  unfold pfR
  rw [lev_lfR h, show (2 : Int) = ((2 : Nat) : Int) from rfl, show (3 : Int) = ((3 : Nat) : Int) from rfl, lev_gfR ha hb (by omega) (by omega) hl h, lev_gfR ha hb (by omega) (by omega) hl h]
  rfl

end Go.Proofs.Ytkeimdobcfoplaa
