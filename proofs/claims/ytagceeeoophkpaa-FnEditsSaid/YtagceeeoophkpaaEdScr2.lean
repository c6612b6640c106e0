/-
  What EditScript answers, on both sides, for every two strings. By an AI agent.
-/
import Derived.Test.YtagceeeoophkpaaEdScr
import Derived.Deep.RegionHeld3
namespace Go.Proofs.Ytagceeeoophkpaa
open Go.RowKit
set_option linter.unusedVariables false

theorem edD_ext (a b : ByteArray) (i j : Nat) (h1 : a.size ≤ 40) (h2 : b.size ≤ 40) {n : Nat} (hn : lev false (a.data.toList.drop i) (b.data.toList.drop j) = n) : edD false (a.extract i a.size) (b.extract j b.size) = (n : Int) := by
  rw [edD_yes (by rw [ba_esize]; omega) (by rw [ba_esize]; omega), ba_tail, ba_tail, hn]
theorem ba_esize_le (s : ByteArray) (k : Nat) (h : s.size ≤ 40) : (s.extract k s.size).size ≤ 1048576 := by rw [ba_esize]; omega
theorem text_two {a b : ByteArray} (h : ¬ (a.size ≤ 40 ∧ b.size ≤ 40)) : [] = scR a b := by
  by_cases h1 : a.size ≤ 40
  · exact scR_no2 (text_long (by rw [ba_len]; omega))
  · exact scR_no1 (text_long (by rw [ba_len]; omega))

set_option maxRecDepth 100000 in
set_option maxHeartbeats 400000 in
theorem impl_scr (a b : ByteArray) (w : World) (ha : a.size ≤ 1048576) (hb : b.size ≤ 1048576) :
    Calls Try.prog 23 #[.string a, .string b] w fun e w' => e = .returned (.string (strOf (scR a b))) ∧ Below w.heap.size w w' := by
  cases ta : isTextB a.data.toList
  · have HTA := Lib.hid ta
    rw [← scR_no1 ta]
    clear ta
    go_enter Try.func23, Try.ntmps23
    go_wp2_with (first
      | (go_at_call 34; ((with_reducible refine (impl_it a _ ha _ HTA.out).mono ?_); rintro e w2 ⟨rfl, hbw2⟩; have HBw2 := Lib.hid hbw2; clear hbw2)))
    go_ret
    exact ⟨rfl, HBw2.out⟩
  · cases tb : isTextB b.data.toList
    · have HTA := Lib.hid ta
      have HTB := Lib.hid tb
      rw [← scR_no2 tb]
      clear ta tb
      go_enter Try.func23, Try.ntmps23
      go_wp2_with (first
        | (go_at_call 34; ((with_reducible refine (impl_it a _ ha _ HTA.out).mono ?_); rintro e w2 ⟨rfl, hbw2⟩; have HBw2 := Lib.hid hbw2; clear hbw2))
        | (go_at_call 34; ((with_reducible refine (impl_it b _ hb _ HTB.out).mono ?_); rintro e w3 ⟨rfl, hbw3⟩; have HBw3 := Lib.hid hbw3; clear hbw3)))
      go_ret
      exact ⟨rfl, HBw2.out.trans (HBw3.out.mono HBw2.out.size)⟩
    · rw [scR_yes ta tb]
      exact impl_scr_yes a b w ta tb

theorem str_two (l : List UInt8) (c y : UInt8) : Value.string (strOf l ++ ⟨#[c]⟩ ++ strOf [y]) = Value.string (strOf (l ++ [c, y])) := by
  rw [show (⟨#[c]⟩ : ByteArray) = strOf [c] from rfl, strOf_append, strOf_append]
  simp

set_option maxRecDepth 100000 in
set_option maxHeartbeats 4000000 in
theorem spec_scr_yes (a b : ByteArray) (w : World) (ta : isTextB a.data.toList = true) (tb : isTextB b.data.toList = true) :
    Calls Try.prog 25 #[.string a, .string b] w fun e w' => e = .returned (.string (strOf (scr a.data.toList b.data.toList))) ∧ Below w.heap.size w w' := by
  have h1 := text_size ta
  have h2 := text_size tb
  have ha : a.size ≤ 1048576 := by omega
  have hb : b.size ≤ 1048576 := by omega
  have HTA := Lib.hid ta
  have HTB := Lib.hid tb
  clear ta tb
  obtain ⟨R, hR⟩ : ∃ R, scr a.data.toList b.data.toList = R := ⟨_, rfl⟩
  rw [hR]
  have HRL := Lib.hid (show R.length ≤ 160 by
    rw [← hR]
    refine Nat.le_trans (scr_length _ _) ?_
    rw [ba_len, ba_len]
    omega)
  have HR := Lib.hid hR
  clear hR
  go_enter Try.func25, Try.ntmps25
  go_wp2_with (first
    | (go_at_call 30; ((with_reducible refine (fits_yes _ _ _ h1 h2).mono ?_); rintro e w1 ⟨rfl, rfl⟩))
    | (go_at_call 36; ((with_reducible refine (spec_it a _ ha _ HTA.out).mono ?_); rintro e w1 ⟨rfl, rfl⟩))
    | (go_at_call 36; ((with_reducible refine (spec_it b _ hb _ HTB.out).mono ?_); rintro e w1 ⟨rfl, rfl⟩)))
  go_loopw [5, 6, 7] (fun vo vi vj wr => ∃ (i j : Nat) (l : List UInt8), i ≤ a.size ∧ j ≤ b.size ∧ vo = .string (strOf l) ∧ vi = .int .i64 i ∧ vj = .int .i64 j ∧ ScAt R l (a.data.toList.drop i) (b.data.toList.drop j) ∧ Below w.heap.size w wr)
    (fun _ vi vj _ => (a.size - (intOf vi).toNat) + (b.size - (intOf vj).toNat))
  case atStart => exact ⟨0, 0, [], by omega, by omega, rfl, rfl, rfl, by unfold ScAt; rw [List.drop_zero, List.drop_zero, HR.out]; rfl, Below.refl _ _⟩
  case round =>
    obtain ⟨i, j, l, hi, hj, rfl, rfl, rfl, hat, hbl⟩ := hrel
    have HAT := Lib.hid hat
    have HB := Lib.hid hbl
    clear hat hbl
    have HLN := Lib.hid (show l.length ≤ 160 from Nat.le_trans HAT.out.len HRL.out)
    have hsz : (strOf l).size ≤ 160 := by rw [strOf_size]; exact HLN.out
    obtain ⟨x, hx⟩ : ∃ x, lev false (a.data.toList.drop i) (b.data.toList.drop j) = x := ⟨_, rfl⟩
    obtain ⟨x1, hx1⟩ : ∃ x, lev false (a.data.toList.drop (i + 1)) (b.data.toList.drop (j + 1)) = x := ⟨_, rfl⟩
    obtain ⟨x2, hx2⟩ : ∃ x, lev false (a.data.toList.drop (i + 1)) (b.data.toList.drop j) = x := ⟨_, rfl⟩
    have hxb : x ≤ 40 := by rw [← hx]; exact lev_b40 a b i j h1 h2
    have hx1b : x1 ≤ 40 := by rw [← hx1]; exact lev_b40 a b (i + 1) (j + 1) h1 h2
    have hx2b : x2 ≤ 40 := by rw [← hx2]; exact lev_b40 a b (i + 1) j h1 h2
    have HX := Lib.hid hx
    have HX1 := Lib.hid hx1
    have HX2 := Lib.hid hx2
    have HE := Lib.hid (edD_ext a b i j h1 h2 hx)
    have HE1 := Lib.hid (edD_ext a b (i + 1) (j + 1) h1 h2 hx1)
    have HE2 := Lib.hid (edD_ext a b (i + 1) j h1 h2 hx2)
    clear hx hx1 hx2
    have hxw : IntKind.i64.wrap ((x : Int) - 1) = (x : Int) - 1 := IntWalk.i64_in _ (by omega)
    have hiI : (i : Int) ≤ (a.size : Int) := by omega
    have hjI : (j : Int) ≤ (b.size : Int) := by omega
    by_cases hia : i < a.size
    · have hia1 : (i : Int) + 1 ≤ (a.size : Int) := by omega
      have hia2 : i + 1 ≤ a.size := by omega
      by_cases hjb : j < b.size
      · have HHA := Lib.hid (ba_at a i hia)
        have HHB := Lib.hid (ba_at b j hjb)
        have hjb1 : (j : Int) + 1 ≤ (b.size : Int) := by omega
        have hjb2 : j + 1 ≤ b.size := by omega
        have hxa := a[i].toNat_lt
        have hyb := b[j].toNat_lt
        by_cases c : a[i].toNat = b[j].toNat
        · have d : ((a[i].toNat : Int) == (b[j].toNat : Int)) = true := by simp; omega
          have HN := Lib.hid (show ScAt R (l ++ [61]) (a.data.toList.drop (i + 1)) (b.data.toList.drop (j + 1)) by
            have h := HAT.out
            rw [HHA.out, HHB.out] at h
            exact h.keep (u8_eq c))
          have hxx : x1 = x := by
            have g0 := HX.out
            rw [HHA.out, HHB.out, lev_eqf (u8_eq c), HX1.out] at g0
            exact g0
          have d1 : ((x1 : Int) == (x : Int)) = true := by simp; omega
          clear c hxx
          go_wp2
          go_still_tail 6, (by kernel_rfl)
          have HB4 := Lib.hid (show Below w.heap.size w wr.drew from HB.out.drew)
          change wpList _ _ _ _ _ wr.drew
          generalize wr.drew = wa at HB4 ⊢
          go_wp2_with (go_at_call 14; ((with_reducible refine (spec_ed (a.extract i a.size) (b.extract j b.size) _ (ba_esize_le a _ h1) (ba_esize_le b _ h2) _ HE.out).mono ?_); rintro e wc ⟨rfl, hb5⟩; have HB5 := Lib.hid hb5; clear hb5))
          have HBC := Lib.hid (HB4.out.trans (HB5.out.mono HB4.out.size))
          clear HB5
          go_upto_region 10 with (fail)
          go_cut [50] (fun s wx => s = .bool true ∧ Below w.heap.size w wx)
          case first =>
            have hwi : IntKind.i64.wrap ((i : Int) + 1) = (i : Int) + 1 := IntWalk.i64_in _ (by omega)
            have hwj : IntKind.i64.wrap ((j : Int) + 1) = (j : Int) + 1 := IntWalk.i64_in _ (by omega)
            have hi0 : 0 ≤ (i : Int) + 1 := by omega
            have hj0 : 0 ≤ (j : Int) + 1 := by omega
            have hti : ((i : Int) + 1).toNat = i + 1 := by omega
            have htj : ((j : Int) + 1).toNat = j + 1 := by omega
            go_region_held3 (fun _ => True) (first | trivial) ((go_at_call 14; ((with_reducible refine (spec_ed (a.extract (i + 1) a.size) (b.extract (j + 1) b.size) _ (ba_esize_le a _ h1) (ba_esize_le b _ h2) _ HE1.out).mono ?_); rintro e w5 ⟨rfl, hb5⟩; have HB5 := Lib.hid hb5; clear hb5)))
            all_goals go_wp2_with fail
            all_goals go_meet
            all_goals exact ⟨rfl, HBC.out.trans ((show Below wc.heap.size wc w5 from ⟨HB5.out.os, HB5.out.tape, HB5.out.output, HB5.out.size, HB5.out.block⟩).mono HBC.out.size)⟩
          case rest =>
            obtain ⟨rfl, hbx⟩ := hcut
            clear HBC
            have HBC := Lib.hid hbx
            clear hbx
            go_wp2
            go_roundw
            case rel => exact ⟨i + 1, j + 1, l ++ [61], by omega, by omega, by rw [← strOf_append]; rfl, by go_num, by go_num, HN.out, HBC.out⟩
            case measure => simp [intOf] <;> omega
        · have d : ((a[i].toNat : Int) == (b[j].toNat : Int)) = false := by simp; omega
          have HNE := Lib.hid (show a[i] ≠ b[j] from fun e => c (by rw [e]))
          clear c
          by_cases e1 : x = 1 + x1
          · have d1 : ((x1 : Int) == (x : Int) - 1) = true := by simp; omega
            have HN := Lib.hid (show ScAt R (l ++ [126, b[j]]) (a.data.toList.drop (i + 1)) (b.data.toList.drop (j + 1)) by
              have h := HAT.out
              have g0 := HX.out
              rw [HHA.out, HHB.out] at h g0
              exact h.rep HNE.out (by rw [g0, HX1.out]; exact e1))
            clear e1
            go_wp2
            go_still_tail 6, (by kernel_rfl)
            have HB4 := Lib.hid (show Below w.heap.size w wr.drew from HB.out.drew)
            change wpList _ _ _ _ _ wr.drew
            generalize wr.drew = wa at HB4 ⊢
            go_wp2_with (go_at_call 14; ((with_reducible refine (spec_ed (a.extract i a.size) (b.extract j b.size) _ (ba_esize_le a _ h1) (ba_esize_le b _ h2) _ HE.out).mono ?_); rintro e wc ⟨rfl, hb5⟩; have HB5 := Lib.hid hb5; clear hb5))
            have HBC := Lib.hid (HB4.out.trans (HB5.out.mono HB4.out.size))
            clear HB5
            go_upto_region 10 with (fail)
            go_quiet (fail)
            have HBX := Lib.hid (belowN HBC.out nq)
            clear HBC
            generalize wc.drewN nq = wc at HBX ⊢
            have HBC := HBX
            clear HBX
            go_upto_region 14 with (fail)
            go_cut [89] (fun s wx => s = .bool true ∧ Below w.heap.size w wx)
            case first =>
              have hwi : IntKind.i64.wrap ((i : Int) + 1) = (i : Int) + 1 := IntWalk.i64_in _ (by omega)
              have hwj : IntKind.i64.wrap ((j : Int) + 1) = (j : Int) + 1 := IntWalk.i64_in _ (by omega)
              have hi0 : 0 ≤ (i : Int) + 1 := by omega
              have hj0 : 0 ≤ (j : Int) + 1 := by omega
              have hti : ((i : Int) + 1).toNat = i + 1 := by omega
              have htj : ((j : Int) + 1).toNat = j + 1 := by omega
              go_region_held3 (fun _ => True) (first | trivial) ((go_at_call 14; ((with_reducible refine (spec_ed (a.extract (i + 1) a.size) (b.extract (j + 1) b.size) _ (ba_esize_le a _ h1) (ba_esize_le b _ h2) _ HE1.out).mono ?_); rintro e w5 ⟨rfl, hb5⟩; have HB5 := Lib.hid hb5; clear hb5)))
              all_goals go_wp2_with fail
              all_goals go_meet
              all_goals exact ⟨rfl, HBC.out.trans ((show Below wc.heap.size wc w5 from ⟨HB5.out.os, HB5.out.tape, HB5.out.output, HB5.out.size, HB5.out.block⟩).mono HBC.out.size)⟩
            case rest =>
              obtain ⟨rfl, hbx⟩ := hcut
              clear HBC
              have HBC := Lib.hid hbx
              clear hbx
              go_wp2
              go_roundw
              case rel => exact ⟨i + 1, j + 1, l ++ [126, b[j]], by omega, by omega, by rw [ext_one b j hjb]; exact str_two l 126 b[j], by go_num, by go_num, HN.out, HBC.out⟩
              case measure => simp [intOf] <;> omega
          · have d1 : ((x1 : Int) == (x : Int) - 1) = false := by simp; omega
            by_cases e2 : x = 1 + x2
            · have d2 : ((x2 : Int) == (x : Int) - 1) = true := by simp; omega
              have HN := Lib.hid (show ScAt R (l ++ [45]) (a.data.toList.drop (i + 1)) (b.data.toList.drop j) by
                have h := HAT.out
                have g0 := HX.out
                have g2 := HX2.out
                rw [HHA.out, HHB.out] at h g0
                rw [HHB.out] at g2 ⊢
                exact h.drop HNE.out (by rw [g0, HX1.out]; exact e1) (by rw [g0, g2]; exact e2))
              clear e1 e2
              go_wp2
              go_still_tail 6, (by kernel_rfl)
              have HB4 := Lib.hid (show Below w.heap.size w wr.drew from HB.out.drew)
              change wpList _ _ _ _ _ wr.drew
              generalize wr.drew = wa at HB4 ⊢
              go_wp2_with (go_at_call 14; ((with_reducible refine (spec_ed (a.extract i a.size) (b.extract j b.size) _ (ba_esize_le a _ h1) (ba_esize_le b _ h2) _ HE.out).mono ?_); rintro e wc ⟨rfl, hb5⟩; have HB5 := Lib.hid hb5; clear hb5))
              have HBC := Lib.hid (HB4.out.trans (HB5.out.mono HB4.out.size))
              clear HB5
              go_upto_region 10 with (fail)
              go_quiet (fail)
              have HBX := Lib.hid (belowN HBC.out nq)
              clear HBC
              generalize wc.drewN nq = wc at HBX ⊢
              have HBC := HBX
              clear HBX
              go_upto_region 14 with (fail)
              go_cut [89] (fun s wx => s = .bool false ∧ Below w.heap.size w wx)
              case first =>
                have hwi : IntKind.i64.wrap ((i : Int) + 1) = (i : Int) + 1 := IntWalk.i64_in _ (by omega)
                have hwj : IntKind.i64.wrap ((j : Int) + 1) = (j : Int) + 1 := IntWalk.i64_in _ (by omega)
                have hi0 : 0 ≤ (i : Int) + 1 := by omega
                have hj0 : 0 ≤ (j : Int) + 1 := by omega
                have hti : ((i : Int) + 1).toNat = i + 1 := by omega
                have htj : ((j : Int) + 1).toNat = j + 1 := by omega
                go_region_held3 (fun _ => True) (first | trivial) ((go_at_call 14; ((with_reducible refine (spec_ed (a.extract (i + 1) a.size) (b.extract (j + 1) b.size) _ (ba_esize_le a _ h1) (ba_esize_le b _ h2) _ HE1.out).mono ?_); rintro e w5 ⟨rfl, hb5⟩; have HB5 := Lib.hid hb5; clear hb5)))
                all_goals go_wp2_with fail
                all_goals go_meet
                all_goals exact ⟨rfl, HBC.out.trans ((show Below wc.heap.size wc w5 from ⟨HB5.out.os, HB5.out.tape, HB5.out.output, HB5.out.size, HB5.out.block⟩).mono HBC.out.size)⟩
              case rest =>
                obtain ⟨rfl, hbx⟩ := hcut
                clear HBC
                have HBC := Lib.hid hbx
                clear hbx
                go_upto_region 18 with (fail)
                go_cut [126] (fun s wx => s = .bool true ∧ Below w.heap.size w wx)
                case first =>
                  have hwi : IntKind.i64.wrap ((i : Int) + 1) = (i : Int) + 1 := IntWalk.i64_in _ (by omega)
                  have hwj : IntKind.i64.wrap ((j : Int) + 1) = (j : Int) + 1 := IntWalk.i64_in _ (by omega)
                  have hi0 : 0 ≤ (i : Int) + 1 := by omega
                  have hj0 : 0 ≤ (j : Int) + 1 := by omega
                  have hti : ((i : Int) + 1).toNat = i + 1 := by omega
                  have htj : ((j : Int) + 1).toNat = j + 1 := by omega
                  go_region_held3 (fun _ => True) (first | trivial) ((go_at_call 14; ((with_reducible refine (spec_ed (a.extract (i + 1) a.size) (b.extract j b.size) _ (ba_esize_le a _ h1) (ba_esize_le b _ h2) _ HE2.out).mono ?_); rintro e w5 ⟨rfl, hb5⟩; have HB5 := Lib.hid hb5; clear hb5)))
                  all_goals go_wp2_with fail
                  all_goals go_meet
                  all_goals exact ⟨rfl, HBC.out.trans ((show Below wc.heap.size wc w5 from ⟨HB5.out.os, HB5.out.tape, HB5.out.output, HB5.out.size, HB5.out.block⟩).mono HBC.out.size)⟩
                case rest =>
                  obtain ⟨rfl, hbx⟩ := hcut
                  clear HBC
                  have HBC := Lib.hid hbx
                  clear hbx
                  go_wp2
                  go_roundw
                  case rel => exact ⟨i + 1, j, l ++ [45], by omega, by omega, by rw [← strOf_append]; rfl, by go_num, rfl, HN.out, HBC.out⟩
                  case measure => simp [intOf] <;> omega
            · have d2 : ((x2 : Int) == (x : Int) - 1) = false := by simp; omega
              have HN := Lib.hid (show ScAt R (l ++ [43, b[j]]) (a.data.toList.drop i) (b.data.toList.drop (j + 1)) by
                have h := HAT.out
                have g0 := HX.out
                have g2 := HX2.out
                rw [HHA.out, HHB.out] at h g0
                rw [HHB.out] at g2
                rw [HHA.out]
                exact h.put HNE.out (by rw [g0, HX1.out]; exact e1) (by rw [g0, g2]; exact e2))
              clear e1 e2
              go_wp2
              go_still_tail 6, (by kernel_rfl)
              have HB4 := Lib.hid (show Below w.heap.size w wr.drew from HB.out.drew)
              change wpList _ _ _ _ _ wr.drew
              generalize wr.drew = wa at HB4 ⊢
              go_wp2_with (go_at_call 14; ((with_reducible refine (spec_ed (a.extract i a.size) (b.extract j b.size) _ (ba_esize_le a _ h1) (ba_esize_le b _ h2) _ HE.out).mono ?_); rintro e wc ⟨rfl, hb5⟩; have HB5 := Lib.hid hb5; clear hb5))
              have HBC := Lib.hid (HB4.out.trans (HB5.out.mono HB4.out.size))
              clear HB5
              go_upto_region 10 with (fail)
              go_quiet (fail)
              have HBX := Lib.hid (belowN HBC.out nq)
              clear HBC
              generalize wc.drewN nq = wc at HBX ⊢
              have HBC := HBX
              clear HBX
              go_upto_region 14 with (fail)
              go_cut [89] (fun s wx => s = .bool false ∧ Below w.heap.size w wx)
              case first =>
                have hwi : IntKind.i64.wrap ((i : Int) + 1) = (i : Int) + 1 := IntWalk.i64_in _ (by omega)
                have hwj : IntKind.i64.wrap ((j : Int) + 1) = (j : Int) + 1 := IntWalk.i64_in _ (by omega)
                have hi0 : 0 ≤ (i : Int) + 1 := by omega
                have hj0 : 0 ≤ (j : Int) + 1 := by omega
                have hti : ((i : Int) + 1).toNat = i + 1 := by omega
                have htj : ((j : Int) + 1).toNat = j + 1 := by omega
                go_region_held3 (fun _ => True) (first | trivial) ((go_at_call 14; ((with_reducible refine (spec_ed (a.extract (i + 1) a.size) (b.extract (j + 1) b.size) _ (ba_esize_le a _ h1) (ba_esize_le b _ h2) _ HE1.out).mono ?_); rintro e w5 ⟨rfl, hb5⟩; have HB5 := Lib.hid hb5; clear hb5)))
                all_goals go_wp2_with fail
                all_goals go_meet
                all_goals exact ⟨rfl, HBC.out.trans ((show Below wc.heap.size wc w5 from ⟨HB5.out.os, HB5.out.tape, HB5.out.output, HB5.out.size, HB5.out.block⟩).mono HBC.out.size)⟩
              case rest =>
                obtain ⟨rfl, hbx⟩ := hcut
                clear HBC
                have HBC := Lib.hid hbx
                clear hbx
                go_upto_region 18 with (fail)
                go_cut [126] (fun s wx => s = .bool false ∧ Below w.heap.size w wx)
                case first =>
                  have hwi : IntKind.i64.wrap ((i : Int) + 1) = (i : Int) + 1 := IntWalk.i64_in _ (by omega)
                  have hwj : IntKind.i64.wrap ((j : Int) + 1) = (j : Int) + 1 := IntWalk.i64_in _ (by omega)
                  have hi0 : 0 ≤ (i : Int) + 1 := by omega
                  have hj0 : 0 ≤ (j : Int) + 1 := by omega
                  have hti : ((i : Int) + 1).toNat = i + 1 := by omega
                  have htj : ((j : Int) + 1).toNat = j + 1 := by omega
                  go_region_held3 (fun _ => True) (first | trivial) ((go_at_call 14; ((with_reducible refine (spec_ed (a.extract (i + 1) a.size) (b.extract j b.size) _ (ba_esize_le a _ h1) (ba_esize_le b _ h2) _ HE2.out).mono ?_); rintro e w5 ⟨rfl, hb5⟩; have HB5 := Lib.hid hb5; clear hb5)))
                  all_goals go_wp2_with fail
                  all_goals go_meet
                  all_goals exact ⟨rfl, HBC.out.trans ((show Below wc.heap.size wc w5 from ⟨HB5.out.os, HB5.out.tape, HB5.out.output, HB5.out.size, HB5.out.block⟩).mono HBC.out.size)⟩
                case rest =>
                  obtain ⟨rfl, hbx⟩ := hcut
                  clear HBC
                  have HBC := Lib.hid hbx
                  clear hbx
                  go_wp2
                  go_roundw
                  case rel => exact ⟨i, j + 1, l ++ [43, b[j]], by omega, by omega, by rw [ext_one b j hjb]; exact str_two l 43 b[j], rfl, by go_num, HN.out, HBC.out⟩
                  case measure => simp [intOf] <;> omega
      · have HHA := Lib.hid (ba_at a i hia)
        have HHB := Lib.hid (show b.data.toList.drop j = [] from List.drop_eq_nil_of_le (by rw [ba_len]; omega))
        have d2 : ((x2 : Int) == (x : Int) - 1) = true := by
          have g0 := HX.out
          have g2 := HX2.out
          rw [HHB.out, lev_nil', List.length_drop, ba_len] at g0 g2
          simp
          omega
        have HN := Lib.hid (show ScAt R (l ++ [45]) (a.data.toList.drop (i + 1)) (b.data.toList.drop j) by
          have h := HAT.out
          rw [HHA.out, HHB.out] at h
          rw [HHB.out]
          exact h.dropEnd)
        go_wp2
        go_still_tail 6, (by kernel_rfl)
        have HB4 := Lib.hid (show Below w.heap.size w wr.drew from HB.out.drew)
        change wpList _ _ _ _ _ wr.drew
        generalize wr.drew = wa at HB4 ⊢
        go_wp2_with (go_at_call 14; ((with_reducible refine (spec_ed (a.extract i a.size) (b.extract j b.size) _ (ba_esize_le a _ h1) (ba_esize_le b _ h2) _ HE.out).mono ?_); rintro e wc ⟨rfl, hb5⟩; have HB5 := Lib.hid hb5; clear hb5))
        have HBC := Lib.hid (HB4.out.trans (HB5.out.mono HB4.out.size))
        clear HB5
        go_upto_region 10 with (fail)
        go_quiet (fail)
        have HBX := Lib.hid (belowN HBC.out nq)
        clear HBC
        generalize wc.drewN nq = wc at HBX ⊢
        have HBC := HBX
        clear HBX
        go_upto_region 14 with (fail)
        go_quiet (fail)
        have HBX := Lib.hid (belowN HBC.out nq)
        clear HBC
        generalize wc.drewN nq = wc at HBX ⊢
        have HBC := HBX
        clear HBX
        go_upto_region 18 with (fail)
        go_cut [126] (fun s wx => s = .bool true ∧ Below w.heap.size w wx)
        case first =>
          have hwi : IntKind.i64.wrap ((i : Int) + 1) = (i : Int) + 1 := IntWalk.i64_in _ (by omega)
          have hwj : IntKind.i64.wrap ((j : Int) + 1) = (j : Int) + 1 := IntWalk.i64_in _ (by omega)
          have hi0 : 0 ≤ (i : Int) + 1 := by omega
          have hj0 : 0 ≤ (j : Int) + 1 := by omega
          have hti : ((i : Int) + 1).toNat = i + 1 := by omega
          have htj : ((j : Int) + 1).toNat = j + 1 := by omega
          go_region_held3 (fun _ => True) (first | trivial) ((go_at_call 14; ((with_reducible refine (spec_ed (a.extract (i + 1) a.size) (b.extract j b.size) _ (ba_esize_le a _ h1) (ba_esize_le b _ h2) _ HE2.out).mono ?_); rintro e w5 ⟨rfl, hb5⟩; have HB5 := Lib.hid hb5; clear hb5)))
          all_goals go_wp2_with fail
          all_goals go_meet
          all_goals exact ⟨rfl, HBC.out.trans ((show Below wc.heap.size wc w5 from ⟨HB5.out.os, HB5.out.tape, HB5.out.output, HB5.out.size, HB5.out.block⟩).mono HBC.out.size)⟩
        case rest =>
          obtain ⟨rfl, hbx⟩ := hcut
          clear HBC
          have HBC := Lib.hid hbx
          clear hbx
          go_wp2
          go_roundw
          case rel => exact ⟨i + 1, j, l ++ [45], by omega, by omega, by rw [← strOf_append]; rfl, by go_num, rfl, HN.out, HBC.out⟩
          case measure => simp [intOf] <;> omega
    · by_cases hjb : j < b.size
      · have HHA := Lib.hid (show a.data.toList.drop i = [] from List.drop_eq_nil_of_le (by rw [ba_len]; omega))
        have HHB := Lib.hid (ba_at b j hjb)
        have hyb := b[j].toNat_lt
        have HN := Lib.hid (show ScAt R (l ++ [43, b[j]]) (a.data.toList.drop i) (b.data.toList.drop (j + 1)) by
          have h := HAT.out
          rw [HHA.out, HHB.out] at h
          rw [HHA.out]
          exact h.putEnd)
        go_wp2
        go_still_tail 6, (by kernel_rfl)
        have HB4 := Lib.hid (show Below w.heap.size w wr.drew from HB.out.drew)
        change wpList _ _ _ _ _ wr.drew
        generalize wr.drew = wa at HB4 ⊢
        go_wp2_with (go_at_call 14; ((with_reducible refine (spec_ed (a.extract i a.size) (b.extract j b.size) _ (ba_esize_le a _ h1) (ba_esize_le b _ h2) _ HE.out).mono ?_); rintro e wc ⟨rfl, hb5⟩; have HB5 := Lib.hid hb5; clear hb5))
        have HBC := Lib.hid (HB4.out.trans (HB5.out.mono HB4.out.size))
        clear HB5
        go_upto_region 10 with (fail)
        go_quiet (fail)
        have HBX := Lib.hid (belowN HBC.out nq)
        clear HBC
        generalize wc.drewN nq = wc at HBX ⊢
        have HBC := HBX
        clear HBX
        go_upto_region 14 with (fail)
        go_quiet (fail)
        have HBX := Lib.hid (belowN HBC.out nq)
        clear HBC
        generalize wc.drewN nq = wc at HBX ⊢
        have HBC := HBX
        clear HBX
        go_upto_region 18 with (fail)
        go_quiet (fail)
        have HBX := Lib.hid (belowN HBC.out nq)
        clear HBC
        generalize wc.drewN nq = wc at HBX ⊢
        have HBC := HBX
        clear HBX
        go_wp2
        go_roundw
        case rel => exact ⟨i, j + 1, l ++ [43, b[j]], by omega, by omega, by rw [ext_one b j hjb]; exact str_two l 43 b[j], rfl, by go_num, HN.out, HBC.out⟩
        case measure => simp [intOf] <;> omega
      · obtain rfl : l = R := by
          have h := HAT.out
          rw [List.drop_eq_nil_of_le (by rw [ba_len]; omega), List.drop_eq_nil_of_le (by rw [ba_len]; omega)] at h
          exact h.fin
        go_wp2
        go_ret
        exact ⟨rfl, HB.out⟩
set_option maxRecDepth 100000 in
set_option maxHeartbeats 400000 in
theorem spec_scr (a b : ByteArray) (w : World) (ha : a.size ≤ 1048576) (hb : b.size ≤ 1048576) :
    Calls Try.prog 25 #[.string a, .string b] w fun e w' => e = .returned (.string (strOf (scR a b))) ∧ Below w.heap.size w w' := by
  by_cases h : a.size ≤ 40 ∧ b.size ≤ 40
  · obtain ⟨h1, h2⟩ := h
    cases ta : isTextB a.data.toList
    · have HTA := Lib.hid ta
      rw [← scR_no1 ta]
      clear ta
      go_enter Try.func25, Try.ntmps25
      go_wp2_with (first
        | (go_at_call 30; ((with_reducible refine (fits_yes _ _ _ h1 h2).mono ?_); rintro e w1 ⟨rfl, rfl⟩))
        | (go_at_call 36; ((with_reducible refine (spec_it a _ ha _ HTA.out).mono ?_); rintro e w1 ⟨rfl, rfl⟩)))
      go_ret
      exact ⟨rfl, Below.refl _ _⟩
    · cases tb : isTextB b.data.toList
      · have HTA := Lib.hid ta
        have HTB := Lib.hid tb
        rw [← scR_no2 tb]
        clear ta tb
        go_enter Try.func25, Try.ntmps25
        go_wp2_with (first
          | (go_at_call 30; ((with_reducible refine (fits_yes _ _ _ h1 h2).mono ?_); rintro e w1 ⟨rfl, rfl⟩))
          | (go_at_call 36; ((with_reducible refine (spec_it a _ ha _ HTA.out).mono ?_); rintro e w1 ⟨rfl, rfl⟩))
          | (go_at_call 36; ((with_reducible refine (spec_it b _ hb _ HTB.out).mono ?_); rintro e w1 ⟨rfl, rfl⟩)))
        go_ret
        exact ⟨rfl, Below.refl _ _⟩
      · rw [scR_yes ta tb]
        exact spec_scr_yes a b w ta tb
  · rw [← text_two h]
    have HH := Lib.hid h
    clear h
    go_enter Try.func25, Try.ntmps25
    go_wp2_with (first
      | (go_at_call 30; ((with_reducible refine (fits_no _ _ _ ha hb HH.out).mono ?_); rintro e w1 ⟨rfl, rfl⟩)))
    go_ret
    exact ⟨rfl, Below.refl _ _⟩

end Go.Proofs.Ytagceeeoophkpaa
