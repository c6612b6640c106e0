/-
  What spec.Soundex answers, for every string of at most 2^20 bytes. By an AI agent.
-/
import Derived.Test.YtggohfinkpppkabGreatDoorSound2
import Derived.Test.YtggohfinkpppkabGreatDoorNColl
namespace Go.Proofs.YtggohfinkpppkabGreatDoor
open Go.RowKit
set_option linter.unusedVariables false

theorem OwnB.below {w w' : World} {base : Nat} {v : Value} {l : List UInt8} (h : OwnB w base v l) (hb : Below w.heap.size w w') : OwnB w' base v l :=
  World.ownsRow.kept h (row := none) ⟨hb.os, hb.tape, hb.output, hb.size, fun i hi _ => hb.block i hi⟩ (by cases hv : v.ownBlock <;> simp)

theorem spec_fc_first (s : ByteArray) (w : World) (y : UInt8) (h0 : 0 < s.size) (h : foldB s[0] = y) :
    Calls Tryz.prog 35 #[.string (s.extract 0 1)] w fun e w' => e = .returned (.string ⟨#[y]⟩) ∧ Below w.heap.size w w' := by
  have e : s.extract 0 1 = ⟨#[s[0]]⟩ := by
    apply ByteArray.ext
    apply Array.toList_inj.1
    have h1 : (s.extract 0 1).data.toList = s.data.toList.take 1 := by simp
    rw [h1, ftake_snoc s 0 h0]
    rfl
  rw [e]
  exact spec_fc_one _ w y h

theorem sx_first (s : ByteArray) (h : 0 < s.size) : sxS (s.data.toList.take (0 + 1)) = ([foldB s[0]], sc s[0]) := by
  rw [ftake_snoc s 0 h]; rfl
theorem take_ne (s : ByteArray) (k : Nat) (h : k < s.size) (h0 : 0 < k) : s.data.toList.take k ≠ [] := by
  intro e
  have h1 := congrArg List.length e
  have h2 : s.data.toList.length = s.size := by simp
  rw [List.length_take, h2, List.length_nil] at h1
  omega
theorem sx_next (s : ByteArray) (k : Nat) (h : k < s.size) (h0 : 0 < k) : sxS (s.data.toList.take (k + 1)) = sxStep (sxS (s.data.toList.take k)) s[k] := by
  rw [ftake_snoc s k h]
  exact sxS_snoc (take_ne s k h h0) _
theorem let_next (s : ByteArray) (k : Nat) (h : k < s.size) (hl : letS (s.data.toList.take k)) (hc : sc s[k] ≠ -2) : letS (s.data.toList.take (k + 1)) := by
  rw [ftake_snoc s k h]
  exact letS_snoc hl hc
theorem sx_bad (s : ByteArray) (k : Nat) (h : k < s.size) (hc : sc s[k] = -2) : sxL s.data.toList = [] :=
  sxL_bad (c := s[k]) (by rw [← ftake_all s]; exact List.mem_of_getElem? (i := k) (by rw [ftake_all, fbyte_at? s k h])) hc

theorem sx_pad (s : ByteArray) (j : Nat) (h0 : 0 < s.size) (hl : letS s.data.toList) (hj : (sxS s.data.toList).1.length + j = 4) : (sxS s.data.toList).1 ++ List.replicate j 48 = sxL s.data.toList := by
  have hne : s.data.toList ≠ [] := by
    intro e
    have h1 := congrArg List.length e
    have h2 : s.data.toList.length = s.size := by simp
    rw [h2, List.length_nil] at h1
    omega
  rw [sxL_some hne hl]
  unfold sxFull
  rw [show j = 4 - (sxS s.data.toList).1.length by omega]

theorem sx_empty (s : ByteArray) (h0 : s.size = 0) : sxL s.data.toList = [] := by
  rw [show s.data.toList = [] from List.eq_nil_of_length_eq_zero (by simpa using h0)]
  exact sxL_nil

set_option maxRecDepth 100000 in
set_option maxHeartbeats 1600000 in
theorem spec_sx (s : ByteArray) (w : World) (hs : s.size ≤ 4194304) :
    Calls Tryz.prog 58 #[.string s] w fun e w' => e = .returned (.string (nstr (sxL s.data.toList))) ∧ Below w.heap.size w w' := by
  have HS := Lib.hid hs
  go_enter Tryz.func58, Tryz.ntmps58
  go_wp2
  go_loopw [3, 4, 5] (fun v la i wr => ∃ k : Nat, k ≤ s.size ∧ i = .int .i64 k ∧ la = .int .i64 (sxS (s.data.toList.take k)).2 ∧ letS (s.data.toList.take k) ∧ OwnB wr w.heap.size v (sxS (s.data.toList.take k)).1 ∧ Below w.heap.size w wr) (fun _ _ i _ => s.size - (intOf i).toNat)
  case atStart => exact ⟨0, Nat.zero_le _, rfl, rfl, fun c hc => by simp at hc, OwnB.made w _ #[] 0 (Nat.le_refl _) (Nat.zero_le _) rfl, (Below.refl _ _).alloc (Nat.le_refl _) _⟩
  case round =>
    obtain ⟨k, hk, rfl, rfl, hlet, hown, hb⟩ := hrel
    have HB := Lib.hid hb
    have HLET := Lib.hid hlet
    have HOWN := Lib.hid hown
    obtain ⟨A, cp, hv⟩ := hown.form
    obtain ⟨la, hla⟩ : ∃ la, (sxS (s.data.toList.take k)).2 = la := ⟨_, rfl⟩
    obtain ⟨m, hm⟩ : ∃ m, (sxS (s.data.toList.take k)).1.length = m := ⟨_, rfl⟩
    have hm4 : m ≤ 4 := by rw [← hm]; exact sxS_len _
    rw [hm] at hv
    rw [hla]
    subst hv
    have HM := Lib.hid hm
    have HLA := Lib.hid hla
    have HLN := Lib.hid (show (sxS (s.data.toList.take k)).1.length ≤ 70368744177664 by rw [hm]; omega)
    clear hb hlet hown hm hla
    by_cases hlt : k < s.size
    · have hby := s[k].toNat_lt
      have hbs := Lib.hid HB.out.size
      obtain ⟨n, hn⟩ : ∃ n, sc s[k] = n := ⟨_, rfl⟩
      have hr := sc_range s[k]
      rw [hn] at hr
      obtain ⟨hr1, hr2⟩ := hr
      have HN := Lib.hid hn
      clear hn
      have HC0 : ∀ w', Calls Tryz.prog 88 #[.int .u8 (s[k].toNat : Int)] w' fun e w'' => e = .returned (.int .i64 n) ∧ Below w'.heap.size w' w'' := by
        intro w'; rw [← HN.out]; exact spec_sc _ w'
      have HC := Lib.hid HC0
      clear HC0
      by_cases hbad : n = -2
      · have hq : (n == -2) = true := by simp; omega
        have HX := Lib.hid (sx_bad s k hlt (by rw [HN.out, hbad]))
        clear hbad
        go_wp2_with (go_at_call 88; (with_reducible refine (HC.out _).mono ?_); rintro e w1 ⟨rfl, hb1⟩)
        go_ret
        exact ⟨nret_str (by rw [HX.out]; rfl), HB.out.trans (hb1.mono hbs.out)⟩
      · have hq : (n == -2) = false := by simp; omega
        have HLT2 := Lib.hid (let_next s k hlt HLET.out (by rw [HN.out]; exact hbad))
        clear hbad
        rcases Nat.eq_zero_or_pos k with h0 | h0
        · subst h0
          have hs0 : 0 < s.size := hlt
          obtain ⟨y, hy⟩ : ∃ y, foldB s[0] = y := ⟨_, rfl⟩
          have hyb := y.toNat_lt
          have HY := Lib.hid hy
          have HE := Lib.hid (sx_first s hlt)
          have HNIL : sxS (s.data.toList.take 0) = ([], 0) := by simp [sxS]
          have HM0 : m = 0 := by rw [← HM.out, HNIL]; rfl
          have HNIL := Lib.hid HNIL
          subst HM0
          clear hy
          go_wp2_with (go_at_call 88; (with_reducible refine (HC.out _).mono ?_); rintro e w1 ⟨rfl, hb1⟩; refine Hid.out ?_)
          refine Lib.hid ?_
          have HB1 := Lib.hid (HB.out.trans (hb1.mono hbs.out))
          have HS1 := Lib.hid HB1.out.size
          have HOWN1 := Lib.hid (HOWN.out.below hb1)
          clear hb1
          go_wp2_with (go_at_call 35; (with_reducible refine (spec_fc_first s _ y hs0 HY.out).mono ?_); rintro e w2 ⟨rfl, hb2⟩; refine Hid.out ?_)
          refine Lib.hid ?_
          have HB2 := Lib.hid (HB1.out.trans (hb2.mono HS1.out))
          have HS2 := Lib.hid HB2.out.size
          have HOWN2 := Lib.hid (HOWN1.out.below hb2)
          clear hb2
          go_wp2_with (at_builtin; refine append_byte rfl _ _ rfl w.heap.size _ (sxS (s.data.toList.take 0)).1 (y.toNat : Int) HOWN2.out rfl rfl (by omega) (by omega) HLN.out HS2.out ?_; intro v1 w3 hown3 hb3)
          go_roundw
          case rel =>
            refine ⟨0 + 1, by omega, by go_num, ?_, HLT2.out, ?_, HB2.out.trans hb3⟩
            · rw [HE.out]; exact congrArg (Value.int .i64) HN.out.symm
            · rw [HE.out, HY.out]
              rw [byte_of_nat, HNIL.out] at hown3
              exact hown3
          case measure => simp [intOf]; omega
        · have hk0 : (((k : Nat) : Int) == 0) = false := by simp; omega
          by_cases hput : 0 < n ∧ n ≠ la ∧ m < 4
          · have HE : sxS (s.data.toList.take (k + 1)) = ((sxS (s.data.toList.take k)).1 ++ [UInt8.ofNat (48 + n).toNat], n) := by
              rw [sx_next s k hlt h0, step_put (by rw [HN.out]; exact hput.1) (by rw [HN.out, HLA.out]; exact hput.2.1) (by rw [HM.out]; exact hput.2.2), HN.out]
            have HE := Lib.hid HE
            obtain ⟨p1, p2, p3⟩ := hput
            have p4 : (n != la) = true := by simp; exact p2
            have p5 : 0 ≤ n := by omega
            clear p2
            go_wp2_with (first
              | (go_at_call 88; (with_reducible refine (HC.out _).mono ?_); rintro e w1 ⟨rfl, hb1⟩; refine Hid.out ?_))
            refine Lib.hid ?_
            have HB1 := Lib.hid (HB.out.trans (hb1.mono hbs.out))
            have HS1 := Lib.hid HB1.out.size
            have HOWN1 := Lib.hid (HOWN.out.below hb1)
            clear hb1
            go_wp2_with (at_builtin; refine append_byte rfl _ _ rfl w.heap.size _ (sxS (s.data.toList.take k)).1 (48 + n) HOWN1.out rfl rfl (by omega) (by omega) HLN.out HS1.out ?_; intro v1 w3 hown3 hb3)
            go_roundw
            case rel =>
              refine ⟨k + 1, by omega, by go_num, ?_, HLT2.out, ?_, HB1.out.trans hb3⟩
              · rw [HE.out]
              · rw [HE.out]
                exact hown3
            case measure => simp [intOf]; omega
          · have HPUT := Lib.hid hput
            clear hput
            by_cases hn0 : 0 ≤ n
            · have HE : sxS (s.data.toList.take (k + 1)) = ((sxS (s.data.toList.take k)).1, n) := by
                rw [sx_next s k hlt h0, step_same (by rw [HN.out]; exact hn0) (by rw [HN.out, HLA.out, HM.out]; exact HPUT.out), HN.out]
              have HE := Lib.hid HE
              have hway : (¬ 0 < n) ∨ (0 < n ∧ (n != la) = false) ∨ (0 < n ∧ (n != la) = true ∧ ¬ m < 4) := by
                have h1 := HPUT.out
                by_cases c1 : 0 < n
                · by_cases c2 : n = la
                  · exact .inr (.inl ⟨c1, by simp; exact c2⟩)
                  · exact .inr (.inr ⟨c1, by simp; exact c2, fun c3 => h1 ⟨c1, c2, c3⟩⟩)
                · exact .inl c1
              rcases hway with q1 | ⟨q1, q2⟩ | ⟨q1, q2, q3⟩
              all_goals
                go_wp2_with (go_at_call 88; (with_reducible refine (HC.out _).mono ?_); rintro e w1 ⟨rfl, hb1⟩)
                go_roundw
                case rel =>
                  refine ⟨k + 1, by omega, by go_num, ?_, HLT2.out, ?_, HB.out.trans (hb1.mono hbs.out)⟩
                  · rw [HE.out]
                  · rw [HE.out]
                    exact HOWN.out.below hb1
                case measure => simp [intOf]; omega
            · have HE := Lib.hid (show sxS (s.data.toList.take (k + 1)) = sxS (s.data.toList.take k) by rw [sx_next s k hlt h0, step_skip (by rw [HN.out]; omega)])
              have q1 : ¬ 0 < n := by omega
              go_wp2_with (go_at_call 88; (with_reducible refine (HC.out _).mono ?_); rintro e w1 ⟨rfl, hb1⟩)
              go_roundw
              case rel =>
                refine ⟨k + 1, by omega, by go_num, ?_, HLT2.out, ?_, HB.out.trans (hb1.mono hbs.out)⟩
                · rw [HE.out, HLA.out]
                · rw [HE.out]
                  exact HOWN.out.below hb1
              case measure => simp [intOf]; omega
    · obtain rfl : k = s.size := by omega
      rcases Nat.eq_zero_or_pos s.size with h0 | h0
      · have HX := Lib.hid (sx_empty s h0)
        have hm0 : m = 0 := by rw [← HM.out, h0]; rfl
        have HH0 := Lib.hid h0
        subst hm0
        clear h0
        go_wp2
        go_ret
        exact ⟨nret_str (by rw [HX.out]; rfl), HB.out⟩
      · have HP := Lib.hid h0
        have hmp : 0 < m := by
          rw [← HM.out, ftake_all]
          refine sxS_pos ?_
          have h2 := take_ne s s.size
          intro e
          have h1 := congrArg List.length e
          have h2 : s.data.toList.length = s.size := by simp
          rw [h2, List.length_nil] at h1
          omega
        have hmq : ((m : Int) == 0) = false := by simp; omega
        go_wp2
        go_loopw [3] (fun v wx => ∃ (j : Nat) (A : Option Addr) (c : Nat), m + j ≤ 4 ∧ v = .slice A (m + j : Nat) c ∧ OwnB wx w.heap.size v ((sxS (s.data.toList.take s.size)).1 ++ List.replicate j 48) ∧ Below w.heap.size w wx) (fun v _ => match v with | .slice _ n _ => 4 - n | _ => 0)
        case atStart => exact ⟨0, A, cp, by omega, rfl, by rw [List.replicate_zero, List.append_nil]; exact HOWN.out, HB.out⟩
        case round =>
          obtain ⟨j, A, c, hj, rfl, hown, hb⟩ := hrel
          obtain ⟨q, hq⟩ : ∃ q, m + j = q := ⟨_, rfl⟩
          rw [hq] at hj hown ⊢
          have HQ := Lib.hid hq
          have HOWN2 := Lib.hid hown
          have HB2 := Lib.hid hb
          have HS2 := Lib.hid hb.size
          have HL2 := Lib.hid (show ((sxS (s.data.toList.take s.size)).1 ++ List.replicate j 48).length = q by rw [List.length_append, List.length_replicate, HM.out, hq])
          have HL3 := Lib.hid (show ((sxS (s.data.toList.take s.size)).1 ++ List.replicate j 48).length ≤ 70368744177664 by rw [HL2.out]; omega)
          clear hq hown hb
          by_cases hlt : q < 4
          · go_wp2_with (at_builtin; refine append_byte rfl _ _ rfl w.heap.size _ ((sxS (s.data.toList.take s.size)).1 ++ List.replicate j 48) 48 HOWN2.out rfl rfl (by omega) (by omega) HL3.out HS2.out ?_; intro v1 w3 hown3 hb3)
            obtain ⟨A3, c3, hv3⟩ := hown3.form
            rw [List.length_append, HL2.out] at hv3
            subst hv3
            go_roundw
            case rel =>
              refine ⟨j + 1, A3, c3, by have := HQ.out; omega, by have := HQ.out; simp; omega, ?_, HB2.out.trans hb3⟩
              rw [List.replicate_succ', ← List.append_assoc]
              exact hown3
            case measure => simp; omega
          · have hcv := HOWN2.out.convert
            have hq4 : q = 4 := by omega
            subst hq4
            go_wp2
            go_ret
            refine ⟨nret_str ?_, HB2.out⟩
            have h1 := sx_pad s j HP.out (by rw [← ftake_all s]; exact HLET.out) (by rw [← ftake_all s, HM.out]; exact HQ.out)
            rw [ftake_all, h1]
            rfl

end Go.Proofs.YtggohfinkpppkabGreatDoor
