/-
  The search in a table of tokens. By an AI agent.
-/
import Derived.Test.YthjbekgognfiiaaGreatJ6
namespace Go.Proofs.YthjbekgognfiiaaGreat
open Go.RowKit Go.Maps
set_option linter.unusedVariables false

theorem cmpR_neg {x y : Str} (h : x < y) : cmpR x y < 0 := by rw [cmpR_lt h]; omega
theorem cmpR_not {x y : Str} (h : ¬ x < y) : 0 ≤ cmpR x y := by
  unfold cmpR
  split
  · omega
  · omega
theorem cmpR_zero {x y : Str} : cmpR x y = 0 ↔ x = y := by
  unfold cmpR
  split
  · rename_i h; exact ⟨fun _ => h, fun _ => rfl⟩
  · rename_i h
    split <;> exact ⟨fun e => by omega, fun e => absurd e h⟩

set_option maxRecDepth 100000 in
set_option maxHeartbeats 1000000 in
theorem search_any (a : Option Addr) (cap : Nat) (l : List TC) (t : ByteArray) (w : World) (hT : TokTab l) (hin : InT w a l) (hl : l.length ≤ 4000000) :
    Calls Tryz.prog 175 #[.slice a l.length cap, .string t, .func (.func 176) #[] #[]] w fun e w' =>
      ∃ (i : Nat) (fb : Bool), e = .returned (.tuple #[.int .i64 i, .bool fb]) ∧ i ≤ l.length ∧ (fb = true → ∃ x, l[i]? = some x ∧ x.1 = t.data.toList) ∧ (fb = false → frqL l t.data.toList = 0) ∧ Below w.heap.size w w' := by
  have HT := Lib.hid hT
  have HIN := Lib.hid hin
  clear hT hin
  go_enter Tryz.func175, Tryz.ntmps175
  go_wp2
  go_loopw [9, 10] (fun s9 s10 wr => ∃ lo hi : Nat, s9 = .int .i64 lo ∧ s10 = .int .i64 hi ∧ lo ≤ hi ∧ hi ≤ l.length ∧ (∀ j y, j < lo → l[j]? = some y → y.1 < t.data.toList) ∧ (∀ j y, hi ≤ j → l[j]? = some y → ¬ y.1 < t.data.toList) ∧ Below w.heap.size w wr) (fun s9 s10 _ => (intOf s10).toNat - (intOf s9).toNat)
  case atStart => exact ⟨0, l.length, rfl, rfl, Nat.zero_le _, Nat.le_refl _, fun j y hj => absurd hj (Nat.not_lt_zero _), fun j y hj hy => absurd (List.getElem?_eq_some_iff.1 hy).1 (by omega), Below.refl _ _⟩
  case round =>
    obtain ⟨lo, hi, rfl, rfl, hlh, hin2, hlow, hhigh, hb⟩ := hrel
    have HLO := Lib.hid hlow
    have HHI := Lib.hid hhigh
    have HB := Lib.hid hb
    clear hlow hhigh hb
    by_cases hlt : lo < hi
    · obtain ⟨m, hm⟩ : ∃ m, (lo + hi) / 2 = m := ⟨_, rfl⟩
      have hml : m < l.length := by omega
      obtain ⟨b, off, rfl, hbw, -⟩ := HIN.out (by omega)
      obtain ⟨x, s, hx1, hx2, hx3, hx4⟩ := tc_at hml
      obtain ⟨c0, c1⟩ := HIN.out.at HB.out hx1 hx3
      rw [← hm] at c0 c1
      have HX1 := Lib.hid hx1
      obtain ⟨r, hr⟩ : ∃ r, cmpR s.data.toList t.data.toList = r := ⟨_, rfl⟩
      have HR := Lib.hid hr
      have HM := Lib.hid hm
      by_cases hx : x.1 < t.data.toList
      · have hneg : r < 0 := by rw [← hr, hx2]; exact cmpR_neg hx
        have HX := Lib.hid hx
        clear hx1 hx2 hx3 hx4 hr hbw hx hm
        go_wp2_with (go_at_call 176; (refine (cmp_entry s t _ r _ HR.out).mono ?_); rintro e w1 ⟨rfl, hb1⟩; have HB1 := Lib.hid hb1; clear hb1)
        go_roundw
        case rel =>
          have hm := HM.out
          refine ⟨m + 1, hi, by rw [show ((lo : Int) + (hi : Int)) / 2 + 1 = ((m + 1 : Nat) : Int) by omega], rfl, by omega, hin2, fun j y hj hy => ?_, HHI.out, HB.out.trans (HB1.out.mono HB.out.size)⟩
          by_cases e : j = m
          · subst e
            rw [HX1.out] at hy
            rw [← Option.some.inj hy]
            exact HX.out
          · exact str_lt_trans (tt_asc HT.out hy HX1.out (by omega)) HX.out
        case measure => have hm := HM.out; simp [intOf]; omega
      · have hneg : ¬ r < 0 := by
          have := cmpR_not hx
          rw [← hr, hx2]
          omega
        have HX := Lib.hid hx
        clear hx1 hx2 hx3 hx4 hr hbw hx hm
        go_wp2_with (go_at_call 176; (refine (cmp_entry s t _ r _ HR.out).mono ?_); rintro e w1 ⟨rfl, hb1⟩; have HB1 := Lib.hid hb1; clear hb1)
        go_roundw
        case rel =>
          have hm := HM.out
          refine ⟨lo, m, rfl, by rw [show ((lo : Int) + (hi : Int)) / 2 = (m : Int) by omega], by omega, by omega, HLO.out, fun j y hj hy => ?_, HB.out.trans (HB1.out.mono HB.out.size)⟩
          by_cases e : j = m
          · subst e
            rw [HX1.out] at hy
            rw [← Option.some.inj hy]
            exact HX.out
          · exact fun h => HX.out (str_lt_trans (tt_asc HT.out HX1.out hy (by omega)) h)
        case measure => have hm := HM.out; simp [intOf]; omega
    · obtain rfl : hi = lo := by omega
      by_cases hn : hi < l.length
      · obtain ⟨b, off, rfl, hbw, -⟩ := HIN.out (by omega)
        obtain ⟨x, s, hx1, hx2, hx3, hx4⟩ := tc_at hn
        obtain ⟨c0, c1⟩ := HIN.out.at HB.out hx1 hx3
        have HX1 := Lib.hid hx1
        have HX2 := Lib.hid hx2
        obtain ⟨r, hr⟩ : ∃ r, cmpR s.data.toList t.data.toList = r := ⟨_, rfl⟩
        have HR := Lib.hid hr
        clear hx1 hx2 hx3 hx4 hr hbw
        by_cases hr0 : r = 0
        · have HR0 := Lib.hid hr0
          go_wp2_with (go_at_call 176; (refine (cmp_entry s t _ r _ HR.out).mono ?_); rintro e w1 ⟨rfl, hb1⟩; have HB1 := Lib.hid hb1; clear hb1)
          go_ret2
          refine ⟨hi, true, by simp, by omega, fun _ => ⟨x, HX1.out, ?_⟩, (fun h => by cases h), HB.out.trans (HB1.out.mono HB.out.size)⟩
          have h := HR.out
          rw [HX2.out, HR0.out] at h
          exact cmpR_zero.1 h
        · have HR0 := Lib.hid hr0
          go_wp2_with (go_at_call 176; (refine (cmp_entry s t _ r _ HR.out).mono ?_); rintro e w1 ⟨rfl, hb1⟩; have HB1 := Lib.hid hb1; clear hb1)
          go_ret2
          refine ⟨hi, false, by simp [HR0.out], by omega, (fun h => by cases h), fun _ => ?_, HB.out.trans (HB1.out.mono HB.out.size)⟩
          refine frq_missing HT.out HLO.out fun y hy => ?_
          have h1 := HHI.out hi y (Nat.le_refl _) hy
          rw [HX1.out] at hy
          obtain rfl := Option.some.inj hy
          refine str_lt_of (List.not_lt.1 h1) fun e => HR0.out ?_
          rw [← HR.out, HX2.out]
          exact cmpR_zero.2 e.symm
      · go_wp2
        go_ret2
        refine ⟨hi, false, by simp, by omega, (fun h => by cases h), fun _ => ?_, HB.out⟩
        exact frq_missing HT.out HLO.out fun y hy => absurd (List.getElem?_eq_some_iff.1 hy).1 hn

set_option maxRecDepth 100000 in
theorem frq_tab (a : Option Addr) (cap : Nat) (l : List TC) (t : ByteArray) (w : World) (hT : TokTab l) (hin : InT w a l) (hl : l.length ≤ 4000000) :
    Calls Tryz.prog 174 #[.slice a l.length cap, .string t] w fun e w' => e = .returned (.int .i64 (frqL l t.data.toList)) ∧ Below w.heap.size w w' := by
  obtain ⟨v, hv⟩ : ∃ v, frqL l t.data.toList = v := ⟨_, rfl⟩
  have HV := Lib.hid hv
  have HT := Lib.hid hT
  have HIN := Lib.hid hin
  rw [hv]
  clear hv hT hin
  go_enter Tryz.func174, Tryz.ntmps174
  go_wp2_with (go_at_call 175; (refine (search_any a cap l t _ HT.out HIN.out hl).mono ?_); rintro e w1 ⟨i, fb, rfl, hi, hy, hno, hb1⟩; refine Hid.out ?_)
  refine Lib.hid ?_
  have HB1 := Lib.hid hb1
  have HY := Lib.hid hy
  have HNO := Lib.hid hno
  clear hb1 hy hno
  cases fb
  · obtain rfl : 0 = v := by rw [← HV.out, HNO.out rfl]
    go_wp2
    go_ret
    exact ⟨rfl, HB1.out⟩
  · obtain ⟨x, hx, hxt⟩ := HY.out rfl
    obtain ⟨z, hz⟩ : ∃ z, x.2 = z := ⟨_, rfl⟩
    obtain rfl : z = v := by rw [← HV.out, frq_found HT.out hx hxt, hz]
    have hlt := (List.getElem?_eq_some_iff.1 hx).1
    obtain ⟨b, off, rfl, hbw, -⟩ := HIN.out (by omega)
    obtain ⟨c0, c1⟩ := HIN.out.at HB1.out hx (s := ⟨x.1.toArray⟩) rfl
    rw [hz] at c1
    clear hx hxt HY c0 hbw hz
    go_wp2
    go_ret
    exact ⟨rfl, HB1.out⟩

end Go.Proofs.YthjbekgognfiiaaGreat
