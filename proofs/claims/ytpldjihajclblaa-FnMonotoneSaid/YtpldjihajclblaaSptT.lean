/-
  What spec.l14Test answers. By an AI agent.
-/
import Derived.Test.YtpldjihajclblaaGPrs
import Derived.Test.YtpldjihajclblaaGFmt
import Derived.Test.YtpldjihajclblaaGMem
import Derived.Test.YtpldjihajclblaaGRul
import Derived.Deep.DeepCutAuto
namespace Go.Proofs.Ytpldjihajclblaa
open Go.RowKit
set_option linter.unusedVariables false
set_option linter.unnecessarySimpa false
set_option linter.unusedSimpArgs false

def noT (y : Str) (n : Nat) : Prop := ∀ m, m < n → tryT y m = none
theorem noT_next {y : Str} {n : Nat} (h : noT y n) (hn : tryT y n = none) : noT y (n + 1) := fun m hm => by
  rcases Nat.lt_or_ge m n with h1 | h1
  · exact h m h1
  · obtain rfl : m = n := by omega
    exact hn
theorem spt_some {y : Str} {n : Nat} {t : TS} (h : noT y n) (hn : n < 6) (ht : tryT y n = some t) : sptT y = t := by
  unfold sptT
  rw [first_some hn h ht]
  rfl
theorem spt_none {y : Str} (h : noT y 6) : sptT y = ((0, 0), false) := by
  unfold sptT
  have : (List.range 6).findSome? (tryT y) = none := by
    rw [List.findSome?_eq_none_iff]
    exact fun m hm => h m (List.mem_range.1 hm)
  rw [this]
  rfl
theorem try_short {y : Str} {n : Nat} (h : ¬ (fnL n).length < y.length) : tryT y n = none := by
  unfold tryT
  rw [if_neg (fun e => h e.1)]
theorem try_other {y : Str} {n : Nat} (h : y.take (fnL n).length ≠ fnL n) : tryT y n = none := by
  unfold tryT
  rw [if_neg (fun e => h e.2)]
theorem try_below {y t : Str} {n : Nat} {x : Int} (h1 : (fnL n).length < y.length) (h2 : y.take (fnL n).length = fnL n) (ht : y.drop (fnL n).length = t) (h3 : t.head? = some 60) (hx : piR (t.drop 1) = x) : tryT y n = some (((n : Int), x), true) := by
  unfold tryT
  rw [if_pos ⟨h1, h2⟩, ht, if_pos h3, hx]
theorem try_least {y t : Str} {n : Nat} {x : Int} (h1 : (fnL n).length < y.length) (h2 : y.take (fnL n).length = fnL n) (ht : y.drop (fnL n).length = t) (h3 : t.head? ≠ some 60) (h4 : 2 < t.length) (h5 : t.take 2 = [62, 61]) (hx : piR (t.drop 2) = x) : tryT y n = some (((n : Int), x), false) := by
  unfold tryT
  rw [if_pos ⟨h1, h2⟩, ht, if_neg h3, if_pos ⟨h4, h5⟩, hx]
theorem try_no {y t : Str} {n : Nat} (ht : y.drop (fnL n).length = t) (h3 : t.head? ≠ some 60) (h4 : ¬ (2 < t.length ∧ t.take 2 = [62, 61])) : tryT y n = none := by
  unfold tryT
  split
  · rw [ht, if_neg h3, if_neg h4]
  · rfl
theorem headT_at (T : ByteArray) (h : 0 < T.size) : T.data.toList.head? = some (T[0]'h) := by
  rw [List.head?_eq_getElem?, List.getElem?_eq_getElem (by rw [dsize]; exact h)]
  simp
  rfl
theorem fnR_data (n : Int) : (fnR n).data.toList = fnL n := by simp [fnR]
theorem ext_take (s : ByteArray) (k : Nat) : (s.extract 0 k).data.toList = s.data.toList.take k := by rw [Lib.extract_data]; simp
theorem ext_drop (s : ByteArray) (k : Nat) : (s.extract k s.size).data.toList = s.data.toList.drop k := by
  rw [Lib.extract_data]
  rw [List.take_of_length_le]
  rw [List.length_drop, dsize]
  exact Nat.le_refl _

set_option maxRecDepth 100000 in
set_option maxHeartbeats 16000000 in
theorem spt_any (s : ByteArray) (t : TS) (w : World) (hs : s.size ≤ 1048576) (ht : sptT s.data.toList = t) :
    Calls Try.prog 77 #[.string s] w fun e w' => e = .returned (aggTs t) ∧ Below w.heap.size w w' := by
  have HS := Lib.hid hs
  have HT := Lib.hid ht
  clear ht
  obtain ⟨w1, hw1⟩ : ∃ w1, w.alloc (.cells #[.int .i64 0, .int .i64 0, .bool false] 53) = w1 := ⟨_, rfl⟩
  have HB1 := Lib.hid (show Below w.heap.size w w1 by rw [← hw1]; exact (Below.refl w.heap.size w).alloc (Nat.le_refl _) _)
  have HBX := Lib.hid (show BlkV w1 w.heap.size 53 #[.int .i64 0, .int .i64 0, .bool false] by rw [← hw1]; exact BlkV.new _ _ _)
  have HWE := Lib.hid hw1
  clear hw1
  go_enter Try.func77, Try.ntmps77
  go_wp2
  rw [HWE.out]
  go_loopw [3] (fun i wr => ∃ n : Nat, n ≤ 6 ∧ i = .int .i64 n ∧ noT s.data.toList n ∧ Below w1.heap.size w1 wr) (fun i _ => 6 - (intOf i).toNat)
  case atStart => exact ⟨0, Nat.zero_le _, rfl, fun m hm => absurd hm (Nat.not_lt_zero _), Below.refl _ _⟩
  case round =>
    obtain ⟨n, hn, rfl, hno, hb⟩ := hrel
    have HNO := Lib.hid hno
    have HB := Lib.hid hb
    clear hno hb
    by_cases hlt : n < 6
    · obtain ⟨h, hh⟩ : ∃ h, fnR n = h := ⟨_, rfl⟩
      have HD := Lib.hid (show h.data.toList = fnL n by rw [← hh]; exact fnR_data n)
      have HZ := Lib.hid (show h.size = (fnL n).length by rw [← dsize, HD.out])
      have HF := Lib.hid (fn_spec n h wr hh)
      clear hh
      by_cases hlen : h.size < s.size
      · by_cases hpre : s.extract 0 h.size = h
        · have hpq : (h.toList == h.toList) = true := by simp
          have hsz : (s.extract h.size s.size).size = s.size - h.size := by simp
          have HL1 := Lib.hid (show (fnL n).length < s.data.toList.length by rw [dsize, ← HZ.out]; exact hlen)
          have HL2 := Lib.hid (show s.data.toList.take (fnL n).length = fnL n by rw [← HZ.out, ← ext_take, hpre, HD.out])
          go_upto_region 7 with (go_at_call 85; ((with_reducible refine HF.out.mono ?_); rintro e w2 ⟨rfl, hb2⟩; have HB2 := Lib.hid (HB.out.trans (hb2.mono HB.out.size)); clear hb2))
          obtain ⟨T, hT⟩ : ∃ T, s.extract h.size s.size = T := ⟨_, rfl⟩
          have hT0 : 0 < T.size := by rw [← hT, hsz]; omega
          have hT9 : T.size ≤ 1048576 := by rw [← hT, hsz]; omega
          have HTD := Lib.hid (show s.data.toList.drop (fnL n).length = T.data.toList by rw [← hT, ext_drop, HZ.out])
          rw [hT]
          clear hT hsz hpq hpre
          by_cases h60 : (T[0]'hT0).toNat = 60
          · have hq60 : (((T[0]'hT0).toNat : Int) == 60) = true := by simp; omega
            have HH := Lib.hid (show T.data.toList.head? = some 60 by rw [headT_at T hT0, UInt8.toNat_inj.1 (show (T[0]'hT0).toNat = (60 : UInt8).toNat from h60)])
            have HPI := Lib.hid (fun (W : World) => spec_pi (T.extract 1 T.size) W (by simp; omega))
            have HXD := Lib.hid (ext_drop T 1)
            clear h60
            go_wp2_with (go_at_call 86; ((with_reducible refine (HPI.out _).mono ?_); rintro e w4 ⟨x, ok, rfl, hpi, hb4⟩; have HB4 := Lib.hid (HB2.out.trans (hb4.mono HB2.out.size)); have HPX := Lib.hid (piR_of hpi); clear hpi hb4; refine Hid.out ?_))
            have z := ((((HBX.out.below HB4.out).set_ 0 (.int .i64 (n : Int))).set_ 1 (.int .i64 x)).set_ 2 (.bool true))
            have e0 : _ = some (Value.int .i64 (n : Int)) := z.cell 0
            have e1 : _ = some (Value.int .i64 x) := z.cell 1
            have e2 : _ = some (Value.bool true) := z.cell 2
            have c0 := (HBX.out.below HB4.out).three0
            have c1 := (HBX.out.below HB4.out).three1
            have c2 := (HBX.out.below HB4.out).three2
            have f0 := (HBX.out.below HB4.out).frozen 0
            have f1 := (HBX.out.below HB4.out).frozen 1
            have f2 := (HBX.out.below HB4.out).frozen 2
            refine Lib.hid ?_
            go_wp2
            have HTT := spt_some HNO.out hlt (try_below (x := x) HL1.out HL2.out HTD.out HH.out (by rw [← HXD.out]; exact HPX.out))
            rw [HT.out] at HTT
            subst HTT
            refine bodyPost_ret (v := aggTs (((n : Int), x), true)) (by simp [results, Try.results77, go_sem, e0, e1, e2]) rfl ⟨rfl, ?_⟩
            exact HB1.out.trans ((((HB4.out.mono HB1.out.size).setCell (by simp) _).setCell (by simp) _).setCell (by simp) _)
          · have hq60 : (((T[0]'hT0).toNat : Int) == 60) = false := by simp; omega
            have HH := Lib.hid (show T.data.toList.head? ≠ some 60 by
              rw [headT_at T hT0]
              intro e
              injection e with e
              exact h60 (by rw [e]; rfl))
            clear h60
            by_cases h2 : 2 < T.size
            · by_cases hge : T.extract 0 2 = ⟨#[62, 61]⟩
              · have H2 := Lib.hid (show 2 < T.data.toList.length by rw [dsize]; exact h2)
                have HGE := Lib.hid (show T.data.toList.take 2 = [62, 61] by rw [← ext_take, hge])
                have hl2 : (2 : Int) < (T.size : Int) := by omega
                have HPI := Lib.hid (fun (W : World) => spec_pi (T.extract 2 T.size) W (by simp; omega))
                have HXD := Lib.hid (ext_drop T 2)
                go_wp2_with (go_at_call 86; ((with_reducible refine (HPI.out _).mono ?_); rintro e w4 ⟨x, ok, rfl, hpi, hb4⟩; have HB4 := Lib.hid (HB2.out.trans (hb4.mono HB2.out.size)); have HPX := Lib.hid (piR_of hpi); clear hpi hb4; refine Hid.out ?_))
                have z := ((((HBX.out.below HB4.out).set_ 0 (.int .i64 (n : Int))).set_ 1 (.int .i64 x)).set_ 2 (.bool false))
                have e0 : _ = some (Value.int .i64 (n : Int)) := z.cell 0
                have e1 : _ = some (Value.int .i64 x) := z.cell 1
                have e2 : _ = some (Value.bool false) := z.cell 2
                have c0 := (HBX.out.below HB4.out).three0
                have c1 := (HBX.out.below HB4.out).three1
                have c2 := (HBX.out.below HB4.out).three2
                have f0 := (HBX.out.below HB4.out).frozen 0
                have f1 := (HBX.out.below HB4.out).frozen 1
                have f2 := (HBX.out.below HB4.out).frozen 2
                refine Lib.hid ?_
                go_wp2
                have HTT := spt_some HNO.out hlt (try_least (x := x) HL1.out HL2.out HTD.out HH.out H2.out HGE.out (by rw [← HXD.out]; exact HPX.out))
                rw [HT.out] at HTT
                subst HTT
                refine bodyPost_ret (v := aggTs (((n : Int), x), false)) (by simp [results, Try.results77, go_sem, e0, e1, e2]) rfl ⟨rfl, ?_⟩
                exact HB1.out.trans ((((HB4.out.mono HB1.out.size).setCell (by simp) _).setCell (by simp) _).setCell (by simp) _)
              · have HTN := Lib.hid (show tryT s.data.toList n = none from try_no HTD.out HH.out (fun e => hge (by
                  apply ByteArray.ext
                  apply Array.toList_inj.1
                  rw [ext_take, e.2])))
                have hl2 : (2 : Int) < (T.size : Int) := by omega
                have hqg := sames hge
                have hqh : ((T.extract 0 2).toList == ([62, 61] : List UInt8)) = false := by
                  have h := hqg
                  rw [ByteArray.toList_eq ⟨#[62, 61]⟩] at h
                  exact h
                go_wp2
                go_roundw
                case rel => exact ⟨n + 1, by omega, by go_num, noT_next HNO.out HTN.out, HB2.out⟩
                case measure => simp [intOf]; omega
            · have HTN := Lib.hid (show tryT s.data.toList n = none from try_no HTD.out HH.out (fun e => h2 (by rw [← dsize]; exact e.1)))
              go_wp2
              go_roundw
              case rel => exact ⟨n + 1, by omega, by go_num, noT_next HNO.out HTN.out, HB2.out⟩
              case measure => simp [intOf]; omega
        · have HTN := Lib.hid (show tryT s.data.toList n = none from try_other (fun e => hpre (by
            apply ByteArray.ext
            apply Array.toList_inj.1
            rw [ext_take, HZ.out, e, HD.out])))
          have hq := sames hpre
          go_wp2_with (go_at_call 85; ((with_reducible refine HF.out.mono ?_); rintro e w2 ⟨rfl, hb2⟩; have HB2 := Lib.hid (HB.out.trans (hb2.mono HB.out.size)); clear hb2))
          go_roundw
          case rel => exact ⟨n + 1, by omega, by go_num, noT_next HNO.out HTN.out, HB2.out⟩
          case measure => simp [intOf]; omega
      · have HTN := Lib.hid (show tryT s.data.toList n = none from try_short (by rw [dsize, ← HZ.out]; exact hlen))
        go_wp2_with (go_at_call 85; ((with_reducible refine HF.out.mono ?_); rintro e w2 ⟨rfl, hb2⟩; have HB2 := Lib.hid (HB.out.trans (hb2.mono HB.out.size)); clear hb2))
        go_roundw
        case rel => exact ⟨n + 1, by omega, by go_num, noT_next HNO.out HTN.out, HB2.out⟩
        case measure => simp [intOf]; omega
    · obtain rfl : n = 6 := by omega
      have HTT := spt_none HNO.out
      rw [HT.out] at HTT
      subst HTT
      have c0 := (HBX.out.below HB.out).three0
      have c1 := (HBX.out.below HB.out).three1
      have c2 := (HBX.out.below HB.out).three2
      have f0 := (HBX.out.below HB.out).frozen 0
      have f1 := (HBX.out.below HB.out).frozen 1
      have f2 := (HBX.out.below HB.out).frozen 2
      have z := ((((HBX.out.below HB.out).set_ 0 (.int .i64 0)).set_ 1 (.int .i64 0)).set_ 2 (.bool false))
      have e0 : _ = some (Value.int .i64 0) := z.cell 0
      have e1 : _ = some (Value.int .i64 0) := z.cell 1
      have e2 : _ = some (Value.bool false) := z.cell 2
      go_wp2
      refine bodyPost_ret (v := aggTs ((0, 0), false)) (by simp [results, Try.results77, go_sem, e0, e1, e2]) rfl ⟨rfl, ?_⟩
      exact HB1.out.trans ((((HB.out.mono HB1.out.size).setCell (by simp) _).setCell (by simp) _).setCell (by simp) _)

end Go.Proofs.Ytpldjihajclblaa
