/-
  What impl.ParseRules reads: a test. By an AI agent.
-/
import Derived.Test.YtknkhljegmielaaDoorPrsL
import Derived.Test.YtknkhljegmielaaDoorFeatPI
import Derived.Test.YtknkhljegmielaaDoorParseInt
import Derived.Test.YtknkhljegmielaaDoorRuI
namespace Go.Proofs.YtknkhljegmielaaDoor
open Go.RowKit
set_option linter.unusedVariables false
set_option linter.unnecessarySimpa false
set_option linter.unusedSimpArgs false

/-- strings.Cut at any separator -/
theorem cutx_is (p sep : ByteArray) (w : World) (hp : p.size ≤ 1048576) (hx : MaxAt w) (N V : ByteArray) (f : Bool) (hN : (Lib.cut p.data.toList sep.data.toList).1 = N.data.toList) (hV : (Lib.cut p.data.toList sep.data.toList).2.1 = V.data.toList) (hf : (Lib.cut p.data.toList sep.data.toList).2.2 = f) :
    Calls Tryd.prog 60 #[.string p, .string sep] w fun e w' => e = .returned (.tuple #[.string N, .string V, .bool f]) ∧ Below w.heap.size w w' := by
  obtain ⟨m, hm⟩ := hx
  refine (Tryd.strings_Cut p sep m w (by omega) hm).mono fun e w' ⟨he, n, hw⟩ => ⟨?_, ?_⟩
  · rw [he, hN, hV, hf]
  · rw [hw]
    exact ⟨rfl, rfl, rfl, Nat.le_refl _, fun _ _ => rfl⟩
theorem cut_lens (l sep : Str) : (Lib.cut l sep).1.length ≤ l.length ∧ (Lib.cut l sep).2.1.length ≤ l.length := by
  rcases gc_cases sep l with ⟨x, y, e, h⟩ | h
  · rw [h, e]
    simp
    omega
  · rw [h]
    simp

theorem feat_at {h : Str} {n : Nat} (hn : n < 6) (h0 : ∀ m, m < n → fnL (m : Nat) ≠ h) (he : fnL (n : Nat) = h) : featN h = (n : Int) := by
  subst he
  exact feat_n n hn
theorem feat_none {h : Str} (h0 : ∀ m, m < 6 → fnL (m : Nat) ≠ h) : featN h = -1 := by
  unfold featN
  rw [if_neg]
  intro hlt
  have h3 := List.findIdx_getElem (xs := List.range 6) (p := fun n => fnL (n : Nat) == h) (w := by simpa using hlt)
  simp at h3
  exact h0 _ hlt h3

set_option maxRecDepth 100000 in
set_option maxHeartbeats 1000000 in
theorem feat_any (s : ByteArray) (z : Int) (w : World) (hz : featN s.data.toList = z) :
    Calls Tryd.prog 61 #[.string s] w fun e w' => e = .returned (.int .i64 z) ∧ Below w.heap.size w w' := by
  have HZ := Lib.hid hz
  clear hz
  go_enter Tryd.func61, Tryd.ntmps61
  go_wp2
  go_loopw [4] (fun i wr => ∃ n : Nat, n ≤ 6 ∧ i = .int .i64 n ∧ (∀ m, m < n → fnL (m : Nat) ≠ s.data.toList) ∧ Below w.heap.size w wr) (fun i _ => 6 - (intOf i).toNat)
  case atStart => exact ⟨0, Nat.zero_le _, rfl, fun m hm => absurd hm (Nat.not_lt_zero _), Below.refl _ _⟩
  case round =>
    obtain ⟨n, hn, rfl, hno, hb⟩ := hrel
    have HNO := Lib.hid hno
    have HB := Lib.hid hb
    clear hno hb
    by_cases hlt : n < 6
    · obtain ⟨h, hh⟩ : ∃ h, fnR n = h := ⟨_, rfl⟩
      have HD := Lib.hid (show h.data.toList = fnL n by rw [← hh]; simp [fnR])
      have HF := Lib.hid (fn_impl n h wr hh)
      clear hh
      by_cases he : h = s
      · have hq : (h.toList == s.toList) = true := by rw [he]; simp
        have HR := Lib.hid (feat_at hlt HNO.out (show fnL n = s.data.toList by rw [← HD.out, he]))
        clear he
        go_wp2_with (go_at_call 54; ((with_reducible refine HF.out.mono ?_); rintro e w2 ⟨rfl, rfl⟩))
        go_ret
        exact ⟨by rw [← HZ.out, HR.out]; rfl, HB.out⟩
      · have hq := sames he
        have HR := Lib.hid (show fnL n ≠ s.data.toList from fun e => he (by
          apply ByteArray.ext
          apply Array.toList_inj.1
          rw [HD.out, e]))
        clear he
        go_wp2_with (go_at_call 54; ((with_reducible refine HF.out.mono ?_); rintro e w2 ⟨rfl, rfl⟩))
        go_roundw
        case rel =>
          refine ⟨n + 1, by omega, by go_num, fun m hm => ?_, HB.out⟩
          rcases Nat.lt_or_ge m n with h1 | h1
          · exact HNO.out m h1
          · obtain rfl : m = n := by omega
            exact HR.out
        case measure => simp [intOf]; omega
    · obtain rfl : n = 6 := by omega
      go_wp2
      go_ret
      exact ⟨by rw [← HZ.out, feat_none HNO.out]; rfl, HB.out⟩

theorem imt_least {y : Str} {N V : Str} (hc : Lib.cut y [62, 61] = (N, V, true)) : imtT y = ((featN N, piR V), false) := by unfold imtT; rw [hc]; rfl
theorem imt_below {y : Str} {a b N V : Str} {f : Bool} (hc : Lib.cut y [62, 61] = (a, b, false)) (hd : Lib.cut y [60] = (N, V, f)) : imtT y = ((featN N, piR V), true) := by unfold imtT; rw [hc, hd]; rfl

set_option maxRecDepth 100000 in
set_option maxHeartbeats 4000000 in
theorem rdt_any (s : ByteArray) (t : TS) (w : World) (hs : s.size ≤ 1048576) (ht : imtT s.data.toList = t) (hT : TabAt w) (hx : MaxAt w) :
    Calls Tryd.prog 45 #[.string s] w fun e w' => e = .returned (aggTs t) ∧ Below w.heap.size w w' := by
  have HT := Lib.hid ht
  have HTAB := Lib.hid hT
  have HMAX := Lib.hid hx
  obtain ⟨w1, hw1⟩ : ∃ w1, w.alloc (.cells #[.int .i64 0, .int .i64 0, .bool false] 43) = w1 := ⟨_, rfl⟩
  have HB1 := Lib.hid (show Below w.heap.size w w1 by rw [← hw1]; exact (Below.refl w.heap.size w).alloc (Nat.le_refl _) _)
  have HBX := Lib.hid (show BlkV w1 w.heap.size 43 #[.int .i64 0, .int .i64 0, .bool false] by rw [← hw1]; exact BlkV.new _ _ _)
  have HWE := Lib.hid hw1
  obtain ⟨N1, hN1⟩ : ∃ N : ByteArray, (Lib.cut s.data.toList [62, 61]).1 = N.data.toList := ⟨⟨(Lib.cut s.data.toList [62, 61]).1.toArray⟩, by simp⟩
  obtain ⟨V1, hV1⟩ : ∃ N : ByteArray, (Lib.cut s.data.toList [62, 61]).2.1 = N.data.toList := ⟨⟨(Lib.cut s.data.toList [62, 61]).2.1.toArray⟩, by simp⟩
  obtain ⟨N2, hN2⟩ : ∃ N : ByteArray, (Lib.cut s.data.toList [60]).1 = N.data.toList := ⟨⟨(Lib.cut s.data.toList [60]).1.toArray⟩, by simp⟩
  obtain ⟨V2, hV2⟩ : ∃ N : ByteArray, (Lib.cut s.data.toList [60]).2.1 = N.data.toList := ⟨⟨(Lib.cut s.data.toList [60]).2.1.toArray⟩, by simp⟩
  obtain ⟨f1, hf1⟩ : ∃ f, (Lib.cut s.data.toList [62, 61]).2.2 = f := ⟨_, rfl⟩
  obtain ⟨f2, hf2⟩ : ∃ f, (Lib.cut s.data.toList [60]).2.2 = f := ⟨_, rfl⟩
  have HV1 := Lib.hid (show V1.size ≤ 1048576 by rw [← dsize, ← hV1]; have h1 := (cut_lens s.data.toList [62, 61]).2; have h2 := dsize s; omega)
  have HV2 := Lib.hid (show V2.size ≤ 1048576 by rw [← dsize, ← hV2]; have h1 := (cut_lens s.data.toList [60]).2; have h2 := dsize s; omega)
  have HC1 := Lib.hid (fun (W : World) (hW : Below w.heap.size w W) => cutx_is s ⟨#[62, 61]⟩ W hs (HMAX.out.on hW) N1 V1 f1 hN1 hV1 hf1)
  have HC2 := Lib.hid (fun (W : World) (hW : Below w.heap.size w W) => cutx_is s ⟨#[60]⟩ W hs (HMAX.out.on hW) N2 V2 f2 hN2 hV2 hf2)
  have HK1 := Lib.hid (show Lib.cut s.data.toList [62, 61] = (N1.data.toList, V1.data.toList, f1) by rw [← hN1, ← hV1, ← hf1])
  have HK2 := Lib.hid (show Lib.cut s.data.toList [60] = (N2.data.toList, V2.data.toList, f2) by rw [← hN2, ← hV2, ← hf2])
  clear ht hT hx hw1 hN1 hV1 hN2 hV2 hf1 hf2
  go_enter Tryd.func45, Tryd.ntmps45
  cases f1
  · obtain ⟨z, hz⟩ : ∃ z, featN N2.data.toList = z := ⟨_, rfl⟩
    have HZ := Lib.hid hz
    have HF := Lib.hid (fun (W : World) => feat_any N2 z W hz)
    have HIM := Lib.hid (imt_below HK1.out HK2.out)
    clear hz
    go_wp2_with (first
      | (go_at_call 60; rw [HWE.out]; ((with_reducible refine (HC1.out _ HB1.out).mono ?_); rintro e w2 ⟨rfl, hb2⟩; have HB2X := Lib.hid hb2; have HB2 := Lib.hid (HB1.out.trans (hb2.mono HB1.out.size)); clear hb2))
      | (go_at_call 60; ((with_reducible refine (HC2.out _ HB2.out).mono ?_); rintro e w3 ⟨rfl, hb3⟩; have HB3X := Lib.hid (HB2X.out.trans (hb3.mono HB2X.out.size)); have HB3 := Lib.hid (HB2.out.trans (hb3.mono HB2.out.size)); clear hb3))
      | (go_at_call 61; ((with_reducible refine (HF.out _).mono ?_); rintro e w4 ⟨rfl, hb4⟩; have HB4X := Lib.hid (HB3X.out.trans (hb4.mono HB3X.out.size)); have HB4 := Lib.hid (HB3.out.trans (hb4.mono HB3.out.size)); clear hb4; refine Hid.out ?_)))
    have HA4 := Lib.hid (HB4.out.alloc HB4.out.size (.cells #[.int .i64 z, .int .i64 0, .bool true] 43))
    have HNB := Lib.hid (BlkV.new w4 43 #[.int .i64 z, .int .i64 0, .bool true])
    have HLT := Lib.hid (show w.heap.size < w4.heap.size ∧ w1.heap.size = w.heap.size + 1 by
      have h1 : w1.heap.size = w.heap.size + 1 := by rw [← HWE.out]; simp
      have h2 := HB4X.out.size
      omega)
    refine Lib.hid ?_
    go_wp2_with (go_at_call 62; (refine (impl_pi V2 _ HV2.out (HTAB.out.on HA4.out)).mono ?_); rintro e w5 ⟨x, ok, rfl, hpi, hb5⟩; have HPX := Lib.hid (piR_of hpi); have h6 := HNB.out.below hb5; have h2 := ((HBX.out.below HB4X.out).alloc (.cells #[.int .i64 z, .int .i64 0, .bool true] 43)).below hb5; have c60 := h6.three0; have c61 := h6.three1; have c62 := h6.three2; have f61 := h6.frozen 1; have c20 := h2.three0; have c21 := h2.three1; have c22 := h2.three2; have f20 := h2.frozen 0; have f21 := h2.frozen 1; have f22 := h2.frozen 2; have H2 := Lib.hid h2; have HB5 := Lib.hid (HA4.out.trans (hb5.mono HA4.out.size)); have hne : ¬ w4.heap.size = w.heap.size := (by have := HLT.out.1; omega); have hne2 : ¬ w.heap.size = w4.heap.size := (by have := HLT.out.1; omega); clear hpi hb5 h6 h2; refine Hid.out ?_)
    have z0 := ((((H2.out.other ⟨w4.heap.size, 1, none⟩ (.int .i64 x) (by simpa using hne2)).set_ 0 (.int .i64 z)).set_ 1 (.int .i64 x)).set_ 2 (.bool true))
    have e0 : _ = some (Value.int .i64 z) := z0.cell 0
    have e1 : _ = some (Value.int .i64 x) := z0.cell 1
    have e2 : _ = some (Value.bool true) := z0.cell 2
    refine Lib.hid ?_
    go_wp2
    have HTT := HIM.out
    rw [HT.out, HZ.out, HPX.out] at HTT
    subst HTT
    refine bodyPost_ret (v := aggTs ((z, x), true)) (by simp [results, Tryd.results45, go_sem, e0, e1, e2]) rfl ⟨rfl, ?_⟩
    have hlt := HLT.out.1
    exact ((((HB5.out).setCell (by show w.heap.size ≤ w4.heap.size; omega) _).setCell (by simp) _).setCell (by simp) _).setCell (by simp) _
  · obtain ⟨z, hz⟩ : ∃ z, featN N1.data.toList = z := ⟨_, rfl⟩
    have HZ := Lib.hid hz
    have HF := Lib.hid (fun (W : World) => feat_any N1 z W hz)
    have HIM := Lib.hid (imt_least HK1.out)
    clear hz
    go_wp2_with (first
      | (go_at_call 60; rw [HWE.out]; ((with_reducible refine (HC1.out _ HB1.out).mono ?_); rintro e w3 ⟨rfl, hb2⟩; have HB3X := Lib.hid hb2; have HB3 := Lib.hid (HB1.out.trans (hb2.mono HB1.out.size)); clear hb2))
      | (go_at_call 61; ((with_reducible refine (HF.out _).mono ?_); rintro e w4 ⟨rfl, hb4⟩; have HB4X := Lib.hid (HB3X.out.trans (hb4.mono HB3X.out.size)); have HB4 := Lib.hid (HB3.out.trans (hb4.mono HB3.out.size)); clear hb4; refine Hid.out ?_)))
    have HA4 := Lib.hid (HB4.out.alloc HB4.out.size (.cells #[.int .i64 z, .int .i64 0, .bool false] 43))
    have HNB := Lib.hid (BlkV.new w4 43 #[.int .i64 z, .int .i64 0, .bool false])
    have HLT := Lib.hid (show w.heap.size < w4.heap.size ∧ w1.heap.size = w.heap.size + 1 by
      have h1 : w1.heap.size = w.heap.size + 1 := by rw [← HWE.out]; simp
      have h2 := HB4X.out.size
      omega)
    refine Lib.hid ?_
    go_wp2_with (go_at_call 62; (refine (impl_pi V1 _ HV1.out (HTAB.out.on HA4.out)).mono ?_); rintro e w5 ⟨x, ok, rfl, hpi, hb5⟩; have HPX := Lib.hid (piR_of hpi); have h6 := HNB.out.below hb5; have h2 := ((HBX.out.below HB4X.out).alloc (.cells #[.int .i64 z, .int .i64 0, .bool false] 43)).below hb5; have c60 := h6.three0; have c61 := h6.three1; have c62 := h6.three2; have f61 := h6.frozen 1; have c20 := h2.three0; have c21 := h2.three1; have c22 := h2.three2; have f20 := h2.frozen 0; have f21 := h2.frozen 1; have f22 := h2.frozen 2; have H2 := Lib.hid h2; have HB5 := Lib.hid (HA4.out.trans (hb5.mono HA4.out.size)); have hne : ¬ w4.heap.size = w.heap.size := (by have := HLT.out.1; omega); have hne2 : ¬ w.heap.size = w4.heap.size := (by have := HLT.out.1; omega); clear hpi hb5 h6 h2; refine Hid.out ?_)
    have z0 := ((((H2.out.other ⟨w4.heap.size, 1, none⟩ (.int .i64 x) (by simpa using hne2)).set_ 0 (.int .i64 z)).set_ 1 (.int .i64 x)).set_ 2 (.bool false))
    have e0 : _ = some (Value.int .i64 z) := z0.cell 0
    have e1 : _ = some (Value.int .i64 x) := z0.cell 1
    have e2 : _ = some (Value.bool false) := z0.cell 2
    refine Lib.hid ?_
    go_wp2
    have HTT := HIM.out
    rw [HT.out, HZ.out, HPX.out] at HTT
    subst HTT
    refine bodyPost_ret (v := aggTs ((z, x), false)) (by simp [results, Tryd.results45, go_sem, e0, e1, e2]) rfl ⟨rfl, ?_⟩
    have hlt := HLT.out.1
    exact ((((HB5.out).setCell (by show w.heap.size ≤ w4.heap.size; omega) _).setCell (by simp) _).setCell (by simp) _).setCell (by simp) _

end Go.Proofs.YtknkhljegmielaaDoor
