/-
  What impl.SetCandidates and impl.SearchSets answer. By an AI agent.
-/
import Derived.Test.YthjbekgognfiiaaGreatPfxM
import Derived.Test.YthjbekgognfiiaaGreatSrtI
import Derived.Test.YthjbekgognfiiaaGreatIxV
namespace Go.Proofs.YthjbekgognfiiaaGreat
open Go.RowKit Go.Maps Go.Sort
set_option linter.unusedVariables false

theorem asc_inj {q : List XS} (h : AscX (setsX q)) : ∀ p ∈ q, ∀ s ∈ q, p.1.1 = s.1.1 → p = s := fun p hp s hs e => by
  obtain ⟨i, hi⟩ := List.getElem?_of_mem hp
  obtain ⟨j, hj⟩ := List.getElem?_of_mem hs
  have h1 : (setsX q)[i]? = some p.1 := by simp [setsX, hi]
  have h2 : (setsX q)[j]? = some s.1 := by simp [setsX, hj]
  rcases Nat.lt_trichotomy i j with h3 | h3 | h3
  · have := ascX_at h h1 h2 h3; omega
  · subst h3; rw [hi] at hj; exact Option.some.inj hj
  · have := ascX_at h h2 h1 h3; omega
theorem cand_ids {t : Int} {T : List TC} {S : List IS} {l : List Str} (h : ixB t T S = true) : (S.filter fun x => cdB T t l x.2).map Prod.fst = candR t T S l := by
  unfold candR
  rw [h, Bool.true_and]
  by_cases hc : (tsB l && decide (l.length ≤ 1000)) = true
  · rw [if_pos hc]
  · rw [if_neg hc]
    have : S.filter (fun x => cdB T t l x.2) = [] := by
      rw [List.filter_eq_nil_iff]
      intro x hx hcd
      unfold cdB at hcd
      rw [Bool.or_eq_true, Bool.and_eq_true, Bool.and_eq_true, decide_eq_true_eq, decide_eq_true_eq, decide_eq_true_eq, sh_iff] at hcd
      rcases hcd with ⟨h1, h2⟩ | ⟨⟨h1, h2⟩, z, hz, _⟩
      · obtain rfl := List.eq_nil_of_length_eq_zero h2
        exact hc (by rw [show tsB ([] : List Str) = true from tsB_yes ⟨(fun x hx => by cases hx), by simp [Asc]⟩]; rfl)
      · have hts : tsB l = true := by
          unfold ptR at hz
          split at hz
          · rename_i hq
            rw [Bool.and_eq_true] at hq
            exact hq.1
          · cases hz
        by_cases hn : l.length ≤ 1000
        · exact hc (by rw [hts, decide_eq_true hn]; rfl)
        · have hf : (okS (l.length : Int) && okT t) = false := by
            have : okS (l.length : Int) = false := by unfold okS; simp; omega
            rw [this]; rfl
          unfold loR at h1
          unfold hiR at h2
          rw [hf] at h1 h2
          simp at h1 h2
          omega
    rw [this]; rfl
theorem sear_ids {t : Int} {T : List TC} {S : List IS} {l : List Str} (h : ixB t T S = true) : (S.filter fun x => cdB T t l x.2 && meetR l x.2 t).map Prod.fst = searR t T S l := by
  unfold searR
  rw [if_pos h]
  have : S.filter (fun x => cdB T t l x.2 && meetR l x.2 t) = S.filter fun x => meetR x.2 l t := by
    refine List.filter_congr fun x hx => ?_
    rw [meet_comm x.2 l t]
    cases hm : meetR l x.2 t
    · simp
    · rw [(cd_iff (ixB_parts h).2.1).2 (meet_cand hm)]; rfl
  rw [this]
theorem found_both {T : List TC} {t : Int} {l : List Str} {q : List XS} {F : Int → Option Value} (h : FoundP (fun p => cdB T t l p.1.2 = true ∧ meetR l p.1.2 t = true) q F) : FoundOf (fun x => (cdB T t l x && meetR l x t) = true) q F := fun i v => by
  rw [h i v]
  constructor
  · rintro ⟨p, hp, h1, ⟨h2, h3⟩, h4⟩; exact ⟨p, hp, h1, show (cdB T t l p.1.2 && meetR l p.1.2 t) = true by rw [h2, h3]; rfl, h4⟩
  · rintro ⟨p, hp, h1, h2, h4⟩; replace h2 : (cdB T t l p.1.2 && meetR l p.1.2 t) = true := h2; rw [Bool.and_eq_true] at h2; exact ⟨p, hp, h1, h2, h4⟩
theorem wf_id {x : Int} (h : 0 ≤ x ∧ x ≤ 999) : (Lit.int .i64 x).wf = true := WalkArith.wf_i64 (by omega)
theorem good_ids {t : Int} {T : List TC} {S : List IS} (h : ixB t T S = true) : ∀ x ∈ S, (Lit.int .i64 x.1).wf = true := fun x hx => by
  obtain ⟨h1, h2, _⟩ := okX_parts ((ixB_parts h).2.2.2.1 x hx)
  exact wf_id ⟨h1, h2⟩

set_option maxRecDepth 100000 in
set_option maxHeartbeats 2000000 in
theorem cs_impl (t : Int) (ta : Option Addr) (tc : Nat) (T : List TC) (xa : Option Addr) (xc : Nat) (S : List IS) (a : Option Addr) (c : Nat) (l : List Str) (r : List Int) (w : World) (hr : candR t T S l = r) (h : SmIx w ta T tc xa S xc) (hl : Sm w a l c) (hz : cntQ S S.length ≤ 4000000) :
    Calls Tryz.prog 7 #[.agg #[.int .i64 t, .slice ta T.length tc, .slice xa S.length xc], .slice a l.length c] w (GivesIds w r) := by
  obtain ⟨w1, hw1⟩ : ∃ w1, w1 = w.alloc (.cells #[.int .i64 t, .slice ta T.length tc, .slice xa S.length xc] 27) := ⟨_, rfl⟩
  have HW1 := Lib.hid hw1
  have HB1 := Lib.hid (show Below w.heap.size w w1 by rw [hw1]; exact (Below.refl w.heap.size w).alloc (Nat.le_refl _) _)
  have HR0 := Lib.hid (show BlkV w1 w.heap.size 27 #[.int .i64 t, .slice ta T.length tc, .slice xa S.length xc] by rw [hw1]; exact BlkV.new _ _ _)
  have HX := Lib.hid (h.below HB1.out)
  have HS := Lib.hid (hl.below HB1.out)
  obtain ⟨rb, hrb⟩ : ∃ b, ixB t T S = b := ⟨_, rfl⟩
  have HRB := Lib.hid hrb
  have HR := Lib.hid hr
  have HZ := Lib.hid hz
  clear h hl hw1 hrb hr hz
  go_enter Tryz.func7, Tryz.ntmps7
  go_wp2_with (go_at_call 19; rw [← HW1.out]; (refine (ix_impl t ta tc T xa xc S rb w1 HRB.out HX.out).mono ?_); rintro e w2 ⟨rfl, hb⟩; refine Hid.out ?_)
  have HB2 := Lib.hid (HB1.out.trans (hb.mono HB1.out.size))
  have HX2 := Lib.hid (HX.out.below hb)
  have HS2 := Lib.hid (HS.out.below hb)
  have HR2 := Lib.hid (HR0.out.below hb)
  clear hb
  have q0 := HR2.out.three0
  have q1 := HR2.out.three1
  have q2 := HR2.out.three2
  cases rb
  · obtain rfl : [] = r := by rw [← HR.out]; unfold candR; rw [HRB.out]; rfl
    refine Lib.hid ?_
    go_wp2
    go_ret
    exact ⟨none, 0, rfl, OwnI.nil _ _, HB2.out⟩
  · obtain ⟨q, hq, hV, hC⟩ := q_of HX2.out.sets
    have HQ := Lib.hid hq
    have HV := Lib.hid hV
    have HAS := Lib.hid (ixB_parts HRB.out).2.2.2.2
    have HOT := Lib.hid (ixB_parts HRB.out).2.1
    have HP := Lib.hid (pfx_of t ta tc T xa xc S.length q S w2 rfl hq HX2.out.tab hV hC HAS.out (good_ids HRB.out) HZ.out)
    clear hq hV hC
    refine Lib.hid ?_
    go_wp2_with (first
      | (go_at_call 31; (refine HP.out.mono ?_); rintro e w3 ⟨bH, n, g, f, rfl, hH, hO, hn, hb3⟩; have HN3 := Lib.hid hn; have HB3 := Lib.hid (HB2.out.trans (hb3.mono HB2.out.size)); have HC3 := Lib.hid (cand_any t ta tc T a c l _ q _ bH n g f w3 rfl HOT.out (HX2.out.tab.below hb3) (HS2.out.below hb3) hO (fun p hp => by obtain ⟨a', c', e, _⟩ := HV.out p hp; exact ⟨a', c', e⟩) (asc_inj (by rw [HQ.out]; exact HAS.out)) hn hH); clear hH hO hn hb3)
      | (go_at_call 32; (refine HC3.out.mono ?_); rintro e w4 ⟨b, m, F, rfl, hN, hF, hlo, hm, hb4⟩; have HB4 := Lib.hid (HB3.out.trans (hb4.mono HB3.out.size)); have HS4 := Lib.hid (sorted_ids b m F r w4 hm hN (fun zs hn hm => by rw [ids_sorted (P := fun x => cdB T t l x) hF (by rw [HQ.out]; exact HAS.out) hn hm, HQ.out, ← HR.out]; exact cand_ids HRB.out)); clear hN hF hlo hm hb4)
      | (go_at_call 30; (refine HS4.out.mono ?_); rintro e w5 ⟨a5, c5, rfl, ho, hb5⟩; have HO5 := Lib.hid ho; have HB5 := Lib.hid (HB4.out.trans (hb5.mono HB4.out.size)); clear ho hb5))
    go_ret
    exact ⟨_, _, rfl, HO5.out.mono HB4.out.size, HB5.out⟩

set_option maxRecDepth 100000 in
set_option maxHeartbeats 2000000 in
theorem ss_impl (t : Int) (ta : Option Addr) (tc : Nat) (T : List TC) (xa : Option Addr) (xc : Nat) (S : List IS) (a : Option Addr) (c : Nat) (l : List Str) (r : List Int) (w : World) (hr : searR t T S l = r) (h : SmIx w ta T tc xa S xc) (hl : Sm w a l c) (hz : cntQ S S.length ≤ 4000000) :
    Calls Tryz.prog 8 #[.agg #[.int .i64 t, .slice ta T.length tc, .slice xa S.length xc], .slice a l.length c] w (GivesIds w r) := by
  obtain ⟨w1, hw1⟩ : ∃ w1, w1 = w.alloc (.cells #[.int .i64 t, .slice ta T.length tc, .slice xa S.length xc] 27) := ⟨_, rfl⟩
  have HW1 := Lib.hid hw1
  have HB1 := Lib.hid (show Below w.heap.size w w1 by rw [hw1]; exact (Below.refl w.heap.size w).alloc (Nat.le_refl _) _)
  have HR0 := Lib.hid (show BlkV w1 w.heap.size 27 #[.int .i64 t, .slice ta T.length tc, .slice xa S.length xc] by rw [hw1]; exact BlkV.new _ _ _)
  have HX := Lib.hid (h.below HB1.out)
  have HS := Lib.hid (hl.below HB1.out)
  obtain ⟨rb, hrb⟩ : ∃ b, ixB t T S = b := ⟨_, rfl⟩
  have HRB := Lib.hid hrb
  have HR := Lib.hid hr
  have HZ := Lib.hid hz
  clear h hl hw1 hrb hr hz
  go_enter Tryz.func8, Tryz.ntmps8
  go_wp2_with (go_at_call 19; rw [← HW1.out]; (refine (ix_impl t ta tc T xa xc S rb w1 HRB.out HX.out).mono ?_); rintro e w2 ⟨rfl, hb⟩; refine Hid.out ?_)
  have HB2 := Lib.hid (HB1.out.trans (hb.mono HB1.out.size))
  have HX2 := Lib.hid (HX.out.below hb)
  have HS2 := Lib.hid (HS.out.below hb)
  have HR2 := Lib.hid (HR0.out.below hb)
  clear hb
  have q0 := HR2.out.three0
  have q1 := HR2.out.three1
  have q2 := HR2.out.three2
  cases rb
  · obtain rfl : [] = r := by rw [← HR.out]; unfold searR; rw [HRB.out]; rfl
    refine Lib.hid ?_
    go_wp2
    go_ret
    exact ⟨none, 0, rfl, OwnI.nil _ _, HB2.out⟩
  · obtain ⟨q, hq, hV, hC⟩ := q_of HX2.out.sets
    have HQ := Lib.hid hq
    have HV := Lib.hid hV
    have HAS := Lib.hid (ixB_parts HRB.out).2.2.2.2
    have HOT := Lib.hid (ixB_parts HRB.out).2.1
    have HP := Lib.hid (pfx_of t ta tc T xa xc S.length q S w2 rfl hq HX2.out.tab hV hC HAS.out (good_ids HRB.out) HZ.out)
    clear hq hV hC
    refine Lib.hid ?_
    go_wp2_with (first
      | (go_at_call 31; (refine HP.out.mono ?_); rintro e w3 ⟨bH, n, g, f, rfl, hH, hO, hn, hb3⟩; have HN3 := Lib.hid hn; have HB3 := Lib.hid (HB2.out.trans (hb3.mono HB2.out.size)); have HC3 := Lib.hid (sim_any t ta tc T a c l _ q _ bH n g f w3 rfl HOT.out (HX2.out.tab.below hb3) (HS2.out.below hb3) hO (fun p hp => (HV.out p hp).below hb3) (asc_inj (by rw [HQ.out]; exact HAS.out)) hn hH); clear hH hO hn hb3)
      | (go_at_call 33; (refine HC3.out.mono ?_); rintro e w4 ⟨b, m, F, rfl, hN, hF, hlo, hm, hb4⟩; have HB4 := Lib.hid (HB3.out.trans (hb4.mono HB3.out.size)); have HS4 := Lib.hid (sorted_ids b m F r w4 hm hN (fun zs hn hm => by rw [ids_sorted (P := fun x => cdB T t l x && meetR l x t) (found_both hF) (by rw [HQ.out]; exact HAS.out) hn hm, HQ.out, ← HR.out]; exact sear_ids HRB.out)); clear hN hF hlo hm hb4)
      | (go_at_call 30; (refine HS4.out.mono ?_); rintro e w5 ⟨a5, c5, rfl, ho, hb5⟩; have HO5 := Lib.hid ho; have HB5 := Lib.hid (HB4.out.trans (hb5.mono HB4.out.size)); clear ho hb5))
    go_ret
    exact ⟨_, _, rfl, HO5.out.mono HB4.out.size, HB5.out⟩

end Go.Proofs.YthjbekgognfiiaaGreat
