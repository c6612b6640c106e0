/-
  MeetsJaccard on both sides, any two lists and any threshold. By an AI agent.
-/
import Derived.Test.YtggohfinkpppkaaSim
namespace Go.Proofs.Ytggohfinkpppkaa
open Go.RowKit
set_option linter.unusedVariables false

noncomputable def meetR (a b : List Str) (t : Int) : Bool := if (tsB a && tsB b) && goodR a.length b.length t then decide (t * ((uniteR a b).length : Int) ≤ 1000 * (ccN a b : Int)) else false
theorem good_parts {x y t : Int} (h : goodR x y t = true) : okS x = true ∧ okS y = true ∧ okT t = true := by
  rw [goodR, Bool.and_eq_true, Bool.and_eq_true] at h
  exact h

set_option maxRecDepth 100000 in
set_option maxHeartbeats 1000000 in
theorem meet_spec (a0 a1 : Option Addr) (c0 c1 : Nat) (l0 l1 : List Str) (t : Int) (w : World) (h0 : Sm w a0 l0 c0) (h1 : Sm w a1 l1 c1) :
    Calls Try.prog 53 #[.slice a0 l0.length c0, .slice a1 l1.length c1, .int .i64 t] w fun e w' => e = .returned (.bool (meetR l0 l1 t)) ∧ Below w.heap.size w w' := by
  have H0 := Lib.hid h0
  have H1 := Lib.hid h1
  have hl0 := h0.2.2.2.1
  have hl1 := h1.2.2.2.1
  obtain ⟨r, hr⟩ : ∃ r, meetR l0 l1 t = r := ⟨_, rfl⟩
  rw [hr]
  have HR := Lib.hid hr
  obtain ⟨b, hb⟩ : ∃ b, (tsB l0 && tsB l1) = b := ⟨_, rfl⟩
  have HTS := Lib.hid hb
  cases b
  · obtain rfl : false = r := by rw [← HR.out, meetR, hb]; rfl
    clear h0 h1 hb hr HR
    go_enter Try.func53, Try.ntmps53
    go_wp2_with (first
      | (go_at_call 101; (with_reducible refine (sets_is _ _ _ _ _ _ _ _ H0.out H1.out HTS.out).mono ?_); rintro e w1 ⟨rfl, hb1⟩; have HB1 := Lib.hid hb1; clear hb1))
    go_ret
    exact ⟨rfl, HB1.out⟩
  · have hts := hb
    obtain ⟨g, hg⟩ : ∃ g, goodR l0.length l1.length t = g := ⟨_, rfl⟩
    have HG := Lib.hid hg
    cases g
    · obtain rfl : false = r := by rw [← HR.out, meetR, hb, hg]; rfl
      clear h0 h1 hb hr HR hts hg
      go_enter Try.func53, Try.ntmps53
      go_wp2_with (first
        | (go_at_call 101; (with_reducible refine (sets_is _ _ _ _ _ _ _ _ H0.out H1.out HTS.out).mono ?_); rintro e w1 ⟨rfl, hb1⟩; have HB1 := Lib.hid hb1; clear hb1)
        | (go_at_call 102; (with_reducible refine (good_is _ _ _ _ _ HG.out).mono ?_); rintro e w5 ⟨rfl, rfl⟩))
      go_ret
      exact ⟨rfl, HB1.out⟩
    · obtain ⟨s0, s1⟩ := pair_yes hts
      have S0 := Lib.hid s0
      have S1 := Lib.hid s1
      obtain ⟨n, hn⟩ : ∃ n, ccN l0 l1 = n := ⟨_, rfl⟩
      obtain ⟨u, hu⟩ : ∃ u, (uniteR l0 l1).length = u := ⟨_, rfl⟩
      have HN := Lib.hid hn
      have HU := Lib.hid hu
      have hn1 : n ≤ l0.length := by rw [← hn]; exact cc_le _ _
      have hnu : u + n = l0.length + l1.length := by rw [← hn, ← hu]; exact unite_count s0 s1
      have hgx := hg
      obtain ⟨gx, gy, gt⟩ := good_parts hgx
      obtain ⟨gx1, gx2⟩ := okS_yes gx
      obtain ⟨gy1, gy2⟩ := okS_yes gy
      obtain ⟨gt1, gt2⟩ := okT_yes gt
      obtain ⟨p, hp⟩ : ∃ p, t * (u : Int) = p := ⟨_, rfl⟩
      have hpr := mul_range (show 0 ≤ t by omega) gt2 (show (0 : Int) ≤ (u : Int) by omega) (show (u : Int) ≤ 2000 by omega)
      rw [hp] at hpr
      obtain ⟨hp1, hp2⟩ := hpr
      have HV := Lib.hid (show decide (p ≤ 1000 * (n : Int)) = r by rw [← HR.out, meetR, hts, hgx, Bool.and_self, if_pos rfl, hn, hu, hp])
      have hw : IntKind.i64.wrap (t * (u : Int)) = p := by rw [hp]; exact wrap_of hp1 (by omega)
      clear h0 h1 hb hr HR hts hg hgx gx gy gt s0 s1 hn hu hp
      go_enter Try.func53, Try.ntmps53
      go_wp2_with (first
        | (go_at_call 101; (with_reducible refine (sets_is _ _ _ _ _ _ _ _ H0.out H1.out HTS.out).mono ?_); rintro e w1 ⟨rfl, hb1⟩; have HB1 := Lib.hid hb1; clear hb1)
        | (go_at_call 102; (with_reducible refine (good_is _ _ _ _ _ HG.out).mono ?_); rintro e w5 ⟨rfl, rfl⟩)
        | (go_at_call 61; (with_reducible refine (cm_spec _ _ _ _ _ _ _ _ (H0.out.below HB1.out) (H1.out.below HB1.out) S0.out HN.out).mono ?_); rintro e w2 ⟨am, cm, rfl, hb2⟩; have HB2 := Lib.hid (HB1.out.trans (hb2.mono HB1.out.size)); clear hb2)
        | (go_at_call 103; (with_reducible refine (un_spec _ _ _ _ _ _ _ _ (H0.out.below HB2.out) (H1.out.below HB2.out) HU.out).mono ?_); rintro e w3 ⟨au, cu, rfl, hb3⟩; have HB3 := Lib.hid (HB2.out.trans (hb3.mono HB2.out.size)); clear hb3))
      go_ret
      exact ⟨sret_bool HV.out, HB3.out⟩

set_option maxRecDepth 100000 in
set_option maxHeartbeats 1000000 in
theorem meet_impl (a0 a1 : Option Addr) (c0 c1 : Nat) (l0 l1 : List Str) (t : Int) (w : World) (h0 : Sm w a0 l0 c0) (h1 : Sm w a1 l1 c1) :
    Calls Try.prog 52 #[.slice a0 l0.length c0, .slice a1 l1.length c1, .int .i64 t] w fun e w' => e = .returned (.bool (meetR l0 l1 t)) ∧ Below w.heap.size w w' := by
  have H0 := Lib.hid h0
  have H1 := Lib.hid h1
  have hl0 := h0.2.2.2.1
  have hl1 := h1.2.2.2.1
  obtain ⟨r, hr⟩ : ∃ r, meetR l0 l1 t = r := ⟨_, rfl⟩
  rw [hr]
  have HR := Lib.hid hr
  obtain ⟨b0, e0⟩ : ∃ b0, tsB l0 = b0 := ⟨_, rfl⟩
  obtain ⟨b1, e1⟩ : ∃ b1, tsB l1 = b1 := ⟨_, rfl⟩
  obtain ⟨bx, ex⟩ : ∃ b, okS l0.length = b := ⟨_, rfl⟩
  obtain ⟨by', ey⟩ : ∃ b, okS l1.length = b := ⟨_, rfl⟩
  obtain ⟨bt, et⟩ : ∃ b, okT t = b := ⟨_, rfl⟩
  have HX := Lib.hid ex
  have HY := Lib.hid ey
  have HT := Lib.hid et
  have HRR := Lib.hid (show (if (b0 && b1) && (bx && (by' && bt)) then decide (t * ((uniteR l0 l1).length : Int) ≤ 1000 * (ccN l0 l1 : Int)) else false) = r by rw [← HR.out, meetR, goodR, e0, e1, ex, ey, et])
  have C0 := Lib.hid (fun W (h : Sm W a0 l0 c0) => (tset_impl a0 c0 l0 W h).mono fun e w' k => (show e = .returned (.bool b0) ∧ Below W.heap.size W w' by rw [← e0]; exact k))
  have C1 := Lib.hid (fun W (h : Sm W a1 l1 c1) => (tset_impl a1 c1 l1 W h).mono fun e w' k => (show e = .returned (.bool b1) ∧ Below W.heap.size W w' by rw [← e1]; exact k))
  cases bx
  · obtain rfl : false = r := by rw [← HRR.out]; cases b0 <;> cases b1 <;> rfl
    clear h0 h1 e0 e1 hr HR HRR ex ey et
    go_enter Try.func52, Try.ntmps52
    go_wp2_with (first
      | (go_at_call 99; (with_reducible refine (setSize_is _ _ _ HX.out).mono ?_); rintro e w5 ⟨rfl, rfl⟩))
    go_ret
    exact ⟨rfl, Below.refl _ _⟩
  · cases by'
    · obtain rfl : false = r := by rw [← HRR.out]; cases b0 <;> cases b1 <;> rfl
      clear h0 h1 e0 e1 hr HR HRR ex ey et
      go_enter Try.func52, Try.ntmps52
      go_wp2_with (first
        | (go_at_call 99; (with_reducible refine (setSize_is _ _ _ HX.out).mono ?_); rintro e w5 ⟨rfl, rfl⟩)
        | (go_at_call 99; (with_reducible refine (setSize_is _ _ _ HY.out).mono ?_); rintro e w5 ⟨rfl, rfl⟩))
      go_ret
      exact ⟨rfl, Below.refl _ _⟩
    · cases bt
      · obtain rfl : false = r := by rw [← HRR.out]; cases b0 <;> cases b1 <;> rfl
        clear h0 h1 e0 e1 hr HR HRR ex ey et
        go_enter Try.func52, Try.ntmps52
        go_wp2_with (first
          | (go_at_call 99; (with_reducible refine (setSize_is _ _ _ HX.out).mono ?_); rintro e w5 ⟨rfl, rfl⟩)
          | (go_at_call 99; (with_reducible refine (setSize_is _ _ _ HY.out).mono ?_); rintro e w5 ⟨rfl, rfl⟩)
          | (go_at_call 74; (with_reducible refine (threshold_is _ _ _ HT.out).mono ?_); rintro e w5 ⟨rfl, rfl⟩))
        go_ret
        exact ⟨rfl, Below.refl _ _⟩
      · cases b0
        · obtain rfl : false = r := by rw [← HRR.out]; rfl
          clear h0 h1 e0 e1 hr HR HRR ex ey et
          go_enter Try.func52, Try.ntmps52
          go_wp2_with (first
            | (go_at_call 99; (with_reducible refine (setSize_is _ _ _ HX.out).mono ?_); rintro e w5 ⟨rfl, rfl⟩)
            | (go_at_call 99; (with_reducible refine (setSize_is _ _ _ HY.out).mono ?_); rintro e w5 ⟨rfl, rfl⟩)
            | (go_at_call 74; (with_reducible refine (threshold_is _ _ _ HT.out).mono ?_); rintro e w5 ⟨rfl, rfl⟩)
            | (go_at_call 98; (with_reducible refine (C0.out _ H0.out).mono ?_); rintro e w1 ⟨rfl, hb1⟩; have HB1 := Lib.hid hb1; clear hb1))
          go_ret
          exact ⟨rfl, HB1.out⟩
        · cases b1
          · obtain rfl : false = r := by rw [← HRR.out]; rfl
            clear h0 h1 e0 e1 hr HR HRR ex ey et
            go_enter Try.func52, Try.ntmps52
            go_wp2_with (first
              | (go_at_call 99; (with_reducible refine (setSize_is _ _ _ HX.out).mono ?_); rintro e w5 ⟨rfl, rfl⟩)
              | (go_at_call 99; (with_reducible refine (setSize_is _ _ _ HY.out).mono ?_); rintro e w5 ⟨rfl, rfl⟩)
              | (go_at_call 74; (with_reducible refine (threshold_is _ _ _ HT.out).mono ?_); rintro e w5 ⟨rfl, rfl⟩)
              | (go_at_call 98; (with_reducible refine (C1.out _ (H1.out.below HB1.out)).mono ?_); rintro e w2 ⟨rfl, hb2⟩; have HB2 := Lib.hid (HB1.out.trans (hb2.mono HB1.out.size)); clear hb2)
              | (go_at_call 98; (with_reducible refine (C0.out _ H0.out).mono ?_); rintro e w1 ⟨rfl, hb1⟩; have HB1 := Lib.hid hb1; clear hb1))
            go_ret
            exact ⟨rfl, HB2.out⟩
          · have hts : (tsB l0 && tsB l1) = true := by rw [e0, e1]; rfl
            obtain ⟨s0, s1⟩ := pair_yes hts
            have S0 := Lib.hid s0
            have S1 := Lib.hid s1
            obtain ⟨n, hn⟩ : ∃ n, ccN l0 l1 = n := ⟨_, rfl⟩
            obtain ⟨u, hu⟩ : ∃ u, (uniteR l0 l1).length = u := ⟨_, rfl⟩
            have HN := Lib.hid hn
            have HU := Lib.hid hu
            have hn1 : n ≤ l0.length := by rw [← hn]; exact cc_le _ _
            have hnu : u + n = l0.length + l1.length := by rw [← hn, ← hu]; exact unite_count s0 s1
            have hgx := show goodR l0.length l1.length t = true by rw [goodR, ex, ey, et]; rfl
            obtain ⟨gx, gy, gt⟩ := good_parts hgx
            obtain ⟨gx1, gx2⟩ := okS_yes gx
            obtain ⟨gy1, gy2⟩ := okS_yes gy
            obtain ⟨gt1, gt2⟩ := okT_yes gt
            obtain ⟨p, hp⟩ : ∃ p, t * (u : Int) = p := ⟨_, rfl⟩
            have hpr := mul_range (show 0 ≤ t by omega) gt2 (show (0 : Int) ≤ (u : Int) by omega) (show (u : Int) ≤ 2000 by omega)
            rw [hp] at hpr
            obtain ⟨hp1, hp2⟩ := hpr
            have HV := Lib.hid (show decide (p ≤ 1000 * (n : Int)) = r by rw [← HR.out, meetR, hts, hgx, Bool.and_self, if_pos rfl, hn, hu, hp])
            have hw : IntKind.i64.wrap (t * ((l0.length : Int) + (l1.length : Int) - (n : Int))) = p := by
              rw [show (l0.length : Int) + (l1.length : Int) - (n : Int) = (u : Int) by omega, hp]
              exact wrap_of hp1 (by omega)
            clear h0 h1 hr HR HRR hts e0 e1 ex ey et hgx gx gy gt s0 s1 hn hu hp
            go_enter Try.func52, Try.ntmps52
            go_wp2_with (first
              | (go_at_call 99; (with_reducible refine (setSize_is _ _ _ HX.out).mono ?_); rintro e w5 ⟨rfl, rfl⟩)
              | (go_at_call 99; (with_reducible refine (setSize_is _ _ _ HY.out).mono ?_); rintro e w5 ⟨rfl, rfl⟩)
              | (go_at_call 74; (with_reducible refine (threshold_is _ _ _ HT.out).mono ?_); rintro e w5 ⟨rfl, rfl⟩)
              | (go_at_call 98; (with_reducible refine (C1.out _ (H1.out.below HB1.out)).mono ?_); rintro e w2 ⟨rfl, hb2⟩; have HB2 := Lib.hid (HB1.out.trans (hb2.mono HB1.out.size)); clear hb2)
              | (go_at_call 98; (with_reducible refine (C0.out _ H0.out).mono ?_); rintro e w1 ⟨rfl, hb1⟩; have HB1 := Lib.hid hb1; clear hb1)
              | (go_at_call 100; (with_reducible refine (ct_impl _ _ _ _ _ _ _ _ (H0.out.below HB2.out) (H1.out.below HB2.out) S0.out S1.out HN.out).mono ?_); rintro e w3 ⟨rfl, hb3⟩; have HB3 := Lib.hid (HB2.out.trans (hb3.mono HB2.out.size)); clear hb3))
            go_ret
            exact ⟨sret_bool HV.out, HB3.out⟩

end Go.Proofs.Ytggohfinkpppkaa
