/-
  Texts laid together: Sim, Meet, PlR, PrefFacts, Plen, TcF, IMap, FrqI. By an AI agent.
-/
import Derived.Test.YthjbekgognfiiaaGreatJ4
import Derived.Test.YthjbekgognfiiaaGreatJ3
import Derived.Test.YthjbekgognfiiaaGreatJ5
import Derived.Test.YthjbekgognfiiaaGreatTokSet2
import Derived.Test.YthjbekgognfiiaaGreatJ2
import Derived.Test.YthjbekgognfiiaaGreatJ1
/-
  What Jaccard, Dice and Containment answer on both sides. By an AI agent.
-/
namespace Go.Proofs.YthjbekgognfiiaaGreat
open Go.RowKit
set_option linter.unusedVariables false

theorem tsB_true {l : List Str} (h : tsB l = true) : TokSet l := Classical.byContradiction fun k => by rw [tsB_no k] at h; cases h
theorem tsB_asc {l : List Str} (h : tsB l = true) : Asc l := (tsB_true h).2

def ratI (n d : Int) : Int := if d = 0 then 1000 else 1000 * n / d
theorem ratI_zero {n d : Int} (h : d = 0) : ratI n d = 1000 := by unfold ratI; rw [if_pos h]
theorem ratI_some {n d : Int} (h : d ≠ 0) : ratI n d = 1000 * n / d := by unfold ratI; rw [if_neg h]

/-- a slice of a known length comes back -/
def GivesN (w : World) (n : Nat) (e : Ending) (w' : World) : Prop := ∃ a cap, e = .returned (.slice a n cap) ∧ Below w.heap.size w w'
theorem GivesS.n {w : World} {l : List Str} {e : Ending} {w' : World} (h : GivesS w l e w') : GivesN w l.length e w' := by
  obtain ⟨a, cap, he, _, hb⟩ := h
  exact ⟨a, cap, he, hb⟩
theorem cm_spec (a0 a1 : Option Addr) (c0 c1 : Nat) (l0 l1 : List Str) (n : Nat) (w : World) (h0 : Sm w a0 l0 c0) (h1 : Sm w a1 l1 c1) (s0 : Asc l0) (hn : ccN l0 l1 = n) :
    Calls Tryz.prog 76 #[.slice a0 l0.length c0, .slice a1 l1.length c1] w (GivesN w n) :=
  (common_spec a0 a1 c0 c1 l0 l1 w h0 h1).mono fun e w' h => by
    have := h.n
    rwa [show (commonR l0 l1).length = n from (common_count s0).trans hn] at this
theorem un_spec (a0 a1 : Option Addr) (c0 c1 : Nat) (l0 l1 : List Str) (u : Nat) (w : World) (h0 : Sm w a0 l0 c0) (h1 : Sm w a1 l1 c1) (hu : (uniteR l0 l1).length = u) :
    Calls Tryz.prog 79 #[.slice a0 l0.length c0, .slice a1 l1.length c1] w (GivesN w u) :=
  (unite_spec a0 a1 c0 c1 l0 l1 w h0 h1).mono fun e w' h => by
    have := h.n
    rwa [hu] at this

set_option maxRecDepth 100000 in
theorem sets_is (a0 a1 : Option Addr) (c0 c1 : Nat) (l0 l1 : List Str) (b : Bool) (w : World) (h0 : Sm w a0 l0 c0) (h1 : Sm w a1 l1 c1) (hb : (tsB l0 && tsB l1) = b) :
    Calls Tryz.prog 78 #[.slice a0 l0.length c0, .slice a1 l1.length c1] w fun e w' => e = .returned (.bool b) ∧ Below w.heap.size w w' := by
  have H0 := Lib.hid h0
  have H1 := Lib.hid h1
  obtain ⟨b0, e0⟩ : ∃ b0, tsB l0 = b0 := ⟨_, rfl⟩
  obtain ⟨b1, e1⟩ : ∃ b1, tsB l1 = b1 := ⟨_, rfl⟩
  have HV := Lib.hid (show (b0 && b1) = b by rw [← hb, e0, e1])
  have C0 := Lib.hid (fun W (h : Sm W a0 l0 c0) => (tset_spec a0 c0 l0 W h).mono fun e w' k => (show e = .returned (.bool b0) ∧ Below W.heap.size W w' by rw [← e0]; exact k))
  have C1 := Lib.hid (fun W (h : Sm W a1 l1 c1) => (tset_spec a1 c1 l1 W h).mono fun e w' k => (show e = .returned (.bool b1) ∧ Below W.heap.size W w' by rw [← e1]; exact k))
  clear h0 h1 e0 e1 hb
  cases b0
  · go_enter Tryz.func78, Tryz.ntmps78
    go_wp2_with (go_at_call 35; (with_reducible refine (C0.out _ H0.out).mono ?_); rintro e w1 ⟨rfl, hb1⟩; have HB1 := Lib.hid hb1; clear hb1)
    go_ret
    exact ⟨sret_bool (by rw [← HV.out]; rfl), HB1.out⟩
  · go_enter Tryz.func78, Tryz.ntmps78
    go_wp2_with (first
      | (go_at_call 35; (with_reducible refine (C1.out _ (H1.out.below HB1.out)).mono ?_); rintro e w2 ⟨rfl, hb2⟩; have HB2 := Lib.hid (HB1.out.trans (hb2.mono HB1.out.size)); clear hb2)
      | (go_at_call 35; (with_reducible refine (C0.out _ H0.out).mono ?_); rintro e w1 ⟨rfl, hb1⟩; have HB1 := Lib.hid hb1; clear hb1))
    go_ret
    exact ⟨sret_bool (by rw [← HV.out]; rfl), HB2.out⟩

theorem ct_impl (a0 a1 : Option Addr) (c0 c1 : Nat) (l0 l1 : List Str) (n : Nat) (w : World) (h0 : Sm w a0 l0 c0) (h1 : Sm w a1 l1 c1) (s0 : Asc l0) (s1 : Asc l1) (hn : ccN l0 l1 = n) :
    Calls Tryz.prog 106 #[.slice a0 l0.length c0, .slice a1 l1.length c1] w fun e w' => e = .returned (.int .i64 n) ∧ Below w.heap.size w w' :=
  (count_impl a0 a1 c0 c1 l0 l1 w h0 h1 s0 s1).mono fun e w' h => by rwa [hn] at h

noncomputable def jacR (a b : List Str) : Int := if tsB a && tsB b then ratI (ccN a b) ((uniteR a b).length : Int) else 0
noncomputable def diceR (a b : List Str) : Int := if tsB a && tsB b then ratI (2 * (ccN a b : Int)) ((a.length : Int) + (b.length : Int)) else 0
noncomputable def contR (a b : List Str) : Int := if tsB a && tsB b then ratI (ccN a b) (min (a.length : Int) (b.length : Int)) else 0
theorem pair_yes {a b : List Str} (h : (tsB a && tsB b) = true) : Asc a ∧ Asc b := by
  rw [Bool.and_eq_true] at h
  exact ⟨tsB_asc h.1, tsB_asc h.2⟩

end Go.Proofs.YthjbekgognfiiaaGreat

/-
  MeetsJaccard on both sides, any two lists and any threshold. By an AI agent.
-/
namespace Go.Proofs.YthjbekgognfiiaaGreat
open Go.RowKit
set_option linter.unusedVariables false

noncomputable def meetR (a b : List Str) (t : Int) : Bool := if (tsB a && tsB b) && goodR a.length b.length t then decide (t * ((uniteR a b).length : Int) ≤ 1000 * (ccN a b : Int)) else false
theorem good_parts {x y t : Int} (h : goodR x y t = true) : okS x = true ∧ okS y = true ∧ okT t = true := by
  rw [goodR, Bool.and_eq_true, Bool.and_eq_true] at h
  exact h

set_option maxRecDepth 100000 in
set_option maxHeartbeats 1000000 in
theorem meet_spec (a0 a1 : Option Addr) (c0 c1 : Nat) (l0 l1 : List Str) (t : Int) (w : World) (h0 : Sm w a0 l0 c0) (h1 : Sm w a1 l1 c1) :
    Calls Tryz.prog 39 #[.slice a0 l0.length c0, .slice a1 l1.length c1, .int .i64 t] w fun e w' => e = .returned (.bool (meetR l0 l1 t)) ∧ Below w.heap.size w w' := by
  have H0 := Lib.hid h0
  have H1 := Lib.hid h1
  have hl0 := h0.2.2.2.1
  have hl1 := h1.2.2.2.1
  obtain ⟨r, hr⟩ : ∃ r, meetR l0 l1 t = r := ⟨_, rfl⟩
  rw [hr]
  have HR := Lib.hid hr
  obtain ⟨b, hb⟩ : ∃ b, (tsB l0 && tsB l1) = b := ⟨_, rfl⟩
  have HTS := Lib.hid hb
  cases b
  · obtain rfl : false = r := by rw [← HR.out, meetR, hb]; rfl
    clear h0 h1 hb hr HR
    go_enter Tryz.func39, Tryz.ntmps39
    go_wp2_with (first
      | (go_at_call 78; (with_reducible refine (sets_is _ _ _ _ _ _ _ _ H0.out H1.out HTS.out).mono ?_); rintro e w1 ⟨rfl, hb1⟩; have HB1 := Lib.hid hb1; clear hb1))
    go_ret
    exact ⟨rfl, HB1.out⟩
  · have hts := hb
    obtain ⟨g, hg⟩ : ∃ g, goodR l0.length l1.length t = g := ⟨_, rfl⟩
    have HG := Lib.hid hg
    cases g
    · obtain rfl : false = r := by rw [← HR.out, meetR, hb, hg]; rfl
      clear h0 h1 hb hr HR hts hg
      go_enter Tryz.func39, Tryz.ntmps39
      go_wp2_with (first
        | (go_at_call 78; (with_reducible refine (sets_is _ _ _ _ _ _ _ _ H0.out H1.out HTS.out).mono ?_); rintro e w1 ⟨rfl, hb1⟩; have HB1 := Lib.hid hb1; clear hb1)
        | (go_at_call 75; (with_reducible refine (good_is _ _ _ _ _ HG.out).mono ?_); rintro e w5 ⟨rfl, rfl⟩))
      go_ret
      exact ⟨rfl, HB1.out⟩
    · obtain ⟨s0, s1⟩ := pair_yes hts
      have S0 := Lib.hid s0
      have S1 := Lib.hid s1
      obtain ⟨n, hn⟩ : ∃ n, ccN l0 l1 = n := ⟨_, rfl⟩
      obtain ⟨u, hu⟩ : ∃ u, (uniteR l0 l1).length = u := ⟨_, rfl⟩
      have HN := Lib.hid hn
      have HU := Lib.hid hu
      have hn1 : n ≤ l0.length := by rw [← hn]; exact cc_le _ _
      have hnu : u + n = l0.length + l1.length := by rw [← hn, ← hu]; exact unite_count s0 s1
      have hgx := hg
      obtain ⟨gx, gy, gt⟩ := good_parts hgx
      obtain ⟨gx1, gx2⟩ := okS_yes gx
      obtain ⟨gy1, gy2⟩ := okS_yes gy
      obtain ⟨gt1, gt2⟩ := okT_yes gt
      obtain ⟨p, hp⟩ : ∃ p, t * (u : Int) = p := ⟨_, rfl⟩
      have hpr := mul_range (show 0 ≤ t by omega) gt2 (show (0 : Int) ≤ (u : Int) by omega) (show (u : Int) ≤ 2000 by omega)
      rw [hp] at hpr
      obtain ⟨hp1, hp2⟩ := hpr
      have HV := Lib.hid (show decide (p ≤ 1000 * (n : Int)) = r by rw [← HR.out, meetR, hts, hgx, Bool.and_self, if_pos rfl, hn, hu, hp])
      have hw : IntKind.i64.wrap (t * (u : Int)) = p := by rw [hp]; exact wrap_of hp1 (by omega)
      clear h0 h1 hb hr HR hts hg hgx gx gy gt s0 s1 hn hu hp
      go_enter Tryz.func39, Tryz.ntmps39
      go_wp2_with (first
        | (go_at_call 78; (with_reducible refine (sets_is _ _ _ _ _ _ _ _ H0.out H1.out HTS.out).mono ?_); rintro e w1 ⟨rfl, hb1⟩; have HB1 := Lib.hid hb1; clear hb1)
        | (go_at_call 75; (with_reducible refine (good_is _ _ _ _ _ HG.out).mono ?_); rintro e w5 ⟨rfl, rfl⟩)
        | (go_at_call 76; (with_reducible refine (cm_spec _ _ _ _ _ _ _ _ (H0.out.below HB1.out) (H1.out.below HB1.out) S0.out HN.out).mono ?_); rintro e w2 ⟨am, cm, rfl, hb2⟩; have HB2 := Lib.hid (HB1.out.trans (hb2.mono HB1.out.size)); clear hb2)
        | (go_at_call 79; (with_reducible refine (un_spec _ _ _ _ _ _ _ _ (H0.out.below HB2.out) (H1.out.below HB2.out) HU.out).mono ?_); rintro e w3 ⟨au, cu, rfl, hb3⟩; have HB3 := Lib.hid (HB2.out.trans (hb3.mono HB2.out.size)); clear hb3))
      go_ret
      exact ⟨sret_bool HV.out, HB3.out⟩

set_option maxRecDepth 100000 in
set_option maxHeartbeats 1000000 in
theorem meet_impl (a0 a1 : Option Addr) (c0 c1 : Nat) (l0 l1 : List Str) (t : Int) (w : World) (h0 : Sm w a0 l0 c0) (h1 : Sm w a1 l1 c1) :
    Calls Tryz.prog 71 #[.slice a0 l0.length c0, .slice a1 l1.length c1, .int .i64 t] w fun e w' => e = .returned (.bool (meetR l0 l1 t)) ∧ Below w.heap.size w w' := by
  have H0 := Lib.hid h0
  have H1 := Lib.hid h1
  have hl0 := h0.2.2.2.1
  have hl1 := h1.2.2.2.1
  obtain ⟨r, hr⟩ : ∃ r, meetR l0 l1 t = r := ⟨_, rfl⟩
  rw [hr]
  have HR := Lib.hid hr
  obtain ⟨b0, e0⟩ : ∃ b0, tsB l0 = b0 := ⟨_, rfl⟩
  obtain ⟨b1, e1⟩ : ∃ b1, tsB l1 = b1 := ⟨_, rfl⟩
  obtain ⟨bx, ex⟩ : ∃ b, okS l0.length = b := ⟨_, rfl⟩
  obtain ⟨by', ey⟩ : ∃ b, okS l1.length = b := ⟨_, rfl⟩
  obtain ⟨bt, et⟩ : ∃ b, okT t = b := ⟨_, rfl⟩
  have HX := Lib.hid ex
  have HY := Lib.hid ey
  have HT := Lib.hid et
  have HRR := Lib.hid (show (if (b0 && b1) && (bx && (by' && bt)) then decide (t * ((uniteR l0 l1).length : Int) ≤ 1000 * (ccN l0 l1 : Int)) else false) = r by rw [← HR.out, meetR, goodR, e0, e1, ex, ey, et])
  have C0 := Lib.hid (fun W (h : Sm W a0 l0 c0) => (tset_impl a0 c0 l0 W h).mono fun e w' k => (show e = .returned (.bool b0) ∧ Below W.heap.size W w' by rw [← e0]; exact k))
  have C1 := Lib.hid (fun W (h : Sm W a1 l1 c1) => (tset_impl a1 c1 l1 W h).mono fun e w' k => (show e = .returned (.bool b1) ∧ Below W.heap.size W w' by rw [← e1]; exact k))
  cases bx
  · obtain rfl : false = r := by rw [← HRR.out]; cases b0 <;> cases b1 <;> rfl
    clear h0 h1 e0 e1 hr HR HRR ex ey et
    go_enter Tryz.func71, Tryz.ntmps71
    go_wp2_with (first
      | (go_at_call 103; (with_reducible refine (setSize_is _ _ _ HX.out).mono ?_); rintro e w5 ⟨rfl, rfl⟩))
    go_ret
    exact ⟨rfl, Below.refl _ _⟩
  · cases by'
    · obtain rfl : false = r := by rw [← HRR.out]; cases b0 <;> cases b1 <;> rfl
      clear h0 h1 e0 e1 hr HR HRR ex ey et
      go_enter Tryz.func71, Tryz.ntmps71
      go_wp2_with (first
        | (go_at_call 103; (with_reducible refine (setSize_is _ _ _ HX.out).mono ?_); rintro e w5 ⟨rfl, rfl⟩)
        | (go_at_call 103; (with_reducible refine (setSize_is _ _ _ HY.out).mono ?_); rintro e w5 ⟨rfl, rfl⟩))
      go_ret
      exact ⟨rfl, Below.refl _ _⟩
    · cases bt
      · obtain rfl : false = r := by rw [← HRR.out]; cases b0 <;> cases b1 <;> rfl
        clear h0 h1 e0 e1 hr HR HRR ex ey et
        go_enter Tryz.func71, Tryz.ntmps71
        go_wp2_with (first
          | (go_at_call 103; (with_reducible refine (setSize_is _ _ _ HX.out).mono ?_); rintro e w5 ⟨rfl, rfl⟩)
          | (go_at_call 103; (with_reducible refine (setSize_is _ _ _ HY.out).mono ?_); rintro e w5 ⟨rfl, rfl⟩)
          | (go_at_call 51; (with_reducible refine (threshold_is _ _ _ HT.out).mono ?_); rintro e w5 ⟨rfl, rfl⟩))
        go_ret
        exact ⟨rfl, Below.refl _ _⟩
      · cases b0
        · obtain rfl : false = r := by rw [← HRR.out]; rfl
          clear h0 h1 e0 e1 hr HR HRR ex ey et
          go_enter Tryz.func71, Tryz.ntmps71
          go_wp2_with (first
            | (go_at_call 103; (with_reducible refine (setSize_is _ _ _ HX.out).mono ?_); rintro e w5 ⟨rfl, rfl⟩)
            | (go_at_call 103; (with_reducible refine (setSize_is _ _ _ HY.out).mono ?_); rintro e w5 ⟨rfl, rfl⟩)
            | (go_at_call 51; (with_reducible refine (threshold_is _ _ _ HT.out).mono ?_); rintro e w5 ⟨rfl, rfl⟩)
            | (go_at_call 82; (with_reducible refine (C0.out _ H0.out).mono ?_); rintro e w1 ⟨rfl, hb1⟩; have HB1 := Lib.hid hb1; clear hb1))
          go_ret
          exact ⟨rfl, HB1.out⟩
        · cases b1
          · obtain rfl : false = r := by rw [← HRR.out]; rfl
            clear h0 h1 e0 e1 hr HR HRR ex ey et
            go_enter Tryz.func71, Tryz.ntmps71
            go_wp2_with (first
              | (go_at_call 103; (with_reducible refine (setSize_is _ _ _ HX.out).mono ?_); rintro e w5 ⟨rfl, rfl⟩)
              | (go_at_call 103; (with_reducible refine (setSize_is _ _ _ HY.out).mono ?_); rintro e w5 ⟨rfl, rfl⟩)
              | (go_at_call 51; (with_reducible refine (threshold_is _ _ _ HT.out).mono ?_); rintro e w5 ⟨rfl, rfl⟩)
              | (go_at_call 82; (with_reducible refine (C1.out _ (H1.out.below HB1.out)).mono ?_); rintro e w2 ⟨rfl, hb2⟩; have HB2 := Lib.hid (HB1.out.trans (hb2.mono HB1.out.size)); clear hb2)
              | (go_at_call 82; (with_reducible refine (C0.out _ H0.out).mono ?_); rintro e w1 ⟨rfl, hb1⟩; have HB1 := Lib.hid hb1; clear hb1))
            go_ret
            exact ⟨rfl, HB2.out⟩
          · have hts : (tsB l0 && tsB l1) = true := by rw [e0, e1]; rfl
            obtain ⟨s0, s1⟩ := pair_yes hts
            have S0 := Lib.hid s0
            have S1 := Lib.hid s1
            obtain ⟨n, hn⟩ : ∃ n, ccN l0 l1 = n := ⟨_, rfl⟩
            obtain ⟨u, hu⟩ : ∃ u, (uniteR l0 l1).length = u := ⟨_, rfl⟩
            have HN := Lib.hid hn
            have HU := Lib.hid hu
            have hn1 : n ≤ l0.length := by rw [← hn]; exact cc_le _ _
            have hnu : u + n = l0.length + l1.length := by rw [← hn, ← hu]; exact unite_count s0 s1
            have hgx := show goodR l0.length l1.length t = true by rw [goodR, ex, ey, et]; rfl
            obtain ⟨gx, gy, gt⟩ := good_parts hgx
            obtain ⟨gx1, gx2⟩ := okS_yes gx
            obtain ⟨gy1, gy2⟩ := okS_yes gy
            obtain ⟨gt1, gt2⟩ := okT_yes gt
            obtain ⟨p, hp⟩ : ∃ p, t * (u : Int) = p := ⟨_, rfl⟩
            have hpr := mul_range (show 0 ≤ t by omega) gt2 (show (0 : Int) ≤ (u : Int) by omega) (show (u : Int) ≤ 2000 by omega)
            rw [hp] at hpr
            obtain ⟨hp1, hp2⟩ := hpr
            have HV := Lib.hid (show decide (p ≤ 1000 * (n : Int)) = r by rw [← HR.out, meetR, hts, hgx, Bool.and_self, if_pos rfl, hn, hu, hp])
            have hw : IntKind.i64.wrap (t * ((l0.length : Int) + (l1.length : Int) - (n : Int))) = p := by
              rw [show (l0.length : Int) + (l1.length : Int) - (n : Int) = (u : Int) by omega, hp]
              exact wrap_of hp1 (by omega)
            clear h0 h1 hr HR HRR hts e0 e1 ex ey et hgx gx gy gt s0 s1 hn hu hp
            go_enter Tryz.func71, Tryz.ntmps71
            go_wp2_with (first
              | (go_at_call 103; (with_reducible refine (setSize_is _ _ _ HX.out).mono ?_); rintro e w5 ⟨rfl, rfl⟩)
              | (go_at_call 103; (with_reducible refine (setSize_is _ _ _ HY.out).mono ?_); rintro e w5 ⟨rfl, rfl⟩)
              | (go_at_call 51; (with_reducible refine (threshold_is _ _ _ HT.out).mono ?_); rintro e w5 ⟨rfl, rfl⟩)
              | (go_at_call 82; (with_reducible refine (C1.out _ (H1.out.below HB1.out)).mono ?_); rintro e w2 ⟨rfl, hb2⟩; have HB2 := Lib.hid (HB1.out.trans (hb2.mono HB1.out.size)); clear hb2)
              | (go_at_call 82; (with_reducible refine (C0.out _ H0.out).mono ?_); rintro e w1 ⟨rfl, hb1⟩; have HB1 := Lib.hid hb1; clear hb1)
              | (go_at_call 106; (with_reducible refine (ct_impl _ _ _ _ _ _ _ _ (H0.out.below HB2.out) (H1.out.below HB2.out) S0.out S1.out HN.out).mono ?_); rintro e w3 ⟨rfl, hb3⟩; have HB3 := Lib.hid (HB2.out.trans (hb3.mono HB2.out.size)); clear hb3))
            go_ret
            exact ⟨sret_bool HV.out, HB3.out⟩

end Go.Proofs.YthjbekgognfiiaaGreat

/-
  The length of a prefix: plain facts. By an AI agent.
-/
namespace Go.Proofs.YthjbekgognfiiaaGreat
open Go

/-- the length of a prefix -/
def plR (n t : Int) : Int := if okS n && okT t then (if n = 0 then 0 else n - lbLo n t + 1) else -1
theorem pl_no {n t : Int} (h : (okS n && okT t) = false) : plR n t = -1 := by unfold plR; rw [h]; rfl
theorem pl_zero {t : Int} (h : (okS 0 && okT t) = true) : plR 0 t = 0 := by unfold plR; rw [h]; rfl
theorem pl_some {n t : Int} (h : (okS n && okT t) = true) (h0 : n ≠ 0) : plR n t = n - lbLo n t + 1 := by unfold plR; rw [h, if_pos rfl, if_neg h0]
theorem ok_two {n t : Int} (h : (okS n && okT t) = true) : 0 ≤ n ∧ n ≤ 1000 ∧ 1 ≤ t ∧ t ≤ 1000 := by
  rw [Bool.and_eq_true] at h
  have h1 := okS_yes h.1
  have h2 := okT_yes h.2
  omega
theorem lo_range {n t : Int} (h : (okS n && okT t) = true) : 0 ≤ lbLo n t ∧ lbLo n t ≤ n ∧ (1 ≤ n → 1 ≤ lbLo n t) := by
  obtain ⟨h1, h2, h3, h4⟩ := ok_two h
  have hp : 0 ≤ n * t := Int.mul_nonneg h1 (by omega)
  have hq : n * t ≤ n * 1000 := Int.mul_le_mul_of_nonneg_left h4 h1
  unfold lbLo
  refine ⟨Int.ediv_nonneg (by omega) (by omega), ?_, fun hn => ?_⟩
  · have : (n * t + 999) / 1000 < n + 1 := (Int.ediv_lt_iff_lt_mul (by omega)).2 (by omega)
    omega
  · have hr : n * 1 ≤ n * t := Int.mul_le_mul_of_nonneg_left h3 h1
    exact (Int.le_ediv_iff_mul_le (by omega)).2 (by omega)
theorem pl_range {n : Nat} {t : Int} (h : (okS n && okT t) = true) : 0 ≤ plR n t ∧ plR n t ≤ (n : Int) := by
  obtain ⟨h1, h2, h3⟩ := lo_range h
  by_cases h0 : n = 0
  · subst h0
    rw [show plR ((0 : Nat) : Int) t = 0 from pl_zero h]
    omega
  · rw [pl_some h (by omega)]
    have := h3 (by omega)
    omega
theorem pl_neg {n t : Int} (h : plR n t < 0) : (okS n && okT t) = false := by
  cases hb : (okS n && okT t)
  · rfl
  · obtain ⟨h1, h2, h3⟩ := lo_range hb
    by_cases h0 : n = 0
    · subst h0
      rw [pl_zero hb] at h
      omega
    · rw [pl_some hb h0] at h
      omega

end Go.Proofs.YthjbekgognfiiaaGreat

/-
  Prefixes: plain facts. By an AI agent.
-/
namespace Go.Proofs.YthjbekgognfiiaaGreat
open Go

/-- the tokens of a prefix -/
noncomputable def ptR (tab : List TC) (l : List Str) (t : Int) : List Str := if tsB l && (okS l.length && okT t) then (ordR tab l).take (plR l.length t).toNat else []
theorem pt_no {tab : List TC} {l : List Str} {t : Int} (h : tsB l = false ∨ (okS l.length && okT t) = false) : ptR tab l t = [] := by
  unfold ptR
  rcases h with h | h <;> rw [h] <;> simp
theorem pt_yes {tab : List TC} {l : List Str} {t : Int} (h1 : tsB l = true) (h2 : (okS l.length && okT t) = true) : ptR tab l t = (ordR tab l).take (plR l.length t).toNat := by
  unfold ptR
  rw [h1, h2]
  rfl
theorem pt_mem {tab : List TC} {l : List Str} {t : Int} {x : Str} (h : x ∈ ptR tab l t) : x ∈ l := by
  unfold ptR at h
  split at h
  · exact (ord_perm tab l).mem_iff.1 (List.mem_of_mem_take h)
  · cases h
theorem pt_len {tab : List TC} {l : List Str} {t : Int} : (ptR tab l t).length ≤ l.length := by
  unfold ptR
  split
  · rw [List.length_take, ord_len]; omega
  · simp
theorem pt_full {tab : List TC} {l : List Str} {t : Int} (h1 : tsB l = true) (h2 : (okS l.length && okT t) = true) : ((ptR tab l t).length : Int) = plR l.length t := by
  obtain ⟨h3, h4⟩ := pl_range h2
  rw [pt_yes h1 h2, List.length_take, ord_len]
  omega

/-- two sets meet a threshold: the least overlap, the bounds, and a token of both prefixes -/
theorem meets_parts {a b : List Str} {t : Int} (h : meetR a b t = true) : tsB a = true ∧ tsB b = true ∧ goodR a.length b.length t = true ∧ t * ((uniteR a b).length : Int) ≤ 1000 * (ccN a b : Int) := by
  unfold meetR at h
  split at h
  · rename_i hg
    rw [Bool.and_eq_true, Bool.and_eq_true] at hg
    exact ⟨hg.1.1, hg.1.2, hg.2, by simpa using h⟩
  · cases h
theorem unite_le {a b : List Str} (ha : Asc a) (hb : Asc b) : (uniteR a b).length + ccN a b = a.length + b.length := unite_count ha hb
theorem mo_iff {x y t c u : Int} (ht : 1 ≤ t) (hu : u + c = x + y) : t * u ≤ 1000 * c ↔ moR x y t ≤ c := by
  have e : t * u = t * (x + y) - t * c := by rw [← hu, Int.mul_add]; omega
  have e2 : (c + 1) * (1000 + t) = 1000 * c + t * c + 1000 + t := by rw [Int.add_mul, Int.mul_add, Int.mul_comm c t]; omega
  obtain ⟨p, hp⟩ : ∃ p, t * (x + y) = p := ⟨_, rfl⟩
  obtain ⟨q, hq⟩ : ∃ q, t * c = q := ⟨_, rfl⟩
  have key : moR x y t < c + 1 ↔ p + 999 + t < (c + 1) * (1000 + t) := by
    unfold moR
    rw [hp]
    exact Int.ediv_lt_iff_lt_mul (by omega)
  rw [e, hp, hq]
  rw [e2, hq] at key
  constructor
  · intro h
    have := key.2 (by omega)
    omega
  · intro h
    have := key.1 (by omega)
    omega
theorem meets_mo {a b : List Str} {t : Int} (ha : tsB a = true) (hb : tsB b = true) (hg : goodR a.length b.length t = true) : meetR a b t = decide (moR a.length b.length t ≤ (ccN a b : Int)) := by
  have h1 := tsB_asc ha
  have h2 := tsB_asc hb
  have hu := unite_le h1 h2
  obtain ⟨_, _, gt⟩ := good_parts hg
  have := okT_yes gt
  unfold meetR
  rw [ha, hb, hg]
  simp only [Bool.and_self, if_true]
  exact decide_eq_decide.2 (mo_iff (by omega) (by omega))
theorem meets_low {a b : List Str} {t : Int} (h : meetR a b t = true) : lbLo a.length t ≤ (ccN a b : Int) ∧ lbLo b.length t ≤ (ccN a b : Int) ∧ lbLo a.length t ≤ (b.length : Int) ∧ (b.length : Int) ≤ lbHi a.length t := by
  obtain ⟨ha, hb, hg, hm⟩ := meets_parts h
  have h1 := tsB_asc ha
  have h2 := tsB_asc hb
  have hu := unite_le h1 h2
  have hc1 := cc_le a b
  have hc2 := cc_le' h1 h2
  obtain ⟨_, _, gt⟩ := good_parts hg
  have ht := okT_yes gt
  have la : (a.length : Int) * t ≤ ((uniteR a b).length : Int) * t := Int.mul_le_mul_of_nonneg_right (by omega) (by omega)
  have lb : (b.length : Int) * t ≤ ((uniteR a b).length : Int) * t := Int.mul_le_mul_of_nonneg_right (by omega) (by omega)
  rw [Int.mul_comm t] at hm
  have k1 : ((a.length : Int) * t + 999) / 1000 < (ccN a b : Int) + 1 := (Int.ediv_lt_iff_lt_mul (by omega)).2 (by omega)
  have k2 : ((b.length : Int) * t + 999) / 1000 < (ccN a b : Int) + 1 := (Int.ediv_lt_iff_lt_mul (by omega)).2 (by omega)
  have k3 : (b.length : Int) ≤ (a.length : Int) * 1000 / t := (Int.le_ediv_iff_mul_le (by omega)).2 (by omega)
  unfold lbLo lbHi
  omega
theorem meets_some {a b : List Str} {t : Int} (h : meetR a b t = true) (h0 : a.length + b.length ≠ 0) : 1 ≤ ccN a b := by
  obtain ⟨ha, hb, hg, hm⟩ := meets_parts h
  have h1 := tsB_asc ha
  have h2 := tsB_asc hb
  have hu := unite_le h1 h2
  have hc1 := cc_le a b
  have hc2 := cc_le' h1 h2
  obtain ⟨_, _, gt⟩ := good_parts hg
  have ht := okT_yes gt
  have hl : t * 1 ≤ t * ((uniteR a b).length : Int) := Int.mul_le_mul_of_nonneg_left (by omega) (by omega)
  omega
theorem share_one {tab : List TC} {a b : List Str} {t : Int} (h : meetR a b t = true) (h0 : a.length + b.length ≠ 0) : ∃ z, z ∈ ptR tab a t ∧ z ∈ ptR tab b t := by
  obtain ⟨ha, hb, hg, hm⟩ := meets_parts h
  have h1 := tsB_asc ha
  have h2 := tsB_asc hb
  have hc := meets_some h h0
  obtain ⟨k1, k2, _, _⟩ := meets_low h
  obtain ⟨ga, gb, gt⟩ := good_parts hg
  have oka : (okS a.length && okT t) = true := by rw [ga, gt]; rfl
  have okb : (okS b.length && okT t) = true := by rw [gb, gt]; rfl
  have na : a.Nodup := h1.imp fun h => str_ne_of h
  have nb : b.Nodup := h2.imp fun h => str_ne_of h
  have hcl : (a.filter fun x => decide (x ∈ b)).length = ccN a b := rfl
  obtain ⟨z, hz, hmin⟩ := least_common tab a b (by rw [hcl]; omega)
  have hz2 := List.mem_filter.1 hz
  have hb1 : 1 ≤ b.length := List.length_pos_of_mem (by simpa using hz2.2)
  have ha1 : 1 ≤ a.length := List.length_pos_of_mem hz2.1
  have nc : (a.filter fun x => decide (x ∈ b)).Nodup := na.filter _
  refine ⟨z, ?_, ?_⟩
  · rw [pt_yes ha oka]
    refine share_take na nc (fun y hy => (List.mem_filter.1 hy).1) hz hmin ?_
    rw [hcl, pl_some oka (by omega)]
    omega
  · rw [pt_yes hb okb]
    refine share_take nb nc (fun y hy => by simpa using (List.mem_filter.1 hy).2) hz hmin ?_
    rw [hcl, pl_some okb (by omega)]
    omega

end Go.Proofs.YthjbekgognfiiaaGreat

/-
  What PrefixLength answers, on both sides. By an AI agent.
-/
namespace Go.Proofs.YthjbekgognfiiaaGreat
open Go.RowKit
set_option linter.unusedVariables false

theorem good_zero (n t : Int) : goodR n 0 t = (okS n && okT t) := by unfold goodR; rw [show okS 0 = true from rfl]; simp

set_option maxRecDepth 100000 in
theorem pl_spec (n t r : Int) (w : World) (hr : plR n t = r) :
    Calls Tryz.prog 108 #[.int .i64 n, .int .i64 t] w fun e w' => e = .returned (.int .i64 r) ∧ Below w.heap.size w w' := by
  obtain ⟨g, hg⟩ : ∃ g, (okS n && okT t) = g := ⟨_, rfl⟩
  have HG := Lib.hid (show goodR n 0 t = g by rw [good_zero, hg])
  cases g
  · rw [pl_no hg] at hr
    subst hr
    clear hg
    go_enter Tryz.func108, Tryz.ntmps108
    go_wp2_with (go_at_call 75; (with_reducible refine (good_is _ _ _ _ _ HG.out).mono ?_); rintro e w' ⟨rfl, rfl⟩)
    go_ret
    exact ⟨rfl, Below.refl _ _⟩
  · by_cases h0 : n = 0
    · subst h0
      rw [pl_zero hg] at hr
      subst hr
      clear hg
      go_enter Tryz.func108, Tryz.ntmps108
      go_wp2_with (go_at_call 75; (with_reducible refine (good_is _ _ _ _ _ HG.out).mono ?_); rintro e w' ⟨rfl, rfl⟩)
      go_ret
      exact ⟨rfl, Below.refl _ _⟩
    · rw [pl_some hg h0] at hr
      obtain ⟨h1, h2, h3, h4⟩ := ok_two hg
      obtain ⟨q1, q2, _⟩ := lo_range hg
      obtain ⟨lo, hlo⟩ : ∃ lo, lbLo n t = lo := ⟨_, rfl⟩
      rw [hlo] at hr q1 q2
      subst hr
      have HL := Lib.hid (show (if okS n && okT t then lbLo n t else -1) = lo by rw [hg, if_pos rfl, hlo])
      obtain ⟨hv, hhv⟩ : ∃ v, (if okS n && okT t then lbHi n t else -1) = v := ⟨_, rfl⟩
      have HH := Lib.hid hhv
      clear hg hlo hhv
      go_enter Tryz.func108, Tryz.ntmps108
      go_wp2_with (first
        | (go_at_call 75; (with_reducible refine (good_is _ _ _ _ _ HG.out).mono ?_); rintro e w' ⟨rfl, rfl⟩)
        | (go_at_call 36; (with_reducible refine (lb_spec _ _ _ _ _ HL.out HH.out).mono ?_); rintro e w1 ⟨rfl, hb1⟩; have HB1 := Lib.hid hb1; clear hb1))
      go_ret
      exact ⟨rfl, HB1.out⟩

set_option maxRecDepth 100000 in
theorem pl_impl (n t r : Int) (w : World) (hr : plR n t = r) :
    Calls Tryz.prog 127 #[.int .i64 n, .int .i64 t] w fun e w' => e = .returned (.int .i64 r) ∧ Below w.heap.size w w' := by
  obtain ⟨g, hg⟩ : ∃ g, (okS n && okT t) = g := ⟨_, rfl⟩
  obtain ⟨hv, hhv⟩ : ∃ v, (if okS n && okT t then lbHi n t else -1) = v := ⟨_, rfl⟩
  have HH := Lib.hid hhv
  clear hhv
  cases g
  · rw [pl_no hg] at hr
    subst hr
    have HL := Lib.hid (show (if okS n && okT t then lbLo n t else -1) = -1 by rw [hg]; rfl)
    clear hg
    go_enter Tryz.func127, Tryz.ntmps127
    go_wp2_with (go_at_call 68; (with_reducible refine (lb_impl _ _ _ _ _ HL.out HH.out).mono ?_); rintro e w1 ⟨rfl, hb1⟩; have HB1 := Lib.hid hb1; clear hb1)
    go_ret
    exact ⟨rfl, HB1.out⟩
  · obtain ⟨h1, h2, h3, h4⟩ := ok_two hg
    obtain ⟨q1, q2, _⟩ := lo_range hg
    obtain ⟨lo, hlo⟩ : ∃ lo, lbLo n t = lo := ⟨_, rfl⟩
    have HL := Lib.hid (show (if okS n && okT t then lbLo n t else -1) = lo by rw [hg, if_pos rfl, hlo])
    by_cases h0 : n = 0
    · subst h0
      rw [pl_zero hg] at hr
      subst hr
      rw [hlo] at q1 q2
      clear hg hlo
      go_enter Tryz.func127, Tryz.ntmps127
      go_wp2_with (go_at_call 68; (with_reducible refine (lb_impl _ _ _ _ _ HL.out HH.out).mono ?_); rintro e w1 ⟨rfl, hb1⟩; have HB1 := Lib.hid hb1; clear hb1)
      go_ret
      exact ⟨rfl, HB1.out⟩
    · rw [pl_some hg h0, hlo] at hr
      subst hr
      rw [hlo] at q1 q2
      clear hg hlo
      go_enter Tryz.func127, Tryz.ntmps127
      go_wp2_with (go_at_call 68; (with_reducible refine (lb_impl _ _ _ _ _ HL.out HH.out).mono ?_); rintro e w1 ⟨rfl, hb1⟩; have HB1 := Lib.hid hb1; clear hb1)
      go_ret
      exact ⟨rfl, HB1.out⟩

end Go.Proofs.YthjbekgognfiiaaGreat

/-
  What IsTokenTable and TokenFrequency answer, on both sides. By an AI agent.
-/
namespace Go.Proofs.YthjbekgognfiiaaGreat
open Go.RowKit
set_option linter.unusedVariables false

theorem tret_bool {a b : Bool} (h : a = b) : Ending.returned (.bool a) = .returned (.bool b) := by rw [h]
theorem InT.at {w wr : World} {b off : Nat} {l : List TC} (h : InT w (some ⟨b, off, none⟩) l) (hb : Below w.heap.size w wr) {k : Nat} {x : TC} (hx : l[k]? = some x) {s : ByteArray} (hs : encStr x.1 = .string s) :
    wr.cell? ⟨b, off + k * 2, none⟩ = some (.string s) ∧ wr.cell? ⟨b, off + k * 2 + 1, none⟩ = some (.int .i64 x.2) := by
  obtain ⟨b', off', e, hlt, hc⟩ := h (by have := (List.getElem?_eq_some_iff.1 hx).1; omega)
  simp only [Option.some.injEq, Addr.mk.injEq, and_true] at e
  obtain ⟨rfl, rfl⟩ := e
  obtain ⟨h0, h1⟩ := hc k x hx
  rw [hb.cell (p := ⟨b, off + k * 2, none⟩) hlt, hb.cell (p := ⟨b, off + k * 2 + 1, none⟩) hlt, ← hs]
  exact ⟨h0, h1⟩

set_option maxRecDepth 100000 in
set_option maxHeartbeats 1000000 in
theorem ttab_impl (a : Option Addr) (c : Nat) (l : List TC) (w : World) (h0 : SmT w a l c) :
    Calls Tryz.prog 50 #[.slice a l.length c] w fun e w' => e = .returned (.bool (ttB l)) ∧ Below w.heap.size w w' := by
  obtain ⟨hin, -, -, hl, -⟩ := h0
  have HIN := Lib.hid hin
  clear hin
  obtain ⟨r, hr⟩ : ∃ r, ttB l = r := ⟨_, rfl⟩
  have HR := Lib.hid hr
  rw [hr]
  clear hr
  go_enter Tryz.func50, Tryz.ntmps50
  go_wp2
  go_loopw [7] (fun i wr => ∃ k : Nat, k ≤ l.length ∧ i = .int .i64 k ∧ TokTab (l.take k) ∧ Below w.heap.size w wr) (fun i _ => l.length - (intOf i).toNat)
  case atStart => exact ⟨0, Nat.zero_le _, rfl, ⟨fun x hx => by simp at hx, by simp [Asc]⟩, Below.refl _ _⟩
  case round =>
    obtain ⟨k, hk, rfl, ht, hb⟩ := hrel
    have HT := Lib.hid ht
    have HB := Lib.hid hb
    clear ht hb
    by_cases hlt : k < l.length
    · obtain ⟨b, off, rfl, hbw, -⟩ := HIN.out (by omega)
      obtain ⟨x, s, hx1, hx2, hx3, hx4⟩ := tc_at hlt
      obtain ⟨c0, c1⟩ := HIN.out.at HB.out hx1 hx3
      have HBW := Lib.hid (Nat.lt_of_lt_of_le hbw HB.out.size)
      have HX1 := Lib.hid hx1
      have HX2 := Lib.hid hx2
      obtain ⟨z, hz⟩ : ∃ z, x.2 = z := ⟨_, rfl⟩
      have HZ := Lib.hid hz
      rw [hz] at c1
      clear hx1 hx3 hx4 hbw hz
      by_cases hc : z < 1
      · obtain rfl : false = r := by rw [← HR.out, tt_count HX1.out (by rw [HZ.out]; exact hc)]
        have d1 : decide (z < 1) = true := decide_eq_true hc
        clear hx2
        go_wp2
        go_quiet (fail)
        go_wp2
        go_ret
        exact ⟨rfl, (HB.out.alloc HB.out.size _).trans (quiet_below _ _ _)⟩
      · have d1 : decide (z < 1) = false := decide_eq_false hc
        by_cases h0 : k = 0
        · subst h0
          clear hx2
          rw [Nat.zero_mul, Nat.add_zero] at c0 c1
          go_wp2
          go_quiet (fail)
          go_wp2
          go_roundw
          case rel => exact ⟨0 + 1, by omega, by go_num, tt_step HT.out HX1.out (by rw [HZ.out]; omega) (fun y h => absurd rfl h), (HB.out.alloc HB.out.size _).trans (quiet_below _ _ _)⟩
          case measure => simp [intOf]; omega
        · obtain ⟨j, rfl⟩ : ∃ j, k = j + 1 := ⟨k - 1, by omega⟩
          obtain ⟨y, t, hy1, hy2, hy3, hy4⟩ := tc_at (show j < l.length by omega)
          obtain ⟨e0, e1⟩ := HIN.out.at HB.out hy1 hy3
          have HY1 := Lib.hid hy1
          have e2 : (wr.alloc (.cells #[.string s, .int .i64 z] 109)).cell? ⟨b, off + j * 2, none⟩ = some (.string t) := by
            rw [← e0]
            exact ((Below.refl wr.heap.size wr).alloc (Nat.le_refl _) _).cell (p := ⟨b, off + j * 2, none⟩) HBW.out
          by_cases hyx : y.1 < x.1
          · have hls := less_yes hy2 hx2 hyx
            have HYX := Lib.hid hyx
            clear hx2 hy1 hy2 hy3 hy4 hyx h0 e1
            go_wp2
            go_quiet (fail)
            go_wp2
            go_roundw
            case rel =>
              refine ⟨j + 1 + 1, by omega, by go_num, tt_step HT.out HX1.out (by rw [HZ.out]; omega) (fun z _ hz => ?_), (HB.out.alloc HB.out.size _).trans (quiet_below _ _ _)⟩
              rw [show j + 1 - 1 = j from rfl, HY1.out] at hz
              obtain rfl := Option.some.inj hz
              exact HYX.out
            case measure => simp [intOf]; omega
          · have hls := less_no hy2 hx2 hyx
            obtain rfl : false = r := by rw [← HR.out, tt_order HY1.out HX1.out hyx]
            clear hx2 hy1 hy2 hy3 hy4 hyx h0 e1
            go_wp2
            go_quiet (fail)
            go_wp2
            go_ret
            exact ⟨rfl, (HB.out.alloc HB.out.size _).trans (quiet_below _ _ _)⟩
    · obtain rfl : k = l.length := by omega
      obtain rfl : true = r := by
        rw [← HR.out]
        refine (ttB_true.2 ?_).symm
        have h := HT.out
        rwa [List.take_length] at h
      go_wp2
      go_ret
      exact ⟨rfl, HB.out⟩

set_option maxRecDepth 100000 in
set_option maxHeartbeats 1000000 in
theorem freq_spec (a : Option Addr) (c : Nat) (l : List TC) (t : ByteArray) (w : World) (hl : l.length ≤ 4000000) (hin : InT w a l) (r : Int) (hr : frqL l t.data.toList = r) :
    Calls Tryz.prog 130 #[.slice a l.length c, .string t] w fun e w' => e = .returned (.int .i64 r) ∧ w' = w := by
  have HIN := Lib.hid hin
  clear hin
  have HR := Lib.hid hr
  clear hr
  go_enter Tryz.func130, Tryz.ntmps130
  go_wp2
  go_loop [5] (fun i => ∃ k : Nat, k ≤ l.length ∧ i = .int .i64 k ∧ (∀ j y, j < k → l[j]? = some y → y.1 ≠ t.data.toList)) (fun i => l.length - (intOf i).toNat)
  case atStart => exact ⟨0, Nat.zero_le _, rfl, fun j y hj => absurd hj (Nat.not_lt_zero _)⟩
  case round =>
    obtain ⟨k, hk, rfl, ht⟩ := hrel
    have HT := Lib.hid ht
    clear ht
    by_cases hlt : k < l.length
    · obtain ⟨b, off, rfl, hbw, -⟩ := HIN.out (by omega)
      obtain ⟨x, s, hx1, hx2, hx3, hx4⟩ := tc_at hlt
      obtain ⟨c0, c1⟩ := HIN.out.at (Below.refl _ _) hx1 hx3
      have HX1 := Lib.hid hx1
      obtain ⟨z, hz⟩ : ∃ z, x.2 = z := ⟨_, rfl⟩
      have HZ := Lib.hid hz
      rw [hz] at c1
      by_cases hxt : x.1 = t.data.toList
      · have HXT := Lib.hid hxt
        obtain rfl := str_eq3 hx2 rfl hxt
        obtain rfl : z = r := by rw [← HR.out, frq_at HX1.out hxt HT.out, hz]
        clear hx1 hx2 hx3 hx4 hbw hz hxt
        go_wp2
        go_ret
        exact ⟨rfl, rfl⟩
      · have hne := str_ne3 hx2 rfl hxt
        have HXT := Lib.hid hxt
        clear hx1 hx2 hx3 hx4 hbw hz hxt
        go_wp2
        go_round
        case rel =>
          refine ⟨k + 1, by omega, by go_num, fun j y hj hy => ?_⟩
          by_cases e : j = k
          · subst e
            rw [HX1.out] at hy
            rw [← Option.some.inj hy]
            exact HXT.out
          · exact HT.out j y (by omega) hy
        case measure => simp [intOf]; omega
    · obtain rfl : k = l.length := by omega
      obtain rfl : 0 = r := by
        rw [← HR.out]
        refine (frq_none fun x hx => ?_).symm
        obtain ⟨j, hj⟩ := List.getElem?_of_mem hx
        exact HT.out j x (List.getElem?_eq_some_iff.1 hj).1 hj
      go_wp2
      go_ret
      exact ⟨rfl, rfl⟩

set_option maxRecDepth 100000 in
set_option maxHeartbeats 1000000 in
theorem ttab_spec (a : Option Addr) (c : Nat) (l : List TC) (w : World) (h0 : SmT w a l c) :
    Calls Tryz.prog 72 #[.slice a l.length c] w fun e w' => e = .returned (.bool (ttB l)) ∧ Below w.heap.size w w' := by
  obtain ⟨hin, -, -, hl, -⟩ := h0
  have HIN := Lib.hid hin
  clear hin
  obtain ⟨r, hr⟩ : ∃ r, ttB l = r := ⟨_, rfl⟩
  have HR := Lib.hid hr
  rw [hr]
  clear hr
  go_enter Tryz.func72, Tryz.ntmps72
  go_wp2
  go_loopw [3] (fun i wr => ∃ k : Nat, k ≤ l.length ∧ i = .int .i64 k ∧ TokTab (l.take k) ∧ Below w.heap.size w wr) (fun i _ => l.length - (intOf i).toNat)
  case atStart => exact ⟨0, Nat.zero_le _, rfl, ⟨fun x hx => by simp at hx, by simp [Asc]⟩, Below.refl _ _⟩
  case round =>
    obtain ⟨k, hk, rfl, ht, hb⟩ := hrel
    have HT := Lib.hid ht
    have HB := Lib.hid hb
    clear ht hb
    by_cases hlt : k < l.length
    · obtain ⟨b, off, rfl, hbw, -⟩ := HIN.out (by omega)
      obtain ⟨x, s, hx1, hx2, hx3, hx4⟩ := tc_at hlt
      obtain ⟨c0, c1⟩ := HIN.out.at HB.out hx1 hx3
      have HBW := Lib.hid (Nat.lt_of_lt_of_le hbw HB.out.size)
      have HX1 := Lib.hid hx1
      have HX2 := Lib.hid hx2
      obtain ⟨z, hz⟩ : ∃ z, x.2 = z := ⟨_, rfl⟩
      have HZ := Lib.hid hz
      rw [hz] at c1
      clear hx1 hx3 hx4 hbw hz
      by_cases hc : z < 1
      · obtain rfl : false = r := by rw [← HR.out, tt_count HX1.out (by rw [HZ.out]; exact hc)]
        have d1 : decide (z < 1) = true := decide_eq_true hc
        clear hx2
        go_wp2
        go_quiet (fail)
        go_wp2
        go_ret
        exact ⟨rfl, HB.out.trans (quiet_below _ _ _)⟩
      · have d1 : decide (z < 1) = false := decide_eq_false hc
        by_cases h0 : k = 0
        · subst h0
          clear hx2
          rw [Nat.zero_mul, Nat.add_zero] at c0 c1
          go_wp2
          go_quiet (fail)
          go_wp2
          go_roundw
          case rel => exact ⟨0 + 1, by omega, by go_num, tt_step HT.out HX1.out (by rw [HZ.out]; omega) (fun y h => absurd rfl h), HB.out.trans (quiet_below _ _ _)⟩
          case measure => simp [intOf]; omega
        · obtain ⟨j, rfl⟩ : ∃ j, k = j + 1 := ⟨k - 1, by omega⟩
          obtain ⟨y, t, hy1, hy2, hy3, hy4⟩ := tc_at (show j < l.length by omega)
          obtain ⟨e0, e1⟩ := HIN.out.at HB.out hy1 hy3
          have HY1 := Lib.hid hy1
          by_cases hyx : y.1 < x.1
          · have hls := less_yes hy2 hx2 hyx
            have HYX := Lib.hid hyx
            clear hx2 hy1 hy2 hy3 hy4 hyx h0 e1
            go_wp2
            go_quiet (fail)
            go_wp2
            go_roundw
            case rel =>
              refine ⟨j + 1 + 1, by omega, by go_num, tt_step HT.out HX1.out (by rw [HZ.out]; omega) (fun z _ hz => ?_), HB.out.trans (quiet_below _ _ _)⟩
              rw [show j + 1 - 1 = j from rfl, HY1.out] at hz
              obtain rfl := Option.some.inj hz
              exact HYX.out
            case measure => simp [intOf]; omega
          · have hls := less_no hy2 hx2 hyx
            obtain rfl : false = r := by rw [← HR.out, tt_order HY1.out HX1.out hyx]
            clear hx2 hy1 hy2 hy3 hy4 hyx h0 e1
            go_wp2
            go_quiet (fail)
            go_wp2
            go_ret
            exact ⟨rfl, HB.out.trans (quiet_below _ _ _)⟩
    · obtain rfl : k = l.length := by omega
      obtain rfl : true = r := by
        rw [← HR.out]
        refine (ttB_true.2 ?_).symm
        have h := HT.out
        rwa [List.take_length] at h
      go_wp2
      go_ret
      exact ⟨rfl, HB.out⟩

end Go.Proofs.YthjbekgognfiiaaGreat

/-
  Maps of the call's own, map[string]int, with their keys; what impl.sortedKeys does at such a map. By an AI agent.
-/
namespace Go.Proofs.YthjbekgognfiiaaGreat
open Go.RowKit Go.Maps Go.Sort
set_option linter.unusedVariables false

/-- block b is a map[string]int that has the keys ks and gives f -/
def IMap (w : World) (b n : Nat) (ks : List Str) (f : Str → Int) : Prop :=
  ∃ D : DataW Unit, w.ownsMap Tryz.prog 9 (plainElem Tryz.prog 3) b n D ∧ (∀ x : Str, Maps.has D (.string x) = decide (x ∈ ks)) ∧ ∀ x : Str, D.atKey (.string x) (.lit (.int .i64 0)) = .lit (.int .i64 (f x))

theorem IMap.made (w : World) : IMap (w.alloc (.map #[] 0)) w.heap.size 0 [] (fun _ => 0) :=
  ⟨.map [], World.ownsMap_made _ _ _ _, fun x => by simp [Maps.has], fun x => by simp [DataW.atKey]⟩
theorem IMap.kept {w w' : World} {b n : Nat} {ks : List Str} {f : Str → Int} {row : Option Nat} (h : IMap w b n ks f) (hg : w.grownBy w' row) (hne : some b ≠ row) : IMap w' b n ks f := by
  obtain ⟨D, h1, h2, h3⟩ := h
  exact ⟨D, h1.kept hg hne, h2, h3⟩
theorem IMap.lt {w : World} {b n : Nat} {ks : List Str} {f : Str → Int} (h : IMap w b n ks f) : b < w.heap.size := by obtain ⟨D, h1, _⟩ := h; exact h1.lt
theorem IMap.below {w w' : World} {b n : Nat} {ks : List Str} {f : Str → Int} (h : IMap w b n ks f) (hb : Below w.heap.size w w') : IMap w' b n ks f :=
  h.kept (row := none) ⟨hb.os, hb.tape, hb.output, hb.size, fun i hi _ => hb.block i hi⟩ (by simp)
theorem IMap.alloc {w : World} {b n : Nat} {ks : List Str} {f : Str → Int} (h : IMap w b n ks f) (o : Obj) : IMap (w.alloc o) b n ks f := h.below ((Below.refl _ _).alloc (Nat.le_refl _) o)
theorem IMap.mono {w : World} {b n n' : Nat} {ks : List Str} {f : Str → Int} (h : IMap w b n ks f) (hn : n ≤ n') : IMap w b n' ks f := by
  obtain ⟨D, h1, h2, h3⟩ := h
  exact ⟨D, h1.mono hn, h2, h3⟩
theorem IMap.congr {w : World} {b n : Nat} {ks ks' : List Str} {f f' : Str → Int} (h : IMap w b n ks f) (hk : ∀ x, x ∈ ks ↔ x ∈ ks') (hf : ∀ x, f x = f' x) : IMap w b n ks' f' := by
  obtain ⟨D, h1, h2, h3⟩ := h
  exact ⟨D, h1, fun x => by rw [h2 x]; exact decide_eq_decide.2 (hk x), fun x => by rw [h3 x, hf x]⟩

theorem wpList_imap_lookup (w : World) {ops : Array Oper} {rest : List Oper} {o : Oper} {a : Act} {Q : Exit → Act → World → Prop}
    (T : TypeId) (hT : Tryz.prog.underlying T = some (.map 9 3))
    (hg : o.guard = none) (m x : Operand) (hop : o.op = Op.lookup T m x false) (b n : Nat) (ks : List Str) (f : Str → Int) (hmap : IMap w b n ks f)
    (hm : a.eval m = .map (some b)) (s : ByteArray) (y : Str) (hx : a.eval x = .string s) (hs : s.data.toList = y) (hl : s.size ≤ maxLen) (c : Int) (hc : f y = c)
    (hK : wpList Tryz.prog ops Q rest (a.put o.dst (.int .i64 c)) w) :
    wpList Tryz.prog ops Q (o :: rest) a w := by
  obtain ⟨D, hown, _, hat⟩ := hmap
  refine wpList_lookup_own_int w hg m x T hop 9 3 .i64 keyS hT Tryz.underlying3 (zeroI w) b n D hm hown _ _ hx (keyOf_s hs hl) fun c' h1 _ => ?_
  rw [hat y] at h1
  obtain rfl : c' = c := by simp at h1; rw [← hc, h1]
  exact hK

theorem wpList_imap_look_ok (w : World) {ops : Array Oper} {rest : List Oper} {o : Oper} {a : Act} {Q : Exit → Act → World → Prop}
    (T : TypeId) (hT : Tryz.prog.underlying T = some (.map 9 3))
    (hg : o.guard = none) (m x : Operand) (hop : o.op = Op.lookup T m x true) (b n : Nat) (ks : List Str) (f : Str → Int) (hmap : IMap w b n ks f)
    (hm : a.eval m = .map (some b)) (s : ByteArray) (y : Str) (hx : a.eval x = .string s) (hs : s.data.toList = y) (hl : s.size ≤ maxLen) (c : Int) (hc : f y = c) (r : Bool) (hr : decide (y ∈ ks) = r)
    (hK : wpList Tryz.prog ops Q rest (a.put o.dst (.tuple #[.int .i64 c, .bool r])) w) :
    wpList Tryz.prog ops Q (o :: rest) a w := by
  obtain ⟨D, hown, hhas, hat⟩ := hmap
  refine wpList_lookup_own_ok_int w hg m x T hop 9 3 .i64 keyS hT Tryz.underlying3 (zeroI w) b n D hm hown _ _ hx (keyOf_s hs hl) fun c' h1 _ => ?_
  rw [hat y] at h1
  obtain rfl : c' = c := by simp at h1; rw [← hc, h1]
  rw [hhas y, hr]
  exact hK

theorem wpList_imap_store (w : World) {ops : Array Oper} {rest : List Oper} {o : Oper} {a : Act} {Q : Exit → Act → World → Prop}
    (T : TypeId) (hT : Tryz.prog.underlying T = some (.map 9 3))
    (hg : o.guard = none) (m x v : Operand) (hop : o.op = Op.mapUpdate T m x v) (b n : Nat) (ks : List Str) (f : Str → Int) (hmap : IMap w b n ks f)
    (hm : a.eval m = .map (some b)) (hn : n < maxLen) (s : ByteArray) (y : Str) (hx : a.eval x = .string s) (z : Int) (hv : a.eval v = .int .i64 z) (hz : (Lit.int .i64 z).wf = true) (hs : s.data.toList = y) (hl : s.size ≤ maxLen)
    (hK : ∀ w', IMap w' b (n + 1) (ks ++ [y]) (fun u => if u = y then z else f u) → w.grownBy w' (some b) → wpList Tryz.prog ops Q rest (a.put o.dst undef) w') :
    wpList Tryz.prog ops Q (o :: rest) a w := by
  obtain ⟨D, hown, hhas, hat⟩ := hmap
  refine wpList_mapUpdate_own w hg m x v T hop 9 3 keyS hT _ b n D hm hown hn _ _ _ hx hv (keyOf_s hs hl) _ [] (plainElem_int Tryz.underlying3 hz) fun w' h1 h2 => hK w' ⟨_, h1, ?_, ?_⟩ h2
  all_goals
    have hD : Maps.IsMap D := by obtain ⟨es, _, _, _, _, e⟩ := hown; exact ⟨_, e⟩
    intro u
    by_cases e : u = y
    · subst e
      first
        | (rw [Maps.has_put_same hD (k := .string _) trivial]; simp)
        | (rw [Maps.atKey_put_same hD (k := .string _) trivial]; simp)
    · first
        | (rw [Maps.has_put_other (lit_ne e), hhas u]; simp [e])
        | (rw [Maps.atKey_put_other (lit_ne e), hat u]; simp [e])

end Go.Proofs.YthjbekgognfiiaaGreat

/-
  The two sources of frequencies: a table that is searched, and a map of first counts. By an AI agent.
-/
namespace Go.Proofs.YthjbekgognfiiaaGreat
open Go.RowKit Go.Maps
set_option linter.unusedVariables false

set_option maxRecDepth 100000 in
theorem first_counts (a : Option Addr) (c : Nat) (l : List TC) (w : World) (h0 : SmT w a l c) (hr : ∀ x ∈ l, (Lit.int .i64 x.2).wf = true) :
    Calls Tryz.prog 144 #[.slice a l.length c] w fun e w' => e = .returned (.map (some w.heap.size)) ∧ IMap w' w.heap.size l.length (l.map (·.1)) (frqL l) ∧ Below w.heap.size w w' := by
  obtain ⟨hin, -, -, hl, hx⟩ := h0
  have HIN := Lib.hid hin
  have HX := Lib.hid hx
  have HW := Lib.hid hr
  clear hin hx hr
  have hmm := fun (w : World) (n : Int) => run_makeMap_hint (P := Tryz.prog) 169 _ _ Tryz.underlying169 .i64 n w
  go_enter Tryz.func144, Tryz.ntmps144
  go_wp2
  go_loopw [13] (fun i wr => ∃ k : Nat, k ≤ l.length ∧ i = .int .i64 k ∧ IMap wr w.heap.size k ((l.take k).map (·.1)) (frqL (l.take k)) ∧ Below w.heap.size w wr) (fun i _ => l.length - (intOf i).toNat)
  case atStart => exact ⟨0, Nat.zero_le _, rfl, IMap.made w, (Below.refl _ _).alloc (Nat.le_refl _) _⟩
  case round =>
    obtain ⟨k, hk, rfl, hmap, hb⟩ := hrel
    have HMAP := Lib.hid hmap
    have HB := Lib.hid hb
    clear hmap hb
    by_cases hlt : k < l.length
    · obtain ⟨b, off, rfl, hbw, -⟩ := HIN.out (by omega)
      obtain ⟨x, s, hx1, hx2, hx3, hx4⟩ := tc_at hlt
      obtain ⟨c0, c1⟩ := HIN.out.at HB.out hx1 hx3
      have HX1 := Lib.hid hx1
      have HX2 := Lib.hid hx2
      have HSL := Lib.hid (show s.size ≤ maxLen by rw [hx4]; have := HX.out x (List.mem_of_getElem? hx1); unfold maxLen; omega)
      have HWF := Lib.hid (HW.out x (List.mem_of_getElem? hx1))
      obtain ⟨z, hz⟩ : ∃ z, x.2 = z := ⟨_, rfl⟩
      have HZ := Lib.hid hz
      rw [hz] at c1 HWF
      obtain ⟨v, hv⟩ : ∃ v, frqL (l.take k) x.1 = v := ⟨_, rfl⟩
      have HV := Lib.hid hv
      clear hx1 hx2 hx3 hx4 hbw hz hv
      by_cases hm : x.1 ∈ (l.take k).map (·.1)
      · have HM := Lib.hid hm
        clear hm
        go_wp2_with (at_lookup; refine wpList_imap_look_ok _ 169 Tryz.underlying169 rfl _ _ rfl w.heap.size _ _ _ (HMAP.out.alloc _) rfl s x.1 rfl HX2.out HSL.out v HV.out true (decide_eq_true HM.out) ?_)
        go_roundw
        case rel =>
          refine ⟨k + 1, by omega, by go_num, ((HMAP.out.alloc _).mono (by omega)).congr (fun y => ?_) (fun y => ?_), HB.out.alloc HB.out.size _⟩
          · rw [tc_take HX1.out, List.map_append, List.mem_append]
            simp only [List.map_singleton, List.mem_singleton]
            exact ⟨.inl, fun h => h.elim id (fun e => by rw [e]; exact HM.out)⟩
          · rw [tc_take HX1.out, frq_snoc]
            by_cases hy : y ∈ (l.take k).map (·.1)
            · rw [if_pos hy]
            · rw [if_neg hy, if_neg (fun e => hy (by rw [← e]; exact HM.out))]
              exact frq_none fun z hz e => hy (by rw [← e]; exact List.mem_map_of_mem hz)
        case measure => simp [intOf]; omega
      · have HM := Lib.hid hm
        clear hm
        go_wp2_with (first
          | (at_lookup; refine wpList_imap_look_ok _ 169 Tryz.underlying169 rfl _ _ rfl w.heap.size _ _ _ (HMAP.out.alloc _) rfl s x.1 rfl HX2.out HSL.out v HV.out false (decide_eq_false HM.out) ?_)
          | (at_mapUpdate; refine wpList_imap_store _ 169 Tryz.underlying169 rfl _ _ _ rfl w.heap.size _ _ _ (HMAP.out.alloc _) rfl (by unfold maxLen; omega) s x.1 rfl z rfl HWF.out HX2.out HSL.out ?_; intro w3 hmap3 hg3))
        go_roundw
        case rel =>
          refine ⟨k + 1, by omega, by go_num, hmap3.congr (fun y => ?_) (fun y => ?_), (HB.out.alloc HB.out.size _).grown hg3 (by have := HB.out.size; simp; omega) (fun j hj => by cases hj; exact Nat.le_refl _)⟩
          · rw [tc_take HX1.out, List.map_append]
            rfl
          · rw [tc_take HX1.out, frq_snoc]
            by_cases e : y = x.1
            · subst e
              rw [if_pos rfl, if_neg HM.out, if_pos rfl, HZ.out]
            · rw [if_neg e]
              by_cases hy : y ∈ (l.take k).map (·.1)
              · rw [if_pos hy]
              · rw [if_neg hy, if_neg (fun e2 => e e2.symm)]
                exact frq_none fun z hz e => hy (by rw [← e]; exact List.mem_map_of_mem hz)
        case measure => simp [intOf]; omega
    · obtain rfl : k = l.length := by omega
      have h := HMAP.out
      rw [List.take_length] at h
      go_wp2
      go_ret
      exact ⟨rfl, h, HB.out⟩

set_option maxRecDepth 100000 in
theorem frq_map (b n : Nat) (ks : List Str) (f : Str → Int) (t : ByteArray) (w : World) (h : IMap w b n ks f) (hs : t.size ≤ maxLen) :
    Calls Tryz.prog 177 #[.map (some b), .string t] w fun e w' => e = .returned (.int .i64 (f t.data.toList)) ∧ w' = w := by
  obtain ⟨v, hv⟩ : ∃ v, f t.data.toList = v := ⟨_, rfl⟩
  have HV := Lib.hid hv
  have HM := Lib.hid h
  have HS := Lib.hid hs
  rw [hv]
  clear hv h hs
  go_enter Tryz.func177, Tryz.ntmps177
  go_wp2_with (at_lookup; refine wpList_imap_lookup _ 169 Tryz.underlying169 rfl _ _ rfl b _ _ _ HM.out rfl t _ rfl rfl HS.out v HV.out ?_)
  go_ret
  exact ⟨rfl, rfl⟩

set_option maxRecDepth 100000 in
theorem cmp_entry (s t : ByteArray) (z r : Int) (w : World) (h : cmpR s.data.toList t.data.toList = r) :
    Calls Tryz.prog 176 #[.agg #[.string s, .int .i64 z], .string t] w fun e w' => e = .returned (.int .i64 r) ∧ Below w.heap.size w w' := by
  have HR := Lib.hid h
  clear h
  go_enter Tryz.func176, Tryz.ntmps176
  go_wp2_with (go_at_call 129; (refine (cmp_is s t r _ HR.out).mono ?_); rintro e w' ⟨rfl, rfl⟩)
  go_ret
  exact ⟨rfl, (Below.refl _ _).alloc (Nat.le_refl _) _⟩

end Go.Proofs.YthjbekgognfiiaaGreat

