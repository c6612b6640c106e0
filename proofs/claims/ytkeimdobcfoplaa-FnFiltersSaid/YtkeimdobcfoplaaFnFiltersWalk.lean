/-
  The walk of laws.FnFilters: it answers true for every slice of bytes, a nil one too. By an AI agent.
-/
import Derived.Test.YtkeimdobcfoplaaSimS
import Derived.Test.YtkeimdobcfoplaaSimDraw
import Derived.Test.YtkeimdobcfoplaaSameI
import Derived.Test.YtkeimdobcfoplaaLawCode
namespace Go.Proofs.Ytkeimdobcfoplaa
open Go.RowKit
set_option linter.unusedVariables false

theorem edD_fits {a b : ByteArray} (h : 0 ≤ edD false a b) : a.size ≤ 40 ∧ b.size ≤ 40 := by
  by_cases h2 : a.size ≤ 40 ∧ b.size ≤ 40
  · exact h2
  · rw [edD_no h2] at h
    omega
theorem ed_passes {a b : ByteArray} {l n : Int} (hn : edD false a b = n) (h0 : 0 ≤ n) (h1 : n ≤ l) (hl : l ≤ 40) : pfR a b l = true := by
  have h2 := edD_fits (by rw [hn]; exact h0)
  rw [edD_yes h2.1 h2.2] at hn
  exact lev_pfR h2.1 h2.2 hl (by omega)
/-- the edit limit of a score is exact -/
theorem el_score {a b : ByteArray} {sc n m es : Int} (hn : edD false a b = n) (h0 : 0 ≤ n) (hs0 : 0 ≤ sc) (hs1 : sc ≤ 1000) (hm : elR (a.size : Int) (b.size : Int) sc = m) (he : esR n (max a.size b.size) = es) :
    0 ≤ m ∧ ((sc ≤ es ∧ n ≤ m) ∨ (¬ sc ≤ es ∧ ¬ n ≤ m)) := by
  have h2 := edD_fits (by rw [hn]; exact h0)
  have h3 := edD_max false a b
  rw [hn] at h3
  obtain ⟨M, hM⟩ : ∃ M : Nat, max a.size b.size = M := ⟨_, rfl⟩
  rw [hM] at h3 he
  have hg : (goodE (a.size : Int) (b.size : Int) 1 0 && decide (0 ≤ sc ∧ sc ≤ 1000)) = true := by
    simp only [goodE, Bool.and_eq_true, decide_eq_true_eq]
    omega
  have hmx : mxI (a.size : Int) (b.size : Int) = (M : Int) := by unfold mxI; split <;> omega
  rw [elR, if_pos hg, hmx] at hm
  have hM40 : M ≤ 40 := by omega
  have hp := Int.mul_nonneg (show 0 ≤ (M : Int) by omega) (show 0 ≤ 1000 - sc by omega)
  have hmul : (M : Int) * (1000 - sc) = 1000 * (M : Int) - sc * (M : Int) := by rw [Int.mul_sub, Int.mul_comm (M : Int) 1000, Int.mul_comm (M : Int) sc]
  have hle : n ≤ m ↔ n * 1000 ≤ (M : Int) * (1000 - sc) := by rw [← hm]; exact Int.le_ediv_iff_mul_le (by omega)
  have hm0 : 0 ≤ m := by rw [← hm]; exact Int.ediv_nonneg hp (by omega)
  refine ⟨hm0, ?_⟩
  by_cases hz : M = 0
  · subst hz
    rw [esR, if_neg (by omega), if_pos rfl] at he
    refine .inl ⟨by omega, ?_⟩
    omega
  · rw [esR, if_neg (by omega), if_neg hz] at he
    have hse : sc ≤ es ↔ sc * (M : Int) ≤ 1000 * ((M : Int) - n) := by rw [← he]; exact Int.le_ediv_iff_mul_le (by omega)
    rw [hmul] at hle
    by_cases h : sc ≤ es
    · refine .inl ⟨h, hle.2 ?_⟩
      have := hse.1 h
      omega
    · refine .inr ⟨h, fun k => h (hse.2 ?_)⟩
      have := hle.1 k
      omega

set_option maxRecDepth 100000 in
set_option maxHeartbeats 4000000 in
theorem FnFilters_core (A : Option Addr) (len cap : Nat) (w : World) (hcode : CodeAt w w.heap.size A len) :
    Calls Try.prog 3 #[.slice A len cap] w fun e w' => e = .returned (.bool true) ∧ Below w.heap.size w w' := by
  have HCODE := Lib.hid hcode
  have hlen : (len : Int) ≤ 1048576 := by have := hcode.1; omega
  clear hcode
  go_enter Try.func3, Try.ntmps3
  go_wp2_with (go_at_call 10; (refine (big_no A len cap _ hlen).mono ?_); rintro e w0 ⟨rfl, rfl⟩; refine Hid.out ?_)
  refine Lib.hid ?_
  clear hlen
  have HBW := Lib.hid (Below.refl w.heap.size w)
  go_wp2_with (go_at_call 11; ((with_reducible refine (drawPF10_any A len cap _ HCODE.out).mono ?_); rintro e wn ⟨a, b, lim, rfl, ha, hb4, hq1, hq2, hb⟩; refine Hid.out ?_))
  refine Lib.hid ?_
  have HBW2 := Lib.hid (HBW.out.trans (hb.mono HBW.out.size))
  clear hb HBW
  have HBW := HBW2
  clear HBW2
  have HA := Lib.hid (show a.size ≤ 1048576 by omega)
  have HB := Lib.hid (show b.size ≤ 1048576 by omega)
  have hza : (a.size : Int) ≤ 440 := by omega
  have hzb : (b.size : Int) ≤ 440 := by omega
  obtain ⟨n, hn⟩ : ∃ n, edD false a b = n := ⟨_, rfl⟩
  obtain ⟨pf, hpf⟩ : ∃ x, pfR a b lim = x := ⟨_, rfl⟩
  obtain ⟨lf, hlf⟩ : ∃ x, lfR a b lim = x := ⟨_, rfl⟩
  obtain ⟨es, hes⟩ : ∃ es, esR n (max a.size b.size) = es := ⟨_, rfl⟩
  have hn1 : -1 ≤ n := by rw [← hn]; exact edD_ge _ _ _
  have hn2 : n ≤ 40 := by rw [← hn]; exact edD_le _ _ _
  have HN := Lib.hid hn
  have HPF := Lib.hid hpf
  have HLF := Lib.hid hlf
  have HES := Lib.hid hes
  have hcase : n < 0 ∨ (0 ≤ n ∧ lim < n) ∨ (0 ≤ n ∧ n ≤ lim ∧ pf = true) := by
    by_cases h0 : n < 0
    · exact .inl h0
    · by_cases h1 : lim < n
      · exact .inr (.inl ⟨by omega, h1⟩)
      · exact .inr (.inr ⟨by omega, by omega, by rw [← hpf]; exact ed_passes hn (by omega) (by omega) (by omega)⟩)
  clear hn hpf hlf hes ha hb4
  rcases hcase with h0 | ⟨h0, h1⟩ | ⟨h0, h1, rfl⟩
  all_goals
    go_wp2_with (first
      | (go_at_call 12; ((with_reducible refine (pf_impl a b lim _ _ HA.out HB.out HPF.out).mono ?_); rintro e wn ⟨rfl, hb⟩; have HBW2 := Lib.hid (HBW.out.trans (hb.mono HBW.out.size)); clear hb HBW; have HBW := HBW2; clear HBW2))
      | (go_at_call 13; ((with_reducible refine (pf_spec a b lim _ _ HA.out HB.out HPF.out).mono ?_); rintro e wn ⟨rfl, hb⟩; have HBW2 := Lib.hid (HBW.out.trans (hb.mono HBW.out.size)); clear hb HBW; have HBW := HBW2; clear HBW2))
      | (go_at_call 14; ((with_reducible refine (lf_impl a b lim _ _ HA.out HB.out HLF.out).mono ?_); rintro e wn ⟨rfl, rfl⟩))
      | (go_at_call 15; ((with_reducible refine (lf_spec a b lim _ _ HA.out HB.out HLF.out).mono ?_); rintro e wn ⟨rfl, rfl⟩))
      | (go_at_call 16; ((with_reducible refine (spec_ed a b _ HA.out HB.out _ HN.out).mono ?_); rintro e wn ⟨rfl, hb⟩; have HBW2 := Lib.hid (HBW.out.trans (hb.mono HBW.out.size)); clear hb HBW; have HBW := HBW2; clear HBW2))
      | (go_at_call 17; ((with_reducible refine (drawSim_any A len cap _ (codeAt_later HCODE.out HBW.out)).mono ?_); rintro e ws ⟨al, cl, l, t, k, rfl, hsm, hll, ht, hk1, hk2, hb⟩; refine Hid.out ?_)))
    refine Lib.hid ?_
    have HBW2 := Lib.hid (HBW.out.trans (hb.mono HBW.out.size))
    clear hb HBW
    have HBW := HBW2
    clear HBW2
    obtain ⟨r, hr⟩ : ∃ r, simR l t.data.toList k = r := ⟨_, rfl⟩
    have HRR := Lib.hid hr
    have HRL := Lib.hid (show r.length ≤ maxLen by rw [← hr]; have := simR_len l t.data.toList k; unfold maxLen; omega)
    have HS := Lib.hid hsm
    have HT := Lib.hid (show t.size ≤ 1048576 by omega)
    clear hr hsm hll ht
    go_wp2_with (first
      | (go_at_call 19; ((with_reducible refine (sim_impl al cl l t k r _ HT.out HRR.out HS.out).mono ?_); rintro e w1 ⟨a1, c1, rfl, ho, hb⟩; have HI1 := Lib.hid ho.inI; have HS1 := Lib.hid (HS.out.below hb); have HBW2 := Lib.hid (HBW.out.trans (hb.mono HBW.out.size)); clear ho hb HBW; have HBW := HBW2; clear HBW2))
      | (go_at_call 20; ((with_reducible refine (sim_spec al cl l t k r _ HT.out HRR.out HS1.out).mono ?_); rintro e w2 ⟨a2, c2, rfl, ho, hb⟩; have HI2 := Lib.hid ho.inI; have HI3 := Lib.hid (HI1.out.below hb); have HBW2 := Lib.hid (HBW.out.trans (hb.mono HBW.out.size)); clear ho hb HBW; have HBW := HBW2; clear HBW2))
      | (go_at_call 18; ((with_reducible refine (same_ints _ _ _ _ r _ HRL.out HI3.out HI2.out).mono ?_); rintro e w3 ⟨rfl, hb⟩; have HBW2 := Lib.hid (HBW.out.trans (hb.mono HBW.out.size)); clear hb HBW; have HBW := HBW2; clear HBW2))
      | (go_at_call 21; ((with_reducible refine (at0_any A len cap _ (codeAt_later HCODE.out HBW.out)).mono ?_); rintro e w4 ⟨z, rfl, hz0, hz1, hb⟩; refine Hid.out ?_)))
    refine Lib.hid ?_
    have HBW2 := Lib.hid (HBW.out.trans (hb.mono HBW.out.size))
    clear hb HBW
    have HBW := HBW2
    clear HBW2
    obtain ⟨sc, hsc⟩ : ∃ sc, z * 4 % 1001 = sc := ⟨_, rfl⟩
    have hs0 : 0 ≤ sc := by omega
    have hs1 : sc ≤ 1000 := by omega
    have HSC := Lib.hid hsc
    obtain ⟨m, hm⟩ : ∃ m, elR (a.size : Int) (b.size : Int) sc = m := ⟨_, rfl⟩
    have HM := Lib.hid hm
    have HES2 := Lib.hid (show esR (edD false a b) (max a.size b.size) = es by rw [HN.out]; exact HES.out)
    have hend : n < 0 ∨ (0 ≤ n ∧ 0 ≤ m ∧ sc ≤ es ∧ n ≤ m) ∨ (0 ≤ n ∧ 0 ≤ m ∧ es < sc ∧ m < n) := by
      by_cases hneg : n < 0
      · exact .inl hneg
      · obtain ⟨k1, k2 | k2⟩ := el_score HN.out (by omega) hs0 hs1 hm HES.out
        · exact .inr (.inl ⟨by omega, k1, k2.1, k2.2⟩)
        · exact .inr (.inr ⟨by omega, k1, by omega, by omega⟩)
    have HD := Lib.hid (show (decide (n < 0) || decide (m < 0) || decide (sc ≤ es) == decide (n ≤ m)) = true by
      rcases hend with k0 | ⟨k0, k1, k2, k3⟩ | ⟨k0, k1, k2, k3⟩
      · rw [decide_eq_true k0]; rfl
      · rw [decide_eq_true k2, decide_eq_true k3]; simp
      · rw [decide_eq_false (show ¬ sc ≤ es by omega), decide_eq_false (show ¬ n ≤ m by omega)]; simp)
    clear hm hn2 hn1
    rcases hend with e0 | ⟨e0, e1, e2, e3⟩ | ⟨e0, e1, e2, e3⟩
    all_goals first
      | (exfalso; omega)
      | (go_wp2_with (first
          | (go_at_call 22; ((with_reducible refine (el_impl _ _ _ _ _ HM.out).mono ?_); rintro e wn ⟨rfl, hb⟩; have HBW2 := Lib.hid (HBW.out.trans (hb.mono HBW.out.size)); clear hb HBW; have HBW := HBW2; clear HBW2))
          | (go_at_call 23; ((with_reducible refine (el_spec _ _ _ _ _ HM.out).mono ?_); rintro e wn ⟨rfl, rfl⟩))
          | (go_at_call 24; ((with_reducible refine (spec_es a b _ HA.out HB.out).mono ?_); rintro e wn ⟨he, hb⟩; rw [HES2.out] at he; obtain rfl := he; have HBW2 := Lib.hid (HBW.out.trans (hb.mono HBW.out.size)); clear hb HBW; have HBW := HBW2; clear HBW2)))
         all_goals go_ret
         all_goals first | exact ⟨rfl, HBW.out⟩ | exact ⟨sret_bool HD.out, HBW.out⟩)

theorem FnFilters_walk (A : Option Addr) (len cap : Nat) (zs : List Int) (w : World) (h : IsRow .u8 w A len cap zs) :
    Calls Try.prog 3 #[.slice A len cap] w fun e w' => e = .returned (.bool true) ∧ Below w.heap.size w w' := by
  by_cases hl : 1048576 < (len : Int)
  · go_enter Try.func3, Try.ntmps3
    go_wp2_with (go_at_call 10; (refine (big_yes A len cap _ hl).mono ?_); rintro e w0 ⟨rfl, rfl⟩)
    go_ret
    exact ⟨rfl, Below.refl _ _⟩
  · exact FnFilters_core A len cap w (codeAt_of h (by omega))

end Go.Proofs.Ytkeimdobcfoplaa
