/-
  The walk of laws.FnSets: it answers true for every slice of bytes, a nil one too. By an AI agent.
-/
import Derived.Test.YtggohfinkpppkabSim2
import Derived.Test.YtggohfinkpppkabSimFacts
import Derived.Test.YtggohfinkpppkabSetDraw
import Derived.Test.YtggohfinkpppkabLawCode
namespace Go.Proofs.Ytggohfinkpppkab
open Go.RowKit
set_option linter.unusedVariables false

theorem sm_inS {w : World} {a : Option Addr} {l : List Str} {c : Nat} (h : Sm w a l c) : InS w a l := h.1
theorem eq_is (a1 a2 : Option Addr) (c1 c2 : Nat) (l m : List Str) (r : Bool) (w : World) (hl : l.length ≤ maxLen) (hm : m.length ≤ maxLen) (h1 : InS w a1 l) (h2 : InS w a2 m) (hr : eqB l m = r) :
    Calls Try.prog 16 #[.slice a1 l.length c1, .slice a2 m.length c2] w fun e w' => e = .returned (.bool r) ∧ Below w.heap.size w w' :=
  (spec_eq a1 a2 c1 c2 l m w hl hm h1 h2).mono fun e w' h => by rwa [hr] at h
theorem ti_is (a0 : Option Addr) (c0 : Nat) (l0 : List Str) (r : Bool) (w : World) (h0 : Sm w a0 l0 c0) (hr : tsB l0 = r) :
    Calls Try.prog 19 #[.slice a0 l0.length c0] w fun e w' => e = .returned (.bool r) ∧ Below w.heap.size w w' :=
  (tset_impl a0 c0 l0 w h0).mono fun e w' h => by rwa [show tsetR l0 = r from hr] at h
theorem ts_is (a0 : Option Addr) (c0 : Nat) (l0 : List Str) (r : Bool) (w : World) (h0 : Sm w a0 l0 c0) (hr : tsB l0 = r) :
    Calls Try.prog 20 #[.slice a0 l0.length c0] w fun e w' => e = .returned (.bool r) ∧ Below w.heap.size w w' :=
  (tset_spec a0 c0 l0 w h0).mono fun e w' h => by rwa [show tsetR l0 = r from hr] at h
theorem common_sub {l m : List Str} {x : Str} (h : x ∈ commonR l m) : x ∈ l := (List.mem_filter.1 ((setL_mem _ x).1 h)).1
theorem unite_sub {l m : List Str} {x : Str} (h : x ∈ uniteR l m) : x ∈ l ∨ x ∈ m := List.mem_append.1 ((setL_mem _ x).1 h)

set_option maxRecDepth 100000 in
set_option maxHeartbeats 4000000 in
theorem FnSets_core (A : Option Addr) (len cap : Nat) (w : World) (hcode : CodeAt w w.heap.size A len) :
    Calls Try.prog 3 #[.slice A len cap] w fun e w' => e = .returned (.bool true) ∧ Below w.heap.size w w' := by
  have HCODE := Lib.hid hcode
  have hlen : (len : Int) ≤ 1048576 := by have := hcode.1; omega
  clear hcode
  go_enter Try.func3, Try.ntmps3
  go_wp2_with (go_at_call 6; (refine (big_no A len cap _ hlen).mono ?_); rintro e w0 ⟨rfl, rfl⟩; refine Hid.out ?_)
  refine Lib.hid ?_
  clear hlen
  go_wp2_with (go_at_call 7; ((with_reducible refine (drawJaccard_any A len cap _ HCODE.out).mono ?_); rintro e w1 ⟨a1, a2, c1, c2, l1, l2, rfl, hs1, hs2, hn1, hn2, hb⟩; refine Hid.out ?_))
  refine Lib.hid ?_
  have HB0 := Lib.hid hb
  have HBW := Lib.hid (Below.refl w1.heap.size w1)
  have HA := Lib.hid hs1
  have HB := Lib.hid hs2
  have HL1 := Lib.hid (show l1.length ≤ maxLen by unfold maxLen; omega)
  have HL2 := Lib.hid (show l2.length ≤ maxLen by unfold maxLen; omega)
  clear hb hs1 hs2
  obtain ⟨X, hX⟩ : ∃ X, commonR l1 l2 = X := ⟨_, rfl⟩
  obtain ⟨Y, hY⟩ : ∃ Y, uniteR l1 l2 = Y := ⟨_, rfl⟩
  have hx7 : X.length ≤ 7 := by rw [← hX]; have h1 := setL_length (bothL l1 l2); have h2 := both_len l1 l2; show (setL (bothL l1 l2)).length ≤ 7; omega
  have hy7 : Y.length ≤ 14 := by rw [← hY]; have h1 := setL_length (l1 ++ l2); rw [List.length_append] at h1; show (setL (l1 ++ l2)).length ≤ 14; omega
  have HXL := Lib.hid (show X.length ≤ maxLen by unfold maxLen; omega)
  have HYL := Lib.hid (show Y.length ≤ maxLen by unfold maxLen; omega)
  have HXM := Lib.hid (show ∀ x ∈ X, x.length ≤ 1048576 from fun x hx => HA.out.2.2.2.2 x (common_sub (by rw [hX]; exact hx)))
  have HYM := Lib.hid (show ∀ x ∈ Y, x.length ≤ 1048576 from fun x hx => (unite_sub (by rw [hY]; exact hx)).elim (HA.out.2.2.2.2 x) (HB.out.2.2.2.2 x))
  have HX := Lib.hid hX
  have HY := Lib.hid hY
  obtain ⟨j, hj⟩ : ∃ j, jacR l1 l2 = j := ⟨_, rfl⟩
  obtain ⟨d, hd⟩ : ∃ d, diceR l1 l2 = d := ⟨_, rfl⟩
  obtain ⟨k, hk⟩ : ∃ k, contR l1 l2 = k := ⟨_, rfl⟩
  have djd : decide (d < j) = false := by have := jac_dice l1 l2; rw [hj, hd] at this; simp; omega
  have ddk : decide (k < d) = false := by have := dice_cont l1 l2; rw [hk, hd] at this; simp; omega
  have HJ1 := Lib.hid hj
  have HD1 := Lib.hid hd
  have HK1 := Lib.hid hk
  have HJ2 := Lib.hid ((jac_comm l1 l2).trans hj)
  have HD2 := Lib.hid ((dice_comm l1 l2).trans hd)
  have HK2 := Lib.hid ((cont_comm l1 l2).trans hk)
  have HNO := Lib.hid (show (tsB l1 && tsB l2) = false → j = 0 ∧ d = 0 ∧ k = 0 from fun h => ⟨by rw [← hj, jac_no h], by rw [← hd, dice_no h], by rw [← hk, cont_no h]⟩)
  obtain ⟨t1, ht1⟩ : ∃ t, tsB l1 = t := ⟨_, rfl⟩
  obtain ⟨t2, ht2⟩ : ∃ t, tsB l2 = t := ⟨_, rfl⟩
  have HT1 := Lib.hid ht1
  have HT2 := Lib.hid ht2
  obtain ⟨q, hq⟩ : ∃ q, eqB l1 l2 = q := ⟨_, rfl⟩
  have HQ := Lib.hid hq
  have HALL := Lib.hid (show (tsB l1 && tsB l2) = true → (j == 1000) = q ∧ tsB X = true ∧ tsB Y = true ∧ X.length + Y.length = l1.length + l2.length from fun h => ⟨by rw [← hj, ← hq]; exact jac_same h, by rw [← hX]; exact tok_common h, by rw [← hY]; exact tok_unite h, by rw [← hX, ← hY]; exact both_lens h⟩)
  clear hX hY hj hd hk ht1 ht2 hq
  go_wp2_with (first
    | (go_at_call 8; ((with_reducible refine (jac_impl _ _ _ _ l1 l2 _ (HA.out.below HBW.out) (HB.out.below HBW.out)).mono ?_); rintro e wn ⟨he, hb⟩; rw [HJ1.out] at he; obtain rfl := he; have HBW2 := Lib.hid (HBW.out.trans (hb.mono HBW.out.size)); clear hb HBW; have HBW := HBW2; clear HBW2))
    | (go_at_call 11; ((with_reducible refine (jac_spec _ _ _ _ l1 l2 _ (HA.out.below HBW.out) (HB.out.below HBW.out)).mono ?_); rintro e wn ⟨he, hb⟩; rw [HJ1.out] at he; obtain rfl := he; have HBW2 := Lib.hid (HBW.out.trans (hb.mono HBW.out.size)); clear hb HBW; have HBW := HBW2; clear HBW2))
    | (go_at_call 8; ((with_reducible refine (jac_impl _ _ _ _ l2 l1 _ (HB.out.below HBW.out) (HA.out.below HBW.out)).mono ?_); rintro e wn ⟨he, hb⟩; rw [HJ2.out] at he; obtain rfl := he; have HBW2 := Lib.hid (HBW.out.trans (hb.mono HBW.out.size)); clear hb HBW; have HBW := HBW2; clear HBW2))
    | (go_at_call 9; ((with_reducible refine (dice_impl _ _ _ _ l1 l2 _ (HA.out.below HBW.out) (HB.out.below HBW.out)).mono ?_); rintro e wn ⟨he, hb⟩; rw [HD1.out] at he; obtain rfl := he; have HBW2 := Lib.hid (HBW.out.trans (hb.mono HBW.out.size)); clear hb HBW; have HBW := HBW2; clear HBW2))
    | (go_at_call 12; ((with_reducible refine (dice_spec _ _ _ _ l1 l2 _ (HA.out.below HBW.out) (HB.out.below HBW.out)).mono ?_); rintro e wn ⟨he, hb⟩; rw [HD1.out] at he; obtain rfl := he; have HBW2 := Lib.hid (HBW.out.trans (hb.mono HBW.out.size)); clear hb HBW; have HBW := HBW2; clear HBW2))
    | (go_at_call 9; ((with_reducible refine (dice_impl _ _ _ _ l2 l1 _ (HB.out.below HBW.out) (HA.out.below HBW.out)).mono ?_); rintro e wn ⟨he, hb⟩; rw [HD2.out] at he; obtain rfl := he; have HBW2 := Lib.hid (HBW.out.trans (hb.mono HBW.out.size)); clear hb HBW; have HBW := HBW2; clear HBW2))
    | (go_at_call 10; ((with_reducible refine (cont_impl _ _ _ _ l1 l2 _ (HA.out.below HBW.out) (HB.out.below HBW.out)).mono ?_); rintro e wn ⟨he, hb⟩; rw [HK1.out] at he; obtain rfl := he; have HBW2 := Lib.hid (HBW.out.trans (hb.mono HBW.out.size)); clear hb HBW; have HBW := HBW2; clear HBW2))
    | (go_at_call 13; ((with_reducible refine (cont_spec _ _ _ _ l1 l2 _ (HA.out.below HBW.out) (HB.out.below HBW.out)).mono ?_); rintro e wn ⟨he, hb⟩; rw [HK1.out] at he; obtain rfl := he; have HBW2 := Lib.hid (HBW.out.trans (hb.mono HBW.out.size)); clear hb HBW; have HBW := HBW2; clear HBW2))
    | (go_at_call 10; ((with_reducible refine (cont_impl _ _ _ _ l2 l1 _ (HB.out.below HBW.out) (HA.out.below HBW.out)).mono ?_); rintro e wn ⟨he, hb⟩; rw [HK2.out] at he; obtain rfl := he; have HBW2 := Lib.hid (HBW.out.trans (hb.mono HBW.out.size)); clear hb HBW; have HBW := HBW2; clear HBW2))
    | (go_at_call 14; ((with_reducible refine (common_impl _ _ _ _ l1 l2 _ (HA.out.below HBW.out) (HB.out.below HBW.out)).mono ?_); rintro e wx ⟨ax, cx, he, hox, hb⟩; rw [HX.out] at he hox; obtain rfl := he; refine Hid.out ?_)))
  refine Lib.hid ?_
  have HBX := Lib.hid (HBW.out.trans (hb.mono HBW.out.size))
  have HOX := Lib.hid hox
  clear hb hox
  go_wp2_with (go_at_call 15; ((with_reducible refine (unite_impl _ _ _ _ l1 l2 _ (HA.out.below HBX.out) (HB.out.below HBX.out)).mono ?_); rintro e wy ⟨ay, cy, he, hoy, hb⟩; rw [HY.out] at he hoy; obtain rfl := he; refine Hid.out ?_))
  refine Lib.hid ?_
  have HBY := Lib.hid (HBX.out.trans (hb.mono HBX.out.size))
  have HA3 := Lib.hid (HA.out.below HBY.out)
  have HB3 := Lib.hid (HB.out.below HBY.out)
  have HX3 := Lib.hid ((HOX.out.below hb).sm (by omega) HXM.out)
  have HY3 := Lib.hid (hoy.sm (by omega) HYM.out)
  have HEND := Lib.hid (HB0.out.trans (HBY.out.mono HB0.out.size))
  clear hb hoy HBW
  have HBW := Lib.hid (Below.refl wy.heap.size wy)
  clear HBX HBY HA HB HOX
  cases t1
  · obtain ⟨rfl, rfl, rfl⟩ := HNO.out (by rw [HT1.out]; rfl)
    go_wp2_with (first
      | (go_at_call 17; ((with_reducible refine (common_spec _ _ _ _ l1 l2 _ (HA3.out.below HBW.out) (HB3.out.below HBW.out)).mono ?_); rintro e wn ⟨acs, ccs, he, hocs, hb⟩; rw [HX.out] at he hocs; obtain rfl := he; have HCS := Lib.hid hocs.inS; clear hocs; have HBW2 := Lib.hid (HBW.out.trans (hb.mono HBW.out.size)); clear hb HBW; have HBW := HBW2; clear HBW2))
      | (go_at_call 18; ((with_reducible refine (unite_spec _ _ _ _ l1 l2 _ (HA3.out.below HBW.out) (HB3.out.below HBW.out)).mono ?_); rintro e wn ⟨aus, cus, he, hous, hb⟩; rw [HY.out] at he hous; obtain rfl := he; have HUS := Lib.hid hous.inS; clear hous; have HBW2 := Lib.hid (HBW.out.trans (hb.mono HBW.out.size)); clear hb HBW; have HBW := HBW2; clear HBW2))
      | (go_at_call 16; ((with_reducible refine (eq_is ax acs cx ccs X X true _ HXL.out HXL.out (sm_inS (HX3.out.below HBW.out)) HCS.out (eqB_refl X)).mono ?_); rintro e wn ⟨rfl, hb⟩; have HBW2 := Lib.hid (HBW.out.trans (hb.mono HBW.out.size)); clear hb HBW; have HBW := HBW2; clear HBW2))
      | (go_at_call 16; ((with_reducible refine (eq_is ay aus cy cus Y Y true _ HYL.out HYL.out (sm_inS (HY3.out.below HBW.out)) HUS.out (eqB_refl Y)).mono ?_); rintro e wn ⟨rfl, hb⟩; have HBW2 := Lib.hid (HBW.out.trans (hb.mono HBW.out.size)); clear hb HBW; have HBW := HBW2; clear HBW2))
      | (go_at_call 19; ((with_reducible refine (ti_is _ _ l1 _ _ (HA3.out.below HBW.out) HT1.out).mono ?_); rintro e wn ⟨rfl, hb⟩; have HBW2 := Lib.hid (HBW.out.trans (hb.mono HBW.out.size)); clear hb HBW; have HBW := HBW2; clear HBW2))
      | (go_at_call 20; ((with_reducible refine (ts_is _ _ l1 _ _ (HA3.out.below HBW.out) HT1.out).mono ?_); rintro e wn ⟨rfl, hb⟩; have HBW2 := Lib.hid (HBW.out.trans (hb.mono HBW.out.size)); clear hb HBW; have HBW := HBW2; clear HBW2))
      | (go_at_call 20; ((with_reducible refine (ts_is _ _ l2 _ _ (HB3.out.below HBW.out) HT2.out).mono ?_); rintro e wn ⟨rfl, hb⟩; have HBW2 := Lib.hid (HBW.out.trans (hb.mono HBW.out.size)); clear hb HBW; have HBW := HBW2; clear HBW2)))
    all_goals go_ret
    all_goals exact ⟨rfl, HEND.out.trans (HBW.out.mono HEND.out.size)⟩
  · cases t2
    · obtain ⟨rfl, rfl, rfl⟩ := HNO.out (by rw [HT1.out, HT2.out]; rfl)
      go_wp2_with (first
        | (go_at_call 17; ((with_reducible refine (common_spec _ _ _ _ l1 l2 _ (HA3.out.below HBW.out) (HB3.out.below HBW.out)).mono ?_); rintro e wn ⟨acs, ccs, he, hocs, hb⟩; rw [HX.out] at he hocs; obtain rfl := he; have HCS := Lib.hid hocs.inS; clear hocs; have HBW2 := Lib.hid (HBW.out.trans (hb.mono HBW.out.size)); clear hb HBW; have HBW := HBW2; clear HBW2))
        | (go_at_call 18; ((with_reducible refine (unite_spec _ _ _ _ l1 l2 _ (HA3.out.below HBW.out) (HB3.out.below HBW.out)).mono ?_); rintro e wn ⟨aus, cus, he, hous, hb⟩; rw [HY.out] at he hous; obtain rfl := he; have HUS := Lib.hid hous.inS; clear hous; have HBW2 := Lib.hid (HBW.out.trans (hb.mono HBW.out.size)); clear hb HBW; have HBW := HBW2; clear HBW2))
        | (go_at_call 16; ((with_reducible refine (eq_is ax acs cx ccs X X true _ HXL.out HXL.out (sm_inS (HX3.out.below HBW.out)) HCS.out (eqB_refl X)).mono ?_); rintro e wn ⟨rfl, hb⟩; have HBW2 := Lib.hid (HBW.out.trans (hb.mono HBW.out.size)); clear hb HBW; have HBW := HBW2; clear HBW2))
        | (go_at_call 16; ((with_reducible refine (eq_is ay aus cy cus Y Y true _ HYL.out HYL.out (sm_inS (HY3.out.below HBW.out)) HUS.out (eqB_refl Y)).mono ?_); rintro e wn ⟨rfl, hb⟩; have HBW2 := Lib.hid (HBW.out.trans (hb.mono HBW.out.size)); clear hb HBW; have HBW := HBW2; clear HBW2))
        | (go_at_call 19; ((with_reducible refine (ti_is _ _ l1 _ _ (HA3.out.below HBW.out) HT1.out).mono ?_); rintro e wn ⟨rfl, hb⟩; have HBW2 := Lib.hid (HBW.out.trans (hb.mono HBW.out.size)); clear hb HBW; have HBW := HBW2; clear HBW2))
        | (go_at_call 20; ((with_reducible refine (ts_is _ _ l1 _ _ (HA3.out.below HBW.out) HT1.out).mono ?_); rintro e wn ⟨rfl, hb⟩; have HBW2 := Lib.hid (HBW.out.trans (hb.mono HBW.out.size)); clear hb HBW; have HBW := HBW2; clear HBW2))
        | (go_at_call 20; ((with_reducible refine (ts_is _ _ l2 _ _ (HB3.out.below HBW.out) HT2.out).mono ?_); rintro e wn ⟨rfl, hb⟩; have HBW2 := Lib.hid (HBW.out.trans (hb.mono HBW.out.size)); clear hb HBW; have HBW := HBW2; clear HBW2)))
      all_goals go_ret
      all_goals exact ⟨rfl, HEND.out.trans (HBW.out.mono HEND.out.size)⟩
    · obtain ⟨hjq, htx, hty, hlens⟩ := HALL.out (by rw [HT1.out, HT2.out]; rfl)
      have HTX := Lib.hid htx
      have HTY := Lib.hid hty
      have hleq : ((X.length : Int) + (Y.length : Int) == (l1.length : Int) + (l2.length : Int)) = true := by simp; omega
      clear htx hty hlens
      go_wp2_with (first
        | (go_at_call 17; ((with_reducible refine (common_spec _ _ _ _ l1 l2 _ (HA3.out.below HBW.out) (HB3.out.below HBW.out)).mono ?_); rintro e wn ⟨acs, ccs, he, hocs, hb⟩; rw [HX.out] at he hocs; obtain rfl := he; have HCS := Lib.hid hocs.inS; clear hocs; have HBW2 := Lib.hid (HBW.out.trans (hb.mono HBW.out.size)); clear hb HBW; have HBW := HBW2; clear HBW2))
        | (go_at_call 18; ((with_reducible refine (unite_spec _ _ _ _ l1 l2 _ (HA3.out.below HBW.out) (HB3.out.below HBW.out)).mono ?_); rintro e wn ⟨aus, cus, he, hous, hb⟩; rw [HY.out] at he hous; obtain rfl := he; have HUS := Lib.hid hous.inS; clear hous; have HBW2 := Lib.hid (HBW.out.trans (hb.mono HBW.out.size)); clear hb HBW; have HBW := HBW2; clear HBW2))
        | (go_at_call 16; ((with_reducible refine (eq_is ax acs cx ccs X X true _ HXL.out HXL.out (sm_inS (HX3.out.below HBW.out)) HCS.out (eqB_refl X)).mono ?_); rintro e wn ⟨rfl, hb⟩; have HBW2 := Lib.hid (HBW.out.trans (hb.mono HBW.out.size)); clear hb HBW; have HBW := HBW2; clear HBW2))
        | (go_at_call 16; ((with_reducible refine (eq_is ay aus cy cus Y Y true _ HYL.out HYL.out (sm_inS (HY3.out.below HBW.out)) HUS.out (eqB_refl Y)).mono ?_); rintro e wn ⟨rfl, hb⟩; have HBW2 := Lib.hid (HBW.out.trans (hb.mono HBW.out.size)); clear hb HBW; have HBW := HBW2; clear HBW2))
        | (go_at_call 19; ((with_reducible refine (ti_is _ _ l1 _ _ (HA3.out.below HBW.out) HT1.out).mono ?_); rintro e wn ⟨rfl, hb⟩; have HBW2 := Lib.hid (HBW.out.trans (hb.mono HBW.out.size)); clear hb HBW; have HBW := HBW2; clear HBW2))
        | (go_at_call 20; ((with_reducible refine (ts_is _ _ l1 _ _ (HA3.out.below HBW.out) HT1.out).mono ?_); rintro e wn ⟨rfl, hb⟩; have HBW2 := Lib.hid (HBW.out.trans (hb.mono HBW.out.size)); clear hb HBW; have HBW := HBW2; clear HBW2))
        | (go_at_call 20; ((with_reducible refine (ts_is _ _ l2 _ _ (HB3.out.below HBW.out) HT2.out).mono ?_); rintro e wn ⟨rfl, hb⟩; have HBW2 := Lib.hid (HBW.out.trans (hb.mono HBW.out.size)); clear hb HBW; have HBW := HBW2; clear HBW2))
        | (go_at_call 16; ((with_reducible refine (eq_is _ _ _ _ l1 l2 _ _ HL1.out HL2.out (sm_inS (HA3.out.below HBW.out)) (sm_inS (HB3.out.below HBW.out)) HQ.out).mono ?_); rintro e wn ⟨rfl, hb⟩; have HBW2 := Lib.hid (HBW.out.trans (hb.mono HBW.out.size)); clear hb HBW; have HBW := HBW2; clear HBW2))
        | (go_at_call 19; ((with_reducible refine (ti_is _ _ X _ _ (HX3.out.below HBW.out) HTX.out).mono ?_); rintro e wn ⟨rfl, hb⟩; have HBW2 := Lib.hid (HBW.out.trans (hb.mono HBW.out.size)); clear hb HBW; have HBW := HBW2; clear HBW2))
        | (go_at_call 19; ((with_reducible refine (ti_is _ _ Y _ _ (HY3.out.below HBW.out) HTY.out).mono ?_); rintro e wn ⟨rfl, hb⟩; have HBW2 := Lib.hid (HBW.out.trans (hb.mono HBW.out.size)); clear hb HBW; have HBW := HBW2; clear HBW2)))
      all_goals go_ret
      all_goals exact ⟨rfl, HEND.out.trans (HBW.out.mono HEND.out.size)⟩

set_option maxRecDepth 100000 in
theorem FnSets_walk (A : Option Addr) (len cap : Nat) (zs : List Int) (w : World) (h : IsRow .u8 w A len cap zs) :
    Calls Try.prog 3 #[.slice A len cap] w fun e w' => e = .returned (.bool true) ∧ Below w.heap.size w w' := by
  by_cases hl : 1048576 < (len : Int)
  · go_enter Try.func3, Try.ntmps3
    go_wp2_with (go_at_call 6; (refine (big_yes A len cap _ hl).mono ?_); rintro e w0 ⟨rfl, rfl⟩)
    go_ret
    exact ⟨rfl, Below.refl _ _⟩
  · exact FnSets_core A len cap w (codeAt_of h (by omega))

end Go.Proofs.Ytggohfinkpppkab
