/-
  Jaccard, Dice and Containment on both sides, any two lists. By an AI agent.
-/
import Derived.Test.YtggohfinkpppkabGreatDoorSim
namespace Go.Proofs.YtggohfinkpppkabGreatDoor
open Go.RowKit
set_option linter.unusedVariables false

set_option maxRecDepth 100000 in
set_option maxHeartbeats 1000000 in
theorem jac_spec (a0 a1 : Option Addr) (c0 c1 : Nat) (l0 l1 : List Str) (w : World) (h0 : Sm w a0 l0 c0) (h1 : Sm w a1 l1 c1) :
    Calls Tryz.prog 55 #[.slice a0 l0.length c0, .slice a1 l1.length c1] w fun e w' => e = .returned (.int .i64 (jacR l0 l1)) ∧ Below w.heap.size w w' := by
  have H0 := Lib.hid h0
  have H1 := Lib.hid h1
  have hl0 := h0.2.2.2.1
  have hl1 := h1.2.2.2.1
  obtain ⟨r, hr⟩ : ∃ r, jacR l0 l1 = r := ⟨_, rfl⟩
  rw [hr]
  have HR := Lib.hid hr
  obtain ⟨b, hb⟩ : ∃ b, (tsB l0 && tsB l1) = b := ⟨_, rfl⟩
  have HTS := Lib.hid hb
  cases b
  · obtain rfl : 0 = r := by rw [← HR.out, jacR, hb]; rfl
    clear h0 h1 hb hr HR
    go_enter Tryz.func55, Tryz.ntmps55
    go_wp2_with (go_at_call 84; (with_reducible refine (sets_is _ _ _ _ _ _ _ _ H0.out H1.out HTS.out).mono ?_); rintro e w1 ⟨rfl, hb1⟩; have HB1 := Lib.hid hb1; clear hb1)
    go_ret
    exact ⟨rfl, HB1.out⟩
  · have hts := hb
    obtain ⟨s0, s1⟩ := pair_yes hts
    have S0 := Lib.hid s0
    have S1 := Lib.hid s1
    obtain ⟨n, hn⟩ : ∃ n, ccN l0 l1 = n := ⟨_, rfl⟩
    obtain ⟨u, hu⟩ : ∃ u, (uniteR l0 l1).length = u := ⟨_, rfl⟩
    have HN := Lib.hid hn
    have HU := Lib.hid hu
    have hn1 : n ≤ l0.length := by rw [← hn]; exact cc_le _ _
    have hnu : u + n = l0.length + l1.length := by rw [← hn, ← hu]; exact unite_count s0 s1
    have HV := Lib.hid (show ratI n u = r by rw [← HR.out, jacR, hts, if_pos rfl, hn, hu])
    clear h0 h1 hb hr HR hts s0 s1 hn hu
    go_enter Tryz.func55, Tryz.ntmps55
    go_wp2_with (first
      | (go_at_call 84; (with_reducible refine (sets_is _ _ _ _ _ _ _ _ H0.out H1.out HTS.out).mono ?_); rintro e w1 ⟨rfl, hb1⟩; have HB1 := Lib.hid hb1; clear hb1)
      | (go_at_call 86; (with_reducible refine (cm_spec _ _ _ _ _ _ _ _ (H0.out.below HB1.out) (H1.out.below HB1.out) S0.out HN.out).mono ?_); rintro e w2 ⟨am, cm, rfl, hb2⟩; have HB2 := Lib.hid (HB1.out.trans (hb2.mono HB1.out.size)); clear hb2)
      | (go_at_call 87; (with_reducible refine (un_spec _ _ _ _ _ _ _ _ (H0.out.below HB2.out) (H1.out.below HB2.out) HU.out).mono ?_); rintro e w3 ⟨au, cu, rfl, hb3⟩; have HB3 := Lib.hid (HB2.out.trans (hb3.mono HB2.out.size)); clear hb3)
      | (go_at_call 85; (with_reducible refine (ratio_spec _ _ _ _ (by omega) (by omega) (by omega) (by omega) HV.out).mono ?_); rintro e w4 ⟨rfl, rfl⟩))
    go_ret
    exact ⟨rfl, HB3.out⟩

set_option maxRecDepth 100000 in
set_option maxHeartbeats 1000000 in
theorem jac_impl (a0 a1 : Option Addr) (c0 c1 : Nat) (l0 l1 : List Str) (w : World) (h0 : Sm w a0 l0 c0) (h1 : Sm w a1 l1 c1) :
    Calls Tryz.prog 74 #[.slice a0 l0.length c0, .slice a1 l1.length c1] w fun e w' => e = .returned (.int .i64 (jacR l0 l1)) ∧ Below w.heap.size w w' := by
  have H0 := Lib.hid h0
  have H1 := Lib.hid h1
  have hl0 := h0.2.2.2.1
  have hl1 := h1.2.2.2.1
  obtain ⟨r, hr⟩ : ∃ r, jacR l0 l1 = r := ⟨_, rfl⟩
  rw [hr]
  have HR := Lib.hid hr
  obtain ⟨b0, e0⟩ : ∃ b0, tsB l0 = b0 := ⟨_, rfl⟩
  obtain ⟨b1, e1⟩ : ∃ b1, tsB l1 = b1 := ⟨_, rfl⟩
  have C0 := Lib.hid (fun W (h : Sm W a0 l0 c0) => (tset_impl a0 c0 l0 W h).mono fun e w' k => (show e = .returned (.bool b0) ∧ Below W.heap.size W w' by rw [← e0]; exact k))
  have C1 := Lib.hid (fun W (h : Sm W a1 l1 c1) => (tset_impl a1 c1 l1 W h).mono fun e w' k => (show e = .returned (.bool b1) ∧ Below W.heap.size W w' by rw [← e1]; exact k))
  cases b0
  · obtain rfl : 0 = r := by rw [← HR.out, jacR, e0]; rfl
    clear h0 h1 e0 e1 hr HR
    go_enter Tryz.func74, Tryz.ntmps74
    go_wp2_with (go_at_call 96; (with_reducible refine (C0.out _ H0.out).mono ?_); rintro e w1 ⟨rfl, hb1⟩; have HB1 := Lib.hid hb1; clear hb1)
    go_ret
    exact ⟨rfl, HB1.out⟩
  · cases b1
    · obtain rfl : 0 = r := by rw [← HR.out, jacR, e0, e1]; rfl
      clear h0 h1 e0 e1 hr HR
      go_enter Tryz.func74, Tryz.ntmps74
      go_wp2_with (first
        | (go_at_call 96; (with_reducible refine (C1.out _ (H1.out.below HB1.out)).mono ?_); rintro e w2 ⟨rfl, hb2⟩; have HB2 := Lib.hid (HB1.out.trans (hb2.mono HB1.out.size)); clear hb2)
        | (go_at_call 96; (with_reducible refine (C0.out _ H0.out).mono ?_); rintro e w1 ⟨rfl, hb1⟩; have HB1 := Lib.hid hb1; clear hb1))
      go_ret
      exact ⟨rfl, HB2.out⟩
    · have hts : (tsB l0 && tsB l1) = true := by rw [e0, e1]; rfl
      obtain ⟨s0, s1⟩ := pair_yes hts
      have S0 := Lib.hid s0
      have S1 := Lib.hid s1
      obtain ⟨n, hn⟩ : ∃ n, ccN l0 l1 = n := ⟨_, rfl⟩
      obtain ⟨u, hu⟩ : ∃ u, (uniteR l0 l1).length = u := ⟨_, rfl⟩
      have HN := Lib.hid hn
      have HU := Lib.hid hu
      have hn1 : n ≤ l0.length := by rw [← hn]; exact cc_le _ _
      have hnu : u + n = l0.length + l1.length := by rw [← hn, ← hu]; exact unite_count s0 s1
      have HV := Lib.hid (show ratI n u = r by rw [← HR.out, jacR, hts, if_pos rfl, hn, hu])
      have HV := Lib.hid (show ratI n ((l0.length : Int) + (l1.length : Int) - (n : Int)) = r by rw [← HV.out]; congr 1; omega)
      clear h0 h1 hr HR hts s0 s1 hn hu e0 e1
      go_enter Tryz.func74, Tryz.ntmps74
      go_wp2_with (first
        | (go_at_call 96; (with_reducible refine (C1.out _ (H1.out.below HB1.out)).mono ?_); rintro e w2 ⟨rfl, hb2⟩; have HB2 := Lib.hid (HB1.out.trans (hb2.mono HB1.out.size)); clear hb2)
        | (go_at_call 96; (with_reducible refine (C0.out _ H0.out).mono ?_); rintro e w1 ⟨rfl, hb1⟩; have HB1 := Lib.hid hb1; clear hb1)
        | (go_at_call 97; (with_reducible refine (ct_impl _ _ _ _ _ _ _ _ (H0.out.below HB2.out) (H1.out.below HB2.out) S0.out S1.out HN.out).mono ?_); rintro e w3 ⟨rfl, hb3⟩; have HB3 := Lib.hid (HB2.out.trans (hb3.mono HB2.out.size)); clear hb3)
        | (go_at_call 98; (with_reducible refine (ratio_impl _ _ _ _ (by omega) (by omega) (by omega) (by omega) HV.out).mono ?_); rintro e w4 ⟨rfl, rfl⟩))
      go_ret
      exact ⟨rfl, HB3.out⟩

end Go.Proofs.YtggohfinkpppkabGreatDoor
