/-
  What spec.IsValidDiagram answers. By an AI agent.
-/
import Derived.Test.YtpmfabpnjacegaaGreatDoorGQ4
import Derived.Test.YtpmfabpnjacegaaGreatDoorGQ1
import Derived.Test.YtpmfabpnjacegaaGreatDoorUndrew
import Derived.Deep.RegionHeld3
namespace Go.Proofs.YtpmfabpnjacegaaGreatDoor
open Go.RowKit
set_option linter.unusedVariables false
set_option linter.unusedSimpArgs false
set_option linter.unnecessarySimpa false

set_option maxRecDepth 100000 in
set_option maxHeartbeats 1000000 in
theorem bf_is (f t u z f' t' u' z' : Int) (r : Bool) (w : World) (hr : varLt (f, t) (f', t') = r) :
    Calls Tryz.prog 46 #[.agg #[.int .i64 f, .int .i64 t, .int .i64 u, .int .i64 z], .agg #[.int .i64 f', .int .i64 t', .int .i64 u', .int .i64 z']] w fun e w' => e = .returned (.bool r) ∧ Below w.heap.size w w' := by
  have HB := Lib.hid (((Below.refl w.heap.size w).alloc (Nat.le_refl _) (.cells #[.int .i64 f, .int .i64 t, .int .i64 u, .int .i64 z] 59)).alloc (by simp) (.cells #[.int .i64 f', .int .i64 t', .int .i64 u', .int .i64 z'] 59))
  unfold varLt at hr
  by_cases h1 : f < f'
  · obtain rfl : true = r := by rw [← hr]; exact (decide_eq_true (.inl h1)).symm
    clear hr
    go_enter Tryz.func46, Tryz.ntmps46
    go_wp2
    go_ret
    exact ⟨rfl, HB.out⟩
  by_cases h2 : f = f'
  · subst h2
    by_cases h3 : t < t'
    · obtain rfl : true = r := by rw [← hr]; exact (decide_eq_true (.inr ⟨rfl, h3⟩)).symm
      clear hr h1
      have h1 : ¬ f < f := by omega
      go_enter Tryz.func46, Tryz.ntmps46
      go_wp2
      go_ret
      exact ⟨rfl, HB.out⟩
    · obtain rfl : false = r := by rw [← hr]; exact (decide_eq_false (fun e => by rcases e with e | ⟨_, e⟩ <;> simp at e <;> omega)).symm
      clear hr h1
      have h1 : ¬ f < f := by omega
      go_enter Tryz.func46, Tryz.ntmps46
      go_wp2
      go_ret
      exact ⟨rfl, HB.out⟩
  · obtain rfl : false = r := by rw [← hr]; exact (decide_eq_false (fun e => by rcases e with e | ⟨e, _⟩; exact h1 e; exact h2 e)).symm
    clear hr
    have h3 : (f == f') = false := by simp [h2]
    go_enter Tryz.func46, Tryz.ntmps46
    go_wp2
    go_ret
    exact ⟨rfl, HB.out⟩

set_option maxRecDepth 100000 in
set_option maxHeartbeats 16000000 in
theorem dg_spec (y : Int) (a : Option Addr) (c : Nat) (D : List DN) (r : Bool) (w : World) (hr : dgB y D = r) (h : SmDn w a D c) :
    Calls Tryz.prog 19 #[.agg #[.int .i64 y, .slice a D.length c]] w fun e w' => e = .returned (.bool r) ∧ Below w.heap.size w w' := by
  have hl := h.len
  obtain ⟨n, hn⟩ : ∃ n, D.length = n := ⟨_, rfl⟩
  have HN := Lib.hid hn
  rw [hn] at hl ⊢
  obtain ⟨w1, hw1⟩ : ∃ w1, w.alloc (.cells #[.int .i64 y, .slice a n c] 32) = w1 := ⟨_, rfl⟩
  have HB1 := Lib.hid (show Below w.heap.size w w1 by rw [← hw1]; exact (Below.refl w.heap.size w).alloc (Nat.le_refl _) _)
  have HX1 := Lib.hid (show BlkV w1 w.heap.size 32 #[.int .i64 y, .slice a n c] by rw [← hw1]; exact BlkV.new _ _ _)
  have HS := Lib.hid (h.below HB1.out)
  have HR := Lib.hid hr
  clear h hr hn
  go_enter Tryz.func19, Tryz.ntmps19
  go_wp2
  go_loopw [3] (fun i wr => ∃ k : Nat, k ≤ n ∧ i = .int .i64 k ∧ (∀ (i : Nat) (x : DN), i < k → D[i]? = some x → dvB x (D.take i) = true) ∧ Below w1.heap.size w1 wr) (fun i _ => n - (intOf i).toNat)
  case atStart => exact ⟨0, Nat.zero_le _, rfl, fun i x hi => by omega, Below.refl _ _⟩
  case round =>
    obtain ⟨k, hk, rfl, hall, hb⟩ := hrel
    have HALL := Lib.hid hall
    obtain ⟨wo, rfl⟩ : ∃ wo, wo = wr := ⟨_, rfl⟩
    have HBO := Lib.hid hb
    have q0 := (HX1.out.below hb).two0
    have q1 := (HX1.out.below hb).two1
    clear hall hb
    by_cases hlt : k < n
    · obtain ⟨b2, o2, rfl, hb2, hcells⟩ := (HS.out.inDn.below HBO.out) (by rw [HN.out]; omega)
      obtain ⟨⟨⟨f, t⟩, u, z⟩, hx⟩ : ∃ x, D[k]? = some x := ⟨_, List.getElem?_eq_getElem (by rw [HN.out]; exact hlt)⟩
      obtain ⟨p0, p1, p2, p3⟩ := hcells k _ hx
      obtain ⟨W1, hW1⟩ : ∃ W1, wo.alloc (.cells #[.int .i64 f, .int .i64 t, .int .i64 u, .int .i64 z] 59) = W1 := ⟨_, rfl⟩
      have G := Lib.hid (show Below wo.heap.size wo W1 by rw [← hW1]; exact (Below.refl _ _).alloc (Nat.le_refl _) _)
      have T := Lib.hid (show BlkV W1 wo.heap.size 59 #[.int .i64 f, .int .i64 t, .int .i64 u, .int .i64 z] by rw [← hW1]; exact BlkV.new _ _ _)
      have X := Lib.hid (HX1.out.below (HBO.out.trans (G.out.mono HBO.out.size)))
      have M := Lib.hid (fun j x (hj : D[j]? = some x) => (hcells j x hj).of_block (G.out.block b2 hb2))
      have BW := Lib.hid (Nat.lt_of_lt_of_le hb2 G.out.size)
      have HX := Lib.hid hx
      have HTL := Lib.hid (show (D.take k).length = k by rw [List.length_take, HN.out]; omega)
      have hki : (k : Int) < (n : Int) := by omega
      obtain ⟨fb, hfb⟩ : ∃ fb, decide (0 ≤ f ∧ f ≤ 5) = fb := ⟨_, rfl⟩
      have HFB := Lib.hid hfb
      obtain ⟨tb, htb⟩ : ∃ tb, decide (1 ≤ t ∧ t ≤ 1000) = tb := ⟨_, rfl⟩
      have HTB := Lib.hid htb
      obtain ⟨lb, hlb⟩ : ∃ lb, decide (0 ≤ u ∧ u ≤ (k : Int) + 1) = lb := ⟨_, rfl⟩
      have HLB := Lib.hid hlb
      obtain ⟨hb, hhb⟩ : ∃ hb, decide (0 ≤ z ∧ z ≤ (k : Int) + 1) = hb := ⟨_, rfl⟩
      have HHB := Lib.hid hhb
      have HNO := Lib.hid (fun (e : ¬ ((0 ≤ f ∧ f ≤ 5) ∧ (1 ≤ t ∧ t ≤ 1000) ∧ u ≠ z ∧ (0 ≤ u ∧ u ≤ (k : Int) + 1) ∧ (0 ≤ z ∧ z ≤ (k : Int) + 1))) => show dgB y D = false from dg_no (nodes_no hx (dv_num (num_no (by rw [HTL.out]; exact e)))))
      clear hcells hx hfb htb hlb hhb hb2
      have x0 := T.out.four0'
      have x1 := T.out.four1'
      have x2 := T.out.four2'
      have x3 := T.out.four3'
      cases fb
      · obtain rfl : false = r := by rw [← HR.out, HNO.out (fun e => of_decide_eq_false HFB.out e.1)]
        go_wp2_with (first | (go_at_call 45; (with_reducible refine (cl1In _ _ _ _ _ HFB.out).mono ?_); rintro e wq ⟨rfl, hwq⟩; obtain rfl := hwq.symm) | (go_at_call 45; (with_reducible refine (cl1In _ _ _ _ _ HTB.out).mono ?_); rintro e wq ⟨rfl, hwq⟩; obtain rfl := hwq.symm) | (go_at_call 45; (with_reducible refine (cl1In _ _ _ _ _ HLB.out).mono ?_); rintro e wq ⟨rfl, hwq⟩; obtain rfl := hwq.symm) | (go_at_call 45; (with_reducible refine (cl1In _ _ _ _ _ HHB.out).mono ?_); rintro e wq ⟨rfl, hwq⟩; obtain rfl := hwq.symm))
        go_ret
        exact ⟨rfl, HB1.out.trans ((HBO.out.trans (G.out.mono HBO.out.size)).mono HB1.out.size)⟩
      cases tb
      · obtain rfl : false = r := by rw [← HR.out, HNO.out (fun e => of_decide_eq_false HTB.out e.2.1)]
        go_wp2_with (first | (go_at_call 45; (with_reducible refine (cl1In _ _ _ _ _ HFB.out).mono ?_); rintro e wq ⟨rfl, hwq⟩; obtain rfl := hwq.symm) | (go_at_call 45; (with_reducible refine (cl1In _ _ _ _ _ HTB.out).mono ?_); rintro e wq ⟨rfl, hwq⟩; obtain rfl := hwq.symm) | (go_at_call 45; (with_reducible refine (cl1In _ _ _ _ _ HLB.out).mono ?_); rintro e wq ⟨rfl, hwq⟩; obtain rfl := hwq.symm) | (go_at_call 45; (with_reducible refine (cl1In _ _ _ _ _ HHB.out).mono ?_); rintro e wq ⟨rfl, hwq⟩; obtain rfl := hwq.symm))
        go_ret
        exact ⟨rfl, HB1.out.trans ((HBO.out.trans (G.out.mono HBO.out.size)).mono HB1.out.size)⟩
      cases lb
      · obtain rfl : false = r := by rw [← HR.out, HNO.out (fun e => of_decide_eq_false HLB.out e.2.2.2.1)]
        go_wp2_with (first | (go_at_call 45; (with_reducible refine (cl1In _ _ _ _ _ HFB.out).mono ?_); rintro e wq ⟨rfl, hwq⟩; obtain rfl := hwq.symm) | (go_at_call 45; (with_reducible refine (cl1In _ _ _ _ _ HTB.out).mono ?_); rintro e wq ⟨rfl, hwq⟩; obtain rfl := hwq.symm) | (go_at_call 45; (with_reducible refine (cl1In _ _ _ _ _ HLB.out).mono ?_); rintro e wq ⟨rfl, hwq⟩; obtain rfl := hwq.symm) | (go_at_call 45; (with_reducible refine (cl1In _ _ _ _ _ HHB.out).mono ?_); rintro e wq ⟨rfl, hwq⟩; obtain rfl := hwq.symm))
        go_ret
        exact ⟨rfl, HB1.out.trans ((HBO.out.trans (G.out.mono HBO.out.size)).mono HB1.out.size)⟩
      cases hb
      · obtain rfl : false = r := by rw [← HR.out, HNO.out (fun e => of_decide_eq_false HHB.out e.2.2.2.2)]
        go_wp2_with (first | (go_at_call 45; (with_reducible refine (cl1In _ _ _ _ _ HFB.out).mono ?_); rintro e wq ⟨rfl, hwq⟩; obtain rfl := hwq.symm) | (go_at_call 45; (with_reducible refine (cl1In _ _ _ _ _ HTB.out).mono ?_); rintro e wq ⟨rfl, hwq⟩; obtain rfl := hwq.symm) | (go_at_call 45; (with_reducible refine (cl1In _ _ _ _ _ HLB.out).mono ?_); rintro e wq ⟨rfl, hwq⟩; obtain rfl := hwq.symm) | (go_at_call 45; (with_reducible refine (cl1In _ _ _ _ _ HHB.out).mono ?_); rintro e wq ⟨rfl, hwq⟩; obtain rfl := hwq.symm))
        go_ret
        exact ⟨rfl, HB1.out.trans ((HBO.out.trans (G.out.mono HBO.out.size)).mono HB1.out.size)⟩
      by_cases huz : u = z
      · obtain rfl : false = r := by rw [← HR.out, HNO.out (fun e => e.2.2.1 huz)]
        have hez : (u == z) = true := by simp [huz]
        clear huz
        go_wp2_with (first | (go_at_call 45; (with_reducible refine (cl1In _ _ _ _ _ HFB.out).mono ?_); rintro e wq ⟨rfl, hwq⟩; obtain rfl := hwq.symm) | (go_at_call 45; (with_reducible refine (cl1In _ _ _ _ _ HTB.out).mono ?_); rintro e wq ⟨rfl, hwq⟩; obtain rfl := hwq.symm) | (go_at_call 45; (with_reducible refine (cl1In _ _ _ _ _ HLB.out).mono ?_); rintro e wq ⟨rfl, hwq⟩; obtain rfl := hwq.symm) | (go_at_call 45; (with_reducible refine (cl1In _ _ _ _ _ HHB.out).mono ?_); rintro e wq ⟨rfl, hwq⟩; obtain rfl := hwq.symm))
        go_ret
        exact ⟨rfl, HB1.out.trans ((HBO.out.trans (G.out.mono HBO.out.size)).mono HB1.out.size)⟩
      have hez : (u == z) = false := by simp [huz]
      clear x0 x1 x2 x3 HNO
      by_cases hu : (1 : Int) < u
      · by_cases hz : (1 : Int) < z
        · skip
          obtain ⟨i1, hui⟩ : ∃ i : Nat, u = (i : Int) + 2 := ⟨(u - 2).toNat, by omega⟩
          have hu2 : u - 2 = (i1 : Int) := by omega
          have hub := of_decide_eq_true HLB.out
          have hi1k : i1 < k := by omega
          have hi1n : (i1 : Int) < (n : Int) := by omega
          have hi1w : IntKind.i64.wrap (i1 : Int) = (i1 : Int) := IntWalk.i64_in _ (by omega)
          obtain ⟨⟨⟨fA, tA⟩, uA, zA⟩, hl1⟩ : ∃ x, D[i1]? = some x := ⟨_, List.getElem?_eq_getElem (by rw [HN.out]; omega)⟩
          have HL1 := Lib.hid hl1
          obtain ⟨v1, hv1⟩ : ∃ v, varLt (f, t) (fA, tA) = v := ⟨_, rfl⟩
          have HV1 := Lib.hid hv1
          have HP1 := Lib.hid (show preB (f, t) (D.take k) u = v1 by rw [pre_at hui (show (D.take k)[i1]? = _ by rw [List.getElem?_take_of_lt hi1k]; exact hl1), hv1])
          clear hl1 hv1 hub hui hi1k
          obtain ⟨i2, hzi⟩ : ∃ i : Nat, z = (i : Int) + 2 := ⟨(z - 2).toNat, by omega⟩
          have hz2 : z - 2 = (i2 : Int) := by omega
          have hzb := of_decide_eq_true HHB.out
          have hi2k : i2 < k := by omega
          have hi2n : (i2 : Int) < (n : Int) := by omega
          have hi2w : IntKind.i64.wrap (i2 : Int) = (i2 : Int) := IntWalk.i64_in _ (by omega)
          obtain ⟨⟨⟨fB, tB⟩, uB, zB⟩, hl2⟩ : ∃ x, D[i2]? = some x := ⟨_, List.getElem?_eq_getElem (by rw [HN.out]; omega)⟩
          have HL2 := Lib.hid hl2
          obtain ⟨v2, hv2⟩ : ∃ v, varLt (f, t) (fB, tB) = v := ⟨_, rfl⟩
          have HV2 := Lib.hid hv2
          have HP2 := Lib.hid (show preB (f, t) (D.take k) z = v2 by rw [pre_at hzi (show (D.take k)[i2]? = _ by rw [List.getElem?_take_of_lt hi2k]; exact hl2), hv2])
          clear hl2 hv2 hzb hzi hi2k
          cases v1
          · obtain rfl : false = r := by rw [← HR.out, dg_no (nodes_no HX.out (dv_low HP1.out))]
            have qx0 := T.out.four0'
            have qx1 := T.out.four1'
            have qx2 := T.out.four2'
            have qx3 := T.out.four3'
            have qd0 := X.out.two0
            have qd1 := X.out.two1
            obtain ⟨ql0, ql1, ql2, ql3⟩ := M.out _ _ HL1.out
            obtain ⟨qh0, qh1, qh2, qh3⟩ := M.out _ _ HL2.out
            go_wp2_with (first | (go_at_call 45; (with_reducible refine (cl1In _ _ _ _ _ HFB.out).mono ?_); rintro e wq ⟨rfl, hwq⟩; obtain rfl := hwq.symm) | (go_at_call 45; (with_reducible refine (cl1In _ _ _ _ _ HTB.out).mono ?_); rintro e wq ⟨rfl, hwq⟩; obtain rfl := hwq.symm) | (go_at_call 45; (with_reducible refine (cl1In _ _ _ _ _ HLB.out).mono ?_); rintro e wq ⟨rfl, hwq⟩; obtain rfl := hwq.symm) | (go_at_call 45; (with_reducible refine (cl1In _ _ _ _ _ HHB.out).mono ?_); rintro e wq ⟨rfl, hwq⟩; obtain rfl := hwq.symm))
            refine wp_region_noPanic ?_
            refine wp_region_held_drew (S := (fun w' => w'.cell? ⟨wo.heap.size, 0, none⟩ = some (.int .i64 f) ∧ w'.cell? ⟨wo.heap.size, 1, none⟩ = some (.int .i64 t) ∧ w'.cell? ⟨wo.heap.size, 2, none⟩ = some (.int .i64 u) ∧ w'.cell? ⟨wo.heap.size, 3, none⟩ = some (.int .i64 z) ∧ w'.cell? ⟨w.heap.size, 0, none⟩ = some (.int .i64 y) ∧ w'.cell? ⟨w.heap.size, 1, none⟩ = some (.slice (some ⟨b2, o2, none⟩) n c) ∧ w'.cell? ⟨b2, o2 + i1 * 4, none⟩ = some (.int .i64 fA) ∧ w'.cell? ⟨b2, o2 + i1 * 4 + 1, none⟩ = some (.int .i64 tA) ∧ w'.cell? ⟨b2, o2 + i1 * 4 + 2, none⟩ = some (.int .i64 uA) ∧ w'.cell? ⟨b2, o2 + i1 * 4 + 3, none⟩ = some (.int .i64 zA) ∧ w'.cell? ⟨b2, o2 + i2 * 4, none⟩ = some (.int .i64 fB) ∧ w'.cell? ⟨b2, o2 + i2 * 4 + 1, none⟩ = some (.int .i64 tB) ∧ w'.cell? ⟨b2, o2 + i2 * 4 + 2, none⟩ = some (.int .i64 uB) ∧ w'.cell? ⟨b2, o2 + i2 * 4 + 3, none⟩ = some (.int .i64 zB))) (by kernel_rfl) ?hSf (fun hHeld => ?hRf)
            case hSf => exact ⟨qx0, qx1, qx2, qx3, qd0, qd1, ql0, ql1, ql2, ql3, qh0, qh1, qh2, qh3⟩
            refine wpAnyH_take (i := 0) (v := ?vf0) rfl (by kernel_rfl) (by kernel_rfl) (by kernel_rfl) (fun _ _ _ h => h) (Or.inl ⟨by kernel_rfl, ?hyf0⟩) (by assumption) ?hrf0
            case hyf0 => (intro w' hSw; (try dsimp only at hSw); go_simp; (try with_reducible rfl))
            (try simp only [Act.put, List.getElem_toArray, List.getElem_cons_succ, List.getElem_cons_zero, List.setIfInBounds_toArray, List.set_cons_zero, List.set_cons_succ])
            refine wpAnyH_take (i := 1) (v := ?vf1) rfl (by kernel_rfl) (by kernel_rfl) (by kernel_rfl) (fun _ _ _ h => h) (Or.inl ⟨by kernel_rfl, ?hyf1⟩) (by assumption) ?hrf1
            case hyf1 => (intro w' hSw; (try dsimp only at hSw); go_simp; (try with_reducible rfl))
            (try simp only [Act.put, List.getElem_toArray, List.getElem_cons_succ, List.getElem_cons_zero, List.setIfInBounds_toArray, List.set_cons_zero, List.set_cons_succ])
            refine wpAnyH_take (i := 2) (v := ?vf2) rfl (by kernel_rfl) (by kernel_rfl) (by kernel_rfl) (fun _ _ _ h => h) (Or.inl ⟨by kernel_rfl, ?hyf2⟩) (by assumption) ?hrf2
            case hyf2 => (intro w' hSw; (try dsimp only at hSw); go_simp; (try with_reducible rfl))
            (try simp only [Act.put, List.getElem_toArray, List.getElem_cons_succ, List.getElem_cons_zero, List.setIfInBounds_toArray, List.set_cons_zero, List.set_cons_succ])
            refine wpAnyH_take (i := 3) (v := ?vf3) rfl (by kernel_rfl) (by kernel_rfl) (by kernel_rfl) (fun _ _ _ h => h) (Or.inl ⟨by kernel_rfl, ?hyf3⟩) (by assumption) ?hrf3
            case hyf3 => (intro w' hSw; (try dsimp only at hSw); go_simp; (try with_reducible rfl))
            (try simp only [Act.put, List.getElem_toArray, List.getElem_cons_succ, List.getElem_cons_zero, List.setIfInBounds_toArray, List.set_cons_zero, List.set_cons_succ])
            refine wpAnyH_take (i := 4) (v := ?vf4) rfl (by kernel_rfl) (by kernel_rfl) (by kernel_rfl) (fun _ _ _ h => h) (Or.inl ⟨by kernel_rfl, ?hyf4⟩) (by assumption) ?hrf4
            case hyf4 => (intro w' hSw; (try dsimp only at hSw); go_simp; (try with_reducible rfl))
            (try simp only [Act.put, List.getElem_toArray, List.getElem_cons_succ, List.getElem_cons_zero, List.setIfInBounds_toArray, List.set_cons_zero, List.set_cons_succ])
            refine wpAnyH_take (i := 5) (v := ?vf5) rfl (by kernel_rfl) (by kernel_rfl) (by kernel_rfl) (fun _ _ _ h => h) (Or.inl ⟨by kernel_rfl, ?hyf5⟩) (by assumption) ?hrf5
            case hyf5 => (intro w' hSw; (try dsimp only at hSw); go_simp; (try with_reducible rfl))
            (try simp only [Act.put, List.getElem_toArray, List.getElem_cons_succ, List.getElem_cons_zero, List.setIfInBounds_toArray, List.set_cons_zero, List.set_cons_succ])
            refine wpAnyH_take (i := 6) (v := ?vf6) rfl (by kernel_rfl) (by kernel_rfl) (by kernel_rfl) (fun _ _ _ h => h) (Or.inl ⟨by kernel_rfl, ?hyf6⟩) (by assumption) ?hrf6
            case hyf6 => (intro w' hSw; (try dsimp only at hSw); go_simp; (try with_reducible rfl))
            (try simp only [Act.put, List.getElem_toArray, List.getElem_cons_succ, List.getElem_cons_zero, List.setIfInBounds_toArray, List.set_cons_zero, List.set_cons_succ])
            refine wpAnyH_take (i := 7) (v := ?vf7) rfl (by kernel_rfl) (by kernel_rfl) (by kernel_rfl) (fun _ _ _ h => h) (Or.inl ⟨by kernel_rfl, ?hyf7⟩) (by assumption) ?hrf7
            case hyf7 => (intro w' hSw; (try dsimp only at hSw); go_simp; (try with_reducible rfl))
            (try simp only [Act.put, List.getElem_toArray, List.getElem_cons_succ, List.getElem_cons_zero, List.setIfInBounds_toArray, List.set_cons_zero, List.set_cons_succ])
            refine wpAnyH_take (i := 8) (v := ?vf8) rfl (by kernel_rfl) (by kernel_rfl) (by kernel_rfl) (fun _ _ _ h => h) (Or.inl ⟨by kernel_rfl, ?hyf8⟩) (by assumption) ?hrf8
            case hyf8 => (intro w' hSw; (try dsimp only at hSw); go_simp; (try with_reducible rfl))
            (try simp only [Act.put, List.getElem_toArray, List.getElem_cons_succ, List.getElem_cons_zero, List.setIfInBounds_toArray, List.set_cons_zero, List.set_cons_succ])
            refine wpAnyH_take (i := 9) (v := ?vf9) rfl (by kernel_rfl) (by kernel_rfl) (by kernel_rfl) (fun _ _ _ h => h) (Or.inl ⟨by kernel_rfl, ?hyf9⟩) (by assumption) ?hrf9
            case hyf9 => (intro w' hSw; (try dsimp only at hSw); go_simp; (try with_reducible rfl))
            (try simp only [Act.put, List.getElem_toArray, List.getElem_cons_succ, List.getElem_cons_zero, List.setIfInBounds_toArray, List.set_cons_zero, List.set_cons_succ])
            refine wpAnyH_take (i := 10) (v := ?vf10) rfl (by kernel_rfl) (by kernel_rfl) (by kernel_rfl) (fun _ _ _ h => h) (Or.inl ⟨by kernel_rfl, ?hyf10⟩) (by assumption) ?hrf10
            case hyf10 => (intro w' hSw; (try dsimp only at hSw); go_simp; (try with_reducible rfl))
            (try simp only [Act.put, List.getElem_toArray, List.getElem_cons_succ, List.getElem_cons_zero, List.setIfInBounds_toArray, List.set_cons_zero, List.set_cons_succ])
            refine wpAnyH_take (i := 11) (v := ?vf11) rfl (by kernel_rfl) (by kernel_rfl) (by kernel_rfl) (fun _ _ _ h => h) (Or.inl ⟨by kernel_rfl, ?hyf11⟩) (by assumption) ?hrf11
            case hyf11 => (intro w' hSw; (try dsimp only at hSw); go_simp; (try with_reducible rfl))
            (try simp only [Act.put, List.getElem_toArray, List.getElem_cons_succ, List.getElem_cons_zero, List.setIfInBounds_toArray, List.set_cons_zero, List.set_cons_succ])
            refine wpAnyH_ready (rs := [12]) (by kernel_rfl) (by simp) ?_
            refine AllReadyH.cons rfl (fun K hK => ?_) AllReadyH.nil
            go_simp
            go_at_call 46
            refine (bf_is f t u z fA tA uA zA _ _ HV1.out).mono ?_
            rintro e w5 ⟨rfl, hb⟩
            have hr := undrew hb
            have T5 := Lib.hid (T.out.below hr)
            have X5 := Lib.hid (X.out.below hr)
            have M5 := Lib.hid (fun j x (hj : D[j]? = some x) => (M.out j x hj).of_block (hr.block b2 BW.out))
            have BW5 := Lib.hid (Nat.lt_of_lt_of_le BW.out hr.size)
            have ax0 := T5.out.four0'
            have ax1 := T5.out.four1'
            have ax2 := T5.out.four2'
            have ax3 := T5.out.four3'
            have ad0 := X5.out.two0
            have ad1 := X5.out.two1
            obtain ⟨al0, al1, al2, al3⟩ := M5.out _ _ HL1.out
            obtain ⟨ah0, ah1, ah2, ah3⟩ := M5.out _ _ HL2.out
            have G5 := Lib.hid (G.out.trans (hr.mono G.out.size))
            clear hb hr
            refine hK.out _ _ ?hSf12 (fun hHeld12 => ?hTf12)
            case hSf12 => exact ⟨ax0, ax1, ax2, ax3, ad0, ad1, al0, al1, al2, al3, ah0, ah1, ah2, ah3⟩
            clear hK K
            (try simp only [Act.put, List.getElem_toArray, List.getElem_cons_succ, List.getElem_cons_zero, List.setIfInBounds_toArray, List.set_cons_zero, List.set_cons_succ])
            refine wpAnyH_take (i := 13) (v := ?vf13) rfl (by kernel_rfl) (by kernel_rfl) (by kernel_rfl) (fun _ _ _ h => h) (Or.inl ⟨by kernel_rfl, ?hyf13⟩) (by assumption) ?hrf13
            case hyf13 => (intro w' hSw; (try dsimp only at hSw); go_simp; (try with_reducible rfl))
            (try simp only [Act.put, List.getElem_toArray, List.getElem_cons_succ, List.getElem_cons_zero, List.setIfInBounds_toArray, List.set_cons_zero, List.set_cons_succ])
            refine wpAnyH_take (i := 14) (v := ?vf14) rfl (by kernel_rfl) (by kernel_rfl) (by kernel_rfl) (fun _ _ _ h => h) (Or.inl ⟨by kernel_rfl, ?hyf14⟩) (by assumption) ?hrf14
            case hyf14 => (intro w' hSw; (try dsimp only at hSw); go_simp; (try with_reducible rfl))
            (try simp only [Act.put, List.getElem_toArray, List.getElem_cons_succ, List.getElem_cons_zero, List.setIfInBounds_toArray, List.set_cons_zero, List.set_cons_succ])
            refine wpAnyH_take (i := 15) (v := ?vf15) rfl (by kernel_rfl) (by kernel_rfl) (by kernel_rfl) (fun _ _ _ h => h) (Or.inl ⟨by kernel_rfl, ?hyf15⟩) (by assumption) ?hrf15
            case hyf15 => (intro w' hSw; (try dsimp only at hSw); go_simp; (try with_reducible rfl))
            (try simp only [Act.put, List.getElem_toArray, List.getElem_cons_succ, List.getElem_cons_zero, List.setIfInBounds_toArray, List.set_cons_zero, List.set_cons_succ])
            refine wpAnyH_take (i := 16) (v := undef) rfl (by kernel_rfl) (by kernel_rfl) (by kernel_rfl) (fun _ _ _ h => h) (Or.inr ⟨by kernel_rfl, rfl⟩) (by assumption) ?_
            (try simp only [Act.put, List.getElem_toArray, List.getElem_cons_succ, List.getElem_cons_zero, List.setIfInBounds_toArray, List.set_cons_zero, List.set_cons_succ])
            refine wpAnyH_take (i := 17) (v := undef) rfl (by kernel_rfl) (by kernel_rfl) (by kernel_rfl) (fun _ _ _ h => h) (Or.inr ⟨by kernel_rfl, rfl⟩) (by assumption) ?_
            (try simp only [Act.put, List.getElem_toArray, List.getElem_cons_succ, List.getElem_cons_zero, List.setIfInBounds_toArray, List.set_cons_zero, List.set_cons_succ])
            refine wpAnyH_take (i := 18) (v := undef) rfl (by kernel_rfl) (by kernel_rfl) (by kernel_rfl) (fun _ _ _ h => h) (Or.inr ⟨by kernel_rfl, rfl⟩) (by assumption) ?_
            (try simp only [Act.put, List.getElem_toArray, List.getElem_cons_succ, List.getElem_cons_zero, List.setIfInBounds_toArray, List.set_cons_zero, List.set_cons_succ])
            refine wpAnyH_take (i := 19) (v := undef) rfl (by kernel_rfl) (by kernel_rfl) (by kernel_rfl) (fun _ _ _ h => h) (Or.inr ⟨by kernel_rfl, rfl⟩) (by assumption) ?_
            (try simp only [Act.put, List.getElem_toArray, List.getElem_cons_succ, List.getElem_cons_zero, List.setIfInBounds_toArray, List.set_cons_zero, List.set_cons_succ])
            refine wpAnyH_take (i := 20) (v := undef) rfl (by kernel_rfl) (by kernel_rfl) (by kernel_rfl) (fun _ _ _ h => h) (Or.inr ⟨by kernel_rfl, rfl⟩) (by assumption) ?_
            (try simp only [Act.put, List.getElem_toArray, List.getElem_cons_succ, List.getElem_cons_zero, List.setIfInBounds_toArray, List.set_cons_zero, List.set_cons_succ])
            refine wpAnyH_take (i := 21) (v := undef) rfl (by kernel_rfl) (by kernel_rfl) (by kernel_rfl) (fun _ _ _ h => h) (Or.inr ⟨by kernel_rfl, rfl⟩) (by assumption) ?_
            (try simp only [Act.put, List.getElem_toArray, List.getElem_cons_succ, List.getElem_cons_zero, List.setIfInBounds_toArray, List.set_cons_zero, List.set_cons_succ])
            refine wpAnyH_take (i := 22) (v := undef) rfl (by kernel_rfl) (by kernel_rfl) (by kernel_rfl) (fun _ _ _ h => h) (Or.inr ⟨by kernel_rfl, rfl⟩) (by assumption) ?_
            (try simp only [Act.put, List.getElem_toArray, List.getElem_cons_succ, List.getElem_cons_zero, List.setIfInBounds_toArray, List.set_cons_zero, List.set_cons_succ])
            refine wpAnyH_take (i := 23) (v := undef) rfl (by kernel_rfl) (by kernel_rfl) (by kernel_rfl) (fun _ _ _ h => h) (Or.inr ⟨by kernel_rfl, rfl⟩) (by assumption) ?_
            (try simp only [Act.put, List.getElem_toArray, List.getElem_cons_succ, List.getElem_cons_zero, List.setIfInBounds_toArray, List.set_cons_zero, List.set_cons_succ])
            refine wpAnyH_take (i := 24) (v := undef) rfl (by kernel_rfl) (by kernel_rfl) (by kernel_rfl) (fun _ _ _ h => h) (Or.inr ⟨by kernel_rfl, rfl⟩) (by assumption) ?_
            (try simp only [Act.put, List.getElem_toArray, List.getElem_cons_succ, List.getElem_cons_zero, List.setIfInBounds_toArray, List.set_cons_zero, List.set_cons_succ])
            refine wpAnyH_take (i := 25) (v := undef) rfl (by kernel_rfl) (by kernel_rfl) (by kernel_rfl) (fun _ _ _ h => h) (Or.inr ⟨by kernel_rfl, rfl⟩) (by assumption) ?_
            (try simp only [Act.put, List.getElem_toArray, List.getElem_cons_succ, List.getElem_cons_zero, List.setIfInBounds_toArray, List.set_cons_zero, List.set_cons_succ])
            refine wpAnyH_take (i := 26) (v := undef) rfl (by kernel_rfl) (by kernel_rfl) (by kernel_rfl) (fun _ _ _ h => h) (Or.inr ⟨by kernel_rfl, rfl⟩) (by assumption) ?_
            (try simp only [Act.put, List.getElem_toArray, List.getElem_cons_succ, List.getElem_cons_zero, List.setIfInBounds_toArray, List.set_cons_zero, List.set_cons_succ])
            refine wpAnyH_take (i := 27) (v := undef) rfl (by kernel_rfl) (by kernel_rfl) (by kernel_rfl) (fun _ _ _ h => h) (Or.inr ⟨by kernel_rfl, rfl⟩) (by assumption) ?_
            (try simp only [Act.put, List.getElem_toArray, List.getElem_cons_succ, List.getElem_cons_zero, List.setIfInBounds_toArray, List.set_cons_zero, List.set_cons_succ])
            refine wpAnyH_take (i := 28) (v := undef) rfl (by kernel_rfl) (by kernel_rfl) (by kernel_rfl) (fun _ _ _ h => h) (Or.inr ⟨by kernel_rfl, rfl⟩) (by assumption) ?_
            (try simp only [Act.put, List.getElem_toArray, List.getElem_cons_succ, List.getElem_cons_zero, List.setIfInBounds_toArray, List.set_cons_zero, List.set_cons_succ])
            refine wpAnyH_take (i := 29) (v := undef) rfl (by kernel_rfl) (by kernel_rfl) (by kernel_rfl) (fun _ _ _ h => h) (Or.inr ⟨by kernel_rfl, rfl⟩) (by assumption) ?_
            (try simp only [Act.put, List.getElem_toArray, List.getElem_cons_succ, List.getElem_cons_zero, List.setIfInBounds_toArray, List.set_cons_zero, List.set_cons_succ])
            refine wpAnyH_take (i := 30) (v := undef) rfl (by kernel_rfl) (by kernel_rfl) (by kernel_rfl) (fun _ _ _ h => h) (Or.inr ⟨by kernel_rfl, rfl⟩) (by assumption) ?_
            (try simp only [Act.put, List.getElem_toArray, List.getElem_cons_succ, List.getElem_cons_zero, List.setIfInBounds_toArray, List.set_cons_zero, List.set_cons_succ])
            refine wpAnyH_take (i := 31) (v := ?vf31) rfl (by kernel_rfl) (by kernel_rfl) (by kernel_rfl) (fun _ _ _ h => h) (Or.inl ⟨by kernel_rfl, ?hyf31⟩) (by assumption) ?hrf31
            case hyf31 => (intro w' hSw; (try dsimp only at hSw); go_simp; (try with_reducible rfl))
            (try simp only [Act.put, List.getElem_toArray, List.getElem_cons_succ, List.getElem_cons_zero, List.setIfInBounds_toArray, List.set_cons_zero, List.set_cons_succ])
            refine wpAnyH_done (by kernel_rfl) ?_ _
            refine NoPanic.normal ?_
            go_wp2
            go_ret
            exact ⟨rfl, HB1.out.trans ((HBO.out.trans (G5.out.mono HBO.out.size)).mono HB1.out.size)⟩
          have HPL := HP1
          have qx0 := T.out.four0'
          have qx1 := T.out.four1'
          have qx2 := T.out.four2'
          have qx3 := T.out.four3'
          have qd0 := X.out.two0
          have qd1 := X.out.two1
          obtain ⟨ql0, ql1, ql2, ql3⟩ := M.out _ _ HL1.out
          obtain ⟨qh0, qh1, qh2, qh3⟩ := M.out _ _ HL2.out
          go_wp2_with (first | (go_at_call 45; (with_reducible refine (cl1In _ _ _ _ _ HFB.out).mono ?_); rintro e wq ⟨rfl, hwq⟩; obtain rfl := hwq.symm) | (go_at_call 45; (with_reducible refine (cl1In _ _ _ _ _ HTB.out).mono ?_); rintro e wq ⟨rfl, hwq⟩; obtain rfl := hwq.symm) | (go_at_call 45; (with_reducible refine (cl1In _ _ _ _ _ HLB.out).mono ?_); rintro e wq ⟨rfl, hwq⟩; obtain rfl := hwq.symm) | (go_at_call 45; (with_reducible refine (cl1In _ _ _ _ _ HHB.out).mono ?_); rintro e wq ⟨rfl, hwq⟩; obtain rfl := hwq.symm))
          refine wp_region_noPanic ?_
          refine wp_region_held_drew (S := (fun w' => w'.cell? ⟨wo.heap.size, 0, none⟩ = some (.int .i64 f) ∧ w'.cell? ⟨wo.heap.size, 1, none⟩ = some (.int .i64 t) ∧ w'.cell? ⟨wo.heap.size, 2, none⟩ = some (.int .i64 u) ∧ w'.cell? ⟨wo.heap.size, 3, none⟩ = some (.int .i64 z) ∧ w'.cell? ⟨w.heap.size, 0, none⟩ = some (.int .i64 y) ∧ w'.cell? ⟨w.heap.size, 1, none⟩ = some (.slice (some ⟨b2, o2, none⟩) n c) ∧ w'.cell? ⟨b2, o2 + i1 * 4, none⟩ = some (.int .i64 fA) ∧ w'.cell? ⟨b2, o2 + i1 * 4 + 1, none⟩ = some (.int .i64 tA) ∧ w'.cell? ⟨b2, o2 + i1 * 4 + 2, none⟩ = some (.int .i64 uA) ∧ w'.cell? ⟨b2, o2 + i1 * 4 + 3, none⟩ = some (.int .i64 zA) ∧ w'.cell? ⟨b2, o2 + i2 * 4, none⟩ = some (.int .i64 fB) ∧ w'.cell? ⟨b2, o2 + i2 * 4 + 1, none⟩ = some (.int .i64 tB) ∧ w'.cell? ⟨b2, o2 + i2 * 4 + 2, none⟩ = some (.int .i64 uB) ∧ w'.cell? ⟨b2, o2 + i2 * 4 + 3, none⟩ = some (.int .i64 zB))) (by kernel_rfl) ?hSg (fun hHeld => ?hRg)
          case hSg => exact ⟨qx0, qx1, qx2, qx3, qd0, qd1, ql0, ql1, ql2, ql3, qh0, qh1, qh2, qh3⟩
          refine wpAnyH_take (i := 0) (v := ?vg0) rfl (by kernel_rfl) (by kernel_rfl) (by kernel_rfl) (fun _ _ _ h => h) (Or.inl ⟨by kernel_rfl, ?hyg0⟩) (by assumption) ?hrg0
          case hyg0 => (intro w' hSw; (try dsimp only at hSw); go_simp; (try with_reducible rfl))
          (try simp only [Act.put, List.getElem_toArray, List.getElem_cons_succ, List.getElem_cons_zero, List.setIfInBounds_toArray, List.set_cons_zero, List.set_cons_succ])
          refine wpAnyH_take (i := 1) (v := ?vg1) rfl (by kernel_rfl) (by kernel_rfl) (by kernel_rfl) (fun _ _ _ h => h) (Or.inl ⟨by kernel_rfl, ?hyg1⟩) (by assumption) ?hrg1
          case hyg1 => (intro w' hSw; (try dsimp only at hSw); go_simp; (try with_reducible rfl))
          (try simp only [Act.put, List.getElem_toArray, List.getElem_cons_succ, List.getElem_cons_zero, List.setIfInBounds_toArray, List.set_cons_zero, List.set_cons_succ])
          refine wpAnyH_take (i := 2) (v := ?vg2) rfl (by kernel_rfl) (by kernel_rfl) (by kernel_rfl) (fun _ _ _ h => h) (Or.inl ⟨by kernel_rfl, ?hyg2⟩) (by assumption) ?hrg2
          case hyg2 => (intro w' hSw; (try dsimp only at hSw); go_simp; (try with_reducible rfl))
          (try simp only [Act.put, List.getElem_toArray, List.getElem_cons_succ, List.getElem_cons_zero, List.setIfInBounds_toArray, List.set_cons_zero, List.set_cons_succ])
          refine wpAnyH_take (i := 3) (v := ?vg3) rfl (by kernel_rfl) (by kernel_rfl) (by kernel_rfl) (fun _ _ _ h => h) (Or.inl ⟨by kernel_rfl, ?hyg3⟩) (by assumption) ?hrg3
          case hyg3 => (intro w' hSw; (try dsimp only at hSw); go_simp; (try with_reducible rfl))
          (try simp only [Act.put, List.getElem_toArray, List.getElem_cons_succ, List.getElem_cons_zero, List.setIfInBounds_toArray, List.set_cons_zero, List.set_cons_succ])
          refine wpAnyH_take (i := 4) (v := ?vg4) rfl (by kernel_rfl) (by kernel_rfl) (by kernel_rfl) (fun _ _ _ h => h) (Or.inl ⟨by kernel_rfl, ?hyg4⟩) (by assumption) ?hrg4
          case hyg4 => (intro w' hSw; (try dsimp only at hSw); go_simp; (try with_reducible rfl))
          (try simp only [Act.put, List.getElem_toArray, List.getElem_cons_succ, List.getElem_cons_zero, List.setIfInBounds_toArray, List.set_cons_zero, List.set_cons_succ])
          refine wpAnyH_take (i := 5) (v := ?vg5) rfl (by kernel_rfl) (by kernel_rfl) (by kernel_rfl) (fun _ _ _ h => h) (Or.inl ⟨by kernel_rfl, ?hyg5⟩) (by assumption) ?hrg5
          case hyg5 => (intro w' hSw; (try dsimp only at hSw); go_simp; (try with_reducible rfl))
          (try simp only [Act.put, List.getElem_toArray, List.getElem_cons_succ, List.getElem_cons_zero, List.setIfInBounds_toArray, List.set_cons_zero, List.set_cons_succ])
          refine wpAnyH_take (i := 6) (v := ?vg6) rfl (by kernel_rfl) (by kernel_rfl) (by kernel_rfl) (fun _ _ _ h => h) (Or.inl ⟨by kernel_rfl, ?hyg6⟩) (by assumption) ?hrg6
          case hyg6 => (intro w' hSw; (try dsimp only at hSw); go_simp; (try with_reducible rfl))
          (try simp only [Act.put, List.getElem_toArray, List.getElem_cons_succ, List.getElem_cons_zero, List.setIfInBounds_toArray, List.set_cons_zero, List.set_cons_succ])
          refine wpAnyH_take (i := 7) (v := ?vg7) rfl (by kernel_rfl) (by kernel_rfl) (by kernel_rfl) (fun _ _ _ h => h) (Or.inl ⟨by kernel_rfl, ?hyg7⟩) (by assumption) ?hrg7
          case hyg7 => (intro w' hSw; (try dsimp only at hSw); go_simp; (try with_reducible rfl))
          (try simp only [Act.put, List.getElem_toArray, List.getElem_cons_succ, List.getElem_cons_zero, List.setIfInBounds_toArray, List.set_cons_zero, List.set_cons_succ])
          refine wpAnyH_take (i := 8) (v := ?vg8) rfl (by kernel_rfl) (by kernel_rfl) (by kernel_rfl) (fun _ _ _ h => h) (Or.inl ⟨by kernel_rfl, ?hyg8⟩) (by assumption) ?hrg8
          case hyg8 => (intro w' hSw; (try dsimp only at hSw); go_simp; (try with_reducible rfl))
          (try simp only [Act.put, List.getElem_toArray, List.getElem_cons_succ, List.getElem_cons_zero, List.setIfInBounds_toArray, List.set_cons_zero, List.set_cons_succ])
          refine wpAnyH_take (i := 9) (v := ?vg9) rfl (by kernel_rfl) (by kernel_rfl) (by kernel_rfl) (fun _ _ _ h => h) (Or.inl ⟨by kernel_rfl, ?hyg9⟩) (by assumption) ?hrg9
          case hyg9 => (intro w' hSw; (try dsimp only at hSw); go_simp; (try with_reducible rfl))
          (try simp only [Act.put, List.getElem_toArray, List.getElem_cons_succ, List.getElem_cons_zero, List.setIfInBounds_toArray, List.set_cons_zero, List.set_cons_succ])
          refine wpAnyH_take (i := 10) (v := ?vg10) rfl (by kernel_rfl) (by kernel_rfl) (by kernel_rfl) (fun _ _ _ h => h) (Or.inl ⟨by kernel_rfl, ?hyg10⟩) (by assumption) ?hrg10
          case hyg10 => (intro w' hSw; (try dsimp only at hSw); go_simp; (try with_reducible rfl))
          (try simp only [Act.put, List.getElem_toArray, List.getElem_cons_succ, List.getElem_cons_zero, List.setIfInBounds_toArray, List.set_cons_zero, List.set_cons_succ])
          refine wpAnyH_take (i := 11) (v := ?vg11) rfl (by kernel_rfl) (by kernel_rfl) (by kernel_rfl) (fun _ _ _ h => h) (Or.inl ⟨by kernel_rfl, ?hyg11⟩) (by assumption) ?hrg11
          case hyg11 => (intro w' hSw; (try dsimp only at hSw); go_simp; (try with_reducible rfl))
          (try simp only [Act.put, List.getElem_toArray, List.getElem_cons_succ, List.getElem_cons_zero, List.setIfInBounds_toArray, List.set_cons_zero, List.set_cons_succ])
          refine wpAnyH_ready (rs := [12]) (by kernel_rfl) (by simp) ?_
          refine AllReadyH.cons rfl (fun K hK => ?_) AllReadyH.nil
          go_simp
          go_at_call 46
          refine (bf_is f t u z fA tA uA zA _ _ HV1.out).mono ?_
          rintro e w5 ⟨rfl, hb⟩
          have hr := undrew hb
          have T5 := Lib.hid (T.out.below hr)
          have X5 := Lib.hid (X.out.below hr)
          have M5 := Lib.hid (fun j x (hj : D[j]? = some x) => (M.out j x hj).of_block (hr.block b2 BW.out))
          have BW5 := Lib.hid (Nat.lt_of_lt_of_le BW.out hr.size)
          have ax0 := T5.out.four0'
          have ax1 := T5.out.four1'
          have ax2 := T5.out.four2'
          have ax3 := T5.out.four3'
          have ad0 := X5.out.two0
          have ad1 := X5.out.two1
          obtain ⟨al0, al1, al2, al3⟩ := M5.out _ _ HL1.out
          obtain ⟨ah0, ah1, ah2, ah3⟩ := M5.out _ _ HL2.out
          have G5 := Lib.hid (G.out.trans (hr.mono G.out.size))
          clear hb hr
          refine hK.out _ _ ?hSg12 (fun hHeld12 => ?hTg12)
          case hSg12 => exact ⟨ax0, ax1, ax2, ax3, ad0, ad1, al0, al1, al2, al3, ah0, ah1, ah2, ah3⟩
          clear hK K
          (try simp only [Act.put, List.getElem_toArray, List.getElem_cons_succ, List.getElem_cons_zero, List.setIfInBounds_toArray, List.set_cons_zero, List.set_cons_succ])
          refine wpAnyH_take (i := 13) (v := ?vg13) rfl (by kernel_rfl) (by kernel_rfl) (by kernel_rfl) (fun _ _ _ h => h) (Or.inl ⟨by kernel_rfl, ?hyg13⟩) (by assumption) ?hrg13
          case hyg13 => (intro w' hSw; (try dsimp only at hSw); go_simp; (try with_reducible rfl))
          (try simp only [Act.put, List.getElem_toArray, List.getElem_cons_succ, List.getElem_cons_zero, List.setIfInBounds_toArray, List.set_cons_zero, List.set_cons_succ])
          refine wpAnyH_take (i := 14) (v := ?vg14) rfl (by kernel_rfl) (by kernel_rfl) (by kernel_rfl) (fun _ _ _ h => h) (Or.inl ⟨by kernel_rfl, ?hyg14⟩) (by assumption) ?hrg14
          case hyg14 => (intro w' hSw; (try dsimp only at hSw); go_simp; (try with_reducible rfl))
          (try simp only [Act.put, List.getElem_toArray, List.getElem_cons_succ, List.getElem_cons_zero, List.setIfInBounds_toArray, List.set_cons_zero, List.set_cons_succ])
          refine wpAnyH_take (i := 15) (v := ?vg15) rfl (by kernel_rfl) (by kernel_rfl) (by kernel_rfl) (fun _ _ _ h => h) (Or.inl ⟨by kernel_rfl, ?hyg15⟩) (by assumption) ?hrg15
          case hyg15 => (intro w' hSw; (try dsimp only at hSw); go_simp; (try with_reducible rfl))
          (try simp only [Act.put, List.getElem_toArray, List.getElem_cons_succ, List.getElem_cons_zero, List.setIfInBounds_toArray, List.set_cons_zero, List.set_cons_succ])
          refine wpAnyH_take (i := 16) (v := ?vg16) rfl (by kernel_rfl) (by kernel_rfl) (by kernel_rfl) (fun _ _ _ h => h) (Or.inl ⟨by kernel_rfl, ?hyg16⟩) (by assumption) ?hrg16
          case hyg16 => (intro w' hSw; (try dsimp only at hSw); go_simp; (try with_reducible rfl))
          (try simp only [Act.put, List.getElem_toArray, List.getElem_cons_succ, List.getElem_cons_zero, List.setIfInBounds_toArray, List.set_cons_zero, List.set_cons_succ])
          refine wpAnyH_take (i := 17) (v := ?vg17) rfl (by kernel_rfl) (by kernel_rfl) (by kernel_rfl) (fun _ _ _ h => h) (Or.inl ⟨by kernel_rfl, ?hyg17⟩) (by assumption) ?hrg17
          case hyg17 => (intro w' hSw; (try dsimp only at hSw); go_simp; (try with_reducible rfl))
          (try simp only [Act.put, List.getElem_toArray, List.getElem_cons_succ, List.getElem_cons_zero, List.setIfInBounds_toArray, List.set_cons_zero, List.set_cons_succ])
          refine wpAnyH_take (i := 18) (v := ?vg18) rfl (by kernel_rfl) (by kernel_rfl) (by kernel_rfl) (fun _ _ _ h => h) (Or.inl ⟨by kernel_rfl, ?hyg18⟩) (by assumption) ?hrg18
          case hyg18 => (intro w' hSw; (try dsimp only at hSw); go_simp; (try with_reducible rfl))
          (try simp only [Act.put, List.getElem_toArray, List.getElem_cons_succ, List.getElem_cons_zero, List.setIfInBounds_toArray, List.set_cons_zero, List.set_cons_succ])
          refine wpAnyH_take (i := 19) (v := ?vg19) rfl (by kernel_rfl) (by kernel_rfl) (by kernel_rfl) (fun _ _ _ h => h) (Or.inl ⟨by kernel_rfl, ?hyg19⟩) (by assumption) ?hrg19
          case hyg19 => (intro w' hSw; (try dsimp only at hSw); go_simp; (try with_reducible rfl))
          (try simp only [Act.put, List.getElem_toArray, List.getElem_cons_succ, List.getElem_cons_zero, List.setIfInBounds_toArray, List.set_cons_zero, List.set_cons_succ])
          refine wpAnyH_take (i := 20) (v := ?vg20) rfl (by kernel_rfl) (by kernel_rfl) (by kernel_rfl) (fun _ _ _ h => h) (Or.inl ⟨by kernel_rfl, ?hyg20⟩) (by assumption) ?hrg20
          case hyg20 => (intro w' hSw; (try dsimp only at hSw); go_simp; (try with_reducible rfl))
          (try simp only [Act.put, List.getElem_toArray, List.getElem_cons_succ, List.getElem_cons_zero, List.setIfInBounds_toArray, List.set_cons_zero, List.set_cons_succ])
          refine wpAnyH_take (i := 21) (v := ?vg21) rfl (by kernel_rfl) (by kernel_rfl) (by kernel_rfl) (fun _ _ _ h => h) (Or.inl ⟨by kernel_rfl, ?hyg21⟩) (by assumption) ?hrg21
          case hyg21 => (intro w' hSw; (try dsimp only at hSw); go_simp; (try with_reducible rfl))
          (try simp only [Act.put, List.getElem_toArray, List.getElem_cons_succ, List.getElem_cons_zero, List.setIfInBounds_toArray, List.set_cons_zero, List.set_cons_succ])
          refine wpAnyH_take (i := 22) (v := ?vg22) rfl (by kernel_rfl) (by kernel_rfl) (by kernel_rfl) (fun _ _ _ h => h) (Or.inl ⟨by kernel_rfl, ?hyg22⟩) (by assumption) ?hrg22
          case hyg22 => (intro w' hSw; (try dsimp only at hSw); go_simp; (try with_reducible rfl))
          (try simp only [Act.put, List.getElem_toArray, List.getElem_cons_succ, List.getElem_cons_zero, List.setIfInBounds_toArray, List.set_cons_zero, List.set_cons_succ])
          refine wpAnyH_take (i := 23) (v := ?vg23) rfl (by kernel_rfl) (by kernel_rfl) (by kernel_rfl) (fun _ _ _ h => h) (Or.inl ⟨by kernel_rfl, ?hyg23⟩) (by assumption) ?hrg23
          case hyg23 => (intro w' hSw; (try dsimp only at hSw); go_simp; (try with_reducible rfl))
          (try simp only [Act.put, List.getElem_toArray, List.getElem_cons_succ, List.getElem_cons_zero, List.setIfInBounds_toArray, List.set_cons_zero, List.set_cons_succ])
          refine wpAnyH_take (i := 24) (v := ?vg24) rfl (by kernel_rfl) (by kernel_rfl) (by kernel_rfl) (fun _ _ _ h => h) (Or.inl ⟨by kernel_rfl, ?hyg24⟩) (by assumption) ?hrg24
          case hyg24 => (intro w' hSw; (try dsimp only at hSw); go_simp; (try with_reducible rfl))
          (try simp only [Act.put, List.getElem_toArray, List.getElem_cons_succ, List.getElem_cons_zero, List.setIfInBounds_toArray, List.set_cons_zero, List.set_cons_succ])
          refine wpAnyH_take (i := 25) (v := ?vg25) rfl (by kernel_rfl) (by kernel_rfl) (by kernel_rfl) (fun _ _ _ h => h) (Or.inl ⟨by kernel_rfl, ?hyg25⟩) (by assumption) ?hrg25
          case hyg25 => (intro w' hSw; (try dsimp only at hSw); go_simp; (try with_reducible rfl))
          (try simp only [Act.put, List.getElem_toArray, List.getElem_cons_succ, List.getElem_cons_zero, List.setIfInBounds_toArray, List.set_cons_zero, List.set_cons_succ])
          refine wpAnyH_take (i := 26) (v := ?vg26) rfl (by kernel_rfl) (by kernel_rfl) (by kernel_rfl) (fun _ _ _ h => h) (Or.inl ⟨by kernel_rfl, ?hyg26⟩) (by assumption) ?hrg26
          case hyg26 => (intro w' hSw; (try dsimp only at hSw); go_simp; (try with_reducible rfl))
          (try simp only [Act.put, List.getElem_toArray, List.getElem_cons_succ, List.getElem_cons_zero, List.setIfInBounds_toArray, List.set_cons_zero, List.set_cons_succ])
          refine wpAnyH_take (i := 27) (v := ?vg27) rfl (by kernel_rfl) (by kernel_rfl) (by kernel_rfl) (fun _ _ _ h => h) (Or.inl ⟨by kernel_rfl, ?hyg27⟩) (by assumption) ?hrg27
          case hyg27 => (intro w' hSw; (try dsimp only at hSw); go_simp; (try with_reducible rfl))
          (try simp only [Act.put, List.getElem_toArray, List.getElem_cons_succ, List.getElem_cons_zero, List.setIfInBounds_toArray, List.set_cons_zero, List.set_cons_succ])
          refine wpAnyH_ready (rs := [28]) (by kernel_rfl) (by simp) ?_
          refine AllReadyH.cons rfl (fun K hK => ?_) AllReadyH.nil
          go_simp
          go_at_call 46
          refine (bf_is f t u z fB tB uB zB _ _ HV2.out).mono ?_
          rintro e w6 ⟨rfl, hb⟩
          have hr := hb
          have T6 := Lib.hid (T5.out.below hr)
          have X6 := Lib.hid (X5.out.below hr)
          have M6 := Lib.hid (fun j x (hj : D[j]? = some x) => (M5.out j x hj).of_block (hr.block b2 BW5.out))
          have BW6 := Lib.hid (Nat.lt_of_lt_of_le BW5.out hr.size)
          have bx0 := T6.out.four0'
          have bx1 := T6.out.four1'
          have bx2 := T6.out.four2'
          have bx3 := T6.out.four3'
          have bd0 := X6.out.two0
          have bd1 := X6.out.two1
          obtain ⟨bl0, bl1, bl2, bl3⟩ := M6.out _ _ HL1.out
          obtain ⟨bh0, bh1, bh2, bh3⟩ := M6.out _ _ HL2.out
          have G6 := Lib.hid (G5.out.trans (hr.mono G5.out.size))
          clear hb hr
          refine hK.out _ _ ?hSg28 (fun hHeld28 => ?hTg28)
          case hSg28 => exact ⟨bx0, bx1, bx2, bx3, bd0, bd1, bl0, bl1, bl2, bl3, bh0, bh1, bh2, bh3⟩
          clear hK K
          (try simp only [Act.put, List.getElem_toArray, List.getElem_cons_succ, List.getElem_cons_zero, List.setIfInBounds_toArray, List.set_cons_zero, List.set_cons_succ])
          refine wpAnyH_take (i := 29) (v := ?vg29) rfl (by kernel_rfl) (by kernel_rfl) (by kernel_rfl) (fun _ _ _ h => h) (Or.inl ⟨by kernel_rfl, ?hyg29⟩) (by assumption) ?hrg29
          case hyg29 => (intro w' hSw; (try dsimp only at hSw); go_simp; (try with_reducible rfl))
          (try simp only [Act.put, List.getElem_toArray, List.getElem_cons_succ, List.getElem_cons_zero, List.setIfInBounds_toArray, List.set_cons_zero, List.set_cons_succ])
          refine wpAnyH_take (i := 30) (v := ?vg30) rfl (by kernel_rfl) (by kernel_rfl) (by kernel_rfl) (fun _ _ _ h => h) (Or.inl ⟨by kernel_rfl, ?hyg30⟩) (by assumption) ?hrg30
          case hyg30 => (intro w' hSw; (try dsimp only at hSw); go_simp; (try with_reducible rfl))
          (try simp only [Act.put, List.getElem_toArray, List.getElem_cons_succ, List.getElem_cons_zero, List.setIfInBounds_toArray, List.set_cons_zero, List.set_cons_succ])
          refine wpAnyH_take (i := 31) (v := ?vg31) rfl (by kernel_rfl) (by kernel_rfl) (by kernel_rfl) (fun _ _ _ h => h) (Or.inl ⟨by kernel_rfl, ?hyg31⟩) (by assumption) ?hrg31
          case hyg31 => (intro w' hSw; (try dsimp only at hSw); go_simp; (try with_reducible rfl))
          (try simp only [Act.put, List.getElem_toArray, List.getElem_cons_succ, List.getElem_cons_zero, List.setIfInBounds_toArray, List.set_cons_zero, List.set_cons_succ])
          refine wpAnyH_done (by kernel_rfl) ?_ _
          refine NoPanic.normal ?_
          cases v2
          · obtain rfl : false = r := by rw [← HR.out, dg_no (nodes_no HX.out (dv_high HP2.out))]
            go_wp2
            go_ret
            exact ⟨rfl, HB1.out.trans ((HBO.out.trans (G6.out.mono HBO.out.size)).mono HB1.out.size)⟩
          have HPH := HP2
          (try simp only [Bool.not_true])
          clear qx0 qx1 qx2 qx3 qd0 qd1 ql0 ql1 ql2 ql3 qh0 qh1 qh2 qh3 ax0 ax1 ax2 ax3 ad0 ad1 al0 al1 al2 al3 ah0 ah1 ah2 ah3 bx0 bx1 bx2 bx3 bd0 bd1 bl0 bl1 bl2 bl3 bh0 bh1 bh2 bh3
          obtain ⟨WX, hWX⟩ : ∃ x, x = w6 := ⟨_, rfl⟩
          have TX := Lib.hid (show BlkV WX wo.heap.size 59 #[.int .i64 f, .int .i64 t, .int .i64 u, .int .i64 z] by rw [hWX]; exact T6.out)
          have XX := Lib.hid (show BlkV WX w.heap.size 32 #[.int .i64 y, .slice (some ⟨b2, o2, none⟩) n c] by rw [hWX]; exact X6.out)
          have MX := Lib.hid (show ∀ j x, D[j]? = some x → NodeAt WX b2 (o2 + j * 4) x by rw [hWX]; exact M6.out)
          have BX := Lib.hid (show b2 < WX.heap.size by rw [hWX]; exact BW6.out)
          have GX := Lib.hid (show Below wo.heap.size wo WX by rw [hWX]; exact G6.out)
          rw [← hWX]
          clear hWX
          go_wp2
          go_loopw [5] (fun i wr => ∃ j : Nat, j ≤ k ∧ i = .int .i64 j ∧ (D.take j).contains ((f, t), (u, z)) = false ∧ Below WX.heap.size WX wr) (fun i _ => k - (intOf i).toNat)
          case atStart => exact ⟨0, Nat.zero_le _, rfl, rfl, Below.refl _ _⟩
          case round =>
            obtain ⟨j, hj, rfl, hin, hb⟩ := hrel
            have HIN := Lib.hid hin
            have HB := Lib.hid hb
            have q0 := (TX.out.below hb).four0'
            have q1 := (TX.out.below hb).four1'
            have q2 := (TX.out.below hb).four2'
            have q3 := (TX.out.below hb).four3'
            have q5 := (XX.out.below hb).two1
            clear hin hb
            by_cases hjt : j < k
            · obtain ⟨⟨⟨f', t'⟩, u', z'⟩, hy⟩ : ∃ x, D[j]? = some x := ⟨_, List.getElem?_eq_getElem (by rw [HN.out]; omega)⟩
              obtain ⟨c0, c1, c2, c3⟩ := (MX.out j _ hy).of_block (HB.out.block b2 BX.out)
              obtain ⟨b, hbd⟩ : ∃ b, decide ((((f', t'), (u', z')) : DN) = ((f, t), (u, z))) = b := ⟨_, rfl⟩
              have HBD := Lib.hid hbd
              have he := fun W => eql_dn f' t' u' z' f t u z b hbd W
              have hgd := fun x y xs ys W => geql_dn x y xs ys W
              have HY := Lib.hid hy
              have hjn : (j : Int) < (n : Int) := by omega
              have hjk : (j : Int) < (k : Int) := by omega
              clear hy hbd
              cases b
              · go_wp2_with (fail)
                go_quiet (fail)
                go_wp2
                go_roundw
                case rel =>
                  refine ⟨j + 1, by omega, by go_num, ?_, HB.out.trans (dquiet_f _ _ _)⟩
                  rw [List.take_add_one, HY.out]
                  have h1 := HIN.out
                  have h2 := of_decide_eq_false HBD.out
                  simp only [List.contains_eq_mem, List.mem_append, decide_eq_false_iff_not] at h1 ⊢
                  rintro (h | h)
                  · exact h1 h
                  · simp at h; exact h2 (by simp [h])
                case measure => simp [intOf]; omega
              · obtain rfl : false = r := by
                  rw [← HR.out, dg_no (nodes_no HX.out (dv_mem ?_))]
                  have h2 := of_decide_eq_true HBD.out
                  rw [← h2]
                  refine List.contains_iff_mem.2 (List.mem_of_getElem? (i := j) ?_)
                  rw [List.getElem?_take_of_lt hjt]
                  exact HY.out
                go_wp2_with (fail)
                go_quiet (fail)
                go_wp2
                go_ret
                exact ⟨rfl, HB1.out.trans ((HBO.out.trans ((GX.out.trans ((HB.out.trans (dquiet_f _ _ _)).mono GX.out.size)).mono HBO.out.size)).mono HB1.out.size)⟩
            · obtain rfl : j = k := by omega
              have HDV := Lib.hid (show dvB ((f, t), (u, z)) (D.take j) = true from dv_yes (by rw [HTL.out]; exact num_yes (of_decide_eq_true HFB.out) (of_decide_eq_true HTB.out) huz (of_decide_eq_true HLB.out) (of_decide_eq_true HHB.out)) HPL.out HPH.out HIN.out)
              clear q0 q1 q2 q3 q5
              go_wp2
              go_roundw
              case rel =>
                refine ⟨j + 1, by omega, by go_num, fun i x hi hx => ?_, HBO.out.trans ((GX.out.trans (HB.out.mono GX.out.size)).mono HBO.out.size)⟩
                by_cases e : i = j
                · subst e
                  rw [HX.out] at hx
                  injection hx with hx
                  subst hx
                  exact HDV.out
                · exact HALL.out i x (by omega) hx
              case measure => simp [intOf]; omega
        · skip
          obtain ⟨i1, hui⟩ : ∃ i : Nat, u = (i : Int) + 2 := ⟨(u - 2).toNat, by omega⟩
          have hu2 : u - 2 = (i1 : Int) := by omega
          have hub := of_decide_eq_true HLB.out
          have hi1k : i1 < k := by omega
          have hi1n : (i1 : Int) < (n : Int) := by omega
          have hi1w : IntKind.i64.wrap (i1 : Int) = (i1 : Int) := IntWalk.i64_in _ (by omega)
          obtain ⟨⟨⟨fA, tA⟩, uA, zA⟩, hl1⟩ : ∃ x, D[i1]? = some x := ⟨_, List.getElem?_eq_getElem (by rw [HN.out]; omega)⟩
          have HL1 := Lib.hid hl1
          obtain ⟨v1, hv1⟩ : ∃ v, varLt (f, t) (fA, tA) = v := ⟨_, rfl⟩
          have HV1 := Lib.hid hv1
          have HP1 := Lib.hid (show preB (f, t) (D.take k) u = v1 by rw [pre_at hui (show (D.take k)[i1]? = _ by rw [List.getElem?_take_of_lt hi1k]; exact hl1), hv1])
          clear hl1 hv1 hub hui hi1k
          have hzf : (1 < z) = False := eq_false hz
          have hzd : decide (1 < z) = false := decide_eq_false hz
          have HPH := Lib.hid (show preB (f, t) (D.take k) z = true from pre_small (by omega))
          cases v1
          · obtain rfl : false = r := by rw [← HR.out, dg_no (nodes_no HX.out (dv_low HP1.out))]
            have qx0 := T.out.four0'
            have qx1 := T.out.four1'
            have qx2 := T.out.four2'
            have qx3 := T.out.four3'
            have qd0 := X.out.two0
            have qd1 := X.out.two1
            obtain ⟨ql0, ql1, ql2, ql3⟩ := M.out _ _ HL1.out
            go_wp2_with (first | (go_at_call 45; (with_reducible refine (cl1In _ _ _ _ _ HFB.out).mono ?_); rintro e wq ⟨rfl, hwq⟩; obtain rfl := hwq.symm) | (go_at_call 45; (with_reducible refine (cl1In _ _ _ _ _ HTB.out).mono ?_); rintro e wq ⟨rfl, hwq⟩; obtain rfl := hwq.symm) | (go_at_call 45; (with_reducible refine (cl1In _ _ _ _ _ HLB.out).mono ?_); rintro e wq ⟨rfl, hwq⟩; obtain rfl := hwq.symm) | (go_at_call 45; (with_reducible refine (cl1In _ _ _ _ _ HHB.out).mono ?_); rintro e wq ⟨rfl, hwq⟩; obtain rfl := hwq.symm))
            refine wp_region_noPanic ?_
            refine wp_region_held_drew (S := (fun w' => w'.cell? ⟨wo.heap.size, 0, none⟩ = some (.int .i64 f) ∧ w'.cell? ⟨wo.heap.size, 1, none⟩ = some (.int .i64 t) ∧ w'.cell? ⟨wo.heap.size, 2, none⟩ = some (.int .i64 u) ∧ w'.cell? ⟨wo.heap.size, 3, none⟩ = some (.int .i64 z) ∧ w'.cell? ⟨w.heap.size, 0, none⟩ = some (.int .i64 y) ∧ w'.cell? ⟨w.heap.size, 1, none⟩ = some (.slice (some ⟨b2, o2, none⟩) n c) ∧ w'.cell? ⟨b2, o2 + i1 * 4, none⟩ = some (.int .i64 fA) ∧ w'.cell? ⟨b2, o2 + i1 * 4 + 1, none⟩ = some (.int .i64 tA) ∧ w'.cell? ⟨b2, o2 + i1 * 4 + 2, none⟩ = some (.int .i64 uA) ∧ w'.cell? ⟨b2, o2 + i1 * 4 + 3, none⟩ = some (.int .i64 zA))) (by kernel_rfl) ?hSd (fun hHeld => ?hRd)
            case hSd => exact ⟨qx0, qx1, qx2, qx3, qd0, qd1, ql0, ql1, ql2, ql3⟩
            refine wpAnyH_take (i := 0) (v := ?vd0) rfl (by kernel_rfl) (by kernel_rfl) (by kernel_rfl) (fun _ _ _ h => h) (Or.inl ⟨by kernel_rfl, ?hyd0⟩) (by assumption) ?hrd0
            case hyd0 => (intro w' hSw; (try dsimp only at hSw); go_simp; (try with_reducible rfl))
            (try simp only [Act.put, List.getElem_toArray, List.getElem_cons_succ, List.getElem_cons_zero, List.setIfInBounds_toArray, List.set_cons_zero, List.set_cons_succ])
            refine wpAnyH_take (i := 1) (v := ?vd1) rfl (by kernel_rfl) (by kernel_rfl) (by kernel_rfl) (fun _ _ _ h => h) (Or.inl ⟨by kernel_rfl, ?hyd1⟩) (by assumption) ?hrd1
            case hyd1 => (intro w' hSw; (try dsimp only at hSw); go_simp; (try with_reducible rfl))
            (try simp only [Act.put, List.getElem_toArray, List.getElem_cons_succ, List.getElem_cons_zero, List.setIfInBounds_toArray, List.set_cons_zero, List.set_cons_succ])
            refine wpAnyH_take (i := 2) (v := ?vd2) rfl (by kernel_rfl) (by kernel_rfl) (by kernel_rfl) (fun _ _ _ h => h) (Or.inl ⟨by kernel_rfl, ?hyd2⟩) (by assumption) ?hrd2
            case hyd2 => (intro w' hSw; (try dsimp only at hSw); go_simp; (try with_reducible rfl))
            (try simp only [Act.put, List.getElem_toArray, List.getElem_cons_succ, List.getElem_cons_zero, List.setIfInBounds_toArray, List.set_cons_zero, List.set_cons_succ])
            refine wpAnyH_take (i := 3) (v := ?vd3) rfl (by kernel_rfl) (by kernel_rfl) (by kernel_rfl) (fun _ _ _ h => h) (Or.inl ⟨by kernel_rfl, ?hyd3⟩) (by assumption) ?hrd3
            case hyd3 => (intro w' hSw; (try dsimp only at hSw); go_simp; (try with_reducible rfl))
            (try simp only [Act.put, List.getElem_toArray, List.getElem_cons_succ, List.getElem_cons_zero, List.setIfInBounds_toArray, List.set_cons_zero, List.set_cons_succ])
            refine wpAnyH_take (i := 4) (v := ?vd4) rfl (by kernel_rfl) (by kernel_rfl) (by kernel_rfl) (fun _ _ _ h => h) (Or.inl ⟨by kernel_rfl, ?hyd4⟩) (by assumption) ?hrd4
            case hyd4 => (intro w' hSw; (try dsimp only at hSw); go_simp; (try with_reducible rfl))
            (try simp only [Act.put, List.getElem_toArray, List.getElem_cons_succ, List.getElem_cons_zero, List.setIfInBounds_toArray, List.set_cons_zero, List.set_cons_succ])
            refine wpAnyH_take (i := 5) (v := ?vd5) rfl (by kernel_rfl) (by kernel_rfl) (by kernel_rfl) (fun _ _ _ h => h) (Or.inl ⟨by kernel_rfl, ?hyd5⟩) (by assumption) ?hrd5
            case hyd5 => (intro w' hSw; (try dsimp only at hSw); go_simp; (try with_reducible rfl))
            (try simp only [Act.put, List.getElem_toArray, List.getElem_cons_succ, List.getElem_cons_zero, List.setIfInBounds_toArray, List.set_cons_zero, List.set_cons_succ])
            refine wpAnyH_take (i := 6) (v := ?vd6) rfl (by kernel_rfl) (by kernel_rfl) (by kernel_rfl) (fun _ _ _ h => h) (Or.inl ⟨by kernel_rfl, ?hyd6⟩) (by assumption) ?hrd6
            case hyd6 => (intro w' hSw; (try dsimp only at hSw); go_simp; (try with_reducible rfl))
            (try simp only [Act.put, List.getElem_toArray, List.getElem_cons_succ, List.getElem_cons_zero, List.setIfInBounds_toArray, List.set_cons_zero, List.set_cons_succ])
            refine wpAnyH_take (i := 7) (v := ?vd7) rfl (by kernel_rfl) (by kernel_rfl) (by kernel_rfl) (fun _ _ _ h => h) (Or.inl ⟨by kernel_rfl, ?hyd7⟩) (by assumption) ?hrd7
            case hyd7 => (intro w' hSw; (try dsimp only at hSw); go_simp; (try with_reducible rfl))
            (try simp only [Act.put, List.getElem_toArray, List.getElem_cons_succ, List.getElem_cons_zero, List.setIfInBounds_toArray, List.set_cons_zero, List.set_cons_succ])
            refine wpAnyH_take (i := 8) (v := ?vd8) rfl (by kernel_rfl) (by kernel_rfl) (by kernel_rfl) (fun _ _ _ h => h) (Or.inl ⟨by kernel_rfl, ?hyd8⟩) (by assumption) ?hrd8
            case hyd8 => (intro w' hSw; (try dsimp only at hSw); go_simp; (try with_reducible rfl))
            (try simp only [Act.put, List.getElem_toArray, List.getElem_cons_succ, List.getElem_cons_zero, List.setIfInBounds_toArray, List.set_cons_zero, List.set_cons_succ])
            refine wpAnyH_take (i := 9) (v := ?vd9) rfl (by kernel_rfl) (by kernel_rfl) (by kernel_rfl) (fun _ _ _ h => h) (Or.inl ⟨by kernel_rfl, ?hyd9⟩) (by assumption) ?hrd9
            case hyd9 => (intro w' hSw; (try dsimp only at hSw); go_simp; (try with_reducible rfl))
            (try simp only [Act.put, List.getElem_toArray, List.getElem_cons_succ, List.getElem_cons_zero, List.setIfInBounds_toArray, List.set_cons_zero, List.set_cons_succ])
            refine wpAnyH_take (i := 10) (v := ?vd10) rfl (by kernel_rfl) (by kernel_rfl) (by kernel_rfl) (fun _ _ _ h => h) (Or.inl ⟨by kernel_rfl, ?hyd10⟩) (by assumption) ?hrd10
            case hyd10 => (intro w' hSw; (try dsimp only at hSw); go_simp; (try with_reducible rfl))
            (try simp only [Act.put, List.getElem_toArray, List.getElem_cons_succ, List.getElem_cons_zero, List.setIfInBounds_toArray, List.set_cons_zero, List.set_cons_succ])
            refine wpAnyH_take (i := 11) (v := ?vd11) rfl (by kernel_rfl) (by kernel_rfl) (by kernel_rfl) (fun _ _ _ h => h) (Or.inl ⟨by kernel_rfl, ?hyd11⟩) (by assumption) ?hrd11
            case hyd11 => (intro w' hSw; (try dsimp only at hSw); go_simp; (try with_reducible rfl))
            (try simp only [Act.put, List.getElem_toArray, List.getElem_cons_succ, List.getElem_cons_zero, List.setIfInBounds_toArray, List.set_cons_zero, List.set_cons_succ])
            refine wpAnyH_ready (rs := [12]) (by kernel_rfl) (by simp) ?_
            refine AllReadyH.cons rfl (fun K hK => ?_) AllReadyH.nil
            go_simp
            go_at_call 46
            refine (bf_is f t u z fA tA uA zA _ _ HV1.out).mono ?_
            rintro e w5 ⟨rfl, hb⟩
            have hr := undrew hb
            have T5 := Lib.hid (T.out.below hr)
            have X5 := Lib.hid (X.out.below hr)
            have M5 := Lib.hid (fun j x (hj : D[j]? = some x) => (M.out j x hj).of_block (hr.block b2 BW.out))
            have BW5 := Lib.hid (Nat.lt_of_lt_of_le BW.out hr.size)
            have ax0 := T5.out.four0'
            have ax1 := T5.out.four1'
            have ax2 := T5.out.four2'
            have ax3 := T5.out.four3'
            have ad0 := X5.out.two0
            have ad1 := X5.out.two1
            obtain ⟨al0, al1, al2, al3⟩ := M5.out _ _ HL1.out
            have G5 := Lib.hid (G.out.trans (hr.mono G.out.size))
            clear hb hr
            refine hK.out _ _ ?hSd12 (fun hHeld12 => ?hTd12)
            case hSd12 => exact ⟨ax0, ax1, ax2, ax3, ad0, ad1, al0, al1, al2, al3⟩
            clear hK K
            (try simp only [Act.put, List.getElem_toArray, List.getElem_cons_succ, List.getElem_cons_zero, List.setIfInBounds_toArray, List.set_cons_zero, List.set_cons_succ])
            refine wpAnyH_take (i := 13) (v := ?vd13) rfl (by kernel_rfl) (by kernel_rfl) (by kernel_rfl) (fun _ _ _ h => h) (Or.inl ⟨by kernel_rfl, ?hyd13⟩) (by assumption) ?hrd13
            case hyd13 => (intro w' hSw; (try dsimp only at hSw); go_simp; (try with_reducible rfl))
            (try simp only [Act.put, List.getElem_toArray, List.getElem_cons_succ, List.getElem_cons_zero, List.setIfInBounds_toArray, List.set_cons_zero, List.set_cons_succ])
            refine wpAnyH_take (i := 14) (v := ?vd14) rfl (by kernel_rfl) (by kernel_rfl) (by kernel_rfl) (fun _ _ _ h => h) (Or.inl ⟨by kernel_rfl, ?hyd14⟩) (by assumption) ?hrd14
            case hyd14 => (intro w' hSw; (try dsimp only at hSw); go_simp; (try with_reducible rfl))
            (try simp only [Act.put, List.getElem_toArray, List.getElem_cons_succ, List.getElem_cons_zero, List.setIfInBounds_toArray, List.set_cons_zero, List.set_cons_succ])
            refine wpAnyH_take (i := 15) (v := ?vd15) rfl (by kernel_rfl) (by kernel_rfl) (by kernel_rfl) (fun _ _ _ h => h) (Or.inl ⟨by kernel_rfl, ?hyd15⟩) (by assumption) ?hrd15
            case hyd15 => (intro w' hSw; (try dsimp only at hSw); go_simp; (try with_reducible rfl))
            (try simp only [Act.put, List.getElem_toArray, List.getElem_cons_succ, List.getElem_cons_zero, List.setIfInBounds_toArray, List.set_cons_zero, List.set_cons_succ])
            refine wpAnyH_take (i := 16) (v := undef) rfl (by kernel_rfl) (by kernel_rfl) (by kernel_rfl) (fun _ _ _ h => h) (Or.inr ⟨by kernel_rfl, rfl⟩) (by assumption) ?_
            (try simp only [Act.put, List.getElem_toArray, List.getElem_cons_succ, List.getElem_cons_zero, List.setIfInBounds_toArray, List.set_cons_zero, List.set_cons_succ])
            refine wpAnyH_take (i := 17) (v := undef) rfl (by kernel_rfl) (by kernel_rfl) (by kernel_rfl) (fun _ _ _ h => h) (Or.inr ⟨by kernel_rfl, rfl⟩) (by assumption) ?_
            (try simp only [Act.put, List.getElem_toArray, List.getElem_cons_succ, List.getElem_cons_zero, List.setIfInBounds_toArray, List.set_cons_zero, List.set_cons_succ])
            refine wpAnyH_take (i := 18) (v := undef) rfl (by kernel_rfl) (by kernel_rfl) (by kernel_rfl) (fun _ _ _ h => h) (Or.inr ⟨by kernel_rfl, rfl⟩) (by assumption) ?_
            (try simp only [Act.put, List.getElem_toArray, List.getElem_cons_succ, List.getElem_cons_zero, List.setIfInBounds_toArray, List.set_cons_zero, List.set_cons_succ])
            refine wpAnyH_take (i := 19) (v := undef) rfl (by kernel_rfl) (by kernel_rfl) (by kernel_rfl) (fun _ _ _ h => h) (Or.inr ⟨by kernel_rfl, rfl⟩) (by assumption) ?_
            (try simp only [Act.put, List.getElem_toArray, List.getElem_cons_succ, List.getElem_cons_zero, List.setIfInBounds_toArray, List.set_cons_zero, List.set_cons_succ])
            refine wpAnyH_take (i := 20) (v := undef) rfl (by kernel_rfl) (by kernel_rfl) (by kernel_rfl) (fun _ _ _ h => h) (Or.inr ⟨by kernel_rfl, rfl⟩) (by assumption) ?_
            (try simp only [Act.put, List.getElem_toArray, List.getElem_cons_succ, List.getElem_cons_zero, List.setIfInBounds_toArray, List.set_cons_zero, List.set_cons_succ])
            refine wpAnyH_take (i := 21) (v := undef) rfl (by kernel_rfl) (by kernel_rfl) (by kernel_rfl) (fun _ _ _ h => h) (Or.inr ⟨by kernel_rfl, rfl⟩) (by assumption) ?_
            (try simp only [Act.put, List.getElem_toArray, List.getElem_cons_succ, List.getElem_cons_zero, List.setIfInBounds_toArray, List.set_cons_zero, List.set_cons_succ])
            refine wpAnyH_take (i := 22) (v := undef) rfl (by kernel_rfl) (by kernel_rfl) (by kernel_rfl) (fun _ _ _ h => h) (Or.inr ⟨by kernel_rfl, rfl⟩) (by assumption) ?_
            (try simp only [Act.put, List.getElem_toArray, List.getElem_cons_succ, List.getElem_cons_zero, List.setIfInBounds_toArray, List.set_cons_zero, List.set_cons_succ])
            refine wpAnyH_take (i := 23) (v := undef) rfl (by kernel_rfl) (by kernel_rfl) (by kernel_rfl) (fun _ _ _ h => h) (Or.inr ⟨by kernel_rfl, rfl⟩) (by assumption) ?_
            (try simp only [Act.put, List.getElem_toArray, List.getElem_cons_succ, List.getElem_cons_zero, List.setIfInBounds_toArray, List.set_cons_zero, List.set_cons_succ])
            refine wpAnyH_take (i := 24) (v := undef) rfl (by kernel_rfl) (by kernel_rfl) (by kernel_rfl) (fun _ _ _ h => h) (Or.inr ⟨by kernel_rfl, rfl⟩) (by assumption) ?_
            (try simp only [Act.put, List.getElem_toArray, List.getElem_cons_succ, List.getElem_cons_zero, List.setIfInBounds_toArray, List.set_cons_zero, List.set_cons_succ])
            refine wpAnyH_take (i := 25) (v := undef) rfl (by kernel_rfl) (by kernel_rfl) (by kernel_rfl) (fun _ _ _ h => h) (Or.inr ⟨by kernel_rfl, rfl⟩) (by assumption) ?_
            (try simp only [Act.put, List.getElem_toArray, List.getElem_cons_succ, List.getElem_cons_zero, List.setIfInBounds_toArray, List.set_cons_zero, List.set_cons_succ])
            refine wpAnyH_take (i := 26) (v := undef) rfl (by kernel_rfl) (by kernel_rfl) (by kernel_rfl) (fun _ _ _ h => h) (Or.inr ⟨by kernel_rfl, rfl⟩) (by assumption) ?_
            (try simp only [Act.put, List.getElem_toArray, List.getElem_cons_succ, List.getElem_cons_zero, List.setIfInBounds_toArray, List.set_cons_zero, List.set_cons_succ])
            refine wpAnyH_take (i := 27) (v := undef) rfl (by kernel_rfl) (by kernel_rfl) (by kernel_rfl) (fun _ _ _ h => h) (Or.inr ⟨by kernel_rfl, rfl⟩) (by assumption) ?_
            (try simp only [Act.put, List.getElem_toArray, List.getElem_cons_succ, List.getElem_cons_zero, List.setIfInBounds_toArray, List.set_cons_zero, List.set_cons_succ])
            refine wpAnyH_take (i := 28) (v := undef) rfl (by kernel_rfl) (by kernel_rfl) (by kernel_rfl) (fun _ _ _ h => h) (Or.inr ⟨by kernel_rfl, rfl⟩) (by assumption) ?_
            (try simp only [Act.put, List.getElem_toArray, List.getElem_cons_succ, List.getElem_cons_zero, List.setIfInBounds_toArray, List.set_cons_zero, List.set_cons_succ])
            refine wpAnyH_take (i := 29) (v := undef) rfl (by kernel_rfl) (by kernel_rfl) (by kernel_rfl) (fun _ _ _ h => h) (Or.inr ⟨by kernel_rfl, rfl⟩) (by assumption) ?_
            (try simp only [Act.put, List.getElem_toArray, List.getElem_cons_succ, List.getElem_cons_zero, List.setIfInBounds_toArray, List.set_cons_zero, List.set_cons_succ])
            refine wpAnyH_take (i := 30) (v := undef) rfl (by kernel_rfl) (by kernel_rfl) (by kernel_rfl) (fun _ _ _ h => h) (Or.inr ⟨by kernel_rfl, rfl⟩) (by assumption) ?_
            (try simp only [Act.put, List.getElem_toArray, List.getElem_cons_succ, List.getElem_cons_zero, List.setIfInBounds_toArray, List.set_cons_zero, List.set_cons_succ])
            refine wpAnyH_take (i := 31) (v := ?vd31) rfl (by kernel_rfl) (by kernel_rfl) (by kernel_rfl) (fun _ _ _ h => h) (Or.inl ⟨by kernel_rfl, ?hyd31⟩) (by assumption) ?hrd31
            case hyd31 => (intro w' hSw; (try dsimp only at hSw); go_simp; (try with_reducible rfl))
            (try simp only [Act.put, List.getElem_toArray, List.getElem_cons_succ, List.getElem_cons_zero, List.setIfInBounds_toArray, List.set_cons_zero, List.set_cons_succ])
            refine wpAnyH_done (by kernel_rfl) ?_ _
            refine NoPanic.normal ?_
            go_wp2
            go_ret
            exact ⟨rfl, HB1.out.trans ((HBO.out.trans (G5.out.mono HBO.out.size)).mono HB1.out.size)⟩
          have HPL := HP1
          have qx0 := T.out.four0'
          have qx1 := T.out.four1'
          have qx2 := T.out.four2'
          have qx3 := T.out.four3'
          have qd0 := X.out.two0
          have qd1 := X.out.two1
          obtain ⟨ql0, ql1, ql2, ql3⟩ := M.out _ _ HL1.out
          go_wp2_with (first | (go_at_call 45; (with_reducible refine (cl1In _ _ _ _ _ HFB.out).mono ?_); rintro e wq ⟨rfl, hwq⟩; obtain rfl := hwq.symm) | (go_at_call 45; (with_reducible refine (cl1In _ _ _ _ _ HTB.out).mono ?_); rintro e wq ⟨rfl, hwq⟩; obtain rfl := hwq.symm) | (go_at_call 45; (with_reducible refine (cl1In _ _ _ _ _ HLB.out).mono ?_); rintro e wq ⟨rfl, hwq⟩; obtain rfl := hwq.symm) | (go_at_call 45; (with_reducible refine (cl1In _ _ _ _ _ HHB.out).mono ?_); rintro e wq ⟨rfl, hwq⟩; obtain rfl := hwq.symm))
          refine wp_region_noPanic ?_
          refine wp_region_held_drew (S := (fun w' => w'.cell? ⟨wo.heap.size, 0, none⟩ = some (.int .i64 f) ∧ w'.cell? ⟨wo.heap.size, 1, none⟩ = some (.int .i64 t) ∧ w'.cell? ⟨wo.heap.size, 2, none⟩ = some (.int .i64 u) ∧ w'.cell? ⟨wo.heap.size, 3, none⟩ = some (.int .i64 z) ∧ w'.cell? ⟨w.heap.size, 0, none⟩ = some (.int .i64 y) ∧ w'.cell? ⟨w.heap.size, 1, none⟩ = some (.slice (some ⟨b2, o2, none⟩) n c) ∧ w'.cell? ⟨b2, o2 + i1 * 4, none⟩ = some (.int .i64 fA) ∧ w'.cell? ⟨b2, o2 + i1 * 4 + 1, none⟩ = some (.int .i64 tA) ∧ w'.cell? ⟨b2, o2 + i1 * 4 + 2, none⟩ = some (.int .i64 uA) ∧ w'.cell? ⟨b2, o2 + i1 * 4 + 3, none⟩ = some (.int .i64 zA))) (by kernel_rfl) ?hSe (fun hHeld => ?hRe)
          case hSe => exact ⟨qx0, qx1, qx2, qx3, qd0, qd1, ql0, ql1, ql2, ql3⟩
          refine wpAnyH_take (i := 0) (v := ?ve0) rfl (by kernel_rfl) (by kernel_rfl) (by kernel_rfl) (fun _ _ _ h => h) (Or.inl ⟨by kernel_rfl, ?hye0⟩) (by assumption) ?hre0
          case hye0 => (intro w' hSw; (try dsimp only at hSw); go_simp; (try with_reducible rfl))
          (try simp only [Act.put, List.getElem_toArray, List.getElem_cons_succ, List.getElem_cons_zero, List.setIfInBounds_toArray, List.set_cons_zero, List.set_cons_succ])
          refine wpAnyH_take (i := 1) (v := ?ve1) rfl (by kernel_rfl) (by kernel_rfl) (by kernel_rfl) (fun _ _ _ h => h) (Or.inl ⟨by kernel_rfl, ?hye1⟩) (by assumption) ?hre1
          case hye1 => (intro w' hSw; (try dsimp only at hSw); go_simp; (try with_reducible rfl))
          (try simp only [Act.put, List.getElem_toArray, List.getElem_cons_succ, List.getElem_cons_zero, List.setIfInBounds_toArray, List.set_cons_zero, List.set_cons_succ])
          refine wpAnyH_take (i := 2) (v := ?ve2) rfl (by kernel_rfl) (by kernel_rfl) (by kernel_rfl) (fun _ _ _ h => h) (Or.inl ⟨by kernel_rfl, ?hye2⟩) (by assumption) ?hre2
          case hye2 => (intro w' hSw; (try dsimp only at hSw); go_simp; (try with_reducible rfl))
          (try simp only [Act.put, List.getElem_toArray, List.getElem_cons_succ, List.getElem_cons_zero, List.setIfInBounds_toArray, List.set_cons_zero, List.set_cons_succ])
          refine wpAnyH_take (i := 3) (v := ?ve3) rfl (by kernel_rfl) (by kernel_rfl) (by kernel_rfl) (fun _ _ _ h => h) (Or.inl ⟨by kernel_rfl, ?hye3⟩) (by assumption) ?hre3
          case hye3 => (intro w' hSw; (try dsimp only at hSw); go_simp; (try with_reducible rfl))
          (try simp only [Act.put, List.getElem_toArray, List.getElem_cons_succ, List.getElem_cons_zero, List.setIfInBounds_toArray, List.set_cons_zero, List.set_cons_succ])
          refine wpAnyH_take (i := 4) (v := ?ve4) rfl (by kernel_rfl) (by kernel_rfl) (by kernel_rfl) (fun _ _ _ h => h) (Or.inl ⟨by kernel_rfl, ?hye4⟩) (by assumption) ?hre4
          case hye4 => (intro w' hSw; (try dsimp only at hSw); go_simp; (try with_reducible rfl))
          (try simp only [Act.put, List.getElem_toArray, List.getElem_cons_succ, List.getElem_cons_zero, List.setIfInBounds_toArray, List.set_cons_zero, List.set_cons_succ])
          refine wpAnyH_take (i := 5) (v := ?ve5) rfl (by kernel_rfl) (by kernel_rfl) (by kernel_rfl) (fun _ _ _ h => h) (Or.inl ⟨by kernel_rfl, ?hye5⟩) (by assumption) ?hre5
          case hye5 => (intro w' hSw; (try dsimp only at hSw); go_simp; (try with_reducible rfl))
          (try simp only [Act.put, List.getElem_toArray, List.getElem_cons_succ, List.getElem_cons_zero, List.setIfInBounds_toArray, List.set_cons_zero, List.set_cons_succ])
          refine wpAnyH_take (i := 6) (v := ?ve6) rfl (by kernel_rfl) (by kernel_rfl) (by kernel_rfl) (fun _ _ _ h => h) (Or.inl ⟨by kernel_rfl, ?hye6⟩) (by assumption) ?hre6
          case hye6 => (intro w' hSw; (try dsimp only at hSw); go_simp; (try with_reducible rfl))
          (try simp only [Act.put, List.getElem_toArray, List.getElem_cons_succ, List.getElem_cons_zero, List.setIfInBounds_toArray, List.set_cons_zero, List.set_cons_succ])
          refine wpAnyH_take (i := 7) (v := ?ve7) rfl (by kernel_rfl) (by kernel_rfl) (by kernel_rfl) (fun _ _ _ h => h) (Or.inl ⟨by kernel_rfl, ?hye7⟩) (by assumption) ?hre7
          case hye7 => (intro w' hSw; (try dsimp only at hSw); go_simp; (try with_reducible rfl))
          (try simp only [Act.put, List.getElem_toArray, List.getElem_cons_succ, List.getElem_cons_zero, List.setIfInBounds_toArray, List.set_cons_zero, List.set_cons_succ])
          refine wpAnyH_take (i := 8) (v := ?ve8) rfl (by kernel_rfl) (by kernel_rfl) (by kernel_rfl) (fun _ _ _ h => h) (Or.inl ⟨by kernel_rfl, ?hye8⟩) (by assumption) ?hre8
          case hye8 => (intro w' hSw; (try dsimp only at hSw); go_simp; (try with_reducible rfl))
          (try simp only [Act.put, List.getElem_toArray, List.getElem_cons_succ, List.getElem_cons_zero, List.setIfInBounds_toArray, List.set_cons_zero, List.set_cons_succ])
          refine wpAnyH_take (i := 9) (v := ?ve9) rfl (by kernel_rfl) (by kernel_rfl) (by kernel_rfl) (fun _ _ _ h => h) (Or.inl ⟨by kernel_rfl, ?hye9⟩) (by assumption) ?hre9
          case hye9 => (intro w' hSw; (try dsimp only at hSw); go_simp; (try with_reducible rfl))
          (try simp only [Act.put, List.getElem_toArray, List.getElem_cons_succ, List.getElem_cons_zero, List.setIfInBounds_toArray, List.set_cons_zero, List.set_cons_succ])
          refine wpAnyH_take (i := 10) (v := ?ve10) rfl (by kernel_rfl) (by kernel_rfl) (by kernel_rfl) (fun _ _ _ h => h) (Or.inl ⟨by kernel_rfl, ?hye10⟩) (by assumption) ?hre10
          case hye10 => (intro w' hSw; (try dsimp only at hSw); go_simp; (try with_reducible rfl))
          (try simp only [Act.put, List.getElem_toArray, List.getElem_cons_succ, List.getElem_cons_zero, List.setIfInBounds_toArray, List.set_cons_zero, List.set_cons_succ])
          refine wpAnyH_take (i := 11) (v := ?ve11) rfl (by kernel_rfl) (by kernel_rfl) (by kernel_rfl) (fun _ _ _ h => h) (Or.inl ⟨by kernel_rfl, ?hye11⟩) (by assumption) ?hre11
          case hye11 => (intro w' hSw; (try dsimp only at hSw); go_simp; (try with_reducible rfl))
          (try simp only [Act.put, List.getElem_toArray, List.getElem_cons_succ, List.getElem_cons_zero, List.setIfInBounds_toArray, List.set_cons_zero, List.set_cons_succ])
          refine wpAnyH_ready (rs := [12]) (by kernel_rfl) (by simp) ?_
          refine AllReadyH.cons rfl (fun K hK => ?_) AllReadyH.nil
          go_simp
          go_at_call 46
          refine (bf_is f t u z fA tA uA zA _ _ HV1.out).mono ?_
          rintro e w5 ⟨rfl, hb⟩
          have hr := undrew hb
          have T5 := Lib.hid (T.out.below hr)
          have X5 := Lib.hid (X.out.below hr)
          have M5 := Lib.hid (fun j x (hj : D[j]? = some x) => (M.out j x hj).of_block (hr.block b2 BW.out))
          have BW5 := Lib.hid (Nat.lt_of_lt_of_le BW.out hr.size)
          have ax0 := T5.out.four0'
          have ax1 := T5.out.four1'
          have ax2 := T5.out.four2'
          have ax3 := T5.out.four3'
          have ad0 := X5.out.two0
          have ad1 := X5.out.two1
          obtain ⟨al0, al1, al2, al3⟩ := M5.out _ _ HL1.out
          have G5 := Lib.hid (G.out.trans (hr.mono G.out.size))
          clear hb hr
          refine hK.out _ _ ?hSe12 (fun hHeld12 => ?hTe12)
          case hSe12 => exact ⟨ax0, ax1, ax2, ax3, ad0, ad1, al0, al1, al2, al3⟩
          clear hK K
          (try simp only [Act.put, List.getElem_toArray, List.getElem_cons_succ, List.getElem_cons_zero, List.setIfInBounds_toArray, List.set_cons_zero, List.set_cons_succ])
          refine wpAnyH_take (i := 13) (v := ?ve13) rfl (by kernel_rfl) (by kernel_rfl) (by kernel_rfl) (fun _ _ _ h => h) (Or.inl ⟨by kernel_rfl, ?hye13⟩) (by assumption) ?hre13
          case hye13 => (intro w' hSw; (try dsimp only at hSw); go_simp; (try with_reducible rfl))
          (try simp only [Act.put, List.getElem_toArray, List.getElem_cons_succ, List.getElem_cons_zero, List.setIfInBounds_toArray, List.set_cons_zero, List.set_cons_succ])
          refine wpAnyH_take (i := 14) (v := ?ve14) rfl (by kernel_rfl) (by kernel_rfl) (by kernel_rfl) (fun _ _ _ h => h) (Or.inl ⟨by kernel_rfl, ?hye14⟩) (by assumption) ?hre14
          case hye14 => (intro w' hSw; (try dsimp only at hSw); go_simp; (try with_reducible rfl))
          (try simp only [Act.put, List.getElem_toArray, List.getElem_cons_succ, List.getElem_cons_zero, List.setIfInBounds_toArray, List.set_cons_zero, List.set_cons_succ])
          refine wpAnyH_take (i := 15) (v := ?ve15) rfl (by kernel_rfl) (by kernel_rfl) (by kernel_rfl) (fun _ _ _ h => h) (Or.inl ⟨by kernel_rfl, ?hye15⟩) (by assumption) ?hre15
          case hye15 => (intro w' hSw; (try dsimp only at hSw); go_simp; (try with_reducible rfl))
          (try simp only [Act.put, List.getElem_toArray, List.getElem_cons_succ, List.getElem_cons_zero, List.setIfInBounds_toArray, List.set_cons_zero, List.set_cons_succ])
          refine wpAnyH_take (i := 16) (v := ?ve16) rfl (by kernel_rfl) (by kernel_rfl) (by kernel_rfl) (fun _ _ _ h => h) (Or.inl ⟨by kernel_rfl, ?hye16⟩) (by assumption) ?hre16
          case hye16 => (intro w' hSw; (try dsimp only at hSw); go_simp; (try with_reducible rfl))
          (try simp only [Act.put, List.getElem_toArray, List.getElem_cons_succ, List.getElem_cons_zero, List.setIfInBounds_toArray, List.set_cons_zero, List.set_cons_succ])
          refine wpAnyH_take (i := 17) (v := ?ve17) rfl (by kernel_rfl) (by kernel_rfl) (by kernel_rfl) (fun _ _ _ h => h) (Or.inl ⟨by kernel_rfl, ?hye17⟩) (by assumption) ?hre17
          case hye17 => (intro w' hSw; (try dsimp only at hSw); go_simp; (try with_reducible rfl))
          (try simp only [Act.put, List.getElem_toArray, List.getElem_cons_succ, List.getElem_cons_zero, List.setIfInBounds_toArray, List.set_cons_zero, List.set_cons_succ])
          refine wpAnyH_take (i := 18) (v := ?ve18) rfl (by kernel_rfl) (by kernel_rfl) (by kernel_rfl) (fun _ _ _ h => h) (Or.inl ⟨by kernel_rfl, ?hye18⟩) (by assumption) ?hre18
          case hye18 => (intro w' hSw; (try dsimp only at hSw); go_simp; (try with_reducible rfl))
          (try simp only [Act.put, List.getElem_toArray, List.getElem_cons_succ, List.getElem_cons_zero, List.setIfInBounds_toArray, List.set_cons_zero, List.set_cons_succ])
          refine wpAnyH_take (i := 19) (v := ?ve19) rfl (by kernel_rfl) (by kernel_rfl) (by kernel_rfl) (fun _ _ _ h => h) (Or.inl ⟨by kernel_rfl, ?hye19⟩) (by assumption) ?hre19
          case hye19 => (intro w' hSw; (try dsimp only at hSw); go_simp; (try with_reducible rfl))
          (try simp only [Act.put, List.getElem_toArray, List.getElem_cons_succ, List.getElem_cons_zero, List.setIfInBounds_toArray, List.set_cons_zero, List.set_cons_succ])
          refine wpAnyH_take (i := 20) (v := undef) rfl (by kernel_rfl) (by kernel_rfl) (by kernel_rfl) (fun _ _ _ h => h) (Or.inr ⟨by kernel_rfl, rfl⟩) (by assumption) ?_
          (try simp only [Act.put, List.getElem_toArray, List.getElem_cons_succ, List.getElem_cons_zero, List.setIfInBounds_toArray, List.set_cons_zero, List.set_cons_succ])
          refine wpAnyH_take (i := 21) (v := undef) rfl (by kernel_rfl) (by kernel_rfl) (by kernel_rfl) (fun _ _ _ h => h) (Or.inr ⟨by kernel_rfl, rfl⟩) (by assumption) ?_
          (try simp only [Act.put, List.getElem_toArray, List.getElem_cons_succ, List.getElem_cons_zero, List.setIfInBounds_toArray, List.set_cons_zero, List.set_cons_succ])
          refine wpAnyH_take (i := 22) (v := undef) rfl (by kernel_rfl) (by kernel_rfl) (by kernel_rfl) (fun _ _ _ h => h) (Or.inr ⟨by kernel_rfl, rfl⟩) (by assumption) ?_
          (try simp only [Act.put, List.getElem_toArray, List.getElem_cons_succ, List.getElem_cons_zero, List.setIfInBounds_toArray, List.set_cons_zero, List.set_cons_succ])
          refine wpAnyH_take (i := 23) (v := undef) rfl (by kernel_rfl) (by kernel_rfl) (by kernel_rfl) (fun _ _ _ h => h) (Or.inr ⟨by kernel_rfl, rfl⟩) (by assumption) ?_
          (try simp only [Act.put, List.getElem_toArray, List.getElem_cons_succ, List.getElem_cons_zero, List.setIfInBounds_toArray, List.set_cons_zero, List.set_cons_succ])
          refine wpAnyH_take (i := 24) (v := undef) rfl (by kernel_rfl) (by kernel_rfl) (by kernel_rfl) (fun _ _ _ h => h) (Or.inr ⟨by kernel_rfl, rfl⟩) (by assumption) ?_
          (try simp only [Act.put, List.getElem_toArray, List.getElem_cons_succ, List.getElem_cons_zero, List.setIfInBounds_toArray, List.set_cons_zero, List.set_cons_succ])
          refine wpAnyH_take (i := 25) (v := undef) rfl (by kernel_rfl) (by kernel_rfl) (by kernel_rfl) (fun _ _ _ h => h) (Or.inr ⟨by kernel_rfl, rfl⟩) (by assumption) ?_
          (try simp only [Act.put, List.getElem_toArray, List.getElem_cons_succ, List.getElem_cons_zero, List.setIfInBounds_toArray, List.set_cons_zero, List.set_cons_succ])
          refine wpAnyH_take (i := 26) (v := undef) rfl (by kernel_rfl) (by kernel_rfl) (by kernel_rfl) (fun _ _ _ h => h) (Or.inr ⟨by kernel_rfl, rfl⟩) (by assumption) ?_
          (try simp only [Act.put, List.getElem_toArray, List.getElem_cons_succ, List.getElem_cons_zero, List.setIfInBounds_toArray, List.set_cons_zero, List.set_cons_succ])
          refine wpAnyH_take (i := 27) (v := undef) rfl (by kernel_rfl) (by kernel_rfl) (by kernel_rfl) (fun _ _ _ h => h) (Or.inr ⟨by kernel_rfl, rfl⟩) (by assumption) ?_
          (try simp only [Act.put, List.getElem_toArray, List.getElem_cons_succ, List.getElem_cons_zero, List.setIfInBounds_toArray, List.set_cons_zero, List.set_cons_succ])
          refine wpAnyH_take (i := 28) (v := undef) rfl (by kernel_rfl) (by kernel_rfl) (by kernel_rfl) (fun _ _ _ h => h) (Or.inr ⟨by kernel_rfl, rfl⟩) (by assumption) ?_
          (try simp only [Act.put, List.getElem_toArray, List.getElem_cons_succ, List.getElem_cons_zero, List.setIfInBounds_toArray, List.set_cons_zero, List.set_cons_succ])
          refine wpAnyH_take (i := 29) (v := undef) rfl (by kernel_rfl) (by kernel_rfl) (by kernel_rfl) (fun _ _ _ h => h) (Or.inr ⟨by kernel_rfl, rfl⟩) (by assumption) ?_
          (try simp only [Act.put, List.getElem_toArray, List.getElem_cons_succ, List.getElem_cons_zero, List.setIfInBounds_toArray, List.set_cons_zero, List.set_cons_succ])
          refine wpAnyH_take (i := 30) (v := ?ve30) rfl (by kernel_rfl) (by kernel_rfl) (by kernel_rfl) (fun _ _ _ h => h) (Or.inl ⟨by kernel_rfl, ?hye30⟩) (by assumption) ?hre30
          case hye30 => (intro w' hSw; (try dsimp only at hSw); go_simp; (try with_reducible rfl))
          (try simp only [Act.put, List.getElem_toArray, List.getElem_cons_succ, List.getElem_cons_zero, List.setIfInBounds_toArray, List.set_cons_zero, List.set_cons_succ])
          refine wpAnyH_take (i := 31) (v := ?ve31) rfl (by kernel_rfl) (by kernel_rfl) (by kernel_rfl) (fun _ _ _ h => h) (Or.inl ⟨by kernel_rfl, ?hye31⟩) (by assumption) ?hre31
          case hye31 => (intro w' hSw; (try dsimp only at hSw); go_simp; (try with_reducible rfl))
          (try simp only [Act.put, List.getElem_toArray, List.getElem_cons_succ, List.getElem_cons_zero, List.setIfInBounds_toArray, List.set_cons_zero, List.set_cons_succ])
          refine wpAnyH_done (by kernel_rfl) ?_ _
          refine NoPanic.normal ?_
          clear qx0 qx1 qx2 qx3 qd0 qd1 ql0 ql1 ql2 ql3 ax0 ax1 ax2 ax3 ad0 ad1 al0 al1 al2 al3
          obtain ⟨WX, hWX⟩ : ∃ x, x = w5 := ⟨_, rfl⟩
          have TX := Lib.hid (show BlkV WX wo.heap.size 59 #[.int .i64 f, .int .i64 t, .int .i64 u, .int .i64 z] by rw [hWX]; exact T5.out)
          have XX := Lib.hid (show BlkV WX w.heap.size 32 #[.int .i64 y, .slice (some ⟨b2, o2, none⟩) n c] by rw [hWX]; exact X5.out)
          have MX := Lib.hid (show ∀ j x, D[j]? = some x → NodeAt WX b2 (o2 + j * 4) x by rw [hWX]; exact M5.out)
          have BX := Lib.hid (show b2 < WX.heap.size by rw [hWX]; exact BW5.out)
          have GX := Lib.hid (show Below wo.heap.size wo WX by rw [hWX]; exact G5.out)
          rw [← hWX]
          clear hWX
          go_wp2
          go_loopw [5] (fun i wr => ∃ j : Nat, j ≤ k ∧ i = .int .i64 j ∧ (D.take j).contains ((f, t), (u, z)) = false ∧ Below WX.heap.size WX wr) (fun i _ => k - (intOf i).toNat)
          case atStart => exact ⟨0, Nat.zero_le _, rfl, rfl, Below.refl _ _⟩
          case round =>
            obtain ⟨j, hj, rfl, hin, hb⟩ := hrel
            have HIN := Lib.hid hin
            have HB := Lib.hid hb
            have q0 := (TX.out.below hb).four0'
            have q1 := (TX.out.below hb).four1'
            have q2 := (TX.out.below hb).four2'
            have q3 := (TX.out.below hb).four3'
            have q5 := (XX.out.below hb).two1
            clear hin hb
            by_cases hjt : j < k
            · obtain ⟨⟨⟨f', t'⟩, u', z'⟩, hy⟩ : ∃ x, D[j]? = some x := ⟨_, List.getElem?_eq_getElem (by rw [HN.out]; omega)⟩
              obtain ⟨c0, c1, c2, c3⟩ := (MX.out j _ hy).of_block (HB.out.block b2 BX.out)
              obtain ⟨b, hbd⟩ : ∃ b, decide ((((f', t'), (u', z')) : DN) = ((f, t), (u, z))) = b := ⟨_, rfl⟩
              have HBD := Lib.hid hbd
              have he := fun W => eql_dn f' t' u' z' f t u z b hbd W
              have hgd := fun x y xs ys W => geql_dn x y xs ys W
              have HY := Lib.hid hy
              have hjn : (j : Int) < (n : Int) := by omega
              have hjk : (j : Int) < (k : Int) := by omega
              clear hy hbd
              cases b
              · go_wp2_with (fail)
                go_quiet (fail)
                go_wp2
                go_roundw
                case rel =>
                  refine ⟨j + 1, by omega, by go_num, ?_, HB.out.trans (dquiet_f _ _ _)⟩
                  rw [List.take_add_one, HY.out]
                  have h1 := HIN.out
                  have h2 := of_decide_eq_false HBD.out
                  simp only [List.contains_eq_mem, List.mem_append, decide_eq_false_iff_not] at h1 ⊢
                  rintro (h | h)
                  · exact h1 h
                  · simp at h; exact h2 (by simp [h])
                case measure => simp [intOf]; omega
              · obtain rfl : false = r := by
                  rw [← HR.out, dg_no (nodes_no HX.out (dv_mem ?_))]
                  have h2 := of_decide_eq_true HBD.out
                  rw [← h2]
                  refine List.contains_iff_mem.2 (List.mem_of_getElem? (i := j) ?_)
                  rw [List.getElem?_take_of_lt hjt]
                  exact HY.out
                go_wp2_with (fail)
                go_quiet (fail)
                go_wp2
                go_ret
                exact ⟨rfl, HB1.out.trans ((HBO.out.trans ((GX.out.trans ((HB.out.trans (dquiet_f _ _ _)).mono GX.out.size)).mono HBO.out.size)).mono HB1.out.size)⟩
            · obtain rfl : j = k := by omega
              have HDV := Lib.hid (show dvB ((f, t), (u, z)) (D.take j) = true from dv_yes (by rw [HTL.out]; exact num_yes (of_decide_eq_true HFB.out) (of_decide_eq_true HTB.out) huz (of_decide_eq_true HLB.out) (of_decide_eq_true HHB.out)) HPL.out HPH.out HIN.out)
              clear q0 q1 q2 q3 q5
              go_wp2
              go_roundw
              case rel =>
                refine ⟨j + 1, by omega, by go_num, fun i x hi hx => ?_, HBO.out.trans ((GX.out.trans (HB.out.mono GX.out.size)).mono HBO.out.size)⟩
                by_cases e : i = j
                · subst e
                  rw [HX.out] at hx
                  injection hx with hx
                  subst hx
                  exact HDV.out
                · exact HALL.out i x (by omega) hx
              case measure => simp [intOf]; omega
      · by_cases hz : (1 : Int) < z
        · skip
          have huf : (1 < u) = False := eq_false hu
          have hud : decide (1 < u) = false := decide_eq_false hu
          have HPL := Lib.hid (show preB (f, t) (D.take k) u = true from pre_small (by omega))
          obtain ⟨i2, hzi⟩ : ∃ i : Nat, z = (i : Int) + 2 := ⟨(z - 2).toNat, by omega⟩
          have hz2 : z - 2 = (i2 : Int) := by omega
          have hzb := of_decide_eq_true HHB.out
          have hi2k : i2 < k := by omega
          have hi2n : (i2 : Int) < (n : Int) := by omega
          have hi2w : IntKind.i64.wrap (i2 : Int) = (i2 : Int) := IntWalk.i64_in _ (by omega)
          obtain ⟨⟨⟨fB, tB⟩, uB, zB⟩, hl2⟩ : ∃ x, D[i2]? = some x := ⟨_, List.getElem?_eq_getElem (by rw [HN.out]; omega)⟩
          have HL2 := Lib.hid hl2
          obtain ⟨v2, hv2⟩ : ∃ v, varLt (f, t) (fB, tB) = v := ⟨_, rfl⟩
          have HV2 := Lib.hid hv2
          have HP2 := Lib.hid (show preB (f, t) (D.take k) z = v2 by rw [pre_at hzi (show (D.take k)[i2]? = _ by rw [List.getElem?_take_of_lt hi2k]; exact hl2), hv2])
          clear hl2 hv2 hzb hzi hi2k
          have qx0 := T.out.four0'
          have qx1 := T.out.four1'
          have qx2 := T.out.four2'
          have qx3 := T.out.four3'
          have qd0 := X.out.two0
          have qd1 := X.out.two1
          obtain ⟨qh0, qh1, qh2, qh3⟩ := M.out _ _ HL2.out
          go_wp2_with (first | (go_at_call 45; (with_reducible refine (cl1In _ _ _ _ _ HFB.out).mono ?_); rintro e wq ⟨rfl, hwq⟩; obtain rfl := hwq.symm) | (go_at_call 45; (with_reducible refine (cl1In _ _ _ _ _ HTB.out).mono ?_); rintro e wq ⟨rfl, hwq⟩; obtain rfl := hwq.symm) | (go_at_call 45; (with_reducible refine (cl1In _ _ _ _ _ HLB.out).mono ?_); rintro e wq ⟨rfl, hwq⟩; obtain rfl := hwq.symm) | (go_at_call 45; (with_reducible refine (cl1In _ _ _ _ _ HHB.out).mono ?_); rintro e wq ⟨rfl, hwq⟩; obtain rfl := hwq.symm))
          refine wp_region_noPanic ?_
          refine wp_region_held_drew (S := (fun w' => w'.cell? ⟨wo.heap.size, 0, none⟩ = some (.int .i64 f) ∧ w'.cell? ⟨wo.heap.size, 1, none⟩ = some (.int .i64 t) ∧ w'.cell? ⟨wo.heap.size, 2, none⟩ = some (.int .i64 u) ∧ w'.cell? ⟨wo.heap.size, 3, none⟩ = some (.int .i64 z) ∧ w'.cell? ⟨w.heap.size, 0, none⟩ = some (.int .i64 y) ∧ w'.cell? ⟨w.heap.size, 1, none⟩ = some (.slice (some ⟨b2, o2, none⟩) n c) ∧ w'.cell? ⟨b2, o2 + i2 * 4, none⟩ = some (.int .i64 fB) ∧ w'.cell? ⟨b2, o2 + i2 * 4 + 1, none⟩ = some (.int .i64 tB) ∧ w'.cell? ⟨b2, o2 + i2 * 4 + 2, none⟩ = some (.int .i64 uB) ∧ w'.cell? ⟨b2, o2 + i2 * 4 + 3, none⟩ = some (.int .i64 zB))) (by kernel_rfl) ?hSc (fun hHeld => ?hRc)
          case hSc => exact ⟨qx0, qx1, qx2, qx3, qd0, qd1, qh0, qh1, qh2, qh3⟩
          refine wpAnyH_take (i := 0) (v := ?vc0) rfl (by kernel_rfl) (by kernel_rfl) (by kernel_rfl) (fun _ _ _ h => h) (Or.inl ⟨by kernel_rfl, ?hyc0⟩) (by assumption) ?hrc0
          case hyc0 => (intro w' hSw; (try dsimp only at hSw); go_simp; (try with_reducible rfl))
          (try simp only [Act.put, List.getElem_toArray, List.getElem_cons_succ, List.getElem_cons_zero, List.setIfInBounds_toArray, List.set_cons_zero, List.set_cons_succ])
          refine wpAnyH_take (i := 1) (v := ?vc1) rfl (by kernel_rfl) (by kernel_rfl) (by kernel_rfl) (fun _ _ _ h => h) (Or.inl ⟨by kernel_rfl, ?hyc1⟩) (by assumption) ?hrc1
          case hyc1 => (intro w' hSw; (try dsimp only at hSw); go_simp; (try with_reducible rfl))
          (try simp only [Act.put, List.getElem_toArray, List.getElem_cons_succ, List.getElem_cons_zero, List.setIfInBounds_toArray, List.set_cons_zero, List.set_cons_succ])
          refine wpAnyH_take (i := 2) (v := ?vc2) rfl (by kernel_rfl) (by kernel_rfl) (by kernel_rfl) (fun _ _ _ h => h) (Or.inl ⟨by kernel_rfl, ?hyc2⟩) (by assumption) ?hrc2
          case hyc2 => (intro w' hSw; (try dsimp only at hSw); go_simp; (try with_reducible rfl))
          (try simp only [Act.put, List.getElem_toArray, List.getElem_cons_succ, List.getElem_cons_zero, List.setIfInBounds_toArray, List.set_cons_zero, List.set_cons_succ])
          refine wpAnyH_take (i := 3) (v := ?vc3) rfl (by kernel_rfl) (by kernel_rfl) (by kernel_rfl) (fun _ _ _ h => h) (Or.inl ⟨by kernel_rfl, ?hyc3⟩) (by assumption) ?hrc3
          case hyc3 => (intro w' hSw; (try dsimp only at hSw); go_simp; (try with_reducible rfl))
          (try simp only [Act.put, List.getElem_toArray, List.getElem_cons_succ, List.getElem_cons_zero, List.setIfInBounds_toArray, List.set_cons_zero, List.set_cons_succ])
          refine wpAnyH_take (i := 4) (v := undef) rfl (by kernel_rfl) (by kernel_rfl) (by kernel_rfl) (fun _ _ _ h => h) (Or.inr ⟨by kernel_rfl, rfl⟩) (by assumption) ?_
          (try simp only [Act.put, List.getElem_toArray, List.getElem_cons_succ, List.getElem_cons_zero, List.setIfInBounds_toArray, List.set_cons_zero, List.set_cons_succ])
          refine wpAnyH_take (i := 5) (v := undef) rfl (by kernel_rfl) (by kernel_rfl) (by kernel_rfl) (fun _ _ _ h => h) (Or.inr ⟨by kernel_rfl, rfl⟩) (by assumption) ?_
          (try simp only [Act.put, List.getElem_toArray, List.getElem_cons_succ, List.getElem_cons_zero, List.setIfInBounds_toArray, List.set_cons_zero, List.set_cons_succ])
          refine wpAnyH_take (i := 6) (v := undef) rfl (by kernel_rfl) (by kernel_rfl) (by kernel_rfl) (fun _ _ _ h => h) (Or.inr ⟨by kernel_rfl, rfl⟩) (by assumption) ?_
          (try simp only [Act.put, List.getElem_toArray, List.getElem_cons_succ, List.getElem_cons_zero, List.setIfInBounds_toArray, List.set_cons_zero, List.set_cons_succ])
          refine wpAnyH_take (i := 7) (v := undef) rfl (by kernel_rfl) (by kernel_rfl) (by kernel_rfl) (fun _ _ _ h => h) (Or.inr ⟨by kernel_rfl, rfl⟩) (by assumption) ?_
          (try simp only [Act.put, List.getElem_toArray, List.getElem_cons_succ, List.getElem_cons_zero, List.setIfInBounds_toArray, List.set_cons_zero, List.set_cons_succ])
          refine wpAnyH_take (i := 8) (v := undef) rfl (by kernel_rfl) (by kernel_rfl) (by kernel_rfl) (fun _ _ _ h => h) (Or.inr ⟨by kernel_rfl, rfl⟩) (by assumption) ?_
          (try simp only [Act.put, List.getElem_toArray, List.getElem_cons_succ, List.getElem_cons_zero, List.setIfInBounds_toArray, List.set_cons_zero, List.set_cons_succ])
          refine wpAnyH_take (i := 9) (v := undef) rfl (by kernel_rfl) (by kernel_rfl) (by kernel_rfl) (fun _ _ _ h => h) (Or.inr ⟨by kernel_rfl, rfl⟩) (by assumption) ?_
          (try simp only [Act.put, List.getElem_toArray, List.getElem_cons_succ, List.getElem_cons_zero, List.setIfInBounds_toArray, List.set_cons_zero, List.set_cons_succ])
          refine wpAnyH_take (i := 10) (v := undef) rfl (by kernel_rfl) (by kernel_rfl) (by kernel_rfl) (fun _ _ _ h => h) (Or.inr ⟨by kernel_rfl, rfl⟩) (by assumption) ?_
          (try simp only [Act.put, List.getElem_toArray, List.getElem_cons_succ, List.getElem_cons_zero, List.setIfInBounds_toArray, List.set_cons_zero, List.set_cons_succ])
          refine wpAnyH_take (i := 11) (v := undef) rfl (by kernel_rfl) (by kernel_rfl) (by kernel_rfl) (fun _ _ _ h => h) (Or.inr ⟨by kernel_rfl, rfl⟩) (by assumption) ?_
          (try simp only [Act.put, List.getElem_toArray, List.getElem_cons_succ, List.getElem_cons_zero, List.setIfInBounds_toArray, List.set_cons_zero, List.set_cons_succ])
          refine wpAnyH_take (i := 12) (v := undef) rfl (by kernel_rfl) (by kernel_rfl) (by kernel_rfl) (fun _ _ _ h => h) (Or.inr ⟨by kernel_rfl, rfl⟩) (by assumption) ?_
          (try simp only [Act.put, List.getElem_toArray, List.getElem_cons_succ, List.getElem_cons_zero, List.setIfInBounds_toArray, List.set_cons_zero, List.set_cons_succ])
          refine wpAnyH_take (i := 13) (v := undef) rfl (by kernel_rfl) (by kernel_rfl) (by kernel_rfl) (fun _ _ _ h => h) (Or.inr ⟨by kernel_rfl, rfl⟩) (by assumption) ?_
          (try simp only [Act.put, List.getElem_toArray, List.getElem_cons_succ, List.getElem_cons_zero, List.setIfInBounds_toArray, List.set_cons_zero, List.set_cons_succ])
          refine wpAnyH_take (i := 14) (v := ?vc14) rfl (by kernel_rfl) (by kernel_rfl) (by kernel_rfl) (fun _ _ _ h => h) (Or.inl ⟨by kernel_rfl, ?hyc14⟩) (by assumption) ?hrc14
          case hyc14 => (intro w' hSw; (try dsimp only at hSw); go_simp; (try with_reducible rfl))
          (try simp only [Act.put, List.getElem_toArray, List.getElem_cons_succ, List.getElem_cons_zero, List.setIfInBounds_toArray, List.set_cons_zero, List.set_cons_succ])
          refine wpAnyH_take (i := 15) (v := ?vc15) rfl (by kernel_rfl) (by kernel_rfl) (by kernel_rfl) (fun _ _ _ h => h) (Or.inl ⟨by kernel_rfl, ?hyc15⟩) (by assumption) ?hrc15
          case hyc15 => (intro w' hSw; (try dsimp only at hSw); go_simp; (try with_reducible rfl))
          (try simp only [Act.put, List.getElem_toArray, List.getElem_cons_succ, List.getElem_cons_zero, List.setIfInBounds_toArray, List.set_cons_zero, List.set_cons_succ])
          refine wpAnyH_take (i := 16) (v := ?vc16) rfl (by kernel_rfl) (by kernel_rfl) (by kernel_rfl) (fun _ _ _ h => h) (Or.inl ⟨by kernel_rfl, ?hyc16⟩) (by assumption) ?hrc16
          case hyc16 => (intro w' hSw; (try dsimp only at hSw); go_simp; (try with_reducible rfl))
          (try simp only [Act.put, List.getElem_toArray, List.getElem_cons_succ, List.getElem_cons_zero, List.setIfInBounds_toArray, List.set_cons_zero, List.set_cons_succ])
          refine wpAnyH_take (i := 17) (v := ?vc17) rfl (by kernel_rfl) (by kernel_rfl) (by kernel_rfl) (fun _ _ _ h => h) (Or.inl ⟨by kernel_rfl, ?hyc17⟩) (by assumption) ?hrc17
          case hyc17 => (intro w' hSw; (try dsimp only at hSw); go_simp; (try with_reducible rfl))
          (try simp only [Act.put, List.getElem_toArray, List.getElem_cons_succ, List.getElem_cons_zero, List.setIfInBounds_toArray, List.set_cons_zero, List.set_cons_succ])
          refine wpAnyH_take (i := 18) (v := ?vc18) rfl (by kernel_rfl) (by kernel_rfl) (by kernel_rfl) (fun _ _ _ h => h) (Or.inl ⟨by kernel_rfl, ?hyc18⟩) (by assumption) ?hrc18
          case hyc18 => (intro w' hSw; (try dsimp only at hSw); go_simp; (try with_reducible rfl))
          (try simp only [Act.put, List.getElem_toArray, List.getElem_cons_succ, List.getElem_cons_zero, List.setIfInBounds_toArray, List.set_cons_zero, List.set_cons_succ])
          refine wpAnyH_take (i := 19) (v := ?vc19) rfl (by kernel_rfl) (by kernel_rfl) (by kernel_rfl) (fun _ _ _ h => h) (Or.inl ⟨by kernel_rfl, ?hyc19⟩) (by assumption) ?hrc19
          case hyc19 => (intro w' hSw; (try dsimp only at hSw); go_simp; (try with_reducible rfl))
          (try simp only [Act.put, List.getElem_toArray, List.getElem_cons_succ, List.getElem_cons_zero, List.setIfInBounds_toArray, List.set_cons_zero, List.set_cons_succ])
          refine wpAnyH_take (i := 20) (v := ?vc20) rfl (by kernel_rfl) (by kernel_rfl) (by kernel_rfl) (fun _ _ _ h => h) (Or.inl ⟨by kernel_rfl, ?hyc20⟩) (by assumption) ?hrc20
          case hyc20 => (intro w' hSw; (try dsimp only at hSw); go_simp; (try with_reducible rfl))
          (try simp only [Act.put, List.getElem_toArray, List.getElem_cons_succ, List.getElem_cons_zero, List.setIfInBounds_toArray, List.set_cons_zero, List.set_cons_succ])
          refine wpAnyH_take (i := 21) (v := ?vc21) rfl (by kernel_rfl) (by kernel_rfl) (by kernel_rfl) (fun _ _ _ h => h) (Or.inl ⟨by kernel_rfl, ?hyc21⟩) (by assumption) ?hrc21
          case hyc21 => (intro w' hSw; (try dsimp only at hSw); go_simp; (try with_reducible rfl))
          (try simp only [Act.put, List.getElem_toArray, List.getElem_cons_succ, List.getElem_cons_zero, List.setIfInBounds_toArray, List.set_cons_zero, List.set_cons_succ])
          refine wpAnyH_take (i := 22) (v := ?vc22) rfl (by kernel_rfl) (by kernel_rfl) (by kernel_rfl) (fun _ _ _ h => h) (Or.inl ⟨by kernel_rfl, ?hyc22⟩) (by assumption) ?hrc22
          case hyc22 => (intro w' hSw; (try dsimp only at hSw); go_simp; (try with_reducible rfl))
          (try simp only [Act.put, List.getElem_toArray, List.getElem_cons_succ, List.getElem_cons_zero, List.setIfInBounds_toArray, List.set_cons_zero, List.set_cons_succ])
          refine wpAnyH_take (i := 23) (v := ?vc23) rfl (by kernel_rfl) (by kernel_rfl) (by kernel_rfl) (fun _ _ _ h => h) (Or.inl ⟨by kernel_rfl, ?hyc23⟩) (by assumption) ?hrc23
          case hyc23 => (intro w' hSw; (try dsimp only at hSw); go_simp; (try with_reducible rfl))
          (try simp only [Act.put, List.getElem_toArray, List.getElem_cons_succ, List.getElem_cons_zero, List.setIfInBounds_toArray, List.set_cons_zero, List.set_cons_succ])
          refine wpAnyH_take (i := 24) (v := ?vc24) rfl (by kernel_rfl) (by kernel_rfl) (by kernel_rfl) (fun _ _ _ h => h) (Or.inl ⟨by kernel_rfl, ?hyc24⟩) (by assumption) ?hrc24
          case hyc24 => (intro w' hSw; (try dsimp only at hSw); go_simp; (try with_reducible rfl))
          (try simp only [Act.put, List.getElem_toArray, List.getElem_cons_succ, List.getElem_cons_zero, List.setIfInBounds_toArray, List.set_cons_zero, List.set_cons_succ])
          refine wpAnyH_take (i := 25) (v := ?vc25) rfl (by kernel_rfl) (by kernel_rfl) (by kernel_rfl) (fun _ _ _ h => h) (Or.inl ⟨by kernel_rfl, ?hyc25⟩) (by assumption) ?hrc25
          case hyc25 => (intro w' hSw; (try dsimp only at hSw); go_simp; (try with_reducible rfl))
          (try simp only [Act.put, List.getElem_toArray, List.getElem_cons_succ, List.getElem_cons_zero, List.setIfInBounds_toArray, List.set_cons_zero, List.set_cons_succ])
          refine wpAnyH_take (i := 26) (v := ?vc26) rfl (by kernel_rfl) (by kernel_rfl) (by kernel_rfl) (fun _ _ _ h => h) (Or.inl ⟨by kernel_rfl, ?hyc26⟩) (by assumption) ?hrc26
          case hyc26 => (intro w' hSw; (try dsimp only at hSw); go_simp; (try with_reducible rfl))
          (try simp only [Act.put, List.getElem_toArray, List.getElem_cons_succ, List.getElem_cons_zero, List.setIfInBounds_toArray, List.set_cons_zero, List.set_cons_succ])
          refine wpAnyH_take (i := 27) (v := ?vc27) rfl (by kernel_rfl) (by kernel_rfl) (by kernel_rfl) (fun _ _ _ h => h) (Or.inl ⟨by kernel_rfl, ?hyc27⟩) (by assumption) ?hrc27
          case hyc27 => (intro w' hSw; (try dsimp only at hSw); go_simp; (try with_reducible rfl))
          (try simp only [Act.put, List.getElem_toArray, List.getElem_cons_succ, List.getElem_cons_zero, List.setIfInBounds_toArray, List.set_cons_zero, List.set_cons_succ])
          refine wpAnyH_ready (rs := [28]) (by kernel_rfl) (by simp) ?_
          refine AllReadyH.cons rfl (fun K hK => ?_) AllReadyH.nil
          go_simp
          go_at_call 46
          refine (bf_is f t u z fB tB uB zB _ _ HV2.out).mono ?_
          rintro e w5 ⟨rfl, hb⟩
          have hr := undrew hb
          have T5 := Lib.hid (T.out.below hr)
          have X5 := Lib.hid (X.out.below hr)
          have M5 := Lib.hid (fun j x (hj : D[j]? = some x) => (M.out j x hj).of_block (hr.block b2 BW.out))
          have BW5 := Lib.hid (Nat.lt_of_lt_of_le BW.out hr.size)
          have ax0 := T5.out.four0'
          have ax1 := T5.out.four1'
          have ax2 := T5.out.four2'
          have ax3 := T5.out.four3'
          have ad0 := X5.out.two0
          have ad1 := X5.out.two1
          obtain ⟨ah0, ah1, ah2, ah3⟩ := M5.out _ _ HL2.out
          have G5 := Lib.hid (G.out.trans (hr.mono G.out.size))
          clear hb hr
          refine hK.out _ _ ?hSc28 (fun hHeld28 => ?hTc28)
          case hSc28 => exact ⟨ax0, ax1, ax2, ax3, ad0, ad1, ah0, ah1, ah2, ah3⟩
          clear hK K
          (try simp only [Act.put, List.getElem_toArray, List.getElem_cons_succ, List.getElem_cons_zero, List.setIfInBounds_toArray, List.set_cons_zero, List.set_cons_succ])
          refine wpAnyH_take (i := 29) (v := ?vc29) rfl (by kernel_rfl) (by kernel_rfl) (by kernel_rfl) (fun _ _ _ h => h) (Or.inl ⟨by kernel_rfl, ?hyc29⟩) (by assumption) ?hrc29
          case hyc29 => (intro w' hSw; (try dsimp only at hSw); go_simp; (try with_reducible rfl))
          (try simp only [Act.put, List.getElem_toArray, List.getElem_cons_succ, List.getElem_cons_zero, List.setIfInBounds_toArray, List.set_cons_zero, List.set_cons_succ])
          refine wpAnyH_take (i := 30) (v := ?vc30) rfl (by kernel_rfl) (by kernel_rfl) (by kernel_rfl) (fun _ _ _ h => h) (Or.inl ⟨by kernel_rfl, ?hyc30⟩) (by assumption) ?hrc30
          case hyc30 => (intro w' hSw; (try dsimp only at hSw); go_simp; (try with_reducible rfl))
          (try simp only [Act.put, List.getElem_toArray, List.getElem_cons_succ, List.getElem_cons_zero, List.setIfInBounds_toArray, List.set_cons_zero, List.set_cons_succ])
          refine wpAnyH_take (i := 31) (v := ?vc31) rfl (by kernel_rfl) (by kernel_rfl) (by kernel_rfl) (fun _ _ _ h => h) (Or.inl ⟨by kernel_rfl, ?hyc31⟩) (by assumption) ?hrc31
          case hyc31 => (intro w' hSw; (try dsimp only at hSw); go_simp; (try with_reducible rfl))
          (try simp only [Act.put, List.getElem_toArray, List.getElem_cons_succ, List.getElem_cons_zero, List.setIfInBounds_toArray, List.set_cons_zero, List.set_cons_succ])
          refine wpAnyH_done (by kernel_rfl) ?_ _
          refine NoPanic.normal ?_
          cases v2
          · obtain rfl : false = r := by rw [← HR.out, dg_no (nodes_no HX.out (dv_high HP2.out))]
            go_wp2
            go_ret
            exact ⟨rfl, HB1.out.trans ((HBO.out.trans (G5.out.mono HBO.out.size)).mono HB1.out.size)⟩
          have HPH := HP2
          (try simp only [Bool.not_true])
          clear qx0 qx1 qx2 qx3 qd0 qd1 qh0 qh1 qh2 qh3 ax0 ax1 ax2 ax3 ad0 ad1 ah0 ah1 ah2 ah3
          obtain ⟨WX, hWX⟩ : ∃ x, x = w5 := ⟨_, rfl⟩
          have TX := Lib.hid (show BlkV WX wo.heap.size 59 #[.int .i64 f, .int .i64 t, .int .i64 u, .int .i64 z] by rw [hWX]; exact T5.out)
          have XX := Lib.hid (show BlkV WX w.heap.size 32 #[.int .i64 y, .slice (some ⟨b2, o2, none⟩) n c] by rw [hWX]; exact X5.out)
          have MX := Lib.hid (show ∀ j x, D[j]? = some x → NodeAt WX b2 (o2 + j * 4) x by rw [hWX]; exact M5.out)
          have BX := Lib.hid (show b2 < WX.heap.size by rw [hWX]; exact BW5.out)
          have GX := Lib.hid (show Below wo.heap.size wo WX by rw [hWX]; exact G5.out)
          rw [← hWX]
          clear hWX
          go_wp2
          go_loopw [5] (fun i wr => ∃ j : Nat, j ≤ k ∧ i = .int .i64 j ∧ (D.take j).contains ((f, t), (u, z)) = false ∧ Below WX.heap.size WX wr) (fun i _ => k - (intOf i).toNat)
          case atStart => exact ⟨0, Nat.zero_le _, rfl, rfl, Below.refl _ _⟩
          case round =>
            obtain ⟨j, hj, rfl, hin, hb⟩ := hrel
            have HIN := Lib.hid hin
            have HB := Lib.hid hb
            have q0 := (TX.out.below hb).four0'
            have q1 := (TX.out.below hb).four1'
            have q2 := (TX.out.below hb).four2'
            have q3 := (TX.out.below hb).four3'
            have q5 := (XX.out.below hb).two1
            clear hin hb
            by_cases hjt : j < k
            · obtain ⟨⟨⟨f', t'⟩, u', z'⟩, hy⟩ : ∃ x, D[j]? = some x := ⟨_, List.getElem?_eq_getElem (by rw [HN.out]; omega)⟩
              obtain ⟨c0, c1, c2, c3⟩ := (MX.out j _ hy).of_block (HB.out.block b2 BX.out)
              obtain ⟨b, hbd⟩ : ∃ b, decide ((((f', t'), (u', z')) : DN) = ((f, t), (u, z))) = b := ⟨_, rfl⟩
              have HBD := Lib.hid hbd
              have he := fun W => eql_dn f' t' u' z' f t u z b hbd W
              have hgd := fun x y xs ys W => geql_dn x y xs ys W
              have HY := Lib.hid hy
              have hjn : (j : Int) < (n : Int) := by omega
              have hjk : (j : Int) < (k : Int) := by omega
              clear hy hbd
              cases b
              · go_wp2_with (fail)
                go_quiet (fail)
                go_wp2
                go_roundw
                case rel =>
                  refine ⟨j + 1, by omega, by go_num, ?_, HB.out.trans (dquiet_f _ _ _)⟩
                  rw [List.take_add_one, HY.out]
                  have h1 := HIN.out
                  have h2 := of_decide_eq_false HBD.out
                  simp only [List.contains_eq_mem, List.mem_append, decide_eq_false_iff_not] at h1 ⊢
                  rintro (h | h)
                  · exact h1 h
                  · simp at h; exact h2 (by simp [h])
                case measure => simp [intOf]; omega
              · obtain rfl : false = r := by
                  rw [← HR.out, dg_no (nodes_no HX.out (dv_mem ?_))]
                  have h2 := of_decide_eq_true HBD.out
                  rw [← h2]
                  refine List.contains_iff_mem.2 (List.mem_of_getElem? (i := j) ?_)
                  rw [List.getElem?_take_of_lt hjt]
                  exact HY.out
                go_wp2_with (fail)
                go_quiet (fail)
                go_wp2
                go_ret
                exact ⟨rfl, HB1.out.trans ((HBO.out.trans ((GX.out.trans ((HB.out.trans (dquiet_f _ _ _)).mono GX.out.size)).mono HBO.out.size)).mono HB1.out.size)⟩
            · obtain rfl : j = k := by omega
              have HDV := Lib.hid (show dvB ((f, t), (u, z)) (D.take j) = true from dv_yes (by rw [HTL.out]; exact num_yes (of_decide_eq_true HFB.out) (of_decide_eq_true HTB.out) huz (of_decide_eq_true HLB.out) (of_decide_eq_true HHB.out)) HPL.out HPH.out HIN.out)
              clear q0 q1 q2 q3 q5
              go_wp2
              go_roundw
              case rel =>
                refine ⟨j + 1, by omega, by go_num, fun i x hi hx => ?_, HBO.out.trans ((GX.out.trans (HB.out.mono GX.out.size)).mono HBO.out.size)⟩
                by_cases e : i = j
                · subst e
                  rw [HX.out] at hx
                  injection hx with hx
                  subst hx
                  exact HDV.out
                · exact HALL.out i x (by omega) hx
              case measure => simp [intOf]; omega
        · skip
          have huf : (1 < u) = False := eq_false hu
          have hud : decide (1 < u) = false := decide_eq_false hu
          have HPL := Lib.hid (show preB (f, t) (D.take k) u = true from pre_small (by omega))
          have hzf : (1 < z) = False := eq_false hz
          have hzd : decide (1 < z) = false := decide_eq_false hz
          have HPH := Lib.hid (show preB (f, t) (D.take k) z = true from pre_small (by omega))
          have qx0 := T.out.four0'
          have qx1 := T.out.four1'
          have qx2 := T.out.four2'
          have qx3 := T.out.four3'
          have qd0 := X.out.two0
          have qd1 := X.out.two1
          go_wp2_with (first | (go_at_call 45; (with_reducible refine (cl1In _ _ _ _ _ HFB.out).mono ?_); rintro e wq ⟨rfl, hwq⟩; obtain rfl := hwq.symm) | (go_at_call 45; (with_reducible refine (cl1In _ _ _ _ _ HTB.out).mono ?_); rintro e wq ⟨rfl, hwq⟩; obtain rfl := hwq.symm) | (go_at_call 45; (with_reducible refine (cl1In _ _ _ _ _ HLB.out).mono ?_); rintro e wq ⟨rfl, hwq⟩; obtain rfl := hwq.symm) | (go_at_call 45; (with_reducible refine (cl1In _ _ _ _ _ HHB.out).mono ?_); rintro e wq ⟨rfl, hwq⟩; obtain rfl := hwq.symm))
          refine wp_region_noPanic ?_
          refine wp_region_held_drew (S := (fun w' => w'.cell? ⟨wo.heap.size, 0, none⟩ = some (.int .i64 f) ∧ w'.cell? ⟨wo.heap.size, 1, none⟩ = some (.int .i64 t) ∧ w'.cell? ⟨wo.heap.size, 2, none⟩ = some (.int .i64 u) ∧ w'.cell? ⟨wo.heap.size, 3, none⟩ = some (.int .i64 z) ∧ w'.cell? ⟨w.heap.size, 0, none⟩ = some (.int .i64 y) ∧ w'.cell? ⟨w.heap.size, 1, none⟩ = some (.slice (some ⟨b2, o2, none⟩) n c))) (by kernel_rfl) ?hSb (fun hHeld => ?hRb)
          case hSb => exact ⟨qx0, qx1, qx2, qx3, qd0, qd1⟩
          refine wpAnyH_take (i := 0) (v := ?vb0) rfl (by kernel_rfl) (by kernel_rfl) (by kernel_rfl) (fun _ _ _ h => h) (Or.inl ⟨by kernel_rfl, ?hyb0⟩) (by assumption) ?hrb0
          case hyb0 => (intro w' hSw; (try dsimp only at hSw); go_simp; (try with_reducible rfl))
          (try simp only [Act.put, List.getElem_toArray, List.getElem_cons_succ, List.getElem_cons_zero, List.setIfInBounds_toArray, List.set_cons_zero, List.set_cons_succ])
          refine wpAnyH_take (i := 1) (v := ?vb1) rfl (by kernel_rfl) (by kernel_rfl) (by kernel_rfl) (fun _ _ _ h => h) (Or.inl ⟨by kernel_rfl, ?hyb1⟩) (by assumption) ?hrb1
          case hyb1 => (intro w' hSw; (try dsimp only at hSw); go_simp; (try with_reducible rfl))
          (try simp only [Act.put, List.getElem_toArray, List.getElem_cons_succ, List.getElem_cons_zero, List.setIfInBounds_toArray, List.set_cons_zero, List.set_cons_succ])
          refine wpAnyH_take (i := 2) (v := ?vb2) rfl (by kernel_rfl) (by kernel_rfl) (by kernel_rfl) (fun _ _ _ h => h) (Or.inl ⟨by kernel_rfl, ?hyb2⟩) (by assumption) ?hrb2
          case hyb2 => (intro w' hSw; (try dsimp only at hSw); go_simp; (try with_reducible rfl))
          (try simp only [Act.put, List.getElem_toArray, List.getElem_cons_succ, List.getElem_cons_zero, List.setIfInBounds_toArray, List.set_cons_zero, List.set_cons_succ])
          refine wpAnyH_take (i := 3) (v := ?vb3) rfl (by kernel_rfl) (by kernel_rfl) (by kernel_rfl) (fun _ _ _ h => h) (Or.inl ⟨by kernel_rfl, ?hyb3⟩) (by assumption) ?hrb3
          case hyb3 => (intro w' hSw; (try dsimp only at hSw); go_simp; (try with_reducible rfl))
          (try simp only [Act.put, List.getElem_toArray, List.getElem_cons_succ, List.getElem_cons_zero, List.setIfInBounds_toArray, List.set_cons_zero, List.set_cons_succ])
          refine wpAnyH_take (i := 4) (v := undef) rfl (by kernel_rfl) (by kernel_rfl) (by kernel_rfl) (fun _ _ _ h => h) (Or.inr ⟨by kernel_rfl, rfl⟩) (by assumption) ?_
          (try simp only [Act.put, List.getElem_toArray, List.getElem_cons_succ, List.getElem_cons_zero, List.setIfInBounds_toArray, List.set_cons_zero, List.set_cons_succ])
          refine wpAnyH_take (i := 5) (v := undef) rfl (by kernel_rfl) (by kernel_rfl) (by kernel_rfl) (fun _ _ _ h => h) (Or.inr ⟨by kernel_rfl, rfl⟩) (by assumption) ?_
          (try simp only [Act.put, List.getElem_toArray, List.getElem_cons_succ, List.getElem_cons_zero, List.setIfInBounds_toArray, List.set_cons_zero, List.set_cons_succ])
          refine wpAnyH_take (i := 6) (v := undef) rfl (by kernel_rfl) (by kernel_rfl) (by kernel_rfl) (fun _ _ _ h => h) (Or.inr ⟨by kernel_rfl, rfl⟩) (by assumption) ?_
          (try simp only [Act.put, List.getElem_toArray, List.getElem_cons_succ, List.getElem_cons_zero, List.setIfInBounds_toArray, List.set_cons_zero, List.set_cons_succ])
          refine wpAnyH_take (i := 7) (v := undef) rfl (by kernel_rfl) (by kernel_rfl) (by kernel_rfl) (fun _ _ _ h => h) (Or.inr ⟨by kernel_rfl, rfl⟩) (by assumption) ?_
          (try simp only [Act.put, List.getElem_toArray, List.getElem_cons_succ, List.getElem_cons_zero, List.setIfInBounds_toArray, List.set_cons_zero, List.set_cons_succ])
          refine wpAnyH_take (i := 8) (v := undef) rfl (by kernel_rfl) (by kernel_rfl) (by kernel_rfl) (fun _ _ _ h => h) (Or.inr ⟨by kernel_rfl, rfl⟩) (by assumption) ?_
          (try simp only [Act.put, List.getElem_toArray, List.getElem_cons_succ, List.getElem_cons_zero, List.setIfInBounds_toArray, List.set_cons_zero, List.set_cons_succ])
          refine wpAnyH_take (i := 9) (v := undef) rfl (by kernel_rfl) (by kernel_rfl) (by kernel_rfl) (fun _ _ _ h => h) (Or.inr ⟨by kernel_rfl, rfl⟩) (by assumption) ?_
          (try simp only [Act.put, List.getElem_toArray, List.getElem_cons_succ, List.getElem_cons_zero, List.setIfInBounds_toArray, List.set_cons_zero, List.set_cons_succ])
          refine wpAnyH_take (i := 10) (v := undef) rfl (by kernel_rfl) (by kernel_rfl) (by kernel_rfl) (fun _ _ _ h => h) (Or.inr ⟨by kernel_rfl, rfl⟩) (by assumption) ?_
          (try simp only [Act.put, List.getElem_toArray, List.getElem_cons_succ, List.getElem_cons_zero, List.setIfInBounds_toArray, List.set_cons_zero, List.set_cons_succ])
          refine wpAnyH_take (i := 11) (v := undef) rfl (by kernel_rfl) (by kernel_rfl) (by kernel_rfl) (fun _ _ _ h => h) (Or.inr ⟨by kernel_rfl, rfl⟩) (by assumption) ?_
          (try simp only [Act.put, List.getElem_toArray, List.getElem_cons_succ, List.getElem_cons_zero, List.setIfInBounds_toArray, List.set_cons_zero, List.set_cons_succ])
          refine wpAnyH_take (i := 12) (v := undef) rfl (by kernel_rfl) (by kernel_rfl) (by kernel_rfl) (fun _ _ _ h => h) (Or.inr ⟨by kernel_rfl, rfl⟩) (by assumption) ?_
          (try simp only [Act.put, List.getElem_toArray, List.getElem_cons_succ, List.getElem_cons_zero, List.setIfInBounds_toArray, List.set_cons_zero, List.set_cons_succ])
          refine wpAnyH_take (i := 13) (v := undef) rfl (by kernel_rfl) (by kernel_rfl) (by kernel_rfl) (fun _ _ _ h => h) (Or.inr ⟨by kernel_rfl, rfl⟩) (by assumption) ?_
          (try simp only [Act.put, List.getElem_toArray, List.getElem_cons_succ, List.getElem_cons_zero, List.setIfInBounds_toArray, List.set_cons_zero, List.set_cons_succ])
          refine wpAnyH_take (i := 14) (v := ?vb14) rfl (by kernel_rfl) (by kernel_rfl) (by kernel_rfl) (fun _ _ _ h => h) (Or.inl ⟨by kernel_rfl, ?hyb14⟩) (by assumption) ?hrb14
          case hyb14 => (intro w' hSw; (try dsimp only at hSw); go_simp; (try with_reducible rfl))
          (try simp only [Act.put, List.getElem_toArray, List.getElem_cons_succ, List.getElem_cons_zero, List.setIfInBounds_toArray, List.set_cons_zero, List.set_cons_succ])
          refine wpAnyH_take (i := 15) (v := ?vb15) rfl (by kernel_rfl) (by kernel_rfl) (by kernel_rfl) (fun _ _ _ h => h) (Or.inl ⟨by kernel_rfl, ?hyb15⟩) (by assumption) ?hrb15
          case hyb15 => (intro w' hSw; (try dsimp only at hSw); go_simp; (try with_reducible rfl))
          (try simp only [Act.put, List.getElem_toArray, List.getElem_cons_succ, List.getElem_cons_zero, List.setIfInBounds_toArray, List.set_cons_zero, List.set_cons_succ])
          refine wpAnyH_take (i := 16) (v := ?vb16) rfl (by kernel_rfl) (by kernel_rfl) (by kernel_rfl) (fun _ _ _ h => h) (Or.inl ⟨by kernel_rfl, ?hyb16⟩) (by assumption) ?hrb16
          case hyb16 => (intro w' hSw; (try dsimp only at hSw); go_simp; (try with_reducible rfl))
          (try simp only [Act.put, List.getElem_toArray, List.getElem_cons_succ, List.getElem_cons_zero, List.setIfInBounds_toArray, List.set_cons_zero, List.set_cons_succ])
          refine wpAnyH_take (i := 17) (v := ?vb17) rfl (by kernel_rfl) (by kernel_rfl) (by kernel_rfl) (fun _ _ _ h => h) (Or.inl ⟨by kernel_rfl, ?hyb17⟩) (by assumption) ?hrb17
          case hyb17 => (intro w' hSw; (try dsimp only at hSw); go_simp; (try with_reducible rfl))
          (try simp only [Act.put, List.getElem_toArray, List.getElem_cons_succ, List.getElem_cons_zero, List.setIfInBounds_toArray, List.set_cons_zero, List.set_cons_succ])
          refine wpAnyH_take (i := 18) (v := ?vb18) rfl (by kernel_rfl) (by kernel_rfl) (by kernel_rfl) (fun _ _ _ h => h) (Or.inl ⟨by kernel_rfl, ?hyb18⟩) (by assumption) ?hrb18
          case hyb18 => (intro w' hSw; (try dsimp only at hSw); go_simp; (try with_reducible rfl))
          (try simp only [Act.put, List.getElem_toArray, List.getElem_cons_succ, List.getElem_cons_zero, List.setIfInBounds_toArray, List.set_cons_zero, List.set_cons_succ])
          refine wpAnyH_take (i := 19) (v := ?vb19) rfl (by kernel_rfl) (by kernel_rfl) (by kernel_rfl) (fun _ _ _ h => h) (Or.inl ⟨by kernel_rfl, ?hyb19⟩) (by assumption) ?hrb19
          case hyb19 => (intro w' hSw; (try dsimp only at hSw); go_simp; (try with_reducible rfl))
          (try simp only [Act.put, List.getElem_toArray, List.getElem_cons_succ, List.getElem_cons_zero, List.setIfInBounds_toArray, List.set_cons_zero, List.set_cons_succ])
          refine wpAnyH_take (i := 20) (v := undef) rfl (by kernel_rfl) (by kernel_rfl) (by kernel_rfl) (fun _ _ _ h => h) (Or.inr ⟨by kernel_rfl, rfl⟩) (by assumption) ?_
          (try simp only [Act.put, List.getElem_toArray, List.getElem_cons_succ, List.getElem_cons_zero, List.setIfInBounds_toArray, List.set_cons_zero, List.set_cons_succ])
          refine wpAnyH_take (i := 21) (v := undef) rfl (by kernel_rfl) (by kernel_rfl) (by kernel_rfl) (fun _ _ _ h => h) (Or.inr ⟨by kernel_rfl, rfl⟩) (by assumption) ?_
          (try simp only [Act.put, List.getElem_toArray, List.getElem_cons_succ, List.getElem_cons_zero, List.setIfInBounds_toArray, List.set_cons_zero, List.set_cons_succ])
          refine wpAnyH_take (i := 22) (v := undef) rfl (by kernel_rfl) (by kernel_rfl) (by kernel_rfl) (fun _ _ _ h => h) (Or.inr ⟨by kernel_rfl, rfl⟩) (by assumption) ?_
          (try simp only [Act.put, List.getElem_toArray, List.getElem_cons_succ, List.getElem_cons_zero, List.setIfInBounds_toArray, List.set_cons_zero, List.set_cons_succ])
          refine wpAnyH_take (i := 23) (v := undef) rfl (by kernel_rfl) (by kernel_rfl) (by kernel_rfl) (fun _ _ _ h => h) (Or.inr ⟨by kernel_rfl, rfl⟩) (by assumption) ?_
          (try simp only [Act.put, List.getElem_toArray, List.getElem_cons_succ, List.getElem_cons_zero, List.setIfInBounds_toArray, List.set_cons_zero, List.set_cons_succ])
          refine wpAnyH_take (i := 24) (v := undef) rfl (by kernel_rfl) (by kernel_rfl) (by kernel_rfl) (fun _ _ _ h => h) (Or.inr ⟨by kernel_rfl, rfl⟩) (by assumption) ?_
          (try simp only [Act.put, List.getElem_toArray, List.getElem_cons_succ, List.getElem_cons_zero, List.setIfInBounds_toArray, List.set_cons_zero, List.set_cons_succ])
          refine wpAnyH_take (i := 25) (v := undef) rfl (by kernel_rfl) (by kernel_rfl) (by kernel_rfl) (fun _ _ _ h => h) (Or.inr ⟨by kernel_rfl, rfl⟩) (by assumption) ?_
          (try simp only [Act.put, List.getElem_toArray, List.getElem_cons_succ, List.getElem_cons_zero, List.setIfInBounds_toArray, List.set_cons_zero, List.set_cons_succ])
          refine wpAnyH_take (i := 26) (v := undef) rfl (by kernel_rfl) (by kernel_rfl) (by kernel_rfl) (fun _ _ _ h => h) (Or.inr ⟨by kernel_rfl, rfl⟩) (by assumption) ?_
          (try simp only [Act.put, List.getElem_toArray, List.getElem_cons_succ, List.getElem_cons_zero, List.setIfInBounds_toArray, List.set_cons_zero, List.set_cons_succ])
          refine wpAnyH_take (i := 27) (v := undef) rfl (by kernel_rfl) (by kernel_rfl) (by kernel_rfl) (fun _ _ _ h => h) (Or.inr ⟨by kernel_rfl, rfl⟩) (by assumption) ?_
          (try simp only [Act.put, List.getElem_toArray, List.getElem_cons_succ, List.getElem_cons_zero, List.setIfInBounds_toArray, List.set_cons_zero, List.set_cons_succ])
          refine wpAnyH_take (i := 28) (v := undef) rfl (by kernel_rfl) (by kernel_rfl) (by kernel_rfl) (fun _ _ _ h => h) (Or.inr ⟨by kernel_rfl, rfl⟩) (by assumption) ?_
          (try simp only [Act.put, List.getElem_toArray, List.getElem_cons_succ, List.getElem_cons_zero, List.setIfInBounds_toArray, List.set_cons_zero, List.set_cons_succ])
          refine wpAnyH_take (i := 29) (v := undef) rfl (by kernel_rfl) (by kernel_rfl) (by kernel_rfl) (fun _ _ _ h => h) (Or.inr ⟨by kernel_rfl, rfl⟩) (by assumption) ?_
          (try simp only [Act.put, List.getElem_toArray, List.getElem_cons_succ, List.getElem_cons_zero, List.setIfInBounds_toArray, List.set_cons_zero, List.set_cons_succ])
          refine wpAnyH_take (i := 30) (v := ?vb30) rfl (by kernel_rfl) (by kernel_rfl) (by kernel_rfl) (fun _ _ _ h => h) (Or.inl ⟨by kernel_rfl, ?hyb30⟩) (by assumption) ?hrb30
          case hyb30 => (intro w' hSw; (try dsimp only at hSw); go_simp; (try with_reducible rfl))
          (try simp only [Act.put, List.getElem_toArray, List.getElem_cons_succ, List.getElem_cons_zero, List.setIfInBounds_toArray, List.set_cons_zero, List.set_cons_succ])
          refine wpAnyH_take (i := 31) (v := ?vb31) rfl (by kernel_rfl) (by kernel_rfl) (by kernel_rfl) (fun _ _ _ h => h) (Or.inl ⟨by kernel_rfl, ?hyb31⟩) (by assumption) ?hrb31
          case hyb31 => (intro w' hSw; (try dsimp only at hSw); go_simp; (try with_reducible rfl))
          (try simp only [Act.put, List.getElem_toArray, List.getElem_cons_succ, List.getElem_cons_zero, List.setIfInBounds_toArray, List.set_cons_zero, List.set_cons_succ])
          refine wpAnyH_done (by kernel_rfl) ?_ _
          refine NoPanic.normal ?_
          clear qx0 qx1 qx2 qx3 qd0 qd1
          have hq : Below W1.heap.size W1 W1.drew := ⟨rfl, rfl, rfl, Nat.le_refl _, fun _ _ => rfl⟩
          have TX := Lib.hid (T.out.below hq)
          have XX := Lib.hid (X.out.below hq)
          have MX := Lib.hid (fun j x (hj : D[j]? = some x) => (M.out j x hj).of_block (hq.block b2 BW.out))
          have BX := Lib.hid (Nat.lt_of_lt_of_le BW.out hq.size)
          have GX := Lib.hid (G.out.trans (hq.mono G.out.size))
          clear hq
          generalize W1.drew = WX at TX XX MX BX GX ⊢
          go_wp2
          go_loopw [5] (fun i wr => ∃ j : Nat, j ≤ k ∧ i = .int .i64 j ∧ (D.take j).contains ((f, t), (u, z)) = false ∧ Below WX.heap.size WX wr) (fun i _ => k - (intOf i).toNat)
          case atStart => exact ⟨0, Nat.zero_le _, rfl, rfl, Below.refl _ _⟩
          case round =>
            obtain ⟨j, hj, rfl, hin, hb⟩ := hrel
            have HIN := Lib.hid hin
            have HB := Lib.hid hb
            have q0 := (TX.out.below hb).four0'
            have q1 := (TX.out.below hb).four1'
            have q2 := (TX.out.below hb).four2'
            have q3 := (TX.out.below hb).four3'
            have q5 := (XX.out.below hb).two1
            clear hin hb
            by_cases hjt : j < k
            · obtain ⟨⟨⟨f', t'⟩, u', z'⟩, hy⟩ : ∃ x, D[j]? = some x := ⟨_, List.getElem?_eq_getElem (by rw [HN.out]; omega)⟩
              obtain ⟨c0, c1, c2, c3⟩ := (MX.out j _ hy).of_block (HB.out.block b2 BX.out)
              obtain ⟨b, hbd⟩ : ∃ b, decide ((((f', t'), (u', z')) : DN) = ((f, t), (u, z))) = b := ⟨_, rfl⟩
              have HBD := Lib.hid hbd
              have he := fun W => eql_dn f' t' u' z' f t u z b hbd W
              have hgd := fun x y xs ys W => geql_dn x y xs ys W
              have HY := Lib.hid hy
              have hjn : (j : Int) < (n : Int) := by omega
              have hjk : (j : Int) < (k : Int) := by omega
              clear hy hbd
              cases b
              · go_wp2_with (fail)
                go_quiet (fail)
                go_wp2
                go_roundw
                case rel =>
                  refine ⟨j + 1, by omega, by go_num, ?_, HB.out.trans (dquiet_f _ _ _)⟩
                  rw [List.take_add_one, HY.out]
                  have h1 := HIN.out
                  have h2 := of_decide_eq_false HBD.out
                  simp only [List.contains_eq_mem, List.mem_append, decide_eq_false_iff_not] at h1 ⊢
                  rintro (h | h)
                  · exact h1 h
                  · simp at h; exact h2 (by simp [h])
                case measure => simp [intOf]; omega
              · obtain rfl : false = r := by
                  rw [← HR.out, dg_no (nodes_no HX.out (dv_mem ?_))]
                  have h2 := of_decide_eq_true HBD.out
                  rw [← h2]
                  refine List.contains_iff_mem.2 (List.mem_of_getElem? (i := j) ?_)
                  rw [List.getElem?_take_of_lt hjt]
                  exact HY.out
                go_wp2_with (fail)
                go_quiet (fail)
                go_wp2
                go_ret
                exact ⟨rfl, HB1.out.trans ((HBO.out.trans ((GX.out.trans ((HB.out.trans (dquiet_f _ _ _)).mono GX.out.size)).mono HBO.out.size)).mono HB1.out.size)⟩
            · obtain rfl : j = k := by omega
              have HDV := Lib.hid (show dvB ((f, t), (u, z)) (D.take j) = true from dv_yes (by rw [HTL.out]; exact num_yes (of_decide_eq_true HFB.out) (of_decide_eq_true HTB.out) huz (of_decide_eq_true HLB.out) (of_decide_eq_true HHB.out)) HPL.out HPH.out HIN.out)
              clear q0 q1 q2 q3 q5
              go_wp2
              go_roundw
              case rel =>
                refine ⟨j + 1, by omega, by go_num, fun i x hi hx => ?_, HBO.out.trans ((GX.out.trans (HB.out.mono GX.out.size)).mono HBO.out.size)⟩
                by_cases e : i = j
                · subst e
                  rw [HX.out] at hx
                  injection hx with hx
                  subst hx
                  exact HDV.out
                · exact HALL.out i x (by omega) hx
              case measure => simp [intOf]; omega
    · obtain rfl : k = n := by omega
      have HND := Lib.hid (show nodesB D = true from nodes_iff.2 fun i x hx => HALL.out i x (by rw [← HN.out]; exact (List.getElem?_eq_some_iff.1 hx).1) hx)
      obtain ⟨rb, hrb⟩ : ∃ rb, decide (0 ≤ y ∧ y ≤ (k : Int) + 1) = rb := ⟨_, rfl⟩
      have HRB := Lib.hid hrb
      clear hrb
      cases rb
      · obtain rfl : false = r := by rw [← HR.out, dg_root (by rw [HN.out]; exact of_decide_eq_false HRB.out)]
        go_wp2_with (go_at_call 45; (with_reducible refine (cl1In _ _ _ _ _ HRB.out).mono ?_); rintro e wq ⟨rfl, hwq⟩; obtain rfl := hwq.symm)
        go_ret
        exact ⟨rfl, HB1.out.trans (HBO.out.mono HB1.out.size)⟩
      · by_cases h2 : k ≤ 200
        · obtain rfl : true = r := by rw [← HR.out, dg_yes (by rw [HN.out]; exact h2) (by rw [HN.out]; exact of_decide_eq_true HRB.out) HND.out]
          have h2i : (k : Int) ≤ 200 := by omega
          go_wp2_with (go_at_call 45; (with_reducible refine (cl1In _ _ _ _ _ HRB.out).mono ?_); rintro e wq ⟨rfl, hwq⟩; obtain rfl := hwq.symm)
          go_ret
          exact ⟨rfl, HB1.out.trans (HBO.out.mono HB1.out.size)⟩
        · obtain rfl : false = r := by rw [← HR.out, dg_len (by rw [HN.out]; exact h2)]
          have h2i : decide ((k : Int) ≤ 200) = false := decide_eq_false (by omega)
          go_wp2_with (go_at_call 45; (with_reducible refine (cl1In _ _ _ _ _ HRB.out).mono ?_); rintro e wq ⟨rfl, hwq⟩; obtain rfl := hwq.symm)
          go_ret
          exact ⟨rfl, HB1.out.trans (HBO.out.mono HB1.out.size)⟩

end Go.Proofs.YtpmfabpnjacegaaGreatDoor
