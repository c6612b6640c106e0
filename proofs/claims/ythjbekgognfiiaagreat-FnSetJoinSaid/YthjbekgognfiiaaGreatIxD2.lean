/-
  The index that spec.l12Index draws. By an AI agent.
-/
import Derived.Test.YthjbekgognfiiaaGreatIxD1
import Derived.Test.YthjbekgognfiiaaGreatJ12
import Derived.Test.YthjbekgognfiiaaGreatLawCode
import Derived.Deep.RegionHeld3
namespace Go.Proofs.YthjbekgognfiiaaGreat
open Go.RowKit
set_option linter.unusedVariables false

theorem grown_undrew {w w' : World} {r : Option Nat} (h : w.drew.grownBy w' r) : w.grownBy w' r := ⟨h.os, h.tape, h.output, h.size, h.block⟩
theorem new_some (a : Option Addr) (c : Nat) (T : List TC) (t : Int) (w : World) (h : SmW w a T c) :
    Calls Tryz.prog 96 #[.slice a T.length c, .int .i64 t] w fun e w' => ∃ (t' : Int) (T' : List TC) (ta : Option Addr) (tc : Nat) (xa : Option Addr) (xc : Nat) (q : List XS) (b : Bool), e = .returned (.tuple #[.agg #[.int .i64 t', .slice ta T'.length tc, .slice xa 0 xc], .bool b]) ∧ setsX q = [] ∧ OwnIx w' w.heap.size w'.heap.size (.slice ta T'.length tc) (.slice xa 0 xc) T' q ∧ Below w.heap.size w w' ∧ (T' = T ∨ T' = []) :=
  (new_spec a c T t _ _ _ _ w rfl rfl rfl rfl h).mono fun e w' h1 => by
    obtain ⟨ta, tc, xa, xc, q, he, hq, ho, hb⟩ := h1
    exact ⟨_, _, ta, tc, xa, xc, q, _, he, hq, ho, hb, by split; exact .inl rfl; exact .inr rfl⟩
/-- the drawn index is laid into its box -/
theorem drix_new {w w4 w5 : World} {B c g : Nat} {t : Int} {T : List TC} {ta xa : Option Addr} {tc n xc : Nat} {q : List XS} (hr : BlkV w4 g 27 #[.int .i64 0, .slice none 0 0, .slice none 0 0]) (hcur : Cur w4 B c) (hg : w.grownBy w4 (some c)) (hc : c < w.heap.size) (hl : w.heap.size ≤ g)
    (ho : OwnIx w5 w4.heap.size w5.heap.size (.slice ta T.length tc) (.slice xa n xc) T q) (hb : Below w4.heap.size w4 w5) :
    DrIx w (w5.alloc (.cells #[.int .i64 t, .slice ta T.length tc, .slice xa n xc] 27)) B c w5.heap.size g t T ta tc xa n xc q := by
  have hg4 := hr.lt
  have hsz := hb.size
  have hba := (Below.refl w5.heap.size w5).alloc (Nat.le_refl _) (.cells #[.int .i64 t, .slice ta T.length tc, .slice xa n xc] 27)
  have h1 : OwnT w5 (g + 1) (.slice ta T.length tc) T := ho.tab.1.mono (by omega)
  have h2 : OwnX w5 (g + 1) (.slice xa n xc) q := ho.sets.1.mono (by omega)
  have hcb := hcur.below hb hcur.lt
  exact ⟨BlkV.new _ _ _, (hr.below hb).alloc _, h1.below hba, h2.below hba, ho.apart, (fun e => by have := (World.ownsRow.lt h1 _ e).2; omega), (fun e => by have := (World.ownsRow.lt h2.out _ e).2; omega), (fun p hp e => by have := (World.ownsRow.lt (h2.row p hp) _ e).2; omega), hcb.alloc _, grown_below (grown_below hg (hb.mono hg.size)) (hba.mono (by have := hg.size; omega)), hc, hl, by omega⟩

set_option maxRecDepth 100000 in
set_option maxHeartbeats 4000000 in
theorem l12Index_any (B c : Nat) (w : World) (hcur : Cur w B c) : Calls Tryz.prog 61 #[.pointer (some ⟨c, 0, none⟩)] w (SomeIx 12 w B c) := by
  have HC := Lib.hid hcur
  have HLT := Lib.hid hcur.lt
  obtain ⟨w1, hw1⟩ : ∃ w1, w1 = w.alloc (.cells #[.int .i64 0, .slice none 0 0, .slice none 0 0] 27) := ⟨_, rfl⟩
  have HW1 := Lib.hid hw1
  have HC1 := Lib.hid (show Cur w1 B c by rw [hw1]; exact hcur.alloc _)
  have HG1 := Lib.hid (show w.grownBy w1 (some c) by rw [hw1]; exact grown_alloc w _ c)
  have HR1 := Lib.hid (show BlkV w1 w.heap.size 27 #[.int .i64 0, .slice none 0 0, .slice none 0 0] by rw [hw1]; exact BlkV.new _ _ _)
  clear hcur hw1
  go_enter Tryz.func61, Tryz.ntmps61
  go_wp2_with (first
    | (go_at_call 98; rw [← HW1.out]; (refine (l11Sets_any B c w1 HC1.out).mono ?_); rintro e w2 ⟨a2, c2, vs, ls, rfl, hR, hl2, hx2, hc2, hg2⟩; have HR2 := Lib.hid hR; have HL2 := Lib.hid hl2; have HX2 := Lib.hid hx2; have HC2 := Lib.hid hc2; have HG2 := Lib.hid (grown_trans HG1.out hg2); have HZ2 := Lib.hid (HR1.out.grown hg2 (by have := HLT.out; simp; omega)); clear hR hl2 hx2 hc2 hg2)
    | (go_at_call 97; (refine (cnt_spec a2 c2 ls w2 (sets_sm HR2.out HL2.out (by omega) HX2.out)).mono ?_); rintro e w3 ⟨a3, c3, rfl, ho3, hb3⟩; refine Hid.out ?_))
  obtain ⟨T, hT⟩ : ∃ T, ctR ls = T := ⟨_, rfl⟩
  have hct := ct_bounds HL2.out HX2.out
  rw [hT] at ho3 hct ⊢
  have HO3 := Lib.hid ho3
  have HTL := Lib.hid hct.1
  have HTX := Lib.hid hct.2
  have HC3 := Lib.hid (HC2.out.below hb3 HC2.out.lt)
  have HG3 := Lib.hid (grown_below HG2.out (hb3.mono HG2.out.size))
  have HZ3 := Lib.hid (HZ2.out.below hb3)
  clear hct ho3 hb3 hT
  refine Lib.hid ?_
  go_wp2_with (first
    | (go_at_call 41; (refine (l1PickIntP_any (fun _ => True) B c w3.heap.size 6 _ (HC3.out.alloc _) (by omega) (by omega) (by have := HC3.out.lt; omega) (lit_cellsP (fun _ => True) w3 [500, 300, 700, 800, 1000, 1] (fun _ _ => trivial))).mono ?_); rintro e w4 ⟨t4, rfl, _, hc4, hg4⟩; have HC4 := Lib.hid hc4; have HG4 := Lib.hid (grown_trans HG3.out (grown_trans (grown_alloc w3 _ c) hg4)); have HZ4 := Lib.hid ((HZ3.out.alloc _).grown hg4 (by have := HLT.out; simp; omega)); have HO4 := Lib.hid (ownT_step ((show OwnT w3 w2.heap.size _ T from HO3.out).below ((Below.refl _ _).alloc (Nat.le_refl _) _)) hg4 HC2.out.lt); clear hc4 hg4)
    | (go_at_call 96; (refine (new_some a3 c3 T t4 w4 (tab_sm HO4.out (by have := HTL.out; omega) HTX.out)).mono ?_); rintro e w5 ⟨t5, T5, ta, tc, xa, xc, q, b5, rfl, hq, ho, hb, hT5⟩; refine Hid.out ?_))
  have HDR := Lib.hid (drix_new (t := t5) HZ4.out HC4.out HG4.out HLT.out (Nat.le_refl _) ho hb)
  have HBI := Lib.hid (show BIx 12 T5 [] from ⟨by rcases hT5 with rfl | rfl; exact HTL.out; simp, (fun x hx => by rcases hT5 with rfl | rfl; exact HTX.out x hx; cases hx), by simp, (fun x hx => by cases hx)⟩)
  have HQ := Lib.hid hq
  obtain ⟨w6, hw6⟩ : ∃ w6, w6 = w5.alloc (.cells #[.int .i64 t5, .slice ta T5.length tc, .slice xa 0 xc] 27) := ⟨_, rfl⟩
  rw [← hw6] at HDR
  have HW6 := Lib.hid hw6
  have hz6 : w6.heap.size = w5.heap.size + 1 := by rw [hw6]; simp
  have HZ6 := Lib.hid hz6
  have HLT6 := Lib.hid (show ∀ j, j < 3 → ∃ z : Int, (0 < z ∧ z ≤ 14) ∧ (w6.alloc (.cells #[.int .i64 4, .int .i64 8, .int .i64 14] 3)).cell? ⟨w5.heap.size + 1, j, none⟩ = some (.int .i64 z) by rw [← hz6]; exact lit_cellsP (fun z => 0 < z ∧ z ≤ 14) w6 [4, 8, 14] (by simp))
  clear hz6
  obtain ⟨BX, hBX⟩ : ∃ BX, BX = w5.heap.size := ⟨_, rfl⟩
  rw [← hBX] at HDR
  clear hq ho hb hT5 hw6
  refine Lib.hid ?_
  go_wp2_with (go_at_call 41; rw [← HW6.out]; (refine (l1PickIntP_any (fun z => 0 < z ∧ z ≤ 14) B c (w5.heap.size + 1) 3 _ (HDR.out.cur.alloc _) (by omega) (by omega) (by have := HDR.out.cur.lt; have := HZ6.out; omega) HLT6.out).mono ?_); rintro e w7 ⟨n7, rfl, hn7, hc7, hg7⟩; refine Hid.out ?_)
  have HD7 := Lib.hid ((HDR.out.below_ ((Below.refl _ _).alloc (Nat.le_refl _) _)).step hg7 hc7)
  have hn7a : 0 < n7 := hn7.1
  have hn7b : n7 ≤ 14 := hn7.2
  rw [← hBX]
  clear hc7 hg7 hn7 hBX
  refine Lib.hid ?_
  go_wp2_with (go_at_call 62; (refine (l1Below_any B c n7 w7 HD7.out.cur (by omega) (by omega)).mono ?_); rintro e w8 ⟨n8, rfl, hn8, hm8, hc8, hg8⟩; refine Hid.out ?_)
  have HD8 := Lib.hid (HD7.out.step hg8 hc8)
  obtain ⟨m, rfl⟩ := Int.eq_ofNat_of_zero_le hn8
  have hm14 : m ≤ 14 := by omega
  clear hc8 hg8 hn8 hm8 hn7a hn7b
  refine Lib.hid ?_
  go_wp2
  go_loopw [5] (fun i wr => ∃ (k : Nat) (t : Int) (ta : Option Addr) (tc : Nat) (T : List TC) (xa : Option Addr) (xc : Nat) (S : List IS) (q : List XS), i = .int .i64 k ∧ k ≤ 14 ∧ setsX q = S ∧ BIx 12 T S ∧ DrIx w wr B c BX w.heap.size t T ta tc xa S.length xc q) (fun i _ => (intOf i).toNat)
  case atStart => exact ⟨m, t5, ta, tc, T5, xa, xc, [], q, rfl, hm14, HQ.out, HBI.out, HD8.out⟩
  case round =>
    clear HQ HBI HDR HD7 HD8
    obtain ⟨k, t, ta, tc, T, xa, xc, S, q, rfl, hk, hq, hbi, hdr⟩ := hrel
    have HQ := Lib.hid hq
    have HBI := Lib.hid hbi
    have HDR := Lib.hid hdr
    clear hq hbi hdr
    have q0 := HDR.out.box.three0
    have q1 := HDR.out.box.three1
    have q2 := HDR.out.box.three2
    by_cases hlt : 0 < k
    · obtain ⟨j, rfl⟩ : ∃ j, k = j + 1 := ⟨k - 1, by omega⟩
      go_wp2_with (fail)
      refine wp_region_noPanic ?_
      refine wp_region_F (S := fun w' => w'.cell? ⟨BX, 0, none⟩ = some (.int .i64 t) ∧ w'.cell? ⟨BX, 1, none⟩ = some (.slice ta T.length tc) ∧ w'.cell? ⟨BX, 2, none⟩ = some (.slice xa S.length xc)) 9 (by kernel_rfl) (⟨q0, q1, q2⟩) (fun hHeld => ?_)
      refine anyF_take (i := 0) (v := ?vz5001) rfl (by kernel_rfl) (by kernel_rfl) (by kernel_rfl) (by kernel_rfl) (by kernel_rfl) (fun _ _ _ h => h) (Or.inl ⟨by kernel_rfl, ?yz5001⟩) (by assumption) ?rz5001
      case yz5001 => (intro w' hSw; (try dsimp only at hSw); go_simp; (try with_reducible rfl))
      (try simp only [Act.put, List.getElem_toArray, List.getElem_cons_succ, List.getElem_cons_zero, List.setIfInBounds_toArray, List.set_cons_zero, List.set_cons_succ])
      refine anyF_take (i := 1) (v := ?vz5002) rfl (by kernel_rfl) (by kernel_rfl) (by kernel_rfl) (by kernel_rfl) (by kernel_rfl) (fun _ _ _ h => h) (Or.inl ⟨by kernel_rfl, ?yz5002⟩) (by assumption) ?rz5002
      case yz5002 => (intro w' hSw; (try dsimp only at hSw); go_simp; (try with_reducible rfl))
      (try simp only [Act.put, List.getElem_toArray, List.getElem_cons_succ, List.getElem_cons_zero, List.setIfInBounds_toArray, List.set_cons_zero, List.set_cons_succ])
      refine anyF_take (i := 3) (v := ?vz5003) rfl (by kernel_rfl) (by kernel_rfl) (by kernel_rfl) (by kernel_rfl) (by kernel_rfl) (fun _ _ _ h => h) (Or.inl ⟨by kernel_rfl, ?yz5003⟩) (by assumption) ?rz5003
      case yz5003 => (intro w' hSw; (try dsimp only at hSw); go_simp; (try with_reducible rfl))
      (try simp only [Act.put, List.getElem_toArray, List.getElem_cons_succ, List.getElem_cons_zero, List.setIfInBounds_toArray, List.set_cons_zero, List.set_cons_succ])
      refine anyF_one (i := 2) (by kernel_rfl) (anyF_step rfl (fun K hK => ?_))
      go_simp
      refine (l1Below_any B c 20 _ (show Cur wr.drew B c from HDR.out.cur) (by omega) (by omega)).mono ?_
      rintro e w2 ⟨z, rfl, hz0, hz1, hc2, hg2⟩
      have HD2 := Lib.hid (HDR.out.step (grown_undrew hg2) hc2)
      have u0 := HD2.out.box.three0
      have u1 := HD2.out.box.three1
      have u2 := HD2.out.box.three2
      clear hc2 hg2
      refine hK.out _ _ (fun _ => ⟨u0, u1, u2⟩) (fun hH => ?_)
      have hHeld := hH (by kernel_rfl)
      clear hH
      clear hK K
      (try simp only [Act.put, List.getElem_toArray, List.getElem_cons_succ, List.getElem_cons_zero, List.setIfInBounds_toArray, List.set_cons_zero, List.set_cons_succ])
      refine anyF_one (i := 4) (by kernel_rfl) (anyF_step rfl (fun K hK => ?_))
      go_simp
      refine (l3Set_any B c _ HD2.out.cur).mono ?_
      rintro e w3 ⟨a3, c3, l, rfl, ho3, hl3, hx3, hc3, hg3⟩
      have HD3 := Lib.hid (HD2.out.step hg3 hc3)
      have HO3 := Lib.hid ho3
      have HX3 := Lib.hid hx3
      have v0 := HD3.out.box.three0
      have v1 := HD3.out.box.three1
      have v2 := HD3.out.box.three2
      clear hc3 hg3 ho3 hx3
      refine hK.out _ _ (fun _ => ⟨v0, v1, v2⟩) (fun hH => ?_)
      have hHeld := hH (by kernel_rfl)
      clear hH
      clear hK K
      (try simp only [Act.put, List.getElem_toArray, List.getElem_cons_succ, List.getElem_cons_zero, List.setIfInBounds_toArray, List.set_cons_zero, List.set_cons_succ])
      refine anyF_one (i := 5) (by kernel_rfl) (anyF_step rfl (fun K hK => ?_))
      go_simp
      obtain ⟨S', hS'⟩ : ∃ r, insR t T S z l = r := ⟨_, rfl⟩
      refine (ins_spec t ta tc T xa xc S z a3 c3 l t T S' _ w3 rfl rfl hS' rfl (HD3.out.sm HQ.out HBI.out (by omega)) (HO3.out.sm (by omega) (fun x hx => by have := HX3.out x hx; omega))).mono ?_
      rintro e w4 ⟨ta', tc', xa', xc', q', rfl, hq', ho', hb'⟩
      have HD4 := Lib.hid (HD3.out.below_ hb')
      have HB4 := Lib.hid hb'
      have HO4 := Lib.hid ho'
      have HQ4 := Lib.hid hq'
      have HBI4 := Lib.hid (show BIx 12 T S' by rw [← hS']; exact bix_ins HBI.out (by omega) HX3.out)
      have t0 := HD4.out.box.three0
      have t1 := HD4.out.box.three1
      have t2 := HD4.out.box.three2
      have ft0 := HD4.out.box.frozen 0
      have ft1 := HD4.out.box.frozen 1
      have ft2 := HD4.out.box.frozen 2
      clear hq' ho' hb' hS'
      refine hK.out _ _ (fun _ => ⟨t0, t1, t2⟩) (fun hH => ?_)
      have hHeld := hH (by kernel_rfl)
      clear hH
      clear hK K
      (try simp only [Act.put, List.getElem_toArray, List.getElem_cons_succ, List.getElem_cons_zero, List.setIfInBounds_toArray, List.set_cons_zero, List.set_cons_succ])
      refine anyF_take (i := 6) (v := ?vz5004) rfl (by kernel_rfl) (by kernel_rfl) (by kernel_rfl) (by kernel_rfl) (by kernel_rfl) (fun _ _ _ h => h) (Or.inl ⟨by kernel_rfl, ?yz5004⟩) (by assumption) ?rz5004
      case yz5004 => (intro w' hSw; (try dsimp only at hSw); go_simp; (try with_reducible rfl))
      (try simp only [Act.put, List.getElem_toArray, List.getElem_cons_succ, List.getElem_cons_zero, List.setIfInBounds_toArray, List.set_cons_zero, List.set_cons_succ])
      refine anyF_take (i := 7) (v := ?vz5005) rfl (by kernel_rfl) (by kernel_rfl) (by kernel_rfl) (by kernel_rfl) (by kernel_rfl) (fun _ _ _ h => h) (Or.inl ⟨by kernel_rfl, ?yz5005⟩) (by assumption) ?rz5005
      case yz5005 => (intro w' hSw; (try dsimp only at hSw); go_simp; (try with_reducible rfl))
      (try simp only [Act.put, List.getElem_toArray, List.getElem_cons_succ, List.getElem_cons_zero, List.setIfInBounds_toArray, List.set_cons_zero, List.set_cons_succ])
      refine anyF_free (i := 8) (v := ?vz5006) rfl (by decide) (by kernel_rfl) (by kernel_rfl) (by kernel_rfl) (fun _ _ _ h => h) (Or.inl ⟨by kernel_rfl, ?yz5006⟩) (by assumption) ?rz5006
      case yz5006 => (intro w' _; go_simp; (try with_reducible rfl))
      (try simp only [Act.put, List.getElem_toArray, List.getElem_cons_succ, List.getElem_cons_zero, List.setIfInBounds_toArray, List.set_cons_zero, List.set_cons_succ])
      refine anyF_one (i := 9) (by kernel_rfl) (anyF_step rfl (fun K hK => ?_))
      go_simp
      refine hK.out _ _ (fun h => absurd h (by decide +kernel)) (fun _ => ?_)
      clear hK K
      (try simp only [Act.put, List.getElem_toArray, List.getElem_cons_succ, List.getElem_cons_zero, List.setIfInBounds_toArray, List.set_cons_zero, List.set_cons_succ])
      refine anyF_done (by kernel_rfl) ?_ _
      refine NoPanic.normal ?_
      go_wp2
      go_roundw
      case rel => exact ⟨j, t, ta', tc', T, xa', xc', S', q', by go_num, by omega, HQ4.out, HBI4.out, HD3.out.renew HB4.out HO4.out⟩
      case measure => simp [intOf]
    · obtain rfl : k = 0 := by omega
      have r0 := HDR.out.res.three0
      have r1 := HDR.out.res.three1
      have r2 := HDR.out.res.three2
      have f0 := HDR.out.res.frozen 0
      have f1 := HDR.out.res.frozen 1
      have f2 := HDR.out.res.frozen 2
      go_wp2
      have z := HDR.out.end_
      have z0 : _ = some _ := z.three0
      have z1 : _ = some _ := z.three1
      have z2 : _ = some _ := z.three2
      exact bodyPost_ret (v := .agg #[.int .i64 t, .slice ta T.length tc, .slice xa S.length xc]) (by simp [results, Tryz.results61, go_sem, z0, z1, z2]) rfl (HDR.out.gives HQ.out HBI.out)

end Go.Proofs.YthjbekgognfiiaaGreat
