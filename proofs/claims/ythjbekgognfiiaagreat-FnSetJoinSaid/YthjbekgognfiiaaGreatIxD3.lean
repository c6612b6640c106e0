/-
  The index that spec.l12Any draws; what DrawSetCandidates and DrawInsertSet of spec hand back. By an AI agent.
-/
import Derived.Test.YthjbekgognfiiaaGreatIxD2
namespace Go.Proofs.YthjbekgognfiiaaGreat
open Go.RowKit
set_option linter.unusedVariables false

theorem drix_from {w w1 w2 : World} {B c g : Nat} {t : Int} {T : List TC} {ta xa : Option Addr} {tc n xc : Nat} {q : List XS} (hr : BlkV w1 g 27 #[.int .i64 0, .slice none 0 0, .slice none 0 0]) (hg1 : w.grownBy w1 (some c)) (hc : c < w.heap.size) (hl : w.heap.size ≤ g)
    (ho : OwnIx w2 w1.heap.size w2.heap.size (.slice ta T.length tc) (.slice xa n xc) T q) (hcur : Cur w2 B c) (hg : w1.grownBy w2 (some c)) :
    DrIx w (w2.alloc (.cells #[.int .i64 t, .slice ta T.length tc, .slice xa n xc] 27)) B c w2.heap.size g t T ta tc xa n xc q := by
  have hg4 := hr.lt
  have hsz := hg.size
  have hsz1 := hg1.size
  have hba := (Below.refl w2.heap.size w2).alloc (Nat.le_refl _) (.cells #[.int .i64 t, .slice ta T.length tc, .slice xa n xc] 27)
  have h1 : OwnT w2 (g + 1) (.slice ta T.length tc) T := ho.tab.1.mono (by omega)
  have h2 : OwnX w2 (g + 1) (.slice xa n xc) q := ho.sets.1.mono (by omega)
  exact ⟨BlkV.new _ _ _, (hr.grown hg (by simp; omega)).alloc _, h1.below hba, h2.below hba, ho.apart, (fun e => by have := (World.ownsRow.lt h1 _ e).2; omega), (fun e => by have := (World.ownsRow.lt h2.out _ e).2; omega), (fun p hp e => by have := (World.ownsRow.lt (h2.row p hp) _ e).2; omega), hcur.alloc _, grown_below (grown_trans hg1 hg) (hba.mono (by omega)), hc, hl, by omega⟩
/-- the threshold is stored -/
theorem DrIx.sett {w W : World} {B c BX g n : Nat} {t : Int} {T : List TC} {ta xa : Option Addr} {tc xc : Nat} {q : List XS} (h : DrIx w W B c BX g t T ta tc xa n xc q) (t' : Int) : DrIx w (W.setCell ⟨BX, 0, none⟩ (.int .i64 t')) B c BX g t' T ta tc xa n xc q := by
  have hc := h.hc
  have hl := h.lowg
  have hn := h.ne
  have hb : Below BX W (W.setCell ⟨BX, 0, none⟩ (.int .i64 t')) := (Below.refl BX W).setCell (Nat.le_refl _) _
  have hg := egrown_set W BX 0 (.int .i64 t')
  exact ⟨h.box.set_ 0 _, h.res.other _ _ (by simp; omega), row_keptO h.tab hg (fun k hk e => h.nbT (by cases hk; exact e)), ⟨row_keptO h.sets.out hg (fun k hk e => h.nbX (by cases hk; exact e)), fun p hp => row_keptO (h.sets.row p hp) hg (fun k hk e => h.nbQ p hp (by cases hk; exact e)), h.sets.apart, h.sets.dis⟩, h.apart, h.nbT, h.nbX, h.nbQ, h.cur.below hb (by omega), grown_below h.grown (hb.mono (by omega)), hc, hl, hn⟩
/-- a set is appended -/
theorem DrIx.addset {w W W' : World} {B c BX g n : Nat} {t id : Int} {T : List TC} {ta xa : Option Addr} {tc xc : Nat} {q : List XS} {l : List Str} {vn v' : Value} (h : DrIx w W B c BX g t T ta tc xa n xc q) (hv : OwnS W (g + 1) vn l)
    (hvx : ∀ j, vn.ownBlock = some j → (Value.slice xa n xc).ownBlock ≠ some j ∧ (∀ p ∈ q, p.2.ownBlock ≠ some j) ∧ (Value.slice ta T.length tc).ownBlock ≠ some j ∧ BX ≠ j)
    (hg : W.grownBy W' (Value.slice xa n xc).ownBlock) (hat : v'.ownBlock = (Value.slice xa n xc).ownBlock ∨ v'.ownBlock = some W.heap.size) (ho : W'.ownsRow (w.heap.size + 1) 71 2 v' (n + 1) (flatX q ++ [.int .i64 id, vn])) (hgw : g = w.heap.size := by rfl) :
    ∀ {a9 : Option Addr} {c9 : Nat}, v' = .slice a9 (n + 1) c9 → DrIx w (W'.setCell ⟨BX, 2, none⟩ (.slice a9 (n + 1) c9)) B c BX g t T ta tc a9 (n + 1) c9 (q ++ [((id, l), vn)]) := by
  rintro a9 c9 rfl
  subst hgw
  have hc := h.hc
  have hn := h.ne
  have hql := h.sets.len
  have hXl := fun k hk => World.ownsRow.lt h.sets.out k hk
  have hX := h.sets.ins (k := q.length) (id := id) (l := l) (vn := vn) (v' := .slice a9 (n + 1) c9) hv (fun j hj => ⟨(hvx j hj).1, (hvx j hj).2.1⟩) hg hat (Nat.le_refl _)
    (by rw [List.take_of_length_le (by rw [flatX_len]; omega), List.drop_eq_nil_of_le (by rw [flatX_len]; omega), List.append_nil]; exact ho)
  rw [List.take_length, List.drop_length] at hX
  have hne : ∀ j, (Value.slice a9 (n + 1) c9).ownBlock = some j → (Value.slice xa n xc).ownBlock = some j ∨ j = W.heap.size := fun j hj => by
    rcases hat with h1 | h1
    · exact .inl (h1.symm.trans hj)
    · rw [h1] at hj; cases hj; exact .inr rfl
  have hm : ∀ p ∈ q ++ [((id, l), vn)], p ∈ q ∨ p = ((id, l), vn) := fun p hp => by simpa using hp
  have hbl := h.box.lt
  have hTl := fun k hk => (World.ownsRow.lt h.tab k hk).2
  have hb1 : Below (w.heap.size + 1) W W' := (Below.refl _ W).grown hg h.res.lt (fun k hk => (hXl k hk).1)
  have nX : (Value.slice a9 (n + 1) c9).ownBlock ≠ some BX := fun e => by rcases hne _ e with h1 | h1; exact h.nbX h1; omega
  have nQ : ∀ p ∈ q ++ [((id, l), vn)], p.2.ownBlock ≠ some BX := fun p hp e => by
    rcases hm p hp with h1 | rfl
    · exact h.nbQ p h1 e
    · exact (hvx _ e).2.2.2 rfl
  have hs := egrown_set W' BX 2 (.slice a9 (n + 1) c9)
  have hb2 : Below BX W' (W'.setCell ⟨BX, 2, none⟩ (.slice a9 (n + 1) c9)) := (Below.refl BX W').setCell (Nat.le_refl _) _
  have kT := row_keptO h.tab hg (fun k hk e => (h.apart k e).1 hk)
  refine ⟨(h.box.grown hg (fun e => h.nbX e.symm)).set_ 2 _, (h.res.grown hg (fun e => by have := (hXl _ e.symm).1; omega)).other _ _ (by simp; omega), row_keptO kT hs (fun k hk e => h.nbT (by cases hk; exact e)),
    ⟨row_keptO hX.out hs (fun k hk e => nX (by cases hk; exact e)), fun p hp => row_keptO (hX.row p hp) hs (fun k hk e => nQ p hp (by cases hk; exact e)), hX.apart, hX.dis⟩, fun k hk => ⟨fun e => ?_, fun p hp e => ?_⟩, h.nbT, nX, nQ,
    (h.cur.below hb1 (by omega)).below hb2 (by omega), grown_below (grown_below h.grown (hb1.mono (by omega))) (hb2.mono (by omega)), hc, Nat.le_refl _, hn⟩
  · rcases hne k e with h1 | h1
    · exact (h.apart k hk).1 h1
    · have := hTl k hk; omega
  · rcases hm p hp with h1 | rfl
    · exact (h.apart k hk).2 p h1 e
    · exact (hvx k e).2.2.1 hk

set_option maxRecDepth 100000 in
set_option maxHeartbeats 4000000 in
theorem l12Any_any (B c : Nat) (w : World) (hcur : Cur w B c) : Calls Tryz.prog 28 #[.pointer (some ⟨c, 0, none⟩)] w (SomeIx 13 w B c) := by
  have HLT := Lib.hid hcur.lt
  obtain ⟨w1, hw1⟩ : ∃ w1, w1 = w.alloc (.cells #[.int .i64 0, .slice none 0 0, .slice none 0 0] 27) := ⟨_, rfl⟩
  have HW1 := Lib.hid hw1
  have HC1 := Lib.hid (show Cur w1 B c by rw [hw1]; exact hcur.alloc _)
  have HG1 := Lib.hid (show w.grownBy w1 (some c) by rw [hw1]; exact grown_alloc w _ c)
  have HR1 := Lib.hid (show BlkV w1 w.heap.size 27 #[.int .i64 0, .slice none 0 0, .slice none 0 0] by rw [hw1]; exact BlkV.new _ _ _)
  clear hcur hw1
  go_enter Tryz.func28, Tryz.ntmps28
  go_wp2_with (go_at_call 61; rw [← HW1.out]; (refine (l12Index_any B c w1 HC1.out).mono ?_); rintro e w2 ⟨t, ta, tc, T, xa, xc, S, q, rfl, hq, ho, hbi, hc2, hg2⟩; refine Hid.out ?_)
  have HDX := Lib.hid (drix_from (t := t) HR1.out HG1.out HLT.out (Nat.le_refl _) ho hc2 hg2)
  have HQ := Lib.hid hq
  have HBI := Lib.hid hbi
  have HQL := Lib.hid ho.sets.1.len
  have hsl : S.length ≤ 12 := hbi.2.2.1
  obtain ⟨wx, hwx⟩ : ∃ wx, wx = w2.alloc (.cells #[.int .i64 t, .slice ta T.length tc, .slice xa S.length xc] 27) := ⟨_, rfl⟩
  rw [← hwx] at HDX
  have HWX := Lib.hid hwx
  obtain ⟨BX, hBX⟩ : ∃ BX, BX = w2.heap.size := ⟨_, rfl⟩
  rw [← hBX] at HDX
  clear hq ho hbi hc2 hg2 hwx
  refine Lib.hid ?_
  go_wp2_with (go_at_call 62; rw [← HWX.out]; (refine (l1Below_any B c 14 wx HDX.out.cur (by omega) (by omega)).mono ?_); rintro e wr ⟨m, rfl, hm0, hm1, hcr, hgr⟩; refine Hid.out ?_)
  rw [← hBX]
  have HDR := Lib.hid (HDX.out.step hgr hcr)
  clear hcr hgr hBX
  have q0 := HDR.out.box.three0
  have q1 := HDR.out.box.three1
  have q2 := HDR.out.box.three2
  by_cases h0 : m = 0
  · subst h0
    have fq0 := HDR.out.box.frozen 0
    refine Lib.hid ?_
    clear q0 q1 q2 fq0
    go_wp2_with (go_at_call 41; (refine (l1PickIntP_any (fun _ => True) B c wr.heap.size 2 _ (HDR.out.cur.alloc _) (by omega) (by omega) (by have := HDR.out.cur.lt; omega) (lit_cellsP (fun _ => True) wr [0, 1001] (fun _ _ => trivial))).mono ?_); rintro e w4 ⟨t4, rfl, _, hc4, hg4⟩; refine Hid.out ?_)
    have hd4 := (HDR.out.below_ ((Below.refl _ _).alloc (Nat.le_refl _) _)).step hg4 hc4
    have HD4 := Lib.hid (hd4.sett t4)
    have q0 := hd4.box.three0
    have fq0 := hd4.box.frozen 0
    clear hc4 hg4 hd4
    refine Lib.hid ?_
    have r0 := HD4.out.res.three0
    have r1 := HD4.out.res.three1
    have r2 := HD4.out.res.three2
    have f0 := HD4.out.res.frozen 0
    have f1 := HD4.out.res.frozen 1
    have f2 := HD4.out.res.frozen 2
    have d0 := HD4.out.box.three0
    have d1 := HD4.out.box.three1
    have d2 := HD4.out.box.three2
    go_wp2
    have z := HD4.out.end_
    have z0 : _ = some _ := z.three0
    have z1 : _ = some _ := z.three1
    have z2 : _ = some _ := z.three2
    exact bodyPost_ret (v := .agg #[.int .i64 t4, .slice ta T.length tc, .slice xa S.length xc]) (by simp [results, Tryz.results28, go_sem, z0, z1, z2]) rfl (HD4.out.gives HQ.out (bix_more HBI.out (by omega)))
  · by_cases h1 : m = 1
    · subst h1
      have HLI := Lib.hid (show ∀ j, j < 3 → ∃ z : Int, True ∧ ((wr.alloc (.cells #[.int .i64 0, .int .i64 999, .int .i64 1000] 3)).drew).cell? ⟨wr.heap.size, j, none⟩ = some (.int .i64 z) from lit_cellsP (fun _ => True) wr [0, 999, 1000] (fun _ _ => trivial))
      have qi : ((wr.alloc (.cells #[.int .i64 0, .int .i64 999, .int .i64 1000] 3)).drew).cell? ⟨BX, 2, none⟩ = some (.slice xa S.length xc) := (HDR.out.box.alloc _).three2
      refine Lib.hid ?_
      go_wp2_with (fail)
      refine wp_region_noPanic ?_
      refine wp_region_F (S := fun w' => w'.cell? ⟨BX, 2, none⟩ = some (.slice xa S.length xc)) 11 (by kernel_rfl) (q2) (fun hHeld => ?_)
      refine anyF_take (i := 0) (v := ?vz7001) rfl (by kernel_rfl) (by kernel_rfl) (by kernel_rfl) (by kernel_rfl) (by kernel_rfl) (fun _ _ _ h => h) (Or.inl ⟨by kernel_rfl, ?yz7001⟩) (by assumption) ?rz7001
      case yz7001 => (intro w' hSw; (try dsimp only at hSw); go_simp; (try with_reducible rfl))
      (try simp only [Act.put, List.getElem_toArray, List.getElem_cons_succ, List.getElem_cons_zero, List.setIfInBounds_toArray, List.set_cons_zero, List.set_cons_succ])
      refine anyF_take (i := 1) (v := ?vz7002) rfl (by kernel_rfl) (by kernel_rfl) (by kernel_rfl) (by kernel_rfl) (by kernel_rfl) (fun _ _ _ h => h) (Or.inl ⟨by kernel_rfl, ?yz7002⟩) (by assumption) ?rz7002
      case yz7002 => (intro w' hSw; (try dsimp only at hSw); go_simp; (try with_reducible rfl))
      (try simp only [Act.put, List.getElem_toArray, List.getElem_cons_succ, List.getElem_cons_zero, List.setIfInBounds_toArray, List.set_cons_zero, List.set_cons_succ])
      refine anyF_take (i := 2) (v := ?vz7003) rfl (by kernel_rfl) (by kernel_rfl) (by kernel_rfl) (by kernel_rfl) (by kernel_rfl) (fun _ _ _ h => h) (Or.inl ⟨by kernel_rfl, ?yz7003⟩) (by assumption) ?rz7003
      case yz7003 => (intro w' hSw; (try dsimp only at hSw); go_simp; (try with_reducible rfl))
      (try simp only [Act.put, List.getElem_toArray, List.getElem_cons_succ, List.getElem_cons_zero, List.setIfInBounds_toArray, List.set_cons_zero, List.set_cons_succ])
      refine anyF_take (i := 5) (v := ?vz7004) rfl (by kernel_rfl) (by kernel_rfl) (by kernel_rfl) (by kernel_rfl) (by kernel_rfl) (fun _ _ _ h => h) (Or.inl ⟨by kernel_rfl, ?yz7004⟩) (by assumption) ?rz7004
      case yz7004 => (intro w' hSw; (try dsimp only at hSw); go_simp; (try with_reducible rfl))
      (try simp only [Act.put, List.getElem_toArray, List.getElem_cons_succ, List.getElem_cons_zero, List.setIfInBounds_toArray, List.set_cons_zero, List.set_cons_succ])
      refine anyF_one (i := 3) (by kernel_rfl) (anyF_step rfl (fun K hK => ?_))
      go_simp
      refine hK.out _ _ (fun _ => qi) (fun hH => ?_)
      have hHeld := hH (by kernel_rfl)
      clear hH
      clear hK K
      (try simp only [Act.put, List.getElem_toArray, List.getElem_cons_succ, List.getElem_cons_zero, List.setIfInBounds_toArray, List.set_cons_zero, List.set_cons_succ])
      refine anyF_one (i := 4) (by kernel_rfl) (anyF_step rfl (fun K hK => ?_))
      go_simp
      refine (l1PickIntP_any (fun _ => True) B c wr.heap.size 3 _ (show Cur (wr.alloc (.cells #[.int .i64 0, .int .i64 999, .int .i64 1000] 3)).drew B c from HDR.out.cur.alloc _) (by omega) (by omega) (by have := HDR.out.cur.lt; omega) HLI.out).mono ?_
      rintro e w3 ⟨zi, rfl, _, hc3, hg3⟩
      have HD3 := Lib.hid ((HDR.out.below_ ((Below.refl _ _).alloc (Nat.le_refl _) _)).step (grown_undrew hg3) hc3)
      have u2 := HD3.out.box.three2
      clear hc3 hg3
      refine hK.out _ _ (fun _ => u2) (fun hH => ?_)
      have hHeld := hH (by kernel_rfl)
      clear hH
      clear hK K
      (try simp only [Act.put, List.getElem_toArray, List.getElem_cons_succ, List.getElem_cons_zero, List.setIfInBounds_toArray, List.set_cons_zero, List.set_cons_succ])
      refine anyF_one (i := 6) (by kernel_rfl) (anyF_step rfl (fun K hK => ?_))
      go_simp
      refine (l3Any_any B c _ HD3.out.cur).mono ?_
      rintro e w4 ⟨a5, c5, l, rfl, ho4, hl4, hx4, hc4, hg4⟩
      have HD4 := Lib.hid (HD3.out.step hg4 hc4)
      have HO4 := Lib.hid ho4
      have HX4 := Lib.hid hx4
      have HL4 := Lib.hid hl4
      have v2 := HD4.out.box.three2
      have hba := (Below.refl w4.heap.size w4).alloc (Nat.le_refl _) (.cells #[.int .i64 zi, .slice a5 l.length c5] 71)
      have HD5 := Lib.hid (HD4.out.below_ hba)
      have HO5 := Lib.hid (OwnS.below ho4 hba)
      have HOL := Lib.hid (fun k hk => World.ownsRow.lt ho4 k hk)
      have HZ5 := Lib.hid (show (w4.alloc (.cells #[.int .i64 zi, .slice a5 l.length c5] 71)).heap.size = w4.heap.size + 1 by simp)
      have HZ34 := Lib.hid hg4.size
      have x2 := HD5.out.box.three2
      clear hc4 hg4 ho4 hx4 hl4 hba
      refine hK.out _ _ (fun _ => v2) (fun hH => ?_)
      have hHeld := hH (by kernel_rfl)
      clear hH
      clear hK K
      (try simp only [Act.put, List.getElem_toArray, List.getElem_cons_succ, List.getElem_cons_zero, List.setIfInBounds_toArray, List.set_cons_zero, List.set_cons_succ])
      refine anyF_take (i := 7) (v := ?vz7005) rfl (by kernel_rfl) (by kernel_rfl) (by kernel_rfl) (by kernel_rfl) (by kernel_rfl) (fun _ _ _ h => h) (Or.inl ⟨by kernel_rfl, ?yz7005⟩) (by assumption) ?rz7005
      case yz7005 => (intro w' hSw; (try dsimp only at hSw); go_simp; (try with_reducible rfl))
      (try simp only [Act.put, List.getElem_toArray, List.getElem_cons_succ, List.getElem_cons_zero, List.setIfInBounds_toArray, List.set_cons_zero, List.set_cons_succ])
      refine anyF_one (i := 8) (by kernel_rfl) (anyF_step rfl (fun K hK => ?_))
      go_simp
      refine hK.out _ _ (fun _ => x2) (fun hH => ?_)
      have hHeld := hH (by kernel_rfl)
      clear hH
      clear hK K
      (try simp only [Act.put, List.getElem_toArray, List.getElem_cons_succ, List.getElem_cons_zero, List.setIfInBounds_toArray, List.set_cons_zero, List.set_cons_succ])
      refine anyF_one (i := 9) (by kernel_rfl) (anyF_step rfl (fun K hK => ?_))
      refine step_ixs rfl _ _ rfl (w.heap.size + 1) (.slice xa S.length xc) S.length (flatX q) w4.heap.size zi (.slice a5 l.length c5) rfl rfl (w4.heap.size + 1) (by have h := HD5.out.sets.out; rw [HQL.out] at h; exact h) (BlkV.new w4 _ _) rfl (by omega) HD5.out.res.lt HZ5.out ?_
      intro g6 cap6 w6 ho6 hg6 hat6
      have HO6 := Lib.hid ho6
      have HG6 := Lib.hid hg6
      have HAT6 := Lib.hid hat6
      have hbx := HD5.out.box.grown hg6 (fun e => HD5.out.nbX e.symm)
      have t2 := hbx.three2
      have ft2 := hbx.frozen 2
      clear ho6 hg6 hat6 hbx
      refine hK.out _ _ (fun _ => t2) (fun hH => ?_)
      have hHeld := hH (by kernel_rfl)
      clear hH
      clear hK K
      (try simp only [Act.put, List.getElem_toArray, List.getElem_cons_succ, List.getElem_cons_zero, List.setIfInBounds_toArray, List.set_cons_zero, List.set_cons_succ])
      refine anyF_take (i := 10) (v := ?vz7006) rfl (by kernel_rfl) (by kernel_rfl) (by kernel_rfl) (by kernel_rfl) (by kernel_rfl) (fun _ _ _ h => h) (Or.inl ⟨by kernel_rfl, ?yz7006⟩) (by assumption) ?rz7006
      case yz7006 => (intro w' hSw; (try dsimp only at hSw); go_simp; (try with_reducible rfl))
      (try simp only [Act.put, List.getElem_toArray, List.getElem_cons_succ, List.getElem_cons_zero, List.setIfInBounds_toArray, List.set_cons_zero, List.set_cons_succ])
      refine anyF_one (i := 11) (by kernel_rfl) (anyF_step rfl (fun K hK => ?_))
      go_simp
      refine hK.out _ _ (fun h => absurd h (by decide +kernel)) (fun _ => ?_)
      clear hK K
      (try simp only [Act.put, List.getElem_toArray, List.getElem_cons_succ, List.getElem_cons_zero, List.setIfInBounds_toArray, List.set_cons_zero, List.set_cons_succ])
      refine anyF_done (by kernel_rfl) ?_ _
      refine NoPanic.normal ?_
      have hda := HD5.out.addset (id := zi) (l := l) (v' := .slice (some ⟨g6, 0, none⟩) (S.length + 1) cap6) (HO5.out.mono (by have := HD3.out.res.lt; omega))
        (fun j hj => ⟨fun e => by have h1 := (HOL.out j hj).1; have h2 := (World.ownsRow.lt HD3.out.sets.out j e).2; omega, (fun p hp e => by have h1 := (HOL.out j hj).1; have h2 := (World.ownsRow.lt (HD3.out.sets.row p hp) j e).2; omega), (fun e => by have h1 := (HOL.out j hj).1; have h2 := (World.ownsRow.lt HD3.out.tab j e).2; omega), (fun e => by have h1 := (HOL.out j hj).1; have h2 := HD3.out.box.lt; omega)⟩)
        HG6.out (by rcases HAT6.out with h | h; exact .inl h.symm; exact .inr (by rw [h, HZ5.out]; rfl)) HO6.out rfl rfl
      obtain ⟨S', hS'⟩ : ∃ S', S ++ [(zi, l)] = S' := ⟨_, rfl⟩
      have HSL := Lib.hid (show S'.length = S.length + 1 by rw [← hS']; simp)
      rw [← HSL.out] at hda ⊢
      have HDA := Lib.hid hda
      have HQA := Lib.hid (show setsX (q ++ [((zi, l), .slice a5 l.length c5)]) = S' by rw [← hS', ← HQ.out]; simp [setsX])
      have HBA := Lib.hid (show BIx 13 T S' from ⟨HBI.out.1, HBI.out.2.1, by rw [HSL.out]; have := HBI.out.2.2.1; omega, fun x hx => by rw [← hS'] at hx; rcases List.mem_append.1 hx with h | h; exact HBI.out.2.2.2 x h; simp at h; subst h; exact ⟨HL4.out, HX4.out⟩⟩)
      clear hda hS' q0 q1 q2 qi t2 ft2
      have r0 := HDA.out.res.three0
      have r1 := HDA.out.res.three1
      have r2 := HDA.out.res.three2
      have f0 := HDA.out.res.frozen 0
      have f1 := HDA.out.res.frozen 1
      have f2 := HDA.out.res.frozen 2
      have d0 := HDA.out.box.three0
      have d1 := HDA.out.box.three1
      have d2 := HDA.out.box.three2
      go_wp2
      have z := HDA.out.end_
      have z0 : _ = some _ := z.three0
      have z1 : _ = some _ := z.three1
      have z2 : _ = some _ := z.three2
      exact bodyPost_ret (v := .agg #[.int .i64 t, .slice ta T.length tc, .slice (some ⟨g6, 0, none⟩) S'.length cap6]) (by simp [results, Tryz.results28, go_sem, z0, z1, z2]) rfl (HDA.out.gives HQA.out HBA.out)
    · refine Lib.hid ?_
      clear q0 q1 q2
      have r0 := HDR.out.res.three0
      have r1 := HDR.out.res.three1
      have r2 := HDR.out.res.three2
      have f0 := HDR.out.res.frozen 0
      have f1 := HDR.out.res.frozen 1
      have f2 := HDR.out.res.frozen 2
      have d0 := HDR.out.box.three0
      have d1 := HDR.out.box.three1
      have d2 := HDR.out.box.three2
      go_wp2
      have z := HDR.out.end_
      have z0 : _ = some _ := z.three0
      have z1 : _ = some _ := z.three1
      have z2 : _ = some _ := z.three2
      exact bodyPost_ret (v := .agg #[.int .i64 t, .slice ta T.length tc, .slice xa S.length xc]) (by simp [results, Tryz.results28, go_sem, z0, z1, z2]) rfl (HDR.out.gives HQ.out (bix_more HBI.out (by omega)))

end Go.Proofs.YthjbekgognfiiaaGreat
