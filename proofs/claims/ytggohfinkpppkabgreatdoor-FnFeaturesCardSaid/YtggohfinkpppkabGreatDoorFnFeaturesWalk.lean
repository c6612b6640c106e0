/-
  The walk of laws.FnFeatures. By an AI agent.
-/
import Derived.Test.YtggohfinkpppkabGreatDoorGFact
import Derived.Test.YtggohfinkpppkabGreatDoorPairI
import Derived.Test.YtggohfinkpppkabGreatDoorGDraw
import Derived.Test.YtggohfinkpppkabGreatDoorSameI
namespace Go.Proofs.YtggohfinkpppkabGreatDoor
open Go.RowKit
set_option linter.unusedVariables false

theorem full_pair {A0 X : ByteArray} {e0 e1 : Int} (hl : A0.data.toList.length ≤ 40) (hX : nstr (normL A0.data.toList) = X) (h0 : edR A0.data.toList A0.data.toList = e0) (h1 : setR (tokensR A0.data.toList) (tokensR A0.data.toList) = e1) (h : ¬ X.size = 0) : e0 = 1000 ∧ e1 = 1000 := by
  have hn : normL A0.data.toList ≠ [] := fun e => h (by rw [← hX, nstr_size, e]; rfl)
  exact ⟨by rw [← h0]; exact edR_self hl hn, by rw [← h1]; exact setR_self hn⟩

set_option maxRecDepth 100000 in
set_option maxHeartbeats 6400000 in
theorem FnFeatures_core (A : Option Addr) (len cap : Nat) (w : World) (hcode : CodeAt w w.heap.size A len) (ht : TabAt w) (hT : SpT w) :
    Calls Tryz.prog 3 #[.slice A len cap] w fun e w' => e = .returned (.bool true) ∧ Below w.heap.size w w' := by
  have HCODE := Lib.hid hcode
  have HT := Lib.hid ht
  have HSP := Lib.hid hT
  have hlen : (len : Int) ≤ 1048576 := by have := hcode.1; omega
  clear hcode ht hT
  go_enter Tryz.func3, Tryz.ntmps3
  go_wp2_with (go_at_call 5; (refine (big_no A len cap _ hlen).mono ?_); rintro e w0 ⟨rfl, rfl⟩; refine Hid.out ?_)
  refine Lib.hid ?_
  clear hlen
  go_wp2_with (go_at_call 6; ((with_reducible refine (drawPF_any A len cap _ HCODE.out).mono ?_); rintro e w1 ⟨s, k, v, a, cp, l, s2, k2, v2, a2, cp2, l2, rfl, hs, hs2, hb⟩; refine Hid.out ?_))
  obtain ⟨wb, hwb⟩ : ∃ wb, wb = (w1.alloc (.cells #[.int .i64 s, .int .i64 k, .int .i64 v, .slice a l.length cp] 26)).alloc (.cells #[.int .i64 s2, .int .i64 k2, .int .i64 v2, .slice a2 l2.length cp2] 26) := ⟨_, rfl⟩
  have RA := Lib.hid (show RecB 26 wb w1.heap.size s k v (.slice a l.length cp) by rw [hwb]; exact (RecB.new _ _ _ _ _ _ _ rfl).alloc _)
  have RB := Lib.hid (show RecB 26 wb (w1.heap.size + 1) s2 k2 v2 (.slice a2 l2.length cp2) by rw [hwb]; exact RecB.new _ _ _ _ _ _ _ (by simp))
  have HA := Lib.hid (show Sm wb a l cp by rw [hwb]; exact (hs.alloc _).alloc _)
  have HB := Lib.hid (show Sm wb a2 l2 cp2 by rw [hwb]; exact (hs2.alloc _).alloc _)
  have BW := Lib.hid (show Below w.heap.size w wb by rw [hwb]; exact (hb.alloc hb.size _).alloc (by have := hb.size; simp; omega) _)
  have HWB := Lib.hid hwb
  clear hs hs2 hb
  obtain ⟨r, hr⟩ : ∃ r, pairR s k v l s2 k2 v2 l2 = r := ⟨_, rfl⟩
  have HR := Lib.hid hr
  have HR2 := Lib.hid ((pair_symm s2 k2 v2 l2 s k v l).trans hr)
  have hrl : r.length ≤ 6 := by rw [← hr]; exact pair_len s k v l s2 k2 v2 l2
  have HRM := Lib.hid (show r.length ≤ maxLen by unfold maxLen; omega)
  clear hr hwb
  refine Lib.hid ?_
  have qa0 := RA.out.c0
  have qb0 := RB.out.c0
  have qa1 := RA.out.c1
  have qb1 := RB.out.c1
  have qa2 := RA.out.c2
  have qb2 := RB.out.c2
  have qa3 := RA.out.c3
  have qb3 := RB.out.c3
  go_wp2_with (go_at_call 7; rw [← HWB.out]; ((with_reducible refine (pf2_impl s k v s2 k2 v2 a a2 cp cp2 l l2 r _ HR.out HA.out HB.out (HT.out.on BW.out) (HSP.out.below BW.out)).mono ?_); rintro e w11 ⟨af, cf, rfl, ho, hb⟩; refine Hid.out ?_))
  have RA_1 := Lib.hid (RA.out.below hb)
  have RB_1 := Lib.hid (RB.out.below hb)
  have HA_1 := Lib.hid (HA.out.below hb)
  have HB_1 := Lib.hid (HB.out.below hb)
  have Of_1 := Lib.hid ho
  have BW_1 := Lib.hid (BW.out.trans (hb.mono BW.out.size))
  clear ho hb
  clear qa0 qb0 qa1 qb1 qa2 qb2 qa3 qb3
  have qa0 := RA_1.out.c0
  have qb0 := RB_1.out.c0
  have qa1 := RA_1.out.c1
  have qb1 := RB_1.out.c1
  have qa2 := RA_1.out.c2
  have qb2 := RB_1.out.c2
  have qa3 := RA_1.out.c3
  have qb3 := RB_1.out.c3
  refine Lib.hid ?_
  go_wp2_with (go_at_call 9; ((with_reducible refine (pf2_spec s k v s2 k2 v2 a a2 cp cp2 l l2 r _ HR.out HA_1.out HB_1.out (HSP.out.below BW_1.out)).mono ?_); rintro e w12 ⟨ag, cg, rfl, ho, hb⟩; refine Hid.out ?_))
  have RA_2 := Lib.hid (RA_1.out.below hb)
  have RB_2 := Lib.hid (RB_1.out.below hb)
  have HA_2 := Lib.hid (HA_1.out.below hb)
  have HB_2 := Lib.hid (HB_1.out.below hb)
  have Of_2 := Lib.hid (Of_1.out.below hb)
  have Og_2 := Lib.hid ho
  have BW_2 := Lib.hid (BW_1.out.trans (hb.mono BW_1.out.size))
  clear ho hb
  clear qa0 qb0 qa1 qb1 qa2 qb2 qa3 qb3
  refine Lib.hid ?_
  go_wp2_with (go_at_call 8; ((with_reducible refine (same_ints af ag cf cg r _ HRM.out Of_2.out.inI Og_2.out.inI).mono ?_); rintro e w13 ⟨rfl, hb⟩; refine Hid.out ?_))
  have RA_3 := Lib.hid (RA_2.out.below hb)
  have RB_3 := Lib.hid (RB_2.out.below hb)
  have HA_3 := Lib.hid (HA_2.out.below hb)
  have HB_3 := Lib.hid (HB_2.out.below hb)
  have Of_3 := Lib.hid (Of_2.out.below hb)
  have Og_3 := Lib.hid (Og_2.out.below hb)
  have BW_3 := Lib.hid (BW_2.out.trans (hb.mono BW_2.out.size))
  clear hb
  have qa0 := RA_3.out.c0
  have qb0 := RB_3.out.c0
  have qa1 := RA_3.out.c1
  have qb1 := RB_3.out.c1
  have qa2 := RA_3.out.c2
  have qb2 := RB_3.out.c2
  have qa3 := RA_3.out.c3
  have qb3 := RB_3.out.c3
  refine Lib.hid ?_
  go_wp2_with (go_at_call 7; ((with_reducible refine (pf2_impl s2 k2 v2 s k v a2 a cp2 cp l2 l r _ HR2.out HB_3.out HA_3.out (HT.out.on BW_3.out) (HSP.out.below BW_3.out)).mono ?_); rintro e w14 ⟨ah, ch, rfl, ho, hb⟩; refine Hid.out ?_))
  have RA_4 := Lib.hid (RA_3.out.below hb)
  have RB_4 := Lib.hid (RB_3.out.below hb)
  have HA_4 := Lib.hid (HA_3.out.below hb)
  have HB_4 := Lib.hid (HB_3.out.below hb)
  have Of_4 := Lib.hid (Of_3.out.below hb)
  have Oh_4 := Lib.hid ho
  have BW_4 := Lib.hid (BW_3.out.trans (hb.mono BW_3.out.size))
  clear ho hb
  clear qa0 qb0 qa1 qb1 qa2 qb2 qa3 qb3
  refine Lib.hid ?_
  go_wp2_with (go_at_call 8; ((with_reducible refine (same_ints af ah cf ch r _ HRM.out Of_4.out.inI Oh_4.out.inI).mono ?_); rintro e w15 ⟨rfl, hb⟩; refine Hid.out ?_))
  have RA_5 := Lib.hid (RA_4.out.below hb)
  have RB_5 := Lib.hid (RB_4.out.below hb)
  have HA_5 := Lib.hid (HA_4.out.below hb)
  have HB_5 := Lib.hid (HB_4.out.below hb)
  have Of_5 := Lib.hid (Of_4.out.below hb)
  have Oh_5 := Lib.hid (Oh_4.out.below hb)
  have BW_5 := Lib.hid (BW_4.out.trans (hb.mono BW_4.out.size))
  clear hb
  obtain ⟨x, hx⟩ : ∃ x, recB s k v l = x := ⟨_, rfl⟩
  obtain ⟨y, hy⟩ : ∃ y, recB s2 k2 v2 l2 = y := ⟨_, rfl⟩
  have HX := Lib.hid hx
  have HY := Lib.hid hy
  clear hx hy
  have qa0 := RA_5.out.c0
  have qb0 := RB_5.out.c0
  have qa1 := RA_5.out.c1
  have qb1 := RB_5.out.c1
  have qa2 := RA_5.out.c2
  have qb2 := RB_5.out.c2
  have qa3 := RA_5.out.c3
  have qb3 := RB_5.out.c3
  cases x
  · skip
    obtain rfl : [] = r := by rw [← HR.out, pair_no1 HX.out]
    refine Lib.hid ?_
    go_wp2_with (go_at_call 10; ((with_reducible refine (iv_spec s k v a cp l _ _ HX.out HA_5.out).mono ?_); rintro e w16 ⟨rfl, hb⟩; refine Hid.out ?_))
    have RA_6 := Lib.hid (RA_5.out.below hb)
    have RB_6 := Lib.hid (RB_5.out.below hb)
    have HA_6 := Lib.hid (HA_5.out.below hb)
    have HB_6 := Lib.hid (HB_5.out.below hb)
    have Of_6 := Lib.hid (Of_5.out.below hb)
    have BW_6 := Lib.hid (BW_5.out.trans (hb.mono BW_5.out.size))
    clear hb
    refine Lib.hid ?_
    go_wp2
    go_ret
    exact ⟨rfl, BW_6.out⟩
  · cases y
    · skip
      obtain rfl : [] = r := by rw [← HR.out, pair_no2 HY.out]
      refine Lib.hid ?_
      go_wp2_with (go_at_call 10; ((with_reducible refine (iv_spec s k v a cp l _ _ HX.out HA_5.out).mono ?_); rintro e w16 ⟨rfl, hb⟩; refine Hid.out ?_))
      have RA_6 := Lib.hid (RA_5.out.below hb)
      have RB_6 := Lib.hid (RB_5.out.below hb)
      have HA_6 := Lib.hid (HA_5.out.below hb)
      have HB_6 := Lib.hid (HB_5.out.below hb)
      have Of_6 := Lib.hid (Of_5.out.below hb)
      have BW_6 := Lib.hid (BW_5.out.trans (hb.mono BW_5.out.size))
      clear hb
      clear qa0 qb0 qa1 qb1 qa2 qb2 qa3 qb3
      have qa0 := RA_6.out.c0
      have qb0 := RB_6.out.c0
      have qa1 := RA_6.out.c1
      have qb1 := RB_6.out.c1
      have qa2 := RA_6.out.c2
      have qb2 := RB_6.out.c2
      have qa3 := RA_6.out.c3
      have qb3 := RB_6.out.c3
      refine Lib.hid ?_
      go_wp2_with (go_at_call 10; ((with_reducible refine (iv_spec s2 k2 v2 a2 cp2 l2 _ _ HY.out HB_6.out).mono ?_); rintro e w17 ⟨rfl, hb⟩; refine Hid.out ?_))
      have RA_7 := Lib.hid (RA_6.out.below hb)
      have RB_7 := Lib.hid (RB_6.out.below hb)
      have HA_7 := Lib.hid (HA_6.out.below hb)
      have HB_7 := Lib.hid (HB_6.out.below hb)
      have Of_7 := Lib.hid (Of_6.out.below hb)
      have BW_7 := Lib.hid (BW_6.out.trans (hb.mono BW_6.out.size))
      clear hb
      refine Lib.hid ?_
      go_wp2
      go_ret
      exact ⟨rfl, BW_7.out⟩
    · have HRF := Lib.hid (show featsL l l2 = r by rw [← HR.out, pair_yes' HX.out HY.out])
      have hr6 : r.length = 6 := by rw [← HRF.out]; rfl
      have HFV := Lib.hid (show fvB r = true by rw [← HRF.out]; exact feats_fv l l2)
      have HR6 := Lib.hid hr6
      have h60 : ((r.length : Int) == 0) = false := by simp; intro e; rw [e] at hr6; simp at hr6
      clear hr6
      obtain ⟨A0, A1, A2, A3, ba, oa, hF⟩ := fours_of HA_5.out HX.out
      have HF := Lib.hid hF
      have hl40 : A0.data.toList.length ≤ 40 ∧ A2.size ≤ 1000 ∧ A0.size ≤ 1000 := ⟨by have h := (rec_list HX.out).2 A0.data.toList (by rw [hF.2.2.2.2.1]; simp); exact h, hF.2.2.2.2.2.2.2.2.1, hF.2.2.2.2.2.2.1⟩
      obtain ⟨e0, he0⟩ : ∃ x, edR A0.data.toList A0.data.toList = x := ⟨_, rfl⟩
      obtain ⟨e1, he1⟩ : ∃ x, setR (tokensR A0.data.toList) (tokensR A0.data.toList) = x := ⟨_, rfl⟩
      obtain ⟨e2, he2⟩ : ∃ x, setR (soundR A0.data.toList) (soundR A0.data.toList) = x := ⟨_, rfl⟩
      obtain ⟨e3, he3⟩ : ∃ x, edR A1.data.toList A1.data.toList = x := ⟨_, rfl⟩
      obtain ⟨e4, he4⟩ : ∃ x, yearR A2.data.toList A2.data.toList = x := ⟨_, rfl⟩
      obtain ⟨e5, he5⟩ : ∃ x, phR (digL A3.data.toList) (digL A3.data.toList) = x := ⟨_, rfl⟩
      have HG := Lib.hid (show pairR s k v l s k v l = [e0, e1, e2, e3, e4, e5] by rw [pair_yes' HX.out HX.out, feats_of hF hF, he0, he1, he2, he3, he4, he5])
      obtain ⟨X, hX⟩ : ∃ X, nstr (normL A0.data.toList) = X := ⟨_, rfl⟩
      obtain ⟨yy, hyy⟩ : ∃ x, yrR A2.data.toList = x := ⟨_, rfl⟩
      have HXN := Lib.hid hX
      have HYY := Lib.hid hyy
      have K0 := Lib.hid (full_pair hl40.1 hX he0 he1)
      have K4 := Lib.hid (show 0 < yy → e4 = 1000 from fun h => by rw [← he4]; exact yearR_self (by rw [hyy]; exact h))
      have ha0s := hl40.2.2
      have ha2s := hl40.2.1
      clear hl40 he0 he1 he2 he3 he4 he5 hX hyy hF
      refine Lib.hid ?_
      go_wp2_with (go_at_call 7; ((with_reducible refine (pf2_impl s k v s k v a a cp cp l l [e0, e1, e2, e3, e4, e5] _ HG.out HA_5.out HA_5.out (HT.out.on BW_5.out) (HSP.out.below BW_5.out)).mono ?_); rintro e w16 ⟨ag, cg, rfl, ho, hb⟩; refine Hid.out ?_))
      have RA_6 := Lib.hid (RA_5.out.below hb)
      have RB_6 := Lib.hid (RB_5.out.below hb)
      have HA_6 := Lib.hid (HA_5.out.below hb)
      have HB_6 := Lib.hid (HB_5.out.below hb)
      have Of_6 := Lib.hid (Of_5.out.below hb)
      have Og_6 := Lib.hid ho
      have BW_6 := Lib.hid (BW_5.out.trans (hb.mono BW_5.out.size))
      clear ho hb
      obtain ⟨bg, og, rfl, -, hgc⟩ := (Og_6.out.inI) (by simp)
      have g0 := hgc 0 e0 rfl
      have g1 := hgc 1 e1 rfl
      have g4 := hgc 4 e4 rfl
      simp only [Nat.add_zero] at g0
      have G0 := Lib.hid g0
      have G1 := Lib.hid g1
      have G4 := Lib.hid g4
      clear hgc g0 g1 g4
      obtain ⟨A0', A1', A2', A3', ba', oa', hF9⟩ := fours_of HA_6.out HX.out
      have hl := HF.out.2.2.2.2.1.symm.trans hF9.2.2.2.2.1
      have hadr := HF.out.1.symm.trans hF9.1
      simp only [List.cons.injEq, and_true] at hl
      obtain ⟨hl0, hl1, hl2, hl3⟩ := hl
      obtain rfl : A0 = A0' := ByteArray.ext (Array.ext' hl0)
      obtain rfl : A2 = A2' := ByteArray.ext (Array.ext' hl2)
      injection hadr with hadr
      injection hadr with hadr1 hadr2
      subst hadr1 hadr2
      clear hl0 hl1 hl2 hl3
      have f0 := hF9.2.2.2.2.2.1.1
      have F2 := Lib.hid hF9.2.2.2.2.2.1.2.2.1
      have HLL := Lib.hid hF9.2.2.1
      have HAD := Lib.hid hF9.1
      skip
      clear qa0 qb0 qa1 qb1 qa2 qb2 qa3 qb3
      have qa3 := RA_6.out.c3
      rw [HLL.out, HAD.out] at qa3
      clear hF9
      refine Lib.hid ?_
      go_wp2_with (go_at_call 11; ((with_reducible refine (spec_no_at A0 X _ ha0s HXN.out).mono ?_); rintro e w17 ⟨rfl, hb⟩; refine Hid.out ?_))
      have g0 := (hb.cell (World.block_lt_of_cell? _ _ G0.out)).trans G0.out
      have g1 := (hb.cell (World.block_lt_of_cell? _ _ G1.out)).trans G1.out
      have g4 := (hb.cell (World.block_lt_of_cell? _ _ G4.out)).trans G4.out
      have f2 := (hb.cell (World.block_lt_of_cell? _ _ F2.out)).trans F2.out
      have G4b := Lib.hid g4
      have qx3 := (hb.cell (World.block_lt_of_cell? _ _ qa3)).trans qa3
      have Of_7 := Lib.hid (Of_6.out.below hb)
      have BW_7 := Lib.hid (BW_6.out.trans (hb.mono BW_6.out.size))
      clear hb f0 qa3 g4
      have hXw : X.size = 0 ∨ ¬ X.size = 0 := by omega
      have hYw : 0 < yy ∨ ¬ 0 < yy := by omega
      rcases hXw with hXw | hXw
      · obtain ⟨x1, x2⟩ := empties hXw
        clear hXw
        refine Lib.hid ?_
        go_wp2_with (go_at_call 12; ((with_reducible refine (yr_spec A2 yy _ (by omega) HYY.out).mono ?_); rintro e w18 ⟨rfl, hb⟩; refine Hid.out ?_))
        have g4 := (hb.cell (World.block_lt_of_cell? _ _ G4b.out)).trans G4b.out
        have Of_8 := Lib.hid (Of_7.out.below hb)
        have BW_8 := Lib.hid (BW_7.out.trans (hb.mono BW_7.out.size))
        clear hb g0 g1 f2 qx3
        rcases hYw with hYw | hYw
        · obtain rfl := K4.out hYw
          refine Lib.hid ?_
          go_wp2_with (go_at_call 13; ((with_reducible refine (fv_impl af cf r _ _ (by omega) Of_8.out.inI HFV.out).mono ?_); rintro e w' ⟨rfl, rfl⟩))
          go_ret
          exact ⟨rfl, BW_8.out⟩
        · skip
          refine Lib.hid ?_
          go_wp2_with (go_at_call 13; ((with_reducible refine (fv_impl af cf r _ _ (by omega) Of_8.out.inI HFV.out).mono ?_); rintro e w' ⟨rfl, rfl⟩))
          go_ret
          exact ⟨rfl, BW_8.out⟩
      · obtain ⟨x1, x2⟩ := fulls hXw
        obtain ⟨rfl, rfl⟩ := K0.out hXw
        clear hXw
        refine Lib.hid ?_
        go_wp2_with (go_at_call 12; ((with_reducible refine (yr_spec A2 yy _ (by omega) HYY.out).mono ?_); rintro e w18 ⟨rfl, hb⟩; refine Hid.out ?_))
        have g4 := (hb.cell (World.block_lt_of_cell? _ _ G4b.out)).trans G4b.out
        have Of_8 := Lib.hid (Of_7.out.below hb)
        have BW_8 := Lib.hid (BW_7.out.trans (hb.mono BW_7.out.size))
        clear hb g0 g1 f2 qx3
        rcases hYw with hYw | hYw
        · obtain rfl := K4.out hYw
          refine Lib.hid ?_
          go_wp2_with (go_at_call 13; ((with_reducible refine (fv_impl af cf r _ _ (by omega) Of_8.out.inI HFV.out).mono ?_); rintro e w' ⟨rfl, rfl⟩))
          go_ret
          exact ⟨rfl, BW_8.out⟩
        · skip
          refine Lib.hid ?_
          go_wp2_with (go_at_call 13; ((with_reducible refine (fv_impl af cf r _ _ (by omega) Of_8.out.inI HFV.out).mono ?_); rintro e w' ⟨rfl, rfl⟩))
          go_ret
          exact ⟨rfl, BW_8.out⟩

theorem FnFeatures_walk (a0 : Option Addr) (len0 c0 : Nat) (l0 : List Int) (w : World) (h : IsRow .u8 w a0 len0 c0 l0) (ht : TabAt w) (hT : SpT w) :
    Calls Tryz.prog 3 #[.slice a0 len0 c0] w fun e w' => e = .returned (.bool true) ∧ Below w.heap.size w w' := by
  by_cases hlen : len0 ≤ 1048576
  · exact FnFeatures_core a0 len0 c0 w (codeAt_of h hlen) ht hT
  · have hl : 1048576 < (len0 : Int) := by omega
    go_enter Tryz.func3, Tryz.ntmps3
    go_wp2_with (go_at_call 5; (refine (big_yes a0 len0 c0 _ hl).mono ?_); rintro e w0 ⟨rfl, rfl⟩)
    go_ret
    exact ⟨rfl, Below.refl _ _⟩

end Go.Proofs.YtggohfinkpppkabGreatDoor
