/-
  What impl.PairFeatures answers. By an AI agent.
-/
import Derived.Test.YtggohfinkpppkabGreatDoorPairP
import Derived.Test.YtggohfinkpppkabGreatDoorMeas
import Derived.Test.YtggohfinkpppkabGreatDoorFeatC2
import Derived.Deep.RegionHeld3
import Derived.Deep.RegionWith
namespace Go.Proofs.YtggohfinkpppkabGreatDoor
open Go.RowKit
set_option linter.unusedVariables false

set_option maxRecDepth 100000 in
set_option maxHeartbeats 3200000 in
theorem pf2_impl (s0 k0 v0 s1 k1 v1 : Int) (b0 b1 : Option Addr) (d0 d1 : Nat) (l0 l1 : List Str) (r : List Int) (w : World) (hr : pairR s0 k0 v0 l0 s1 k1 v1 l1 = r) (h0 : Sm w b0 l0 d0) (h1 : Sm w b1 l1 d1) (ht : TabAt w) (hT : SpT w) :
    Calls Tryz.prog 7 #[.agg #[.int .i64 s0, .int .i64 k0, .int .i64 v0, .slice b0 l0.length d0], .agg #[.int .i64 s1, .int .i64 k1, .int .i64 v1, .slice b1 l1.length d1]] w (GivesL w r) := by
  obtain ⟨i0, hi, hz0, hz1, hz2⟩ := info_parts info_i64
  obtain ⟨wb, hwb⟩ : ∃ wb, wb = (w.alloc (.cells #[.int .i64 s0, .int .i64 k0, .int .i64 v0, .slice b0 l0.length d0] 26)).alloc (.cells #[.int .i64 s1, .int .i64 k1, .int .i64 v1, .slice b1 l1.length d1] 26) := ⟨_, rfl⟩
  have B0 := Lib.hid (show Below w.heap.size w wb by rw [hwb]; exact ((Below.refl w.heap.size w).alloc (Nat.le_refl _) _).alloc (by simp) _)
  have RA := Lib.hid (show RecB 26 wb w.heap.size s0 k0 v0 (.slice b0 l0.length d0) by rw [hwb]; exact (RecB.new _ _ _ _ _ _ _ rfl).alloc _)
  have RB := Lib.hid (show RecB 26 wb (w.heap.size + 1) s1 k1 v1 (.slice b1 l1.length d1) by rw [hwb]; exact RecB.new _ _ _ _ _ _ _ (by simp))
  have HWB := Lib.hid hwb
  have H0 := Lib.hid h0
  have H1 := Lib.hid h1
  have HT := Lib.hid ht
  have HS := Lib.hid hT
  have HR := Lib.hid hr
  clear hwb h0 h1 ht hT hr
  obtain ⟨x, hx⟩ : ∃ x, recB s0 k0 v0 l0 = x := ⟨_, rfl⟩
  obtain ⟨y, hy⟩ : ∃ y, recB s1 k1 v1 l1 = y := ⟨_, rfl⟩
  have HX := Lib.hid hx
  have HY := Lib.hid hy
  clear hx hy
  have qa0 := RA.out.c0
  have qa1 := RA.out.c1
  have qa2 := RA.out.c2
  have qa3 := RA.out.c3
  have qb0 := RB.out.c0
  have qb1 := RB.out.c1
  have qb2 := RB.out.c2
  have qb3 := RB.out.c3
  cases x
  · obtain rfl : [] = r := by rw [← HR.out, pair_no1 HX.out]
    go_enter Tryz.func7, Tryz.ntmps7
    go_wp2_with (go_at_call 23; rw [← HWB.out]; ((with_reducible refine (iv_impl s0 k0 v0 _ d0 l0 _ _ HX.out (H0.out.below B0.out)).mono ?_); rintro e w1 ⟨rfl, hb⟩; have B1 := Lib.hid (B0.out.trans (hb.mono B0.out.size)); have RA1 := Lib.hid (RA.out.below hb); have RB1 := Lib.hid (RB.out.below hb); have pb0 := RB1.out.c0; have pb1 := RB1.out.c1; have pb2 := RB1.out.c2; have pb3 := RB1.out.c3; clear hb))
    go_ret
    exact ⟨_, _, rfl, OwnI.nil _ _, B1.out⟩
  · cases y
    · obtain rfl : [] = r := by rw [← HR.out, pair_no2 HY.out]
      go_enter Tryz.func7, Tryz.ntmps7
      go_wp2_with (first | (go_at_call 23; rw [← HWB.out]; ((with_reducible refine (iv_impl s0 k0 v0 _ d0 l0 _ _ HX.out (H0.out.below B0.out)).mono ?_); rintro e w1 ⟨rfl, hb⟩; have B1 := Lib.hid (B0.out.trans (hb.mono B0.out.size)); have RA1 := Lib.hid (RA.out.below hb); have RB1 := Lib.hid (RB.out.below hb); have pb0 := RB1.out.c0; have pb1 := RB1.out.c1; have pb2 := RB1.out.c2; have pb3 := RB1.out.c3; clear hb)) | (go_at_call 23; ((with_reducible refine (iv_impl s1 k1 v1 _ d1 l1 _ _ HY.out (H1.out.below B1.out)).mono ?_); rintro e w2 ⟨rfl, hb⟩; have B2 := Lib.hid (B1.out.trans (hb.mono B1.out.size)); have RA2 := Lib.hid (RA1.out.below hb); have RB2 := Lib.hid (RB1.out.below hb); clear hb)))
      go_ret
      exact ⟨_, _, rfl, OwnI.nil _ _, B2.out⟩
    · obtain ⟨A0, A1, A2, A3, ba, oa, hA⟩ := fours_of H0.out HX.out
      obtain ⟨C0, C1, C2, C3, bc, oc, hC⟩ := fours_of H1.out HY.out
      obtain ⟨r0, hr0⟩ : ∃ x, edR A0.data.toList C0.data.toList = x := ⟨_, rfl⟩
      obtain ⟨r1, hr1⟩ : ∃ x, setR (tokensR A0.data.toList) (tokensR C0.data.toList) = x := ⟨_, rfl⟩
      obtain ⟨r2, hr2⟩ : ∃ x, setR (soundR A0.data.toList) (soundR C0.data.toList) = x := ⟨_, rfl⟩
      obtain ⟨r3, hr3⟩ : ∃ x, edR A1.data.toList C1.data.toList = x := ⟨_, rfl⟩
      obtain ⟨r4, hr4⟩ : ∃ x, yearR A2.data.toList C2.data.toList = x := ⟨_, rfl⟩
      obtain ⟨r5, hr5⟩ : ∃ x, phR (digL A3.data.toList) (digL C3.data.toList) = x := ⟨_, rfl⟩
      have HL := Lib.hid (show [r0, r1, r2, r3, r4, r5] = r by rw [← HR.out, pair_yes' HX.out HY.out, feats_of hA hC, hr0, hr1, hr2, hr3, hr4, hr5])
      have R0 := Lib.hid hr0
      have R1 := Lib.hid hr1
      have R2 := Lib.hid hr2
      have R3 := Lib.hid hr3
      have R4 := Lib.hid hr4
      have R5 := Lib.hid hr5
      have HA := Lib.hid hA
      have HC := Lib.hid hC
      obtain ⟨rfl, hbal, hl0, hd0, -, -, ha0, ha1, ha2, ha3⟩ := hA
      obtain ⟨rfl, hbcl, hl1, hd1, -, -, hc0, hc1, hc2, hc3⟩ := hC
      have HL0 := Lib.hid hl0
      have HL1 := Lib.hid hl1
      clear hr0
      clear hr1
      clear hr2
      clear hr3
      clear hr4
      clear hr5
      clear hl0 hl1
      go_enter Tryz.func7, Tryz.ntmps7
      go_wp2_with (first | (go_at_call 23; rw [← HWB.out]; ((with_reducible refine (iv_impl s0 k0 v0 _ d0 l0 _ _ HX.out (H0.out.below B0.out)).mono ?_); rintro e w1 ⟨rfl, hb⟩; have B1 := Lib.hid (B0.out.trans (hb.mono B0.out.size)); have RA1 := Lib.hid (RA.out.below hb); have RB1 := Lib.hid (RB.out.below hb); have pb0 := RB1.out.c0; have pb1 := RB1.out.c1; have pb2 := RB1.out.c2; have pb3 := RB1.out.c3; clear hb)) | (go_at_call 23; ((with_reducible refine (iv_impl s1 k1 v1 _ d1 l1 _ _ HY.out (H1.out.below B1.out)).mono ?_); rintro e w2 ⟨rfl, hb⟩; have B2 := Lib.hid (B1.out.trans (hb.mono B1.out.size)); have RA2 := Lib.hid (RA1.out.below hb); have RB2 := Lib.hid (RB1.out.below hb); clear hb; refine Hid.out ?_)))
      clear qa0 qa1 qa2 qa3 qb0 qb1 qb2 qb3
      refine Lib.hid ?_
      go_wp2_with (at_make; refine wpList_make_full _ rfl _ _ 29 rfl w.heap.size 3 i0 (.int .i64 0) 1 Tryz.underlying29 hi hz0 hz1 .i64 .i64 _ _ 6 rfl rfl rfl rfl (by rw [hz2]; omega) (by unfold maxLen; omega) B2.out.size ?_; intro w3 hrow hg; refine Hid.out ?_)
      have HROW := Lib.hid hrow
      have HGF := Lib.hid (show w2.heap.size < w3.heap.size by
        rcases hrow.2 with ⟨h, _⟩ | ⟨g, cap', cur, hv, hb2, hg2, _⟩
        · cases h
        · simp only [Value.slice.injEq, Option.some.injEq, Addr.mk.injEq] at hv
          rw [hv.1.1]
          exact (Array.getElem?_eq_some_iff.1 hg2).1)
      have hb3 : Below w2.heap.size w2 w3 := (Below.refl _ _).grown hg (Nat.le_refl _) (fun k hk => by cases hk)
      have B3 := Lib.hid (B2.out.trans (hb3.mono B2.out.size))
      have RA3 := Lib.hid (RA2.out.below hb3)
      have RB3 := Lib.hid (RB2.out.below hb3)
      clear hrow hg hb3
      refine Lib.hid ?_
      go_wp2_with (go_at_call 24; ((with_reducible refine (meas_any _).mono ?_); rintro e w5 ⟨g1, g2, rfl, hg1, hg2, hn1, hn2, hb⟩; refine Hid.out ?_))
      have HROW5 := Lib.hid (World.ownsRow.kept HROW.out (row := none) (w' := w5) ⟨hb.os, hb.tape, hb.output, hb.size, fun i hi _ => hb.block i hi⟩ (.inr (by simp [Value.ownBlock])))
      have B5 := Lib.hid (B3.out.trans (hb.mono B3.out.size))
      have RA5 := Lib.hid (RA3.out.below hb)
      have RB5 := Lib.hid (RB3.out.below hb)
      have HGF5 := Lib.hid (Nat.lt_of_lt_of_le HGF.out hb.size)
      have HZA := Lib.hid (show w.heap.size < w2.heap.size from RA2.out.lt)
      have HZB := Lib.hid (show w.heap.size + 1 < w2.heap.size from RB2.out.lt)
      have HG1 := Lib.hid hg1
      have HG2 := Lib.hid hg2
      have HN1 := Lib.hid (show g1 ≠ w2.heap.size by have := HGF.out; omega)
      have HN2 := Lib.hid (show g2 ≠ w2.heap.size by have := HGF.out; omega)
      have HMA := Lib.hid (show measA g1 g2 = measA g1 g2 from rfl)
      clear hg1 hg2 hn1 hn2 hb pb0 pb1 pb2 pb3
      refine Lib.hid ?_
      go_wp2_with (fail)
      go_loopw [18] (fun i wr => ∃ k : Nat, k ≤ 6 ∧ i = .int .i64 k ∧ wr.ownsRow w.heap.size 3 1 (.slice (some ⟨w2.heap.size, 0, none⟩) 6 6) 6 (fillI [r0, r1, r2, r3, r4, r5] k) ∧ w5.grownBy wr (some w2.heap.size)) (fun i _ => 6 - (intOf i).toNat)
      case atStart =>
        refine ⟨0, Nat.zero_le _, rfl, ?_, World.grownBy.refl _ _⟩
        have h := HROW5.out
        rw [Nat.mul_one, show (Value.int .i64 0).cells = #[.int .i64 0] from rfl, toList_madeCells_one] at h
        rw [filli_zero]
        exact h
      case round =>
        obtain ⟨k, hk, rfl, hrow, hg⟩ := hrel
        have HRK := Lib.hid hrow
        have HG := Lib.hid hg
        have HBR := Lib.hid (show Below w.heap.size w wr from B5.out.grown hg B5.out.size (fun q hq => by injection hq with hq; have := HZA.out; omega))
        have HRA := Lib.hid (recb_grown RA5.out hg (by have := HZA.out; intro e; injection e with e; omega))
        have HRB := Lib.hid (recb_grown RB5.out hg (by have := HZB.out; intro e; injection e with e; omega))
        have HC1 := Lib.hid (cellg HG1.out hg (by intro e; injection e with e; exact HN1.out e))
        have HC2 := Lib.hid (cellg HG2.out hg (by intro e; injection e with e; exact HN2.out e))
        have HZR := Lib.hid (show w2.heap.size < wr.heap.size from Nat.lt_of_lt_of_le HGF5.out hg.size)
        clear hrow hg
        have hway : k = 0 ∨ k = 1 ∨ k = 2 ∨ k = 3 ∨ k = 4 ∨ k = 5 ∨ k = 6 := by omega
        rcases hway with rfl | rfl | rfl | rfl | rfl | rfl | rfl
        · obtain ⟨wm, hwm⟩ : ∃ wm, wm = wr.alloc (.cells #[.int .i64 0, .func (.func 48) #[] #[]] 49) := ⟨_, rfl⟩
          have hbm : Below wr.heap.size wr wm := by rw [hwm]; exact (Below.refl _ _).alloc (Nat.le_refl _) _
          have hm : BlkV wm wr.heap.size 49 #[.int .i64 0, .func (.func 48) #[] #[]] := by rw [hwm]; exact BlkV.new wr 49 #[.int .i64 0, .func (.func 48) #[] #[]]
          have m0 := hm.cell 0
          have m1 := hm.cell 1
          simp only [List.getElem?_toArray, List.getElem?_cons_zero, List.getElem?_cons_succ] at m0 m1
          have BM := Lib.hid (HBR.out.trans (hbm.mono HBR.out.size))
          have RAM := Lib.hid (HRA.out.below hbm)
          have RBM := Lib.hid (HRB.out.below hbm)
          have FAM := HA.out.below BM.out
          have FCM := HC.out.below BM.out
          have ea := FAM.2.2.2.2.2.1.1
          have ec := FCM.2.2.2.2.2.1.1
          have qa := RAM.out.c3
          have qb := RBM.out.c3
          rw [HL0.out] at qa
          rw [HL1.out] at qb
          have c1m := hbm.cell (p := ⟨g1, 0, none⟩) (World.block_lt_of_cell? _ _ HC1.out) |>.trans HC1.out
          have c2m := hbm.cell (p := ⟨g2, 0, none⟩) (World.block_lt_of_cell? _ _ HC2.out) |>.trans HC2.out
          have C1M := Lib.hid c1m
          have C2M := Lib.hid c2m
          have HROWM := Lib.hid (World.ownsRow.kept HRK.out (row := none) (w' := wm) ⟨hbm.os, hbm.tape, hbm.output, hbm.size, fun i hi _ => hbm.block i hi⟩ (.inr (by simp [Value.ownBlock])))
          have HGM := Lib.hid (show w5.grownBy wm (some w2.heap.size) from grownI_trans HG.out ⟨hbm.os, hbm.tape, hbm.output, hbm.size, fun i hi _ => hbm.block i hi⟩)
          have HWM := Lib.hid hwm
          clear hbm hm hwm FAM FCM c1m c2m
          have hix : ∀ u : World, (Instr.index 50 (.agg (measA g1 g2)) (.int .i64 0)).run Tryz.prog u = .ok (.agg #[.int .i64 0, fnV 48]) u := fun u => by kernel_rfl
          go_wp2_with (fail)
          rw [← HWM.out]
          have six : SixC wm wr.heap.size w.heap.size (w.heap.size + 1) ba oa bc oc 0 (.func (.func 48) #[] #[]) (.slice (some ⟨ba, oa, none⟩) 4 d0) (.slice (some ⟨bc, oc, none⟩) 4 d1) A0 C0 := ⟨m0, m1, qa, qb, ea, ec⟩
          have hz1 := HZA.out
          have hz2 := HZB.out
          have hz3 := HZR.out
          go_region_held3 (fun w' => w'.cell? ⟨wr.heap.size, 0, none⟩ = some (.int .i64 0) ∧ w'.cell? ⟨wr.heap.size, 1, none⟩ = some (fnV 48) ∧ w'.cell? ⟨w.heap.size, 3, none⟩ = some (.slice (some ⟨ba, oa, none⟩) 4 d0) ∧ w'.cell? ⟨w.heap.size + 1, 3, none⟩ = some (.slice (some ⟨bc, oc, none⟩) 4 d1) ∧ w'.cell? ⟨ba, oa, none⟩ = some (.string A0) ∧ w'.cell? ⟨bc, oc, none⟩ = some (.string C0))
            (first | exact six | exact six6 | exact six7)
            (first | (go_at_call 48; (with_reducible refine (ed_impl A0 C0 r0 _ ha0 hc0 R0.out).mono ?_); rintro e w6 ⟨rfl, hb⟩; have hq := undrew hb; have six6 := six.below hq; have six7 := six6.set (o := 0) (.int .i64 r0) (g := w2.heap.size) (by omega) (by omega) (by omega) (by omega) (by omega); have hrow2 := World.ownsRow.kept HROWM.out (row := none) (w' := w6) ⟨hq.os, hq.tape, hq.output, hq.size, fun i hi _ => hq.block i hi⟩ (.inr (by simp [Value.ownBlock])); have hold : w6.cell? ⟨w2.heap.size, 0, none⟩ = some (.int .i64 0) := (by rw [hrow2.cellAt 0 (by omega)]; exact filli_at (by simp)); have hfz : w6.frozen? ⟨w2.heap.size, 0, none⟩ = false := hrow2.frozenAt 0; have HN := Lib.hid (hrow2.stored 0 (.int .i64 r0)); have HG6 := Lib.hid (show w5.grownBy w6 (some w2.heap.size) from grownI_trans HGM.out ⟨hq.os, hq.tape, hq.output, hq.size, fun i hi _ => hq.block i hi⟩); clear hb hq hrow2))
          all_goals
            go_wp2
            go_roundw
            case rel =>
              refine ⟨1, by omega, by go_num, ?_, ?_⟩
              · rw [← filli_set (l := [r0, r1, r2, r3, r4, r5]) (k := 0) (x := r0) rfl]
                exact HN.out.1
              · exact grownI_trans HG6.out HN.out.2
            case measure => simp [intOf]
        · obtain ⟨wm, hwm⟩ : ∃ wm, wm = wr.alloc (.cells #[.int .i64 0, cloV g1] 49) := ⟨_, rfl⟩
          have hbm : Below wr.heap.size wr wm := by rw [hwm]; exact (Below.refl _ _).alloc (Nat.le_refl _) _
          have hm : BlkV wm wr.heap.size 49 #[.int .i64 0, cloV g1] := by rw [hwm]; exact BlkV.new wr 49 #[.int .i64 0, cloV g1]
          have m0 := hm.cell 0
          have m1 := hm.cell 1
          simp only [List.getElem?_toArray, List.getElem?_cons_zero, List.getElem?_cons_succ] at m0 m1
          have BM := Lib.hid (HBR.out.trans (hbm.mono HBR.out.size))
          have RAM := Lib.hid (HRA.out.below hbm)
          have RBM := Lib.hid (HRB.out.below hbm)
          have FAM := HA.out.below BM.out
          have FCM := HC.out.below BM.out
          have ea := FAM.2.2.2.2.2.1.1
          have ec := FCM.2.2.2.2.2.1.1
          have qa := RAM.out.c3
          have qb := RBM.out.c3
          rw [HL0.out] at qa
          rw [HL1.out] at qb
          have c1m := hbm.cell (p := ⟨g1, 0, none⟩) (World.block_lt_of_cell? _ _ HC1.out) |>.trans HC1.out
          have c2m := hbm.cell (p := ⟨g2, 0, none⟩) (World.block_lt_of_cell? _ _ HC2.out) |>.trans HC2.out
          have C1M := Lib.hid c1m
          have C2M := Lib.hid c2m
          have HROWM := Lib.hid (World.ownsRow.kept HRK.out (row := none) (w' := wm) ⟨hbm.os, hbm.tape, hbm.output, hbm.size, fun i hi _ => hbm.block i hi⟩ (.inr (by simp [Value.ownBlock])))
          have HGM := Lib.hid (show w5.grownBy wm (some w2.heap.size) from grownI_trans HG.out ⟨hbm.os, hbm.tape, hbm.output, hbm.size, fun i hi _ => hbm.block i hi⟩)
          have HWM := Lib.hid hwm
          clear hbm hm hwm FAM FCM c1m c2m
          have hix : ∀ u : World, (Instr.index 50 (.agg (measA g1 g2)) (.int .i64 1)).run Tryz.prog u = .ok (.agg #[.int .i64 0, cloV g1]) u := fun u => by kernel_rfl
          go_wp2_with (fail)
          rw [← HWM.out]
          have six : SixC wm wr.heap.size w.heap.size (w.heap.size + 1) ba oa bc oc 0 (cloV g1) (.slice (some ⟨ba, oa, none⟩) 4 d0) (.slice (some ⟨bc, oc, none⟩) 4 d1) A0 C0 := ⟨m0, m1, qa, qb, ea, ec⟩
          have hz1 := HZA.out
          have hz2 := HZB.out
          have hz3 := HZR.out
          go_region_held3 (fun w' => w'.cell? ⟨wr.heap.size, 0, none⟩ = some (.int .i64 0) ∧ w'.cell? ⟨wr.heap.size, 1, none⟩ = some (cloV g1) ∧ w'.cell? ⟨w.heap.size, 3, none⟩ = some (.slice (some ⟨ba, oa, none⟩) 4 d0) ∧ w'.cell? ⟨w.heap.size + 1, 3, none⟩ = some (.slice (some ⟨bc, oc, none⟩) 4 d1) ∧ w'.cell? ⟨ba, oa, none⟩ = some (.string A0) ∧ w'.cell? ⟨bc, oc, none⟩ = some (.string C0))
            (first | exact six | exact six6 | exact six7)
            (first | (go_at_call 73; (with_reducible refine (tok_clo A0 C0 g1 r1 _ ha0 hc0 R1.out ?_ ?_).mono ?_); exact HS.out.below BM.out.drew; exact C1M.out; rintro e w6 ⟨rfl, hb⟩; have hq := undrew hb; have six6 := six.below hq; have six7 := six6.set (o := 1) (.int .i64 r1) (g := w2.heap.size) (by omega) (by omega) (by omega) (by omega) (by omega); have hrow2 := World.ownsRow.kept HROWM.out (row := none) (w' := w6) ⟨hq.os, hq.tape, hq.output, hq.size, fun i hi _ => hq.block i hi⟩ (.inr (by simp [Value.ownBlock])); have hold : w6.cell? ⟨w2.heap.size, 1, none⟩ = some (.int .i64 0) := (by rw [hrow2.cellAt 1 (by omega)]; exact filli_at (by simp)); have hfz : w6.frozen? ⟨w2.heap.size, 1, none⟩ = false := hrow2.frozenAt 1; have HN := Lib.hid (hrow2.stored 1 (.int .i64 r1)); have HG6 := Lib.hid (show w5.grownBy w6 (some w2.heap.size) from grownI_trans HGM.out ⟨hq.os, hq.tape, hq.output, hq.size, fun i hi _ => hq.block i hi⟩); clear hb hq hrow2))
          all_goals
            go_wp2
            go_roundw
            case rel =>
              refine ⟨2, by omega, by go_num, ?_, ?_⟩
              · rw [← filli_set (l := [r0, r1, r2, r3, r4, r5]) (k := 1) (x := r1) rfl]
                exact HN.out.1
              · exact grownI_trans HG6.out HN.out.2
            case measure => simp [intOf]
        · obtain ⟨wm, hwm⟩ : ∃ wm, wm = wr.alloc (.cells #[.int .i64 0, cloV g2] 49) := ⟨_, rfl⟩
          have hbm : Below wr.heap.size wr wm := by rw [hwm]; exact (Below.refl _ _).alloc (Nat.le_refl _) _
          have hm : BlkV wm wr.heap.size 49 #[.int .i64 0, cloV g2] := by rw [hwm]; exact BlkV.new wr 49 #[.int .i64 0, cloV g2]
          have m0 := hm.cell 0
          have m1 := hm.cell 1
          simp only [List.getElem?_toArray, List.getElem?_cons_zero, List.getElem?_cons_succ] at m0 m1
          have BM := Lib.hid (HBR.out.trans (hbm.mono HBR.out.size))
          have RAM := Lib.hid (HRA.out.below hbm)
          have RBM := Lib.hid (HRB.out.below hbm)
          have FAM := HA.out.below BM.out
          have FCM := HC.out.below BM.out
          have ea := FAM.2.2.2.2.2.1.1
          have ec := FCM.2.2.2.2.2.1.1
          have qa := RAM.out.c3
          have qb := RBM.out.c3
          rw [HL0.out] at qa
          rw [HL1.out] at qb
          have c1m := hbm.cell (p := ⟨g1, 0, none⟩) (World.block_lt_of_cell? _ _ HC1.out) |>.trans HC1.out
          have c2m := hbm.cell (p := ⟨g2, 0, none⟩) (World.block_lt_of_cell? _ _ HC2.out) |>.trans HC2.out
          have C1M := Lib.hid c1m
          have C2M := Lib.hid c2m
          have HROWM := Lib.hid (World.ownsRow.kept HRK.out (row := none) (w' := wm) ⟨hbm.os, hbm.tape, hbm.output, hbm.size, fun i hi _ => hbm.block i hi⟩ (.inr (by simp [Value.ownBlock])))
          have HGM := Lib.hid (show w5.grownBy wm (some w2.heap.size) from grownI_trans HG.out ⟨hbm.os, hbm.tape, hbm.output, hbm.size, fun i hi _ => hbm.block i hi⟩)
          have HWM := Lib.hid hwm
          clear hbm hm hwm FAM FCM c1m c2m
          have hix : ∀ u : World, (Instr.index 50 (.agg (measA g1 g2)) (.int .i64 2)).run Tryz.prog u = .ok (.agg #[.int .i64 0, cloV g2]) u := fun u => by kernel_rfl
          go_wp2_with (fail)
          rw [← HWM.out]
          have six : SixC wm wr.heap.size w.heap.size (w.heap.size + 1) ba oa bc oc 0 (cloV g2) (.slice (some ⟨ba, oa, none⟩) 4 d0) (.slice (some ⟨bc, oc, none⟩) 4 d1) A0 C0 := ⟨m0, m1, qa, qb, ea, ec⟩
          have hz1 := HZA.out
          have hz2 := HZB.out
          have hz3 := HZR.out
          go_region_held3 (fun w' => w'.cell? ⟨wr.heap.size, 0, none⟩ = some (.int .i64 0) ∧ w'.cell? ⟨wr.heap.size, 1, none⟩ = some (cloV g2) ∧ w'.cell? ⟨w.heap.size, 3, none⟩ = some (.slice (some ⟨ba, oa, none⟩) 4 d0) ∧ w'.cell? ⟨w.heap.size + 1, 3, none⟩ = some (.slice (some ⟨bc, oc, none⟩) 4 d1) ∧ w'.cell? ⟨ba, oa, none⟩ = some (.string A0) ∧ w'.cell? ⟨bc, oc, none⟩ = some (.string C0))
            (first | exact six | exact six6 | exact six7)
            (first | (go_at_call 73; (with_reducible refine (snd_clo A0 C0 g2 r2 _ ha0 hc0 R2.out ?_ ?_).mono ?_); exact HS.out.below BM.out.drew; exact C2M.out; rintro e w6 ⟨rfl, hb⟩; have hq := undrew hb; have six6 := six.below hq; have six7 := six6.set (o := 2) (.int .i64 r2) (g := w2.heap.size) (by omega) (by omega) (by omega) (by omega) (by omega); have hrow2 := World.ownsRow.kept HROWM.out (row := none) (w' := w6) ⟨hq.os, hq.tape, hq.output, hq.size, fun i hi _ => hq.block i hi⟩ (.inr (by simp [Value.ownBlock])); have hold : w6.cell? ⟨w2.heap.size, 2, none⟩ = some (.int .i64 0) := (by rw [hrow2.cellAt 2 (by omega)]; exact filli_at (by simp)); have hfz : w6.frozen? ⟨w2.heap.size, 2, none⟩ = false := hrow2.frozenAt 2; have HN := Lib.hid (hrow2.stored 2 (.int .i64 r2)); have HG6 := Lib.hid (show w5.grownBy w6 (some w2.heap.size) from grownI_trans HGM.out ⟨hq.os, hq.tape, hq.output, hq.size, fun i hi _ => hq.block i hi⟩); clear hb hq hrow2))
          all_goals
            go_wp2
            go_roundw
            case rel =>
              refine ⟨3, by omega, by go_num, ?_, ?_⟩
              · rw [← filli_set (l := [r0, r1, r2, r3, r4, r5]) (k := 2) (x := r2) rfl]
                exact HN.out.1
              · exact grownI_trans HG6.out HN.out.2
            case measure => simp [intOf]
        · obtain ⟨wm, hwm⟩ : ∃ wm, wm = wr.alloc (.cells #[.int .i64 1, .func (.func 48) #[] #[]] 49) := ⟨_, rfl⟩
          have hbm : Below wr.heap.size wr wm := by rw [hwm]; exact (Below.refl _ _).alloc (Nat.le_refl _) _
          have hm : BlkV wm wr.heap.size 49 #[.int .i64 1, .func (.func 48) #[] #[]] := by rw [hwm]; exact BlkV.new wr 49 #[.int .i64 1, .func (.func 48) #[] #[]]
          have m0 := hm.cell 0
          have m1 := hm.cell 1
          simp only [List.getElem?_toArray, List.getElem?_cons_zero, List.getElem?_cons_succ] at m0 m1
          have BM := Lib.hid (HBR.out.trans (hbm.mono HBR.out.size))
          have RAM := Lib.hid (HRA.out.below hbm)
          have RBM := Lib.hid (HRB.out.below hbm)
          have FAM := HA.out.below BM.out
          have FCM := HC.out.below BM.out
          have ea := FAM.2.2.2.2.2.1.2.1
          have ec := FCM.2.2.2.2.2.1.2.1
          have qa := RAM.out.c3
          have qb := RBM.out.c3
          rw [HL0.out] at qa
          rw [HL1.out] at qb
          have c1m := hbm.cell (p := ⟨g1, 0, none⟩) (World.block_lt_of_cell? _ _ HC1.out) |>.trans HC1.out
          have c2m := hbm.cell (p := ⟨g2, 0, none⟩) (World.block_lt_of_cell? _ _ HC2.out) |>.trans HC2.out
          have C1M := Lib.hid c1m
          have C2M := Lib.hid c2m
          have HROWM := Lib.hid (World.ownsRow.kept HRK.out (row := none) (w' := wm) ⟨hbm.os, hbm.tape, hbm.output, hbm.size, fun i hi _ => hbm.block i hi⟩ (.inr (by simp [Value.ownBlock])))
          have HGM := Lib.hid (show w5.grownBy wm (some w2.heap.size) from grownI_trans HG.out ⟨hbm.os, hbm.tape, hbm.output, hbm.size, fun i hi _ => hbm.block i hi⟩)
          have HWM := Lib.hid hwm
          clear hbm hm hwm FAM FCM c1m c2m
          have hix : ∀ u : World, (Instr.index 50 (.agg (measA g1 g2)) (.int .i64 3)).run Tryz.prog u = .ok (.agg #[.int .i64 1, fnV 48]) u := fun u => by kernel_rfl
          go_wp2_with (fail)
          rw [← HWM.out]
          have six : SixC wm wr.heap.size w.heap.size (w.heap.size + 1) ba (oa + 1) bc (oc + 1) 1 (.func (.func 48) #[] #[]) (.slice (some ⟨ba, oa, none⟩) 4 d0) (.slice (some ⟨bc, oc, none⟩) 4 d1) A1 C1 := ⟨m0, m1, qa, qb, ea, ec⟩
          have hz1 := HZA.out
          have hz2 := HZB.out
          have hz3 := HZR.out
          go_region_held3 (fun w' => w'.cell? ⟨wr.heap.size, 0, none⟩ = some (.int .i64 1) ∧ w'.cell? ⟨wr.heap.size, 1, none⟩ = some (fnV 48) ∧ w'.cell? ⟨w.heap.size, 3, none⟩ = some (.slice (some ⟨ba, oa, none⟩) 4 d0) ∧ w'.cell? ⟨w.heap.size + 1, 3, none⟩ = some (.slice (some ⟨bc, oc, none⟩) 4 d1) ∧ w'.cell? ⟨ba, oa + 1, none⟩ = some (.string A1) ∧ w'.cell? ⟨bc, oc + 1, none⟩ = some (.string C1))
            (first | exact six | exact six6 | exact six7)
            (first | (go_at_call 48; (with_reducible refine (ed_impl A1 C1 r3 _ ha1 hc1 R3.out).mono ?_); rintro e w6 ⟨rfl, hb⟩; have hq := undrew hb; have six6 := six.below hq; have six7 := six6.set (o := 3) (.int .i64 r3) (g := w2.heap.size) (by omega) (by omega) (by omega) (by omega) (by omega); have hrow2 := World.ownsRow.kept HROWM.out (row := none) (w' := w6) ⟨hq.os, hq.tape, hq.output, hq.size, fun i hi _ => hq.block i hi⟩ (.inr (by simp [Value.ownBlock])); have hold : w6.cell? ⟨w2.heap.size, 3, none⟩ = some (.int .i64 0) := (by rw [hrow2.cellAt 3 (by omega)]; exact filli_at (by simp)); have hfz : w6.frozen? ⟨w2.heap.size, 3, none⟩ = false := hrow2.frozenAt 3; have HN := Lib.hid (hrow2.stored 3 (.int .i64 r3)); have HG6 := Lib.hid (show w5.grownBy w6 (some w2.heap.size) from grownI_trans HGM.out ⟨hq.os, hq.tape, hq.output, hq.size, fun i hi _ => hq.block i hi⟩); clear hb hq hrow2))
          all_goals
            go_wp2
            go_roundw
            case rel =>
              refine ⟨4, by omega, by go_num, ?_, ?_⟩
              · rw [← filli_set (l := [r0, r1, r2, r3, r4, r5]) (k := 3) (x := r3) rfl]
                exact HN.out.1
              · exact grownI_trans HG6.out HN.out.2
            case measure => simp [intOf]
        · obtain ⟨wm, hwm⟩ : ∃ wm, wm = wr.alloc (.cells #[.int .i64 2, .func (.func 52) #[] #[]] 49) := ⟨_, rfl⟩
          have hbm : Below wr.heap.size wr wm := by rw [hwm]; exact (Below.refl _ _).alloc (Nat.le_refl _) _
          have hm : BlkV wm wr.heap.size 49 #[.int .i64 2, .func (.func 52) #[] #[]] := by rw [hwm]; exact BlkV.new wr 49 #[.int .i64 2, .func (.func 52) #[] #[]]
          have m0 := hm.cell 0
          have m1 := hm.cell 1
          simp only [List.getElem?_toArray, List.getElem?_cons_zero, List.getElem?_cons_succ] at m0 m1
          have BM := Lib.hid (HBR.out.trans (hbm.mono HBR.out.size))
          have RAM := Lib.hid (HRA.out.below hbm)
          have RBM := Lib.hid (HRB.out.below hbm)
          have FAM := HA.out.below BM.out
          have FCM := HC.out.below BM.out
          have ea := FAM.2.2.2.2.2.1.2.2.1
          have ec := FCM.2.2.2.2.2.1.2.2.1
          have qa := RAM.out.c3
          have qb := RBM.out.c3
          rw [HL0.out] at qa
          rw [HL1.out] at qb
          have c1m := hbm.cell (p := ⟨g1, 0, none⟩) (World.block_lt_of_cell? _ _ HC1.out) |>.trans HC1.out
          have c2m := hbm.cell (p := ⟨g2, 0, none⟩) (World.block_lt_of_cell? _ _ HC2.out) |>.trans HC2.out
          have C1M := Lib.hid c1m
          have C2M := Lib.hid c2m
          have HROWM := Lib.hid (World.ownsRow.kept HRK.out (row := none) (w' := wm) ⟨hbm.os, hbm.tape, hbm.output, hbm.size, fun i hi _ => hbm.block i hi⟩ (.inr (by simp [Value.ownBlock])))
          have HGM := Lib.hid (show w5.grownBy wm (some w2.heap.size) from grownI_trans HG.out ⟨hbm.os, hbm.tape, hbm.output, hbm.size, fun i hi _ => hbm.block i hi⟩)
          have HWM := Lib.hid hwm
          clear hbm hm hwm FAM FCM c1m c2m
          have hix : ∀ u : World, (Instr.index 50 (.agg (measA g1 g2)) (.int .i64 4)).run Tryz.prog u = .ok (.agg #[.int .i64 2, fnV 52]) u := fun u => by kernel_rfl
          go_wp2_with (fail)
          rw [← HWM.out]
          have six : SixC wm wr.heap.size w.heap.size (w.heap.size + 1) ba (oa + 2) bc (oc + 2) 2 (.func (.func 52) #[] #[]) (.slice (some ⟨ba, oa, none⟩) 4 d0) (.slice (some ⟨bc, oc, none⟩) 4 d1) A2 C2 := ⟨m0, m1, qa, qb, ea, ec⟩
          have hz1 := HZA.out
          have hz2 := HZB.out
          have hz3 := HZR.out
          go_region_held3 (fun w' => w'.cell? ⟨wr.heap.size, 0, none⟩ = some (.int .i64 2) ∧ w'.cell? ⟨wr.heap.size, 1, none⟩ = some (fnV 52) ∧ w'.cell? ⟨w.heap.size, 3, none⟩ = some (.slice (some ⟨ba, oa, none⟩) 4 d0) ∧ w'.cell? ⟨w.heap.size + 1, 3, none⟩ = some (.slice (some ⟨bc, oc, none⟩) 4 d1) ∧ w'.cell? ⟨ba, oa + 2, none⟩ = some (.string A2) ∧ w'.cell? ⟨bc, oc + 2, none⟩ = some (.string C2))
            (first | exact six | exact six6 | exact six7)
            (first | (go_at_call 52; (with_reducible refine (year_impl A2 C2 r4 _ ha2 hc2 R4.out ?_).mono ?_); exact HT.out.on BM.out.drew; rintro e w6 ⟨rfl, hb⟩; have hq := undrew hb; have six6 := six.below hq; have six7 := six6.set (o := 4) (.int .i64 r4) (g := w2.heap.size) (by omega) (by omega) (by omega) (by omega) (by omega); have hrow2 := World.ownsRow.kept HROWM.out (row := none) (w' := w6) ⟨hq.os, hq.tape, hq.output, hq.size, fun i hi _ => hq.block i hi⟩ (.inr (by simp [Value.ownBlock])); have hold : w6.cell? ⟨w2.heap.size, 4, none⟩ = some (.int .i64 0) := (by rw [hrow2.cellAt 4 (by omega)]; exact filli_at (by simp)); have hfz : w6.frozen? ⟨w2.heap.size, 4, none⟩ = false := hrow2.frozenAt 4; have HN := Lib.hid (hrow2.stored 4 (.int .i64 r4)); have HG6 := Lib.hid (show w5.grownBy w6 (some w2.heap.size) from grownI_trans HGM.out ⟨hq.os, hq.tape, hq.output, hq.size, fun i hi _ => hq.block i hi⟩); clear hb hq hrow2))
          all_goals
            go_wp2
            go_roundw
            case rel =>
              refine ⟨5, by omega, by go_num, ?_, ?_⟩
              · rw [← filli_set (l := [r0, r1, r2, r3, r4, r5]) (k := 4) (x := r4) rfl]
                exact HN.out.1
              · exact grownI_trans HG6.out HN.out.2
            case measure => simp [intOf]
        · obtain ⟨wm, hwm⟩ : ∃ wm, wm = wr.alloc (.cells #[.int .i64 3, .func (.func 53) #[] #[]] 49) := ⟨_, rfl⟩
          have hbm : Below wr.heap.size wr wm := by rw [hwm]; exact (Below.refl _ _).alloc (Nat.le_refl _) _
          have hm : BlkV wm wr.heap.size 49 #[.int .i64 3, .func (.func 53) #[] #[]] := by rw [hwm]; exact BlkV.new wr 49 #[.int .i64 3, .func (.func 53) #[] #[]]
          have m0 := hm.cell 0
          have m1 := hm.cell 1
          simp only [List.getElem?_toArray, List.getElem?_cons_zero, List.getElem?_cons_succ] at m0 m1
          have BM := Lib.hid (HBR.out.trans (hbm.mono HBR.out.size))
          have RAM := Lib.hid (HRA.out.below hbm)
          have RBM := Lib.hid (HRB.out.below hbm)
          have FAM := HA.out.below BM.out
          have FCM := HC.out.below BM.out
          have ea := FAM.2.2.2.2.2.1.2.2.2
          have ec := FCM.2.2.2.2.2.1.2.2.2
          have qa := RAM.out.c3
          have qb := RBM.out.c3
          rw [HL0.out] at qa
          rw [HL1.out] at qb
          have c1m := hbm.cell (p := ⟨g1, 0, none⟩) (World.block_lt_of_cell? _ _ HC1.out) |>.trans HC1.out
          have c2m := hbm.cell (p := ⟨g2, 0, none⟩) (World.block_lt_of_cell? _ _ HC2.out) |>.trans HC2.out
          have C1M := Lib.hid c1m
          have C2M := Lib.hid c2m
          have HROWM := Lib.hid (World.ownsRow.kept HRK.out (row := none) (w' := wm) ⟨hbm.os, hbm.tape, hbm.output, hbm.size, fun i hi _ => hbm.block i hi⟩ (.inr (by simp [Value.ownBlock])))
          have HGM := Lib.hid (show w5.grownBy wm (some w2.heap.size) from grownI_trans HG.out ⟨hbm.os, hbm.tape, hbm.output, hbm.size, fun i hi _ => hbm.block i hi⟩)
          have HWM := Lib.hid hwm
          clear hbm hm hwm FAM FCM c1m c2m
          have hix : ∀ u : World, (Instr.index 50 (.agg (measA g1 g2)) (.int .i64 5)).run Tryz.prog u = .ok (.agg #[.int .i64 3, fnV 53]) u := fun u => by kernel_rfl
          go_wp2_with (fail)
          rw [← HWM.out]
          have six : SixC wm wr.heap.size w.heap.size (w.heap.size + 1) ba (oa + 3) bc (oc + 3) 3 (.func (.func 53) #[] #[]) (.slice (some ⟨ba, oa, none⟩) 4 d0) (.slice (some ⟨bc, oc, none⟩) 4 d1) A3 C3 := ⟨m0, m1, qa, qb, ea, ec⟩
          have hz1 := HZA.out
          have hz2 := HZB.out
          have hz3 := HZR.out
          go_region_held3 (fun w' => w'.cell? ⟨wr.heap.size, 0, none⟩ = some (.int .i64 3) ∧ w'.cell? ⟨wr.heap.size, 1, none⟩ = some (fnV 53) ∧ w'.cell? ⟨w.heap.size, 3, none⟩ = some (.slice (some ⟨ba, oa, none⟩) 4 d0) ∧ w'.cell? ⟨w.heap.size + 1, 3, none⟩ = some (.slice (some ⟨bc, oc, none⟩) 4 d1) ∧ w'.cell? ⟨ba, oa + 3, none⟩ = some (.string A3) ∧ w'.cell? ⟨bc, oc + 3, none⟩ = some (.string C3))
            (first | exact six | exact six6 | exact six7)
            (first | (go_at_call 53; (with_reducible refine (ph_impl A3 C3 r5 _ (by omega) (by omega) R5.out).mono ?_); rintro e w6 ⟨rfl, hb⟩; have hq := undrew hb; have six6 := six.below hq; have six7 := six6.set (o := 5) (.int .i64 r5) (g := w2.heap.size) (by omega) (by omega) (by omega) (by omega) (by omega); have hrow2 := World.ownsRow.kept HROWM.out (row := none) (w' := w6) ⟨hq.os, hq.tape, hq.output, hq.size, fun i hi _ => hq.block i hi⟩ (.inr (by simp [Value.ownBlock])); have hold : w6.cell? ⟨w2.heap.size, 5, none⟩ = some (.int .i64 0) := (by rw [hrow2.cellAt 5 (by omega)]; exact filli_at (by simp)); have hfz : w6.frozen? ⟨w2.heap.size, 5, none⟩ = false := hrow2.frozenAt 5; have HN := Lib.hid (hrow2.stored 5 (.int .i64 r5)); have HG6 := Lib.hid (show w5.grownBy w6 (some w2.heap.size) from grownI_trans HGM.out ⟨hq.os, hq.tape, hq.output, hq.size, fun i hi _ => hq.block i hi⟩); clear hb hq hrow2))
          all_goals
            go_wp2
            go_roundw
            case rel =>
              refine ⟨6, by omega, by go_num, ?_, ?_⟩
              · rw [← filli_set (l := [r0, r1, r2, r3, r4, r5]) (k := 5) (x := r5) rfl]
                exact HN.out.1
              · exact grownI_trans HG6.out HN.out.2
            case measure => simp [intOf]
        · have HE := Lib.hid (show OwnI wr w.heap.size (.slice (some ⟨w2.heap.size, 0, none⟩) 6 6) [r0, r1, r2, r3, r4, r5] from HRK.out)
          have HLL := Lib.hid HL.out
          obtain rfl := HL.out
          go_wp2
          go_ret
          exact ⟨some ⟨w2.heap.size, 0, none⟩, 6, rfl, HE.out, HBR.out⟩

end Go.Proofs.YtggohfinkpppkabGreatDoor
