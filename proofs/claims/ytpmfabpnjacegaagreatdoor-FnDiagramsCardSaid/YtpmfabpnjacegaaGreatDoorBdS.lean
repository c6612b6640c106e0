/-
  What spec.BuildDiagram answers. By an AI agent.
-/
import Derived.Test.YtpmfabpnjacegaaGreatDoorBuS
import Derived.Test.YtpmfabpnjacegaaGreatDoorVarS
namespace Go.Proofs.YtpmfabpnjacegaaGreatDoor
open Go.RowKit
set_option linter.unusedVariables false
set_option linter.unusedSimpArgs false
set_option linter.unnecessarySimpa false

/-- a diagram and whether there is one are handed back -/
def GivesBd (w : World) (y : Int) (D : List DN) (b : Bool) (e : Ending) (w' : World) : Prop :=
  ∃ a c, e = .returned (.tuple #[.agg #[.int .i64 y, .slice a D.length c], .bool b]) ∧ OwnDn w' w.heap.size (.slice a D.length c) D ∧ Below w.heap.size w w'

set_option maxRecDepth 100000 in
set_option maxHeartbeats 8000000 in
theorem bd_spec (a : Option Addr) (c : Nat) (R : List (List TS)) (y : Int) (D : List DN) (b : Bool) (w : World) (hr : bdR R = ((y, D), b)) (h : SmRu w a R c) :
    Calls Tryz.prog 7 #[.agg #[.slice a R.length c]] w (GivesBd w y D b) := by
  have hRl := h.len
  obtain ⟨w1, hw1⟩ : ∃ w1, (w.alloc (.cells #[.slice a R.length c] 26)).alloc (.cells #[.int .i64 0, .slice none 0 0] 32) = w1 := ⟨_, rfl⟩
  have HB1 := Lib.hid (show Below w.heap.size w w1 by rw [← hw1]; exact ((Below.refl w.heap.size w).alloc (Nat.le_refl _) _).alloc (by simp) _)
  have HX1 := Lib.hid (show BlkV w1 w.heap.size 26 #[.slice a R.length c] by rw [← hw1]; exact (BlkV.new _ _ _).alloc _)
  have HY1 := Lib.hid (show BlkV w1 (w.heap.size + 1) 32 #[.int .i64 0, .slice none 0 0] by rw [← hw1]; exact BlkV.new_ _ _ _ _ (by simp))
  have HS0 := Lib.hid h
  have HR := Lib.hid hr
  obtain ⟨vb, hvb⟩ : ∃ vb, vsB R = vb := ⟨_, rfl⟩
  have HVB := Lib.hid hvb
  have q0 := HX1.out.one0
  have q1 := HY1.out.two0
  have q2 := HY1.out.two1
  clear h hr hvb
  cases vb
  · have hz : ((0, []), false) = ((y, D), b) := by rw [← HR.out]; unfold bdR; rw [HVB.out]; rfl
    obtain ⟨h1, rfl⟩ := Prod.mk.inj hz
    obtain ⟨rfl, rfl⟩ := Prod.mk.inj h1
    go_enter Tryz.func7, Tryz.ntmps7
    go_wp2_with (go_at_call 27; ((with_reducible refine (vs_spec a c R _ _ HVB.out (HS0.out.below HB1.out)).mono ?_); rintro e w2 ⟨rfl, hb⟩; refine Hid.out ?_))
    have HB2 := Lib.hid (HB1.out.trans (hb.mono HB1.out.size))
    have HY2 := Lib.hid (HY1.out.below hb)
    have r0 := HY2.out.two0
    have r1 := HY2.out.two1
    have f0 := HY2.out.frozen 0
    have f1 := HY2.out.frozen 1
    clear hb q0 q1 q2
    refine Lib.hid ?_
    go_wp2
    generalize hwz : (w2.setCell ⟨w.heap.size + 1, 0, none⟩ (.int .i64 0)).setCell ⟨w.heap.size + 1, 1, none⟩ (.slice none 0 0) = wz
    have hbz : BlkV wz (w.heap.size + 1) 32 #[.int .i64 0, .slice none 0 0] := by rw [← hwz]; exact (HY2.out.set_ 0 (.int .i64 0)).set_ 1 (.slice none 0 0)
    have e0 := hbz.two0
    have e1 := hbz.two1
    have hB : Below w.heap.size w wz := by rw [← hwz]; exact (HB2.out.setCell (by simp) _).setCell (by simp) _
    refine bodyPost_ret (v := .tuple #[.agg #[.int .i64 0, .slice none 0 0], .bool false]) (by simp [results, Tryz.results7, go_sem, e0, e1]) rfl ⟨none, 0, rfl, OwnDn.nil _ _, hB⟩
  · have hz : (bldD R (varsL R) (varsL R).length [] [], true) = ((y, D), b) := by rw [← HR.out]; unfold bdR; rw [HVB.out]; rfl
    obtain ⟨hbd, rfl⟩ := Prod.mk.inj hz
    obtain ⟨V, hV⟩ : ∃ V, varsL R = V := ⟨_, rfl⟩
    rw [hV] at hbd
    have HV := Lib.hid (show varsR R = V by unfold varsR; rw [HVB.out, ← hV]; rfl)
    have HV9 := Lib.hid (show V.length ≤ 9 by rw [← hV]; exact vars_len9 HVB.out)
    have HBD := Lib.hid hbd
    clear hbd hV hz
    go_enter Tryz.func7, Tryz.ntmps7
    go_wp2_with (go_at_call 27; ((with_reducible refine (vs_spec a c R _ _ HVB.out (HS0.out.below HB1.out)).mono ?_); rintro e w2 ⟨rfl, hb⟩; refine Hid.out ?_))
    have HB2 := Lib.hid (HB1.out.trans (hb.mono HB1.out.size))
    obtain ⟨w3, hw3⟩ : ∃ w3, w2.alloc (.cells #[.int .i64 0, .slice none 0 0] 32) = w3 := ⟨_, rfl⟩
    have hb3 : Below w2.heap.size w2 w3 := by rw [← hw3]; exact (Below.refl _ _).alloc (Nat.le_refl _) _
    have HX3 := Lib.hid ((HX1.out.below hb).below hb3)
    have HY3 := Lib.hid ((HY1.out.below hb).below hb3)
    have HG3 := Lib.hid (show BlkV w3 w2.heap.size 32 #[.int .i64 0, .slice none 0 0] by rw [← hw3]; exact BlkV.new _ _ _)
    have HSZ2 := Lib.hid (show w.heap.size + 2 ≤ w2.heap.size by have := (HY1.out.below hb).lt; omega)
    have HSZ3 := Lib.hid (show w2.heap.size + 1 ≤ w3.heap.size by rw [← hw3]; simp)
    have HB3 := Lib.hid (HB2.out.trans (hb3.mono HB2.out.size))
    have HS3 := Lib.hid (show SmRu w3.drew a R c from HS0.out.below (show Below w.heap.size w w3.drew from HB3.out.drew))
    have HW3 := Lib.hid hw3
    clear hb hb3 q0 q1 q2 hw1 hw3
    have x3 := HX3.out.one0
    refine Lib.hid ?_
    go_wp2_with (fail)
    rw [HW3.out]
    refine wp_region_noPanic ?_
    refine wp_region_E (S := fun w' => w'.cell? ⟨w.heap.size, 0, none⟩ = some (.slice a R.length c)) 5 (by kernel_rfl) (x3) (fun hHeld => ?_)
    refine anyE_take (i := 0) (v := ?vz1) rfl (by kernel_rfl) (by kernel_rfl) (by kernel_rfl) (by kernel_rfl) (by kernel_rfl) (fun _ _ _ h => h) (Or.inl ⟨by kernel_rfl, ?yz1⟩) (by assumption) ?rz1
    case yz1 => (intro w' hSw; (try dsimp only at hSw); go_simp; (try with_reducible rfl))
    (try simp only [Act.put, List.getElem_toArray, List.getElem_cons_succ, List.getElem_cons_zero, List.setIfInBounds_toArray, List.set_cons_zero, List.set_cons_succ])
    refine anyE_take (i := 1) (v := ?vz2) rfl (by kernel_rfl) (by kernel_rfl) (by kernel_rfl) (by kernel_rfl) (by kernel_rfl) (fun _ _ _ h => h) (Or.inl ⟨by kernel_rfl, ?yz2⟩) (by assumption) ?rz2
    case yz2 => (intro w' hSw; (try dsimp only at hSw); go_simp; (try with_reducible rfl))
    (try simp only [Act.put, List.getElem_toArray, List.getElem_cons_succ, List.getElem_cons_zero, List.setIfInBounds_toArray, List.set_cons_zero, List.set_cons_succ])
    refine anyE_one (i := 2) (by kernel_rfl) (anyE_step rfl (fun K hK => ?_))
    go_simp
    go_wp2_with (go_at_call 29; ((refine (vars_spec a c R V _ HV.out HS3.out).mono ?_); rintro e w4 ⟨aV, cV, rfl, hoV, hb4⟩))
    have hb := undrew hb4
    have HX4 := Lib.hid (HX3.out.below hb)
    have HY4 := Lib.hid (HY3.out.below hb)
    have HG4 := Lib.hid (HG3.out.below hb)
    have HOV := Lib.hid hoV
    have HB4 := Lib.hid (HB3.out.trans (hb.mono HB3.out.size))
    have HW34 := Lib.hid hb.size
    have x4 := HX4.out.one0
    clear hb4 hoV hb
    refine hK.out _ _ (fun _ => x4) (fun hH => ?_)
    have hHeld := hH (by decide)
    clear hH
    clear hK K
    (try simp only [Act.put, List.getElem_toArray, List.getElem_cons_succ, List.getElem_cons_zero, List.setIfInBounds_toArray, List.set_cons_zero, List.set_cons_succ])
    refine anyE_one (i := 3) (by kernel_rfl) (anyE_step rfl (fun K hK => ?_))
    go_simp
    obtain ⟨nV, hnV⟩ : ∃ n, V.length = n := ⟨_, rfl⟩
    have HNV := Lib.hid hnV
    have h9 : nV ≤ 9 := by rw [← hnV]; exact HV9.out
    have HBLD := Lib.hid (bld_spec (fun W => w4.grownBy W (some w2.heap.size)) w4.heap.size a c R aV cV nV V w2.heap.size 0 (fun W hW => by
        have hbw : Below w.heap.size w W := ⟨hW.os.trans HB4.out.os, hW.tape.trans HB4.out.tape, hW.output.trans HB4.out.output, Nat.le_trans HB4.out.size hW.size, fun k hk => (hW.block k (Nat.lt_of_lt_of_le hk HB4.out.size) (fun e => by injection e with e; have := HSZ2.out; omega)).trans (HB4.out.block k hk)⟩
        refine ⟨HS0.out.below hbw, ?_⟩
        have hrow : W.ownsRow w3.drew.heap.size 86 3 (.slice aV nV cV) nV (flatV V) := by
          have h1 := HOV.out
          unfold OwnV at h1
          rw [hnV] at h1
          exact row_keptO h1 hW (fun k hk e => by
            injection hk with hk
            subst hk
            have h2 := (World.ownsRow.lt h1 _ e).1
            have := HSZ3.out
            have e3 : w3.drew.heap.size = w3.heap.size := rfl
            omega)
        have ho : OwnV W w3.drew.heap.size (.slice aV nV cV) V := by
          unfold OwnV
          rw [hnV]
          exact hrow
        have h3 : (V.map tsV).length = nV := by rw [List.length_map, hnV]
        exact ⟨ho.ts.inTs, rowX_none hrow, by rw [h3]; exact rowX_cap hrow, by rw [h3]; omega⟩) (fun W W' v v' hW hF hv => ⟨hF.os.trans hW.os, hF.tape.trans hW.tape, hF.output.trans hW.output, Nat.le_trans hW.size hF.size, fun k hk hne => (hF.block k (Nat.lt_of_lt_of_le hk hW.size) (fun e => hne (by rw [e])) (fun e => by have := hv k e; omega)).trans (hW.block k hk hne)⟩) hRl hnV h9 (by have := HSZ3.out; have := HW34.out; omega) nV [] 0 0 [] none 0 0 y D w4 rfl (by omega) rfl rfl (by have := cst_le h9; omega) (by rw [← hnV]; exact HBD.out) HG4.out (OwnDn.nil _ _) (World.grownBy.refl _ _) (Nat.le_refl _))
    rw [hnV]
    clear hnV
    go_wp2_with (go_at_call 28; ((refine HBLD.out.mono ?_); rintro e w5 ⟨a5, c5, rfl, hbk, hown, hfr⟩))
    have HX5 := Lib.hid (hfr.blk HX4.out (by have := HSZ2.out; omega) (by simp [Value.ownBlock]))
    have HY5 := Lib.hid (hfr.blk HY4.out (by have := HSZ2.out; omega) (by simp [Value.ownBlock]))
    have HG5 := Lib.hid hbk
    have HO5 := Lib.hid hown
    have HF5 := Lib.hid hfr
    have x5 := HX5.out.one0
    have gf := hbk.frozen 0
    have gc := hbk.two0
    clear hbk hown hfr
    refine hK.out _ _ (fun _ => x5) (fun hH => ?_)
    have hHeld := hH (by decide)
    clear hH
    clear hK K
    (try simp only [Act.put, List.getElem_toArray, List.getElem_cons_succ, List.getElem_cons_zero, List.setIfInBounds_toArray, List.set_cons_zero, List.set_cons_succ])
    refine anyE_take (i := 4) (v := ?vz3) rfl (by kernel_rfl) (by kernel_rfl) (by kernel_rfl) (by kernel_rfl) (by kernel_rfl) (fun _ _ _ h => h) (Or.inl ⟨by kernel_rfl, ?yz3⟩) (by assumption) ?rz3
    case yz3 => (intro w' hSw; (try dsimp only at hSw); go_simp; (try with_reducible rfl))
    (try simp only [Act.put, List.getElem_toArray, List.getElem_cons_succ, List.getElem_cons_zero, List.setIfInBounds_toArray, List.set_cons_zero, List.set_cons_succ])
    refine anyE_one (i := 5) (by kernel_rfl) (anyE_step rfl (fun K hK => ?_))
    go_simp
    refine hK.out _ _ (fun h => absurd rfl h) (fun _ => ?_)
    clear hK K
    (try simp only [Act.put, List.getElem_toArray, List.getElem_cons_succ, List.getElem_cons_zero, List.setIfInBounds_toArray, List.set_cons_zero, List.set_cons_succ])
    refine anyE_done (by kernel_rfl) ?_ _
    refine NoPanic.normal ?_
    have hG6 : BlkV (w5.setCell ⟨w2.heap.size, 0, none⟩ (.int .i64 y)) w2.heap.size 32 #[.int .i64 y, .slice a5 D.length c5] := HG5.out.set_ 0 (.int .i64 y)
    have hY6 : BlkV (w5.setCell ⟨w2.heap.size, 0, none⟩ (.int .i64 y)) (w.heap.size + 1) 32 #[.int .i64 0, .slice none 0 0] := HY5.out.other _ _ (by have := HSZ2.out; show w.heap.size + 1 ≠ w2.heap.size; omega)
    have s0 := hG6.two0
    have s1 := hG6.two1
    have t0 := hY6.two0
    have t1 := hY6.two1
    have f0 := hY6.frozen 0
    have f1 := hY6.frozen 1
    have HY6 := Lib.hid hY6
    clear hG6 hY6 x3 x4 x5 gf gc
    go_wp2
    generalize hwz : ((w5.setCell ⟨w2.heap.size, 0, none⟩ (.int .i64 y)).setCell ⟨w.heap.size + 1, 0, none⟩ (.int .i64 y)).setCell ⟨w.heap.size + 1, 1, none⟩ (.slice a5 D.length c5) = wz
    have hbz : BlkV wz (w.heap.size + 1) 32 #[.int .i64 y, .slice a5 D.length c5] := by rw [← hwz]; exact (HY6.out.set_ 0 (.int .i64 y)).set_ 1 (.slice a5 D.length c5)
    have e0 := hbz.two0
    have e1 := hbz.two1
    have hB5 : Below w.heap.size w w5 := HF5.out.low HB4.out (by have := HSZ2.out; omega) (fun k hk => by simp [Value.ownBlock] at hk)
    have hB : Below w.heap.size w wz := by rw [← hwz]; exact ((hB5.setCell (by have := HSZ2.out; show w.heap.size ≤ w2.heap.size; omega) _).setCell (by simp) _).setCell (by simp) _
    have hO : OwnDn wz w.heap.size (.slice a5 D.length c5) D := by
      rw [← hwz]
      have h0 : w2.heap.size < w4.heap.size := by have := HSZ3.out; have := HW34.out; omega
      have h1 : w.heap.size + 1 < w4.heap.size := by have := HSZ2.out; omega
      exact (((HO5.out.setCell ⟨w2.heap.size, 0, none⟩ _ h0).setCell ⟨w.heap.size + 1, 0, none⟩ _ h1).setCell ⟨w.heap.size + 1, 1, none⟩ _ h1).mono (by omega)
    refine bodyPost_ret (v := .tuple #[.agg #[.int .i64 y, .slice a5 D.length c5], .bool true]) (by simp [results, Tryz.results7, go_sem, e0, e1]) rfl ⟨a5, c5, rfl, hO, hB⟩

end Go.Proofs.YtpmfabpnjacegaaGreatDoor
