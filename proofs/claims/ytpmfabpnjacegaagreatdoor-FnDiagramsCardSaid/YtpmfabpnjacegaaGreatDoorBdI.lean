/-
  What impl.BuildDiagram answers. By an AI agent.
-/
import Derived.Test.YtpmfabpnjacegaaGreatDoorGQ8
import Derived.Test.YtpmfabpnjacegaaGreatDoorBdS
namespace Go.Proofs.YtpmfabpnjacegaaGreatDoor
open Go.RowKit
set_option linter.unusedVariables false
set_option linter.unusedSimpArgs false
set_option linter.unnecessarySimpa false

theorem OwnTs.smTs0 {w : World} {base : Nat} {a : Option Addr} {n cap : Nat} {l : List TS} (h : OwnTs w base (.slice a n cap) l) (h1 : l.length ≤ 4000000) : SmTs w a l cap := h.smTs h1

set_option maxRecDepth 100000 in
set_option maxHeartbeats 4000000 in
theorem bd_tail (a : Option Addr) (c : Nat) (R : List (List TS)) (nR : Nat) (V : List IQ) (nV : Nat) (y : Int) (D : List DN) (w w2 w7 w8 : World) (aV : Option Addr) (cV bm br gB : Nat) (hnR : R.length = nR) (hnV : V.length = nV) (h9 : V.length ≤ 9) (hvb : vsB R = true) (hVL : varsL R = V) (hbd : bldD R V V.length [] [] = (y, D)) (hs : SmRu w a R c) (hsz2 : w.heap.size + 2 ≤ w2.heap.size) (hb2 : Below w.heap.size w w2)
    (hg7 : BlkV w7 gB 54 #[.slice none 0 0, .slice none 0 0, .map none, .map none, .slice none 0 0]) (hw8 : ((((w7.setCell ⟨gB, 0, none⟩ (.slice a nR c)).setCell ⟨gB, 1, none⟩ (.slice aV nV cV)).setCell ⟨gB, 2, none⟩ (.map (some bm))).setCell ⟨gB, 3, none⟩ (.map (some br))).setCell ⟨gB, 4, none⟩ (.slice none 0 0) = w8)
    (hb7 : Below w2.heap.size w2 w7) (hy : BlkV w7 (w.heap.size + 1) 32 #[.int .i64 0, .slice none 0 0]) (hm : TMap w7 bm 0 (fun _ => none)) (hd : DMap w7 br 0 (fun _ => none)) (hsv : SmTs w7 aV (V.map tsV) cV)
    (hav : ∀ (b off : Nat), aV = some ⟨b, off, none⟩ → b ≠ gB ∧ b ≠ bm ∧ b ≠ br ∧ b < w7.heap.size) (hne : bm ≠ br ∧ gB ≠ bm ∧ gB ≠ br ∧ bm < w7.heap.size ∧ br < w7.heap.size ∧ w2.heap.size ≤ bm ∧ w2.heap.size ≤ br ∧ w2.heap.size ≤ gB ∧ w2.heap.size ≤ w7.heap.size) :
    Calls Tryz.prog 26 #[.pointer (some ⟨gB, 0, none⟩), .int .i64 0] w8 fun e W' =>
      ∃ a8 c8, e = .returned (.int .i64 y) ∧ BlkV W' gB 54 #[.slice a nR c, .slice aV nV cV, .map (some bm), .map (some br), .slice a8 D.length c8] ∧ BlkV W' (w.heap.size + 1) 32 #[.int .i64 0, .slice none 0 0] ∧
        ∀ wz, (W'.setCell ⟨w.heap.size + 1, 0, none⟩ (.int .i64 y)).setCell ⟨w.heap.size + 1, 1, none⟩ (.slice a8 D.length c8) = wz → GivesBd w y D true (.returned (.tuple #[.agg #[.int .i64 y, .slice a8 D.length c8], .bool true])) wz := by
  have hz : nV ≤ 9 := by omega
  have hc := cst_le hz
  have hbx : BlkV w8 gB 54 #[.slice a nR c, .slice aV nV cV, .map (some bm), .map (some br), .slice none 0 0] := by rw [← hw8]; exact ((((hg7.set_ 0 _).set_ 1 _).set_ 2 _).set_ 3 _).set_ 4 _
  have hgr : w7.grownBy w8 (some gB) := by rw [← hw8]; exact grownb_set (grownb_set (grownb_set (grownb_set (grownb_set (World.grownBy.refl _ _) _ _) _ _) _ _) _ _) _ _
  have hb8 : Below w2.heap.size w2 w8 := ⟨hgr.os.trans hb7.os, hgr.tape.trans hb7.tape, hgr.output.trans hb7.output, Nat.le_trans hb7.size hgr.size, fun k hk => (hgr.block k (Nat.lt_of_lt_of_le hk hb7.size) (fun e => by injection e with e; omega)).trans (hb7.block k hk)⟩
  have hgs := hgr.size
  have hy : BlkV w8 (w.heap.size + 1) 32 #[.int .i64 0, .slice none 0 0] := (hgr.block _ hy.lt (fun e => by injection e with e; omega)).trans hy
  have hm : TMap w8 bm 0 (fun _ => none) := hm.kept hgr (fun e => by injection e with e; omega)
  have hd : DMap w8 br 0 (refF []) := by rw [refF_nil]; exact hd.kept hgr (fun e => by injection e with e; omega)
  have hsv : SmTs w8 aV (V.map tsV) cV := ⟨hsv.1.keep hgs (fun b off e hlt => hgr.block b hlt (fun e2 => by injection e2 with e2; have := hav b off e; omega)), hsv.2⟩
  have hglt := hbx.lt
  have hP1 : ∀ W, (Below w2.heap.size w2 W ∧ SmTs W aV (V.map tsV) cV) → SmRu W a R c ∧ SmTs W aV (V.map tsV) cV := fun W h => ⟨hs.below (hb2.trans (h.1.mono hb2.size)), h.2⟩
  have hP2 : ∀ W W' v v', (Below w2.heap.size w2 W ∧ SmTs W aV (V.map tsV) cV) → FrB W W' [gB, br, bm] v v' → (∀ k, v.ownBlock = some k → w8.heap.size ≤ k) → (Below w2.heap.size w2 W' ∧ SmTs W' aV (V.map tsV) cV) := fun W W' v v' h hF hv => by
    refine ⟨hF.low h.1 (fun g hg => ?_) (fun k hk => by have := hv k hk; omega), h.2.1.keep hF.size (fun b off e hlt => hF.block b hlt (fun hg => ?_) (fun e2 => ?_)), h.2.2⟩
    · simp at hg
      omega
    · have := hav b off e
      simp at hg
      omega
    · have := hav b off e
      have := hv b e2
      omega
  have hst : BSt w8 gB w8.heap.size a nR c aV nV cV bm br none 0 0 [] := ⟨hbx, rfl, hd, OwnDn.nil _ _, fun x hx => by simp at hx⟩
  have HC := bi_impl (fun W => Below w2.heap.size w2 W ∧ SmTs W aV (V.map tsV) cV) w8.heap.size a c R nR aV cV nV V gB bm br hP1 hP2 hnR hnV hz (by omega) (by omega) (by omega) (by omega) (by omega) (by omega) (by rw [← hVL]; exact varsL_okV hvb) (by rw [← hVL]; exact varsL_has hvb) (by rw [← hVL]; exact varsL_nodup hvb) nV [] 0 [] none 0 0 y D 0 (fun _ => none) w8 rfl (by omega) (by omega) (by omega) (by rw [← hnV]; exact hbd) hst hm (Agree.none _ _) ⟨hb8, hsv⟩ (Nat.le_refl _)
  refine HC.mono ?_
  rintro e w9 ⟨a8, c8, q8, fv8, rfl, hst8, -, -, -, hfr⟩
  have hy8 := hfr.blk hy (by simp; omega) (by simp [Value.ownBlock])
  refine ⟨a8, c8, rfl, hst8.box, hy8, ?_⟩
  intro wz hwz
  have hB8 : Below w.heap.size w w9 := hfr.low (hb2.trans (hb8.mono hb2.size)) (fun g hg => by simp at hg; omega) (fun k hk => by simp [Value.ownBlock] at hk)
  have hB : Below w.heap.size w wz := by rw [← hwz]; exact (hB8.setCell (by simp) _).setCell (by simp) _
  have hO : OwnDn wz w.heap.size (.slice a8 D.length c8) D := by
    rw [← hwz]
    have h1 : w.heap.size + 1 < w8.heap.size := by omega
    exact ((hst8.own.setCell ⟨w.heap.size + 1, 0, none⟩ _ h1).setCell ⟨w.heap.size + 1, 1, none⟩ _ h1).mono (by omega)
  exact ⟨a8, c8, rfl, hO, hB⟩

set_option maxRecDepth 100000 in
set_option maxHeartbeats 8000000 in
theorem bd_impl (a : Option Addr) (c : Nat) (R : List (List TS)) (y : Int) (D : List DN) (b : Bool) (w : World) (hr : bdR R = ((y, D), b)) (h : SmRu w a R c) :
    Calls Tryz.prog 6 #[.agg #[.slice a R.length c]] w (GivesBd w y D b) := by
  have hRl := h.len
  obtain ⟨nR, hnR⟩ : ∃ n, R.length = n := ⟨_, rfl⟩
  have HNR := Lib.hid hnR
  rw [hnR] at hRl ⊢
  clear hnR
  obtain ⟨w1, hw1⟩ : ∃ w1, (w.alloc (.cells #[.slice a nR c] 26)).alloc (.cells #[.int .i64 0, .slice none 0 0] 32) = w1 := ⟨_, rfl⟩
  have HB1 := Lib.hid (show Below w.heap.size w w1 by rw [← hw1]; exact ((Below.refl w.heap.size w).alloc (Nat.le_refl _) _).alloc (by simp) _)
  have HX1 := Lib.hid (show BlkV w1 w.heap.size 26 #[.slice a nR c] by rw [← hw1]; exact (BlkV.new _ _ _).alloc _)
  have HY1 := Lib.hid (show BlkV w1 (w.heap.size + 1) 32 #[.int .i64 0, .slice none 0 0] by rw [← hw1]; exact BlkV.new_ _ _ _ _ (by simp))
  have HS0 := Lib.hid h
  have HR := Lib.hid hr
  obtain ⟨vb, hvb⟩ : ∃ vb, vsB R = vb := ⟨_, rfl⟩
  have HVB := Lib.hid hvb
  have HCV := Lib.hid (show Calls Tryz.prog 25 #[.agg #[.slice a nR c]] w1 (fun e w' => e = .returned (.bool vb) ∧ Below w1.heap.size w1 w') by
    have h1 := vs_impl a c R _ _ hvb (h.below HB1.out)
    rw [HNR.out] at h1
    exact h1)
  have q0 := HX1.out.one0
  have q1 := HY1.out.two0
  have q2 := HY1.out.two1
  clear h hr hvb
  cases vb
  · have hz : ((0, []), false) = ((y, D), b) := by rw [← HR.out]; unfold bdR; rw [HVB.out]; rfl
    obtain ⟨h1, rfl⟩ := Prod.mk.inj hz
    obtain ⟨rfl, rfl⟩ := Prod.mk.inj h1
    go_enter Tryz.func6, Tryz.ntmps6
    go_wp2_with (go_at_call 25; ((refine HCV.out.mono ?_); rintro e w2 ⟨rfl, hb⟩; refine Hid.out ?_))
    have HB2 := Lib.hid (HB1.out.trans (hb.mono HB1.out.size))
    have HY2 := Lib.hid (HY1.out.below hb)
    have r0 := HY2.out.two0
    have r1 := HY2.out.two1
    have f0 := HY2.out.frozen 0
    have f1 := HY2.out.frozen 1
    clear hb q0 q1 q2
    refine Lib.hid ?_
    go_wp2
    generalize hwz : (w2.setCell ⟨w.heap.size + 1, 0, none⟩ (.int .i64 0)).setCell ⟨w.heap.size + 1, 1, none⟩ (.slice none 0 0) = wz
    have hbz : BlkV wz (w.heap.size + 1) 32 #[.int .i64 0, .slice none 0 0] := by rw [← hwz]; exact (HY2.out.set_ 0 (.int .i64 0)).set_ 1 (.slice none 0 0)
    have e0 := hbz.two0
    have e1 := hbz.two1
    have hB : Below w.heap.size w wz := by rw [← hwz]; exact (HB2.out.setCell (by simp) _).setCell (by simp) _
    refine bodyPost_ret (v := .tuple #[.agg #[.int .i64 0, .slice none 0 0], .bool false]) (by simp [results, Tryz.results6, go_sem, e0, e1]) rfl ⟨none, 0, rfl, OwnDn.nil _ _, hB⟩
  · have hz : (bldD R (varsL R) (varsL R).length [] [], true) = ((y, D), b) := by rw [← HR.out]; unfold bdR; rw [HVB.out]; rfl
    obtain ⟨hbd, rfl⟩ := Prod.mk.inj hz
    obtain ⟨V, hV⟩ : ∃ V, varsL R = V := ⟨_, rfl⟩
    rw [hV] at hbd
    have HVL := Lib.hid hV
    have HV := Lib.hid (show varsR R = V by unfold varsR; rw [HVB.out, ← hV]; rfl)
    have HV9 := Lib.hid (show V.length ≤ 9 by rw [← hV]; exact vars_len9 HVB.out)
    obtain ⟨nV, hnV⟩ : ∃ n, V.length = n := ⟨_, rfl⟩
    have HNV := Lib.hid hnV
    have HBD := Lib.hid hbd
    clear hbd hV hz hnV
    go_enter Tryz.func6, Tryz.ntmps6
    go_wp2_with (go_at_call 25; ((refine HCV.out.mono ?_); rintro e w2 ⟨rfl, hb⟩; refine Hid.out ?_))
    have HB2 := Lib.hid (HB1.out.trans (hb.mono HB1.out.size))
    have HX2 := Lib.hid (HX1.out.below hb)
    have HY2 := Lib.hid (HY1.out.below hb)
    have HSZ2 := Lib.hid (show w.heap.size + 2 ≤ w2.heap.size by have := HY2.out.lt; omega)
    have hq2 : Below w2.heap.size w2 w2.drew := ⟨rfl, rfl, rfl, Nat.le_refl _, fun _ _ => rfl⟩
    have HB3 := Lib.hid (HB2.out.trans (hq2.mono HB2.out.size))
    have H23 := Lib.hid hq2
    have HX3 := Lib.hid (HX2.out.below hq2)
    have HY3 := Lib.hid (HY2.out.below hq2)
    clear hb q0 q1 q2 hw1 hq2
    have x2 := HX2.out.one0
    refine Lib.hid ?_
    go_wp2_with (fail)
    refine wp_region_noPanic ?_
    refine wp_region_E (S := fun w' => w'.cell? ⟨w.heap.size, 0, none⟩ = some (.slice a nR c)) 8 (by kernel_rfl) (x2) (fun hHeld => ?_)
    have HW23 := Lib.hid (show w2.heap.size ≤ w2.drew.heap.size from Nat.le_refl _)
    generalize w2.drew = w3 at hHeld HB3 H23 HX3 HY3 HW23 ⊢
    refine anyE_take (i := 0) (v := ?vz75) rfl (by kernel_rfl) (by kernel_rfl) (by kernel_rfl) (by kernel_rfl) (by kernel_rfl) (fun _ _ _ h => h) (Or.inl ⟨by kernel_rfl, ?yz75⟩) (by assumption) ?rz75
    case yz75 => (intro w' hSw; (try dsimp only at hSw); go_simp; (try with_reducible rfl))
    (try simp only [Act.put, List.getElem_toArray, List.getElem_cons_succ, List.getElem_cons_zero, List.setIfInBounds_toArray, List.set_cons_zero, List.set_cons_succ])
    refine anyE_take (i := 1) (v := ?vz76) rfl (by kernel_rfl) (by kernel_rfl) (by kernel_rfl) (by kernel_rfl) (by kernel_rfl) (fun _ _ _ h => h) (Or.inl ⟨by kernel_rfl, ?yz76⟩) (by assumption) ?rz76
    case yz76 => (intro w' hSw; (try dsimp only at hSw); go_simp; (try with_reducible rfl))
    (try simp only [Act.put, List.getElem_toArray, List.getElem_cons_succ, List.getElem_cons_zero, List.setIfInBounds_toArray, List.set_cons_zero, List.set_cons_succ])
    refine anyE_take (i := 2) (v := ?vz77) rfl (by kernel_rfl) (by kernel_rfl) (by kernel_rfl) (by kernel_rfl) (by kernel_rfl) (fun _ _ _ h => h) (Or.inl ⟨by kernel_rfl, ?yz77⟩) (by assumption) ?rz77
    case yz77 => (intro w' hSw; (try dsimp only at hSw); go_simp; (try with_reducible rfl))
    (try simp only [Act.put, List.getElem_toArray, List.getElem_cons_succ, List.getElem_cons_zero, List.setIfInBounds_toArray, List.set_cons_zero, List.set_cons_succ])
    refine anyE_four (i := 3) (j := 4) (k := 5) (l := 7) (by kernel_rfl) (anyE_step rfl (fun K hK => ?_)) (anyE_step rfl (fun K hK => ?_)) (anyE_step rfl (fun K hK => ?_)) (anyE_step rfl (fun K hK => ?_))
    · skip
      go_simp
      go_wp2_with (go_at_call 21; ((refine Calls.mono (show Calls Tryz.prog 21 #[.agg #[.slice a nR c]] w3 (GivesV w3 V) by have h := vars_impl a c R V w3 HV.out (HS0.out.below HB3.out); rw [HNR.out] at h; exact h) ?_); rintro e w4 ⟨aV, cV, rfl, hoV, hb⟩))
      have hnV := HNV.out
      rw [hnV] at hoV ⊢
      clear hnV
      have HB4 := Lib.hid (HB3.out.trans (hb.mono HB3.out.size))
      have H24 := Lib.hid (H23.out.trans (hb.mono H23.out.size))
      have HX4 := Lib.hid (HX3.out.below hb)
      have HY4 := Lib.hid (HY3.out.below hb)
      have HZ4 := Lib.hid hb.size
      have x4 := HX4.out.one0
      have HS4 := Lib.hid (show SmTs w4 aV (V.map tsV) cV from (show OwnV w4 w3.heap.size (.slice aV V.length cV) V by rw [HNV.out]; exact hoV).ts.smTs0 (by rw [List.length_map]; have := HV9.out; have := HNV.out; omega))
      have HAV := Lib.hid (fun (b off : Nat) (e : aV = some ⟨b, off, none⟩) => show w3.heap.size ≤ b ∧ b < w4.heap.size from World.ownsRow.lt hoV b (by rw [e]; rfl))
      clear hoV hb
      refine hK.out _ _ (fun _ => x4) (fun hH => ?_)
      have hHeld := hH (by decide)
      clear hH
      clear hK K
      (try simp only [Act.put, List.getElem_toArray, List.getElem_cons_succ, List.getElem_cons_zero, List.setIfInBounds_toArray, List.set_cons_zero, List.set_cons_succ])
      refine anyE_three (i := 4) (j := 5) (k := 7) (by kernel_rfl) (anyE_step rfl (fun K hK => ?_)) (anyE_step rfl (fun K hK => ?_)) (anyE_step rfl (fun K hK => ?_))
      · skip
        refine step_makeP rfl 51 rfl ?_
        intro bm w5 hsz hsz0 hb hmk
        have HZbm := Lib.hid (And.intro hsz hsz0)
        have HB5 := Lib.hid (HB4.out.trans (hb.mono HB4.out.size))
        have H25 := Lib.hid (H24.out.trans (hb.mono H24.out.size))
        have HX5 := Lib.hid (HX4.out.below hb)
        have HY5 := Lib.hid (HY4.out.below hb)
        have HZ5 := Lib.hid hb.size
        have x5 := HX5.out.one0
        have HS5 := Lib.hid (HS4.out.below hb)
        have HM5 := Lib.hid (show TMap w5 bm 0 (fun _ => none) from hmk _ _ _)
        clear hsz hsz0 hb hmk
        refine hK.out _ _ (fun _ => x5) (fun hH => ?_)
        have hHeld := hH (by decide)
        clear hH
        clear hK K
        (try simp only [Act.put, List.getElem_toArray, List.getElem_cons_succ, List.getElem_cons_zero, List.setIfInBounds_toArray, List.set_cons_zero, List.set_cons_succ])
        refine anyE_two (i := 5) (j := 7) (by kernel_rfl) (anyE_step rfl (fun K hK => ?_)) (anyE_step rfl (fun K hK => ?_))
        · skip
          refine step_makeP rfl 52 rfl ?_
          intro br w6 hsz hsz0 hb hmk
          have HZbr := Lib.hid (And.intro hsz hsz0)
          have HB6 := Lib.hid (HB5.out.trans (hb.mono HB5.out.size))
          have H26 := Lib.hid (H25.out.trans (hb.mono H25.out.size))
          have HX6 := Lib.hid (HX5.out.below hb)
          have HY6 := Lib.hid (HY5.out.below hb)
          have HZ6 := Lib.hid hb.size
          have x6 := HX6.out.one0
          have HS6 := Lib.hid (HS5.out.below hb)
          have HM6 := Lib.hid (HM5.out.below hb)
          have HD6 := Lib.hid (show DMap w6 br 0 (fun _ => none) from hmk _ _ _)
          clear hsz hsz0 hb hmk
          refine hK.out _ _ (fun _ => x6) (fun hH => ?_)
          have hHeld := hH (by decide)
          clear hH
          clear hK K
          (try simp only [Act.put, List.getElem_toArray, List.getElem_cons_succ, List.getElem_cons_zero, List.setIfInBounds_toArray, List.set_cons_zero, List.set_cons_succ])
          refine anyE_take (i := 6) (v := ?vz1) rfl (by kernel_rfl) (by kernel_rfl) (by kernel_rfl) (by kernel_rfl) (by kernel_rfl) (fun _ _ _ h => h) (Or.inl ⟨by kernel_rfl, ?yz1⟩) (by assumption) ?rz1
          case yz1 => (intro w' hSw; (try dsimp only at hSw); go_simp; (try with_reducible rfl))
          (try simp only [Act.put, List.getElem_toArray, List.getElem_cons_succ, List.getElem_cons_zero, List.setIfInBounds_toArray, List.set_cons_zero, List.set_cons_succ])
          refine anyE_one (i := 7) (by kernel_rfl) (anyE_step rfl (fun K hK => ?_))
          go_simp
          generalize hwn : w6.alloc (.cells #[.slice none 0 0, .slice none 0 0, .map none, .map none, .slice none 0 0] 54) = w7
          have hb : Below w6.heap.size w6 w7 := by rw [← hwn]; exact (Below.refl _ _).alloc (Nat.le_refl _) _
          have hgx : BlkV w7 w6.heap.size 54 #[.slice none 0 0, .slice none 0 0, .map none, .map none, .slice none 0 0] := by rw [← hwn]; exact BlkV.new _ _ _
          have hsz : w7.heap.size = w6.heap.size + 1 := by rw [← hwn]; simp
          clear hwn
          generalize hsz0 : w6.heap.size = gB at hgx hsz ⊢
          have HZgB := Lib.hid (And.intro hsz hsz0)
          have HB7 := Lib.hid (HB6.out.trans (hb.mono HB6.out.size))
          have H27 := Lib.hid (H26.out.trans (hb.mono H26.out.size))
          have HX7 := Lib.hid (HX6.out.below hb)
          have HY7 := Lib.hid (HY6.out.below hb)
          have HZ7 := Lib.hid hb.size
          have x7 := HX7.out.one0
          have HS7 := Lib.hid (HS6.out.below hb)
          have HM7 := Lib.hid (HM6.out.below hb)
          have HD7 := Lib.hid (HD6.out.below hb)
          have HG7 := Lib.hid hgx
          clear hsz hsz0 hb hgx
          refine hK.out _ _ (fun _ => x7) (fun hH => ?_)
          have hHeld := hH (by decide)
          clear hH
          clear hK K
          (try simp only [Act.put, List.getElem_toArray, List.getElem_cons_succ, List.getElem_cons_zero, List.setIfInBounds_toArray, List.set_cons_zero, List.set_cons_succ])
          have g0 := HG7.out.cell 0
          have h0 := HG7.out.frozen 0
          have g1 := HG7.out.cell 1
          have h1 := HG7.out.frozen 1
          have g2 := HG7.out.cell 2
          have h2 := HG7.out.frozen 2
          have g3 := HG7.out.cell 3
          have h3 := HG7.out.frozen 3
          have g4 := HG7.out.cell 4
          have h4 := HG7.out.frozen 4
          refine anyE_one (i := 8) (by kernel_rfl) (anyE_step rfl (fun K hK => ?_))
          go_simp
          refine hK.out _ _ (fun h => absurd rfl h) (fun _ => ?_)
          clear hK K
          (try simp only [Act.put, List.getElem_toArray, List.getElem_cons_succ, List.getElem_cons_zero, List.setIfInBounds_toArray, List.set_cons_zero, List.set_cons_succ])
          refine anyE_done (by kernel_rfl) ?_ _
          refine NoPanic.normal ?_
          generalize hw8 : ((((w7.setCell ⟨gB, 0, none⟩ (.slice a nR c)).setCell ⟨gB, 1, none⟩ (.slice aV nV cV)).setCell ⟨gB, 2, none⟩ (.map (some bm))).setCell ⟨gB, 3, none⟩ (.map (some br))).setCell ⟨gB, 4, none⟩ (.slice none 0 0) = w8
          have hz := And.intro HZ4.out (And.intro HZ5.out (And.intro HZ6.out (And.intro HZ7.out (And.intro HZbm.out (And.intro HZbr.out (And.intro HZgB.out (And.intro HW23.out HSZ2.out)))))))
          have HT := bd_tail a c R nR V nV y D w w2 w7 w8 aV cV bm br gB HNR.out HNV.out HV9.out HVB.out HVL.out HBD.out HS0.out HSZ2.out HB2.out HG7.out hw8 H27.out HY7.out HM7.out HD7.out HS7.out (fun b off e => by have := HAV.out b off e; omega) (by omega)
          clear hw8 hz x2 x4 x5 x6 x7 g0 g1 g2 g3 g4 h0 h1 h2 h3 h4
          have HCALL := Lib.hid HT
          clear HT
          go_wp2_with (go_at_call 26; ((refine HCALL.out.mono ?_); rintro e w9 ⟨a8, c8, rfl, hg8, hy8, hen⟩; refine Hid.out ?_))
          have gc : w9.cell? ⟨gB, 4, none⟩ = some (.slice a8 D.length c8) := hg8.cell 4
          have f0 := hy8.frozen 0
          have f1 := hy8.frozen 1
          have t0 := hy8.two0
          have t1 := hy8.two1
          have HEN := Lib.hid hen
          have HY9 := Lib.hid hy8
          clear hg8 hy8 hen
          refine Lib.hid ?_
          go_wp2
          generalize hwz : (w9.setCell ⟨w.heap.size + 1, 0, none⟩ (.int .i64 y)).setCell ⟨w.heap.size + 1, 1, none⟩ (.slice a8 D.length c8) = wz
          have hbz : BlkV wz (w.heap.size + 1) 32 #[.int .i64 y, .slice a8 D.length c8] := by rw [← hwz]; exact (HY9.out.set_ 0 (.int .i64 y)).set_ 1 (.slice a8 D.length c8)
          have e0 := hbz.two0
          have e1 := hbz.two1
          refine bodyPost_ret (v := .tuple #[.agg #[.int .i64 y, .slice a8 D.length c8], .bool true]) (by simp [results, Tryz.results6, go_sem, e0, e1]) rfl ?_
          exact HEN.out wz hwz
        · skip
          go_simp
          generalize hwn : w5.alloc (.cells #[.slice none 0 0, .slice none 0 0, .map none, .map none, .slice none 0 0] 54) = w6
          have hb : Below w5.heap.size w5 w6 := by rw [← hwn]; exact (Below.refl _ _).alloc (Nat.le_refl _) _
          have hgx : BlkV w6 w5.heap.size 54 #[.slice none 0 0, .slice none 0 0, .map none, .map none, .slice none 0 0] := by rw [← hwn]; exact BlkV.new _ _ _
          have hsz : w6.heap.size = w5.heap.size + 1 := by rw [← hwn]; simp
          clear hwn
          generalize hsz0 : w5.heap.size = gB at hgx hsz ⊢
          have HZgB := Lib.hid (And.intro hsz hsz0)
          have HB6 := Lib.hid (HB5.out.trans (hb.mono HB5.out.size))
          have H26 := Lib.hid (H25.out.trans (hb.mono H25.out.size))
          have HX6 := Lib.hid (HX5.out.below hb)
          have HY6 := Lib.hid (HY5.out.below hb)
          have HZ6 := Lib.hid hb.size
          have x6 := HX6.out.one0
          have HS6 := Lib.hid (HS5.out.below hb)
          have HM6 := Lib.hid (HM5.out.below hb)
          have HG6 := Lib.hid hgx
          clear hsz hsz0 hb hgx
          refine hK.out _ _ (fun _ => x6) (fun hH => ?_)
          have hHeld := hH (by decide)
          clear hH
          clear hK K
          (try simp only [Act.put, List.getElem_toArray, List.getElem_cons_succ, List.getElem_cons_zero, List.setIfInBounds_toArray, List.set_cons_zero, List.set_cons_succ])
          refine anyE_one (i := 5) (by kernel_rfl) (anyE_step rfl (fun K hK => ?_))
          refine step_makeP rfl 52 rfl ?_
          intro br w7 hsz hsz0 hb hmk
          have HZbr := Lib.hid (And.intro hsz hsz0)
          have HB7 := Lib.hid (HB6.out.trans (hb.mono HB6.out.size))
          have H27 := Lib.hid (H26.out.trans (hb.mono H26.out.size))
          have HX7 := Lib.hid (HX6.out.below hb)
          have HY7 := Lib.hid (HY6.out.below hb)
          have HZ7 := Lib.hid hb.size
          have x7 := HX7.out.one0
          have HS7 := Lib.hid (HS6.out.below hb)
          have HM7 := Lib.hid (HM6.out.below hb)
          have HG7 := Lib.hid (HG6.out.below hb)
          have HD7 := Lib.hid (show DMap w7 br 0 (fun _ => none) from hmk _ _ _)
          clear hsz hsz0 hb hmk
          refine hK.out _ _ (fun _ => x7) (fun hH => ?_)
          have hHeld := hH (by decide)
          clear hH
          clear hK K
          (try simp only [Act.put, List.getElem_toArray, List.getElem_cons_succ, List.getElem_cons_zero, List.setIfInBounds_toArray, List.set_cons_zero, List.set_cons_succ])
          refine anyE_take (i := 6) (v := ?vz2) rfl (by kernel_rfl) (by kernel_rfl) (by kernel_rfl) (by kernel_rfl) (by kernel_rfl) (fun _ _ _ h => h) (Or.inl ⟨by kernel_rfl, ?yz2⟩) (by assumption) ?rz2
          case yz2 => (intro w' hSw; (try dsimp only at hSw); go_simp; (try with_reducible rfl))
          (try simp only [Act.put, List.getElem_toArray, List.getElem_cons_succ, List.getElem_cons_zero, List.setIfInBounds_toArray, List.set_cons_zero, List.set_cons_succ])
          have g0 := HG7.out.cell 0
          have h0 := HG7.out.frozen 0
          have g1 := HG7.out.cell 1
          have h1 := HG7.out.frozen 1
          have g2 := HG7.out.cell 2
          have h2 := HG7.out.frozen 2
          have g3 := HG7.out.cell 3
          have h3 := HG7.out.frozen 3
          have g4 := HG7.out.cell 4
          have h4 := HG7.out.frozen 4
          refine anyE_one (i := 8) (by kernel_rfl) (anyE_step rfl (fun K hK => ?_))
          go_simp
          refine hK.out _ _ (fun h => absurd rfl h) (fun _ => ?_)
          clear hK K
          (try simp only [Act.put, List.getElem_toArray, List.getElem_cons_succ, List.getElem_cons_zero, List.setIfInBounds_toArray, List.set_cons_zero, List.set_cons_succ])
          refine anyE_done (by kernel_rfl) ?_ _
          refine NoPanic.normal ?_
          generalize hw8 : ((((w7.setCell ⟨gB, 0, none⟩ (.slice a nR c)).setCell ⟨gB, 1, none⟩ (.slice aV nV cV)).setCell ⟨gB, 2, none⟩ (.map (some bm))).setCell ⟨gB, 3, none⟩ (.map (some br))).setCell ⟨gB, 4, none⟩ (.slice none 0 0) = w8
          have hz := And.intro HZ4.out (And.intro HZ5.out (And.intro HZ6.out (And.intro HZ7.out (And.intro HZbm.out (And.intro HZbr.out (And.intro HZgB.out (And.intro HW23.out HSZ2.out)))))))
          have HT := bd_tail a c R nR V nV y D w w2 w7 w8 aV cV bm br gB HNR.out HNV.out HV9.out HVB.out HVL.out HBD.out HS0.out HSZ2.out HB2.out HG7.out hw8 H27.out HY7.out HM7.out HD7.out HS7.out (fun b off e => by have := HAV.out b off e; omega) (by omega)
          clear hw8 hz x2 x4 x5 x6 x7 g0 g1 g2 g3 g4 h0 h1 h2 h3 h4
          have HCALL := Lib.hid HT
          clear HT
          go_wp2_with (go_at_call 26; ((refine HCALL.out.mono ?_); rintro e w9 ⟨a8, c8, rfl, hg8, hy8, hen⟩; refine Hid.out ?_))
          have gc : w9.cell? ⟨gB, 4, none⟩ = some (.slice a8 D.length c8) := hg8.cell 4
          have f0 := hy8.frozen 0
          have f1 := hy8.frozen 1
          have t0 := hy8.two0
          have t1 := hy8.two1
          have HEN := Lib.hid hen
          have HY9 := Lib.hid hy8
          clear hg8 hy8 hen
          refine Lib.hid ?_
          go_wp2
          generalize hwz : (w9.setCell ⟨w.heap.size + 1, 0, none⟩ (.int .i64 y)).setCell ⟨w.heap.size + 1, 1, none⟩ (.slice a8 D.length c8) = wz
          have hbz : BlkV wz (w.heap.size + 1) 32 #[.int .i64 y, .slice a8 D.length c8] := by rw [← hwz]; exact (HY9.out.set_ 0 (.int .i64 y)).set_ 1 (.slice a8 D.length c8)
          have e0 := hbz.two0
          have e1 := hbz.two1
          refine bodyPost_ret (v := .tuple #[.agg #[.int .i64 y, .slice a8 D.length c8], .bool true]) (by simp [results, Tryz.results6, go_sem, e0, e1]) rfl ?_
          exact HEN.out wz hwz
      · skip
        refine step_makeP rfl 52 rfl ?_
        intro br w5 hsz hsz0 hb hmk
        have HZbr := Lib.hid (And.intro hsz hsz0)
        have HB5 := Lib.hid (HB4.out.trans (hb.mono HB4.out.size))
        have H25 := Lib.hid (H24.out.trans (hb.mono H24.out.size))
        have HX5 := Lib.hid (HX4.out.below hb)
        have HY5 := Lib.hid (HY4.out.below hb)
        have HZ5 := Lib.hid hb.size
        have x5 := HX5.out.one0
        have HS5 := Lib.hid (HS4.out.below hb)
        have HD5 := Lib.hid (show DMap w5 br 0 (fun _ => none) from hmk _ _ _)
        clear hsz hsz0 hb hmk
        refine hK.out _ _ (fun _ => x5) (fun hH => ?_)
        have hHeld := hH (by decide)
        clear hH
        clear hK K
        (try simp only [Act.put, List.getElem_toArray, List.getElem_cons_succ, List.getElem_cons_zero, List.setIfInBounds_toArray, List.set_cons_zero, List.set_cons_succ])
        refine anyE_two (i := 4) (j := 7) (by kernel_rfl) (anyE_step rfl (fun K hK => ?_)) (anyE_step rfl (fun K hK => ?_))
        · skip
          refine step_makeP rfl 51 rfl ?_
          intro bm w6 hsz hsz0 hb hmk
          have HZbm := Lib.hid (And.intro hsz hsz0)
          have HB6 := Lib.hid (HB5.out.trans (hb.mono HB5.out.size))
          have H26 := Lib.hid (H25.out.trans (hb.mono H25.out.size))
          have HX6 := Lib.hid (HX5.out.below hb)
          have HY6 := Lib.hid (HY5.out.below hb)
          have HZ6 := Lib.hid hb.size
          have x6 := HX6.out.one0
          have HS6 := Lib.hid (HS5.out.below hb)
          have HD6 := Lib.hid (HD5.out.below hb)
          have HM6 := Lib.hid (show TMap w6 bm 0 (fun _ => none) from hmk _ _ _)
          clear hsz hsz0 hb hmk
          refine hK.out _ _ (fun _ => x6) (fun hH => ?_)
          have hHeld := hH (by decide)
          clear hH
          clear hK K
          (try simp only [Act.put, List.getElem_toArray, List.getElem_cons_succ, List.getElem_cons_zero, List.setIfInBounds_toArray, List.set_cons_zero, List.set_cons_succ])
          refine anyE_take (i := 6) (v := ?vz3) rfl (by kernel_rfl) (by kernel_rfl) (by kernel_rfl) (by kernel_rfl) (by kernel_rfl) (fun _ _ _ h => h) (Or.inl ⟨by kernel_rfl, ?yz3⟩) (by assumption) ?rz3
          case yz3 => (intro w' hSw; (try dsimp only at hSw); go_simp; (try with_reducible rfl))
          (try simp only [Act.put, List.getElem_toArray, List.getElem_cons_succ, List.getElem_cons_zero, List.setIfInBounds_toArray, List.set_cons_zero, List.set_cons_succ])
          refine anyE_one (i := 7) (by kernel_rfl) (anyE_step rfl (fun K hK => ?_))
          go_simp
          generalize hwn : w6.alloc (.cells #[.slice none 0 0, .slice none 0 0, .map none, .map none, .slice none 0 0] 54) = w7
          have hb : Below w6.heap.size w6 w7 := by rw [← hwn]; exact (Below.refl _ _).alloc (Nat.le_refl _) _
          have hgx : BlkV w7 w6.heap.size 54 #[.slice none 0 0, .slice none 0 0, .map none, .map none, .slice none 0 0] := by rw [← hwn]; exact BlkV.new _ _ _
          have hsz : w7.heap.size = w6.heap.size + 1 := by rw [← hwn]; simp
          clear hwn
          generalize hsz0 : w6.heap.size = gB at hgx hsz ⊢
          have HZgB := Lib.hid (And.intro hsz hsz0)
          have HB7 := Lib.hid (HB6.out.trans (hb.mono HB6.out.size))
          have H27 := Lib.hid (H26.out.trans (hb.mono H26.out.size))
          have HX7 := Lib.hid (HX6.out.below hb)
          have HY7 := Lib.hid (HY6.out.below hb)
          have HZ7 := Lib.hid hb.size
          have x7 := HX7.out.one0
          have HS7 := Lib.hid (HS6.out.below hb)
          have HD7 := Lib.hid (HD6.out.below hb)
          have HM7 := Lib.hid (HM6.out.below hb)
          have HG7 := Lib.hid hgx
          clear hsz hsz0 hb hgx
          refine hK.out _ _ (fun _ => x7) (fun hH => ?_)
          have hHeld := hH (by decide)
          clear hH
          clear hK K
          (try simp only [Act.put, List.getElem_toArray, List.getElem_cons_succ, List.getElem_cons_zero, List.setIfInBounds_toArray, List.set_cons_zero, List.set_cons_succ])
          have g0 := HG7.out.cell 0
          have h0 := HG7.out.frozen 0
          have g1 := HG7.out.cell 1
          have h1 := HG7.out.frozen 1
          have g2 := HG7.out.cell 2
          have h2 := HG7.out.frozen 2
          have g3 := HG7.out.cell 3
          have h3 := HG7.out.frozen 3
          have g4 := HG7.out.cell 4
          have h4 := HG7.out.frozen 4
          refine anyE_one (i := 8) (by kernel_rfl) (anyE_step rfl (fun K hK => ?_))
          go_simp
          refine hK.out _ _ (fun h => absurd rfl h) (fun _ => ?_)
          clear hK K
          (try simp only [Act.put, List.getElem_toArray, List.getElem_cons_succ, List.getElem_cons_zero, List.setIfInBounds_toArray, List.set_cons_zero, List.set_cons_succ])
          refine anyE_done (by kernel_rfl) ?_ _
          refine NoPanic.normal ?_
          generalize hw8 : ((((w7.setCell ⟨gB, 0, none⟩ (.slice a nR c)).setCell ⟨gB, 1, none⟩ (.slice aV nV cV)).setCell ⟨gB, 2, none⟩ (.map (some bm))).setCell ⟨gB, 3, none⟩ (.map (some br))).setCell ⟨gB, 4, none⟩ (.slice none 0 0) = w8
          have hz := And.intro HZ4.out (And.intro HZ5.out (And.intro HZ6.out (And.intro HZ7.out (And.intro HZbm.out (And.intro HZbr.out (And.intro HZgB.out (And.intro HW23.out HSZ2.out)))))))
          have HT := bd_tail a c R nR V nV y D w w2 w7 w8 aV cV bm br gB HNR.out HNV.out HV9.out HVB.out HVL.out HBD.out HS0.out HSZ2.out HB2.out HG7.out hw8 H27.out HY7.out HM7.out HD7.out HS7.out (fun b off e => by have := HAV.out b off e; omega) (by omega)
          clear hw8 hz x2 x4 x5 x6 x7 g0 g1 g2 g3 g4 h0 h1 h2 h3 h4
          have HCALL := Lib.hid HT
          clear HT
          go_wp2_with (go_at_call 26; ((refine HCALL.out.mono ?_); rintro e w9 ⟨a8, c8, rfl, hg8, hy8, hen⟩; refine Hid.out ?_))
          have gc : w9.cell? ⟨gB, 4, none⟩ = some (.slice a8 D.length c8) := hg8.cell 4
          have f0 := hy8.frozen 0
          have f1 := hy8.frozen 1
          have t0 := hy8.two0
          have t1 := hy8.two1
          have HEN := Lib.hid hen
          have HY9 := Lib.hid hy8
          clear hg8 hy8 hen
          refine Lib.hid ?_
          go_wp2
          generalize hwz : (w9.setCell ⟨w.heap.size + 1, 0, none⟩ (.int .i64 y)).setCell ⟨w.heap.size + 1, 1, none⟩ (.slice a8 D.length c8) = wz
          have hbz : BlkV wz (w.heap.size + 1) 32 #[.int .i64 y, .slice a8 D.length c8] := by rw [← hwz]; exact (HY9.out.set_ 0 (.int .i64 y)).set_ 1 (.slice a8 D.length c8)
          have e0 := hbz.two0
          have e1 := hbz.two1
          refine bodyPost_ret (v := .tuple #[.agg #[.int .i64 y, .slice a8 D.length c8], .bool true]) (by simp [results, Tryz.results6, go_sem, e0, e1]) rfl ?_
          exact HEN.out wz hwz
        · skip
          go_simp
          generalize hwn : w5.alloc (.cells #[.slice none 0 0, .slice none 0 0, .map none, .map none, .slice none 0 0] 54) = w6
          have hb : Below w5.heap.size w5 w6 := by rw [← hwn]; exact (Below.refl _ _).alloc (Nat.le_refl _) _
          have hgx : BlkV w6 w5.heap.size 54 #[.slice none 0 0, .slice none 0 0, .map none, .map none, .slice none 0 0] := by rw [← hwn]; exact BlkV.new _ _ _
          have hsz : w6.heap.size = w5.heap.size + 1 := by rw [← hwn]; simp
          clear hwn
          generalize hsz0 : w5.heap.size = gB at hgx hsz ⊢
          have HZgB := Lib.hid (And.intro hsz hsz0)
          have HB6 := Lib.hid (HB5.out.trans (hb.mono HB5.out.size))
          have H26 := Lib.hid (H25.out.trans (hb.mono H25.out.size))
          have HX6 := Lib.hid (HX5.out.below hb)
          have HY6 := Lib.hid (HY5.out.below hb)
          have HZ6 := Lib.hid hb.size
          have x6 := HX6.out.one0
          have HS6 := Lib.hid (HS5.out.below hb)
          have HD6 := Lib.hid (HD5.out.below hb)
          have HG6 := Lib.hid hgx
          clear hsz hsz0 hb hgx
          refine hK.out _ _ (fun _ => x6) (fun hH => ?_)
          have hHeld := hH (by decide)
          clear hH
          clear hK K
          (try simp only [Act.put, List.getElem_toArray, List.getElem_cons_succ, List.getElem_cons_zero, List.setIfInBounds_toArray, List.set_cons_zero, List.set_cons_succ])
          refine anyE_one (i := 4) (by kernel_rfl) (anyE_step rfl (fun K hK => ?_))
          refine step_makeP rfl 51 rfl ?_
          intro bm w7 hsz hsz0 hb hmk
          have HZbm := Lib.hid (And.intro hsz hsz0)
          have HB7 := Lib.hid (HB6.out.trans (hb.mono HB6.out.size))
          have H27 := Lib.hid (H26.out.trans (hb.mono H26.out.size))
          have HX7 := Lib.hid (HX6.out.below hb)
          have HY7 := Lib.hid (HY6.out.below hb)
          have HZ7 := Lib.hid hb.size
          have x7 := HX7.out.one0
          have HS7 := Lib.hid (HS6.out.below hb)
          have HD7 := Lib.hid (HD6.out.below hb)
          have HG7 := Lib.hid (HG6.out.below hb)
          have HM7 := Lib.hid (show TMap w7 bm 0 (fun _ => none) from hmk _ _ _)
          clear hsz hsz0 hb hmk
          refine hK.out _ _ (fun _ => x7) (fun hH => ?_)
          have hHeld := hH (by decide)
          clear hH
          clear hK K
          (try simp only [Act.put, List.getElem_toArray, List.getElem_cons_succ, List.getElem_cons_zero, List.setIfInBounds_toArray, List.set_cons_zero, List.set_cons_succ])
          refine anyE_take (i := 6) (v := ?vz4) rfl (by kernel_rfl) (by kernel_rfl) (by kernel_rfl) (by kernel_rfl) (by kernel_rfl) (fun _ _ _ h => h) (Or.inl ⟨by kernel_rfl, ?yz4⟩) (by assumption) ?rz4
          case yz4 => (intro w' hSw; (try dsimp only at hSw); go_simp; (try with_reducible rfl))
          (try simp only [Act.put, List.getElem_toArray, List.getElem_cons_succ, List.getElem_cons_zero, List.setIfInBounds_toArray, List.set_cons_zero, List.set_cons_succ])
          have g0 := HG7.out.cell 0
          have h0 := HG7.out.frozen 0
          have g1 := HG7.out.cell 1
          have h1 := HG7.out.frozen 1
          have g2 := HG7.out.cell 2
          have h2 := HG7.out.frozen 2
          have g3 := HG7.out.cell 3
          have h3 := HG7.out.frozen 3
          have g4 := HG7.out.cell 4
          have h4 := HG7.out.frozen 4
          refine anyE_one (i := 8) (by kernel_rfl) (anyE_step rfl (fun K hK => ?_))
          go_simp
          refine hK.out _ _ (fun h => absurd rfl h) (fun _ => ?_)
          clear hK K
          (try simp only [Act.put, List.getElem_toArray, List.getElem_cons_succ, List.getElem_cons_zero, List.setIfInBounds_toArray, List.set_cons_zero, List.set_cons_succ])
          refine anyE_done (by kernel_rfl) ?_ _
          refine NoPanic.normal ?_
          generalize hw8 : ((((w7.setCell ⟨gB, 0, none⟩ (.slice a nR c)).setCell ⟨gB, 1, none⟩ (.slice aV nV cV)).setCell ⟨gB, 2, none⟩ (.map (some bm))).setCell ⟨gB, 3, none⟩ (.map (some br))).setCell ⟨gB, 4, none⟩ (.slice none 0 0) = w8
          have hz := And.intro HZ4.out (And.intro HZ5.out (And.intro HZ6.out (And.intro HZ7.out (And.intro HZbm.out (And.intro HZbr.out (And.intro HZgB.out (And.intro HW23.out HSZ2.out)))))))
          have HT := bd_tail a c R nR V nV y D w w2 w7 w8 aV cV bm br gB HNR.out HNV.out HV9.out HVB.out HVL.out HBD.out HS0.out HSZ2.out HB2.out HG7.out hw8 H27.out HY7.out HM7.out HD7.out HS7.out (fun b off e => by have := HAV.out b off e; omega) (by omega)
          clear hw8 hz x2 x4 x5 x6 x7 g0 g1 g2 g3 g4 h0 h1 h2 h3 h4
          have HCALL := Lib.hid HT
          clear HT
          go_wp2_with (go_at_call 26; ((refine HCALL.out.mono ?_); rintro e w9 ⟨a8, c8, rfl, hg8, hy8, hen⟩; refine Hid.out ?_))
          have gc : w9.cell? ⟨gB, 4, none⟩ = some (.slice a8 D.length c8) := hg8.cell 4
          have f0 := hy8.frozen 0
          have f1 := hy8.frozen 1
          have t0 := hy8.two0
          have t1 := hy8.two1
          have HEN := Lib.hid hen
          have HY9 := Lib.hid hy8
          clear hg8 hy8 hen
          refine Lib.hid ?_
          go_wp2
          generalize hwz : (w9.setCell ⟨w.heap.size + 1, 0, none⟩ (.int .i64 y)).setCell ⟨w.heap.size + 1, 1, none⟩ (.slice a8 D.length c8) = wz
          have hbz : BlkV wz (w.heap.size + 1) 32 #[.int .i64 y, .slice a8 D.length c8] := by rw [← hwz]; exact (HY9.out.set_ 0 (.int .i64 y)).set_ 1 (.slice a8 D.length c8)
          have e0 := hbz.two0
          have e1 := hbz.two1
          refine bodyPost_ret (v := .tuple #[.agg #[.int .i64 y, .slice a8 D.length c8], .bool true]) (by simp [results, Tryz.results6, go_sem, e0, e1]) rfl ?_
          exact HEN.out wz hwz
      · skip
        go_simp
        generalize hwn : w4.alloc (.cells #[.slice none 0 0, .slice none 0 0, .map none, .map none, .slice none 0 0] 54) = w5
        have hb : Below w4.heap.size w4 w5 := by rw [← hwn]; exact (Below.refl _ _).alloc (Nat.le_refl _) _
        have hgx : BlkV w5 w4.heap.size 54 #[.slice none 0 0, .slice none 0 0, .map none, .map none, .slice none 0 0] := by rw [← hwn]; exact BlkV.new _ _ _
        have hsz : w5.heap.size = w4.heap.size + 1 := by rw [← hwn]; simp
        clear hwn
        generalize hsz0 : w4.heap.size = gB at hgx hsz ⊢
        have HZgB := Lib.hid (And.intro hsz hsz0)
        have HB5 := Lib.hid (HB4.out.trans (hb.mono HB4.out.size))
        have H25 := Lib.hid (H24.out.trans (hb.mono H24.out.size))
        have HX5 := Lib.hid (HX4.out.below hb)
        have HY5 := Lib.hid (HY4.out.below hb)
        have HZ5 := Lib.hid hb.size
        have x5 := HX5.out.one0
        have HS5 := Lib.hid (HS4.out.below hb)
        have HG5 := Lib.hid hgx
        clear hsz hsz0 hb hgx
        refine hK.out _ _ (fun _ => x5) (fun hH => ?_)
        have hHeld := hH (by decide)
        clear hH
        clear hK K
        (try simp only [Act.put, List.getElem_toArray, List.getElem_cons_succ, List.getElem_cons_zero, List.setIfInBounds_toArray, List.set_cons_zero, List.set_cons_succ])
        refine anyE_two (i := 4) (j := 5) (by kernel_rfl) (anyE_step rfl (fun K hK => ?_)) (anyE_step rfl (fun K hK => ?_))
        · skip
          refine step_makeP rfl 51 rfl ?_
          intro bm w6 hsz hsz0 hb hmk
          have HZbm := Lib.hid (And.intro hsz hsz0)
          have HB6 := Lib.hid (HB5.out.trans (hb.mono HB5.out.size))
          have H26 := Lib.hid (H25.out.trans (hb.mono H25.out.size))
          have HX6 := Lib.hid (HX5.out.below hb)
          have HY6 := Lib.hid (HY5.out.below hb)
          have HZ6 := Lib.hid hb.size
          have x6 := HX6.out.one0
          have HS6 := Lib.hid (HS5.out.below hb)
          have HG6 := Lib.hid (HG5.out.below hb)
          have HM6 := Lib.hid (show TMap w6 bm 0 (fun _ => none) from hmk _ _ _)
          clear hsz hsz0 hb hmk
          refine hK.out _ _ (fun _ => x6) (fun hH => ?_)
          have hHeld := hH (by decide)
          clear hH
          clear hK K
          (try simp only [Act.put, List.getElem_toArray, List.getElem_cons_succ, List.getElem_cons_zero, List.setIfInBounds_toArray, List.set_cons_zero, List.set_cons_succ])
          refine anyE_one (i := 5) (by kernel_rfl) (anyE_step rfl (fun K hK => ?_))
          refine step_makeP rfl 52 rfl ?_
          intro br w7 hsz hsz0 hb hmk
          have HZbr := Lib.hid (And.intro hsz hsz0)
          have HB7 := Lib.hid (HB6.out.trans (hb.mono HB6.out.size))
          have H27 := Lib.hid (H26.out.trans (hb.mono H26.out.size))
          have HX7 := Lib.hid (HX6.out.below hb)
          have HY7 := Lib.hid (HY6.out.below hb)
          have HZ7 := Lib.hid hb.size
          have x7 := HX7.out.one0
          have HS7 := Lib.hid (HS6.out.below hb)
          have HG7 := Lib.hid (HG6.out.below hb)
          have HM7 := Lib.hid (HM6.out.below hb)
          have HD7 := Lib.hid (show DMap w7 br 0 (fun _ => none) from hmk _ _ _)
          clear hsz hsz0 hb hmk
          refine hK.out _ _ (fun _ => x7) (fun hH => ?_)
          have hHeld := hH (by decide)
          clear hH
          clear hK K
          (try simp only [Act.put, List.getElem_toArray, List.getElem_cons_succ, List.getElem_cons_zero, List.setIfInBounds_toArray, List.set_cons_zero, List.set_cons_succ])
          refine anyE_take (i := 6) (v := ?vz5) rfl (by kernel_rfl) (by kernel_rfl) (by kernel_rfl) (by kernel_rfl) (by kernel_rfl) (fun _ _ _ h => h) (Or.inl ⟨by kernel_rfl, ?yz5⟩) (by assumption) ?rz5
          case yz5 => (intro w' hSw; (try dsimp only at hSw); go_simp; (try with_reducible rfl))
          (try simp only [Act.put, List.getElem_toArray, List.getElem_cons_succ, List.getElem_cons_zero, List.setIfInBounds_toArray, List.set_cons_zero, List.set_cons_succ])
          have g0 := HG7.out.cell 0
          have h0 := HG7.out.frozen 0
          have g1 := HG7.out.cell 1
          have h1 := HG7.out.frozen 1
          have g2 := HG7.out.cell 2
          have h2 := HG7.out.frozen 2
          have g3 := HG7.out.cell 3
          have h3 := HG7.out.frozen 3
          have g4 := HG7.out.cell 4
          have h4 := HG7.out.frozen 4
          refine anyE_one (i := 8) (by kernel_rfl) (anyE_step rfl (fun K hK => ?_))
          go_simp
          refine hK.out _ _ (fun h => absurd rfl h) (fun _ => ?_)
          clear hK K
          (try simp only [Act.put, List.getElem_toArray, List.getElem_cons_succ, List.getElem_cons_zero, List.setIfInBounds_toArray, List.set_cons_zero, List.set_cons_succ])
          refine anyE_done (by kernel_rfl) ?_ _
          refine NoPanic.normal ?_
          generalize hw8 : ((((w7.setCell ⟨gB, 0, none⟩ (.slice a nR c)).setCell ⟨gB, 1, none⟩ (.slice aV nV cV)).setCell ⟨gB, 2, none⟩ (.map (some bm))).setCell ⟨gB, 3, none⟩ (.map (some br))).setCell ⟨gB, 4, none⟩ (.slice none 0 0) = w8
          have hz := And.intro HZ4.out (And.intro HZ5.out (And.intro HZ6.out (And.intro HZ7.out (And.intro HZbm.out (And.intro HZbr.out (And.intro HZgB.out (And.intro HW23.out HSZ2.out)))))))
          have HT := bd_tail a c R nR V nV y D w w2 w7 w8 aV cV bm br gB HNR.out HNV.out HV9.out HVB.out HVL.out HBD.out HS0.out HSZ2.out HB2.out HG7.out hw8 H27.out HY7.out HM7.out HD7.out HS7.out (fun b off e => by have := HAV.out b off e; omega) (by omega)
          clear hw8 hz x2 x4 x5 x6 x7 g0 g1 g2 g3 g4 h0 h1 h2 h3 h4
          have HCALL := Lib.hid HT
          clear HT
          go_wp2_with (go_at_call 26; ((refine HCALL.out.mono ?_); rintro e w9 ⟨a8, c8, rfl, hg8, hy8, hen⟩; refine Hid.out ?_))
          have gc : w9.cell? ⟨gB, 4, none⟩ = some (.slice a8 D.length c8) := hg8.cell 4
          have f0 := hy8.frozen 0
          have f1 := hy8.frozen 1
          have t0 := hy8.two0
          have t1 := hy8.two1
          have HEN := Lib.hid hen
          have HY9 := Lib.hid hy8
          clear hg8 hy8 hen
          refine Lib.hid ?_
          go_wp2
          generalize hwz : (w9.setCell ⟨w.heap.size + 1, 0, none⟩ (.int .i64 y)).setCell ⟨w.heap.size + 1, 1, none⟩ (.slice a8 D.length c8) = wz
          have hbz : BlkV wz (w.heap.size + 1) 32 #[.int .i64 y, .slice a8 D.length c8] := by rw [← hwz]; exact (HY9.out.set_ 0 (.int .i64 y)).set_ 1 (.slice a8 D.length c8)
          have e0 := hbz.two0
          have e1 := hbz.two1
          refine bodyPost_ret (v := .tuple #[.agg #[.int .i64 y, .slice a8 D.length c8], .bool true]) (by simp [results, Tryz.results6, go_sem, e0, e1]) rfl ?_
          exact HEN.out wz hwz
        · skip
          refine step_makeP rfl 52 rfl ?_
          intro br w6 hsz hsz0 hb hmk
          have HZbr := Lib.hid (And.intro hsz hsz0)
          have HB6 := Lib.hid (HB5.out.trans (hb.mono HB5.out.size))
          have H26 := Lib.hid (H25.out.trans (hb.mono H25.out.size))
          have HX6 := Lib.hid (HX5.out.below hb)
          have HY6 := Lib.hid (HY5.out.below hb)
          have HZ6 := Lib.hid hb.size
          have x6 := HX6.out.one0
          have HS6 := Lib.hid (HS5.out.below hb)
          have HG6 := Lib.hid (HG5.out.below hb)
          have HD6 := Lib.hid (show DMap w6 br 0 (fun _ => none) from hmk _ _ _)
          clear hsz hsz0 hb hmk
          refine hK.out _ _ (fun _ => x6) (fun hH => ?_)
          have hHeld := hH (by decide)
          clear hH
          clear hK K
          (try simp only [Act.put, List.getElem_toArray, List.getElem_cons_succ, List.getElem_cons_zero, List.setIfInBounds_toArray, List.set_cons_zero, List.set_cons_succ])
          refine anyE_one (i := 4) (by kernel_rfl) (anyE_step rfl (fun K hK => ?_))
          refine step_makeP rfl 51 rfl ?_
          intro bm w7 hsz hsz0 hb hmk
          have HZbm := Lib.hid (And.intro hsz hsz0)
          have HB7 := Lib.hid (HB6.out.trans (hb.mono HB6.out.size))
          have H27 := Lib.hid (H26.out.trans (hb.mono H26.out.size))
          have HX7 := Lib.hid (HX6.out.below hb)
          have HY7 := Lib.hid (HY6.out.below hb)
          have HZ7 := Lib.hid hb.size
          have x7 := HX7.out.one0
          have HS7 := Lib.hid (HS6.out.below hb)
          have HG7 := Lib.hid (HG6.out.below hb)
          have HD7 := Lib.hid (HD6.out.below hb)
          have HM7 := Lib.hid (show TMap w7 bm 0 (fun _ => none) from hmk _ _ _)
          clear hsz hsz0 hb hmk
          refine hK.out _ _ (fun _ => x7) (fun hH => ?_)
          have hHeld := hH (by decide)
          clear hH
          clear hK K
          (try simp only [Act.put, List.getElem_toArray, List.getElem_cons_succ, List.getElem_cons_zero, List.setIfInBounds_toArray, List.set_cons_zero, List.set_cons_succ])
          refine anyE_take (i := 6) (v := ?vz6) rfl (by kernel_rfl) (by kernel_rfl) (by kernel_rfl) (by kernel_rfl) (by kernel_rfl) (fun _ _ _ h => h) (Or.inl ⟨by kernel_rfl, ?yz6⟩) (by assumption) ?rz6
          case yz6 => (intro w' hSw; (try dsimp only at hSw); go_simp; (try with_reducible rfl))
          (try simp only [Act.put, List.getElem_toArray, List.getElem_cons_succ, List.getElem_cons_zero, List.setIfInBounds_toArray, List.set_cons_zero, List.set_cons_succ])
          have g0 := HG7.out.cell 0
          have h0 := HG7.out.frozen 0
          have g1 := HG7.out.cell 1
          have h1 := HG7.out.frozen 1
          have g2 := HG7.out.cell 2
          have h2 := HG7.out.frozen 2
          have g3 := HG7.out.cell 3
          have h3 := HG7.out.frozen 3
          have g4 := HG7.out.cell 4
          have h4 := HG7.out.frozen 4
          refine anyE_one (i := 8) (by kernel_rfl) (anyE_step rfl (fun K hK => ?_))
          go_simp
          refine hK.out _ _ (fun h => absurd rfl h) (fun _ => ?_)
          clear hK K
          (try simp only [Act.put, List.getElem_toArray, List.getElem_cons_succ, List.getElem_cons_zero, List.setIfInBounds_toArray, List.set_cons_zero, List.set_cons_succ])
          refine anyE_done (by kernel_rfl) ?_ _
          refine NoPanic.normal ?_
          generalize hw8 : ((((w7.setCell ⟨gB, 0, none⟩ (.slice a nR c)).setCell ⟨gB, 1, none⟩ (.slice aV nV cV)).setCell ⟨gB, 2, none⟩ (.map (some bm))).setCell ⟨gB, 3, none⟩ (.map (some br))).setCell ⟨gB, 4, none⟩ (.slice none 0 0) = w8
          have hz := And.intro HZ4.out (And.intro HZ5.out (And.intro HZ6.out (And.intro HZ7.out (And.intro HZbm.out (And.intro HZbr.out (And.intro HZgB.out (And.intro HW23.out HSZ2.out)))))))
          have HT := bd_tail a c R nR V nV y D w w2 w7 w8 aV cV bm br gB HNR.out HNV.out HV9.out HVB.out HVL.out HBD.out HS0.out HSZ2.out HB2.out HG7.out hw8 H27.out HY7.out HM7.out HD7.out HS7.out (fun b off e => by have := HAV.out b off e; omega) (by omega)
          clear hw8 hz x2 x4 x5 x6 x7 g0 g1 g2 g3 g4 h0 h1 h2 h3 h4
          have HCALL := Lib.hid HT
          clear HT
          go_wp2_with (go_at_call 26; ((refine HCALL.out.mono ?_); rintro e w9 ⟨a8, c8, rfl, hg8, hy8, hen⟩; refine Hid.out ?_))
          have gc : w9.cell? ⟨gB, 4, none⟩ = some (.slice a8 D.length c8) := hg8.cell 4
          have f0 := hy8.frozen 0
          have f1 := hy8.frozen 1
          have t0 := hy8.two0
          have t1 := hy8.two1
          have HEN := Lib.hid hen
          have HY9 := Lib.hid hy8
          clear hg8 hy8 hen
          refine Lib.hid ?_
          go_wp2
          generalize hwz : (w9.setCell ⟨w.heap.size + 1, 0, none⟩ (.int .i64 y)).setCell ⟨w.heap.size + 1, 1, none⟩ (.slice a8 D.length c8) = wz
          have hbz : BlkV wz (w.heap.size + 1) 32 #[.int .i64 y, .slice a8 D.length c8] := by rw [← hwz]; exact (HY9.out.set_ 0 (.int .i64 y)).set_ 1 (.slice a8 D.length c8)
          have e0 := hbz.two0
          have e1 := hbz.two1
          refine bodyPost_ret (v := .tuple #[.agg #[.int .i64 y, .slice a8 D.length c8], .bool true]) (by simp [results, Tryz.results6, go_sem, e0, e1]) rfl ?_
          exact HEN.out wz hwz
    · skip
      refine step_makeP rfl 51 rfl ?_
      intro bm w4 hsz hsz0 hb hmk
      have HZbm := Lib.hid (And.intro hsz hsz0)
      have HB4 := Lib.hid (HB3.out.trans (hb.mono HB3.out.size))
      have H24 := Lib.hid (H23.out.trans (hb.mono H23.out.size))
      have HX4 := Lib.hid (HX3.out.below hb)
      have HY4 := Lib.hid (HY3.out.below hb)
      have HZ4 := Lib.hid hb.size
      have x4 := HX4.out.one0
      have HM4 := Lib.hid (show TMap w4 bm 0 (fun _ => none) from hmk _ _ _)
      clear hsz hsz0 hb hmk
      refine hK.out _ _ (fun _ => x4) (fun hH => ?_)
      have hHeld := hH (by decide)
      clear hH
      clear hK K
      (try simp only [Act.put, List.getElem_toArray, List.getElem_cons_succ, List.getElem_cons_zero, List.setIfInBounds_toArray, List.set_cons_zero, List.set_cons_succ])
      refine anyE_three (i := 3) (j := 5) (k := 7) (by kernel_rfl) (anyE_step rfl (fun K hK => ?_)) (anyE_step rfl (fun K hK => ?_)) (anyE_step rfl (fun K hK => ?_))
      · skip
        go_simp
        go_wp2_with (go_at_call 21; ((refine Calls.mono (show Calls Tryz.prog 21 #[.agg #[.slice a nR c]] w4 (GivesV w4 V) by have h := vars_impl a c R V w4 HV.out (HS0.out.below HB4.out); rw [HNR.out] at h; exact h) ?_); rintro e w5 ⟨aV, cV, rfl, hoV, hb⟩))
        have hnV := HNV.out
        rw [hnV] at hoV ⊢
        clear hnV
        have HB5 := Lib.hid (HB4.out.trans (hb.mono HB4.out.size))
        have H25 := Lib.hid (H24.out.trans (hb.mono H24.out.size))
        have HX5 := Lib.hid (HX4.out.below hb)
        have HY5 := Lib.hid (HY4.out.below hb)
        have HZ5 := Lib.hid hb.size
        have x5 := HX5.out.one0
        have HM5 := Lib.hid (HM4.out.below hb)
        have HS5 := Lib.hid (show SmTs w5 aV (V.map tsV) cV from (show OwnV w5 w4.heap.size (.slice aV V.length cV) V by rw [HNV.out]; exact hoV).ts.smTs0 (by rw [List.length_map]; have := HV9.out; have := HNV.out; omega))
        have HAV := Lib.hid (fun (b off : Nat) (e : aV = some ⟨b, off, none⟩) => show w4.heap.size ≤ b ∧ b < w5.heap.size from World.ownsRow.lt hoV b (by rw [e]; rfl))
        clear hoV hb
        refine hK.out _ _ (fun _ => x5) (fun hH => ?_)
        have hHeld := hH (by decide)
        clear hH
        clear hK K
        (try simp only [Act.put, List.getElem_toArray, List.getElem_cons_succ, List.getElem_cons_zero, List.setIfInBounds_toArray, List.set_cons_zero, List.set_cons_succ])
        refine anyE_two (i := 5) (j := 7) (by kernel_rfl) (anyE_step rfl (fun K hK => ?_)) (anyE_step rfl (fun K hK => ?_))
        · skip
          refine step_makeP rfl 52 rfl ?_
          intro br w6 hsz hsz0 hb hmk
          have HZbr := Lib.hid (And.intro hsz hsz0)
          have HB6 := Lib.hid (HB5.out.trans (hb.mono HB5.out.size))
          have H26 := Lib.hid (H25.out.trans (hb.mono H25.out.size))
          have HX6 := Lib.hid (HX5.out.below hb)
          have HY6 := Lib.hid (HY5.out.below hb)
          have HZ6 := Lib.hid hb.size
          have x6 := HX6.out.one0
          have HM6 := Lib.hid (HM5.out.below hb)
          have HS6 := Lib.hid (HS5.out.below hb)
          have HD6 := Lib.hid (show DMap w6 br 0 (fun _ => none) from hmk _ _ _)
          clear hsz hsz0 hb hmk
          refine hK.out _ _ (fun _ => x6) (fun hH => ?_)
          have hHeld := hH (by decide)
          clear hH
          clear hK K
          (try simp only [Act.put, List.getElem_toArray, List.getElem_cons_succ, List.getElem_cons_zero, List.setIfInBounds_toArray, List.set_cons_zero, List.set_cons_succ])
          refine anyE_take (i := 6) (v := ?vz7) rfl (by kernel_rfl) (by kernel_rfl) (by kernel_rfl) (by kernel_rfl) (by kernel_rfl) (fun _ _ _ h => h) (Or.inl ⟨by kernel_rfl, ?yz7⟩) (by assumption) ?rz7
          case yz7 => (intro w' hSw; (try dsimp only at hSw); go_simp; (try with_reducible rfl))
          (try simp only [Act.put, List.getElem_toArray, List.getElem_cons_succ, List.getElem_cons_zero, List.setIfInBounds_toArray, List.set_cons_zero, List.set_cons_succ])
          refine anyE_one (i := 7) (by kernel_rfl) (anyE_step rfl (fun K hK => ?_))
          go_simp
          generalize hwn : w6.alloc (.cells #[.slice none 0 0, .slice none 0 0, .map none, .map none, .slice none 0 0] 54) = w7
          have hb : Below w6.heap.size w6 w7 := by rw [← hwn]; exact (Below.refl _ _).alloc (Nat.le_refl _) _
          have hgx : BlkV w7 w6.heap.size 54 #[.slice none 0 0, .slice none 0 0, .map none, .map none, .slice none 0 0] := by rw [← hwn]; exact BlkV.new _ _ _
          have hsz : w7.heap.size = w6.heap.size + 1 := by rw [← hwn]; simp
          clear hwn
          generalize hsz0 : w6.heap.size = gB at hgx hsz ⊢
          have HZgB := Lib.hid (And.intro hsz hsz0)
          have HB7 := Lib.hid (HB6.out.trans (hb.mono HB6.out.size))
          have H27 := Lib.hid (H26.out.trans (hb.mono H26.out.size))
          have HX7 := Lib.hid (HX6.out.below hb)
          have HY7 := Lib.hid (HY6.out.below hb)
          have HZ7 := Lib.hid hb.size
          have x7 := HX7.out.one0
          have HM7 := Lib.hid (HM6.out.below hb)
          have HS7 := Lib.hid (HS6.out.below hb)
          have HD7 := Lib.hid (HD6.out.below hb)
          have HG7 := Lib.hid hgx
          clear hsz hsz0 hb hgx
          refine hK.out _ _ (fun _ => x7) (fun hH => ?_)
          have hHeld := hH (by decide)
          clear hH
          clear hK K
          (try simp only [Act.put, List.getElem_toArray, List.getElem_cons_succ, List.getElem_cons_zero, List.setIfInBounds_toArray, List.set_cons_zero, List.set_cons_succ])
          have g0 := HG7.out.cell 0
          have h0 := HG7.out.frozen 0
          have g1 := HG7.out.cell 1
          have h1 := HG7.out.frozen 1
          have g2 := HG7.out.cell 2
          have h2 := HG7.out.frozen 2
          have g3 := HG7.out.cell 3
          have h3 := HG7.out.frozen 3
          have g4 := HG7.out.cell 4
          have h4 := HG7.out.frozen 4
          refine anyE_one (i := 8) (by kernel_rfl) (anyE_step rfl (fun K hK => ?_))
          go_simp
          refine hK.out _ _ (fun h => absurd rfl h) (fun _ => ?_)
          clear hK K
          (try simp only [Act.put, List.getElem_toArray, List.getElem_cons_succ, List.getElem_cons_zero, List.setIfInBounds_toArray, List.set_cons_zero, List.set_cons_succ])
          refine anyE_done (by kernel_rfl) ?_ _
          refine NoPanic.normal ?_
          generalize hw8 : ((((w7.setCell ⟨gB, 0, none⟩ (.slice a nR c)).setCell ⟨gB, 1, none⟩ (.slice aV nV cV)).setCell ⟨gB, 2, none⟩ (.map (some bm))).setCell ⟨gB, 3, none⟩ (.map (some br))).setCell ⟨gB, 4, none⟩ (.slice none 0 0) = w8
          have hz := And.intro HZ4.out (And.intro HZ5.out (And.intro HZ6.out (And.intro HZ7.out (And.intro HZbm.out (And.intro HZbr.out (And.intro HZgB.out (And.intro HW23.out HSZ2.out)))))))
          have HT := bd_tail a c R nR V nV y D w w2 w7 w8 aV cV bm br gB HNR.out HNV.out HV9.out HVB.out HVL.out HBD.out HS0.out HSZ2.out HB2.out HG7.out hw8 H27.out HY7.out HM7.out HD7.out HS7.out (fun b off e => by have := HAV.out b off e; omega) (by omega)
          clear hw8 hz x2 x4 x5 x6 x7 g0 g1 g2 g3 g4 h0 h1 h2 h3 h4
          have HCALL := Lib.hid HT
          clear HT
          go_wp2_with (go_at_call 26; ((refine HCALL.out.mono ?_); rintro e w9 ⟨a8, c8, rfl, hg8, hy8, hen⟩; refine Hid.out ?_))
          have gc : w9.cell? ⟨gB, 4, none⟩ = some (.slice a8 D.length c8) := hg8.cell 4
          have f0 := hy8.frozen 0
          have f1 := hy8.frozen 1
          have t0 := hy8.two0
          have t1 := hy8.two1
          have HEN := Lib.hid hen
          have HY9 := Lib.hid hy8
          clear hg8 hy8 hen
          refine Lib.hid ?_
          go_wp2
          generalize hwz : (w9.setCell ⟨w.heap.size + 1, 0, none⟩ (.int .i64 y)).setCell ⟨w.heap.size + 1, 1, none⟩ (.slice a8 D.length c8) = wz
          have hbz : BlkV wz (w.heap.size + 1) 32 #[.int .i64 y, .slice a8 D.length c8] := by rw [← hwz]; exact (HY9.out.set_ 0 (.int .i64 y)).set_ 1 (.slice a8 D.length c8)
          have e0 := hbz.two0
          have e1 := hbz.two1
          refine bodyPost_ret (v := .tuple #[.agg #[.int .i64 y, .slice a8 D.length c8], .bool true]) (by simp [results, Tryz.results6, go_sem, e0, e1]) rfl ?_
          exact HEN.out wz hwz
        · skip
          go_simp
          generalize hwn : w5.alloc (.cells #[.slice none 0 0, .slice none 0 0, .map none, .map none, .slice none 0 0] 54) = w6
          have hb : Below w5.heap.size w5 w6 := by rw [← hwn]; exact (Below.refl _ _).alloc (Nat.le_refl _) _
          have hgx : BlkV w6 w5.heap.size 54 #[.slice none 0 0, .slice none 0 0, .map none, .map none, .slice none 0 0] := by rw [← hwn]; exact BlkV.new _ _ _
          have hsz : w6.heap.size = w5.heap.size + 1 := by rw [← hwn]; simp
          clear hwn
          generalize hsz0 : w5.heap.size = gB at hgx hsz ⊢
          have HZgB := Lib.hid (And.intro hsz hsz0)
          have HB6 := Lib.hid (HB5.out.trans (hb.mono HB5.out.size))
          have H26 := Lib.hid (H25.out.trans (hb.mono H25.out.size))
          have HX6 := Lib.hid (HX5.out.below hb)
          have HY6 := Lib.hid (HY5.out.below hb)
          have HZ6 := Lib.hid hb.size
          have x6 := HX6.out.one0
          have HM6 := Lib.hid (HM5.out.below hb)
          have HS6 := Lib.hid (HS5.out.below hb)
          have HG6 := Lib.hid hgx
          clear hsz hsz0 hb hgx
          refine hK.out _ _ (fun _ => x6) (fun hH => ?_)
          have hHeld := hH (by decide)
          clear hH
          clear hK K
          (try simp only [Act.put, List.getElem_toArray, List.getElem_cons_succ, List.getElem_cons_zero, List.setIfInBounds_toArray, List.set_cons_zero, List.set_cons_succ])
          refine anyE_one (i := 5) (by kernel_rfl) (anyE_step rfl (fun K hK => ?_))
          refine step_makeP rfl 52 rfl ?_
          intro br w7 hsz hsz0 hb hmk
          have HZbr := Lib.hid (And.intro hsz hsz0)
          have HB7 := Lib.hid (HB6.out.trans (hb.mono HB6.out.size))
          have H27 := Lib.hid (H26.out.trans (hb.mono H26.out.size))
          have HX7 := Lib.hid (HX6.out.below hb)
          have HY7 := Lib.hid (HY6.out.below hb)
          have HZ7 := Lib.hid hb.size
          have x7 := HX7.out.one0
          have HM7 := Lib.hid (HM6.out.below hb)
          have HS7 := Lib.hid (HS6.out.below hb)
          have HG7 := Lib.hid (HG6.out.below hb)
          have HD7 := Lib.hid (show DMap w7 br 0 (fun _ => none) from hmk _ _ _)
          clear hsz hsz0 hb hmk
          refine hK.out _ _ (fun _ => x7) (fun hH => ?_)
          have hHeld := hH (by decide)
          clear hH
          clear hK K
          (try simp only [Act.put, List.getElem_toArray, List.getElem_cons_succ, List.getElem_cons_zero, List.setIfInBounds_toArray, List.set_cons_zero, List.set_cons_succ])
          refine anyE_take (i := 6) (v := ?vz8) rfl (by kernel_rfl) (by kernel_rfl) (by kernel_rfl) (by kernel_rfl) (by kernel_rfl) (fun _ _ _ h => h) (Or.inl ⟨by kernel_rfl, ?yz8⟩) (by assumption) ?rz8
          case yz8 => (intro w' hSw; (try dsimp only at hSw); go_simp; (try with_reducible rfl))
          (try simp only [Act.put, List.getElem_toArray, List.getElem_cons_succ, List.getElem_cons_zero, List.setIfInBounds_toArray, List.set_cons_zero, List.set_cons_succ])
          have g0 := HG7.out.cell 0
          have h0 := HG7.out.frozen 0
          have g1 := HG7.out.cell 1
          have h1 := HG7.out.frozen 1
          have g2 := HG7.out.cell 2
          have h2 := HG7.out.frozen 2
          have g3 := HG7.out.cell 3
          have h3 := HG7.out.frozen 3
          have g4 := HG7.out.cell 4
          have h4 := HG7.out.frozen 4
          refine anyE_one (i := 8) (by kernel_rfl) (anyE_step rfl (fun K hK => ?_))
          go_simp
          refine hK.out _ _ (fun h => absurd rfl h) (fun _ => ?_)
          clear hK K
          (try simp only [Act.put, List.getElem_toArray, List.getElem_cons_succ, List.getElem_cons_zero, List.setIfInBounds_toArray, List.set_cons_zero, List.set_cons_succ])
          refine anyE_done (by kernel_rfl) ?_ _
          refine NoPanic.normal ?_
          generalize hw8 : ((((w7.setCell ⟨gB, 0, none⟩ (.slice a nR c)).setCell ⟨gB, 1, none⟩ (.slice aV nV cV)).setCell ⟨gB, 2, none⟩ (.map (some bm))).setCell ⟨gB, 3, none⟩ (.map (some br))).setCell ⟨gB, 4, none⟩ (.slice none 0 0) = w8
          have hz := And.intro HZ4.out (And.intro HZ5.out (And.intro HZ6.out (And.intro HZ7.out (And.intro HZbm.out (And.intro HZbr.out (And.intro HZgB.out (And.intro HW23.out HSZ2.out)))))))
          have HT := bd_tail a c R nR V nV y D w w2 w7 w8 aV cV bm br gB HNR.out HNV.out HV9.out HVB.out HVL.out HBD.out HS0.out HSZ2.out HB2.out HG7.out hw8 H27.out HY7.out HM7.out HD7.out HS7.out (fun b off e => by have := HAV.out b off e; omega) (by omega)
          clear hw8 hz x2 x4 x5 x6 x7 g0 g1 g2 g3 g4 h0 h1 h2 h3 h4
          have HCALL := Lib.hid HT
          clear HT
          go_wp2_with (go_at_call 26; ((refine HCALL.out.mono ?_); rintro e w9 ⟨a8, c8, rfl, hg8, hy8, hen⟩; refine Hid.out ?_))
          have gc : w9.cell? ⟨gB, 4, none⟩ = some (.slice a8 D.length c8) := hg8.cell 4
          have f0 := hy8.frozen 0
          have f1 := hy8.frozen 1
          have t0 := hy8.two0
          have t1 := hy8.two1
          have HEN := Lib.hid hen
          have HY9 := Lib.hid hy8
          clear hg8 hy8 hen
          refine Lib.hid ?_
          go_wp2
          generalize hwz : (w9.setCell ⟨w.heap.size + 1, 0, none⟩ (.int .i64 y)).setCell ⟨w.heap.size + 1, 1, none⟩ (.slice a8 D.length c8) = wz
          have hbz : BlkV wz (w.heap.size + 1) 32 #[.int .i64 y, .slice a8 D.length c8] := by rw [← hwz]; exact (HY9.out.set_ 0 (.int .i64 y)).set_ 1 (.slice a8 D.length c8)
          have e0 := hbz.two0
          have e1 := hbz.two1
          refine bodyPost_ret (v := .tuple #[.agg #[.int .i64 y, .slice a8 D.length c8], .bool true]) (by simp [results, Tryz.results6, go_sem, e0, e1]) rfl ?_
          exact HEN.out wz hwz
      · skip
        refine step_makeP rfl 52 rfl ?_
        intro br w5 hsz hsz0 hb hmk
        have HZbr := Lib.hid (And.intro hsz hsz0)
        have HB5 := Lib.hid (HB4.out.trans (hb.mono HB4.out.size))
        have H25 := Lib.hid (H24.out.trans (hb.mono H24.out.size))
        have HX5 := Lib.hid (HX4.out.below hb)
        have HY5 := Lib.hid (HY4.out.below hb)
        have HZ5 := Lib.hid hb.size
        have x5 := HX5.out.one0
        have HM5 := Lib.hid (HM4.out.below hb)
        have HD5 := Lib.hid (show DMap w5 br 0 (fun _ => none) from hmk _ _ _)
        clear hsz hsz0 hb hmk
        refine hK.out _ _ (fun _ => x5) (fun hH => ?_)
        have hHeld := hH (by decide)
        clear hH
        clear hK K
        (try simp only [Act.put, List.getElem_toArray, List.getElem_cons_succ, List.getElem_cons_zero, List.setIfInBounds_toArray, List.set_cons_zero, List.set_cons_succ])
        refine anyE_two (i := 3) (j := 7) (by kernel_rfl) (anyE_step rfl (fun K hK => ?_)) (anyE_step rfl (fun K hK => ?_))
        · skip
          go_simp
          go_wp2_with (go_at_call 21; ((refine Calls.mono (show Calls Tryz.prog 21 #[.agg #[.slice a nR c]] w5 (GivesV w5 V) by have h := vars_impl a c R V w5 HV.out (HS0.out.below HB5.out); rw [HNR.out] at h; exact h) ?_); rintro e w6 ⟨aV, cV, rfl, hoV, hb⟩))
          have hnV := HNV.out
          rw [hnV] at hoV ⊢
          clear hnV
          have HB6 := Lib.hid (HB5.out.trans (hb.mono HB5.out.size))
          have H26 := Lib.hid (H25.out.trans (hb.mono H25.out.size))
          have HX6 := Lib.hid (HX5.out.below hb)
          have HY6 := Lib.hid (HY5.out.below hb)
          have HZ6 := Lib.hid hb.size
          have x6 := HX6.out.one0
          have HM6 := Lib.hid (HM5.out.below hb)
          have HD6 := Lib.hid (HD5.out.below hb)
          have HS6 := Lib.hid (show SmTs w6 aV (V.map tsV) cV from (show OwnV w6 w5.heap.size (.slice aV V.length cV) V by rw [HNV.out]; exact hoV).ts.smTs0 (by rw [List.length_map]; have := HV9.out; have := HNV.out; omega))
          have HAV := Lib.hid (fun (b off : Nat) (e : aV = some ⟨b, off, none⟩) => show w5.heap.size ≤ b ∧ b < w6.heap.size from World.ownsRow.lt hoV b (by rw [e]; rfl))
          clear hoV hb
          refine hK.out _ _ (fun _ => x6) (fun hH => ?_)
          have hHeld := hH (by decide)
          clear hH
          clear hK K
          (try simp only [Act.put, List.getElem_toArray, List.getElem_cons_succ, List.getElem_cons_zero, List.setIfInBounds_toArray, List.set_cons_zero, List.set_cons_succ])
          refine anyE_take (i := 6) (v := ?vz9) rfl (by kernel_rfl) (by kernel_rfl) (by kernel_rfl) (by kernel_rfl) (by kernel_rfl) (fun _ _ _ h => h) (Or.inl ⟨by kernel_rfl, ?yz9⟩) (by assumption) ?rz9
          case yz9 => (intro w' hSw; (try dsimp only at hSw); go_simp; (try with_reducible rfl))
          (try simp only [Act.put, List.getElem_toArray, List.getElem_cons_succ, List.getElem_cons_zero, List.setIfInBounds_toArray, List.set_cons_zero, List.set_cons_succ])
          refine anyE_one (i := 7) (by kernel_rfl) (anyE_step rfl (fun K hK => ?_))
          go_simp
          generalize hwn : w6.alloc (.cells #[.slice none 0 0, .slice none 0 0, .map none, .map none, .slice none 0 0] 54) = w7
          have hb : Below w6.heap.size w6 w7 := by rw [← hwn]; exact (Below.refl _ _).alloc (Nat.le_refl _) _
          have hgx : BlkV w7 w6.heap.size 54 #[.slice none 0 0, .slice none 0 0, .map none, .map none, .slice none 0 0] := by rw [← hwn]; exact BlkV.new _ _ _
          have hsz : w7.heap.size = w6.heap.size + 1 := by rw [← hwn]; simp
          clear hwn
          generalize hsz0 : w6.heap.size = gB at hgx hsz ⊢
          have HZgB := Lib.hid (And.intro hsz hsz0)
          have HB7 := Lib.hid (HB6.out.trans (hb.mono HB6.out.size))
          have H27 := Lib.hid (H26.out.trans (hb.mono H26.out.size))
          have HX7 := Lib.hid (HX6.out.below hb)
          have HY7 := Lib.hid (HY6.out.below hb)
          have HZ7 := Lib.hid hb.size
          have x7 := HX7.out.one0
          have HM7 := Lib.hid (HM6.out.below hb)
          have HD7 := Lib.hid (HD6.out.below hb)
          have HS7 := Lib.hid (HS6.out.below hb)
          have HG7 := Lib.hid hgx
          clear hsz hsz0 hb hgx
          refine hK.out _ _ (fun _ => x7) (fun hH => ?_)
          have hHeld := hH (by decide)
          clear hH
          clear hK K
          (try simp only [Act.put, List.getElem_toArray, List.getElem_cons_succ, List.getElem_cons_zero, List.setIfInBounds_toArray, List.set_cons_zero, List.set_cons_succ])
          have g0 := HG7.out.cell 0
          have h0 := HG7.out.frozen 0
          have g1 := HG7.out.cell 1
          have h1 := HG7.out.frozen 1
          have g2 := HG7.out.cell 2
          have h2 := HG7.out.frozen 2
          have g3 := HG7.out.cell 3
          have h3 := HG7.out.frozen 3
          have g4 := HG7.out.cell 4
          have h4 := HG7.out.frozen 4
          refine anyE_one (i := 8) (by kernel_rfl) (anyE_step rfl (fun K hK => ?_))
          go_simp
          refine hK.out _ _ (fun h => absurd rfl h) (fun _ => ?_)
          clear hK K
          (try simp only [Act.put, List.getElem_toArray, List.getElem_cons_succ, List.getElem_cons_zero, List.setIfInBounds_toArray, List.set_cons_zero, List.set_cons_succ])
          refine anyE_done (by kernel_rfl) ?_ _
          refine NoPanic.normal ?_
          generalize hw8 : ((((w7.setCell ⟨gB, 0, none⟩ (.slice a nR c)).setCell ⟨gB, 1, none⟩ (.slice aV nV cV)).setCell ⟨gB, 2, none⟩ (.map (some bm))).setCell ⟨gB, 3, none⟩ (.map (some br))).setCell ⟨gB, 4, none⟩ (.slice none 0 0) = w8
          have hz := And.intro HZ4.out (And.intro HZ5.out (And.intro HZ6.out (And.intro HZ7.out (And.intro HZbm.out (And.intro HZbr.out (And.intro HZgB.out (And.intro HW23.out HSZ2.out)))))))
          have HT := bd_tail a c R nR V nV y D w w2 w7 w8 aV cV bm br gB HNR.out HNV.out HV9.out HVB.out HVL.out HBD.out HS0.out HSZ2.out HB2.out HG7.out hw8 H27.out HY7.out HM7.out HD7.out HS7.out (fun b off e => by have := HAV.out b off e; omega) (by omega)
          clear hw8 hz x2 x4 x5 x6 x7 g0 g1 g2 g3 g4 h0 h1 h2 h3 h4
          have HCALL := Lib.hid HT
          clear HT
          go_wp2_with (go_at_call 26; ((refine HCALL.out.mono ?_); rintro e w9 ⟨a8, c8, rfl, hg8, hy8, hen⟩; refine Hid.out ?_))
          have gc : w9.cell? ⟨gB, 4, none⟩ = some (.slice a8 D.length c8) := hg8.cell 4
          have f0 := hy8.frozen 0
          have f1 := hy8.frozen 1
          have t0 := hy8.two0
          have t1 := hy8.two1
          have HEN := Lib.hid hen
          have HY9 := Lib.hid hy8
          clear hg8 hy8 hen
          refine Lib.hid ?_
          go_wp2
          generalize hwz : (w9.setCell ⟨w.heap.size + 1, 0, none⟩ (.int .i64 y)).setCell ⟨w.heap.size + 1, 1, none⟩ (.slice a8 D.length c8) = wz
          have hbz : BlkV wz (w.heap.size + 1) 32 #[.int .i64 y, .slice a8 D.length c8] := by rw [← hwz]; exact (HY9.out.set_ 0 (.int .i64 y)).set_ 1 (.slice a8 D.length c8)
          have e0 := hbz.two0
          have e1 := hbz.two1
          refine bodyPost_ret (v := .tuple #[.agg #[.int .i64 y, .slice a8 D.length c8], .bool true]) (by simp [results, Tryz.results6, go_sem, e0, e1]) rfl ?_
          exact HEN.out wz hwz
        · skip
          go_simp
          generalize hwn : w5.alloc (.cells #[.slice none 0 0, .slice none 0 0, .map none, .map none, .slice none 0 0] 54) = w6
          have hb : Below w5.heap.size w5 w6 := by rw [← hwn]; exact (Below.refl _ _).alloc (Nat.le_refl _) _
          have hgx : BlkV w6 w5.heap.size 54 #[.slice none 0 0, .slice none 0 0, .map none, .map none, .slice none 0 0] := by rw [← hwn]; exact BlkV.new _ _ _
          have hsz : w6.heap.size = w5.heap.size + 1 := by rw [← hwn]; simp
          clear hwn
          generalize hsz0 : w5.heap.size = gB at hgx hsz ⊢
          have HZgB := Lib.hid (And.intro hsz hsz0)
          have HB6 := Lib.hid (HB5.out.trans (hb.mono HB5.out.size))
          have H26 := Lib.hid (H25.out.trans (hb.mono H25.out.size))
          have HX6 := Lib.hid (HX5.out.below hb)
          have HY6 := Lib.hid (HY5.out.below hb)
          have HZ6 := Lib.hid hb.size
          have x6 := HX6.out.one0
          have HM6 := Lib.hid (HM5.out.below hb)
          have HD6 := Lib.hid (HD5.out.below hb)
          have HG6 := Lib.hid hgx
          clear hsz hsz0 hb hgx
          refine hK.out _ _ (fun _ => x6) (fun hH => ?_)
          have hHeld := hH (by decide)
          clear hH
          clear hK K
          (try simp only [Act.put, List.getElem_toArray, List.getElem_cons_succ, List.getElem_cons_zero, List.setIfInBounds_toArray, List.set_cons_zero, List.set_cons_succ])
          refine anyE_one (i := 3) (by kernel_rfl) (anyE_step rfl (fun K hK => ?_))
          go_simp
          go_wp2_with (go_at_call 21; ((refine Calls.mono (show Calls Tryz.prog 21 #[.agg #[.slice a nR c]] w6 (GivesV w6 V) by have h := vars_impl a c R V w6 HV.out (HS0.out.below HB6.out); rw [HNR.out] at h; exact h) ?_); rintro e w7 ⟨aV, cV, rfl, hoV, hb⟩))
          have hnV := HNV.out
          rw [hnV] at hoV ⊢
          clear hnV
          have HB7 := Lib.hid (HB6.out.trans (hb.mono HB6.out.size))
          have H27 := Lib.hid (H26.out.trans (hb.mono H26.out.size))
          have HX7 := Lib.hid (HX6.out.below hb)
          have HY7 := Lib.hid (HY6.out.below hb)
          have HZ7 := Lib.hid hb.size
          have x7 := HX7.out.one0
          have HM7 := Lib.hid (HM6.out.below hb)
          have HD7 := Lib.hid (HD6.out.below hb)
          have HG7 := Lib.hid (HG6.out.below hb)
          have HS7 := Lib.hid (show SmTs w7 aV (V.map tsV) cV from (show OwnV w7 w6.heap.size (.slice aV V.length cV) V by rw [HNV.out]; exact hoV).ts.smTs0 (by rw [List.length_map]; have := HV9.out; have := HNV.out; omega))
          have HAV := Lib.hid (fun (b off : Nat) (e : aV = some ⟨b, off, none⟩) => show w6.heap.size ≤ b ∧ b < w7.heap.size from World.ownsRow.lt hoV b (by rw [e]; rfl))
          clear hoV hb
          refine hK.out _ _ (fun _ => x7) (fun hH => ?_)
          have hHeld := hH (by decide)
          clear hH
          clear hK K
          (try simp only [Act.put, List.getElem_toArray, List.getElem_cons_succ, List.getElem_cons_zero, List.setIfInBounds_toArray, List.set_cons_zero, List.set_cons_succ])
          refine anyE_take (i := 6) (v := ?vz10) rfl (by kernel_rfl) (by kernel_rfl) (by kernel_rfl) (by kernel_rfl) (by kernel_rfl) (fun _ _ _ h => h) (Or.inl ⟨by kernel_rfl, ?yz10⟩) (by assumption) ?rz10
          case yz10 => (intro w' hSw; (try dsimp only at hSw); go_simp; (try with_reducible rfl))
          (try simp only [Act.put, List.getElem_toArray, List.getElem_cons_succ, List.getElem_cons_zero, List.setIfInBounds_toArray, List.set_cons_zero, List.set_cons_succ])
          have g0 := HG7.out.cell 0
          have h0 := HG7.out.frozen 0
          have g1 := HG7.out.cell 1
          have h1 := HG7.out.frozen 1
          have g2 := HG7.out.cell 2
          have h2 := HG7.out.frozen 2
          have g3 := HG7.out.cell 3
          have h3 := HG7.out.frozen 3
          have g4 := HG7.out.cell 4
          have h4 := HG7.out.frozen 4
          refine anyE_one (i := 8) (by kernel_rfl) (anyE_step rfl (fun K hK => ?_))
          go_simp
          refine hK.out _ _ (fun h => absurd rfl h) (fun _ => ?_)
          clear hK K
          (try simp only [Act.put, List.getElem_toArray, List.getElem_cons_succ, List.getElem_cons_zero, List.setIfInBounds_toArray, List.set_cons_zero, List.set_cons_succ])
          refine anyE_done (by kernel_rfl) ?_ _
          refine NoPanic.normal ?_
          generalize hw8 : ((((w7.setCell ⟨gB, 0, none⟩ (.slice a nR c)).setCell ⟨gB, 1, none⟩ (.slice aV nV cV)).setCell ⟨gB, 2, none⟩ (.map (some bm))).setCell ⟨gB, 3, none⟩ (.map (some br))).setCell ⟨gB, 4, none⟩ (.slice none 0 0) = w8
          have hz := And.intro HZ4.out (And.intro HZ5.out (And.intro HZ6.out (And.intro HZ7.out (And.intro HZbm.out (And.intro HZbr.out (And.intro HZgB.out (And.intro HW23.out HSZ2.out)))))))
          have HT := bd_tail a c R nR V nV y D w w2 w7 w8 aV cV bm br gB HNR.out HNV.out HV9.out HVB.out HVL.out HBD.out HS0.out HSZ2.out HB2.out HG7.out hw8 H27.out HY7.out HM7.out HD7.out HS7.out (fun b off e => by have := HAV.out b off e; omega) (by omega)
          clear hw8 hz x2 x4 x5 x6 x7 g0 g1 g2 g3 g4 h0 h1 h2 h3 h4
          have HCALL := Lib.hid HT
          clear HT
          go_wp2_with (go_at_call 26; ((refine HCALL.out.mono ?_); rintro e w9 ⟨a8, c8, rfl, hg8, hy8, hen⟩; refine Hid.out ?_))
          have gc : w9.cell? ⟨gB, 4, none⟩ = some (.slice a8 D.length c8) := hg8.cell 4
          have f0 := hy8.frozen 0
          have f1 := hy8.frozen 1
          have t0 := hy8.two0
          have t1 := hy8.two1
          have HEN := Lib.hid hen
          have HY9 := Lib.hid hy8
          clear hg8 hy8 hen
          refine Lib.hid ?_
          go_wp2
          generalize hwz : (w9.setCell ⟨w.heap.size + 1, 0, none⟩ (.int .i64 y)).setCell ⟨w.heap.size + 1, 1, none⟩ (.slice a8 D.length c8) = wz
          have hbz : BlkV wz (w.heap.size + 1) 32 #[.int .i64 y, .slice a8 D.length c8] := by rw [← hwz]; exact (HY9.out.set_ 0 (.int .i64 y)).set_ 1 (.slice a8 D.length c8)
          have e0 := hbz.two0
          have e1 := hbz.two1
          refine bodyPost_ret (v := .tuple #[.agg #[.int .i64 y, .slice a8 D.length c8], .bool true]) (by simp [results, Tryz.results6, go_sem, e0, e1]) rfl ?_
          exact HEN.out wz hwz
      · skip
        go_simp
        generalize hwn : w4.alloc (.cells #[.slice none 0 0, .slice none 0 0, .map none, .map none, .slice none 0 0] 54) = w5
        have hb : Below w4.heap.size w4 w5 := by rw [← hwn]; exact (Below.refl _ _).alloc (Nat.le_refl _) _
        have hgx : BlkV w5 w4.heap.size 54 #[.slice none 0 0, .slice none 0 0, .map none, .map none, .slice none 0 0] := by rw [← hwn]; exact BlkV.new _ _ _
        have hsz : w5.heap.size = w4.heap.size + 1 := by rw [← hwn]; simp
        clear hwn
        generalize hsz0 : w4.heap.size = gB at hgx hsz ⊢
        have HZgB := Lib.hid (And.intro hsz hsz0)
        have HB5 := Lib.hid (HB4.out.trans (hb.mono HB4.out.size))
        have H25 := Lib.hid (H24.out.trans (hb.mono H24.out.size))
        have HX5 := Lib.hid (HX4.out.below hb)
        have HY5 := Lib.hid (HY4.out.below hb)
        have HZ5 := Lib.hid hb.size
        have x5 := HX5.out.one0
        have HM5 := Lib.hid (HM4.out.below hb)
        have HG5 := Lib.hid hgx
        clear hsz hsz0 hb hgx
        refine hK.out _ _ (fun _ => x5) (fun hH => ?_)
        have hHeld := hH (by decide)
        clear hH
        clear hK K
        (try simp only [Act.put, List.getElem_toArray, List.getElem_cons_succ, List.getElem_cons_zero, List.setIfInBounds_toArray, List.set_cons_zero, List.set_cons_succ])
        refine anyE_two (i := 3) (j := 5) (by kernel_rfl) (anyE_step rfl (fun K hK => ?_)) (anyE_step rfl (fun K hK => ?_))
        · skip
          go_simp
          go_wp2_with (go_at_call 21; ((refine Calls.mono (show Calls Tryz.prog 21 #[.agg #[.slice a nR c]] w5 (GivesV w5 V) by have h := vars_impl a c R V w5 HV.out (HS0.out.below HB5.out); rw [HNR.out] at h; exact h) ?_); rintro e w6 ⟨aV, cV, rfl, hoV, hb⟩))
          have hnV := HNV.out
          rw [hnV] at hoV ⊢
          clear hnV
          have HB6 := Lib.hid (HB5.out.trans (hb.mono HB5.out.size))
          have H26 := Lib.hid (H25.out.trans (hb.mono H25.out.size))
          have HX6 := Lib.hid (HX5.out.below hb)
          have HY6 := Lib.hid (HY5.out.below hb)
          have HZ6 := Lib.hid hb.size
          have x6 := HX6.out.one0
          have HM6 := Lib.hid (HM5.out.below hb)
          have HG6 := Lib.hid (HG5.out.below hb)
          have HS6 := Lib.hid (show SmTs w6 aV (V.map tsV) cV from (show OwnV w6 w5.heap.size (.slice aV V.length cV) V by rw [HNV.out]; exact hoV).ts.smTs0 (by rw [List.length_map]; have := HV9.out; have := HNV.out; omega))
          have HAV := Lib.hid (fun (b off : Nat) (e : aV = some ⟨b, off, none⟩) => show w5.heap.size ≤ b ∧ b < w6.heap.size from World.ownsRow.lt hoV b (by rw [e]; rfl))
          clear hoV hb
          refine hK.out _ _ (fun _ => x6) (fun hH => ?_)
          have hHeld := hH (by decide)
          clear hH
          clear hK K
          (try simp only [Act.put, List.getElem_toArray, List.getElem_cons_succ, List.getElem_cons_zero, List.setIfInBounds_toArray, List.set_cons_zero, List.set_cons_succ])
          refine anyE_one (i := 5) (by kernel_rfl) (anyE_step rfl (fun K hK => ?_))
          refine step_makeP rfl 52 rfl ?_
          intro br w7 hsz hsz0 hb hmk
          have HZbr := Lib.hid (And.intro hsz hsz0)
          have HB7 := Lib.hid (HB6.out.trans (hb.mono HB6.out.size))
          have H27 := Lib.hid (H26.out.trans (hb.mono H26.out.size))
          have HX7 := Lib.hid (HX6.out.below hb)
          have HY7 := Lib.hid (HY6.out.below hb)
          have HZ7 := Lib.hid hb.size
          have x7 := HX7.out.one0
          have HM7 := Lib.hid (HM6.out.below hb)
          have HG7 := Lib.hid (HG6.out.below hb)
          have HS7 := Lib.hid (HS6.out.below hb)
          have HD7 := Lib.hid (show DMap w7 br 0 (fun _ => none) from hmk _ _ _)
          clear hsz hsz0 hb hmk
          refine hK.out _ _ (fun _ => x7) (fun hH => ?_)
          have hHeld := hH (by decide)
          clear hH
          clear hK K
          (try simp only [Act.put, List.getElem_toArray, List.getElem_cons_succ, List.getElem_cons_zero, List.setIfInBounds_toArray, List.set_cons_zero, List.set_cons_succ])
          refine anyE_take (i := 6) (v := ?vz11) rfl (by kernel_rfl) (by kernel_rfl) (by kernel_rfl) (by kernel_rfl) (by kernel_rfl) (fun _ _ _ h => h) (Or.inl ⟨by kernel_rfl, ?yz11⟩) (by assumption) ?rz11
          case yz11 => (intro w' hSw; (try dsimp only at hSw); go_simp; (try with_reducible rfl))
          (try simp only [Act.put, List.getElem_toArray, List.getElem_cons_succ, List.getElem_cons_zero, List.setIfInBounds_toArray, List.set_cons_zero, List.set_cons_succ])
          have g0 := HG7.out.cell 0
          have h0 := HG7.out.frozen 0
          have g1 := HG7.out.cell 1
          have h1 := HG7.out.frozen 1
          have g2 := HG7.out.cell 2
          have h2 := HG7.out.frozen 2
          have g3 := HG7.out.cell 3
          have h3 := HG7.out.frozen 3
          have g4 := HG7.out.cell 4
          have h4 := HG7.out.frozen 4
          refine anyE_one (i := 8) (by kernel_rfl) (anyE_step rfl (fun K hK => ?_))
          go_simp
          refine hK.out _ _ (fun h => absurd rfl h) (fun _ => ?_)
          clear hK K
          (try simp only [Act.put, List.getElem_toArray, List.getElem_cons_succ, List.getElem_cons_zero, List.setIfInBounds_toArray, List.set_cons_zero, List.set_cons_succ])
          refine anyE_done (by kernel_rfl) ?_ _
          refine NoPanic.normal ?_
          generalize hw8 : ((((w7.setCell ⟨gB, 0, none⟩ (.slice a nR c)).setCell ⟨gB, 1, none⟩ (.slice aV nV cV)).setCell ⟨gB, 2, none⟩ (.map (some bm))).setCell ⟨gB, 3, none⟩ (.map (some br))).setCell ⟨gB, 4, none⟩ (.slice none 0 0) = w8
          have hz := And.intro HZ4.out (And.intro HZ5.out (And.intro HZ6.out (And.intro HZ7.out (And.intro HZbm.out (And.intro HZbr.out (And.intro HZgB.out (And.intro HW23.out HSZ2.out)))))))
          have HT := bd_tail a c R nR V nV y D w w2 w7 w8 aV cV bm br gB HNR.out HNV.out HV9.out HVB.out HVL.out HBD.out HS0.out HSZ2.out HB2.out HG7.out hw8 H27.out HY7.out HM7.out HD7.out HS7.out (fun b off e => by have := HAV.out b off e; omega) (by omega)
          clear hw8 hz x2 x4 x5 x6 x7 g0 g1 g2 g3 g4 h0 h1 h2 h3 h4
          have HCALL := Lib.hid HT
          clear HT
          go_wp2_with (go_at_call 26; ((refine HCALL.out.mono ?_); rintro e w9 ⟨a8, c8, rfl, hg8, hy8, hen⟩; refine Hid.out ?_))
          have gc : w9.cell? ⟨gB, 4, none⟩ = some (.slice a8 D.length c8) := hg8.cell 4
          have f0 := hy8.frozen 0
          have f1 := hy8.frozen 1
          have t0 := hy8.two0
          have t1 := hy8.two1
          have HEN := Lib.hid hen
          have HY9 := Lib.hid hy8
          clear hg8 hy8 hen
          refine Lib.hid ?_
          go_wp2
          generalize hwz : (w9.setCell ⟨w.heap.size + 1, 0, none⟩ (.int .i64 y)).setCell ⟨w.heap.size + 1, 1, none⟩ (.slice a8 D.length c8) = wz
          have hbz : BlkV wz (w.heap.size + 1) 32 #[.int .i64 y, .slice a8 D.length c8] := by rw [← hwz]; exact (HY9.out.set_ 0 (.int .i64 y)).set_ 1 (.slice a8 D.length c8)
          have e0 := hbz.two0
          have e1 := hbz.two1
          refine bodyPost_ret (v := .tuple #[.agg #[.int .i64 y, .slice a8 D.length c8], .bool true]) (by simp [results, Tryz.results6, go_sem, e0, e1]) rfl ?_
          exact HEN.out wz hwz
        · skip
          refine step_makeP rfl 52 rfl ?_
          intro br w6 hsz hsz0 hb hmk
          have HZbr := Lib.hid (And.intro hsz hsz0)
          have HB6 := Lib.hid (HB5.out.trans (hb.mono HB5.out.size))
          have H26 := Lib.hid (H25.out.trans (hb.mono H25.out.size))
          have HX6 := Lib.hid (HX5.out.below hb)
          have HY6 := Lib.hid (HY5.out.below hb)
          have HZ6 := Lib.hid hb.size
          have x6 := HX6.out.one0
          have HM6 := Lib.hid (HM5.out.below hb)
          have HG6 := Lib.hid (HG5.out.below hb)
          have HD6 := Lib.hid (show DMap w6 br 0 (fun _ => none) from hmk _ _ _)
          clear hsz hsz0 hb hmk
          refine hK.out _ _ (fun _ => x6) (fun hH => ?_)
          have hHeld := hH (by decide)
          clear hH
          clear hK K
          (try simp only [Act.put, List.getElem_toArray, List.getElem_cons_succ, List.getElem_cons_zero, List.setIfInBounds_toArray, List.set_cons_zero, List.set_cons_succ])
          refine anyE_one (i := 3) (by kernel_rfl) (anyE_step rfl (fun K hK => ?_))
          go_simp
          go_wp2_with (go_at_call 21; ((refine Calls.mono (show Calls Tryz.prog 21 #[.agg #[.slice a nR c]] w6 (GivesV w6 V) by have h := vars_impl a c R V w6 HV.out (HS0.out.below HB6.out); rw [HNR.out] at h; exact h) ?_); rintro e w7 ⟨aV, cV, rfl, hoV, hb⟩))
          have hnV := HNV.out
          rw [hnV] at hoV ⊢
          clear hnV
          have HB7 := Lib.hid (HB6.out.trans (hb.mono HB6.out.size))
          have H27 := Lib.hid (H26.out.trans (hb.mono H26.out.size))
          have HX7 := Lib.hid (HX6.out.below hb)
          have HY7 := Lib.hid (HY6.out.below hb)
          have HZ7 := Lib.hid hb.size
          have x7 := HX7.out.one0
          have HM7 := Lib.hid (HM6.out.below hb)
          have HG7 := Lib.hid (HG6.out.below hb)
          have HD7 := Lib.hid (HD6.out.below hb)
          have HS7 := Lib.hid (show SmTs w7 aV (V.map tsV) cV from (show OwnV w7 w6.heap.size (.slice aV V.length cV) V by rw [HNV.out]; exact hoV).ts.smTs0 (by rw [List.length_map]; have := HV9.out; have := HNV.out; omega))
          have HAV := Lib.hid (fun (b off : Nat) (e : aV = some ⟨b, off, none⟩) => show w6.heap.size ≤ b ∧ b < w7.heap.size from World.ownsRow.lt hoV b (by rw [e]; rfl))
          clear hoV hb
          refine hK.out _ _ (fun _ => x7) (fun hH => ?_)
          have hHeld := hH (by decide)
          clear hH
          clear hK K
          (try simp only [Act.put, List.getElem_toArray, List.getElem_cons_succ, List.getElem_cons_zero, List.setIfInBounds_toArray, List.set_cons_zero, List.set_cons_succ])
          refine anyE_take (i := 6) (v := ?vz12) rfl (by kernel_rfl) (by kernel_rfl) (by kernel_rfl) (by kernel_rfl) (by kernel_rfl) (fun _ _ _ h => h) (Or.inl ⟨by kernel_rfl, ?yz12⟩) (by assumption) ?rz12
          case yz12 => (intro w' hSw; (try dsimp only at hSw); go_simp; (try with_reducible rfl))
          (try simp only [Act.put, List.getElem_toArray, List.getElem_cons_succ, List.getElem_cons_zero, List.setIfInBounds_toArray, List.set_cons_zero, List.set_cons_succ])
          have g0 := HG7.out.cell 0
          have h0 := HG7.out.frozen 0
          have g1 := HG7.out.cell 1
          have h1 := HG7.out.frozen 1
          have g2 := HG7.out.cell 2
          have h2 := HG7.out.frozen 2
          have g3 := HG7.out.cell 3
          have h3 := HG7.out.frozen 3
          have g4 := HG7.out.cell 4
          have h4 := HG7.out.frozen 4
          refine anyE_one (i := 8) (by kernel_rfl) (anyE_step rfl (fun K hK => ?_))
          go_simp
          refine hK.out _ _ (fun h => absurd rfl h) (fun _ => ?_)
          clear hK K
          (try simp only [Act.put, List.getElem_toArray, List.getElem_cons_succ, List.getElem_cons_zero, List.setIfInBounds_toArray, List.set_cons_zero, List.set_cons_succ])
          refine anyE_done (by kernel_rfl) ?_ _
          refine NoPanic.normal ?_
          generalize hw8 : ((((w7.setCell ⟨gB, 0, none⟩ (.slice a nR c)).setCell ⟨gB, 1, none⟩ (.slice aV nV cV)).setCell ⟨gB, 2, none⟩ (.map (some bm))).setCell ⟨gB, 3, none⟩ (.map (some br))).setCell ⟨gB, 4, none⟩ (.slice none 0 0) = w8
          have hz := And.intro HZ4.out (And.intro HZ5.out (And.intro HZ6.out (And.intro HZ7.out (And.intro HZbm.out (And.intro HZbr.out (And.intro HZgB.out (And.intro HW23.out HSZ2.out)))))))
          have HT := bd_tail a c R nR V nV y D w w2 w7 w8 aV cV bm br gB HNR.out HNV.out HV9.out HVB.out HVL.out HBD.out HS0.out HSZ2.out HB2.out HG7.out hw8 H27.out HY7.out HM7.out HD7.out HS7.out (fun b off e => by have := HAV.out b off e; omega) (by omega)
          clear hw8 hz x2 x4 x5 x6 x7 g0 g1 g2 g3 g4 h0 h1 h2 h3 h4
          have HCALL := Lib.hid HT
          clear HT
          go_wp2_with (go_at_call 26; ((refine HCALL.out.mono ?_); rintro e w9 ⟨a8, c8, rfl, hg8, hy8, hen⟩; refine Hid.out ?_))
          have gc : w9.cell? ⟨gB, 4, none⟩ = some (.slice a8 D.length c8) := hg8.cell 4
          have f0 := hy8.frozen 0
          have f1 := hy8.frozen 1
          have t0 := hy8.two0
          have t1 := hy8.two1
          have HEN := Lib.hid hen
          have HY9 := Lib.hid hy8
          clear hg8 hy8 hen
          refine Lib.hid ?_
          go_wp2
          generalize hwz : (w9.setCell ⟨w.heap.size + 1, 0, none⟩ (.int .i64 y)).setCell ⟨w.heap.size + 1, 1, none⟩ (.slice a8 D.length c8) = wz
          have hbz : BlkV wz (w.heap.size + 1) 32 #[.int .i64 y, .slice a8 D.length c8] := by rw [← hwz]; exact (HY9.out.set_ 0 (.int .i64 y)).set_ 1 (.slice a8 D.length c8)
          have e0 := hbz.two0
          have e1 := hbz.two1
          refine bodyPost_ret (v := .tuple #[.agg #[.int .i64 y, .slice a8 D.length c8], .bool true]) (by simp [results, Tryz.results6, go_sem, e0, e1]) rfl ?_
          exact HEN.out wz hwz
    · skip
      refine step_makeP rfl 52 rfl ?_
      intro br w4 hsz hsz0 hb hmk
      have HZbr := Lib.hid (And.intro hsz hsz0)
      have HB4 := Lib.hid (HB3.out.trans (hb.mono HB3.out.size))
      have H24 := Lib.hid (H23.out.trans (hb.mono H23.out.size))
      have HX4 := Lib.hid (HX3.out.below hb)
      have HY4 := Lib.hid (HY3.out.below hb)
      have HZ4 := Lib.hid hb.size
      have x4 := HX4.out.one0
      have HD4 := Lib.hid (show DMap w4 br 0 (fun _ => none) from hmk _ _ _)
      clear hsz hsz0 hb hmk
      refine hK.out _ _ (fun _ => x4) (fun hH => ?_)
      have hHeld := hH (by decide)
      clear hH
      clear hK K
      (try simp only [Act.put, List.getElem_toArray, List.getElem_cons_succ, List.getElem_cons_zero, List.setIfInBounds_toArray, List.set_cons_zero, List.set_cons_succ])
      refine anyE_three (i := 3) (j := 4) (k := 7) (by kernel_rfl) (anyE_step rfl (fun K hK => ?_)) (anyE_step rfl (fun K hK => ?_)) (anyE_step rfl (fun K hK => ?_))
      · skip
        go_simp
        go_wp2_with (go_at_call 21; ((refine Calls.mono (show Calls Tryz.prog 21 #[.agg #[.slice a nR c]] w4 (GivesV w4 V) by have h := vars_impl a c R V w4 HV.out (HS0.out.below HB4.out); rw [HNR.out] at h; exact h) ?_); rintro e w5 ⟨aV, cV, rfl, hoV, hb⟩))
        have hnV := HNV.out
        rw [hnV] at hoV ⊢
        clear hnV
        have HB5 := Lib.hid (HB4.out.trans (hb.mono HB4.out.size))
        have H25 := Lib.hid (H24.out.trans (hb.mono H24.out.size))
        have HX5 := Lib.hid (HX4.out.below hb)
        have HY5 := Lib.hid (HY4.out.below hb)
        have HZ5 := Lib.hid hb.size
        have x5 := HX5.out.one0
        have HD5 := Lib.hid (HD4.out.below hb)
        have HS5 := Lib.hid (show SmTs w5 aV (V.map tsV) cV from (show OwnV w5 w4.heap.size (.slice aV V.length cV) V by rw [HNV.out]; exact hoV).ts.smTs0 (by rw [List.length_map]; have := HV9.out; have := HNV.out; omega))
        have HAV := Lib.hid (fun (b off : Nat) (e : aV = some ⟨b, off, none⟩) => show w4.heap.size ≤ b ∧ b < w5.heap.size from World.ownsRow.lt hoV b (by rw [e]; rfl))
        clear hoV hb
        refine hK.out _ _ (fun _ => x5) (fun hH => ?_)
        have hHeld := hH (by decide)
        clear hH
        clear hK K
        (try simp only [Act.put, List.getElem_toArray, List.getElem_cons_succ, List.getElem_cons_zero, List.setIfInBounds_toArray, List.set_cons_zero, List.set_cons_succ])
        refine anyE_two (i := 4) (j := 7) (by kernel_rfl) (anyE_step rfl (fun K hK => ?_)) (anyE_step rfl (fun K hK => ?_))
        · skip
          refine step_makeP rfl 51 rfl ?_
          intro bm w6 hsz hsz0 hb hmk
          have HZbm := Lib.hid (And.intro hsz hsz0)
          have HB6 := Lib.hid (HB5.out.trans (hb.mono HB5.out.size))
          have H26 := Lib.hid (H25.out.trans (hb.mono H25.out.size))
          have HX6 := Lib.hid (HX5.out.below hb)
          have HY6 := Lib.hid (HY5.out.below hb)
          have HZ6 := Lib.hid hb.size
          have x6 := HX6.out.one0
          have HD6 := Lib.hid (HD5.out.below hb)
          have HS6 := Lib.hid (HS5.out.below hb)
          have HM6 := Lib.hid (show TMap w6 bm 0 (fun _ => none) from hmk _ _ _)
          clear hsz hsz0 hb hmk
          refine hK.out _ _ (fun _ => x6) (fun hH => ?_)
          have hHeld := hH (by decide)
          clear hH
          clear hK K
          (try simp only [Act.put, List.getElem_toArray, List.getElem_cons_succ, List.getElem_cons_zero, List.setIfInBounds_toArray, List.set_cons_zero, List.set_cons_succ])
          refine anyE_take (i := 6) (v := ?vz13) rfl (by kernel_rfl) (by kernel_rfl) (by kernel_rfl) (by kernel_rfl) (by kernel_rfl) (fun _ _ _ h => h) (Or.inl ⟨by kernel_rfl, ?yz13⟩) (by assumption) ?rz13
          case yz13 => (intro w' hSw; (try dsimp only at hSw); go_simp; (try with_reducible rfl))
          (try simp only [Act.put, List.getElem_toArray, List.getElem_cons_succ, List.getElem_cons_zero, List.setIfInBounds_toArray, List.set_cons_zero, List.set_cons_succ])
          refine anyE_one (i := 7) (by kernel_rfl) (anyE_step rfl (fun K hK => ?_))
          go_simp
          generalize hwn : w6.alloc (.cells #[.slice none 0 0, .slice none 0 0, .map none, .map none, .slice none 0 0] 54) = w7
          have hb : Below w6.heap.size w6 w7 := by rw [← hwn]; exact (Below.refl _ _).alloc (Nat.le_refl _) _
          have hgx : BlkV w7 w6.heap.size 54 #[.slice none 0 0, .slice none 0 0, .map none, .map none, .slice none 0 0] := by rw [← hwn]; exact BlkV.new _ _ _
          have hsz : w7.heap.size = w6.heap.size + 1 := by rw [← hwn]; simp
          clear hwn
          generalize hsz0 : w6.heap.size = gB at hgx hsz ⊢
          have HZgB := Lib.hid (And.intro hsz hsz0)
          have HB7 := Lib.hid (HB6.out.trans (hb.mono HB6.out.size))
          have H27 := Lib.hid (H26.out.trans (hb.mono H26.out.size))
          have HX7 := Lib.hid (HX6.out.below hb)
          have HY7 := Lib.hid (HY6.out.below hb)
          have HZ7 := Lib.hid hb.size
          have x7 := HX7.out.one0
          have HD7 := Lib.hid (HD6.out.below hb)
          have HS7 := Lib.hid (HS6.out.below hb)
          have HM7 := Lib.hid (HM6.out.below hb)
          have HG7 := Lib.hid hgx
          clear hsz hsz0 hb hgx
          refine hK.out _ _ (fun _ => x7) (fun hH => ?_)
          have hHeld := hH (by decide)
          clear hH
          clear hK K
          (try simp only [Act.put, List.getElem_toArray, List.getElem_cons_succ, List.getElem_cons_zero, List.setIfInBounds_toArray, List.set_cons_zero, List.set_cons_succ])
          have g0 := HG7.out.cell 0
          have h0 := HG7.out.frozen 0
          have g1 := HG7.out.cell 1
          have h1 := HG7.out.frozen 1
          have g2 := HG7.out.cell 2
          have h2 := HG7.out.frozen 2
          have g3 := HG7.out.cell 3
          have h3 := HG7.out.frozen 3
          have g4 := HG7.out.cell 4
          have h4 := HG7.out.frozen 4
          refine anyE_one (i := 8) (by kernel_rfl) (anyE_step rfl (fun K hK => ?_))
          go_simp
          refine hK.out _ _ (fun h => absurd rfl h) (fun _ => ?_)
          clear hK K
          (try simp only [Act.put, List.getElem_toArray, List.getElem_cons_succ, List.getElem_cons_zero, List.setIfInBounds_toArray, List.set_cons_zero, List.set_cons_succ])
          refine anyE_done (by kernel_rfl) ?_ _
          refine NoPanic.normal ?_
          generalize hw8 : ((((w7.setCell ⟨gB, 0, none⟩ (.slice a nR c)).setCell ⟨gB, 1, none⟩ (.slice aV nV cV)).setCell ⟨gB, 2, none⟩ (.map (some bm))).setCell ⟨gB, 3, none⟩ (.map (some br))).setCell ⟨gB, 4, none⟩ (.slice none 0 0) = w8
          have hz := And.intro HZ4.out (And.intro HZ5.out (And.intro HZ6.out (And.intro HZ7.out (And.intro HZbm.out (And.intro HZbr.out (And.intro HZgB.out (And.intro HW23.out HSZ2.out)))))))
          have HT := bd_tail a c R nR V nV y D w w2 w7 w8 aV cV bm br gB HNR.out HNV.out HV9.out HVB.out HVL.out HBD.out HS0.out HSZ2.out HB2.out HG7.out hw8 H27.out HY7.out HM7.out HD7.out HS7.out (fun b off e => by have := HAV.out b off e; omega) (by omega)
          clear hw8 hz x2 x4 x5 x6 x7 g0 g1 g2 g3 g4 h0 h1 h2 h3 h4
          have HCALL := Lib.hid HT
          clear HT
          go_wp2_with (go_at_call 26; ((refine HCALL.out.mono ?_); rintro e w9 ⟨a8, c8, rfl, hg8, hy8, hen⟩; refine Hid.out ?_))
          have gc : w9.cell? ⟨gB, 4, none⟩ = some (.slice a8 D.length c8) := hg8.cell 4
          have f0 := hy8.frozen 0
          have f1 := hy8.frozen 1
          have t0 := hy8.two0
          have t1 := hy8.two1
          have HEN := Lib.hid hen
          have HY9 := Lib.hid hy8
          clear hg8 hy8 hen
          refine Lib.hid ?_
          go_wp2
          generalize hwz : (w9.setCell ⟨w.heap.size + 1, 0, none⟩ (.int .i64 y)).setCell ⟨w.heap.size + 1, 1, none⟩ (.slice a8 D.length c8) = wz
          have hbz : BlkV wz (w.heap.size + 1) 32 #[.int .i64 y, .slice a8 D.length c8] := by rw [← hwz]; exact (HY9.out.set_ 0 (.int .i64 y)).set_ 1 (.slice a8 D.length c8)
          have e0 := hbz.two0
          have e1 := hbz.two1
          refine bodyPost_ret (v := .tuple #[.agg #[.int .i64 y, .slice a8 D.length c8], .bool true]) (by simp [results, Tryz.results6, go_sem, e0, e1]) rfl ?_
          exact HEN.out wz hwz
        · skip
          go_simp
          generalize hwn : w5.alloc (.cells #[.slice none 0 0, .slice none 0 0, .map none, .map none, .slice none 0 0] 54) = w6
          have hb : Below w5.heap.size w5 w6 := by rw [← hwn]; exact (Below.refl _ _).alloc (Nat.le_refl _) _
          have hgx : BlkV w6 w5.heap.size 54 #[.slice none 0 0, .slice none 0 0, .map none, .map none, .slice none 0 0] := by rw [← hwn]; exact BlkV.new _ _ _
          have hsz : w6.heap.size = w5.heap.size + 1 := by rw [← hwn]; simp
          clear hwn
          generalize hsz0 : w5.heap.size = gB at hgx hsz ⊢
          have HZgB := Lib.hid (And.intro hsz hsz0)
          have HB6 := Lib.hid (HB5.out.trans (hb.mono HB5.out.size))
          have H26 := Lib.hid (H25.out.trans (hb.mono H25.out.size))
          have HX6 := Lib.hid (HX5.out.below hb)
          have HY6 := Lib.hid (HY5.out.below hb)
          have HZ6 := Lib.hid hb.size
          have x6 := HX6.out.one0
          have HD6 := Lib.hid (HD5.out.below hb)
          have HS6 := Lib.hid (HS5.out.below hb)
          have HG6 := Lib.hid hgx
          clear hsz hsz0 hb hgx
          refine hK.out _ _ (fun _ => x6) (fun hH => ?_)
          have hHeld := hH (by decide)
          clear hH
          clear hK K
          (try simp only [Act.put, List.getElem_toArray, List.getElem_cons_succ, List.getElem_cons_zero, List.setIfInBounds_toArray, List.set_cons_zero, List.set_cons_succ])
          refine anyE_one (i := 4) (by kernel_rfl) (anyE_step rfl (fun K hK => ?_))
          refine step_makeP rfl 51 rfl ?_
          intro bm w7 hsz hsz0 hb hmk
          have HZbm := Lib.hid (And.intro hsz hsz0)
          have HB7 := Lib.hid (HB6.out.trans (hb.mono HB6.out.size))
          have H27 := Lib.hid (H26.out.trans (hb.mono H26.out.size))
          have HX7 := Lib.hid (HX6.out.below hb)
          have HY7 := Lib.hid (HY6.out.below hb)
          have HZ7 := Lib.hid hb.size
          have x7 := HX7.out.one0
          have HD7 := Lib.hid (HD6.out.below hb)
          have HS7 := Lib.hid (HS6.out.below hb)
          have HG7 := Lib.hid (HG6.out.below hb)
          have HM7 := Lib.hid (show TMap w7 bm 0 (fun _ => none) from hmk _ _ _)
          clear hsz hsz0 hb hmk
          refine hK.out _ _ (fun _ => x7) (fun hH => ?_)
          have hHeld := hH (by decide)
          clear hH
          clear hK K
          (try simp only [Act.put, List.getElem_toArray, List.getElem_cons_succ, List.getElem_cons_zero, List.setIfInBounds_toArray, List.set_cons_zero, List.set_cons_succ])
          refine anyE_take (i := 6) (v := ?vz14) rfl (by kernel_rfl) (by kernel_rfl) (by kernel_rfl) (by kernel_rfl) (by kernel_rfl) (fun _ _ _ h => h) (Or.inl ⟨by kernel_rfl, ?yz14⟩) (by assumption) ?rz14
          case yz14 => (intro w' hSw; (try dsimp only at hSw); go_simp; (try with_reducible rfl))
          (try simp only [Act.put, List.getElem_toArray, List.getElem_cons_succ, List.getElem_cons_zero, List.setIfInBounds_toArray, List.set_cons_zero, List.set_cons_succ])
          have g0 := HG7.out.cell 0
          have h0 := HG7.out.frozen 0
          have g1 := HG7.out.cell 1
          have h1 := HG7.out.frozen 1
          have g2 := HG7.out.cell 2
          have h2 := HG7.out.frozen 2
          have g3 := HG7.out.cell 3
          have h3 := HG7.out.frozen 3
          have g4 := HG7.out.cell 4
          have h4 := HG7.out.frozen 4
          refine anyE_one (i := 8) (by kernel_rfl) (anyE_step rfl (fun K hK => ?_))
          go_simp
          refine hK.out _ _ (fun h => absurd rfl h) (fun _ => ?_)
          clear hK K
          (try simp only [Act.put, List.getElem_toArray, List.getElem_cons_succ, List.getElem_cons_zero, List.setIfInBounds_toArray, List.set_cons_zero, List.set_cons_succ])
          refine anyE_done (by kernel_rfl) ?_ _
          refine NoPanic.normal ?_
          generalize hw8 : ((((w7.setCell ⟨gB, 0, none⟩ (.slice a nR c)).setCell ⟨gB, 1, none⟩ (.slice aV nV cV)).setCell ⟨gB, 2, none⟩ (.map (some bm))).setCell ⟨gB, 3, none⟩ (.map (some br))).setCell ⟨gB, 4, none⟩ (.slice none 0 0) = w8
          have hz := And.intro HZ4.out (And.intro HZ5.out (And.intro HZ6.out (And.intro HZ7.out (And.intro HZbm.out (And.intro HZbr.out (And.intro HZgB.out (And.intro HW23.out HSZ2.out)))))))
          have HT := bd_tail a c R nR V nV y D w w2 w7 w8 aV cV bm br gB HNR.out HNV.out HV9.out HVB.out HVL.out HBD.out HS0.out HSZ2.out HB2.out HG7.out hw8 H27.out HY7.out HM7.out HD7.out HS7.out (fun b off e => by have := HAV.out b off e; omega) (by omega)
          clear hw8 hz x2 x4 x5 x6 x7 g0 g1 g2 g3 g4 h0 h1 h2 h3 h4
          have HCALL := Lib.hid HT
          clear HT
          go_wp2_with (go_at_call 26; ((refine HCALL.out.mono ?_); rintro e w9 ⟨a8, c8, rfl, hg8, hy8, hen⟩; refine Hid.out ?_))
          have gc : w9.cell? ⟨gB, 4, none⟩ = some (.slice a8 D.length c8) := hg8.cell 4
          have f0 := hy8.frozen 0
          have f1 := hy8.frozen 1
          have t0 := hy8.two0
          have t1 := hy8.two1
          have HEN := Lib.hid hen
          have HY9 := Lib.hid hy8
          clear hg8 hy8 hen
          refine Lib.hid ?_
          go_wp2
          generalize hwz : (w9.setCell ⟨w.heap.size + 1, 0, none⟩ (.int .i64 y)).setCell ⟨w.heap.size + 1, 1, none⟩ (.slice a8 D.length c8) = wz
          have hbz : BlkV wz (w.heap.size + 1) 32 #[.int .i64 y, .slice a8 D.length c8] := by rw [← hwz]; exact (HY9.out.set_ 0 (.int .i64 y)).set_ 1 (.slice a8 D.length c8)
          have e0 := hbz.two0
          have e1 := hbz.two1
          refine bodyPost_ret (v := .tuple #[.agg #[.int .i64 y, .slice a8 D.length c8], .bool true]) (by simp [results, Tryz.results6, go_sem, e0, e1]) rfl ?_
          exact HEN.out wz hwz
      · skip
        refine step_makeP rfl 51 rfl ?_
        intro bm w5 hsz hsz0 hb hmk
        have HZbm := Lib.hid (And.intro hsz hsz0)
        have HB5 := Lib.hid (HB4.out.trans (hb.mono HB4.out.size))
        have H25 := Lib.hid (H24.out.trans (hb.mono H24.out.size))
        have HX5 := Lib.hid (HX4.out.below hb)
        have HY5 := Lib.hid (HY4.out.below hb)
        have HZ5 := Lib.hid hb.size
        have x5 := HX5.out.one0
        have HD5 := Lib.hid (HD4.out.below hb)
        have HM5 := Lib.hid (show TMap w5 bm 0 (fun _ => none) from hmk _ _ _)
        clear hsz hsz0 hb hmk
        refine hK.out _ _ (fun _ => x5) (fun hH => ?_)
        have hHeld := hH (by decide)
        clear hH
        clear hK K
        (try simp only [Act.put, List.getElem_toArray, List.getElem_cons_succ, List.getElem_cons_zero, List.setIfInBounds_toArray, List.set_cons_zero, List.set_cons_succ])
        refine anyE_two (i := 3) (j := 7) (by kernel_rfl) (anyE_step rfl (fun K hK => ?_)) (anyE_step rfl (fun K hK => ?_))
        · skip
          go_simp
          go_wp2_with (go_at_call 21; ((refine Calls.mono (show Calls Tryz.prog 21 #[.agg #[.slice a nR c]] w5 (GivesV w5 V) by have h := vars_impl a c R V w5 HV.out (HS0.out.below HB5.out); rw [HNR.out] at h; exact h) ?_); rintro e w6 ⟨aV, cV, rfl, hoV, hb⟩))
          have hnV := HNV.out
          rw [hnV] at hoV ⊢
          clear hnV
          have HB6 := Lib.hid (HB5.out.trans (hb.mono HB5.out.size))
          have H26 := Lib.hid (H25.out.trans (hb.mono H25.out.size))
          have HX6 := Lib.hid (HX5.out.below hb)
          have HY6 := Lib.hid (HY5.out.below hb)
          have HZ6 := Lib.hid hb.size
          have x6 := HX6.out.one0
          have HD6 := Lib.hid (HD5.out.below hb)
          have HM6 := Lib.hid (HM5.out.below hb)
          have HS6 := Lib.hid (show SmTs w6 aV (V.map tsV) cV from (show OwnV w6 w5.heap.size (.slice aV V.length cV) V by rw [HNV.out]; exact hoV).ts.smTs0 (by rw [List.length_map]; have := HV9.out; have := HNV.out; omega))
          have HAV := Lib.hid (fun (b off : Nat) (e : aV = some ⟨b, off, none⟩) => show w5.heap.size ≤ b ∧ b < w6.heap.size from World.ownsRow.lt hoV b (by rw [e]; rfl))
          clear hoV hb
          refine hK.out _ _ (fun _ => x6) (fun hH => ?_)
          have hHeld := hH (by decide)
          clear hH
          clear hK K
          (try simp only [Act.put, List.getElem_toArray, List.getElem_cons_succ, List.getElem_cons_zero, List.setIfInBounds_toArray, List.set_cons_zero, List.set_cons_succ])
          refine anyE_take (i := 6) (v := ?vz15) rfl (by kernel_rfl) (by kernel_rfl) (by kernel_rfl) (by kernel_rfl) (by kernel_rfl) (fun _ _ _ h => h) (Or.inl ⟨by kernel_rfl, ?yz15⟩) (by assumption) ?rz15
          case yz15 => (intro w' hSw; (try dsimp only at hSw); go_simp; (try with_reducible rfl))
          (try simp only [Act.put, List.getElem_toArray, List.getElem_cons_succ, List.getElem_cons_zero, List.setIfInBounds_toArray, List.set_cons_zero, List.set_cons_succ])
          refine anyE_one (i := 7) (by kernel_rfl) (anyE_step rfl (fun K hK => ?_))
          go_simp
          generalize hwn : w6.alloc (.cells #[.slice none 0 0, .slice none 0 0, .map none, .map none, .slice none 0 0] 54) = w7
          have hb : Below w6.heap.size w6 w7 := by rw [← hwn]; exact (Below.refl _ _).alloc (Nat.le_refl _) _
          have hgx : BlkV w7 w6.heap.size 54 #[.slice none 0 0, .slice none 0 0, .map none, .map none, .slice none 0 0] := by rw [← hwn]; exact BlkV.new _ _ _
          have hsz : w7.heap.size = w6.heap.size + 1 := by rw [← hwn]; simp
          clear hwn
          generalize hsz0 : w6.heap.size = gB at hgx hsz ⊢
          have HZgB := Lib.hid (And.intro hsz hsz0)
          have HB7 := Lib.hid (HB6.out.trans (hb.mono HB6.out.size))
          have H27 := Lib.hid (H26.out.trans (hb.mono H26.out.size))
          have HX7 := Lib.hid (HX6.out.below hb)
          have HY7 := Lib.hid (HY6.out.below hb)
          have HZ7 := Lib.hid hb.size
          have x7 := HX7.out.one0
          have HD7 := Lib.hid (HD6.out.below hb)
          have HM7 := Lib.hid (HM6.out.below hb)
          have HS7 := Lib.hid (HS6.out.below hb)
          have HG7 := Lib.hid hgx
          clear hsz hsz0 hb hgx
          refine hK.out _ _ (fun _ => x7) (fun hH => ?_)
          have hHeld := hH (by decide)
          clear hH
          clear hK K
          (try simp only [Act.put, List.getElem_toArray, List.getElem_cons_succ, List.getElem_cons_zero, List.setIfInBounds_toArray, List.set_cons_zero, List.set_cons_succ])
          have g0 := HG7.out.cell 0
          have h0 := HG7.out.frozen 0
          have g1 := HG7.out.cell 1
          have h1 := HG7.out.frozen 1
          have g2 := HG7.out.cell 2
          have h2 := HG7.out.frozen 2
          have g3 := HG7.out.cell 3
          have h3 := HG7.out.frozen 3
          have g4 := HG7.out.cell 4
          have h4 := HG7.out.frozen 4
          refine anyE_one (i := 8) (by kernel_rfl) (anyE_step rfl (fun K hK => ?_))
          go_simp
          refine hK.out _ _ (fun h => absurd rfl h) (fun _ => ?_)
          clear hK K
          (try simp only [Act.put, List.getElem_toArray, List.getElem_cons_succ, List.getElem_cons_zero, List.setIfInBounds_toArray, List.set_cons_zero, List.set_cons_succ])
          refine anyE_done (by kernel_rfl) ?_ _
          refine NoPanic.normal ?_
          generalize hw8 : ((((w7.setCell ⟨gB, 0, none⟩ (.slice a nR c)).setCell ⟨gB, 1, none⟩ (.slice aV nV cV)).setCell ⟨gB, 2, none⟩ (.map (some bm))).setCell ⟨gB, 3, none⟩ (.map (some br))).setCell ⟨gB, 4, none⟩ (.slice none 0 0) = w8
          have hz := And.intro HZ4.out (And.intro HZ5.out (And.intro HZ6.out (And.intro HZ7.out (And.intro HZbm.out (And.intro HZbr.out (And.intro HZgB.out (And.intro HW23.out HSZ2.out)))))))
          have HT := bd_tail a c R nR V nV y D w w2 w7 w8 aV cV bm br gB HNR.out HNV.out HV9.out HVB.out HVL.out HBD.out HS0.out HSZ2.out HB2.out HG7.out hw8 H27.out HY7.out HM7.out HD7.out HS7.out (fun b off e => by have := HAV.out b off e; omega) (by omega)
          clear hw8 hz x2 x4 x5 x6 x7 g0 g1 g2 g3 g4 h0 h1 h2 h3 h4
          have HCALL := Lib.hid HT
          clear HT
          go_wp2_with (go_at_call 26; ((refine HCALL.out.mono ?_); rintro e w9 ⟨a8, c8, rfl, hg8, hy8, hen⟩; refine Hid.out ?_))
          have gc : w9.cell? ⟨gB, 4, none⟩ = some (.slice a8 D.length c8) := hg8.cell 4
          have f0 := hy8.frozen 0
          have f1 := hy8.frozen 1
          have t0 := hy8.two0
          have t1 := hy8.two1
          have HEN := Lib.hid hen
          have HY9 := Lib.hid hy8
          clear hg8 hy8 hen
          refine Lib.hid ?_
          go_wp2
          generalize hwz : (w9.setCell ⟨w.heap.size + 1, 0, none⟩ (.int .i64 y)).setCell ⟨w.heap.size + 1, 1, none⟩ (.slice a8 D.length c8) = wz
          have hbz : BlkV wz (w.heap.size + 1) 32 #[.int .i64 y, .slice a8 D.length c8] := by rw [← hwz]; exact (HY9.out.set_ 0 (.int .i64 y)).set_ 1 (.slice a8 D.length c8)
          have e0 := hbz.two0
          have e1 := hbz.two1
          refine bodyPost_ret (v := .tuple #[.agg #[.int .i64 y, .slice a8 D.length c8], .bool true]) (by simp [results, Tryz.results6, go_sem, e0, e1]) rfl ?_
          exact HEN.out wz hwz
        · skip
          go_simp
          generalize hwn : w5.alloc (.cells #[.slice none 0 0, .slice none 0 0, .map none, .map none, .slice none 0 0] 54) = w6
          have hb : Below w5.heap.size w5 w6 := by rw [← hwn]; exact (Below.refl _ _).alloc (Nat.le_refl _) _
          have hgx : BlkV w6 w5.heap.size 54 #[.slice none 0 0, .slice none 0 0, .map none, .map none, .slice none 0 0] := by rw [← hwn]; exact BlkV.new _ _ _
          have hsz : w6.heap.size = w5.heap.size + 1 := by rw [← hwn]; simp
          clear hwn
          generalize hsz0 : w5.heap.size = gB at hgx hsz ⊢
          have HZgB := Lib.hid (And.intro hsz hsz0)
          have HB6 := Lib.hid (HB5.out.trans (hb.mono HB5.out.size))
          have H26 := Lib.hid (H25.out.trans (hb.mono H25.out.size))
          have HX6 := Lib.hid (HX5.out.below hb)
          have HY6 := Lib.hid (HY5.out.below hb)
          have HZ6 := Lib.hid hb.size
          have x6 := HX6.out.one0
          have HD6 := Lib.hid (HD5.out.below hb)
          have HM6 := Lib.hid (HM5.out.below hb)
          have HG6 := Lib.hid hgx
          clear hsz hsz0 hb hgx
          refine hK.out _ _ (fun _ => x6) (fun hH => ?_)
          have hHeld := hH (by decide)
          clear hH
          clear hK K
          (try simp only [Act.put, List.getElem_toArray, List.getElem_cons_succ, List.getElem_cons_zero, List.setIfInBounds_toArray, List.set_cons_zero, List.set_cons_succ])
          refine anyE_one (i := 3) (by kernel_rfl) (anyE_step rfl (fun K hK => ?_))
          go_simp
          go_wp2_with (go_at_call 21; ((refine Calls.mono (show Calls Tryz.prog 21 #[.agg #[.slice a nR c]] w6 (GivesV w6 V) by have h := vars_impl a c R V w6 HV.out (HS0.out.below HB6.out); rw [HNR.out] at h; exact h) ?_); rintro e w7 ⟨aV, cV, rfl, hoV, hb⟩))
          have hnV := HNV.out
          rw [hnV] at hoV ⊢
          clear hnV
          have HB7 := Lib.hid (HB6.out.trans (hb.mono HB6.out.size))
          have H27 := Lib.hid (H26.out.trans (hb.mono H26.out.size))
          have HX7 := Lib.hid (HX6.out.below hb)
          have HY7 := Lib.hid (HY6.out.below hb)
          have HZ7 := Lib.hid hb.size
          have x7 := HX7.out.one0
          have HD7 := Lib.hid (HD6.out.below hb)
          have HM7 := Lib.hid (HM6.out.below hb)
          have HG7 := Lib.hid (HG6.out.below hb)
          have HS7 := Lib.hid (show SmTs w7 aV (V.map tsV) cV from (show OwnV w7 w6.heap.size (.slice aV V.length cV) V by rw [HNV.out]; exact hoV).ts.smTs0 (by rw [List.length_map]; have := HV9.out; have := HNV.out; omega))
          have HAV := Lib.hid (fun (b off : Nat) (e : aV = some ⟨b, off, none⟩) => show w6.heap.size ≤ b ∧ b < w7.heap.size from World.ownsRow.lt hoV b (by rw [e]; rfl))
          clear hoV hb
          refine hK.out _ _ (fun _ => x7) (fun hH => ?_)
          have hHeld := hH (by decide)
          clear hH
          clear hK K
          (try simp only [Act.put, List.getElem_toArray, List.getElem_cons_succ, List.getElem_cons_zero, List.setIfInBounds_toArray, List.set_cons_zero, List.set_cons_succ])
          refine anyE_take (i := 6) (v := ?vz16) rfl (by kernel_rfl) (by kernel_rfl) (by kernel_rfl) (by kernel_rfl) (by kernel_rfl) (fun _ _ _ h => h) (Or.inl ⟨by kernel_rfl, ?yz16⟩) (by assumption) ?rz16
          case yz16 => (intro w' hSw; (try dsimp only at hSw); go_simp; (try with_reducible rfl))
          (try simp only [Act.put, List.getElem_toArray, List.getElem_cons_succ, List.getElem_cons_zero, List.setIfInBounds_toArray, List.set_cons_zero, List.set_cons_succ])
          have g0 := HG7.out.cell 0
          have h0 := HG7.out.frozen 0
          have g1 := HG7.out.cell 1
          have h1 := HG7.out.frozen 1
          have g2 := HG7.out.cell 2
          have h2 := HG7.out.frozen 2
          have g3 := HG7.out.cell 3
          have h3 := HG7.out.frozen 3
          have g4 := HG7.out.cell 4
          have h4 := HG7.out.frozen 4
          refine anyE_one (i := 8) (by kernel_rfl) (anyE_step rfl (fun K hK => ?_))
          go_simp
          refine hK.out _ _ (fun h => absurd rfl h) (fun _ => ?_)
          clear hK K
          (try simp only [Act.put, List.getElem_toArray, List.getElem_cons_succ, List.getElem_cons_zero, List.setIfInBounds_toArray, List.set_cons_zero, List.set_cons_succ])
          refine anyE_done (by kernel_rfl) ?_ _
          refine NoPanic.normal ?_
          generalize hw8 : ((((w7.setCell ⟨gB, 0, none⟩ (.slice a nR c)).setCell ⟨gB, 1, none⟩ (.slice aV nV cV)).setCell ⟨gB, 2, none⟩ (.map (some bm))).setCell ⟨gB, 3, none⟩ (.map (some br))).setCell ⟨gB, 4, none⟩ (.slice none 0 0) = w8
          have hz := And.intro HZ4.out (And.intro HZ5.out (And.intro HZ6.out (And.intro HZ7.out (And.intro HZbm.out (And.intro HZbr.out (And.intro HZgB.out (And.intro HW23.out HSZ2.out)))))))
          have HT := bd_tail a c R nR V nV y D w w2 w7 w8 aV cV bm br gB HNR.out HNV.out HV9.out HVB.out HVL.out HBD.out HS0.out HSZ2.out HB2.out HG7.out hw8 H27.out HY7.out HM7.out HD7.out HS7.out (fun b off e => by have := HAV.out b off e; omega) (by omega)
          clear hw8 hz x2 x4 x5 x6 x7 g0 g1 g2 g3 g4 h0 h1 h2 h3 h4
          have HCALL := Lib.hid HT
          clear HT
          go_wp2_with (go_at_call 26; ((refine HCALL.out.mono ?_); rintro e w9 ⟨a8, c8, rfl, hg8, hy8, hen⟩; refine Hid.out ?_))
          have gc : w9.cell? ⟨gB, 4, none⟩ = some (.slice a8 D.length c8) := hg8.cell 4
          have f0 := hy8.frozen 0
          have f1 := hy8.frozen 1
          have t0 := hy8.two0
          have t1 := hy8.two1
          have HEN := Lib.hid hen
          have HY9 := Lib.hid hy8
          clear hg8 hy8 hen
          refine Lib.hid ?_
          go_wp2
          generalize hwz : (w9.setCell ⟨w.heap.size + 1, 0, none⟩ (.int .i64 y)).setCell ⟨w.heap.size + 1, 1, none⟩ (.slice a8 D.length c8) = wz
          have hbz : BlkV wz (w.heap.size + 1) 32 #[.int .i64 y, .slice a8 D.length c8] := by rw [← hwz]; exact (HY9.out.set_ 0 (.int .i64 y)).set_ 1 (.slice a8 D.length c8)
          have e0 := hbz.two0
          have e1 := hbz.two1
          refine bodyPost_ret (v := .tuple #[.agg #[.int .i64 y, .slice a8 D.length c8], .bool true]) (by simp [results, Tryz.results6, go_sem, e0, e1]) rfl ?_
          exact HEN.out wz hwz
      · skip
        go_simp
        generalize hwn : w4.alloc (.cells #[.slice none 0 0, .slice none 0 0, .map none, .map none, .slice none 0 0] 54) = w5
        have hb : Below w4.heap.size w4 w5 := by rw [← hwn]; exact (Below.refl _ _).alloc (Nat.le_refl _) _
        have hgx : BlkV w5 w4.heap.size 54 #[.slice none 0 0, .slice none 0 0, .map none, .map none, .slice none 0 0] := by rw [← hwn]; exact BlkV.new _ _ _
        have hsz : w5.heap.size = w4.heap.size + 1 := by rw [← hwn]; simp
        clear hwn
        generalize hsz0 : w4.heap.size = gB at hgx hsz ⊢
        have HZgB := Lib.hid (And.intro hsz hsz0)
        have HB5 := Lib.hid (HB4.out.trans (hb.mono HB4.out.size))
        have H25 := Lib.hid (H24.out.trans (hb.mono H24.out.size))
        have HX5 := Lib.hid (HX4.out.below hb)
        have HY5 := Lib.hid (HY4.out.below hb)
        have HZ5 := Lib.hid hb.size
        have x5 := HX5.out.one0
        have HD5 := Lib.hid (HD4.out.below hb)
        have HG5 := Lib.hid hgx
        clear hsz hsz0 hb hgx
        refine hK.out _ _ (fun _ => x5) (fun hH => ?_)
        have hHeld := hH (by decide)
        clear hH
        clear hK K
        (try simp only [Act.put, List.getElem_toArray, List.getElem_cons_succ, List.getElem_cons_zero, List.setIfInBounds_toArray, List.set_cons_zero, List.set_cons_succ])
        refine anyE_two (i := 3) (j := 4) (by kernel_rfl) (anyE_step rfl (fun K hK => ?_)) (anyE_step rfl (fun K hK => ?_))
        · skip
          go_simp
          go_wp2_with (go_at_call 21; ((refine Calls.mono (show Calls Tryz.prog 21 #[.agg #[.slice a nR c]] w5 (GivesV w5 V) by have h := vars_impl a c R V w5 HV.out (HS0.out.below HB5.out); rw [HNR.out] at h; exact h) ?_); rintro e w6 ⟨aV, cV, rfl, hoV, hb⟩))
          have hnV := HNV.out
          rw [hnV] at hoV ⊢
          clear hnV
          have HB6 := Lib.hid (HB5.out.trans (hb.mono HB5.out.size))
          have H26 := Lib.hid (H25.out.trans (hb.mono H25.out.size))
          have HX6 := Lib.hid (HX5.out.below hb)
          have HY6 := Lib.hid (HY5.out.below hb)
          have HZ6 := Lib.hid hb.size
          have x6 := HX6.out.one0
          have HD6 := Lib.hid (HD5.out.below hb)
          have HG6 := Lib.hid (HG5.out.below hb)
          have HS6 := Lib.hid (show SmTs w6 aV (V.map tsV) cV from (show OwnV w6 w5.heap.size (.slice aV V.length cV) V by rw [HNV.out]; exact hoV).ts.smTs0 (by rw [List.length_map]; have := HV9.out; have := HNV.out; omega))
          have HAV := Lib.hid (fun (b off : Nat) (e : aV = some ⟨b, off, none⟩) => show w5.heap.size ≤ b ∧ b < w6.heap.size from World.ownsRow.lt hoV b (by rw [e]; rfl))
          clear hoV hb
          refine hK.out _ _ (fun _ => x6) (fun hH => ?_)
          have hHeld := hH (by decide)
          clear hH
          clear hK K
          (try simp only [Act.put, List.getElem_toArray, List.getElem_cons_succ, List.getElem_cons_zero, List.setIfInBounds_toArray, List.set_cons_zero, List.set_cons_succ])
          refine anyE_one (i := 4) (by kernel_rfl) (anyE_step rfl (fun K hK => ?_))
          refine step_makeP rfl 51 rfl ?_
          intro bm w7 hsz hsz0 hb hmk
          have HZbm := Lib.hid (And.intro hsz hsz0)
          have HB7 := Lib.hid (HB6.out.trans (hb.mono HB6.out.size))
          have H27 := Lib.hid (H26.out.trans (hb.mono H26.out.size))
          have HX7 := Lib.hid (HX6.out.below hb)
          have HY7 := Lib.hid (HY6.out.below hb)
          have HZ7 := Lib.hid hb.size
          have x7 := HX7.out.one0
          have HD7 := Lib.hid (HD6.out.below hb)
          have HG7 := Lib.hid (HG6.out.below hb)
          have HS7 := Lib.hid (HS6.out.below hb)
          have HM7 := Lib.hid (show TMap w7 bm 0 (fun _ => none) from hmk _ _ _)
          clear hsz hsz0 hb hmk
          refine hK.out _ _ (fun _ => x7) (fun hH => ?_)
          have hHeld := hH (by decide)
          clear hH
          clear hK K
          (try simp only [Act.put, List.getElem_toArray, List.getElem_cons_succ, List.getElem_cons_zero, List.setIfInBounds_toArray, List.set_cons_zero, List.set_cons_succ])
          refine anyE_take (i := 6) (v := ?vz17) rfl (by kernel_rfl) (by kernel_rfl) (by kernel_rfl) (by kernel_rfl) (by kernel_rfl) (fun _ _ _ h => h) (Or.inl ⟨by kernel_rfl, ?yz17⟩) (by assumption) ?rz17
          case yz17 => (intro w' hSw; (try dsimp only at hSw); go_simp; (try with_reducible rfl))
          (try simp only [Act.put, List.getElem_toArray, List.getElem_cons_succ, List.getElem_cons_zero, List.setIfInBounds_toArray, List.set_cons_zero, List.set_cons_succ])
          have g0 := HG7.out.cell 0
          have h0 := HG7.out.frozen 0
          have g1 := HG7.out.cell 1
          have h1 := HG7.out.frozen 1
          have g2 := HG7.out.cell 2
          have h2 := HG7.out.frozen 2
          have g3 := HG7.out.cell 3
          have h3 := HG7.out.frozen 3
          have g4 := HG7.out.cell 4
          have h4 := HG7.out.frozen 4
          refine anyE_one (i := 8) (by kernel_rfl) (anyE_step rfl (fun K hK => ?_))
          go_simp
          refine hK.out _ _ (fun h => absurd rfl h) (fun _ => ?_)
          clear hK K
          (try simp only [Act.put, List.getElem_toArray, List.getElem_cons_succ, List.getElem_cons_zero, List.setIfInBounds_toArray, List.set_cons_zero, List.set_cons_succ])
          refine anyE_done (by kernel_rfl) ?_ _
          refine NoPanic.normal ?_
          generalize hw8 : ((((w7.setCell ⟨gB, 0, none⟩ (.slice a nR c)).setCell ⟨gB, 1, none⟩ (.slice aV nV cV)).setCell ⟨gB, 2, none⟩ (.map (some bm))).setCell ⟨gB, 3, none⟩ (.map (some br))).setCell ⟨gB, 4, none⟩ (.slice none 0 0) = w8
          have hz := And.intro HZ4.out (And.intro HZ5.out (And.intro HZ6.out (And.intro HZ7.out (And.intro HZbm.out (And.intro HZbr.out (And.intro HZgB.out (And.intro HW23.out HSZ2.out)))))))
          have HT := bd_tail a c R nR V nV y D w w2 w7 w8 aV cV bm br gB HNR.out HNV.out HV9.out HVB.out HVL.out HBD.out HS0.out HSZ2.out HB2.out HG7.out hw8 H27.out HY7.out HM7.out HD7.out HS7.out (fun b off e => by have := HAV.out b off e; omega) (by omega)
          clear hw8 hz x2 x4 x5 x6 x7 g0 g1 g2 g3 g4 h0 h1 h2 h3 h4
          have HCALL := Lib.hid HT
          clear HT
          go_wp2_with (go_at_call 26; ((refine HCALL.out.mono ?_); rintro e w9 ⟨a8, c8, rfl, hg8, hy8, hen⟩; refine Hid.out ?_))
          have gc : w9.cell? ⟨gB, 4, none⟩ = some (.slice a8 D.length c8) := hg8.cell 4
          have f0 := hy8.frozen 0
          have f1 := hy8.frozen 1
          have t0 := hy8.two0
          have t1 := hy8.two1
          have HEN := Lib.hid hen
          have HY9 := Lib.hid hy8
          clear hg8 hy8 hen
          refine Lib.hid ?_
          go_wp2
          generalize hwz : (w9.setCell ⟨w.heap.size + 1, 0, none⟩ (.int .i64 y)).setCell ⟨w.heap.size + 1, 1, none⟩ (.slice a8 D.length c8) = wz
          have hbz : BlkV wz (w.heap.size + 1) 32 #[.int .i64 y, .slice a8 D.length c8] := by rw [← hwz]; exact (HY9.out.set_ 0 (.int .i64 y)).set_ 1 (.slice a8 D.length c8)
          have e0 := hbz.two0
          have e1 := hbz.two1
          refine bodyPost_ret (v := .tuple #[.agg #[.int .i64 y, .slice a8 D.length c8], .bool true]) (by simp [results, Tryz.results6, go_sem, e0, e1]) rfl ?_
          exact HEN.out wz hwz
        · skip
          refine step_makeP rfl 51 rfl ?_
          intro bm w6 hsz hsz0 hb hmk
          have HZbm := Lib.hid (And.intro hsz hsz0)
          have HB6 := Lib.hid (HB5.out.trans (hb.mono HB5.out.size))
          have H26 := Lib.hid (H25.out.trans (hb.mono H25.out.size))
          have HX6 := Lib.hid (HX5.out.below hb)
          have HY6 := Lib.hid (HY5.out.below hb)
          have HZ6 := Lib.hid hb.size
          have x6 := HX6.out.one0
          have HD6 := Lib.hid (HD5.out.below hb)
          have HG6 := Lib.hid (HG5.out.below hb)
          have HM6 := Lib.hid (show TMap w6 bm 0 (fun _ => none) from hmk _ _ _)
          clear hsz hsz0 hb hmk
          refine hK.out _ _ (fun _ => x6) (fun hH => ?_)
          have hHeld := hH (by decide)
          clear hH
          clear hK K
          (try simp only [Act.put, List.getElem_toArray, List.getElem_cons_succ, List.getElem_cons_zero, List.setIfInBounds_toArray, List.set_cons_zero, List.set_cons_succ])
          refine anyE_one (i := 3) (by kernel_rfl) (anyE_step rfl (fun K hK => ?_))
          go_simp
          go_wp2_with (go_at_call 21; ((refine Calls.mono (show Calls Tryz.prog 21 #[.agg #[.slice a nR c]] w6 (GivesV w6 V) by have h := vars_impl a c R V w6 HV.out (HS0.out.below HB6.out); rw [HNR.out] at h; exact h) ?_); rintro e w7 ⟨aV, cV, rfl, hoV, hb⟩))
          have hnV := HNV.out
          rw [hnV] at hoV ⊢
          clear hnV
          have HB7 := Lib.hid (HB6.out.trans (hb.mono HB6.out.size))
          have H27 := Lib.hid (H26.out.trans (hb.mono H26.out.size))
          have HX7 := Lib.hid (HX6.out.below hb)
          have HY7 := Lib.hid (HY6.out.below hb)
          have HZ7 := Lib.hid hb.size
          have x7 := HX7.out.one0
          have HD7 := Lib.hid (HD6.out.below hb)
          have HG7 := Lib.hid (HG6.out.below hb)
          have HM7 := Lib.hid (HM6.out.below hb)
          have HS7 := Lib.hid (show SmTs w7 aV (V.map tsV) cV from (show OwnV w7 w6.heap.size (.slice aV V.length cV) V by rw [HNV.out]; exact hoV).ts.smTs0 (by rw [List.length_map]; have := HV9.out; have := HNV.out; omega))
          have HAV := Lib.hid (fun (b off : Nat) (e : aV = some ⟨b, off, none⟩) => show w6.heap.size ≤ b ∧ b < w7.heap.size from World.ownsRow.lt hoV b (by rw [e]; rfl))
          clear hoV hb
          refine hK.out _ _ (fun _ => x7) (fun hH => ?_)
          have hHeld := hH (by decide)
          clear hH
          clear hK K
          (try simp only [Act.put, List.getElem_toArray, List.getElem_cons_succ, List.getElem_cons_zero, List.setIfInBounds_toArray, List.set_cons_zero, List.set_cons_succ])
          refine anyE_take (i := 6) (v := ?vz18) rfl (by kernel_rfl) (by kernel_rfl) (by kernel_rfl) (by kernel_rfl) (by kernel_rfl) (fun _ _ _ h => h) (Or.inl ⟨by kernel_rfl, ?yz18⟩) (by assumption) ?rz18
          case yz18 => (intro w' hSw; (try dsimp only at hSw); go_simp; (try with_reducible rfl))
          (try simp only [Act.put, List.getElem_toArray, List.getElem_cons_succ, List.getElem_cons_zero, List.setIfInBounds_toArray, List.set_cons_zero, List.set_cons_succ])
          have g0 := HG7.out.cell 0
          have h0 := HG7.out.frozen 0
          have g1 := HG7.out.cell 1
          have h1 := HG7.out.frozen 1
          have g2 := HG7.out.cell 2
          have h2 := HG7.out.frozen 2
          have g3 := HG7.out.cell 3
          have h3 := HG7.out.frozen 3
          have g4 := HG7.out.cell 4
          have h4 := HG7.out.frozen 4
          refine anyE_one (i := 8) (by kernel_rfl) (anyE_step rfl (fun K hK => ?_))
          go_simp
          refine hK.out _ _ (fun h => absurd rfl h) (fun _ => ?_)
          clear hK K
          (try simp only [Act.put, List.getElem_toArray, List.getElem_cons_succ, List.getElem_cons_zero, List.setIfInBounds_toArray, List.set_cons_zero, List.set_cons_succ])
          refine anyE_done (by kernel_rfl) ?_ _
          refine NoPanic.normal ?_
          generalize hw8 : ((((w7.setCell ⟨gB, 0, none⟩ (.slice a nR c)).setCell ⟨gB, 1, none⟩ (.slice aV nV cV)).setCell ⟨gB, 2, none⟩ (.map (some bm))).setCell ⟨gB, 3, none⟩ (.map (some br))).setCell ⟨gB, 4, none⟩ (.slice none 0 0) = w8
          have hz := And.intro HZ4.out (And.intro HZ5.out (And.intro HZ6.out (And.intro HZ7.out (And.intro HZbm.out (And.intro HZbr.out (And.intro HZgB.out (And.intro HW23.out HSZ2.out)))))))
          have HT := bd_tail a c R nR V nV y D w w2 w7 w8 aV cV bm br gB HNR.out HNV.out HV9.out HVB.out HVL.out HBD.out HS0.out HSZ2.out HB2.out HG7.out hw8 H27.out HY7.out HM7.out HD7.out HS7.out (fun b off e => by have := HAV.out b off e; omega) (by omega)
          clear hw8 hz x2 x4 x5 x6 x7 g0 g1 g2 g3 g4 h0 h1 h2 h3 h4
          have HCALL := Lib.hid HT
          clear HT
          go_wp2_with (go_at_call 26; ((refine HCALL.out.mono ?_); rintro e w9 ⟨a8, c8, rfl, hg8, hy8, hen⟩; refine Hid.out ?_))
          have gc : w9.cell? ⟨gB, 4, none⟩ = some (.slice a8 D.length c8) := hg8.cell 4
          have f0 := hy8.frozen 0
          have f1 := hy8.frozen 1
          have t0 := hy8.two0
          have t1 := hy8.two1
          have HEN := Lib.hid hen
          have HY9 := Lib.hid hy8
          clear hg8 hy8 hen
          refine Lib.hid ?_
          go_wp2
          generalize hwz : (w9.setCell ⟨w.heap.size + 1, 0, none⟩ (.int .i64 y)).setCell ⟨w.heap.size + 1, 1, none⟩ (.slice a8 D.length c8) = wz
          have hbz : BlkV wz (w.heap.size + 1) 32 #[.int .i64 y, .slice a8 D.length c8] := by rw [← hwz]; exact (HY9.out.set_ 0 (.int .i64 y)).set_ 1 (.slice a8 D.length c8)
          have e0 := hbz.two0
          have e1 := hbz.two1
          refine bodyPost_ret (v := .tuple #[.agg #[.int .i64 y, .slice a8 D.length c8], .bool true]) (by simp [results, Tryz.results6, go_sem, e0, e1]) rfl ?_
          exact HEN.out wz hwz
    · skip
      go_simp
      generalize hwn : w3.alloc (.cells #[.slice none 0 0, .slice none 0 0, .map none, .map none, .slice none 0 0] 54) = w4
      have hb : Below w3.heap.size w3 w4 := by rw [← hwn]; exact (Below.refl _ _).alloc (Nat.le_refl _) _
      have hgx : BlkV w4 w3.heap.size 54 #[.slice none 0 0, .slice none 0 0, .map none, .map none, .slice none 0 0] := by rw [← hwn]; exact BlkV.new _ _ _
      have hsz : w4.heap.size = w3.heap.size + 1 := by rw [← hwn]; simp
      clear hwn
      generalize hsz0 : w3.heap.size = gB at hgx hsz ⊢
      have HZgB := Lib.hid (And.intro hsz hsz0)
      have HB4 := Lib.hid (HB3.out.trans (hb.mono HB3.out.size))
      have H24 := Lib.hid (H23.out.trans (hb.mono H23.out.size))
      have HX4 := Lib.hid (HX3.out.below hb)
      have HY4 := Lib.hid (HY3.out.below hb)
      have HZ4 := Lib.hid hb.size
      have x4 := HX4.out.one0
      have HG4 := Lib.hid hgx
      clear hsz hsz0 hb hgx
      refine hK.out _ _ (fun _ => x4) (fun hH => ?_)
      have hHeld := hH (by decide)
      clear hH
      clear hK K
      (try simp only [Act.put, List.getElem_toArray, List.getElem_cons_succ, List.getElem_cons_zero, List.setIfInBounds_toArray, List.set_cons_zero, List.set_cons_succ])
      refine anyE_three (i := 3) (j := 4) (k := 5) (by kernel_rfl) (anyE_step rfl (fun K hK => ?_)) (anyE_step rfl (fun K hK => ?_)) (anyE_step rfl (fun K hK => ?_))
      · skip
        go_simp
        go_wp2_with (go_at_call 21; ((refine Calls.mono (show Calls Tryz.prog 21 #[.agg #[.slice a nR c]] w4 (GivesV w4 V) by have h := vars_impl a c R V w4 HV.out (HS0.out.below HB4.out); rw [HNR.out] at h; exact h) ?_); rintro e w5 ⟨aV, cV, rfl, hoV, hb⟩))
        have hnV := HNV.out
        rw [hnV] at hoV ⊢
        clear hnV
        have HB5 := Lib.hid (HB4.out.trans (hb.mono HB4.out.size))
        have H25 := Lib.hid (H24.out.trans (hb.mono H24.out.size))
        have HX5 := Lib.hid (HX4.out.below hb)
        have HY5 := Lib.hid (HY4.out.below hb)
        have HZ5 := Lib.hid hb.size
        have x5 := HX5.out.one0
        have HG5 := Lib.hid (HG4.out.below hb)
        have HS5 := Lib.hid (show SmTs w5 aV (V.map tsV) cV from (show OwnV w5 w4.heap.size (.slice aV V.length cV) V by rw [HNV.out]; exact hoV).ts.smTs0 (by rw [List.length_map]; have := HV9.out; have := HNV.out; omega))
        have HAV := Lib.hid (fun (b off : Nat) (e : aV = some ⟨b, off, none⟩) => show w4.heap.size ≤ b ∧ b < w5.heap.size from World.ownsRow.lt hoV b (by rw [e]; rfl))
        clear hoV hb
        refine hK.out _ _ (fun _ => x5) (fun hH => ?_)
        have hHeld := hH (by decide)
        clear hH
        clear hK K
        (try simp only [Act.put, List.getElem_toArray, List.getElem_cons_succ, List.getElem_cons_zero, List.setIfInBounds_toArray, List.set_cons_zero, List.set_cons_succ])
        refine anyE_two (i := 4) (j := 5) (by kernel_rfl) (anyE_step rfl (fun K hK => ?_)) (anyE_step rfl (fun K hK => ?_))
        · skip
          refine step_makeP rfl 51 rfl ?_
          intro bm w6 hsz hsz0 hb hmk
          have HZbm := Lib.hid (And.intro hsz hsz0)
          have HB6 := Lib.hid (HB5.out.trans (hb.mono HB5.out.size))
          have H26 := Lib.hid (H25.out.trans (hb.mono H25.out.size))
          have HX6 := Lib.hid (HX5.out.below hb)
          have HY6 := Lib.hid (HY5.out.below hb)
          have HZ6 := Lib.hid hb.size
          have x6 := HX6.out.one0
          have HG6 := Lib.hid (HG5.out.below hb)
          have HS6 := Lib.hid (HS5.out.below hb)
          have HM6 := Lib.hid (show TMap w6 bm 0 (fun _ => none) from hmk _ _ _)
          clear hsz hsz0 hb hmk
          refine hK.out _ _ (fun _ => x6) (fun hH => ?_)
          have hHeld := hH (by decide)
          clear hH
          clear hK K
          (try simp only [Act.put, List.getElem_toArray, List.getElem_cons_succ, List.getElem_cons_zero, List.setIfInBounds_toArray, List.set_cons_zero, List.set_cons_succ])
          refine anyE_one (i := 5) (by kernel_rfl) (anyE_step rfl (fun K hK => ?_))
          refine step_makeP rfl 52 rfl ?_
          intro br w7 hsz hsz0 hb hmk
          have HZbr := Lib.hid (And.intro hsz hsz0)
          have HB7 := Lib.hid (HB6.out.trans (hb.mono HB6.out.size))
          have H27 := Lib.hid (H26.out.trans (hb.mono H26.out.size))
          have HX7 := Lib.hid (HX6.out.below hb)
          have HY7 := Lib.hid (HY6.out.below hb)
          have HZ7 := Lib.hid hb.size
          have x7 := HX7.out.one0
          have HG7 := Lib.hid (HG6.out.below hb)
          have HS7 := Lib.hid (HS6.out.below hb)
          have HM7 := Lib.hid (HM6.out.below hb)
          have HD7 := Lib.hid (show DMap w7 br 0 (fun _ => none) from hmk _ _ _)
          clear hsz hsz0 hb hmk
          refine hK.out _ _ (fun _ => x7) (fun hH => ?_)
          have hHeld := hH (by decide)
          clear hH
          clear hK K
          (try simp only [Act.put, List.getElem_toArray, List.getElem_cons_succ, List.getElem_cons_zero, List.setIfInBounds_toArray, List.set_cons_zero, List.set_cons_succ])
          refine anyE_take (i := 6) (v := ?vz19) rfl (by kernel_rfl) (by kernel_rfl) (by kernel_rfl) (by kernel_rfl) (by kernel_rfl) (fun _ _ _ h => h) (Or.inl ⟨by kernel_rfl, ?yz19⟩) (by assumption) ?rz19
          case yz19 => (intro w' hSw; (try dsimp only at hSw); go_simp; (try with_reducible rfl))
          (try simp only [Act.put, List.getElem_toArray, List.getElem_cons_succ, List.getElem_cons_zero, List.setIfInBounds_toArray, List.set_cons_zero, List.set_cons_succ])
          have g0 := HG7.out.cell 0
          have h0 := HG7.out.frozen 0
          have g1 := HG7.out.cell 1
          have h1 := HG7.out.frozen 1
          have g2 := HG7.out.cell 2
          have h2 := HG7.out.frozen 2
          have g3 := HG7.out.cell 3
          have h3 := HG7.out.frozen 3
          have g4 := HG7.out.cell 4
          have h4 := HG7.out.frozen 4
          refine anyE_one (i := 8) (by kernel_rfl) (anyE_step rfl (fun K hK => ?_))
          go_simp
          refine hK.out _ _ (fun h => absurd rfl h) (fun _ => ?_)
          clear hK K
          (try simp only [Act.put, List.getElem_toArray, List.getElem_cons_succ, List.getElem_cons_zero, List.setIfInBounds_toArray, List.set_cons_zero, List.set_cons_succ])
          refine anyE_done (by kernel_rfl) ?_ _
          refine NoPanic.normal ?_
          generalize hw8 : ((((w7.setCell ⟨gB, 0, none⟩ (.slice a nR c)).setCell ⟨gB, 1, none⟩ (.slice aV nV cV)).setCell ⟨gB, 2, none⟩ (.map (some bm))).setCell ⟨gB, 3, none⟩ (.map (some br))).setCell ⟨gB, 4, none⟩ (.slice none 0 0) = w8
          have hz := And.intro HZ4.out (And.intro HZ5.out (And.intro HZ6.out (And.intro HZ7.out (And.intro HZbm.out (And.intro HZbr.out (And.intro HZgB.out (And.intro HW23.out HSZ2.out)))))))
          have HT := bd_tail a c R nR V nV y D w w2 w7 w8 aV cV bm br gB HNR.out HNV.out HV9.out HVB.out HVL.out HBD.out HS0.out HSZ2.out HB2.out HG7.out hw8 H27.out HY7.out HM7.out HD7.out HS7.out (fun b off e => by have := HAV.out b off e; omega) (by omega)
          clear hw8 hz x2 x4 x5 x6 x7 g0 g1 g2 g3 g4 h0 h1 h2 h3 h4
          have HCALL := Lib.hid HT
          clear HT
          go_wp2_with (go_at_call 26; ((refine HCALL.out.mono ?_); rintro e w9 ⟨a8, c8, rfl, hg8, hy8, hen⟩; refine Hid.out ?_))
          have gc : w9.cell? ⟨gB, 4, none⟩ = some (.slice a8 D.length c8) := hg8.cell 4
          have f0 := hy8.frozen 0
          have f1 := hy8.frozen 1
          have t0 := hy8.two0
          have t1 := hy8.two1
          have HEN := Lib.hid hen
          have HY9 := Lib.hid hy8
          clear hg8 hy8 hen
          refine Lib.hid ?_
          go_wp2
          generalize hwz : (w9.setCell ⟨w.heap.size + 1, 0, none⟩ (.int .i64 y)).setCell ⟨w.heap.size + 1, 1, none⟩ (.slice a8 D.length c8) = wz
          have hbz : BlkV wz (w.heap.size + 1) 32 #[.int .i64 y, .slice a8 D.length c8] := by rw [← hwz]; exact (HY9.out.set_ 0 (.int .i64 y)).set_ 1 (.slice a8 D.length c8)
          have e0 := hbz.two0
          have e1 := hbz.two1
          refine bodyPost_ret (v := .tuple #[.agg #[.int .i64 y, .slice a8 D.length c8], .bool true]) (by simp [results, Tryz.results6, go_sem, e0, e1]) rfl ?_
          exact HEN.out wz hwz
        · skip
          refine step_makeP rfl 52 rfl ?_
          intro br w6 hsz hsz0 hb hmk
          have HZbr := Lib.hid (And.intro hsz hsz0)
          have HB6 := Lib.hid (HB5.out.trans (hb.mono HB5.out.size))
          have H26 := Lib.hid (H25.out.trans (hb.mono H25.out.size))
          have HX6 := Lib.hid (HX5.out.below hb)
          have HY6 := Lib.hid (HY5.out.below hb)
          have HZ6 := Lib.hid hb.size
          have x6 := HX6.out.one0
          have HG6 := Lib.hid (HG5.out.below hb)
          have HS6 := Lib.hid (HS5.out.below hb)
          have HD6 := Lib.hid (show DMap w6 br 0 (fun _ => none) from hmk _ _ _)
          clear hsz hsz0 hb hmk
          refine hK.out _ _ (fun _ => x6) (fun hH => ?_)
          have hHeld := hH (by decide)
          clear hH
          clear hK K
          (try simp only [Act.put, List.getElem_toArray, List.getElem_cons_succ, List.getElem_cons_zero, List.setIfInBounds_toArray, List.set_cons_zero, List.set_cons_succ])
          refine anyE_one (i := 4) (by kernel_rfl) (anyE_step rfl (fun K hK => ?_))
          refine step_makeP rfl 51 rfl ?_
          intro bm w7 hsz hsz0 hb hmk
          have HZbm := Lib.hid (And.intro hsz hsz0)
          have HB7 := Lib.hid (HB6.out.trans (hb.mono HB6.out.size))
          have H27 := Lib.hid (H26.out.trans (hb.mono H26.out.size))
          have HX7 := Lib.hid (HX6.out.below hb)
          have HY7 := Lib.hid (HY6.out.below hb)
          have HZ7 := Lib.hid hb.size
          have x7 := HX7.out.one0
          have HG7 := Lib.hid (HG6.out.below hb)
          have HS7 := Lib.hid (HS6.out.below hb)
          have HD7 := Lib.hid (HD6.out.below hb)
          have HM7 := Lib.hid (show TMap w7 bm 0 (fun _ => none) from hmk _ _ _)
          clear hsz hsz0 hb hmk
          refine hK.out _ _ (fun _ => x7) (fun hH => ?_)
          have hHeld := hH (by decide)
          clear hH
          clear hK K
          (try simp only [Act.put, List.getElem_toArray, List.getElem_cons_succ, List.getElem_cons_zero, List.setIfInBounds_toArray, List.set_cons_zero, List.set_cons_succ])
          refine anyE_take (i := 6) (v := ?vz20) rfl (by kernel_rfl) (by kernel_rfl) (by kernel_rfl) (by kernel_rfl) (by kernel_rfl) (fun _ _ _ h => h) (Or.inl ⟨by kernel_rfl, ?yz20⟩) (by assumption) ?rz20
          case yz20 => (intro w' hSw; (try dsimp only at hSw); go_simp; (try with_reducible rfl))
          (try simp only [Act.put, List.getElem_toArray, List.getElem_cons_succ, List.getElem_cons_zero, List.setIfInBounds_toArray, List.set_cons_zero, List.set_cons_succ])
          have g0 := HG7.out.cell 0
          have h0 := HG7.out.frozen 0
          have g1 := HG7.out.cell 1
          have h1 := HG7.out.frozen 1
          have g2 := HG7.out.cell 2
          have h2 := HG7.out.frozen 2
          have g3 := HG7.out.cell 3
          have h3 := HG7.out.frozen 3
          have g4 := HG7.out.cell 4
          have h4 := HG7.out.frozen 4
          refine anyE_one (i := 8) (by kernel_rfl) (anyE_step rfl (fun K hK => ?_))
          go_simp
          refine hK.out _ _ (fun h => absurd rfl h) (fun _ => ?_)
          clear hK K
          (try simp only [Act.put, List.getElem_toArray, List.getElem_cons_succ, List.getElem_cons_zero, List.setIfInBounds_toArray, List.set_cons_zero, List.set_cons_succ])
          refine anyE_done (by kernel_rfl) ?_ _
          refine NoPanic.normal ?_
          generalize hw8 : ((((w7.setCell ⟨gB, 0, none⟩ (.slice a nR c)).setCell ⟨gB, 1, none⟩ (.slice aV nV cV)).setCell ⟨gB, 2, none⟩ (.map (some bm))).setCell ⟨gB, 3, none⟩ (.map (some br))).setCell ⟨gB, 4, none⟩ (.slice none 0 0) = w8
          have hz := And.intro HZ4.out (And.intro HZ5.out (And.intro HZ6.out (And.intro HZ7.out (And.intro HZbm.out (And.intro HZbr.out (And.intro HZgB.out (And.intro HW23.out HSZ2.out)))))))
          have HT := bd_tail a c R nR V nV y D w w2 w7 w8 aV cV bm br gB HNR.out HNV.out HV9.out HVB.out HVL.out HBD.out HS0.out HSZ2.out HB2.out HG7.out hw8 H27.out HY7.out HM7.out HD7.out HS7.out (fun b off e => by have := HAV.out b off e; omega) (by omega)
          clear hw8 hz x2 x4 x5 x6 x7 g0 g1 g2 g3 g4 h0 h1 h2 h3 h4
          have HCALL := Lib.hid HT
          clear HT
          go_wp2_with (go_at_call 26; ((refine HCALL.out.mono ?_); rintro e w9 ⟨a8, c8, rfl, hg8, hy8, hen⟩; refine Hid.out ?_))
          have gc : w9.cell? ⟨gB, 4, none⟩ = some (.slice a8 D.length c8) := hg8.cell 4
          have f0 := hy8.frozen 0
          have f1 := hy8.frozen 1
          have t0 := hy8.two0
          have t1 := hy8.two1
          have HEN := Lib.hid hen
          have HY9 := Lib.hid hy8
          clear hg8 hy8 hen
          refine Lib.hid ?_
          go_wp2
          generalize hwz : (w9.setCell ⟨w.heap.size + 1, 0, none⟩ (.int .i64 y)).setCell ⟨w.heap.size + 1, 1, none⟩ (.slice a8 D.length c8) = wz
          have hbz : BlkV wz (w.heap.size + 1) 32 #[.int .i64 y, .slice a8 D.length c8] := by rw [← hwz]; exact (HY9.out.set_ 0 (.int .i64 y)).set_ 1 (.slice a8 D.length c8)
          have e0 := hbz.two0
          have e1 := hbz.two1
          refine bodyPost_ret (v := .tuple #[.agg #[.int .i64 y, .slice a8 D.length c8], .bool true]) (by simp [results, Tryz.results6, go_sem, e0, e1]) rfl ?_
          exact HEN.out wz hwz
      · skip
        refine step_makeP rfl 51 rfl ?_
        intro bm w5 hsz hsz0 hb hmk
        have HZbm := Lib.hid (And.intro hsz hsz0)
        have HB5 := Lib.hid (HB4.out.trans (hb.mono HB4.out.size))
        have H25 := Lib.hid (H24.out.trans (hb.mono H24.out.size))
        have HX5 := Lib.hid (HX4.out.below hb)
        have HY5 := Lib.hid (HY4.out.below hb)
        have HZ5 := Lib.hid hb.size
        have x5 := HX5.out.one0
        have HG5 := Lib.hid (HG4.out.below hb)
        have HM5 := Lib.hid (show TMap w5 bm 0 (fun _ => none) from hmk _ _ _)
        clear hsz hsz0 hb hmk
        refine hK.out _ _ (fun _ => x5) (fun hH => ?_)
        have hHeld := hH (by decide)
        clear hH
        clear hK K
        (try simp only [Act.put, List.getElem_toArray, List.getElem_cons_succ, List.getElem_cons_zero, List.setIfInBounds_toArray, List.set_cons_zero, List.set_cons_succ])
        refine anyE_two (i := 3) (j := 5) (by kernel_rfl) (anyE_step rfl (fun K hK => ?_)) (anyE_step rfl (fun K hK => ?_))
        · skip
          go_simp
          go_wp2_with (go_at_call 21; ((refine Calls.mono (show Calls Tryz.prog 21 #[.agg #[.slice a nR c]] w5 (GivesV w5 V) by have h := vars_impl a c R V w5 HV.out (HS0.out.below HB5.out); rw [HNR.out] at h; exact h) ?_); rintro e w6 ⟨aV, cV, rfl, hoV, hb⟩))
          have hnV := HNV.out
          rw [hnV] at hoV ⊢
          clear hnV
          have HB6 := Lib.hid (HB5.out.trans (hb.mono HB5.out.size))
          have H26 := Lib.hid (H25.out.trans (hb.mono H25.out.size))
          have HX6 := Lib.hid (HX5.out.below hb)
          have HY6 := Lib.hid (HY5.out.below hb)
          have HZ6 := Lib.hid hb.size
          have x6 := HX6.out.one0
          have HG6 := Lib.hid (HG5.out.below hb)
          have HM6 := Lib.hid (HM5.out.below hb)
          have HS6 := Lib.hid (show SmTs w6 aV (V.map tsV) cV from (show OwnV w6 w5.heap.size (.slice aV V.length cV) V by rw [HNV.out]; exact hoV).ts.smTs0 (by rw [List.length_map]; have := HV9.out; have := HNV.out; omega))
          have HAV := Lib.hid (fun (b off : Nat) (e : aV = some ⟨b, off, none⟩) => show w5.heap.size ≤ b ∧ b < w6.heap.size from World.ownsRow.lt hoV b (by rw [e]; rfl))
          clear hoV hb
          refine hK.out _ _ (fun _ => x6) (fun hH => ?_)
          have hHeld := hH (by decide)
          clear hH
          clear hK K
          (try simp only [Act.put, List.getElem_toArray, List.getElem_cons_succ, List.getElem_cons_zero, List.setIfInBounds_toArray, List.set_cons_zero, List.set_cons_succ])
          refine anyE_one (i := 5) (by kernel_rfl) (anyE_step rfl (fun K hK => ?_))
          refine step_makeP rfl 52 rfl ?_
          intro br w7 hsz hsz0 hb hmk
          have HZbr := Lib.hid (And.intro hsz hsz0)
          have HB7 := Lib.hid (HB6.out.trans (hb.mono HB6.out.size))
          have H27 := Lib.hid (H26.out.trans (hb.mono H26.out.size))
          have HX7 := Lib.hid (HX6.out.below hb)
          have HY7 := Lib.hid (HY6.out.below hb)
          have HZ7 := Lib.hid hb.size
          have x7 := HX7.out.one0
          have HG7 := Lib.hid (HG6.out.below hb)
          have HM7 := Lib.hid (HM6.out.below hb)
          have HS7 := Lib.hid (HS6.out.below hb)
          have HD7 := Lib.hid (show DMap w7 br 0 (fun _ => none) from hmk _ _ _)
          clear hsz hsz0 hb hmk
          refine hK.out _ _ (fun _ => x7) (fun hH => ?_)
          have hHeld := hH (by decide)
          clear hH
          clear hK K
          (try simp only [Act.put, List.getElem_toArray, List.getElem_cons_succ, List.getElem_cons_zero, List.setIfInBounds_toArray, List.set_cons_zero, List.set_cons_succ])
          refine anyE_take (i := 6) (v := ?vz21) rfl (by kernel_rfl) (by kernel_rfl) (by kernel_rfl) (by kernel_rfl) (by kernel_rfl) (fun _ _ _ h => h) (Or.inl ⟨by kernel_rfl, ?yz21⟩) (by assumption) ?rz21
          case yz21 => (intro w' hSw; (try dsimp only at hSw); go_simp; (try with_reducible rfl))
          (try simp only [Act.put, List.getElem_toArray, List.getElem_cons_succ, List.getElem_cons_zero, List.setIfInBounds_toArray, List.set_cons_zero, List.set_cons_succ])
          have g0 := HG7.out.cell 0
          have h0 := HG7.out.frozen 0
          have g1 := HG7.out.cell 1
          have h1 := HG7.out.frozen 1
          have g2 := HG7.out.cell 2
          have h2 := HG7.out.frozen 2
          have g3 := HG7.out.cell 3
          have h3 := HG7.out.frozen 3
          have g4 := HG7.out.cell 4
          have h4 := HG7.out.frozen 4
          refine anyE_one (i := 8) (by kernel_rfl) (anyE_step rfl (fun K hK => ?_))
          go_simp
          refine hK.out _ _ (fun h => absurd rfl h) (fun _ => ?_)
          clear hK K
          (try simp only [Act.put, List.getElem_toArray, List.getElem_cons_succ, List.getElem_cons_zero, List.setIfInBounds_toArray, List.set_cons_zero, List.set_cons_succ])
          refine anyE_done (by kernel_rfl) ?_ _
          refine NoPanic.normal ?_
          generalize hw8 : ((((w7.setCell ⟨gB, 0, none⟩ (.slice a nR c)).setCell ⟨gB, 1, none⟩ (.slice aV nV cV)).setCell ⟨gB, 2, none⟩ (.map (some bm))).setCell ⟨gB, 3, none⟩ (.map (some br))).setCell ⟨gB, 4, none⟩ (.slice none 0 0) = w8
          have hz := And.intro HZ4.out (And.intro HZ5.out (And.intro HZ6.out (And.intro HZ7.out (And.intro HZbm.out (And.intro HZbr.out (And.intro HZgB.out (And.intro HW23.out HSZ2.out)))))))
          have HT := bd_tail a c R nR V nV y D w w2 w7 w8 aV cV bm br gB HNR.out HNV.out HV9.out HVB.out HVL.out HBD.out HS0.out HSZ2.out HB2.out HG7.out hw8 H27.out HY7.out HM7.out HD7.out HS7.out (fun b off e => by have := HAV.out b off e; omega) (by omega)
          clear hw8 hz x2 x4 x5 x6 x7 g0 g1 g2 g3 g4 h0 h1 h2 h3 h4
          have HCALL := Lib.hid HT
          clear HT
          go_wp2_with (go_at_call 26; ((refine HCALL.out.mono ?_); rintro e w9 ⟨a8, c8, rfl, hg8, hy8, hen⟩; refine Hid.out ?_))
          have gc : w9.cell? ⟨gB, 4, none⟩ = some (.slice a8 D.length c8) := hg8.cell 4
          have f0 := hy8.frozen 0
          have f1 := hy8.frozen 1
          have t0 := hy8.two0
          have t1 := hy8.two1
          have HEN := Lib.hid hen
          have HY9 := Lib.hid hy8
          clear hg8 hy8 hen
          refine Lib.hid ?_
          go_wp2
          generalize hwz : (w9.setCell ⟨w.heap.size + 1, 0, none⟩ (.int .i64 y)).setCell ⟨w.heap.size + 1, 1, none⟩ (.slice a8 D.length c8) = wz
          have hbz : BlkV wz (w.heap.size + 1) 32 #[.int .i64 y, .slice a8 D.length c8] := by rw [← hwz]; exact (HY9.out.set_ 0 (.int .i64 y)).set_ 1 (.slice a8 D.length c8)
          have e0 := hbz.two0
          have e1 := hbz.two1
          refine bodyPost_ret (v := .tuple #[.agg #[.int .i64 y, .slice a8 D.length c8], .bool true]) (by simp [results, Tryz.results6, go_sem, e0, e1]) rfl ?_
          exact HEN.out wz hwz
        · skip
          refine step_makeP rfl 52 rfl ?_
          intro br w6 hsz hsz0 hb hmk
          have HZbr := Lib.hid (And.intro hsz hsz0)
          have HB6 := Lib.hid (HB5.out.trans (hb.mono HB5.out.size))
          have H26 := Lib.hid (H25.out.trans (hb.mono H25.out.size))
          have HX6 := Lib.hid (HX5.out.below hb)
          have HY6 := Lib.hid (HY5.out.below hb)
          have HZ6 := Lib.hid hb.size
          have x6 := HX6.out.one0
          have HG6 := Lib.hid (HG5.out.below hb)
          have HM6 := Lib.hid (HM5.out.below hb)
          have HD6 := Lib.hid (show DMap w6 br 0 (fun _ => none) from hmk _ _ _)
          clear hsz hsz0 hb hmk
          refine hK.out _ _ (fun _ => x6) (fun hH => ?_)
          have hHeld := hH (by decide)
          clear hH
          clear hK K
          (try simp only [Act.put, List.getElem_toArray, List.getElem_cons_succ, List.getElem_cons_zero, List.setIfInBounds_toArray, List.set_cons_zero, List.set_cons_succ])
          refine anyE_one (i := 3) (by kernel_rfl) (anyE_step rfl (fun K hK => ?_))
          go_simp
          go_wp2_with (go_at_call 21; ((refine Calls.mono (show Calls Tryz.prog 21 #[.agg #[.slice a nR c]] w6 (GivesV w6 V) by have h := vars_impl a c R V w6 HV.out (HS0.out.below HB6.out); rw [HNR.out] at h; exact h) ?_); rintro e w7 ⟨aV, cV, rfl, hoV, hb⟩))
          have hnV := HNV.out
          rw [hnV] at hoV ⊢
          clear hnV
          have HB7 := Lib.hid (HB6.out.trans (hb.mono HB6.out.size))
          have H27 := Lib.hid (H26.out.trans (hb.mono H26.out.size))
          have HX7 := Lib.hid (HX6.out.below hb)
          have HY7 := Lib.hid (HY6.out.below hb)
          have HZ7 := Lib.hid hb.size
          have x7 := HX7.out.one0
          have HG7 := Lib.hid (HG6.out.below hb)
          have HM7 := Lib.hid (HM6.out.below hb)
          have HD7 := Lib.hid (HD6.out.below hb)
          have HS7 := Lib.hid (show SmTs w7 aV (V.map tsV) cV from (show OwnV w7 w6.heap.size (.slice aV V.length cV) V by rw [HNV.out]; exact hoV).ts.smTs0 (by rw [List.length_map]; have := HV9.out; have := HNV.out; omega))
          have HAV := Lib.hid (fun (b off : Nat) (e : aV = some ⟨b, off, none⟩) => show w6.heap.size ≤ b ∧ b < w7.heap.size from World.ownsRow.lt hoV b (by rw [e]; rfl))
          clear hoV hb
          refine hK.out _ _ (fun _ => x7) (fun hH => ?_)
          have hHeld := hH (by decide)
          clear hH
          clear hK K
          (try simp only [Act.put, List.getElem_toArray, List.getElem_cons_succ, List.getElem_cons_zero, List.setIfInBounds_toArray, List.set_cons_zero, List.set_cons_succ])
          refine anyE_take (i := 6) (v := ?vz22) rfl (by kernel_rfl) (by kernel_rfl) (by kernel_rfl) (by kernel_rfl) (by kernel_rfl) (fun _ _ _ h => h) (Or.inl ⟨by kernel_rfl, ?yz22⟩) (by assumption) ?rz22
          case yz22 => (intro w' hSw; (try dsimp only at hSw); go_simp; (try with_reducible rfl))
          (try simp only [Act.put, List.getElem_toArray, List.getElem_cons_succ, List.getElem_cons_zero, List.setIfInBounds_toArray, List.set_cons_zero, List.set_cons_succ])
          have g0 := HG7.out.cell 0
          have h0 := HG7.out.frozen 0
          have g1 := HG7.out.cell 1
          have h1 := HG7.out.frozen 1
          have g2 := HG7.out.cell 2
          have h2 := HG7.out.frozen 2
          have g3 := HG7.out.cell 3
          have h3 := HG7.out.frozen 3
          have g4 := HG7.out.cell 4
          have h4 := HG7.out.frozen 4
          refine anyE_one (i := 8) (by kernel_rfl) (anyE_step rfl (fun K hK => ?_))
          go_simp
          refine hK.out _ _ (fun h => absurd rfl h) (fun _ => ?_)
          clear hK K
          (try simp only [Act.put, List.getElem_toArray, List.getElem_cons_succ, List.getElem_cons_zero, List.setIfInBounds_toArray, List.set_cons_zero, List.set_cons_succ])
          refine anyE_done (by kernel_rfl) ?_ _
          refine NoPanic.normal ?_
          generalize hw8 : ((((w7.setCell ⟨gB, 0, none⟩ (.slice a nR c)).setCell ⟨gB, 1, none⟩ (.slice aV nV cV)).setCell ⟨gB, 2, none⟩ (.map (some bm))).setCell ⟨gB, 3, none⟩ (.map (some br))).setCell ⟨gB, 4, none⟩ (.slice none 0 0) = w8
          have hz := And.intro HZ4.out (And.intro HZ5.out (And.intro HZ6.out (And.intro HZ7.out (And.intro HZbm.out (And.intro HZbr.out (And.intro HZgB.out (And.intro HW23.out HSZ2.out)))))))
          have HT := bd_tail a c R nR V nV y D w w2 w7 w8 aV cV bm br gB HNR.out HNV.out HV9.out HVB.out HVL.out HBD.out HS0.out HSZ2.out HB2.out HG7.out hw8 H27.out HY7.out HM7.out HD7.out HS7.out (fun b off e => by have := HAV.out b off e; omega) (by omega)
          clear hw8 hz x2 x4 x5 x6 x7 g0 g1 g2 g3 g4 h0 h1 h2 h3 h4
          have HCALL := Lib.hid HT
          clear HT
          go_wp2_with (go_at_call 26; ((refine HCALL.out.mono ?_); rintro e w9 ⟨a8, c8, rfl, hg8, hy8, hen⟩; refine Hid.out ?_))
          have gc : w9.cell? ⟨gB, 4, none⟩ = some (.slice a8 D.length c8) := hg8.cell 4
          have f0 := hy8.frozen 0
          have f1 := hy8.frozen 1
          have t0 := hy8.two0
          have t1 := hy8.two1
          have HEN := Lib.hid hen
          have HY9 := Lib.hid hy8
          clear hg8 hy8 hen
          refine Lib.hid ?_
          go_wp2
          generalize hwz : (w9.setCell ⟨w.heap.size + 1, 0, none⟩ (.int .i64 y)).setCell ⟨w.heap.size + 1, 1, none⟩ (.slice a8 D.length c8) = wz
          have hbz : BlkV wz (w.heap.size + 1) 32 #[.int .i64 y, .slice a8 D.length c8] := by rw [← hwz]; exact (HY9.out.set_ 0 (.int .i64 y)).set_ 1 (.slice a8 D.length c8)
          have e0 := hbz.two0
          have e1 := hbz.two1
          refine bodyPost_ret (v := .tuple #[.agg #[.int .i64 y, .slice a8 D.length c8], .bool true]) (by simp [results, Tryz.results6, go_sem, e0, e1]) rfl ?_
          exact HEN.out wz hwz
      · skip
        refine step_makeP rfl 52 rfl ?_
        intro br w5 hsz hsz0 hb hmk
        have HZbr := Lib.hid (And.intro hsz hsz0)
        have HB5 := Lib.hid (HB4.out.trans (hb.mono HB4.out.size))
        have H25 := Lib.hid (H24.out.trans (hb.mono H24.out.size))
        have HX5 := Lib.hid (HX4.out.below hb)
        have HY5 := Lib.hid (HY4.out.below hb)
        have HZ5 := Lib.hid hb.size
        have x5 := HX5.out.one0
        have HG5 := Lib.hid (HG4.out.below hb)
        have HD5 := Lib.hid (show DMap w5 br 0 (fun _ => none) from hmk _ _ _)
        clear hsz hsz0 hb hmk
        refine hK.out _ _ (fun _ => x5) (fun hH => ?_)
        have hHeld := hH (by decide)
        clear hH
        clear hK K
        (try simp only [Act.put, List.getElem_toArray, List.getElem_cons_succ, List.getElem_cons_zero, List.setIfInBounds_toArray, List.set_cons_zero, List.set_cons_succ])
        refine anyE_two (i := 3) (j := 4) (by kernel_rfl) (anyE_step rfl (fun K hK => ?_)) (anyE_step rfl (fun K hK => ?_))
        · skip
          go_simp
          go_wp2_with (go_at_call 21; ((refine Calls.mono (show Calls Tryz.prog 21 #[.agg #[.slice a nR c]] w5 (GivesV w5 V) by have h := vars_impl a c R V w5 HV.out (HS0.out.below HB5.out); rw [HNR.out] at h; exact h) ?_); rintro e w6 ⟨aV, cV, rfl, hoV, hb⟩))
          have hnV := HNV.out
          rw [hnV] at hoV ⊢
          clear hnV
          have HB6 := Lib.hid (HB5.out.trans (hb.mono HB5.out.size))
          have H26 := Lib.hid (H25.out.trans (hb.mono H25.out.size))
          have HX6 := Lib.hid (HX5.out.below hb)
          have HY6 := Lib.hid (HY5.out.below hb)
          have HZ6 := Lib.hid hb.size
          have x6 := HX6.out.one0
          have HG6 := Lib.hid (HG5.out.below hb)
          have HD6 := Lib.hid (HD5.out.below hb)
          have HS6 := Lib.hid (show SmTs w6 aV (V.map tsV) cV from (show OwnV w6 w5.heap.size (.slice aV V.length cV) V by rw [HNV.out]; exact hoV).ts.smTs0 (by rw [List.length_map]; have := HV9.out; have := HNV.out; omega))
          have HAV := Lib.hid (fun (b off : Nat) (e : aV = some ⟨b, off, none⟩) => show w5.heap.size ≤ b ∧ b < w6.heap.size from World.ownsRow.lt hoV b (by rw [e]; rfl))
          clear hoV hb
          refine hK.out _ _ (fun _ => x6) (fun hH => ?_)
          have hHeld := hH (by decide)
          clear hH
          clear hK K
          (try simp only [Act.put, List.getElem_toArray, List.getElem_cons_succ, List.getElem_cons_zero, List.setIfInBounds_toArray, List.set_cons_zero, List.set_cons_succ])
          refine anyE_one (i := 4) (by kernel_rfl) (anyE_step rfl (fun K hK => ?_))
          refine step_makeP rfl 51 rfl ?_
          intro bm w7 hsz hsz0 hb hmk
          have HZbm := Lib.hid (And.intro hsz hsz0)
          have HB7 := Lib.hid (HB6.out.trans (hb.mono HB6.out.size))
          have H27 := Lib.hid (H26.out.trans (hb.mono H26.out.size))
          have HX7 := Lib.hid (HX6.out.below hb)
          have HY7 := Lib.hid (HY6.out.below hb)
          have HZ7 := Lib.hid hb.size
          have x7 := HX7.out.one0
          have HG7 := Lib.hid (HG6.out.below hb)
          have HD7 := Lib.hid (HD6.out.below hb)
          have HS7 := Lib.hid (HS6.out.below hb)
          have HM7 := Lib.hid (show TMap w7 bm 0 (fun _ => none) from hmk _ _ _)
          clear hsz hsz0 hb hmk
          refine hK.out _ _ (fun _ => x7) (fun hH => ?_)
          have hHeld := hH (by decide)
          clear hH
          clear hK K
          (try simp only [Act.put, List.getElem_toArray, List.getElem_cons_succ, List.getElem_cons_zero, List.setIfInBounds_toArray, List.set_cons_zero, List.set_cons_succ])
          refine anyE_take (i := 6) (v := ?vz23) rfl (by kernel_rfl) (by kernel_rfl) (by kernel_rfl) (by kernel_rfl) (by kernel_rfl) (fun _ _ _ h => h) (Or.inl ⟨by kernel_rfl, ?yz23⟩) (by assumption) ?rz23
          case yz23 => (intro w' hSw; (try dsimp only at hSw); go_simp; (try with_reducible rfl))
          (try simp only [Act.put, List.getElem_toArray, List.getElem_cons_succ, List.getElem_cons_zero, List.setIfInBounds_toArray, List.set_cons_zero, List.set_cons_succ])
          have g0 := HG7.out.cell 0
          have h0 := HG7.out.frozen 0
          have g1 := HG7.out.cell 1
          have h1 := HG7.out.frozen 1
          have g2 := HG7.out.cell 2
          have h2 := HG7.out.frozen 2
          have g3 := HG7.out.cell 3
          have h3 := HG7.out.frozen 3
          have g4 := HG7.out.cell 4
          have h4 := HG7.out.frozen 4
          refine anyE_one (i := 8) (by kernel_rfl) (anyE_step rfl (fun K hK => ?_))
          go_simp
          refine hK.out _ _ (fun h => absurd rfl h) (fun _ => ?_)
          clear hK K
          (try simp only [Act.put, List.getElem_toArray, List.getElem_cons_succ, List.getElem_cons_zero, List.setIfInBounds_toArray, List.set_cons_zero, List.set_cons_succ])
          refine anyE_done (by kernel_rfl) ?_ _
          refine NoPanic.normal ?_
          generalize hw8 : ((((w7.setCell ⟨gB, 0, none⟩ (.slice a nR c)).setCell ⟨gB, 1, none⟩ (.slice aV nV cV)).setCell ⟨gB, 2, none⟩ (.map (some bm))).setCell ⟨gB, 3, none⟩ (.map (some br))).setCell ⟨gB, 4, none⟩ (.slice none 0 0) = w8
          have hz := And.intro HZ4.out (And.intro HZ5.out (And.intro HZ6.out (And.intro HZ7.out (And.intro HZbm.out (And.intro HZbr.out (And.intro HZgB.out (And.intro HW23.out HSZ2.out)))))))
          have HT := bd_tail a c R nR V nV y D w w2 w7 w8 aV cV bm br gB HNR.out HNV.out HV9.out HVB.out HVL.out HBD.out HS0.out HSZ2.out HB2.out HG7.out hw8 H27.out HY7.out HM7.out HD7.out HS7.out (fun b off e => by have := HAV.out b off e; omega) (by omega)
          clear hw8 hz x2 x4 x5 x6 x7 g0 g1 g2 g3 g4 h0 h1 h2 h3 h4
          have HCALL := Lib.hid HT
          clear HT
          go_wp2_with (go_at_call 26; ((refine HCALL.out.mono ?_); rintro e w9 ⟨a8, c8, rfl, hg8, hy8, hen⟩; refine Hid.out ?_))
          have gc : w9.cell? ⟨gB, 4, none⟩ = some (.slice a8 D.length c8) := hg8.cell 4
          have f0 := hy8.frozen 0
          have f1 := hy8.frozen 1
          have t0 := hy8.two0
          have t1 := hy8.two1
          have HEN := Lib.hid hen
          have HY9 := Lib.hid hy8
          clear hg8 hy8 hen
          refine Lib.hid ?_
          go_wp2
          generalize hwz : (w9.setCell ⟨w.heap.size + 1, 0, none⟩ (.int .i64 y)).setCell ⟨w.heap.size + 1, 1, none⟩ (.slice a8 D.length c8) = wz
          have hbz : BlkV wz (w.heap.size + 1) 32 #[.int .i64 y, .slice a8 D.length c8] := by rw [← hwz]; exact (HY9.out.set_ 0 (.int .i64 y)).set_ 1 (.slice a8 D.length c8)
          have e0 := hbz.two0
          have e1 := hbz.two1
          refine bodyPost_ret (v := .tuple #[.agg #[.int .i64 y, .slice a8 D.length c8], .bool true]) (by simp [results, Tryz.results6, go_sem, e0, e1]) rfl ?_
          exact HEN.out wz hwz
        · skip
          refine step_makeP rfl 51 rfl ?_
          intro bm w6 hsz hsz0 hb hmk
          have HZbm := Lib.hid (And.intro hsz hsz0)
          have HB6 := Lib.hid (HB5.out.trans (hb.mono HB5.out.size))
          have H26 := Lib.hid (H25.out.trans (hb.mono H25.out.size))
          have HX6 := Lib.hid (HX5.out.below hb)
          have HY6 := Lib.hid (HY5.out.below hb)
          have HZ6 := Lib.hid hb.size
          have x6 := HX6.out.one0
          have HG6 := Lib.hid (HG5.out.below hb)
          have HD6 := Lib.hid (HD5.out.below hb)
          have HM6 := Lib.hid (show TMap w6 bm 0 (fun _ => none) from hmk _ _ _)
          clear hsz hsz0 hb hmk
          refine hK.out _ _ (fun _ => x6) (fun hH => ?_)
          have hHeld := hH (by decide)
          clear hH
          clear hK K
          (try simp only [Act.put, List.getElem_toArray, List.getElem_cons_succ, List.getElem_cons_zero, List.setIfInBounds_toArray, List.set_cons_zero, List.set_cons_succ])
          refine anyE_one (i := 3) (by kernel_rfl) (anyE_step rfl (fun K hK => ?_))
          go_simp
          go_wp2_with (go_at_call 21; ((refine Calls.mono (show Calls Tryz.prog 21 #[.agg #[.slice a nR c]] w6 (GivesV w6 V) by have h := vars_impl a c R V w6 HV.out (HS0.out.below HB6.out); rw [HNR.out] at h; exact h) ?_); rintro e w7 ⟨aV, cV, rfl, hoV, hb⟩))
          have hnV := HNV.out
          rw [hnV] at hoV ⊢
          clear hnV
          have HB7 := Lib.hid (HB6.out.trans (hb.mono HB6.out.size))
          have H27 := Lib.hid (H26.out.trans (hb.mono H26.out.size))
          have HX7 := Lib.hid (HX6.out.below hb)
          have HY7 := Lib.hid (HY6.out.below hb)
          have HZ7 := Lib.hid hb.size
          have x7 := HX7.out.one0
          have HG7 := Lib.hid (HG6.out.below hb)
          have HD7 := Lib.hid (HD6.out.below hb)
          have HM7 := Lib.hid (HM6.out.below hb)
          have HS7 := Lib.hid (show SmTs w7 aV (V.map tsV) cV from (show OwnV w7 w6.heap.size (.slice aV V.length cV) V by rw [HNV.out]; exact hoV).ts.smTs0 (by rw [List.length_map]; have := HV9.out; have := HNV.out; omega))
          have HAV := Lib.hid (fun (b off : Nat) (e : aV = some ⟨b, off, none⟩) => show w6.heap.size ≤ b ∧ b < w7.heap.size from World.ownsRow.lt hoV b (by rw [e]; rfl))
          clear hoV hb
          refine hK.out _ _ (fun _ => x7) (fun hH => ?_)
          have hHeld := hH (by decide)
          clear hH
          clear hK K
          (try simp only [Act.put, List.getElem_toArray, List.getElem_cons_succ, List.getElem_cons_zero, List.setIfInBounds_toArray, List.set_cons_zero, List.set_cons_succ])
          refine anyE_take (i := 6) (v := ?vz24) rfl (by kernel_rfl) (by kernel_rfl) (by kernel_rfl) (by kernel_rfl) (by kernel_rfl) (fun _ _ _ h => h) (Or.inl ⟨by kernel_rfl, ?yz24⟩) (by assumption) ?rz24
          case yz24 => (intro w' hSw; (try dsimp only at hSw); go_simp; (try with_reducible rfl))
          (try simp only [Act.put, List.getElem_toArray, List.getElem_cons_succ, List.getElem_cons_zero, List.setIfInBounds_toArray, List.set_cons_zero, List.set_cons_succ])
          have g0 := HG7.out.cell 0
          have h0 := HG7.out.frozen 0
          have g1 := HG7.out.cell 1
          have h1 := HG7.out.frozen 1
          have g2 := HG7.out.cell 2
          have h2 := HG7.out.frozen 2
          have g3 := HG7.out.cell 3
          have h3 := HG7.out.frozen 3
          have g4 := HG7.out.cell 4
          have h4 := HG7.out.frozen 4
          refine anyE_one (i := 8) (by kernel_rfl) (anyE_step rfl (fun K hK => ?_))
          go_simp
          refine hK.out _ _ (fun h => absurd rfl h) (fun _ => ?_)
          clear hK K
          (try simp only [Act.put, List.getElem_toArray, List.getElem_cons_succ, List.getElem_cons_zero, List.setIfInBounds_toArray, List.set_cons_zero, List.set_cons_succ])
          refine anyE_done (by kernel_rfl) ?_ _
          refine NoPanic.normal ?_
          generalize hw8 : ((((w7.setCell ⟨gB, 0, none⟩ (.slice a nR c)).setCell ⟨gB, 1, none⟩ (.slice aV nV cV)).setCell ⟨gB, 2, none⟩ (.map (some bm))).setCell ⟨gB, 3, none⟩ (.map (some br))).setCell ⟨gB, 4, none⟩ (.slice none 0 0) = w8
          have hz := And.intro HZ4.out (And.intro HZ5.out (And.intro HZ6.out (And.intro HZ7.out (And.intro HZbm.out (And.intro HZbr.out (And.intro HZgB.out (And.intro HW23.out HSZ2.out)))))))
          have HT := bd_tail a c R nR V nV y D w w2 w7 w8 aV cV bm br gB HNR.out HNV.out HV9.out HVB.out HVL.out HBD.out HS0.out HSZ2.out HB2.out HG7.out hw8 H27.out HY7.out HM7.out HD7.out HS7.out (fun b off e => by have := HAV.out b off e; omega) (by omega)
          clear hw8 hz x2 x4 x5 x6 x7 g0 g1 g2 g3 g4 h0 h1 h2 h3 h4
          have HCALL := Lib.hid HT
          clear HT
          go_wp2_with (go_at_call 26; ((refine HCALL.out.mono ?_); rintro e w9 ⟨a8, c8, rfl, hg8, hy8, hen⟩; refine Hid.out ?_))
          have gc : w9.cell? ⟨gB, 4, none⟩ = some (.slice a8 D.length c8) := hg8.cell 4
          have f0 := hy8.frozen 0
          have f1 := hy8.frozen 1
          have t0 := hy8.two0
          have t1 := hy8.two1
          have HEN := Lib.hid hen
          have HY9 := Lib.hid hy8
          clear hg8 hy8 hen
          refine Lib.hid ?_
          go_wp2
          generalize hwz : (w9.setCell ⟨w.heap.size + 1, 0, none⟩ (.int .i64 y)).setCell ⟨w.heap.size + 1, 1, none⟩ (.slice a8 D.length c8) = wz
          have hbz : BlkV wz (w.heap.size + 1) 32 #[.int .i64 y, .slice a8 D.length c8] := by rw [← hwz]; exact (HY9.out.set_ 0 (.int .i64 y)).set_ 1 (.slice a8 D.length c8)
          have e0 := hbz.two0
          have e1 := hbz.two1
          refine bodyPost_ret (v := .tuple #[.agg #[.int .i64 y, .slice a8 D.length c8], .bool true]) (by simp [results, Tryz.results6, go_sem, e0, e1]) rfl ?_
          exact HEN.out wz hwz

end Go.Proofs.YtpmfabpnjacegaaGreatDoor

