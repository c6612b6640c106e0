/-
  What impl's diagramBuilder.build answers and appends. By an AI agent.
-/
import Derived.Test.YtpmfabpnjacegaaGreatDoorBiF
import Derived.Deep.QuietTactic
namespace Go.Proofs.YtpmfabpnjacegaaGreatDoor
open Go.RowKit
set_option linter.unusedVariables false
set_option linter.unusedSimpArgs false
set_option linter.unnecessarySimpa false

set_option maxRecDepth 100000 in
set_option maxHeartbeats 8000000 in
theorem bi_impl (P : World → Prop) (lo : Nat) (aR : Option Addr) (cR : Nat) (R : List (List TS)) (nR : Nat) (aV : Option Addr) (cV nV : Nat) (V : List IQ) (gB bm br : Nat) (hP1 : ∀ W, P W → SmRu W aR R cR ∧ SmTs W aV (V.map tsV) cV) (hP2 : ∀ W W' v v', P W → FrB W W' [gB, br, bm] v v' → (∀ k, v.ownBlock = some k → lo ≤ k) → P W')
    (hnR : R.length = nR) (hn : V.length = nV) (h9 : nV ≤ 9) (hgl : gB < lo) (hrl : br < lo) (hml : bm < lo) (h1 : gB ≠ br) (h2 : gB ≠ bm) (h3 : br ≠ bm) (hok : ∀ p ∈ V, okV p) (hmem : ∀ l ∈ R, ∀ t ∈ l, t.1 ∈ V) (hnd : V.Nodup) :
    ∀ (n : Nat) (bs : List Bool) (i : Nat) (D : List DN) (a : Option Addr) (c m : Nat) (x : Int) (D' : List DN) (q : Nat) (fv : IQ → Option Value) (W : World), bs.length = i → i + n = nV → m + cst n ≤ 1000000 → q + 2 * cst n ≤ 3000000 → bldD R V n bs D = (x, D') →
      BSt W gB lo aR nR cR aV nV cV bm br a c m D → TMap W bm q fv → Agree fv V bs → P W → lo ≤ W.heap.size →
      Calls Tryz.prog 26 #[.pointer (some ⟨gB, 0, none⟩), .int .i64 (i : Int)] W fun e W' =>
        ∃ a' c' q' fv', e = .returned (.int .i64 x) ∧ BSt W' gB lo aR nR cR aV nV cV bm br a' c' D'.length D' ∧ TMap W' bm q' fv' ∧ q' ≤ q + 2 * cst n ∧ Agree fv' V bs ∧ FrB W W' [gB, br, bm] (.slice a m c) (.slice a' D'.length c') := by
  have HP1 := Lib.hid hP1
  have HP2 := Lib.hid hP2
  have HPB := Lib.hid (fun (W W' : World) (h : P W) (hb : Below W.heap.size W W') => hP2 W W' (.slice none 0 0) (.slice none 0 0) h ((FrB.refl _ _ _).below hb) (fun k hk => by simp [Value.ownBlock] at hk))
  have HN := Lib.hid hn
  have HNR := Lib.hid hnR
  have HOK := Lib.hid hok
  have HMEM := Lib.hid hmem
  have HND := Lib.hid hnd
  clear hP1 hP2 hn hnR hok hmem hnd
  intro n
  induction n with
  | zero =>
    intro bs i D a c m x D' q fv W hi hin hmc hqc hb hst hmap hag hbl hlo
    obtain ⟨hx, rfl⟩ := bld_zero hb
    obtain rfl : i = nV := by omega
    have hl : bs.length = V.length := by rw [hi, HN.out]
    have hx2 : (if R.any (fun l => l.all (teF (valG fv))) then (1 : Int) else 0) = x := by rw [va_val hag hl HND.out HMEM.out]; exact hx
    have HM := Lib.hid hst.len
    have HST := Lib.hid hst
    have HMAP := Lib.hid hmap
    have HAG := Lib.hid hag
    have HC := Lib.hid (dc_impl gB aR cR R nR aV i cV bm br (.slice a m c) q fv (valG fv) x W HNR.out hst.box hmap (fun l hl2 t ht => ⟨HOK.out _ (HMEM.out l hl2 t ht), by obtain ⟨_, b, _, _, e1, e2⟩ := hag.val hl (HMEM.out l hl2 t ht); rw [e1, e2]⟩) (HP1.out _ hbl).1 hx2)
    have b1 : W.cell? ⟨gB, 1, none⟩ = some (.slice aV i cV) := hst.box.cell 1
    have hii : ((i : Int) == (i : Int)) = true := by simp
    clear hi hin hmc hqc hb hst hmap hag hbl hlo hx hx2 hl
    go_enter Tryz.func26, Tryz.ntmps26
    go_wp2_with (go_at_call 58; ((refine HC.out.mono ?_); rintro e w2 ⟨rfl, hb⟩; have HB := Lib.hid hb; clear hb))
    go_ret
    obtain rfl := HM.out
    exact ⟨a, c, q, fv, rfl, HST.out.below HB.out, HMAP.out.below HB.out, by omega, HAG.out, (FrB.refl _ _ _).below HB.out⟩
  | succ n ih =>
    intro bs i D a c m x D' q fv W hi hin hmc hqc hb hst hmap hag hbl hlo
    have HLO := Lib.hid hlo
    have IH := Lib.hid ih
    clear ih
    obtain ⟨⟨y1, D1⟩, hb1⟩ : ∃ p, bldD R V n (bs ++ [false]) D = p := ⟨_, rfl⟩
    obtain ⟨⟨y2, D2⟩, hb2⟩ : ∃ p, bldD R V n (bs ++ [true]) D1 = p := ⟨_, rfl⟩
    have hsb := bld_step hb1 hb2
    rw [hb] at hsb
    have hl1 := bld_len R V n (bs ++ [false]) D
    have hl2 := bld_len R V n (bs ++ [true]) D1
    rw [hb1] at hl1
    rw [hb2] at hl2
    simp only at hl1 hl2
    have hDl := hst.len
    rw [cst] at hmc hqc
    have hrg1 := bld_range R V n (bs ++ [false]) D
    have hrg2 := bld_range R V n (bs ++ [true]) D1
    rw [hb1] at hrg1
    rw [hb2] at hrg2
    simp only at hrg1 hrg2
    obtain ⟨⟨f, t⟩, hvi⟩ : ∃ p, V[i]? = some p := ⟨_, List.getElem?_eq_getElem (by rw [HN.out]; omega)⟩
    have hgd : V.getD bs.length (0, 0) = (f, t) := by rw [hi, List.getD_eq_getElem?_getD, hvi]; rfl
    rw [hgd] at hsb
    have hokp := HOK.out _ (List.mem_of_getElem? hvi)
    have hvi2 : V[bs.length]? = some (f, t) := by rw [hi]; exact hvi
    have HRI := Lib.hid (show refD ((f, t), (y1, y2)) D2 = (x, D') from hsb.symm)
    have HOKP := Lib.hid hokp
    have hwy1 : (Lit.int .i64 y1).wf = true := wf_small (by omega) (by omega)
    have hwy2 : (Lit.int .i64 y2).wf = true := wf_small (by omega) (by omega)
    have HOKN := Lib.hid (show okN ((f, t), (y1, y2)) from ⟨hokp, hwy1, hwy2⟩)
    clear hwy1 hwy2
    have HL := Lib.hid (show D2.length ≤ 1000000 ∧ D1.length + cst n ≤ 1000000 ∧ m + cst n ≤ 1000000 ∧ D.length = m by omega)
    have HQ := Lib.hid (show q + 2 + 2 * cst n + 2 * cst n ≤ 3000000 by omega)
    have HVI := Lib.hid hvi2
    have HB1 := Lib.hid hb1
    have HB2 := Lib.hid hb2
    have HI := Lib.hid hi
    have HIN := Lib.hid hin
    have hvat : (V.map tsV)[i]? = some ((f, t), false) := by rw [List.getElem?_map, hvi]; rfl
    obtain ⟨b7, o7, rfl, hb7, hcV⟩ := (HP1.out _ hbl).2.inTs (by rw [List.length_map, HN.out]; omega)
    obtain ⟨p0, p1, p2⟩ := hcV i _ hvat
    have HBL := Lib.hid hbl
    have HST := Lib.hid hst
    have HAG := Lib.hid hag
    have HLOW := Lib.hid (fun k (hk : (Value.slice a m c).ownBlock = some k) => show lo ≤ k ∧ k < W.heap.size from World.ownsRow.lt hst.own k hk)
    obtain ⟨w1, hw1⟩ : ∃ w1, W.alloc (.cells #[.int .i64 f, .int .i64 t, .bool false] 86) = w1 := ⟨_, rfl⟩
    have hB1 : Below W.heap.size W w1 := by rw [← hw1]; exact (Below.refl _ _).alloc (Nat.le_refl _) _
    have HA1 := Lib.hid hB1
    have HX1 := Lib.hid (show BlkV w1 W.heap.size 86 #[.int .i64 f, .int .i64 t, .bool false] by rw [← hw1]; exact BlkV.new _ _ _)
    have HS1 := Lib.hid (hst.below hB1)
    have HF1 := Lib.hid (show FrB W w1 [gB, br, bm] (.slice a m c) (.slice a m c) from (FrB.refl _ _ _).below hB1)
    have hq1 : Below w1.heap.size w1 w1.drew := ⟨rfl, rfl, rfl, Nat.le_refl _, fun _ _ => rfl⟩
    obtain ⟨w2, hup, hd2, hg2⟩ := ((hmap.below hB1).below hq1).store keyV Tryz.underlying51 (by unfold maxLen; omega) (f, t) hokp (.bool false)
    have hg2 : w1.grownBy w2 (some bm) := ⟨hg2.os, hg2.tape, hg2.output, hg2.size, hg2.block⟩
    have HG2 := Lib.hid hg2
    have HM2 := Lib.hid (show TMap w2 bm (q + 1) (fun y => if y = (f, t) then some (.bool false) else fv y) from hd2)
    have HF2 := Lib.hid (HF1.out.one hg2 (by simp))
    have HS2 := Lib.hid (HS1.out.one hg2 h2 h3 hml)
    have HX2 := Lib.hid (show BlkV w2 W.heap.size 86 #[.int .i64 f, .int .i64 t, .bool false] from (hg2.block W.heap.size HX1.out.lt (fun e => by injection e with e; omega)).trans HX1.out)
    have HUP := Lib.hid (show (Instr.mapUpdate 51 (.map (some bm)) (.agg #[.int .i64 f, .int .i64 t, .bool false]) (.bool false)).run Tryz.prog w1.drew = .ok () w2 from hup)
    have HP2w := Lib.hid (HP2.out W w2 _ _ hbl HF2.out (fun k hk => (HLOW.out k hk).1))
    have HC1 := Lib.hid (IH.out (bs ++ [false]) (i + 1) D a c m y1 D1 (q + 1) (fun y => if y = (f, t) then some (.bool false) else fv y) w2 (by simp [hi]) (by omega) (by omega) (by omega) hb1 HS2.out HM2.out (hag.put HND.out hvi2 false) HP2w.out (Nat.le_trans hlo HF2.out.size))
    have b1 : W.cell? ⟨gB, 1, none⟩ = some (.slice (some ⟨b7, o7, none⟩) nV cV) := hst.box.cell 1
    have hib : ((i : Int) == (nV : Int)) = false := by
      have : ¬ (i : Int) = (nV : Int) := by omega
      simp [this]
    have hini : (i : Int) < (nV : Int) := by omega
    have HWI := Lib.hid (show IntKind.i64.wrap ((i : Int) + 1) = (i : Int) + 1 from IntWalk.i64_in _ (by omega))
    have hwi := HWI.out
    have HW1 := Lib.hid hw1
    clear hb hb1 hb2 hsb hl1 hl2 hDl hmc hqc hrg1 hrg2 hvi hvi2 hgd hokp hB1 hbl hlo hi hin hst hmap hag hq1 hup hd2 hg2 hvat hcV hw1
    go_enter Tryz.func26, Tryz.ntmps26
    go_wp2_with (fail)
    rw [HW1.out]
    clear b1 p0 p1 p2
    have b2 : w1.cell? ⟨gB, 2, none⟩ = some (.map (some bm)) := HS1.out.box.cell 2
    have x0 := HX1.out.three0
    have x1 := HX1.out.three1
    have x2 := HX1.out.three2
    have hup := HUP.out
    refine wp_region_noPanic ?_
    refine wp_region_E (S := fun w' => w'.cell? ⟨gB, 2, none⟩ = some (.map (some bm)) ∧ w'.cell? ⟨W.heap.size, 0, none⟩ = some (.int .i64 f) ∧ w'.cell? ⟨W.heap.size, 1, none⟩ = some (.int .i64 t) ∧ w'.cell? ⟨W.heap.size, 2, none⟩ = some (.bool false)) 5 (by kernel_rfl) (⟨b2, x0, x1, x2⟩) (fun hHeld => ?_)
    refine anyE_take (i := 0) (v := ?vz1) rfl (by kernel_rfl) (by kernel_rfl) (by kernel_rfl) (by kernel_rfl) (by kernel_rfl) (fun _ _ _ h => h) (Or.inl ⟨by kernel_rfl, ?yz1⟩) (by assumption) ?rz1
    case yz1 => (intro w' hSw; (try dsimp only at hSw); go_simp; (try with_reducible rfl))
    (try simp only [Act.put, List.getElem_toArray, List.getElem_cons_succ, List.getElem_cons_zero, List.setIfInBounds_toArray, List.set_cons_zero, List.set_cons_succ])
    refine anyE_take (i := 1) (v := ?vz2) rfl (by kernel_rfl) (by kernel_rfl) (by kernel_rfl) (by kernel_rfl) (by kernel_rfl) (fun _ _ _ h => h) (Or.inl ⟨by kernel_rfl, ?yz2⟩) (by assumption) ?rz2
    case yz2 => (intro w' hSw; (try dsimp only at hSw); go_simp; (try with_reducible rfl))
    (try simp only [Act.put, List.getElem_toArray, List.getElem_cons_succ, List.getElem_cons_zero, List.setIfInBounds_toArray, List.set_cons_zero, List.set_cons_succ])
    refine anyE_take (i := 2) (v := ?vz3) rfl (by kernel_rfl) (by kernel_rfl) (by kernel_rfl) (by kernel_rfl) (by kernel_rfl) (fun _ _ _ h => h) (Or.inl ⟨by kernel_rfl, ?yz3⟩) (by assumption) ?rz3
    case yz3 => (intro w' hSw; (try dsimp only at hSw); go_simp; (try with_reducible rfl))
    (try simp only [Act.put, List.getElem_toArray, List.getElem_cons_succ, List.getElem_cons_zero, List.setIfInBounds_toArray, List.set_cons_zero, List.set_cons_succ])
    refine anyE_take (i := 3) (v := ?vz4) rfl (by kernel_rfl) (by kernel_rfl) (by kernel_rfl) (by kernel_rfl) (by kernel_rfl) (fun _ _ _ h => h) (Or.inl ⟨by kernel_rfl, ?yz4⟩) (by assumption) ?rz4
    case yz4 => (intro w' hSw; (try dsimp only at hSw); go_simp; (try with_reducible rfl))
    (try simp only [Act.put, List.getElem_toArray, List.getElem_cons_succ, List.getElem_cons_zero, List.setIfInBounds_toArray, List.set_cons_zero, List.set_cons_succ])
    refine anyE_take (i := 4) (v := ?vz5) rfl (by kernel_rfl) (by kernel_rfl) (by kernel_rfl) (by kernel_rfl) (by kernel_rfl) (fun _ _ _ h => h) (Or.inl ⟨by kernel_rfl, ?yz5⟩) (by assumption) ?rz5
    case yz5 => (intro w' hSw; (try dsimp only at hSw); go_simp; (try with_reducible rfl))
    (try simp only [Act.put, List.getElem_toArray, List.getElem_cons_succ, List.getElem_cons_zero, List.setIfInBounds_toArray, List.set_cons_zero, List.set_cons_succ])
    refine anyE_one (i := 5) (by kernel_rfl) (anyE_step rfl (fun K hK => ?_))
    go_simp
    refine hK.out _ _ (fun h => absurd rfl h) (fun _ => ?_)
    clear hK K
    (try simp only [Act.put, List.getElem_toArray, List.getElem_cons_succ, List.getElem_cons_zero, List.setIfInBounds_toArray, List.set_cons_zero, List.set_cons_succ])
    refine anyE_done (by kernel_rfl) ?_ _
    refine NoPanic.normal ?_
    clear b2 x0 x1 x2 hup
    refine Hid.out ?_
    refine Lib.hid ?_
    go_wp2_with (first | (go_at_call 26; ((refine HC1.out.mono ?_); rintro e w3 ⟨a1, c1, q1, fv1, rfl, hst1, hmap1, hq1, hag1, hfr1⟩; refine Hid.out ?_)))
    have HS3 := Lib.hid hst1
    have HM3 := Lib.hid hmap1
    have HQ3 := Lib.hid hq1
    have HAG3 := Lib.hid hag1.cut
    have HF3 := Lib.hid (HF2.out.trans hfr1)
    have HNB2 := Lib.hid (show (Value.slice a m c).ownBlock ≠ some W.heap.size from fun e => by have := (HLOW.out _ e).2; omega)
    have HX3 := Lib.hid (hfr1.blk HX2.out (by simp; have := HLO.out; omega) HNB2.out)
    have HNB3 := Lib.hid (hfr1.apart HNB2.out HX2.out.lt)
    have HP3 := Lib.hid (HP2.out W w3 _ _ HBL.out HF3.out (fun k hk => (HLOW.out k hk).1))
    clear hst1 hmap1 hq1 hag1 hfr1
    have hq3 : Below w3.heap.size w3 w3.drew := ⟨rfl, rfl, rfl, Nat.le_refl _, fun _ _ => rfl⟩
    obtain ⟨w4, hup, hd4, hg4⟩ := (HM3.out.below hq3).store keyV Tryz.underlying51 (by have := HQ.out; have := HQ3.out; unfold maxLen; omega) (f, t) HOKP.out (.bool true)
    have hg4 : w3.grownBy w4 (some bm) := ⟨hg4.os, hg4.tape, hg4.output, hg4.size, hg4.block⟩
    have HM4 := Lib.hid (show TMap w4 bm (q1 + 1) (fun y => if y = (f, t) then some (.bool true) else fv1 y) from hd4)
    have HF4 := Lib.hid (HF3.out.one hg4 (by simp))
    have HS4 := Lib.hid (HS3.out.one hg4 h2 h3 hml)
    have HX4 := Lib.hid (show BlkV w4 W.heap.size 86 #[.int .i64 f, .int .i64 t, .bool false] from (hg4.block W.heap.size HX3.out.lt (fun e => by injection e with e; have := HLO.out; omega)).trans HX3.out)
    have HUP4 := Lib.hid (show (Instr.mapUpdate 51 (.map (some bm)) (.agg #[.int .i64 f, .int .i64 t, .bool false]) (.bool true)).run Tryz.prog w3.drew = .ok () w4 from hup)
    have HP4 := Lib.hid (HP2.out W w4 _ _ HBL.out HF4.out (fun k hk => (HLOW.out k hk).1))
    have HC2 := Lib.hid (IH.out (bs ++ [true]) (i + 1) D1 a1 c1 D1.length y2 D2 (q1 + 1) (fun y => if y = (f, t) then some (.bool true) else fv1 y) w4 (by simp [HI.out]) (by have := HIN.out; omega) HL.out.2.1 (by have := HQ.out; have := HQ3.out; omega) HB2.out HS4.out HM4.out (HAG3.out.put HND.out HVI.out true) HP4.out (Nat.le_trans HLO.out HF4.out.size))
    clear hq3 hup hd4 hg4
    refine Lib.hid ?_
    go_wp2_with (fail)
    have b2 : w3.cell? ⟨gB, 2, none⟩ = some (.map (some bm)) := HS3.out.box.cell 2
    have x0 := HX3.out.three0
    have x1 := HX3.out.three1
    have x2 := HX3.out.three2
    have hup := HUP4.out
    refine wp_region_noPanic ?_
    refine wp_region_E (S := fun w' => w'.cell? ⟨gB, 2, none⟩ = some (.map (some bm)) ∧ w'.cell? ⟨W.heap.size, 0, none⟩ = some (.int .i64 f) ∧ w'.cell? ⟨W.heap.size, 1, none⟩ = some (.int .i64 t) ∧ w'.cell? ⟨W.heap.size, 2, none⟩ = some (.bool false)) 5 (by kernel_rfl) (⟨b2, x0, x1, x2⟩) (fun hHeld => ?_)
    refine anyE_take (i := 0) (v := ?vz6) rfl (by kernel_rfl) (by kernel_rfl) (by kernel_rfl) (by kernel_rfl) (by kernel_rfl) (fun _ _ _ h => h) (Or.inl ⟨by kernel_rfl, ?yz6⟩) (by assumption) ?rz6
    case yz6 => (intro w' hSw; (try dsimp only at hSw); go_simp; (try with_reducible rfl))
    (try simp only [Act.put, List.getElem_toArray, List.getElem_cons_succ, List.getElem_cons_zero, List.setIfInBounds_toArray, List.set_cons_zero, List.set_cons_succ])
    refine anyE_take (i := 1) (v := ?vz7) rfl (by kernel_rfl) (by kernel_rfl) (by kernel_rfl) (by kernel_rfl) (by kernel_rfl) (fun _ _ _ h => h) (Or.inl ⟨by kernel_rfl, ?yz7⟩) (by assumption) ?rz7
    case yz7 => (intro w' hSw; (try dsimp only at hSw); go_simp; (try with_reducible rfl))
    (try simp only [Act.put, List.getElem_toArray, List.getElem_cons_succ, List.getElem_cons_zero, List.setIfInBounds_toArray, List.set_cons_zero, List.set_cons_succ])
    refine anyE_take (i := 2) (v := ?vz8) rfl (by kernel_rfl) (by kernel_rfl) (by kernel_rfl) (by kernel_rfl) (by kernel_rfl) (fun _ _ _ h => h) (Or.inl ⟨by kernel_rfl, ?yz8⟩) (by assumption) ?rz8
    case yz8 => (intro w' hSw; (try dsimp only at hSw); go_simp; (try with_reducible rfl))
    (try simp only [Act.put, List.getElem_toArray, List.getElem_cons_succ, List.getElem_cons_zero, List.setIfInBounds_toArray, List.set_cons_zero, List.set_cons_succ])
    refine anyE_take (i := 3) (v := ?vz9) rfl (by kernel_rfl) (by kernel_rfl) (by kernel_rfl) (by kernel_rfl) (by kernel_rfl) (fun _ _ _ h => h) (Or.inl ⟨by kernel_rfl, ?yz9⟩) (by assumption) ?rz9
    case yz9 => (intro w' hSw; (try dsimp only at hSw); go_simp; (try with_reducible rfl))
    (try simp only [Act.put, List.getElem_toArray, List.getElem_cons_succ, List.getElem_cons_zero, List.setIfInBounds_toArray, List.set_cons_zero, List.set_cons_succ])
    refine anyE_take (i := 4) (v := ?vz10) rfl (by kernel_rfl) (by kernel_rfl) (by kernel_rfl) (by kernel_rfl) (by kernel_rfl) (fun _ _ _ h => h) (Or.inl ⟨by kernel_rfl, ?yz10⟩) (by assumption) ?rz10
    case yz10 => (intro w' hSw; (try dsimp only at hSw); go_simp; (try with_reducible rfl))
    (try simp only [Act.put, List.getElem_toArray, List.getElem_cons_succ, List.getElem_cons_zero, List.setIfInBounds_toArray, List.set_cons_zero, List.set_cons_succ])
    refine anyE_one (i := 5) (by kernel_rfl) (anyE_step rfl (fun K hK => ?_))
    go_simp
    refine hK.out _ _ (fun h => absurd rfl h) (fun _ => ?_)
    clear hK K
    (try simp only [Act.put, List.getElem_toArray, List.getElem_cons_succ, List.getElem_cons_zero, List.setIfInBounds_toArray, List.set_cons_zero, List.set_cons_succ])
    refine anyE_done (by kernel_rfl) ?_ _
    refine NoPanic.normal ?_
    clear b2 x0 x1 x2 hup
    refine Hid.out ?_
    refine Lib.hid ?_
    go_wp2_with (first | (go_at_call 26; ((refine HC2.out.mono ?_); rintro e w5 ⟨a2, c2, q2, fv2, rfl, hst2, hmap2, hq2, hag2, hfr2⟩; refine Hid.out ?_)))
    have HS5 := Lib.hid hst2
    have HM5 := Lib.hid hmap2
    have HQ5 := Lib.hid hq2
    have HAG5 := Lib.hid hag2.cut
    have HF5 := Lib.hid (HF4.out.trans hfr2)
    have HX5 := Lib.hid (hfr2.blk HX4.out (by simp; have := HLO.out; omega) HNB3.out)
    have HNB5 := Lib.hid (hfr2.apart HNB3.out HX4.out.lt)
    have HC3 := Lib.hid (rf_impl gB lo aR nR cR (some ⟨b7, o7, none⟩) nV cV bm br a2 c2 D2.length D2 f t y1 y2 x D' w5 HRI.out HOKN.out HL.out.1 hst2 hgl hrl h1 (Nat.le_trans HLO.out HF5.out.size))
    clear hst2 hmap2 hq2 hag2 hfr2
    have x0 := HX5.out.three0
    have x1 := HX5.out.three1
    refine Lib.hid ?_
    go_wp2_with (go_at_call 59; ((refine HC3.out.mono ?_); rintro e w6 ⟨a3, c3, rfl, hst3, hfr3⟩; have HS6 := Lib.hid hst3; have HFR6 := Lib.hid hfr3; clear hst3 hfr3))
    have HF6 := Lib.hid (HF5.out.trans (HFR6.out.weak (fun k hk => by simp at hk ⊢; rcases hk with h | h <;> simp [h])))
    have HM6 := Lib.hid (HM5.out.same (HFR6.out.block bm HM5.out.lt (by simp; exact ⟨fun e => h2 e.symm, fun e => h3 e.symm⟩) (fun e => by have := (World.ownsRow.lt HS5.out.own _ e).1; omega)))
    go_ret
    have hq9 : q2 ≤ q + 2 * cst (n + 1) := by have := HQ5.out; have := HQ3.out; rw [cst]; omega
    first
      | exact ⟨a3, c3, q2, fv2, rfl, HS6.out, HM6.out, hq9, HAG5.out, HF6.out⟩
      | exact ⟨rfl, a3, c3, q2, fv2, HS6.out, HM6.out, hq9, HAG5.out, HF6.out⟩

end Go.Proofs.YtpmfabpnjacegaaGreatDoor

