/-
  What spec.l15Build answers and appends. By an AI agent.
-/
import Derived.Test.YtpmfabpnjacegaaGreatDoorGQ8
import Derived.Test.YtpmfabpnjacegaaGreatDoorGQ4
import Derived.Test.YtpmfabpnjacegaaGreatDoorUndrew
import Derived.Deep.AppendLies
import Derived.Deep.RegionHeld3
namespace Go.Proofs.YtpmfabpnjacegaaGreatDoor
open Go.RowKit
set_option linter.unusedVariables false
set_option linter.unusedSimpArgs false
set_option linter.unnecessarySimpa false

set_option maxRecDepth 100000 in
set_option maxHeartbeats 16000000 in
theorem bld_spec (P : World → Prop) (lo : Nat) (aR : Option Addr) (cR : Nat) (R : List (List TS)) (aV : Option Addr) (cV nV : Nat) (V : List IQ) (g : Nat) (rt : Int) (hP1 : ∀ W, P W → SmRu W aR R cR ∧ SmTs W aV (V.map tsV) cV) (hP2 : ∀ W W' v v', P W → Fr W W' g v v' → (∀ k, v.ownBlock = some k → lo ≤ k) → P W') (hRl : R.length ≤ 4000000) (hn : V.length = nV) (h9 : nV ≤ 9) (hgl : g < lo) :
    ∀ (n : Nat) (bs : List Bool) (i N : Nat) (D : List DN) (a : Option Addr) (c m : Nat) (x : Int) (D' : List DN) (W : World), bs.length = i → i + n = nV → natOf bs = N → D.length = m → m + cst n ≤ 1000000 → bldD R V n bs D = (x, D') →
      BlkV W g 32 #[.int .i64 rt, .slice a m c] → OwnDn W lo (.slice a m c) D → P W → lo ≤ W.heap.size →
      Calls Tryz.prog 28 #[.agg #[.slice aR R.length cR], .slice aV nV cV, .int .i64 (i : Int), .int .i64 (N : Int), .pointer (some ⟨g, 0, none⟩)] W fun e W' =>
        ∃ a' c', e = .returned (.int .i64 x) ∧ BlkV W' g 32 #[.int .i64 rt, .slice a' D'.length c'] ∧ OwnDn W' lo (.slice a' D'.length c') D' ∧ Fr W W' g (.slice a m c) (.slice a' D'.length c') := by
  have HP1 := Lib.hid hP1
  have HP2 := Lib.hid hP2
  have HPB := Lib.hid (fun (W W' : World) (h : P W) (hb : Below W.heap.size W W') => hP2 W W' (.slice none 0 0) (.slice none 0 0) h ((Fr.refl _ _ _).below hb) (fun k hk => by simp [Value.ownBlock] at hk))
  have HN := Lib.hid hn
  clear hP1 hP2 hn
  intro n
  induction n with
  | zero =>
    intro bs i N D a c m x D' W hi hin hN hm hmc hb hbk hown hbl hlo
    obtain ⟨hx, rfl⟩ := bld_zero hb
    obtain rfl : i = nV := by omega
    obtain ⟨r, hr⟩ : ∃ r, vaR R V bs = r := ⟨_, rfl⟩
    rw [hr] at hx
    have HX := Lib.hid hx
    have HM := Lib.hid hm
    have HBK := Lib.hid hbk
    have HOWN := Lib.hid hown
    have HW1 := Lib.hid ((Below.refl W.heap.size W).alloc (Nat.le_refl _) (.cells #[.slice aR R.length cR] 26))
    have HVS := Lib.hid (val_spec aR cR R aV cV i V bs N r (W.alloc (.cells #[.slice aR R.length cR] 26)) hN hr HN.out hi h9 (HP1.out _ (HPB.out _ _ hbl HW1.out)).1 (HP1.out _ (HPB.out _ _ hbl HW1.out)).2)
    have hii : ((i : Int) == (i : Int)) = true := by simp
    clear hi hin hN hm hmc hb hbk hown hbl hlo hr hx
    cases r
    · obtain rfl : (0 : Int) = x := HX.out
      go_enter Tryz.func28, Tryz.ntmps28
      go_wp2_with (go_at_call 60; ((refine HVS.out.mono ?_); rintro e w2 ⟨rfl, hb⟩; have HB := Lib.hid (HW1.out.trans (hb.mono HW1.out.size)); clear hb))
      go_ret
      obtain rfl := HM.out
      exact ⟨a, c, rfl, HBK.out.below HB.out, HOWN.out.below HB.out, (Fr.refl _ _ _).below HB.out⟩
    · obtain rfl : (1 : Int) = x := HX.out
      go_enter Tryz.func28, Tryz.ntmps28
      go_wp2_with (go_at_call 60; ((refine HVS.out.mono ?_); rintro e w2 ⟨rfl, hb⟩; have HB := Lib.hid (HW1.out.trans (hb.mono HW1.out.size)); clear hb))
      go_ret
      obtain rfl := HM.out
      exact ⟨a, c, rfl, HBK.out.below HB.out, HOWN.out.below HB.out, (Fr.refl _ _ _).below HB.out⟩
  | succ n ih =>
    intro bs i N D a c m x D' W hi hin hN hm hmc hb hbk hown hbl hlo
    have HLO := Lib.hid hlo
    have IH := Lib.hid ih
    clear ih
    obtain ⟨⟨x1, D1⟩, hb1⟩ : ∃ p, bldD R V n (bs ++ [false]) D = p := ⟨_, rfl⟩
    obtain ⟨⟨x2, D2⟩, hb2⟩ : ∃ p, bldD R V n (bs ++ [true]) D1 = p := ⟨_, rfl⟩
    have hst := bld_step hb1 hb2
    rw [hb] at hst
    have hl1 := bld_len R V n (bs ++ [false]) D
    have hl2 := bld_len R V n (bs ++ [true]) D1
    rw [hb1] at hl1
    rw [hb2] at hl2
    simp only at hl1 hl2
    rw [cst] at hmc
    have hrg1 := bld_range R V n (bs ++ [false]) D
    have hrg2 := bld_range R V n (bs ++ [true]) D1
    rw [hb1] at hrg1
    rw [hb2] at hrg2
    simp only at hrg1 hrg2
    obtain ⟨⟨f, t⟩, hvi⟩ : ∃ p, V[i]? = some p := ⟨_, List.getElem?_eq_getElem (by rw [HN.out]; omega)⟩
    have hgd : V.getD bs.length (0, 0) = (f, t) := by rw [hi, List.getD_eq_getElem?_getD, hvi]; rfl
    rw [hgd] at hst
    obtain ⟨w1, hw1⟩ : ∃ w1, W.alloc (.cells #[.slice aR R.length cR] 26) = w1 := ⟨_, rfl⟩
    have hB1 : Below W.heap.size W w1 := by rw [← hw1]; exact (Below.refl _ _).alloc (Nat.le_refl _) _
    have HBX := Lib.hid (show BlkV w1 W.heap.size 26 #[.slice aR R.length cR] by rw [← hw1]; exact BlkV.new _ _ _)
    have hN2 : natOf (bs ++ [false]) = N := by rw [natOf_snoc, hN]; simp
    have hNlt := natOf_lt bs
    rw [hN, hi] at hNlt
    have hN3 : natOf (bs ++ [true]) = N + 2 ^ i := by rw [natOf_snoc, hN, hi]; simp
    have HOR := Lib.hid (bit_or N i hNlt (by omega))
    have HWI := Lib.hid (show IntKind.i64.wrap ((i : Int) + 1) = (i : Int) + 1 from IntWalk.i64_in _ (by omega))
    have hgW := hbk.lt
    have HOWN := Lib.hid hown
    have hlow : ∀ k, (Value.slice a m c).ownBlock = some k → lo ≤ k ∧ k < W.heap.size := fun k hk => World.ownsRow.lt hown k hk
    have HLOW0 := Lib.hid hlow
    have HC1 := Lib.hid (IH.out (bs ++ [false]) (i + 1) N D a c m x1 D1 w1 (by simp [hi]) (by omega) hN2 hm (by omega) hb1 (hbk.below hB1) (hown.below hB1) (HPB.out _ _ hbl hB1) (Nat.le_trans hlo hB1.size))
    have HF1 := Lib.hid (show Fr W w1 g (.slice a m c) (.slice a m c) from (Fr.refl _ _ _).below hB1)
    have HBL := Lib.hid hbl
    have HST := Lib.hid hst
    have HL := Lib.hid (show D2.length ≤ 1000000 ∧ D1.length + cst n ≤ 1000000 by omega)
    have HRG := Lib.hid (And.intro hrg1 hrg2)
    have HVI := Lib.hid hvi
    have HI2 := Lib.hid (show (bs ++ [true]).length = i + 1 by simp [hi])
    have HN3 := Lib.hid hN3
    have HB2 := Lib.hid hb2
    have HGW := Lib.hid hgW
    have hib : ((i : Int) == (nV : Int)) = false := by
      have : ¬ (i : Int) = (nV : Int) := by omega
      simp [this]
    have hini : (i : Int) < (nV : Int) := by omega
    have HIN := Lib.hid hin
    clear hb hb1 hb2 hst hl1 hl2 hmc hrg1 hrg2 hvi hgd hB1 hN2 hN3 hbk hown hbl hlo hi hm hlow hgW hNlt hN hin
    have q0 := HBX.out.one0
    go_enter Tryz.func28, Tryz.ntmps28
    go_wp2_with (go_at_call 28; ((refine HC1.out.mono ?_); rintro e w2 ⟨a1, c1, rfl, hbk1, hown1, hfr1⟩; refine Hid.out ?_))
    have HF2 := Lib.hid (HF1.out.trans hfr1)
    have HBX2 := Lib.hid (hfr1.blk HBX.out (by have := HGW.out; omega) (fun e => by have := (HLOW0.out _ e).2; omega))
    have HBL2 := Lib.hid (HP2.out W w2 _ _ HBL.out HF2.out (fun k hk => (HLOW0.out k hk).1))
    have HNB1 := Lib.hid (hfr1.apart (b := W.heap.size) (fun e => by have := (HLOW0.out _ e).2; omega) HBX.out.lt)
    have HOWN1 := Lib.hid hown1
    have HBK1 := Lib.hid hbk1
    have HC2 := Lib.hid (fun (W' : World) (hW : Below w2.heap.size w2 W') => IH.out (bs ++ [true]) (i + 1) (N + 2 ^ i) D1 a1 c1 D1.length x2 D2 W' HI2.out (by have := HIN.out; omega) HN3.out rfl HL.out.2 HB2.out (HBK1.out.below hW) (HOWN1.out.below hW) (HPB.out _ _ HBL2.out hW) (Nat.le_trans HLO.out (Nat.le_trans HF2.out.size hW.size)))
    clear hbk1 hown1 hfr1 q0 hw1
    have q0 := HBX2.out.one0
    have hor := HOR.out
    obtain ⟨N2, hN2⟩ : ∃ N2 : Nat, N + 2 ^ i = N2 := ⟨_, rfl⟩
    rw [hN2] at hor HC2
    clear hN2
    have hwi := HWI.out
    refine Lib.hid ?_
    go_wp2_with (fail)
    go_region_held3 (fun w' => w'.cell? ⟨W.heap.size, 0, none⟩ = some (.slice aR R.length cR))
      (first | exact e0 | exact q0)
      (first
        | (go_at_call 28; ((refine Calls.mono (HC2.out _ (dquiet_f _ _ 1)) ?_); rintro e w3 ⟨a2, c2, rfl, hbk2, hown2, hfr2⟩; have HBK2 := Lib.hid hbk2; have HOWN2 := Lib.hid hown2; have HFQ := Lib.hid (show Fr w2 w3 g (.slice a1 D1.length c1) (.slice a2 D2.length c2) from ⟨hfr2.os, hfr2.tape, hfr2.output, hfr2.size, hfr2.block, hfr2.own⟩); have HBX3 := Lib.hid (HFQ.out.blk HBX2.out (by have := HGW.out; omega) HNB1.out); have e0 := HBX3.out.one0; clear hbk2 hown2 hfr2)))
    have HF3 := Lib.hid (HF2.out.trans HFQ.out)
    have HBL3 := Lib.hid (HP2.out W w3 _ _ HBL.out HF3.out (fun k hk => (HLOW0.out k hk).1))
    clear q0 e0 hor hwi
    have hst := HST.out
    by_cases hx : x1 = x2
    · subst hx
      have hxx : (x1 == x1) = true := by simp
      have hrs := ref_same (x := ((f, t), (x1, x1))) (D := D2) rfl
      rw [hrs] at hst
      obtain ⟨h1, h2⟩ := Prod.mk.inj hst
      have HX1 := Lib.hid (show x = x1 from h1)
      have HD2 := Lib.hid (show D' = D2 from h2)
      clear hst hrs h1 h2
      go_wp2
      go_ret
      have e1 := HX1.out
      have e2 := HD2.out
      subst e1 e2
      exact ⟨a2, c2, rfl, HBK2.out, HOWN2.out, HF3.out⟩
    · have hxx : (x1 == x2) = false := by simp [hx]
      have HXX := Lib.hid hx
      have hvat : (V.map tsV)[i]? = some ((f, t), false) := by rw [List.getElem?_map, HVI.out]; rfl
      obtain ⟨b2, o2, rfl, hb2, hcV⟩ := (HP1.out _ HBL3.out).2.inTs (by rw [List.length_map, HN.out]; omega)
      obtain ⟨p0, p1, -⟩ := hcV i _ hvat
      have hq3 : Below w3.heap.size w3 w3.drew := ⟨rfl, rfl, rfl, Nat.le_refl _, fun _ _ => rfl⟩
      have hqz : Below w3.heap.size w3 (w3.drew.alloc (.cells #[.int .i64 0, .int .i64 0, .int .i64 0, .int .i64 0] 59)) := hq3.alloc hq3.size _
      have k0 := (hqz.cell (p := ⟨b2, o2 + i * 3, none⟩) hb2).trans p0
      have k1 := (hqz.cell (p := ⟨b2, o2 + i * 3 + 1, none⟩) hb2).trans p1
      clear hq3 hqz hcV hvat
      go_wp2_with (fail)
      refine wp_region_noPanic ?_
      refine wp_region_E (S := fun w' => w'.cell? ⟨b2, o2 + i * 3, none⟩ = some (.int .i64 f) ∧ w'.cell? ⟨b2, o2 + i * 3 + 1, none⟩ = some (.int .i64 t)) 14 (by kernel_rfl) (⟨p0, p1⟩) (fun hHeld => ?_)
      refine anyE_take (i := 0) (v := ?vz1) rfl (by kernel_rfl) (by kernel_rfl) (by kernel_rfl) (by kernel_rfl) (by kernel_rfl) (fun _ _ _ h => h) (Or.inl ⟨by kernel_rfl, ?yz1⟩) (by assumption) ?rz1
      case yz1 => (intro w' hSw; (try dsimp only at hSw); go_simp; (try with_reducible rfl))
      (try simp only [Act.put, List.getElem_toArray, List.getElem_cons_succ, List.getElem_cons_zero, List.setIfInBounds_toArray, List.set_cons_zero, List.set_cons_succ])
      refine anyE_take (i := 1) (v := ?vz2) rfl (by kernel_rfl) (by kernel_rfl) (by kernel_rfl) (by kernel_rfl) (by kernel_rfl) (fun _ _ _ h => h) (Or.inl ⟨by kernel_rfl, ?yz2⟩) (by assumption) ?rz2
      case yz2 => (intro w' hSw; (try dsimp only at hSw); go_simp; (try with_reducible rfl))
      (try simp only [Act.put, List.getElem_toArray, List.getElem_cons_succ, List.getElem_cons_zero, List.setIfInBounds_toArray, List.set_cons_zero, List.set_cons_succ])
      refine anyE_take (i := 2) (v := ?vz3) rfl (by kernel_rfl) (by kernel_rfl) (by kernel_rfl) (by kernel_rfl) (by kernel_rfl) (fun _ _ _ h => h) (Or.inl ⟨by kernel_rfl, ?yz3⟩) (by assumption) ?rz3
      case yz3 => (intro w' hSw; (try dsimp only at hSw); go_simp; (try with_reducible rfl))
      (try simp only [Act.put, List.getElem_toArray, List.getElem_cons_succ, List.getElem_cons_zero, List.setIfInBounds_toArray, List.set_cons_zero, List.set_cons_succ])
      refine anyE_take (i := 3) (v := ?vz4) rfl (by kernel_rfl) (by kernel_rfl) (by kernel_rfl) (by kernel_rfl) (by kernel_rfl) (fun _ _ _ h => h) (Or.inl ⟨by kernel_rfl, ?yz4⟩) (by assumption) ?rz4
      case yz4 => (intro w' hSw; (try dsimp only at hSw); go_simp; (try with_reducible rfl))
      (try simp only [Act.put, List.getElem_toArray, List.getElem_cons_succ, List.getElem_cons_zero, List.setIfInBounds_toArray, List.set_cons_zero, List.set_cons_succ])
      refine anyE_take (i := 4) (v := ?vz5) rfl (by kernel_rfl) (by kernel_rfl) (by kernel_rfl) (by kernel_rfl) (by kernel_rfl) (fun _ _ _ h => h) (Or.inl ⟨by kernel_rfl, ?yz5⟩) (by assumption) ?rz5
      case yz5 => (intro w' hSw; (try dsimp only at hSw); go_simp; (try with_reducible rfl))
      (try simp only [Act.put, List.getElem_toArray, List.getElem_cons_succ, List.getElem_cons_zero, List.setIfInBounds_toArray, List.set_cons_zero, List.set_cons_succ])
      refine anyE_take (i := 5) (v := ?vz6) rfl (by kernel_rfl) (by kernel_rfl) (by kernel_rfl) (by kernel_rfl) (by kernel_rfl) (fun _ _ _ h => h) (Or.inl ⟨by kernel_rfl, ?yz6⟩) (by assumption) ?rz6
      case yz6 => (intro w' hSw; (try dsimp only at hSw); go_simp; (try with_reducible rfl))
      (try simp only [Act.put, List.getElem_toArray, List.getElem_cons_succ, List.getElem_cons_zero, List.setIfInBounds_toArray, List.set_cons_zero, List.set_cons_succ])
      refine anyE_take (i := 6) (v := ?vz7) rfl (by kernel_rfl) (by kernel_rfl) (by kernel_rfl) (by kernel_rfl) (by kernel_rfl) (fun _ _ _ h => h) (Or.inl ⟨by kernel_rfl, ?yz7⟩) (by assumption) ?rz7
      case yz7 => (intro w' hSw; (try dsimp only at hSw); go_simp; (try with_reducible rfl))
      (try simp only [Act.put, List.getElem_toArray, List.getElem_cons_succ, List.getElem_cons_zero, List.setIfInBounds_toArray, List.set_cons_zero, List.set_cons_succ])
      refine anyE_take (i := 7) (v := ?vz8) rfl (by kernel_rfl) (by kernel_rfl) (by kernel_rfl) (by kernel_rfl) (by kernel_rfl) (fun _ _ _ h => h) (Or.inl ⟨by kernel_rfl, ?yz8⟩) (by assumption) ?rz8
      case yz8 => (intro w' hSw; (try dsimp only at hSw); go_simp; (try with_reducible rfl))
      (try simp only [Act.put, List.getElem_toArray, List.getElem_cons_succ, List.getElem_cons_zero, List.setIfInBounds_toArray, List.set_cons_zero, List.set_cons_succ])
      refine anyE_take (i := 8) (v := ?vz9) rfl (by kernel_rfl) (by kernel_rfl) (by kernel_rfl) (by kernel_rfl) (by kernel_rfl) (fun _ _ _ h => h) (Or.inl ⟨by kernel_rfl, ?yz9⟩) (by assumption) ?rz9
      case yz9 => (intro w' hSw; (try dsimp only at hSw); go_simp; (try with_reducible rfl))
      (try simp only [Act.put, List.getElem_toArray, List.getElem_cons_succ, List.getElem_cons_zero, List.setIfInBounds_toArray, List.set_cons_zero, List.set_cons_succ])
      refine anyE_take (i := 9) (v := ?vz10) rfl (by kernel_rfl) (by kernel_rfl) (by kernel_rfl) (by kernel_rfl) (by kernel_rfl) (fun _ _ _ h => h) (Or.inl ⟨by kernel_rfl, ?yz10⟩) (by assumption) ?rz10
      case yz10 => (intro w' hSw; (try dsimp only at hSw); go_simp; (try with_reducible rfl))
      (try simp only [Act.put, List.getElem_toArray, List.getElem_cons_succ, List.getElem_cons_zero, List.setIfInBounds_toArray, List.set_cons_zero, List.set_cons_succ])
      refine anyE_take (i := 10) (v := ?vz11) rfl (by kernel_rfl) (by kernel_rfl) (by kernel_rfl) (by kernel_rfl) (by kernel_rfl) (fun _ _ _ h => h) (Or.inl ⟨by kernel_rfl, ?yz11⟩) (by assumption) ?rz11
      case yz11 => (intro w' hSw; (try dsimp only at hSw); go_simp; (try with_reducible rfl))
      (try simp only [Act.put, List.getElem_toArray, List.getElem_cons_succ, List.getElem_cons_zero, List.setIfInBounds_toArray, List.set_cons_zero, List.set_cons_succ])
      refine anyE_take (i := 11) (v := ?vz12) rfl (by kernel_rfl) (by kernel_rfl) (by kernel_rfl) (by kernel_rfl) (by kernel_rfl) (fun _ _ _ h => h) (Or.inl ⟨by kernel_rfl, ?yz12⟩) (by assumption) ?rz12
      case yz12 => (intro w' hSw; (try dsimp only at hSw); go_simp; (try with_reducible rfl))
      (try simp only [Act.put, List.getElem_toArray, List.getElem_cons_succ, List.getElem_cons_zero, List.setIfInBounds_toArray, List.set_cons_zero, List.set_cons_succ])
      refine anyE_take (i := 12) (v := ?vz13) rfl (by kernel_rfl) (by kernel_rfl) (by kernel_rfl) (by kernel_rfl) (by kernel_rfl) (fun _ _ _ h => h) (Or.inl ⟨by kernel_rfl, ?yz13⟩) (by assumption) ?rz13
      case yz13 => (intro w' hSw; (try dsimp only at hSw); go_simp; (try with_reducible rfl))
      (try simp only [Act.put, List.getElem_toArray, List.getElem_cons_succ, List.getElem_cons_zero, List.setIfInBounds_toArray, List.set_cons_zero, List.set_cons_succ])
      refine anyE_one (i := 13) (by kernel_rfl) (anyE_step rfl (fun K hK => ?_))
      go_simp
      refine hK.out _ _ (fun _ => ⟨k0, k1⟩) (fun hH => ?_)
      have hHeld := hH (by decide)
      clear hH
      clear hK K
      (try simp only [Act.put, List.getElem_toArray, List.getElem_cons_succ, List.getElem_cons_zero, List.setIfInBounds_toArray, List.set_cons_zero, List.set_cons_succ])
      refine anyE_one (i := 14) (by kernel_rfl) (anyE_step rfl (fun K hK => ?_))
      go_simp
      refine hK.out _ _ (fun h => absurd rfl h) (fun _ => ?_)
      clear hK K
      (try simp only [Act.put, List.getElem_toArray, List.getElem_cons_succ, List.getElem_cons_zero, List.setIfInBounds_toArray, List.set_cons_zero, List.set_cons_succ])
      refine anyE_done (by kernel_rfl) ?_ _
      refine NoPanic.normal ?_
      have hxb : Below w3.heap.size w3 (w3.alloc (.cells #[.int .i64 f, .int .i64 t, .int .i64 x1, .int .i64 x2] 59)).drew := ((Below.refl w3.heap.size w3).alloc (Nat.le_refl _) _).drew
      have hxr : BlkV (w3.alloc (.cells #[.int .i64 f, .int .i64 t, .int .i64 x1, .int .i64 x2] 59)).drew w3.heap.size 59 #[.int .i64 f, .int .i64 t, .int .i64 x1, .int .i64 x2] := BlkV.new w3 _ _
      generalize (w3.alloc (.cells #[.int .i64 f, .int .i64 t, .int .i64 x1, .int .i64 x2] 59)).drew = wx at hxb hxr ⊢
      have HXB := Lib.hid hxb
      have HXR0 := Lib.hid hxr
      have HOWNX := Lib.hid (HOWN2.out.below hxb)
      have HBKX := Lib.hid (HBK2.out.below hxb)
      obtain ⟨bX, hbX⟩ : ∃ b, w3.heap.size = b := ⟨_, rfl⟩
      have HBXS := Lib.hid hbX
      rw [hbX] at HXR0 ⊢
      obtain ⟨m2, hm2⟩ : ∃ m, D2.length = m := ⟨_, rfl⟩
      have HM2 := Lib.hid hm2
      rw [hm2] at HOWNX HBKX
      have hm2b : m2 ≤ 1000000 := by rw [← hm2]; exact HL.out.1
      have HNX := Lib.hid (show (Value.slice a2 m2 c2).ownBlock ≠ some bX from fun e => by
        have h1 := (World.ownsRow.lt HOWN2.out bX (by rw [hm2]; exact e)).2
        omega)
      have HGL := Lib.hid HBK2.out.lt
      clear hxb hxr k0 k1 p0 p1 hbX hm2 hb2
      have q0 := HBKX.out.two1
      go_wp2
      clear q0
      go_loopw [14] (fun j wr => ∃ k : Nat, k ≤ m2 ∧ j = .int .i64 k ∧ (D2.take k).contains ((f, t), (x1, x2)) = false ∧ Below wx.heap.size wx wr) (fun j _ => m2 - (intOf j).toNat)
      case atStart => exact ⟨0, Nat.zero_le _, rfl, rfl, Below.refl _ _⟩
      case round =>
        obtain ⟨k, hk, rfl, hno, hb⟩ := hrel
        have HNO := Lib.hid hno
        have HB := Lib.hid hb
        have HBR := Lib.hid (HBKX.out.below hb)
        have HXR := Lib.hid (HXR0.out.below hb)
        have HOWNR := Lib.hid (HOWNX.out.below hb)
        have z0 := HBR.out.two1
        have z1 := HXR.out.four0'
        have z2 := HXR.out.four1'
        have z3 := HXR.out.four2'
        have z4 := HXR.out.four3'
        clear hno hb
        by_cases hlt : k < m2
        · obtain ⟨b4, o4, f', t', u', z', rfl, hb4, hy, c0, c1, c3, c4⟩ := HOWNR.out.inDn.at_ (show k < D2.length by rw [HM2.out]; exact hlt)
          obtain ⟨b, hbd⟩ : ∃ b, decide ((((f', t'), (u', z')) : DN) = ((f, t), (x1, x2))) = b := ⟨_, rfl⟩
          have HBD := Lib.hid hbd
          have he := fun W => eql_dn f' t' u' z' f t x1 x2 b hbd W
          have hgd := fun x y xs ys W => geql_dn x y xs ys W
          have HY := Lib.hid hy
          have hki : (k : Int) < (m2 : Int) := by omega
          clear hy hbd hb4
          cases b
          · go_wp2_with (fail)
            go_quiet (fail)
            go_wp2
            go_roundw
            case rel =>
              refine ⟨k + 1, by omega, by go_num, ?_, HB.out.trans (dquiet_f _ _ _)⟩
              rw [List.take_add_one, HY.out]
              have h1 := HNO.out
              have h2 := of_decide_eq_false HBD.out
              simp only [List.contains_eq_mem, List.mem_append, decide_eq_false_iff_not] at h1 ⊢
              rintro (h | h)
              · exact h1 h
              · simp at h; exact h2 (by simp [h])
            case measure => simp [intOf]; omega
          · have hyx : D2[k]? = some ((f, t), (x1, x2)) := by rw [HY.out, of_decide_eq_true HBD.out]
            have hro := ref_old (x := ((f, t), (x1, x2))) (D := D2) HXX.out hyx HNO.out
            have hst := HST.out
            rw [hro] at hst
            obtain ⟨h1, h2⟩ := Prod.mk.inj hst
            have HX1 := Lib.hid (show x = (k : Int) + 2 from h1)
            have HD2 := Lib.hid (show D' = D2 from h2)
            clear hst hro hyx h1 h2
            go_wp2_with (fail)
            go_quiet (fail)
            go_wp2
            go_ret
            have e1 := HX1.out
            subst e1
            have e2 := HD2.out
            subst e2
            have e3 := HM2.out
            subst e3
            have hbq := HB.out.trans (dquiet_f wx.heap.size wr nq)
            exact ⟨_, c2, rfl, HBKX.out.below hbq, HOWNX.out.below hbq, (HF3.out.below HXB.out).below hbq⟩
        · obtain rfl : k = m2 := by omega
          have hnn : D2.contains ((f, t), (x1, x2)) = false := by have h := HNO.out; rwa [← HM2.out, List.take_length] at h
          have hrn := ref_new (x := ((f, t), (x1, x2))) (D := D2) HXX.out hnn
          have hst := HST.out
          rw [hrn] at hst
          obtain ⟨h1, h2⟩ := Prod.mk.inj hst
          have HX1 := Lib.hid (show x = (D2.length : Int) + 2 from h1)
          have HF := Lib.hid (show D2 ++ [((f, t), (x1, x2))] = D' from h2.symm)
          obtain ⟨m3, hm3⟩ : ∃ m, k + 1 = m := ⟨_, rfl⟩
          have HM3 := Lib.hid hm3
          have HWR := Lib.hid (show wx.heap.size ≤ wr.heap.size from HB.out.size)
          have HNAW := Lib.hid (show Below wr.heap.size wr (wr.alloc (.cells #[.int .i64 f, .int .i64 t, .int .i64 x1, .int .i64 x2] 59)).drew from ((Below.refl wr.heap.size wr).alloc (Nat.le_refl _) _).drew)
          have HAA := HNAW
          have HNA := Lib.hid (show BlkV (wr.alloc (.cells #[.int .i64 f, .int .i64 t, .int .i64 x1, .int .i64 x2] 59)).drew wr.heap.size 59 #[.int .i64 f, .int .i64 t, .int .i64 x1, .int .i64 x2] from BlkV.new wr _ _)
          have HOA := Lib.hid (HOWNR.out.below HAA.out)
          have HLOW := Lib.hid (fun q (hq : (Value.slice a2 k c2).ownBlock = some q) => show lo ≤ q ∧ q < wr.heap.size from World.ownsRow.lt HOWNR.out q hq)
          have HNE := Lib.hid (show (Value.slice a2 k c2).ownBlock ≠ some bX from HNX.out)
          have HSZA := Lib.hid (show lo ≤ (wr.alloc (.cells #[.int .i64 f, .int .i64 t, .int .i64 x1, .int .i64 x2] 59)).drew.heap.size from Nat.le_trans HLO.out (Nat.le_trans HF3.out.size (Nat.le_trans HXB.out.size (Nat.le_trans HB.out.size HAA.out.size))))
          have v0 := (HBR.out.below HAA.out).two1
          have v1 := (HXR.out.below HAA.out).four0'
          have v2 := (HXR.out.below HAA.out).four1'
          have v3 := (HXR.out.below HAA.out).four2'
          have v4 := (HXR.out.below HAA.out).four3'
          clear hst hrn hnn h1 h2 hm3
          go_wp2_with (fail)
          refine wp_region_noPanic ?_
          refine wp_region_E (S := fun w' => w'.cell? ⟨g, 1, none⟩ = some (.slice a2 k c2) ∧ w'.cell? ⟨bX, 0, none⟩ = some (.int .i64 f) ∧ w'.cell? ⟨bX, 1, none⟩ = some (.int .i64 t) ∧ w'.cell? ⟨bX, 2, none⟩ = some (.int .i64 x1) ∧ w'.cell? ⟨bX, 3, none⟩ = some (.int .i64 x2)) 10 (by kernel_rfl) (⟨z0, z1, z2, z3, z4⟩) (fun hHeld => ?_)
          refine anyE_take (i := 0) (v := ?vz14) rfl (by kernel_rfl) (by kernel_rfl) (by kernel_rfl) (by kernel_rfl) (by kernel_rfl) (fun _ _ _ h => h) (Or.inl ⟨by kernel_rfl, ?yz14⟩) (by assumption) ?rz14
          case yz14 => (intro w' hSw; (try dsimp only at hSw); go_simp; (try with_reducible rfl))
          (try simp only [Act.put, List.getElem_toArray, List.getElem_cons_succ, List.getElem_cons_zero, List.setIfInBounds_toArray, List.set_cons_zero, List.set_cons_succ])
          refine anyE_take (i := 1) (v := ?vz15) rfl (by kernel_rfl) (by kernel_rfl) (by kernel_rfl) (by kernel_rfl) (by kernel_rfl) (fun _ _ _ h => h) (Or.inl ⟨by kernel_rfl, ?yz15⟩) (by assumption) ?rz15
          case yz15 => (intro w' hSw; (try dsimp only at hSw); go_simp; (try with_reducible rfl))
          (try simp only [Act.put, List.getElem_toArray, List.getElem_cons_succ, List.getElem_cons_zero, List.setIfInBounds_toArray, List.set_cons_zero, List.set_cons_succ])
          refine anyE_take (i := 2) (v := ?vz16) rfl (by kernel_rfl) (by kernel_rfl) (by kernel_rfl) (by kernel_rfl) (by kernel_rfl) (fun _ _ _ h => h) (Or.inl ⟨by kernel_rfl, ?yz16⟩) (by assumption) ?rz16
          case yz16 => (intro w' hSw; (try dsimp only at hSw); go_simp; (try with_reducible rfl))
          (try simp only [Act.put, List.getElem_toArray, List.getElem_cons_succ, List.getElem_cons_zero, List.setIfInBounds_toArray, List.set_cons_zero, List.set_cons_succ])
          refine anyE_take (i := 3) (v := ?vz17) rfl (by kernel_rfl) (by kernel_rfl) (by kernel_rfl) (by kernel_rfl) (by kernel_rfl) (fun _ _ _ h => h) (Or.inl ⟨by kernel_rfl, ?yz17⟩) (by assumption) ?rz17
          case yz17 => (intro w' hSw; (try dsimp only at hSw); go_simp; (try with_reducible rfl))
          (try simp only [Act.put, List.getElem_toArray, List.getElem_cons_succ, List.getElem_cons_zero, List.setIfInBounds_toArray, List.set_cons_zero, List.set_cons_succ])
          refine anyE_take (i := 4) (v := ?vz18) rfl (by kernel_rfl) (by kernel_rfl) (by kernel_rfl) (by kernel_rfl) (by kernel_rfl) (fun _ _ _ h => h) (Or.inl ⟨by kernel_rfl, ?yz18⟩) (by assumption) ?rz18
          case yz18 => (intro w' hSw; (try dsimp only at hSw); go_simp; (try with_reducible rfl))
          (try simp only [Act.put, List.getElem_toArray, List.getElem_cons_succ, List.getElem_cons_zero, List.setIfInBounds_toArray, List.set_cons_zero, List.set_cons_succ])
          refine anyE_take (i := 5) (v := ?vz19) rfl (by kernel_rfl) (by kernel_rfl) (by kernel_rfl) (by kernel_rfl) (by kernel_rfl) (fun _ _ _ h => h) (Or.inl ⟨by kernel_rfl, ?yz19⟩) (by assumption) ?rz19
          case yz19 => (intro w' hSw; (try dsimp only at hSw); go_simp; (try with_reducible rfl))
          (try simp only [Act.put, List.getElem_toArray, List.getElem_cons_succ, List.getElem_cons_zero, List.setIfInBounds_toArray, List.set_cons_zero, List.set_cons_succ])
          refine anyE_one (i := 6) (by kernel_rfl) (anyE_step rfl (fun K hK => ?_))
          go_simp
          refine hK.out _ _ (fun _ => ⟨v0, v1, v2, v3, v4⟩) (fun hH => ?_)
          have hHeld := hH (by decide)
          clear hH
          clear hK K
          (try simp only [Act.put, List.getElem_toArray, List.getElem_cons_succ, List.getElem_cons_zero, List.setIfInBounds_toArray, List.set_cons_zero, List.set_cons_succ])
          refine anyE_one (i := 7) (by kernel_rfl) (anyE_step rfl (fun K hK => ?_))
          refine step_nodeP rfl (.tmp 81) (.tmp 83) rfl lo (.slice a2 k c2) D2 D' k m3 ((f, t), (x1, x2)) HOA.out rfl HF.out HM2.out HM3.out wr.heap.size rfl HNA.out (by omega) (by have := HSZA.out; omega) ?_
          intro g5 c5 w5 ho hg hat
          have HO5 := Lib.hid ho
          have HG5 := Lib.hid hg
          have HAT5 := Lib.hid hat
          have hB5 : BlkV w5 g 32 #[.int .i64 rt, .slice a2 k c2] := (hg.block g (Nat.lt_of_lt_of_le HBR.out.lt HAA.out.size) (fun e => by have := HLOW.out g e.symm; omega)).trans (HBR.out.below HAA.out)
          have hX5 : BlkV w5 bX 59 #[.int .i64 f, .int .i64 t, .int .i64 x1, .int .i64 x2] := (hg.block bX (Nat.lt_of_lt_of_le HXR.out.lt HAA.out.size) (fun e => HNE.out e.symm)).trans (HXR.out.below HAA.out)
          have y0 := hB5.two1
          have y1 := hX5.four0'
          have y2 := hX5.four1'
          have y3 := hX5.four2'
          have y4 := hX5.four3'
          have fg := hB5.frozen 1
          have HB5 := Lib.hid hB5
          clear ho hg hat hB5 hX5
          refine hK.out _ _ (fun _ => ⟨y0, y1, y2, y3, y4⟩) (fun hH => ?_)
          have hHeld := hH (by decide)
          clear hH
          clear hK K
          (try simp only [Act.put, List.getElem_toArray, List.getElem_cons_succ, List.getElem_cons_zero, List.setIfInBounds_toArray, List.set_cons_zero, List.set_cons_succ])
          refine anyE_take (i := 8) (v := ?vz20) rfl (by kernel_rfl) (by kernel_rfl) (by kernel_rfl) (by kernel_rfl) (by kernel_rfl) (fun _ _ _ h => h) (Or.inl ⟨by kernel_rfl, ?yz20⟩) (by assumption) ?rz20
          case yz20 => (intro w' hSw; (try dsimp only at hSw); go_simp; (try with_reducible rfl))
          (try simp only [Act.put, List.getElem_toArray, List.getElem_cons_succ, List.getElem_cons_zero, List.setIfInBounds_toArray, List.set_cons_zero, List.set_cons_succ])
          refine anyE_take (i := 9) (v := ?vz21) rfl (by kernel_rfl) (by kernel_rfl) (by kernel_rfl) (by kernel_rfl) (by kernel_rfl) (fun _ _ _ h => h) (Or.inl ⟨by kernel_rfl, ?yz21⟩) (by assumption) ?rz21
          case yz21 => (intro w' hSw; (try dsimp only at hSw); go_simp; (try with_reducible rfl))
          (try simp only [Act.put, List.getElem_toArray, List.getElem_cons_succ, List.getElem_cons_zero, List.setIfInBounds_toArray, List.set_cons_zero, List.set_cons_succ])
          refine anyE_one (i := 10) (by kernel_rfl) (anyE_step rfl (fun K hK => ?_))
          go_simp
          refine hK.out _ _ (fun h => absurd rfl h) (fun _ => ?_)
          clear hK K
          (try simp only [Act.put, List.getElem_toArray, List.getElem_cons_succ, List.getElem_cons_zero, List.setIfInBounds_toArray, List.set_cons_zero, List.set_cons_succ])
          refine anyE_done (by kernel_rfl) ?_ _
          refine NoPanic.normal ?_
          have hD3 : D'.length = m3 := by rw [← HF.out, ← HM3.out, ← HM2.out]; simp
          have hB6 : BlkV (w5.setCell ⟨g, 1, none⟩ (.slice (some ⟨g5, 0, none⟩) m3 c5)) g 32 #[.int .i64 rt, .slice (some ⟨g5, 0, none⟩) m3 c5] := HB5.out.set_ 1 (.slice (some ⟨g5, 0, none⟩) m3 c5)
          have hO6 := HO5.out.setCell ⟨g, 1, none⟩ (.slice (some ⟨g5, 0, none⟩) m3 c5) hgl
          have hF6 := (((((HF3.out.below HXB.out).below HB.out).below HAA.out).trans (show Fr _ _ g (.slice a2 D2.length c2) (.slice a2 k c2) from by rw [HM2.out]; exact Fr.refl _ _ _)).grown (v2 := .slice (some ⟨g5, 0, none⟩) m3 c5) HG5.out rfl HAT5.out).setg 1 (.slice (some ⟨g5, 0, none⟩) m3 c5)
          have HB6 := Lib.hid hB6
          have HO6 := Lib.hid hO6
          have HF6 := Lib.hid hF6
          have HD3 := Lib.hid hD3
          have HXE := Lib.hid (show (m3 : Int) + 1 = x by rw [HX1.out, HM2.out, ← HM3.out]; simp; omega)
          have hm3b : m3 ≤ 1000001 := by have := HM3.out; omega
          have q9 := hB6.two1
          clear hD3 hB6 hO6 hF6 y0 y1 y2 y3 y4 v0 v1 v2 v3 v4 z0 z1 z2 z3 z4 fg
          go_wp2
          go_ret
          refine ⟨some ⟨g5, 0, none⟩, c5, iret_int (by rw [← HXE.out]), ?_, ?_, ?_⟩
          · rw [HD3.out]; exact HB6.out
          · rw [HD3.out]; exact HO6.out
          · rw [HD3.out]; exact HF6.out

end Go.Proofs.YtpmfabpnjacegaaGreatDoor

