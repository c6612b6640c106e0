/-
  What spec.l14Rules draws: one to four rules, the first of at least one test. By an AI agent.
-/
import Derived.Test.YtpmfabpnjacegaaGreatDoorAny14
import Derived.Test.YtpmfabpnjacegaaGreatDoorGQ18
import Derived.Test.YtpmfabpnjacegaaGreatDoorGQ4
namespace Go.Proofs.YtpmfabpnjacegaaGreatDoor
open Go.RowKit
set_option linter.unusedVariables false
set_option linter.unusedSimpArgs false
set_option linter.unnecessarySimpa false

theorem rules_more {q : List XU} {T : List TS} {v : Value} (h : ∀ l ∈ rulesU q, 1 ≤ l.length ∧ l.length ≤ 3) (h1 : 1 ≤ T.length) (h2 : T.length ≤ 3) : ∀ l ∈ rulesU (q ++ [(T, v)]), 1 ≤ l.length ∧ l.length ≤ 3 := by
  intro l hl
  unfold rulesU at hl h
  rw [List.map_append, List.mem_append] at hl
  rcases hl with hl | hl
  · exact h l hl
  · simp at hl
    subst hl
    exact ⟨h1, h2⟩
theorem rules_small {R : List (List TS)} (h : ∀ l ∈ R, 1 ≤ l.length ∧ l.length ≤ 3) (h1 : 1 ≤ R.length) (h2 : R.length ≤ 3) : SmallR R :=
  ⟨h1, by omega, fun l hl => (h l hl).2, fun l hl => (h l (List.mem_of_getElem? hl)).1⟩

set_option maxRecDepth 100000 in
set_option maxHeartbeats 8000000 in
theorem rules_any (B c : Nat) (w : World) (hcur : Cur w B c) : Calls Tryz.prog 52 #[.pointer (some ⟨c, 0, none⟩)] w (SomeRs w B c) := by
  obtain ⟨i0, hi, hz0, hz1, hz2⟩ := info_parts info_ru
  obtain ⟨w1, hw1⟩ : ∃ w1, w.alloc (.cells #[.slice none 0 0] 26) = w1 := ⟨_, rfl⟩
  have HBX := Lib.hid (show BlkV w1 w.heap.size 26 #[.slice none 0 0] by rw [← hw1]; exact BlkV.new _ _ _)
  have HC1 := Lib.hid (show Cur w1 B c by rw [← hw1]; exact hcur.alloc _)
  have HLT := Lib.hid hcur.lt
  have HZ1 := Lib.hid (show w1.heap.size = w.heap.size + 1 by rw [← hw1]; simp)
  have HG1 := Lib.hid (show w.grownBy w1 (some c) by rw [← hw1]; exact World.grownBy_alloc _ _ _)
  have HWE := Lib.hid hw1
  clear hcur hw1
  go_enter Tryz.func52, Tryz.ntmps52
  go_wp2_with (go_at_call 80; rw [HWE.out]; ((refine (l1Once_any B c _ _ HC1.out (by omega) (by omega)).mono ?_); rintro e w2 ⟨b, rfl, hc2, hg2⟩; refine Hid.out ?_))
  have HC2 := Lib.hid hc2
  have HG2 := Lib.hid (grown_trans HG1.out hg2)
  have HX2 := Lib.hid (show BlkV w2 w.heap.size 26 #[.slice none 0 0] from (hg2.block w.heap.size (by have := HZ1.out; omega) (by intro e; injection e with e; have := HLT.out; omega)).trans HBX.out)
  have HZ2 := Lib.hid (show w.heap.size + 1 ≤ w2.heap.size by have := HZ1.out; have := hg2.size; omega)
  clear hc2 hg2
  cases b
  case true =>
    refine Lib.hid ?_
    go_wp2_with (go_at_call 81; ((refine (known_any B c _ HC2.out).mono ?_); rintro e w3 ⟨R, a, cap, q, rfl, hq, ho, hsm, hc3, hg3⟩; refine Hid.out ?_))
    have h3 : BlkV w3 w.heap.size 26 #[.slice none 0 0] := (hg3.block w.heap.size HX2.out.lt (by intro e; injection e with e; have := HLT.out; omega)).trans HX2.out
    have c30 : w3.cell? ⟨w.heap.size, 0, none⟩ = some (.slice none 0 0) := h3.cell 0
    have f30 := h3.frozen 0
    have HX3 := Lib.hid h3
    have HO := Lib.hid ho
    have HQ := Lib.hid hq
    have HSM := Lib.hid hsm
    have HC3 := Lib.hid hc3
    have HG3 := Lib.hid (grown_trans HG2.out hg3)
    clear h3 ho hq hsm hc3 hg3
    have hup : ∀ k, some w.heap.size = some k → w.heap.size ≤ k := fun k hk => by injection hk with hk; omega
    refine Lib.hid ?_
    go_wp2
    have e0 : _ = some (Value.slice a R.length cap) := (HX3.out.set_ 0 (.slice a R.length cap)).cell 0
    have hst := egrown_set w3 w.heap.size 0 (.slice a R.length cap)
    have hz2 := HZ2.out
    refine bodyPost_ret (v := .agg #[.slice a R.length cap]) (by simp [results, Tryz.results52, go_sem, e0]) rfl ⟨R, a, cap, q, rfl, HQ.out, ?_, HSM.out, ?_, grown_up HG3.out hst hup⟩
    · exact (HO.out.setc ⟨w.heap.size, 0, none⟩ _ (by show w.heap.size < _; omega)).mono (by omega)
    · exact HC3.out.below ((Below.refl w.heap.size _).grown hst (by have := HX3.out.lt; omega) hup) HLT.out
  case false =>
    obtain ⟨w3, hw3⟩ : ∃ w3, w2.alloc (.cells #[.slice none 0 0] 26) = w3 := ⟨_, rfl⟩
    have HWE3 := Lib.hid hw3
    have HX3 := Lib.hid (show BlkV w3 w.heap.size 26 #[.slice none 0 0] by rw [← hw3]; exact HX2.out.alloc _)
    have HY3 := Lib.hid (show BlkV w3 w2.heap.size 26 #[.slice none 0 0] by rw [← hw3]; exact BlkV.new _ _ _)
    have HC3 := Lib.hid (show Cur w3 B c by rw [← hw3]; exact HC2.out.alloc _)
    have HG3 := Lib.hid (show w.grownBy w3 (some c) by rw [← hw3]; exact grown_trans HG2.out (grown_alloc w2 _ c))
    have HZ3 := Lib.hid (show w3.heap.size = w2.heap.size + 1 by rw [← hw3]; simp)
    clear hw3
    refine Lib.hid ?_
    go_wp2_with (go_at_call 53; rw [HWE3.out]; ((refine (l1Below_any B c _ _ HC3.out (by omega) (by omega)).mono ?_); rintro e w4 ⟨x, rfl, hx0, hx1, hc4, hg4⟩; refine Hid.out ?_))
    obtain ⟨k, rfl⟩ := Int.eq_ofNat_of_zero_le hx0
    have hx4 : BlkV w4 w.heap.size 26 #[.slice none 0 0] := (hg4.block w.heap.size HX3.out.lt (by intro e; injection e with e; have := HLT.out; omega)).trans HX3.out
    have hy4 : BlkV w4 w2.heap.size 26 #[.slice none 0 0] := (hg4.block w2.heap.size HY3.out.lt (by intro e; injection e with e; have := HLT.out; have := HZ2.out; omega)).trans HY3.out
    have HC4 := Lib.hid hc4
    have HG4 := Lib.hid (grown_trans HG3.out hg4)
    obtain ⟨b3, hb3⟩ : ∃ b3, w2.heap.size = b3 := ⟨_, rfl⟩
    obtain ⟨b2, hb2⟩ : ∃ b2, w.heap.size = b2 := ⟨_, rfl⟩
    have HBE := Lib.hid hb2
    have HBB := Lib.hid (show c < b2 ∧ b2 < b3 ∧ b3 < w4.heap.size by have := HLT.out; have := HZ2.out; have := hy4.lt; omega)
    rw [hb3] at hy4 ⊢
    rw [hb2] at hx4 ⊢
    have HX4 := Lib.hid hx4
    have HY4 := Lib.hid hy4
    clear hc4 hg4 hx4 hy4 hb3 hb2
    have hk2 : k ≤ 2 := by omega
    refine Lib.hid ?_
    go_wp2_with (fail)
    go_loopw [4] (fun i wr => ∃ (n : Nat) (q : List XU) (a : Option Addr) (c3 : Nat), i = .int .i64 n ∧ q.length + n ≤ 3 ∧ 1 ≤ q.length + n ∧ (∀ l ∈ rulesU q, 1 ≤ l.length ∧ l.length ≤ 3) ∧ BlkV wr b3 26 #[.slice a q.length c3] ∧ OwnRu wr (b3 + 1) (.slice a q.length c3) q ∧ Cur wr B c ∧ w.grownBy wr (some c) ∧ BlkV wr b2 26 #[.slice none 0 0]) (fun i _ => (intOf i).toNat)
    case atStart => exact ⟨1 + k, [], none, 0, by go_num, by first | (simp; done) | (simp; omega), by first | (simp; done) | (simp; omega), (fun l hl => by cases hl), HY4.out, OwnRu.nil _ _, HC4.out, HG4.out, HX4.out⟩
    case round =>
      obtain ⟨n, q, a, c3, rfl, hm3, hm1, hall, hy, hou, hcu, hgr, hx⟩ := hrel
      obtain ⟨ws, hws⟩ : ∃ x, x = wr := ⟨_, rfl⟩
      subst hws
      have HYS := Lib.hid hy
      have HXS := Lib.hid hx
      have HOUS := Lib.hid (OwnHRu.of hou)
      have HCS := Lib.hid hcu
      have HGS := Lib.hid hgr
      have HALL := Lib.hid hall
      clear hy hx hou hcu hgr hall
      by_cases hn : 0 < n
      · have hni : 0 < (n : Int) := by omega
        obtain ⟨b5, hb5⟩ : ∃ b5, ws.heap.size = b5 := ⟨_, rfl⟩
        have HB5 := Lib.hid hb5
        have HNB := Lib.hid (show BlkV (ws.alloc (.cells #[.slice none 0 0] 66)) b5 66 #[.slice none 0 0] by rw [← hb5]; exact BlkV.new _ _ _)
        have HCA0 := Lib.hid (HCS.out.alloc (.cells #[.slice none 0 0] 66))
        have HGA0 := Lib.hid (grown_alloc ws (.cells #[.slice none 0 0] 66) c)
        have HCB := Lib.hid (show c < b5 ∧ b3 < b5 ∧ b2 < b5 by have := HYS.out.lt; have := HBB.out; omega)
        go_wp2_with (fail)
        (try rw [hb5])
        clear hb5
        go_loopw [6] (fun i wo => ∃ (f : Nat) (T : List TS) (a5 : Option Addr) (c5 j : Nat), f ≤ 6 ∧ i = .int .i64 f ∧ T.length = j ∧ j ≤ 3 ∧ (f = 6 → 1 ≤ j) ∧ BlkV wo b5 66 #[.slice a5 j c5] ∧ OwnTs wo (b5 + 1) (.slice a5 j c5) T ∧ Cur wo B c ∧ ws.grownBy wo (some c)) (fun i _ => 6 - (intOf i).toNat)
        case atStart => exact ⟨0, [], none, 0, 0, by omega, rfl, rfl, by omega, by omega, HNB.out, OwnTs.nil _ _, HCA0.out, HGA0.out⟩
        case round =>
          obtain ⟨f, T, a5, c5, j, hf, rfl, hTj, hj3, hfj, hbx, hot, hcu, hgr⟩ := hrel
          have C5r : wr.cell? ⟨b5, 0, none⟩ = some (.slice a5 j c5) := hbx.cell 0
          have HBXR := Lib.hid hbx
          have HOTR := Lib.hid hot
          have HCR := Lib.hid hcu
          have HGR := Lib.hid hgr
          have HTL := Lib.hid hTj
          clear hbx hot hcu hgr hTj
          by_cases hf6 : f < 6
          · have hf6i : (f : Int) < 6 := by omega
            by_cases hj : j < 3
            · have hji : (j : Int) < 3 := by omega
              go_wp2_with (go_at_call 80; ((refine (l1Once_any B c _ _ HCR.out (by omega) (by omega)).mono ?_); rintro e wo ⟨bb, rfl, hco, hgo⟩; refine Hid.out ?_))
              have hbxo : BlkV wo b5 66 #[.slice a5 j c5] := (hgo.block b5 HBXR.out.lt (fun e => by injection e with e; have := HCB.out; omega)).trans HBXR.out
              have c5o : wo.cell? ⟨b5, 0, none⟩ = some (.slice a5 j c5) := hbxo.cell 0
              have HBXO := Lib.hid hbxo
              have HCO := Lib.hid hco
              have HGO := Lib.hid (grown_trans HGR.out hgo)
              have HOTO := Lib.hid (show OwnTs wo (b5 + 1) (.slice a5 j c5) T from row_keptO HOTR.out hgo (fun k hk e => by injection hk with hk; have h1 := (World.ownsRow.lt HOTR.out k e).1; have := HCB.out; omega))
              have HBOS := Lib.hid (show b5 < wo.heap.size from hbxo.lt)
              clear hbxo hco hgo C5r
              have hcase : bb = true ∨ (bb = false ∧ f = 5 ∧ j = 0) ∨ (bb = false ∧ f = 5 ∧ j ≠ 0) ∨ (bb = false ∧ f ≠ 5) := by
                cases bb
                · by_cases h5 : f = 5
                  · by_cases h0 : j = 0
                    · exact .inr (.inl ⟨rfl, h5, h0⟩)
                    · exact .inr (.inr (.inl ⟨rfl, h5, h0⟩))
                  · exact .inr (.inr (.inr ⟨rfl, h5⟩))
                · exact .inl rfl
              rcases hcase with rfl | ⟨rfl, h5, h0⟩ | ⟨rfl, h5, h0⟩ | ⟨rfl, h5⟩
              case inr.inr.inl =>
                have e5 : ((f : Int) == 5) = true := by simp; omega
                have e0 : ((j : Int) == 0) = false := by simp; omega
                refine Lib.hid ?_
                go_wp2
                go_roundw
                case rel => exact ⟨f + 1, T, a5, c5, j, by omega, by go_num, HTL.out, hj3, fun _ => by omega, HBXO.out, HOTO.out, HCO.out, HGO.out⟩
                case measure => simp [intOf]; omega
              case inr.inr.inr =>
                have e5 : ((f : Int) == 5) = false := by simp; omega
                refine Lib.hid ?_
                go_wp2
                go_roundw
                case rel => exact ⟨f + 1, T, a5, c5, j, by omega, by go_num, HTL.out, hj3, fun _ => by omega, HBXO.out, HOTO.out, HCO.out, HGO.out⟩
                case measure => simp [intOf]; omega
              case inl =>
                clear hf6i
                have hWA : Below wo.heap.size wo (wo.drew.alloc (.cells #[.int .i64 500, .int .i64 700, .int .i64 800, .int .i64 1000] 3)) := ((Below.refl wo.heap.size wo).drew).alloc (Nat.le_refl _) _
                have HBXA := Lib.hid (HBXO.out.below hWA)
                have xA := HBXA.out.cell 0
                have HCA := Lib.hid (show Cur (wo.drew.alloc (.cells #[.int .i64 500, .int .i64 700, .int .i64 800, .int .i64 1000] 3)) B c from HCO.out.alloc _)
                have HGA := Lib.hid (grown_cur HGO.out hWA)
                have HOTA := Lib.hid (HOTO.out.below hWA)
                have HLIT := Lib.hid (show ∀ j, j < 4 → ∃ z : Int, -9223372036854775808 ≤ z ∧ z ≤ 9223372036854775807 ∧ (wo.drew.alloc (.cells #[.int .i64 500, .int .i64 700, .int .i64 800, .int .i64 1000] 3)).cell? ⟨wo.heap.size, j, none⟩ = some (.int .i64 z) from lit_cells wo.drew [500, 700, 800, 1000] (by decide))
                have C5 := Lib.hid c5o
                have HCB2 := HCB
                clear HCB
                have HCB := Lib.hid (show c < b5 ∧ b3 < b5 ∧ b2 < b5 ∧ b5 < wo.heap.size by have := HCB2.out; have := HBOS.out; omega)
                obtain ⟨nF, hnF⟩ : ∃ n, j + 1 = n := ⟨_, rfl⟩
                have HNF := Lib.hid hnF
                have hnF1 : 1 ≤ nF ∧ nF ≤ 3 := by omega
                clear hWA hnF
                refine Lib.hid ?_
                go_wp2_with (fail)
                refine wp_region_noPanic ?_
                refine wp_region_E (S := fun w' => w'.cell? ⟨b5, 0, none⟩ = some (.slice a5 j c5)) 12 (by kernel_rfl) (C5.out) (fun hHeld => ?_)
                refine anyE_take (i := 0) (v := ?vz1) rfl (by kernel_rfl) (by kernel_rfl) (by kernel_rfl) (by kernel_rfl) (by kernel_rfl) (fun _ _ _ h => h) (Or.inl ⟨by kernel_rfl, ?yz1⟩) (by assumption) ?rz1
                case yz1 => (intro w' hSw; (try dsimp only at hSw); go_simp; (try with_reducible rfl))
                (try simp only [Act.put, List.getElem_toArray, List.getElem_cons_succ, List.getElem_cons_zero, List.setIfInBounds_toArray, List.set_cons_zero, List.set_cons_succ])
                refine anyE_take (i := 1) (v := ?vz2) rfl (by kernel_rfl) (by kernel_rfl) (by kernel_rfl) (by kernel_rfl) (by kernel_rfl) (fun _ _ _ h => h) (Or.inl ⟨by kernel_rfl, ?yz2⟩) (by assumption) ?rz2
                case yz2 => (intro w' hSw; (try dsimp only at hSw); go_simp; (try with_reducible rfl))
                (try simp only [Act.put, List.getElem_toArray, List.getElem_cons_succ, List.getElem_cons_zero, List.setIfInBounds_toArray, List.set_cons_zero, List.set_cons_succ])
                refine anyE_take (i := 2) (v := ?vz3) rfl (by kernel_rfl) (by kernel_rfl) (by kernel_rfl) (by kernel_rfl) (by kernel_rfl) (fun _ _ _ h => h) (Or.inl ⟨by kernel_rfl, ?yz3⟩) (by assumption) ?rz3
                case yz3 => (intro w' hSw; (try dsimp only at hSw); go_simp; (try with_reducible rfl))
                (try simp only [Act.put, List.getElem_toArray, List.getElem_cons_succ, List.getElem_cons_zero, List.setIfInBounds_toArray, List.set_cons_zero, List.set_cons_succ])
                refine anyE_take (i := 3) (v := ?vz4) rfl (by kernel_rfl) (by kernel_rfl) (by kernel_rfl) (by kernel_rfl) (by kernel_rfl) (fun _ _ _ h => h) (Or.inl ⟨by kernel_rfl, ?yz4⟩) (by assumption) ?rz4
                case yz4 => (intro w' hSw; (try dsimp only at hSw); go_simp; (try with_reducible rfl))
                (try simp only [Act.put, List.getElem_toArray, List.getElem_cons_succ, List.getElem_cons_zero, List.setIfInBounds_toArray, List.set_cons_zero, List.set_cons_succ])
                refine anyE_take (i := 6) (v := ?vz5) rfl (by kernel_rfl) (by kernel_rfl) (by kernel_rfl) (by kernel_rfl) (by kernel_rfl) (fun _ _ _ h => h) (Or.inl ⟨by kernel_rfl, ?yz5⟩) (by assumption) ?rz5
                case yz5 => (intro w' hSw; (try dsimp only at hSw); go_simp; (try with_reducible rfl))
                (try simp only [Act.put, List.getElem_toArray, List.getElem_cons_succ, List.getElem_cons_zero, List.setIfInBounds_toArray, List.set_cons_zero, List.set_cons_succ])
                refine anyE_one (i := 4) (by kernel_rfl) (anyE_step rfl (fun K hK => ?_))
                go_simp
                refine hK.out _ _ (fun _ => xA) (fun hH => ?_)
                have hHeld := hH (by decide)
                clear hH
                clear hK K
                (try simp only [Act.put, List.getElem_toArray, List.getElem_cons_succ, List.getElem_cons_zero, List.setIfInBounds_toArray, List.set_cons_zero, List.set_cons_succ])
                refine anyE_one (i := 5) (by kernel_rfl) (anyE_step rfl (fun K hK => ?_))
                go_simp
                go_wp2_with (go_at_call 54; ((refine (l1PickInt_any B c wo.heap.size 4 _ HCA.out (by omega) (by omega) (by have := HCB.out; omega) HLIT.out).mono ?_); rintro e w5 ⟨y, rfl, hy0, hy1, hc5, hg5⟩))
                have HC5 := Lib.hid hc5
                have HG5 := Lib.hid (grown_trans HGA.out hg5)
                have HBX5 := Lib.hid (show BlkV w5 b5 66 #[.slice a5 j c5] from (hg5.block b5 HBXA.out.lt (fun e => by injection e with e; have := HCB.out; omega)).trans HBXA.out)
                have HOT5 := Lib.hid (row_keptO HOTA.out hg5 (fun k hk e => by injection hk with hk; have h1 := (World.ownsRow.lt HOTA.out k e).1; have := HCB.out; omega))
                have x5 := HBX5.out.cell 0
                clear hc5 hg5
                refine hK.out _ _ (fun _ => x5) (fun hH => ?_)
                have hHeld := hH (by decide)
                clear hH
                clear hK K
                (try simp only [Act.put, List.getElem_toArray, List.getElem_cons_succ, List.getElem_cons_zero, List.setIfInBounds_toArray, List.set_cons_zero, List.set_cons_succ])
                refine anyE_one (i := 7) (by kernel_rfl) (anyE_step rfl (fun K hK => ?_))
                go_simp
                go_wp2_with (go_at_call 80; ((refine (l1Once_any B c _ _ HC5.out (by omega) (by omega)).mono ?_); rintro e w7 ⟨z, rfl, hc7, hg7⟩))
                have HC7 := Lib.hid (hc7.alloc (.cells #[.int .i64 f, .int .i64 y, .bool z] 86))
                have HG7 := Lib.hid (grown_trans (grown_trans HG5.out hg7) (grown_alloc w7 (.cells #[.int .i64 f, .int .i64 y, .bool z] 86) c))
                have hbx7 : BlkV w7 b5 66 #[.slice a5 j c5] := (hg7.block b5 HBX5.out.lt (fun e => by injection e with e; have := HCB.out; omega)).trans HBX5.out
                have x7 : w7.cell? ⟨b5, 0, none⟩ = some (.slice a5 j c5) := hbx7.cell 0
                have HBX8 := Lib.hid (hbx7.alloc (.cells #[.int .i64 f, .int .i64 y, .bool z] 86))
                have x8 : (w7.alloc (.cells #[.int .i64 f, .int .i64 y, .bool z] 86)).cell? ⟨b5, 0, none⟩ = some (.slice a5 j c5) := HBX8.out.cell 0
                have HOT8 := Lib.hid (show OwnTs (w7.alloc (.cells #[.int .i64 f, .int .i64 y, .bool z] 86)) (b5 + 1) (.slice a5 j c5) T from OwnTs.alloc (row_keptO HOT5.out hg7 (fun k hk e => by injection hk with hk; have h1 := (World.ownsRow.lt HOT5.out k e).1; have := HCB.out; omega)) _)
                have HN8 := Lib.hid (BlkV.new w7 86 #[.int .i64 f, .int .i64 y, .bool z])
                have HZ8 := Lib.hid (show b5 + 1 ≤ (w7.alloc (.cells #[.int .i64 f, .int .i64 y, .bool z] 86)).heap.size by have := HBX8.out.lt; omega)
                clear hc7 hg7 hbx7
                refine hK.out _ _ (fun _ => x7) (fun hH => ?_)
                have hHeld := hH (by decide)
                clear hH
                clear hK K
                (try simp only [Act.put, List.getElem_toArray, List.getElem_cons_succ, List.getElem_cons_zero, List.setIfInBounds_toArray, List.set_cons_zero, List.set_cons_succ])
                refine anyE_take (i := 8) (v := ?vz6) rfl (by kernel_rfl) (by kernel_rfl) (by kernel_rfl) (by kernel_rfl) (by kernel_rfl) (fun _ _ _ h => h) (Or.inl ⟨by kernel_rfl, ?yz6⟩) (by assumption) ?rz6
                case yz6 => (intro w' hSw; (try dsimp only at hSw); go_simp; (try with_reducible rfl))
                (try simp only [Act.put, List.getElem_toArray, List.getElem_cons_succ, List.getElem_cons_zero, List.setIfInBounds_toArray, List.set_cons_zero, List.set_cons_succ])
                refine anyE_one (i := 9) (by kernel_rfl) (anyE_step rfl (fun K hK => ?_))
                go_simp
                refine hK.out _ _ (fun _ => x8) (fun hH => ?_)
                have hHeld := hH (by decide)
                clear hH
                clear hK K
                (try simp only [Act.put, List.getElem_toArray, List.getElem_cons_succ, List.getElem_cons_zero, List.setIfInBounds_toArray, List.set_cons_zero, List.set_cons_succ])
                refine anyE_one (i := 10) (by kernel_rfl) (anyE_step rfl (fun K hK => ?_))
                refine step_testP rfl (.tmp 43) (.tmp 51) rfl (b5 + 1) (.slice a5 j c5) T (T ++ [(((f : Int), y), z)]) j nF (((f : Int), y), z) HOT8.out rfl rfl HTL.out HNF.out w7.heap.size rfl HN8.out (by omega) HZ8.out ?_
                intro g5 c6 w9 ho hg hat
                have HO9 := Lib.hid ho
                have HT9 := Lib.hid (fun q hq => (World.ownsRow.lt HOT8.out q hq).1)
                have hbx9 : BlkV w9 b5 66 #[.slice a5 j c5] := (hg.block b5 HBX8.out.lt (fun e => by have := HT9.out b5 e.symm; omega)).trans HBX8.out
                have HBX9 := Lib.hid hbx9
                have x9 : w9.cell? ⟨b5, 0, none⟩ = some (.slice a5 j c5) := hbx9.cell 0
                have rf := hbx9.frozen 0
                have HG9 := Lib.hid (grown_up HG7.out hg (fun k hk => by have := HT9.out k hk; have := HB5.out; omega))
                have HC9 := Lib.hid (HC7.out.below ((Below.refl (c + 1) _).grown hg (by have := HC7.out.lt; omega) (fun k hk => by have := HT9.out k hk; have := HCB.out; omega)) (by omega))
                clear ho hg hat hbx9
                refine hK.out _ _ (fun _ => x9) (fun hH => ?_)
                have hHeld := hH (by decide)
                clear hH
                clear hK K
                (try simp only [Act.put, List.getElem_toArray, List.getElem_cons_succ, List.getElem_cons_zero, List.setIfInBounds_toArray, List.set_cons_zero, List.set_cons_succ])
                refine anyE_take (i := 11) (v := ?vz7) rfl (by kernel_rfl) (by kernel_rfl) (by kernel_rfl) (by kernel_rfl) (by kernel_rfl) (fun _ _ _ h => h) (Or.inl ⟨by kernel_rfl, ?yz7⟩) (by assumption) ?rz7
                case yz7 => (intro w' hSw; (try dsimp only at hSw); go_simp; (try with_reducible rfl))
                (try simp only [Act.put, List.getElem_toArray, List.getElem_cons_succ, List.getElem_cons_zero, List.setIfInBounds_toArray, List.set_cons_zero, List.set_cons_succ])
                refine anyE_one (i := 12) (by kernel_rfl) (anyE_step rfl (fun K hK => ?_))
                go_simp
                refine hK.out _ _ (fun h => absurd rfl h) (fun _ => ?_)
                clear hK K
                (try simp only [Act.put, List.getElem_toArray, List.getElem_cons_succ, List.getElem_cons_zero, List.setIfInBounds_toArray, List.set_cons_zero, List.set_cons_succ])
                refine anyE_done (by kernel_rfl) ?_ _
                refine NoPanic.normal ?_
                go_wp2
                go_roundw
                case rel =>
                  have hst := egrown_set w9 b5 0 (.slice (some ⟨g5, 0, none⟩) nF c6)
                  refine ⟨f + 1, T ++ [(((f : Int), y), z)], some ⟨g5, 0, none⟩, c6, nF, by omega, by go_num, by rw [List.length_append, HTL.out]; exact HNF.out, by omega, fun _ => by omega, HBX9.out.set_ 0 _, ?_, ?_, ?_⟩
                  · exact row_setCell HO9.out _ _ (by show b5 < _; omega)
                  · exact HC9.out.below ((Below.refl (c + 1) _).grown hst (by have := HC9.out.lt; omega) (fun k hk => by injection hk with hk; have := HCB.out; omega)) (by omega)
                  · exact grown_up HG9.out hst (fun k hk => by injection hk with hk; have := HB5.out; omega)
                case measure => simp [intOf]; omega
              case inr.inl =>
                have e5 : ((f : Int) == 5) = true := by simp; omega
                have e0 : ((j : Int) == 0) = true := by simp; omega
                clear h5 h0
                clear hf6i
                have hWA : Below wo.heap.size wo (wo.drew.alloc (.cells #[.int .i64 500, .int .i64 700, .int .i64 800, .int .i64 1000] 3)) := ((Below.refl wo.heap.size wo).drew).alloc (Nat.le_refl _) _
                have HBXA := Lib.hid (HBXO.out.below hWA)
                have xA := HBXA.out.cell 0
                have HCA := Lib.hid (show Cur (wo.drew.alloc (.cells #[.int .i64 500, .int .i64 700, .int .i64 800, .int .i64 1000] 3)) B c from HCO.out.alloc _)
                have HGA := Lib.hid (grown_cur HGO.out hWA)
                have HOTA := Lib.hid (HOTO.out.below hWA)
                have HLIT := Lib.hid (show ∀ j, j < 4 → ∃ z : Int, -9223372036854775808 ≤ z ∧ z ≤ 9223372036854775807 ∧ (wo.drew.alloc (.cells #[.int .i64 500, .int .i64 700, .int .i64 800, .int .i64 1000] 3)).cell? ⟨wo.heap.size, j, none⟩ = some (.int .i64 z) from lit_cells wo.drew [500, 700, 800, 1000] (by decide))
                have C5 := Lib.hid c5o
                have HCB2 := HCB
                clear HCB
                have HCB := Lib.hid (show c < b5 ∧ b3 < b5 ∧ b2 < b5 ∧ b5 < wo.heap.size by have := HCB2.out; have := HBOS.out; omega)
                obtain ⟨nF, hnF⟩ : ∃ n, j + 1 = n := ⟨_, rfl⟩
                have HNF := Lib.hid hnF
                have hnF1 : 1 ≤ nF ∧ nF ≤ 3 := by omega
                clear hWA hnF
                refine Lib.hid ?_
                go_wp2_with (fail)
                clear e5 e0
                refine wp_region_noPanic ?_
                refine wp_region_E (S := fun w' => w'.cell? ⟨b5, 0, none⟩ = some (.slice a5 j c5)) 12 (by kernel_rfl) (C5.out) (fun hHeld => ?_)
                refine anyE_take (i := 0) (v := ?vz8) rfl (by kernel_rfl) (by kernel_rfl) (by kernel_rfl) (by kernel_rfl) (by kernel_rfl) (fun _ _ _ h => h) (Or.inl ⟨by kernel_rfl, ?yz8⟩) (by assumption) ?rz8
                case yz8 => (intro w' hSw; (try dsimp only at hSw); go_simp; (try with_reducible rfl))
                (try simp only [Act.put, List.getElem_toArray, List.getElem_cons_succ, List.getElem_cons_zero, List.setIfInBounds_toArray, List.set_cons_zero, List.set_cons_succ])
                refine anyE_take (i := 1) (v := ?vz9) rfl (by kernel_rfl) (by kernel_rfl) (by kernel_rfl) (by kernel_rfl) (by kernel_rfl) (fun _ _ _ h => h) (Or.inl ⟨by kernel_rfl, ?yz9⟩) (by assumption) ?rz9
                case yz9 => (intro w' hSw; (try dsimp only at hSw); go_simp; (try with_reducible rfl))
                (try simp only [Act.put, List.getElem_toArray, List.getElem_cons_succ, List.getElem_cons_zero, List.setIfInBounds_toArray, List.set_cons_zero, List.set_cons_succ])
                refine anyE_take (i := 2) (v := ?vz10) rfl (by kernel_rfl) (by kernel_rfl) (by kernel_rfl) (by kernel_rfl) (by kernel_rfl) (fun _ _ _ h => h) (Or.inl ⟨by kernel_rfl, ?yz10⟩) (by assumption) ?rz10
                case yz10 => (intro w' hSw; (try dsimp only at hSw); go_simp; (try with_reducible rfl))
                (try simp only [Act.put, List.getElem_toArray, List.getElem_cons_succ, List.getElem_cons_zero, List.setIfInBounds_toArray, List.set_cons_zero, List.set_cons_succ])
                refine anyE_take (i := 3) (v := ?vz11) rfl (by kernel_rfl) (by kernel_rfl) (by kernel_rfl) (by kernel_rfl) (by kernel_rfl) (fun _ _ _ h => h) (Or.inl ⟨by kernel_rfl, ?yz11⟩) (by assumption) ?rz11
                case yz11 => (intro w' hSw; (try dsimp only at hSw); go_simp; (try with_reducible rfl))
                (try simp only [Act.put, List.getElem_toArray, List.getElem_cons_succ, List.getElem_cons_zero, List.setIfInBounds_toArray, List.set_cons_zero, List.set_cons_succ])
                refine anyE_take (i := 6) (v := ?vz12) rfl (by kernel_rfl) (by kernel_rfl) (by kernel_rfl) (by kernel_rfl) (by kernel_rfl) (fun _ _ _ h => h) (Or.inl ⟨by kernel_rfl, ?yz12⟩) (by assumption) ?rz12
                case yz12 => (intro w' hSw; (try dsimp only at hSw); go_simp; (try with_reducible rfl))
                (try simp only [Act.put, List.getElem_toArray, List.getElem_cons_succ, List.getElem_cons_zero, List.setIfInBounds_toArray, List.set_cons_zero, List.set_cons_succ])
                refine anyE_one (i := 4) (by kernel_rfl) (anyE_step rfl (fun K hK => ?_))
                go_simp
                refine hK.out _ _ (fun _ => xA) (fun hH => ?_)
                have hHeld := hH (by decide)
                clear hH
                clear hK K
                (try simp only [Act.put, List.getElem_toArray, List.getElem_cons_succ, List.getElem_cons_zero, List.setIfInBounds_toArray, List.set_cons_zero, List.set_cons_succ])
                refine anyE_one (i := 5) (by kernel_rfl) (anyE_step rfl (fun K hK => ?_))
                go_simp
                go_wp2_with (go_at_call 54; ((refine (l1PickInt_any B c wo.heap.size 4 _ HCA.out (by omega) (by omega) (by have := HCB.out; omega) HLIT.out).mono ?_); rintro e w5 ⟨y, rfl, hy0, hy1, hc5, hg5⟩))
                have HC5 := Lib.hid hc5
                have HG5 := Lib.hid (grown_trans HGA.out hg5)
                have HBX5 := Lib.hid (show BlkV w5 b5 66 #[.slice a5 j c5] from (hg5.block b5 HBXA.out.lt (fun e => by injection e with e; have := HCB.out; omega)).trans HBXA.out)
                have HOT5 := Lib.hid (row_keptO HOTA.out hg5 (fun k hk e => by injection hk with hk; have h1 := (World.ownsRow.lt HOTA.out k e).1; have := HCB.out; omega))
                have x5 := HBX5.out.cell 0
                clear hc5 hg5
                refine hK.out _ _ (fun _ => x5) (fun hH => ?_)
                have hHeld := hH (by decide)
                clear hH
                clear hK K
                (try simp only [Act.put, List.getElem_toArray, List.getElem_cons_succ, List.getElem_cons_zero, List.setIfInBounds_toArray, List.set_cons_zero, List.set_cons_succ])
                refine anyE_one (i := 7) (by kernel_rfl) (anyE_step rfl (fun K hK => ?_))
                go_simp
                go_wp2_with (go_at_call 80; ((refine (l1Once_any B c _ _ HC5.out (by omega) (by omega)).mono ?_); rintro e w7 ⟨z, rfl, hc7, hg7⟩))
                have HC7 := Lib.hid (hc7.alloc (.cells #[.int .i64 f, .int .i64 y, .bool z] 86))
                have HG7 := Lib.hid (grown_trans (grown_trans HG5.out hg7) (grown_alloc w7 (.cells #[.int .i64 f, .int .i64 y, .bool z] 86) c))
                have hbx7 : BlkV w7 b5 66 #[.slice a5 j c5] := (hg7.block b5 HBX5.out.lt (fun e => by injection e with e; have := HCB.out; omega)).trans HBX5.out
                have x7 : w7.cell? ⟨b5, 0, none⟩ = some (.slice a5 j c5) := hbx7.cell 0
                have HBX8 := Lib.hid (hbx7.alloc (.cells #[.int .i64 f, .int .i64 y, .bool z] 86))
                have x8 : (w7.alloc (.cells #[.int .i64 f, .int .i64 y, .bool z] 86)).cell? ⟨b5, 0, none⟩ = some (.slice a5 j c5) := HBX8.out.cell 0
                have HOT8 := Lib.hid (show OwnTs (w7.alloc (.cells #[.int .i64 f, .int .i64 y, .bool z] 86)) (b5 + 1) (.slice a5 j c5) T from OwnTs.alloc (row_keptO HOT5.out hg7 (fun k hk e => by injection hk with hk; have h1 := (World.ownsRow.lt HOT5.out k e).1; have := HCB.out; omega)) _)
                have HN8 := Lib.hid (BlkV.new w7 86 #[.int .i64 f, .int .i64 y, .bool z])
                have HZ8 := Lib.hid (show b5 + 1 ≤ (w7.alloc (.cells #[.int .i64 f, .int .i64 y, .bool z] 86)).heap.size by have := HBX8.out.lt; omega)
                clear hc7 hg7 hbx7
                refine hK.out _ _ (fun _ => x7) (fun hH => ?_)
                have hHeld := hH (by decide)
                clear hH
                clear hK K
                (try simp only [Act.put, List.getElem_toArray, List.getElem_cons_succ, List.getElem_cons_zero, List.setIfInBounds_toArray, List.set_cons_zero, List.set_cons_succ])
                refine anyE_take (i := 8) (v := ?vz13) rfl (by kernel_rfl) (by kernel_rfl) (by kernel_rfl) (by kernel_rfl) (by kernel_rfl) (fun _ _ _ h => h) (Or.inl ⟨by kernel_rfl, ?yz13⟩) (by assumption) ?rz13
                case yz13 => (intro w' hSw; (try dsimp only at hSw); go_simp; (try with_reducible rfl))
                (try simp only [Act.put, List.getElem_toArray, List.getElem_cons_succ, List.getElem_cons_zero, List.setIfInBounds_toArray, List.set_cons_zero, List.set_cons_succ])
                refine anyE_one (i := 9) (by kernel_rfl) (anyE_step rfl (fun K hK => ?_))
                go_simp
                refine hK.out _ _ (fun _ => x8) (fun hH => ?_)
                have hHeld := hH (by decide)
                clear hH
                clear hK K
                (try simp only [Act.put, List.getElem_toArray, List.getElem_cons_succ, List.getElem_cons_zero, List.setIfInBounds_toArray, List.set_cons_zero, List.set_cons_succ])
                refine anyE_one (i := 10) (by kernel_rfl) (anyE_step rfl (fun K hK => ?_))
                refine step_testP rfl (.tmp 43) (.tmp 51) rfl (b5 + 1) (.slice a5 j c5) T (T ++ [(((f : Int), y), z)]) j nF (((f : Int), y), z) HOT8.out rfl rfl HTL.out HNF.out w7.heap.size rfl HN8.out (by omega) HZ8.out ?_
                intro g5 c6 w9 ho hg hat
                have HO9 := Lib.hid ho
                have HT9 := Lib.hid (fun q hq => (World.ownsRow.lt HOT8.out q hq).1)
                have hbx9 : BlkV w9 b5 66 #[.slice a5 j c5] := (hg.block b5 HBX8.out.lt (fun e => by have := HT9.out b5 e.symm; omega)).trans HBX8.out
                have HBX9 := Lib.hid hbx9
                have x9 : w9.cell? ⟨b5, 0, none⟩ = some (.slice a5 j c5) := hbx9.cell 0
                have rf := hbx9.frozen 0
                have HG9 := Lib.hid (grown_up HG7.out hg (fun k hk => by have := HT9.out k hk; have := HB5.out; omega))
                have HC9 := Lib.hid (HC7.out.below ((Below.refl (c + 1) _).grown hg (by have := HC7.out.lt; omega) (fun k hk => by have := HT9.out k hk; have := HCB.out; omega)) (by omega))
                clear ho hg hat hbx9
                refine hK.out _ _ (fun _ => x9) (fun hH => ?_)
                have hHeld := hH (by decide)
                clear hH
                clear hK K
                (try simp only [Act.put, List.getElem_toArray, List.getElem_cons_succ, List.getElem_cons_zero, List.setIfInBounds_toArray, List.set_cons_zero, List.set_cons_succ])
                refine anyE_take (i := 11) (v := ?vz14) rfl (by kernel_rfl) (by kernel_rfl) (by kernel_rfl) (by kernel_rfl) (by kernel_rfl) (fun _ _ _ h => h) (Or.inl ⟨by kernel_rfl, ?yz14⟩) (by assumption) ?rz14
                case yz14 => (intro w' hSw; (try dsimp only at hSw); go_simp; (try with_reducible rfl))
                (try simp only [Act.put, List.getElem_toArray, List.getElem_cons_succ, List.getElem_cons_zero, List.setIfInBounds_toArray, List.set_cons_zero, List.set_cons_succ])
                refine anyE_one (i := 12) (by kernel_rfl) (anyE_step rfl (fun K hK => ?_))
                go_simp
                refine hK.out _ _ (fun h => absurd rfl h) (fun _ => ?_)
                clear hK K
                (try simp only [Act.put, List.getElem_toArray, List.getElem_cons_succ, List.getElem_cons_zero, List.setIfInBounds_toArray, List.set_cons_zero, List.set_cons_succ])
                refine anyE_done (by kernel_rfl) ?_ _
                refine NoPanic.normal ?_
                go_wp2
                go_roundw
                case rel =>
                  have hst := egrown_set w9 b5 0 (.slice (some ⟨g5, 0, none⟩) nF c6)
                  refine ⟨f + 1, T ++ [(((f : Int), y), z)], some ⟨g5, 0, none⟩, c6, nF, by omega, by go_num, by rw [List.length_append, HTL.out]; exact HNF.out, by omega, fun _ => by omega, HBX9.out.set_ 0 _, ?_, ?_, ?_⟩
                  · exact row_setCell HO9.out _ _ (by show b5 < _; omega)
                  · exact HC9.out.below ((Below.refl (c + 1) _).grown hst (by have := HC9.out.lt; omega) (fun k hk => by injection hk with hk; have := HCB.out; omega)) (by omega)
                  · exact grown_up HG9.out hst (fun k hk => by injection hk with hk; have := HB5.out; omega)
                case measure => simp [intOf]; omega
            · have hji : ¬ (j : Int) < 3 := by omega
              go_wp2
              go_roundw
              case rel => exact ⟨f + 1, T, a5, c5, j, by omega, by go_num, HTL.out, hj3, fun _ => by omega, HBXR.out, HOTR.out, HCR.out, HGR.out⟩
              case measure => simp [intOf]; omega
          · obtain rfl : f = 6 := by omega
            have hj1 := hfj rfl
            have hyr : BlkV wr b3 26 #[.slice a q.length c3] := (HGR.out.block b3 HYS.out.lt (fun e => by injection e with e; have := HBB.out; omega)).trans HYS.out
            have hxr : BlkV wr b2 26 #[.slice none 0 0] := (HGR.out.block b2 HXS.out.lt (fun e => by injection e with e; have := HBB.out; omega)).trans HXS.out
            have q30 : wr.cell? ⟨b3, 0, none⟩ = some (.slice a q.length c3) := hyr.cell 0
            have HYR := Lib.hid hyr
            have HXR := Lib.hid hxr
            have HOUR := Lib.hid (HOUS.out.1.cur HGR.out (by have := HBB.out; omega))
            have HA := Lib.hid ((Below.refl wr.heap.size wr).alloc (Nat.le_refl _) (.cells #[.slice a5 j c5] 66))
            have HNR := Lib.hid (BlkV.new wr 66 #[.slice a5 j c5])
            have HRW := Lib.hid (HOUR.out.below HA.out)
            have HUW := Lib.hid (show OwnTs (wr.alloc (.cells #[.slice a5 j c5] 66)) (b3 + 1) (.slice a5 j c5) T from (HOTR.out.below HA.out).mono (by have := HCB.out; omega))
            have HDD := Lib.hid (show ∀ k, (Value.slice a5 j c5).ownBlock = some k → (Value.slice a q.length c3).ownBlock ≠ some k ∧ ∀ p ∈ q, p.2.ownBlock ≠ some k from fun k hk => ⟨fun e => by
              have h1 := (World.ownsRow.lt HOTR.out k hk).1
              have h2 := HOUS.out.2.1 k e
              have h3 := HB5.out
              omega, fun p hp e => by
              have h1 := (World.ownsRow.lt HOTR.out k hk).1
              have h2 := HOUS.out.2.2 p hp k e
              have h3 := HB5.out
              omega⟩)
            have HQB := Lib.hid (fun g (hg : (Value.slice a q.length c3).ownBlock = some g) => show b3 + 1 ≤ g from (World.ownsRow.lt HOUR.out.out g hg).1)
            have HSZ := Lib.hid (show b3 + 1 ≤ wr.heap.size ∧ b3 < wr.heap.size ∧ b2 < wr.heap.size by have := HYR.out.lt; have := HXR.out.lt; omega)
            clear hyr hxr
            go_wp2_with (at_builtin; refine wpList_append_lies _ rfl (.tmp 55) (.tmp 57) 24 rfl (b3 + 1) 66 i0 _ 1 24 Tryz.underlying24 hi hz0 hz1 hz2 rfl (by decide) (.slice a q.length c3) q.length (valsU q) rfl HRW.out.out ⟨wr.heap.size, 0, none⟩ 1 1 [.slice a5 j c5] rfl rfl (World.news_of_block (cs := #[.slice a5 j c5]) (fr := (0, 0)) HNR.out) (by simp [Value.oneCell']) (by omega) (by unfold maxLen; omega) (by omega) (Nat.le_trans HSZ.out.1 HA.out.size) _ rfl ?_; intro g cap w5 ho hg hat _; have HO5 := Lib.hid ho; have HG5 := Lib.hid hg; have HAT := Lib.hid hat; have hy5 : BlkV w5 b3 26 #[.slice a q.length c3] := (hg.block b3 (Nat.lt_of_lt_of_le HSZ.out.2.1 HA.out.size) (fun e => by have := HQB.out b3 e.symm; omega)).trans (HYR.out.below HA.out); have hx5 : BlkV w5 b2 26 #[.slice none 0 0] := (hg.block b2 (Nat.lt_of_lt_of_le HSZ.out.2.2 HA.out.size) (fun e => by have := HQB.out b2 e.symm; have := HBB.out; omega)).trans (HXR.out.below HA.out); have HY5 := Lib.hid hy5; have HX5 := Lib.hid hx5; have c35 : w5.cell? ⟨b3, 0, none⟩ = some (.slice a q.length c3) := hy5.cell 0; have f35 := hy5.frozen 0; clear ho hg hat hy5 hx5)
            go_roundw
            case rel =>
              have hbb := HBB.out
              have hst := egrown_set w5 b3 0 (.slice (some ⟨g, 0, none⟩) (q.length + 1) cap)
              have hou := HRW.out.snoc HUW.out HDD.out HG5.out HO5.out rfl HAT.out
              have hgr5 := grown_up (grown_cur (grown_trans HGS.out HGR.out) HA.out) HG5.out (fun k hk => by have := HQB.out k hk; have := HBE.out; omega)
              have hcu5 : Cur w5 B c := (HCR.out.alloc (.cells #[.slice a5 j c5] 66)).below ((Below.refl (c + 1) _).grown HG5.out (by have := HCR.out.lt; have := HA.out.size; omega) (fun k hk => by have := HQB.out k hk; omega)) (by omega)
              have htl := HTL.out
              refine ⟨n - 1, q ++ [(T, .slice a5 j c5)], some ⟨g, 0, none⟩, cap, by go_num, by rw [List.length_append, List.length_singleton]; omega, by rw [List.length_append, List.length_singleton]; omega, rules_more HALL.out (by omega) (by omega), ?_, ?_, ?_, ?_, ?_⟩
              · rw [List.length_append]
                exact HY5.out.set_ 0 _
              · rw [List.length_append]
                exact hou.setc _ _ (by show b3 < _; omega)
              · exact hcu5.below ((Below.refl (c + 1) _).grown hst (by have := hcu5.lt; omega) (fun k hk => by injection hk with hk; omega)) (by omega)
              · exact grown_up hgr5 hst (fun k hk => by injection hk with hk; have := HBE.out; omega)
              · exact HX5.out.other ⟨b3, 0, none⟩ _ (by simp; omega)
            case measure => simp [intOf]; omega
      · obtain rfl : n = 0 := by omega
        obtain ⟨F, hF⟩ : ∃ F, rulesU q = F := ⟨_, rfl⟩
        have HFQ := Lib.hid hF
        have HFL := Lib.hid (show F.length = q.length by rw [← hF, rulesU_len])
        have q30 : ws.cell? ⟨b3, 0, none⟩ = some (.slice a q.length c3) := HYS.out.cell 0
        have q20 : ws.cell? ⟨b2, 0, none⟩ = some (.slice none 0 0) := HXS.out.cell 0
        have f20 := HXS.out.frozen 0
        clear hF
        go_wp2
        have e0 : _ = some (Value.slice a q.length c3) := (HXS.out.set_ 0 (.slice a q.length c3)).cell 0
        have hst := egrown_set ws b2 0 (.slice a q.length c3)
        have hbe := HBE.out
        have hbb := HBB.out
        have hfl := HFL.out
        refine bodyPost_ret (v := .agg #[.slice a q.length c3]) (by simp [results, Tryz.results52, go_sem, e0]) rfl ⟨F, a, c3, q, by rw [HFL.out], HFQ.out, ?_, rules_small (by rw [← HFQ.out]; exact HALL.out) (by omega) (by omega), ?_, ?_⟩
        · rw [HFL.out]
          exact (HOUS.out.1.setc ⟨b2, 0, none⟩ _ (by show b2 < _; omega)).mono (by omega)
        · exact HCS.out.below ((Below.refl (c + 1) _).grown hst (by have := HCS.out.lt; omega) (fun k hk => by injection hk with hk; omega)) (by omega)
        · exact grown_up HGS.out hst (fun k hk => by injection hk with hk; omega)

end Go.Proofs.YtpmfabpnjacegaaGreatDoor

