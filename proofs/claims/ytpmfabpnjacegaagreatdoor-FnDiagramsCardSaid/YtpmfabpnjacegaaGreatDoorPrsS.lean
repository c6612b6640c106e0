/-
  What spec.ParseRules answers. By an AI agent.
-/
import Derived.Test.YtpmfabpnjacegaaGreatDoorGQ13
import Derived.Test.YtpmfabpnjacegaaGreatDoorGQ14
import Derived.Test.YtpmfabpnjacegaaGreatDoorGQ15
import Derived.Test.YtpmfabpnjacegaaGreatDoorRuFS
import Derived.Test.YtpmfabpnjacegaaGreatDoorGQ4
import Derived.Test.YtpmfabpnjacegaaGreatDoorGQ6
namespace Go.Proofs.YtpmfabpnjacegaaGreatDoor
open Go.RowKit
set_option linter.unusedVariables false
set_option linter.unusedSimpArgs false
set_option linter.unnecessarySimpa false

theorem drew_below {w w' : World} (h : Below w.drew.heap.size w.drew w') : Below w.heap.size w w' := ⟨h.os, h.tape, h.output, h.size, h.block⟩
theorem chg_set (w : World) (b : Nat) (u : Value) : Chg w (w.setCell ⟨b, 0, none⟩ u) b (b + 1) :=
  (Chg.refl w b (b + 1)).grown (egrown_set w b 0 u) (fun k hk => by injection hk with hk; omega)
theorem Chg.wide {w w' : World} {lo hi lo' hi' : Nat} (h : Chg w w' lo hi) (h1 : lo' ≤ lo) (h2 : hi ≤ hi') : Chg w w' lo' hi' := ⟨h.os, h.tape, h.output, h.size, fun k hk hn => h.block k hk (fun e => hn ⟨by omega, by omega⟩)⟩
theorem OwnRu.setc {w : World} {lo : Nat} {v : Value} {q : List XU} (h : OwnRu w lo v q) (p : Addr) (u : Value) (hp : p.block < lo) : OwnRu (w.setCell p u) lo v q := ⟨row_setCell h.out p u hp, fun r hr => row_setCell (h.row r hr) p u hp, h.apart, h.dis⟩
theorem blkv_chg {w w' : World} {g : Nat} {t : TypeId} {cs : Array Value} {lo hi : Nat} (h : BlkV w g t cs) (hc : Chg w w' lo hi) (hn : ¬ (lo ≤ g ∧ g < hi)) : BlkV w' g t cs := (hc.block g h.lt hn).trans h
theorem spu_len (p : Str) : (spuT p).length ≤ 4 := by unfold spuT; rw [List.length_map, List.length_take]; omega
theorem Chg.mono5 {w w' : World} {lo hi : Nat} (h : Chg w w' lo hi) : Chg w w' lo hi := h

set_option maxRecDepth 100000 in
set_option maxHeartbeats 8000000 in
theorem prs_spec (s : ByteArray) (R : List (List TS)) (b : Bool) (w : World) (hs : s.size ≤ 1048576) (ho : PRout s.data.toList R b) :
    Calls Tryz.prog 104 #[.string s] w (GivesPR w R b) := by
  obtain ⟨i0, hi, hz0, hz1, hz2⟩ := info_parts info_ru
  have HS := Lib.hid hs
  have HO := Lib.hid ho
  obtain ⟨P, hP⟩ : ∃ P, cutL 32 s.data.toList = P := ⟨_, rfl⟩
  have HP := Lib.hid hP
  have hPl : P.length ≤ 4000000 := by
    have h1 := kS_len 32 s.data.toList
    have h2 := dsize s
    rw [← hP]
    unfold cutL
    rw [List.length_append]
    simp
    omega
  have HPX := Lib.hid (fun y (hy : y ∈ P) => show y.length ≤ 1048576 by
    have h1 := cutL_part (c := 32) (s := s.data.toList) (y := y) (by rw [hP]; exact hy)
    have h2 := dsize s
    omega)
  obtain ⟨N, hN⟩ : ∃ N, min 7 P.length = N := ⟨_, rfl⟩
  have HF := Lib.hid (show spR s.data.toList = (evens (P.take 7)).map spuT by unfold spR; rw [hP])
  have HPN := Lib.hid (show P.take 7 = P.take N by rw [← hN, List.take_eq_take_min])
  obtain ⟨w1, hw1⟩ : ∃ w1, ((w.alloc (.cells #[.slice none 0 0] 26)).alloc (.cells #[.slice none 0 0] 26)).alloc (.cells #[.slice none 0 0] 66) = w1 := ⟨_, rfl⟩
  have HB1 := Lib.hid (show Below w.heap.size w w1 by rw [← hw1]; exact (((Below.refl _ _).alloc (Nat.le_refl _) _).alloc (by simp) _).alloc (by simp; omega) _)
  have HW1 := Lib.hid (show w1.heap.size = w.heap.size + 3 by rw [← hw1]; simp)
  have HX2 := Lib.hid (show BlkV w1 w.heap.size 26 #[.slice none 0 0] by rw [← hw1]; exact ((BlkV.new_ _ _ _ _ rfl).alloc _).alloc _)
  have HX4 := Lib.hid (show BlkV w1 (w.heap.size + 1) 26 #[.slice none 0 0] by rw [← hw1]; exact (BlkV.new_ _ _ _ _ (by simp)).alloc _)
  have HX5 := Lib.hid (show BlkV w1 (w.heap.size + 1 + 1) 66 #[.slice none 0 0] by rw [← hw1]; exact BlkV.new_ _ _ _ _ (by simp))
  have HWE := Lib.hid hw1
  have HCT := Lib.hid (fun (W : World) => cut_any s 32 W (by omega))
  clear ho hP hw1
  go_enter Tryz.func104, Tryz.ntmps104
  go_wp2_with (go_at_call 118; rw [HWE.out]; refine ((HCT.out _).mono ?_); rintro e w2 hg; rw [HP.out] at hg; obtain ⟨al, cl, rfl, hol, hbl⟩ := hg; refine Hid.out ?_)
  have HOLS := Lib.hid hol
  have HIS := Lib.hid (show InS w2 al P from hol.inS)
  have HB2 := Lib.hid (HB1.out.trans (hbl.mono HB1.out.size))
  have HZ2 := Lib.hid hbl.size
  have hx2 := HX2.out.below hbl
  have hx4 := HX4.out.below hbl
  have hx5 := HX5.out.below hbl
  obtain ⟨b5, hb5⟩ : ∃ b5, w.heap.size + 1 + 1 = b5 := ⟨_, rfl⟩
  obtain ⟨b4, hb4⟩ : ∃ b4, w.heap.size + 1 = b4 := ⟨_, rfl⟩
  obtain ⟨b2, hb2⟩ : ∃ b2, w.heap.size = b2 := ⟨_, rfl⟩
  have HBE := Lib.hid (And.intro hb2 (And.intro hb4 hb5))
  have HBB := Lib.hid (show b4 = b2 + 1 ∧ b5 = b2 + 2 ∧ b2 + 3 ≤ w2.heap.size by have := HW1.out; have := HZ2.out; omega)
  rw [hb5] at hx5 ⊢
  rw [hb4] at hx4 ⊢
  have HX2b := Lib.hid (show BlkV w2 b2 26 #[.slice none 0 0] by rw [← hb2]; exact hx2)
  have HX4b := Lib.hid hx4
  have HX5b := Lib.hid hx5
  have HAL := Lib.hid (fun g off (e : al = some ⟨g, off, none⟩) => show b2 + 3 ≤ g by
    have h1 := World.ownsRow.lt HOLS.out g (by rw [e]; rfl)
    have := HW1.out
    omega)
  clear hol hbl hx2 hx4 hx5 hb5 hb4
  refine Lib.hid ?_
  go_wp2_with (fail)
  go_loopw [7] (fun i wr => ∃ (k : Nat) (q : List XU) (a : Option Addr) (c : Nat), k ≤ N ∧ i = .int .i64 k ∧ BlkV wr b4 26 #[.slice a q.length c] ∧ BlkV wr b5 66 #[.slice none 0 0] ∧ OwnRu wr w2.heap.size (.slice a q.length c) q ∧ rulesU q = (evens (P.take k)).map spuT ∧ Chg w2 wr b4 (b5 + 1)) (fun i _ => N - (intOf i).toNat)
  case atStart => exact ⟨0, [], none, 0, Nat.zero_le _, rfl, HX4b.out, HX5b.out, OwnRu.nil _ _, rfl, Chg.refl _ _ _⟩
  case round =>
    obtain ⟨k, q, a, c, hk, rfl, hx4, hx5, hou, hrq, hch⟩ := hrel
    have HX4r := Lib.hid hx4
    have HX5r := Lib.hid hx5
    have HOU := Lib.hid hou
    have HRQ := Lib.hid hrq
    have HCH := Lib.hid hch
    have hk7 : k ≤ 7 := by omega
    have hq7 : q.length ≤ 7 := by
      have h1 := congrArg List.length hrq
      rw [rulesU_len, List.length_map] at h1
      have h2 := evens_len (P.take k)
      rw [List.length_take] at h2
      omega
    clear hx4 hx5 hou hrq hch
    by_cases hlt : k < N
    · have hkp : k < P.length := by omega
      have hk6 : (k : Int) ≤ 6 := by omega
      have hkpi : (k : Int) < (P.length : Int) := by omega
      by_cases hod : k % 2 = 1
      · have hmo : ((k : Int) % 2 == 1) = true := by simp; omega
        have HE := Lib.hid (show evens (P.take (k + 1)) = evens (P.take k) by rw [evens_snoc (List.getElem?_eq_getElem hkp), if_neg (by omega)])
        clear hod
        go_wp2
        go_roundw
        case rel => exact ⟨k + 1, q, a, c, by omega, by go_num, HX4r.out, HX5r.out, HOU.out, by rw [HE.out]; exact HRQ.out, HCH.out⟩
        case measure => simp [intOf]; omega
      · have hmo : ((k : Int) % 2 == 1) = false := by simp; omega
        have hisr : InS wr al P := HIS.out.keep HCH.out.size (fun g off e hg => HCH.out.block g hg (by have := HAL.out g off e; have := HBB.out; omega))
        obtain ⟨bl, ol, rfl, hbl1, hcl⟩ := hisr (by omega)
        obtain ⟨y, sy, hy, hy2, hy3, hy4⟩ := str_at hkp
        have hcell : wr.cell? ⟨bl, ol + k, none⟩ = some (.string sy) := by rw [← hy3]; exact hcl k y hy
        have hys := HPX.out y (List.mem_of_getElem? hy)
        obtain ⟨H, hH⟩ : ∃ H, cutL 44 y = H := ⟨_, rfl⟩
        have HHY := Lib.hid hH
        have HH := Lib.hid (show cutL 44 sy.data.toList = H by rw [hy2]; exact hH)
        have HHX := Lib.hid (fun z (hz : z ∈ H) => show z.length ≤ 1048576 by
          have h1 := cutL_part (c := 44) (s := y) (y := z) (by rw [hH]; exact hz)
          omega)
        have hHl : H.length ≤ 4000000 := by
          have h1 := kS_len 44 y
          rw [← hH]
          unfold cutL
          rw [List.length_append]
          simp
          omega
        have HE := Lib.hid (show evens (P.take (k + 1)) = evens (P.take k) ++ [y] by rw [evens_snoc hy, if_pos (by omega)])
        have HCT2 := Lib.hid (cut_any sy 44 wr (by omega))
        clear hod hcl hy hy2 hy3 hy4 hH hbl1 hys hisr
        go_wp2_with (go_at_call 118; refine (HCT2.out.mono ?_); rintro e ws hg; rw [HH.out] at hg; obtain ⟨ah, ch, rfl, hoh, hbh⟩ := hg; refine Hid.out ?_)
        have HX4s := Lib.hid (HX4r.out.below hbh)
        have HX5s := Lib.hid (HX5r.out.below hbh)
        have HOUs := Lib.hid (OwnHRu.of (HOU.out.below hbh))
        have HCHs := Lib.hid (HCH.out.belowR hbh)
        have HISH := Lib.hid (show InS ws ah H from hoh.inS)
        have HAH := Lib.hid (fun g off (e : ah = some ⟨g, off, none⟩) => show b2 + 3 ≤ g by
          have h1 := World.ownsRow.lt hoh g (by rw [e]; rfl)
          have := HCH.out.size
          have := HBB.out
          omega)
        have HB5S := Lib.hid (show b5 < ws.heap.size by have := HCHs.out.size; have := HBB.out; omega)
        obtain ⟨M, hM⟩ : ∃ M, min 4 H.length = M := ⟨_, rfl⟩
        clear hoh hbh hcell
        refine Lib.hid ?_
        go_wp2_with (fail)
        go_loopw [9] (fun i wr => ∃ (j : Nat) (a5 : Option Addr) (c5 : Nat), j ≤ M ∧ i = .int .i64 j ∧ BlkV wr b5 66 #[.slice a5 j c5] ∧ OwnTs wr ws.heap.size (.slice a5 j c5) ((H.take j).map sptT) ∧ Chg ws wr b5 (b5 + 1)) (fun i _ => M - (intOf i).toNat)
        case atStart => exact ⟨0, none, 0, Nat.zero_le _, rfl, HX5s.out, OwnTs.nil _ _, Chg.refl _ _ _⟩
        case round =>
          obtain ⟨j, a5, c5, hj, rfl, hx5, hot, hci⟩ := hrel
          have HBX := Lib.hid hx5
          have HOT := Lib.hid hot
          have HCI := Lib.hid hci
          have hj4 : j ≤ 4 := by omega
          clear hx5 hot hci
          by_cases hjt : j < M
          · have hjh : j < H.length := by omega
            have hj3 : (j : Int) ≤ 3 := by omega
            have hjhi : (j : Int) < (H.length : Int) := by omega
            have hish : InS wr ah H := HISH.out.keep HCI.out.size (fun g off e hg => HCI.out.block g hg (by have := HAH.out g off e; have := HBB.out; omega))
            have HBHS := Lib.hid (show ∀ g off, ah = some ⟨g, off, none⟩ → g < ws.heap.size from fun g off e => by
              obtain ⟨g', off', e', h', _⟩ := HISH.out (by omega)
              rw [e'] at e
              injection e with e
              injection e with e1
              omega)
            obtain ⟨bh, oh, rfl, hbh1, hch⟩ := hish (by omega)
            have HBHS := Lib.hid (HBHS.out bh oh rfl)
            obtain ⟨z, sx, hz, hz2, hz3, hz4⟩ := str_at hjh
            have CH := Lib.hid (show wr.cell? ⟨bh, oh + j, none⟩ = some (.string sx) by rw [← hz3]; exact hch j z hz)
            have C5 := Lib.hid (show wr.cell? ⟨b5, 0, none⟩ = some (.slice a5 j c5) from HBX.out.cell 0)
            have hxs : sx.size ≤ 1048576 := by rw [hz4]; exact HHX.out z (List.mem_of_getElem? hz)
            obtain ⟨tx, htx⟩ : ∃ tx, sptT sx.data.toList = tx := ⟨_, rfl⟩
            have HSP := Lib.hid (fun (W : World) => spt_any sx tx W hxs htx)
            obtain ⟨T, hT⟩ : ∃ T, (H.take j).map sptT = T := ⟨_, rfl⟩
            have HTL := Lib.hid (show T.length = j by rw [← hT, List.length_map, List.length_take]; omega)
            obtain ⟨F, hF⟩ : ∃ F, T ++ [tx] = F := ⟨_, rfl⟩
            obtain ⟨nF, hnF⟩ : ∃ n, j + 1 = n := ⟨_, rfl⟩
            have HFF := Lib.hid hF
            have HNF := Lib.hid hnF
            have HFN := Lib.hid (show (H.take (j + 1)).map sptT = F by
              rw [List.take_add_one, hz, List.map_append, hT, ← hF, ← htx, hz2]
              rfl)
            rw [hT] at HOT
            have HB5L := Lib.hid (show b5 < wr.heap.size from Nat.lt_of_lt_of_le HB5S.out HCI.out.size)
            have HBHL := Lib.hid hbh1
            clear hz hz2 hz3 hz4 hch hbh1 htx hT hF hnF hish
            go_wp2_with (fail)
            refine wp_region_noPanic ?_
            refine wp_region_E (S := fun w' => w'.cell? ⟨b5, 0, none⟩ = some (.slice a5 j c5) ∧ w'.cell? ⟨bh, oh + j, none⟩ = some (.string sx)) 10 (by kernel_rfl) (⟨C5.out, CH.out⟩) (fun hHeld => ?_)
            refine anyE_take (i := 0) (v := ?vz1) rfl (by kernel_rfl) (by kernel_rfl) (by kernel_rfl) (by kernel_rfl) (by kernel_rfl) (fun _ _ _ h => h) (Or.inl ⟨by kernel_rfl, ?yz1⟩) (by assumption) ?rz1
            case yz1 => (intro w' hSw; (try dsimp only at hSw); go_simp; (try with_reducible rfl))
            (try simp only [Act.put, List.getElem_toArray, List.getElem_cons_succ, List.getElem_cons_zero, List.setIfInBounds_toArray, List.set_cons_zero, List.set_cons_succ])
            refine anyE_take (i := 1) (v := ?vz2) rfl (by kernel_rfl) (by kernel_rfl) (by kernel_rfl) (by kernel_rfl) (by kernel_rfl) (fun _ _ _ h => h) (Or.inl ⟨by kernel_rfl, ?yz2⟩) (by assumption) ?rz2
            case yz2 => (intro w' hSw; (try dsimp only at hSw); go_simp; (try with_reducible rfl))
            (try simp only [Act.put, List.getElem_toArray, List.getElem_cons_succ, List.getElem_cons_zero, List.setIfInBounds_toArray, List.set_cons_zero, List.set_cons_succ])
            refine anyE_take (i := 2) (v := ?vz3) rfl (by kernel_rfl) (by kernel_rfl) (by kernel_rfl) (by kernel_rfl) (by kernel_rfl) (fun _ _ _ h => h) (Or.inl ⟨by kernel_rfl, ?yz3⟩) (by assumption) ?rz3
            case yz3 => (intro w' hSw; (try dsimp only at hSw); go_simp; (try with_reducible rfl))
            (try simp only [Act.put, List.getElem_toArray, List.getElem_cons_succ, List.getElem_cons_zero, List.setIfInBounds_toArray, List.set_cons_zero, List.set_cons_succ])
            refine anyE_take (i := 3) (v := ?vz4) rfl (by kernel_rfl) (by kernel_rfl) (by kernel_rfl) (by kernel_rfl) (by kernel_rfl) (fun _ _ _ h => h) (Or.inl ⟨by kernel_rfl, ?yz4⟩) (by assumption) ?rz4
            case yz4 => (intro w' hSw; (try dsimp only at hSw); go_simp; (try with_reducible rfl))
            (try simp only [Act.put, List.getElem_toArray, List.getElem_cons_succ, List.getElem_cons_zero, List.setIfInBounds_toArray, List.set_cons_zero, List.set_cons_succ])
            refine anyE_take (i := 4) (v := ?vz5) rfl (by kernel_rfl) (by kernel_rfl) (by kernel_rfl) (by kernel_rfl) (by kernel_rfl) (fun _ _ _ h => h) (Or.inl ⟨by kernel_rfl, ?yz5⟩) (by assumption) ?rz5
            case yz5 => (intro w' hSw; (try dsimp only at hSw); go_simp; (try with_reducible rfl))
            (try simp only [Act.put, List.getElem_toArray, List.getElem_cons_succ, List.getElem_cons_zero, List.setIfInBounds_toArray, List.set_cons_zero, List.set_cons_succ])
            refine anyE_take (i := 5) (v := ?vz6) rfl (by kernel_rfl) (by kernel_rfl) (by kernel_rfl) (by kernel_rfl) (by kernel_rfl) (fun _ _ _ h => h) (Or.inl ⟨by kernel_rfl, ?yz6⟩) (by assumption) ?rz6
            case yz6 => (intro w' hSw; (try dsimp only at hSw); go_simp; (try with_reducible rfl))
            (try simp only [Act.put, List.getElem_toArray, List.getElem_cons_succ, List.getElem_cons_zero, List.setIfInBounds_toArray, List.set_cons_zero, List.set_cons_succ])
            refine anyE_one (i := 6) (by kernel_rfl) (anyE_step rfl (fun K hK => ?_))
            go_simp
            go_wp2_with (go_at_call 119; (refine (HSP.out _).mono ?_); rintro e w4 ⟨rfl, hb4⟩)
            have HB4 := Lib.hid (drew_below hb4)
            have x0 := (HB4.out.cell (p := ⟨b5, 0, none⟩) HB5L.out).trans C5.out
            have x1 := (HB4.out.cell (p := ⟨bh, oh + j, none⟩) HBHL.out).trans CH.out
            have u0 := ((HB4.out.alloc HB4.out.size (.cells #[.int .i64 tx.1.1, .int .i64 tx.1.2, .bool tx.2] 86)).cell (p := ⟨b5, 0, none⟩) HB5L.out).trans C5.out
            have u1 := ((HB4.out.alloc HB4.out.size (.cells #[.int .i64 tx.1.1, .int .i64 tx.1.2, .bool tx.2] 86)).cell (p := ⟨bh, oh + j, none⟩) HBHL.out).trans CH.out
            have HO4 := Lib.hid ((HOT.out.below HB4.out).alloc (.cells #[.int .i64 tx.1.1, .int .i64 tx.1.2, .bool tx.2] 86))
            have HN4 := Lib.hid (BlkV.new w4 86 #[.int .i64 tx.1.1, .int .i64 tx.1.2, .bool tx.2])
            have HA4 := Lib.hid (HB4.out.alloc HB4.out.size (.cells #[.int .i64 tx.1.1, .int .i64 tx.1.2, .bool tx.2] 86))
            clear hb4
            refine hK.out _ _ (fun _ => ⟨x0, x1⟩) (fun hH => ?_)
            have hHeld := hH (by decide)
            clear hH
            clear hK K
            (try simp only [Act.put, List.getElem_toArray, List.getElem_cons_succ, List.getElem_cons_zero, List.setIfInBounds_toArray, List.set_cons_zero, List.set_cons_succ])
            refine anyE_one (i := 7) (by kernel_rfl) (anyE_step rfl (fun K hK => ?_))
            go_simp
            refine hK.out _ _ (fun _ => ⟨u0, u1⟩) (fun hH => ?_)
            have hHeld := hH (by decide)
            clear hH
            clear hK K
            (try simp only [Act.put, List.getElem_toArray, List.getElem_cons_succ, List.getElem_cons_zero, List.setIfInBounds_toArray, List.set_cons_zero, List.set_cons_succ])
            refine anyE_one (i := 8) (by kernel_rfl) (anyE_step rfl (fun K hK => ?_))
            refine step_testP rfl (.tmp 43) (.tmp 49) rfl ws.heap.size (.slice a5 j c5) T F j nF tx HO4.out rfl HFF.out HTL.out HNF.out w4.heap.size rfl HN4.out (by omega) (by have h1 := HCI.out.size; have h2 := HA4.out.size; omega) ?_
            intro g5 c6 w5 ho hg hat
            have HO5 := Lib.hid ho
            have HG5 := Lib.hid hg
            have HT5 := Lib.hid (fun q hq => (World.ownsRow.lt HOT.out q hq).1)
            have HW5 := Lib.hid (show wr.heap.size ≤ w5.heap.size from Nat.le_trans HA4.out.size hg.size)
            have y0 : w5.cell? ⟨b5, 0, none⟩ = some (.slice a5 j c5) := (World.cell?_of_block (hg.block b5 (Nat.lt_of_lt_of_le HB5L.out HA4.out.size) (fun e => by have := HT5.out b5 e.symm; have := HB5S.out; omega))).trans u0
            have y1 : w5.cell? ⟨bh, oh + j, none⟩ = some (.string sx) := (World.cell?_of_block (hg.block bh (Nat.lt_of_lt_of_le HBHL.out HA4.out.size) (fun e => by have := HT5.out bh e.symm; have := HBHS.out; omega))).trans u1
            have HBX5 := Lib.hid (show BlkV w5 b5 66 #[.slice a5 j c5] from (hg.block b5 (Nat.lt_of_lt_of_le HB5L.out HA4.out.size) (fun e => by have := HT5.out b5 e.symm; have := HB5S.out; omega)).trans (HBX.out.below HA4.out))
            have rf := HBX5.out.frozen 0
            clear ho hg hat
            refine hK.out _ _ (fun _ => ⟨y0, y1⟩) (fun hH => ?_)
            have hHeld := hH (by decide)
            clear hH
            clear hK K
            (try simp only [Act.put, List.getElem_toArray, List.getElem_cons_succ, List.getElem_cons_zero, List.setIfInBounds_toArray, List.set_cons_zero, List.set_cons_succ])
            refine anyE_take (i := 9) (v := ?vz7) rfl (by kernel_rfl) (by kernel_rfl) (by kernel_rfl) (by kernel_rfl) (by kernel_rfl) (fun _ _ _ h => h) (Or.inl ⟨by kernel_rfl, ?yz7⟩) (by assumption) ?rz7
            case yz7 => (intro w' hSw; (try dsimp only at hSw); go_simp; (try with_reducible rfl))
            (try simp only [Act.put, List.getElem_toArray, List.getElem_cons_succ, List.getElem_cons_zero, List.setIfInBounds_toArray, List.set_cons_zero, List.set_cons_succ])
            refine anyE_one (i := 10) (by kernel_rfl) (anyE_step rfl (fun K hK => ?_))
            go_simp
            refine hK.out _ _ (fun h => absurd rfl h) (fun _ => ?_)
            clear hK K
            (try simp only [Act.put, List.getElem_toArray, List.getElem_cons_succ, List.getElem_cons_zero, List.setIfInBounds_toArray, List.set_cons_zero, List.set_cons_succ])
            refine anyE_done (by kernel_rfl) ?_ _
            refine NoPanic.normal ?_
            go_wp2
            go_roundw
            case rel =>
              refine ⟨j + 1, some ⟨g5, 0, none⟩, c6, by omega, by go_num, ?_, ?_, ?_⟩
              · have h := HBX5.out.set_ 0 (.slice (some ⟨g5, 0, none⟩) nF c6)
                rw [HNF.out]
                exact h
              · rw [HFN.out, HNF.out]
                exact row_setCell HO5.out _ _ (by have := HB5S.out; show b5 < _; omega)
              · exact (((HCI.out.belowR HA4.out).high HG5.out (fun q hq => .inr (HT5.out q hq))).trans (chg_set w5 b5 _)).mono5
            case measure => simp [intOf]; omega
          · obtain rfl : j = M := by omega
            have hx4 := blkv_chg HX4s.out HCI.out (by have := HBB.out; omega)
            have HX4w := Lib.hid hx4
            have q40 : wr.cell? ⟨b4, 0, none⟩ = some (.slice a q.length c) := hx4.cell 0
            have q50 : wr.cell? ⟨b5, 0, none⟩ = some (.slice a5 j c5) := HBX.out.cell 0
            have HOUr := Lib.hid (HOUs.out.chg HCI.out (.inr (by have := HBB.out; omega)))
            obtain ⟨T, hT⟩ : ∃ T, (H.take j).map sptT = T := ⟨_, rfl⟩
            rw [hT] at HOT
            have HTY := Lib.hid (show spuT y = T by
              unfold spuT
              rw [HHY.out, ← hT, ← hM, List.take_eq_take_min])
            have HTL := Lib.hid (show T.length = j by rw [← hT, List.length_map, List.length_take]; omega)
            have HA := Lib.hid ((Below.refl wr.heap.size wr).alloc (Nat.le_refl _) (.cells #[.slice a5 j c5] 66))
            have HNB := Lib.hid (BlkV.new wr 66 #[.slice a5 j c5])
            have HRW := Lib.hid (HOUr.out.1.below HA.out)
            have HSZ := Lib.hid (show w2.heap.size ≤ wr.heap.size from Nat.le_trans HCHs.out.size HCI.out.size)
            have HUW := Lib.hid (show OwnTs (wr.alloc (.cells #[.slice a5 j c5] 66)) w2.heap.size (.slice a5 j c5) T from (HOT.out.below HA.out).mono HCHs.out.size)
            have HDD := Lib.hid (show ∀ k, (Value.slice a5 j c5).ownBlock = some k → (Value.slice a q.length c).ownBlock ≠ some k ∧ ∀ p ∈ q, p.2.ownBlock ≠ some k from fun k hk => ⟨fun e => by
              have h1 := (World.ownsRow.lt HOT.out k hk).1
              have h2 := HOUs.out.2.1 k e
              omega, fun p hp e => by
              have h1 := (World.ownsRow.lt HOT.out k hk).1
              have h2 := HOUs.out.2.2 p hp k e
              omega⟩)
            have HQB := Lib.hid (fun g (hg : (Value.slice a q.length c).ownBlock = some g) => show w2.heap.size ≤ g from (World.ownsRow.lt HOUr.out.1.out g hg).1)
            have HLB := Lib.hid (show b4 < wr.heap.size ∧ b5 < wr.heap.size by have := HBB.out; have := HSZ.out; omega)
            by_cases hjh : (j : Int) < (H.length : Int)
            all_goals
              have hj3 : (j : Int) ≤ 4 := by omega
              first
                | (have hjn : ¬ (j : Int) ≤ 3 := by omega)
                | skip
              clear hT
              go_wp2_with (at_builtin; refine wpList_append_lies _ rfl (.tmp 53) (.tmp 55) 24 rfl w2.heap.size 66 i0 _ 1 24 Tryz.underlying24 hi hz0 hz1 hz2 rfl (by decide) (.slice a q.length c) q.length (valsU q) rfl HRW.out.out ⟨wr.heap.size, 0, none⟩ 1 1 [.slice a5 j c5] rfl rfl (World.news_of_block (cs := #[.slice a5 j c5]) (fr := (0, 0)) HNB.out) (by simp [Value.oneCell']) (by omega) (by unfold maxLen; omega) (by omega) (Nat.le_trans HSZ.out HA.out.size) _ rfl ?_; intro g cap w5 ho hg hat _; have HO5 := Lib.hid ho; have HG5 := Lib.hid hg; have HAT := Lib.hid hat; have hx45 : BlkV w5 b4 26 #[.slice a q.length c] := (hg.block b4 (Nat.lt_of_lt_of_le HLB.out.1 HA.out.size) (fun e => by have := HQB.out b4 e.symm; have := HBB.out; omega)).trans (HX4w.out.below HA.out); have hx55 : BlkV w5 b5 66 #[.slice a5 j c5] := (hg.block b5 (Nat.lt_of_lt_of_le HLB.out.2 HA.out.size) (fun e => by have := HQB.out b5 e.symm; have := HBB.out; omega)).trans (HBX.out.below HA.out); have HX45 := Lib.hid hx45; have HX55 := Lib.hid hx55; have c45 : w5.cell? ⟨b4, 0, none⟩ = some (.slice a q.length c) := hx45.cell 0; have c55 : w5.cell? ⟨b5, 0, none⟩ = some (.slice a5 j c5) := hx55.cell 0; have f45 := hx45.frozen 0; have f55 := hx55.frozen 0; have hne : ¬ b5 = b4 := (by have := HBB.out; omega); clear ho hg hat hx45 hx55)
              go_roundw
              case rel =>
                have hbb := HBB.out
                have hou := HRW.out.snoc HUW.out HDD.out HG5.out HO5.out rfl HAT.out
                have hch := ((HCHs.out.trans (HCI.out.wide (by omega) (Nat.le_refl _))).belowR HA.out).high HG5.out (fun g hg => .inr (HQB.out g hg))
                refine ⟨k + 1, by omega, by omega, q ++ [(T, .slice a5 j c5)], some ⟨g, 0, none⟩, cap, ?_, ?_, ?_, ?_, ?_⟩
                · rw [List.length_append]
                  exact (HX45.out.set_ 0 _).other ⟨b5, 0, none⟩ _ (by simp; omega)
                · exact (HX55.out.other ⟨b4, 0, none⟩ _ (by simp; omega)).set_ 0 _
                · rw [List.length_append]
                  exact (hou.setc _ _ (by show b4 < _; omega)).setc _ _ (by show b5 < _; omega)
                · rw [HE.out, List.map_append, ← HRQ.out, List.map_singleton, HTY.out]
                  simp [rulesU]
                · exact (hch.trans ((chg_set w5 b4 _).wide (Nat.le_refl _) (by omega))).trans ((chg_set _ b5 _).wide (by omega) (Nat.le_refl _))
              case measure => simp [intOf]; omega
    · obtain rfl : k = N := by omega
      obtain ⟨F, hF⟩ : ∃ F, rulesU q = F := ⟨_, rfl⟩
      have HFQ := Lib.hid hF
      have HFS := Lib.hid (show spR s.data.toList = F by rw [HF.out, HPN.out, ← HRQ.out, hF])
      have HFL := Lib.hid (show F.length = q.length by rw [← hF, rulesU_len])
      have HSM := Lib.hid (show SmRu wr a F c from HOU.out.smRu hF (by rw [HFL.out]; omega) (fun x hx => by
        rw [← hF, HRQ.out] at hx
        obtain ⟨p, _, rfl⟩ := List.mem_map.1 hx
        have := spu_len p
        omega))
      obtain ⟨V, hV⟩ : ∃ V, rsR F = V := ⟨_, rfl⟩
      have HVV := Lib.hid hV
      have HCF := Lib.hid (show Calls Tryz.prog 120 #[.agg #[.slice a q.length c]] wr (fun e w' => e = .returned (.string V) ∧ Below wr.heap.size wr w') by
        have h := rf_spec a c F V wr hV HSM.out
        rwa [HFL.out] at h)
      have q40 : wr.cell? ⟨b4, 0, none⟩ = some (.slice a q.length c) := HX4r.out.cell 0
      have hx2 := blkv_chg HX2b.out HCH.out (by have := HBB.out; omega)
      have HX2r := Lib.hid hx2
      have q20 : wr.cell? ⟨b2, 0, none⟩ = some (.slice none 0 0) := hx2.cell 0
      have f20 := hx2.frozen 0
      have HBW := Lib.hid (below_chg HB2.out HCH.out (by have := HBB.out; omega))
      have HBS := Lib.hid (show b2 < wr.heap.size ∧ b2 < w2.heap.size by have := HBB.out; have := HCH.out.size; omega)
      have hfin : k < P.length → k = 7 := by omega
      have HFIN := Lib.hid hfin
      clear hF hV hx2 hfin
      by_cases h0 : s.size = 0
      · have hem := empties h0
        obtain ⟨rfl, rfl⟩ := pr_spec_no HO.out (by
          rintro ⟨h1, h2⟩
          exact rsl_ne h1 (by rw [h2, empt h0]))
        by_cases hkp : (k : Int) < (P.length : Int)
        all_goals
          have hk7 : (k : Int) ≤ 7 := by omega
          first
            | (have hkn : ¬ (k : Int) ≤ 6 := by have := HFIN.out (by omega); omega)
            | skip
          go_wp2
          have z := HX2r.out.set_ 0 (.slice none 0 0)
          have e0 : _ = some (Value.slice none 0 0) := z.cell 0
          refine bodyPost_ret (v := .tuple #[.agg #[.slice none 0 0], .bool false]) (by simp [results, Tryz.results104, go_sem, e0]) rfl ⟨none, 0, [], rfl, rfl, OwnRu.nil _ _, ?_⟩
          exact HBW.out.setCell (by have := HBE.out.1; show w.heap.size ≤ b2; omega) _
      · have hfu := fulls h0
        have HNE := Lib.hid (show s.data.toList ≠ [] from fun e => h0 (by rw [← dsize, e]; rfl))
        by_cases hVs : V = s
        · have hVq : (V.toList == s.toList) = true := by rw [hVs]; simp
          obtain ⟨hv, hl⟩ := rs_same (HVV.out.trans hVs) HNE.out
          obtain ⟨rfl, rfl⟩ := pr_yes HO.out hv hl
          clear hVs hv hl
          by_cases hkp : (k : Int) < (P.length : Int)
          all_goals
            have hk7 : (k : Int) ≤ 7 := by omega
            first
              | (have hkn : ¬ (k : Int) ≤ 6 := by have := HFIN.out (by omega); omega)
              | skip
            go_wp2_with (go_at_call 120; ((with_reducible refine HCF.out.mono ?_); rintro e w3 ⟨rfl, hb3⟩; have q43 := (HX4r.out.below hb3).cell 0; have f23 := (HX2r.out.below hb3).frozen 0; have c23 := (HX2r.out.below hb3).cell 0; have HB3 := Lib.hid hb3; clear hb3))
            have z := (HX2r.out.below HB3.out).set_ 0 (.slice a q.length c)
            have e0 : _ = some (Value.slice a q.length c) := z.cell 0
            have hbs := HBS.out.2
            have hbe := HBE.out.1
            refine bodyPost_ret (v := .tuple #[.agg #[.slice a q.length c], .bool true]) (by simp [results, Tryz.results104, go_sem, e0]) rfl ⟨a, c, q, by rw [HFL.out], HFQ.out, ?_, ?_⟩
            · rw [HFL.out]
              exact ((HOU.out.below HB3.out).setc _ _ (by show b2 < _; omega)).mono (by omega)
            · exact (HBW.out.trans (HB3.out.mono HBW.out.size)).setCell (by show w.heap.size ≤ b2; omega) _
        · have hVq := sames hVs
          obtain ⟨rfl, rfl⟩ := pr_spec_no HO.out (by rw [HFS.out]; exact rs_other (fun e => hVs (HVV.out.symm.trans e)))
          clear hVs
          by_cases hkp : (k : Int) < (P.length : Int)
          all_goals
            have hk7 : (k : Int) ≤ 7 := by omega
            first
              | (have hkn : ¬ (k : Int) ≤ 6 := by have := HFIN.out (by omega); omega)
              | skip
            go_wp2_with (go_at_call 120; ((with_reducible refine HCF.out.mono ?_); rintro e w3 ⟨rfl, hb3⟩; have q43 := (HX4r.out.below hb3).cell 0; have f23 := (HX2r.out.below hb3).frozen 0; have c23 := (HX2r.out.below hb3).cell 0; have HB3 := Lib.hid hb3; clear hb3))
            have z := (HX2r.out.below HB3.out).set_ 0 (.slice none 0 0)
            have e0 : _ = some (Value.slice none 0 0) := z.cell 0
            have hbe := HBE.out.1
            refine bodyPost_ret (v := .tuple #[.agg #[.slice none 0 0], .bool false]) (by simp [results, Tryz.results104, go_sem, e0]) rfl ⟨none, 0, [], rfl, rfl, OwnRu.nil _ _, ?_⟩
            exact (HBW.out.trans (HB3.out.mono HBW.out.size)).setCell (by show w.heap.size ≤ b2; omega) _

end Go.Proofs.YtpmfabpnjacegaaGreatDoor

