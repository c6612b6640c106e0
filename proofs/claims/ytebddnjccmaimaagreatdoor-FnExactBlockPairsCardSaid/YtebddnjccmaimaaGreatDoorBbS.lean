/-
  What spec.BuildBlocks answers. By an AI agent.
-/
import Derived.Test.YtebddnjccmaimaaGreatDoorBkG
import Derived.Test.YtebddnjccmaimaaGreatDoorGBl
import Derived.Deep.RegionHeld3
namespace Go.Proofs.YtebddnjccmaimaaGreatDoor
open Go.RowKit Go.Maps
set_option linter.unusedVariables false

theorem take_map_flat {S : List RC} {k : Nat} {x : RC} (h : S[k]? = some x) : ((S.take (k + 1)).map bkR).flatten = ((S.take k).map bkR).flatten ++ bkR x := by
  rw [rcs_take h, List.map_append, List.flatten_append]
  simp
theorem set_step {l m : List Str} : setL (setL l ++ m) = setL (l ++ m) := setL_congr fun x => by
  rw [List.mem_append, List.mem_append, setL_mem]
theorem memN_succ {S : List RC} {i : Nat} {y : RC} (h : S[i]? = some y) (x : Str) : memN ((S.take (i + 1)).map bkR) x = memN ((S.take i).map bkR) x ++ if x ∈ bkR y then [(i : Int)] else [] := by
  have hlt := (List.getElem?_eq_some_iff.1 h).1
  have hl : ((S.take i).map bkR).length = i := by rw [List.length_map, List.length_take]; omega
  rw [rcs_take h, List.map_append, List.map_cons, List.map_nil, memN_snoc, hl]
/-- the cells that a test reads -/
def FiveR (w : World) (b o : Nat) (s k v : Int) (V : Value) (bk ok : Nat) (u : ByteArray) : Prop :=
  w.cell? ⟨b, o, none⟩ = some (.int .i64 s) ∧ w.cell? ⟨b, o + 1, none⟩ = some (.int .i64 k) ∧ w.cell? ⟨b, o + 2, none⟩ = some (.int .i64 v) ∧ w.cell? ⟨b, o + 3, none⟩ = some V ∧ w.cell? ⟨bk, ok, none⟩ = some (.string u)
theorem FiveR.below {w w' : World} {b o : Nat} {s k v : Int} {V : Value} {bk ok : Nat} {u : ByteArray} (h : FiveR w b o s k v V bk ok u) (hb : Below w.heap.size w w') : FiveR w' b o s k v V bk ok u := by
  have k : ∀ {p : Addr} {v : Value}, w.cell? p = some v → w'.cell? p = some v := fun {p v} hc => (hb.cell (World.block_lt_of_cell? w _ hc)).trans hc
  exact ⟨k h.1, k h.2.1, k h.2.2.1, k h.2.2.2.1, k h.2.2.2.2⟩

set_option maxRecDepth 100000 in
set_option maxHeartbeats 4000000 in
theorem bb_spec (a : Option Addr) (c : Nat) (S : List RC) (r : List BK) (w : World) (hr : blkL (kbR S) = r) (h : SmRc w a S c) (hT : SpT w) :
    Calls Tryz.prog 22 #[.slice a S.length c] w (GivesBk w r) := by
  obtain ⟨w1, hw1⟩ : ∃ w1, w1 = w.alloc (.cells #[] 42) := ⟨_, rfl⟩
  have HW1 := Lib.hid hw1
  have HZ1 := Lib.hid (show w1.heap.size = w.heap.size + 1 by rw [hw1]; simp)
  have HB1 := Lib.hid (show Below w.heap.size w w1 by rw [hw1]; exact (Below.refl _ _).alloc (Nat.le_refl _) _)
  have HO1 := Lib.hid (show OwnBk w1 w.heap.size (.slice (some ⟨w.heap.size, 0, none⟩) 0 0) [] by rw [hw1]; exact OwnBk.new w _ rfl)
  have H0 := Lib.hid h
  have HT0 := Lib.hid hT
  have H1 := Lib.hid (h.below HB1.out)
  have HT1 := Lib.hid (hT.below HB1.out)
  have hsl := h.2.2.2.1
  obtain ⟨g0, hg0⟩ : ∃ x, goodB S = x := ⟨_, rfl⟩
  have HG := Lib.hid hg0
  have HR := Lib.hid hr
  clear hw1 h hT hg0 hr
  cases g0
  · obtain rfl : [] = r := by rw [← HR.out, kb_no HG.out]; rfl
    go_enter Tryz.func22, Tryz.ntmps22
    go_wp2_with (go_at_call 60; rw [← HW1.out]; ((with_reducible refine (good_spec a c S _ w1 HG.out H1.out).mono ?_); rintro e w2 ⟨rfl, hb⟩; have HB2 := Lib.hid (HB1.out.trans (hb.mono HB1.out.size)); have HO2 := Lib.hid (HO1.out.below hb); clear hb))
    go_ret
    exact ⟨_, _, [], rfl, rfl, HO2.out, HB2.out⟩
  · have hs12 := good_len HG.out
    obtain ⟨KL, hKL⟩ : ∃ x, setL ((S.map bkR).flatten) = x := ⟨_, rfl⟩
    have hKl : KL.length ≤ 1956 := by
      rw [← hKL]
      have h1 := setL_length ((S.map bkR).flatten)
      have h2 := kb_flat S
      rw [kb_yes HG.out] at h2
      omega
    have HKX := Lib.hid (show ∀ x ∈ KL, x.length ≤ 100 from fun x hx => by
      rw [← hKL, setL_mem] at hx
      exact kb_key (S := S) (by rw [kb_yes HG.out]; exact hx))
    have HRL := Lib.hid (show KL.map (fun x => (x, memN (S.map bkR) x)) = r by rw [← HR.out, ← hKL]; unfold blkL; rw [kb_yes HG.out])
    have HKL := Lib.hid hKL
    clear hKL
    go_enter Tryz.func22, Tryz.ntmps22
    go_wp2_with (go_at_call 60; rw [← HW1.out]; ((with_reducible refine (good_spec a c S _ w1 HG.out H1.out).mono ?_); rintro e w2 ⟨rfl, hb⟩; refine Hid.out ?_))
    have HB2 := Lib.hid hb
    have HN3 := Lib.hid (show OwnS (w2.alloc (.cells #[] 9)) w1.heap.size (.slice (some ⟨w2.heap.size, 0, none⟩) 0 0) [] from own_new w2 _ _ rfl hb.size)
    have HB3 := Lib.hid (show Below w1.heap.size w1 (w2.alloc (.cells #[] 9)) from hb.alloc hb.size _)
    clear hb
    refine Lib.hid ?_
    go_wp2
    go_loopw [4, 5] (fun v i wr => ∃ (k : Nat) (ak : Option Addr) (ck : Nat) (q : List Str), k ≤ S.length ∧ i = .int .i64 k ∧ v = .slice ak q.length ck ∧ q = setL ((S.take k).map bkR).flatten ∧ OwnS wr w1.heap.size (.slice ak q.length ck) q ∧ Below w1.heap.size w1 wr) (fun _ i _ => S.length - (intOf i).toNat)
    case atStart => exact ⟨0, _, _, [], Nat.zero_le _, rfl, rfl, rfl, HN3.out, HB3.out⟩
    case round =>
      obtain ⟨k, ak, ck, q, hk, rfl, rfl, hq, hown, hb⟩ := hrel
      have hql : q.length ≤ 2000 := by
        rw [hq]
        have h1 := setL_length ((S.take k).map bkR).flatten
        have h2 := flat_bound 163 ((S.take k).map bkR) (fun l hl => by obtain ⟨y, _, rfl⟩ := List.mem_map.1 hl; exact bk_len y)
        have h3 : ((S.take k).map bkR).length ≤ 12 := by rw [List.length_map]; have := List.length_take_le k S; omega
        omega
      have HQX := Lib.hid (show ∀ x ∈ q, x.length ≤ 1048576 from fun x hx => by
        rw [hq, setL_mem] at hx
        obtain ⟨l, hl, hx2⟩ := List.mem_flatten.1 hx
        obtain ⟨y, _, rfl⟩ := List.mem_map.1 hl
        have := bk_mem hx2
        omega)
      have HQ := Lib.hid hq
      have HOWN := Lib.hid hown
      have HB := Lib.hid hb
      clear hq hown hb
      by_cases hlt : k < S.length
      · obtain ⟨b, off, s, kk, v, l, a', c', rfl, hbl, hx, q0, q1, q2, q3, hsm⟩ := (H1.out.below HB.out).at_ hlt
        have HX := Lib.hid hx
        obtain ⟨K, hK⟩ : ∃ x, bkR ((s, kk, v), l) = x := ⟨_, rfl⟩
        have HK := Lib.hid hK
        have HKS := Lib.hid (show K.length ≤ 4000000 ∧ ∀ y ∈ K, y.length ≤ 1048576 by rw [← hK]; exact bk_small _)
        have HSM := Lib.hid hsm
        clear hx hsm hK
        go_wp2_with (first
          | (go_at_call 24; ((with_reducible refine (bk_spec s kk v a' c' l K _ HK.out HSM.out (HT1.out.below HB.out)).mono ?_); rintro e w4 ⟨a4, c4, rfl, ho, hb⟩; have HO4 := Lib.hid ho; have HB4 := Lib.hid (HB.out.trans (hb.mono HB.out.size)); have HP4 := Lib.hid (HOWN.out.below hb); clear ho hb))
          | (go_at_call 61; ((with_reducible refine (unite_spec ak a4 ck c4 q K _ (HP4.out.sm (by omega) HQX.out) (HO4.out.sm HKS.out.1 HKS.out.2)).mono ?_); rintro e w5 ⟨a5, c5, rfl, ho, hb⟩; have HO5 := Lib.hid (ho.mono HB4.out.size); have HB5 := Lib.hid (HB4.out.trans (hb.mono HB4.out.size)); clear ho hb)))
        go_roundw
        case rel =>
          refine ⟨k + 1, a5, c5, uniteR q K, by omega, by go_num, rfl, ?_, HO5.out, HB5.out⟩
          rw [take_map_flat HX.out, HK.out, HQ.out]
          exact set_step
        case measure => simp [intOf]; omega
      · obtain rfl : k = S.length := by omega
        obtain rfl : q = KL := by rw [HQ.out, ← HKL.out, List.take_length]
        obtain ⟨w5, rfl⟩ : ∃ w5, w5 = wr := ⟨_, rfl⟩
        have HOK := Lib.hid (show OwnH w5 w1.heap.size w5.heap.size (.slice ak q.length ck) q from ⟨HOWN.out, fun k hk => (World.ownsRow.lt HOWN.out k hk).2⟩)
        clear HQ
        go_wp2
        obtain ⟨i1, hi1, hy0, hy1, hy2⟩ := info_parts info_blk
        go_loopw [3, 6] (fun v i wr => ∃ (k : Nat) (p : List XB), k ≤ q.length ∧ i = .int .i64 k ∧ OwnBk wr w.heap.size v p ∧ blksB p = (q.take k).map (fun x => (x, memN (S.map bkR) x)) ∧ (∀ j, v.ownBlock = some j → j = w.heap.size ∨ w5.heap.size ≤ j) ∧ OwnH wr w1.heap.size w5.heap.size (.slice ak q.length ck) q ∧ Below w.heap.size w wr ∧ w5.heap.size ≤ wr.heap.size) (fun _ i _ => q.length - (intOf i).toNat)
        case atStart => exact ⟨0, [], Nat.zero_le _, rfl, HO1.out.below HB.out, rfl, (fun j hj => by simp [Value.ownBlock] at hj; exact .inl hj.symm), HOK.out, HB1.out.trans (HB.out.mono HB1.out.size), Nat.le_refl _⟩
        case round =>
          obtain ⟨k, p, hk, rfl, hO, hp, hv, hK, hb, hsz⟩ := hrel
          obtain ⟨wo, rfl⟩ : ∃ wo, wo = wr := ⟨_, rfl⟩
          obtain ⟨av, cv, rfl⟩ := hO.shape
          have hpl : p.length = k := by have h1 := congrArg List.length hp; rw [blksB_len, List.length_map, List.length_take] at h1; omega
          have HO := Lib.hid hO
          have HP := Lib.hid hp
          have HV := Lib.hid hv
          have HK := Lib.hid hK
          have HBo := Lib.hid hb
          have HSZ := Lib.hid hsz
          have HPL := Lib.hid hpl
          clear hO hp hv hK hb hsz hpl
          by_cases hlt2 : k < q.length
          · obtain ⟨bk, ok, rfl, hbk, hck⟩ := HK.out.inS (by omega)
            obtain ⟨x, u, hx1, hx2, hx3, hx4⟩ := str_at hlt2
            have hcell : wo.cell? ⟨bk, ok + k, none⟩ = some (.string u) := by rw [← hx3]; exact hck k x hx1
            obtain ⟨w6, hw6⟩ : ∃ w6, w6 = wo.alloc (.cells #[.string u, .slice none 0 0] 42) := ⟨_, rfl⟩
            have HW6 := Lib.hid hw6
            have HB6 := Lib.hid (show Below wo.heap.size wo w6 by rw [hw6]; exact (Below.refl _ _).alloc (Nat.le_refl _) _)
            have HZ6 := Lib.hid (show w6.heap.size = wo.heap.size + 1 by rw [hw6]; simp)
            have HR6 := Lib.hid (show BlkV w6 wo.heap.size 42 #[.string u, .slice none 0 0] by rw [hw6]; exact BlkV.new _ _ _)
            have HO6 := Lib.hid (show OwnHBk w6 w.heap.size wo.heap.size (.slice av p.length cv) p from (OwnHBk.of HO.out).below HB6.out)
            have HK6 := Lib.hid (HK.out.below HB6.out)
            have HBB6 := Lib.hid (HBo.out.trans (HB6.out.mono HBo.out.size))
            have HX1 := Lib.hid hx1
            have HX2 := Lib.hid hx2
            have HX3 := Lib.hid hx3
            have HCK := Lib.hid hck
            have HBK := Lib.hid hbk
            have HWW := Lib.hid HBo.out.size
            clear hw6 hx1 hx2 hx3 hx4 hck hbk
            go_wp2
            rw [← HW6.out]
            clear hcell
            go_loopw [8] (fun i wr => ∃ (m : Nat) (V : Value), m ≤ S.length ∧ i = .int .i64 m ∧ BlkV wr wo.heap.size 42 #[.string u, V] ∧ OwnI wr w6.heap.size V (memN ((S.take m).map bkR) x) ∧ Chg w6 wr wo.heap.size (wo.heap.size + 1)) (fun i _ => S.length - (intOf i).toNat)
            case atStart => exact ⟨0, _, Nat.zero_le _, rfl, HR6.out, OwnI.nil _ _, Chg.refl _ _ _⟩
            case round =>
              obtain ⟨m, V, hm, rfl, hR, hV, hC⟩ := hrel
              have hbw : Below w.heap.size w wr := below_chg HBB6.out hC HWW.out
              have hml : (memN ((S.take m).map bkR) x).length ≤ 12 := by
                have h1 := memN_len ((S.take m).map bkR) x
                have h2 := List.length_take_le m S
                rw [List.length_map] at h1
                omega
              obtain ⟨M, hM⟩ : ∃ M, memN ((S.take m).map bkR) x = M := ⟨_, rfl⟩
              rw [hM] at hV hml
              have HM := Lib.hid hM
              clear hM
              obtain ⟨aV, cV, rfl⟩ := hV.shape
              have HR := Lib.hid hR
              have HVV := Lib.hid hV
              have HC := Lib.hid hC
              have HBW := Lib.hid hbw
              have HKr := Lib.hid (HK6.out.chg hC (.inl HSZ.out))
              have HOr := Lib.hid (HO6.out.chg hC (.inl (Nat.le_refl _)))
              clear hR hV hC hbw
              by_cases hlt3 : m < S.length
              · obtain ⟨b, off, s, kk, v, l, a', c', rfl, hbl, hx, q0, q1, q2, q3, hsm⟩ := (H0.out.below HBW.out).at_ hlt3
                obtain ⟨bk2, ok2, e2, hbk2, hck2⟩ := HKr.out.inS (by omega)
                injection e2 with e2
                injection e2 with e3 e4
                subst e3 e4
                have hcell : wr.cell? ⟨bk, ok + k, none⟩ = some (.string u) := by rw [← HX3.out]; exact hck2 k x HX1.out
                obtain ⟨K, hK⟩ : ∃ x, bkR ((s, kk, v), l) = x := ⟨_, rfl⟩
                have HKK := Lib.hid hK
                have HKS := Lib.hid (show K.length ≤ 4000000 ∧ ∀ y ∈ K, y.length ≤ 1048576 by rw [← hK]; exact bk_small _)
                have XB := Lib.hid (fun W (hW : Below wr.heap.size wr W) => bk_spec s kk v a' c' l K W hK (hsm.below hW) ((HT0.out.below HBW.out).below hW))
                have five : FiveR wr b (off + m * 4) s kk v (.slice a' l.length c') bk (ok + k) u := ⟨q0, q1, q2, q3, hcell⟩
                have HMS := Lib.hid (show memN ((S.take (m + 1)).map bkR) x = M ++ if x ∈ bkR ((s, kk, v), l) then [(m : Int)] else [] by rw [memN_succ hx x, HM.out])
                clear hx hsm hK hck2 hbk2 hcell q0 q1 q2 q3
                by_cases hxk : x ∈ K
                all_goals
                  have HXK := Lib.hid hxk
                  clear hxk
                  go_wp2_with (fail)
                  go_region_held3 (fun w' => w'.cell? ⟨b, off + m * 4, none⟩ = some (.int .i64 s) ∧ w'.cell? ⟨b, off + m * 4 + 1, none⟩ = some (.int .i64 kk) ∧ w'.cell? ⟨b, off + m * 4 + 2, none⟩ = some (.int .i64 v) ∧ w'.cell? ⟨b, off + m * 4 + 3, none⟩ = some (.slice a' l.length c') ∧ w'.cell? ⟨bk, ok + k, none⟩ = some (.string u))
                    (first | exact f7 | exact five)
                    (first
                      | (go_at_call 24; (with_reducible refine (XB.out _ ((Below.refl _ _).drew)).mono ?_); rintro e w7 ⟨a7, c7, rfl, ho, hb⟩; have hq := undrew hb; have f7 := five.below hq; have HB7 := Lib.hid hq; have HO7 := Lib.hid ho; clear ho hb hq)
                      | (go_at_call 62; (with_reducible refine (has_yes a7 c7 K u x _ HKS.out.1 HO7.out.inS HX2.out HXK.out).mono ?_); rintro e w8 ⟨rfl, hw8⟩; obtain rfl := hw8.symm)
                      | (go_at_call 62; (with_reducible refine (has_no a7 c7 K u x _ HKS.out.1 HO7.out.inS HX2.out HXK.out).mono ?_); rintro e w8 ⟨rfl, hw8⟩; obtain rfl := hw8.symm))
                  refine Hid.out ?_
                  have HR7 := Lib.hid (HR.out.below HB7.out)
                  have HV7 := Lib.hid (HVV.out.below HB7.out)
                  have HC7 := Lib.hid (HC.out.belowR HB7.out)
                  clear five f7
                · have hVb : ∀ j, (Value.slice aV M.length cV).ownBlock = some j → w6.heap.size ≤ j := fun j hj => (World.ownsRow.lt HV7.out j hj).1
                  have HVB := Lib.hid hVb
                  have hz6 := HZ6.out
                  have hs7 : w6.heap.size ≤ w7.heap.size := Nat.le_trans HC.out.size HB7.out.size
                  have HS7 := Lib.hid hs7
                  have r1 := HR7.out.two1
                  clear hVb hz6
                  refine Lib.hid ?_
                  go_wp2_with (at_builtin; refine append_i rfl _ _ rfl w6.heap.size _ _ (m : Int) HV7.out rfl rfl (by omega) hs7 ?_; intro v' w8 ho8 hg8 hv8; refine Hid.out ?_)
                  obtain ⟨M8, hM8⟩ : ∃ M8, M ++ [(m : Int)] = M8 := ⟨_, rfl⟩
                  rw [hM8] at ho8
                  have HM8 := Lib.hid hM8
                  clear hM8
                  obtain ⟨a8, c8, rfl⟩ := ho8.shape
                  have HO8 := Lib.hid ho8
                  have hne8 : some wo.heap.size ≠ (Value.slice aV M.length cV).ownBlock := fun e => by have := HVB.out _ e.symm; have := HZ6.out; omega
                  have HR8 := Lib.hid (show BlkV w8 wo.heap.size 42 #[.string u, .slice aV M.length cV] from (hg8.block _ HR7.out.lt hne8).trans HR7.out)
                  have HC8 := Lib.hid (HC7.out.high hg8 (fun j hj => .inr (HVB.out j hj)))
                  have r1' := HR8.out.two1
                  have f1' := HR8.out.frozen 1
                  clear ho8 hg8 hv8 r1 hne8
                  refine Lib.hid ?_
                  go_wp2
                  go_roundw
                  case rel =>
                    refine ⟨m + 1, .slice a8 M8.length c8, by omega, by go_num, HR8.out.set_ 1 _, ?_, HC8.out.grown (egrown_set _ _ _ _) (fun j hj => by injection hj with hj; omega)⟩
                    rw [HMS.out, HKK.out, if_pos HXK.out, HM8.out]
                    exact row_setCell HO8.out _ _ (by have := HZ6.out; simp; omega)
                  case measure => simp [intOf]; omega
                · refine Lib.hid ?_
                  go_wp2
                  go_roundw
                  case rel =>
                    refine ⟨m + 1, _, by omega, by go_num, HR7.out, ?_, HC7.out⟩
                    rw [HMS.out, HKK.out, if_neg HXK.out, List.append_nil]
                    exact HV7.out
                  case measure => simp [intOf]; omega
              · obtain rfl : m = S.length := by omega
                have r0 := HR.out.two0
                have r1 := HR.out.two1
                have HVb := Lib.hid (show ∀ j, (Value.slice aV M.length cV).ownBlock = some j → w6.heap.size ≤ j ∧ j < wr.heap.size from fun j hj => World.ownsRow.lt HVV.out j hj)
                have HVa := Lib.hid (show ∀ j, (Value.slice av p.length cv).ownBlock = some j → w.heap.size ≤ j ∧ j < wo.heap.size from fun j hj => ⟨(World.ownsRow.lt HOr.out.1.out j hj).1, HOr.out.2.1 j hj⟩)
                have hpz : p.length ≤ 2000 := by have := HPL.out; omega
                have hsw : w.heap.size ≤ wr.heap.size := HBW.out.size
                go_wp2_with (at_builtin; refine wpList_append_own_at _ rfl _ _ 38 rfl w.heap.size 42 i1 _ 2 40 Tryz.underlying38 hi1 hy0 hy1 hy2 rfl (by decide) _ _ _ rfl (World.ownsRow.alloc HOr.out.1.out _) ⟨wr.heap.size, 0, none⟩ 1 1 [.string u, .slice aV M.length cV] rfl rfl (two_cells wr _ _ _) (by simp [Value.oneCell']) (by unfold maxLen; omega) (by omega) (by simp; omega) ?_; intro v' w9 hown9 hg9 hnil9 hat9; refine Hid.out ?_)
                have HBA := Lib.hid ((Below.refl wr.heap.size wr).alloc (Nat.le_refl _) (.cells #[.string u, .slice aV M.length cV] 42))
                have HO9 := Lib.hid (OwnBk.snoc (x := x) (m := M) (HOr.out.1.below HBA.out) ((HVV.out.below HBA.out).mono (Nat.le_trans HBB6.out.size (Nat.le_refl _)))
                  (fun j hj e => by have h1 := HVb.out j hj; have h2 := HVa.out j e; have h3 := HZ6.out; omega)
                  (fun r hr j hj e => by have h1 := HVb.out j e; have h2 := HOr.out.2.2 r hr j hj; have h3 := HZ6.out; omega) hg9 (by rw [HX3.out]; exact hown9) hat9)
                have HK9 := Lib.hid (show OwnH w9 w1.heap.size w5.heap.size (.slice (some ⟨bk, ok, none⟩) q.length ck) q from
                  ⟨row_keptO (HKr.out.1.below HBA.out) hg9 (fun j hj e => by
                    have h1 := HV.out j hj
                    have h2 := HKr.out.row j e
                    have h3 := HZ1.out
                    omega), HKr.out.2⟩)
                have HV9 := Lib.hid (show ∀ j, v'.ownBlock = some j → j = w.heap.size ∨ w5.heap.size ≤ j from fun j hj => by
                  rcases hat9 with h1 | h1
                  · rw [h1] at hj; exact HV.out j hj
                  · rw [h1] at hj
                    injection hj with hj
                    have := HSZ.out
                    have := HC.out.size
                    have := HZ6.out
                    simp at hj
                    omega)
                have HB9 := Lib.hid ((HBW.out.alloc HBW.out.size (.cells #[.string u, .slice aV M.length cV] 42)).grown hg9 (by simp; omega) (fun j hj => (HVa.out j hj).1))
                have HS9 := Lib.hid (show w5.heap.size ≤ w9.heap.size by have h1 := hg9.size; have h2 := HSZ.out; have h3 := HC.out.size; have h4 := HZ6.out; simp at h1; omega)
                clear hown9 hg9 hnil9 hat9 r0 r1
                refine Lib.hid ?_
                go_wp2
                go_roundw
                case rel =>
                  refine ⟨k + 1, p ++ [((x, M), .slice aV M.length cV)], by omega, by go_num, HO9.out, ?_, HV9.out, HK9.out, HB9.out, HS9.out⟩
                  have e := HM.out
                  rw [List.take_length] at e
                  rw [take_snoc' HX1.out, List.map_append, ← HP.out, List.map_cons, List.map_nil, e]
                  simp [blksB]
                case measure => simp [intOf]; omega
          · obtain rfl : k = q.length := by omega
            have HE := Lib.hid (show blksB p = r by rw [HP.out, List.take_length, HRL.out])
            have hpr : p.length = r.length := by rw [← HE.out, blksB_len]
            go_wp2
            go_ret
            rw [hpr]
            exact ⟨_, _, p, rfl, HE.out, by rw [← hpr]; exact HO.out, HBo.out⟩

end Go.Proofs.YtebddnjccmaimaaGreatDoor
