/-
  What impl.copySetIndex hands back. By an AI agent.
-/
import Derived.Test.YthjbekgognfiiaaGreatIxN
import Derived.Test.YthjbekgognfiiaaGreatIxU
import Derived.Deep.RegionHeld3
import Derived.Deep.RegionWith
import Derived.Deep.RegionHeld3
namespace Go.Proofs.YthjbekgognfiiaaGreat
open Go.RowKit
set_option linter.unusedVariables false

theorem inS_cells {w : World} {a : Option Addr} {l : List Str} (h : InS w a l) : CellsAt w a (l.map encStr) := by
  intro h0
  rw [List.length_map] at h0
  obtain ⟨b, off, ha, hlt, hc⟩ := h h0
  refine ⟨b, off, ha, hlt, fun j u hj => ?_⟩
  rw [List.getElem?_map] at hj
  cases hx : l[j]? with
  | none => rw [hx] at hj; cases hj
  | some x =>
    rw [hx] at hj
    rw [hc j x hx]
    exact hj

set_option maxRecDepth 100000 in
theorem sclone_any (a : Option Addr) (c : Nat) (l : List Str) (w : World) (h : Sm w a l c) :
    Calls Tryz.prog 43 #[.slice a l.length c] w (GivesS w l) := by
  obtain ⟨i0, hi, hz0, hz1, hz2⟩ := info_parts info_str
  have hq := q_nil 28 9 Tryz.underlying28
  have hl := h.2.2.2.1
  have HIN := Lib.hid (inS_cells h.1)
  by_cases ha : a = none
  · subst ha
    obtain rfl : l = [] := by
      rcases Nat.eq_zero_or_pos l.length with h0 | h0
      · exact List.eq_nil_of_length_eq_zero h0
      · obtain ⟨_, _, e, _⟩ := h.1 h0; cases e
    clear h
    go_enter Tryz.func43, Tryz.ntmps43
    go_wp2
    go_ret
    exact GivesS.mk (OwnS.nil _ _) (Below.refl _ _)
  · obtain ⟨ad, rfl⟩ : ∃ ad, a = some ad := Option.ne_none_iff_exists'.1 ha
    clear h ha
    go_enter Tryz.func43, Tryz.ntmps43
    go_wp2_with (at_builtin; refine wpList_app_row rfl _ _ 28 9 rfl i0 _ 1 16 Tryz.underlying28 hi hz0 hz1 hz2 rfl (by decide) w.heap.size _ 0 [] rfl (World.ownsRow_made w #[] 0 (Nat.le_refl _) (Nat.zero_le _) (by simp)) (some ad) l.length c (l.map encStr) rfl (by simp) (HIN.out.below ((Below.refl _ _).alloc (Nat.le_refl _) _)) (fun e => by cases e) (fun u hu => by obtain ⟨x, _, rfl⟩ := List.mem_map.1 hu; rfl) (by unfold maxLen; omega) (by omega) (by simp) ?_; intro v' w1 ho hg; have HO := Lib.hid ho; have HG := Lib.hid hg; clear ho hg)
    go_ret
    refine GivesS.mk ?_ (((Below.refl _ w).alloc (Nat.le_refl _) _).grown HG.out (by simp) (by intro k hk; cases hk; exact Nat.le_refl _))
    have h := HO.out
    rw [Nat.zero_add, List.nil_append] at h
    exact h

theorem gap2_set1 {p : List Value} {k : Nat} {y0 y1 u : Value} {r : List Value} (h : p.length = k * 2) : (p ++ y0 :: y1 :: r).set (k * 2 + 1) u = (p ++ [y0, u]) ++ r := by
  rw [List.set_append_right _ _ (by omega), show k * 2 + 1 - p.length = 1 by omega]
  simp

set_option maxRecDepth 100000 in
set_option maxHeartbeats 4000000 in
theorem copy_impl (t : Int) (ta : Option Addr) (tc : Nat) (T : List TC) (xa : Option Addr) (xc : Nat) (S : List IS) (w : World) (h : SmIx w ta T tc xa S xc) :
    Calls Tryz.prog 42 #[.agg #[.int .i64 t, .slice ta T.length tc, .slice xa S.length xc]] w (GivesIx w t T S) := by
  obtain ⟨q, hrq⟩ := readX h.sets
  obtain ⟨w1, hw1⟩ : ∃ w1, w1 = (w.alloc (.cells #[.int .i64 t, .slice ta T.length tc, .slice xa S.length xc] 27)).alloc (.cells #[.int .i64 0, .slice none 0 0, .slice none 0 0] 27) := ⟨_, rfl⟩
  have HW1 := Lib.hid hw1
  have HB1 := Lib.hid (show Below w.heap.size w w1 by rw [hw1]; exact ((Below.refl w.heap.size w).alloc (Nat.le_refl _) _).alloc (by simp) _)
  have HBX := Lib.hid (show BlkV w1 w.heap.size 27 #[.int .i64 t, .slice ta T.length tc, .slice xa S.length xc] by rw [hw1]; exact (BlkV.new _ _ _).alloc _)
  have HRC := Lib.hid (show BlkV w1 (w.heap.size + 1) 27 #[.int .i64 0, .slice none 0 0, .slice none 0 0] by rw [hw1]; exact BlkV.new_ _ _ _ _ (by simp))
  have HS1 := Lib.hid (show w1.heap.size = w.heap.size + 2 by rw [hw1]; simp)
  have HX := Lib.hid (h.below HB1.out)
  have HQ := Lib.hid (hrq.below HB1.out)
  have HQW := Lib.hid hrq
  have hl := h.sets.2.2.2.1
  have b1 := HBX.out.three1
  have b2 := HBX.out.three2
  have fb1 := HBX.out.frozen 1
  have fb2 := HBX.out.frozen 2
  have HCT := Lib.hid (fun (W : World) (hW : Below w1.heap.size w1 W) => tclone_any ta tc T W (HX.out.tab.1.below hW))
  have HCX := Lib.hid (fun (W : World) (hW : Below w1.heap.size w1 W) => xclone_any xa xc S q W (HX.out.sets.below hW) (HQ.out.below hW))
  clear h hrq hw1
  go_enter Tryz.func42, Tryz.ntmps42
  go_wp2_with (fail)
  rw [← HW1.out]
  go_region_with (first
    | (go_at_call 80; (refine (HCT.out _ (Below.refl _ _).drew).mono ?_); rintro e w3 ⟨a1, c1, rfl, ho, hb⟩; have hb3 := undrew hb; have HB3 := Lib.hid hb3; have HT3 := Lib.hid ho; have HTB := Lib.hid (fun k hk => (World.ownsRow.lt ho k hk).2); have d1 := (HBX.out.below hb3).three1; have d2 := (HBX.out.below hb3).three2; clear ho hb hb3)
    | (go_at_call 81; (refine (HCX.out _ HB3.out).mono ?_); rintro e w4 ⟨a2, c2, rfl, ho, hb⟩; have HB4 := Lib.hid (HB3.out.trans (hb.mono HB3.out.size)); have HT4 := Lib.hid (HT3.out.below hb); have HX4 := Lib.hid ho; have HXB := Lib.hid (fun k hk => World.ownsRow.lt ho k hk); have HZ4 := Lib.hid hb.size; have e1 := (HBX.out.below HB4.out).three1; have e2 := (HBX.out.below HB4.out).three2; have fe1 := (HBX.out.below HB4.out).frozen 1; have fe2 := (HBX.out.below HB4.out).frozen 2; clear ho hb))
  all_goals
    obtain ⟨w5, hw5⟩ : ∃ w5, w5 = (w4.setCell ⟨w.heap.size, 1, none⟩ (.slice a1 T.length c1)).setCell ⟨w.heap.size, 2, none⟩ (.slice a2 S.length c2) := ⟨_, rfl⟩
    rw [← hw5]
    have hs1 := HS1.out
    have hz3 := HB3.out.size
    have HB5 := Lib.hid (show Below w.heap.size w w5 by rw [hw5]; exact ((HB1.out.trans (HB4.out.mono HB1.out.size)).setCell (by simp) _).setCell (by simp) _)
    have HBX5 := Lib.hid (show BlkV w5 w.heap.size 27 #[.int .i64 t, .slice a1 T.length c1, .slice a2 S.length c2] by rw [hw5]; exact ((HBX.out.below HB4.out).set_ 1 _).set_ 2 _)
    have HRC5 := Lib.hid (show BlkV w5 (w.heap.size + 1) 27 #[.int .i64 0, .slice none 0 0, .slice none 0 0] by rw [hw5]; exact ((HRC.out.below HB4.out).other _ _ (by simp)).other _ _ (by simp))
    have HT5 := Lib.hid (show OwnT w5 w1.heap.size (.slice a1 T.length c1) T by rw [hw5]; exact row_setCell (row_setCell (show OwnT w4 w1.heap.size (.slice a1 T.length c1) T from HT4.out) _ _ (by simp; omega)) _ _ (by simp; omega))
    have HX5 := Lib.hid (show w5.ownsRow w3.heap.size 71 2 (.slice a2 S.length c2) S.length (flatX q) by rw [hw5]; exact row_setCell (row_setCell HX4.out _ _ (by simp; omega)) _ _ (by simp; omega))
    have HZ5 := Lib.hid (show w5.heap.size = w4.heap.size by rw [hw5]; simp)
    have hz4 := HZ4.out
    clear hw5 b1 b2 fb1 fb2 d1 d2 e1 e2 fe1 fe2
    have p2 := HBX5.out.three2
    refine Lib.hid ?_
    go_wp2
    go_loopw [16] (fun i wr => ∃ (k : Nat) (q1 : List XS), k ≤ S.length ∧ i = .int .i64 k ∧ setsX q1 = S.take k ∧ wr.ownsRow w3.heap.size 71 2 (.slice a2 S.length c2) S.length (flatX q1 ++ flatX (q.drop k)) ∧
      (∀ p ∈ q1, OwnS wr w4.heap.size p.2 p.1.2) ∧ (q1.Pairwise fun p r => ∀ k, p.2.ownBlock = some k → r.2.ownBlock ≠ some k) ∧ BlkV wr w.heap.size 27 #[.int .i64 t, .slice a1 T.length c1, .slice a2 S.length c2] ∧
      BlkV wr (w.heap.size + 1) 27 #[.int .i64 0, .slice none 0 0, .slice none 0 0] ∧ OwnT wr w1.heap.size (.slice a1 T.length c1) T ∧ Below w.heap.size w wr ∧ w5.heap.size ≤ wr.heap.size) (fun i _ => S.length - (intOf i).toNat)
    case atStart => exact ⟨0, [], Nat.zero_le _, rfl, rfl, by simpa [flatX] using HX5.out, (fun p h => by cases h), List.Pairwise.nil, HBX5.out, HRC5.out, HT5.out, HB5.out, Nat.le_refl _⟩
    case round =>
      obtain ⟨k, q1, hk, rfl, hq1, hrow, hrows, hdis, hbx, hrc, ht, hb, hsz⟩ := hrel
      have HQ1 := Lib.hid hq1
      have HROWS := Lib.hid hrows
      have HDIS := Lib.hid hdis
      have HBX6 := Lib.hid hbx
      have HRC6 := Lib.hid hrc
      have HT6 := Lib.hid ht
      have HB6 := Lib.hid hb
      have hz5 := HZ5.out
      have p2 := hbx.three2
      clear hq1 hrows hdis hbx hrc ht hb
      by_cases hlt : k < S.length
      · have hql : q.length = S.length := by rw [← setsX_len, HQW.out.sets]
        have hq1l : q1.length = k := by rw [← setsX_len, HQ1.out, List.length_take]; omega
        have hj := List.getElem?_eq_getElem (show k < q.length by omega)
        generalize q[k] = p at hj
        obtain ⟨a', c', hv, hsm⟩ := HQW.out.toks p (List.mem_of_getElem? hj)
        obtain ⟨⟨id, l⟩, v⟩ := p
        replace hv : v = .slice a' l.length c' := hv
        replace hsm : Sm w a' l c' := hsm
        subst hv
        have hSk : S[k]? = some (id, l) := by rw [← HQW.out.sets]; simp [setsX, hj]
        have HSK := Lib.hid hSk
        rw [xs_drop hj, flatX_cons] at hrow
        obtain ⟨gx, rfl, hgx, hgx2, _⟩ := rowX_at hrow (by omega)
        have HGX := Lib.hid (HXB.out gx rfl)
        have HGW := Lib.hid (show w.heap.size ≠ gx ∧ wr.heap.size ≠ gx ∧ w.heap.size + 1 ≠ gx from by have := HGX.out; omega)
        have HQL := Lib.hid (show (flatX q1).length = k * 2 by rw [flatX_len, hq1l])
        have HROW := Lib.hid hrow
        have c0 := hrow.cellAt (k * 2) (by omega)
        have c1' := hrow.cellAt (k * 2 + 1) (by omega)
        rw [(gap2_at HQL.out).1] at c0
        rw [(gap2_at HQL.out).2] at c1'
        have HCL := Lib.hid (fun (W : World) (hW : Below w.heap.size w W) => sclone_any a' c' l W (hsm.below hW))
        obtain ⟨w6, hw6⟩ : ∃ w6, w6 = wr.alloc (.cells #[.int .i64 id, .slice a' l.length c'] 71) := ⟨_, rfl⟩
        have HW6 := Lib.hid hw6
        have HA6 := Lib.hid (show Below wr.heap.size wr w6 by rw [hw6]; exact (Below.refl _ _).alloc (Nat.le_refl _) _)
        have HR6 := Lib.hid (show BlkV w6 wr.heap.size 71 #[.int .i64 id, .slice a' l.length c'] by rw [hw6]; exact BlkV.new _ _ _)
        have HB6' := Lib.hid (HB6.out.trans (HA6.out.mono HB6.out.size))
        clear hj hSk hql hsm hw6 hrow
        go_wp2_with (fail)
        rw [← HW6.out]
        clear p2 c0 c1'
        have s2 := (HBX6.out.below HA6.out).three2
        have s1 := HR6.out.two1
        go_region_held3 (fun w' => w'.cell? ⟨w.heap.size, 2, none⟩ = some (.slice (some ⟨gx, 0, none⟩) S.length c2) ∧ w'.cell? ⟨wr.heap.size, 1, none⟩ = some (.slice a' l.length c'))
          (first | exact ⟨u2, u1⟩ | exact ⟨s2, s1⟩ | exact ⟨(HR7.out.other ⟨gx, k * 2 + 1, none⟩ _ HGW.out.1).three2, (HS7.out.other ⟨gx, k * 2 + 1, none⟩ _ HGW.out.2.1).two1⟩)
          ((go_at_call 43; (refine (HCL.out _ HB6'.out.drew).mono ?_); rintro e w7 ⟨a7, c7, rfl, ho7, hb7⟩; have hr7 := undrew hb7; have HO7 := Lib.hid ho7; have HB7 := Lib.hid (HA6.out.trans (hr7.mono HA6.out.size)); have HR7 := Lib.hid (HBX6.out.below HB7.out); have HS7 := Lib.hid (HR6.out.below hr7); have u2 := HR7.out.three2; have u1 := HS7.out.two1; have hrow7 := row_keptO (r := none) HROW.out ⟨HB7.out.os, HB7.out.tape, HB7.out.output, HB7.out.size, fun i hi _ => HB7.out.block i hi⟩ (fun k hk => by cases hk); have HROW7 := Lib.hid hrow7; have v1 := hrow7.cellAt (k * 2 + 1) (by omega); have fv1 := hrow7.frozenAt (k * 2 + 1); rw [(gap2_at HQL.out).2] at v1; clear ho7 hb7 hr7 hrow7))
        all_goals
          have HN := Lib.hid (HROW7.out.stored (k * 2 + 1) (.slice a7 l.length c7))
          go_wp2
          go_roundw
        all_goals first
          | (case rel =>
              have hgw := HGW.out
              have hgx4 := HGX.out
              have h67 := HA6.out.size
              have h7 := HB7.out.size
              have hold : ∀ p ∈ q1, ∀ k', p.2.ownBlock = some k' → w4.heap.size ≤ k' ∧ k' < wr.heap.size := fun p hp k' hk' => World.ownsRow.lt (HROWS.out p hp) k' hk'
              have hnew : ∀ k', (Value.slice a7 l.length c7).ownBlock = some k' → w6.heap.size ≤ k' := fun k' hk' => (World.ownsRow.lt HO7.out k' hk').1
              refine ⟨k + 1, q1 ++ [((id, l), .slice a7 l.length c7)], by omega, by go_num, ?_, ?_, ?_, ?_, HR7.out.other ⟨gx, k * 2 + 1, none⟩ _ hgw.1, (HRC6.out.below HB7.out).other ⟨gx, k * 2 + 1, none⟩ _ hgw.2.2, ?_, (HB6.out.trans (HB7.out.mono HB6.out.size)).setCell (show w.heap.size ≤ gx by omega) _, by simp; omega⟩
              · rw [ixs_take HSK.out, ← HQ1.out]; simp [setsX]
              · have h := HN.out.1
                rw [gap2_set1 HQL.out] at h
                rw [flatX_snoc]
                exact h
              · intro p hp
                rcases List.mem_append.1 hp with h | h
                · exact row_keptO ((HROWS.out p h).below HB7.out) HN.out.2 (fun k' e hk' => by cases e; have := hold p h gx hk'; omega)
                · simp at h
                  subst h
                  refine row_keptO (OwnS.mono HO7.out (show w4.heap.size ≤ w6.heap.size by omega)) HN.out.2 (fun k' e hk' => by cases e; have := hnew gx hk'; omega)
              · rw [List.pairwise_append]
                refine ⟨HDIS.out, by simp, fun p hp r hr k' hk' e => ?_⟩
                simp at hr
                subst hr
                have h1 := hold p hp k' hk'
                have h2 := hnew k' e
                omega
              · exact row_keptO (HT6.out.below HB7.out) HN.out.2 (fun k' e hk' => by cases e; have := HTB.out gx hk'; omega))
          | skip
        all_goals (simp [intOf]; omega)
      · obtain rfl : k = S.length := by omega
        have HROW := Lib.hid hrow
        have hrp := HRC6.out
        have q0 := HBX6.out.three0
        have q1' := HBX6.out.three1
        have e0 := HRC6.out.three0
        have e1 := HRC6.out.three1
        have e2 := HRC6.out.three2
        have f0 := HRC6.out.frozen 0
        have f1 := HRC6.out.frozen 1
        have f2 := HRC6.out.frozen 2
        clear hrow
        go_wp2
        have z := ((HRC6.out.set_ 0 (.int .i64 t)).set_ 1 (.slice a1 T.length c1)).set_ 2 (.slice a2 S.length c2)
        have z0 : _ = some (Value.int .i64 t) := z.cell 0
        have z1 : _ = some (Value.slice a1 T.length c1) := z.cell 1
        have z2 : _ = some (Value.slice a2 S.length c2) := z.cell 2
        have hq1 := HQ1.out
        rw [List.take_length] at hq1
        have hl1 : q1.length = S.length := by rw [← setsX_len, hq1]
        have hql : q.length = S.length := by rw [← setsX_len, HQW.out.sets]
        have hrow2 := HROW.out
        rw [← hql, List.drop_length, hql, show flatX ([] : List XS) = [] from rfl, List.append_nil] at hrow2
        have hX : OwnX wr (w.heap.size + 1 + 1) (.slice a2 S.length c2) q1 := ⟨by rw [hl1]; exact row_mono hrow2 (by omega), (fun p hp => (HROWS.out p hp).mono (by omega)), (fun p hp k' hk' e => by have h1 := (World.ownsRow.lt (HROWS.out p hp) k' hk').1; have h2 := (HXB.out k' e).2; omega), HDIS.out⟩
        refine bodyPost_ret (v := .agg #[.int .i64 t, .slice a1 T.length c1, .slice a2 S.length c2]) (by simp [results, Tryz.results42, go_sem, z0, z1, z2]) rfl ⟨_, _, _, _, q1, rfl, hq1, own_end _ _ _ (HT6.out.mono (by omega)) hX ?_ (Nat.le_succ _), ?_⟩
        · intro k' hk'
          have h1 := HTB.out k' hk'
          exact ⟨fun e => by have := (HXB.out k' e).1; omega, fun p hp e => by have := (World.ownsRow.lt (HROWS.out p hp) k' e).1; omega⟩
        · exact ((HB6.out.setCell (by simp) _).setCell (by simp) _).setCell (by simp) _

end Go.Proofs.YthjbekgognfiiaaGreat
