/-
  What spec.InsertSet hands back. By an AI agent.
-/
import Derived.Test.YthjbekgognfiiaaGreatIxQ
import Derived.Test.YthjbekgognfiiaaGreatIxI
namespace Go.Proofs.YthjbekgognfiiaaGreat
open Go.RowKit
set_option linter.unusedVariables false

theorem ixb_id (id : Int) : decide (0 ≤ id ∧ id ≤ 999) = idB id := rfl

set_option maxRecDepth 100000 in
set_option maxHeartbeats 8000000 in
theorem ins_spec (t : Int) (ta : Option Addr) (tc : Nat) (T : List TC) (xa : Option Addr) (xc : Nat) (S : List IS) (id : Int) (la : Option Addr) (lc : Nat) (l : List Str) (rt : Int) (rT : List TC) (rS : List IS) (rb : Bool) (w : World) (hrt : t = rt) (hrT : T = rT) (hrS : insR t T S id l = rS) (hrb : okIns t T S id l = rb) (h : SmIx w ta T tc xa S xc) (hs : Sm w la l lc) :
    Calls Tryz.prog 17 #[.agg #[.int .i64 t, .slice ta T.length tc, .slice xa S.length xc], .int .i64 id, .slice la l.length lc] w (GivesIB w rt rT rS rb) := by
  obtain rfl := hrt
  obtain rfl := hrT
  have HRS := Lib.hid hrS
  have HRB := Lib.hid hrb
  obtain ⟨w1, hw1⟩ : ∃ w1, w1 = (w.alloc (.cells #[.int .i64 t, .slice ta T.length tc, .slice xa S.length xc] 27)).alloc (.cells #[.int .i64 0, .slice none 0 0, .slice none 0 0] 27) := ⟨_, rfl⟩
  have HW1 := Lib.hid hw1
  have HB1 := Lib.hid (show Below w.heap.size w w1 by rw [hw1]; exact ((Below.refl w.heap.size w).alloc (Nat.le_refl _) _).alloc (by simp) _)
  have HBX1 := Lib.hid (show BlkV w1 w.heap.size 27 #[.int .i64 t, .slice ta T.length tc, .slice xa S.length xc] by rw [hw1]; exact (BlkV.new _ _ _).alloc _)
  have HRC := Lib.hid (show BlkV w1 (w.heap.size + 1) 27 #[.int .i64 0, .slice none 0 0, .slice none 0 0] by rw [hw1]; exact BlkV.new_ _ _ _ _ (by simp))
  have HS1 := Lib.hid (show w1.heap.size = w.heap.size + 2 by rw [hw1]; simp)
  have HCP := Lib.hid (copy_spec t ta tc T xa xc S w1 (h.below HB1.out))
  have hsl : S.length ≤ 4000000 := h.sets.2.2.2.1
  have hll : l.length ≤ 4000000 := hs.2.2.2.1
  obtain ⟨iv, hiv⟩ : ∃ b, ixB t T S = b := ⟨_, rfl⟩
  have HIV := Lib.hid hiv
  obtain ⟨tv, htv⟩ : ∃ b, tsB l = b := ⟨_, rfl⟩
  have HTV := Lib.hid htv
  obtain ⟨dv, hdv⟩ : ∃ b, idB id = b := ⟨_, rfl⟩
  have HDV := Lib.hid hdv
  obtain ⟨fi, hfi⟩ : ∃ z, fiX S id = z := ⟨_, rfl⟩
  have HFI := Lib.hid hfi
  have HOV := Lib.hid (show okX (id, l) = (dv && tv) by rw [← hdv, ← htv]; rfl)
  have HSM := Lib.hid hs
  have HIX := Lib.hid (fun (W : World) (hW : Below w.heap.size w W) => ix_spec t ta tc T xa xc S iv W HIV.out (h.below hW))
  have HTS := Lib.hid (fun (W : World) (hW : Below w.heap.size w W) => (tset_spec la lc l W (hs.below hW)).mono fun e w' h1 => (show e = .returned (.bool tv) ∧ Below W.heap.size W w' from ⟨by rw [← htv]; exact h1.1, h1.2⟩))
  have HID := Lib.hid (fun (W : World) => l1In_any id 0 999 dv W (by rw [ixb_id]; exact hdv))
  have HFD := Lib.hid (fun (W : World) (hW : Below w.heap.size w W) => find_spec t ta T.length tc xa xc S id fi W HFI.out (h.sets.1.below hW) hsl)
  clear h hs hw1 hrS hrb hiv htv hdv hfi
  go_enter Tryz.func17, Tryz.ntmps17
  go_wp2_with (go_at_call 47; rw [← HW1.out]; (refine HCP.out.mono ?_); rintro e w2 ⟨a1, c1, a2, c2, q, rfl, hq, ho, hb⟩; refine Hid.out ?_)
  have HQ := Lib.hid hq
  obtain ⟨w3, hw3⟩ : ∃ w3, w3 = w2.alloc (.cells #[.int .i64 t, .slice a1 T.length c1, .slice a2 S.length c2] 27) := ⟨_, rfl⟩
  have hst := ixst_alloc (t := t) HS1.out HB1.out HRC.out ho hb
  rw [← hw3] at hst
  have HW3 := Lib.hid hw3
  have hbx := HBX1.out.below hb
  have HBX3 := Lib.hid (show BlkV w3 w.heap.size 27 #[.int .i64 t, .slice ta T.length tc, .slice xa S.length xc] by rw [hw3]; exact hbx.alloc _)
  obtain ⟨BY, hBY⟩ : ∃ BY, BY = w2.heap.size := ⟨_, rfl⟩
  rw [← hBY] at hst
  have HST3 := Lib.hid hst
  have p0 := (hbx.alloc (.cells #[.int .i64 t, .slice a1 T.length c1, .slice a2 S.length c2] 27)).three0
  have p1 := (hbx.alloc (.cells #[.int .i64 t, .slice a1 T.length c1, .slice a2 S.length c2] 27)).three1
  have p2 := (hbx.alloc (.cells #[.int .i64 t, .slice a1 T.length c1, .slice a2 S.length c2] 27)).three2
  clear hq ho hb hst hw3 hbx
  refine Lib.hid ?_
  go_wp2_with (go_at_call 34; rw [← HW3.out]; (refine (HIX.out _ HST3.out.below).mono ?_); rintro e w4 ⟨rfl, hb⟩; refine Hid.out ?_)
  rw [← hBY]
  have HST := Lib.hid (HST3.out.below_ hb)
  have HBX := Lib.hid (HBX3.out.below hb)
  clear hb p0 p1 p2 hBY
  have p0 := HBX.out.three0
  have p1 := HBX.out.three1
  have p2 := HBX.out.three2
  have d0 := HST.out.box.three0
  have d1 := HST.out.box.three1
  have d2 := HST.out.box.three2
  have r0 := HST.out.res.three0
  have r1 := HST.out.res.three1
  have r2 := HST.out.res.three2
  have f0 := HST.out.res.frozen 0
  have f1 := HST.out.res.frozen 1
  have f2 := HST.out.res.frozen 2
  have hnf : fi = -1 ∨ 0 ≤ fi := by
    rcases fi_cases S id with ⟨h1, _⟩ | ⟨k, x, h1, _⟩
    · exact .inl (by rw [← HFI.out, h1])
    · exact .inr (by rw [← HFI.out, h1]; omega)
  by_cases hgo : iv = true ∧ tv = true ∧ dv = true ∧ fi = -1 ∧ S.length ≠ 12
  · obtain ⟨rfl, rfl, rfl, rfl, h12⟩ := hgo
    have hhas : hasId S id = false := by
      rcases fi_cases S id with ⟨_, h2⟩ | ⟨k, x, h1, _⟩
      · exact h2
      · have h3 := HFI.out; rw [h1] at h3; omega
    obtain rfl : true = rb := by rw [← HRB.out]; exact (ok_ins_yes HIV.out (by rw [HOV.out]; rfl) h12 hhas).symm
    have HRX := Lib.hid (show insX S id l = rS by rw [← HRS.out]; unfold insR; rw [HRB.out, if_pos rfl])
    have hn12 : ¬ ((S.length : Int) = 12) := by omega
    have HAS := Lib.hid (ixB_parts HIV.out).2.2.2.2
    have HQL := Lib.hid HST.out.sets.len
    obtain ⟨i0, hi0, hz0, hz1, hz2⟩ := info_parts info_ixs
    obtain ⟨is, his, hzs0, hzs1, hzs2⟩ := info_parts info_str
    clear hnf hhas h12
    refine Lib.hid ?_
    go_wp2_with (first
      | (go_at_call 35; (refine (HTS.out _ HST.out.below).mono ?_); rintro e w5 ⟨rfl, hb⟩; have HST := Lib.hid (HST.out.below_ hb); have HBX := Lib.hid (HBX.out.below hb); clear p0 p1 p2 d0 d1 d2 r0 r1 r2 f0 f1 f2; have p0 := HBX.out.three0; have p1 := HBX.out.three1; have p2 := HBX.out.three2; have d0 := HST.out.box.three0; have d1 := HST.out.box.three1; have d2 := HST.out.box.three2; have r0 := HST.out.res.three0; have r1 := HST.out.res.three1; have r2 := HST.out.res.three2; have f0 := HST.out.res.frozen 0; have f1 := HST.out.res.frozen 1; have f2 := HST.out.res.frozen 2; clear hb)
      | (go_at_call 37; (with_reducible refine (HID.out _).mono ?_); rintro e wq ⟨rfl, rfl⟩)
      | (go_at_call 48; (refine (HFD.out _ HST.out.below).mono ?_); rintro e w6 ⟨rfl, hb⟩; have HST := Lib.hid (HST.out.below_ hb); have HBX := Lib.hid (HBX.out.below hb); clear p0 p1 p2 d0 d1 d2 r0 r1 r2 f0 f1 f2; have p0 := HBX.out.three0; have p1 := HBX.out.three1; have p2 := HBX.out.three2; have d0 := HST.out.box.three0; have d1 := HST.out.box.three1; have d2 := HST.out.box.three2; have r0 := HST.out.res.three0; have r1 := HST.out.res.three1; have r2 := HST.out.res.three2; have f0 := HST.out.res.frozen 0; have f1 := HST.out.res.frozen 1; have f2 := HST.out.res.frozen 2; clear hb))
    clear p0 p1 p2 d0 d1 d2 r0 r1 r2 f0 f1 f2
    have HSTL := HST
    go_loopw [9] (fun i wr => ∃ k : Nat, k ≤ S.length ∧ i = .int .i64 k ∧ (∀ (j : Nat) (y : IS), j < k → S[j]? = some y → y.1 < id) ∧ IxSt w wr BY (w.heap.size + 1) t T a1 c1 a2 S.length c2 q) (fun i _ => S.length - (intOf i).toNat)
    case atStart => exact ⟨0, Nat.zero_le _, rfl, (fun j y hj => absurd hj (Nat.not_lt_zero _)), HST.out⟩
    case round =>
      obtain ⟨k, hk, rfl, hlow, hst⟩ := hrel
      have HLOW := Lib.hid hlow
      have HST := Lib.hid hst
      have HXIN := Lib.hid (show InX wr a2 S by have h := hst.sets.inX; rw [HQ.out] at h; exact h)
      clear hlow hst HSTL
      have d2 := HST.out.box.three2
      have HCS := Lib.hid (inS_cells (HSM.out.1.below HST.out.below))
      by_cases hmore : ∃ x : IS, S[k]? = some x ∧ x.1 < id
      · obtain ⟨x, hx, hxi⟩ := hmore
        have hlt : k < S.length := (List.getElem?_eq_some_iff.1 hx).1
        obtain ⟨b, off, rfl, hbl, hc⟩ := HXIN.out (by omega)
        obtain ⟨a', c', q0, _, _⟩ := hc k _ hx
        have HX1 := Lib.hid hx
        have HXI := Lib.hid hxi
        clear hx hc
        go_wp2
        go_roundw
        case rel =>
          refine ⟨k + 1, by omega, by go_num, fun j y hj hy => ?_, HST.out⟩
          by_cases e : j = k
          · subst e
            rw [HX1.out] at hy
            rw [← Option.some.inj hy]
            exact HXI.out
          · exact HLOW.out j y (by omega) hy
        case measure => simp [intOf]; omega
      · have HPK := Lib.hid (show plX S id = k from pl_at HLOW.out hk fun x hx hxi => hmore ⟨x, hx, hxi⟩)
        by_cases hlt : k < S.length
        · have hx := List.getElem?_eq_getElem hlt
          generalize S[k] = x at hx
          have hxi : ¬ x.1 < id := fun hxi => hmore ⟨x, hx, hxi⟩
          have hin := HXIN.out
          obtain ⟨b, off, rfl, hbl, hc⟩ := hin (by omega)
          obtain ⟨a', c', q0, _, _⟩ := hc k _ hx
          clear hx hc hmore
          obtain ⟨gq, e, hgq, hgl, -⟩ := rowX_at (by have h := HST.out.sets.out; rw [HQL.out] at h; exact h) (show 0 < S.length by omega)
          injection e with e
          injection e with e1 e2
          subst e1 e2
          clear hgl
          obtain ⟨gq, hgq2⟩ : ∃ gq, gq = b := ⟨_, rfl⟩
          subst hgq2
          rw [Nat.zero_add] at q0
          go_wp2_with (at_builtin; refine wpList_app_row rfl _ _ 28 9 rfl is _ 1 16 Tryz.underlying28 his hzs0 hzs1 hzs2 rfl (by decide) wr.heap.size _ 0 [] rfl (World.ownsRow_made wr #[] 0 (Nat.le_refl _) (Nat.zero_le _) (by simp)) la l.length lc (l.map encStr) rfl (by simp) (HCS.out.below ((Below.refl _ _).alloc (Nat.le_refl _) _)) HSM.out.2.1 (fun u hu => by obtain ⟨x, _, rfl⟩ := List.mem_map.1 hu; rfl) (by unfold maxLen; omega) (by omega) (by simp) ?_; intro v' w7 ho hg; refine Hid.out ?_)
          rw [Nat.zero_add, List.nil_append] at ho
          have hb7 : Below wr.heap.size wr w7 := ((Below.refl _ wr).alloc (Nat.le_refl _) _).grown hg (by simp) (by intro k hk; cases hk; exact Nat.le_refl _)
          have hos : OwnS w7 wr.heap.size v' l := ho
          obtain ⟨an, cn, rfl⟩ := hos.shape
          obtain ⟨wz, hwz⟩ : ∃ wz, wz = w7.alloc (.cells #[.int .i64 id, .slice an l.length cn] 71) := ⟨_, rfl⟩
          have hbz : Below w7.heap.size w7 wz := by rw [hwz]; exact (Below.refl _ _).alloc (Nat.le_refl _) _
          obtain ⟨Bs, hBs⟩ : ∃ Bs, Bs = w7.heap.size := ⟨_, rfl⟩
          have hblk : BlkV wz Bs 71 #[.int .i64 id, .slice an l.length cn] := by rw [hwz, hBs]; exact BlkV.new _ _ _
          have HBLK := Lib.hid hblk
          have HWZ := Lib.hid hwz
          have HOL := Lib.hid (fun j hj => World.ownsRow.lt hos j hj)
          have HONZ := Lib.hid (OwnS.below hos hbz)
          have HSTZ := Lib.hid (HST.out.below_ (hb7.trans (hbz.mono hb7.size)))
          have HZR := Lib.hid (show wr.heap.size ≤ w7.heap.size from hb7.size)
          have HZZ := Lib.hid (show wz.heap.size = w7.heap.size + 1 by rw [hwz]; simp)
          have hown := HSTZ.out.sets.out
          rw [HQL.out] at hown
          have HCQ := Lib.hid (fun (W : World) (hW : Below wz.heap.size wz W) => (cells_row hown).below hW)
          have hone := HSTZ.out.sets.one
          have HC1 := Lib.hid (fun (W : World) (hW : Below wz.heap.size wz W) => (show CellsAt W (some ⟨gq, 0, none⟩) (flatX (q.take k)) by rw [← flatX_take]; exact cells_take (HCQ.out W hW) _))
          have HC2 := Lib.hid (fun (W : World) (hW : Below wz.heap.size wz W) => (show CellsAt W (some ⟨gq, k * 2, none⟩) (flatX (q.drop k)) by rw [← flatX_drop]; have h := cells_drop (HCQ.out W hW) (k * 2); rw [Nat.zero_add] at h; exact h))
          have HL1 := Lib.hid (show (flatX (q.take k)).length = k * 2 by rw [flatX_len, List.length_take]; have := HQL.out; omega)
          have HL2 := Lib.hid (show (flatX (q.drop k)).length = (S.length - k) * 2 by rw [flatX_len, List.length_drop]; have := HQL.out; omega)
          have HO1 := Lib.hid (show ∀ u ∈ flatX (q.take k), u.oneCell' = true by rw [← flatX_take]; exact fun u hu => hone u (List.mem_of_mem_take hu))
          have HO2 := Lib.hid (show ∀ u ∈ flatX (q.drop k), u.oneCell' = true by rw [← flatX_drop]; exact fun u hu => hone u (List.mem_of_mem_drop hu))
          have hbA := (Below.refl wz.heap.size wz).alloc (Nat.le_refl _) (.cells #[] 71)
          have hbB := ((Below.refl wz.heap.size wz).alloc (Nat.le_refl _) (.cells #[] 71)).alloc (by simp) (.cells #[.int .i64 id, .slice an l.length cn] 71)
          have hbC := ((Below.refl wz.heap.size wz).alloc (Nat.le_refl _) (.cells #[.int .i64 id, .slice an l.length cn] 71)).alloc (by simp) (.cells #[] 71)
          have hbV := (Below.refl wz.heap.size wz).alloc (Nat.le_refl _) (.cells #[.int .i64 id, .slice an l.length cn] 71)
          have HBA := Lib.hid hbA.drew
          have HBB := Lib.hid hbB.drew
          have HBC := Lib.hid hbC.drew
          have HOA := Lib.hid (show ((wz.alloc (.cells #[] 71)).drew).ownsRow wz.heap.size 71 2 (.slice (some ⟨wz.heap.size, 0, none⟩) 0 0) 0 [] from World.ownsRow_made wz #[] 0 (Nat.le_refl _) (Nat.zero_le _) (by simp))
          have HOB := Lib.hid (show (((wz.alloc (.cells #[] 71)).alloc (.cells #[.int .i64 id, .slice an l.length cn] 71)).drew).ownsRow wz.heap.size 71 2 (.slice (some ⟨wz.heap.size, 0, none⟩) 0 0) 0 [] from World.ownsRow.alloc (World.ownsRow_made wz #[] 0 (Nat.le_refl _) (Nat.zero_le _) (by simp)) _)
          have HOC := Lib.hid (show (((wz.alloc (.cells #[.int .i64 id, .slice an l.length cn] 71)).alloc (.cells #[] 71)).drew).ownsRow wz.heap.size 71 2 (.slice (some ⟨wz.heap.size + 1, 0, none⟩) 0 0) 0 [] from ownsRow_made_at (wz.alloc (.cells #[.int .i64 id, .slice an l.length cn] 71)) wz.heap.size (wz.heap.size + 1) (by simp) (by omega))
          have HPB := Lib.hid (show BlkV (((wz.alloc (.cells #[] 71)).alloc (.cells #[.int .i64 id, .slice an l.length cn] 71)).drew) (wz.heap.size + 1) 71 #[.int .i64 id, .slice an l.length cn] from BlkV.new_ _ _ _ _ (by simp))
          have HPC := Lib.hid (show BlkV (((wz.alloc (.cells #[.int .i64 id, .slice an l.length cn] 71)).alloc (.cells #[] 71)).drew) wz.heap.size 71 #[.int .i64 id, .slice an l.length cn] from (BlkV.new wz _ _).alloc _)
          have y2 := HSTZ.out.box.three2
          have s0 := HBLK.out.two0
          have s1 := HBLK.out.two1
          have yA : ((wz.alloc (.cells #[] 71)).drew).cell? ⟨BY, 2, none⟩ = some (.slice (some ⟨gq, 0, none⟩) S.length c2) := (HSTZ.out.box.below hbA).three2
          have s0A : ((wz.alloc (.cells #[] 71)).drew).cell? ⟨Bs, 0, none⟩ = some (.int .i64 id) := (HBLK.out.below hbA).two0
          have s1A : ((wz.alloc (.cells #[] 71)).drew).cell? ⟨Bs, 1, none⟩ = some (.slice an l.length cn) := (HBLK.out.below hbA).two1
          have yB : (((wz.alloc (.cells #[] 71)).alloc (.cells #[.int .i64 id, .slice an l.length cn] 71)).drew).cell? ⟨BY, 2, none⟩ = some (.slice (some ⟨gq, 0, none⟩) S.length c2) := (HSTZ.out.box.below hbB).three2
          have s0B : (((wz.alloc (.cells #[] 71)).alloc (.cells #[.int .i64 id, .slice an l.length cn] 71)).drew).cell? ⟨Bs, 0, none⟩ = some (.int .i64 id) := (HBLK.out.below hbB).two0
          have s1B : (((wz.alloc (.cells #[] 71)).alloc (.cells #[.int .i64 id, .slice an l.length cn] 71)).drew).cell? ⟨Bs, 1, none⟩ = some (.slice an l.length cn) := (HBLK.out.below hbB).two1
          have yC : (((wz.alloc (.cells #[.int .i64 id, .slice an l.length cn] 71)).alloc (.cells #[] 71)).drew).cell? ⟨BY, 2, none⟩ = some (.slice (some ⟨gq, 0, none⟩) S.length c2) := (HSTZ.out.box.below hbC).three2
          have s0C : (((wz.alloc (.cells #[.int .i64 id, .slice an l.length cn] 71)).alloc (.cells #[] 71)).drew).cell? ⟨Bs, 0, none⟩ = some (.int .i64 id) := (HBLK.out.below hbC).two0
          have s1C : (((wz.alloc (.cells #[.int .i64 id, .slice an l.length cn] 71)).alloc (.cells #[] 71)).drew).cell? ⟨Bs, 1, none⟩ = some (.slice an l.length cn) := (HBLK.out.below hbC).two1
          have yV : ((wz.alloc (.cells #[.int .i64 id, .slice an l.length cn] 71)).drew).cell? ⟨BY, 2, none⟩ = some (.slice (some ⟨gq, 0, none⟩) S.length c2) := (HSTZ.out.box.below hbV).three2
          have s0V : ((wz.alloc (.cells #[.int .i64 id, .slice an l.length cn] 71)).drew).cell? ⟨Bs, 0, none⟩ = some (.int .i64 id) := (HBLK.out.below hbV).two0
          have s1V : ((wz.alloc (.cells #[.int .i64 id, .slice an l.length cn] 71)).drew).cell? ⟨Bs, 1, none⟩ = some (.slice an l.length cn) := (HBLK.out.below hbV).two1
          have hk0 : (0 : Int) ≤ (k : Int) := by omega
          have hk1 : (k : Int) ≤ (c2 : Int) := by have := rowX_cap hown; omega
          have hk2 : (k : Int) ≤ (S.length : Int) := by omega
          have hk3 : ¬ (c2 = k) := by have := rowX_cap hown; omega
          clear ho hg hb7 hos hbz hblk hone hwz hown hbA hbB hbC hbV
          refine Lib.hid ?_
          go_wp2_with (fail)
          rw [← HWZ.out, ← hBs]
          clear hBs
          refine wp_region_noPanic ?_
          refine wp_region_E (S := fun w' => w'.cell? ⟨BY, 2, none⟩ = some (.slice (some ⟨gq, 0, none⟩) S.length c2) ∧ w'.cell? ⟨Bs, 0, none⟩ = some (.int .i64 id) ∧ w'.cell? ⟨Bs, 1, none⟩ = some (.slice an l.length cn)) 15 (by kernel_rfl) (⟨y2, s0, s1⟩) (fun hHeld => ?_)
          refine anyE_take (i := 1) (v := ?vz1) rfl (by kernel_rfl) (by kernel_rfl) (by kernel_rfl) (by kernel_rfl) (by kernel_rfl) (fun _ _ _ h => h) (Or.inl ⟨by kernel_rfl, ?yz1⟩) (by assumption) ?rz1
          case yz1 => (intro w' hSw; (try dsimp only at hSw); go_simp; (try with_reducible rfl))
          (try simp only [Act.put, List.getElem_toArray, List.getElem_cons_succ, List.getElem_cons_zero, List.setIfInBounds_toArray, List.set_cons_zero, List.set_cons_succ])
          refine anyE_take (i := 2) (v := ?vz2) rfl (by kernel_rfl) (by kernel_rfl) (by kernel_rfl) (by kernel_rfl) (by kernel_rfl) (fun _ _ _ h => h) (Or.inl ⟨by kernel_rfl, ?yz2⟩) (by assumption) ?rz2
          case yz2 => (intro w' hSw; (try dsimp only at hSw); go_simp; (try with_reducible rfl))
          (try simp only [Act.put, List.getElem_toArray, List.getElem_cons_succ, List.getElem_cons_zero, List.setIfInBounds_toArray, List.set_cons_zero, List.set_cons_succ])
          refine anyE_take (i := 3) (v := ?vz3) rfl (by kernel_rfl) (by kernel_rfl) (by kernel_rfl) (by kernel_rfl) (by kernel_rfl) (fun _ _ _ h => h) (Or.inl ⟨by kernel_rfl, ?yz3⟩) (by assumption) ?rz3
          case yz3 => (intro w' hSw; (try dsimp only at hSw); go_simp; (try with_reducible rfl))
          (try simp only [Act.put, List.getElem_toArray, List.getElem_cons_succ, List.getElem_cons_zero, List.setIfInBounds_toArray, List.set_cons_zero, List.set_cons_succ])
          refine anyE_take (i := 4) (v := ?vz4) rfl (by kernel_rfl) (by kernel_rfl) (by kernel_rfl) (by kernel_rfl) (by kernel_rfl) (fun _ _ _ h => h) (Or.inl ⟨by kernel_rfl, ?yz4⟩) (by assumption) ?rz4
          case yz4 => (intro w' hSw; (try dsimp only at hSw); go_simp; (try with_reducible rfl))
          (try simp only [Act.put, List.getElem_toArray, List.getElem_cons_succ, List.getElem_cons_zero, List.setIfInBounds_toArray, List.set_cons_zero, List.set_cons_succ])
          refine anyE_take (i := 6) (v := ?vz5) rfl (by kernel_rfl) (by kernel_rfl) (by kernel_rfl) (by kernel_rfl) (by kernel_rfl) (fun _ _ _ h => h) (Or.inl ⟨by kernel_rfl, ?yz5⟩) (by assumption) ?rz5
          case yz5 => (intro w' hSw; (try dsimp only at hSw); go_simp; (try with_reducible rfl))
          (try simp only [Act.put, List.getElem_toArray, List.getElem_cons_succ, List.getElem_cons_zero, List.setIfInBounds_toArray, List.set_cons_zero, List.set_cons_succ])
          refine anyE_take (i := 9) (v := ?vz6) rfl (by kernel_rfl) (by kernel_rfl) (by kernel_rfl) (by kernel_rfl) (by kernel_rfl) (fun _ _ _ h => h) (Or.inl ⟨by kernel_rfl, ?yz6⟩) (by assumption) ?rz6
          case yz6 => (intro w' hSw; (try dsimp only at hSw); go_simp; (try with_reducible rfl))
          (try simp only [Act.put, List.getElem_toArray, List.getElem_cons_succ, List.getElem_cons_zero, List.setIfInBounds_toArray, List.set_cons_zero, List.set_cons_succ])
          refine anyE_take (i := 10) (v := ?vz7) rfl (by kernel_rfl) (by kernel_rfl) (by kernel_rfl) (by kernel_rfl) (by kernel_rfl) (fun _ _ _ h => h) (Or.inl ⟨by kernel_rfl, ?yz7⟩) (by assumption) ?rz7
          case yz7 => (intro w' hSw; (try dsimp only at hSw); go_simp; (try with_reducible rfl))
          (try simp only [Act.put, List.getElem_toArray, List.getElem_cons_succ, List.getElem_cons_zero, List.setIfInBounds_toArray, List.set_cons_zero, List.set_cons_succ])
          refine anyE_take (i := 11) (v := ?vz8) rfl (by kernel_rfl) (by kernel_rfl) (by kernel_rfl) (by kernel_rfl) (by kernel_rfl) (fun _ _ _ h => h) (Or.inl ⟨by kernel_rfl, ?yz8⟩) (by assumption) ?rz8
          case yz8 => (intro w' hSw; (try dsimp only at hSw); go_simp; (try with_reducible rfl))
          (try simp only [Act.put, List.getElem_toArray, List.getElem_cons_succ, List.getElem_cons_zero, List.setIfInBounds_toArray, List.set_cons_zero, List.set_cons_succ])
          refine anyE_take (i := 12) (v := ?vz9) rfl (by kernel_rfl) (by kernel_rfl) (by kernel_rfl) (by kernel_rfl) (by kernel_rfl) (fun _ _ _ h => h) (Or.inl ⟨by kernel_rfl, ?yz9⟩) (by assumption) ?rz9
          case yz9 => (intro w' hSw; (try dsimp only at hSw); go_simp; (try with_reducible rfl))
          (try simp only [Act.put, List.getElem_toArray, List.getElem_cons_succ, List.getElem_cons_zero, List.setIfInBounds_toArray, List.set_cons_zero, List.set_cons_succ])
          refine anyE_two (i := 0) (j := 7) (by kernel_rfl) (anyE_step rfl (fun K hK => ?_)) (anyE_step rfl (fun K hK => ?_))
          · skip
            go_simp
            refine hK.out _ _ (fun _ => ⟨yA, s0A, s1A⟩) (fun hH => ?_)
            have hHeld := hH (by decide)
            clear hH
            clear hK K
            (try simp only [Act.put, List.getElem_toArray, List.getElem_cons_succ, List.getElem_cons_zero, List.setIfInBounds_toArray, List.set_cons_zero, List.set_cons_succ])
            refine anyE_two (i := 5) (j := 7) (by kernel_rfl) (anyE_step rfl (fun K hK => ?_)) (anyE_step rfl (fun K hK => ?_))
            · skip
              refine step_app_row rfl _ _ 25 71 rfl i0 _ 2 32 Tryz.underlying25 hi0 hz0 hz1 hz2 rfl (by decide) wz.heap.size (.slice (some ⟨wz.heap.size, 0, none⟩) 0 0) 0 [] rfl (some ⟨gq, 0, none⟩) k c2 (flatX (q.take k)) rfl HOA.out HL1.out (HC1.out _ HBA.out) nofun HO1.out (by unfold maxLen; omega) (by omega) HBA.out.size ?_
              intro v1 w3 ho hg
              rw [Nat.zero_add, List.nil_append] at ho
              have hb3 := HBA.out.grown hg HBA.out.size (fun j hj => by cases hj; simp)
              have HR3 := Lib.hid ho
              have HB3 := Lib.hid hb3
              have y3 := (HSTZ.out.box.below hb3).three2
              have s03 := (HBLK.out.below hb3).two0
              have s13 := (HBLK.out.below hb3).two1
              have hv3 := (Below.refl w3.heap.size w3).alloc (Nat.le_refl _) (.cells #[.int .i64 id, .slice an l.length cn] 71)
              have HB3V := Lib.hid (hb3.trans (hv3.mono hb3.size))
              have HR3V := Lib.hid (World.ownsRow.alloc ho (.cells #[.int .i64 id, .slice an l.length cn] 71))
              have HP3 := Lib.hid (BlkV.new w3 71 #[.int .i64 id, .slice an l.length cn])
              have HZ3 := Lib.hid (show (w3.alloc (.cells #[.int .i64 id, .slice an l.length cn] 71)).heap.size = w3.heap.size + 1 by simp)
              have y3v := (HSTZ.out.box.below HB3V.out).three2
              have s03v := (HBLK.out.below HB3V.out).two0
              have s13v := (HBLK.out.below HB3V.out).two1
              clear hv3
              clear ho hg hb3
              refine hK.out _ _ (fun _ => ⟨y3, s03, s13⟩) (fun hH => ?_)
              have hHeld := hH (by decide)
              clear hH
              clear hK K
              (try simp only [Act.put, List.getElem_toArray, List.getElem_cons_succ, List.getElem_cons_zero, List.setIfInBounds_toArray, List.set_cons_zero, List.set_cons_succ])
              refine anyE_one (i := 7) (by kernel_rfl) (anyE_step rfl (fun K hK => ?_))
              go_simp
              refine hK.out _ _ (fun _ => ⟨y3v, s03v, s13v⟩) (fun hH => ?_)
              have hHeld := hH (by decide)
              clear hH
              clear hK K
              (try simp only [Act.put, List.getElem_toArray, List.getElem_cons_succ, List.getElem_cons_zero, List.setIfInBounds_toArray, List.set_cons_zero, List.set_cons_succ])
              refine anyE_one (i := 8) (by kernel_rfl) (anyE_step rfl (fun K hK => ?_))
              refine step_ixs rfl _ _ rfl wz.heap.size v1 k (flatX (q.take k)) w3.heap.size id (.slice an l.length cn) rfl rfl (w3.heap.size + 1) HR3V.out HP3.out rfl (by omega) HB3V.out.size HZ3.out ?_
              intro g8 cap8 w8 ho hg hat
              have hb8 := HB3V.out.grown hg HB3V.out.size (fun j hj => (World.ownsRow.lt HR3.out j hj).1)
              have HR8 := Lib.hid ho
              have HB8 := Lib.hid hb8
              have y8 := (HSTZ.out.box.below hb8).three2
              have s08 := (HBLK.out.below hb8).two0
              have s18 := (HBLK.out.below hb8).two1
              clear ho hg hb8 hat
              refine hK.out _ _ (fun _ => ⟨y8, s08, s18⟩) (fun hH => ?_)
              have hHeld := hH (by decide)
              clear hH
              clear hK K
              (try simp only [Act.put, List.getElem_toArray, List.getElem_cons_succ, List.getElem_cons_zero, List.setIfInBounds_toArray, List.set_cons_zero, List.set_cons_succ])
              refine anyE_one (i := 13) (by kernel_rfl) (anyE_step rfl (fun K hK => ?_))
              refine step_app_row rfl _ _ 25 71 rfl i0 _ 2 32 Tryz.underlying25 hi0 hz0 hz1 hz2 rfl (by decide) wz.heap.size (.slice (some ⟨g8, 0, none⟩) (k + 1) cap8) (k + 1) (flatX (q.take k) ++ [.int .i64 id, .slice an l.length cn]) rfl (some ⟨gq, k * 2, none⟩) (S.length - k) (c2 - k) (flatX (q.drop k)) rfl HR8.out HL2.out (HC2.out _ HB8.out) nofun HO2.out (by unfold maxLen; omega) (by omega) HB8.out.size ?_
              intro v9 w9 ho hg
              obtain ⟨a9, c9, rfl⟩ := row_shape ho
              have hb9 := HB8.out.grown hg HB8.out.size (fun j hj => (World.ownsRow.lt HR8.out j hj).1)
              have HR9 := Lib.hid ho
              have HB9 := Lib.hid hb9
              have y9 := (HSTZ.out.box.below hb9).three2
              have fy9 := (HSTZ.out.box.below hb9).frozen 2
              have s09 := (HBLK.out.below hb9).two0
              have s19 := (HBLK.out.below hb9).two1
              clear ho hg hb9
              refine hK.out _ _ (fun _ => ⟨y9, s09, s19⟩) (fun hH => ?_)
              have hHeld := hH (by decide)
              clear hH
              clear hK K
              (try simp only [Act.put, List.getElem_toArray, List.getElem_cons_succ, List.getElem_cons_zero, List.setIfInBounds_toArray, List.set_cons_zero, List.set_cons_succ])
              refine anyE_take (i := 14) (v := ?vz10) rfl (by kernel_rfl) (by kernel_rfl) (by kernel_rfl) (by kernel_rfl) (by kernel_rfl) (fun _ _ _ h => h) (Or.inl ⟨by kernel_rfl, ?yz10⟩) (by assumption) ?rz10
              case yz10 => (intro w' hSw; (try dsimp only at hSw); go_simp; (try with_reducible rfl))
              (try simp only [Act.put, List.getElem_toArray, List.getElem_cons_succ, List.getElem_cons_zero, List.setIfInBounds_toArray, List.set_cons_zero, List.set_cons_succ])
              refine anyE_one (i := 15) (by kernel_rfl) (anyE_step rfl (fun K hK => ?_))
              go_simp
              refine hK.out _ _ (fun h => absurd rfl h) (fun _ => ?_)
              clear hK K
              (try simp only [Act.put, List.getElem_toArray, List.getElem_cons_succ, List.getElem_cons_zero, List.setIfInBounds_toArray, List.set_cons_zero, List.set_cons_succ])
              refine anyE_done (by kernel_rfl) ?_ _
              refine NoPanic.normal ?_
              have hm9 : k + 1 + (S.length - k) = S.length + 1 := by omega
              have ho9 := HR9.out
              rw [hm9, List.append_assoc, List.cons_append, List.cons_append, List.nil_append, ← flatX_cons ((id, l), .slice an l.length cn), ← flatX_append] at ho9
              have hmem : ∀ p ∈ q.take k ++ ((id, l), .slice an l.length cn) :: q.drop k, p = ((id, l), .slice an l.length cn) ∨ p ∈ q := fun p hp => by
                rcases List.mem_append.1 hp with h1 | h1
                · exact .inr (List.mem_of_mem_take h1)
                · rcases List.mem_cons.1 h1 with h2 | h2
                  · exact .inl h2
                  · exact .inr (List.mem_of_mem_drop h2)
              have hold := HST.out
              have hzr := HZR.out
              have hzz := HZZ.out
              have hlo : w.heap.size + 1 + 1 ≤ wr.heap.size := hold.res.lt
              have hst := HSTZ.out.fresh HB9.out ho9 (by rw [List.length_append, List.length_take, List.length_cons, List.length_drop]; have := HQL.out; omega)
                (fun p hp => by rcases hmem p hp with rfl | h; exact (HONZ.out.below HB9.out).mono hlo; exact (HSTZ.out.sets.row p h).below HB9.out)
                (fun p hp j hj => by
                  rcases hmem p hp with rfl | h
                  · have h1 := HOL.out j hj; have h2 := hold.box.lt; exact ⟨by omega, by omega⟩
                  · exact ⟨(World.ownsRow.lt (HSTZ.out.sets.row p h) j hj).2, fun e => by subst e; exact HSTZ.out.nbQ p h hj⟩)
                (by
                  rw [List.pairwise_append]
                  have hnew : ∀ p ∈ q, ∀ j, (Value.slice an l.length cn).ownBlock = some j → p.2.ownBlock ≠ some j := fun p hp j hj e => by have h1 := HOL.out j hj; have h2 := (World.ownsRow.lt (hold.sets.row p hp) j e).2; omega
                  refine ⟨hold.sets.dis.sublist (List.take_sublist _ _), List.Pairwise.cons (fun p hp j hj e => hnew p (List.mem_of_mem_drop hp) j hj e) (hold.sets.dis.sublist (List.drop_sublist _ _)), fun p hp r hr j hj e => ?_⟩
                  rcases List.mem_cons.1 hr with rfl | h2
                  · exact hnew p (List.mem_of_mem_take hp) j e hj
                  · have h3 := hold.sets.dis
                    rw [← List.take_append_drop k q, List.pairwise_append] at h3
                    exact h3.2.2 p hp r h2 j hj e)
                (fun j hj p hp e => by
                  rcases hmem p hp with rfl | h
                  · have h1 := HOL.out j e; have h2 := (World.ownsRow.lt hold.tab j hj).2; omega
                  · exact (hold.apart j hj).2 p h e)
              have hRL : rS.length = S.length + 1 := by rw [← HRX.out]; exact insX_len S id l
              have HQR := Lib.hid (show setsX (q.take k ++ ((id, l), .slice an l.length cn) :: q.drop k) = rS by rw [setsX_ins, HQ.out, ← HRX.out]; unfold insX; rw [HPK.out])
              rw [← hRL] at hst
              rw [hm9, ← hRL]
              have HST6 := Lib.hid hst
              clear hst ho9 hmem hold hzr hzz hlo hm9
              have d0 := HST6.out.box.three0
              have d1 := HST6.out.box.three1
              have d2 := HST6.out.box.three2
              have r0 := HST6.out.res.three0
              have r1 := HST6.out.res.three1
              have r2 := HST6.out.res.three2
              have f0 := HST6.out.res.frozen 0
              have f1 := HST6.out.res.frozen 1
              have f2 := HST6.out.res.frozen 2
              clear hRL y2 y9 fy9
              go_wp2
              have z := HST6.out.end_
              have z0 : _ = some _ := z.three0
              have z1 : _ = some _ := z.three1
              have z2 : _ = some _ := z.three2
              exact bodyPost_ret (v := .tuple #[.agg #[.int .i64 t, .slice a1 T.length c1, .slice a9 rS.length c9], .bool true]) (by simp [results, Tryz.results17, go_sem, z0, z1, z2]) rfl (HST6.out.gives HQR.out true)
            · skip
              go_simp
              refine hK.out _ _ (fun _ => ⟨yB, s0B, s1B⟩) (fun hH => ?_)
              have hHeld := hH (by decide)
              clear hH
              clear hK K
              (try simp only [Act.put, List.getElem_toArray, List.getElem_cons_succ, List.getElem_cons_zero, List.setIfInBounds_toArray, List.set_cons_zero, List.set_cons_succ])
              refine anyE_one (i := 5) (by kernel_rfl) (anyE_step rfl (fun K hK => ?_))
              refine step_app_row rfl _ _ 25 71 rfl i0 _ 2 32 Tryz.underlying25 hi0 hz0 hz1 hz2 rfl (by decide) wz.heap.size (.slice (some ⟨wz.heap.size, 0, none⟩) 0 0) 0 [] rfl (some ⟨gq, 0, none⟩) k c2 (flatX (q.take k)) rfl HOB.out HL1.out (HC1.out _ HBB.out) nofun HO1.out (by unfold maxLen; omega) (by omega) HBB.out.size ?_
              intro v1 w3 ho hg
              rw [Nat.zero_add, List.nil_append] at ho
              have hb3 := HBB.out.grown hg HBB.out.size (fun j hj => by cases hj; simp)
              have HR3 := Lib.hid ho
              have HB3 := Lib.hid hb3
              have y3 := (HSTZ.out.box.below hb3).three2
              have s03 := (HBLK.out.below hb3).two0
              have s13 := (HBLK.out.below hb3).two1
              have HP3 := Lib.hid (HPB.out.grown hg (by simp [Value.ownBlock]))
              clear ho hg hb3
              refine hK.out _ _ (fun _ => ⟨y3, s03, s13⟩) (fun hH => ?_)
              have hHeld := hH (by decide)
              clear hH
              clear hK K
              (try simp only [Act.put, List.getElem_toArray, List.getElem_cons_succ, List.getElem_cons_zero, List.setIfInBounds_toArray, List.set_cons_zero, List.set_cons_succ])
              refine anyE_one (i := 8) (by kernel_rfl) (anyE_step rfl (fun K hK => ?_))
              refine step_ixs rfl _ _ rfl wz.heap.size v1 k (flatX (q.take k)) (wz.heap.size + 1) id (.slice an l.length cn) rfl rfl w3.heap.size HR3.out HP3.out rfl (by omega) HB3.out.size rfl ?_
              intro g8 cap8 w8 ho hg hat
              have hb8 := HB3.out.grown hg HB3.out.size (fun j hj => (World.ownsRow.lt HR3.out j hj).1)
              have HR8 := Lib.hid ho
              have HB8 := Lib.hid hb8
              have y8 := (HSTZ.out.box.below hb8).three2
              have s08 := (HBLK.out.below hb8).two0
              have s18 := (HBLK.out.below hb8).two1
              clear ho hg hb8 hat
              refine hK.out _ _ (fun _ => ⟨y8, s08, s18⟩) (fun hH => ?_)
              have hHeld := hH (by decide)
              clear hH
              clear hK K
              (try simp only [Act.put, List.getElem_toArray, List.getElem_cons_succ, List.getElem_cons_zero, List.setIfInBounds_toArray, List.set_cons_zero, List.set_cons_succ])
              refine anyE_one (i := 13) (by kernel_rfl) (anyE_step rfl (fun K hK => ?_))
              refine step_app_row rfl _ _ 25 71 rfl i0 _ 2 32 Tryz.underlying25 hi0 hz0 hz1 hz2 rfl (by decide) wz.heap.size (.slice (some ⟨g8, 0, none⟩) (k + 1) cap8) (k + 1) (flatX (q.take k) ++ [.int .i64 id, .slice an l.length cn]) rfl (some ⟨gq, k * 2, none⟩) (S.length - k) (c2 - k) (flatX (q.drop k)) rfl HR8.out HL2.out (HC2.out _ HB8.out) nofun HO2.out (by unfold maxLen; omega) (by omega) HB8.out.size ?_
              intro v9 w9 ho hg
              obtain ⟨a9, c9, rfl⟩ := row_shape ho
              have hb9 := HB8.out.grown hg HB8.out.size (fun j hj => (World.ownsRow.lt HR8.out j hj).1)
              have HR9 := Lib.hid ho
              have HB9 := Lib.hid hb9
              have y9 := (HSTZ.out.box.below hb9).three2
              have fy9 := (HSTZ.out.box.below hb9).frozen 2
              have s09 := (HBLK.out.below hb9).two0
              have s19 := (HBLK.out.below hb9).two1
              clear ho hg hb9
              refine hK.out _ _ (fun _ => ⟨y9, s09, s19⟩) (fun hH => ?_)
              have hHeld := hH (by decide)
              clear hH
              clear hK K
              (try simp only [Act.put, List.getElem_toArray, List.getElem_cons_succ, List.getElem_cons_zero, List.setIfInBounds_toArray, List.set_cons_zero, List.set_cons_succ])
              refine anyE_take (i := 14) (v := ?vz11) rfl (by kernel_rfl) (by kernel_rfl) (by kernel_rfl) (by kernel_rfl) (by kernel_rfl) (fun _ _ _ h => h) (Or.inl ⟨by kernel_rfl, ?yz11⟩) (by assumption) ?rz11
              case yz11 => (intro w' hSw; (try dsimp only at hSw); go_simp; (try with_reducible rfl))
              (try simp only [Act.put, List.getElem_toArray, List.getElem_cons_succ, List.getElem_cons_zero, List.setIfInBounds_toArray, List.set_cons_zero, List.set_cons_succ])
              refine anyE_one (i := 15) (by kernel_rfl) (anyE_step rfl (fun K hK => ?_))
              go_simp
              refine hK.out _ _ (fun h => absurd rfl h) (fun _ => ?_)
              clear hK K
              (try simp only [Act.put, List.getElem_toArray, List.getElem_cons_succ, List.getElem_cons_zero, List.setIfInBounds_toArray, List.set_cons_zero, List.set_cons_succ])
              refine anyE_done (by kernel_rfl) ?_ _
              refine NoPanic.normal ?_
              have hm9 : k + 1 + (S.length - k) = S.length + 1 := by omega
              have ho9 := HR9.out
              rw [hm9, List.append_assoc, List.cons_append, List.cons_append, List.nil_append, ← flatX_cons ((id, l), .slice an l.length cn), ← flatX_append] at ho9
              have hmem : ∀ p ∈ q.take k ++ ((id, l), .slice an l.length cn) :: q.drop k, p = ((id, l), .slice an l.length cn) ∨ p ∈ q := fun p hp => by
                rcases List.mem_append.1 hp with h1 | h1
                · exact .inr (List.mem_of_mem_take h1)
                · rcases List.mem_cons.1 h1 with h2 | h2
                  · exact .inl h2
                  · exact .inr (List.mem_of_mem_drop h2)
              have hold := HST.out
              have hzr := HZR.out
              have hzz := HZZ.out
              have hlo : w.heap.size + 1 + 1 ≤ wr.heap.size := hold.res.lt
              have hst := HSTZ.out.fresh HB9.out ho9 (by rw [List.length_append, List.length_take, List.length_cons, List.length_drop]; have := HQL.out; omega)
                (fun p hp => by rcases hmem p hp with rfl | h; exact (HONZ.out.below HB9.out).mono hlo; exact (HSTZ.out.sets.row p h).below HB9.out)
                (fun p hp j hj => by
                  rcases hmem p hp with rfl | h
                  · have h1 := HOL.out j hj; have h2 := hold.box.lt; exact ⟨by omega, by omega⟩
                  · exact ⟨(World.ownsRow.lt (HSTZ.out.sets.row p h) j hj).2, fun e => by subst e; exact HSTZ.out.nbQ p h hj⟩)
                (by
                  rw [List.pairwise_append]
                  have hnew : ∀ p ∈ q, ∀ j, (Value.slice an l.length cn).ownBlock = some j → p.2.ownBlock ≠ some j := fun p hp j hj e => by have h1 := HOL.out j hj; have h2 := (World.ownsRow.lt (hold.sets.row p hp) j e).2; omega
                  refine ⟨hold.sets.dis.sublist (List.take_sublist _ _), List.Pairwise.cons (fun p hp j hj e => hnew p (List.mem_of_mem_drop hp) j hj e) (hold.sets.dis.sublist (List.drop_sublist _ _)), fun p hp r hr j hj e => ?_⟩
                  rcases List.mem_cons.1 hr with rfl | h2
                  · exact hnew p (List.mem_of_mem_take hp) j e hj
                  · have h3 := hold.sets.dis
                    rw [← List.take_append_drop k q, List.pairwise_append] at h3
                    exact h3.2.2 p hp r h2 j hj e)
                (fun j hj p hp e => by
                  rcases hmem p hp with rfl | h
                  · have h1 := HOL.out j e; have h2 := (World.ownsRow.lt hold.tab j hj).2; omega
                  · exact (hold.apart j hj).2 p h e)
              have hRL : rS.length = S.length + 1 := by rw [← HRX.out]; exact insX_len S id l
              have HQR := Lib.hid (show setsX (q.take k ++ ((id, l), .slice an l.length cn) :: q.drop k) = rS by rw [setsX_ins, HQ.out, ← HRX.out]; unfold insX; rw [HPK.out])
              rw [← hRL] at hst
              rw [hm9, ← hRL]
              have HST6 := Lib.hid hst
              clear hst ho9 hmem hold hzr hzz hlo hm9
              have d0 := HST6.out.box.three0
              have d1 := HST6.out.box.three1
              have d2 := HST6.out.box.three2
              have r0 := HST6.out.res.three0
              have r1 := HST6.out.res.three1
              have r2 := HST6.out.res.three2
              have f0 := HST6.out.res.frozen 0
              have f1 := HST6.out.res.frozen 1
              have f2 := HST6.out.res.frozen 2
              clear hRL y2 y9 fy9
              go_wp2
              have z := HST6.out.end_
              have z0 : _ = some _ := z.three0
              have z1 : _ = some _ := z.three1
              have z2 : _ = some _ := z.three2
              exact bodyPost_ret (v := .tuple #[.agg #[.int .i64 t, .slice a1 T.length c1, .slice a9 rS.length c9], .bool true]) (by simp [results, Tryz.results17, go_sem, z0, z1, z2]) rfl (HST6.out.gives HQR.out true)
          · skip
            go_simp
            refine hK.out _ _ (fun _ => ⟨yV, s0V, s1V⟩) (fun hH => ?_)
            have hHeld := hH (by decide)
            clear hH
            clear hK K
            (try simp only [Act.put, List.getElem_toArray, List.getElem_cons_succ, List.getElem_cons_zero, List.setIfInBounds_toArray, List.set_cons_zero, List.set_cons_succ])
            refine anyE_one (i := 0) (by kernel_rfl) (anyE_step rfl (fun K hK => ?_))
            go_simp
            refine hK.out _ _ (fun _ => ⟨yC, s0C, s1C⟩) (fun hH => ?_)
            have hHeld := hH (by decide)
            clear hH
            clear hK K
            (try simp only [Act.put, List.getElem_toArray, List.getElem_cons_succ, List.getElem_cons_zero, List.setIfInBounds_toArray, List.set_cons_zero, List.set_cons_succ])
            refine anyE_one (i := 5) (by kernel_rfl) (anyE_step rfl (fun K hK => ?_))
            refine step_app_row rfl _ _ 25 71 rfl i0 _ 2 32 Tryz.underlying25 hi0 hz0 hz1 hz2 rfl (by decide) wz.heap.size (.slice (some ⟨(wz.heap.size + 1), 0, none⟩) 0 0) 0 [] rfl (some ⟨gq, 0, none⟩) k c2 (flatX (q.take k)) rfl HOC.out HL1.out (HC1.out _ HBC.out) nofun HO1.out (by unfold maxLen; omega) (by omega) HBC.out.size ?_
            intro v1 w3 ho hg
            rw [Nat.zero_add, List.nil_append] at ho
            have hb3 := HBC.out.grown hg HBC.out.size (fun j hj => by cases hj; simp)
            have HR3 := Lib.hid ho
            have HB3 := Lib.hid hb3
            have y3 := (HSTZ.out.box.below hb3).three2
            have s03 := (HBLK.out.below hb3).two0
            have s13 := (HBLK.out.below hb3).two1
            have HP3 := Lib.hid (HPC.out.grown hg (by simp [Value.ownBlock]))
            clear ho hg hb3
            refine hK.out _ _ (fun _ => ⟨y3, s03, s13⟩) (fun hH => ?_)
            have hHeld := hH (by decide)
            clear hH
            clear hK K
            (try simp only [Act.put, List.getElem_toArray, List.getElem_cons_succ, List.getElem_cons_zero, List.setIfInBounds_toArray, List.set_cons_zero, List.set_cons_succ])
            refine anyE_one (i := 8) (by kernel_rfl) (anyE_step rfl (fun K hK => ?_))
            refine step_ixs rfl _ _ rfl wz.heap.size v1 k (flatX (q.take k)) wz.heap.size id (.slice an l.length cn) rfl rfl w3.heap.size HR3.out HP3.out rfl (by omega) HB3.out.size rfl ?_
            intro g8 cap8 w8 ho hg hat
            have hb8 := HB3.out.grown hg HB3.out.size (fun j hj => (World.ownsRow.lt HR3.out j hj).1)
            have HR8 := Lib.hid ho
            have HB8 := Lib.hid hb8
            have y8 := (HSTZ.out.box.below hb8).three2
            have s08 := (HBLK.out.below hb8).two0
            have s18 := (HBLK.out.below hb8).two1
            clear ho hg hb8 hat
            refine hK.out _ _ (fun _ => ⟨y8, s08, s18⟩) (fun hH => ?_)
            have hHeld := hH (by decide)
            clear hH
            clear hK K
            (try simp only [Act.put, List.getElem_toArray, List.getElem_cons_succ, List.getElem_cons_zero, List.setIfInBounds_toArray, List.set_cons_zero, List.set_cons_succ])
            refine anyE_one (i := 13) (by kernel_rfl) (anyE_step rfl (fun K hK => ?_))
            refine step_app_row rfl _ _ 25 71 rfl i0 _ 2 32 Tryz.underlying25 hi0 hz0 hz1 hz2 rfl (by decide) wz.heap.size (.slice (some ⟨g8, 0, none⟩) (k + 1) cap8) (k + 1) (flatX (q.take k) ++ [.int .i64 id, .slice an l.length cn]) rfl (some ⟨gq, k * 2, none⟩) (S.length - k) (c2 - k) (flatX (q.drop k)) rfl HR8.out HL2.out (HC2.out _ HB8.out) nofun HO2.out (by unfold maxLen; omega) (by omega) HB8.out.size ?_
            intro v9 w9 ho hg
            obtain ⟨a9, c9, rfl⟩ := row_shape ho
            have hb9 := HB8.out.grown hg HB8.out.size (fun j hj => (World.ownsRow.lt HR8.out j hj).1)
            have HR9 := Lib.hid ho
            have HB9 := Lib.hid hb9
            have y9 := (HSTZ.out.box.below hb9).three2
            have fy9 := (HSTZ.out.box.below hb9).frozen 2
            have s09 := (HBLK.out.below hb9).two0
            have s19 := (HBLK.out.below hb9).two1
            clear ho hg hb9
            refine hK.out _ _ (fun _ => ⟨y9, s09, s19⟩) (fun hH => ?_)
            have hHeld := hH (by decide)
            clear hH
            clear hK K
            (try simp only [Act.put, List.getElem_toArray, List.getElem_cons_succ, List.getElem_cons_zero, List.setIfInBounds_toArray, List.set_cons_zero, List.set_cons_succ])
            refine anyE_take (i := 14) (v := ?vz12) rfl (by kernel_rfl) (by kernel_rfl) (by kernel_rfl) (by kernel_rfl) (by kernel_rfl) (fun _ _ _ h => h) (Or.inl ⟨by kernel_rfl, ?yz12⟩) (by assumption) ?rz12
            case yz12 => (intro w' hSw; (try dsimp only at hSw); go_simp; (try with_reducible rfl))
            (try simp only [Act.put, List.getElem_toArray, List.getElem_cons_succ, List.getElem_cons_zero, List.setIfInBounds_toArray, List.set_cons_zero, List.set_cons_succ])
            refine anyE_one (i := 15) (by kernel_rfl) (anyE_step rfl (fun K hK => ?_))
            go_simp
            refine hK.out _ _ (fun h => absurd rfl h) (fun _ => ?_)
            clear hK K
            (try simp only [Act.put, List.getElem_toArray, List.getElem_cons_succ, List.getElem_cons_zero, List.setIfInBounds_toArray, List.set_cons_zero, List.set_cons_succ])
            refine anyE_done (by kernel_rfl) ?_ _
            refine NoPanic.normal ?_
            have hm9 : k + 1 + (S.length - k) = S.length + 1 := by omega
            have ho9 := HR9.out
            rw [hm9, List.append_assoc, List.cons_append, List.cons_append, List.nil_append, ← flatX_cons ((id, l), .slice an l.length cn), ← flatX_append] at ho9
            have hmem : ∀ p ∈ q.take k ++ ((id, l), .slice an l.length cn) :: q.drop k, p = ((id, l), .slice an l.length cn) ∨ p ∈ q := fun p hp => by
              rcases List.mem_append.1 hp with h1 | h1
              · exact .inr (List.mem_of_mem_take h1)
              · rcases List.mem_cons.1 h1 with h2 | h2
                · exact .inl h2
                · exact .inr (List.mem_of_mem_drop h2)
            have hold := HST.out
            have hzr := HZR.out
            have hzz := HZZ.out
            have hlo : w.heap.size + 1 + 1 ≤ wr.heap.size := hold.res.lt
            have hst := HSTZ.out.fresh HB9.out ho9 (by rw [List.length_append, List.length_take, List.length_cons, List.length_drop]; have := HQL.out; omega)
              (fun p hp => by rcases hmem p hp with rfl | h; exact (HONZ.out.below HB9.out).mono hlo; exact (HSTZ.out.sets.row p h).below HB9.out)
              (fun p hp j hj => by
                rcases hmem p hp with rfl | h
                · have h1 := HOL.out j hj; have h2 := hold.box.lt; exact ⟨by omega, by omega⟩
                · exact ⟨(World.ownsRow.lt (HSTZ.out.sets.row p h) j hj).2, fun e => by subst e; exact HSTZ.out.nbQ p h hj⟩)
              (by
                rw [List.pairwise_append]
                have hnew : ∀ p ∈ q, ∀ j, (Value.slice an l.length cn).ownBlock = some j → p.2.ownBlock ≠ some j := fun p hp j hj e => by have h1 := HOL.out j hj; have h2 := (World.ownsRow.lt (hold.sets.row p hp) j e).2; omega
                refine ⟨hold.sets.dis.sublist (List.take_sublist _ _), List.Pairwise.cons (fun p hp j hj e => hnew p (List.mem_of_mem_drop hp) j hj e) (hold.sets.dis.sublist (List.drop_sublist _ _)), fun p hp r hr j hj e => ?_⟩
                rcases List.mem_cons.1 hr with rfl | h2
                · exact hnew p (List.mem_of_mem_take hp) j e hj
                · have h3 := hold.sets.dis
                  rw [← List.take_append_drop k q, List.pairwise_append] at h3
                  exact h3.2.2 p hp r h2 j hj e)
              (fun j hj p hp e => by
                rcases hmem p hp with rfl | h
                · have h1 := HOL.out j e; have h2 := (World.ownsRow.lt hold.tab j hj).2; omega
                · exact (hold.apart j hj).2 p h e)
            have hRL : rS.length = S.length + 1 := by rw [← HRX.out]; exact insX_len S id l
            have HQR := Lib.hid (show setsX (q.take k ++ ((id, l), .slice an l.length cn) :: q.drop k) = rS by rw [setsX_ins, HQ.out, ← HRX.out]; unfold insX; rw [HPK.out])
            rw [← hRL] at hst
            rw [hm9, ← hRL]
            have HST6 := Lib.hid hst
            clear hst ho9 hmem hold hzr hzz hlo hm9
            have d0 := HST6.out.box.three0
            have d1 := HST6.out.box.three1
            have d2 := HST6.out.box.three2
            have r0 := HST6.out.res.three0
            have r1 := HST6.out.res.three1
            have r2 := HST6.out.res.three2
            have f0 := HST6.out.res.frozen 0
            have f1 := HST6.out.res.frozen 1
            have f2 := HST6.out.res.frozen 2
            clear hRL y2 y9 fy9
            go_wp2
            have z := HST6.out.end_
            have z0 : _ = some _ := z.three0
            have z1 : _ = some _ := z.three1
            have z2 : _ = some _ := z.three2
            exact bodyPost_ret (v := .tuple #[.agg #[.int .i64 t, .slice a1 T.length c1, .slice a9 rS.length c9], .bool true]) (by simp [results, Tryz.results17, go_sem, z0, z1, z2]) rfl (HST6.out.gives HQR.out true)
        · obtain rfl : k = S.length := by omega
          clear hmore
          have hown0 := HST.out.sets.out
          rw [HQL.out] at hown0
          rcases hown0.2 with ⟨hv0, hn0⟩ | ⟨gq, cap, cur, hv0, hbg, -⟩
          · injection hv0 with e1 e2 e3
            subst e1 e3
            clear hown0
            obtain rfl : S = [] := List.eq_nil_of_length_eq_zero hn0
            clear hn0 e2
            obtain rfl : [(id, l)] = rS := by rw [← HRX.out]; rfl
            have HQL := Lib.hid (show q.length = 0 from HQL.out)
            go_wp2_with (at_builtin; refine wpList_app_row rfl _ _ 28 9 rfl is _ 1 16 Tryz.underlying28 his hzs0 hzs1 hzs2 rfl (by decide) wr.heap.size _ 0 [] rfl (World.ownsRow_made wr #[] 0 (Nat.le_refl _) (Nat.zero_le _) (by simp)) la l.length lc (l.map encStr) rfl (by simp) (HCS.out.below ((Below.refl _ _).alloc (Nat.le_refl _) _)) HSM.out.2.1 (fun u hu => by obtain ⟨x, _, rfl⟩ := List.mem_map.1 hu; rfl) (by unfold maxLen; omega) (by omega) (by simp) ?_; intro v' w7 ho hg; refine Hid.out ?_)
            rw [Nat.zero_add, List.nil_append] at ho
            have hb7 : Below wr.heap.size wr w7 := ((Below.refl _ wr).alloc (Nat.le_refl _) _).grown hg (by simp) (by intro k hk; cases hk; exact Nat.le_refl _)
            have hos : OwnS w7 wr.heap.size v' l := ho
            obtain ⟨an, cn, rfl⟩ := hos.shape
            obtain ⟨wz, hwz⟩ : ∃ wz, wz = w7.alloc (.cells #[.int .i64 id, .slice an l.length cn] 71) := ⟨_, rfl⟩
            have hbz : Below w7.heap.size w7 wz := by rw [hwz]; exact (Below.refl _ _).alloc (Nat.le_refl _) _
            obtain ⟨Bs, hBs⟩ : ∃ Bs, Bs = w7.heap.size := ⟨_, rfl⟩
            have hblk : BlkV wz Bs 71 #[.int .i64 id, .slice an l.length cn] := by rw [hwz, hBs]; exact BlkV.new _ _ _
            have HBLK := Lib.hid hblk
            have HWZ := Lib.hid hwz
            have HOL := Lib.hid (fun j hj => World.ownsRow.lt hos j hj)
            have HONZ := Lib.hid (OwnS.below hos hbz)
            have HSTZ := Lib.hid (HST.out.below_ (hb7.trans (hbz.mono hb7.size)))
            have HZR := Lib.hid (show wr.heap.size ≤ w7.heap.size from hb7.size)
            have HZZ := Lib.hid (show wz.heap.size = w7.heap.size + 1 by rw [hwz]; simp)
            have hone := HSTZ.out.sets.one
            have HC1 := Lib.hid (fun (W : World) (hW : Below wz.heap.size wz W) => (show CellsAt W none (flatX (q.take 0)) from fun h0 => by simp [flatX] at h0))
            have HC2 := Lib.hid (fun (W : World) (hW : Below wz.heap.size wz W) => (show CellsAt W none (flatX (q.drop 0)) from fun h0 => by rw [flatX_len, List.length_drop] at h0; have := HQL.out; omega))
            have HL1 := Lib.hid (show (flatX (q.take 0)).length = 0 * 2 by rw [flatX_len, List.length_take]; have := HQL.out; omega)
            have HL2 := Lib.hid (show (flatX (q.drop 0)).length = 0 * 2 by rw [flatX_len, List.length_drop]; have := HQL.out; omega)
            have HO1 := Lib.hid (show ∀ u ∈ flatX (q.take 0), u.oneCell' = true by rw [← flatX_take]; exact fun u hu => hone u (List.mem_of_mem_take hu))
            have HO2 := Lib.hid (show ∀ u ∈ flatX (q.drop 0), u.oneCell' = true by rw [← flatX_drop]; exact fun u hu => hone u (List.mem_of_mem_drop hu))
            have hbA := (Below.refl wz.heap.size wz).alloc (Nat.le_refl _) (.cells #[] 71)
            have hbB := ((Below.refl wz.heap.size wz).alloc (Nat.le_refl _) (.cells #[] 71)).alloc (by simp) (.cells #[.int .i64 id, .slice an l.length cn] 71)
            have hbC := ((Below.refl wz.heap.size wz).alloc (Nat.le_refl _) (.cells #[.int .i64 id, .slice an l.length cn] 71)).alloc (by simp) (.cells #[] 71)
            have hbV := (Below.refl wz.heap.size wz).alloc (Nat.le_refl _) (.cells #[.int .i64 id, .slice an l.length cn] 71)
            have HBA := Lib.hid hbA.drew
            have HBB := Lib.hid hbB.drew
            have HBC := Lib.hid hbC.drew
            have HOA := Lib.hid (show ((wz.alloc (.cells #[] 71)).drew).ownsRow wz.heap.size 71 2 (.slice (some ⟨wz.heap.size, 0, none⟩) 0 0) 0 [] from World.ownsRow_made wz #[] 0 (Nat.le_refl _) (Nat.zero_le _) (by simp))
            have HOB := Lib.hid (show (((wz.alloc (.cells #[] 71)).alloc (.cells #[.int .i64 id, .slice an l.length cn] 71)).drew).ownsRow wz.heap.size 71 2 (.slice (some ⟨wz.heap.size, 0, none⟩) 0 0) 0 [] from World.ownsRow.alloc (World.ownsRow_made wz #[] 0 (Nat.le_refl _) (Nat.zero_le _) (by simp)) _)
            have HOC := Lib.hid (show (((wz.alloc (.cells #[.int .i64 id, .slice an l.length cn] 71)).alloc (.cells #[] 71)).drew).ownsRow wz.heap.size 71 2 (.slice (some ⟨wz.heap.size + 1, 0, none⟩) 0 0) 0 [] from ownsRow_made_at (wz.alloc (.cells #[.int .i64 id, .slice an l.length cn] 71)) wz.heap.size (wz.heap.size + 1) (by simp) (by omega))
            have HPB := Lib.hid (show BlkV (((wz.alloc (.cells #[] 71)).alloc (.cells #[.int .i64 id, .slice an l.length cn] 71)).drew) (wz.heap.size + 1) 71 #[.int .i64 id, .slice an l.length cn] from BlkV.new_ _ _ _ _ (by simp))
            have HPC := Lib.hid (show BlkV (((wz.alloc (.cells #[.int .i64 id, .slice an l.length cn] 71)).alloc (.cells #[] 71)).drew) wz.heap.size 71 #[.int .i64 id, .slice an l.length cn] from (BlkV.new wz _ _).alloc _)
            have y2 := HSTZ.out.box.three2
            have s0 := HBLK.out.two0
            have s1 := HBLK.out.two1
            have yA : ((wz.alloc (.cells #[] 71)).drew).cell? ⟨BY, 2, none⟩ = some (.slice none 0 0) := (HSTZ.out.box.below hbA).three2
            have s0A : ((wz.alloc (.cells #[] 71)).drew).cell? ⟨Bs, 0, none⟩ = some (.int .i64 id) := (HBLK.out.below hbA).two0
            have s1A : ((wz.alloc (.cells #[] 71)).drew).cell? ⟨Bs, 1, none⟩ = some (.slice an l.length cn) := (HBLK.out.below hbA).two1
            have yB : (((wz.alloc (.cells #[] 71)).alloc (.cells #[.int .i64 id, .slice an l.length cn] 71)).drew).cell? ⟨BY, 2, none⟩ = some (.slice none 0 0) := (HSTZ.out.box.below hbB).three2
            have s0B : (((wz.alloc (.cells #[] 71)).alloc (.cells #[.int .i64 id, .slice an l.length cn] 71)).drew).cell? ⟨Bs, 0, none⟩ = some (.int .i64 id) := (HBLK.out.below hbB).two0
            have s1B : (((wz.alloc (.cells #[] 71)).alloc (.cells #[.int .i64 id, .slice an l.length cn] 71)).drew).cell? ⟨Bs, 1, none⟩ = some (.slice an l.length cn) := (HBLK.out.below hbB).two1
            have yC : (((wz.alloc (.cells #[.int .i64 id, .slice an l.length cn] 71)).alloc (.cells #[] 71)).drew).cell? ⟨BY, 2, none⟩ = some (.slice none 0 0) := (HSTZ.out.box.below hbC).three2
            have s0C : (((wz.alloc (.cells #[.int .i64 id, .slice an l.length cn] 71)).alloc (.cells #[] 71)).drew).cell? ⟨Bs, 0, none⟩ = some (.int .i64 id) := (HBLK.out.below hbC).two0
            have s1C : (((wz.alloc (.cells #[.int .i64 id, .slice an l.length cn] 71)).alloc (.cells #[] 71)).drew).cell? ⟨Bs, 1, none⟩ = some (.slice an l.length cn) := (HBLK.out.below hbC).two1
            have yV : ((wz.alloc (.cells #[.int .i64 id, .slice an l.length cn] 71)).drew).cell? ⟨BY, 2, none⟩ = some (.slice none 0 0) := (HSTZ.out.box.below hbV).three2
            have s0V : ((wz.alloc (.cells #[.int .i64 id, .slice an l.length cn] 71)).drew).cell? ⟨Bs, 0, none⟩ = some (.int .i64 id) := (HBLK.out.below hbV).two0
            have s1V : ((wz.alloc (.cells #[.int .i64 id, .slice an l.length cn] 71)).drew).cell? ⟨Bs, 1, none⟩ = some (.slice an l.length cn) := (HBLK.out.below hbV).two1
            clear ho hg hb7 hos hbz hblk hone hwz hbA hbB hbC hbV
            refine Lib.hid ?_
            go_wp2_with (fail)
            rw [← HWZ.out, ← hBs]
            clear hBs
            refine wp_region_noPanic ?_
            refine wp_region_E (S := fun w' => w'.cell? ⟨BY, 2, none⟩ = some (.slice none 0 0) ∧ w'.cell? ⟨Bs, 0, none⟩ = some (.int .i64 id) ∧ w'.cell? ⟨Bs, 1, none⟩ = some (.slice an l.length cn)) 15 (by kernel_rfl) (⟨y2, s0, s1⟩) (fun hHeld => ?_)
            refine anyE_take (i := 1) (v := ?vz1001) rfl (by kernel_rfl) (by kernel_rfl) (by kernel_rfl) (by kernel_rfl) (by kernel_rfl) (fun _ _ _ h => h) (Or.inl ⟨by kernel_rfl, ?yz1001⟩) (by assumption) ?rz1001
            case yz1001 => (intro w' hSw; (try dsimp only at hSw); go_simp; (try with_reducible rfl))
            (try simp only [Act.put, List.getElem_toArray, List.getElem_cons_succ, List.getElem_cons_zero, List.setIfInBounds_toArray, List.set_cons_zero, List.set_cons_succ])
            refine anyE_take (i := 2) (v := ?vz1002) rfl (by kernel_rfl) (by kernel_rfl) (by kernel_rfl) (by kernel_rfl) (by kernel_rfl) (fun _ _ _ h => h) (Or.inl ⟨by kernel_rfl, ?yz1002⟩) (by assumption) ?rz1002
            case yz1002 => (intro w' hSw; (try dsimp only at hSw); go_simp; (try with_reducible rfl))
            (try simp only [Act.put, List.getElem_toArray, List.getElem_cons_succ, List.getElem_cons_zero, List.setIfInBounds_toArray, List.set_cons_zero, List.set_cons_succ])
            refine anyE_take (i := 3) (v := ?vz1003) rfl (by kernel_rfl) (by kernel_rfl) (by kernel_rfl) (by kernel_rfl) (by kernel_rfl) (fun _ _ _ h => h) (Or.inl ⟨by kernel_rfl, ?yz1003⟩) (by assumption) ?rz1003
            case yz1003 => (intro w' hSw; (try dsimp only at hSw); go_simp; (try with_reducible rfl))
            (try simp only [Act.put, List.getElem_toArray, List.getElem_cons_succ, List.getElem_cons_zero, List.setIfInBounds_toArray, List.set_cons_zero, List.set_cons_succ])
            refine anyE_take (i := 4) (v := ?vz1004) rfl (by kernel_rfl) (by kernel_rfl) (by kernel_rfl) (by kernel_rfl) (by kernel_rfl) (fun _ _ _ h => h) (Or.inl ⟨by kernel_rfl, ?yz1004⟩) (by assumption) ?rz1004
            case yz1004 => (intro w' hSw; (try dsimp only at hSw); go_simp; (try with_reducible rfl))
            (try simp only [Act.put, List.getElem_toArray, List.getElem_cons_succ, List.getElem_cons_zero, List.setIfInBounds_toArray, List.set_cons_zero, List.set_cons_succ])
            refine anyE_take (i := 6) (v := ?vz1005) rfl (by kernel_rfl) (by kernel_rfl) (by kernel_rfl) (by kernel_rfl) (by kernel_rfl) (fun _ _ _ h => h) (Or.inl ⟨by kernel_rfl, ?yz1005⟩) (by assumption) ?rz1005
            case yz1005 => (intro w' hSw; (try dsimp only at hSw); go_simp; (try with_reducible rfl))
            (try simp only [Act.put, List.getElem_toArray, List.getElem_cons_succ, List.getElem_cons_zero, List.setIfInBounds_toArray, List.set_cons_zero, List.set_cons_succ])
            refine anyE_take (i := 9) (v := ?vz1006) rfl (by kernel_rfl) (by kernel_rfl) (by kernel_rfl) (by kernel_rfl) (by kernel_rfl) (fun _ _ _ h => h) (Or.inl ⟨by kernel_rfl, ?yz1006⟩) (by assumption) ?rz1006
            case yz1006 => (intro w' hSw; (try dsimp only at hSw); go_simp; (try with_reducible rfl))
            (try simp only [Act.put, List.getElem_toArray, List.getElem_cons_succ, List.getElem_cons_zero, List.setIfInBounds_toArray, List.set_cons_zero, List.set_cons_succ])
            refine anyE_take (i := 10) (v := ?vz1007) rfl (by kernel_rfl) (by kernel_rfl) (by kernel_rfl) (by kernel_rfl) (by kernel_rfl) (fun _ _ _ h => h) (Or.inl ⟨by kernel_rfl, ?yz1007⟩) (by assumption) ?rz1007
            case yz1007 => (intro w' hSw; (try dsimp only at hSw); go_simp; (try with_reducible rfl))
            (try simp only [Act.put, List.getElem_toArray, List.getElem_cons_succ, List.getElem_cons_zero, List.setIfInBounds_toArray, List.set_cons_zero, List.set_cons_succ])
            refine anyE_take (i := 11) (v := ?vz1008) rfl (by kernel_rfl) (by kernel_rfl) (by kernel_rfl) (by kernel_rfl) (by kernel_rfl) (fun _ _ _ h => h) (Or.inl ⟨by kernel_rfl, ?yz1008⟩) (by assumption) ?rz1008
            case yz1008 => (intro w' hSw; (try dsimp only at hSw); go_simp; (try with_reducible rfl))
            (try simp only [Act.put, List.getElem_toArray, List.getElem_cons_succ, List.getElem_cons_zero, List.setIfInBounds_toArray, List.set_cons_zero, List.set_cons_succ])
            refine anyE_take (i := 12) (v := ?vz1009) rfl (by kernel_rfl) (by kernel_rfl) (by kernel_rfl) (by kernel_rfl) (by kernel_rfl) (fun _ _ _ h => h) (Or.inl ⟨by kernel_rfl, ?yz1009⟩) (by assumption) ?rz1009
            case yz1009 => (intro w' hSw; (try dsimp only at hSw); go_simp; (try with_reducible rfl))
            (try simp only [Act.put, List.getElem_toArray, List.getElem_cons_succ, List.getElem_cons_zero, List.setIfInBounds_toArray, List.set_cons_zero, List.set_cons_succ])
            refine anyE_two (i := 0) (j := 7) (by kernel_rfl) (anyE_step rfl (fun K hK => ?_)) (anyE_step rfl (fun K hK => ?_))
            · skip
              go_simp
              refine hK.out _ _ (fun _ => ⟨yA, s0A, s1A⟩) (fun hH => ?_)
              have hHeld := hH (by decide)
              clear hH
              clear hK K
              (try simp only [Act.put, List.getElem_toArray, List.getElem_cons_succ, List.getElem_cons_zero, List.setIfInBounds_toArray, List.set_cons_zero, List.set_cons_succ])
              refine anyE_two (i := 5) (j := 7) (by kernel_rfl) (anyE_step rfl (fun K hK => ?_)) (anyE_step rfl (fun K hK => ?_))
              · skip
                refine step_app_row rfl _ _ 25 71 rfl i0 _ 2 32 Tryz.underlying25 hi0 hz0 hz1 hz2 rfl (by decide) wz.heap.size (.slice (some ⟨wz.heap.size, 0, none⟩) 0 0) 0 [] rfl none 0 0 (flatX (q.take 0)) rfl HOA.out HL1.out (HC1.out _ HBA.out) (fun _ => rfl) HO1.out (by unfold maxLen; omega) (by omega) HBA.out.size ?_
                intro v1 w3 ho hg
                rw [Nat.zero_add, List.nil_append] at ho
                have hb3 := HBA.out.grown hg HBA.out.size (fun j hj => by cases hj; simp)
                have HR3 := Lib.hid ho
                have HB3 := Lib.hid hb3
                have y3 := (HSTZ.out.box.below hb3).three2
                have s03 := (HBLK.out.below hb3).two0
                have s13 := (HBLK.out.below hb3).two1
                have hv3 := (Below.refl w3.heap.size w3).alloc (Nat.le_refl _) (.cells #[.int .i64 id, .slice an l.length cn] 71)
                have HB3V := Lib.hid (hb3.trans (hv3.mono hb3.size))
                have HR3V := Lib.hid (World.ownsRow.alloc ho (.cells #[.int .i64 id, .slice an l.length cn] 71))
                have HP3 := Lib.hid (BlkV.new w3 71 #[.int .i64 id, .slice an l.length cn])
                have HZ3 := Lib.hid (show (w3.alloc (.cells #[.int .i64 id, .slice an l.length cn] 71)).heap.size = w3.heap.size + 1 by simp)
                have y3v := (HSTZ.out.box.below HB3V.out).three2
                have s03v := (HBLK.out.below HB3V.out).two0
                have s13v := (HBLK.out.below HB3V.out).two1
                clear hv3
                clear ho hg hb3
                refine hK.out _ _ (fun _ => ⟨y3, s03, s13⟩) (fun hH => ?_)
                have hHeld := hH (by decide)
                clear hH
                clear hK K
                (try simp only [Act.put, List.getElem_toArray, List.getElem_cons_succ, List.getElem_cons_zero, List.setIfInBounds_toArray, List.set_cons_zero, List.set_cons_succ])
                refine anyE_one (i := 7) (by kernel_rfl) (anyE_step rfl (fun K hK => ?_))
                go_simp
                refine hK.out _ _ (fun _ => ⟨y3v, s03v, s13v⟩) (fun hH => ?_)
                have hHeld := hH (by decide)
                clear hH
                clear hK K
                (try simp only [Act.put, List.getElem_toArray, List.getElem_cons_succ, List.getElem_cons_zero, List.setIfInBounds_toArray, List.set_cons_zero, List.set_cons_succ])
                refine anyE_one (i := 8) (by kernel_rfl) (anyE_step rfl (fun K hK => ?_))
                refine step_ixs rfl _ _ rfl wz.heap.size v1 0 (flatX (q.take 0)) w3.heap.size id (.slice an l.length cn) rfl rfl (w3.heap.size + 1) HR3V.out HP3.out rfl (by omega) HB3V.out.size HZ3.out ?_
                intro g8 cap8 w8 ho hg hat
                have hb8 := HB3V.out.grown hg HB3V.out.size (fun j hj => (World.ownsRow.lt HR3.out j hj).1)
                have HR8 := Lib.hid ho
                have HB8 := Lib.hid hb8
                have y8 := (HSTZ.out.box.below hb8).three2
                have s08 := (HBLK.out.below hb8).two0
                have s18 := (HBLK.out.below hb8).two1
                clear ho hg hb8 hat
                refine hK.out _ _ (fun _ => ⟨y8, s08, s18⟩) (fun hH => ?_)
                have hHeld := hH (by decide)
                clear hH
                clear hK K
                (try simp only [Act.put, List.getElem_toArray, List.getElem_cons_succ, List.getElem_cons_zero, List.setIfInBounds_toArray, List.set_cons_zero, List.set_cons_succ])
                refine anyE_one (i := 13) (by kernel_rfl) (anyE_step rfl (fun K hK => ?_))
                refine step_app_row rfl _ _ 25 71 rfl i0 _ 2 32 Tryz.underlying25 hi0 hz0 hz1 hz2 rfl (by decide) wz.heap.size (.slice (some ⟨g8, 0, none⟩) (0 + 1) cap8) (0 + 1) (flatX (q.take 0) ++ [.int .i64 id, .slice an l.length cn]) rfl none 0 0 (flatX (q.drop 0)) rfl HR8.out HL2.out (HC2.out _ HB8.out) (fun _ => rfl) HO2.out (by unfold maxLen; omega) (by omega) HB8.out.size ?_
                intro v9 w9 ho hg
                obtain ⟨a9, c9, rfl⟩ := row_shape ho
                have hb9 := HB8.out.grown hg HB8.out.size (fun j hj => (World.ownsRow.lt HR8.out j hj).1)
                have HR9 := Lib.hid ho
                have HB9 := Lib.hid hb9
                have y9 := (HSTZ.out.box.below hb9).three2
                have fy9 := (HSTZ.out.box.below hb9).frozen 2
                have s09 := (HBLK.out.below hb9).two0
                have s19 := (HBLK.out.below hb9).two1
                clear ho hg hb9
                refine hK.out _ _ (fun _ => ⟨y9, s09, s19⟩) (fun hH => ?_)
                have hHeld := hH (by decide)
                clear hH
                clear hK K
                (try simp only [Act.put, List.getElem_toArray, List.getElem_cons_succ, List.getElem_cons_zero, List.setIfInBounds_toArray, List.set_cons_zero, List.set_cons_succ])
                refine anyE_take (i := 14) (v := ?vz1010) rfl (by kernel_rfl) (by kernel_rfl) (by kernel_rfl) (by kernel_rfl) (by kernel_rfl) (fun _ _ _ h => h) (Or.inl ⟨by kernel_rfl, ?yz1010⟩) (by assumption) ?rz1010
                case yz1010 => (intro w' hSw; (try dsimp only at hSw); go_simp; (try with_reducible rfl))
                (try simp only [Act.put, List.getElem_toArray, List.getElem_cons_succ, List.getElem_cons_zero, List.setIfInBounds_toArray, List.set_cons_zero, List.set_cons_succ])
                refine anyE_one (i := 15) (by kernel_rfl) (anyE_step rfl (fun K hK => ?_))
                go_simp
                refine hK.out _ _ (fun h => absurd rfl h) (fun _ => ?_)
                clear hK K
                (try simp only [Act.put, List.getElem_toArray, List.getElem_cons_succ, List.getElem_cons_zero, List.setIfInBounds_toArray, List.set_cons_zero, List.set_cons_succ])
                refine anyE_done (by kernel_rfl) ?_ _
                refine NoPanic.normal ?_
                have hm9 : 0 + 1 + 0 = 1 := rfl
                have ho9 := HR9.out
                rw [hm9, List.append_assoc, List.cons_append, List.cons_append, List.nil_append, ← flatX_cons ((id, l), .slice an l.length cn), ← flatX_append] at ho9
                have hmem : ∀ p ∈ q.take 0 ++ ((id, l), .slice an l.length cn) :: q.drop 0, p = ((id, l), .slice an l.length cn) ∨ p ∈ q := fun p hp => by
                  rcases List.mem_append.1 hp with h1 | h1
                  · exact .inr (List.mem_of_mem_take h1)
                  · rcases List.mem_cons.1 h1 with h2 | h2
                    · exact .inl h2
                    · exact .inr (List.mem_of_mem_drop h2)
                have hold := HST.out
                have hzr := HZR.out
                have hzz := HZZ.out
                have hlo : w.heap.size + 1 + 1 ≤ wr.heap.size := hold.res.lt
                have hst := HSTZ.out.fresh HB9.out ho9 (by rw [List.length_append, List.length_take, List.length_cons, List.length_drop]; have := HQL.out; omega)
                  (fun p hp => by rcases hmem p hp with rfl | h; exact (HONZ.out.below HB9.out).mono hlo; exact (HSTZ.out.sets.row p h).below HB9.out)
                  (fun p hp j hj => by
                    rcases hmem p hp with rfl | h
                    · have h1 := HOL.out j hj; have h2 := hold.box.lt; exact ⟨by omega, by omega⟩
                    · exact ⟨(World.ownsRow.lt (HSTZ.out.sets.row p h) j hj).2, fun e => by subst e; exact HSTZ.out.nbQ p h hj⟩)
                  (by
                    rw [List.pairwise_append]
                    have hnew : ∀ p ∈ q, ∀ j, (Value.slice an l.length cn).ownBlock = some j → p.2.ownBlock ≠ some j := fun p hp j hj e => by have h1 := HOL.out j hj; have h2 := (World.ownsRow.lt (hold.sets.row p hp) j e).2; omega
                    refine ⟨hold.sets.dis.sublist (List.take_sublist _ _), List.Pairwise.cons (fun p hp j hj e => hnew p (List.mem_of_mem_drop hp) j hj e) (hold.sets.dis.sublist (List.drop_sublist _ _)), fun p hp r hr j hj e => ?_⟩
                    rcases List.mem_cons.1 hr with rfl | h2
                    · exact hnew p (List.mem_of_mem_take hp) j e hj
                    · have h3 := hold.sets.dis
                      rw [← List.take_append_drop 0 q, List.pairwise_append] at h3
                      exact h3.2.2 p hp r h2 j hj e)
                  (fun j hj p hp e => by
                    rcases hmem p hp with rfl | h
                    · have h1 := HOL.out j e; have h2 := (World.ownsRow.lt hold.tab j hj).2; omega
                    · exact (hold.apart j hj).2 p h e)
                have HQR := Lib.hid (show setsX (q.take 0 ++ ((id, l), .slice an l.length cn) :: q.drop 0) = [(id, l)] by rw [setsX_ins, HQ.out]; rfl)
                try rw [hm9]
                have HST6 := Lib.hid hst
                clear hst ho9 hmem hold hzr hzz hlo hm9
                have d0 := HST6.out.box.three0
                have d1 := HST6.out.box.three1
                have d2 := HST6.out.box.three2
                have r0 := HST6.out.res.three0
                have r1 := HST6.out.res.three1
                have r2 := HST6.out.res.three2
                have f0 := HST6.out.res.frozen 0
                have f1 := HST6.out.res.frozen 1
                have f2 := HST6.out.res.frozen 2
                clear y2 y9 fy9
                go_wp2
                have z := HST6.out.end_
                have z0 : _ = some _ := z.three0
                have z1 : _ = some _ := z.three1
                have z2 : _ = some _ := z.three2
                exact bodyPost_ret (v := .tuple #[.agg #[.int .i64 t, .slice a1 T.length c1, .slice a9 1 c9], .bool true]) (by simp [results, Tryz.results17, go_sem, z0, z1, z2]) rfl (HST6.out.gives (S := [(id, l)]) HQR.out true)
              · skip
                go_simp
                refine hK.out _ _ (fun _ => ⟨yB, s0B, s1B⟩) (fun hH => ?_)
                have hHeld := hH (by decide)
                clear hH
                clear hK K
                (try simp only [Act.put, List.getElem_toArray, List.getElem_cons_succ, List.getElem_cons_zero, List.setIfInBounds_toArray, List.set_cons_zero, List.set_cons_succ])
                refine anyE_one (i := 5) (by kernel_rfl) (anyE_step rfl (fun K hK => ?_))
                refine step_app_row rfl _ _ 25 71 rfl i0 _ 2 32 Tryz.underlying25 hi0 hz0 hz1 hz2 rfl (by decide) wz.heap.size (.slice (some ⟨wz.heap.size, 0, none⟩) 0 0) 0 [] rfl none 0 0 (flatX (q.take 0)) rfl HOB.out HL1.out (HC1.out _ HBB.out) (fun _ => rfl) HO1.out (by unfold maxLen; omega) (by omega) HBB.out.size ?_
                intro v1 w3 ho hg
                rw [Nat.zero_add, List.nil_append] at ho
                have hb3 := HBB.out.grown hg HBB.out.size (fun j hj => by cases hj; simp)
                have HR3 := Lib.hid ho
                have HB3 := Lib.hid hb3
                have y3 := (HSTZ.out.box.below hb3).three2
                have s03 := (HBLK.out.below hb3).two0
                have s13 := (HBLK.out.below hb3).two1
                have HP3 := Lib.hid (HPB.out.grown hg (by simp [Value.ownBlock]))
                clear ho hg hb3
                refine hK.out _ _ (fun _ => ⟨y3, s03, s13⟩) (fun hH => ?_)
                have hHeld := hH (by decide)
                clear hH
                clear hK K
                (try simp only [Act.put, List.getElem_toArray, List.getElem_cons_succ, List.getElem_cons_zero, List.setIfInBounds_toArray, List.set_cons_zero, List.set_cons_succ])
                refine anyE_one (i := 8) (by kernel_rfl) (anyE_step rfl (fun K hK => ?_))
                refine step_ixs rfl _ _ rfl wz.heap.size v1 0 (flatX (q.take 0)) (wz.heap.size + 1) id (.slice an l.length cn) rfl rfl w3.heap.size HR3.out HP3.out rfl (by omega) HB3.out.size rfl ?_
                intro g8 cap8 w8 ho hg hat
                have hb8 := HB3.out.grown hg HB3.out.size (fun j hj => (World.ownsRow.lt HR3.out j hj).1)
                have HR8 := Lib.hid ho
                have HB8 := Lib.hid hb8
                have y8 := (HSTZ.out.box.below hb8).three2
                have s08 := (HBLK.out.below hb8).two0
                have s18 := (HBLK.out.below hb8).two1
                clear ho hg hb8 hat
                refine hK.out _ _ (fun _ => ⟨y8, s08, s18⟩) (fun hH => ?_)
                have hHeld := hH (by decide)
                clear hH
                clear hK K
                (try simp only [Act.put, List.getElem_toArray, List.getElem_cons_succ, List.getElem_cons_zero, List.setIfInBounds_toArray, List.set_cons_zero, List.set_cons_succ])
                refine anyE_one (i := 13) (by kernel_rfl) (anyE_step rfl (fun K hK => ?_))
                refine step_app_row rfl _ _ 25 71 rfl i0 _ 2 32 Tryz.underlying25 hi0 hz0 hz1 hz2 rfl (by decide) wz.heap.size (.slice (some ⟨g8, 0, none⟩) (0 + 1) cap8) (0 + 1) (flatX (q.take 0) ++ [.int .i64 id, .slice an l.length cn]) rfl none 0 0 (flatX (q.drop 0)) rfl HR8.out HL2.out (HC2.out _ HB8.out) (fun _ => rfl) HO2.out (by unfold maxLen; omega) (by omega) HB8.out.size ?_
                intro v9 w9 ho hg
                obtain ⟨a9, c9, rfl⟩ := row_shape ho
                have hb9 := HB8.out.grown hg HB8.out.size (fun j hj => (World.ownsRow.lt HR8.out j hj).1)
                have HR9 := Lib.hid ho
                have HB9 := Lib.hid hb9
                have y9 := (HSTZ.out.box.below hb9).three2
                have fy9 := (HSTZ.out.box.below hb9).frozen 2
                have s09 := (HBLK.out.below hb9).two0
                have s19 := (HBLK.out.below hb9).two1
                clear ho hg hb9
                refine hK.out _ _ (fun _ => ⟨y9, s09, s19⟩) (fun hH => ?_)
                have hHeld := hH (by decide)
                clear hH
                clear hK K
                (try simp only [Act.put, List.getElem_toArray, List.getElem_cons_succ, List.getElem_cons_zero, List.setIfInBounds_toArray, List.set_cons_zero, List.set_cons_succ])
                refine anyE_take (i := 14) (v := ?vz1011) rfl (by kernel_rfl) (by kernel_rfl) (by kernel_rfl) (by kernel_rfl) (by kernel_rfl) (fun _ _ _ h => h) (Or.inl ⟨by kernel_rfl, ?yz1011⟩) (by assumption) ?rz1011
                case yz1011 => (intro w' hSw; (try dsimp only at hSw); go_simp; (try with_reducible rfl))
                (try simp only [Act.put, List.getElem_toArray, List.getElem_cons_succ, List.getElem_cons_zero, List.setIfInBounds_toArray, List.set_cons_zero, List.set_cons_succ])
                refine anyE_one (i := 15) (by kernel_rfl) (anyE_step rfl (fun K hK => ?_))
                go_simp
                refine hK.out _ _ (fun h => absurd rfl h) (fun _ => ?_)
                clear hK K
                (try simp only [Act.put, List.getElem_toArray, List.getElem_cons_succ, List.getElem_cons_zero, List.setIfInBounds_toArray, List.set_cons_zero, List.set_cons_succ])
                refine anyE_done (by kernel_rfl) ?_ _
                refine NoPanic.normal ?_
                have hm9 : 0 + 1 + 0 = 1 := rfl
                have ho9 := HR9.out
                rw [hm9, List.append_assoc, List.cons_append, List.cons_append, List.nil_append, ← flatX_cons ((id, l), .slice an l.length cn), ← flatX_append] at ho9
                have hmem : ∀ p ∈ q.take 0 ++ ((id, l), .slice an l.length cn) :: q.drop 0, p = ((id, l), .slice an l.length cn) ∨ p ∈ q := fun p hp => by
                  rcases List.mem_append.1 hp with h1 | h1
                  · exact .inr (List.mem_of_mem_take h1)
                  · rcases List.mem_cons.1 h1 with h2 | h2
                    · exact .inl h2
                    · exact .inr (List.mem_of_mem_drop h2)
                have hold := HST.out
                have hzr := HZR.out
                have hzz := HZZ.out
                have hlo : w.heap.size + 1 + 1 ≤ wr.heap.size := hold.res.lt
                have hst := HSTZ.out.fresh HB9.out ho9 (by rw [List.length_append, List.length_take, List.length_cons, List.length_drop]; have := HQL.out; omega)
                  (fun p hp => by rcases hmem p hp with rfl | h; exact (HONZ.out.below HB9.out).mono hlo; exact (HSTZ.out.sets.row p h).below HB9.out)
                  (fun p hp j hj => by
                    rcases hmem p hp with rfl | h
                    · have h1 := HOL.out j hj; have h2 := hold.box.lt; exact ⟨by omega, by omega⟩
                    · exact ⟨(World.ownsRow.lt (HSTZ.out.sets.row p h) j hj).2, fun e => by subst e; exact HSTZ.out.nbQ p h hj⟩)
                  (by
                    rw [List.pairwise_append]
                    have hnew : ∀ p ∈ q, ∀ j, (Value.slice an l.length cn).ownBlock = some j → p.2.ownBlock ≠ some j := fun p hp j hj e => by have h1 := HOL.out j hj; have h2 := (World.ownsRow.lt (hold.sets.row p hp) j e).2; omega
                    refine ⟨hold.sets.dis.sublist (List.take_sublist _ _), List.Pairwise.cons (fun p hp j hj e => hnew p (List.mem_of_mem_drop hp) j hj e) (hold.sets.dis.sublist (List.drop_sublist _ _)), fun p hp r hr j hj e => ?_⟩
                    rcases List.mem_cons.1 hr with rfl | h2
                    · exact hnew p (List.mem_of_mem_take hp) j e hj
                    · have h3 := hold.sets.dis
                      rw [← List.take_append_drop 0 q, List.pairwise_append] at h3
                      exact h3.2.2 p hp r h2 j hj e)
                  (fun j hj p hp e => by
                    rcases hmem p hp with rfl | h
                    · have h1 := HOL.out j e; have h2 := (World.ownsRow.lt hold.tab j hj).2; omega
                    · exact (hold.apart j hj).2 p h e)
                have HQR := Lib.hid (show setsX (q.take 0 ++ ((id, l), .slice an l.length cn) :: q.drop 0) = [(id, l)] by rw [setsX_ins, HQ.out]; rfl)
                try rw [hm9]
                have HST6 := Lib.hid hst
                clear hst ho9 hmem hold hzr hzz hlo hm9
                have d0 := HST6.out.box.three0
                have d1 := HST6.out.box.three1
                have d2 := HST6.out.box.three2
                have r0 := HST6.out.res.three0
                have r1 := HST6.out.res.three1
                have r2 := HST6.out.res.three2
                have f0 := HST6.out.res.frozen 0
                have f1 := HST6.out.res.frozen 1
                have f2 := HST6.out.res.frozen 2
                clear y2 y9 fy9
                go_wp2
                have z := HST6.out.end_
                have z0 : _ = some _ := z.three0
                have z1 : _ = some _ := z.three1
                have z2 : _ = some _ := z.three2
                exact bodyPost_ret (v := .tuple #[.agg #[.int .i64 t, .slice a1 T.length c1, .slice a9 1 c9], .bool true]) (by simp [results, Tryz.results17, go_sem, z0, z1, z2]) rfl (HST6.out.gives (S := [(id, l)]) HQR.out true)
            · skip
              go_simp
              refine hK.out _ _ (fun _ => ⟨yV, s0V, s1V⟩) (fun hH => ?_)
              have hHeld := hH (by decide)
              clear hH
              clear hK K
              (try simp only [Act.put, List.getElem_toArray, List.getElem_cons_succ, List.getElem_cons_zero, List.setIfInBounds_toArray, List.set_cons_zero, List.set_cons_succ])
              refine anyE_one (i := 0) (by kernel_rfl) (anyE_step rfl (fun K hK => ?_))
              go_simp
              refine hK.out _ _ (fun _ => ⟨yC, s0C, s1C⟩) (fun hH => ?_)
              have hHeld := hH (by decide)
              clear hH
              clear hK K
              (try simp only [Act.put, List.getElem_toArray, List.getElem_cons_succ, List.getElem_cons_zero, List.setIfInBounds_toArray, List.set_cons_zero, List.set_cons_succ])
              refine anyE_one (i := 5) (by kernel_rfl) (anyE_step rfl (fun K hK => ?_))
              refine step_app_row rfl _ _ 25 71 rfl i0 _ 2 32 Tryz.underlying25 hi0 hz0 hz1 hz2 rfl (by decide) wz.heap.size (.slice (some ⟨(wz.heap.size + 1), 0, none⟩) 0 0) 0 [] rfl none 0 0 (flatX (q.take 0)) rfl HOC.out HL1.out (HC1.out _ HBC.out) (fun _ => rfl) HO1.out (by unfold maxLen; omega) (by omega) HBC.out.size ?_
              intro v1 w3 ho hg
              rw [Nat.zero_add, List.nil_append] at ho
              have hb3 := HBC.out.grown hg HBC.out.size (fun j hj => by cases hj; simp)
              have HR3 := Lib.hid ho
              have HB3 := Lib.hid hb3
              have y3 := (HSTZ.out.box.below hb3).three2
              have s03 := (HBLK.out.below hb3).two0
              have s13 := (HBLK.out.below hb3).two1
              have HP3 := Lib.hid (HPC.out.grown hg (by simp [Value.ownBlock]))
              clear ho hg hb3
              refine hK.out _ _ (fun _ => ⟨y3, s03, s13⟩) (fun hH => ?_)
              have hHeld := hH (by decide)
              clear hH
              clear hK K
              (try simp only [Act.put, List.getElem_toArray, List.getElem_cons_succ, List.getElem_cons_zero, List.setIfInBounds_toArray, List.set_cons_zero, List.set_cons_succ])
              refine anyE_one (i := 8) (by kernel_rfl) (anyE_step rfl (fun K hK => ?_))
              refine step_ixs rfl _ _ rfl wz.heap.size v1 0 (flatX (q.take 0)) wz.heap.size id (.slice an l.length cn) rfl rfl w3.heap.size HR3.out HP3.out rfl (by omega) HB3.out.size rfl ?_
              intro g8 cap8 w8 ho hg hat
              have hb8 := HB3.out.grown hg HB3.out.size (fun j hj => (World.ownsRow.lt HR3.out j hj).1)
              have HR8 := Lib.hid ho
              have HB8 := Lib.hid hb8
              have y8 := (HSTZ.out.box.below hb8).three2
              have s08 := (HBLK.out.below hb8).two0
              have s18 := (HBLK.out.below hb8).two1
              clear ho hg hb8 hat
              refine hK.out _ _ (fun _ => ⟨y8, s08, s18⟩) (fun hH => ?_)
              have hHeld := hH (by decide)
              clear hH
              clear hK K
              (try simp only [Act.put, List.getElem_toArray, List.getElem_cons_succ, List.getElem_cons_zero, List.setIfInBounds_toArray, List.set_cons_zero, List.set_cons_succ])
              refine anyE_one (i := 13) (by kernel_rfl) (anyE_step rfl (fun K hK => ?_))
              refine step_app_row rfl _ _ 25 71 rfl i0 _ 2 32 Tryz.underlying25 hi0 hz0 hz1 hz2 rfl (by decide) wz.heap.size (.slice (some ⟨g8, 0, none⟩) (0 + 1) cap8) (0 + 1) (flatX (q.take 0) ++ [.int .i64 id, .slice an l.length cn]) rfl none 0 0 (flatX (q.drop 0)) rfl HR8.out HL2.out (HC2.out _ HB8.out) (fun _ => rfl) HO2.out (by unfold maxLen; omega) (by omega) HB8.out.size ?_
              intro v9 w9 ho hg
              obtain ⟨a9, c9, rfl⟩ := row_shape ho
              have hb9 := HB8.out.grown hg HB8.out.size (fun j hj => (World.ownsRow.lt HR8.out j hj).1)
              have HR9 := Lib.hid ho
              have HB9 := Lib.hid hb9
              have y9 := (HSTZ.out.box.below hb9).three2
              have fy9 := (HSTZ.out.box.below hb9).frozen 2
              have s09 := (HBLK.out.below hb9).two0
              have s19 := (HBLK.out.below hb9).two1
              clear ho hg hb9
              refine hK.out _ _ (fun _ => ⟨y9, s09, s19⟩) (fun hH => ?_)
              have hHeld := hH (by decide)
              clear hH
              clear hK K
              (try simp only [Act.put, List.getElem_toArray, List.getElem_cons_succ, List.getElem_cons_zero, List.setIfInBounds_toArray, List.set_cons_zero, List.set_cons_succ])
              refine anyE_take (i := 14) (v := ?vz1012) rfl (by kernel_rfl) (by kernel_rfl) (by kernel_rfl) (by kernel_rfl) (by kernel_rfl) (fun _ _ _ h => h) (Or.inl ⟨by kernel_rfl, ?yz1012⟩) (by assumption) ?rz1012
              case yz1012 => (intro w' hSw; (try dsimp only at hSw); go_simp; (try with_reducible rfl))
              (try simp only [Act.put, List.getElem_toArray, List.getElem_cons_succ, List.getElem_cons_zero, List.setIfInBounds_toArray, List.set_cons_zero, List.set_cons_succ])
              refine anyE_one (i := 15) (by kernel_rfl) (anyE_step rfl (fun K hK => ?_))
              go_simp
              refine hK.out _ _ (fun h => absurd rfl h) (fun _ => ?_)
              clear hK K
              (try simp only [Act.put, List.getElem_toArray, List.getElem_cons_succ, List.getElem_cons_zero, List.setIfInBounds_toArray, List.set_cons_zero, List.set_cons_succ])
              refine anyE_done (by kernel_rfl) ?_ _
              refine NoPanic.normal ?_
              have hm9 : 0 + 1 + 0 = 1 := rfl
              have ho9 := HR9.out
              rw [hm9, List.append_assoc, List.cons_append, List.cons_append, List.nil_append, ← flatX_cons ((id, l), .slice an l.length cn), ← flatX_append] at ho9
              have hmem : ∀ p ∈ q.take 0 ++ ((id, l), .slice an l.length cn) :: q.drop 0, p = ((id, l), .slice an l.length cn) ∨ p ∈ q := fun p hp => by
                rcases List.mem_append.1 hp with h1 | h1
                · exact .inr (List.mem_of_mem_take h1)
                · rcases List.mem_cons.1 h1 with h2 | h2
                  · exact .inl h2
                  · exact .inr (List.mem_of_mem_drop h2)
              have hold := HST.out
              have hzr := HZR.out
              have hzz := HZZ.out
              have hlo : w.heap.size + 1 + 1 ≤ wr.heap.size := hold.res.lt
              have hst := HSTZ.out.fresh HB9.out ho9 (by rw [List.length_append, List.length_take, List.length_cons, List.length_drop]; have := HQL.out; omega)
                (fun p hp => by rcases hmem p hp with rfl | h; exact (HONZ.out.below HB9.out).mono hlo; exact (HSTZ.out.sets.row p h).below HB9.out)
                (fun p hp j hj => by
                  rcases hmem p hp with rfl | h
                  · have h1 := HOL.out j hj; have h2 := hold.box.lt; exact ⟨by omega, by omega⟩
                  · exact ⟨(World.ownsRow.lt (HSTZ.out.sets.row p h) j hj).2, fun e => by subst e; exact HSTZ.out.nbQ p h hj⟩)
                (by
                  rw [List.pairwise_append]
                  have hnew : ∀ p ∈ q, ∀ j, (Value.slice an l.length cn).ownBlock = some j → p.2.ownBlock ≠ some j := fun p hp j hj e => by have h1 := HOL.out j hj; have h2 := (World.ownsRow.lt (hold.sets.row p hp) j e).2; omega
                  refine ⟨hold.sets.dis.sublist (List.take_sublist _ _), List.Pairwise.cons (fun p hp j hj e => hnew p (List.mem_of_mem_drop hp) j hj e) (hold.sets.dis.sublist (List.drop_sublist _ _)), fun p hp r hr j hj e => ?_⟩
                  rcases List.mem_cons.1 hr with rfl | h2
                  · exact hnew p (List.mem_of_mem_take hp) j e hj
                  · have h3 := hold.sets.dis
                    rw [← List.take_append_drop 0 q, List.pairwise_append] at h3
                    exact h3.2.2 p hp r h2 j hj e)
                (fun j hj p hp e => by
                  rcases hmem p hp with rfl | h
                  · have h1 := HOL.out j e; have h2 := (World.ownsRow.lt hold.tab j hj).2; omega
                  · exact (hold.apart j hj).2 p h e)
              have HQR := Lib.hid (show setsX (q.take 0 ++ ((id, l), .slice an l.length cn) :: q.drop 0) = [(id, l)] by rw [setsX_ins, HQ.out]; rfl)
              try rw [hm9]
              have HST6 := Lib.hid hst
              clear hst ho9 hmem hold hzr hzz hlo hm9
              have d0 := HST6.out.box.three0
              have d1 := HST6.out.box.three1
              have d2 := HST6.out.box.three2
              have r0 := HST6.out.res.three0
              have r1 := HST6.out.res.three1
              have r2 := HST6.out.res.three2
              have f0 := HST6.out.res.frozen 0
              have f1 := HST6.out.res.frozen 1
              have f2 := HST6.out.res.frozen 2
              clear y2 y9 fy9
              go_wp2
              have z := HST6.out.end_
              have z0 : _ = some _ := z.three0
              have z1 : _ = some _ := z.three1
              have z2 : _ = some _ := z.three2
              exact bodyPost_ret (v := .tuple #[.agg #[.int .i64 t, .slice a1 T.length c1, .slice a9 1 c9], .bool true]) (by simp [results, Tryz.results17, go_sem, z0, z1, z2]) rfl (HST6.out.gives (S := [(id, l)]) HQR.out true)
          · injection hv0 with e1 e2 e3
            subst e1 e3
            clear hown0 e2 hbg
            go_wp2_with (at_builtin; refine wpList_app_row rfl _ _ 28 9 rfl is _ 1 16 Tryz.underlying28 his hzs0 hzs1 hzs2 rfl (by decide) wr.heap.size _ 0 [] rfl (World.ownsRow_made wr #[] 0 (Nat.le_refl _) (Nat.zero_le _) (by simp)) la l.length lc (l.map encStr) rfl (by simp) (HCS.out.below ((Below.refl _ _).alloc (Nat.le_refl _) _)) HSM.out.2.1 (fun u hu => by obtain ⟨x, _, rfl⟩ := List.mem_map.1 hu; rfl) (by unfold maxLen; omega) (by omega) (by simp) ?_; intro v' w7 ho hg; refine Hid.out ?_)
            rw [Nat.zero_add, List.nil_append] at ho
            have hb7 : Below wr.heap.size wr w7 := ((Below.refl _ wr).alloc (Nat.le_refl _) _).grown hg (by simp) (by intro k hk; cases hk; exact Nat.le_refl _)
            have hos : OwnS w7 wr.heap.size v' l := ho
            obtain ⟨an, cn, rfl⟩ := hos.shape
            obtain ⟨wz, hwz⟩ : ∃ wz, wz = w7.alloc (.cells #[.int .i64 id, .slice an l.length cn] 71) := ⟨_, rfl⟩
            have hbz : Below w7.heap.size w7 wz := by rw [hwz]; exact (Below.refl _ _).alloc (Nat.le_refl _) _
            obtain ⟨Bs, hBs⟩ : ∃ Bs, Bs = w7.heap.size := ⟨_, rfl⟩
            have hblk : BlkV wz Bs 71 #[.int .i64 id, .slice an l.length cn] := by rw [hwz, hBs]; exact BlkV.new _ _ _
            have HBLK := Lib.hid hblk
            have HWZ := Lib.hid hwz
            have HOL := Lib.hid (fun j hj => World.ownsRow.lt hos j hj)
            have HONZ := Lib.hid (OwnS.below hos hbz)
            have HSTZ := Lib.hid (HST.out.below_ (hb7.trans (hbz.mono hb7.size)))
            have HZR := Lib.hid (show wr.heap.size ≤ w7.heap.size from hb7.size)
            have HZZ := Lib.hid (show wz.heap.size = w7.heap.size + 1 by rw [hwz]; simp)
            have hown := HSTZ.out.sets.out
            rw [HQL.out] at hown
            have HCQ := Lib.hid (fun (W : World) (hW : Below wz.heap.size wz W) => (cells_row hown).below hW)
            have hone := HSTZ.out.sets.one
            obtain ⟨A, hA⟩ : ∃ A : Addr, (if c2 = S.length then (⟨gq, 0, none⟩ : Addr) else ⟨gq, S.length * 2, none⟩) = A := ⟨_, rfl⟩
            have HC1 := Lib.hid (fun (W : World) (hW : Below wz.heap.size wz W) => (show CellsAt W (some ⟨gq, 0, none⟩) (flatX (q.take S.length)) by rw [← flatX_take]; exact cells_take (HCQ.out W hW) _))
            have HC2 := Lib.hid (fun (W : World) (hW : Below wz.heap.size wz W) => (show CellsAt W (some A) (flatX (q.drop S.length)) from fun h0 => by rw [flatX_len, List.length_drop] at h0; have := HQL.out; omega))
            have hcA : (if c2 = S.length then (some ⟨gq, 0, none⟩ : Option Addr) else some ⟨gq, S.length * 2, none⟩) = some A := by rw [← hA]; split <;> rfl
            have HL1 := Lib.hid (show (flatX (q.take S.length)).length = S.length * 2 by rw [flatX_len, List.length_take]; have := HQL.out; omega)
            have HL2 := Lib.hid (show (flatX (q.drop S.length)).length = 0 * 2 by rw [flatX_len, List.length_drop]; have := HQL.out; omega)
            have HO1 := Lib.hid (show ∀ u ∈ flatX (q.take S.length), u.oneCell' = true by rw [← flatX_take]; exact fun u hu => hone u (List.mem_of_mem_take hu))
            have HO2 := Lib.hid (show ∀ u ∈ flatX (q.drop S.length), u.oneCell' = true by rw [← flatX_drop]; exact fun u hu => hone u (List.mem_of_mem_drop hu))
            have hbA := (Below.refl wz.heap.size wz).alloc (Nat.le_refl _) (.cells #[] 71)
            have hbB := ((Below.refl wz.heap.size wz).alloc (Nat.le_refl _) (.cells #[] 71)).alloc (by simp) (.cells #[.int .i64 id, .slice an l.length cn] 71)
            have hbC := ((Below.refl wz.heap.size wz).alloc (Nat.le_refl _) (.cells #[.int .i64 id, .slice an l.length cn] 71)).alloc (by simp) (.cells #[] 71)
            have hbV := (Below.refl wz.heap.size wz).alloc (Nat.le_refl _) (.cells #[.int .i64 id, .slice an l.length cn] 71)
            have HBA := Lib.hid hbA.drew
            have HBB := Lib.hid hbB.drew
            have HBC := Lib.hid hbC.drew
            have HOA := Lib.hid (show ((wz.alloc (.cells #[] 71)).drew).ownsRow wz.heap.size 71 2 (.slice (some ⟨wz.heap.size, 0, none⟩) 0 0) 0 [] from World.ownsRow_made wz #[] 0 (Nat.le_refl _) (Nat.zero_le _) (by simp))
            have HOB := Lib.hid (show (((wz.alloc (.cells #[] 71)).alloc (.cells #[.int .i64 id, .slice an l.length cn] 71)).drew).ownsRow wz.heap.size 71 2 (.slice (some ⟨wz.heap.size, 0, none⟩) 0 0) 0 [] from World.ownsRow.alloc (World.ownsRow_made wz #[] 0 (Nat.le_refl _) (Nat.zero_le _) (by simp)) _)
            have HOC := Lib.hid (show (((wz.alloc (.cells #[.int .i64 id, .slice an l.length cn] 71)).alloc (.cells #[] 71)).drew).ownsRow wz.heap.size 71 2 (.slice (some ⟨wz.heap.size + 1, 0, none⟩) 0 0) 0 [] from ownsRow_made_at (wz.alloc (.cells #[.int .i64 id, .slice an l.length cn] 71)) wz.heap.size (wz.heap.size + 1) (by simp) (by omega))
            have HPB := Lib.hid (show BlkV (((wz.alloc (.cells #[] 71)).alloc (.cells #[.int .i64 id, .slice an l.length cn] 71)).drew) (wz.heap.size + 1) 71 #[.int .i64 id, .slice an l.length cn] from BlkV.new_ _ _ _ _ (by simp))
            have HPC := Lib.hid (show BlkV (((wz.alloc (.cells #[.int .i64 id, .slice an l.length cn] 71)).alloc (.cells #[] 71)).drew) wz.heap.size 71 #[.int .i64 id, .slice an l.length cn] from (BlkV.new wz _ _).alloc _)
            have y2 := HSTZ.out.box.three2
            have s0 := HBLK.out.two0
            have s1 := HBLK.out.two1
            have yA : ((wz.alloc (.cells #[] 71)).drew).cell? ⟨BY, 2, none⟩ = some (.slice (some ⟨gq, 0, none⟩) S.length c2) := (HSTZ.out.box.below hbA).three2
            have s0A : ((wz.alloc (.cells #[] 71)).drew).cell? ⟨Bs, 0, none⟩ = some (.int .i64 id) := (HBLK.out.below hbA).two0
            have s1A : ((wz.alloc (.cells #[] 71)).drew).cell? ⟨Bs, 1, none⟩ = some (.slice an l.length cn) := (HBLK.out.below hbA).two1
            have yB : (((wz.alloc (.cells #[] 71)).alloc (.cells #[.int .i64 id, .slice an l.length cn] 71)).drew).cell? ⟨BY, 2, none⟩ = some (.slice (some ⟨gq, 0, none⟩) S.length c2) := (HSTZ.out.box.below hbB).three2
            have s0B : (((wz.alloc (.cells #[] 71)).alloc (.cells #[.int .i64 id, .slice an l.length cn] 71)).drew).cell? ⟨Bs, 0, none⟩ = some (.int .i64 id) := (HBLK.out.below hbB).two0
            have s1B : (((wz.alloc (.cells #[] 71)).alloc (.cells #[.int .i64 id, .slice an l.length cn] 71)).drew).cell? ⟨Bs, 1, none⟩ = some (.slice an l.length cn) := (HBLK.out.below hbB).two1
            have yC : (((wz.alloc (.cells #[.int .i64 id, .slice an l.length cn] 71)).alloc (.cells #[] 71)).drew).cell? ⟨BY, 2, none⟩ = some (.slice (some ⟨gq, 0, none⟩) S.length c2) := (HSTZ.out.box.below hbC).three2
            have s0C : (((wz.alloc (.cells #[.int .i64 id, .slice an l.length cn] 71)).alloc (.cells #[] 71)).drew).cell? ⟨Bs, 0, none⟩ = some (.int .i64 id) := (HBLK.out.below hbC).two0
            have s1C : (((wz.alloc (.cells #[.int .i64 id, .slice an l.length cn] 71)).alloc (.cells #[] 71)).drew).cell? ⟨Bs, 1, none⟩ = some (.slice an l.length cn) := (HBLK.out.below hbC).two1
            have yV : ((wz.alloc (.cells #[.int .i64 id, .slice an l.length cn] 71)).drew).cell? ⟨BY, 2, none⟩ = some (.slice (some ⟨gq, 0, none⟩) S.length c2) := (HSTZ.out.box.below hbV).three2
            have s0V : ((wz.alloc (.cells #[.int .i64 id, .slice an l.length cn] 71)).drew).cell? ⟨Bs, 0, none⟩ = some (.int .i64 id) := (HBLK.out.below hbV).two0
            have s1V : ((wz.alloc (.cells #[.int .i64 id, .slice an l.length cn] 71)).drew).cell? ⟨Bs, 1, none⟩ = some (.slice an l.length cn) := (HBLK.out.below hbV).two1
            have hk1 : (S.length : Int) ≤ (c2 : Int) := by have := rowX_cap hown; omega
            clear ho hg hb7 hos hbz hblk hone hwz hown hbA hbB hbC hbV
            refine Lib.hid ?_
            go_wp2_with (fail)
            rw [← HWZ.out, ← hBs]
            clear hBs
            refine wp_region_noPanic ?_
            refine wp_region_E (S := fun w' => w'.cell? ⟨BY, 2, none⟩ = some (.slice (some ⟨gq, 0, none⟩) S.length c2) ∧ w'.cell? ⟨Bs, 0, none⟩ = some (.int .i64 id) ∧ w'.cell? ⟨Bs, 1, none⟩ = some (.slice an l.length cn)) 15 (by kernel_rfl) (⟨y2, s0, s1⟩) (fun hHeld => ?_)
            refine anyE_take (i := 1) (v := ?vz13) rfl (by kernel_rfl) (by kernel_rfl) (by kernel_rfl) (by kernel_rfl) (by kernel_rfl) (fun _ _ _ h => h) (Or.inl ⟨by kernel_rfl, ?yz13⟩) (by assumption) ?rz13
            case yz13 => (intro w' hSw; (try dsimp only at hSw); go_simp; (try with_reducible rfl))
            (try simp only [Act.put, List.getElem_toArray, List.getElem_cons_succ, List.getElem_cons_zero, List.setIfInBounds_toArray, List.set_cons_zero, List.set_cons_succ])
            refine anyE_take (i := 2) (v := ?vz14) rfl (by kernel_rfl) (by kernel_rfl) (by kernel_rfl) (by kernel_rfl) (by kernel_rfl) (fun _ _ _ h => h) (Or.inl ⟨by kernel_rfl, ?yz14⟩) (by assumption) ?rz14
            case yz14 => (intro w' hSw; (try dsimp only at hSw); go_simp; (try with_reducible rfl))
            (try simp only [Act.put, List.getElem_toArray, List.getElem_cons_succ, List.getElem_cons_zero, List.setIfInBounds_toArray, List.set_cons_zero, List.set_cons_succ])
            refine anyE_take (i := 3) (v := ?vz15) rfl (by kernel_rfl) (by kernel_rfl) (by kernel_rfl) (by kernel_rfl) (by kernel_rfl) (fun _ _ _ h => h) (Or.inl ⟨by kernel_rfl, ?yz15⟩) (by assumption) ?rz15
            case yz15 => (intro w' hSw; (try dsimp only at hSw); go_simp; (try with_reducible rfl))
            (try simp only [Act.put, List.getElem_toArray, List.getElem_cons_succ, List.getElem_cons_zero, List.setIfInBounds_toArray, List.set_cons_zero, List.set_cons_succ])
            refine anyE_take (i := 4) (v := ?vz16) rfl (by kernel_rfl) (by kernel_rfl) (by kernel_rfl) (by kernel_rfl) (by kernel_rfl) (fun _ _ _ h => h) (Or.inl ⟨by kernel_rfl, ?yz16⟩) (by assumption) ?rz16
            case yz16 => (intro w' hSw; (try dsimp only at hSw); go_simp; (try with_reducible rfl))
            (try simp only [Act.put, List.getElem_toArray, List.getElem_cons_succ, List.getElem_cons_zero, List.setIfInBounds_toArray, List.set_cons_zero, List.set_cons_succ])
            refine anyE_take (i := 6) (v := ?vz17) rfl (by kernel_rfl) (by kernel_rfl) (by kernel_rfl) (by kernel_rfl) (by kernel_rfl) (fun _ _ _ h => h) (Or.inl ⟨by kernel_rfl, ?yz17⟩) (by assumption) ?rz17
            case yz17 => (intro w' hSw; (try dsimp only at hSw); go_simp; (try with_reducible rfl))
            (try simp only [Act.put, List.getElem_toArray, List.getElem_cons_succ, List.getElem_cons_zero, List.setIfInBounds_toArray, List.set_cons_zero, List.set_cons_succ])
            refine anyE_take (i := 9) (v := ?vz18) rfl (by kernel_rfl) (by kernel_rfl) (by kernel_rfl) (by kernel_rfl) (by kernel_rfl) (fun _ _ _ h => h) (Or.inl ⟨by kernel_rfl, ?yz18⟩) (by assumption) ?rz18
            case yz18 => (intro w' hSw; (try dsimp only at hSw); go_simp; (try with_reducible rfl))
            (try simp only [Act.put, List.getElem_toArray, List.getElem_cons_succ, List.getElem_cons_zero, List.setIfInBounds_toArray, List.set_cons_zero, List.set_cons_succ])
            refine anyE_take (i := 10) (v := ?vz19) rfl (by kernel_rfl) (by kernel_rfl) (by kernel_rfl) (by kernel_rfl) (by kernel_rfl) (fun _ _ _ h => h) (Or.inl ⟨by kernel_rfl, ?yz19⟩) (by assumption) ?rz19
            case yz19 => (intro w' hSw; (try dsimp only at hSw); go_simp; (try with_reducible rfl))
            (try simp only [Act.put, List.getElem_toArray, List.getElem_cons_succ, List.getElem_cons_zero, List.setIfInBounds_toArray, List.set_cons_zero, List.set_cons_succ])
            refine anyE_take (i := 11) (v := ?vz20) rfl (by kernel_rfl) (by kernel_rfl) (by kernel_rfl) (by kernel_rfl) (by kernel_rfl) (fun _ _ _ h => h) (Or.inl ⟨by kernel_rfl, ?yz20⟩) (by assumption) ?rz20
            case yz20 => (intro w' hSw; (try dsimp only at hSw); go_simp; (try with_reducible rfl))
            (try simp only [Act.put, List.getElem_toArray, List.getElem_cons_succ, List.getElem_cons_zero, List.setIfInBounds_toArray, List.set_cons_zero, List.set_cons_succ])
            refine anyE_take (i := 12) (v := ?vz21) rfl (by kernel_rfl) (by kernel_rfl) (by kernel_rfl) (by kernel_rfl) (by kernel_rfl) (fun _ _ _ h => h) (Or.inl ⟨by kernel_rfl, ?yz21⟩) (by assumption) ?rz21
            case yz21 => (intro w' hSw; (try dsimp only at hSw); go_simp; (try with_reducible rfl))
            (try simp only [Act.put, List.getElem_toArray, List.getElem_cons_succ, List.getElem_cons_zero, List.setIfInBounds_toArray, List.set_cons_zero, List.set_cons_succ])
            refine anyE_two (i := 0) (j := 7) (by kernel_rfl) (anyE_step rfl (fun K hK => ?_)) (anyE_step rfl (fun K hK => ?_))
            · skip
              go_simp
              refine hK.out _ _ (fun _ => ⟨yA, s0A, s1A⟩) (fun hH => ?_)
              have hHeld := hH (by decide)
              clear hH
              clear hK K
              (try simp only [Act.put, List.getElem_toArray, List.getElem_cons_succ, List.getElem_cons_zero, List.setIfInBounds_toArray, List.set_cons_zero, List.set_cons_succ])
              refine anyE_two (i := 5) (j := 7) (by kernel_rfl) (anyE_step rfl (fun K hK => ?_)) (anyE_step rfl (fun K hK => ?_))
              · skip
                refine step_app_row rfl _ _ 25 71 rfl i0 _ 2 32 Tryz.underlying25 hi0 hz0 hz1 hz2 rfl (by decide) wz.heap.size (.slice (some ⟨wz.heap.size, 0, none⟩) 0 0) 0 [] rfl (some ⟨gq, 0, none⟩) S.length c2 (flatX (q.take S.length)) rfl HOA.out HL1.out (HC1.out _ HBA.out) nofun HO1.out (by unfold maxLen; omega) (by omega) HBA.out.size ?_
                intro v1 w3 ho hg
                rw [Nat.zero_add, List.nil_append] at ho
                have hb3 := HBA.out.grown hg HBA.out.size (fun j hj => by cases hj; simp)
                have HR3 := Lib.hid ho
                have HB3 := Lib.hid hb3
                have y3 := (HSTZ.out.box.below hb3).three2
                have s03 := (HBLK.out.below hb3).two0
                have s13 := (HBLK.out.below hb3).two1
                have hv3 := (Below.refl w3.heap.size w3).alloc (Nat.le_refl _) (.cells #[.int .i64 id, .slice an l.length cn] 71)
                have HB3V := Lib.hid (hb3.trans (hv3.mono hb3.size))
                have HR3V := Lib.hid (World.ownsRow.alloc ho (.cells #[.int .i64 id, .slice an l.length cn] 71))
                have HP3 := Lib.hid (BlkV.new w3 71 #[.int .i64 id, .slice an l.length cn])
                have HZ3 := Lib.hid (show (w3.alloc (.cells #[.int .i64 id, .slice an l.length cn] 71)).heap.size = w3.heap.size + 1 by simp)
                have y3v := (HSTZ.out.box.below HB3V.out).three2
                have s03v := (HBLK.out.below HB3V.out).two0
                have s13v := (HBLK.out.below HB3V.out).two1
                clear hv3
                clear ho hg hb3
                refine hK.out _ _ (fun _ => ⟨y3, s03, s13⟩) (fun hH => ?_)
                have hHeld := hH (by decide)
                clear hH
                clear hK K
                (try simp only [Act.put, List.getElem_toArray, List.getElem_cons_succ, List.getElem_cons_zero, List.setIfInBounds_toArray, List.set_cons_zero, List.set_cons_succ])
                refine anyE_one (i := 7) (by kernel_rfl) (anyE_step rfl (fun K hK => ?_))
                go_simp
                refine hK.out _ _ (fun _ => ⟨y3v, s03v, s13v⟩) (fun hH => ?_)
                have hHeld := hH (by decide)
                clear hH
                clear hK K
                (try simp only [Act.put, List.getElem_toArray, List.getElem_cons_succ, List.getElem_cons_zero, List.setIfInBounds_toArray, List.set_cons_zero, List.set_cons_succ])
                refine anyE_one (i := 8) (by kernel_rfl) (anyE_step rfl (fun K hK => ?_))
                refine step_ixs rfl _ _ rfl wz.heap.size v1 S.length (flatX (q.take S.length)) w3.heap.size id (.slice an l.length cn) rfl rfl (w3.heap.size + 1) HR3V.out HP3.out rfl (by omega) HB3V.out.size HZ3.out ?_
                intro g8 cap8 w8 ho hg hat
                have hb8 := HB3V.out.grown hg HB3V.out.size (fun j hj => (World.ownsRow.lt HR3.out j hj).1)
                have HR8 := Lib.hid ho
                have HB8 := Lib.hid hb8
                have y8 := (HSTZ.out.box.below hb8).three2
                have s08 := (HBLK.out.below hb8).two0
                have s18 := (HBLK.out.below hb8).two1
                clear ho hg hb8 hat
                refine hK.out _ _ (fun _ => ⟨y8, s08, s18⟩) (fun hH => ?_)
                have hHeld := hH (by decide)
                clear hH
                clear hK K
                (try simp only [Act.put, List.getElem_toArray, List.getElem_cons_succ, List.getElem_cons_zero, List.setIfInBounds_toArray, List.set_cons_zero, List.set_cons_succ])
                refine anyE_one (i := 13) (by kernel_rfl) (anyE_step rfl (fun K hK => ?_))
                refine step_app_row rfl _ _ 25 71 rfl i0 _ 2 32 Tryz.underlying25 hi0 hz0 hz1 hz2 rfl (by decide) wz.heap.size (.slice (some ⟨g8, 0, none⟩) (S.length + 1) cap8) (S.length + 1) (flatX (q.take S.length) ++ [.int .i64 id, .slice an l.length cn]) rfl (some A) 0 (c2 - S.length) (flatX (q.drop S.length)) rfl HR8.out HL2.out (HC2.out _ HB8.out) nofun HO2.out (by unfold maxLen; omega) (by omega) HB8.out.size ?_
                intro v9 w9 ho hg
                obtain ⟨a9, c9, rfl⟩ := row_shape ho
                have hb9 := HB8.out.grown hg HB8.out.size (fun j hj => (World.ownsRow.lt HR8.out j hj).1)
                have HR9 := Lib.hid ho
                have HB9 := Lib.hid hb9
                have y9 := (HSTZ.out.box.below hb9).three2
                have fy9 := (HSTZ.out.box.below hb9).frozen 2
                have s09 := (HBLK.out.below hb9).two0
                have s19 := (HBLK.out.below hb9).two1
                clear ho hg hb9
                refine hK.out _ _ (fun _ => ⟨y9, s09, s19⟩) (fun hH => ?_)
                have hHeld := hH (by decide)
                clear hH
                clear hK K
                (try simp only [Act.put, List.getElem_toArray, List.getElem_cons_succ, List.getElem_cons_zero, List.setIfInBounds_toArray, List.set_cons_zero, List.set_cons_succ])
                refine anyE_take (i := 14) (v := ?vz22) rfl (by kernel_rfl) (by kernel_rfl) (by kernel_rfl) (by kernel_rfl) (by kernel_rfl) (fun _ _ _ h => h) (Or.inl ⟨by kernel_rfl, ?yz22⟩) (by assumption) ?rz22
                case yz22 => (intro w' hSw; (try dsimp only at hSw); go_simp; (try with_reducible rfl))
                (try simp only [Act.put, List.getElem_toArray, List.getElem_cons_succ, List.getElem_cons_zero, List.setIfInBounds_toArray, List.set_cons_zero, List.set_cons_succ])
                refine anyE_one (i := 15) (by kernel_rfl) (anyE_step rfl (fun K hK => ?_))
                go_simp
                refine hK.out _ _ (fun h => absurd rfl h) (fun _ => ?_)
                clear hK K
                (try simp only [Act.put, List.getElem_toArray, List.getElem_cons_succ, List.getElem_cons_zero, List.setIfInBounds_toArray, List.set_cons_zero, List.set_cons_succ])
                refine anyE_done (by kernel_rfl) ?_ _
                refine NoPanic.normal ?_
                have hm9 : S.length + 1 + 0 = S.length + 1 := by omega
                have ho9 := HR9.out
                rw [hm9, List.append_assoc, List.cons_append, List.cons_append, List.nil_append, ← flatX_cons ((id, l), .slice an l.length cn), ← flatX_append] at ho9
                have hmem : ∀ p ∈ q.take S.length ++ ((id, l), .slice an l.length cn) :: q.drop S.length, p = ((id, l), .slice an l.length cn) ∨ p ∈ q := fun p hp => by
                  rcases List.mem_append.1 hp with h1 | h1
                  · exact .inr (List.mem_of_mem_take h1)
                  · rcases List.mem_cons.1 h1 with h2 | h2
                    · exact .inl h2
                    · exact .inr (List.mem_of_mem_drop h2)
                have hold := HST.out
                have hzr := HZR.out
                have hzz := HZZ.out
                have hlo : w.heap.size + 1 + 1 ≤ wr.heap.size := hold.res.lt
                have hst := HSTZ.out.fresh HB9.out ho9 (by rw [List.length_append, List.length_take, List.length_cons, List.length_drop]; have := HQL.out; omega)
                  (fun p hp => by rcases hmem p hp with rfl | h; exact (HONZ.out.below HB9.out).mono hlo; exact (HSTZ.out.sets.row p h).below HB9.out)
                  (fun p hp j hj => by
                    rcases hmem p hp with rfl | h
                    · have h1 := HOL.out j hj; have h2 := hold.box.lt; exact ⟨by omega, by omega⟩
                    · exact ⟨(World.ownsRow.lt (HSTZ.out.sets.row p h) j hj).2, fun e => by subst e; exact HSTZ.out.nbQ p h hj⟩)
                  (by
                    rw [List.pairwise_append]
                    have hnew : ∀ p ∈ q, ∀ j, (Value.slice an l.length cn).ownBlock = some j → p.2.ownBlock ≠ some j := fun p hp j hj e => by have h1 := HOL.out j hj; have h2 := (World.ownsRow.lt (hold.sets.row p hp) j e).2; omega
                    refine ⟨hold.sets.dis.sublist (List.take_sublist _ _), List.Pairwise.cons (fun p hp j hj e => hnew p (List.mem_of_mem_drop hp) j hj e) (hold.sets.dis.sublist (List.drop_sublist _ _)), fun p hp r hr j hj e => ?_⟩
                    rcases List.mem_cons.1 hr with rfl | h2
                    · exact hnew p (List.mem_of_mem_take hp) j e hj
                    · have h3 := hold.sets.dis
                      rw [← List.take_append_drop S.length q, List.pairwise_append] at h3
                      exact h3.2.2 p hp r h2 j hj e)
                  (fun j hj p hp e => by
                    rcases hmem p hp with rfl | h
                    · have h1 := HOL.out j e; have h2 := (World.ownsRow.lt hold.tab j hj).2; omega
                    · exact (hold.apart j hj).2 p h e)
                have hRL : rS.length = S.length + 1 := by rw [← HRX.out]; exact insX_len S id l
                have HQR := Lib.hid (show setsX (q.take S.length ++ ((id, l), .slice an l.length cn) :: q.drop S.length) = rS by rw [setsX_ins, HQ.out, ← HRX.out]; unfold insX; rw [HPK.out])
                rw [← hRL] at hst
                rw [hm9, ← hRL]
                have HST6 := Lib.hid hst
                clear hst ho9 hmem hold hzr hzz hlo hm9
                have d0 := HST6.out.box.three0
                have d1 := HST6.out.box.three1
                have d2 := HST6.out.box.three2
                have r0 := HST6.out.res.three0
                have r1 := HST6.out.res.three1
                have r2 := HST6.out.res.three2
                have f0 := HST6.out.res.frozen 0
                have f1 := HST6.out.res.frozen 1
                have f2 := HST6.out.res.frozen 2
                clear hRL y2 y9 fy9
                go_wp2
                have z := HST6.out.end_
                have z0 : _ = some _ := z.three0
                have z1 : _ = some _ := z.three1
                have z2 : _ = some _ := z.three2
                exact bodyPost_ret (v := .tuple #[.agg #[.int .i64 t, .slice a1 T.length c1, .slice a9 rS.length c9], .bool true]) (by simp [results, Tryz.results17, go_sem, z0, z1, z2]) rfl (HST6.out.gives HQR.out true)
              · skip
                go_simp
                refine hK.out _ _ (fun _ => ⟨yB, s0B, s1B⟩) (fun hH => ?_)
                have hHeld := hH (by decide)
                clear hH
                clear hK K
                (try simp only [Act.put, List.getElem_toArray, List.getElem_cons_succ, List.getElem_cons_zero, List.setIfInBounds_toArray, List.set_cons_zero, List.set_cons_succ])
                refine anyE_one (i := 5) (by kernel_rfl) (anyE_step rfl (fun K hK => ?_))
                refine step_app_row rfl _ _ 25 71 rfl i0 _ 2 32 Tryz.underlying25 hi0 hz0 hz1 hz2 rfl (by decide) wz.heap.size (.slice (some ⟨wz.heap.size, 0, none⟩) 0 0) 0 [] rfl (some ⟨gq, 0, none⟩) S.length c2 (flatX (q.take S.length)) rfl HOB.out HL1.out (HC1.out _ HBB.out) nofun HO1.out (by unfold maxLen; omega) (by omega) HBB.out.size ?_
                intro v1 w3 ho hg
                rw [Nat.zero_add, List.nil_append] at ho
                have hb3 := HBB.out.grown hg HBB.out.size (fun j hj => by cases hj; simp)
                have HR3 := Lib.hid ho
                have HB3 := Lib.hid hb3
                have y3 := (HSTZ.out.box.below hb3).three2
                have s03 := (HBLK.out.below hb3).two0
                have s13 := (HBLK.out.below hb3).two1
                have HP3 := Lib.hid (HPB.out.grown hg (by simp [Value.ownBlock]))
                clear ho hg hb3
                refine hK.out _ _ (fun _ => ⟨y3, s03, s13⟩) (fun hH => ?_)
                have hHeld := hH (by decide)
                clear hH
                clear hK K
                (try simp only [Act.put, List.getElem_toArray, List.getElem_cons_succ, List.getElem_cons_zero, List.setIfInBounds_toArray, List.set_cons_zero, List.set_cons_succ])
                refine anyE_one (i := 8) (by kernel_rfl) (anyE_step rfl (fun K hK => ?_))
                refine step_ixs rfl _ _ rfl wz.heap.size v1 S.length (flatX (q.take S.length)) (wz.heap.size + 1) id (.slice an l.length cn) rfl rfl w3.heap.size HR3.out HP3.out rfl (by omega) HB3.out.size rfl ?_
                intro g8 cap8 w8 ho hg hat
                have hb8 := HB3.out.grown hg HB3.out.size (fun j hj => (World.ownsRow.lt HR3.out j hj).1)
                have HR8 := Lib.hid ho
                have HB8 := Lib.hid hb8
                have y8 := (HSTZ.out.box.below hb8).three2
                have s08 := (HBLK.out.below hb8).two0
                have s18 := (HBLK.out.below hb8).two1
                clear ho hg hb8 hat
                refine hK.out _ _ (fun _ => ⟨y8, s08, s18⟩) (fun hH => ?_)
                have hHeld := hH (by decide)
                clear hH
                clear hK K
                (try simp only [Act.put, List.getElem_toArray, List.getElem_cons_succ, List.getElem_cons_zero, List.setIfInBounds_toArray, List.set_cons_zero, List.set_cons_succ])
                refine anyE_one (i := 13) (by kernel_rfl) (anyE_step rfl (fun K hK => ?_))
                refine step_app_row rfl _ _ 25 71 rfl i0 _ 2 32 Tryz.underlying25 hi0 hz0 hz1 hz2 rfl (by decide) wz.heap.size (.slice (some ⟨g8, 0, none⟩) (S.length + 1) cap8) (S.length + 1) (flatX (q.take S.length) ++ [.int .i64 id, .slice an l.length cn]) rfl (some A) 0 (c2 - S.length) (flatX (q.drop S.length)) rfl HR8.out HL2.out (HC2.out _ HB8.out) nofun HO2.out (by unfold maxLen; omega) (by omega) HB8.out.size ?_
                intro v9 w9 ho hg
                obtain ⟨a9, c9, rfl⟩ := row_shape ho
                have hb9 := HB8.out.grown hg HB8.out.size (fun j hj => (World.ownsRow.lt HR8.out j hj).1)
                have HR9 := Lib.hid ho
                have HB9 := Lib.hid hb9
                have y9 := (HSTZ.out.box.below hb9).three2
                have fy9 := (HSTZ.out.box.below hb9).frozen 2
                have s09 := (HBLK.out.below hb9).two0
                have s19 := (HBLK.out.below hb9).two1
                clear ho hg hb9
                refine hK.out _ _ (fun _ => ⟨y9, s09, s19⟩) (fun hH => ?_)
                have hHeld := hH (by decide)
                clear hH
                clear hK K
                (try simp only [Act.put, List.getElem_toArray, List.getElem_cons_succ, List.getElem_cons_zero, List.setIfInBounds_toArray, List.set_cons_zero, List.set_cons_succ])
                refine anyE_take (i := 14) (v := ?vz23) rfl (by kernel_rfl) (by kernel_rfl) (by kernel_rfl) (by kernel_rfl) (by kernel_rfl) (fun _ _ _ h => h) (Or.inl ⟨by kernel_rfl, ?yz23⟩) (by assumption) ?rz23
                case yz23 => (intro w' hSw; (try dsimp only at hSw); go_simp; (try with_reducible rfl))
                (try simp only [Act.put, List.getElem_toArray, List.getElem_cons_succ, List.getElem_cons_zero, List.setIfInBounds_toArray, List.set_cons_zero, List.set_cons_succ])
                refine anyE_one (i := 15) (by kernel_rfl) (anyE_step rfl (fun K hK => ?_))
                go_simp
                refine hK.out _ _ (fun h => absurd rfl h) (fun _ => ?_)
                clear hK K
                (try simp only [Act.put, List.getElem_toArray, List.getElem_cons_succ, List.getElem_cons_zero, List.setIfInBounds_toArray, List.set_cons_zero, List.set_cons_succ])
                refine anyE_done (by kernel_rfl) ?_ _
                refine NoPanic.normal ?_
                have hm9 : S.length + 1 + 0 = S.length + 1 := by omega
                have ho9 := HR9.out
                rw [hm9, List.append_assoc, List.cons_append, List.cons_append, List.nil_append, ← flatX_cons ((id, l), .slice an l.length cn), ← flatX_append] at ho9
                have hmem : ∀ p ∈ q.take S.length ++ ((id, l), .slice an l.length cn) :: q.drop S.length, p = ((id, l), .slice an l.length cn) ∨ p ∈ q := fun p hp => by
                  rcases List.mem_append.1 hp with h1 | h1
                  · exact .inr (List.mem_of_mem_take h1)
                  · rcases List.mem_cons.1 h1 with h2 | h2
                    · exact .inl h2
                    · exact .inr (List.mem_of_mem_drop h2)
                have hold := HST.out
                have hzr := HZR.out
                have hzz := HZZ.out
                have hlo : w.heap.size + 1 + 1 ≤ wr.heap.size := hold.res.lt
                have hst := HSTZ.out.fresh HB9.out ho9 (by rw [List.length_append, List.length_take, List.length_cons, List.length_drop]; have := HQL.out; omega)
                  (fun p hp => by rcases hmem p hp with rfl | h; exact (HONZ.out.below HB9.out).mono hlo; exact (HSTZ.out.sets.row p h).below HB9.out)
                  (fun p hp j hj => by
                    rcases hmem p hp with rfl | h
                    · have h1 := HOL.out j hj; have h2 := hold.box.lt; exact ⟨by omega, by omega⟩
                    · exact ⟨(World.ownsRow.lt (HSTZ.out.sets.row p h) j hj).2, fun e => by subst e; exact HSTZ.out.nbQ p h hj⟩)
                  (by
                    rw [List.pairwise_append]
                    have hnew : ∀ p ∈ q, ∀ j, (Value.slice an l.length cn).ownBlock = some j → p.2.ownBlock ≠ some j := fun p hp j hj e => by have h1 := HOL.out j hj; have h2 := (World.ownsRow.lt (hold.sets.row p hp) j e).2; omega
                    refine ⟨hold.sets.dis.sublist (List.take_sublist _ _), List.Pairwise.cons (fun p hp j hj e => hnew p (List.mem_of_mem_drop hp) j hj e) (hold.sets.dis.sublist (List.drop_sublist _ _)), fun p hp r hr j hj e => ?_⟩
                    rcases List.mem_cons.1 hr with rfl | h2
                    · exact hnew p (List.mem_of_mem_take hp) j e hj
                    · have h3 := hold.sets.dis
                      rw [← List.take_append_drop S.length q, List.pairwise_append] at h3
                      exact h3.2.2 p hp r h2 j hj e)
                  (fun j hj p hp e => by
                    rcases hmem p hp with rfl | h
                    · have h1 := HOL.out j e; have h2 := (World.ownsRow.lt hold.tab j hj).2; omega
                    · exact (hold.apart j hj).2 p h e)
                have hRL : rS.length = S.length + 1 := by rw [← HRX.out]; exact insX_len S id l
                have HQR := Lib.hid (show setsX (q.take S.length ++ ((id, l), .slice an l.length cn) :: q.drop S.length) = rS by rw [setsX_ins, HQ.out, ← HRX.out]; unfold insX; rw [HPK.out])
                rw [← hRL] at hst
                rw [hm9, ← hRL]
                have HST6 := Lib.hid hst
                clear hst ho9 hmem hold hzr hzz hlo hm9
                have d0 := HST6.out.box.three0
                have d1 := HST6.out.box.three1
                have d2 := HST6.out.box.three2
                have r0 := HST6.out.res.three0
                have r1 := HST6.out.res.three1
                have r2 := HST6.out.res.three2
                have f0 := HST6.out.res.frozen 0
                have f1 := HST6.out.res.frozen 1
                have f2 := HST6.out.res.frozen 2
                clear hRL y2 y9 fy9
                go_wp2
                have z := HST6.out.end_
                have z0 : _ = some _ := z.three0
                have z1 : _ = some _ := z.three1
                have z2 : _ = some _ := z.three2
                exact bodyPost_ret (v := .tuple #[.agg #[.int .i64 t, .slice a1 T.length c1, .slice a9 rS.length c9], .bool true]) (by simp [results, Tryz.results17, go_sem, z0, z1, z2]) rfl (HST6.out.gives HQR.out true)
            · skip
              go_simp
              refine hK.out _ _ (fun _ => ⟨yV, s0V, s1V⟩) (fun hH => ?_)
              have hHeld := hH (by decide)
              clear hH
              clear hK K
              (try simp only [Act.put, List.getElem_toArray, List.getElem_cons_succ, List.getElem_cons_zero, List.setIfInBounds_toArray, List.set_cons_zero, List.set_cons_succ])
              refine anyE_one (i := 0) (by kernel_rfl) (anyE_step rfl (fun K hK => ?_))
              go_simp
              refine hK.out _ _ (fun _ => ⟨yC, s0C, s1C⟩) (fun hH => ?_)
              have hHeld := hH (by decide)
              clear hH
              clear hK K
              (try simp only [Act.put, List.getElem_toArray, List.getElem_cons_succ, List.getElem_cons_zero, List.setIfInBounds_toArray, List.set_cons_zero, List.set_cons_succ])
              refine anyE_one (i := 5) (by kernel_rfl) (anyE_step rfl (fun K hK => ?_))
              refine step_app_row rfl _ _ 25 71 rfl i0 _ 2 32 Tryz.underlying25 hi0 hz0 hz1 hz2 rfl (by decide) wz.heap.size (.slice (some ⟨(wz.heap.size + 1), 0, none⟩) 0 0) 0 [] rfl (some ⟨gq, 0, none⟩) S.length c2 (flatX (q.take S.length)) rfl HOC.out HL1.out (HC1.out _ HBC.out) nofun HO1.out (by unfold maxLen; omega) (by omega) HBC.out.size ?_
              intro v1 w3 ho hg
              rw [Nat.zero_add, List.nil_append] at ho
              have hb3 := HBC.out.grown hg HBC.out.size (fun j hj => by cases hj; simp)
              have HR3 := Lib.hid ho
              have HB3 := Lib.hid hb3
              have y3 := (HSTZ.out.box.below hb3).three2
              have s03 := (HBLK.out.below hb3).two0
              have s13 := (HBLK.out.below hb3).two1
              have HP3 := Lib.hid (HPC.out.grown hg (by simp [Value.ownBlock]))
              clear ho hg hb3
              refine hK.out _ _ (fun _ => ⟨y3, s03, s13⟩) (fun hH => ?_)
              have hHeld := hH (by decide)
              clear hH
              clear hK K
              (try simp only [Act.put, List.getElem_toArray, List.getElem_cons_succ, List.getElem_cons_zero, List.setIfInBounds_toArray, List.set_cons_zero, List.set_cons_succ])
              refine anyE_one (i := 8) (by kernel_rfl) (anyE_step rfl (fun K hK => ?_))
              refine step_ixs rfl _ _ rfl wz.heap.size v1 S.length (flatX (q.take S.length)) wz.heap.size id (.slice an l.length cn) rfl rfl w3.heap.size HR3.out HP3.out rfl (by omega) HB3.out.size rfl ?_
              intro g8 cap8 w8 ho hg hat
              have hb8 := HB3.out.grown hg HB3.out.size (fun j hj => (World.ownsRow.lt HR3.out j hj).1)
              have HR8 := Lib.hid ho
              have HB8 := Lib.hid hb8
              have y8 := (HSTZ.out.box.below hb8).three2
              have s08 := (HBLK.out.below hb8).two0
              have s18 := (HBLK.out.below hb8).two1
              clear ho hg hb8 hat
              refine hK.out _ _ (fun _ => ⟨y8, s08, s18⟩) (fun hH => ?_)
              have hHeld := hH (by decide)
              clear hH
              clear hK K
              (try simp only [Act.put, List.getElem_toArray, List.getElem_cons_succ, List.getElem_cons_zero, List.setIfInBounds_toArray, List.set_cons_zero, List.set_cons_succ])
              refine anyE_one (i := 13) (by kernel_rfl) (anyE_step rfl (fun K hK => ?_))
              refine step_app_row rfl _ _ 25 71 rfl i0 _ 2 32 Tryz.underlying25 hi0 hz0 hz1 hz2 rfl (by decide) wz.heap.size (.slice (some ⟨g8, 0, none⟩) (S.length + 1) cap8) (S.length + 1) (flatX (q.take S.length) ++ [.int .i64 id, .slice an l.length cn]) rfl (some A) 0 (c2 - S.length) (flatX (q.drop S.length)) rfl HR8.out HL2.out (HC2.out _ HB8.out) nofun HO2.out (by unfold maxLen; omega) (by omega) HB8.out.size ?_
              intro v9 w9 ho hg
              obtain ⟨a9, c9, rfl⟩ := row_shape ho
              have hb9 := HB8.out.grown hg HB8.out.size (fun j hj => (World.ownsRow.lt HR8.out j hj).1)
              have HR9 := Lib.hid ho
              have HB9 := Lib.hid hb9
              have y9 := (HSTZ.out.box.below hb9).three2
              have fy9 := (HSTZ.out.box.below hb9).frozen 2
              have s09 := (HBLK.out.below hb9).two0
              have s19 := (HBLK.out.below hb9).two1
              clear ho hg hb9
              refine hK.out _ _ (fun _ => ⟨y9, s09, s19⟩) (fun hH => ?_)
              have hHeld := hH (by decide)
              clear hH
              clear hK K
              (try simp only [Act.put, List.getElem_toArray, List.getElem_cons_succ, List.getElem_cons_zero, List.setIfInBounds_toArray, List.set_cons_zero, List.set_cons_succ])
              refine anyE_take (i := 14) (v := ?vz24) rfl (by kernel_rfl) (by kernel_rfl) (by kernel_rfl) (by kernel_rfl) (by kernel_rfl) (fun _ _ _ h => h) (Or.inl ⟨by kernel_rfl, ?yz24⟩) (by assumption) ?rz24
              case yz24 => (intro w' hSw; (try dsimp only at hSw); go_simp; (try with_reducible rfl))
              (try simp only [Act.put, List.getElem_toArray, List.getElem_cons_succ, List.getElem_cons_zero, List.setIfInBounds_toArray, List.set_cons_zero, List.set_cons_succ])
              refine anyE_one (i := 15) (by kernel_rfl) (anyE_step rfl (fun K hK => ?_))
              go_simp
              refine hK.out _ _ (fun h => absurd rfl h) (fun _ => ?_)
              clear hK K
              (try simp only [Act.put, List.getElem_toArray, List.getElem_cons_succ, List.getElem_cons_zero, List.setIfInBounds_toArray, List.set_cons_zero, List.set_cons_succ])
              refine anyE_done (by kernel_rfl) ?_ _
              refine NoPanic.normal ?_
              have hm9 : S.length + 1 + 0 = S.length + 1 := by omega
              have ho9 := HR9.out
              rw [hm9, List.append_assoc, List.cons_append, List.cons_append, List.nil_append, ← flatX_cons ((id, l), .slice an l.length cn), ← flatX_append] at ho9
              have hmem : ∀ p ∈ q.take S.length ++ ((id, l), .slice an l.length cn) :: q.drop S.length, p = ((id, l), .slice an l.length cn) ∨ p ∈ q := fun p hp => by
                rcases List.mem_append.1 hp with h1 | h1
                · exact .inr (List.mem_of_mem_take h1)
                · rcases List.mem_cons.1 h1 with h2 | h2
                  · exact .inl h2
                  · exact .inr (List.mem_of_mem_drop h2)
              have hold := HST.out
              have hzr := HZR.out
              have hzz := HZZ.out
              have hlo : w.heap.size + 1 + 1 ≤ wr.heap.size := hold.res.lt
              have hst := HSTZ.out.fresh HB9.out ho9 (by rw [List.length_append, List.length_take, List.length_cons, List.length_drop]; have := HQL.out; omega)
                (fun p hp => by rcases hmem p hp with rfl | h; exact (HONZ.out.below HB9.out).mono hlo; exact (HSTZ.out.sets.row p h).below HB9.out)
                (fun p hp j hj => by
                  rcases hmem p hp with rfl | h
                  · have h1 := HOL.out j hj; have h2 := hold.box.lt; exact ⟨by omega, by omega⟩
                  · exact ⟨(World.ownsRow.lt (HSTZ.out.sets.row p h) j hj).2, fun e => by subst e; exact HSTZ.out.nbQ p h hj⟩)
                (by
                  rw [List.pairwise_append]
                  have hnew : ∀ p ∈ q, ∀ j, (Value.slice an l.length cn).ownBlock = some j → p.2.ownBlock ≠ some j := fun p hp j hj e => by have h1 := HOL.out j hj; have h2 := (World.ownsRow.lt (hold.sets.row p hp) j e).2; omega
                  refine ⟨hold.sets.dis.sublist (List.take_sublist _ _), List.Pairwise.cons (fun p hp j hj e => hnew p (List.mem_of_mem_drop hp) j hj e) (hold.sets.dis.sublist (List.drop_sublist _ _)), fun p hp r hr j hj e => ?_⟩
                  rcases List.mem_cons.1 hr with rfl | h2
                  · exact hnew p (List.mem_of_mem_take hp) j e hj
                  · have h3 := hold.sets.dis
                    rw [← List.take_append_drop S.length q, List.pairwise_append] at h3
                    exact h3.2.2 p hp r h2 j hj e)
                (fun j hj p hp e => by
                  rcases hmem p hp with rfl | h
                  · have h1 := HOL.out j e; have h2 := (World.ownsRow.lt hold.tab j hj).2; omega
                  · exact (hold.apart j hj).2 p h e)
              have hRL : rS.length = S.length + 1 := by rw [← HRX.out]; exact insX_len S id l
              have HQR := Lib.hid (show setsX (q.take S.length ++ ((id, l), .slice an l.length cn) :: q.drop S.length) = rS by rw [setsX_ins, HQ.out, ← HRX.out]; unfold insX; rw [HPK.out])
              rw [← hRL] at hst
              rw [hm9, ← hRL]
              have HST6 := Lib.hid hst
              clear hst ho9 hmem hold hzr hzz hlo hm9
              have d0 := HST6.out.box.three0
              have d1 := HST6.out.box.three1
              have d2 := HST6.out.box.three2
              have r0 := HST6.out.res.three0
              have r1 := HST6.out.res.three1
              have r2 := HST6.out.res.three2
              have f0 := HST6.out.res.frozen 0
              have f1 := HST6.out.res.frozen 1
              have f2 := HST6.out.res.frozen 2
              clear hRL y2 y9 fy9
              go_wp2
              have z := HST6.out.end_
              have z0 : _ = some _ := z.three0
              have z1 : _ = some _ := z.three1
              have z2 : _ = some _ := z.three2
              exact bodyPost_ret (v := .tuple #[.agg #[.int .i64 t, .slice a1 T.length c1, .slice a9 rS.length c9], .bool true]) (by simp [results, Tryz.results17, go_sem, z0, z1, z2]) rfl (HST6.out.gives HQR.out true)
  · obtain rfl : false = rb := by
      rw [← HRB.out]
      refine (ok_ins_no ?_).symm
      cases iv
      · exact .inl HIV.out
      · cases dv
        · exact .inr (.inl (by rw [HOV.out]; rfl))
        · cases tv
          · exact .inr (.inl (by rw [HOV.out]; rfl))
          · rcases fi_cases S id with ⟨h1, h2⟩ | ⟨k, x, h1, _, _, h2⟩
            · refine .inr (.inr (.inl ?_))
              refine Classical.not_not.1 fun hn => hgo ⟨rfl, rfl, rfl, by rw [← HFI.out, h1], hn⟩
            · exact .inr (.inr (.inr h2))
    obtain rfl : S = rS := by rw [← HRS.out]; unfold insR; rw [HRB.out]; rfl
    have HGO := Lib.hid hgo
    clear hgo
    cases iv
    · clear hnf
      refine Lib.hid ?_
      go_wp2_with (first | (go_at_call 35; (refine (HTS.out _ HST.out.below).mono ?_); rintro e w5 ⟨rfl, hb⟩; have HST := Lib.hid (HST.out.below_ hb); have HBX := Lib.hid (HBX.out.below hb); clear p0 p1 p2 d0 d1 d2 r0 r1 r2 f0 f1 f2; have p0 := HBX.out.three0; have p1 := HBX.out.three1; have p2 := HBX.out.three2; have d0 := HST.out.box.three0; have d1 := HST.out.box.three1; have d2 := HST.out.box.three2; have r0 := HST.out.res.three0; have r1 := HST.out.res.three1; have r2 := HST.out.res.three2; have f0 := HST.out.res.frozen 0; have f1 := HST.out.res.frozen 1; have f2 := HST.out.res.frozen 2; clear hb) | (go_at_call 37; (with_reducible refine (HID.out _).mono ?_); rintro e wq ⟨rfl, rfl⟩) | (go_at_call 48; (refine (HFD.out _ HST.out.below).mono ?_); rintro e w6 ⟨rfl, hb⟩; have HST := Lib.hid (HST.out.below_ hb); have HBX := Lib.hid (HBX.out.below hb); clear p0 p1 p2 d0 d1 d2 r0 r1 r2 f0 f1 f2; have p0 := HBX.out.three0; have p1 := HBX.out.three1; have p2 := HBX.out.three2; have d0 := HST.out.box.three0; have d1 := HST.out.box.three1; have d2 := HST.out.box.three2; have r0 := HST.out.res.three0; have r1 := HST.out.res.three1; have r2 := HST.out.res.three2; have f0 := HST.out.res.frozen 0; have f1 := HST.out.res.frozen 1; have f2 := HST.out.res.frozen 2; clear hb))
      have z := HST.out.end_
      have z0 : _ = some _ := z.three0
      have z1 : _ = some _ := z.three1
      have z2 : _ = some _ := z.three2
      exact bodyPost_ret (v := .tuple #[.agg #[.int .i64 t, .slice a1 T.length c1, .slice a2 S.length c2], .bool false]) (by simp [results, Tryz.results17, go_sem, z0, z1, z2]) rfl (HST.out.gives HQ.out false)
    cases tv
    · clear hnf
      refine Lib.hid ?_
      go_wp2_with (first | (go_at_call 35; (refine (HTS.out _ HST.out.below).mono ?_); rintro e w5 ⟨rfl, hb⟩; have HST := Lib.hid (HST.out.below_ hb); have HBX := Lib.hid (HBX.out.below hb); clear p0 p1 p2 d0 d1 d2 r0 r1 r2 f0 f1 f2; have p0 := HBX.out.three0; have p1 := HBX.out.three1; have p2 := HBX.out.three2; have d0 := HST.out.box.three0; have d1 := HST.out.box.three1; have d2 := HST.out.box.three2; have r0 := HST.out.res.three0; have r1 := HST.out.res.three1; have r2 := HST.out.res.three2; have f0 := HST.out.res.frozen 0; have f1 := HST.out.res.frozen 1; have f2 := HST.out.res.frozen 2; clear hb) | (go_at_call 37; (with_reducible refine (HID.out _).mono ?_); rintro e wq ⟨rfl, rfl⟩) | (go_at_call 48; (refine (HFD.out _ HST.out.below).mono ?_); rintro e w6 ⟨rfl, hb⟩; have HST := Lib.hid (HST.out.below_ hb); have HBX := Lib.hid (HBX.out.below hb); clear p0 p1 p2 d0 d1 d2 r0 r1 r2 f0 f1 f2; have p0 := HBX.out.three0; have p1 := HBX.out.three1; have p2 := HBX.out.three2; have d0 := HST.out.box.three0; have d1 := HST.out.box.three1; have d2 := HST.out.box.three2; have r0 := HST.out.res.three0; have r1 := HST.out.res.three1; have r2 := HST.out.res.three2; have f0 := HST.out.res.frozen 0; have f1 := HST.out.res.frozen 1; have f2 := HST.out.res.frozen 2; clear hb))
      have z := HST.out.end_
      have z0 : _ = some _ := z.three0
      have z1 : _ = some _ := z.three1
      have z2 : _ = some _ := z.three2
      exact bodyPost_ret (v := .tuple #[.agg #[.int .i64 t, .slice a1 T.length c1, .slice a2 S.length c2], .bool false]) (by simp [results, Tryz.results17, go_sem, z0, z1, z2]) rfl (HST.out.gives HQ.out false)
    cases dv
    · clear hnf
      refine Lib.hid ?_
      go_wp2_with (first | (go_at_call 35; (refine (HTS.out _ HST.out.below).mono ?_); rintro e w5 ⟨rfl, hb⟩; have HST := Lib.hid (HST.out.below_ hb); have HBX := Lib.hid (HBX.out.below hb); clear p0 p1 p2 d0 d1 d2 r0 r1 r2 f0 f1 f2; have p0 := HBX.out.three0; have p1 := HBX.out.three1; have p2 := HBX.out.three2; have d0 := HST.out.box.three0; have d1 := HST.out.box.three1; have d2 := HST.out.box.three2; have r0 := HST.out.res.three0; have r1 := HST.out.res.three1; have r2 := HST.out.res.three2; have f0 := HST.out.res.frozen 0; have f1 := HST.out.res.frozen 1; have f2 := HST.out.res.frozen 2; clear hb) | (go_at_call 37; (with_reducible refine (HID.out _).mono ?_); rintro e wq ⟨rfl, rfl⟩) | (go_at_call 48; (refine (HFD.out _ HST.out.below).mono ?_); rintro e w6 ⟨rfl, hb⟩; have HST := Lib.hid (HST.out.below_ hb); have HBX := Lib.hid (HBX.out.below hb); clear p0 p1 p2 d0 d1 d2 r0 r1 r2 f0 f1 f2; have p0 := HBX.out.three0; have p1 := HBX.out.three1; have p2 := HBX.out.three2; have d0 := HST.out.box.three0; have d1 := HST.out.box.three1; have d2 := HST.out.box.three2; have r0 := HST.out.res.three0; have r1 := HST.out.res.three1; have r2 := HST.out.res.three2; have f0 := HST.out.res.frozen 0; have f1 := HST.out.res.frozen 1; have f2 := HST.out.res.frozen 2; clear hb))
      have z := HST.out.end_
      have z0 : _ = some _ := z.three0
      have z1 : _ = some _ := z.three1
      have z2 : _ = some _ := z.three2
      exact bodyPost_ret (v := .tuple #[.agg #[.int .i64 t, .slice a1 T.length c1, .slice a2 S.length c2], .bool false]) (by simp [results, Tryz.results17, go_sem, z0, z1, z2]) rfl (HST.out.gives HQ.out false)
    rcases hnf with rfl | hpos
    · have h12 : S.length = 12 := Classical.not_not.1 fun hn => HGO.out ⟨rfl, rfl, rfl, rfl, hn⟩
      have hi12 : (S.length : Int) = 12 := by omega
      have hi12 : (S.length : Int) = 12 := by omega
      clear h12
      refine Lib.hid ?_
      go_wp2_with (first | (go_at_call 35; (refine (HTS.out _ HST.out.below).mono ?_); rintro e w5 ⟨rfl, hb⟩; have HST := Lib.hid (HST.out.below_ hb); have HBX := Lib.hid (HBX.out.below hb); clear p0 p1 p2 d0 d1 d2 r0 r1 r2 f0 f1 f2; have p0 := HBX.out.three0; have p1 := HBX.out.three1; have p2 := HBX.out.three2; have d0 := HST.out.box.three0; have d1 := HST.out.box.three1; have d2 := HST.out.box.three2; have r0 := HST.out.res.three0; have r1 := HST.out.res.three1; have r2 := HST.out.res.three2; have f0 := HST.out.res.frozen 0; have f1 := HST.out.res.frozen 1; have f2 := HST.out.res.frozen 2; clear hb) | (go_at_call 37; (with_reducible refine (HID.out _).mono ?_); rintro e wq ⟨rfl, rfl⟩) | (go_at_call 48; (refine (HFD.out _ HST.out.below).mono ?_); rintro e w6 ⟨rfl, hb⟩; have HST := Lib.hid (HST.out.below_ hb); have HBX := Lib.hid (HBX.out.below hb); clear p0 p1 p2 d0 d1 d2 r0 r1 r2 f0 f1 f2; have p0 := HBX.out.three0; have p1 := HBX.out.three1; have p2 := HBX.out.three2; have d0 := HST.out.box.three0; have d1 := HST.out.box.three1; have d2 := HST.out.box.three2; have r0 := HST.out.res.three0; have r1 := HST.out.res.three1; have r2 := HST.out.res.three2; have f0 := HST.out.res.frozen 0; have f1 := HST.out.res.frozen 1; have f2 := HST.out.res.frozen 2; clear hb))
      have z := HST.out.end_
      have z0 : _ = some _ := z.three0
      have z1 : _ = some _ := z.three1
      have z2 : _ = some _ := z.three2
      exact bodyPost_ret (v := .tuple #[.agg #[.int .i64 t, .slice a1 T.length c1, .slice a2 S.length c2], .bool false]) (by simp [results, Tryz.results17, go_sem, z0, z1, z2]) rfl (HST.out.gives HQ.out false)
    · refine Lib.hid ?_
      go_wp2_with (first | (go_at_call 35; (refine (HTS.out _ HST.out.below).mono ?_); rintro e w5 ⟨rfl, hb⟩; have HST := Lib.hid (HST.out.below_ hb); have HBX := Lib.hid (HBX.out.below hb); clear p0 p1 p2 d0 d1 d2 r0 r1 r2 f0 f1 f2; have p0 := HBX.out.three0; have p1 := HBX.out.three1; have p2 := HBX.out.three2; have d0 := HST.out.box.three0; have d1 := HST.out.box.three1; have d2 := HST.out.box.three2; have r0 := HST.out.res.three0; have r1 := HST.out.res.three1; have r2 := HST.out.res.three2; have f0 := HST.out.res.frozen 0; have f1 := HST.out.res.frozen 1; have f2 := HST.out.res.frozen 2; clear hb) | (go_at_call 37; (with_reducible refine (HID.out _).mono ?_); rintro e wq ⟨rfl, rfl⟩) | (go_at_call 48; (refine (HFD.out _ HST.out.below).mono ?_); rintro e w6 ⟨rfl, hb⟩; have HST := Lib.hid (HST.out.below_ hb); have HBX := Lib.hid (HBX.out.below hb); clear p0 p1 p2 d0 d1 d2 r0 r1 r2 f0 f1 f2; have p0 := HBX.out.three0; have p1 := HBX.out.three1; have p2 := HBX.out.three2; have d0 := HST.out.box.three0; have d1 := HST.out.box.three1; have d2 := HST.out.box.three2; have r0 := HST.out.res.three0; have r1 := HST.out.res.three1; have r2 := HST.out.res.three2; have f0 := HST.out.res.frozen 0; have f1 := HST.out.res.frozen 1; have f2 := HST.out.res.frozen 2; clear hb))
      have z := HST.out.end_
      have z0 : _ = some _ := z.three0
      have z1 : _ = some _ := z.three1
      have z2 : _ = some _ := z.three2
      exact bodyPost_ret (v := .tuple #[.agg #[.int .i64 t, .slice a1 T.length c1, .slice a2 S.length c2], .bool false]) (by simp [results, Tryz.results17, go_sem, z0, z1, z2]) rfl (HST.out.gives HQ.out false)

end Go.Proofs.YthjbekgognfiiaaGreat
