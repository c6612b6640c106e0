/-
  What impl.InsertSet hands back. By an AI agent.
-/
import Derived.Test.YthjbekgognfiiaaGreatIxR
import Derived.Test.YthjbekgognfiiaaGreatJ11
namespace Go.Proofs.YthjbekgognfiiaaGreat
open Go.RowKit
set_option linter.unusedVariables false

theorem ins_bnd {T : List TC} {S : List IS} {l : List Str} (t id : Int) (h : ixz T S ≤ 1048576) (hl : szL l ≤ 1048576) : BndX T (insR t T S id l) := by
  unfold insR
  split
  · have h1 := ixn_le h
    have h2 := szL_len l
    have h3 : (toksX (insX S id l)).flatten.length = (toksX S).flatten.length + l.length := by
      have e : toksX (insX S id l) = toksX (S.take (plX S id)) ++ l :: toksX (S.drop (plX S id)) := by simp [toksX, insX]
      have e2 : toksX S = toksX (S.take (plX S id)) ++ toksX (S.drop (plX S id)) := by rw [← show toksX (S.take (plX S id) ++ S.drop (plX S id)) = toksX S by rw [List.take_append_drop]]; simp [toksX]
      rw [e, e2]
      simp only [List.flatten_append, List.flatten_cons, List.length_append]
      omega
    have h4 : (insX S id l).length = S.length + 1 := by
      unfold insX
      have := pl_le S id
      rw [List.length_append, List.length_cons, List.length_take, List.length_drop]
      omega
    unfold BndX ixn at *
    omega
  · exact bnd_of h
theorem setsX_ins (q : List XS) (k : Nat) (id : Int) (l : List Str) (v : Value) : setsX (q.take k ++ ((id, l), v) :: q.drop k) = (setsX q).take k ++ (id, l) :: (setsX q).drop k := by simp [setsX]
theorem insX_len (S : List IS) (id : Int) (l : List Str) : (insX S id l).length = S.length + 1 := by
  unfold insX
  have := pl_le S id
  rw [List.length_append, List.length_cons, List.length_take, List.length_drop]
  omega
theorem ok_ins_no {t : Int} {T : List TC} {S : List IS} {id : Int} {l : List Str} (h : ixB t T S = false ∨ okX (id, l) = false ∨ S.length = 12 ∨ hasId S id = true) : okIns t T S id l = false := by
  unfold okIns
  rcases h with h | h | h | h <;> rw [h] <;> simp
theorem ok_ins_yes {t : Int} {T : List TC} {S : List IS} {id : Int} {l : List Str} (h1 : ixB t T S = true) (h2 : okX (id, l) = true) (h3 : S.length ≠ 12) (h4 : hasId S id = false) : okIns t T S id l = true := by
  unfold okIns
  rw [h1, h2, h4, decide_eq_true h3]
  rfl

set_option maxRecDepth 100000 in
set_option maxHeartbeats 4000000 in
theorem ins_impl (t : Int) (ta : Option Addr) (tc : Nat) (T : List TC) (xa : Option Addr) (xc : Nat) (S : List IS) (id : Int) (la : Option Addr) (lc : Nat) (l : List Str) (rt : Int) (rT : List TC) (rS : List IS) (rb : Bool) (w : World) (hrt : t = rt) (hrT : T = rT) (hrS : insR t T S id l = rS) (hrb : okIns t T S id l = rb) (h : SmIx w ta T tc xa S xc) (hs : Sm w la l lc) :
    Calls Tryz.prog 16 #[.agg #[.int .i64 t, .slice ta T.length tc, .slice xa S.length xc], .int .i64 id, .slice la l.length lc] w (GivesIB w rt rT rS rb) := by
  obtain rfl := hrt
  obtain rfl := hrT
  have HRS := Lib.hid hrS
  have HRB := Lib.hid hrb
  obtain ⟨w1, hw1⟩ : ∃ w1, w1 = (w.alloc (.cells #[.int .i64 t, .slice ta T.length tc, .slice xa S.length xc] 27)).alloc (.cells #[.int .i64 0, .slice none 0 0, .slice none 0 0] 27) := ⟨_, rfl⟩
  have HW1 := Lib.hid hw1
  have HB1 := Lib.hid (show Below w.heap.size w w1 by rw [hw1]; exact ((Below.refl w.heap.size w).alloc (Nat.le_refl _) _).alloc (by simp) _)
  have HBX := Lib.hid (show BlkV w1 w.heap.size 27 #[.int .i64 t, .slice ta T.length tc, .slice xa S.length xc] by rw [hw1]; exact (BlkV.new _ _ _).alloc _)
  have HRC := Lib.hid (show BlkV w1 (w.heap.size + 1) 27 #[.int .i64 0, .slice none 0 0, .slice none 0 0] by rw [hw1]; exact BlkV.new_ _ _ _ _ (by simp))
  have HS1 := Lib.hid (show w1.heap.size = w.heap.size + 2 by rw [hw1]; simp)
  have HH := Lib.hid h
  have HCP := Lib.hid (copy_impl t ta tc T xa xc S w1 (h.below HB1.out))
  have HCL := Lib.hid (fun (W : World) (hW : Below w.heap.size w W) => sclone_any la lc l W (hs.below hW))
  have hsl : S.length ≤ 4000000 := h.sets.2.2.2.1
  have HSL := Lib.hid hs
  obtain ⟨iv, hiv⟩ : ∃ b, ixB t T S = b := ⟨_, rfl⟩
  have HIV := Lib.hid hiv
  obtain ⟨ov, hov⟩ : ∃ b, okX (id, l) = b := ⟨_, rfl⟩
  have HOV := Lib.hid hov
  clear h hs hw1 hrS hrb hiv hov
  go_enter Tryz.func16, Tryz.ntmps16
  go_wp2_with (go_at_call 42; rw [← HW1.out]; (refine HCP.out.mono ?_); rintro e w2 ⟨a1, c1, a2, c2, q, rfl, hq, ho, hb⟩; refine Hid.out ?_)
  have HQ := Lib.hid hq
  have hst := ixst_impl (t := t) HS1.out HB1.out HBX.out HRC.out ho hb
  have b0 := (HBX.out.below hb).three0
  have b1 := (HBX.out.below hb).three1
  have b2 := (HBX.out.below hb).three2
  have fb0 := (HBX.out.below hb).frozen 0
  have fb1 := (HBX.out.below hb).frozen 1
  have fb2 := (HBX.out.below hb).frozen 2
  obtain ⟨w3, hw3⟩ : ∃ w3, w3 = ((w2.setCell ⟨w.heap.size, 0, none⟩ (.int .i64 t)).setCell ⟨w.heap.size, 1, none⟩ (.slice a1 T.length c1)).setCell ⟨w.heap.size, 2, none⟩ (.slice a2 S.length c2) := ⟨_, rfl⟩
  rw [← hw3] at hst
  have HW3 := Lib.hid hw3
  have HST := Lib.hid hst
  clear hq ho hb hst hw3
  refine Lib.hid ?_
  go_wp2_with (go_at_call 43; rw [← HW3.out]; (refine (HCL.out _ HST.out.below).mono ?_); rintro e w4 ⟨a4, c4, rfl, ho, hb⟩; refine Hid.out ?_)
  have HST4 := Lib.hid (HST.out.below_ hb)
  have HO4 := Lib.hid ho
  have HOL := Lib.hid (fun k hk => World.ownsRow.lt ho k hk)
  obtain ⟨w5, hw5⟩ : ∃ w5, w5 = w4.alloc (.cells #[.int .i64 id, .slice a4 l.length c4] 71) := ⟨_, rfl⟩
  have hba : Below w4.heap.size w4 w5 := by rw [hw5]; exact (Below.refl _ _).alloc (Nat.le_refl _) _
  have HBS5 := Lib.hid (show BlkV w5 w4.heap.size 71 #[.int .i64 id, .slice a4 l.length c4] by rw [hw5]; exact BlkV.new _ _ _)
  have HST5 := Lib.hid (HST4.out.below_ hba)
  have HO5 := Lib.hid (OwnS.below ho hba)
  have HW5 := Lib.hid hw5
  have HIX := Lib.hid (ix_impl t a1 c1 T a2 c2 S iv w5 HIV.out (HST5.out.sm HQ.out HH.out))
  have HZ35 := Lib.hid (show w3.heap.size ≤ w5.heap.size from Nat.le_trans hb.size hba.size)
  clear ho hb hba b0 b1 b2 fb0 fb1 fb2 hw5
  have d0 := HST5.out.box.three0
  have d1 := HST5.out.box.three1
  have d2 := HST5.out.box.three2
  rw [HW5.out] at d0 d1 d2
  refine Lib.hid ?_
  go_wp2_with (go_at_call 19; rw [← HW5.out]; (refine HIX.out.mono ?_); rintro e w6 ⟨rfl, hb⟩; refine Hid.out ?_)
  have HZ36 := Lib.hid (show w3.heap.size ≤ w6.heap.size from Nat.le_trans HZ35.out hb.size)
  have HST6 := Lib.hid (HST5.out.below_ hb)
  have HBS6 := Lib.hid (HBS5.out.below hb)
  have HO6 := Lib.hid (OwnS.below HO5.out hb)
  clear hb d0 d1 d2
  have d0 := HST6.out.box.three0
  have d1 := HST6.out.box.three1
  have d2 := HST6.out.box.three2
  have s0 := HBS6.out.two0
  have s1 := HBS6.out.two1
  cases iv
  · have r0 := HST6.out.res.three0
    have r1 := HST6.out.res.three1
    have r2 := HST6.out.res.three2
    have f0 := HST6.out.res.frozen 0
    have f1 := HST6.out.res.frozen 1
    have f2 := HST6.out.res.frozen 2
    obtain rfl : false = rb := by rw [← HRB.out]; exact (ok_ins_no (.inl HIV.out)).symm
    obtain rfl : S = rS := by rw [← HRS.out]; unfold insR; rw [HRB.out]; rfl
    refine Lib.hid ?_
    go_wp2
    have z := HST6.out.end_
    have z0 : _ = some _ := z.three0
    have z1 : _ = some _ := z.three1
    have z2 : _ = some _ := z.three2
    exact bodyPost_ret (v := .tuple #[.agg #[.int .i64 t, .slice a1 T.length c1, .slice a2 S.length c2], .bool false]) (by simp [results, Tryz.results16, go_sem, z0, z1, z2]) rfl (HST6.out.gives HQ.out false)
  · have HIS := Lib.hid (iset_any id a4 c4 l ov w6 HOV.out ⟨HO6.out.inS, HO6.out.none_cap, HO6.out.cap_ge, HSL.out.2.2.2.1, HSL.out.2.2.2.2⟩)
    refine Lib.hid ?_
    go_wp2_with (go_at_call 44; (refine HIS.out.mono ?_); rintro e w7 ⟨rfl, hb⟩; refine Hid.out ?_)
    have HZ37 := Lib.hid (show w3.heap.size ≤ w7.heap.size from Nat.le_trans HZ36.out hb.size)
    have HST7 := Lib.hid (HST6.out.below_ hb)
    have HBS7 := Lib.hid (HBS6.out.below hb)
    have HO7 := Lib.hid (OwnS.below HO6.out hb)
    clear hb d0 d1 d2 s0 s1
    have d0 := HST7.out.box.three0
    have d1 := HST7.out.box.three1
    have d2 := HST7.out.box.three2
    have r0 := HST7.out.res.three0
    have r1 := HST7.out.res.three1
    have r2 := HST7.out.res.three2
    have f0 := HST7.out.res.frozen 0
    have f1 := HST7.out.res.frozen 1
    have f2 := HST7.out.res.frozen 2
    by_cases hbad : ov = false ∨ S.length = 12
    · obtain rfl : false = rb := by rw [← HRB.out]; exact (ok_ins_no (by rcases hbad with h | h; exact .inr (.inl (by rw [HOV.out, h])); exact .inr (.inr (.inl h)))).symm
      obtain rfl : S = rS := by rw [← HRS.out]; unfold insR; rw [HRB.out]; rfl
      have HN12 := Lib.hid hbad
      rcases hbad with rfl | h12
      · clear HN12
        refine Lib.hid ?_
        go_wp2
        have z := HST7.out.end_
        have z0 : _ = some _ := z.three0
        have z1 : _ = some _ := z.three1
        have z2 : _ = some _ := z.three2
        exact bodyPost_ret (v := .tuple #[.agg #[.int .i64 t, .slice a1 T.length c1, .slice a2 S.length c2], .bool false]) (by simp [results, Tryz.results16, go_sem, z0, z1, z2]) rfl (HST7.out.gives HQ.out false)
      · obtain ⟨sl, hsl2⟩ : ∃ sl, S.length = sl := ⟨_, rfl⟩
        have hi12 : (sl : Int) = 12 := by omega
        have z := HST7.out.end_
        have HGV := Lib.hid (HST7.out.gives HQ.out false)
        rw [hsl2] at d2 z HGV ⊢
        have HZ := Lib.hid z
        clear z hsl2 h12 HN12
        cases ov
        · refine Lib.hid ?_
          go_wp2
          have z0 : _ = some _ := HZ.out.three0
          have z1 : _ = some _ := HZ.out.three1
          have z2 : _ = some _ := HZ.out.three2
          exact bodyPost_ret (v := .tuple #[.agg #[.int .i64 t, .slice a1 T.length c1, .slice a2 sl c2], .bool false]) (by simp [results, Tryz.results16, go_sem, z0, z1, z2]) rfl HGV.out
        · refine Lib.hid ?_
          go_wp2
          have z0 : _ = some _ := HZ.out.three0
          have z1 : _ = some _ := HZ.out.three1
          have z2 : _ = some _ := HZ.out.three2
          exact bodyPost_ret (v := .tuple #[.agg #[.int .i64 t, .slice a1 T.length c1, .slice a2 sl c2], .bool false]) (by simp [results, Tryz.results16, go_sem, z0, z1, z2]) rfl HGV.out
    · obtain rfl : true = ov := by cases ov; exact absurd (.inl rfl) hbad; rfl
      have h12 : S.length ≠ 12 := fun e => hbad (.inr e)
      have hn12 : ¬ ((S.length : Int) = 12) := by omega
      have H12 := Lib.hid h12
      have HAS := Lib.hid (ixB_parts HIV.out).2.2.2.2
      have HPL := Lib.hid (place_any t a1 T.length c1 a2 c2 S id w7 HAS.out (by have h := HST7.out.sets.inX; rw [HQ.out] at h; exact h) hsl)
      have HLE := Lib.hid (pl_le S id)
      obtain ⟨hi, hhi⟩ : ∃ b, hasId S id = b := ⟨_, rfl⟩
      obtain ⟨k, hk⟩ : ∃ k, plX S id = k := ⟨_, rfl⟩
      have HHI := Lib.hid hhi
      have HPK := Lib.hid hk
      rw [hhi, hk] at HPL
      clear hhi hk hbad h12 r0 r1 r2 f0 f1 f2
      refine Lib.hid ?_
      go_wp2_with (go_at_call 45; (refine HPL.out.mono ?_); rintro e w8 ⟨rfl, hb⟩; refine Hid.out ?_)
      have HZ38 := Lib.hid (show w3.heap.size ≤ w8.heap.size from Nat.le_trans HZ37.out hb.size)
      have HST8 := Lib.hid (HST7.out.below_ hb)
      have HBS8 := Lib.hid (HBS7.out.below hb)
      have HO8 := Lib.hid (OwnS.below HO7.out hb)
      clear hb d0 d1 d2
      have d0 := HST8.out.box.three0
      have d1 := HST8.out.box.three1
      have d2 := HST8.out.box.three2
      cases hi
      · obtain rfl : true = rb := by rw [← HRB.out]; exact (ok_ins_yes HIV.out HOV.out H12.out HHI.out).symm
        obtain rfl : insX S id l = rS := by rw [← HRS.out]; unfold insR; rw [HRB.out, if_pos rfl]
        have hkS : k ≤ S.length := by rw [← HPK.out]; exact HLE.out
        have hQL : q.length = S.length := HST8.out.sets.len
        have s0 := HBS8.out.two0
        have s1 := HBS8.out.two1
        obtain ⟨w9, hw9⟩ : ∃ w9, w9 = w8.alloc (.cells #[.int .i64 id, .slice a4 l.length c4] 71) := ⟨_, rfl⟩
        have hba : Below w8.heap.size w8 w9 := by rw [hw9]; exact (Below.refl _ _).alloc (Nat.le_refl _) _
        have HST9 := Lib.hid (HST8.out.below_ hba)
        have HO9 := Lib.hid (OwnS.below HO8.out hba)
        have HBV := Lib.hid (show BlkV w9 w8.heap.size 71 #[.int .i64 id, .slice a4 l.length c4] by rw [hw9]; exact BlkV.new _ _ _)
        have HVN := Lib.hid (show (Value.slice a2 S.length c2).ownBlock ≠ some w8.heap.size from fun e => by have := (World.ownsRow.lt HST8.out.sets.out _ e).2; omega)
        have HG1 := Lib.hid (show w.heap.size + 1 + 1 ≤ w9.heap.size from HST9.out.res.lt)
        have HIN := Lib.hid (ins_any (w.heap.size + 1 + 1) a2 S.length c2 k w8.heap.size (.int .i64 id) (.slice a4 l.length c4) (flatX q) w9 (by have h := HST9.out.sets.out; rw [hQL] at h; exact h) hkS hsl HBV.out HVN.out HG1.out rfl rfl HST9.out.sets.one)
        have HZ39 := Lib.hid (show w3.heap.size ≤ w9.heap.size from Nat.le_trans HZ38.out hba.size)
        have HW9 := Lib.hid hw9
        have HQL := Lib.hid hQL
        have HZ9 := Lib.hid (show w9.heap.size = w8.heap.size + 1 by rw [hw9]; simp)
        clear hQL hba hw9
        refine Lib.hid ?_
        go_wp2_with (go_at_call 46; rw [← HW9.out]; (refine HIN.out.mono ?_); rintro e wa ⟨v', rfl, ho, hg, hat⟩; obtain ⟨a9, c9, rfl⟩ := row_shape ho; refine Hid.out ?_)
        have hX := HST9.out.sets.ins (k := k) (id := id) (l := l) (HO9.out.mono (show w.heap.size + 1 + 1 ≤ w3.heap.size by have := HST.out.res.lt; omega))
          (fun j hj => ⟨fun e => by have h1 := (HOL.out j hj).1; have h2 := (World.ownsRow.lt HST.out.sets.out j e).2; omega, fun p hp e => by have h1 := (HOL.out j hj).1; have h2 := (World.ownsRow.lt (HST.out.sets.row p hp) j e).2; omega⟩) hg hat (by rw [HQL.out]; exact hkS) ho
        have hne : ∀ j, (Value.slice a9 (S.length + 1) c9).ownBlock = some j → (Value.slice a2 S.length c2).ownBlock = some j ∨ j = w9.heap.size := fun j hj => by
          rcases hat with h | h
          · exact .inl (h.symm.trans hj)
          · rw [h] at hj; cases hj; exact .inr rfl
        have hm : ∀ p ∈ q.take k ++ ((id, l), .slice a4 l.length c4) :: q.drop k, p = ((id, l), .slice a4 l.length c4) ∨ p ∈ q := fun p hp => by
          rcases List.mem_append.1 hp with h1 | h1
          · exact .inr (List.mem_of_mem_take h1)
          · rcases List.mem_cons.1 h1 with h2 | h2
            · exact .inl h2
            · exact .inr (List.mem_of_mem_drop h2)
        have hbx := HST9.out.box.grown hg (fun e => HST9.out.nbX e.symm)
        have hTl := fun j hj => (World.ownsRow.lt HST.out.tab j hj).2
        have hBl : w.heap.size < w3.heap.size := HST.out.box.lt
        have h39 : w3.heap.size ≤ w9.heap.size := HZ39.out
        have hst := HST9.out.store hg hX
          (fun j hj => ⟨fun e => by
            rcases hne j e with h | h
            · exact (HST9.out.apart j hj).1 h
            · have := (World.ownsRow.lt HST9.out.tab j hj).2; omega, fun p hp e => by
            rcases hm p hp with rfl | h
            · have h1 := (HOL.out j e).1; have := hTl j hj; omega
            · exact (HST9.out.apart j hj).2 p h e⟩)
          (fun e => by
            rcases hne _ e with h | h
            · exact HST9.out.nbX h
            · have := HST9.out.box.lt; omega)
          (fun p hp e => by
            rcases hm p hp with rfl | h
            · have h1 := (HOL.out _ e).1; omega
            · exact HST9.out.nbQ p h e)
        have hRL : (insX S id l).length = S.length + 1 := insX_len S id l
        have HQR := Lib.hid (show setsX (q.take k ++ ((id, l), .slice a4 l.length c4) :: q.drop k) = insX S id l by rw [setsX_ins, HQ.out]; unfold insX; rw [HPK.out])
        rw [← hRL] at hst ⊢
        have HST6' := Lib.hid hst
        clear d0 d1 d2 s0 s1 hX hm ho hg hat hne hTl hBl h39
        have b2 := hbx.three2
        have fb2 := hbx.frozen 2
        have d0 := hst.box.three0
        have d1 := hst.box.three1
        have d2 := hst.box.three2
        have r0 := hst.res.three0
        have r1 := hst.res.three1
        have r2 := hst.res.three2
        have f0 := hst.res.frozen 0
        have f1 := hst.res.frozen 1
        have f2 := hst.res.frozen 2
        clear hst hbx hRL
        refine Lib.hid ?_
        go_wp2
        have z := HST6'.out.end_
        have z0 : _ = some _ := z.three0
        have z1 : _ = some _ := z.three1
        have z2 : _ = some _ := z.three2
        exact bodyPost_ret (v := .tuple #[.agg #[.int .i64 t, .slice a1 T.length c1, .slice a9 (insX S id l).length c9], .bool true]) (by simp [results, Tryz.results16, go_sem, z0, z1, z2]) rfl (HST6'.out.gives HQR.out true)
      · obtain rfl : false = rb := by rw [← HRB.out]; exact (ok_ins_no (.inr (.inr (.inr HHI.out)))).symm
        obtain rfl : S = rS := by rw [← HRS.out]; unfold insR; rw [HRB.out]; rfl
        have r0 := HST8.out.res.three0
        have r1 := HST8.out.res.three1
        have r2 := HST8.out.res.three2
        have f0 := HST8.out.res.frozen 0
        have f1 := HST8.out.res.frozen 1
        have f2 := HST8.out.res.frozen 2
        refine Lib.hid ?_
        go_wp2
        have z := HST8.out.end_
        have z0 : _ = some _ := z.three0
        have z1 : _ = some _ := z.three1
        have z2 : _ = some _ := z.three2
        exact bodyPost_ret (v := .tuple #[.agg #[.int .i64 t, .slice a1 T.length c1, .slice a2 S.length c2], .bool false]) (by simp [results, Tryz.results16, go_sem, z0, z1, z2]) rfl (HST8.out.gives HQ.out false)

end Go.Proofs.YthjbekgognfiiaaGreat
