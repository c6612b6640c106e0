/-
  What impl.RemoveSet hands back. By an AI agent.
-/
import Derived.Test.YthjbekgognfiiaaGreatIxM
import Derived.Test.YthjbekgognfiiaaGreatIxP
import Derived.Test.YthjbekgognfiiaaGreatJ11
namespace Go.Proofs.YthjbekgognfiiaaGreat
open Go.RowKit
set_option linter.unusedVariables false

theorem pl_has {S : List IS} {id : Int} (ha : AscX S) (h : hasId S id = true) : plX S id < S.length := by
  unfold hasId at h
  obtain ⟨x, hx, he⟩ := List.any_eq_true.1 h
  obtain ⟨k, hk⟩ := List.getElem?_of_mem hx
  rw [pl_of_has ha hk (by simpa using he)]
  exact (List.getElem?_eq_some_iff.1 hk).1
theorem setsX_cut (q : List XS) (k : Nat) : setsX (q.take k ++ q.drop (k + 1)) = (setsX q).eraseIdx k := by
  rw [List.eraseIdx_eq_take_drop_succ]
  simp [setsX]

theorem toks_cons (x : IS) (S : List IS) : (toksX (x :: S)).flatten.length = x.2.length + (toksX S).flatten.length := by simp only [toksX, List.map_cons, List.flatten_cons, List.length_append]
theorem toks_erase : ∀ (S : List IS) (k : Nat), (toksX (S.eraseIdx k)).flatten.length ≤ (toksX S).flatten.length
  | [], k => by simp
  | x :: S, 0 => by rw [List.eraseIdx_cons_zero, toks_cons]; omega
  | x :: S, k + 1 => by rw [List.eraseIdx_cons_succ, toks_cons, toks_cons]; have := toks_erase S k; omega
theorem rem_bnd {T : List TC} {S : List IS} (t id : Int) (h : ixz T S ≤ 1048576) : BndX T (remR t T S id) := by
  unfold remR
  split
  · have h1 := bnd_of h
    have h2 := toks_erase S (plX S id)
    have h3 : (S.eraseIdx (plX S id)).length ≤ S.length := (List.eraseIdx_sublist ..).length_le
    unfold BndX ixn remX at *
    omega
  · exact bnd_of h

set_option maxRecDepth 100000 in
set_option maxHeartbeats 4000000 in
theorem rem_impl (t : Int) (ta : Option Addr) (tc : Nat) (T : List TC) (xa : Option Addr) (xc : Nat) (S : List IS) (id : Int) (rt : Int) (rT : List TC) (rS : List IS) (rb : Bool) (w : World) (hrt : t = rt) (hrT : T = rT) (hrS : remR t T S id = rS) (hrb : okRem t T S id = rb) (h : SmIx w ta T tc xa S xc) :
    Calls Tryz.prog 18 #[.agg #[.int .i64 t, .slice ta T.length tc, .slice xa S.length xc], .int .i64 id] w (GivesIB w rt rT rS rb) := by
  obtain rfl := hrt
  obtain rfl := hrT
  have HRS := Lib.hid hrS
  have HRB := Lib.hid hrb
  obtain ⟨w1, hw1⟩ : ∃ w1, w1 = (w.alloc (.cells #[.int .i64 t, .slice ta T.length tc, .slice xa S.length xc] 27)).alloc (.cells #[.int .i64 0, .slice none 0 0, .slice none 0 0] 27) := ⟨_, rfl⟩
  have HW1 := Lib.hid hw1
  have HB1 := Lib.hid (show Below w.heap.size w w1 by rw [hw1]; exact ((Below.refl w.heap.size w).alloc (Nat.le_refl _) _).alloc (by simp) _)
  have HBX := Lib.hid (show BlkV w1 w.heap.size 27 #[.int .i64 t, .slice ta T.length tc, .slice xa S.length xc] by rw [hw1]; exact (BlkV.new _ _ _).alloc _)
  have HRC := Lib.hid (show BlkV w1 (w.heap.size + 1) 27 #[.int .i64 0, .slice none 0 0, .slice none 0 0] by rw [hw1]; exact BlkV.new_ _ _ _ _ (by simp))
  have HS1 := Lib.hid (show w1.heap.size = w.heap.size + 2 by rw [hw1]; simp)
  have HH := Lib.hid h
  have HCP := Lib.hid (copy_impl t ta tc T xa xc S w1 (h.below HB1.out))
  have hsl : S.length ≤ 4000000 := h.sets.2.2.2.1
  obtain ⟨iv, hiv⟩ : ∃ b, ixB t T S = b := ⟨_, rfl⟩
  have HIV := Lib.hid hiv
  clear h hw1 hrS hrb hiv
  go_enter Tryz.func18, Tryz.ntmps18
  go_wp2_with (go_at_call 42; rw [← HW1.out]; (refine HCP.out.mono ?_); rintro e w2 ⟨a1, c1, a2, c2, q, rfl, hq, ho, hb⟩; refine Hid.out ?_)
  have HQ := Lib.hid hq
  have hst := ixst_impl (t := t) HS1.out HB1.out HBX.out HRC.out ho hb
  have b0 := (HBX.out.below hb).three0
  have b1 := (HBX.out.below hb).three1
  have b2 := (HBX.out.below hb).three2
  have fb0 := (HBX.out.below hb).frozen 0
  have fb1 := (HBX.out.below hb).frozen 1
  have fb2 := (HBX.out.below hb).frozen 2
  obtain ⟨w3, hw3⟩ : ∃ w3, w3 = ((w2.setCell ⟨w.heap.size, 0, none⟩ (.int .i64 t)).setCell ⟨w.heap.size, 1, none⟩ (.slice a1 T.length c1)).setCell ⟨w.heap.size, 2, none⟩ (.slice a2 S.length c2) := ⟨_, rfl⟩
  rw [← hw3] at hst
  have HW3 := Lib.hid hw3
  have HST := Lib.hid hst
  have HIX := Lib.hid (ix_impl t a1 c1 T a2 c2 S iv w3 HIV.out (hst.sm hq HH.out))
  clear hq ho hb hst hw3
  have d0 := HST.out.box.three0
  have d1 := HST.out.box.three1
  have d2 := HST.out.box.three2
  rw [HW3.out] at d0 d1 d2
  refine Lib.hid ?_
  go_wp2_with (go_at_call 19; rw [← HW3.out]; (refine HIX.out.mono ?_); rintro e w4 ⟨rfl, hb⟩; refine Hid.out ?_)
  have HST4 := Lib.hid (HST.out.below_ hb)
  clear hb b0 b1 b2 fb0 fb1 fb2 d0 d1 d2
  have d0 := HST4.out.box.three0
  have d1 := HST4.out.box.three1
  have d2 := HST4.out.box.three2
  have r0 := HST4.out.res.three0
  have r1 := HST4.out.res.three1
  have r2 := HST4.out.res.three2
  have f0 := HST4.out.res.frozen 0
  have f1 := HST4.out.res.frozen 1
  have f2 := HST4.out.res.frozen 2
  cases iv
  · obtain rfl : false = rb := by rw [← HRB.out]; unfold okRem; rw [HIV.out]; rfl
    obtain rfl : S = rS := by rw [← HRS.out]; unfold remR; rw [HRB.out]; rfl
    refine Lib.hid ?_
    go_wp2
    have z := HST4.out.end_
    have z0 : _ = some _ := z.three0
    have z1 : _ = some _ := z.three1
    have z2 : _ = some _ := z.three2
    exact bodyPost_ret (v := .tuple #[.agg #[.int .i64 t, .slice a1 T.length c1, .slice a2 S.length c2], .bool false]) (by simp [results, Tryz.results18, go_sem, z0, z1, z2]) rfl (HST4.out.gives HQ.out false)
  · have HAS := Lib.hid (ixB_parts HIV.out).2.2.2.2
    have HPL := Lib.hid (place_any t a1 T.length c1 a2 c2 S id w4 HAS.out (by have h := HST4.out.sets.inX; rw [HQ.out] at h; exact h) hsl)
    have HK := Lib.hid (fun h => pl_has (id := id) HAS.out h)
    obtain ⟨hi, hhi⟩ : ∃ b, hasId S id = b := ⟨_, rfl⟩
    obtain ⟨k, hk⟩ : ∃ k, plX S id = k := ⟨_, rfl⟩
    have HHI := Lib.hid hhi
    have HPK := Lib.hid hk
    rw [hhi, hk] at HPL
    clear hhi hk
    refine Lib.hid ?_
    go_wp2_with (go_at_call 45; (refine HPL.out.mono ?_); rintro e w5 ⟨rfl, hb⟩; refine Hid.out ?_)
    have HST5 := Lib.hid (HST4.out.below_ hb)
    clear hb d0 d1 d2 r0 r1 r2 f0 f1 f2
    have d0 := HST5.out.box.three0
    have d1 := HST5.out.box.three1
    have d2 := HST5.out.box.three2
    have r0 := HST5.out.res.three0
    have r1 := HST5.out.res.three1
    have r2 := HST5.out.res.three2
    have f0 := HST5.out.res.frozen 0
    have f1 := HST5.out.res.frozen 1
    have f2 := HST5.out.res.frozen 2
    have fb2 := HST5.out.box.frozen 2
    cases hi
    · obtain rfl : false = rb := by rw [← HRB.out]; unfold okRem; rw [HIV.out, HHI.out]; rfl
      obtain rfl : S = rS := by rw [← HRS.out]; unfold remR; rw [HRB.out]; rfl
      refine Lib.hid ?_
      go_wp2
      have z := HST5.out.end_
      have z0 : _ = some _ := z.three0
      have z1 : _ = some _ := z.three1
      have z2 : _ = some _ := z.three2
      exact bodyPost_ret (v := .tuple #[.agg #[.int .i64 t, .slice a1 T.length c1, .slice a2 S.length c2], .bool false]) (by simp [results, Tryz.results18, go_sem, z0, z1, z2]) rfl (HST5.out.gives HQ.out false)
    · obtain rfl : true = rb := by rw [← HRB.out]; unfold okRem; rw [HIV.out, HHI.out]; rfl
      obtain rfl : remX S id = rS := by rw [← HRS.out]; unfold remR; rw [HRB.out, if_pos rfl]
      have hkS : k < S.length := by rw [← HPK.out]; exact HK.out HHI.out
      have hQL : q.length = S.length := HST5.out.sets.len
      have HDE := Lib.hid (del_any (w.heap.size + 1 + 1) a2 S.length c2 k (flatX q) w5 (by have h := HST5.out.sets.out; rw [hQL] at h; exact h) hkS hsl HST5.out.sets.one)
      have hw1 : IntKind.i64.wrap ((k : Int) + 1) = (k : Int) + 1 := by rw [IntKind.wrap_i64]; omega
      have HQL := Lib.hid hQL
      clear hQL
      refine Lib.hid ?_
      go_wp2_with (go_at_call 49; (refine HDE.out.mono ?_); rintro e w6 ⟨rfl, ho, hg⟩; refine Hid.out ?_)
      have hX := HST5.out.sets.cut hg (by rw [HQL.out]; exact hkS) ho
      have hm : ∀ p ∈ q.take k ++ q.drop (k + 1), p ∈ q := fun p hp => by
        rcases List.mem_append.1 hp with h1 | h1
        · exact List.mem_of_mem_take h1
        · exact List.mem_of_mem_drop h1
      have hbx := HST5.out.box.grown hg (fun e => HST5.out.nbX e.symm)
      have hst := HST5.out.store hg hX (fun j hj => ⟨fun e => (HST5.out.apart j hj).1 ((own_same _ _ _ _ _).trans e), fun p hp => (HST5.out.apart j hj).2 p (hm p hp)⟩) (fun e => HST5.out.nbX ((own_same _ _ _ _ _).trans e)) (fun p hp => HST5.out.nbQ p (hm p hp))
      have hRL : (remX S id).length = S.length - 1 := by unfold remX; rw [List.length_eraseIdx, HPK.out, if_pos hkS]
      have HQR := Lib.hid (show setsX (q.take k ++ q.drop (k + 1)) = remX S id by rw [setsX_cut, HQ.out]; unfold remX; rw [HPK.out])
      rw [← hRL] at hst ⊢
      have HST6 := Lib.hid hst
      clear d0 d1 d2 r0 r1 r2 f0 f1 f2 fb2 hX hm ho hg
      have b2 := hbx.three2
      have fb2 := hbx.frozen 2
      have d0 := hst.box.three0
      have d1 := hst.box.three1
      have d2 := hst.box.three2
      have r0 := hst.res.three0
      have r1 := hst.res.three1
      have r2 := hst.res.three2
      have f0 := hst.res.frozen 0
      have f1 := hst.res.frozen 1
      have f2 := hst.res.frozen 2
      clear hst hbx hRL
      refine Lib.hid ?_
      go_wp2
      have z := HST6.out.end_
      have z0 : _ = some _ := z.three0
      have z1 : _ = some _ := z.three1
      have z2 : _ = some _ := z.three2
      exact bodyPost_ret (v := .tuple #[.agg #[.int .i64 t, .slice a1 T.length c1, .slice a2 (remX S id).length c2], .bool true]) (by simp [results, Tryz.results18, go_sem, z0, z1, z2]) rfl (HST6.out.gives HQR.out true)

end Go.Proofs.YthjbekgognfiiaaGreat
