/-
  What spec.SearchSets answers. By an AI agent.
-/
import Derived.Test.YthjbekgognfiiaaGreatCdI
import Derived.Test.YthjbekgognfiiaaGreatIxV2
namespace Go.Proofs.YthjbekgognfiiaaGreat
open Go.RowKit Go.Maps Go.Sort
set_option linter.unusedVariables false

theorem BlkV.grownS {w w' : World} {g : Nat} {t : TypeId} {cs : Array Value} {r : Option Nat} (h : BlkV w g t cs) (hg : w.grownBy w' r) (hr : r ≠ some g) : BlkV w' g t cs := (hg.block g h.lt (fun e => hr e.symm)).trans h
def upS (P : List Str → Bool) (S : List IS) : List Int := (S.filter fun x => P x.2).map Prod.fst
theorem upS_snoc (P : List Str → Bool) (S : List IS) (k : Nat) (x : IS) (h : S[k]? = some x) : upS P (S.take (k + 1)) = if P x.2 then upS P (S.take k) ++ [x.1] else upS P (S.take k) := by
  unfold upS
  rw [ixs_take h, List.filter_append, List.map_append]
  cases hP : P x.2 <;> simp [List.filter, hP]
theorem upS_len (P : List Str → Bool) (S : List IS) (k : Nat) : (upS P (S.take k)).length ≤ S.length := by
  unfold upS
  rw [List.length_map]
  have h1 := List.length_filter_le (fun x : IS => P x.2) (S.take k)
  rw [List.length_take] at h1
  omega

set_option maxRecDepth 100000 in
set_option maxHeartbeats 4000000 in
theorem ss_spec (t : Int) (ta : Option Addr) (tc : Nat) (T : List TC) (xa : Option Addr) (xc : Nat) (S : List IS) (a : Option Addr) (c : Nat) (l : List Str) (r : List Int) (w : World) (hr : searR t T S l = r) (h : SmIx w ta T tc xa S xc) (hl : Sm w a l c) :
    Calls Tryz.prog 11 #[.agg #[.int .i64 t, .slice ta T.length tc, .slice xa S.length xc], .slice a l.length c] w (GivesIds w r) := by
  obtain ⟨w1, hw1⟩ : ∃ w1, w1 = (w.alloc (.cells #[.int .i64 t, .slice ta T.length tc, .slice xa S.length xc] 27)).alloc (.cells #[] 3) := ⟨_, rfl⟩
  have HW1 := Lib.hid hw1
  have HB1 := Lib.hid (show Below w.heap.size w w1 by rw [hw1]; exact ((Below.refl w.heap.size w).alloc (Nat.le_refl _) _).alloc (by simp) _)
  have HR1 := Lib.hid (show BlkV w1 w.heap.size 27 #[.int .i64 t, .slice ta T.length tc, .slice xa S.length xc] by rw [hw1]; exact (BlkV.new _ _ _).alloc _)
  have HO1 := Lib.hid (show OwnI w1 (w.heap.size + 1) (.slice (some ⟨w.heap.size + 1, 0, none⟩) 0 0) [] by
    rw [hw1]
    have := World.ownsRow_made (w.alloc (.cells #[.int .i64 t, .slice ta T.length tc, .slice xa S.length xc] 27)) (base := w.heap.size + 1) (e := 3) (size := 1) #[] 0 (by simp) (Nat.zero_le _) (by simp)
    simpa [OwnI] using this)
  have HZ1 := Lib.hid (show w1.heap.size = w.heap.size + 2 by rw [hw1]; simp)
  have HXW := Lib.hid h
  have HSW := Lib.hid hl
  have hsl : S.length ≤ 4000000 := h.sets.2.2.2.1
  obtain ⟨rb, hrb⟩ : ∃ b, ixB t T S = b := ⟨_, rfl⟩
  have HRB := Lib.hid hrb
  have HR := Lib.hid hr
  clear h hl hw1 hrb hr
  have HI := Lib.hid (fun (W : World) (hW : Below w.heap.size w W) => ix_spec t ta tc T xa xc S rb W HRB.out (HXW.out.below hW))
  go_enter Tryz.func11, Tryz.ntmps11
  go_wp2
  rw [← HW1.out]
  go_loopw [5, 6] (fun v i wr => ∃ k : Nat, k ≤ S.length ∧ i = .int .i64 k ∧ (rb = true ∨ k = 0) ∧ OwnI wr (w.heap.size + 1) v (upS (fun x => meetR x l t) (S.take k)) ∧ BlkV wr w.heap.size 27 #[.int .i64 t, .slice ta T.length tc, .slice xa S.length xc] ∧ Below w.heap.size w wr ∧ w.heap.size + 1 ≤ wr.heap.size) (fun _ i _ => S.length - (intOf i).toNat)
  case atStart => exact ⟨0, Nat.zero_le _, rfl, .inr rfl, HO1.out, HR1.out, HB1.out, by have := HZ1.out; omega⟩
  case round =>
    obtain ⟨k, hk, rfl, hrk, hO, hB, hW, hsz⟩ := hrel
    have HO := Lib.hid hO
    have HB := Lib.hid hB
    have HW := Lib.hid hW
    clear hO hB hW
    have q0 := HB.out.three0
    have q1 := HB.out.three1
    have q2 := HB.out.three2
    obtain ⟨av, cv, rfl⟩ := OwnI.shape HO.out
    by_cases hlt : k < S.length
    · cases rb
      · obtain rfl : k = 0 := by rcases hrk with h | h; cases h; exact h
        obtain rfl : [] = r := by rw [← HR.out]; unfold searR; rw [HRB.out]; rfl
        go_wp2_with (go_at_call 34; (refine (HI.out _ HW.out).mono ?_); rintro e w2 ⟨rfl, hb⟩; have HB2 := Lib.hid (HW.out.trans (hb.mono HW.out.size)); have HO2 := Lib.hid (HO.out.below hb); clear hb)
        go_ret
        exact ⟨_, _, rfl, HO2.out.mono (by omega), HB2.out⟩
      · go_wp2_with (go_at_call 34; (refine (HI.out _ HW.out).mono ?_); rintro e w2 ⟨rfl, hb⟩; refine Hid.out ?_)
        have HW2 := Lib.hid (HW.out.trans (hb.mono HW.out.size))
        have HO2 := Lib.hid (HO.out.below hb)
        have HB2 := Lib.hid (HB.out.below hb)
        have hs2 : w.heap.size + 1 ≤ w2.heap.size := Nat.le_trans hsz hb.size
        clear hb q0 q1 q2
        have q0 := HB2.out.three0
        have q2 := HB2.out.three2
        obtain ⟨b, off, x, a', c', rfl, hbl, hx, hc0, hc1, hSm⟩ := (HXW.out.below HW2.out).sets.at_ hlt
        have HX := Lib.hid hx
        have HBL := Lib.hid hbl
        have HLEN := Lib.hid (upS_len (fun x => meetR x l t) S k)
        have HNX := Lib.hid (upS_snoc (fun x => meetR x l t) S k x hx)
        obtain ⟨bm, hbm⟩ : ∃ bm, meetR x.2 l t = bm := ⟨_, rfl⟩
        have HBM := Lib.hid hbm
        have HM := Lib.hid (fun (W : World) (hW : Below w2.heap.size w2 W) => meet_spec a' a c' c x.2 l t W (hSm.below hW) ((HSW.out.below HW2.out).below hW))
        rw [hbm] at HM
        have HC0 := Lib.hid hc0
        have HC1 := Lib.hid hc1
        clear hx hSm hbl hbm
        refine Lib.hid ?_
        cases bm
        · go_wp2
          go_region_with (go_at_call 39; refine (HM.out _ (Below.refl _ _).drew).mono ?_; rintro e w3 ⟨rfl, hb3⟩; have hb4 := undrew hb3; have HB3 := Lib.hid (HB2.out.below hb4); have HO3 := Lib.hid (HO2.out.below hb4); have HW3 := Lib.hid (HW2.out.trans (hb4.mono HW2.out.size)); have HS3 := Lib.hid (Nat.le_trans hs2 hb4.size); clear hb3 hb4)
          all_goals go_wp2
          all_goals go_roundw
          all_goals first
            | (case rel => exact ⟨k + 1, by omega, by go_num, (by simp), by rw [HNX.out, if_neg (by rw [HBM.out]; simp)]; exact HO3.out, HB3.out, HW3.out, HS3.out⟩)
            | skip
          all_goals (simp [intOf]; omega)
        · go_wp2
          go_region_with (go_at_call 39; refine (HM.out _ (Below.refl _ _).drew).mono ?_; rintro e w3 ⟨rfl, hb3⟩; have hb4 := undrew hb3; have HB3 := Lib.hid (HB2.out.below hb4); have HO3 := Lib.hid (HO2.out.below hb4); have HW3 := Lib.hid (HW2.out.trans (hb4.mono HW2.out.size)); have HS3 := Lib.hid (Nat.le_trans hs2 hb4.size); have d0 := (hb4.cell (p := ⟨b, off + k * 2, none⟩) HBL.out).trans HC0.out; have u0 := HB3.out.three0; have u2 := HB3.out.three2; clear hb3 hb4)
          all_goals (go_wp2_with (at_builtin; refine append_i rfl _ _ rfl (w.heap.size + 1) _ _ x.1 HO3.out rfl rfl (by have := HLEN.out; omega) HS3.out ?_; intro v' w7 ho7 hg7 hv7))
          all_goals go_roundw
          all_goals first
            | (case rel =>
                have hgs := hg7.size
                have hs3 := HS3.out
                refine ⟨k + 1, by omega, by go_num, (by simp), ?_, HB3.out.grownS hg7 (fun e => by have := (World.ownsRow.lt HO3.out _ e).1; omega), HW3.out.grown hg7 HW3.out.size (fun j hj => by have := (World.ownsRow.lt HO3.out _ hj).1; omega), by omega⟩
                rw [HNX.out, if_pos HBM.out]
                exact ho7)
            | skip
          all_goals (simp [intOf]; omega)
    · obtain rfl : k = S.length := by omega
      go_wp2
      have h := HO.out
      rw [List.take_length] at h
      have e : upS (fun x => meetR x l t) S = r := by
        rw [← HR.out]
        unfold searR
        rcases hrk with h1 | h1
        · rw [HRB.out, if_pos h1]; rfl
        · obtain rfl := List.eq_nil_of_length_eq_zero h1
          simp [upS]
      rw [List.take_length]
      rw [e] at h ⊢
      go_ret
      exact ⟨_, _, rfl, h.mono (by omega), HW.out⟩

end Go.Proofs.YthjbekgognfiiaaGreat
