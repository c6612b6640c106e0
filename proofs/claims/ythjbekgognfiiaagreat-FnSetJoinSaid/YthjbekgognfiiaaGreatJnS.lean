/-
  What spec.JoinSets answers. By an AI agent.
-/
import Derived.Test.YthjbekgognfiiaaGreatJnI
import Derived.Test.YthjbekgognfiiaaGreatIxV2
import Derived.Deep.RegionHeld3
import Derived.Deep.AppendLies
namespace Go.Proofs.YthjbekgognfiiaaGreat
open Go.RowKit Go.Maps Go.Sort
set_option linter.unusedVariables false

theorem BlkV.grownJ {w w' : World} {g : Nat} {t : TypeId} {cs : Array Value} {r : Option Nat} (h : BlkV w g t cs) (hg : w.grownBy w' r) (hr : r ≠ some g) : BlkV w' g t cs := (hg.block g h.lt (fun e => hr e.symm)).trans h
noncomputable def laterP (t : Int) (x : IS) (D : List IS) : List (Int × Int) := (D.filter fun y => meetR x.2 y.2 t).map fun y => (x.1, y.1)
theorem laterP_snoc {t : Int} {x : IS} {D : List IS} {m : Nat} {y : IS} (h : D[m]? = some y) : laterP t x (D.take (m + 1)) = if meetR x.2 y.2 t then laterP t x (D.take m) ++ [(x.1, y.1)] else laterP t x (D.take m) := by
  unfold laterP
  rw [ixs_take h, List.filter_append, List.map_append]
  cases hP : meetR x.2 y.2 t <;> simp [List.filter, hP]
theorem laterP_len (t : Int) (x : IS) (D : List IS) (m : Nat) : (laterP t x (D.take m)).length ≤ (laterP t x D).length := by
  unfold laterP
  rw [List.length_map, List.length_map]
  exact ((List.take_sublist m D).filter _).length_le

/-- append of one pair inside a statement whose order is open -/
theorem step_pair {ops : Array Oper} {o : Oper} {a : Act} {K : Act → World → Prop} {Q : Exit → Act → World → Prop} {E : Prop} {w0 : World} (hgd : o.guard = none) (s y : Operand)
    (ho : o.op = .call { callee := .builtin .append, args := #[s, y], argTypes := #[35, 35] })
    (base : Nat) (v : Value) (l : List (Int × Int)) (x1 x2 : Int) (hown : OwnP w0 base v l) (hs : a.eval s = v)
    (hy : a.eval y = .slice (some ⟨w0.heap.size, 0, none⟩) 1 1) (hlen : l.length ≤ 4000000) (hbase : base ≤ w0.heap.size)
    (h : ∀ v' w', OwnP w' base v' (l ++ [(x1, x2)]) → (w0.alloc (.cells #[.int .i64 x1, .int .i64 x2] 38)).drew.grownBy w' v.ownBlock → K (a.put o.dst v') w') :
    if Region.wanted o (yielded ops a.tmps) = true then Oper.wp Tryz.prog o a (w0.alloc (.cells #[.int .i64 x1, .int .i64 x2] 38)).drew K Q else E := by
  obtain ⟨i0, hi, hz0, hz1, hz2⟩ := info_parts info_ip
  refine step_append_lies _ hgd s y 35 ho base 38 i0 _ 2 16 Tryz.underlying35 hi hz0 hz1 hz2 rfl (by decide) v l.length (flatP l) hs (World.ownsRow.alloc hown _)
    ⟨w0.heap.size, 0, none⟩ 1 1 [.int .i64 x1, .int .i64 x2] hy rfl (World.news_of_block (cs := #[.int .i64 x1, .int .i64 x2]) (t := 38) (fr := (0, 0)) (heap_alloc_new w0 _)) (by simp [Value.oneCell'])
    (by omega) (by unfold maxLen; omega) (by omega) (by simp; omega) (w0.heap.size + 1) (by simp) ?_
  intro g cap w' h2 h3 _ _
  refine h _ w' ?_ h3
  unfold OwnP
  rw [List.length_append, flatP_append]
  exact h2

set_option maxRecDepth 100000 in
set_option maxHeartbeats 4000000 in
theorem jn_spec (t : Int) (ta : Option Addr) (tc : Nat) (T : List TC) (xa : Option Addr) (xc : Nat) (S : List IS) (r : List (Int × Int)) (w : World) (hr : joinR t T S = r) (h : SmIx w ta T tc xa S xc) :
    Calls Tryz.prog 14 #[.agg #[.int .i64 t, .slice ta T.length tc, .slice xa S.length xc]] w (GivesP w r) := by
  obtain ⟨w1, hw1⟩ : ∃ w1, w1 = (w.alloc (.cells #[.int .i64 t, .slice ta T.length tc, .slice xa S.length xc] 27)).alloc (.cells #[] 38) := ⟨_, rfl⟩
  have HW1 := Lib.hid hw1
  have HB1 := Lib.hid (show Below w.heap.size w w1 by rw [hw1]; exact ((Below.refl w.heap.size w).alloc (Nat.le_refl _) _).alloc (by simp) _)
  have HR1 := Lib.hid (show BlkV w1 w.heap.size 27 #[.int .i64 t, .slice ta T.length tc, .slice xa S.length xc] by rw [hw1]; exact (BlkV.new _ _ _).alloc _)
  have HO1 := Lib.hid (show OwnP w1 (w.heap.size + 1) (.slice (some ⟨w.heap.size + 1, 0, none⟩) 0 0) [] by
    rw [hw1]
    have := World.ownsRow_made (w.alloc (.cells #[.int .i64 t, .slice ta T.length tc, .slice xa S.length xc] 27)) (base := w.heap.size + 1) (e := 38) (size := 2) #[] 0 (by simp) (Nat.zero_le _) (by simp)
    simpa [OwnP, flatP] using this)
  have HZ1 := Lib.hid (show w1.heap.size = w.heap.size + 2 by rw [hw1]; simp)
  have HXW := Lib.hid h
  have hsl : S.length ≤ 4000000 := h.sets.2.2.2.1
  obtain ⟨rb, hrb⟩ : ∃ b, ixB t T S = b := ⟨_, rfl⟩
  have HRB := Lib.hid hrb
  have HR := Lib.hid hr
  clear h hw1 hrb hr
  obtain ⟨i1, hi1, hy0, hy1, hy2⟩ := info_parts info_ip
  have HI := Lib.hid (fun (W : World) (hW : Below w.heap.size w W) => ix_spec t ta tc T xa xc S rb W HRB.out (HXW.out.below hW))
  go_enter Tryz.func14, Tryz.ntmps14
  go_wp2
  rw [← HW1.out]
  go_loopw [3, 4] (fun v i wr => ∃ (k : Nat) (out : List (Int × Int)), k ≤ S.length ∧ i = .int .i64 k ∧ (rb = true ∨ (k = 0 ∧ out = [])) ∧ OwnP wr (w.heap.size + 1) v out ∧ out ++ joinL t (S.drop k) = joinL t S ∧ BlkV wr w.heap.size 27 #[.int .i64 t, .slice ta T.length tc, .slice xa S.length xc] ∧ Below w.heap.size w wr ∧ w.heap.size + 1 ≤ wr.heap.size) (fun _ i _ => S.length - (intOf i).toNat)
  case atStart => exact ⟨0, [], Nat.zero_le _, rfl, .inr ⟨rfl, rfl⟩, HO1.out, by simp, HR1.out, HB1.out, by have := HZ1.out; omega⟩
  case round =>
    obtain ⟨k, out, hk, rfl, hrk, hO, hJ, hB, hW, hsz⟩ := hrel
    obtain ⟨av, cv, rfl⟩ := hO.shape
    have HO := Lib.hid hO
    have HJ := Lib.hid hJ
    have HB := Lib.hid hB
    have HW := Lib.hid hW
    clear hO hJ hB hW
    have q0 := HB.out.three0
    have q1 := HB.out.three1
    have q2 := HB.out.three2
    by_cases hlt : k < S.length
    · cases rb
      · obtain ⟨rfl, rfl⟩ : k = 0 ∧ out = [] := by rcases hrk with h | h; cases h; exact h
        obtain rfl : [] = r := by rw [← HR.out]; unfold joinR; rw [HRB.out]; rfl
        go_wp2_with (go_at_call 34; (refine (HI.out _ HW.out).mono ?_); rintro e w2 ⟨rfl, hb⟩; have HB2 := Lib.hid (HW.out.trans (hb.mono HW.out.size)); have HO2 := Lib.hid (HO.out.below hb); clear hb)
        go_ret
        exact ⟨_, _, rfl, HO2.out.mono (by omega), HB2.out⟩
      · go_wp2_with (go_at_call 34; (refine (HI.out _ HW.out).mono ?_); rintro e w2 ⟨rfl, hb⟩; refine Hid.out ?_)
        have HW2 := Lib.hid (HW.out.trans (hb.mono HW.out.size))
        have HO2 := Lib.hid (HO.out.below hb)
        have HB2 := Lib.hid (HB.out.below hb)
        have hs2 : w.heap.size + 1 ≤ w2.heap.size := Nat.le_trans hsz hb.size
        obtain ⟨x, hx⟩ : ∃ x, S[k]? = some x := ⟨_, List.getElem?_eq_getElem hlt⟩
        have HX := Lib.hid hx
        obtain ⟨D, hD⟩ : ∃ D, S.drop (k + 1) = D := ⟨_, rfl⟩
        have HD := Lib.hid hD
        have hDl : D.length = S.length - (k + 1) := by rw [← hD]; simp
        have HJ2 := Lib.hid (show out ++ laterP t x D ++ joinL t D = joinL t S by
          rw [← HJ.out, joinL_drop hx, List.append_assoc, hD]; rfl)
        have HLI := Lib.hid (show out.length + (laterP t x D).length ≤ 144 by
          have h1 := congrArg List.length HJ2.out
          have h2 := joinL_len t S
          have h3 := (ixB_parts HRB.out).2.2.1
          have h4 : S.length * S.length ≤ 144 := Nat.mul_le_mul h3 h3
          simp only [List.length_append] at h1
          omega)
        clear hb q0 q1 q2 hx hD
        refine Lib.hid ?_
        go_wp2
        go_loopw [3, 5] (fun v i wr => ∃ m j : Nat, m ≤ D.length ∧ j = k + 1 + m ∧ i = .int .i64 (j : Int) ∧ OwnP wr (w.heap.size + 1) v (out ++ laterP t x (D.take m)) ∧ BlkV wr w.heap.size 27 #[.int .i64 t, .slice ta T.length tc, .slice xa S.length xc] ∧ Below w.heap.size w wr ∧ w.heap.size + 1 ≤ wr.heap.size) (fun _ i _ => S.length - (intOf i).toNat)
        case atStart => exact ⟨0, k + 1, Nat.zero_le _, rfl, by simp, by simpa [laterP] using HO2.out, HB2.out, HW2.out, hs2⟩
        case round =>
          obtain ⟨m, j, hm, hjm, rfl, hO, hB, hW, hsz3⟩ := hrel
          obtain ⟨aw, cw, rfl⟩ := hO.shape
          have HO3 := Lib.hid hO
          have HB3 := Lib.hid hB
          have HW3 := Lib.hid hW
          have HJM := Lib.hid hjm
          clear hO hB hW hjm
          have q0 := HB3.out.three0
          have q2 := HB3.out.three2
          by_cases hltm : m < D.length
          · obtain ⟨b, off, x', a', c', rfl, hbl, hx1, hc0, hc1, hSm⟩ := (HXW.out.below HW3.out).sets.at_ hlt
            obtain rfl : x' = x := by have := HX.out; rw [hx1] at this; exact Option.some.inj this
            obtain ⟨b', off', y, a2, c2, e2, _, hy1, hd0, hd1, hSy⟩ := (HXW.out.below HW3.out).sets.at_ (show j < S.length by have := HJM.out; omega)
            injection e2 with e2
            injection e2 with e3 e4
            subst e3 e4
            have HNX := Lib.hid (laterP_snoc (t := t) (x := x') (D := D) (m := m) (y := y) (by rw [← HD.out, List.getElem?_drop, ← HJM.out]; exact hy1))
            have HLN := Lib.hid (laterP_len t x' D m)
            obtain ⟨bm, hbm⟩ : ∃ bm, meetR x'.2 y.2 t = bm := ⟨_, rfl⟩
            have HBM := Lib.hid hbm
            have HM := Lib.hid (fun (W : World) (hW : Below wr.heap.size wr W) => meet_spec a' a2 c' c2 x'.2 y.2 t W (hSm.below hW) (hSy.below hW))
            rw [hbm] at HM
            have HBL := Lib.hid hbl
            have HBW := Lib.hid (show b < w.heap.size by obtain ⟨b3, o3, _, _, _, e3, h3, _⟩ := HXW.out.sets.at_ hlt; injection e3 with e3; injection e3 with e4 _; rw [e4]; exact h3)
            have HC0 := Lib.hid hc0
            have HD0 := Lib.hid hd0
            have hli := HLI.out
            have hjs : j < S.length := by have := HJM.out; omega
            clear hx1 hy1 hSm hSy hbl hbm
            cases bm
            · go_wp2_with (fail)
              go_region_held3 (fun w' => w'.cell? ⟨w.heap.size, 0, none⟩ = some (.int .i64 t) ∧ w'.cell? ⟨w.heap.size, 2, none⟩ = some (.slice (some ⟨b, off, none⟩) S.length xc) ∧ w'.cell? ⟨b, off + k * 2 + 1, none⟩ = some (.slice a' x'.2.length c') ∧ w'.cell? ⟨b, off + j * 2 + 1, none⟩ = some (.slice a2 y.2.length c2))
                (first | exact ⟨u0, u2, u3, u4⟩ | exact ⟨q0, q2, hc1, hd1⟩)
                ((go_at_call 39; (with_reducible refine (HM.out _ (Below.refl _ _).drew).mono ?_); rintro e w4 ⟨rfl, hb4⟩; have hb5 := undrew hb4; have HB4 := Lib.hid (HB3.out.below hb5); have HO4 := Lib.hid (HO3.out.below hb5); have HW4 := Lib.hid (HW3.out.trans (hb5.mono HW3.out.size)); have HS4 := Lib.hid (Nat.le_trans hsz3 hb5.size); have u0 := HB4.out.three0; have u2 := HB4.out.three2; have u3 := (hb5.cell (p := ⟨b, off + k * 2 + 1, none⟩) HBL.out).trans hc1; have u4 := (hb5.cell (p := ⟨b, off + j * 2 + 1, none⟩) HBL.out).trans hd1; have d0 := (hb5.cell (p := ⟨b, off + k * 2, none⟩) HBL.out).trans HC0.out; have d1 := (hb5.cell (p := ⟨b, off + j * 2, none⟩) HBL.out).trans HD0.out; clear hb4 hb5))
              all_goals go_wp2
              all_goals go_roundw
              all_goals first
                | (case rel => exact ⟨m + 1, j + 1, by omega, by have := HJM.out; omega, by go_num, by rw [HNX.out, if_neg (by rw [HBM.out]; simp)]; have h := HO4.out; rw [List.length_append] at h; exact h, HB4.out, HW4.out, HS4.out⟩)
                | skip
              all_goals (simp [intOf]; omega)
            · go_wp2_with (fail)
              go_region_held3 (fun w' => w'.cell? ⟨w.heap.size, 0, none⟩ = some (.int .i64 t) ∧ w'.cell? ⟨w.heap.size, 2, none⟩ = some (.slice (some ⟨b, off, none⟩) S.length xc) ∧ w'.cell? ⟨b, off + k * 2 + 1, none⟩ = some (.slice a' x'.2.length c') ∧ w'.cell? ⟨b, off + j * 2 + 1, none⟩ = some (.slice a2 y.2.length c2))
                (first | exact ⟨u0, u2, u3, u4⟩ | exact ⟨q0, q2, hc1, hd1⟩)
                ((go_at_call 39; (with_reducible refine (HM.out _ (Below.refl _ _).drew).mono ?_); rintro e w4 ⟨rfl, hb4⟩; have hb5 := undrew hb4; have HB4 := Lib.hid (HB3.out.below hb5); have HO4 := Lib.hid (HO3.out.below hb5); have HW4 := Lib.hid (HW3.out.trans (hb5.mono HW3.out.size)); have HS4 := Lib.hid (Nat.le_trans hsz3 hb5.size); have u0 := HB4.out.three0; have u2 := HB4.out.three2; have u3 := (hb5.cell (p := ⟨b, off + k * 2 + 1, none⟩) HBL.out).trans hc1; have u4 := (hb5.cell (p := ⟨b, off + j * 2 + 1, none⟩) HBL.out).trans hd1; have d0 := (hb5.cell (p := ⟨b, off + k * 2, none⟩) HBL.out).trans HC0.out; have d1 := (hb5.cell (p := ⟨b, off + j * 2, none⟩) HBL.out).trans HD0.out; clear hb4 hb5))
              all_goals go_wp2
              all_goals
                have hbd := (((Below.refl w4.heap.size w4).alloc (Nat.le_refl _) (.cells #[.int .i64 x'.1, .int .i64 y.1] 38)).drew)
                have hbl4 : b < w4.heap.size := by have := HBW.out; have := HS4.out; omega
                have r2 := (HB4.out.below hbd).three2
                have r0 := (hbd.cell (p := ⟨b, off + k * 2, none⟩) hbl4).trans d0
                have r1 := (hbd.cell (p := ⟨b, off + j * 2, none⟩) hbl4).trans d1
                have HO5 := Lib.hid (show OwnP w4 (w.heap.size + 1) (.slice aw (out.length + (laterP t x' (D.take m)).length) cw) (out ++ laterP t x' (D.take m)) by have h := HO4.out; rw [List.length_append] at h; exact h)
                have HOB := Lib.hid (show ∀ jj, (Value.slice aw (out.length + (laterP t x' (D.take m)).length) cw).ownBlock = some jj → w.heap.size + 1 ≤ jj from fun jj hjj => (World.ownsRow.lt HO5.out jj hjj).1)
              all_goals (go_region_held3 (fun w' => w'.cell? ⟨w.heap.size, 2, none⟩ = some (.slice (some ⟨b, off, none⟩) S.length xc) ∧ w'.cell? ⟨b, off + k * 2, none⟩ = some (.int .i64 x'.1) ∧ w'.cell? ⟨b, off + j * 2, none⟩ = some (.int .i64 y.1))
                (first | exact ⟨u2, d0, d1⟩ | exact ⟨r2, r0, r1⟩ | exact ⟨t2, t0, t1⟩)
                ((refine step_pair rfl _ _ rfl (w.heap.size + 1) _ _ x'.1 y.1 HO5.out rfl rfl (by have := HLN.out; simp; omega) HS4.out ?_; intro v' w9 hown' hg9; have HO9 := Lib.hid hown'; have HG9 := Lib.hid hg9; have t2 := ((HB4.out.below hbd).grownJ hg9 (fun e => by have := HOB.out _ e; omega)).three2; have t0 := (World.cell?_of_block (hg9.block b (Nat.lt_of_lt_of_le hbl4 hbd.size) (fun e => by have := HOB.out b e.symm; have := HBW.out; omega))).trans r0; have t1 := (World.cell?_of_block (hg9.block b (Nat.lt_of_lt_of_le hbl4 hbd.size) (fun e => by have := HOB.out b e.symm; have := HBW.out; omega))).trans r1; clear hown' hg9)))
              all_goals go_wp2
              all_goals go_roundw
              all_goals first
                | (case rel =>
                    have hs4 := HS4.out
                    have hgs := HG9.out.size
                    have hba := hbd
                    refine ⟨m + 1, j + 1, by omega, by have := HJM.out; omega, by go_num, ?_, (HB4.out.below hba).grownJ HG9.out (fun e => by have := HOB.out _ e; omega), (HW4.out.trans (hba.mono HW4.out.size)).grown HG9.out (Nat.le_trans HW4.out.size hba.size) (fun jj hjj => by have := HOB.out _ hjj; omega), by have := hba.size; omega⟩
                    rw [HNX.out, if_pos HBM.out, ← List.append_assoc]
                    exact HO9.out)
                | skip
              all_goals (simp [intOf]; omega)
          · obtain rfl : m = D.length := by omega
            obtain rfl : j = S.length := by have := HJM.out; omega
            clear HJM
            go_wp2
            go_roundw
            case rel =>
              refine ⟨k + 1, out ++ laterP t x D, by omega, by go_num, (by simp), ?_, ?_, HB3.out, HW3.out, hsz3⟩
              · have h := HO3.out
                rw [List.take_length] at h ⊢
                exact h
              · rw [HD.out]; exact HJ2.out
            case measure => simp [intOf]; omega
    · obtain rfl : k = S.length := by omega
      go_wp2
      have hJ := HJ.out
      rw [List.drop_length] at hJ
      obtain rfl : out = joinL t S := by simpa [joinL] using hJ
      have e : joinL t S = r := by
        rw [← HR.out]
        unfold joinR
        rcases hrk with h1 | ⟨_, h1⟩
        · rw [HRB.out, if_pos h1]
        · rw [h1]; split <;> rfl
      rw [e] at HO ⊢
      go_ret
      exact ⟨_, _, rfl, HO.out.mono (by omega), HW.out⟩

end Go.Proofs.YthjbekgognfiiaaGreat
