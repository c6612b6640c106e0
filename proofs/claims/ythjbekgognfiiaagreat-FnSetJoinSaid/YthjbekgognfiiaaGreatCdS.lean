/-
  What spec.SetCandidates answers. By an AI agent.
-/
import Derived.Test.YthjbekgognfiiaaGreatCdI
import Derived.Test.YthjbekgognfiiaaGreatIxV2
namespace Go.Proofs.YthjbekgognfiiaaGreat
open Go.RowKit Go.Maps Go.Sort
set_option linter.unusedVariables false

theorem BlkV.grownR {w w' : World} {g : Nat} {t : TypeId} {cs : Array Value} {r : Option Nat} (h : BlkV w g t cs) (hg : w.grownBy w' r) (hr : r ≠ some g) : BlkV w' g t cs := (hg.block g h.lt (fun e => hr e.symm)).trans h
def idsUp (P : List Str → Bool) (S : List IS) : List Int := (S.filter fun x => P x.2).map Prod.fst
theorem idsUp_snoc (P : List Str → Bool) (S : List IS) (k : Nat) (x : IS) (h : S[k]? = some x) : idsUp P (S.take (k + 1)) = if P x.2 then idsUp P (S.take k) ++ [x.1] else idsUp P (S.take k) := by
  unfold idsUp
  rw [ixs_take h, List.filter_append, List.map_append]
  cases hP : P x.2 <;> simp [List.filter, hP]
theorem idsUp_len (P : List Str → Bool) (S : List IS) (k : Nat) : (idsUp P (S.take k)).length ≤ S.length := by
  unfold idsUp
  rw [List.length_map]
  have h1 := List.length_filter_le (fun x : IS => P x.2) (S.take k)
  rw [List.length_take] at h1
  omega
theorem sretI {a b : List Int} {c : Option Addr} {cap : Nat} (h : a = b) : Ending.returned (.slice c a.length cap) = .returned (.slice c b.length cap) := by rw [h]

set_option maxRecDepth 100000 in
set_option maxHeartbeats 4000000 in
theorem cs_spec (t : Int) (ta : Option Addr) (tc : Nat) (T : List TC) (xa : Option Addr) (xc : Nat) (S : List IS) (a : Option Addr) (c : Nat) (l : List Str) (r : List Int) (w : World) (hr : candR t T S l = r) (h : SmIx w ta T tc xa S xc) (hl : Sm w a l c) :
    Calls Tryz.prog 10 #[.agg #[.int .i64 t, .slice ta T.length tc, .slice xa S.length xc], .slice a l.length c] w (GivesIds w r) := by
  obtain ⟨w1, hw1⟩ : ∃ w1, w1 = (w.alloc (.cells #[.int .i64 t, .slice ta T.length tc, .slice xa S.length xc] 27)).alloc (.cells #[] 3) := ⟨_, rfl⟩
  have HW1 := Lib.hid hw1
  have HB1 := Lib.hid (show Below w.heap.size w w1 by rw [hw1]; exact ((Below.refl w.heap.size w).alloc (Nat.le_refl _) _).alloc (by simp) _)
  have HR1 := Lib.hid (show BlkV w1 w.heap.size 27 #[.int .i64 t, .slice ta T.length tc, .slice xa S.length xc] by rw [hw1]; exact (BlkV.new _ _ _).alloc _)
  have HO1 := Lib.hid (show OwnI w1 (w.heap.size + 1) (.slice (some ⟨w.heap.size + 1, 0, none⟩) 0 0) [] by
    rw [hw1]
    have := World.ownsRow_made (w.alloc (.cells #[.int .i64 t, .slice ta T.length tc, .slice xa S.length xc] 27)) (base := w.heap.size + 1) (e := 3) (size := 1) #[] 0 (by simp) (Nat.zero_le _) (by simp)
    simpa [OwnI] using this)
  have HXW := Lib.hid h
  have HSW := Lib.hid hl
  have HX1 := Lib.hid (h.below HB1.out)
  have HS1 := Lib.hid (hl.below HB1.out)
  have hsl : S.length ≤ 4000000 := h.sets.2.2.2.1
  have hll : l.length ≤ 4000000 := hl.2.2.2.1
  obtain ⟨rb, hrb⟩ : ∃ b, ixB t T S = b := ⟨_, rfl⟩
  obtain ⟨tb, htb⟩ : ∃ b, tsB l = b := ⟨_, rfl⟩
  have HRB := Lib.hid hrb
  have HTB := Lib.hid htb
  have HR := Lib.hid hr
  clear h hl hw1 hrb htb hr
  have HI1 := Lib.hid (ix_spec t ta tc T xa xc S rb w1 HRB.out HX1.out)
  have HT1 := Lib.hid (fun (W : World) (hS : Sm W a l c) => (tset_spec a c l W hS).mono fun e w' h => by rwa [show tsetR l = tb from HTB.out] at h)
  go_enter Tryz.func10, Tryz.ntmps10
  cases rb
  · obtain rfl : [] = r := by rw [← HR.out]; unfold candR; rw [HRB.out]; rfl
    go_wp2_with (go_at_call 34; rw [← HW1.out]; (refine HI1.out.mono ?_); rintro e w2 ⟨rfl, hb⟩; have HB2 := Lib.hid (HB1.out.trans (hb.mono HB1.out.size)); have HO2 := Lib.hid (HO1.out.below hb); clear hb)
    go_ret
    exact ⟨_, _, rfl, HO2.out.mono (by omega), HB2.out⟩
  · have HW2 := Lib.hid True.intro
    go_wp2_with (go_at_call 34; rw [← HW1.out]; (refine HI1.out.mono ?_); rintro e w2 ⟨rfl, hb⟩; refine Hid.out ?_)
    have HB2 := Lib.hid (HB1.out.trans (hb.mono HB1.out.size))
    have HO2 := Lib.hid (HO1.out.below hb)
    have HR2 := Lib.hid (HR1.out.below hb)
    have HX2 := Lib.hid (HX1.out.below hb)
    have HS2 := Lib.hid (HS1.out.below hb)
    have HZ2 := Lib.hid hb.size
    clear hb
    cases tb
    · obtain rfl : [] = r := by rw [← HR.out]; unfold candR; rw [HRB.out, HTB.out]; rfl
      refine Lib.hid ?_
      go_wp2_with (go_at_call 35; (refine (HT1.out _ HS2.out).mono ?_); rintro e w3 ⟨rfl, hb⟩; have HB3 := Lib.hid (HB2.out.trans (hb.mono HB2.out.size)); have HO3 := Lib.hid (HO2.out.below hb); clear hb)
      go_ret
      exact ⟨_, _, rfl, HO3.out.mono (by omega), HB3.out⟩
    · refine Lib.hid ?_
      by_cases hlen : (1000 : Int) < (l.length : Int)
      · obtain rfl : [] = r := by
          rw [← HR.out]; unfold candR; rw [HRB.out, HTB.out, decide_eq_false (show ¬ l.length ≤ 1000 by omega)]; rfl
        go_wp2_with (go_at_call 35; (refine (HT1.out _ HS2.out).mono ?_); rintro e w3 ⟨rfl, hb⟩; have HB3 := Lib.hid (HB2.out.trans (hb.mono HB2.out.size)); have HO3 := Lib.hid (HO2.out.below hb); clear hb)
        go_ret
        exact ⟨_, _, rfl, HO3.out.mono (by omega), HB3.out⟩
      · have HRR := Lib.hid (show idsUp (fun x => cdB T t l x) S = r by
          rw [← HR.out]; unfold candR; rw [HRB.out, HTB.out, decide_eq_true (show l.length ≤ 1000 by omega)]; rfl)
        obtain ⟨x0, hx0⟩ : ∃ r, loR l.length t = r := ⟨_, rfl⟩
        obtain ⟨x1, hx1⟩ : ∃ r, hiR l.length t = r := ⟨_, rfl⟩
        have HX0 := Lib.hid hx0
        have HX1' := Lib.hid hx1
        have HLB := Lib.hid (fun W => lb_spec (l.length : Int) t x0 x1 W hx0 hx1)
        clear hx0 hx1
        go_wp2_with (go_at_call 35; (refine (HT1.out _ HS2.out).mono ?_); rintro e w3 ⟨rfl, hb⟩; refine Hid.out ?_)
        have HB3 := Lib.hid (HB2.out.trans (hb.mono HB2.out.size))
        have HO3 := Lib.hid (HO2.out.below hb)
        have HR3 := Lib.hid (HR2.out.below hb)
        have HZ3 := Lib.hid hb.size
        clear hb
        have q0 := HR3.out.three0
        refine Lib.hid ?_
        go_wp2_with (go_at_call 36; (refine (HLB.out _).mono ?_); rintro e w4 ⟨rfl, hb⟩; refine Hid.out ?_)
        have HB4 := Lib.hid (HB3.out.trans (hb.mono HB3.out.size))
        have HO4 := Lib.hid (HO3.out.below hb)
        have HR4 := Lib.hid (HR3.out.below hb)
        have HZ4 := Lib.hid (show w.heap.size + 1 ≤ w4.heap.size by have h1 := hb.size; have h2 := HR3.out.lt; omega)
        clear hb q0
        refine Lib.hid ?_
        go_wp2
        go_loopw [5, 8] (fun v i wr => ∃ k : Nat, k ≤ S.length ∧ i = .int .i64 k ∧ OwnI wr (w.heap.size + 1) v (idsUp (fun x => cdB T t l x) (S.take k)) ∧ BlkV wr w.heap.size 27 #[.int .i64 t, .slice ta T.length tc, .slice xa S.length xc] ∧ Below w.heap.size w wr ∧ w.heap.size + 1 ≤ wr.heap.size) (fun _ i _ => S.length - (intOf i).toNat)
        case atStart => exact ⟨0, Nat.zero_le _, rfl, HO4.out, HR4.out, HB4.out, HZ4.out⟩
        case round =>
          obtain ⟨k, hk, rfl, hO, hB, hW, hsz⟩ := hrel
          have HO := Lib.hid hO
          have HB := Lib.hid hB
          have HW := Lib.hid hW
          clear hO hB hW
          have q0 := HB.out.three0
          have q1 := HB.out.three1
          have q2 := HB.out.three2
          by_cases hlt : k < S.length
          · obtain ⟨b, off, x, a', c', rfl, hbl, hx, hc0, hc1, hSm⟩ := (HXW.out.below HW.out).sets.at_ hlt
            have HX := Lib.hid hx
            have HSM := Lib.hid hSm
            have HC0 := Lib.hid hc0
            have HC1 := Lib.hid hc1
            have HBL := Lib.hid hbl
            have HLEN := Lib.hid (idsUp_len (fun x => cdB T t l x) S k)
            have HNX := Lib.hid (idsUp_snoc (fun x => cdB T t l x) S k x hx)
            clear hx hSm hbl
            obtain ⟨av, cv, rfl⟩ := OwnI.shape HO.out
            obtain ⟨n, hn⟩ : ∃ n, x.2.length = n := ⟨_, rfl⟩
            obtain ⟨m, hm⟩ : ∃ m, l.length = m := ⟨_, rfl⟩
            have HN := Lib.hid hn
            have HM := Lib.hid hm
            rw [hn] at HC1 hc1
            obtain ⟨b1, hb1⟩ : ∃ b1, decide (x0 ≤ (n : Int) ∧ (n : Int) ≤ x1) = b1 := ⟨_, rfl⟩
            have HL1 := Lib.hid (fun W => l1In_any (n : Int) x0 x1 b1 W hb1)
            obtain ⟨b2, hb2⟩ : ∃ b2, shR T l x.2 t = b2 := ⟨_, rfl⟩
            have hsh := sh_spec ta a a' tc c c' T l x.2 t b2 wr hb2 (HXW.out.below HW.out).tab (HSW.out.below HW.out) HSM.out
            rw [hn, hm] at hsh
            have HSH := Lib.hid hsh
            have HCD := Lib.hid (show cdB T t l x.2 = ((decide (n = 0) && decide (m = 0)) || (b1 && b2)) by
              unfold cdB
              rw [HX0.out, HX1'.out, hn, hm, hb1, hb2])
            rw [hm]
            clear hn hm hsh hb1 hb2 hlen
            by_cases e1 : n = 0
            · subst e1
              by_cases e2 : m = 0
              · subst e2
                have s0 := (HB.out.alloc (.cells #[.int .i64 x.1] 3)).three2
                go_wp2_with (at_builtin; refine append_i rfl _ _ rfl (w.heap.size + 1) _ _ x.1 HO.out rfl rfl (by have := HLEN.out; omega) hsz ?_; intro v' w6 ho6 hg6 hv6)
                go_roundw
                case rel =>
                  have hgs := hg6.size
                  refine ⟨k + 1, by omega, by go_num, ?_, HB.out.grownR hg6 (fun e => by have := (World.ownsRow.lt HO.out _ e).1; omega), HW.out.grown hg6 HW.out.size (fun j hj => by have := (World.ownsRow.lt HO.out _ hj).1; omega), by omega⟩
                  rw [HNX.out, if_pos (by rw [HCD.out]; simp)]
                  exact ho6
                case measure => simp [intOf]; omega
              · have e2' : ¬ ((m : Int) = 0) := by omega
                cases b1
                · go_wp2_with (go_at_call 37; (refine (HL1.out _).mono ?_); rintro e w5 ⟨rfl, rfl⟩)
                  go_roundw
                  case rel => exact ⟨k + 1, by omega, by go_num, by rw [HNX.out, if_neg (by rw [HCD.out]; simp [*])]; exact HO.out, HB.out, HW.out, hsz⟩
                  case measure => simp [intOf]; omega
                · cases b2
                  · go_wp2_with (first
                      | (go_at_call 37; (refine (HL1.out _).mono ?_); rintro e w5 ⟨rfl, rfl⟩)
                      | (go_at_call 38; (refine HSH.out.mono ?_); rintro e w6 ⟨rfl, hb6⟩))
                    go_roundw
                    case rel => exact ⟨k + 1, by omega, by go_num, by rw [HNX.out, if_neg (by rw [HCD.out]; simp [*])]; exact HO.out.below hb6, HB.out.below hb6, HW.out.trans (hb6.mono HW.out.size), Nat.le_trans hsz hb6.size⟩
                    case measure => simp [intOf]; omega
                  · go_wp2_with (first
                      | (go_at_call 37; (refine (HL1.out _).mono ?_); rintro e w5 ⟨rfl, rfl⟩)
                      | (go_at_call 38; (refine HSH.out.mono ?_); rintro e w6 ⟨rfl, hb6⟩; refine Hid.out ?_))
                    have HB6 := Lib.hid (HB.out.below hb6)
                    have HO6 := Lib.hid (HO.out.below hb6)
                    have HW6 := Lib.hid (HW.out.trans (hb6.mono HW.out.size))
                    have hs6 : w.heap.size + 1 ≤ w6.heap.size := Nat.le_trans hsz hb6.size
                    have d0 := (hb6.cell (p := ⟨b, off + k * 2, none⟩) HBL.out).trans HC0.out
                    have d1 := (hb6.cell (p := ⟨b, off + k * 2 + 1, none⟩) HBL.out).trans HC1.out
                    clear hb6 q0 q1 q2
                    have q0 := HB6.out.three0
                    have q1 := HB6.out.three1
                    have q2 := HB6.out.three2
                    refine Lib.hid ?_
                    go_wp2_with (at_builtin; refine append_i rfl _ _ rfl (w.heap.size + 1) _ _ x.1 HO6.out rfl rfl (by have := HLEN.out; omega) hs6 ?_; intro v' w7 ho7 hg7 hv7)
                    go_roundw
                    case rel =>
                      have hgs := hg7.size
                      refine ⟨k + 1, by omega, by go_num, ?_, HB6.out.grownR hg7 (fun e => by have := (World.ownsRow.lt HO6.out _ e).1; omega), HW6.out.grown hg7 HW6.out.size (fun j hj => by have := (World.ownsRow.lt HO6.out _ hj).1; omega), by omega⟩
                      rw [HNX.out, if_pos (by rw [HCD.out]; simp)]
                      exact ho7
                    case measure => simp [intOf]; omega
            · have e1' : ¬ ((n : Int) = 0) := by omega
              cases b1
              · go_wp2_with (go_at_call 37; (with_reducible refine (HL1.out _).mono ?_); rintro e w5 ⟨rfl, rfl⟩)
                go_roundw
                case rel => exact ⟨k + 1, by omega, by go_num, by rw [HNX.out, if_neg (by rw [HCD.out]; simp [*])]; exact HO.out, HB.out, HW.out, hsz⟩
                case measure => simp [intOf]; omega
              · cases b2
                · go_wp2_with (first
                    | (go_at_call 37; (with_reducible refine (HL1.out _).mono ?_); rintro e w5 ⟨rfl, rfl⟩)
                    | (go_at_call 38; (refine HSH.out.mono ?_); rintro e w6 ⟨rfl, hb6⟩))
                  go_roundw
                  case rel => exact ⟨k + 1, by omega, by go_num, by rw [HNX.out, if_neg (by rw [HCD.out]; simp [*])]; exact HO.out.below hb6, HB.out.below hb6, HW.out.trans (hb6.mono HW.out.size), Nat.le_trans hsz hb6.size⟩
                  case measure => simp [intOf]; omega
                · go_wp2_with (first
                    | (go_at_call 37; (with_reducible refine (HL1.out _).mono ?_); rintro e w5 ⟨rfl, rfl⟩)
                    | (go_at_call 38; (refine HSH.out.mono ?_); rintro e w6 ⟨rfl, hb6⟩; refine Hid.out ?_))
                  have HB6 := Lib.hid (HB.out.below hb6)
                  have HO6 := Lib.hid (HO.out.below hb6)
                  have HW6 := Lib.hid (HW.out.trans (hb6.mono HW.out.size))
                  have hs6 : w.heap.size + 1 ≤ w6.heap.size := Nat.le_trans hsz hb6.size
                  have d0 := (hb6.cell (p := ⟨b, off + k * 2, none⟩) HBL.out).trans HC0.out
                  have d1 := (hb6.cell (p := ⟨b, off + k * 2 + 1, none⟩) HBL.out).trans HC1.out
                  clear hb6 q0 q1 q2
                  have q0 := HB6.out.three0
                  have q1 := HB6.out.three1
                  have q2 := HB6.out.three2
                  refine Lib.hid ?_
                  go_wp2_with (at_builtin; refine append_i rfl _ _ rfl (w.heap.size + 1) _ _ x.1 HO6.out rfl rfl (by have := HLEN.out; omega) hs6 ?_; intro v' w7 ho7 hg7 hv7)
                  go_roundw
                  case rel =>
                    have hgs := hg7.size
                    refine ⟨k + 1, by omega, by go_num, ?_, HB6.out.grownR hg7 (fun e => by have := (World.ownsRow.lt HO6.out _ e).1; omega), HW6.out.grown hg7 HW6.out.size (fun j hj => by have := (World.ownsRow.lt HO6.out _ hj).1; omega), by omega⟩
                    rw [HNX.out, if_pos (by rw [HCD.out]; simp)]
                    exact ho7
                  case measure => simp [intOf]; omega
          · obtain rfl : k = S.length := by omega
            go_wp2
            have h := HO.out
            rw [List.take_length, HRR.out] at h
            obtain ⟨av, cv, rfl⟩ := OwnI.shape h
            go_ret
            exact ⟨_, _, rfl, h.mono (by omega), HW.out⟩

end Go.Proofs.YthjbekgognfiiaaGreat
