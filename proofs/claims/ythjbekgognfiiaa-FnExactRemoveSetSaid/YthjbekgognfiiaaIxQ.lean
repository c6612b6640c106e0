/-
  spec.l12Find; what spec.RemoveSet hands back. By an AI agent.
-/
import Derived.Test.YthjbekgognfiiaaIxA
import Derived.Test.YthjbekgognfiiaaIxR
namespace Go.Proofs.Ythjbekgognfiiaa
open Go.RowKit
set_option linter.unusedVariables false

set_option maxRecDepth 100000 in
theorem find_spec (t : Int) (ta : Option Addr) (tn tc : Nat) (xa : Option Addr) (xc : Nat) (S : List IS) (id r : Int) (w : World) (hr : fiX S id = r) (hin : InX w xa S) (hl : S.length ≤ 4000000) :
    Calls Try.prog 24 #[.agg #[.int .i64 t, .slice ta tn tc, .slice xa S.length xc], .int .i64 id] w fun e w' => e = .returned (.int .i64 r) ∧ Below w.heap.size w w' := by
  have HR := Lib.hid hr
  have HIN := Lib.hid hin
  have HB0 := Lib.hid ((Below.refl w.heap.size w).alloc (Nat.le_refl _) (.cells #[.int .i64 t, .slice ta tn tc, .slice xa S.length xc] 32))
  have HX0 := Lib.hid (show BlkV (w.alloc (.cells #[.int .i64 t, .slice ta tn tc, .slice xa S.length xc] 32)) w.heap.size 32 #[.int .i64 t, .slice ta tn tc, .slice xa S.length xc] from BlkV.new _ _ _)
  clear hr hin
  go_enter Try.func24, Try.ntmps24
  go_wp2
  go_loopw [5] (fun i wr => ∃ k : Nat, k ≤ S.length ∧ i = .int .i64 k ∧ (∀ (j : Nat) (y : IS), j < k → S[j]? = some y → y.1 ≠ id) ∧ BlkV wr w.heap.size 32 #[.int .i64 t, .slice ta tn tc, .slice xa S.length xc] ∧ Below w.heap.size w wr) (fun i _ => S.length - (intOf i).toNat)
  case atStart => exact ⟨0, Nat.zero_le _, rfl, fun j y hj => absurd hj (Nat.not_lt_zero _), HX0.out, HB0.out⟩
  case round =>
    obtain ⟨k, hk, rfl, hno, hbx, hb⟩ := hrel
    have HNO := Lib.hid hno
    have HBX := Lib.hid hbx
    have HB := Lib.hid hb
    clear hno hbx hb
    have q2 := HBX.out.three2
    by_cases hlt : k < S.length
    · obtain ⟨b, off, rfl, hbl, hc⟩ := HIN.out (by omega)
      have hx := List.getElem?_eq_getElem hlt
      obtain ⟨a', c', p0, p1, _⟩ := hc k _ hx
      have HX1 := Lib.hid hx
      have c0 : wr.cell? ⟨b, off + k * 2, none⟩ = some (.int .i64 S[k].1) := by rw [HB.out.cell (p := ⟨b, off + k * 2, none⟩) hbl]; exact p0
      generalize S[k] = x at c0 HX1
      clear hx p0 p1 hc hbl
      by_cases he : x.1 = id
      · have HE := Lib.hid (show (k : Int) = r from by rw [← HR.out]; exact (fi_at HNO.out HX1.out he).symm)
        obtain ⟨z, hz⟩ : ∃ z, x.1 = z := ⟨_, rfl⟩
        rw [hz] at c0 he
        subst he
        clear hz
        go_wp2
        go_ret
        exact ⟨ret_int HE.out, HB.out⟩
      · have HE := Lib.hid he
        go_wp2
        go_roundw
        case rel =>
          refine ⟨k + 1, by omega, by go_num, fun j y hj hy => ?_, HBX.out, HB.out⟩
          by_cases e : j = k
          · subst e
            rw [HX1.out] at hy
            rw [← Option.some.inj hy]
            exact HE.out
          · exact HNO.out j y (by omega) hy
        case measure => simp [intOf]; omega
    · obtain rfl : k = S.length := by omega
      have HE := Lib.hid (show (-1 : Int) = r from by rw [← HR.out]; exact (fi_none fun j y hy => HNO.out j y (List.getElem?_eq_some_iff.1 hy).1 hy).symm)
      go_wp2
      go_ret
      exact ⟨ret_int HE.out, HB.out⟩

/-- the copy is laid into a new box -/
theorem ixst_alloc {w w1 w2 : World} {t : Int} {T : List TC} {S : List IS} {ta xa : Option Addr} {tc xc : Nat} {q : List XS} (hs : w1.heap.size = w.heap.size + 2) (hb1 : Below w.heap.size w w1)
    (hr : BlkV w1 (w.heap.size + 1) 32 #[.int .i64 0, .slice none 0 0, .slice none 0 0]) (ho : OwnIx w2 w1.heap.size w2.heap.size (.slice ta T.length tc) (.slice xa S.length xc) T q) (hb : Below w1.heap.size w1 w2) :
    IxSt w (w2.alloc (.cells #[.int .i64 t, .slice ta T.length tc, .slice xa S.length xc] 32)) w2.heap.size (w.heap.size + 1) t T ta tc xa S.length xc q := by
  have h1 : OwnT w2 (w.heap.size + 1 + 1) (.slice ta T.length tc) T := ho.tab.1.mono (by omega)
  have h2 : OwnX w2 (w.heap.size + 1 + 1) (.slice xa S.length xc) q := ho.sets.1.mono (by omega)
  have hsz := hb.size
  have hbb := hb1.trans (hb.mono hb1.size)
  have hba := (Below.refl w2.heap.size w2).alloc (Nat.le_refl _) (.cells #[.int .i64 t, .slice ta T.length tc, .slice xa S.length xc] 32)
  exact ⟨BlkV.new _ _ _, (hr.below hb).alloc _, h1.below hba, h2.below hba, ho.apart, (fun e => by have := (World.ownsRow.lt h1 _ e).2; omega), (fun e => by have := (World.ownsRow.lt h2.out _ e).2; omega), (fun p hp e => by have := (World.ownsRow.lt (h2.row p hp) _ e).2; omega), hbb.alloc hbb.size _, by omega, by omega, by omega⟩
theorem below_grownR {w w' : World} (h : Below w.heap.size w w') (r : Option Nat) : w.grownBy w' r := ⟨h.os, h.tape, h.output, h.size, fun k hk _ => h.block k hk⟩
/-- a fresh slice of the sets of q' is stored into the box -/
theorem IxSt.fresh {w W W' : World} {B g n n' : Nat} {t : Int} {T : List TC} {ta xa xa' : Option Addr} {tc xc xc' : Nat} {q q' : List XS} (h : IxSt w W B g t T ta tc xa n xc q) (hb : Below W.heap.size W W')
    (ho : W'.ownsRow W.heap.size 50 2 (.slice xa' n' xc') n' (flatX q')) (hl : q'.length = n') (hr : ∀ p ∈ q', OwnS W' (g + 1) p.2 p.1.2) (hlt : ∀ p ∈ q', ∀ k, p.2.ownBlock = some k → k < W.heap.size ∧ k ≠ B) (hd : q'.Pairwise fun p r => ∀ k, p.2.ownBlock = some k → r.2.ownBlock ≠ some k)
    (hT : ∀ k, (Value.slice ta T.length tc).ownBlock = some k → ∀ p ∈ q', p.2.ownBlock ≠ some k) : IxSt w (W'.setCell ⟨B, 2, none⟩ (.slice xa' n' xc')) B g t T ta tc xa' n' xc' q' := by
  have hn : ∀ k, (Value.slice xa' n' xc').ownBlock = some k → W.heap.size ≤ k := fun k hk => (World.ownsRow.lt ho k hk).1
  have hB := h.box.lt
  have hg := h.res.lt
  subst hl
  refine h.store (below_grownR hb _) ⟨row_mono ho (by omega), hr, (fun p hp k hk e => by have := hn k e; have := (hlt p hp k hk).1; omega), hd⟩ (fun k hk => ⟨fun e => by have := hn k e; have := (World.ownsRow.lt h.tab k hk).2; omega, hT k hk⟩) (fun e => by have := hn _ e; omega) (fun p hp e => (hlt p hp _ e).2 rfl)


set_option maxRecDepth 100000 in
set_option maxHeartbeats 4000000 in
theorem rem_spec (t : Int) (ta : Option Addr) (tc : Nat) (T : List TC) (xa : Option Addr) (xc : Nat) (S : List IS) (id : Int) (rt : Int) (rT : List TC) (rS : List IS) (rb : Bool) (w : World) (hrt : t = rt) (hrT : T = rT) (hrS : remR t T S id = rS) (hrb : okRem t T S id = rb) (h : SmIx w ta T tc xa S xc) :
    Calls Try.prog 16 #[.agg #[.int .i64 t, .slice ta T.length tc, .slice xa S.length xc], .int .i64 id] w (GivesIB w rt rT rS rb) := by
  obtain rfl := hrt
  obtain rfl := hrT
  have HRS := Lib.hid hrS
  have HRB := Lib.hid hrb
  obtain ⟨w1, hw1⟩ : ∃ w1, w1 = (w.alloc (.cells #[.int .i64 t, .slice ta T.length tc, .slice xa S.length xc] 32)).alloc (.cells #[.int .i64 0, .slice none 0 0, .slice none 0 0] 32) := ⟨_, rfl⟩
  have HW1 := Lib.hid hw1
  have HB1 := Lib.hid (show Below w.heap.size w w1 by rw [hw1]; exact ((Below.refl w.heap.size w).alloc (Nat.le_refl _) _).alloc (by simp) _)
  have HBX := Lib.hid (show BlkV w1 w.heap.size 32 #[.int .i64 t, .slice ta T.length tc, .slice xa S.length xc] by rw [hw1]; exact (BlkV.new _ _ _).alloc _)
  have HRC := Lib.hid (show BlkV w1 (w.heap.size + 1) 32 #[.int .i64 0, .slice none 0 0, .slice none 0 0] by rw [hw1]; exact BlkV.new_ _ _ _ _ (by simp))
  have HS1 := Lib.hid (show w1.heap.size = w.heap.size + 2 by rw [hw1]; simp)
  have HH := Lib.hid h
  have HCP := Lib.hid (copy_spec t ta tc T xa xc S w1 (h.below HB1.out))
  have hsl : S.length ≤ 4000000 := h.sets.2.2.2.1
  obtain ⟨iv, hiv⟩ : ∃ b, ixB t T S = b := ⟨_, rfl⟩
  have HIV := Lib.hid hiv
  obtain ⟨fi, hfi⟩ : ∃ z, fiX S id = z := ⟨_, rfl⟩
  have HFI := Lib.hid hfi
  have HIX := Lib.hid (fun (W : World) (hW : Below w.heap.size w W) => ix_spec t ta tc T xa xc S iv W HIV.out (h.below hW))
  have HFD := Lib.hid (fun (W : World) (hW : Below w.heap.size w W) => find_spec t ta T.length tc xa xc S id fi W HFI.out (h.sets.1.below hW) hsl)
  clear h hw1 hrS hrb hiv hfi
  go_enter Try.func16, Try.ntmps16
  go_wp2_with (go_at_call 20; rw [← HW1.out]; (refine HCP.out.mono ?_); rintro e w2 ⟨a1, c1, a2, c2, q, rfl, hq, ho, hb⟩; refine Hid.out ?_)
  have HQ := Lib.hid hq
  obtain ⟨w3, hw3⟩ : ∃ w3, w3 = w2.alloc (.cells #[.int .i64 t, .slice a1 T.length c1, .slice a2 S.length c2] 32) := ⟨_, rfl⟩
  have hst := ixst_alloc (t := t) HS1.out HB1.out HRC.out ho hb
  rw [← hw3] at hst
  have HW3 := Lib.hid hw3
  have HST3 := Lib.hid hst
  have HBX3 := Lib.hid (show BlkV w3 w.heap.size 32 #[.int .i64 t, .slice ta T.length tc, .slice xa S.length xc] by rw [hw3]; exact (HBX.out.below hb).alloc _)
  have p0 := (HBX.out.below hb).three0
  have p1 := (HBX.out.below hb).three1
  have p2 := (HBX.out.below hb).three2
  have s0 := ((HBX.out.below hb).alloc (.cells #[.int .i64 t, .slice a1 T.length c1, .slice a2 S.length c2] 32)).three0
  have s1 := ((HBX.out.below hb).alloc (.cells #[.int .i64 t, .slice a1 T.length c1, .slice a2 S.length c2] 32)).three1
  have s2 := ((HBX.out.below hb).alloc (.cells #[.int .i64 t, .slice a1 T.length c1, .slice a2 S.length c2] 32)).three2
  obtain ⟨BY, hBY⟩ : ∃ BY, BY = w2.heap.size := ⟨_, rfl⟩
  clear hq ho hb hst hw3
  refine Lib.hid ?_
  go_wp2_with (go_at_call 24; rw [← HW3.out]; (refine (HFD.out _ HST3.out.below).mono ?_); rintro e w4 ⟨rfl, hb⟩; refine Hid.out ?_)
  rw [← hBY] at HST3 ⊢
  have HST4 := Lib.hid (HST3.out.below_ hb)
  have HBX4 := Lib.hid (HBX3.out.below hb)
  clear hb p0 p1 p2 s0 s1 s2 hBY
  have p0 := HBX4.out.three0
  have p1 := HBX4.out.three1
  have p2 := HBX4.out.three2
  refine Lib.hid ?_
  go_wp2_with (go_at_call 21; (refine (HIX.out _ HST4.out.below).mono ?_); rintro e w5 ⟨rfl, hb⟩; refine Hid.out ?_)
  have HST := Lib.hid (HST4.out.below_ hb)
  clear hb p0 p1 p2
  have d0 := HST.out.box.three0
  have d1 := HST.out.box.three1
  have d2 := HST.out.box.three2
  have r0 := HST.out.res.three0
  have r1 := HST.out.res.three1
  have r2 := HST.out.res.three2
  have f0 := HST.out.res.frozen 0
  have f1 := HST.out.res.frozen 1
  have f2 := HST.out.res.frozen 2
  cases iv
  · obtain rfl : false = rb := by rw [← HRB.out]; unfold okRem; rw [HIV.out]; rfl
    obtain rfl : S = rS := by rw [← HRS.out]; unfold remR; rw [HRB.out]; rfl
    refine Lib.hid ?_
    go_wp2
    have z := HST.out.end_
    have z0 : _ = some _ := z.three0
    have z1 : _ = some _ := z.three1
    have z2 : _ = some _ := z.three2
    exact bodyPost_ret (v := .tuple #[.agg #[.int .i64 t, .slice a1 T.length c1, .slice a2 S.length c2], .bool false]) (by simp [results, Try.results16, go_sem, z0, z1, z2]) rfl (HST.out.gives HQ.out false)
  · rcases fi_cases S id with ⟨h1, h2⟩ | ⟨k, x, h1, hx, hid, h2⟩
    · obtain rfl : -1 = fi := by rw [← HFI.out, h1]
      obtain rfl : false = rb := by rw [← HRB.out]; unfold okRem; rw [HIV.out, h2]; rfl
      obtain rfl : S = rS := by rw [← HRS.out]; unfold remR; rw [HRB.out]; rfl
      refine Lib.hid ?_
      go_wp2
      have z := HST.out.end_
      have z0 : _ = some _ := z.three0
      have z1 : _ = some _ := z.three1
      have z2 : _ = some _ := z.three2
      exact bodyPost_ret (v := .tuple #[.agg #[.int .i64 t, .slice a1 T.length c1, .slice a2 S.length c2], .bool false]) (by simp [results, Try.results16, go_sem, z0, z1, z2]) rfl (HST.out.gives HQ.out false)
    · obtain rfl : (k : Int) = fi := by rw [← HFI.out, h1]
      obtain rfl : true = rb := by rw [← HRB.out]; unfold okRem; rw [HIV.out, h2]; rfl
      have HRX := Lib.hid (show remX S id = rS by rw [← HRS.out]; unfold remR; rw [HRB.out, if_pos rfl])
      have HPK := Lib.hid (pl_of_has (ixB_parts HIV.out).2.2.2.2 hx hid)
      have hkS : k < S.length := (List.getElem?_eq_some_iff.1 hx).1
      have hQL : q.length = S.length := HST.out.sets.len
      obtain ⟨wz, hwz⟩ : ∃ wz, wz = w5 := ⟨_, rfl⟩
      subst hwz
      obtain ⟨i0, hi0, hz0, hz1, hz2⟩ := info_parts info_ixs
      obtain ⟨gq, rfl, hgq, hgl, -⟩ := rowX_at (by have h := HST.out.sets.out; rw [hQL] at h; exact h) (show 0 < S.length by omega)
      have hown := HST.out.sets.out
      rw [hQL] at hown
      have hcap := rowX_cap hown
      have HCQ := Lib.hid (fun (W : World) (hW : Below wz.heap.size wz W) => (cells_row hown).below hW)
      obtain ⟨m, hm⟩ : ∃ m, S.length - (k + 1) = m := ⟨_, rfl⟩
      obtain ⟨A, hA⟩ : ∃ A : Addr, (if c2 = k + 1 then (⟨gq, 0, none⟩ : Addr) else ⟨gq, (k + 1) * 2, none⟩) = A := ⟨_, rfl⟩
      have HC1 := Lib.hid (fun (W : World) (hW : Below wz.heap.size wz W) => (show CellsAt W (some ⟨gq, 0, none⟩) (flatX (q.take k)) by rw [← flatX_take]; exact cells_take (HCQ.out W hW) _))
      have HC2 := Lib.hid (fun (W : World) (hW : Below wz.heap.size wz W) => (show CellsAt W (some A) (flatX (q.drop (k + 1))) by
        rw [← flatX_drop, ← hA]
        by_cases hc : c2 = k + 1
        · intro h0; rw [List.length_drop, flatX_len] at h0; omega
        · rw [if_neg hc]; have h := cells_drop (HCQ.out W hW) ((k + 1) * 2); rw [Nat.zero_add] at h; exact h))
      have HL1 := Lib.hid (show (flatX (q.take k)).length = k * 2 by rw [flatX_len, List.length_take]; omega)
      have HL2 := Lib.hid (show (flatX (q.drop (k + 1))).length = m * 2 by rw [flatX_len, List.length_drop]; omega)
      have hone := HST.out.sets.one
      have HO1 := Lib.hid (show ∀ u ∈ flatX (q.take k), u.oneCell' = true by rw [← flatX_take]; exact fun u hu => hone u (List.mem_of_mem_take hu))
      have HO2 := Lib.hid (show ∀ u ∈ flatX (q.drop (k + 1)), u.oneCell' = true by rw [← flatX_drop]; exact fun u hu => hone u (List.mem_of_mem_drop hu))
      have hcA : (if c2 = k + 1 then (some ⟨gq, 0, none⟩ : Option Addr) else some ⟨gq, (k + 1) * 2, none⟩) = some A := by rw [← hA]; split <;> rfl
      have hba := (Below.refl wz.heap.size wz).alloc (Nat.le_refl _) (.cells #[] 50)
      have HBA := Lib.hid hba.drew
      have HOA := Lib.hid (show ((wz.alloc (.cells #[] 50)).drew).ownsRow wz.heap.size 50 2 (.slice (some ⟨wz.heap.size, 0, none⟩) 0 0) 0 [] from World.ownsRow_made wz #[] 0 (Nat.le_refl _) (Nat.zero_le _) (by simp))
      have y2 := HST.out.box.three2
      have ya := (HST.out.box.below hba).three2
      have hw1 : IntKind.i64.wrap ((k : Int) + 1) = (k : Int) + 1 := by rw [IntKind.wrap_i64]; omega
      have hk0 : (0 : Int) ≤ (k : Int) := by omega
      have hk1 : (k : Int) ≤ (c2 : Int) := by omega
      have hk2 : (0 : Int) ≤ (k : Int) + 1 := by omega
      have hk3 : (k : Int) + 1 ≤ (S.length : Int) := by omega
      have hk4 : ((k : Int) + 1).toNat = k + 1 := by omega
      have HQL := Lib.hid hQL
      have HM := Lib.hid hm
      clear h1 h2 hx hid hQL hba hone hown hA d0 d1 d2 r0 r1 r2 f0 f1 f2
      refine Lib.hid ?_
      go_wp2_with (fail)
      refine wp_region_noPanic ?_
      refine wp_region_E (S := fun w' => w'.cell? ⟨BY, 2, none⟩ = some (.slice (some ⟨gq, 0, none⟩) S.length c2)) 13 (by kernel_rfl) (y2) (fun hHeld => ?_)
      refine anyE_take (i := 1) (v := ?vz1) rfl (by kernel_rfl) (by kernel_rfl) (by kernel_rfl) (by kernel_rfl) (by kernel_rfl) (fun _ _ _ h => h) (Or.inl ⟨by kernel_rfl, ?yz1⟩) (by assumption) ?rz1
      case yz1 => (intro w' hSw; (try dsimp only at hSw); go_simp; (try with_reducible rfl))
      (try simp only [Act.put, List.getElem_toArray, List.getElem_cons_succ, List.getElem_cons_zero, List.setIfInBounds_toArray, List.set_cons_zero, List.set_cons_succ])
      refine anyE_take (i := 2) (v := ?vz2) rfl (by kernel_rfl) (by kernel_rfl) (by kernel_rfl) (by kernel_rfl) (by kernel_rfl) (fun _ _ _ h => h) (Or.inl ⟨by kernel_rfl, ?yz2⟩) (by assumption) ?rz2
      case yz2 => (intro w' hSw; (try dsimp only at hSw); go_simp; (try with_reducible rfl))
      (try simp only [Act.put, List.getElem_toArray, List.getElem_cons_succ, List.getElem_cons_zero, List.setIfInBounds_toArray, List.set_cons_zero, List.set_cons_succ])
      refine anyE_take (i := 3) (v := ?vz3) rfl (by kernel_rfl) (by kernel_rfl) (by kernel_rfl) (by kernel_rfl) (by kernel_rfl) (fun _ _ _ h => h) (Or.inl ⟨by kernel_rfl, ?yz3⟩) (by assumption) ?rz3
      case yz3 => (intro w' hSw; (try dsimp only at hSw); go_simp; (try with_reducible rfl))
      (try simp only [Act.put, List.getElem_toArray, List.getElem_cons_succ, List.getElem_cons_zero, List.setIfInBounds_toArray, List.set_cons_zero, List.set_cons_succ])
      refine anyE_take (i := 4) (v := ?vz4) rfl (by kernel_rfl) (by kernel_rfl) (by kernel_rfl) (by kernel_rfl) (by kernel_rfl) (fun _ _ _ h => h) (Or.inl ⟨by kernel_rfl, ?yz4⟩) (by assumption) ?rz4
      case yz4 => (intro w' hSw; (try dsimp only at hSw); go_simp; (try with_reducible rfl))
      (try simp only [Act.put, List.getElem_toArray, List.getElem_cons_succ, List.getElem_cons_zero, List.setIfInBounds_toArray, List.set_cons_zero, List.set_cons_succ])
      refine anyE_take (i := 6) (v := ?vz5) rfl (by kernel_rfl) (by kernel_rfl) (by kernel_rfl) (by kernel_rfl) (by kernel_rfl) (fun _ _ _ h => h) (Or.inl ⟨by kernel_rfl, ?yz5⟩) (by assumption) ?rz5
      case yz5 => (intro w' hSw; (try dsimp only at hSw); go_simp; (try with_reducible rfl))
      (try simp only [Act.put, List.getElem_toArray, List.getElem_cons_succ, List.getElem_cons_zero, List.setIfInBounds_toArray, List.set_cons_zero, List.set_cons_succ])
      refine anyE_take (i := 7) (v := ?vz6) rfl (by kernel_rfl) (by kernel_rfl) (by kernel_rfl) (by kernel_rfl) (by kernel_rfl) (fun _ _ _ h => h) (Or.inl ⟨by kernel_rfl, ?yz6⟩) (by assumption) ?rz6
      case yz6 => (intro w' hSw; (try dsimp only at hSw); go_simp; (try with_reducible rfl))
      (try simp only [Act.put, List.getElem_toArray, List.getElem_cons_succ, List.getElem_cons_zero, List.setIfInBounds_toArray, List.set_cons_zero, List.set_cons_succ])
      refine anyE_take (i := 8) (v := ?vz7) rfl (by kernel_rfl) (by kernel_rfl) (by kernel_rfl) (by kernel_rfl) (by kernel_rfl) (fun _ _ _ h => h) (Or.inl ⟨by kernel_rfl, ?yz7⟩) (by assumption) ?rz7
      case yz7 => (intro w' hSw; (try dsimp only at hSw); go_simp; (try with_reducible rfl))
      (try simp only [Act.put, List.getElem_toArray, List.getElem_cons_succ, List.getElem_cons_zero, List.setIfInBounds_toArray, List.set_cons_zero, List.set_cons_succ])
      refine anyE_take (i := 9) (v := ?vz8) rfl (by kernel_rfl) (by kernel_rfl) (by kernel_rfl) (by kernel_rfl) (by kernel_rfl) (fun _ _ _ h => h) (Or.inl ⟨by kernel_rfl, ?yz8⟩) (by assumption) ?rz8
      case yz8 => (intro w' hSw; (try dsimp only at hSw); go_simp; (try with_reducible rfl))
      (try simp only [Act.put, List.getElem_toArray, List.getElem_cons_succ, List.getElem_cons_zero, List.setIfInBounds_toArray, List.set_cons_zero, List.set_cons_succ])
      refine anyE_take (i := 10) (v := ?vz9) rfl (by kernel_rfl) (by kernel_rfl) (by kernel_rfl) (by kernel_rfl) (by kernel_rfl) (fun _ _ _ h => h) (Or.inl ⟨by kernel_rfl, ?yz9⟩) (by assumption) ?rz9
      case yz9 => (intro w' hSw; (try dsimp only at hSw); go_simp; (try with_reducible rfl))
      (try simp only [Act.put, List.getElem_toArray, List.getElem_cons_succ, List.getElem_cons_zero, List.setIfInBounds_toArray, List.set_cons_zero, List.set_cons_succ])
      refine anyE_one (i := 0) (by kernel_rfl) (anyE_step rfl (fun K hK => ?_))
      go_simp
      refine hK.out _ _ (fun _ => ya) (fun hH => ?_)
      have hHeld := hH (by decide)
      clear hH
      clear hK K
      (try simp only [Act.put, List.getElem_toArray, List.getElem_cons_succ, List.getElem_cons_zero, List.setIfInBounds_toArray, List.set_cons_zero, List.set_cons_succ])
      refine anyE_one (i := 5) (by kernel_rfl) (anyE_step rfl (fun K hK => ?_))
      refine step_app_row rfl _ _ 30 50 rfl i0 _ 2 32 Try.underlying30 hi0 hz0 hz1 hz2 rfl (by decide) wz.heap.size (.slice (some ⟨wz.heap.size, 0, none⟩) 0 0) 0 [] rfl (some ⟨gq, 0, none⟩) k c2 (flatX (q.take k)) rfl HOA.out HL1.out (HC1.out _ HBA.out) nofun HO1.out (by unfold maxLen; omega) (by omega) HBA.out.size ?_
      intro v1 w3 ho hg
      rw [Nat.zero_add, List.nil_append] at ho
      have hb3 := HBA.out.grown hg HBA.out.size (fun j hj => by cases hj; exact Nat.le_refl _)
      have HO3 := Lib.hid ho
      have HB3 := Lib.hid hb3
      have y3 := (HST.out.box.below hb3).three2
      clear ho hg hb3
      refine hK.out _ _ (fun _ => y3) (fun hH => ?_)
      have hHeld := hH (by decide)
      clear hH
      clear hK K
      (try simp only [Act.put, List.getElem_toArray, List.getElem_cons_succ, List.getElem_cons_zero, List.setIfInBounds_toArray, List.set_cons_zero, List.set_cons_succ])
      refine anyE_one (i := 11) (by kernel_rfl) (anyE_step rfl (fun K hK => ?_))
      refine step_app_row rfl _ _ 30 50 rfl i0 _ 2 32 Try.underlying30 hi0 hz0 hz1 hz2 rfl (by decide) wz.heap.size v1 k (flatX (q.take k)) rfl (some A) m (c2 - (k + 1)) (flatX (q.drop (k + 1))) rfl HO3.out HL2.out (HC2.out _ HB3.out) nofun HO2.out (by unfold maxLen; omega) (by omega) HB3.out.size ?_
      intro v2 w4 ho hg
      obtain ⟨a3, c3, rfl⟩ := row_shape ho
      have hb4 := HB3.out.grown hg HB3.out.size (fun j hj => (World.ownsRow.lt HO3.out j hj).1)
      have HO4 := Lib.hid ho
      have HB4 := Lib.hid hb4
      have y4 := (HST.out.box.below hb4).three2
      have fy4 := (HST.out.box.below hb4).frozen 2
      clear ho hg hb4
      refine hK.out _ _ (fun _ => y4) (fun hH => ?_)
      have hHeld := hH (by decide)
      clear hH
      clear hK K
      (try simp only [Act.put, List.getElem_toArray, List.getElem_cons_succ, List.getElem_cons_zero, List.setIfInBounds_toArray, List.set_cons_zero, List.set_cons_succ])
      refine anyE_take (i := 12) (v := ?vz10) rfl (by kernel_rfl) (by kernel_rfl) (by kernel_rfl) (by kernel_rfl) (by kernel_rfl) (fun _ _ _ h => h) (Or.inl ⟨by kernel_rfl, ?yz10⟩) (by assumption) ?rz10
      case yz10 => (intro w' hSw; (try dsimp only at hSw); go_simp; (try with_reducible rfl))
      (try simp only [Act.put, List.getElem_toArray, List.getElem_cons_succ, List.getElem_cons_zero, List.setIfInBounds_toArray, List.set_cons_zero, List.set_cons_succ])
      refine anyE_one (i := 13) (by kernel_rfl) (anyE_step rfl (fun K hK => ?_))
      go_simp
      refine hK.out _ _ (fun h => absurd rfl h) (fun _ => ?_)
      clear hK K
      (try simp only [Act.put, List.getElem_toArray, List.getElem_cons_succ, List.getElem_cons_zero, List.setIfInBounds_toArray, List.set_cons_zero, List.set_cons_succ])
      refine anyE_done (by kernel_rfl) ?_ _
      refine NoPanic.normal ?_
      have hm4 : k + m = S.length - 1 := by have := HM.out; omega
      have ho4 := HO4.out
      rw [hm4, ← flatX_append] at ho4
      have hmem : ∀ p ∈ q.take k ++ q.drop (k + 1), p ∈ q := fun p hp => by
        rcases List.mem_append.1 hp with h1 | h1
        · exact List.mem_of_mem_take h1
        · exact List.mem_of_mem_drop h1
      have hst := HST.out.fresh HB4.out ho4 (by rw [List.length_append, List.length_take, List.length_drop, HQL.out]; omega) (fun p hp => (HST.out.sets.row p (hmem p hp)).below HB4.out)
        (fun p hp j hj => ⟨(World.ownsRow.lt (HST.out.sets.row p (hmem p hp)) j hj).2, fun e => by subst e; exact HST.out.nbQ p (hmem p hp) hj⟩) (HST.out.sets.dis.sublist (by rw [← List.eraseIdx_eq_take_drop_succ]; exact List.eraseIdx_sublist ..)) (fun j hj p hp => (HST.out.apart j hj).2 p (hmem p hp))
      have hRL : rS.length = S.length - 1 := by rw [← HRX.out]; unfold remX; rw [List.length_eraseIdx, HPK.out, if_pos hkS]
      have HQR := Lib.hid (show setsX (q.take k ++ q.drop (k + 1)) = rS by rw [setsX_cut, HQ.out, ← HRX.out]; unfold remX; rw [HPK.out])
      rw [← hRL] at hst
      rw [hm4, ← hRL]
      have HST6 := Lib.hid hst
      clear hst y2 ya y3 y4 fy4 ho4 hmem hm4
      have d0 := HST6.out.box.three0
      have d1 := HST6.out.box.three1
      have d2 := HST6.out.box.three2
      have r0 := HST6.out.res.three0
      have r1 := HST6.out.res.three1
      have r2 := HST6.out.res.three2
      have f0 := HST6.out.res.frozen 0
      have f1 := HST6.out.res.frozen 1
      have f2 := HST6.out.res.frozen 2
      clear hRL
      go_wp2
      have z := HST6.out.end_
      have z0 : _ = some _ := z.three0
      have z1 : _ = some _ := z.three1
      have z2 : _ = some _ := z.three2
      exact bodyPost_ret (v := .tuple #[.agg #[.int .i64 t, .slice a1 T.length c1, .slice a3 rS.length c3], .bool true]) (by simp [results, Try.results16, go_sem, z0, z1, z2]) rfl (HST6.out.gives HQR.out true)

end Go.Proofs.Ythjbekgognfiiaa
