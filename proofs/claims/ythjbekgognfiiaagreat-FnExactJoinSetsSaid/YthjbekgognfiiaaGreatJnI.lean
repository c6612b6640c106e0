/-
  What impl.JoinSets answers. By an AI agent.
-/
import Derived.Test.YthjbekgognfiiaaGreatCdI
import Derived.Test.YthjbekgognfiiaaGreatPrS
import Derived.Test.YthjbekgognfiiaaGreatJ7
import Derived.Test.YthjbekgognfiiaaGreatIxU
namespace Go.Proofs.YthjbekgognfiiaaGreat
open Go.RowKit Go.Maps Go.Sort
set_option linter.unusedVariables false

theorem joinL_len (t : Int) : ∀ S : List IS, (joinL t S).length ≤ S.length * S.length
  | [] => by simp [joinL]
  | x :: S => by
    have h1 := joinL_len t S
    have h2 := List.length_filter_le (fun y : IS => meetR x.2 y.2 t) S
    simp only [joinL, List.length_append, List.length_map, List.length_cons, Nat.succ_mul, Nat.mul_succ]
    omega
theorem joinR_len (t : Int) (T : List TC) (S : List IS) : (joinR t T S).length ≤ 4000000 := by
  unfold joinR
  split
  · rename_i h
    have h1 := (ixB_parts h).2.2.1
    have h2 := Nat.le_trans (joinL_len t S) (Nat.mul_le_mul h1 h1)
    omega
  · exact Nat.zero_le _
theorem joinL_drop {t : Int} {S : List IS} {k : Nat} {x : IS} (h : S[k]? = some x) : joinL t (S.drop k) = (((S.drop (k + 1)).filter fun y => meetR x.2 y.2 t).map fun y => (x.1, y.1)) ++ joinL t (S.drop (k + 1)) := by
  have e : S.drop k = x :: S.drop (k + 1) := by
    obtain ⟨hl, he⟩ := List.getElem?_eq_some_iff.1 h
    rw [← he, List.drop_eq_getElem_cons hl]
  rw [e]
  rfl
/-- the identifiers that are found after x -/
theorem later_ids {t : Int} {T : List TC} {S : List IS} {l : List Str} (ht : okT t = true) (i : Int) : ((S.filter fun x => cdB T t l x.2 && meetR l x.2 t).map Prod.fst).map (fun z => (i, z)) = (S.filter fun y => meetR l y.2 t).map fun y => (i, y.1) := by
  have : S.filter (fun x => cdB T t l x.2 && meetR l x.2 t) = S.filter fun x => meetR l x.2 t := by
    refine List.filter_congr fun x hx => ?_
    cases hm : meetR l x.2 t
    · simp
    · rw [(cd_iff ht).2 (meet_cand hm)]; rfl
  rw [this, List.map_map]
  rfl
theorem HoldOf.step {T : List TC} {t : Int} {q : List XS} {k : Nat} {p : XS} {f : Str → Int → Option Value} (h : HoldOf T t (q.drop k) f) (hp : q[k]? = some p) (ha : AscX (setsX q)) : HoldOf T t (q.drop (k + 1)) (fun x i => if x ∈ keysR T t p.1.2 ∧ i = p.1.1 then none else f x i) := by
  rw [xs_drop hp] at h
  refine h.drop fun r hr => ?_
  obtain ⟨j, hj⟩ := List.getElem?_of_mem hr
  rw [List.getElem?_drop] at hj
  have h1 : (setsX q)[k + 1 + j]? = some r.1 := by simp [setsX, hj]
  have h2 : (setsX q)[k]? = some p.1 := by simp [setsX, hp]
  have := ascX_at ha h2 h1 (by omega)
  omega

theorem flatP_append (l m : List IP) : flatP (l ++ m) = flatP l ++ flatP m := by simp [flatP]
theorem Hold.keptO {w w' : World} {lo bH n N : Nat} {g : Str → Option Nat} {f : Str → Int → Option Value} {r : Option Nat} (h : Hold w lo bH n g f) (hg : w.grownBy w' r) (h0 : bH < N) (h1 : ∀ x b, g x = some b → b < N) (hr : ∀ j, r = some j → N ≤ j) : Hold w' lo bH n g f := by
  cases r with
  | none => exact h.below (grown_none hg)
  | some j =>
    have := hr j rfl
    exact h.kept hg (by omega) (fun x b e => by have := h1 x b e; omega)
theorem HChg.grownO {w w1 w2 : World} {bH : Nat} {g : Str → Option Nat} {r : Option Nat} (h : HChg w w1 bH g) (hg : w1.grownBy w2 r) (hr : ∀ j, r = some j → w.heap.size ≤ j) : HChg w w2 bH g := by
  cases r with
  | none => exact h.trans_ (HChg.of (grown_none hg)) (fun x b e => .inl e)
  | some j => exact h.grown hg (.inr (.inr (hr j rfl)))

set_option maxRecDepth 100000 in
set_option maxHeartbeats 4000000 in
theorem jn_impl (t : Int) (ta : Option Addr) (tc : Nat) (T : List TC) (xa : Option Addr) (xc : Nat) (S : List IS) (r : List (Int × Int)) (w : World) (hr : joinR t T S = r) (h : SmIx w ta T tc xa S xc) (hz : cntQ S S.length ≤ 4000000) :
    Calls Tryz.prog 13 #[.agg #[.int .i64 t, .slice ta T.length tc, .slice xa S.length xc]] w (GivesP w r) := by
  obtain ⟨w1, hw1⟩ : ∃ w1, w1 = w.alloc (.cells #[.int .i64 t, .slice ta T.length tc, .slice xa S.length xc] 27) := ⟨_, rfl⟩
  have HW1 := Lib.hid hw1
  have HB1 := Lib.hid (show Below w.heap.size w w1 by rw [hw1]; exact (Below.refl w.heap.size w).alloc (Nat.le_refl _) _)
  have HR0 := Lib.hid (show BlkV w1 w.heap.size 27 #[.int .i64 t, .slice ta T.length tc, .slice xa S.length xc] by rw [hw1]; exact BlkV.new _ _ _)
  have HX := Lib.hid (h.below HB1.out)
  have hsl0 : S.length ≤ 4000000 := h.sets.2.2.2.1
  obtain ⟨rb, hrb⟩ : ∃ b, ixB t T S = b := ⟨_, rfl⟩
  have HRB := Lib.hid hrb
  have HR := Lib.hid hr
  have HZ := Lib.hid hz
  clear h hw1 hrb hr hz
  go_enter Tryz.func13, Tryz.ntmps13
  go_wp2_with (go_at_call 19; rw [← HW1.out]; (refine (ix_impl t ta tc T xa xc S rb w1 HRB.out HX.out).mono ?_); rintro e w2 ⟨rfl, hb⟩; refine Hid.out ?_)
  have HB2 := Lib.hid (HB1.out.trans (hb.mono HB1.out.size))
  have HX2 := Lib.hid (HX.out.below hb)
  have HR2 := Lib.hid (HR0.out.below hb)
  clear hb
  have q0 := HR2.out.three0
  have q1 := HR2.out.three1
  have q2 := HR2.out.three2
  cases rb
  · obtain rfl : [] = r := by rw [← HR.out]; unfold joinR; rw [HRB.out]; rfl
    refine Lib.hid ?_
    go_wp2
    go_ret
    exact ⟨none, 0, rfl, OwnP.nil _ _, HB2.out⟩
  · obtain rfl : joinL t S = r := by rw [← HR.out]; unfold joinR; rw [HRB.out, if_pos rfl]
    obtain ⟨q, hq, hV, hC⟩ := q_of HX2.out.sets
    have HQ := Lib.hid hq
    have HV := Lib.hid hV
    have HC := Lib.hid hC
    have HAS := Lib.hid (ixB_parts HRB.out).2.2.2.2
    have HOT := Lib.hid (ixB_parts HRB.out).2.1
    have hs12 := (ixB_parts HRB.out).2.2.1
    have HID := Lib.hid (good_ids HRB.out)
    have HP := Lib.hid (pfx_of t ta tc T xa xc S.length q S w2 rfl hq HX2.out.tab hV hC HAS.out (good_ids HRB.out) HZ.out)
    have HJL := Lib.hid (show (joinL t S).length ≤ 144 from Nat.le_trans (joinL_len t S) (Nat.mul_le_mul hs12 hs12))
    clear hq hV hC
    refine Lib.hid ?_
    go_wp2_with (go_at_call 31; (refine HP.out.mono ?_); rintro e w3 ⟨bH, n, g, f0, rfl, hH, hO, hn, hb3⟩; refine Hid.out ?_)
    have HN3 := Lib.hid hn
    obtain ⟨w4, hw4⟩ : ∃ w4, w4 = w3.alloc (.cells #[.int .i64 t, .slice ta T.length tc, .map (some bH)] 64) := ⟨_, rfl⟩
    have HW4 := Lib.hid hw4
    have HA4 := Lib.hid (show Below w3.heap.size w3 w4 by rw [hw4]; exact (Below.refl _ _).alloc (Nat.le_refl _) _)
    have HR4 := Lib.hid (show BlkV w4 w3.heap.size 64 #[.int .i64 t, .slice ta T.length tc, .map (some bH)] by rw [hw4]; exact BlkV.new _ _ _)
    have HZ4 := Lib.hid (show w4.heap.size = w3.heap.size + 1 by rw [hw4]; simp)
    have HS23 := Lib.hid hb3.size
    have HB24 := Lib.hid (show Below w2.heap.size w2 w4 from hb3.trans (HA4.out.mono hb3.size))
    have HR24 := Lib.hid (HR2.out.below HB24.out)
    have HH4 := Lib.hid (hH.below HA4.out)
    have HO4 := Lib.hid hO
    have HBH := Lib.hid (show bH < w3.heap.size from hH.out.lt)
    have HBG := Lib.hid (show ∀ x b, g x = some b → b < w3.heap.size from fun x b e => (hH.inn x b e).lt)
    have HLO := Lib.hid (show w2.heap.size ≤ bH from hH.low)
    have HLG := Lib.hid hH.lowi
    clear hw4 hH hO hb3 hn q0 q1 q2
    have q2 : (w3.alloc (.cells #[.int .i64 t, .slice ta T.length tc, .map (some bH)] 64)).cell? ⟨w.heap.size, 2, none⟩ = some (.slice xa S.length xc) := by rw [← HW4.out]; exact HR24.out.three2
    refine Lib.hid ?_
    go_wp2
    rw [← HW4.out]
    clear q2
    go_loopw [3, 17] (fun v i wr => ∃ (k : Nat) (f : Str → Int → Option Value) (out : List (Int × Int)), k ≤ S.length ∧ i = .int .i64 k ∧ Hold wr w2.heap.size bH n g f ∧ HoldOf T t (q.drop k) f ∧ OwnP wr w4.heap.size v out ∧ out ++ joinL t (S.drop k) = joinL t S ∧ HChg w4 wr bH g) (fun _ i _ => S.length - (intOf i).toNat)
    case atStart => exact ⟨0, f0, [], Nat.zero_le _, rfl, HH4.out, HO4.out, OwnP.nil _ _, by simp, HChg.of (Below.refl _ _)⟩
    case round =>
      obtain ⟨k, f, out, hk, rfl, hH, hO, hP, hJ, hCg⟩ := hrel
      obtain ⟨wo, rfl⟩ : ∃ wo, wo = wr := ⟨_, rfl⟩
      have HH := Lib.hid hH
      have HO := Lib.hid hO
      have HOP := Lib.hid hP
      have HJ := Lib.hid hJ
      have HCG := Lib.hid hCg
      have hbh := HBH.out
      have hz4 := HZ4.out
      have hlo := HLO.out
      have HBW := Lib.hid (show Below w2.heap.size w2 wo from HB24.out.trans (hCg.below (by omega) HLG.out HB24.out.size))
      have HR4r := Lib.hid (HR4.out.hchg hCg (by omega) (fun x e => by have := HBG.out x _ e; omega))
      have hwo : w4.heap.size ≤ wo.heap.size := hCg.size
      obtain ⟨av, cv, rfl⟩ := hP.shape
      clear hH hO hP hJ hCg
      by_cases hlt : k < S.length
      · have hql : q.length = S.length := by rw [← setsX_len, HQ.out]
        have hj := List.getElem?_eq_getElem (show k < q.length by omega)
        generalize q[k] = p at hj
        obtain ⟨⟨id, l⟩, v0⟩ := p
        obtain ⟨b, off, rfl, hbl, hc0, hc1⟩ := HC.out k _ hj
        obtain ⟨a', c', hv, hS⟩ := HV.out _ (List.mem_of_getElem? hj)
        replace hv : v0 = .slice a' l.length c' := hv
        replace hS : Sm w2 a' l c' := hS
        subst hv
        have hSk : S[k]? = some (id, l) := by
          rw [← HQ.out]; simp [setsX, hj]
        have g0 : wo.cell? ⟨b, off + k * 2, none⟩ = some (.int .i64 id) := by rw [HBW.out.cell (p := ⟨b, off + k * 2, none⟩) hbl]; exact hc0
        have g1 : wo.cell? ⟨b, off + k * 2 + 1, none⟩ = some (.slice a' l.length c') := by rw [HBW.out.cell (p := ⟨b, off + k * 2 + 1, none⟩) hbl]; exact hc1
        have HSS := Lib.hid hS
        have HSK := Lib.hid hSk
        have HQJ := Lib.hid hj
        have HKL := Lib.hid (keysR_len T t l)
        obtain ⟨w5, hw5⟩ : ∃ w5, w5 = wo.alloc (.cells #[.int .i64 id, .slice a' l.length c'] 71) := ⟨_, rfl⟩
        have HW5 := Lib.hid hw5
        have HA5 := Lib.hid (show Below wo.heap.size wo w5 by rw [hw5]; exact (Below.refl _ _).alloc (Nat.le_refl _) _)
        have HR6 := Lib.hid (show BlkV w5 wo.heap.size 71 #[.int .i64 id, .slice a' l.length c'] by rw [hw5]; exact BlkV.new _ _ _)
        have HZ5 := Lib.hid (show w5.heap.size = wo.heap.size + 1 by rw [hw5]; simp)
        have HB25 := Lib.hid (show Below w2.heap.size w2 w5 from HBW.out.trans (HA5.out.mono HBW.out.size))
        have HRM := Lib.hid (remove_any t ta tc T id a' c' l _ w2.heap.size bH n g f w5 rfl (HX2.out.tab.below HB25.out) (hS.below HB25.out) (HID.out _ (List.mem_of_getElem? hSk)) (by have := hS.2.2.2.1; have := HKL.out; omega) (keysR_mem hS.2.2.2.2) (HH.out.below HA5.out))
        have HC5 := Lib.hid (HCG.out.trans_ (HChg.of HA5.out) (fun x b e => .inl e))
        have ha := HR4r.out.alloc (.cells #[.int .i64 id, .slice a' l.length c'] 71)
        have s0 := ha.three0
        have s1 := ha.three1
        have s2 := ha.three2
        clear hj hc0 hc1 hS hSk hql hbl hw5 ha
        go_wp2_with (go_at_call 40; rw [← HW5.out]; (refine HRM.out.mono ?_); rintro e w6 ⟨rfl, hH6, hC6⟩; refine Hid.out ?_)
        have HC6 := Lib.hid (HC5.out.trans_ hC6 (fun x b e => .inl e))
        have HR4s := Lib.hid (HR4.out.hchg HC6.out (by omega) (fun x e => by have := HBG.out x _ e; omega))
        have HR6s := Lib.hid (HR6.out.hchg hC6 (by have := HZ5.out; omega) (fun x e => by have := HBG.out x _ e; omega))
        have HB26 := Lib.hid (show Below w2.heap.size w2 w6 from HB25.out.trans (hC6.below (by omega) HLG.out HB25.out.size))
        have HOP6 := Lib.hid (show OwnP w6 w4.heap.size (.slice av out.length cv) out from row_block (HOP.out.below HA5.out) (fun kk hkk => by
          have h1 := World.ownsRow.lt (HOP.out.below HA5.out) kk hkk
          exact hC6.block kk h1.2 (by omega) (fun x e => by have := HBG.out x _ e; omega)))
        have HO6 := Lib.hid (HO.out.step HQJ.out (by rw [HQ.out]; exact HAS.out))
        have HZ6 := Lib.hid (show wo.heap.size + 1 ≤ w6.heap.size by have := hC6.size; have := HZ5.out; omega)
        have HVB := Lib.hid (show ∀ j, (Value.slice av out.length cv).ownBlock = some j → j < wo.heap.size from fun j hj => (World.ownsRow.lt HOP.out j hj).2)
        have hmem : ∀ p ∈ q.drop (k + 1), p ∈ q := fun p hp => List.mem_of_mem_drop hp
        have hinj := asc_inj (q := q) (by rw [HQ.out]; exact HAS.out)
        have HSM := Lib.hid (sim_any t ta tc T a' c' l _ (q.drop (k + 1)) w2.heap.size bH n g _ w6 rfl HOT.out (HX2.out.tab.below HB26.out) (HSS.out.below HB26.out) HO6.out (fun p hp => (HV.out p (hmem p hp)).below HB26.out) (fun p hp s hs e => hinj p (hmem p hp) s (hmem s hs) e) HN3.out hH6)
        have HH6 := Lib.hid hH6
        obtain ⟨ids, hids⟩ : ∃ ids, ((S.drop (k + 1)).filter fun x => cdB T t l x.2 && meetR l x.2 t).map Prod.fst = ids := ⟨_, rfl⟩
        have HIDS := Lib.hid hids
        have HQD := Lib.hid (show setsX (q.drop (k + 1)) = S.drop (k + 1) by rw [← HQ.out]; simp [setsX])
        have HAD := Lib.hid (show AscX (S.drop (k + 1)) from List.Pairwise.sublist (List.drop_sublist _ _) HAS.out)
        have HJ2 := Lib.hid (show out ++ ids.map (fun z => (id, z)) ++ joinL t (S.drop (k + 1)) = joinL t S by
          rw [← HJ.out, joinL_drop HSK.out, List.append_assoc, ← hids, later_ids HOT.out])
        clear hC6 hH6 hids s0 s1 s2 hmem hinj
        have s0 := HR4s.out.three0
        have s1 := HR4s.out.three1
        have s2 := HR4s.out.three2
        have u0 := HR6s.out.two0
        have u1 := HR6s.out.two1
        refine Lib.hid ?_
        go_wp2_with (first
          | (go_at_call 33; (refine HSM.out.mono ?_); rintro e w7 ⟨b7, m7, F7, rfl, hN7, hF7, hlo7, hm7, hb7⟩; have HB7 := Lib.hid hb7; have HS7 := Lib.hid (sorted_ids b7 m7 F7 ids w7 hm7 hN7 (fun zs hn hm => by rw [ids_sorted (P := fun x => cdB T t l x && meetR l x t) (found_both hF7) (by rw [HQD.out]; exact HAD.out) hn hm, HQD.out]; exact HIDS.out)); clear hN7 hF7 hlo7 hm7 hb7)
          | (go_at_call 30; (refine HS7.out.mono ?_); rintro e w8 ⟨a8, c8, rfl, ho, hb8⟩; refine Hid.out ?_))
        have HI8 := Lib.hid ho
        have HB68 := Lib.hid (show Below w6.heap.size w6 w8 from HB7.out.trans (hb8.mono HB7.out.size))
        have HZ7 := Lib.hid HB7.out.size
        have HZ8 := Lib.hid hb8.size
        have HH8 := Lib.hid (HH6.out.below HB68.out)
        have HR68 := Lib.hid (HR6s.out.below HB68.out)
        have HOP8 := Lib.hid (HOP6.out.below HB68.out)
        have HC8 := Lib.hid (HC6.out.trans_ (HChg.of HB68.out) (fun x b e => .inl e))
        have HIB := Lib.hid (show ∀ j, (Value.slice a8 ids.length c8).ownBlock = some j → w7.heap.size ≤ j ∧ j < w8.heap.size from fun j hj => World.ownsRow.lt ho j hj)
        have HLI := Lib.hid (show out.length + ids.length ≤ 144 by
          have h1 := congrArg List.length HJ2.out
          have h2 := HJL.out
          simp only [List.length_append, List.length_map] at h1
          omega)
        clear ho hb8 s0 s1 s2 u0 u1
        refine Lib.hid ?_
        go_wp2
        obtain ⟨i1, hi1, hy0, hy1, hy2⟩ := info_parts info_ip
        go_loopw [3, 30] (fun v i wr => ∃ m : Nat, m ≤ ids.length ∧ i = .int .i64 m ∧ OwnP wr w4.heap.size v (out ++ (ids.take m).map (fun z => (id, z))) ∧ OwnI wr w7.heap.size (.slice a8 ids.length c8) ids ∧ (∀ j, v.ownBlock = some j → j < wo.heap.size ∨ w8.heap.size ≤ j) ∧
            Hold wr w2.heap.size bH n g (fun x i => if x ∈ keysR T t l ∧ i = id then none else f x i) ∧ HChg w4 wr bH g ∧ BlkV wr wo.heap.size 71 #[.int .i64 id, .slice a' l.length c'] ∧ w8.heap.size ≤ wr.heap.size) (fun _ i _ => ids.length - (intOf i).toNat)
        case atStart => exact ⟨0, Nat.zero_le _, rfl, by simpa using HOP8.out, HI8.out, fun j hj => .inl (HVB.out j hj), HH8.out, HC8.out, HR68.out, Nat.le_refl _⟩
        case round =>
          obtain ⟨m, hm, rfl, hP, hI, hv, hH, hCg, hR, hsz⟩ := hrel
          have HPm := Lib.hid hP
          have HIm := Lib.hid hI
          have HVm := Lib.hid hv
          have HHm := Lib.hid hH
          have HCm := Lib.hid hCg
          have HRm := Lib.hid hR
          have hli := HLI.out
          obtain ⟨aw, cw, rfl⟩ := hP.shape
          clear hP hI hv hH hCg hR
          by_cases hltm : m < ids.length
          · have hz := List.getElem?_eq_getElem hltm
            generalize ids[m] = z at hz
            have HZM := Lib.hid hz
            obtain ⟨gi, rfl, hg1, hg2, hcz⟩ := rowX_at HIm.out (by omega)
            have hcell : wr.cell? ⟨gi, 0 + m, none⟩ = some (.int .i64 z) := hcz m _ (by rw [List.getElem?_map, hz]; rfl)
            have hcell' : wr.cell? ⟨gi, m, none⟩ = some (.int .i64 z) := by rw [Nat.zero_add] at hcell; exact hcell
            have HGI := Lib.hid (HIB.out gi rfl)
            have u0 := HRm.out.two0
            have u1 := HRm.out.two1
            have HBA := Lib.hid ((Below.refl wr.heap.size wr).alloc (Nat.le_refl _) (.cells #[.int .i64 id, .int .i64 z] 38))
            clear hz hcz
            go_wp2_with (at_builtin; refine wpList_append_own_at _ rfl _ _ 35 rfl w4.heap.size 38 i1 _ 2 16 Tryz.underlying35 hi1 hy0 hy1 hy2 rfl (by decide) _ _ _ rfl (HPm.out.below HBA.out) ⟨wr.heap.size, 0, none⟩ 1 1 [.int .i64 id, .int .i64 z] rfl rfl (two_new wr _ _ _) (by simp [Value.oneCell']) (by simp; unfold maxLen; omega) (by simp; omega) (by simp; have := HZ6.out; have := HZ7.out; have := HZ8.out; omega) ?_; intro v' w9 hown' hg9 hnil9 hat9; refine Hid.out ?_)
            have hz6 := HZ6.out
            have hz7 := HZ7.out
            have hz8 := HZ8.out
            have hv9 : ∀ j, (Value.slice aw (out ++ (ids.take m).map (fun z => (id, z))).length cw).ownBlock = some j → w4.heap.size ≤ j ∧ j ≠ wo.heap.size ∧ j ≠ gi := fun j hj => by
              have h1 := World.ownsRow.lt HPm.out j hj
              have h2 := HVm.out j hj
              have h3 := HGI.out
              omega
            have HO9 := Lib.hid (show OwnP w9 w4.heap.size v' (out ++ (ids.take (m + 1)).map (fun z => (id, z))) by
              rw [show ids.take (m + 1) = ids.take m ++ [z] by rw [List.take_add_one, HZM.out]; rfl, List.map_append, ← List.append_assoc]
              unfold OwnP
              rw [List.length_append, flatP_append]
              exact hown')
            have HI9 := Lib.hid (show OwnI w9 w7.heap.size (.slice (some ⟨gi, 0, none⟩) ids.length c8) ids from row_keptO (HIm.out.below HBA.out) hg9 (fun j hj e => by cases e; exact (hv9 gi hj).2.2 rfl))
            have HH9 := Lib.hid ((HHm.out.below HBA.out).keptO (N := w4.heap.size) hg9 (by omega) (fun x b e => by have := HBG.out x b e; omega) (fun j hj => (hv9 j hj).1))
            have HC9 := Lib.hid ((HCm.out.trans_ (HChg.of HBA.out) (fun x b e => .inl e)).grownO hg9 (fun j hj => (hv9 j hj).1))
            have HR9 := Lib.hid (show BlkV w9 wo.heap.size 71 #[.int .i64 id, .slice a' l.length c'] from (hg9.block _ (HRm.out.alloc _).lt (fun e => (hv9 _ e.symm).2.1 rfl)).trans (HRm.out.alloc _))
            have HV9 := Lib.hid (show ∀ j, v'.ownBlock = some j → j < wo.heap.size ∨ w8.heap.size ≤ j from fun j hj => by
              rcases hat9 with h1 | h1
              · rw [h1] at hj; exact HVm.out j hj
              · rw [h1] at hj
                injection hj with hj
                simp at hj
                omega)
            have HS9 := Lib.hid (show w8.heap.size ≤ w9.heap.size by have := hg9.size; simp at this; omega)
            clear hown' hg9 hnil9 hat9 hv9
            refine Lib.hid ?_
            go_wp2
            go_roundw
            case rel => exact ⟨m + 1, by omega, by go_num, HO9.out, HI9.out, HV9.out, HH9.out, HC9.out, HR9.out, HS9.out⟩
            case measure => simp [intOf]; omega
          · obtain rfl : m = ids.length := by omega
            go_wp2
            go_roundw
            case rel =>
              have hP := HPm.out
              rw [List.take_length] at hP
              exact ⟨k + 1, _, out ++ ids.map (fun z => (id, z)), by omega, by go_num, HHm.out, HO6.out, by rw [List.take_length]; exact hP, HJ2.out, HCm.out⟩
            case measure => simp [intOf]; omega
      · obtain rfl : k = S.length := by omega
        go_wp2
        have hJ := HJ.out
        rw [List.drop_length] at hJ
        obtain rfl : out = joinL t S := by simpa [joinL] using hJ
        go_ret
        exact ⟨_, _, rfl, HOP.out.mono (by have := HB2.out.size; have := HS23.out; omega), HB2.out.trans (HBW.out.mono HB2.out.size)⟩

end Go.Proofs.YthjbekgognfiiaaGreat
