/-
  What impl.ParseRules reads: rules. By an AI agent.
-/
import Derived.Test.YtknkhljegmielaaDoorRdT
import Derived.Test.YtknkhljegmielaaDoorRuI
namespace Go.Proofs.YtknkhljegmielaaDoor
open Go.RowKit
set_option linter.unusedVariables false
set_option linter.unnecessarySimpa false
set_option linter.unusedSimpArgs false

/-- what strings.SplitN at a separator hands back, of at most four parts -/
def GivesSx (w : World) (sep s : Str) (e : Ending) (w' : World) : Prop :=
  ∃ (P : List Str) (a : Option Addr) (c : Nat), e = .returned (.slice a P.length c) ∧ Lib.splitN s sep 4 = P ∧ InS w' a P ∧ 1 ≤ P.length ∧ P.length ≤ 4 ∧ (∀ y ∈ P, y.length ≤ s.length) ∧ Below w.heap.size w w'
theorem tail_memG (sep : Str) : ∀ {L : List Str} {y : Str}, y ∈ L → y.length ≤ (Lib.joinTail sep L).length
  | z :: L, y, h => by
    rw [tailG_cons]
    rcases List.mem_cons.1 h with rfl | h
    · simp; omega
    · have := tail_memG sep h
      simp; omega
theorem splitx_is (s sep : ByteArray) (w : World) (hs : s.size ≤ 1048576) (h1 : 1 ≤ sep.size) (hx : MaxAt w) :
    Calls Tryd.prog 27 #[.string s, .string sep, .int .i64 4] w (GivesSx w sep.data.toList s.data.toList) := by
  obtain ⟨m, hm⟩ := hx
  refine (Tryd.strings_SplitN s sep 4 m w (by omega) hm h1 (by decide) (by decide)).mono fun e w' ⟨he, hw⟩ => ?_
  obtain ⟨P, hP⟩ : ∃ P, Lib.splitB sep 0 (min 4 (s.size + 1) - 1) s = P := ⟨_, rfl⟩
  have hlen := Lib.splitB_length_le sep 0 (min 4 (s.size + 1) - 1) s
  have hd := Lib.splitB_data sep 0 (min 4 (s.size + 1) - 1) s
  rw [hP] at he hw hlen hd
  have hz : s.data.toList.length = s.size := by simp
  have hk : Lib.splitN s.data.toList sep.data.toList 4 = P.map (·.data.toList) := by
    unfold Lib.splitN
    rw [hz]
    exact hd.symm
  obtain ⟨x, L, g1, g2, g3⟩ := gs_back sep.data.toList (min 4 (s.data.toList.length + 1) - 1) s.data.toList
  have hk2 : P.map (·.data.toList) = x :: L := by rw [← hk]; exact g1
  have hPl : P.length = L.length + 1 := by have := congrArg List.length hk2; simpa using this
  have hQ : (P.map (·.data.toList)).length = P.length := by simp
  refine ⟨P.map (·.data.toList), some ⟨w.heap.size, 0, none⟩, min 4 (s.size + 1), ?_, hk, ?_, by rw [hQ]; omega, by rw [hQ]; omega, fun y hy => ?_, ?_⟩
  · rw [he, hQ]
  · rw [hw]
    refine fun _ => ⟨w.heap.size, 0, rfl, by simp, fun j x hj => ?_⟩
    rw [Nat.zero_add]
    rw [List.getElem?_map] at hj
    cases h2 : P[j]? with
    | none => rw [h2] at hj; simp at hj
    | some t =>
      rw [h2] at hj
      simp at hj
      rw [row_cell2 w P _ j t h2, ← hj]
  · rw [hk2] at hy
    rw [g2, List.length_append]
    rcases List.mem_cons.1 hy with rfl | hy
    · omega
    · have := tail_memG sep.data.toList hy
      omega
  · rw [hw]; exact (Below.refl _ _).alloc (Nat.le_refl _) _

set_option maxRecDepth 100000 in
set_option maxHeartbeats 1000000 in
theorem cst_any (a : Option Addr) (cap : Nat) (P : List Str) (l : List TS) (w : World) (hl : P.length ≤ 4000000) (hPX : ∀ y ∈ P, y.length ≤ 1048576) (hP : P.map imtT = l) (hin : InS w a P) (ht : TabAt w) (hx : MaxAt w) :
    Calls Tryd.prog 44 #[.slice a P.length cap, .func (.func 45) #[] #[]] w (GivesTs w l) := by
  obtain ⟨i0, hi, hz0, hz1, hz2⟩ := info_get info_ts
  have HIN := Lib.hid hin
  have HPX := Lib.hid hPX
  have HTAB := Lib.hid ht
  have HMAX := Lib.hid hx
  have hPl : P.length = l.length := by rw [← hP, List.length_map]
  have HPA := Lib.hid (fun j y (hj : P[j]? = some y) => show l[j]? = some (imtT y) by rw [← hP, List.getElem?_map, hj]; rfl)
  rw [hPl] at hl ⊢
  have HPL := Lib.hid hPl
  clear hin hPX ht hx hP hPl
  go_enter Tryd.func44, Tryd.ntmps44
  go_wp2_with (at_make; refine wpList_make_full _ rfl _ _ 39 rfl w.heap.size 43 i0 _ 3 Tryd.underlying39 hi hz0 hz1 .i64 .i64 _ _ l.length rfl rfl rfl rfl (by rw [hz2]; omega) (by unfold maxLen; omega) (Nat.le_refl _) ?_; intro w1 hrow hg)
  have HROW := Lib.hid hrow
  have HB1 := Lib.hid ((Below.refl w.heap.size w).grown hg (Nat.le_refl _) (fun k hk => by cases hk))
  clear hrow hg
  go_loopw [13] (fun i wr => ∃ (k : Nat) (rest : List Value), k ≤ l.length ∧ i = .int .i64 k ∧ wr.ownsRow w.heap.size 43 3 (.slice (some ⟨w.heap.size, 0, none⟩) l.length l.length) l.length (flatTs (l.take k) ++ rest) ∧ Below w.heap.size w wr) (fun i _ => l.length - (intOf i).toNat)
  case atStart => exact ⟨0, _, Nat.zero_le _, rfl, HROW.out, HB1.out⟩
  case round =>
    obtain ⟨k, rest, hk, rfl, hrow, hb⟩ := hrel
    by_cases hlt : k < l.length
    · obtain ⟨b, off, rfl, hbw, hc⟩ := HIN.out (by rw [HPL.out]; omega)
      obtain ⟨y, sy, hy, hy2, hy3, hy4⟩ := str_at (l := P) (k := k) (by rw [HPL.out]; exact hlt)
      have hcell : wr.cell? ⟨b, off + k, none⟩ = some (.string sy) := by rw [hb.cell (p := ⟨b, off + k, none⟩) hbw, ← hy3]; exact hc k y hy
      have hss : sy.size ≤ 1048576 := by rw [hy4]; exact HPX.out y (List.mem_of_getElem? hy)
      obtain ⟨⟨⟨f, t⟩, u⟩, htx⟩ : ∃ t : TS, imtT y = t := ⟨_, rfl⟩
      have HX := Lib.hid (show l[k]? = some ((f, t), u) by rw [HPA.out k y hy, htx])
      have HRD := Lib.hid (rdt_any sy ((f, t), u) wr hss (by rw [hy2]; exact htx) (HTAB.out.on hb) (HMAX.out.on hb))
      have HROW2 := Lib.hid hrow
      have HB := Lib.hid hb
      have HFL := Lib.hid (show (flatTs (l.take k)).length = k * 3 by rw [flatTs_len, List.length_take]; omega)
      clear hc hy hy2 hy3 hy4 hrow hb hbw htx hss
      go_wp2_with (go_at_call 45; (refine HRD.out.mono ?_); rintro e w2 ⟨rfl, hb2⟩; refine Hid.out ?_)
      refine Lib.hid ?_
      have hrow2 := World.ownsRow.kept HROW2.out (row := none) ⟨hb2.os, hb2.tape, hb2.output, hb2.size, fun i hi _ => hb2.block i hi⟩ (by simp [Value.ownBlock])
      obtain ⟨y0, y1, y2, r2, rfl⟩ := gap3_rest hrow2.1 HFL.out hlt
      have q0 := hrow2.cellAt (k * 3) (by omega)
      have q1 := hrow2.cellAt (k * 3 + 1) (by omega)
      have q2 := hrow2.cellAt (k * 3 + 2) (by omega)
      rw [(gap3_at HFL.out).1] at q0
      rw [(gap3_at HFL.out).2.1] at q1
      rw [(gap3_at HFL.out).2.2] at q2
      have f0 := hrow2.frozenAt (k * 3)
      have f1 := hrow2.frozenAt (k * 3 + 1)
      have f2 := hrow2.frozenAt (k * 3 + 2)
      have HN := Lib.hid (hrow2.stored (k * 3) (.int .i64 f))
      have HN2 := Lib.hid (HN.out.1.stored (k * 3 + 1) (.int .i64 t))
      have HN3 := Lib.hid (HN2.out.1.stored (k * 3 + 2) (.bool u))
      have HB2 := Lib.hid (HB.out.trans (hb2.mono HB.out.size))
      clear hb2 hrow2
      go_wp2
      go_roundw
      case rel =>
        have hgg := grown_3 (grown_3 HN.out.2 HN2.out.2) HN3.out.2
        refine ⟨k + 1, r2, by omega, by go_num, ?_, HB2.out.grown hgg HB2.out.size (fun j hj => by cases hj; exact Nat.le_refl _)⟩
        have h := HN3.out.1
        rw [gap3_set HFL.out] at h
        rw [ts_take HX.out, flatTs_snoc]
        exact h
      case measure => simp [intOf]; omega
    · obtain rfl : k = l.length := by omega
      have HROW2 := Lib.hid hrow
      clear hrow
      go_wp2
      go_ret
      refine ⟨_, _, rfl, ?_, hb⟩
      have h := HROW2.out
      rw [List.take_length] at h
      have h1 := h.1
      rw [List.length_append, flatTs_len] at h1
      obtain rfl : rest = [] := List.eq_nil_of_length_eq_zero (by omega)
      rw [List.append_nil] at h
      exact h

set_option maxRecDepth 100000 in
set_option maxHeartbeats 1000000 in
theorem rdr_any (s : ByteArray) (l : List TS) (w : World) (hs : s.size ≤ 1048576) (hl : imuT s.data.toList = l) (ht : TabAt w) (hx : MaxAt w) :
    Calls Tryd.prog 28 #[.string s] w fun e w' => ∃ a' cap', e = .returned (.agg #[.slice a' l.length cap']) ∧ OwnTs w' w.heap.size (.slice a' l.length cap') l ∧ Below w.heap.size w w' := by
  have HL := Lib.hid hl
  have HTAB := Lib.hid ht
  have HMAX := Lib.hid hx
  have HZS := Lib.hid (dsize s)
  obtain ⟨w1, hw1⟩ : ∃ w1, w.alloc (.cells #[.slice none 0 0] 41) = w1 := ⟨_, rfl⟩
  have HB1 := Lib.hid (show Below w.heap.size w w1 by rw [← hw1]; exact (Below.refl w.heap.size w).alloc (Nat.le_refl _) _)
  have HBX := Lib.hid (show BlkV w1 w.heap.size 41 #[.slice none 0 0] by rw [← hw1]; exact BlkV.new _ _ _)
  have HZ1 := Lib.hid (show w1.heap.size = w.heap.size + 1 by rw [← hw1]; simp)
  have HWE := Lib.hid hw1
  have HSP := Lib.hid (splitx_is s ⟨#[44]⟩ w1 hs (by decide) (HMAX.out.on HB1.out))
  clear hl ht hx hw1
  go_enter Tryd.func28, Tryd.ntmps28
  go_wp2_with (go_at_call 27; rw [HWE.out]; ((with_reducible refine HSP.out.mono ?_); rintro e w2 ⟨P, a, c, rfl, hP, hin, hp1, hp4, hpx, hb2⟩; refine Hid.out ?_))
  have HB2 := Lib.hid (HB1.out.trans (hb2.mono HB1.out.size))
  have HB2X := Lib.hid hb2
  have HCT := Lib.hid (cst_any a c P l w2 (by omega) (fun y hy => by have := hpx y hy; have := HZS.out; omega) (by rw [← hP]; exact HL.out) hin (HTAB.out.on HB2.out) (HMAX.out.on HB2.out))
  clear hP hin hp1 hp4 hpx hb2
  refine Lib.hid ?_
  go_wp2_with (go_at_call 44; ((with_reducible refine HCT.out.mono ?_); rintro e w3 ⟨a3, c3, rfl, ho, hb3⟩; have h3 := HBX.out.below (HB2X.out.trans (hb3.mono HB2X.out.size)); have c30 : w3.cell? ⟨w.heap.size, 0, none⟩ = some (.slice none 0 0) := h3.cell 0; have f30 := h3.frozen 0; have H3 := Lib.hid h3; have HO := Lib.hid ho; have HB3 := Lib.hid (HB2.out.trans (hb3.mono HB2.out.size)); have HSZ := Lib.hid (show w.heap.size + 1 ≤ w2.heap.size by have := HZ1.out; have := HB2X.out.size; omega); clear h3 ho hb3))
  have e0 : _ = some (Value.slice a3 l.length c3) := (H3.out.set_ 0 (.slice a3 l.length c3)).cell 0
  have hsz := HSZ.out
  refine bodyPost_ret (v := .agg #[.slice a3 l.length c3]) (by simp [results, Tryd.results28, go_sem, e0]) rfl ⟨_, _, rfl, ?_, ?_⟩
  · exact (OwnTs.setCell HO.out ⟨w.heap.size, 0, none⟩ _ (by show w.heap.size < _; omega)).mono (by omega)
  · exact HB3.out.setCell (by simp) _

set_option maxRecDepth 100000 in
set_option maxHeartbeats 1000000 in
theorem csr_any (a : Option Addr) (cap : Nat) (P : List Str) (R : List (List TS)) (w : World) (hl : P.length ≤ 4000000) (hPX : ∀ y ∈ P, y.length ≤ 1048576) (hP : P.map imuT = R) (hin : InS w a P) (ht : TabAt w) (hx : MaxAt w) :
    Calls Tryd.prog 26 #[.slice a P.length cap, .func (.func 28) #[] #[]] w (GivesRu w R) := by
  obtain ⟨i0, hi, hz0, hz1, hz2⟩ := info_get info_ru
  have HIN := Lib.hid hin
  have HPX := Lib.hid hPX
  have HTAB := Lib.hid ht
  have HMAX := Lib.hid hx
  have hPl : P.length = R.length := by rw [← hP, List.length_map]
  have HPA := Lib.hid (fun j y (hj : P[j]? = some y) => show R[j]? = some (imuT y) by rw [← hP, List.getElem?_map, hj]; rfl)
  rw [hPl] at hl ⊢
  have HPL := Lib.hid hPl
  clear hin hPX ht hx hP hPl
  go_enter Tryd.func26, Tryd.ntmps26
  go_wp2_with (at_make; refine wpList_make_full _ rfl _ _ 27 rfl w.heap.size 41 i0 _ 1 Tryd.underlying27 hi hz0 hz1 .i64 .i64 _ _ R.length rfl rfl rfl rfl (by rw [hz2]; omega) (by unfold maxLen; omega) (Nat.le_refl _) ?_; intro w1 hrow hg)
  have HROW := Lib.hid hrow
  have HB1 := Lib.hid ((Below.refl w.heap.size w).grown hg (Nat.le_refl _) (fun k hk => by cases hk))
  have HLT := Lib.hid (World.ownsRow.lt hrow w.heap.size rfl).2
  clear hrow hg
  go_loopw [13] (fun i wr => ∃ (k : Nat) (q : List XU) (rest : List Value), k ≤ R.length ∧ i = .int .i64 k ∧ rulesU q = R.take k ∧ wr.ownsRow w.heap.size 41 1 (.slice (some ⟨w.heap.size, 0, none⟩) R.length R.length) R.length (valsU q ++ rest) ∧
    (∀ p ∈ q, OwnTs wr (w.heap.size + 1) p.2 p.1) ∧ (q.Pairwise fun p r => ∀ k, p.2.ownBlock = some k → r.2.ownBlock ≠ some k) ∧ Below w.heap.size w wr ∧ w.heap.size < wr.heap.size) (fun i _ => R.length - (intOf i).toNat)
  case atStart => exact ⟨0, [], _, Nat.zero_le _, rfl, rfl, HROW.out, (fun p h => by cases h), List.Pairwise.nil, HB1.out, HLT.out⟩
  case round =>
    obtain ⟨k, q, rest, hk, rfl, hq, hrow, hrows, hdis, hb, hws⟩ := hrel
    by_cases hlt : k < R.length
    · obtain ⟨b, off, rfl, hbw, hc⟩ := HIN.out (by rw [HPL.out]; omega)
      obtain ⟨y, sy, hy, hy2, hy3, hy4⟩ := str_at (l := P) (k := k) (by rw [HPL.out]; exact hlt)
      have hcell0 : wr.cell? ⟨b, off + k, none⟩ = some (.string sy) := by rw [hb.cell (p := ⟨b, off + k, none⟩) hbw, ← hy3]; exact hc k y hy
      have hss : sy.size ≤ 1048576 := by rw [hy4]; exact HPX.out y (List.mem_of_getElem? hy)
      obtain ⟨l, hlx⟩ : ∃ l, imuT y = l := ⟨_, rfl⟩
      have HJ := Lib.hid (show R[k]? = some l by rw [HPA.out k y hy, hlx])
      have HC := Lib.hid (rdr_any sy l wr hss (by rw [hy2]; exact hlx) (HTAB.out.on hb) (HMAX.out.on hb))
      have HROW2 := Lib.hid hrow
      have HROWS := Lib.hid hrows
      have HDIS := Lib.hid hdis
      have HB := Lib.hid hb
      have HQ := Lib.hid hq
      have HWS := Lib.hid hws
      have hql : q.length = k := by rw [← rulesU_len, hq, List.length_take]; omega
      have HQL := Lib.hid (show (valsU q).length = k by rw [valsU_len, hql])
      clear hc hy hy2 hy3 hy4 hss hlx hrow hrows hdis hb hq hws hbw hql
      go_wp2_with (go_at_call 28; (refine HC.out.mono ?_); rintro e w2 ⟨a2, c2, rfl, ho2, hb2⟩; refine Hid.out ?_)
      refine Lib.hid ?_
      have hrow2 := World.ownsRow.kept HROW2.out (row := none) ⟨hb2.os, hb2.tape, hb2.output, hb2.size, fun i hi _ => hb2.block i hi⟩ (by simp [Value.ownBlock])
      obtain ⟨y, r2, rfl, hy, hset⟩ := ss_row_at hrow2.1 HQL.out (by omega)
      have q0 := hrow2.cellAt k (by omega)
      rw [hy] at q0
      have f0 := hrow2.frozenAt k
      have HN := Lib.hid (hrow2.stored k (.slice a2 l.length c2))
      rw [hset] at HN
      have HO2 := Lib.hid ho2
      have HB2 := Lib.hid hb2
      clear hb2 hrow2 hy hset ho2
      go_wp2
      go_roundw
      case rel =>
        have hlow : ∀ p ∈ q, ∀ k', p.2.ownBlock = some k' → w.heap.size + 1 ≤ k' ∧ k' < wr.heap.size := fun p hp k' hk' => World.ownsRow.lt (HROWS.out p hp) k' hk'
        have hnew : ∀ k', (Value.slice a2 l.length c2).ownBlock = some k' → wr.heap.size ≤ k' := fun k' hk' => (World.ownsRow.lt HO2.out k' hk').1
        have hws := HWS.out
        have hgg := HN.out.2
        refine ⟨k + 1, q ++ [(l, .slice a2 l.length c2)], r2, by omega, by go_num, ?_, ?_, ?_, ?_, ?_, ?_⟩
        · rw [take_one HJ.out, ← HQ.out]; simp [rulesU]
        · rw [valsU_snoc]
          exact HN.out.1
        · intro p hp
          rcases List.mem_append.1 hp with h | h
          · exact row_keptO ((HROWS.out p h).below HB2.out) hgg fun k' hk' e => by have := hlow p h k' e; cases hk'; omega
          · simp at h
            subst h
            exact row_keptO (HO2.out.mono (by omega)) hgg fun k' hk' e => by have := hnew k' e; cases hk'; omega
        · rw [List.pairwise_append]
          refine ⟨HDIS.out, by simp, fun p hp r hr k' hk' e => ?_⟩
          simp at hr
          subst hr
          have := hnew k' e
          have := hlow p hp k' hk'
          omega
        · exact (HB.out.trans (HB2.out.mono HB.out.size)).grown hgg (Nat.le_trans HB.out.size HB2.out.size) (fun j hj => by cases hj; exact Nat.le_refl _)
        · exact Nat.lt_of_lt_of_le hws (Nat.le_trans HB2.out.size hgg.size)
      case measure => simp [intOf]; omega
    · obtain rfl : k = R.length := by omega
      have HROW2 := Lib.hid hrow
      have HROWS := Lib.hid hrows
      have HDIS := Lib.hid hdis
      clear hrow hrows hdis
      go_wp2
      go_ret
      have h := HROW2.out
      rw [List.take_length] at hq
      have hql : q.length = R.length := by rw [← rulesU_len, hq]
      have h1 := h.1
      rw [List.length_append, valsU_len, hql] at h1
      obtain rfl : rest = [] := List.eq_nil_of_length_eq_zero (by omega)
      rw [List.append_nil, ← hql] at h
      refine ⟨_, _, q, rfl, hq, ⟨by rw [← hql]; exact h, fun p hp => (HROWS.out p hp).mono (by omega), fun p hp k' hk' e => ?_, HDIS.out⟩, hb⟩
      have h4 := (World.ownsRow.lt (HROWS.out p hp) k' hk').1
      simp [Value.ownBlock] at e
      omega


set_option maxRecDepth 100000 in
set_option maxHeartbeats 2000000 in
theorem prs_impl (s : ByteArray) (R : List (List TS)) (b : Bool) (w : World) (hs : s.size ≤ 1048576) (ho : PRout s.data.toList R b) (ht : TabAt w) (hx : MaxAt w) :
    Calls Tryd.prog 11 #[.string s] w (GivesPR w R b) := by
  have HO := Lib.hid ho
  have HTAB := Lib.hid ht
  have HMAX := Lib.hid hx
  have HZS := Lib.hid (dsize s)
  have HS := Lib.hid hs
  obtain ⟨w1, hw1⟩ : ∃ w1, w.alloc (.cells #[.slice none 0 0] 29) = w1 := ⟨_, rfl⟩
  have HB1 := Lib.hid (show Below w.heap.size w w1 by rw [← hw1]; exact (Below.refl w.heap.size w).alloc (Nat.le_refl _) _)
  have HBX := Lib.hid (show BlkV w1 w.heap.size 29 #[.slice none 0 0] by rw [← hw1]; exact BlkV.new _ _ _)
  have HZ1 := Lib.hid (show w1.heap.size = w.heap.size + 1 by rw [← hw1]; simp)
  have HWE := Lib.hid hw1
  have HSP := Lib.hid (splitx_is s ⟨#[32, 111, 114, 32]⟩ w1 hs (by decide) (HMAX.out.on HB1.out))
  obtain ⟨F, hF⟩ : ∃ F, imR s.data.toList = F := ⟨_, rfl⟩
  have HF := Lib.hid hF
  clear ho ht hx hw1 hF
  go_enter Tryd.func11, Tryd.ntmps11
  go_wp2_with (go_at_call 27; rw [HWE.out]; ((with_reducible refine HSP.out.mono ?_); rintro e w2 ⟨P, a, c, rfl, hP, hin, hp1, hp4, hpx, hb2⟩; refine Hid.out ?_))
  have HB2 := Lib.hid (HB1.out.trans (hb2.mono HB1.out.size))
  have HB2X := Lib.hid hb2
  have HPF := Lib.hid (show P.map imuT = F by rw [← HF.out, ← hP]; rfl)
  have HPL := Lib.hid (show F.length = P.length by rw [← HPF.out, List.length_map])
  have HF4 := Lib.hid (show F.length ≤ 4 by rw [HPL.out]; exact hp4)
  have HFX := Lib.hid (show ∀ x ∈ F, x.length ≤ 4000000 from fun x hx => by
    rw [← HPF.out] at hx
    obtain ⟨p, hp, rfl⟩ := List.mem_map.1 hx
    obtain ⟨y, L, g1, g2, g3⟩ := gs_back [44] (min 4 (p.length + 1) - 1) p
    have e : imuT p = (y :: L).map imtT := by unfold imuT Lib.splitN; rw [g1]
    rw [e, List.length_map, List.length_cons]
    omega)
  have HCT := Lib.hid (csr_any a c P F w2 (by omega) (fun y hy => by have := hpx y hy; have := HZS.out; have := HS.out; omega) HPF.out hin (HTAB.out.on HB2.out) (HMAX.out.on HB2.out))
  clear hP hin hp1 hp4 hpx hb2
  refine Lib.hid ?_
  go_wp2_with (go_at_call 26; ((with_reducible refine HCT.out.mono ?_); rintro e w3 ⟨a3, c3, q, rfl, hq, ho, hb3⟩; refine Hid.out ?_))
  have HB3X := Lib.hid (HB2X.out.trans (hb3.mono HB2X.out.size))
  have HQ := Lib.hid hq
  have HOU := Lib.hid ho
  have HB3 := Lib.hid (HB2.out.trans (hb3.mono HB2.out.size))
  have HSZ := Lib.hid (show w.heap.size + 1 ≤ w2.heap.size ∧ w2.heap.size ≤ w3.heap.size by have := HZ1.out; have := HB2X.out.size; have := hb3.size; omega)
  obtain ⟨w4, hw4⟩ : ∃ w4, w3.alloc (.cells #[.slice a3 F.length c3] 29) = w4 := ⟨_, rfl⟩
  have HA4 := Lib.hid (show Below w3.heap.size w3 w4 by rw [← hw4]; exact (Below.refl _ _).alloc (Nat.le_refl _) _)
  have HNB := Lib.hid (show BlkV w4 w3.heap.size 29 #[.slice a3 F.length c3] by rw [← hw4]; exact BlkV.new _ _ _)
  have HSM := Lib.hid (show SmRu w4 a3 F c3 from (ho.smRu hq (by have := HF4.out; omega) HFX.out).below HA4.out)
  obtain ⟨bv, hbv⟩ : ∃ bv, vsB F = bv := ⟨_, rfl⟩
  have HV := Lib.hid hbv
  have HCV := Lib.hid (vs_impl a3 c3 F bv w4 hbv HSM.out)
  have n40 : w4.cell? ⟨w3.heap.size, 0, none⟩ = some (.slice a3 F.length c3) := HNB.out.cell 0
  have HW4 := Lib.hid hw4
  rw [← hw4] at n40
  clear hq ho hb3 hbv hw4
  refine Lib.hid ?_
  cases bv
  · obtain ⟨rfl, rfl⟩ := pr_impl_no HO.out (by rw [HF.out]; exact HV.out)
    go_wp2_with (go_at_call 19; rw [HW4.out]; ((with_reducible refine HCV.out.mono ?_); rintro e w5 ⟨rfl, hb5⟩; have h5 := HBX.out.below (HB3X.out.trans ((HA4.out.trans (hb5.mono HA4.out.size)).mono HB3X.out.size)); have c50 : w5.cell? ⟨w.heap.size, 0, none⟩ = some (.slice none 0 0) := h5.cell 0; have f50 := h5.frozen 0; have n50 : w5.cell? ⟨w3.heap.size, 0, none⟩ = some (.slice a3 F.length c3) := (HNB.out.below hb5).cell 0; have H5 := Lib.hid h5; have HB5 := Lib.hid (HA4.out.trans (hb5.mono HA4.out.size)); clear h5 hb5))
    have e0 : _ = some (Value.slice none 0 0) := (H5.out.set_ 0 (.slice none 0 0)).cell 0
    refine bodyPost_ret (v := .tuple #[.agg #[.slice none 0 0], .bool false]) (by simp [results, Tryd.results11, go_sem, e0]) rfl ⟨none, 0, [], rfl, rfl, OwnRu.nil _ _, ?_⟩
    exact (HB3.out.trans (HB5.out.mono HB3.out.size)).setCell (by simp) _
  · obtain ⟨rfl, rfl⟩ := pr_impl_yes HO.out (by rw [HF.out]; exact HV.out)
    go_wp2_with (go_at_call 19; rw [HW4.out]; ((with_reducible refine HCV.out.mono ?_); rintro e w5 ⟨rfl, hb5⟩; have h5 := HBX.out.below (HB3X.out.trans ((HA4.out.trans (hb5.mono HA4.out.size)).mono HB3X.out.size)); have c50 : w5.cell? ⟨w.heap.size, 0, none⟩ = some (.slice none 0 0) := h5.cell 0; have f50 := h5.frozen 0; have n50 : w5.cell? ⟨w3.heap.size, 0, none⟩ = some (.slice a3 F.length c3) := (HNB.out.below hb5).cell 0; have H5 := Lib.hid h5; have HB5 := Lib.hid (HA4.out.trans (hb5.mono HA4.out.size)); clear h5 hb5))
    have e0 : _ = some (Value.slice a3 F.length c3) := (H5.out.set_ 0 (.slice a3 F.length c3)).cell 0
    have hsz := HSZ.out
    refine bodyPost_ret (v := .tuple #[.agg #[.slice a3 F.length c3], .bool true]) (by simp [results, Tryd.results11, go_sem, e0]) rfl ⟨a3, c3, q, by rw [HF.out], by rw [HF.out]; exact HQ.out, ?_, ?_⟩
    · rw [HF.out]
      exact ((HOU.out.below HB5.out).setCell _ _ (by show w.heap.size < _; omega)).mono (by omega)
    · exact (HB3.out.trans (HB5.out.mono HB3.out.size)).setCell (by simp) _

end Go.Proofs.YtknkhljegmielaaDoor
