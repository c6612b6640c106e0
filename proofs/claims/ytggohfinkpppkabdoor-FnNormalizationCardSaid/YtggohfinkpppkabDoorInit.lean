/-
  What spec.Initials and impl.Initials answer, for every string of at most 2^20 bytes; the walk of laws.FnExactInitials. By an AI agent.
-/
import Derived.Test.YtggohfinkpppkabDoorNNorm
import Derived.Test.YtggohfinkpppkabDoorFields
namespace Go.Proofs.YtggohfinkpppkabDoor
open Go.RowKit Go.Shelf
attribute [local go_sem] Oper.semAt_some
set_option linter.unusedVariables false

theorem heads_word (ws : List Word) (x : Word) : headsL (wtexts (ws ++ [x])) = headsL (wtexts ws) ++ [x.1[0]'x.2] := by
  have e : wtexts (ws ++ [x]) = wtexts ws ++ [x.1.data.toList] := by simp [wtexts]
  have h := x.2
  have h1 : x.1.data.toList = x.1[0] :: x.1.data.toList.drop 1 := by
    have hl : 0 < x.1.data.toList.length := by simpa using h
    have h2 := List.drop_eq_getElem_cons hl
    rw [List.drop_zero] at h2
    exact h2
  rw [e, h1, heads_snoc]

/-- append in a statement whose order is open, within a round -/
theorem step_in_append {F : Fence} {n : Nat} {P : Program} {ops : Array Oper} {o : Oper} {a : Act} {w : World} {K : Act → World → Prop} {Q : Exit → Act → World → Prop} {E : Prop} (hgd : o.guard = none) (s x : Operand) (t : TypeId)
    (ho : o.op = Op.call { callee := Callee.builtin Builtin.append, args := #[s, x], argTypes := #[t, t] }) (v u : Value) (hs : a.eval s = v) (hx : a.eval x = u) (v' : Value) (w' : World)
    (hrun : (Builtin.append_ #[t, t] o.type #[v, u]).run P w = .ok v' w') (h : K (a.put o.dst v') w') :
    if Region.wanted o (yielded ops a.tmps) = true then Oper.wpIn F n P o a w K Q else E := by
  rw [if_pos (by simp [Region.wanted, hgd])]
  unfold Oper.wpIn
  refine ⟨?_, ?_⟩
  · simp [Oper.about, ho, resolve, Target.leads, Sem.run_pure]
  · rw [Oper.semAt_plain F _ _ (by rw [ho]; intro c hc'; cases hc')]
    simp [execOp, ho, resolve, invoke, builtin, hs, hx, hrun, Result.andThen]
    exact h

theorem heads_len (ws : List (List UInt8)) : (headsL ws).length ≤ ws.length := List.length_filterMap_le _ _

set_option maxRecDepth 100000 in
set_option maxHeartbeats 2000000 in
theorem impl_ini_in (s : ByteArray) (w : World) (hs : s.size ≤ 1048576) (hg : 0 < w.heap.size) (hT : SpTab w) :
    CallsIn Fence.wide 3 Tryd.prog 20 #[.string s] w fun e w' => e = .returned (.string (nstr (headsL (wordsL (normL s.data.toList))))) ∧ Below w.heap.size w w' := by
  have hro : Fence.wide.round = none := rfl
  have hn1 : 1 ≤ 3 := by omega
  obtain ⟨i0, hi, hz0, hz1, hz2⟩ := info_parts info_u8
  have HSZ := Lib.hid hs
  obtain ⟨t, htd⟩ : ∃ t, t = nstr (normL s.data.toList) := ⟨_, rfl⟩
  have htl : t.data.toList = normL s.data.toList := by rw [htd, nstr_list]
  have hts : t.size ≤ 2097152 := by
    rw [htd, nstr_size]
    have h1 := norm_len s.data.toList
    have h2 : s.data.toList.length = s.size := Array.length_toList
    omega
  have HWS := Lib.hid (show AllWS t.data.toList by rw [htl]; exact norm_ws _)
  have HTD := Lib.hid htd
  have HTL := Lib.hid htl
  have HT := Lib.hid hT
  clear htd htl hT
  refine callsIn_of_wp_marks Tryd.func20 rfl trivial ?_ hro
  simp only [Tryd.ntmps20, List.size_toArray, List.length_cons, List.length_nil, Nat.reduceAdd, Nat.reduceSub, Array.replicate_succ, Array.replicate_zero, List.push_toArray, List.append_toArray, List.nil_append, List.cons_append]
  gi_wp2_with (refine ⟨trivial, ?_⟩; gi_at_call 14; refine (callsIn_wide.2 (impl_no _ _ HSZ.out)).mono ?_; rintro e w1 ⟨rfl, hb1⟩; refine Hid.out ?_)
  refine Lib.hid ?_
  rw [← HTD.out]
  have HB1 := Lib.hid (show Below w.heap.size w w1 from ((Below.refl _ w).alloc (Nat.le_refl _) _).trans (hb1.mono (by simp)))
  have HO1 := Lib.hid (show Boxed w1 w.heap.size 27 (.slice none 0 0) from (hb1.block w.heap.size (by simp)).trans (Boxed.new w 27 (.slice none 0 0)))
  clear hb1
  gi_wp2_with (refine ⟨trivial, ?_⟩; gi_at_call 56; refine (fields_in Fence.wide _ trivial hro _ _).mono ?_; rintro e w2 ⟨rfl, rfl⟩; refine Hid.out ?_)
  refine Lib.hid ?_
  have hw1 : w.heap.size < w1.heap.size := HO1.out.lt
  have bN : Boxed (w1.alloc (.cells #[.string t] 9)) w1.heap.size 9 (.string t) := Boxed.new w1 9 (.string t)
  have hB0 : Below w.heap.size w (w1.alloc (.cells #[.string t] 9)) := HB1.out.alloc (by omega) _
  gi_wp2
  refine wpIn_rangeFunc_ownF hro (by omega) (gf := 73) (lb := #[.pointer (some ⟨w1.heap.size, 0, none⟩)]) rfl trivial (enters_of Tryd.func73 (by kernel_rfl) rfl)
    (fields_stops Fence.wide (3 - 1) trivial hro (by omega) w1.heap.size w.heap.size hg (by omega) t hts HWS.out _ (by simp) bN.cell (HT.out.below hB0 hg)) ?hKt ?hKb (Below.refl _ _) (fun _ => rfl)
    (fun pre W => ((∃ v, Boxed W w.heap.size 27 v ∧ W.ownsRow w.heap.size 5 1 v (headsL (wtexts pre)).length (Lib.byteCells (headsL (wtexts pre))) ∧ True) ∧ Boxed W w1.heap.size 9 (.string t)) ∧ Below w.heap.size w W)
    (fun _ _ _ => False)
    (OwnFrom.and (OwnFrom.and (Own.from (holdsRow_own w.heap.size w.heap.size 27 5 1 (fun pre => (headsL (wtexts pre)).length) (fun pre => Lib.byteCells (headsL (wtexts pre))) (fun _ _ => True)) _) (Own.from (boxed_own _ _ _) _)) (ownFrom_below (Nat.le_refl _) (by simp; omega)))
    (fun _ _ _ _ _ hs _ _ => hs)
    ⟨⟨⟨_, HO1.out.alloc _, World.ownsRow_nil _ _ _ _, trivial⟩, bN⟩, hB0⟩
    (fun x => { tmps := #[.string s, undef, .string ⟨#[]⟩, .pointer (some ⟨w.heap.size, 0, none⟩), .string x.1, .string s, .string t, .func (.func 73) #[] #[.pointer (some ⟨w1.heap.size, 0, none⟩)], .string x.1, undef, undef, undef, undef, undef, undef, undef], defers := [] }) ?assign ?body ?done ?stop
  case hKt => exact fun h k => ⟨h.1.trans k.1, k.2.trans h.2⟩
  case hKb =>
    intro W l o o' hl hlo hoc how
    exact ⟨belowK_b (w := w) (Nat.le_refl _) W l _ o' (by simp at hl; omega) hlo hoc how, World.cell?_of_block (World.putObj_heap_other (by simp at hl ⊢; omega))⟩
  case assign =>
    intro l x W K hK
    gi_wp2
    exact hK
  case body =>
    rintro l pre x W ⟨⟨⟨v, hv, hrow, -⟩, hbn⟩, hB⟩ hlt
    have hc := hv.cell
    have hf := hv.frozen
    have hx2 := x.2
    have hmx : Tryd.prog.follows .mixedOrders = true := by kernel_rfl
    obtain ⟨hs1, hh⟩ : ∃ hs1 : List UInt8, headsL (wtexts pre) = hs1 := ⟨_, rfl⟩
    have hlen : hs1.length ≤ 2097152 := by
      rw [← hh]
      have h1 := heads_len (wtexts pre)
      have h2 : (wtexts pre).length = pre.length := by simp [wtexts]
      omega
    rw [hh] at hrow
    have hrowd : W.drew.ownsRow w.heap.size 5 1 v hs1.length (Lib.byteCells hs1) := hrow
    have hvd : Boxed W.drew w.heap.size 27 v := hv
    have hbnd : Boxed W.drew w1.heap.size 9 (.string t) := hbn
    have hBsz := hB.size
    obtain ⟨v', w2, hap, hown', hgrow, -⟩ := run_append_own (P := Tryd.prog) (W.drew.alloc (.cells #[.int .u8 (x.1[0].toNat : Int)] 5)) w.heap.size 27 27 5 i0 (.int .u8 0) 1 1 Tryd.underlying27 hi hz0 hz1 hz2 rfl (by decide)
      v hs1.length (Lib.byteCells hs1) (hrowd.alloc _) ⟨W.heap.size, 0, none⟩ 1 1 [.int .u8 (x.1[0].toNat : Int)] rfl (cell_one_new W.drew _ _) (by simp [Value.oneCell']) (by unfold maxLen; omega) (by omega) (by simp; omega)
    have hca : (W.alloc (.cells #[.int .u8 (x.1[0].toNat : Int)] 5)).cell? ⟨w.heap.size, 0, none⟩ = some v := (hv.alloc _).cell
    obtain ⟨g', cap', rfl⟩ := ownsRow_succ hown'
    obtain ⟨hv1, hv2, hr2, hk2, hb2⟩ := hvd.appended (by decide) hrowd hBsz (Nat.le_refl _) hown' hgrow
    have hc1 := hv1.cell
    have hf1 := hv1.frozen
    have HBN2 := Lib.hid (((hbnd.alloc _).kept hgrow (hbnd.not_row (by decide) hrowd)).other (show w1.heap.size ≠ w.heap.size by omega) (.slice (some ⟨g', 0, none⟩) (hs1.length + 1) cap'))
    have HV2 := Lib.hid hv2
    have HR2 := Lib.hid hr2
    have HK2 := Lib.hid hk2
    have HB2 := Lib.hid hb2
    have HH := Lib.hid hh
    clear hv1 hv2 hr2 hk2 hb2 hown' hgrow hrowd hvd hbnd hh
    gi_wp2
    refine wpIn_region_any hmx ?_
    change wpAnyIn _ _ _ _ _ _ _ _ _ (World.drew _)
    have HAP := Lib.hid hap
    clear hap
    repeat' (first
      | (refine wpAnyIn_ready (rs := [0, 1]) (by decide +kernel) (by simp) ?_)
      | (refine wpAnyIn_ready (rs := [0, 2]) (by decide +kernel) (by simp) ?_)
      | (refine wpAnyIn_ready (rs := [0, 3]) (by decide +kernel) (by simp) ?_)
      | (refine wpAnyIn_ready (rs := [0]) (by decide +kernel) (by simp) ?_)
      | (refine wpAnyIn_ready (rs := [1]) (by decide +kernel) (by simp) ?_)
      | (refine wpAnyIn_ready (rs := [2]) (by decide +kernel) (by simp) ?_)
      | (refine wpAnyIn_ready (rs := [3]) (by decide +kernel) (by simp) ?_)
      | (refine wpAnyIn_ready (rs := [4]) (by decide +kernel) (by simp) ?_)
      | (refine wpAnyIn_ready (rs := [5]) (by decide +kernel) (by simp) ?_)
      | (refine wpAnyIn_done (by decide +kernel) ?_ _)
      | exact AllReadyIn.nil
      | (refine AllReadyIn.cons rfl (fun K hK => ?_) ?_)
      | (refine step_in_append rfl _ _ _ (by rfl) _ _ (by rfl) (by rfl) _ _ HAP.out ?_; refine hK _ _ ?_; clear hK K)
      | (go_simp; refine hK _ _ ?_; clear hK K))
    all_goals gi_wp2
    all_goals
      refine ⟨(KeepsOthers.drew W).trans HK2.out, ⟨((Below.refl _ W).drew).trans HB2.out, HBN2.out.cell.trans hbn.cell.symm⟩, ⟨⟨⟨_, HV2.out, ?_, trivial⟩, HBN2.out⟩, hB.trans (((Below.refl _ W).drew).trans HB2.out)⟩⟩
      have e1 : headsL (wtexts (pre ++ [x])) = hs1 ++ [x.1[0]] := by rw [heads_word, HH.out]
      rw [e1]
      have e2 : Lib.byteCells (hs1 ++ [x.1[0]]) = Lib.byteCells hs1 ++ [Value.int .u8 (x.1[0].toNat : Int)] := by simp [Lib.byteCells]
      rw [e2, List.length_append]
      exact HR2.out
  case done =>
    rintro D ys W hD hys ⟨⟨⟨v, hv, hrow, -⟩, hbn⟩, hB⟩ hK
    have hc := hv.cell
    have hcv := OwnB.convert (l := headsL (wtexts ys)) hrow
    gi_wp2
    refine ⟨by simp, .inl ⟨_, _, rfl, run_takeDeferred hK, ?_⟩⟩
    refine ⟨_, results_tmp rfl _ _ _, ?_, hB.trans (belowK_b (w := w) (Nat.le_refl _) W D _ _ (by simp at hD; omega) hK rfl rfl)⟩
    refine nret_str ?_
    rw [HTL.out]
    rfl
  case stop =>
    rintro D c pre W _ _ h _
    exact h.elim

theorem impl_ini (s : ByteArray) (w : World) (hs : s.size ≤ 1048576) (hg : 0 < w.heap.size) (hT : SpTab w) :
    Calls Tryd.prog 20 #[.string s] w fun e w' => e = .returned (.string (nstr (headsL (wordsL (normL s.data.toList))))) ∧ Below w.heap.size w w' :=
  callsIn_wide.1 (impl_ini_in s w hs hg hT)

theorem ini_first (t : ByteArray) (h : 0 < t.size) : (iS (t.data.toList.take (0 + 1))).1 = (iS (t.data.toList.take 0)).1 ++ [t[0]] := by
  rw [ftake_snoc t 0 h, iS_snoc]
  simp [iS, iStep]

theorem ini_flag (t : ByteArray) (j : Nat) (h : j + 1 < t.size) : (iS (t.data.toList.take (j + 1))).2 = (t[j] == 32) := by
  rw [ftake_snoc t j (by omega), iS_snoc]
  rfl

theorem ini_yes (t : ByteArray) (j : Nat) (h : j + 1 < t.size) (hc : t[j].toNat = 32) : (iS (t.data.toList.take (j + 1 + 1))).1 = (iS (t.data.toList.take (j + 1))).1 ++ [t[j + 1]] := by
  have e := ini_flag t j h
  rw [show t[j] = 32 from UInt8.toNat_inj.1 hc] at e
  rw [ftake_snoc t (j + 1) h, iS_snoc]
  unfold iStep
  rw [e]
  rfl

theorem ini_no (t : ByteArray) (j : Nat) (h : j + 1 < t.size) (hc : t[j].toNat ≠ 32) : (iS (t.data.toList.take (j + 1 + 1))).1 = (iS (t.data.toList.take (j + 1))).1 := by
  have e := ini_flag t j h
  have hn : (t[j] == 32) = false := by simpa using ne32 hc
  rw [hn] at e
  rw [ftake_snoc t (j + 1) h, iS_snoc]
  unfold iStep
  rw [e]
  rfl

theorem ini_len (l : List UInt8) : (iS l).1.length ≤ l.length := by
  induction l using snoc_ind with
  | h0 => simp [iS]
  | h1 l c ih =>
    rw [iS_snoc]
    unfold iStep
    dsimp only
    rw [List.length_append, List.length_singleton]
    split
    · rw [List.length_append, List.length_singleton]; omega
    · omega

set_option maxRecDepth 100000 in
set_option maxHeartbeats 1600000 in
theorem spec_ini (s : ByteArray) (w : World) (hs : s.size ≤ 1048576) :
    Calls Tryd.prog 21 #[.string s] w fun e w' => e = .returned (.string (nstr (headsL (wordsL (normL s.data.toList))))) ∧ Below w.heap.size w w' := by
  have HSZ := Lib.hid hs
  obtain ⟨t, htd⟩ : ∃ t, t = nstr (normL s.data.toList) := ⟨_, rfl⟩
  have htl : t.data.toList = normL s.data.toList := by rw [htd, nstr_list]
  have hts : t.size ≤ 2097152 := by
    rw [htd, nstr_size]
    have h1 := norm_len s.data.toList
    have h2 : s.data.toList.length = s.size := Array.length_toList
    omega
  have HTD := Lib.hid htd
  have HTL := Lib.hid htl
  clear htd htl
  go_enter Tryd.func21, Tryd.ntmps21
  go_wp2_with (go_at_call 15; refine (spec_no _ _ HSZ.out).mono ?_; rintro e w1 ⟨rfl, hb1⟩; refine Hid.out ?_)
  refine Lib.hid ?_
  rw [← HTD.out]
  have HB1 := Lib.hid (show Below w.heap.size w w1 from ((Below.refl _ w).alloc (Nat.le_refl _) _).trans (hb1.mono (by simp)))
  have HO1 := Lib.hid (show OwnB w1 w.heap.size (.slice (some ⟨w.heap.size, 0, none⟩) 0 0) [] from by
    have h := OwnB.made w w.heap.size #[] 0 (Nat.le_refl _) (Nat.zero_le _) rfl
    exact World.ownsRow.kept h (row := none) ⟨hb1.os, hb1.tape, hb1.output, hb1.size, fun i hi _ => hb1.block i hi⟩ (.inr (by simp [Value.ownBlock])))
  clear hb1
  go_wp2
  go_loopw [3, 5] (fun v i wr => ∃ k : Nat, k ≤ t.size ∧ i = .int .i64 k ∧ OwnB wr w.heap.size v (iS (t.data.toList.take k)).1 ∧ Below w.heap.size w wr) (fun _ i _ => t.size - (intOf i).toNat)
  case atStart => exact ⟨0, Nat.zero_le _, rfl, HO1.out, HB1.out⟩
  case round =>
    obtain ⟨k, hk, rfl, hown, hb⟩ := hrel
    have HOWN := Lib.hid hown
    have HB := Lib.hid hb
    clear hown hb
    by_cases hlt : k < t.size
    · have hbs := Lib.hid HB.out.size
      have hby := t[k].toNat_lt
      have HLN := Lib.hid (show (iS (t.data.toList.take k)).1.length ≤ 70368744177664 by
        have h1 := ini_len (t.data.toList.take k)
        have h2 : (t.data.toList.take k).length ≤ k := List.length_take_le _ _
        omega)
      by_cases h0 : k = 0
      · subst h0
        have HE := Lib.hid (ini_first t hlt)
        go_wp2_with (at_builtin; refine append_byte rfl _ _ rfl w.heap.size _ (iS (t.data.toList.take 0)).1 (t[0].toNat : Int) HOWN.out rfl rfl (by omega) (by omega) HLN.out hbs.out ?_; intro v1 w1 hown1 hb1)
        go_roundw
        case rel =>
          refine ⟨0 + 1, by omega, by go_num, ?_, HB.out.trans hb1⟩
          rw [HE.out]
          rw [byte_of_nat] at hown1
          exact hown1
        case measure => simp [intOf]; omega
      · obtain ⟨j, rfl⟩ : ∃ j, k = j + 1 := ⟨k - 1, by omega⟩
        clear h0
        have hj0 : (((j : Int) + 1) == 0) = false := by simp; omega
        have hby2 := t[j].toNat_lt
        by_cases hl : t[j].toNat = 32
        · have hq2 : ((t[j].toNat : Int) == 32) = true := by simp; omega
          have HE := Lib.hid (ini_yes t j hlt hl)
          clear hl
          go_wp2_with (at_builtin; refine append_byte rfl _ _ rfl w.heap.size _ (iS (t.data.toList.take (j + 1))).1 (t[j + 1].toNat : Int) HOWN.out rfl rfl (by omega) (by omega) HLN.out hbs.out ?_; intro v1 w1 hown1 hb1)
          go_roundw
          case rel =>
            refine ⟨j + 1 + 1, by omega, by go_num, ?_, HB.out.trans hb1⟩
            rw [HE.out]
            rw [byte_of_nat] at hown1
            exact hown1
          case measure => simp [intOf]; omega
        · have hq2 : ((t[j].toNat : Int) == 32) = false := by simp; omega
          have HE := Lib.hid (ini_no t j hlt hl)
          clear hl
          go_wp2
          go_roundw
          case rel => exact ⟨j + 1 + 1, by omega, by go_num, by rw [HE.out]; exact HOWN.out, HB.out⟩
          case measure => simp [intOf]; omega
    · obtain rfl : k = t.size := by omega
      have hcv := HOWN.out.convert
      go_wp2
      go_ret
      refine ⟨nret_str ?_, HB.out⟩
      have e := initials_same (normL s.data.toList) (norm_good _)
      rw [ftake_all, HTL.out, e]
      rfl

end Go.Proofs.YtggohfinkpppkabDoor
