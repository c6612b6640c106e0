/-
  What impl.DiagramVariables answers. By an AI agent.
-/
import Derived.Test.YtpmfabpnjacegaaGreatDoorSrtV
import Derived.Test.YtpmfabpnjacegaaGreatDoorCompVI
import Derived.Test.YtpmfabpnjacegaaGreatDoorVarS
import Derived.Test.YtpmfabpnjacegaaGreatDoorGQ6
namespace Go.Proofs.YtpmfabpnjacegaaGreatDoor
open Go.RowKit
set_option linter.unusedVariables false
set_option linter.unusedSimpArgs false
set_option linter.unnecessarySimpa false

set_option maxRecDepth 100000 in
theorem tsvar_is (f t : Int) (u : Bool) (w : World) :
    Calls Tryz.prog 48 #[.agg #[.int .i64 f, .int .i64 t, .bool u]] w fun e w' => e = .returned (.agg #[.int .i64 f, .int .i64 t, .bool false]) ∧ Below w.heap.size w w' := by
  go_enter Tryz.func48, Tryz.ntmps48
  go_wp2
  refine bodyPost_ret (v := .agg #[.int .i64 f, .int .i64 t, .bool false]) (by simp [results, Tryz.results48, go_sem]) rfl ⟨rfl, ((Below.refl _ _).alloc (Nat.le_refl _) _).alloc (by simp) _⟩

set_option maxRecDepth 100000 in
set_option maxHeartbeats 2000000 in
theorem cvt_any (a : Option Addr) (c : Nat) (l : List TS) (V : List IQ) (w : World) (hV : l.map Prod.fst = V) (h : SmTs w a l c) :
    Calls Tryz.prog 47 #[.slice a l.length c, .func (.func 48) #[] #[]] w (GivesV w V) := by
  obtain ⟨i0, hi, hz0, hz1, hz2⟩ := info_get info_ts
  have HIN := Lib.hid h.inTs
  have hl := h.len
  obtain ⟨n, hn⟩ : ∃ n, l.length = n := ⟨_, rfl⟩
  have HN := Lib.hid hn
  have HNV := Lib.hid (show V.length = n by rw [← hV, List.length_map, hn])
  have HVA := Lib.hid (fun j (x : TS) (hj : l[j]? = some x) => show V[j]? = some x.1 by rw [← hV, List.getElem?_map, hj]; rfl)
  rw [hn] at hl ⊢
  clear h hV hn
  go_enter Tryz.func47, Tryz.ntmps47
  go_wp2_with (at_make; refine wpList_make_full _ rfl _ _ 44 rfl w.heap.size 86 i0 _ 3 Tryz.underlying44 hi hz0 hz1 .i64 .i64 _ _ n rfl rfl rfl rfl (by rw [hz2]; omega) (by unfold maxLen; omega) (Nat.le_refl _) ?_; intro w1 hrow hg)
  have HROW := Lib.hid hrow
  have HB1 := Lib.hid ((Below.refl w.heap.size w).grown hg (Nat.le_refl _) (fun k hk => by cases hk))
  clear hrow hg
  go_loopw [13] (fun i wr => ∃ (k : Nat) (rest : List Value), k ≤ n ∧ i = .int .i64 k ∧ wr.ownsRow w.heap.size 86 3 (.slice (some ⟨w.heap.size, 0, none⟩) n n) n (flatV (V.take k) ++ rest) ∧ Below w.heap.size w wr) (fun i _ => n - (intOf i).toNat)
  case atStart => exact ⟨0, _, Nat.zero_le _, rfl, HROW.out, HB1.out⟩
  case round =>
    obtain ⟨k, rest, hk, rfl, hrow, hb⟩ := hrel
    by_cases hlt : k < n
    · obtain ⟨b, off, f, t, u, rfl, hbw, hx, c0, c1, c2⟩ := (HIN.out.below hb).at_ (show k < l.length by rw [HN.out]; exact hlt)
      have HX := Lib.hid (HVA.out k _ hx)
      have HROW2 := Lib.hid hrow
      have HB := Lib.hid hb
      have HFL := Lib.hid (show (flatV (V.take k)).length = k * 3 by rw [flatV_len, List.length_take, HNV.out]; omega)
      have HA1 := Lib.hid ((Below.refl wr.heap.size wr).alloc (Nat.le_refl _) (.cells #[.int .i64 f, .int .i64 t, .bool u] 86))
      have hki : (k : Int) < (n : Int) := by omega
      clear hx hrow hb hbw
      go_wp2_with (go_at_call 48; ((with_reducible refine (tsvar_is f t u _).mono ?_); rintro e w2 ⟨rfl, hb2⟩; refine Hid.out ?_))
      refine Lib.hid ?_
      have hbb : Below wr.heap.size wr w2 := HA1.out.trans (hb2.mono HA1.out.size)
      have hrow2 := World.ownsRow.kept HROW2.out (row := none) ⟨hbb.os, hbb.tape, hbb.output, hbb.size, fun i hi _ => hbb.block i hi⟩ (by simp [Value.ownBlock])
      obtain ⟨y0, y1, y2, r2, rfl⟩ := gap3_rest hrow2.1 HFL.out hlt
      have q0 := hrow2.cellAt (k * 3) (by omega)
      have q1 := hrow2.cellAt (k * 3 + 1) (by omega)
      have q2 := hrow2.cellAt (k * 3 + 2) (by omega)
      rw [(gap3_at HFL.out).1] at q0
      rw [(gap3_at HFL.out).2.1] at q1
      rw [(gap3_at HFL.out).2.2] at q2
      have f0 := hrow2.frozenAt (k * 3)
      have f1 := hrow2.frozenAt (k * 3 + 1)
      have f2 := hrow2.frozenAt (k * 3 + 2)
      have HN1 := Lib.hid (hrow2.stored (k * 3) (.int .i64 f))
      have HN2 := Lib.hid (HN1.out.1.stored (k * 3 + 1) (.int .i64 t))
      have HN3 := Lib.hid (HN2.out.1.stored (k * 3 + 2) (.bool false))
      have HB2 := Lib.hid (HB.out.trans (hbb.mono HB.out.size))
      clear hb2 hrow2 hbb c0 c1 c2
      go_wp2
      go_roundw
      case rel =>
        have hgg := grownV (grownV HN1.out.2 HN2.out.2) HN3.out.2
        refine ⟨k + 1, r2, by omega, by go_num, ?_, HB2.out.grown hgg HB2.out.size (fun j hj => by cases hj; exact Nat.le_refl _)⟩
        have h := HN3.out.1
        rw [gap3_set HFL.out] at h
        rw [List.take_add_one, HX.out]
        show World.ownsRow _ _ _ _ _ _ (flatV (V.take k ++ [(f, t)]) ++ r2)
        rw [flatV_snoc]
        exact h
      case measure => simp [intOf]; omega
    · obtain rfl : k = n := by omega
      have HROW2 := Lib.hid hrow
      clear hrow
      go_wp2
      go_ret
      have h := HROW2.out
      obtain rfl : k = V.length := HNV.out.symm
      rw [List.take_length] at h
      have h1 := h.1
      rw [List.length_append, flatV_len] at h1
      obtain rfl : rest = [] := List.eq_nil_of_length_eq_zero (by omega)
      rw [List.append_nil] at h
      refine ⟨some ⟨w.heap.size, 0, none⟩, V.length, rfl, h, hb⟩

theorem raw_take {R : List (List TS)} {k : Nat} {l : List TS} (h : R[k]? = some l) : rawV (R.take (k + 1)) = rawV (R.take k) ++ l.map Prod.fst := by
  unfold rawV
  rw [take_one h]
  simp
theorem raw_take_len {R : List (List TS)} (h : vsB R = true) (k : Nat) : (rawV (R.take k)).length ≤ 9 := by
  have h1 := raw_len9 h
  have h2 : rawV R = rawV (R.take k) ++ rawV (R.drop k) := by
    unfold rawV
    rw [← List.map_append, ← List.flatten_append, List.take_append_drop]
  rw [h2, List.length_append] at h1
  omega

set_option maxRecDepth 100000 in
set_option maxHeartbeats 4000000 in
theorem vars_impl (a : Option Addr) (c : Nat) (R : List (List TS)) (V : List IQ) (w : World) (hV : varsR R = V) (h : SmRu w a R c) :
    Calls Tryz.prog 21 #[.agg #[.slice a R.length c]] w (GivesV w V) := by
  obtain ⟨i0, hi, hz0, hz1, hz2⟩ := info_get info_ts
  have hRl := h.len
  obtain ⟨w1, hw1⟩ : ∃ w1, w.alloc (.cells #[.slice a R.length c] 26) = w1 := ⟨_, rfl⟩
  have HB1 := Lib.hid (show Below w.heap.size w w1 by rw [← hw1]; exact (Below.refl w.heap.size w).alloc (Nat.le_refl _) _)
  have HX1 := Lib.hid (show BlkV w1 w.heap.size 26 #[.slice a R.length c] by rw [← hw1]; exact BlkV.new _ _ _)
  have HS0 := Lib.hid h
  have HV := Lib.hid hV
  obtain ⟨vb, hvb⟩ : ∃ vb, vsB R = vb := ⟨_, rfl⟩
  have HVB := Lib.hid hvb
  have q0 := HX1.out.one0
  clear h hV hvb
  cases vb
  · obtain rfl : [] = V := by rw [← HV.out]; unfold varsR; rw [HVB.out]; rfl
    go_enter Tryz.func21, Tryz.ntmps21
    go_wp2_with (go_at_call 25; ((with_reducible refine (vs_impl a c R _ _ HVB.out (HS0.out.below HB1.out)).mono ?_); rintro e w3 ⟨rfl, hb3⟩; have HB3 := Lib.hid (HB1.out.trans (hb3.mono HB1.out.size)); clear hb3))
    go_ret
    exact ⟨none, 0, rfl, World.ownsRow_nil _ _ _ _, HB3.out⟩
  go_enter Tryz.func21, Tryz.ntmps21
  go_wp2_with (go_at_call 25; ((with_reducible refine (vs_impl a c R _ _ HVB.out (HS0.out.below HB1.out)).mono ?_); rintro e w3 ⟨rfl, hb3⟩; refine Hid.out ?_))
  have HX3 := Lib.hid (HX1.out.below hb3)
  have HB3 := Lib.hid (HB1.out.trans (hb3.mono HB1.out.size))
  have HZ3 := Lib.hid (show w.heap.size + 1 ≤ w3.heap.size by have := HX1.out.lt; have := hb3.size; omega)
  clear hb3 q0 hw1
  have q0 := HX3.out.one0
  refine Lib.hid ?_
  go_wp2
  go_loopw [3, 12] (fun v i wr => ∃ (k n : Nat) (a3 : Option Addr) (c3 : Nat), k ≤ R.length ∧ v = .slice a3 n c3 ∧ i = .int .i64 k ∧ (rawV (R.take k)).length = n ∧ wr.ownsRow (w.heap.size + 1) 86 3 (.slice a3 n c3) n (flatV (rawV (R.take k))) ∧ Below w.heap.size w wr ∧ w.heap.size + 1 ≤ wr.heap.size) (fun _ i _ => R.length - (intOf i).toNat)
  case atStart => exact ⟨0, 0, none, 0, Nat.zero_le _, rfl, rfl, rfl, World.ownsRow_nil _ _ _ _, HB3.out, HZ3.out⟩
  case round =>
    obtain ⟨k, n, a3, c3, hk, rfl, rfl, hn, hrow, hb, hsz⟩ := hrel
    have hn9 : n ≤ 9 := by rw [← hn]; exact raw_take_len HVB.out k
    have HN := Lib.hid hn
    have HROW := Lib.hid hrow
    have HB := Lib.hid hb
    have HSZ := Lib.hid hsz
    clear hn hrow hb hsz q0
    by_cases hlt : k < R.length
    · obtain ⟨b, off, l, a', c', rfl, hbw, hx, c0, hsm⟩ := (HS0.out.below HB.out).at_ hlt
      obtain ⟨L, hL⟩ : ∃ L, l.map Prod.fst = L := ⟨_, rfl⟩
      have hLl : L.length = l.length := by rw [← hL, List.length_map]
      have hlr := vr_len (vs_rule HVB.out (List.mem_of_getElem? hx))
      have HRT := Lib.hid (show rawV (R.take (k + 1)) = rawV (R.take k) ++ L by rw [raw_take hx, hL])
      have HA1 := Lib.hid ((Below.refl wr.heap.size wr).alloc (Nat.le_refl _) (.cells #[.slice a' l.length c'] 66))
      have HLL := Lib.hid hLl
      have HLR := Lib.hid hlr
      have HSM := Lib.hid hsm
      have HL := Lib.hid hL
      clear hL hLl hlr hsm hx hbw
      go_wp2_with (go_at_call 47; ((with_reducible refine (cvt_any a' c' l L _ HL.out (HSM.out.below HA1.out)).mono ?_); rintro e w4 ⟨a4, c4, rfl, ho4, hb4⟩; refine Hid.out ?_))
      have HBB := Lib.hid (HA1.out.trans (hb4.mono HA1.out.size))
      have HR4 := Lib.hid (row_stillV HROW.out HBB.out)
      have hLn : 0 < L.length := by rw [HLL.out]; exact HLR.out.1
      obtain ⟨g4, rfl, hg4, _, hc4⟩ := rowX_at ho4 hLn
      obtain ⟨m, hm⟩ : ∃ m, L.length = m := ⟨_, rfl⟩
      have HM := Lib.hid hm
      have hm3 : m ≤ 3 := by rw [← hm, HLL.out]; exact HLR.out.2
      have hm1 : 0 < m := by rw [← hm]; exact hLn
      have HC4 := Lib.hid (show ∀ j u, (flatV L)[j]? = some u → w4.cell? ((⟨g4, 0, none⟩ : Addr).add j) = some u from fun j u hj => by
        have e : (⟨g4, 0, none⟩ : Addr).add j = ⟨g4, 0 + j, none⟩ := by unfold Addr.add; split <;> simp_all
        rw [e]
        exact hc4 j u hj)
      have HFL := Lib.hid (show (flatV L).length = m * 3 by rw [flatV_len, hm])
      have HF1 := Lib.hid (show ∀ u ∈ flatV L, u.oneCell' = true from fun u hu => by
        unfold flatV flatTs at hu
        obtain ⟨x, _, hx⟩ := List.mem_flatMap.1 hu
        exact encTs_one x u hx)
      rw [hm]
      clear hb4 ho4 hc4 hLn hm
      have HLB := Lib.hid (fun g (hg : (Value.slice a3 n c3).ownBlock = some g) => show w.heap.size + 1 ≤ g ∧ g < wr.heap.size from World.ownsRow.lt HROW.out g hg)
      refine Lib.hid ?_
      go_wp2_with (at_builtin; refine wpList_append_lies _ rfl (.tmp 16) (.tmp 19) 44 rfl (w.heap.size + 1) 86 i0 _ 3 24 Tryz.underlying44 hi hz0 hz1 hz2 rfl (by decide) (.slice a3 n c3) n _ rfl HR4.out ⟨g4, 0, none⟩ m c4 (flatV L) rfl HFL.out HC4.out HF1.out hm1 (by unfold maxLen; omega) (by omega) (by have := HSZ.out; have := HBB.out.size; omega) _ rfl ?_; intro g cap w5 ho hg hat hgl; have HO6 := Lib.hid ho; have HG6 := Lib.hid hg; clear ho hg hat hgl)
      go_roundw
      case rel =>
        refine ⟨k + 1, n + m, some ⟨g, 0, none⟩, cap, by omega, rfl, by go_num, ?_, ?_, ?_, ?_⟩
        · rw [HRT.out, List.length_append, HN.out, HM.out]
        · rw [HRT.out, flatV_append]
          exact HO6.out
        · exact (HB.out.trans (HBB.out.mono HB.out.size)).grown HG6.out (Nat.le_trans HB.out.size HBB.out.size) (fun q hq => by have := (HLB.out q hq).1; omega)
        · have := HSZ.out; have := HBB.out.size; have := HG6.out.size; omega
      case measure => simp [intOf]; omega
    · obtain rfl : k = R.length := by omega
      have hraw : R.take R.length = R := List.take_length
      have hrow := HROW.out
      have hnn := HN.out
      rw [hraw] at hrow hnn
      have hn0 : 0 < n := by rw [← hnn]; unfold rawV; rw [List.length_map]; exact raw_pos HVB.out
      obtain ⟨g, rfl, hg, hgl, _⟩ := rowX_at hrow hn0
      obtain ⟨Q, hQ⟩ : ∃ Q, rawV R = Q := ⟨_, rfl⟩
      rw [hQ] at hrow hnn
      have HQ := Lib.hid hQ
      have HNN := Lib.hid hnn
      have HRW := Lib.hid (show wr.ownsRow (w.heap.size + 1) 86 3 (.slice (some ⟨g, 0, none⟩) Q.length c3) Q.length (flatV Q) by rw [hnn]; exact hrow)
      have HQ9 := Lib.hid (show Q.length ≤ 4000000 by omega)
      have HGG := Lib.hid hg
      clear hrow hnn hQ hn0 hgl hraw hg
      have HSF := Lib.hid (sort_vs g Q (w.heap.size + 1) c3 wr HQ9.out HRW.out)
      rw [HNN.out] at HSF
      go_wp2_with (go_at_call 49; ((with_reducible refine HSF.out.mono ?_); rintro e w6 ⟨rfl, hg6, s, hsl, hss, hsm, hso⟩; refine Hid.out ?_))
      have hcmp := vars_cmp HVB.out hss (fun x => by rw [hsm x, HQ.out])
      have HCV := Lib.hid (show cmpP s = V by rw [hcmp, ← HV.out]; unfold varsR; rw [HVB.out]; rfl)
      have HSL := Lib.hid (show s.length = n from hsl)
      have HSO := Lib.hid (show w6.ownsRow (w.heap.size + 1) 86 3 (.slice (some ⟨g, 0, none⟩) n c3) n (flatV s) by rw [← HSL.out]; exact hso)
      have HG6 := Lib.hid hg6
      clear hsl hss hsm hso hg6 hcmp
      refine Lib.hid ?_
      go_wp2_with (go_at_call 51; ((with_reducible refine (cmpv_impl g c3 n (w.heap.size + 1) s V _ HCV.out HSL.out (by omega) HSO.out).mono ?_); rintro e w7 ⟨rfl, ho7, hg7⟩; have HO7 := Lib.hid ho7; have HG7 := Lib.hid hg7; clear ho7 hg7))
      go_ret
      exact ⟨_, _, rfl, row_mono HO7.out (by omega), (HB.out.grown HG6.out HB.out.size (fun q hq => by injection hq with hq; have := HGG.out; omega)).grown HG7.out (Nat.le_trans HB.out.size HG6.out.size) (fun q hq => by injection hq with hq; have := HGG.out; omega)⟩

theorem gives_ts {w : World} {V : List IQ} {l : List TS} (hl : V.map tsV = l) {e : Ending} {w' : World} (h : GivesV w V e w') : GivesTs w l e w' := by
  obtain ⟨a, c, rfl, ho, hb⟩ := h
  subst hl
  exact ⟨a, c, by rw [List.length_map], by rw [List.length_map]; exact ho.ts, hb⟩
theorem vars_specT (a : Option Addr) (c : Nat) (R : List (List TS)) (l : List TS) (w : World) (hl : (varsR R).map tsV = l) (h : SmRu w a R c) :
    Calls Tryz.prog 29 #[.agg #[.slice a R.length c]] w (GivesTs w l) :=
  (vars_spec a c R _ w rfl h).mono fun e w' hg => gives_ts hl hg
theorem vars_implT (a : Option Addr) (c : Nat) (R : List (List TS)) (l : List TS) (w : World) (hl : (varsR R).map tsV = l) (h : SmRu w a R c) :
    Calls Tryz.prog 21 #[.agg #[.slice a R.length c]] w (GivesTs w l) :=
  (vars_impl a c R _ w rfl h).mono fun e w' hg => gives_ts hl hg

end Go.Proofs.YtpmfabpnjacegaaGreatDoor
