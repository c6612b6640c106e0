/-
  What impl's diagramBuilder.decide answers: a method value handed to slices.ContainsFunc. By an AI agent.
-/
import Derived.Test.YtpmfabpnjacegaaGreatDoorRfI
import Derived.Test.YtpmfabpnjacegaaGreatDoorVarI
import Derived.Test.YtpmfabpnjacegaaGreatDoorUndrew
namespace Go.Proofs.YtpmfabpnjacegaaGreatDoor
open Go.RowKit
set_option linter.unusedVariables false
set_option linter.unusedSimpArgs false
set_option linter.unnecessarySimpa false

set_option maxRecDepth 100000 in
set_option maxHeartbeats 2000000 in
theorem th_implB (gB : Nat) (aR : Option Addr) (nR cR : Nat) (aV : Option Addr) (nV cV bm br : Nat) (sl : Value) (q : Nat) (fv : IQ → Option Value) (f t : Int) (u bb r : Bool) (W : World)
    (hbx : BlkV W gB 54 #[.slice aR nR cR, .slice aV nV cV, .map (some bm), .map (some br), sl]) (hm : TMap W bm q fv) (hok : okV (f, t)) (hfv : fv (f, t) = some (.bool bb)) (hr : (bb != u) = r) :
    Calls Tryz.prog 107 #[.pointer (some ⟨gB, 0, none⟩), .agg #[.int .i64 f, .int .i64 t, .bool u]] W fun e W' => e = .returned (.bool r) ∧ Below W.heap.size W W' := by
  obtain ⟨w1, hw1⟩ : ∃ w1, W.alloc (.cells #[.int .i64 f, .int .i64 t, .bool u] 86) = w1 := ⟨_, rfl⟩
  have hB1 : Below W.heap.size W w1 := by rw [← hw1]; exact (Below.refl _ _).alloc (Nat.le_refl _) _
  have HB1 := Lib.hid hB1
  have HX1 := Lib.hid (show BlkV w1 W.heap.size 86 #[.int .i64 f, .int .i64 t, .bool u] by rw [← hw1]; exact BlkV.new _ _ _)
  have HBX := Lib.hid (hbx.below hB1)
  have HTM := Lib.hid (hm.below hB1)
  have HLK := Lib.hid (fun (w' : World) (hw : Below w1.heap.size w1 w') => show (Instr.lookup 51 (.map (some bm)) (.agg #[.int .i64 f, .int .i64 t, .bool false]) false).run Tryz.prog w' = .ok (.bool bb) w' by
    have h := (HTM.out.below hw).look keyV Tryz.underlying51 (z := .bool false) (by kernel_rfl) (f, t) hok
    rw [hfv] at h
    exact h)
  have HR := Lib.hid hr
  have b2 : w1.cell? ⟨gB, 2, none⟩ = some (.map (some bm)) := HBX.out.cell 2
  have x0 := HX1.out.three0
  have x1 := HX1.out.three1
  have x2 := HX1.out.three2
  have l1 := HLK.out w1.drew ⟨rfl, rfl, rfl, Nat.le_refl _, fun _ _ => rfl⟩
  clear hbx hm hok hfv hr hB1
  go_enter Tryz.func107, Tryz.ntmps107
  go_wp2_with (fail)
  go_region_held3 (fun w' => w'.cell? ⟨gB, 2, none⟩ = some (.map (some bm)) ∧ w'.cell? ⟨W.heap.size, 0, none⟩ = some (.int .i64 f) ∧ w'.cell? ⟨W.heap.size, 1, none⟩ = some (.int .i64 t) ∧ w'.cell? ⟨W.heap.size, 2, none⟩ = some (.bool u) ∧ (Instr.lookup 51 (.map (some bm)) (.agg #[.int .i64 f, .int .i64 t, .bool false]) false).run Tryz.prog w' = .ok (.bool bb) w')
    (first | exact ⟨y2, y3, y4, y5, y6⟩ | exact ⟨b2, x0, x1, x2, l1⟩)
    (first
      | (go_at_call 48; ((with_reducible refine Calls.mono (tsvar_is f t u _) ?_); rintro e w2 ⟨rfl, hb⟩; have hr2 := undrew hb; have HB2 := Lib.hid (HB1.out.trans (hr2.mono HB1.out.size)); have y2 : w2.cell? ⟨gB, 2, none⟩ = some (.map (some bm)) := (HBX.out.below hr2).cell 2; have y3 := (HX1.out.below hr2).three0; have y4 := (HX1.out.below hr2).three1; have y5 := (HX1.out.below hr2).three2; have y6 := HLK.out w2 hr2; clear hb hr2)))
  go_wp2
  go_ret
  exact ⟨by rw [← HR.out]; cases bb <;> cases u <;> rfl, HB2.out⟩

def teF (g : IQ → Bool) (t : TS) : Bool := g t.1 != t.2
theorem all_stepF {p : TS → Bool} {l : List TS} {k : Nat} {t : TS} (h : l[k]? = some t) : (l.take (k + 1)).all p = ((l.take k).all p && p t) := by
  rw [List.take_add_one, h, List.all_append]
  simp
set_option maxRecDepth 100000 in
set_option maxHeartbeats 2000000 in
theorem rh_implB (gB : Nat) (aR : Option Addr) (nR cR : Nat) (aV : Option Addr) (nV cV bm br : Nat) (sl : Value) (q : Nat) (fv : IQ → Option Value) (g : IQ → Bool) (a : Option Addr) (c : Nat) (l : List TS) (r : Bool) (W : World)
    (hbx : BlkV W gB 54 #[.slice aR nR cR, .slice aV nV cV, .map (some bm), .map (some br), sl]) (hm : TMap W bm q fv) (hg : ∀ t ∈ l, okV t.1 ∧ fv t.1 = some (.bool (g t.1))) (h : SmTs W a l c) (hr : l.all (teF g) = r) :
    Calls Tryz.prog 84 #[.pointer (some ⟨gB, 0, none⟩), .agg #[.slice a l.length c]] W fun e W' => e = .returned (.bool r) ∧ Below W.heap.size W W' := by
  have hl := h.len
  obtain ⟨w1, hw1⟩ : ∃ w1, W.alloc (.cells #[.slice a l.length c] 66) = w1 := ⟨_, rfl⟩
  have hB1 : Below W.heap.size W w1 := by rw [← hw1]; exact (Below.refl _ _).alloc (Nat.le_refl _) _
  have HB1 := Lib.hid hB1
  have HX1 := Lib.hid (show BlkV w1 W.heap.size 66 #[.slice a l.length c] by rw [← hw1]; exact BlkV.new _ _ _)
  have HBX := Lib.hid (hbx.below hB1)
  have HTM := Lib.hid (hm.below hB1)
  have HG := Lib.hid hg
  have HIN := Lib.hid ((h.below hB1).inTs)
  have HR := Lib.hid hr
  have q0 := HX1.out.one0
  clear hbx hm hg h hr hB1
  go_enter Tryz.func84, Tryz.ntmps84
  go_wp2
  clear q0
  go_loopw [10] (fun i wr => ∃ k : Nat, k ≤ l.length ∧ i = .int .i64 k ∧ (l.take k).all (teF g) = true ∧ Below w1.heap.size w1 wr) (fun i _ => l.length - (intOf i).toNat)
  case atStart => exact ⟨0, Nat.zero_le _, rfl, rfl, Below.refl _ _⟩
  case round =>
    obtain ⟨k, hk, rfl, hall, hb⟩ := hrel
    have HALL := Lib.hid hall
    have HB := Lib.hid hb
    clear hall hb
    by_cases hlt : k < l.length
    · obtain ⟨b, off, f, t, u, rfl, hbw, hx, c0, c1, c2⟩ := (HIN.out.below HB.out).at_ hlt
      have HX := Lib.hid hx
      have HT := Lib.hid (HG.out _ (List.mem_of_getElem? hx))
      have HA1 := Lib.hid ((Below.refl wr.heap.size wr).alloc (Nat.le_refl _) (.cells #[.int .i64 f, .int .i64 t, .bool u] 86))
      have HAA := Lib.hid (HB.out.trans (HA1.out.mono HB.out.size))
      have hki : (k : Int) < (l.length : Int) := by omega
      obtain ⟨v, hv⟩ : ∃ v, (g (f, t) != u) = v := ⟨_, rfl⟩
      have HV := Lib.hid hv
      clear hx hbw hv
      cases v
      · obtain rfl : false = r := by
          rw [← HR.out]
          refine (Bool.eq_false_iff.2 fun e => ?_).symm
          have := List.all_eq_true.1 e _ (List.mem_of_getElem? HX.out)
          unfold teF at this
          rw [HV.out] at this
          cases this
        go_wp2_with (go_at_call 107; ((refine (th_implB gB aR nR cR aV nV cV bm br sl q fv f t u _ false _ (HBX.out.below HAA.out) (HTM.out.below HAA.out) HT.out.1 HT.out.2 HV.out).mono ?_); rintro e w2 ⟨rfl, hb⟩; have HB2 := Lib.hid (HA1.out.trans (hb.mono HA1.out.size)); clear hb))
        go_ret
        exact ⟨rfl, HB1.out.trans ((HB.out.trans (HB2.out.mono HB.out.size)).mono HB1.out.size)⟩
      · go_wp2_with (go_at_call 107; ((refine (th_implB gB aR nR cR aV nV cV bm br sl q fv f t u _ true _ (HBX.out.below HAA.out) (HTM.out.below HAA.out) HT.out.1 HT.out.2 HV.out).mono ?_); rintro e w2 ⟨rfl, hb⟩; have HB2 := Lib.hid (HA1.out.trans (hb.mono HA1.out.size)); clear hb))
        go_roundw
        case rel => exact ⟨k + 1, by omega, by go_num, by rw [all_stepF HX.out, HALL.out]; unfold teF; rw [HV.out]; rfl, HB.out.trans (HB2.out.mono HB.out.size)⟩
        case measure => simp [intOf]; omega
    · obtain rfl : k = l.length := by omega
      obtain rfl : true = r := by
        rw [← HR.out]
        have h := HALL.out
        rw [List.take_length] at h
        exact h.symm
      go_wp2
      go_ret
      exact ⟨rfl, HB1.out.trans (HB.out.mono HB1.out.size)⟩

set_option maxRecDepth 100000 in
set_option maxHeartbeats 4000000 in
theorem idxf_impl (gB : Nat) (aR : Option Addr) (cR : Nat) (R : List (List TS)) (nR : Nat) (aV : Option Addr) (nV cV bm br : Nat) (sl : Value) (q : Nat) (fv : IQ → Option Value) (g : IQ → Bool) (r : Bool) (W : World) (hn : R.length = nR)
    (hbx : BlkV W gB 54 #[.slice aR nR cR, .slice aV nV cV, .map (some bm), .map (some br), sl]) (hm : TMap W bm q fv) (hg : ∀ l ∈ R, ∀ t ∈ l, okV t.1 ∧ fv t.1 = some (.bool (g t.1))) (h : SmRu W aR R cR) (hr : R.any (fun l => l.all (teF g)) = r) :
    Calls Tryz.prog 106 #[.slice aR nR cR, .func (.func 84) #[.pointer (some ⟨gB, 0, none⟩)] #[]] W fun e W' => (∃ z : Int, e = .returned (.int .i64 z) ∧ decide (0 ≤ z) = r) ∧ Below W.heap.size W W' := by
  have hl := h.len
  rw [hn] at hl
  have HN := Lib.hid hn
  have HBX := Lib.hid hbx
  have HTM := Lib.hid hm
  have HG := Lib.hid hg
  have HS := Lib.hid h
  have HR := Lib.hid hr
  clear hbx hm hg h hr hn
  go_enter Tryz.func106, Tryz.ntmps106
  go_wp2
  go_loopw [8] (fun i wr => ∃ k : Nat, k ≤ nR ∧ i = .int .i64 k ∧ (R.take k).any (fun l => l.all (teF g)) = false ∧ Below W.heap.size W wr) (fun i _ => nR - (intOf i).toNat)
  case atStart => exact ⟨0, Nat.zero_le _, rfl, rfl, Below.refl _ _⟩
  case round =>
    obtain ⟨k, hk, rfl, hany, hb⟩ := hrel
    have HANY := Lib.hid hany
    have HB := Lib.hid hb
    clear hany hb
    by_cases hlt : k < nR
    · obtain ⟨b, off, l, a', c', rfl, hbw, hx, c0, hsm⟩ := (HS.out.below HB.out).at_ (show k < R.length by rw [HN.out]; exact hlt)
      have HX := Lib.hid hx
      obtain ⟨v, hv⟩ : ∃ v, l.all (teF g) = v := ⟨_, rfl⟩
      have HV := Lib.hid hv
      have HC := Lib.hid (rh_implB gB (some ⟨b, off, none⟩) nR cR aV nV cV bm br sl q fv g a' c' l v wr (HBX.out.below HB.out) (HTM.out.below HB.out) (HG.out l (List.mem_of_getElem? hx)) hsm hv)
      have hki : (k : Int) < (nR : Int) := by omega
      clear hx hsm hbw hv
      cases v
      · go_wp2_with (go_at_call 84; ((refine HC.out.mono ?_); rintro e w2 ⟨rfl, hb⟩; have HB2 := Lib.hid hb; clear hb))
        go_roundw
        case rel => exact ⟨k + 1, by omega, by go_num, by rw [List.take_add_one, HX.out, List.any_append, HANY.out]; simp [HV.out], HB.out.trans (HB2.out.mono HB.out.size)⟩
        case measure => simp [intOf]; omega
      · obtain rfl : true = r := by
          rw [← HR.out]
          exact (List.any_eq_true.2 ⟨l, List.mem_of_getElem? HX.out, HV.out⟩).symm
        go_wp2_with (go_at_call 84; ((refine HC.out.mono ?_); rintro e w2 ⟨rfl, hb⟩; have HB2 := Lib.hid hb; clear hb))
        go_ret
        exact ⟨⟨(k : Int), rfl, decide_eq_true (by omega)⟩, HB.out.trans (HB2.out.mono HB.out.size)⟩
    · obtain rfl : k = nR := by omega
      obtain rfl : false = r := by
        rw [← HR.out]
        have h := HANY.out
        rw [← HN.out, List.take_length] at h
        exact h.symm
      go_wp2
      go_ret
      exact ⟨⟨-1, rfl, rfl⟩, HB.out⟩

set_option maxRecDepth 100000 in
set_option maxHeartbeats 2000000 in
theorem cf_impl (gB : Nat) (aR : Option Addr) (cR : Nat) (R : List (List TS)) (nR : Nat) (aV : Option Addr) (nV cV bm br : Nat) (sl : Value) (q : Nat) (fv : IQ → Option Value) (g : IQ → Bool) (r : Bool) (W : World) (hn : R.length = nR)
    (hbx : BlkV W gB 54 #[.slice aR nR cR, .slice aV nV cV, .map (some bm), .map (some br), sl]) (hm : TMap W bm q fv) (hg : ∀ l ∈ R, ∀ t ∈ l, okV t.1 ∧ fv t.1 = some (.bool (g t.1))) (h : SmRu W aR R cR) (hr : R.any (fun l => l.all (teF g)) = r) :
    Calls Tryz.prog 83 #[.slice aR nR cR, .func (.func 84) #[.pointer (some ⟨gB, 0, none⟩)] #[]] W fun e W' => e = .returned (.bool r) ∧ Below W.heap.size W W' := by
  have HC := Lib.hid (idxf_impl gB aR cR R nR aV nV cV bm br sl q fv g r W hn hbx hm hg h hr)
  clear hbx hm hg h hr hn
  go_enter Tryz.func83, Tryz.ntmps83
  go_wp2_with (go_at_call 106; ((refine HC.out.mono ?_); rintro e w2 ⟨⟨z, rfl, hz⟩, hb⟩; refine Hid.out ?_))
  have HB := Lib.hid hb
  clear hb
  refine Lib.hid ?_
  cases r
  · have hq0 : ¬ 0 ≤ z := of_decide_eq_false hz
    clear hz
    go_wp2
    go_ret
    exact ⟨rfl, HB.out⟩
  · have hq0 : 0 ≤ z := of_decide_eq_true hz
    clear hz
    go_wp2
    go_ret
    exact ⟨rfl, HB.out⟩

theorem hmfD : ∀ (fn : Fn) (first cap : Array Value) (w : World), (Instr.makeFunc fn first cap).run Tryz.prog w = .ok (.func fn first cap) w := fun _ _ _ _ => rfl
set_option maxRecDepth 100000 in
set_option maxHeartbeats 2000000 in
theorem dc_impl (gB : Nat) (aR : Option Addr) (cR : Nat) (R : List (List TS)) (nR : Nat) (aV : Option Addr) (nV cV bm br : Nat) (sl : Value) (q : Nat) (fv : IQ → Option Value) (g : IQ → Bool) (x : Int) (W : World) (hn : R.length = nR)
    (hbx : BlkV W gB 54 #[.slice aR nR cR, .slice aV nV cV, .map (some bm), .map (some br), sl]) (hm : TMap W bm q fv) (hg : ∀ l ∈ R, ∀ t ∈ l, okV t.1 ∧ fv t.1 = some (.bool (g t.1))) (h : SmRu W aR R cR) (hx : (if R.any (fun l => l.all (teF g)) then (1 : Int) else 0) = x) :
    Calls Tryz.prog 58 #[.pointer (some ⟨gB, 0, none⟩)] W fun e W' => e = .returned (.int .i64 x) ∧ Below W.heap.size W W' := by
  have hmf := hmfD
  obtain ⟨r, hr⟩ : ∃ r, R.any (fun l => l.all (teF g)) = r := ⟨_, rfl⟩
  have HC := Lib.hid (cf_impl gB aR cR R nR aV nV cV bm br sl q fv g r W hn hbx hm hg h hr)
  have b0 : W.cell? ⟨gB, 0, none⟩ = some (.slice aR nR cR) := hbx.cell 0
  rw [hr] at hx
  clear hbx hm hg h hr hn
  cases r
  · obtain rfl : (0 : Int) = x := hx
    go_enter Tryz.func58, Tryz.ntmps58
    go_wp2_with (go_at_call 83; ((refine HC.out.mono ?_); rintro e w2 ⟨rfl, hb⟩; have HB := Lib.hid hb; clear hb))
    go_ret
    exact ⟨rfl, HB.out⟩
  · obtain rfl : (1 : Int) = x := hx
    go_enter Tryz.func58, Tryz.ntmps58
    go_wp2_with (go_at_call 83; ((refine HC.out.mono ?_); rintro e w2 ⟨rfl, hb⟩; have HB := Lib.hid hb; clear hb))
    go_ret
    exact ⟨rfl, HB.out⟩

end Go.Proofs.YtpmfabpnjacegaaGreatDoor
