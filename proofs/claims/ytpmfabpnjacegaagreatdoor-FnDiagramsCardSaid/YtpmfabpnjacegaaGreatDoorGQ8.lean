/-
  Texts laid together: BdF, ValS. By an AI agent.
-/
import Derived.Test.YtpmfabpnjacegaaGreatDoorBiI
import Derived.Test.YtpmfabpnjacegaaGreatDoorGQ2
import Derived.Test.YtpmfabpnjacegaaGreatDoorGQ6
import Derived.Test.YtpmfabpnjacegaaGreatDoorGQ5
import Derived.BigQuiet
import Derived.Deep.QuietTactic
/-
  Steps of a region that draws: maps are made; three operations are ready. By an AI agent.
-/
namespace Go.Proofs.YtpmfabpnjacegaaGreatDoor
open Go.RowKit
set_option linter.unusedVariables false
set_option linter.unusedSimpArgs false
set_option linter.unnecessarySimpa false

theorem anyE_three {P : Program} {ops : Array Oper} {Q : Exit → Act → World → Prop} {md : Region.Mode} {S : World → Prop} {n i j k : Nat} {f : Nat} {L : Array Bool} {a : Act} {w : World} (hr : Region.ready md ops L = [i, j, k]) (h1 : wpOp P ops Q i (fun a' w' => (i ≠ n → S w') ∧ anyE P md ops Q S n f (L.setIfInBounds i true) a' w') a w)
    (h2 : wpOp P ops Q j (fun a' w' => (j ≠ n → S w') ∧ anyE P md ops Q S n f (L.setIfInBounds j true) a' w') a w)
    (h3 : wpOp P ops Q k (fun a' w' => (k ≠ n → S w') ∧ anyE P md ops Q S n f (L.setIfInBounds k true) a' w') a w) : anyE P md ops Q S n (f + 1) L a w :=
  anyE_all hr (by simp) (fun m hm => by simp at hm; rcases hm with rfl | rfl | rfl; exact h1; exact h2; exact h3)
theorem anyE_four {P : Program} {ops : Array Oper} {Q : Exit → Act → World → Prop} {md : Region.Mode} {S : World → Prop} {n i j k l : Nat} {f : Nat} {L : Array Bool} {a : Act} {w : World} (hr : Region.ready md ops L = [i, j, k, l]) (h1 : wpOp P ops Q i (fun a' w' => (i ≠ n → S w') ∧ anyE P md ops Q S n f (L.setIfInBounds i true) a' w') a w)
    (h2 : wpOp P ops Q j (fun a' w' => (j ≠ n → S w') ∧ anyE P md ops Q S n f (L.setIfInBounds j true) a' w') a w)
    (h3 : wpOp P ops Q k (fun a' w' => (k ≠ n → S w') ∧ anyE P md ops Q S n f (L.setIfInBounds k true) a' w') a w)
    (h4 : wpOp P ops Q l (fun a' w' => (l ≠ n → S w') ∧ anyE P md ops Q S n f (L.setIfInBounds l true) a' w') a w) : anyE P md ops Q S n (f + 1) L a w :=
  anyE_all hr (by simp) (fun m hm => by simp at hm; rcases hm with rfl | rfl | rfl | rfl; exact h1; exact h2; exact h3; exact h4)
theorem step_makeP {ops : Array Oper} {o : Oper} {a : Act} {W : World} {K : Act → World → Prop} {Q : Exit → Act → World → Prop} {E : Prop} (hgd : o.guard = none) (t : TypeId)
    (hop : o.op = .makeMap t none)
    (h : ∀ b w', w'.heap.size = b + 1 → W.heap.size = b → Below W.heap.size W w' → (∀ {α : Type} (k : TypeId) (kl : α → Lit) (ok : α → Prop), GMap k kl ok w' b 0 (fun _ => none)) → K (a.put o.dst (.map (some b))) w') :
    if Region.wanted o (yielded ops a.tmps) = true then Oper.wp Tryz.prog o a W K Q else E := by
  have hw : Region.wanted o (yielded ops a.tmps) = true := by simp [Region.wanted, hgd]
  rw [if_pos hw]
  unfold Oper.wp
  simp [execOp, hop, run_makeMap, Result.andThen]
  exact h _ _ (by simp) rfl ((Below.refl _ _).alloc (Nat.le_refl _) _) (fun k kl ok => GMap.made W)
theorem refF_nil : refF [] = fun _ => none := by
  funext x
  rfl
theorem varsL_okV {R : List (List TS)} (h : vsB R = true) : ∀ p ∈ varsL R, okV p := fun p hp => by
  have h1 := (varsL_mem h p).1 hp
  obtain ⟨t, ht, rfl⟩ := List.mem_map.1 h1
  have h2 := flat_test h ht
  exact ⟨wf_small (by omega) (by omega), wf_small (by omega) (by omega)⟩
theorem varsL_has {R : List (List TS)} (h : vsB R = true) : ∀ l ∈ R, ∀ t ∈ l, t.1 ∈ varsL R := fun l hl t ht =>
  (varsL_mem h _).2 (List.mem_map.2 ⟨t, List.mem_flatten.2 ⟨l, hl, ht⟩, rfl⟩)
theorem varsL_nodup {R : List (List TS)} (h : vsB R = true) : (varsL R).Nodup := (varsL_asc h).imp fun h => plt_ne h
theorem grownb_set {w0 w : World} {g : Nat} (h : w0.grownBy w (some g)) (j : Nat) (u : Value) : w0.grownBy (w.setCell ⟨g, j, none⟩ u) (some g) :=
  ⟨h.os, h.tape, h.output, by simpa [World.setCell] using h.size, fun k hk hne => (Below.heap_setCell w ⟨g, j, none⟩ u k (fun e => hne (by rw [e]))).trans (h.block k hk hne)⟩

end Go.Proofs.YtpmfabpnjacegaaGreatDoor

/-
  What spec.l15Value answers. By an AI agent.
-/
namespace Go.Proofs.YtpmfabpnjacegaaGreatDoor
open Go.RowKit
set_option linter.unusedVariables false
set_option linter.unusedSimpArgs false
set_option linter.unnecessarySimpa false

theorem te_step {V : List IQ} {bs : List Bool} {t : TS} {v : Nat} {p : IQ} {b : Bool} (h1 : V[v]? = some p) (h2 : bs[v]? = some b) : ((V.zip bs).take (v + 1)).all (fun q => !(q.1 == t.1 && q.2 == t.2)) = (((V.zip bs).take v).all (fun q => !(q.1 == t.1 && q.2 == t.2)) && !(p == t.1 && b == t.2)) := by
  have h : (V.zip bs)[v]? = some (p, b) := by rw [List.getElem?_zip_eq_some]; exact ⟨h1, h2⟩
  rw [List.take_add_one, h, List.all_append]
  simp
theorem all_stepT {p : TS → Bool} {l : List TS} {k : Nat} {t : TS} (h : l[k]? = some t) : (l.take (k + 1)).all p = ((l.take k).all p && p t) := by
  rw [List.take_add_one, h, List.all_append]
  simp
theorem any_stepR {p : List TS → Bool} {R : List (List TS)} {k : Nat} {l : List TS} (h : R[k]? = some l) : (R.take (k + 1)).any p = ((R.take k).any p || p l) := by
  rw [List.take_add_one, h, List.any_append]
  simp

theorem bit_and (M : Nat) (h : M < 512) : (bits BinOp.and IntKind.i64 (M : Int) 1 == 1) = (M % 2 == 1) := by
  have h1 : ∀ M : Fin 512, (bits BinOp.and IntKind.i64 ((M.val : Nat) : Int) 1 == 1) = (M.val % 2 == 1) := by decide +kernel
  exact h1 ⟨M, h⟩
theorem bit_fact {N q : Nat} {b : Bool} (h : N / 2 ^ q % 2 = if b then 1 else 0) (hN : N < 512) : (bits BinOp.and IntKind.i64 ((N : Int) / 2 ^ q) 1 == 1) = b := by
  have e : (N : Int) / 2 ^ q = ((N / 2 ^ q : Nat) : Int) := by simp
  rw [e, bit_and _ (Nat.lt_of_le_of_lt (Nat.div_le_self _ _) hN), h]
  cases b <;> rfl
theorem vquiet_f2 (b : Nat) (w : World) (n : Nat) : Below b w (w.drewN n) := ⟨rfl, rfl, rfl, Nat.le_refl _, fun _ _ => rfl⟩
set_option maxRecDepth 100000 in
set_option maxHeartbeats 8000000 in
theorem val_spec (aR : Option Addr) (cR : Nat) (R : List (List TS)) (aV : Option Addr) (cV n : Nat) (V : List IQ) (bs : List Bool) (N : Nat) (r : Bool) (w : World) (hN : natOf bs = N) (hr : vaR R V bs = r) (hn : V.length = n) (hbs : bs.length = n) (h9 : n ≤ 9) (hR : SmRu w aR R cR) (hV : SmTs w aV (V.map tsV) cV) :
    Calls Tryz.prog 60 #[.agg #[.slice aR R.length cR], .slice aV n cV, .int .i64 (N : Int)] w fun e w' => e = .returned (.bool r) ∧ Below w.heap.size w w' := by
  have hRl := hR.len
  obtain ⟨w1, hw1⟩ : ∃ w1, w.alloc (.cells #[.slice aR R.length cR] 26) = w1 := ⟨_, rfl⟩
  have HB1 := Lib.hid (show Below w.heap.size w w1 by rw [← hw1]; exact (Below.refl w.heap.size w).alloc (Nat.le_refl _) _)
  have HX1 := Lib.hid (show BlkV w1 w.heap.size 26 #[.slice aR R.length cR] by rw [← hw1]; exact BlkV.new _ _ _)
  have HS := Lib.hid (hR.below HB1.out)
  have HV := Lib.hid ((hV.below HB1.out).inTs)
  have HR := Lib.hid hr
  have HNN := Lib.hid hN
  have HN := Lib.hid hn
  have HBS := Lib.hid hbs
  have HN5 := Lib.hid (show N < 512 by
    have h1 := natOf_lt bs
    rw [hbs, hN] at h1
    have h2 : 2 ^ n ≤ 2 ^ 9 := Nat.pow_le_pow_right (by decide) h9
    omega)
  have hN5 := HN5.out
  clear hR hV hr hN hn hbs
  go_enter Tryz.func60, Tryz.ntmps60
  go_wp2
  go_loopw [7] (fun i wr => ∃ k : Nat, k ≤ R.length ∧ i = .int .i64 k ∧ (R.take k).any (fun l => l.all (teB V bs)) = false ∧ Below w1.heap.size w1 wr) (fun i _ => R.length - (intOf i).toNat)
  case atStart => exact ⟨0, Nat.zero_le _, rfl, rfl, Below.refl _ _⟩
  case round =>
    obtain ⟨i, hi, rfl, hany, hb⟩ := hrel
    have HANY := Lib.hid hany
    obtain ⟨wo, rfl⟩ : ∃ wo, wo = wr := ⟨_, rfl⟩
    have HBO := Lib.hid hb
    have q0 := (HX1.out.below hb).one0
    clear hany hb
    by_cases hlt : i < R.length
    · obtain ⟨b, off, l, a', c', rfl, hbw, hx, c0, hsm⟩ := (HS.out.below HBO.out).at_ hlt
      have HX := Lib.hid hx
      have HSM := Lib.hid hsm
      have hll := hsm.len
      obtain ⟨m, hm⟩ : ∃ m, l.length = m := ⟨_, rfl⟩
      have HM := Lib.hid hm
      rw [hm] at c0 hll
      have hii : (i : Int) < (R.length : Int) := by omega
      clear hx hsm hm
      go_wp2
      go_loopw [8, 9] (fun v k wr => ∃ j : Nat, j ≤ m ∧ k = .int .i64 j ∧ v = .bool ((l.take j).all (teB V bs)) ∧ Below wo.heap.size wo wr) (fun _ k _ => m - (intOf k).toNat)
      case atStart => exact ⟨0, Nat.zero_le _, rfl, rfl, Below.refl _ _⟩
      case round =>
        obtain ⟨j, hj, rfl, rfl, hb⟩ := hrel
        obtain ⟨wp, rfl⟩ : ∃ wp, wp = wr := ⟨_, rfl⟩
        have HBP := Lib.hid hb
        have y0 := (HX1.out.below (HBO.out.trans (hb.mono HBO.out.size))).one0
        have d0 : wp.cell? ⟨b, off + i, none⟩ = some (.slice a' m c') := (hb.cell (p := ⟨b, off + i, none⟩) hbw).trans c0
        obtain ⟨AL, hAL⟩ : ∃ x, (l.take j).all (teB V bs) = x := ⟨_, rfl⟩
        have HAL := Lib.hid hAL
        rw [hAL]
        clear hb hAL q0
        by_cases hjt : j < m
        · obtain ⟨b1, o1, f, t, u, rfl, hbw1, hy, e0, e1, e2⟩ := (HSM.out.inTs.below HBP.out).at_ (show j < l.length by rw [HM.out]; exact hjt)
          have HY := Lib.hid hy
          obtain ⟨wq, hwq⟩ : ∃ x, wp.alloc (.cells #[.int .i64 f, .int .i64 t, .bool u] 86) = x := ⟨_, rfl⟩
          have HQB := Lib.hid (show Below wp.heap.size wp wq by rw [← hwq]; exact (Below.refl _ _).alloc (Nat.le_refl _) _)
          have HQX := Lib.hid (show BlkV wq wp.heap.size 86 #[.int .i64 f, .int .i64 t, .bool u] by rw [← hwq]; exact BlkV.new _ _ _)
          have hji : (j : Int) < (m : Int) := by omega
          clear hy hbw1
          go_wp2
          go_loopw [8, 11] (fun x v wr => ∃ q : Nat, q ≤ n ∧ v = .int .i64 q ∧ x = .bool (AL && ((V.zip bs).take q).all (fun q => !(q.1 == (f, t) && q.2 == u))) ∧ Below wq.heap.size wq wr) (fun _ v _ => n - (intOf v).toNat)
          case atStart => exact ⟨0, Nat.zero_le _, rfl, by simp, Below.refl _ _⟩
          case round =>
            obtain ⟨q, hq, rfl, rfl, hb⟩ := hrel
            have HBR := Lib.hid hb
            obtain ⟨BL, hBL⟩ : ∃ x, (AL && ((V.zip bs).take q).all (fun q => !(q.1 == (f, t) && q.2 == u))) = x := ⟨_, rfl⟩
            have HBL := Lib.hid hBL
            rw [hBL]
            have z0 := (HQX.out.below hb).three0
            have z1 := (HQX.out.below hb).three1
            have z2 := (HQX.out.below hb).three2
            clear hb hBL
            by_cases hqt : q < n
            · obtain ⟨⟨f', t'⟩, hp⟩ : ∃ p, V[q]? = some p := ⟨_, List.getElem?_eq_getElem (by rw [HN.out]; exact hqt)⟩
              obtain ⟨bb, hbb⟩ : ∃ p, bs[q]? = some p := ⟨_, List.getElem?_eq_getElem (by rw [HBS.out]; exact hqt)⟩
              have hVat : (V.map tsV)[q]? = some ((f', t'), false) := by rw [List.getElem?_map, hp]; rfl
              obtain ⟨b2, o2, rfl, hbw2, hcV⟩ := (HV.out.below (HBO.out.trans ((HBP.out.trans ((HQB.out.trans (HBR.out.mono HQB.out.size)).mono HBP.out.size)).mono HBO.out.size))) (by rw [List.length_map, HN.out]; omega)
              obtain ⟨g0, g1, g2⟩ := hcV q _ hVat
              have HP := Lib.hid hp
              have HBB := Lib.hid hbb
              have HST := Lib.hid (te_step (t := ((f, t), u)) hp hbb)
              have hbit := natOf_bit hbb
              rw [HNN.out] at hbit
              have HBIT := Lib.hid hbit
              have hqi : (q : Int) < (n : Int) := by omega
              have hq9 : q < 9 := by omega
              clear hp hbb hVat hcV hbw2 hbit
              have hst := HST.out
              have hbl := HBL.out
              by_cases hf : f' = f
              · subst hf
                by_cases ht : t' = t
                · subst ht
                  have hff : (f' == f') = true := by simp
                  have htt : (t' == t') = true := by simp
                  have hbv := bit_fact HBIT.out HN5.out
                  cases bb
                  all_goals cases u
                  all_goals
                    go_wp2_with (fail)
                    go_quiet (fail)
                    go_wp2
                    go_roundw
                    case rel => exact ⟨q + 1, by omega, by go_num, by rw [hst, ← Bool.and_assoc, hbl]; simp, HBR.out.trans (vquiet_f2 _ _ _)⟩
                    case measure => simp [intOf]; omega
                · have htt : (t' == t) = false := by simp [ht]
                  have hff : (f' == f') = true := by simp
                  go_wp2_with (fail)
                  go_quiet (fail)
                  go_wp2
                  go_roundw
                  case rel => exact ⟨q + 1, by omega, by go_num, by rw [hst, ← Bool.and_assoc, hbl]; simp [ht], HBR.out.trans (vquiet_f2 _ _ _)⟩
                  case measure => simp [intOf]; omega
              · have hff : (f' == f) = false := by simp [hf]
                go_wp2_with (fail)
                go_quiet (fail)
                go_wp2
                go_roundw
                case rel => exact ⟨q + 1, by omega, by go_num, by rw [hst, ← Bool.and_assoc, hbl]; simp [hf], HBR.out.trans (vquiet_f2 _ _ _)⟩
                case measure => simp [intOf]; omega
            · obtain rfl : q = n := by omega
              have HEND := Lib.hid (show (l.take (j + 1)).all (teB V bs) = BL by
                rw [all_stepT HY.out, HAL.out, ← HBL.out]
                congr 1
                unfold teB
                rw [List.take_of_length_le (by rw [List.length_zip, HN.out, HBS.out]; omega)])
              clear z0 z1 z2
              go_wp2
              go_roundw
              case rel => exact ⟨j + 1, by omega, by go_num, by rw [HEND.out], HBP.out.trans ((HQB.out.trans (HBR.out.mono HQB.out.size)).mono HBP.out.size)⟩
              case measure => simp [intOf]; omega
        · obtain rfl : j = m := by omega
          have HLA := Lib.hid (show l.all (teB V bs) = AL by have h := HAL.out; rwa [← HM.out, List.take_length] at h)
          cases AL
          · go_wp2
            go_roundw
            case rel => exact ⟨i + 1, by omega, by go_num, by rw [any_stepR HX.out, HANY.out, HLA.out]; rfl, HBO.out.trans (HBP.out.mono HBO.out.size)⟩
            case measure => simp [intOf]; omega
          · obtain rfl : true = r := by
              rw [← HR.out]
              unfold vaR
              exact (List.any_eq_true.2 ⟨l, List.mem_of_getElem? HX.out, HLA.out⟩).symm
            go_wp2
            go_ret
            exact ⟨rfl, HB1.out.trans ((HBO.out.trans (HBP.out.mono HBO.out.size)).mono HB1.out.size)⟩
    · obtain rfl : i = R.length := by omega
      obtain rfl : false = r := by
        rw [← HR.out]
        have h := HANY.out
        rw [List.take_length] at h
        unfold vaR
        exact h.symm
      go_wp2
      go_ret
      exact ⟨rfl, HB1.out.trans (HBO.out.mono HB1.out.size)⟩

end Go.Proofs.YtpmfabpnjacegaaGreatDoor

