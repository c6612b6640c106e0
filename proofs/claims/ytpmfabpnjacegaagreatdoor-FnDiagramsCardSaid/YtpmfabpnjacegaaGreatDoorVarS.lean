/-
  What spec.DiagramVariables answers. By an AI agent.
-/
import Derived.Test.YtpmfabpnjacegaaGreatDoorLevS
import Derived.Test.YtpmfabpnjacegaaGreatDoorGQ7
import Derived.Test.YtpmfabpnjacegaaGreatDoorGQ5
import Derived.Deep.AppendLies
namespace Go.Proofs.YtpmfabpnjacegaaGreatDoor
open Go.RowKit
set_option linter.unusedVariables false
set_option linter.unusedSimpArgs false
set_option linter.unnecessarySimpa false

/-- a slice of variables of the call's own -/
def OwnV (w : World) (base : Nat) (v : Value) (L : List IQ) : Prop := w.ownsRow base 86 3 v L.length (flatV L)
theorem OwnV.ts {w : World} {base : Nat} {v : Value} {L : List IQ} (h : OwnV w base v L) : OwnTs w base v (L.map tsV) := by
  unfold OwnTs
  rw [List.length_map]
  exact h
theorem OwnV.below {w w' : World} {base : Nat} {v : Value} {L : List IQ} (h : OwnV w base v L) (hb : Below w.heap.size w w') : OwnV w' base v L := row_stillV h hb
theorem OwnV.shape {w : World} {base : Nat} {v : Value} {L : List IQ} (h : OwnV w base v L) : ∃ a cap, v = .slice a L.length cap := by
  rcases h.2 with ⟨rfl, h0⟩ | ⟨g, cap, cur, rfl, _⟩
  · exact ⟨none, 0, by rw [h0]⟩
  · exact ⟨_, _, rfl⟩
def GivesV (w : World) (L : List IQ) (e : Ending) (w' : World) : Prop :=
  ∃ a cap, e = .returned (.slice a L.length cap) ∧ OwnV w' w.heap.size (.slice a L.length cap) L ∧ Below w.heap.size w w'
/-- the variables of one feature as far as they have come -/
def lvT (lev : List Int) (k j : Nat) : List IQ := ((lev.take j).drop 1).map fun t => ((k : Int), t)
theorem lvT_one (lev : List Int) (k : Nat) : lvT lev k 1 = [] := by
  unfold lvT
  cases lev <;> simp
theorem lvT_succ {lev : List Int} {k j : Nat} {x : Int} (hj : 1 ≤ j) (hx : lev[j]? = some x) : lvT lev k (j + 1) = lvT lev k j ++ [((k : Int), x)] := by
  unfold lvT
  obtain ⟨hlt, he⟩ := List.getElem?_eq_some_iff.1 hx
  rw [List.take_succ_eq_append_getElem hlt, he, List.drop_append_of_le_length (by rw [List.length_take]; omega), List.map_append]
  rfl
theorem lvT_all (lev : List Int) (k : Nat) : lvT lev k lev.length = (lev.drop 1).map fun t => ((k : Int), t) := by unfold lvT; rw [List.take_length]
theorem lvT_len (lev : List Int) (k j : Nat) : (lvT lev k j).length ≤ lev.length := by unfold lvT; simp; omega

set_option maxRecDepth 100000 in
set_option maxHeartbeats 4000000 in
theorem vars_spec (a : Option Addr) (c : Nat) (R : List (List TS)) (V : List IQ) (w : World) (hV : varsR R = V) (h : SmRu w a R c) :
    Calls Tryz.prog 29 #[.agg #[.slice a R.length c]] w (GivesV w V) := by
  obtain ⟨i0, hi, hz0, hz1, hz2⟩ := info_get info_ts
  have hRl := h.len
  obtain ⟨w2, hw2⟩ : ∃ w2, (w.alloc (.cells #[.slice a R.length c] 26)).alloc (.cells #[] 86) = w2 := ⟨_, rfl⟩
  have HB2 := Lib.hid (show Below w.heap.size w w2 by rw [← hw2]; exact ((Below.refl w.heap.size w).alloc (Nat.le_refl _) _).alloc (by simp) _)
  have HX2 := Lib.hid (show BlkV w2 w.heap.size 26 #[.slice a R.length c] by rw [← hw2]; exact (BlkV.new _ _ _).alloc _)
  have HOWN2 := Lib.hid (show OwnV w2 (w.heap.size + 1) (.slice (some ⟨w.heap.size + 1, 0, none⟩) 0 0) [] by
    refine ⟨rfl, .inr ⟨w.heap.size + 1, 0, #[], rfl, Nat.le_refl _, ?_, Nat.le_refl _, by unfold maxLen; decide, by simp, rfl⟩⟩
    rw [← hw2]
    have := heap_alloc_new (w.alloc (.cells #[.slice a R.length c] 26)) (.cells #[] 86)
    simpa using this)
  have HLT2 := Lib.hid (show w.heap.size + 1 < w2.heap.size by rw [← hw2]; simp)
  have HS0 := Lib.hid h
  have HV := Lib.hid hV
  clear h hV
  obtain ⟨vb, hvb⟩ : ∃ vb, vsB R = vb := ⟨_, rfl⟩
  have HVB := Lib.hid hvb
  clear hvb
  go_enter Tryz.func29, Tryz.ntmps29
  go_wp2
  go_loopw [3, 4] (fun v i wr => ∃ (k : Nat) (L : List IQ) (a3 : Option Addr) (c3 : Nat), k ≤ 6 ∧ (vb = true ∨ k = 0) ∧ L = varsT R k ∧ v = .slice a3 L.length c3 ∧ i = .int .i64 k ∧ OwnV wr (w.heap.size + 1) (.slice a3 L.length c3) L ∧ BlkV wr w.heap.size 26 #[.slice a R.length c] ∧ Below w.heap.size w wr ∧ w.heap.size + 1 ≤ wr.heap.size) (fun _ i _ => 6 - (intOf i).toNat)
  case atStart => exact ⟨0, [], _, _, by omega, .inr rfl, rfl, rfl, rfl, HOWN2.out, HX2.out, HB2.out, by have := HLT2.out; omega⟩
  case round =>
    obtain ⟨k, L, a3, c3, hk, hkv, hL, rfl, rfl, hown, hbx, hb, hsz⟩ := hrel
    have HL := Lib.hid hL
    unfold OwnV at hown
    have HOWN := Lib.hid hown
    have HBX := Lib.hid hbx
    have HB := Lib.hid hb
    have HSM := Lib.hid (HS0.out.below hb)
    have HSZ := Lib.hid hsz
    have q0 := hbx.one0
    obtain ⟨n, hn⟩ : ∃ n, L.length = n := ⟨_, rfl⟩
    have HN := Lib.hid hn
    rw [hn]
    rw [hn] at hown HOWN
    clear hL hown hbx hb hsz hn
    by_cases h6 : k < 6
    · cases vb
      · obtain rfl : k = 0 := by rcases hkv with h | h; cases h; exact h
        have HLV := Lib.hid (show L = V by rw [HL.out, ← HV.out]; unfold varsR; rw [HVB.out]; rfl)
        clear hkv
        go_wp2_with (go_at_call 27; ((with_reducible refine (vs_spec a c R _ _ HVB.out HSM.out).mono ?_); rintro e w3 ⟨rfl, hb3⟩; have HB3 := Lib.hid hb3; clear hb3))
        go_ret
        have e := HLV.out
        subst e
        have e := HN.out
        subst e
        exact ⟨_, _, rfl, row_mono (row_stillV HOWN.out HB3.out) (by omega), HB.out.trans (HB3.out.mono HB.out.size)⟩
      · have hf9 := flat_len9 HVB.out
        obtain ⟨lev, hlev⟩ : ∃ lev, levR R (k : Int) = lev := ⟨_, rfl⟩
        have HLEV := Lib.hid hlev
        have HLL := Lib.hid (show lev.length ≤ 10 by rw [← hlev]; have := levF_len R.flatten (k : Int); unfold levR; omega)
        have HLP := Lib.hid (show 1 ≤ lev.length by rw [← hlev]; exact levF_pos R.flatten (k : Int))
        have HF := Lib.hid (show R.flatten.length ≤ 1000 by omega)
        have HNL := Lib.hid (show n ≤ 9 by rw [← HN.out, HL.out]; exact varsT_len HVB.out k)
        clear hlev hf9 hkv
        go_wp2_with (first
          | (go_at_call 27; ((with_reducible refine (vs_spec a c R _ _ HVB.out HSM.out).mono ?_); rintro e w3 ⟨rfl, hb3⟩; have HB3 := Lib.hid hb3; have p0 := (HBX.out.below hb3).one0; have HS3 := Lib.hid (HSM.out.below hb3); clear hb3))
          | (go_at_call 61; ((with_reducible refine (lev_spec a c R (k : Int) lev _ HS3.out HF.out HLEV.out).mono ?_); rintro e w4 ⟨aL, cL, rfl, hoL, hb4⟩; refine Hid.out ?_)))
        have HBB := Lib.hid (HB3.out.trans (hb4.mono HB3.out.size))
        have HOL := Lib.hid hoL
        have HZ3 := Lib.hid HB3.out.size
        clear hb4 hoL q0 p0
        have HOWN4 := Lib.hid (show OwnV w4 (w.heap.size + 1) (.slice a3 L.length c3) L from by unfold OwnV; rw [HN.out]; exact row_stillV HOWN.out HBB.out)
        obtain ⟨m, hm⟩ : ∃ m, lev.length = m := ⟨_, rfl⟩
        have HM := Lib.hid hm
        have hm1 : 1 ≤ m := by rw [← hm]; exact HLP.out
        have hm10 : m ≤ 10 := by rw [← hm]; exact HLL.out
        rw [hm]
        clear hm
        have HDIS := Lib.hid (show ∀ k', (Value.slice a3 n c3).ownBlock = some k' → (Value.slice aL lev.length cL).ownBlock ≠ some k' from fun k' h1 h2 => by
          have h3 := (World.ownsRow.lt HOL.out k' h2).1
          have h4 := (World.ownsRow.lt HOWN.out k' h1).2
          have := HZ3.out
          omega)
        refine Lib.hid ?_
        obtain ⟨wo, rfl⟩ : ∃ wo, wo = wr := ⟨_, rfl⟩
        go_wp2
        go_loopw [3, 6] (fun v i wr => ∃ (j n : Nat) (a3 : Option Addr) (c3 : Nat), 1 ≤ j ∧ j ≤ m ∧ v = .slice a3 n c3 ∧ i = .int .i64 j ∧ (varsT R k ++ lvT lev k j).length = n ∧ wr.ownsRow (w.heap.size + 1) 86 3 (.slice a3 n c3) n (flatV (varsT R k ++ lvT lev k j)) ∧ BlkV wr w.heap.size 26 #[.slice a R.length c] ∧ Below w.heap.size w wr ∧ InI wr aL lev ∧ (∀ k', (Value.slice a3 n c3).ownBlock = some k' → (Value.slice aL m cL).ownBlock ≠ some k') ∧ w4.heap.size ≤ wr.heap.size) (fun _ i _ => m - (intOf i).toNat)
        case atStart =>
          refine ⟨1, n, a3, c3, Nat.le_refl _, hm1, rfl, rfl, ?_, ?_, HBX.out.below HBB.out, HB.out.trans (HBB.out.mono HB.out.size), HOL.out.inI, ?_, Nat.le_refl _⟩
          · rw [lvT_one, List.append_nil, ← HL.out, HN.out]
          · rw [lvT_one, List.append_nil, ← HL.out]
            have h := HOWN4.out
            unfold OwnV at h
            rw [HN.out] at h
            exact h
          · intro k' h1 h2
            exact HDIS.out k' h1 (by rw [HM.out]; exact h2)
        case round =>
          obtain ⟨j, n', a5, c5, hj1, hjm, rfl, rfl, hn', hrow, hbx, hb, hinL, hdis, hsz⟩ := hrel
          have HN5 := Lib.hid hn'
          have HROW := Lib.hid hrow
          have HBX5 := Lib.hid hbx
          have HB5 := Lib.hid hb
          have HIL := Lib.hid hinL
          have HD5 := Lib.hid hdis
          have HZ5 := Lib.hid hsz
          have hn20 : n' ≤ 20 := by
            have h1 := lvT_len lev k j
            have h2 := varsT_len HVB.out k
            rw [List.length_append] at hn'
            have := HM.out
            omega
          clear hn' hrow hbx hb hinL hdis hsz
          by_cases hlt : j < m
          · obtain ⟨x, hx⟩ : ∃ x, lev[j]? = some x := ⟨_, List.getElem?_eq_getElem (by rw [HM.out]; exact hlt)⟩
            obtain ⟨bL, oL, rfl, hbL, hcL⟩ := HIL.out (by rw [HM.out]; omega)
            have cj := hcL j x hx
            have HX := Lib.hid hx
            have hjmi : (j : Int) < (m : Int) := by omega
            have HNW := Lib.hid (BlkV.new wr 86 #[.int .i64 (k : Int), .int .i64 x, .bool false])
            have HA := Lib.hid ((Below.refl wr.heap.size wr).alloc (Nat.le_refl _) (.cells #[.int .i64 (k : Int), .int .i64 x, .bool false] 86))
            have HRW := Lib.hid (row_stillV HROW.out HA.out)
            have HLB := Lib.hid (fun g (hg : (Value.slice a5 n' c5).ownBlock = some g) => show w.heap.size + 1 ≤ g ∧ g < wr.heap.size from World.ownsRow.lt HROW.out g hg)
            have HBL := Lib.hid hbL
            clear hcL hx hbL
            go_wp2_with (at_builtin; refine wpList_append_lies _ rfl (.tmp 25) (.tmp 32) 44 rfl (w.heap.size + 1) 86 i0 _ 3 24 Tryz.underlying44 hi hz0 hz1 hz2 rfl (by decide) (.slice a5 n' c5) n' _ rfl HRW.out ⟨wr.heap.size, 0, none⟩ 1 1 [.int .i64 (k : Int), .int .i64 x, .bool false] rfl rfl (World.news_of_block (cs := #[.int .i64 (k : Int), .int .i64 x, .bool false]) (fr := (0, 0)) HNW.out) (by simp [Value.oneCell']) (by omega) (by unfold maxLen; omega) (by omega) (by have := HZ5.out; have := HBB.out.size; have := HSZ.out; have := HA.out.size; omega) _ rfl ?_; intro g cap w5 ho hg hat hgl; have HO6 := Lib.hid ho; have HG6 := Lib.hid hg; have HAT := Lib.hid hat; have HGL := Lib.hid hgl; clear ho hg hat hgl)
            go_roundw
            case rel =>
              have hx6 := HX.out
              have hsucc := lvT_succ (k := k) hj1 hx6
              have hw5 : wr.heap.size ≤ w5.heap.size := Nat.le_trans HA.out.size HG6.out.size
              refine ⟨j + 1, n' + 1, some ⟨g, 0, none⟩, cap, by omega, by omega, rfl, by go_num, ?_, ?_, ?_, ?_, ?_, ?_, ?_⟩
              · rw [hsucc, ← List.append_assoc, List.length_append, HN5.out]; rfl
              · rw [hsucc, ← List.append_assoc, flatV_snoc]
                exact HO6.out
              · exact (HG6.out.block w.heap.size (Nat.lt_of_lt_of_le HBX5.out.lt HA.out.size) (fun e => by have := (HLB.out _ e.symm).1; omega)).trans (HBX5.out.below HA.out)
              · exact (HB5.out.trans (HA.out.mono HB5.out.size)).grown HG6.out (Nat.le_trans HB5.out.size HA.out.size) (fun q hq => by have := (HLB.out q hq).1; omega)
              · exact HIL.out.keep hw5 (fun b off e hlt => (HG6.out.block b (Nat.lt_of_lt_of_le hlt HA.out.size) (fun e2 => by
                  injection e with e
                  injection e with e3 e4
                  subst e3
                  exact HD5.out _ e2.symm (by simp [Value.ownBlock]))).trans (HA.out.block b hlt))
              · intro k' h1 h2
                simp [Value.ownBlock] at h1 h2
                subst h1
                subst h2
                rcases HAT.out with h3 | h3
                · exact HD5.out _ h3 (by simp [Value.ownBlock])
                · have := HBL.out
                  have := HA.out.size
                  omega
              · have := HZ5.out; omega
            case measure => simp [intOf]; omega
          · obtain rfl : j = m := by omega
            have HEND := Lib.hid (show varsT R (k + 1) = varsT R k ++ lvT lev k j by rw [varsT_succ]; congr 1; rw [← HM.out, lvT_all]; unfold varF; rw [HLEV.out])
            go_wp2
            go_roundw
            case rel =>
              refine ⟨k + 1, varsT R (k + 1), a5, c5, by omega, by simp, rfl, ?_, by go_num, ?_, HBX5.out, HB5.out, ?_⟩
              · rw [HEND.out, HN5.out]
              · unfold OwnV
                rw [HEND.out, HN5.out]
                exact HROW.out
              · have := HZ5.out; have := HBB.out.size; have := HSZ.out; omega
            case measure => simp [intOf]; omega
    · obtain rfl : k = 6 := by omega
      obtain rfl : vb = true := by rcases hkv with h | h; exact h; cases h
      have HLV := Lib.hid (show L = V by rw [HL.out, ← HV.out]; unfold varsR; rw [HVB.out]; rfl)
      clear hkv
      go_wp2
      go_ret
      have e := HLV.out
      subst e
      have e := HN.out
      subst e
      exact ⟨_, _, rfl, row_mono HOWN.out (by omega), HB.out⟩

end Go.Proofs.YtpmfabpnjacegaaGreatDoor
