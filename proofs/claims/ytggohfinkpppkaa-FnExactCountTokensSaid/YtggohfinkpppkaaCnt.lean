/-
  What impl.CountTokens answers. By an AI agent.
-/
import Derived.Test.YtggohfinkpppkaaIMap
import Derived.Test.YtggohfinkpppkaaSsT
import Derived.Test.YtggohfinkpppkaaPut
import Derived.Test.YtggohfinkpppkaaTcT
namespace Go.Proofs.Ytggohfinkpppkaa
open Go.RowKit Go.Maps Go.Sort
set_option linter.unusedVariables false

set_option maxRecDepth 100000 in
set_option maxHeartbeats 2000000 in
theorem cnt_impl (a : Option Addr) (c : Nat) (ls : List (List Str)) (w : World) (h0 : SmSS w a ls) :
    Calls Try.prog 35 #[.slice a ls.length c] w (GivesT w (ctR ls)) := by
  obtain ⟨hin, hl, hfl, hx⟩ := h0
  have HIN := Lib.hid hin
  have HX := Lib.hid hx
  have HQ := Lib.hid (show ∀ k, sumL ls k ≤ 4000000 from fun k => by have := sumL_le ls k; omega)
  have HLL := Lib.hid (show ∀ l ∈ ls, l.length ≤ 4000000 from fun l hl => by
    obtain ⟨k, hk⟩ := List.getElem?_of_mem hl
    have h1 := sumL_succ hk
    have h2 := sumL_le ls (k + 1)
    omega)
  clear hin hx hfl
  have hmm := @run_makeMap Try.prog
  obtain ⟨i0, hi, hz0, hz1, hz2⟩ := info_parts info_tc
  go_enter Try.func35, Try.ntmps35
  go_wp2
  go_loopw [13] (fun i wr => ∃ k : Nat, k ≤ ls.length ∧ i = .int .i64 k ∧ IMap wr w.heap.size (sumL ls k) (ls.take k).flatten (fun x => (hasN (ls.take k) x : Int)) ∧ Below w.heap.size w wr ∧ w.heap.size < wr.heap.size) (fun i _ => ls.length - (intOf i).toNat)
  case atStart => exact ⟨0, Nat.zero_le _, rfl, IMap.made w, (Below.refl _ _).alloc (Nat.le_refl _) _, by simp⟩
  case round =>
    obtain ⟨k, hk, rfl, hmap, hb, hws⟩ := hrel
    have HMAP := Lib.hid hmap
    have HB := Lib.hid hb
    have HWS := Lib.hid hws
    clear hmap hb hws
    by_cases hlt : k < ls.length
    · obtain ⟨b, off, rfl, hbw, hc⟩ := HIN.out (by omega)
      have hj := List.getElem?_eq_getElem hlt
      obtain ⟨a', c', hcl, _, _, hin'⟩ := hc k _ hj
      have hcell : wr.cell? ⟨b, off + k, none⟩ = some (.slice a' ls[k].length c') := by rw [HB.out.cell (p := ⟨b, off + k, none⟩) hbw]; exact hcl
      have hm := List.mem_of_getElem? hj
      have HC := Lib.hid (set_of a' c' ls[k] wr (by have := HLL.out _ hm; omega) (fun x hx => by have := HX.out _ hm x hx; omega) (hin'.below HB.out))
      have HJ := Lib.hid hj
      have HLK := Lib.hid (HLL.out _ hm)
      have HXK := Lib.hid (HX.out _ hm)
      generalize ls[k] = l at hcell HC HJ HLK HXK
      clear hc hcl hj hin' hm hbw
      go_wp2_with (first
        | (go_at_call 85; (refine HC.out.mono ?_); rintro e w1 ⟨bS, rfl, hs1, hlo, hb1⟩; obtain ⟨D, hown, hhas, hat0⟩ := hs1; clear hat0; have HHAS := Lib.hid hhas; have HB1 := Lib.hid hb1; have HSZ := Lib.hid (size_own hown); have HSLT := Lib.hid hown.lt; have HMAP1 := Lib.hid (HMAP.out.below hb1); have HLO := Lib.hid hlo; clear hhas hb1 hlo)
        | (at_range; refine wpList_range_own _ rfl _ 102 rfl 9 4 keyS Try.underlying102 _ bS l.length _ rfl hown ?_; intro w0 hrg0 hg0 hs0))
      go_frame
      go_loopw [6] (fun _ wq => ∃ (left : Lit → Bool) (cnt : Nat) (ss : List (List UInt8)), wq.ranges Try.prog 9 (plainElem Try.prog 4) bS w1.heap.size l.length D left cnt ∧ ss.length + cnt ≤ Maps.size D ∧ Collected D left ss ∧
          IMap wq w.heap.size (sumL ls k + ss.length) ((ls.take k).flatten ++ ss) (fun x => (hasN (ls.take k) x : Int) + if x ∈ ss then 1 else 0) ∧ Below w.heap.size w wq)
        (fun _ wq => wq.rangeLeft bS w1.heap.size)
      case atStart =>
        have hmap1 := HMAP1.out.kept hg0 (by simp)
        exact ⟨_, _, [], hrg0, by simp, Collected.start D, by simpa using hmap1, (HB.out.trans (HB1.out.mono HB.out.size)).grown hg0 (Nat.le_trans HB.out.size HB1.out.size) (fun j hj => by cases hj)⟩
      case round =>
        obtain ⟨left, cnt, ss, hrg, hcs, hC, hmp, hbq⟩ := hrel
        have HC2 := Lib.hid hC
        have HMP := Lib.hid hmp
        have HBQ := Lib.hid hbq
        clear hC hmp hbq
        go_wp2_with (first
          | (at_next; refine wpList_next_ranges _ rfl _ rfl 9 keyS (plainElem Try.prog 4) encStr (fun v : Value => v) (fun key kl hk => by obtain ⟨x, hx, _⟩ := Maps.keyOf_str Try.underlying9 hk; exact ⟨x, hx⟩) (fun v y hv => ⟨v, rfl⟩) bS w1.heap.size l.length _ _ _ rfl hrg ?_ ?_)
          | go_in)
        · -- nothing is left: every token of the set has been counted
          intro hc0 hl0
          go_wp2
          go_roundw
          case rel =>
            have hmem : ∀ x, x ∈ ss ↔ x ∈ l := fun x => by
              rw [HC2.out.2 x, hl0, HHAS.out x]
              simp
            have hss : ss.length ≤ l.length := by have := HSZ.out; omega
            have hw1 := HBQ.out.size
            refine ⟨k + 1, by omega, by go_num, ?_, HBQ.out, Nat.lt_of_lt_of_le HWS.out (Nat.le_trans HB1.out.size (Nat.le_of_lt hrg.lt))⟩
            refine (HMP.out.mono (by rw [sumL_succ HJ.out]; omega)).congr (fun x => ?_) (fun x => ?_)
            · rw [ss_take HJ.out, List.flatten_append, List.mem_append, List.mem_append]
              simp [hmem x]
            · rw [ss_take HJ.out, hasN_snoc]
              by_cases hxl : x ∈ l
              · rw [if_pos ((hmem x).2 hxl), if_pos hxl]; rfl
              · rw [if_neg (fun h => hxl ((hmem x).1 h)), if_neg hxl]; rfl
          case measure => simp [intOf]; omega
        · -- a token has come: it is counted once more
          intro x cv kl yd yp w2 cnt2 hkey hlk hv hat hrg2 hlt2 hg2 hs2 hen
          obtain ⟨x', ex, rfl, hxs⟩ := Maps.keyOf_str Try.underlying9 hkey
          obtain rfl : x = x' := encStr_inj ex
          have hC2 := HC2.out.step hlk hat
          have hnd : x ∉ ss := fun h => by
            have h1 := hC2.1
            rw [List.nodup_append] at h1
            exact h1.2.2 x h x (by simp) rfl
          have hws := HWS.out
          have hwr := HB1.out.size
          have hmp2 := HMP.out.kept hg2 (fun e => by injection e; omega)
          obtain ⟨m, hm⟩ : ∃ m, hasN (ls.take k) x = m := ⟨_, rfl⟩
          have hmb : m ≤ 4000000 := by
            have := hasN_le (ls.take k) x
            have := List.length_take_le k ls
            omega
          have hsum := HQ.out k
          have hssb : ss.length ≤ 4000000 := by have := HSZ.out; have := HLK.out; omega
          have HMP2 := Lib.hid hmp2
          have HM := Lib.hid hm
          have HND := Lib.hid hnd
          have HC3 := Lib.hid hC2
          have HG2 := Lib.hid hg2
          clear hmp2 hC2 hm hnd hat hs2
          go_wp2_with (first
            | (at_lookup; refine wpList_imap_lookup _ 101 Try.underlying101 rfl _ _ rfl w.heap.size _ _ _ HMP2.out rfl ⟨x.toArray⟩ x rfl (by simp) (by simpa [ByteArray.size] using hxs) (m : Int) (by rw [HM.out, if_neg HND.out]; simp) ?_)
            | (at_mapUpdate; refine wpList_imap_store _ 101 Try.underlying101 rfl _ _ _ rfl w.heap.size _ _ _ HMP2.out rfl (by unfold maxLen; omega) ⟨x.toArray⟩ x rfl ((m : Int) + 1) rfl (WalkArith.wf_i64 (by omega)) (by simp) (by simpa [ByteArray.size] using hxs) ?_; intro w3 hmap3 hg3)
            | go_in)
          go_roundw
          case rel =>
            have hlo := HLO.out
            refine ⟨_, cnt2, hrg2.kept hg3 (fun e => by injection e; omega) (fun e => by injection e; omega), ss ++ [x], by simp; omega, HC3.out, ?_, ?_⟩
            · refine (hmap3.mono (by simp; omega)).congr (fun y => by simp) (fun y => ?_)
              by_cases e : y = x
              · subst e
                rw [if_pos rfl, if_pos (by simp), HM.out]
              · rw [if_neg e]
                by_cases h : y ∈ ss
                · rw [if_pos h, if_pos (by simp [h])]
                · rw [if_neg h, if_neg (by simp [h, e])]
            · exact (HBQ.out.grown HG2.out HBQ.out.size (fun j hj => by cases hj; omega)).grown hg3 (Nat.le_trans HBQ.out.size HG2.out.size) (fun j hj => by cases hj; exact Nat.le_refl _)
          case measure => rw [(hrg2.kept hg3 (fun e => by injection e; have := HLO.out; omega) (fun e => by injection e; omega)).left_eq, hrg.left_eq]; exact hlt2
    · obtain rfl : k = ls.length := by omega
      obtain ⟨wa, rfl⟩ : ∃ wa, wa = wr := ⟨_, rfl⟩
      obtain ⟨i1, hi1, hy0, hy1, hy2⟩ := info_parts info_tc
      have HMAP2 := Lib.hid (show IMap wa w.heap.size (sumL ls ls.length) ls.flatten (fun x => (hasN ls x : Int)) by have h := HMAP.out; rw [List.take_length] at h; exact h)
      obtain ⟨D, hown, -, -⟩ := HMAP2.out
      have hsz := size_own hown
      have hq := HQ.out ls.length
      obtain ⟨keys, hkeys⟩ : ∃ keys, setL ls.flatten = keys := ⟨_, rfl⟩
      have HK := Lib.hid hkeys
      have HKL := Lib.hid (show keys.length ≤ 4000000 by
        have h1 := setL_length ls.flatten
        have h2 := sumL_all ls
        rw [hkeys] at h1
        have h3 := HQ.out ls.length
        omega)
      have HKX := Lib.hid (show ∀ x ∈ keys, x.length ≤ 1048576 from fun x hx => by
        rw [← hkeys, setL_mem, List.mem_flatten] at hx
        obtain ⟨l, h1, h2⟩ := hx
        exact HX.out l h1 x h2)
      clear hkeys
      have HS := Lib.hid (fun (W : World) (hW : IMap W w.heap.size (sumL ls ls.length) ls.flatten (fun x => (hasN ls x : Int))) => (sorted_keys w.heap.size (sumL ls ls.length) ls.flatten (fun x => (hasN ls x : Int)) W (by omega) hW).mono (fun e w' h => by rw [HK.out] at h; exact h))
      go_wp2_with (first
        | (at_len; refine wpList_len_own _ rfl _ 101 rfl 9 3 Try.underlying101 _ w.heap.size _ _ rfl hown ?_)
        | (at_make; refine wpList_make_own _ rfl _ _ 24 rfl wa.heap.size 66 i1 _ 2 Try.underlying24 hi1 hy0 hy1 _ _ _ (Maps.size D) rfl rfl rfl (by rw [hy2]; omega) (by unfold maxLen; omega) (Nat.le_refl _) ?_; intro w1 hrow1 hg1; have HROW1 := Lib.hid hrow1; have HG1 := Lib.hid hg1; have HMAP3 := Lib.hid (HMAP2.out.kept hg1 (by simp)); clear hrow1 hg1 hown; refine Hid.out ?_)
        | go_in)
      refine Lib.hid ?_
      go_wp2_with (first
        | (go_at_call 86; (refine (HS.out _ HMAP3.out).mono ?_); rintro e w2 ⟨aK, cK, rfl, ho2, hb2⟩; have HO2 := Lib.hid ho2; have HB2 := Lib.hid hb2; clear ho2 hb2)
        | go_in)
      go_loopw [7, 35] (fun v i wq => ∃ k : Nat, k ≤ keys.length ∧ i = .int .i64 k ∧ wq.ownsRow wa.heap.size 66 2 v k (flatT ((keys.take k).map fun t => (t, (hasN ls t : Int)))) ∧ v ≠ .slice none 0 0 ∧
          IMap wq w.heap.size (sumL ls ls.length) ls.flatten (fun x => (hasN ls x : Int)) ∧ InS wq aK keys ∧ (∀ bK off, aK = some ⟨bK, off, none⟩ → some bK ≠ v.ownBlock ∧ bK < w2.heap.size) ∧ Below w.heap.size w wq ∧ w2.heap.size ≤ wq.heap.size) (fun _ i _ => keys.length - (intOf i).toNat)
      case atStart =>
        have hlt1 := (World.ownsRow.lt HROW1.out wa.heap.size rfl).2
        refine ⟨0, Nat.zero_le _, rfl, ?_, by simp, HMAP3.out.below HB2.out, HO2.out.inS, fun bK off e => ?_, (HB.out.grown HG1.out HB.out.size (fun j hj => by cases hj)).trans (HB2.out.mono (Nat.le_trans HB.out.size HG1.out.size)), Nat.le_refl _⟩
        · exact World.ownsRow.kept HROW1.out (row := none) (grown_below_none HB2.out) (by simp [Value.ownBlock])
        · have h := World.ownsRow.lt HO2.out bK (by rw [e]; rfl)
          exact ⟨fun e2 => by have e3 : bK = wa.heap.size := (by simpa [Value.ownBlock] using e2); omega, h.2⟩
      case round =>
        obtain ⟨k, hk, rfl, hrow, hnn, hmap, hinK, hblk, hbq, hsq⟩ := hrel
        by_cases hlt : k < keys.length
        · obtain ⟨bK, offK, rfl, hbK, hcK⟩ := hinK (by omega)
          obtain ⟨x, s, hx1, hx2, hx3, hx4⟩ := str_at hlt
          have hcell : wr.cell? ⟨bK, offK + k, none⟩ = some (.string s) := by rw [← hx3]; exact hcK k x hx1
          obtain ⟨hne, hbK2⟩ := hblk bK offK rfl
          obtain ⟨m, hm⟩ : ∃ m, hasN ls x = m := ⟨_, rfl⟩
          have HM := Lib.hid hm
          have HSL := Lib.hid (show s.size ≤ maxLen by rw [hx4]; have := HKX.out x (List.mem_of_getElem? hx1); unfold maxLen; omega)
          have HX1 := Lib.hid hx1
          have HX2 := Lib.hid hx2
          have HX3 := Lib.hid hx3
          have HROW := Lib.hid hrow
          have HMP := Lib.hid hmap
          have HINK := Lib.hid hinK
          have HNE := Lib.hid hne
          have HBK2 := Lib.hid hbK2
          have HNN := Lib.hid hnn
          have HBQ := Lib.hid hbq
          have HSQ := Lib.hid hsq
          have hkl := HKL.out
          have hbase : wa.heap.size ≤ wr.heap.size := Nat.le_trans HG1.out.size (Nat.le_trans HB2.out.size hsq)
          clear hx1 hx2 hx3 hx4 hrow hmap hinK hne hnn hblk hbq hcK hm hbK hbK2 hsq
          go_wp2_with (first
            | (at_lookup; refine wpList_imap_lookup _ 101 Try.underlying101 rfl _ _ rfl w.heap.size _ _ _ HMP.out rfl s x rfl HX2.out HSL.out (m : Int) (by rw [HM.out]) ?_)
            | (at_builtin; refine wpList_append_own_at _ rfl _ _ 24 rfl wa.heap.size 66 i1 _ 2 24 Try.underlying24 hi1 hy0 hy1 hy2 rfl (by decide) _ k _ rfl (World.ownsRow.alloc HROW.out _) ⟨wr.heap.size, 0, none⟩ 1 1 [.string s, .int .i64 (m : Int)] rfl rfl (two_new wr _ _ _) (by simp [Value.oneCell']) (by unfold maxLen; omega) (by omega) (by simp; omega) ?_; intro v' w3 hown' hg3 hnil3 hat3; have HN3 := Lib.hid hnil3; have HA3 := Lib.hid hat3; have HO3 := Lib.hid hown'; have HG3 := Lib.hid hg3; clear hnil3 hat3 hown' hg3)
            | go_in)
          go_roundw
          case rel =>
            have hbs := (World.grownBy_alloc wr (.cells #[.string s, .int .i64 (m : Int)] 66) none).size
            have hg4 := HG3.out.size
            have hsq := HSQ.out
            have hlt4 : w.heap.size < wa.heap.size := HWS.out
            refine ⟨k + 1, by omega, by go_num, ?_, fun e => by have := (HN3.out.1 e).2; omega, ?_, ?_, ?_, ?_, by omega⟩
            · rw [take_snoc' HX1.out, List.map_append, flat_append]
              have e : flatT ([x].map fun t => (t, (hasN ls t : Int))) = [.string s, .int .i64 (m : Int)] := by
                show [encStr x, .int .i64 (hasN ls x : Int)] = _
                rw [HX3.out, HM.out]
              rw [e]
              exact HO3.out
            · exact (HMP.out.alloc _).kept HG3.out (row_ne_low HROW.out hlt4)
            · exact InS.grown (InS.alloc HINK.out _) HG3.out fun b off e => by injection e with e1; injection e1 with e2 e3; subst e2; exact HNE.out
            · intro b off e
              injection e with e1
              injection e1 with e2 e3
              subst e2
              refine ⟨fun e4 => ?_, HBK2.out⟩
              rcases HA3.out with h | h
              · rw [h] at e4; exact HNE.out e4
              · rw [h] at e4
                injection e4 with e5
                have := HBK2.out
                omega
            · exact (HBQ.out.alloc HBQ.out.size _).grown HG3.out (by have := HBQ.out.size; omega) fun j hj => by have := (HROW.out.lt j hj).1; omega
          case measure => simp [intOf]; omega
        · obtain rfl : k = keys.length := by omega
          have HROW := Lib.hid hrow
          clear hrow hmap hinK hblk
          go_wp2
          go_ret
          have h := HROW.out
          rw [List.take_length] at h
          have e : keys.map (fun t => (t, (hasN ls t : Int))) = ctR ls := by unfold ctR; rw [HK.out]
          rw [e] at h
          have e2 : keys.length = (ctR ls).length := by rw [← e, List.length_map]
          rw [e2] at h
          exact GivesT.mk (OwnT.mono h HB.out.size) hbq

end Go.Proofs.Ytggohfinkpppkaa
