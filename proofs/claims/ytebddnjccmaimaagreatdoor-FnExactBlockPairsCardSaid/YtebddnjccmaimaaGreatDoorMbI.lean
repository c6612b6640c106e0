/-
  What impl.membersByKey answers. By an AI agent.
-/
import Derived.Test.YtebddnjccmaimaaGreatDoorBkG
import Derived.Test.YtebddnjccmaimaaGreatDoorMbk
namespace Go.Proofs.YtebddnjccmaimaaGreatDoor
open Go.RowKit Go.Maps Go.Sort
set_option linter.unusedVariables false

theorem zeroSl (w : World) : (zeroValue 40).run Tryz.prog w = .ok (.slice none 0 0) w := by kernel_rfl
/-- the list that is taken -/
def lstR (r : Bool) (S : List RC) : List RC := if r = true then S else []
theorem lst_len (r : Bool) (S : List RC) : (lstR r S).length = pickN r S.length := by cases r <;> rfl
theorem lst_sm {w : World} {a : Option Addr} {S : List RC} {c : Nat} (r : Bool) (h : SmRc w a S c) : SmRc w (pickA r a) (lstR r S) (pickN r c) := by
  cases r
  · exact ⟨fun h0 => absurd h0 (Nat.lt_irrefl 0), fun _ => rfl, Nat.le_refl _, Nat.zero_le _, fun x hx => by cases hx⟩
  · exact h
theorem lst_kb (S : List RC) : kbR S = (lstR (goodB S) S).map bkR := by
  cases h : goodB S
  · rw [kb_no h]; rfl
  · rw [kb_yes h]; rfl
theorem lst_12 {S : List RC} {r : Bool} (h : goodB S = r) : (lstR r S).length ≤ 12 := by
  cases r
  · exact Nat.zero_le _
  · exact good_len h
/-- the members when j keys of record k are done -/
def memJ (T : List (List Str)) (K : List Str) (k j : Nat) (x : Str) : List Int := memN T x ++ if x ∈ K.take j then [(k : Int)] else []
theorem memJ_zero (T : List (List Str)) (K : List Str) (k : Nat) (x : Str) : memJ T K k 0 x = memN T x := by unfold memJ; simp
theorem memJ_all {T : List (List Str)} {K : List Str} {k : Nat} (h : T.length = k) (x : Str) : memJ T K k K.length x = memN (T ++ [K]) x := by
  unfold memJ
  rw [List.take_length, memN_snoc, h]
theorem memJ_here {T : List (List Str)} {K : List Str} {k j : Nat} {y : Str} (ha : Asc K) (h : K[j]? = some y) : memJ T K k j y = memN T y := by
  unfold memJ
  rw [if_neg, List.append_nil]
  intro hy
  obtain ⟨i, hi⟩ := List.getElem?_of_mem hy
  have hil := (List.getElem?_eq_some_iff.1 hi).1
  rw [List.length_take] at hil
  rw [List.getElem?_take_of_lt (by omega)] at hi
  obtain ⟨l1, e1⟩ := List.getElem?_eq_some_iff.1 hi
  obtain ⟨l2, e2⟩ := List.getElem?_eq_some_iff.1 h
  have := List.pairwise_iff_getElem.1 ha i j l1 l2 (by omega)
  rw [e1, e2] at this
  exact str_ne_of this rfl
theorem memJ_succ {T : List (List Str)} {K : List Str} {k j : Nat} {y : Str} (ha : Asc K) (h : K[j]? = some y) (x : Str) : memJ T K k (j + 1) x = if x = y then memJ T K k j y ++ [(k : Int)] else memJ T K k j x := by
  by_cases e : x = y
  · subst e
    rw [if_pos rfl, memJ_here ha h]
    unfold memJ
    rw [take_snoc' h, if_pos (by simp)]
  · rw [if_neg e]
    unfold memJ
    rw [take_snoc' h]
    congr 1
    simp [e]

set_option maxRecDepth 100000 in
set_option maxHeartbeats 4000000 in
theorem mbk_impl (a : Option Addr) (c : Nat) (S : List RC) (K : List (List Str)) (w : World) (hK : kbR S = K) (h : SmRc w a S c) (hT : SpT w) (hA : TabAt w) :
    Calls Tryz.prog 45 #[.slice a S.length c] w fun e w' => ∃ bM n g, e = .returned (.map (some bM)) ∧ MemM w' w.heap.size bM n (memN K) g ∧ n ≤ 2000 ∧ Below w.heap.size w w' := by
  obtain ⟨r, hr⟩ : ∃ r, goodB S = r := ⟨_, rfl⟩
  obtain ⟨L, hL⟩ : ∃ L, lstR r S = L := ⟨_, rfl⟩
  have hl12 : L.length ≤ 12 := by rw [← hL]; exact lst_12 hr
  have HSM := Lib.hid (show SmRc w (pickA r a) L (pickN r c) by rw [← hL]; exact lst_sm r h)
  have HLN := Lib.hid (show pickN r S.length = L.length by rw [← hL, lst_len])
  have HKL := Lib.hid (show K = L.map bkR by rw [← hK, lst_kb, hr, hL])
  obtain ⟨w1, hw1⟩ : ∃ w1, w1 = w.alloc (.map #[] 0) := ⟨_, rfl⟩
  have HW1 := Lib.hid hw1
  have HB1 := Lib.hid (show Below w.heap.size w w1 by rw [hw1]; exact (Below.refl _ _).alloc (Nat.le_refl _) _)
  have HM1 := Lib.hid (show MemM w1 w.heap.size w.heap.size 0 (fun _ => []) (fun _ => .slice none 0 0) by rw [hw1]; exact MemM.made w _ _ rfl (Nat.le_refl _))
  have HVL := Lib.hid (vl_impl a c S r w1 hr (h.below HB1.out))
  have HT0 := Lib.hid hT
  have HA0 := Lib.hid hA
  have hmm := @run_makeMap Tryz.prog
  clear hr hL hK h hw1 hT hA
  obtain ⟨La, hLa⟩ : ∃ x, pickA r a = x := ⟨_, rfl⟩
  obtain ⟨Lc, hLc⟩ : ∃ x, pickN r c = x := ⟨_, rfl⟩
  rw [hLa, hLc] at HSM
  rw [hLa, hLc, HLN.out] at HVL
  clear hLa hLc HLN
  go_enter Tryz.func45, Tryz.ntmps45
  go_wp2_with (go_at_call 82; rw [← HW1.out]; ((with_reducible refine HVL.out.mono ?_); rintro e w2 ⟨rfl, hb⟩; refine Hid.out ?_))
  have HB2 := Lib.hid (HB1.out.trans (hb.mono HB1.out.size))
  have HM2 := Lib.hid (HM1.out.below hb)
  clear hb
  refine Lib.hid ?_
  go_wp2
  go_loopw [12] (fun i wr => ∃ (k n : Nat) (g : Str → Value), k ≤ L.length ∧ i = .int .i64 k ∧ n ≤ 163 * k ∧ MemM wr w.heap.size w.heap.size n (memN ((L.take k).map bkR)) g ∧ Below w.heap.size w wr) (fun i _ => L.length - (intOf i).toNat)
  case atStart => exact ⟨0, 0, _, Nat.zero_le _, rfl, Nat.zero_le _, HM2.out, HB2.out⟩
  case round =>
    obtain ⟨k, n, g, hk, rfl, hn, hm, hb⟩ := hrel
    have HM := Lib.hid hm
    have HB := Lib.hid hb
    have HN := Lib.hid hn
    clear hm hb hn
    by_cases hlt : k < L.length
    · obtain ⟨b, off, s, kk, v, l, a', c', rfl, hbl, hx, q0, q1, q2, q3, hsm⟩ := (HSM.out.below HB.out).at_ hlt
      have HX := Lib.hid hx
      obtain ⟨w3, hw3⟩ : ∃ w3, w3 = wr.alloc (.cells #[.int .i64 s, .int .i64 kk, .int .i64 v, .slice a' l.length c'] 37) := ⟨_, rfl⟩
      have HW3 := Lib.hid hw3
      have HB3 := Lib.hid (show Below wr.heap.size wr w3 by rw [hw3]; exact (Below.refl _ _).alloc (Nat.le_refl _) _)
      obtain ⟨Q, hQ⟩ : ∃ x, bkR ((s, kk, v), l) = x := ⟨_, rfl⟩
      have HQ := Lib.hid hQ
      have hql : Q.length ≤ 163 := by rw [← hQ]; exact bk_len _
      have HQX := Lib.hid (show ∀ x ∈ Q, x.length ≤ 100 by rw [← hQ]; exact fun x hx => bk_mem hx)
      have HQA := Lib.hid (show Asc Q by rw [← hQ]; exact bk_asc _)
      have HBK := Lib.hid (bk_impl s kk v a' c' l Q w3 hQ (hsm.below HB3.out) (HT0.out.below (HB.out.trans (HB3.out.mono HB.out.size))) (HA0.out.on (HB.out.trans (HB3.out.mono HB.out.size))))
      have HTL := Lib.hid (show ((L.take k).map bkR).length = k by rw [List.length_map, List.length_take]; omega)
      clear hx hsm hQ hw3
      go_wp2_with (go_at_call 21; rw [← HW3.out]; ((with_reducible refine HBK.out.mono ?_); rintro e w4 ⟨aq, cq, rfl, ho, hb⟩; refine Hid.out ?_))
      have HB4 := Lib.hid (HB3.out.trans (hb.mono HB3.out.size))
      have HBB4 := Lib.hid (HB.out.trans (HB4.out.mono HB.out.size))
      have HM4 := Lib.hid (HM.out.below HB4.out)
      have HO4 := Lib.hid (OwnH.of ho)
      have HG4 := Lib.hid (show ∀ x j, (g x).ownBlock = some j → j < w3.heap.size ∨ w4.heap.size ≤ j from fun x j hj => .inl (by have := (HM.out.rowlt x j hj).2; have := HB3.out.size; omega))
      have HMB := Lib.hid (show w.heap.size < w3.heap.size by have := HM.out.lt; have := HB3.out.size; omega)
      clear ho hb
      refine Lib.hid ?_
      go_wp2
      go_loopw [20] (fun i wr => ∃ (j n : Nat) (g : Str → Value), j ≤ Q.length ∧ i = .int .i64 j ∧ n ≤ 163 * k + j ∧ MemM wr w.heap.size w.heap.size n (memJ ((L.take k).map bkR) Q k j) g ∧ (∀ x j, (g x).ownBlock = some j → j < w3.heap.size ∨ w4.heap.size ≤ j) ∧ OwnH wr w3.heap.size w4.heap.size (.slice aq Q.length cq) Q ∧ Below w.heap.size w wr ∧ w4.heap.size ≤ wr.heap.size) (fun i _ => Q.length - (intOf i).toNat)
      case atStart => exact ⟨0, n, g, Nat.zero_le _, rfl, HN.out, HM4.out.congr fun x => (memJ_zero _ _ _ x).symm, HG4.out, HO4.out, HBB4.out, Nat.le_refl _⟩
      case round =>
        obtain ⟨j, n, g, hj, rfl, hn, hm, hg, ho, hb, hsz⟩ := hrel
        have HMj := Lib.hid hm
        have HGj := Lib.hid hg
        have HOj := Lib.hid ho
        have HBj := Lib.hid hb
        have HNj := Lib.hid hn
        have HSj := Lib.hid hsz
        clear hm hg ho hb hn
        by_cases hlt2 : j < Q.length
        · obtain ⟨bq, oq, rfl, hbq, hcq⟩ := HOj.out.inS (by omega)
          obtain ⟨y, u, hy1, hy2, hy3, hy4⟩ := str_at hlt2
          have hcell : wr.cell? ⟨bq, oq + j, none⟩ = some (.string u) := by rw [← hy3]; exact hcq j y hy1
          have HUZ := Lib.hid (show u.size ≤ maxLen by rw [hy4]; have := HQX.out y (List.mem_of_getElem? hy1); unfold maxLen; omega)
          have HY1 := Lib.hid hy1
          have HY2 := Lib.hid hy2
          obtain ⟨M, hM⟩ : ∃ M, memJ ((L.take k).map bkR) Q k j y = M := ⟨_, rfl⟩
          have hMl : M.length ≤ 12 := by
            rw [← hM, memJ_here HQA.out hy1]
            have h1 := memN_len ((L.take k).map bkR) y
            have h2 := HTL.out
            omega
          have hrow := HMj.out.row y
          have hno := HMj.out.no y
          rw [hM] at hrow hno
          obtain ⟨av, cv, hgy⟩ := hrow.shape
          have HGY := Lib.hid hgy
          have HROW := Lib.hid (show OwnI wr w.heap.size (.slice av M.length cv) M by rw [← hgy]; exact hrow)
          have HGET := Lib.hid (show ((fun x => if memJ ((L.take k).map bkR) Q k j x = [] then none else some (g x)) y : Option Value).getD (.slice none 0 0) = .slice av M.length cv by
            show (if memJ ((L.take k).map bkR) Q k j y = [] then none else some (g y) : Option Value).getD _ = _
            rw [hM, mem_get hno, hgy])
          have HMM := Lib.hid hM
          have hwl : w.heap.size ≤ wr.heap.size := HBj.out.size
          have HVN := Lib.hid (show ∀ j', (Value.slice av M.length cv).ownBlock = some j' → j' ≠ w.heap.size ∧ w.heap.size ≤ j' ∧ (j' < w3.heap.size ∨ w4.heap.size ≤ j') ∧ j' < wr.heap.size from fun j' hj' => by
            rw [← hgy] at hj'
            exact ⟨fun e => HMj.out.ne y (by rw [← e]; exact hj'), (HMj.out.rowlt y j' hj').1, HGj.out y j' hj', (HMj.out.rowlt y j' hj').2⟩)
          clear hcq hy1 hy2 hy3 hy4 hbq hM hrow hno hgy
          go_wp2_with (first
            | (at_lookup; refine wpList_smap_lookup _ 66 40 Tryz.underlying66 (zeroSl _) rfl _ _ rfl w.heap.size n _ HMj.out.out rfl u y rfl HY2.out HUZ.out (.slice av M.length cv) HGET.out ?_)
            | (at_builtin; refine append_i rfl _ _ rfl w.heap.size _ _ (k : Int) HROW.out rfl rfl (by omega) hwl ?_; intro v' w5 ho5 hg5 hv5; refine Hid.out ?_))
          obtain ⟨M5, hM5⟩ : ∃ M5, M ++ [(k : Int)] = M5 := ⟨_, rfl⟩
          rw [hM5] at ho5
          have HM5 := Lib.hid hM5
          obtain ⟨a5, c5, rfl⟩ := ho5.shape
          have HO5 := Lib.hid ho5
          have HG5 := Lib.hid hg5
          have HV5 := Lib.hid hv5
          have HS5 := Lib.hid (HMj.out.out.kept hg5 (fun e => (HVN.out _ e.symm).1 rfl))
          have hnm : n < maxLen := by have := HNj.out; unfold maxLen; omega
          clear hM5 ho5 hg5 hv5
          refine Lib.hid ?_
          go_wp2_with (at_mapUpdate; refine wpList_smap_store _ 66 40 Tryz.underlying66 rfl _ _ _ rfl w.heap.size n _ HS5.out rfl hnm u y rfl (.slice a5 M5.length c5) rfl HY2.out HUZ.out ?_; intro w6 hs6 hg6; refine Hid.out ?_)
          have HM6 := Lib.hid (MemM.put (y := y) (i := (k : Int)) (v' := .slice a5 M5.length c5) HMj.out (by rw [HGY.out]; exact HG5.out) (by rw [HMM.out, HM5.out]; exact HO5.out) (by
            rw [HGY.out]
            rcases HV5.out with h1 | h1
            · exact .inl h1
            · exact .inr ⟨_, h1, by omega⟩) hs6 hg6)
          have HG6 := Lib.hid (show ∀ x j', ((if x = y then .slice a5 M5.length c5 else g x : Value)).ownBlock = some j' → j' < w3.heap.size ∨ w4.heap.size ≤ j' from fun x j' hj' => by
            by_cases e : x = y
            · rw [if_pos e] at hj'
              rcases HV5.out with h1 | h1
              · rw [h1] at hj'; exact (HVN.out j' hj').2.2.1
              · rw [h1] at hj'
                injection hj' with hj'
                have := HSj.out
                omega
            · rw [if_neg e] at hj'
              exact HGj.out x j' hj')
          have HO6 := Lib.hid (show OwnH w6 w3.heap.size w4.heap.size (.slice (some ⟨bq, oq, none⟩) Q.length cq) Q from
            ⟨row_keptO (row_keptO HOj.out.1 HG5.out (fun j' hj' e => by have h1 := (HVN.out j' hj').2.2.1; have h2 := HOj.out.row j' e; omega)) hg6 (fun j' hj' e => by injection hj' with hj'; have h2 := HOj.out.row j' e; have h3 := HMB.out; omega), HOj.out.2⟩)
          have HB6 := Lib.hid ((HBj.out.grown HG5.out HBj.out.size (fun j' hj' => (HVN.out j' hj').2.1)).grown hg6 (Nat.le_trans HBj.out.size HG5.out.size) (fun j' hj' => by injection hj' with hj'; omega))
          have HS6 := Lib.hid (Nat.le_trans HSj.out (Nat.le_trans HG5.out.size hg6.size))
          clear hs6 hg6
          refine Lib.hid ?_
          go_wp2
          go_roundw
          case rel => exact ⟨j + 1, n + 1, _, by omega, by go_num, by have := HNj.out; omega, HM6.out.congr fun x => (memJ_succ HQA.out HY1.out x).symm, HG6.out, HO6.out, HB6.out, HS6.out⟩
          case measure => simp [intOf]; omega
        · obtain rfl : j = Q.length := by omega
          go_wp2
          go_roundw
          case rel =>
            refine ⟨k + 1, n, g, by omega, by go_num, by have := HNj.out; omega, HMj.out.congr fun x => ?_, HBj.out⟩
            rw [memJ_all HTL.out, rcs_take HX.out, List.map_append, List.map_cons, List.map_nil, HQ.out]
          case measure => simp [intOf]; omega
    · obtain rfl : k = L.length := by omega
      have HE := Lib.hid (show (L.take L.length).map bkR = K by rw [List.take_length, HKL.out])
      go_wp2
      go_ret
      refine ⟨_, n, g, rfl, ?_, by have := HN.out; omega, HB.out⟩
      rw [← HE.out]
      exact HM.out

end Go.Proofs.YtebddnjccmaimaaGreatDoor
