/-
  The two sources of frequencies: a table that is searched, and a map of first counts. By an AI agent.
-/
import Derived.Test.YtggohfinkpppkaaTcF
import Derived.Test.YtggohfinkpppkaaIMap
import Derived.Test.YtggohfinkpppkaaCmpCnt
namespace Go.Proofs.Ytggohfinkpppkaa
open Go.RowKit Go.Maps
set_option linter.unusedVariables false

set_option maxRecDepth 100000 in
theorem first_counts (a : Option Addr) (c : Nat) (l : List TC) (w : World) (h0 : SmT w a l c) (hr : ∀ x ∈ l, (Lit.int .i64 x.2).wf = true) :
    Calls Try.prog 122 #[.slice a l.length c] w fun e w' => e = .returned (.map (some w.heap.size)) ∧ IMap w' w.heap.size l.length (l.map (·.1)) (frqL l) ∧ Below w.heap.size w w' := by
  obtain ⟨hin, -, -, hl, hx⟩ := h0
  have HIN := Lib.hid hin
  have HX := Lib.hid hx
  have HW := Lib.hid hr
  clear hin hx hr
  have hmm := fun (w : World) (n : Int) => run_makeMap_hint (P := Try.prog) 136 _ _ Try.underlying136 .i64 n w
  go_enter Try.func122, Try.ntmps122
  go_wp2
  go_loopw [13] (fun i wr => ∃ k : Nat, k ≤ l.length ∧ i = .int .i64 k ∧ IMap wr w.heap.size k ((l.take k).map (·.1)) (frqL (l.take k)) ∧ Below w.heap.size w wr) (fun i _ => l.length - (intOf i).toNat)
  case atStart => exact ⟨0, Nat.zero_le _, rfl, IMap.made w, (Below.refl _ _).alloc (Nat.le_refl _) _⟩
  case round =>
    obtain ⟨k, hk, rfl, hmap, hb⟩ := hrel
    have HMAP := Lib.hid hmap
    have HB := Lib.hid hb
    clear hmap hb
    by_cases hlt : k < l.length
    · obtain ⟨b, off, rfl, hbw, -⟩ := HIN.out (by omega)
      obtain ⟨x, s, hx1, hx2, hx3, hx4⟩ := tc_at hlt
      obtain ⟨c0, c1⟩ := HIN.out.at HB.out hx1 hx3
      have HX1 := Lib.hid hx1
      have HX2 := Lib.hid hx2
      have HSL := Lib.hid (show s.size ≤ maxLen by rw [hx4]; have := HX.out x (List.mem_of_getElem? hx1); unfold maxLen; omega)
      have HWF := Lib.hid (HW.out x (List.mem_of_getElem? hx1))
      obtain ⟨z, hz⟩ : ∃ z, x.2 = z := ⟨_, rfl⟩
      have HZ := Lib.hid hz
      rw [hz] at c1 HWF
      obtain ⟨v, hv⟩ : ∃ v, frqL (l.take k) x.1 = v := ⟨_, rfl⟩
      have HV := Lib.hid hv
      clear hx1 hx2 hx3 hx4 hbw hz hv
      by_cases hm : x.1 ∈ (l.take k).map (·.1)
      · have HM := Lib.hid hm
        clear hm
        go_wp2_with (at_lookup; refine wpList_imap_look_ok _ 136 Try.underlying136 rfl _ _ rfl w.heap.size _ _ _ (HMAP.out.alloc _) rfl s x.1 rfl HX2.out HSL.out v HV.out true (decide_eq_true HM.out) ?_)
        go_roundw
        case rel =>
          refine ⟨k + 1, by omega, by go_num, ((HMAP.out.alloc _).mono (by omega)).congr (fun y => ?_) (fun y => ?_), HB.out.alloc HB.out.size _⟩
          · rw [tc_take HX1.out, List.map_append, List.mem_append]
            simp only [List.map_singleton, List.mem_singleton]
            exact ⟨.inl, fun h => h.elim id (fun e => by rw [e]; exact HM.out)⟩
          · rw [tc_take HX1.out, frq_snoc]
            by_cases hy : y ∈ (l.take k).map (·.1)
            · rw [if_pos hy]
            · rw [if_neg hy, if_neg (fun e => hy (by rw [← e]; exact HM.out))]
              exact frq_none fun z hz e => hy (by rw [← e]; exact List.mem_map_of_mem hz)
        case measure => simp [intOf]; omega
      · have HM := Lib.hid hm
        clear hm
        go_wp2_with (first
          | (at_lookup; refine wpList_imap_look_ok _ 136 Try.underlying136 rfl _ _ rfl w.heap.size _ _ _ (HMAP.out.alloc _) rfl s x.1 rfl HX2.out HSL.out v HV.out false (decide_eq_false HM.out) ?_)
          | (at_mapUpdate; refine wpList_imap_store _ 136 Try.underlying136 rfl _ _ _ rfl w.heap.size _ _ _ (HMAP.out.alloc _) rfl (by unfold maxLen; omega) s x.1 rfl z rfl HWF.out HX2.out HSL.out ?_; intro w3 hmap3 hg3))
        go_roundw
        case rel =>
          refine ⟨k + 1, by omega, by go_num, hmap3.congr (fun y => ?_) (fun y => ?_), (HB.out.alloc HB.out.size _).grown hg3 (by have := HB.out.size; simp; omega) (fun j hj => by cases hj; exact Nat.le_refl _)⟩
          · rw [tc_take HX1.out, List.map_append]
            rfl
          · rw [tc_take HX1.out, frq_snoc]
            by_cases e : y = x.1
            · subst e
              rw [if_pos rfl, if_neg HM.out, if_pos rfl, HZ.out]
            · rw [if_neg e]
              by_cases hy : y ∈ (l.take k).map (·.1)
              · rw [if_pos hy]
              · rw [if_neg hy, if_neg (fun e2 => e e2.symm)]
                exact frq_none fun z hz e => hy (by rw [← e]; exact List.mem_map_of_mem hz)
        case measure => simp [intOf]; omega
    · obtain rfl : k = l.length := by omega
      have h := HMAP.out
      rw [List.take_length] at h
      go_wp2
      go_ret
      exact ⟨rfl, h, HB.out⟩

set_option maxRecDepth 100000 in
theorem frq_map (b n : Nat) (ks : List Str) (f : Str → Int) (t : ByteArray) (w : World) (h : IMap w b n ks f) (hs : t.size ≤ maxLen) :
    Calls Try.prog 185 #[.map (some b), .string t] w fun e w' => e = .returned (.int .i64 (f t.data.toList)) ∧ w' = w := by
  obtain ⟨v, hv⟩ : ∃ v, f t.data.toList = v := ⟨_, rfl⟩
  have HV := Lib.hid hv
  have HM := Lib.hid h
  have HS := Lib.hid hs
  rw [hv]
  clear hv h hs
  go_enter Try.func185, Try.ntmps185
  go_wp2_with (at_lookup; refine wpList_imap_lookup _ 136 Try.underlying136 rfl _ _ rfl b _ _ _ HM.out rfl t _ rfl rfl HS.out v HV.out ?_)
  go_ret
  exact ⟨rfl, rfl⟩

set_option maxRecDepth 100000 in
theorem cmp_entry (s t : ByteArray) (z r : Int) (w : World) (h : cmpR s.data.toList t.data.toList = r) :
    Calls Try.prog 184 #[.agg #[.string s, .int .i64 z], .string t] w fun e w' => e = .returned (.int .i64 r) ∧ Below w.heap.size w w' := by
  have HR := Lib.hid h
  clear h
  go_enter Try.func184, Try.ntmps184
  go_wp2_with (go_at_call 126; (refine (cmp_is s t r _ HR.out).mono ?_); rintro e w' ⟨rfl, rfl⟩)
  go_ret
  exact ⟨rfl, (Below.refl _ _).alloc (Nat.le_refl _) _⟩

end Go.Proofs.Ytggohfinkpppkaa
