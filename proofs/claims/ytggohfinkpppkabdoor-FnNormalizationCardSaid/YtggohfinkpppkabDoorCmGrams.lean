/-
  What impl.CommonGrams answers. By an AI agent.
-/
import Derived.Test.YtggohfinkpppkabDoorSetOf
import Derived.Test.YtggohfinkpppkabDoorCmSpec
namespace Go.Proofs.YtggohfinkpppkabDoor
open Go.RowKit Go.Maps
set_option linter.unusedVariables false

set_option maxRecDepth 100000 in
set_option maxHeartbeats 1600000 in
theorem cgrams_impl (a0 a1 : Option Addr) (c0 c1 : Nat) (l0 l1 : List Str) (w : World) (h0 : Sm w a0 l0 c0) (h1 : Sm w a1 l1 c1) :
    Calls Tryd.prog 34 #[.slice a0 l0.length c0, .slice a1 l1.length c1] w fun e w' => e = .returned (.int .i64 (cgramsR l0 l1)) ∧ Below w.heap.size w w' := by
  obtain ⟨hin0, -, hcap, hl0, hx0⟩ := h0
  obtain ⟨hin1, -, -, hl1, hx1⟩ := h1
  have H0 := Lib.hid hin0
  have H1 := Lib.hid hin1
  have X0 := Lib.hid hx0
  have X1 := Lib.hid hx1
  clear hin0 hin1 hx0 hx1
  have hmm := fun (w : World) (n : Int) => run_makeMap_hint (P := Tryd.prog) 61 _ _ Tryd.underlying61 .i64 n w
  go_enter Tryd.func34, Tryd.ntmps34
  go_wp2
  go_loopw [16] (fun i wr => ∃ k : Nat, k ≤ l0.length ∧ i = .int .i64 k ∧ CntM wr w.heap.size k (fun y => (l0.take k).count y) ∧ Below w.heap.size w wr) (fun i _ => l0.length - (intOf i).toNat)
  case atStart => exact ⟨0, Nat.zero_le _, rfl, (CntM.made w).congr (fun x => by simp), (Below.refl _ _).alloc (Nat.le_refl _) _⟩
  case round =>
    obtain ⟨k, hk, rfl, hset, hb⟩ := hrel
    have HSET := Lib.hid hset
    have HB := Lib.hid hb
    clear hset hb
    by_cases hlt : k < l0.length
    · obtain ⟨b, off, rfl, hbw, hc⟩ := H0.out (by omega)
      obtain ⟨x, s, hx1, hx2, hx3, hx4⟩ := str_at hlt
      have hcell : wr.cell? ⟨b, off + k, none⟩ = some (.string s) := by
        rw [HB.out.cell (p := ⟨b, off + k, none⟩) hbw, ← hx3]
        exact hc k x hx1
      have HSZ := Lib.hid (show s.size ≤ maxLen by rw [hx4]; have := X0.out x (List.mem_of_getElem? hx1); unfold maxLen; omega)
      have HX1 := Lib.hid hx1
      have HX2 := Lib.hid hx2
      obtain ⟨p, hp⟩ : ∃ p, (l0.take k).count x = p := ⟨_, rfl⟩
      have hpk : p ≤ k := by rw [← hp]; exact count_le' x l0 k
      have HP := Lib.hid hp
      clear hc hx1 hx2 hx3 hx4 hbw hp
      go_wp2_with (first
        | (at_lookup; refine wpList_cnt_lookup _ rfl _ _ rfl w.heap.size k _ HSET.out rfl s x rfl HX2.out HSZ.out p HP.out ?_)
        | (at_mapUpdate; refine wpList_cnt_store _ rfl _ _ _ rfl w.heap.size k _ HSET.out rfl (by unfold maxLen; omega) s x rfl _ rfl (p + 1) (by omega) (by omega) HX2.out HSZ.out ?_; intro w1 hset1 hg1; have HS1 := Lib.hid hset1; have HG1 := Lib.hid hg1; clear hset1 hg1))
      go_roundw
      case rel =>
        refine ⟨k + 1, by omega, by go_num, HS1.out.congr (fun u => ?_), HB.out.grown HG1.out HB.out.size (fun j hj => by cases hj; exact Nat.le_refl _)⟩
        rw [take_snoc' HX1.out, count_snoc]
        by_cases e : u = x
        · subst e
          rw [if_pos rfl, if_pos rfl, HP.out]
        · rw [if_neg e, if_neg (fun e' => e e'.symm), Nat.add_zero]
      case measure => simp [intOf]; omega
    · obtain rfl : k = l0.length := by omega
      go_wp2
      go_loopw [8, 27] (fun n i wr => ∃ k m : Nat, k ≤ l1.length ∧ m ≤ k ∧ i = .int .i64 k ∧ n = .int .i64 m ∧ m = cgL (l1.take k) l0 ∧ CntM wr w.heap.size (l0.length + k) (fun y => l0.count y - (l1.take k).count y) ∧ Below w.heap.size w wr) (fun _ i _ => l1.length - (intOf i).toNat)
      case atStart => exact ⟨0, 0, Nat.zero_le _, Nat.le_refl _, rfl, rfl, rfl, HSET.out.congr (fun x => by simp), HB.out⟩
      case round =>
        obtain ⟨k, m, hk, hmk, rfl, rfl, hm, hset, hb⟩ := hrel
        have HM := Lib.hid hm
        have HSET2 := Lib.hid hset
        have HB2 := Lib.hid hb
        clear hset hb hm HSET HB
        by_cases hlt : k < l1.length
        · obtain ⟨b, off, rfl, hbw, hc⟩ := H1.out (by omega)
          obtain ⟨x, s, hx1, hx2, hx3, hx4⟩ := str_at hlt
          have hcell : wr.cell? ⟨b, off + k, none⟩ = some (.string s) := by
            rw [HB2.out.cell (p := ⟨b, off + k, none⟩) hbw, ← hx3]
            exact hc k x hx1
          have HSZ := Lib.hid (show s.size ≤ maxLen by rw [hx4]; have := X1.out x (List.mem_of_getElem? hx1); unfold maxLen; omega)
          have HX1 := Lib.hid hx1
          have HX2 := Lib.hid hx2
          obtain ⟨p, hp⟩ : ∃ p, l0.count x - (l1.take k).count x = p := ⟨_, rfl⟩
          have hpk : p ≤ l0.length := by have : l0.count x ≤ l0.length := List.count_le_length; omega
          have HP := Lib.hid hp
          have hs := Lib.hid (cg_snoc (l1.take k) l0 x)
          clear hc hx1 hx2 hx3 hx4 hbw hp
          by_cases h0 : 0 < p
          · go_wp2_with (first
              | (at_lookup; refine wpList_cnt_lookup _ rfl _ _ rfl w.heap.size (l0.length + k) _ HSET2.out rfl s x rfl HX2.out HSZ.out p HP.out ?_)
              | (at_mapUpdate; refine wpList_cnt_store _ rfl _ _ _ rfl w.heap.size (l0.length + k) _ HSET2.out rfl (by unfold maxLen; omega) s x rfl _ rfl (p - 1) (by omega) (by omega) HX2.out HSZ.out ?_; intro w1 hset1 hg1; have HS1 := Lib.hid hset1; have HG1 := Lib.hid hg1; clear hset1 hg1))
            go_roundw
            case rel =>
              refine ⟨k + 1, m + 1, by omega, by omega, by go_num, by go_num, ?_, HS1.out.congr (fun u => ?_), HB2.out.grown HG1.out HB2.out.size (fun j hj => by cases hj; exact Nat.le_refl _)⟩
              · rw [take_snoc' HX1.out, hs.out, if_pos (by have := HP.out; omega), HM.out]
              · rw [take_snoc' HX1.out, count_snoc]
                by_cases e : u = x
                · subst e
                  rw [if_pos rfl, if_pos rfl]
                  have := HP.out
                  omega
                · rw [if_neg e, if_neg (fun e' => e e'.symm), Nat.add_zero]
            case measure => simp [intOf]; omega
          · obtain rfl : p = 0 := by omega
            go_wp2_with (at_lookup; refine wpList_cnt_lookup _ rfl _ _ rfl w.heap.size (l0.length + k) _ HSET2.out rfl s x rfl HX2.out HSZ.out 0 HP.out ?_)
            go_roundw
            case rel =>
              refine ⟨k + 1, m, by omega, by omega, by go_num, rfl, ?_, (HSET2.out.mono (Nat.le_succ _)).congr (fun u => ?_), HB2.out⟩
              · rw [take_snoc' HX1.out, hs.out, if_neg (by have := HP.out; omega), HM.out, Nat.add_zero]
              · rw [take_snoc' HX1.out, count_snoc]
                by_cases e : u = x
                · subst e
                  rw [if_pos rfl]
                  have := HP.out
                  omega
                · rw [if_neg (fun e' => e e'.symm), Nat.add_zero]
            case measure => simp [intOf]; omega
        · obtain rfl : k = l1.length := by omega
          go_wp2
          go_ret
          exact ⟨ret_int (by rw [HM.out, List.take_length, cg_comm]), HB2.out⟩

end Go.Proofs.YtggohfinkpppkabDoor
