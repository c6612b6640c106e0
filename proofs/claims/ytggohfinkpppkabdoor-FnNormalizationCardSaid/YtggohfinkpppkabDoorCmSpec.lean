/-
  What spec.l3Count and spec.CommonGrams answer. By an AI agent.
-/
import Derived.Test.YtggohfinkpppkabDoorStrT
namespace Go.Proofs.YtggohfinkpppkabDoor
open Go.RowKit Go.Maps
set_option linter.unusedVariables false

theorem str_ne2 {x y : Str} {s t : ByteArray} (hs : s.data.toList = x) (ht : t.data.toList = y) (h : x ≠ y) : (s.toList == t.toList) = false := by
  rw [ByteArray.toList_eq, ByteArray.toList_eq, hs, ht]
  simpa using h
theorem str_eq2 {x y : Str} {s t : ByteArray} (hs : s.data.toList = x) (ht : t.data.toList = y) (h : x = y) : s = t := by
  have h2 : s.data.toList = t.data.toList := by rw [hs, ht, h]
  exact ByteArray.ext (Array.toList_inj.1 h2)

theorem count_le' (x : Str) (l : List Str) (k : Nat) : (l.take k).count x ≤ k := Nat.le_trans List.count_le_length (List.length_take_le _ _)

set_option maxRecDepth 100000 in
theorem count_any (a : Option Addr) (cap : Nat) (l : List Str) (t : ByteArray) (y : Str) (n : Nat) (w : World) (hl : l.length ≤ 4000000) (hin : InS w a l) (ht : t.data.toList = y) (hn : n = l.length) :
    Calls Tryd.prog 64 #[.slice a n cap, .string t] w fun e w' => e = .returned (.int .i64 ((l.count y : Nat) : Int)) ∧ w' = w := by
  subst hn
  have HIN := Lib.hid hin
  have HT := Lib.hid ht
  clear hin ht
  go_enter Tryd.func64, Tryd.ntmps64
  go_wp2
  go_loop [5, 6] (fun n i => ∃ k m : Nat, k ≤ l.length ∧ m ≤ k ∧ i = .int .i64 k ∧ n = .int .i64 m ∧ m = (l.take k).count y) (fun _ i => l.length - (intOf i).toNat)
  case atStart => exact ⟨0, 0, Nat.zero_le _, Nat.le_refl _, rfl, rfl, by simp⟩
  case round =>
    obtain ⟨k, m, hk, hmk, rfl, rfl, hm⟩ := hrel
    have HM := Lib.hid hm
    clear hm
    by_cases hlt : k < l.length
    · obtain ⟨b, off, rfl, hbw, hc⟩ := HIN.out (by omega)
      obtain ⟨x, s, hx1, hx2, hx3, hx4⟩ := str_at hlt
      have hcell : w.cell? ⟨b, off + k, none⟩ = some (.string s) := by rw [← hx3]; exact hc k x hx1
      have H1 := Lib.hid hx1
      by_cases hxy : x = y
      · have HXY := Lib.hid hxy
        obtain rfl := str_eq2 hx2 HT.out hxy
        clear hc hx1 hx2 hx3 hx4 hbw hxy
        go_wp2
        go_round
        case rel => exact ⟨k + 1, m + 1, by omega, by omega, by go_num, by go_num, by rw [take_snoc' H1.out, count_snoc, if_pos HXY.out, HM.out]⟩
        case measure => simp [intOf]; omega
      · have HXY := Lib.hid hxy
        have hne := str_ne2 hx2 HT.out hxy
        clear hc hx1 hx2 hx3 hx4 hbw hxy
        go_wp2
        go_round
        case rel => exact ⟨k + 1, m, by omega, by omega, by go_num, rfl, by rw [take_snoc' H1.out, count_snoc, if_neg HXY.out, HM.out, Nat.add_zero]⟩
        case measure => simp [intOf]; omega
    · obtain rfl : k = l.length := by omega
      go_wp2
      go_ret
      exact ⟨ret_int (by rw [HM.out, List.take_length]), rfl⟩

abbrev cgramsR (l m : List Str) : Int := ((cgL l m : Nat) : Int)

theorem InS.take {w : World} {b off : Nat} {l : List Str} (h : InS w (some ⟨b, off, none⟩) l) (k : Nat) : InS w (some ⟨b, off, none⟩) (l.take k) := by
  intro h0
  obtain ⟨b', off', e, hb, hc⟩ := h (by rw [List.length_take] at h0; omega)
  refine ⟨b', off', e, hb, fun j x hj => hc j x ?_⟩
  rw [List.getElem?_take] at hj
  split at hj
  · exact hj
  · cases hj

set_option maxRecDepth 100000 in
set_option maxHeartbeats 1000000 in
theorem cgrams_spec (a0 a1 : Option Addr) (c0 c1 : Nat) (l0 l1 : List Str) (w : World) (h0 : Sm w a0 l0 c0) (h1 : Sm w a1 l1 c1) :
    Calls Tryd.prog 35 #[.slice a0 l0.length c0, .slice a1 l1.length c1] w fun e w' => e = .returned (.int .i64 (cgramsR l0 l1)) ∧ Below w.heap.size w w' := by
  obtain ⟨hin0, -, hcap, hl0, -⟩ := h0
  obtain ⟨hin1, -, -, hl1, -⟩ := h1
  have H0 := Lib.hid hin0
  have H1 := Lib.hid hin1
  clear hin0 hin1
  go_enter Tryd.func35, Tryd.ntmps35
  go_wp2
  go_loopw [5, 6] (fun n i wr => ∃ k m : Nat, k ≤ l0.length ∧ m ≤ k ∧ i = .int .i64 k ∧ n = .int .i64 m ∧ m = cgL (l0.take k) l1 ∧ Below w.heap.size w wr) (fun _ i _ => l0.length - (intOf i).toNat)
  case atStart => exact ⟨0, 0, Nat.zero_le _, Nat.le_refl _, rfl, rfl, rfl, Below.refl _ _⟩
  case round =>
    obtain ⟨k, m, hk, hmk, rfl, rfl, hm, hb⟩ := hrel
    have HM := Lib.hid hm
    have HB := Lib.hid hb
    clear hm hb
    by_cases hlt : k < l0.length
    · obtain ⟨b, off, rfl, hbw, hc⟩ := H0.out (by omega)
      obtain ⟨x, s, hx1, hx2, hx3, hx4⟩ := str_at hlt
      have hcell : wr.cell? ⟨b, off + k, none⟩ = some (.string s) := by
        rw [HB.out.cell (p := ⟨b, off + k, none⟩) hbw, ← hx3]
        exact hc k x hx1
      have HX1 := Lib.hid hx1
      have C0 := Lib.hid (fun j : Nat => count_any (some ⟨b, off, none⟩) c0 (l0.take k) s x k (wr.drewN j) (by rw [List.length_take]; omega) ((H0.out.below (HB.out.trans (quiet_below _ wr j))).take k) hx2 (by rw [List.length_take]; omega))
      have C1 := Lib.hid (fun j : Nat => count_any a1 c1 l1 s x l1.length (wr.drewN j) hl1 (H1.out.below (HB.out.trans (quiet_below _ wr j))) hx2 rfl)
      have hb0 := count_le' x l0 k
      have hb1 : l1.count x ≤ l1.length := List.count_le_length
      obtain ⟨p, hp⟩ : ∃ p, p = (l0.take k).count x := ⟨_, rfl⟩
      obtain ⟨q, hq⟩ : ∃ q, q = l1.count x := ⟨_, rfl⟩
      rw [← hp] at C0 hb0
      rw [← hq] at C1 hb1
      have HP := Lib.hid hp
      have HQ := Lib.hid hq
      have hk0 : (0 : Int) ≤ (k : Int) := by omega
      have hkc : (k : Int) ≤ (c0 : Int) := by omega
      clear hc hx1 hx2 hx3 hx4 hbw hp hq
      go_wp2
      go_quiet ((first | (go_at_call 64; with_reducible exact Calls.quiet_of_same (C0.out _)) | (go_at_call 64; with_reducible exact Calls.quiet_of_same (C1.out _))))
      by_cases hpq : p < q
      · have hs := Lib.hid (cg_snoc (l0.take k) l1 x)
        go_wp2
        go_roundw
        case rel =>
          refine ⟨k + 1, m + 1, by omega, by omega, by go_num, by go_num, ?_, HB.out.trans (quiet_below _ _ _)⟩
          rw [take_snoc' HX1.out, hs.out, if_pos (by rw [← HP.out, ← HQ.out]; exact hpq), HM.out]
        case measure => simp [intOf]; omega
      · have hs := Lib.hid (cg_snoc (l0.take k) l1 x)
        go_wp2
        go_roundw
        case rel =>
          refine ⟨k + 1, m, by omega, by omega, by go_num, rfl, ?_, HB.out.trans (quiet_below _ _ _)⟩
          rw [take_snoc' HX1.out, hs.out, if_neg (by rw [← HP.out, ← HQ.out]; exact hpq), HM.out, Nat.add_zero]
        case measure => simp [intOf]; omega
    · obtain rfl : k = l0.length := by omega
      go_wp2
      go_ret
      exact ⟨ret_int (by rw [HM.out, List.take_length]), HB.out⟩

end Go.Proofs.YtggohfinkpppkabDoor
