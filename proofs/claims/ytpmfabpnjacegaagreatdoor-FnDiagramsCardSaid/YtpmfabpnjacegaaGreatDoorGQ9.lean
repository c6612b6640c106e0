/-
  Texts laid together: FeatI, DgI. By an AI agent.
-/
import Derived.Test.YtpmfabpnjacegaaGreatDoorGQ1
import Derived.Test.YtpmfabpnjacegaaGreatDoorGQ6
import Derived.Test.YtpmfabpnjacegaaGreatDoorGQ5
import Derived.Test.YtpmfabpnjacegaaGreatDoorGQ4
import Derived.Test.YtpmfabpnjacegaaGreatDoorUndrew
import Derived.Deep.RegionHeld3
/-
  What impl.isFeature answers. By an AI agent.
-/
namespace Go.Proofs.YtpmfabpnjacegaaGreatDoor
open Go.RowKit
set_option linter.unusedVariables false
set_option linter.unusedSimpArgs false
set_option linter.unnecessarySimpa false

theorem dwithin (lo hi x : Int) (r : Bool) (w : World) (hr : decide (lo ≤ x ∧ x ≤ hi) = r) :
    Calls Tryz.prog 56 #[.int .i64 lo, .int .i64 hi, .slice (some ⟨w.heap.size, 0, none⟩) 1 1] (w.alloc (.cells #[.int .i64 x] 3)) fun e w' => e = .returned (.bool r) ∧ w' = w.alloc (.cells #[.int .i64 x] 3) := by
  refine within_is lo hi _ 1 [x] r _ (by simp) ?_ (by rw [← hr]; simp [withinB])
  exact InI.new w [x]
set_option maxRecDepth 100000 in
theorem dfeat_is (x : Int) (r : Bool) (w : World) (hr : decide (0 ≤ x ∧ x ≤ 5) = r) :
    Calls Tryz.prog 72 #[.int .i64 x] w fun e w' => e = .returned (.bool r) ∧ Below w.heap.size w w' := by
  have HR := Lib.hid hr
  clear hr
  go_enter Tryz.func72, Tryz.ntmps72
  go_wp2_with (go_at_call 56; ((with_reducible refine (dwithin _ _ _ _ _ HR.out).mono ?_); rintro e w' ⟨rfl, rfl⟩))
  go_ret
  exact ⟨rfl, (Below.refl _ _).alloc (Nat.le_refl _) _⟩

end Go.Proofs.YtpmfabpnjacegaaGreatDoor

/-
  What impl.IsValidDiagram answers. By an AI agent.
-/
namespace Go.Proofs.YtpmfabpnjacegaaGreatDoor
open Go.RowKit
set_option linter.unusedVariables false
set_option linter.unusedSimpArgs false
set_option linter.unnecessarySimpa false

theorem grew_below {w w' : World} (h : Grew w w') : Below w.heap.size w w' := by
  obtain ⟨q, os, rfl⟩ := h
  refine ⟨rfl, rfl, rfl, by simp [Sort.grow], fun k hk => ?_⟩
  rw [Sort.heap_grow_old _ _ (by simpa using hk)]
  rfl
set_option maxRecDepth 100000 in
theorem dnvar_is (f t u z : Int) (w : World) :
    Calls Tryz.prog 70 #[.agg #[.int .i64 f, .int .i64 t, .int .i64 u, .int .i64 z]] w fun e w' => e = .returned (.agg #[.int .i64 f, .int .i64 t, .bool false]) ∧ Below w.heap.size w w' := by
  go_enter Tryz.func70, Tryz.ntmps70
  go_wp2
  refine bodyPost_ret (v := .agg #[.int .i64 f, .int .i64 t, .bool false]) (by simp [results, Tryz.results70, go_sem]) rfl ⟨rfl, ((Below.refl _ _).alloc (Nat.le_refl _) _).alloc (by simp) _⟩

set_option maxRecDepth 100000 in
theorem refs_is (n : Nat) (a : Option Addr) (cap m : Nat) (l : List Int) (r : Bool) (w : World) (hn : n ≤ 4000000) (hm : l.length = m) (hm4 : m ≤ 4000000) (hin : InI w a l) (hr : withinB 0 (1 + (n : Int)) l = r) :
    Calls Tryz.prog 43 #[.int .i64 n, .slice a m cap] w fun e w' => e = .returned (.bool r) ∧ w' = w := by
  subst hm
  have HC := Lib.hid (within_is 0 (1 + (n : Int)) a cap l r w hm4 hin hr)
  clear hin hr
  go_enter Tryz.func43, Tryz.ntmps43
  go_wp2_with (go_at_call 56; (refine HC.out.mono ?_); rintro e w' ⟨rfl, rfl⟩)
  go_ret
  exact ⟨rfl, rfl⟩
theorem refs_one (n : Nat) (u : Int) (r : Bool) (w : World) (hn : n ≤ 4000000) (hr : decide (0 ≤ u ∧ u ≤ (n : Int) + 1) = r) :
    Calls Tryz.prog 43 #[.int .i64 n, .slice (some ⟨w.heap.size, 0, none⟩) 1 1] (w.alloc (.cells #[.int .i64 u] 3)) fun e w' => e = .returned (.bool r) ∧ Below w.heap.size w w' := by
  refine (refs_is n _ 1 1 [u] r _ hn rfl (by omega) (InI.new w [u]) ?_).mono ?_
  · rw [← hr, Int.add_comm 1]; simp [withinB]
  · rintro e w' ⟨rfl, rfl⟩
    exact ⟨rfl, (Below.refl _ _).alloc (Nat.le_refl _) _⟩
theorem refs_two (n : Nat) (u z : Int) (r : Bool) (w : World) (hn : n ≤ 4000000) (hr : (refB n u && refB n z) = r) :
    Calls Tryz.prog 43 #[.int .i64 n, .slice (some ⟨w.heap.size, 0, none⟩) 2 2] (w.alloc (.cells #[.int .i64 u, .int .i64 z] 3)) fun e w' => e = .returned (.bool r) ∧ Below w.heap.size w w' := by
  refine (refs_is n _ 2 2 [u, z] r _ hn rfl (by omega) (InI.new w [u, z]) ?_).mono ?_
  · rw [← hr, Int.add_comm 1]; simp [withinB, refB]
  · rintro e w' ⟨rfl, rfl⟩
    exact ⟨rfl, (Below.refl _ _).alloc (Nat.le_refl _) _⟩

/-! ### the variable stands before those of the nodes that are referred to -/
theorem pre_all {v : Int × Int} {D : List DN} {L : List Int} {k : Nat} {x : Int} (h : (L.take k).all (preB v D) = true) (hx : L[k]? = some x) (h1 : preB v D x = true) : (L.take (k + 1)).all (preB v D) = true := by
  obtain ⟨hlt, he⟩ := List.getElem?_eq_some_iff.1 hx
  rw [List.take_succ_eq_append_getElem hlt, he, List.all_append, h]
  simp [h1]
theorem pre_no {v : Int × Int} {D : List DN} {L : List Int} {k : Nat} {x : Int} (hx : L[k]? = some x) (h1 : preB v D x = false) : L.all (preB v D) = false := by
  rw [Bool.eq_false_iff]
  intro e
  rw [List.all_eq_true.1 e x (List.mem_of_getElem? hx)] at h1
  cases h1

set_option maxRecDepth 100000 in
set_option maxHeartbeats 4000000 in
theorem pre_impl (f t u z : Int) (a : Option Addr) (c n : Nat) (D : List DN) (aR : Option Addr) (cR m : Nat) (L : List Int) (r : Bool) (w : World) (hn : D.length = n) (hm : L.length = m) (hm4 : m ≤ 4000000) (hr : L.all (preB (f, t) D) = r) (hL : ∀ x ∈ L, x ≤ (n : Int) + 1) (hin : InI w aR L) (h : SmDn w a D c) :
    Calls Tryz.prog 74 #[.agg #[.int .i64 f, .int .i64 t, .int .i64 u, .int .i64 z], .slice a n c, .slice aR m cR] w fun e w' => e = .returned (.bool r) ∧ Below w.heap.size w w' := by
  have hl := h.len
  obtain ⟨w1, hw1⟩ : ∃ w1, w.alloc (.cells #[.int .i64 f, .int .i64 t, .int .i64 u, .int .i64 z] 59) = w1 := ⟨_, rfl⟩
  have HB1 := Lib.hid (show Below w.heap.size w w1 by rw [← hw1]; exact (Below.refl w.heap.size w).alloc (Nat.le_refl _) _)
  have HX1 := Lib.hid (show BlkV w1 w.heap.size 59 #[.int .i64 f, .int .i64 t, .int .i64 u, .int .i64 z] by rw [← hw1]; exact BlkV.new _ _ _)
  have HS := Lib.hid (h.below HB1.out)
  have HIN := Lib.hid (InI.below hin HB1.out)
  have HR := Lib.hid hr
  have HL := Lib.hid hL
  have HN := Lib.hid hn
  have HM := Lib.hid hm
  rw [hn] at hl
  clear h hin hr hL hn hm
  go_enter Tryz.func74, Tryz.ntmps74
  go_wp2
  go_loopw [12] (fun i wr => ∃ k : Nat, k ≤ m ∧ i = .int .i64 k ∧ (L.take k).all (preB (f, t) D) = true ∧ Below w1.heap.size w1 wr) (fun i _ => m - (intOf i).toNat)
  case atStart => exact ⟨0, Nat.zero_le _, rfl, rfl, Below.refl _ _⟩
  case round =>
    obtain ⟨k, hk, rfl, hall, hb⟩ := hrel
    have HALL := Lib.hid hall
    have HB := Lib.hid hb
    have q0 := (HX1.out.below hb).four0'
    have q1 := (HX1.out.below hb).four1'
    have q2 := (HX1.out.below hb).four2'
    have q3 := (HX1.out.below hb).four3'
    clear hall hb
    by_cases hlt : k < m
    · obtain ⟨x, hx⟩ : ∃ x, L[k]? = some x := ⟨_, List.getElem?_eq_getElem (by rw [HM.out]; exact hlt)⟩
      obtain ⟨b, off, rfl, hbw, hc⟩ := HIN.out (by rw [HM.out]; omega)
      have c0 : wr.cell? ⟨b, off + k, none⟩ = some (.int .i64 x) := (HB.out.cell (p := ⟨b, off + k, none⟩) hbw).trans (hc k x hx)
      have HX := Lib.hid hx
      have hxn := HL.out x (List.mem_of_getElem? hx)
      have hkm : (k : Int) < (m : Int) := by omega
      clear hc hx
      by_cases h2 : x < 2
      · go_wp2
        go_roundw
        case rel => exact ⟨k + 1, by omega, by go_num, pre_all HALL.out HX.out (pre_small h2), HB.out⟩
        case measure => simp [intOf]; omega
      · obtain ⟨i, rfl⟩ : ∃ i : Nat, x = (i : Int) + 2 := ⟨(x - 2).toNat, by omega⟩
        have hin2 : i < n := by omega
        obtain ⟨b2, o2, f', t', u', z', rfl, hb2, hy, p0, p1, p2, p3⟩ := (HS.out.inDn.below HB.out).at_ (show i < D.length by rw [HN.out]; exact hin2)
        obtain ⟨v, hv⟩ : ∃ v, varLt (f, t) (f', t') = v := ⟨_, rfl⟩
        have HV := Lib.hid (show preB (f, t) D ((i : Int) + 2) = v by rw [pre_at rfl hy, hv])
        obtain ⟨q, hq⟩ : ∃ q, cvP (f, t) (f', t') = q := ⟨_, rfl⟩
        have hqb : decide (0 ≤ q) = !v := by rw [← hq]; exact cvP_ge _ _ _ hv
        have HQ := Lib.hid (show orI (cmpI f f') (cmpI t t') = q from hq)
        have HQB := Lib.hid hqb
        obtain ⟨W1, hW1⟩ : ∃ W1, wr.alloc (.cells #[.int .i64 f', .int .i64 t', .int .i64 u', .int .i64 z'] 59) = W1 := ⟨_, rfl⟩
        have HWB := Lib.hid (show Below wr.heap.size wr W1 by rw [← hW1]; exact (Below.refl _ _).alloc (Nat.le_refl _) _)
        have HT4 := Lib.hid (show BlkV W1 wr.heap.size 59 #[.int .i64 f', .int .i64 t', .int .i64 u', .int .i64 z'] by rw [← hW1]; exact BlkV.new _ _ _)
        have HX4 := Lib.hid (HX1.out.below (HB.out.trans (HWB.out.mono HB.out.size)))
        have x0 := HT4.out.four0'
        have x1 := HT4.out.four1'
        have x2 := HT4.out.four2'
        have x3 := HT4.out.four3'
        have y0 := HX4.out.four0'
        have y1 := HX4.out.four1'
        have y2 := HX4.out.four2'
        have y3 := HX4.out.four3'
        have HWW := Lib.hid hW1
        have hii : (i : Int) < (n : Int) := by omega
        clear hy hv hq hqb q0 q1 q2 q3 hb2 hW1
        go_wp2_with (fail)
        rw [HWW.out]
        go_region_held3 (fun w' => w'.cell? ⟨w.heap.size, 0, none⟩ = some (.int .i64 f) ∧ w'.cell? ⟨w.heap.size, 1, none⟩ = some (.int .i64 t) ∧ w'.cell? ⟨w.heap.size, 2, none⟩ = some (.int .i64 u) ∧ w'.cell? ⟨w.heap.size, 3, none⟩ = some (.int .i64 z) ∧ w'.cell? ⟨wr.heap.size, 0, none⟩ = some (.int .i64 f') ∧ w'.cell? ⟨wr.heap.size, 1, none⟩ = some (.int .i64 t') ∧ w'.cell? ⟨wr.heap.size, 2, none⟩ = some (.int .i64 u') ∧ w'.cell? ⟨wr.heap.size, 3, none⟩ = some (.int .i64 z'))
          (first | exact ⟨e0, e1, e2, e3, d0, d1, d2, d3⟩ | exact ⟨y0, y1, y2, y3, x0, x1, x2, x3⟩)
          (first
            | (go_at_call 70; ((with_reducible refine Calls.mono (dnvar_is f t u z _) ?_); rintro e w2 ⟨rfl, hb2⟩; have hr2 := undrew hb2; have HY2 := Lib.hid (HX4.out.below hr2); have HZ2 := Lib.hid (HT4.out.below hr2); have e0 := HY2.out.four0'; have e1 := HY2.out.four1'; have e2 := HY2.out.four2'; have e3 := HY2.out.four3'; have d0 := HZ2.out.four0'; have d1 := HZ2.out.four1'; have d2 := HZ2.out.four2'; have d3 := HZ2.out.four3'; have HB2 := Lib.hid (HWB.out.trans (hr2.mono HWB.out.size)); clear hb2 hr2))
            | (go_at_call 70; ((with_reducible refine Calls.mono (dnvar_is f' t' u' z' _) ?_); rintro e w3 ⟨rfl, hb3⟩; have HY3 := Lib.hid (HY2.out.below hb3); have HZ3 := Lib.hid (HZ2.out.below hb3); clear e0 e1 e2 e3 d0 d1 d2 d3; have e0 := HY3.out.four0'; have e1 := HY3.out.four1'; have e2 := HY3.out.four2'; have e3 := HY3.out.four3'; have d0 := HZ3.out.four0'; have d1 := HZ3.out.four1'; have d2 := HZ3.out.four2'; have d3 := HZ3.out.four3'; have HB3 := Lib.hid (HB2.out.trans (hb3.mono HB2.out.size)); clear hb3))
            | (go_at_call 50; ((with_reducible refine Calls.mono (cv_is f t f' t' q false false _ HQ.out) ?_); rintro e w4 ⟨rfl, hg4⟩; have hb4 := grew_below hg4; have HY4 := Lib.hid (HY3.out.below hb4); have HZ4 := Lib.hid (HZ3.out.below hb4); clear e0 e1 e2 e3 d0 d1 d2 d3; have e0 := HY4.out.four0'; have e1 := HY4.out.four1'; have e2 := HY4.out.four2'; have e3 := HY4.out.four3'; have d0 := HZ4.out.four0'; have d1 := HZ4.out.four1'; have d2 := HZ4.out.four2'; have d3 := HZ4.out.four3'; have HB4 := Lib.hid (HB3.out.trans (hb4.mono HB3.out.size)); clear hb4 hg4)))
        have hqb := HQB.out
        clear e0 e1 e2 e3 d0 d1 d2 d3 x0 x1 x2 x3 y0 y1 y2 y3
        cases v
        · obtain rfl : false = r := by rw [← HR.out, pre_no HX.out HV.out]
          have hq0 : 0 ≤ q := of_decide_eq_true hqb
          clear hqb
          go_wp2
          go_ret
          exact ⟨rfl, HB1.out.trans ((HB.out.trans (HB4.out.mono HB.out.size)).mono HB1.out.size)⟩
        · have hq0 : ¬ 0 ≤ q := of_decide_eq_false hqb
          clear hqb
          go_wp2
          go_roundw
          case rel => exact ⟨k + 1, by omega, by go_num, pre_all HALL.out HX.out HV.out, HB.out.trans (HB4.out.mono HB.out.size)⟩
          case measure => simp [intOf]; omega
    · obtain rfl : k = m := by omega
      obtain rfl : true = r := by
        rw [← HR.out]
        have := HALL.out
        rw [← HM.out, List.take_length] at this
        exact this.symm
      go_wp2
      go_ret
      exact ⟨rfl, HB1.out.trans (HB.out.mono HB1.out.size)⟩
theorem pre_two (f t u z : Int) (a : Option Addr) (c n : Nat) (D : List DN) (r : Bool) (w : World) (hn : D.length = n) (hr : (preB (f, t) D u && preB (f, t) D z) = r) (hu : u ≤ (n : Int) + 1) (hz : z ≤ (n : Int) + 1) (h : SmDn w a D c) :
    Calls Tryz.prog 74 #[.agg #[.int .i64 f, .int .i64 t, .int .i64 u, .int .i64 z], .slice a n c, .slice (some ⟨w.heap.size, 0, none⟩) 2 2] (w.alloc (.cells #[.int .i64 u, .int .i64 z] 3)) fun e w' => e = .returned (.bool r) ∧ Below w.heap.size w w' := by
  refine (pre_impl f t u z a c n D _ 2 2 [u, z] r _ hn rfl (by omega) (by rw [← hr]; simp) (by simp; omega) (InI.new w [u, z]) (h.alloc _)).mono ?_
  rintro e w' ⟨rfl, hb⟩
  exact ⟨rfl, ((Below.refl _ _).alloc (Nat.le_refl _) _).trans (hb.mono (by simp))⟩

/-! ### a node among those of a list -/
set_option maxRecDepth 100000 in
set_option maxHeartbeats 2000000 in
theorem idx_impl (f t u z : Int) (a : Option Addr) (c n : Nat) (D : List DN) (r : Bool) (w : World) (hn : D.length = n) (hr : D.contains ((f, t), (u, z)) = r) (h : SmDn w a D c) :
    Calls Tryz.prog 92 #[.slice a n c, .agg #[.int .i64 f, .int .i64 t, .int .i64 u, .int .i64 z]] w fun e w' => (∃ q : Int, e = .returned (.int .i64 q) ∧ decide (0 ≤ q) = r) ∧ Below w.heap.size w w' := by
  have hl := h.len
  obtain ⟨w1, hw1⟩ : ∃ w1, w.alloc (.cells #[.int .i64 f, .int .i64 t, .int .i64 u, .int .i64 z] 59) = w1 := ⟨_, rfl⟩
  have HB1 := Lib.hid (show Below w.heap.size w w1 by rw [← hw1]; exact (Below.refl w.heap.size w).alloc (Nat.le_refl _) _)
  have HX1 := Lib.hid (show BlkV w1 w.heap.size 59 #[.int .i64 f, .int .i64 t, .int .i64 u, .int .i64 z] by rw [← hw1]; exact BlkV.new _ _ _)
  have HS := Lib.hid (h.below HB1.out)
  have HR := Lib.hid hr
  have HN := Lib.hid hn
  rw [hn] at hl
  clear h hr hn
  go_enter Tryz.func92, Tryz.ntmps92
  go_wp2
  go_loopw [8] (fun i wr => ∃ k : Nat, k ≤ n ∧ i = .int .i64 k ∧ (D.take k).contains ((f, t), (u, z)) = false ∧ Below w1.heap.size w1 wr) (fun i _ => n - (intOf i).toNat)
  case atStart => exact ⟨0, Nat.zero_le _, rfl, rfl, Below.refl _ _⟩
  case round =>
    obtain ⟨k, hk, rfl, hall, hb⟩ := hrel
    have HALL := Lib.hid hall
    have HB := Lib.hid hb
    have q0 := (HX1.out.below hb).four0'
    have q1 := (HX1.out.below hb).four1'
    have q2 := (HX1.out.below hb).four2'
    have q3 := (HX1.out.below hb).four3'
    clear hall hb
    by_cases hlt : k < n
    · obtain ⟨b2, o2, f', t', u', z', rfl, hb2, hy, p0, p1, p2, p3⟩ := (HS.out.inDn.below HB.out).at_ (show k < D.length by rw [HN.out]; exact hlt)
      obtain ⟨b, hb⟩ : ∃ b, decide ((((f, t), (u, z)) : DN) = ((f', t'), (u', z'))) = b := ⟨_, rfl⟩
      have HBD := Lib.hid hb
      have he := fun W => eql_dn f t u z f' t' u' z' b hb W
      have hgd := fun x y xs ys W => geql_dn x y xs ys W
      have HY := Lib.hid hy
      have hki : (k : Int) < (n : Int) := by omega
      clear hy hb hb2
      cases b
      · go_wp2_with (fail)
        go_quiet (fail)
        go_wp2
        go_roundw
        case rel =>
          refine ⟨k + 1, by omega, by go_num, ?_, HB.out.trans (dquiet_f _ _ _)⟩
          rw [List.take_add_one, HY.out]
          have h1 := HALL.out
          have h2 := of_decide_eq_false HBD.out
          simp only [List.contains_eq_mem, List.mem_append, decide_eq_false_iff_not] at h1 ⊢
          rintro (h | h)
          · exact h1 h
          · simp at h; exact h2 (by simp [h])
        case measure => simp [intOf]; omega
      · obtain rfl : true = r := by
          rw [← HR.out]
          have h2 := of_decide_eq_true HBD.out
          rw [h2]
          exact (List.contains_iff_mem.2 (List.mem_of_getElem? HY.out)).symm
        go_wp2_with (fail)
        go_quiet (fail)
        go_wp2
        go_ret
        exact ⟨⟨(k : Int), rfl, decide_eq_true (by omega)⟩, HB1.out.trans ((HB.out.trans (dquiet_f _ _ _)).mono HB1.out.size)⟩
    · obtain rfl : k = n := by omega
      obtain rfl : false = r := by
        rw [← HR.out]
        have := HALL.out
        rw [← HN.out, List.take_length] at this
        exact this.symm
      go_wp2
      go_ret
      exact ⟨⟨-1, rfl, rfl⟩, HB1.out.trans (HB.out.mono HB1.out.size)⟩
set_option maxRecDepth 100000 in
set_option maxHeartbeats 800000 in
theorem cont_impl (f t u z : Int) (a : Option Addr) (c n : Nat) (D : List DN) (r : Bool) (w : World) (hn : D.length = n) (hr : D.contains ((f, t), (u, z)) = r) (h : SmDn w a D c) :
    Calls Tryz.prog 75 #[.slice a n c, .agg #[.int .i64 f, .int .i64 t, .int .i64 u, .int .i64 z]] w fun e w' => e = .returned (.bool r) ∧ Below w.heap.size w w' := by
  have HB1 := Lib.hid ((Below.refl w.heap.size w).alloc (Nat.le_refl _) (.cells #[.int .i64 f, .int .i64 t, .int .i64 u, .int .i64 z] 59))
  have HC := Lib.hid (idx_impl f t u z a c n D r (w.alloc (.cells #[.int .i64 f, .int .i64 t, .int .i64 u, .int .i64 z] 59)) hn hr (h.alloc _))
  clear h hr hn
  go_enter Tryz.func75, Tryz.ntmps75
  go_wp2_with (go_at_call 92; (refine HC.out.mono ?_); rintro e w2 ⟨⟨q, rfl, hq⟩, hb2⟩; refine Hid.out ?_)
  have HB2 := Lib.hid (HB1.out.trans (hb2.mono HB1.out.size))
  clear hb2
  refine Lib.hid ?_
  cases r
  · have hq0 : ¬ 0 ≤ q := of_decide_eq_false hq
    clear hq
    go_wp2
    go_ret
    exact ⟨rfl, HB2.out⟩
  · have hq0 : 0 ≤ q := of_decide_eq_true hq
    clear hq
    go_wp2
    go_ret
    exact ⟨rfl, HB2.out⟩

end Go.Proofs.YtpmfabpnjacegaaGreatDoor

