/-
  Following a diagram: what EvaluateDiagram and TestsEvaluated answer on both sides. By an AI agent.
-/
import Derived.Test.YtpmfabpnjacegaaGreatDoorDgS
import Derived.Test.YtpmfabpnjacegaaGreatDoorDgV
import Derived.Test.YtpmfabpnjacegaaGreatDoorGQ1
namespace Go.Proofs.YtpmfabpnjacegaaGreatDoor
open Go.RowKit
set_option linter.unusedVariables false
set_option linter.unusedSimpArgs false
set_option linter.unnecessarySimpa false

theorem wkF_le (D : List DN) (l : List Int) : ∀ (s : Nat) (r : Int), (wkF D l s r).2 ≤ s
  | 0, r => Nat.le_refl _
  | s + 1, r => by
    rw [wkF]
    split
    · exact Nat.zero_le _
    · have := wkF_le D l s
      simp only
      rename_i x _
      have := this (goesT x l)
      omega
theorem wkD_le (D : List DN) (l : List Int) (r : Int) : (wkD D l r).2 ≤ r.toNat := wkF_le D l _ r
def foR (y : Int) (D : List DN) (l : List Int) : Int × Nat := if dgB y D && fvB l then wkD D l y else (0, 0)
theorem fo_ev {y : Int} {D : List DN} {l : List Int} {A : Int} {B : Nat} (h : foR y D l = (A, B)) : decide (A = 1) = evR y D l := by
  unfold foR at h
  unfold evR
  cases hc : dgB y D && fvB l
  · rw [hc] at h; simp at h; rw [← h.1]; rfl
  · rw [hc, if_pos rfl] at h; rw [h, Bool.true_and]
theorem fo_te {y : Int} {D : List DN} {l : List Int} {A : Int} {B : Nat} (h : foR y D l = (A, B)) : (B : Int) = teR y D l := by
  unfold foR at h
  unfold teR
  cases hc : dgB y D && fvB l
  · rw [hc] at h; simp at h; rw [← h.2]; rfl
  · rw [hc, if_pos rfl] at h; rw [h]; rfl

set_option maxRecDepth 100000 in
set_option maxHeartbeats 4000000 in
theorem wa_spec (y : Int) (a : Option Addr) (c : Nat) (D : List DN) (aF : Option Addr) (cF : Nat) (l : List Int) (A : Int) (B : Nat) (w : World) (hA : (wkD D l y).1 = A) (hB : (wkD D l y).2 = B) (hnd : nodesB D = true) (hy : 0 ≤ y ∧ y ≤ (D.length : Int) + 1) (hf : fvB l = true) (h : SmDn w a D c) (hl : l.length ≤ 4000000) (hin : InI w aF l) :
    Calls Tryz.prog 42 #[.agg #[.int .i64 y, .slice a D.length c], .slice aF l.length cF] w fun e w' => e = .returned (.tuple #[.int .i64 A, .int .i64 (B : Int)]) ∧ Below w.heap.size w w' := by
  have hl4 := h.len
  obtain ⟨n, hn⟩ : ∃ n, D.length = n := ⟨_, rfl⟩
  have HN := Lib.hid hn
  rw [hn] at hl4 hy ⊢
  have HY := Lib.hid hy
  have HA := Lib.hid hA
  have HBB := Lib.hid hB
  have HBL := Lib.hid (show B ≤ n + 1 by have := wkD_le D l y; omega)
  have HND := Lib.hid hnd
  have HL6 := Lib.hid (fv_of hf).1
  have h6 := (fv_of hf).1
  rw [h6]
  obtain ⟨w1, hw1⟩ : ∃ w1, w.alloc (.cells #[.int .i64 y, .slice a n c] 32) = w1 := ⟨_, rfl⟩
  have HB1 := Lib.hid (show Below w.heap.size w w1 by rw [← hw1]; exact (Below.refl w.heap.size w).alloc (Nat.le_refl _) _)
  have HX1 := Lib.hid (show BlkV w1 w.heap.size 32 #[.int .i64 y, .slice a n c] by rw [← hw1]; exact BlkV.new _ _ _)
  have HS := Lib.hid (h.below HB1.out)
  have HI := Lib.hid (InI.below hin HB1.out)
  have q0 := HX1.out.two0
  have q1 := HX1.out.two1
  clear h hin hn hy hA hB hnd hf h6 hl
  go_enter Tryz.func42, Tryz.ntmps42
  go_wp2
  clear q0 q1
  go_loopw [6, 7] (fun v i wr => ∃ (q : Int) (m : Nat), v = .int .i64 q ∧ i = .int .i64 m ∧ 0 ≤ q ∧ q ≤ (n : Int) + 1 ∧ (wkD D l q).1 = A ∧ m + (wkD D l q).2 = B ∧ Below w1.heap.size w1 wr) (fun v _ _ => (intOf v).toNat)
  case atStart => exact ⟨y, 0, rfl, rfl, HY.out.1, HY.out.2, HA.out, by rw [Nat.zero_add]; exact HBB.out, Below.refl _ _⟩
  case round =>
    obtain ⟨q, m, rfl, rfl, hq0, hqn, hA, hB, hb⟩ := hrel
    have HA2 := Lib.hid hA
    have HBQ := Lib.hid hB
    have HB := Lib.hid hb
    have hmB : (m : Int) ≤ 4000001 := by have := HBL.out; omega
    have q0 := (HX1.out.below hb).two0
    have q1 := (HX1.out.below hb).two1
    clear hA hB hb
    by_cases h2 : 1 < q
    · obtain ⟨i, rfl⟩ : ∃ i : Nat, q = (i : Int) + 2 := ⟨(q - 2).toNat, by omega⟩
      obtain ⟨b2, o2, f, t, u, z, rfl, hb2, hx, p0, p1, p2, p3⟩ := (HS.out.inDn.below HB.out).at_ (show i < D.length by rw [HN.out]; omega)
      have hnum := num_of (dv_of (nodes_iff.1 HND.out i _ hx)).1
      have hf05 : 0 ≤ f ∧ f ≤ 5 := hnum.1
      obtain ⟨j, rfl⟩ : ∃ j : Nat, f = (j : Int) := ⟨f.toNat, by omega⟩
      have hj6 : (j : Int) < 6 := by omega
      clear hf05
      obtain ⟨v, hv⟩ : ∃ v, l[j]? = some v := ⟨_, List.getElem?_eq_getElem (by rw [HL6.out]; omega)⟩
      obtain ⟨b3, o3, rfl, hb3, hc3⟩ := HI.out (by rw [HL6.out]; omega)
      have hc := hc3 j v hv
      obtain ⟨g, hg⟩ : ∃ g, goesT ((((j : Int), t), (u, z)) : DN) l = g := ⟨_, rfl⟩
      have hgi := goes_in (l := l) HND.out hx
      rw [hg] at hgi
      have hst := wk_step (l := l) HND.out rfl hx
      rw [hg] at hst
      have HST := Lib.hid hst
      have HGI := Lib.hid hgi
      have hgd : (if t ≤ v then z else u) = g := by
        rw [← hg]
        unfold goesT
        have e1 : l.getD ((j : Int).toNat) 0 = v := by rw [Int.toNat_natCast]; simp [hv]
        show _ = if t ≤ l.getD ((j : Int).toNat) 0 then z else u
        rw [e1]
      obtain ⟨W1, hW1⟩ : ∃ W1, wr.alloc (.cells #[.int .i64 (j : Int), .int .i64 t, .int .i64 u, .int .i64 z] 59) = W1 := ⟨_, rfl⟩
      have HWB := Lib.hid (show Below wr.heap.size wr W1 by rw [← hW1]; exact (Below.refl _ _).alloc (Nat.le_refl _) _)
      have HT4 := Lib.hid (show BlkV W1 wr.heap.size 59 #[.int .i64 (j : Int), .int .i64 t, .int .i64 u, .int .i64 z] by rw [← hW1]; exact BlkV.new _ _ _)
      have x0 := HT4.out.four0'
      have x1 := HT4.out.four1'
      have hc1 : W1.cell? ⟨b3, o3 + j, none⟩ = some (.int .i64 v) := ((HB.out.trans (HWB.out.mono HB.out.size)).cell (p := ⟨b3, o3 + j, none⟩) hb3).trans hc
      have HGD := Lib.hid hgd
      have hin : (i : Int) < (n : Int) := by omega
      clear hnum hv hc3 hc hg hgi hst hgd hx hb2 hb3
      by_cases htv : t ≤ v
      · obtain rfl : z = g := by rw [← HGD.out, if_pos htv]
        go_wp2_with (fail)
        go_quiet (fail)
        have HBx := Lib.hid (dquiet_f W1.heap.size W1 nq)
        generalize W1.drewN nq = wx at HBx ⊢
        have y2 := (HT4.out.below HBx.out).four2'
        have y3 := (HT4.out.below HBx.out).four3'
        clear x0 x1 hc1 q0 q1
        go_wp2
        go_roundw
        case rel => exact ⟨z, m + 1, rfl, by go_num, HGI.out.1, by have := HGI.out.2; omega, by have h := HST.out; rw [← HA2.out, h], by have h := HST.out; have h2 := HBQ.out; rw [h] at h2; simp at h2; omega, HB.out.trans ((HWB.out.trans (HBx.out.mono HWB.out.size)).mono HB.out.size)⟩
        case measure => have := HGI.out; simp [intOf]; omega
      · obtain rfl : u = g := by rw [← HGD.out, if_neg htv]
        go_wp2_with (fail)
        go_quiet (fail)
        have HBx := Lib.hid (dquiet_f W1.heap.size W1 nq)
        generalize W1.drewN nq = wx at HBx ⊢
        have y2 := (HT4.out.below HBx.out).four2'
        have y3 := (HT4.out.below HBx.out).four3'
        clear x0 x1 hc1 q0 q1
        go_wp2
        go_roundw
        case rel => exact ⟨u, m + 1, rfl, by go_num, HGI.out.1, by have := HGI.out.2; omega, by have h := HST.out; rw [← HA2.out, h], by have h := HST.out; have h2 := HBQ.out; rw [h] at h2; simp at h2; omega, HB.out.trans ((HWB.out.trans (HBx.out.mono HWB.out.size)).mono HB.out.size)⟩
        case measure => have := HGI.out; simp [intOf]; omega
    · have h3 : ¬ 2 ≤ q := by omega
      have hw := wk_end (D := D) (l := l) (r := q) (by omega)
      have HQ := Lib.hid (show q = A by rw [← HA2.out, hw])
      have HM := Lib.hid (show m = B by have h := HBQ.out; rw [hw] at h; simpa using h)
      clear hw
      obtain rfl : q = A := HQ.out
      obtain rfl : m = B := HM.out
      go_wp2
      go_ret2
      exact ⟨rfl, HB1.out.trans (HB.out.mono HB1.out.size)⟩

set_option maxRecDepth 100000 in
set_option maxHeartbeats 4000000 in
theorem fo_impl (y : Int) (a : Option Addr) (c : Nat) (D : List DN) (aF : Option Addr) (cF : Nat) (l : List Int) (A : Int) (B : Nat) (w : World) (hr : foR y D l = (A, B)) (h : SmDn w a D c) (hl : l.length ≤ 4000000) (hin : InI w aF l) :
    Calls Tryz.prog 40 #[.agg #[.int .i64 y, .slice a D.length c], .slice aF l.length cF] w fun e w' => e = .returned (.tuple #[.int .i64 A, .int .i64 (B : Int)]) ∧ Below w.heap.size w w' := by
  have hl4 := h.len
  have HR := Lib.hid hr
  obtain ⟨w1, hw1⟩ : ∃ w1, w.alloc (.cells #[.int .i64 y, .slice a D.length c] 32) = w1 := ⟨_, rfl⟩
  have HB1 := Lib.hid (show Below w.heap.size w w1 by rw [← hw1]; exact (Below.refl w.heap.size w).alloc (Nat.le_refl _) _)
  have HX1 := Lib.hid (show BlkV w1 w.heap.size 32 #[.int .i64 y, .slice a D.length c] by rw [← hw1]; exact BlkV.new _ _ _)
  have HS := Lib.hid (h.below HB1.out)
  have HI := Lib.hid (InI.below hin HB1.out)
  have q0 := HX1.out.two0
  have q1 := HX1.out.two1
  obtain ⟨db, hdb⟩ : ∃ b, dgB y D = b := ⟨_, rfl⟩
  have HDB := Lib.hid hdb
  obtain ⟨fb, hfb⟩ : ∃ b, fvB l = b := ⟨_, rfl⟩
  have HFB := Lib.hid hfb
  clear h hin hr hdb hfb
  cases db
  · have hz : (0, 0) = (A, B) := by rw [← HR.out]; unfold foR; rw [HDB.out]; rfl
    obtain ⟨rfl, rfl⟩ := Prod.mk.inj hz
    go_enter Tryz.func40, Tryz.ntmps40
    go_wp2_with (go_at_call 18; ((with_reducible refine (dg_impl y a c D _ _ HDB.out HS.out).mono ?_); rintro e w2 ⟨rfl, hb⟩; have HB2 := Lib.hid (HB1.out.trans (hb.mono HB1.out.size)); clear hb))
    go_ret2
    exact ⟨rfl, HB2.out⟩
  cases fb
  · have hz : (0, 0) = (A, B) := by rw [← HR.out]; unfold foR; rw [HDB.out, HFB.out]; rfl
    obtain ⟨rfl, rfl⟩ := Prod.mk.inj hz
    go_enter Tryz.func40, Tryz.ntmps40
    go_wp2_with (first
      | (go_at_call 18; ((with_reducible refine (dg_impl y a c D _ _ HDB.out HS.out).mono ?_); rintro e w2 ⟨rfl, hb⟩; have HB2 := Lib.hid (HB1.out.trans (hb.mono HB1.out.size)); have HI2 := Lib.hid (InI.below HI.out hb); clear hb))
      | (go_at_call 30; ((with_reducible refine (fv_impl aF cF l _ _ hl HI2.out HFB.out).mono ?_); rintro e w3 ⟨rfl, rfl⟩)))
    go_ret2
    exact ⟨rfl, HB2.out⟩
  have hwk : wkD D l y = (A, B) := by rw [← HR.out]; unfold foR; rw [HDB.out, HFB.out]; rfl
  have hnd := dg_nodes HDB.out
  have HF6 := Lib.hid HFB.out
  have HL6 := Lib.hid (fv_of HFB.out).1
  have HND := Lib.hid hnd.2.2
  have HA := Lib.hid (show (wkD D l y).1 = A by rw [hwk])
  have HBB := Lib.hid (show (wkD D l y).2 = B by rw [hwk])
  obtain ⟨n, hn⟩ : ∃ n, D.length = n := ⟨_, rfl⟩
  have HN := Lib.hid hn
  have HY := Lib.hid (show 0 ≤ y ∧ y ≤ (n : Int) + 1 by rw [← hn]; exact hnd.2.1)
  have HBL := Lib.hid (show B ≤ n + 1 by have := wkD_le D l y; have := HY.out; have := HBB.out; omega)
  clear hwk hnd hn
  go_enter Tryz.func40, Tryz.ntmps40
  go_wp2_with (first
    | (go_at_call 18; ((with_reducible refine (dg_impl y a c D _ _ HDB.out HS.out).mono ?_); rintro e w2 ⟨rfl, hb⟩; have HB2 := Lib.hid (HB1.out.trans (hb.mono HB1.out.size)); have HI2 := Lib.hid (InI.below HI.out hb); have HS2 := Lib.hid (HS.out.below hb); have HX2 := Lib.hid (HX1.out.below hb); have p0 := HX2.out.two0; have p1 := HX2.out.two1; clear hb))
    | (go_at_call 30; ((with_reducible refine (fv_impl aF cF l _ _ hl HI2.out HFB.out).mono ?_); rintro e w3 ⟨rfl, rfl⟩; refine Hid.out ?_)))
  rw [HN.out] at HX2 p1 hl4
  rw [HN.out, HL6.out]
  refine Lib.hid ?_
  clear q0 q1 hw1
  skip
  go_wp2
  clear p0 p1
  go_loopw [6, 7] (fun v i wr => ∃ (q : Int) (m : Nat), v = .int .i64 q ∧ i = .int .i64 m ∧ 0 ≤ q ∧ q ≤ (n : Int) + 1 ∧ (wkD D l q).1 = A ∧ m + (wkD D l q).2 = B ∧ Below w2.heap.size w2 wr) (fun v _ _ => (intOf v).toNat)
  case atStart => exact ⟨y, 0, rfl, rfl, HY.out.1, HY.out.2, HA.out, by rw [Nat.zero_add]; exact HBB.out, Below.refl _ _⟩
  case round =>
    obtain ⟨q, m, rfl, rfl, hq0, hqn, hA, hB, hb⟩ := hrel
    have HA2 := Lib.hid hA
    have HBQ := Lib.hid hB
    have HB := Lib.hid hb
    have hmB : (m : Int) ≤ 4000001 := by have := HBL.out; omega
    have q0 := (HX2.out.below hb).two0
    have q1 := (HX2.out.below hb).two1
    clear hA hB hb
    by_cases h2 : 1 < q
    · obtain ⟨i, rfl⟩ : ∃ i : Nat, q = (i : Int) + 2 := ⟨(q - 2).toNat, by omega⟩
      obtain ⟨b2, o2, f, t, u, z, rfl, hb2, hx, p0, p1, p2, p3⟩ := (HS2.out.inDn.below HB.out).at_ (show i < D.length by rw [HN.out]; omega)
      have hnum := num_of (dv_of (nodes_iff.1 HND.out i _ hx)).1
      have hf05 : 0 ≤ f ∧ f ≤ 5 := hnum.1
      obtain ⟨j, rfl⟩ : ∃ j : Nat, f = (j : Int) := ⟨f.toNat, by omega⟩
      have hj6 : (j : Int) < 6 := by omega
      clear hf05
      obtain ⟨v, hv⟩ : ∃ v, l[j]? = some v := ⟨_, List.getElem?_eq_getElem (by rw [HL6.out]; omega)⟩
      obtain ⟨b3, o3, rfl, hb3, hc3⟩ := HI2.out (by rw [HL6.out]; omega)
      have hc := hc3 j v hv
      obtain ⟨g, hg⟩ : ∃ g, goesT ((((j : Int), t), (u, z)) : DN) l = g := ⟨_, rfl⟩
      have hgi := goes_in (l := l) HND.out hx
      rw [hg] at hgi
      have hst := wk_step (l := l) HND.out rfl hx
      rw [hg] at hst
      have HST := Lib.hid hst
      have HGI := Lib.hid hgi
      have hgd : (if t ≤ v then z else u) = g := by
        rw [← hg]
        unfold goesT
        have e1 : l.getD ((j : Int).toNat) 0 = v := by rw [Int.toNat_natCast]; simp [hv]
        show _ = if t ≤ l.getD ((j : Int).toNat) 0 then z else u
        rw [e1]
      obtain ⟨W1, hW1⟩ : ∃ W1, wr.alloc (.cells #[.int .i64 (j : Int), .int .i64 t, .int .i64 u, .int .i64 z] 59) = W1 := ⟨_, rfl⟩
      have HWB := Lib.hid (show Below wr.heap.size wr W1 by rw [← hW1]; exact (Below.refl _ _).alloc (Nat.le_refl _) _)
      have HT4 := Lib.hid (show BlkV W1 wr.heap.size 59 #[.int .i64 (j : Int), .int .i64 t, .int .i64 u, .int .i64 z] by rw [← hW1]; exact BlkV.new _ _ _)
      have x0 := HT4.out.four0'
      have x1 := HT4.out.four1'
      have hc1 : W1.cell? ⟨b3, o3 + j, none⟩ = some (.int .i64 v) := ((HB.out.trans (HWB.out.mono HB.out.size)).cell (p := ⟨b3, o3 + j, none⟩) hb3).trans hc
      have HGD := Lib.hid hgd
      have hin : (i : Int) < (n : Int) := by omega
      clear hnum hv hc3 hc hg hgi hst hgd hx hb2 hb3
      by_cases htv : t ≤ v
      · obtain rfl : z = g := by rw [← HGD.out, if_pos htv]
        go_wp2_with (fail)
        go_quiet (fail)
        have HBx := Lib.hid (dquiet_f W1.heap.size W1 nq)
        generalize W1.drewN nq = wx at HBx ⊢
        have y2 := (HT4.out.below HBx.out).four2'
        have y3 := (HT4.out.below HBx.out).four3'
        clear x0 x1 hc1 q0 q1
        go_wp2
        go_roundw
        case rel => exact ⟨z, m + 1, rfl, by go_num, HGI.out.1, by have := HGI.out.2; omega, by have h := HST.out; rw [← HA2.out, h], by have h := HST.out; have h2 := HBQ.out; rw [h] at h2; simp at h2; omega, HB.out.trans ((HWB.out.trans (HBx.out.mono HWB.out.size)).mono HB.out.size)⟩
        case measure => have := HGI.out; simp [intOf]; omega
      · obtain rfl : u = g := by rw [← HGD.out, if_neg htv]
        go_wp2_with (fail)
        go_quiet (fail)
        have HBx := Lib.hid (dquiet_f W1.heap.size W1 nq)
        generalize W1.drewN nq = wx at HBx ⊢
        have y2 := (HT4.out.below HBx.out).four2'
        have y3 := (HT4.out.below HBx.out).four3'
        clear x0 x1 hc1 q0 q1
        go_wp2
        go_roundw
        case rel => exact ⟨u, m + 1, rfl, by go_num, HGI.out.1, by have := HGI.out.2; omega, by have h := HST.out; rw [← HA2.out, h], by have h := HST.out; have h2 := HBQ.out; rw [h] at h2; simp at h2; omega, HB.out.trans ((HWB.out.trans (HBx.out.mono HWB.out.size)).mono HB.out.size)⟩
        case measure => have := HGI.out; simp [intOf]; omega
    · have h3 : ¬ 2 ≤ q := by omega
      have hw := wk_end (D := D) (l := l) (r := q) (by omega)
      have HQ := Lib.hid (show q = A by rw [← HA2.out, hw])
      have HM := Lib.hid (show m = B by have h := HBQ.out; rw [hw] at h; simpa using h)
      clear hw
      obtain rfl : q = A := HQ.out
      obtain rfl : m = B := HM.out
      go_wp2
      go_ret2
      exact ⟨rfl, HB2.out.trans (HB.out.mono HB2.out.size)⟩

set_option maxRecDepth 100000 in
set_option maxHeartbeats 2000000 in
theorem ev_spec (y : Int) (a : Option Addr) (c : Nat) (D : List DN) (aF : Option Addr) (cF : Nat) (l : List Int) (r : Bool) (w : World) (hr : evR y D l = r) (h : SmDn w a D c) (hl : l.length ≤ 4000000) (hin : InI w aF l) :
    Calls Tryz.prog 15 #[.agg #[.int .i64 y, .slice a D.length c], .slice aF l.length cF] w fun e w' => e = .returned (.bool r) ∧ Below w.heap.size w w' := by
  obtain ⟨w1, hw1⟩ : ∃ w1, w.alloc (.cells #[.int .i64 y, .slice a D.length c] 32) = w1 := ⟨_, rfl⟩
  have HB1 := Lib.hid (show Below w.heap.size w w1 by rw [← hw1]; exact (Below.refl w.heap.size w).alloc (Nat.le_refl _) _)
  have HX1 := Lib.hid (show BlkV w1 w.heap.size 32 #[.int .i64 y, .slice a D.length c] by rw [← hw1]; exact BlkV.new _ _ _)
  have HS := Lib.hid (h.below HB1.out)
  have HI := Lib.hid (InI.below hin HB1.out)
  have HR := Lib.hid hr
  have q0 := HX1.out.two0
  have q1 := HX1.out.two1
  clear h hin hr
  obtain ⟨db, hdb⟩ : ∃ b, dgB y D = b := ⟨_, rfl⟩
  have HDB := Lib.hid hdb
  obtain ⟨fb, hfb⟩ : ∃ b, fvB l = b := ⟨_, rfl⟩
  have HFB := Lib.hid hfb
  clear hdb hfb
  cases db
  · obtain rfl : false = r := by rw [← HR.out]; unfold evR; rw [HDB.out]; rfl
    go_enter Tryz.func15, Tryz.ntmps15
    go_wp2_with (go_at_call 19; ((with_reducible refine (dg_spec y a c D _ _ HDB.out HS.out).mono ?_); rintro e w2 ⟨rfl, hb⟩; have HB2 := Lib.hid (HB1.out.trans (hb.mono HB1.out.size)); clear hb))
    go_ret
    exact ⟨rfl, HB2.out⟩
  cases fb
  · obtain rfl : false = r := by rw [← HR.out]; unfold evR; rw [HDB.out, HFB.out]; rfl
    go_enter Tryz.func15, Tryz.ntmps15
    go_wp2_with (first
      | (go_at_call 19; ((with_reducible refine (dg_spec y a c D _ _ HDB.out HS.out).mono ?_); rintro e w2 ⟨rfl, hb⟩; have HB2 := Lib.hid (HB1.out.trans (hb.mono HB1.out.size)); have HI2 := Lib.hid (InI.below HI.out hb); clear hb))
      | (go_at_call 41; ((with_reducible refine (fv_spec aF cF l _ _ hl HI2.out HFB.out).mono ?_); rintro e w3 ⟨rfl, rfl⟩)))
    go_ret
    exact ⟨rfl, HB2.out⟩
  have HRA := Lib.hid (show decide ((wkD D l y).1 = 1) = r by rw [← HR.out]; unfold evR; rw [HDB.out, HFB.out]; rfl)
  go_enter Tryz.func15, Tryz.ntmps15
  go_wp2_with (first
      | (go_at_call 19; ((with_reducible refine (dg_spec y a c D _ _ HDB.out HS.out).mono ?_); rintro e w2 ⟨rfl, hb⟩; have HB2 := Lib.hid (HB1.out.trans (hb.mono HB1.out.size)); have HI2 := Lib.hid (InI.below HI.out hb); have HS2 := Lib.hid (HS.out.below hb); have p0 := (HX1.out.below hb).two0; have p1 := (HX1.out.below hb).two1; clear hb))
      | (go_at_call 41; ((with_reducible refine (fv_spec aF cF l _ _ hl HI2.out HFB.out).mono ?_); rintro e w3 ⟨rfl, rfl⟩))
      | (go_at_call 42; ((with_reducible refine (wa_spec y a c D aF cF l _ _ w2 rfl rfl (dg_nodes HDB.out).2.2 (dg_nodes HDB.out).2.1 HFB.out HS2.out hl HI2.out).mono ?_); rintro e w4 ⟨rfl, hb⟩; refine Hid.out ?_)))
  have HB4 := Lib.hid (HB2.out.trans (hb.mono HB2.out.size))
  clear hb q0 q1 p0 p1
  refine Lib.hid ?_
  obtain ⟨A, hA⟩ : ∃ A, (wkD D l y).1 = A := ⟨_, rfl⟩
  have HRB := Lib.hid (show decide (A = 1) = r by rw [← hA]; exact HRA.out)
  rw [hA]
  clear hA
  obtain ⟨b, hb⟩ : ∃ b, (A == 1) = b := ⟨_, rfl⟩
  obtain rfl : b = r := by rw [← hb, ← HRB.out]; by_cases e : A = 1 <;> simp [e]
  go_wp2
  go_ret
  exact ⟨rfl, HB4.out⟩

set_option maxRecDepth 100000 in
set_option maxHeartbeats 2000000 in
theorem ev_impl (y : Int) (a : Option Addr) (c : Nat) (D : List DN) (aF : Option Addr) (cF : Nat) (l : List Int) (r : Bool) (w : World) (hr : evR y D l = r) (h : SmDn w a D c) (hl : l.length ≤ 4000000) (hin : InI w aF l) :
    Calls Tryz.prog 14 #[.agg #[.int .i64 y, .slice a D.length c], .slice aF l.length cF] w fun e w' => e = .returned (.bool r) ∧ Below w.heap.size w w' := by
  obtain ⟨w1, hw1⟩ : ∃ w1, w.alloc (.cells #[.int .i64 y, .slice a D.length c] 32) = w1 := ⟨_, rfl⟩
  have HB1 := Lib.hid (show Below w.heap.size w w1 by rw [← hw1]; exact (Below.refl w.heap.size w).alloc (Nat.le_refl _) _)
  have HX1 := Lib.hid (show BlkV w1 w.heap.size 32 #[.int .i64 y, .slice a D.length c] by rw [← hw1]; exact BlkV.new _ _ _)
  have HS := Lib.hid (h.below HB1.out)
  have HI := Lib.hid (InI.below hin HB1.out)
  have HR := Lib.hid hr
  have q0 := HX1.out.two0
  have q1 := HX1.out.two1
  clear h hin hr
  obtain ⟨A, B, hfo⟩ : ∃ A B, foR y D l = (A, B) := ⟨_, _, rfl⟩
  have HF := Lib.hid (fo_impl y a c D aF cF l A B w1 hfo HS.out hl HI.out)
  have HRA := Lib.hid (show decide (A = 1) = r by rw [← HR.out]; exact fo_ev hfo)
  clear hfo
  by_cases hA : A = 1
  all_goals
    obtain ⟨b, hb⟩ : ∃ b, (A == 1) = b := ⟨_, rfl⟩
    obtain rfl : b = r := by rw [← hb, ← HRA.out]; simp [hA]
    clear hA
    go_enter Tryz.func14, Tryz.ntmps14
    go_wp2_with (go_at_call 40; ((with_reducible refine HF.out.mono ?_); rintro e w2 ⟨rfl, hb⟩; have HB2 := Lib.hid (HB1.out.trans (hb.mono HB1.out.size)); clear hb))
    go_ret
    exact ⟨rfl, HB2.out⟩

set_option maxRecDepth 100000 in
set_option maxHeartbeats 2000000 in
theorem te_spec (y : Int) (a : Option Addr) (c : Nat) (D : List DN) (aF : Option Addr) (cF : Nat) (l : List Int) (r : Int) (w : World) (hr : teR y D l = r) (h : SmDn w a D c) (hl : l.length ≤ 4000000) (hin : InI w aF l) :
    Calls Tryz.prog 17 #[.agg #[.int .i64 y, .slice a D.length c], .slice aF l.length cF] w fun e w' => e = .returned (.int .i64 r) ∧ Below w.heap.size w w' := by
  obtain ⟨w1, hw1⟩ : ∃ w1, w.alloc (.cells #[.int .i64 y, .slice a D.length c] 32) = w1 := ⟨_, rfl⟩
  have HB1 := Lib.hid (show Below w.heap.size w w1 by rw [← hw1]; exact (Below.refl w.heap.size w).alloc (Nat.le_refl _) _)
  have HX1 := Lib.hid (show BlkV w1 w.heap.size 32 #[.int .i64 y, .slice a D.length c] by rw [← hw1]; exact BlkV.new _ _ _)
  have HS := Lib.hid (h.below HB1.out)
  have HI := Lib.hid (InI.below hin HB1.out)
  have HR := Lib.hid hr
  have q0 := HX1.out.two0
  have q1 := HX1.out.two1
  clear h hin hr
  obtain ⟨db, hdb⟩ : ∃ b, dgB y D = b := ⟨_, rfl⟩
  have HDB := Lib.hid hdb
  obtain ⟨fb, hfb⟩ : ∃ b, fvB l = b := ⟨_, rfl⟩
  have HFB := Lib.hid hfb
  clear hdb hfb
  cases db
  · obtain rfl : 0 = r := by rw [← HR.out]; unfold teR; rw [HDB.out]; rfl
    go_enter Tryz.func17, Tryz.ntmps17
    go_wp2_with (go_at_call 19; ((with_reducible refine (dg_spec y a c D _ _ HDB.out HS.out).mono ?_); rintro e w2 ⟨rfl, hb⟩; have HB2 := Lib.hid (HB1.out.trans (hb.mono HB1.out.size)); clear hb))
    go_ret
    exact ⟨rfl, HB2.out⟩
  cases fb
  · obtain rfl : 0 = r := by rw [← HR.out]; unfold teR; rw [HDB.out, HFB.out]; rfl
    go_enter Tryz.func17, Tryz.ntmps17
    go_wp2_with (first
      | (go_at_call 19; ((with_reducible refine (dg_spec y a c D _ _ HDB.out HS.out).mono ?_); rintro e w2 ⟨rfl, hb⟩; have HB2 := Lib.hid (HB1.out.trans (hb.mono HB1.out.size)); have HI2 := Lib.hid (InI.below HI.out hb); clear hb))
      | (go_at_call 41; ((with_reducible refine (fv_spec aF cF l _ _ hl HI2.out HFB.out).mono ?_); rintro e w3 ⟨rfl, rfl⟩)))
    go_ret
    exact ⟨rfl, HB2.out⟩
  have HRA := Lib.hid (show ((wkD D l y).2 : Int) = r by rw [← HR.out]; unfold teR; rw [HDB.out, HFB.out]; rfl)
  go_enter Tryz.func17, Tryz.ntmps17
  go_wp2_with (first
      | (go_at_call 19; ((with_reducible refine (dg_spec y a c D _ _ HDB.out HS.out).mono ?_); rintro e w2 ⟨rfl, hb⟩; have HB2 := Lib.hid (HB1.out.trans (hb.mono HB1.out.size)); have HI2 := Lib.hid (InI.below HI.out hb); have HS2 := Lib.hid (HS.out.below hb); have p0 := (HX1.out.below hb).two0; have p1 := (HX1.out.below hb).two1; clear hb))
      | (go_at_call 41; ((with_reducible refine (fv_spec aF cF l _ _ hl HI2.out HFB.out).mono ?_); rintro e w3 ⟨rfl, rfl⟩))
      | (go_at_call 42; ((with_reducible refine (wa_spec y a c D aF cF l _ _ w2 rfl rfl (dg_nodes HDB.out).2.2 (dg_nodes HDB.out).2.1 HFB.out HS2.out hl HI2.out).mono ?_); rintro e w4 ⟨rfl, hb⟩; refine Hid.out ?_)))
  have HB4 := Lib.hid (HB2.out.trans (hb.mono HB2.out.size))
  clear hb q0 q1 p0 p1
  refine Lib.hid ?_
  obtain ⟨B, hB⟩ : ∃ B, (wkD D l y).2 = B := ⟨_, rfl⟩
  obtain rfl : (B : Int) = r := by rw [← hB]; exact HRA.out
  rw [hB]
  clear hB
  go_wp2
  go_ret
  exact ⟨rfl, HB4.out⟩

set_option maxRecDepth 100000 in
set_option maxHeartbeats 2000000 in
theorem te_impl (y : Int) (a : Option Addr) (c : Nat) (D : List DN) (aF : Option Addr) (cF : Nat) (l : List Int) (r : Int) (w : World) (hr : teR y D l = r) (h : SmDn w a D c) (hl : l.length ≤ 4000000) (hin : InI w aF l) :
    Calls Tryz.prog 16 #[.agg #[.int .i64 y, .slice a D.length c], .slice aF l.length cF] w fun e w' => e = .returned (.int .i64 r) ∧ Below w.heap.size w w' := by
  obtain ⟨w1, hw1⟩ : ∃ w1, w.alloc (.cells #[.int .i64 y, .slice a D.length c] 32) = w1 := ⟨_, rfl⟩
  have HB1 := Lib.hid (show Below w.heap.size w w1 by rw [← hw1]; exact (Below.refl w.heap.size w).alloc (Nat.le_refl _) _)
  have HX1 := Lib.hid (show BlkV w1 w.heap.size 32 #[.int .i64 y, .slice a D.length c] by rw [← hw1]; exact BlkV.new _ _ _)
  have HS := Lib.hid (h.below HB1.out)
  have HI := Lib.hid (InI.below hin HB1.out)
  have HR := Lib.hid hr
  have q0 := HX1.out.two0
  have q1 := HX1.out.two1
  clear h hin hr
  obtain ⟨A, B, hfo⟩ : ∃ A B, foR y D l = (A, B) := ⟨_, _, rfl⟩
  have HF := Lib.hid (fo_impl y a c D aF cF l A B w1 hfo HS.out hl HI.out)
  have HRA := Lib.hid (show (B : Int) = r by rw [← HR.out]; exact fo_te hfo)
  clear hfo
  obtain rfl : (B : Int) = r := HRA.out
  go_enter Tryz.func16, Tryz.ntmps16
  go_wp2_with (go_at_call 40; ((with_reducible refine HF.out.mono ?_); rintro e w2 ⟨rfl, hb⟩; have HB2 := Lib.hid (HB1.out.trans (hb.mono HB1.out.size)); clear hb))
  go_ret
  exact ⟨rfl, HB2.out⟩

end Go.Proofs.YtpmfabpnjacegaaGreatDoor
