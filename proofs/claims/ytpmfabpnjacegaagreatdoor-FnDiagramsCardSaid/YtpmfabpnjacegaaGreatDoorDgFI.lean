/-
  What impl.FormatDiagram answers. By an AI agent.
-/
import Derived.Test.YtpmfabpnjacegaaGreatDoorDgV
import Derived.Test.YtpmfabpnjacegaaGreatDoorGQ10
import Derived.Test.YtpmfabpnjacegaaGreatDoorShelfW
import Derived.Test.YtpmfabpnjacegaaGreatDoorGQ4
namespace Go.Proofs.YtpmfabpnjacegaaGreatDoor
open Go.RowKit
set_option linter.unusedVariables false
set_option linter.unusedSimpArgs false
set_option linter.unnecessarySimpa false

theorem bu_at {B b : Nat} {p : Value} {bs : List Value} {w w' : World} (h : Lib.BuilderAt 69 5 B b p bs w) (hb : Below w.heap.size w w') : Lib.BuilderAt 69 5 B b p bs w' := by
  have hlt := h.lt
  obtain ⟨h1, v, h2, h3, h4⟩ := h
  exact ⟨h1, v, (hb.block b hlt).trans h2, World.ownsRow.kept h3 (row := none) ⟨hb.os, hb.tape, hb.output, hb.size, fun i hi _ => hb.block i hi⟩ (by cases hv : v.ownBlock <;> simp), h4⟩
theorem bu_below {B b : Nat} {bs : List Value} {w w' : World} (h : Lib.IsBuilder 69 5 B b bs w) (hb : Below w.heap.size w w') : Lib.IsBuilder 69 5 B b bs w' := by
  rcases h with h | h
  · exact .inl (bu_at h hb)
  · exact .inr (bu_at h hb)
theorem str_cells (s : ByteArray) : Lib.strCells s = Lib.byteCells s.data.toList := rfl

set_option maxRecDepth 100000 in
set_option maxHeartbeats 1600000 in
theorem tt_implD (f t : Int) (r : ByteArray) (w : World) (hv : (0 ≤ f ∧ f ≤ 5) ∧ (-1000000 ≤ t ∧ t ≤ 1000000)) (hr : strOf (vrL (f, t)) = r) (ht : TabAt w) :
    Calls Tryz.prog 71 #[.agg #[.int .i64 f, .int .i64 t, .bool false]] w fun e w' => e = .returned (.string r) ∧ Below w.heap.size w w' := by
  obtain ⟨W1, hW1⟩ : ∃ W1, w.alloc (.cells #[.int .i64 f, .int .i64 t, .bool false] 86) = W1 := ⟨_, rfl⟩
  have HWB := Lib.hid (show Below w.heap.size w W1 by rw [← hW1]; exact (Below.refl _ _).alloc (Nat.le_refl _) _)
  have HT4 := Lib.hid (show BlkV W1 w.heap.size 86 #[.int .i64 f, .int .i64 t, .bool false] by rw [← hW1]; exact BlkV.new _ _ _)
  have HTAB := Lib.hid (ht.on HWB.out)
  have x0 := HT4.out.three0
  have x1 := HT4.out.three1
  have x2 := HT4.out.three2
  obtain ⟨N, hN⟩ : ∃ N, fnR f = N := ⟨_, rfl⟩
  obtain ⟨S, hS⟩ : ∃ S, strOf (Lib.itoa t) = S := ⟨_, rfl⟩
  have hNs : N.size ≤ 6 := by rw [← hN]; exact fnl6 f
  have ht0 : -9223372036854775808 ≤ t := by omega
  have ht1 : t ≤ 9223372036854775807 := by omega
  have hSs : S.size ≤ 21 := by rw [← hS, strOf_size]; exact Lib.itoa_length_le t ht0 ht1
  have HNN := Lib.hid hN
  have HSS := Lib.hid hS
  have HTB := Lib.hid (And.intro ht0 ht1)
  have HR := Lib.hid (show (N ++ ⟨#[62, 61]⟩) ++ S = r by rw [← hr]; exact vr_str hN hS)
  have z2 : ¬ 9223372036854775807 < N.size + 2 := by omega
  have z4 : ¬ 9223372036854775807 < N.size + 2 + S.size := by omega
  clear hv hr ht ht0 ht1 hN hS
  go_enter Tryz.func71, Tryz.ntmps71
  go_wp2_with (fail)
  go_region_held3 (fun w' => w'.cell? ⟨w.heap.size, 0, none⟩ = some (.int .i64 f) ∧ w'.cell? ⟨w.heap.size, 1, none⟩ = some (.int .i64 t))
    (first | exact ⟨y0, y1⟩ | exact ⟨x0, x1⟩)
    (first
      | (go_at_call 91; (with_reducible refine (fn_impl f N _ HNN.out).mono ?_); rintro e w2 ⟨rfl, rfl⟩)
      | (go_at_call 34; (with_reducible refine (impl_fi_at t S _ HTB.out.1 HTB.out.2 ?_ HSS.out).mono ?_); exact HTAB.out; rintro e w3 ⟨rfl, hb⟩; have hr := undrew hb; have y0 := (HT4.out.below hr).three0; have y1 := (HT4.out.below hr).three1; have HB3 := Lib.hid (HWB.out.trans (hr.mono HWB.out.size)); clear hb hr))
  all_goals
    go_wp2
    go_ret
    exact ⟨fret_str (by rw [← HR.out]), HB3.out⟩

set_option maxRecDepth 100000 in
set_option maxHeartbeats 3200000 in
theorem nd_impl (f t u z : Int) (r : ByteArray) (w : World) (hv : ((0 ≤ f ∧ f ≤ 5) ∧ (-1000000 ≤ t ∧ t ≤ 1000000)) ∧ (-1000000 ≤ u ∧ u ≤ 1000000) ∧ (-1000000 ≤ z ∧ z ≤ 1000000)) (hr : strOf (ndL ((f, t), (u, z))) = r) (ht : TabAt w) :
    Calls Tryz.prog 35 #[.agg #[.int .i64 f, .int .i64 t, .int .i64 u, .int .i64 z]] w fun e w' => e = .returned (.string r) ∧ Below w.heap.size w w' := by
  obtain ⟨W1, hW1⟩ : ∃ W1, w.alloc (.cells #[.int .i64 f, .int .i64 t, .int .i64 u, .int .i64 z] 59) = W1 := ⟨_, rfl⟩
  have G := Lib.hid (show Below w.heap.size w W1 by rw [← hW1]; exact (Below.refl _ _).alloc (Nat.le_refl _) _)
  have T := Lib.hid (show BlkV W1 w.heap.size 59 #[.int .i64 f, .int .i64 t, .int .i64 u, .int .i64 z] by rw [← hW1]; exact BlkV.new _ _ _)
  have HWW := Lib.hid hW1
  have HTAB := Lib.hid ht
  have x0 := T.out.four0'
  have x1 := T.out.four1'
  have x2 := T.out.four2'
  have x3 := T.out.four3'
  have HF := Lib.hid hv.1
  obtain ⟨V, hV⟩ : ∃ V, strOf (vrL (f, t)) = V := ⟨_, rfl⟩
  have hVs : V.size ≤ 29 := by
    rw [← hV, strOf_size]
    have h1 := fnl6 f
    have h2 := itoa21 hv.1.2.1 hv.1.2.2
    simp only [vrL, List.length_append, List.length_cons, List.length_nil]
    omega
  have HVV := Lib.hid hV
  obtain ⟨H, hH⟩ : ∃ s, strOf (Lib.itoa (z)) = s := ⟨_, rfl⟩
  have HBH : Hid (-9223372036854775808 ≤ (z : Int) ∧ (z : Int) ≤ 9223372036854775807) := Lib.hid (by omega)
  have hzH : H.size ≤ 21 := by rw [← hH, strOf_size]; exact Lib.itoa_length_le _ HBH.out.1 HBH.out.2
  have HH := Lib.hid hH
  clear hH
  obtain ⟨L, hL⟩ : ∃ s, strOf (Lib.itoa (u)) = s := ⟨_, rfl⟩
  have HBL : Hid (-9223372036854775808 ≤ (u : Int) ∧ (u : Int) ≤ 9223372036854775807) := Lib.hid (by omega)
  have hzL : L.size ≤ 21 := by rw [← hL, strOf_size]; exact Lib.itoa_length_le _ HBL.out.1 HBL.out.2
  have HL := Lib.hid hL
  clear hL
  have HR := Lib.hid (show (((V ++ ⟨#[32]⟩) ++ H) ++ ⟨#[32]⟩) ++ L = r by rw [← hr]; exact nd_str (x := ((f, t), (u, z))) hV HH.out HL.out)
  have z1 : ¬ 9223372036854775807 < V.size + 1 := by omega
  have z2 : ¬ 9223372036854775807 < V.size + 1 + H.size := by omega
  have z3 : ¬ 9223372036854775807 < V.size + 1 + H.size + 1 := by omega
  have z4 : ¬ 9223372036854775807 < V.size + 1 + H.size + 1 + L.size := by omega
  clear hv hr ht hV
  go_enter Tryz.func35, Tryz.ntmps35
  go_wp2_with (fail)
  go_region_held3 (fun w' => w'.cell? ⟨w.heap.size, 0, none⟩ = some (.int .i64 f) ∧ w'.cell? ⟨w.heap.size, 1, none⟩ = some (.int .i64 t) ∧ w'.cell? ⟨w.heap.size, 2, none⟩ = some (.int .i64 u) ∧ w'.cell? ⟨w.heap.size, 3, none⟩ = some (.int .i64 z))
    (first | exact ⟨e0, e1, e2, e3⟩ | exact ⟨x0, x1, x2, x3⟩)
    (first
      | (go_at_call 70; (with_reducible refine Calls.mono (dnvar_is f t u z _) ?_); rintro e w2 ⟨rfl, hb⟩; have hr := undrew hb; have T2 := Lib.hid (T.out.below hr); have G2 := Lib.hid (G.out.trans (hr.mono G.out.size)); have e0 := T2.out.four0'; have e1 := T2.out.four1'; have e2 := T2.out.four2'; have e3 := T2.out.four3'; clear hb hr)
      | (go_at_call 71; (with_reducible refine Calls.mono (tt_implD f t V _ HF.out HVV.out (HTAB.out.on G2.out)) ?_); rintro e w3 ⟨rfl, hb⟩; have hr := hb; have T3 := Lib.hid (T2.out.below hr); have G3 := Lib.hid (G2.out.trans (hr.mono G2.out.size)); clear e0 e1 e2 e3; have e0 := T3.out.four0'; have e1 := T3.out.four1'; have e2 := T3.out.four2'; have e3 := T3.out.four3'; clear hb hr)
      | (go_at_call 34; (with_reducible refine Calls.mono (impl_fi_at z H _ HBH.out.1 HBH.out.2 (HTAB.out.on G3.out) HH.out) ?_); rintro e w4 ⟨rfl, hb⟩; have hr := hb; have T4 := Lib.hid (T3.out.below hr); have G4 := Lib.hid (G3.out.trans (hr.mono G3.out.size)); clear e0 e1 e2 e3; have e0 := T4.out.four0'; have e1 := T4.out.four1'; have e2 := T4.out.four2'; have e3 := T4.out.four3'; clear hb hr)
      | (go_at_call 34; (with_reducible refine Calls.mono (impl_fi_at u L _ HBL.out.1 HBL.out.2 (HTAB.out.on G4.out) HL.out) ?_); rintro e w5 ⟨rfl, hb⟩; have hr := hb; have T5 := Lib.hid (T4.out.below hr); have G5 := Lib.hid (G4.out.trans (hr.mono G4.out.size)); clear e0 e1 e2 e3; have e0 := T5.out.four0'; have e1 := T5.out.four1'; have e2 := T5.out.four2'; have e3 := T5.out.four3'; clear hb hr))
  go_wp2
  go_ret
  exact ⟨fret_str (by rw [← HR.out]), G5.out⟩

set_option maxRecDepth 100000 in
set_option maxHeartbeats 8000000 in
theorem fd_impl (y : Int) (a : Option Addr) (c : Nat) (D : List DN) (r : ByteArray) (w : World) (hr : dgR y D = r) (h : SmDn w a D c) (ht : TabAt w) :
    Calls Tryz.prog 11 #[.agg #[.int .i64 y, .slice a D.length c]] w fun e w' => e = .returned (.string r) ∧ Below w.heap.size w w' := by
  obtain ⟨w1, hw1⟩ : ∃ w1, w.alloc (.cells #[.int .i64 y, .slice a D.length c] 32) = w1 := ⟨_, rfl⟩
  have HB1 := Lib.hid (show Below w.heap.size w w1 by rw [← hw1]; exact (Below.refl w.heap.size w).alloc (Nat.le_refl _) _)
  have HX1 := Lib.hid (show BlkV w1 w.heap.size 32 #[.int .i64 y, .slice a D.length c] by rw [← hw1]; exact BlkV.new _ _ _)
  have HS := Lib.hid (h.below HB1.out)
  have HR := Lib.hid hr
  have HTAB := Lib.hid ht
  have q0 := HX1.out.two0
  have q1 := HX1.out.two1
  obtain ⟨db, hdb⟩ : ∃ b, dgB y D = b := ⟨_, rfl⟩
  have HDB := Lib.hid hdb
  clear h hr hdb ht
  cases db
  · obtain rfl : ⟨#[]⟩ = r := by rw [← HR.out, dgR_no HDB.out]
    go_enter Tryz.func11, Tryz.ntmps11
    go_wp2_with (go_at_call 18; ((with_reducible refine (dg_impl y a c D _ _ HDB.out HS.out).mono ?_); rintro e w2 ⟨rfl, hb⟩; have HB2 := Lib.hid (HB1.out.trans (hb.mono HB1.out.size)); clear hb))
    go_ret
    exact ⟨rfl, HB2.out⟩
  have HSM := Lib.hid (dg_small HDB.out)
  have hn2 := (dg_nodes HDB.out).1
  have hy := HSM.out.1
  obtain ⟨Y, hY⟩ : ∃ s, strOf (Lib.itoa (y)) = s := ⟨_, rfl⟩
  have HBY : Hid (-9223372036854775808 ≤ (y : Int) ∧ (y : Int) ≤ 9223372036854775807) := Lib.hid (by omega)
  have hzY : Y.size ≤ 21 := by rw [← hY, strOf_size]; exact Lib.itoa_length_le _ HBY.out.1 HBY.out.2
  have HY := Lib.hid hY
  clear hY
  have z0 : ¬ 9223372036854775807 < 5 + Y.size := by omega
  have HZY := Lib.hid (show Y.size ≤ 21 from hzY)
  clear hy
  go_enter Tryz.func11, Tryz.ntmps11
  go_wp2_with (go_at_call 18; ((with_reducible refine (dg_impl y a c D _ _ HDB.out HS.out).mono ?_); rintro e w2 ⟨rfl, hb⟩; refine Hid.out ?_))
  have HB2 := Lib.hid (HB1.out.trans (hb.mono HB1.out.size))
  have HX2 := Lib.hid (HX1.out.below hb)
  have HS2 := Lib.hid (HS.out.below hb)
  obtain ⟨w3, hw3⟩ : ∃ x, w2.alloc (.cells #[.pointer none, .slice none 0 0] 69) = x := ⟨_, rfl⟩
  have HB3 := Lib.hid (show Below w2.heap.size w2 w3 by rw [← hw3]; exact (Below.refl _ _).alloc (Nat.le_refl _) _)
  have HX3 := Lib.hid (HX2.out.below HB3.out)
  have U3 := Lib.hid (show Lib.IsBuilder 69 5 w2.heap.size w2.heap.size [] w3 by rw [← hw3]; exact Lib.fresh_isBuilder _ _ _)
  have p0 := HX3.out.two0
  have p1 := HX3.out.two1
  have HT3 := Lib.hid (HTAB.out.on (HB2.out.trans (HB3.out.mono HB2.out.size)))
  clear hb q0 q1 hw1
  refine Lib.hid ?_
  go_wp2_with (first
    | (go_at_call 34; ((with_reducible refine (impl_fi_at y Y _ HBY.out.1 HBY.out.2 HT3.out HY.out).mono ?_); rintro e w4 ⟨rfl, hb⟩; have U4 := Lib.hid (bu_below U3.out hb); have HB4 := Lib.hid (HB3.out.trans (hb.mono HB3.out.size)); clear hb))
    | (go_at_call 33; ((refine (Builder_WriteString w2.heap.size w2.heap.size [] _ _ U4.out (by have := HZY.out; have e1 : (⟨#[114, 111, 111, 116, 32]⟩ : ByteArray).size = 5 := rfl; simp [ByteArray.size_append]; omega) HB4.out.size).mono ?_); rintro e w5 ⟨rfl, hbu, hb⟩; refine Hid.out ?_)))
  have HBU := Lib.hid (show Lib.BuilderAt 69 5 w2.heap.size w2.heap.size (.pointer (some ⟨w2.heap.size, 0, none⟩)) (Lib.byteCells (dgT y D 0)) w5 by
    have e := dgT_first (D := D) HY.out
    rw [List.nil_append, e, str_cells] at hbu
    exact hbu)
  have HB5 := Lib.hid (show Below w2.heap.size w2 w5 from HB4.out.trans hb)
  have HX5 := Lib.hid (HX2.out.below HB5.out)
  clear hb hbu p0 p1 hw3
  have p0 := HX5.out.two0
  have p1 := HX5.out.two1
  obtain ⟨n, hn⟩ : ∃ n, D.length = n := ⟨_, rfl⟩
  have HN := Lib.hid hn
  rw [hn] at HX5 hn2 p1
  rw [hn]
  clear hn
  refine Lib.hid ?_
  go_wp2
  clear p0 p1
  go_loopw [17] (fun i wr => ∃ k : Nat, k ≤ n ∧ i = .int .i64 k ∧ Lib.BuilderAt 69 5 w2.heap.size w2.heap.size (.pointer (some ⟨w2.heap.size, 0, none⟩)) (Lib.byteCells (dgT y D k)) wr ∧ Below w2.heap.size w2 wr) (fun i _ => n - (intOf i).toNat)
  case atStart => exact ⟨0, Nat.zero_le _, rfl, HBU.out, HB5.out⟩
  case round =>
    obtain ⟨k, hk, rfl, hbu, hb⟩ := hrel
    have HB := Lib.hid hb
    have HBK := Lib.hid hbu
    clear hb hbu
    have hSs := dgT_size HDB.out k (by rw [HN.out]; exact hk)
    rw [strOf_size] at hSs
    have HSS := Lib.hid hSs
    clear hSs
    by_cases hlt : k < n
    · obtain ⟨b2, o2, f, t, u, z, rfl, hb2, hx, p0, p1, p2, p3⟩ := (HS2.out.inDn.below HB.out).at_ (show k < D.length by rw [HN.out]; exact hlt)
      have hsm := HSM.out.2 _ (List.mem_of_getElem? hx)
      simp only at hsm
      have HX := Lib.hid hx
      have HND := Lib.hid (show ((0 ≤ f ∧ f ≤ 5) ∧ (-1000000 ≤ t ∧ t ≤ 1000000)) ∧ (-1000000 ≤ u ∧ u ≤ 1000000) ∧ (-1000000 ≤ z ∧ z ≤ 1000000) from ⟨⟨hsm.1, hsm.2.1⟩, hsm.2.2⟩)
      obtain ⟨I, hI⟩ : ∃ s, strOf (Lib.itoa (2 + (k : Int))) = s := ⟨_, rfl⟩
      have HBI : Hid (-9223372036854775808 ≤ (2 + (k : Int) : Int) ∧ (2 + (k : Int) : Int) ≤ 9223372036854775807) := Lib.hid (by omega)
      have hzI : I.size ≤ 21 := by rw [← hI, strOf_size]; exact Lib.itoa_length_le _ HBI.out.1 HBI.out.2
      have HI := Lib.hid hI
      clear hI
      obtain ⟨P, hP⟩ : ∃ P, strOf (ndL ((f, t), (u, z))) = P := ⟨_, rfl⟩
      have hPs : P.size ≤ 73 := by
        rw [← hP, strOf_size]
        have b1 := itoa21 hsm.2.1.1 hsm.2.1.2
        have b2 := itoa21 hsm.2.2.1.1 hsm.2.2.1.2
        have b3 := itoa21 hsm.2.2.2.1 hsm.2.2.2.2
        have b4 := fnl6 f
        simp only [ndL, vrL, List.length_append, List.length_cons, List.length_nil]
        omega
      have HPP := Lib.hid hP
      have HZZ := Lib.hid (And.intro hzI hPs)
      clear hsm
      have z1 : ¬ 9223372036854775807 < 2 + I.size + 2 := by omega
      have z2 : ¬ 9223372036854775807 < 2 + I.size + 2 + P.size := by omega
      have z3 : ¬ 9223372036854775807 < 2 + I.size := by omega
      obtain ⟨W1, hW1⟩ : ∃ W1, wr.alloc (.cells #[.int .i64 f, .int .i64 t, .int .i64 u, .int .i64 z] 59) = W1 := ⟨_, rfl⟩
      have G := Lib.hid (show Below wr.heap.size wr W1 by rw [← hW1]; exact (Below.refl _ _).alloc (Nat.le_refl _) _)
      have T := Lib.hid (show BlkV W1 wr.heap.size 59 #[.int .i64 f, .int .i64 t, .int .i64 u, .int .i64 z] by rw [← hW1]; exact BlkV.new _ _ _)
      have HWW := Lib.hid hW1
      have U := Lib.hid (bu_below (.inr HBK.out) G.out)
      have HTR := Lib.hid (HTAB.out.on (HB2.out.trans (HB.out.mono HB2.out.size)))
      have HTI := Lib.hid (show TabAt W1.drew from HTR.out.on (show Below wr.heap.size wr W1.drew from ⟨G.out.os, G.out.tape, G.out.output, G.out.size, G.out.block⟩))
      have x0 := T.out.four0'
      have x1 := T.out.four1'
      have x2 := T.out.four2'
      have x3 := T.out.four3'
      have hki : (k : Int) < (n : Int) := by omega
      have hwk : IntKind.i64.wrap (2 + (k : Int)) = 2 + (k : Int) := IntWalk.i64_in _ (by omega)
      clear hx hP hb2 hW1
      go_wp2_with (fail)
      rw [HWW.out]
      refine wp_region_noPanic ?_
      refine wp_region_E (S := fun w' => w'.cell? ⟨wr.heap.size, 0, none⟩ = some (.int .i64 f) ∧ w'.cell? ⟨wr.heap.size, 1, none⟩ = some (.int .i64 t) ∧ w'.cell? ⟨wr.heap.size, 2, none⟩ = some (.int .i64 u) ∧ w'.cell? ⟨wr.heap.size, 3, none⟩ = some (.int .i64 z)) 8 (by kernel_rfl) (⟨x0, x1, x2, x3⟩) (fun hHeld => ?_)
      refine anyE_take (i := 0) (v := ?vz1) rfl (by kernel_rfl) (by kernel_rfl) (by kernel_rfl) (by kernel_rfl) (by kernel_rfl) (fun _ _ _ h => h) (Or.inl ⟨by kernel_rfl, ?yz1⟩) (by assumption) ?rz1
      case yz1 => (intro w' hSw; (try dsimp only at hSw); go_simp; (try with_reducible rfl))
      (try simp only [Act.put, List.getElem_toArray, List.getElem_cons_succ, List.getElem_cons_zero, List.setIfInBounds_toArray, List.set_cons_zero, List.set_cons_succ])
      refine anyE_take (i := 1) (v := ?vz2) rfl (by kernel_rfl) (by kernel_rfl) (by kernel_rfl) (by kernel_rfl) (by kernel_rfl) (fun _ _ _ h => h) (Or.inl ⟨by kernel_rfl, ?yz2⟩) (by assumption) ?rz2
      case yz2 => (intro w' hSw; (try dsimp only at hSw); go_simp; (try with_reducible rfl))
      (try simp only [Act.put, List.getElem_toArray, List.getElem_cons_succ, List.getElem_cons_zero, List.setIfInBounds_toArray, List.set_cons_zero, List.set_cons_succ])
      refine anyE_take (i := 5) (v := ?vz3) rfl (by kernel_rfl) (by kernel_rfl) (by kernel_rfl) (by kernel_rfl) (by kernel_rfl) (fun _ _ _ h => h) (Or.inl ⟨by kernel_rfl, ?yz3⟩) (by assumption) ?rz3
      case yz3 => (intro w' hSw; (try dsimp only at hSw); go_simp; (try with_reducible rfl))
      (try simp only [Act.put, List.getElem_toArray, List.getElem_cons_succ, List.getElem_cons_zero, List.setIfInBounds_toArray, List.set_cons_zero, List.set_cons_succ])
      refine anyE_one (i := 2) (by kernel_rfl) (anyE_step rfl (fun K hK => ?_))
      go_simp
      go_wp2_with (go_at_call 34; ((refine (impl_fi_at (2 + (k : Int)) I _ HBI.out.1 HBI.out.2 HTI.out HI.out).mono ?_); rintro e w5 ⟨rfl, hb⟩))
      have hr := undrew hb
      have T5 := Lib.hid (T.out.below hr)
      have G5 := Lib.hid (G.out.trans (hr.mono G.out.size))
      have U5 := Lib.hid (bu_below U.out hr)
      have e0 := T5.out.four0'
      have e1 := T5.out.four1'
      have e2 := T5.out.four2'
      have e3 := T5.out.four3'
      clear hb hr
      refine hK.out _ _ (fun _ => ⟨e0, e1, e2, e3⟩) (fun hH => ?_)
      have hHeld := hH (by decide)
      clear hH
      clear hK K
      (try simp only [Act.put, List.getElem_toArray, List.getElem_cons_succ, List.getElem_cons_zero, List.setIfInBounds_toArray, List.set_cons_zero, List.set_cons_succ])
      refine anyE_take (i := 3) (v := ?vz4) rfl (by kernel_rfl) (by kernel_rfl) (by kernel_rfl) (by kernel_rfl) (by kernel_rfl) (fun _ _ _ h => h) (Or.inl ⟨by kernel_rfl, ?yz4⟩) (by assumption) ?rz4
      case yz4 => (intro w' hSw; (try dsimp only at hSw); go_simp; (try with_reducible rfl))
      (try simp only [Act.put, List.getElem_toArray, List.getElem_cons_succ, List.getElem_cons_zero, List.setIfInBounds_toArray, List.set_cons_zero, List.set_cons_succ])
      refine anyE_take (i := 4) (v := ?vz5) rfl (by kernel_rfl) (by kernel_rfl) (by kernel_rfl) (by kernel_rfl) (by kernel_rfl) (fun _ _ _ h => h) (Or.inl ⟨by kernel_rfl, ?yz5⟩) (by assumption) ?rz5
      case yz5 => (intro w' hSw; (try dsimp only at hSw); go_simp; (try with_reducible rfl))
      (try simp only [Act.put, List.getElem_toArray, List.getElem_cons_succ, List.getElem_cons_zero, List.setIfInBounds_toArray, List.set_cons_zero, List.set_cons_succ])
      refine anyE_one (i := 6) (by kernel_rfl) (anyE_step rfl (fun K hK => ?_))
      go_simp
      go_wp2_with (go_at_call 35; ((refine (nd_impl f t u z P _ HND.out HPP.out (HTR.out.on G5.out)).mono ?_); rintro e w6 ⟨rfl, hb⟩))
      have T6 := Lib.hid (T5.out.below hb)
      have G6 := Lib.hid (G5.out.trans (hb.mono G5.out.size))
      have U6 := Lib.hid (bu_below U5.out hb)
      have HSZ6 := Lib.hid (show w2.heap.size ≤ w6.heap.size from Nat.le_trans HB.out.size G6.out.size)
      clear e0 e1 e2 e3
      have e0 := T6.out.four0'
      have e1 := T6.out.four1'
      have e2 := T6.out.four2'
      have e3 := T6.out.four3'
      clear hb
      refine hK.out _ _ (fun _ => ⟨e0, e1, e2, e3⟩) (fun hH => ?_)
      have hHeld := hH (by decide)
      clear hH
      clear hK K
      (try simp only [Act.put, List.getElem_toArray, List.getElem_cons_succ, List.getElem_cons_zero, List.setIfInBounds_toArray, List.set_cons_zero, List.set_cons_succ])
      refine anyE_take (i := 7) (v := ?vz6) rfl (by kernel_rfl) (by kernel_rfl) (by kernel_rfl) (by kernel_rfl) (by kernel_rfl) (fun _ _ _ h => h) (Or.inl ⟨by kernel_rfl, ?yz6⟩) (by assumption) ?rz6
      case yz6 => (intro w' hSw; (try dsimp only at hSw); go_simp; (try with_reducible rfl))
      (try simp only [Act.put, List.getElem_toArray, List.getElem_cons_succ, List.getElem_cons_zero, List.setIfInBounds_toArray, List.set_cons_zero, List.set_cons_succ])
      refine anyE_one (i := 8) (by kernel_rfl) (anyE_step rfl (fun K hK => ?_))
      go_simp
      go_wp2_with (go_at_call 33; ((refine (Builder_WriteString w2.heap.size w2.heap.size (Lib.byteCells (dgT y D k)) _ _ U6.out (by have := HSS.out; have := HZZ.out; have e1 : (⟨#[59, 32]⟩ : ByteArray).size = 2 := rfl; have e2 : (⟨#[58, 32]⟩ : ByteArray).size = 2 := rfl; simp [Lib.byteCells, ByteArray.size_append]; omega) HSZ6.out).mono ?_); rintro e w7 ⟨rfl, hbu, hb⟩))
      have HBU7 := Lib.hid hbu
      have HB7 := Lib.hid hb
      clear hb hbu
      refine hK.out _ _ (fun h => absurd rfl h) (fun _ => ?_)
      clear hK K
      (try simp only [Act.put, List.getElem_toArray, List.getElem_cons_succ, List.getElem_cons_zero, List.setIfInBounds_toArray, List.set_cons_zero, List.set_cons_succ])
      refine anyE_done (by kernel_rfl) ?_ _
      refine NoPanic.normal ?_
      clear x0 x1 x2 x3
      go_wp2
      go_roundw
      case rel =>
        refine ⟨k + 1, by omega, by go_num, ?_, HB.out.trans (Below.trans (G6.out.mono HB.out.size) HB7.out)⟩
        have e := part_str (k := k) (x := ((f, t), (u, z))) (I := I) (by have h := HI.out; rw [Int.add_comm] at h; exact h) HPP.out
        have h := HBU7.out
        rw [e, str_cells] at h
        rw [dgT_part HX.out]
        have e2 : Lib.byteCells (dgT y D k ++ ((([59, 32] ++ Lib.itoa ((k : Int) + 2)) ++ [58, 32]) ++ ndL ((f, t), (u, z)))) = Lib.byteCells (dgT y D k) ++ Lib.byteCells (strOf ((([59, 32] ++ Lib.itoa ((k : Int) + 2)) ++ [58, 32]) ++ ndL ((f, t), (u, z)))).data.toList := by
          simp [Lib.byteCells, strOf]
        rw [e2]
        exact h
      case measure => simp [intOf]; omega
    · obtain rfl : k = n := by omega
      go_wp2_with (go_at_call 36; refine (Builder_String_any w2.heap.size w2.heap.size (dgT y D k) _ (.inr HBK.out) HB.out.size).mono ?_; rintro e w9 ⟨rfl, hb9⟩; have HB9 := Lib.hid hb9; clear hb9)
      go_ret
      exact ⟨fret_str (by rw [← HR.out, dgR_yes HDB.out, HN.out]; rfl), HB2.out.trans ((HB.out.trans HB9.out).mono HB2.out.size)⟩

end Go.Proofs.YtpmfabpnjacegaaGreatDoor
