/-
  What spec.l14Any draws, where spec.l14Rules draws rules. By an AI agent.
-/
import Derived.Test.YtpmfabpnjacegaaGreatDoorKnown
import Derived.Test.YtpmfabpnjacegaaGreatDoorGQ17
import Derived.Deep.RegionHeld3
import Derived.Deep.RegionWith
namespace Go.Proofs.YtpmfabpnjacegaaGreatDoor
open Go.RowKit
set_option linter.unusedVariables false
set_option linter.unusedSimpArgs false
set_option linter.unnecessarySimpa false

/-- one field of the first test is stored -/
theorem OwnTs.first {w : World} {base g n cap : Nat} {t : TS} {l : List TS} (h : OwnTs w base (.slice (some ⟨g, 0, none⟩) n cap) (t :: l)) (i : Nat) (hi : i < 3) (u : Value) (t' : TS) (hs : (encTs t).set i u = encTs t') :
    OwnTs (w.setCell ⟨g, i, none⟩ u) base (.slice (some ⟨g, 0, none⟩) n cap) (t' :: l) ∧ w.grownBy (w.setCell ⟨g, i, none⟩ u) (some g) := by
  obtain ⟨a', c', e⟩ := h.shape
  injection e with e1 e2 e3
  subst e2
  have hst := World.ownsRow.stored h i u
  refine ⟨?_, hst.2⟩
  have h1 := hst.1
  have hf : flatTs (t :: l) = encTs t ++ flatTs l := by simp [flatTs]
  rw [hf, List.set_append_left _ _ (by simp [encTs]; exact hi), hs] at h1
  have hf2 : flatTs (t' :: l) = encTs t' ++ flatTs l := by simp [flatTs]
  unfold OwnTs
  rw [hf2]
  exact h1
theorem OwnRu.cur {w w' : World} {lo c : Nat} {v : Value} {q : List XU} (h : OwnRu w lo v q) (hg : w.grownBy w' (some c)) (hc : c < lo) : OwnRu w' lo v q :=
  ⟨row_keptO h.out hg (fun k hk e => by injection hk with hk; subst hk; have := (World.ownsRow.lt h.out c e).1; omega),
    fun p hp => row_keptO (h.row p hp) hg (fun k hk e => by injection hk with hk; subst hk; have := (World.ownsRow.lt (h.row p hp) c e).1; omega), h.apart, h.dis⟩
theorem small_first {l l' : List TS} {R : List (List TS)} (h : SmallR (l :: R)) (hl : l'.length = l.length) : SmallR (l' :: R) := by
  obtain ⟨h1, h2, h3, h4⟩ := h
  refine ⟨by simp, by simpa using h2, fun x hx => ?_, fun x hx => ?_⟩
  · rcases List.mem_cons.1 hx with rfl | hx
    · rw [hl]; exact h3 l (List.mem_cons_self ..)
    · exact h3 x (List.mem_cons_of_mem _ hx)
  · simp at hx
    subst hx
    rw [hl]
    exact h4 l rfl
/-- the first rule and its first test, as they lie -/
theorem OwnRu.first {w : World} {lo : Nat} {a : Option Addr} {n cap : Nat} {q : List XU} {R : List (List TS)} (h : OwnRu w lo (.slice a n cap) q) (hq : rulesU q = R) (hs : SmallR R) :
    ∃ (g g0 c0 : Nat) (t : TS) (l : List TS) (q2 : List XU), a = some ⟨g, 0, none⟩ ∧ lo ≤ g ∧ g < w.heap.size ∧ q = (t :: l, .slice (some ⟨g0, 0, none⟩) (l.length + 1) c0) :: q2 ∧ w.cell? ⟨g, 0, none⟩ = some (.slice (some ⟨g0, 0, none⟩) (l.length + 1) c0) ∧ lo ≤ g0 ∧ g0 < w.heap.size ∧ g ≠ g0 ∧ OwnTs w lo (.slice (some ⟨g0, 0, none⟩) (l.length + 1) c0) (t :: l) := by
  obtain ⟨h1, h2, h3, h4⟩ := hs
  obtain ⟨a', cap', e⟩ := h.shape
  injection e with e1 e2 e3
  subst e2
  cases q with
  | nil => rw [← hq] at h1; simp [rulesU] at h1
  | cons p q2 =>
    have h5 : 1 ≤ p.1.length := h4 p.1 (by rw [← hq]; rfl)
    have hr := h.row p (List.mem_cons_self ..)
    obtain ⟨a0, c0, ep⟩ := hr.shape
    obtain ⟨g, rfl, hg1, hg2, hgc⟩ := rowX_at h.out (by simp)
    obtain ⟨l0, u0⟩ := p
    cases l0 with
    | nil => simp at h5
    | cons t l =>
      simp only at ep hr
      subst ep
      obtain ⟨g0, rfl, k1, k2, k3⟩ := rowX_at hr (by simp)
      refine ⟨g, g0, c0, t, l, q2, rfl, hg1, hg2, rfl, ?_, k1, k2, fun e => ?_, hr⟩
      · have := hgc 0 _ (show (valsU ((t :: l, Value.slice (some ⟨g0, 0, none⟩) (t :: l).length c0) :: q2))[0]? = some (.slice (some ⟨g0, 0, none⟩) (t :: l).length c0) from rfl)
        exact this
      · exact h.apart _ (List.mem_cons_self ..) g0 rfl (by rw [← e]; rfl)

theorem OwnRu.far {w w' : World} {lo b : Nat} {v : Value} {q : List XU} (h : OwnRu w lo v q) (hg : w.grownBy w' (some b)) (h1 : v.ownBlock ≠ some b) (h2 : ∀ p ∈ q, p.2.ownBlock ≠ some b) : OwnRu w' lo v q :=
  ⟨row_keptO h.out hg (fun k hk => by injection hk with hk; subst hk; exact h1), fun p hp => row_keptO (h.row p hp) hg (fun k hk => by injection hk with hk; subst hk; exact h2 p hp), h.apart, h.dis⟩
def SmallX (R : List (List TS)) : Prop := R.length ≤ 5 ∧ ∀ l ∈ R, l.length ≤ 3
theorem small_x {R : List (List TS)} (h : SmallR R) : SmallX R := ⟨by have := h.2.1; omega, h.2.2.1⟩
theorem small_more {R : List (List TS)} (h : SmallR R) : SmallX (R ++ [[]]) := ⟨by have := h.2.1; simp; omega, fun l hl => by
  rcases List.mem_append.1 hl with h1 | h1
  · exact h.2.2.1 l h1
  · simp at h1; subst h1; simp⟩
def SomeRx (w : World) (B c : Nat) (e : Ending) (w' : World) : Prop :=
  ∃ (R : List (List TS)) (a : Option Addr) (cap : Nat) (q : List XU), e = .returned (.agg #[.slice a R.length cap]) ∧ rulesU q = R ∧ OwnRu w' w.heap.size (.slice a R.length cap) q ∧ SmallX R ∧ Cur w' B c ∧ w.grownBy w' (some c)

set_option maxRecDepth 100000 in
set_option maxHeartbeats 4000000 in
theorem any14 (B c : Nat) (w : World) (hcur : Cur w B c) (hrules : ∀ (W : World), Cur W B c → Calls Tryz.prog 52 #[.pointer (some ⟨c, 0, none⟩)] W (SomeRs W B c)) : Calls Tryz.prog 23 #[.pointer (some ⟨c, 0, none⟩)] w (SomeRx w B c) := by
  obtain ⟨w1, hw1⟩ : ∃ w1, w.alloc (.cells #[.slice none 0 0] 26) = w1 := ⟨_, rfl⟩
  have HBX := Lib.hid (show BlkV w1 w.heap.size 26 #[.slice none 0 0] by rw [← hw1]; exact BlkV.new _ _ _)
  have HC1 := Lib.hid (show Cur w1 B c by rw [← hw1]; exact hcur.alloc _)
  have HLT := Lib.hid hcur.lt
  have HZ1 := Lib.hid (show w1.heap.size = w.heap.size + 1 by rw [← hw1]; simp)
  have HG1 := Lib.hid (show w.grownBy w1 (some c) by rw [← hw1]; exact World.grownBy_alloc _ _ _)
  have HWE := Lib.hid hw1
  have HRL := Lib.hid (hrules w1 HC1.out)
  clear hcur hw1 hrules
  go_enter Tryz.func23, Tryz.ntmps23
  go_wp2_with (go_at_call 52; rw [HWE.out]; ((with_reducible refine HRL.out.mono ?_); rintro e w2 ⟨R, a, cap, q, rfl, hq, ho, hsm, hc2, hg2⟩; refine Hid.out ?_))
  have HC2 := Lib.hid (hc2.alloc (.cells #[.slice a R.length cap] 26))
  obtain ⟨w3, hw3⟩ : ∃ w3, w2.alloc (.cells #[.slice a R.length cap] 26) = w3 := ⟨_, rfl⟩
  rw [hw3] at HC2
  have HW3 := Lib.hid hw3
  have hx2 : BlkV w2 w.heap.size 26 #[.slice none 0 0] := (hg2.block w.heap.size (by have := HZ1.out; omega) (by intro e; injection e with e; have := HLT.out; omega)).trans HBX.out
  have HX3 := Lib.hid (show BlkV w3 w.heap.size 26 #[.slice none 0 0] by rw [← hw3]; exact hx2.alloc _)
  have HY3 := Lib.hid (show BlkV w3 w2.heap.size 26 #[.slice a R.length cap] by rw [← hw3]; exact BlkV.new _ _ _)
  have HO3 := Lib.hid (show OwnRu w3 w1.heap.size (.slice a R.length cap) q by rw [← hw3]; exact ho.below ((Below.refl _ _).alloc (Nat.le_refl _) _))
  have HG3 := Lib.hid (show w.grownBy w3 (some c) by rw [← hw3]; exact grown_trans HG1.out (grown_trans hg2 (grown_alloc w2 _ c)))
  have HSM := Lib.hid hsm
  have HUPR := Lib.hid (fun (p : XU) (hp : p ∈ q) k (hk : p.2.ownBlock = some k) => show k < w2.heap.size from (World.ownsRow.lt (ho.row p hp) k hk).2)
  have HUP := Lib.hid (fun g (hg : (Value.slice a R.length cap).ownBlock = some g) => show g < w2.heap.size from (World.ownsRow.lt ho.out g hg).2)
  have HQ := Lib.hid hq
  have HZ2 := Lib.hid (show w1.heap.size ≤ w2.heap.size ∧ w3.heap.size = w2.heap.size + 1 by rw [← hw3]; exact ⟨hg2.size, by simp⟩)
  clear hq ho hsm hc2 hg2 hx2 hw3
  refine Lib.hid ?_
  go_wp2_with (go_at_call 53; rw [HW3.out]; ((refine (l1Below_any B c _ _ HC2.out (by omega) (by omega)).mono ?_); rintro e w4 ⟨x, rfl, hx0, hx1, hc4, hg4⟩; refine Hid.out ?_))
  have HC4 := Lib.hid hc4
  have HG4 := Lib.hid (grown_trans HG3.out hg4)
  have HO4 := Lib.hid (HO3.out.cur hg4 (by have := HLT.out; have := HZ1.out; omega))
  have H2 := Lib.hid (show BlkV w4 w.heap.size 26 #[.slice none 0 0] from (hg4.block w.heap.size HX3.out.lt (by intro e; injection e with e; have := HLT.out; omega)).trans HX3.out)
  have H3 := Lib.hid (show BlkV w4 w2.heap.size 26 #[.slice a R.length cap] from (hg4.block w2.heap.size HY3.out.lt (by intro e; injection e with e; have := HLT.out; have := HZ1.out; have := HZ2.out; omega)).trans HY3.out)
  have HCL := Lib.hid hc4.lt
  have c30 : w4.cell? ⟨w2.heap.size, 0, none⟩ = some (.slice a R.length cap) := H3.out.cell 0
  have c20 : w4.cell? ⟨w.heap.size, 0, none⟩ = some (.slice none 0 0) := H2.out.cell 0
  have f20 := H2.out.frozen 0
  have f30 := H3.out.frozen 0
  clear hc4 hg4
  have HLB4 := Lib.hid (show w.heap.size + 1 = w1.heap.size ∧ w1.heap.size ≤ w2.heap.size ∧ w2.heap.size < w4.heap.size by have := H3.out.lt; have := HZ1.out; have := HZ2.out; omega)
  have hcase : x = 0 ∨ x = 1 ∨ x = 2 ∨ 2 < x := by omega
  rcases hcase with rfl | rfl | rfl | hx
  · obtain ⟨g, g0, c0, t, l, q2, rfl, hlo, hlt, rfl, yg, hlo0, hlt0, hne, hot⟩ := HO4.out.first HQ.out HSM.out
    have hLB := HLB4.out
    have hg0 : g0 < w2.heap.size := HUPR.out _ (List.mem_cons_self ..) g0 rfl
    have hgu : g < w2.heap.size := HUP.out g rfl
    have HWA := Lib.hid (((Below.refl w4.heap.size w4).alloc (Nat.le_refl _) (.cells #[.int .i64 (-1), .int .i64 5, .int .i64 6] 3)).drew)
    have HCA := Lib.hid (show Cur (w4.alloc (.cells #[.int .i64 (-1), .int .i64 5, .int .i64 6] 3)).drew B c from HC4.out.alloc _)
    have HLIT := Lib.hid (show ∀ j, j < 3 → ∃ z : Int, -9223372036854775808 ≤ z ∧ z ≤ 9223372036854775807 ∧ (w4.alloc (.cells #[.int .i64 (-1), .int .i64 5, .int .i64 6] 3)).drew.cell? ⟨w4.heap.size, j, none⟩ = some (.int .i64 z) from lit_cells w4 [-1, 5, 6] (by decide))
    have yA := (HWA.out.cell (p := ⟨w2.heap.size, 0, none⟩) (by show w2.heap.size < _; omega)).trans c30
    have yAg := (HWA.out.cell (p := ⟨g, 0, none⟩) hlt).trans yg
    have HOT := Lib.hid (hot.below HWA.out)
    have HOUA := Lib.hid (HO4.out.below HWA.out)
    have HGA := Lib.hid (show w.grownBy (w4.alloc (.cells #[.int .i64 (-1), .int .i64 5, .int .i64 6] 3)).drew (some c) from grown_cur HG4.out HWA.out)
    have H2A := Lib.hid (H2.out.below HWA.out)
    have H3A := Lib.hid (H3.out.below HWA.out)
    have hcg : c ≠ g ∧ c ≠ w2.heap.size ∧ c ≠ w.heap.size ∧ c < w1.heap.size := by have := HLT.out; omega
    have HLL := Lib.hid (show g < w4.heap.size ∧ w2.heap.size < w4.heap.size ∧ w.heap.size < w4.heap.size from ⟨hlt, by omega, by omega⟩)
    have HSZA := Lib.hid HWA.out.size
    have hR1 : 0 < (R.length : Int) := by have := HSM.out.1; omega
    have hRn : R ≠ [] := fun e => by rw [e] at hR1; simp at hR1
    have hR0 : 0 < R.length := by omega
    have hl1 : 0 < ((l.length : Int) + 1) := by omega
    refine Lib.hid ?_
    go_wp2_with (fail)
    go_region_held3 (fun w' => w'.cell? ⟨w2.heap.size, 0, none⟩ = some (.slice (some ⟨g, 0, none⟩) R.length cap) ∧ w'.cell? ⟨g, 0, none⟩ = some (.slice (some ⟨g0, 0, none⟩) (l.length + 1) c0))
      (first | with_reducible exact ⟨y6, y6g⟩ | with_reducible exact ⟨y5, y5g⟩ | with_reducible exact ⟨yA, yAg⟩ | exact ⟨c30, yg⟩)
      ((go_at_call 54; (refine (l1PickInt_any B c w4.heap.size 3 _ HCA.out (by omega) (by omega) (by have := HCL.out; omega) HLIT.out).mono ?_); rintro e w5 ⟨y, rfl, hy0, hy1, hc5, hg5⟩; have y5 := (World.cell?_of_block (hg5.block w2.heap.size (by have := HLL.out; have := HSZA.out; omega) (fun e => by injection e with e; omega))).trans yA; have y5g := (World.cell?_of_block (hg5.block g (by have := HLL.out; have := HSZA.out; omega) (fun e => by injection e with e; omega))).trans yAg; have y6 : (w5.setCell ⟨g0, 0, none⟩ (.int .i64 y)).cell? ⟨w2.heap.size, 0, none⟩ = some (.slice (some ⟨g, 0, none⟩) R.length cap) := (World.cell?_setCell_other _ _ _ _ (by first | (simp; done) | (simp; omega))).trans y5; have y6g : (w5.setCell ⟨g0, 0, none⟩ (.int .i64 y)).cell? ⟨g, 0, none⟩ = some (.slice (some ⟨g0, 0, none⟩) (l.length + 1) c0) := (World.cell?_setCell_other _ _ _ _ (by first | (simp; done) | (simp; omega))).trans y5g; have HC5 := Lib.hid hc5; have HG5 := Lib.hid (grown_trans HGA.out hg5); have HOU5 := Lib.hid (HOUA.out.cur hg5 (by omega)); have h25 : BlkV w5 w.heap.size 26 #[.slice none 0 0] := (hg5.block w.heap.size H2A.out.lt (fun e => by injection e with e; omega)).trans H2A.out; have hot5 : OwnTs w5 w1.heap.size (.slice (some ⟨g0, 0, none⟩) (l.length + 1) c0) (t :: l) := row_keptO HOT.out hg5 (fun k hk e => by injection hk with hk; have := (World.ownsRow.lt HOT.out k e).1; omega); have t5 : w5.cell? ⟨g0, 0, none⟩ = some (.int .i64 t.1.1) := (by rw [World.ownsRow.cellAt hot5 0 (by simp)]; rfl); have ft5 := World.ownsRow.frozenAt hot5 0; have f25 := h25.frozen 0; have c25 : w5.cell? ⟨w.heap.size, 0, none⟩ = some (.slice none 0 0) := h25.cell 0; have H25 := Lib.hid h25; have HOT5 := Lib.hid hot5; clear hc5 hg5 h25 hot5))
    all_goals
      have hR : R = (t :: l) :: rulesU q2 := by rw [← HQ.out]; rfl
      have HTF := Lib.hid (HOT5.out.first 0 (by omega) (.int .i64 y) ((y, t.1.2), t.2) rfl)
      have HOUF := Lib.hid (OwnRu.setrow (q1 := []) (p := (t :: l, .slice (some ⟨g0, 0, none⟩) (l.length + 1) c0)) (q2 := q2) (l := ((y, t.1.2), t.2) :: l) HOU5.out HTF.out.2 HTF.out.1)
      have H2f := Lib.hid (H25.out.other ⟨g0, 0, none⟩ (.int .i64 y) (by simp; omega))
      have hup0 : ∀ k, some g0 = some k → w1.heap.size ≤ k := fun k hk => by injection hk with hk; omega
      have HG6 := Lib.hid (grown_up HG5.out HTF.out.2 (fun k hk => by have := hup0 k hk; omega))
      have HC6 := Lib.hid (HC5.out.below ((Below.refl w1.heap.size w5).grown HTF.out.2 (by have := HG5.out.size; have := (World.ownsRow.lt HOT5.out g0 rfl).2; omega) hup0) (by omega))
      have c26 : (w5.setCell ⟨g0, 0, none⟩ (.int .i64 y)).cell? ⟨w.heap.size, 0, none⟩ = some (.slice none 0 0) := H2f.out.cell 0
      have f26 := H2f.out.frozen 0
      have HSX := Lib.hid (small_x (small_first (l' := ((y, t.1.2), t.2) :: l) (by rw [← hR]; exact HSM.out) (by simp)))
      have HRR := Lib.hid (show R.length = ((((y, t.1.2), t.2) :: l) :: rulesU q2).length by rw [hR]; simp)
      clear hR
      go_wp2
      have z := H2f.out.set_ 0 (.slice (some ⟨g, 0, none⟩) R.length cap)
      have e0 : _ = some (Value.slice (some ⟨g, 0, none⟩) R.length cap) := z.cell 0
      have hst := egrown_set (w5.setCell ⟨g0, 0, none⟩ (.int .i64 y)) w.heap.size 0 (.slice (some ⟨g, 0, none⟩) R.length cap)
      have hup : ∀ k, some w.heap.size = some k → w.heap.size ≤ k := fun k hk => by injection hk with hk; omega
      have hz := HZ1.out
      refine bodyPost_ret (v := .agg #[.slice (some ⟨g, 0, none⟩) R.length cap]) (by simp [results, Tryz.results23, go_sem, e0]) rfl ⟨(((y, t.1.2), t.2) :: l) :: rulesU q2, (some ⟨g, 0, none⟩), cap, (((y, t.1.2), t.2) :: l, .slice (some ⟨g0, 0, none⟩) (l.length + 1) c0) :: q2, by rw [HRR.out], rfl, ?_, HSX.out, ?_, grown_up HG6.out hst hup⟩
      · rw [← HRR.out]
        exact (OwnRu.setc HOUF.out ⟨w.heap.size, 0, none⟩ _ (by show w.heap.size < _; omega)).mono (by omega)
      · exact (HC6.out).below ((Below.refl w.heap.size _).grown hst (HG6.out).size hup) HLT.out
  · obtain ⟨g, g0, c0, t, l, q2, rfl, hlo, hlt, rfl, yg, hlo0, hlt0, hne, hot⟩ := HO4.out.first HQ.out HSM.out
    have hLB := HLB4.out
    have hg0 : g0 < w2.heap.size := HUPR.out _ (List.mem_cons_self ..) g0 rfl
    have hgu : g < w2.heap.size := HUP.out g rfl
    have HWA := Lib.hid (((Below.refl w4.heap.size w4).alloc (Nat.le_refl _) (.cells #[.int .i64 0, .int .i64 1, .int .i64 1001] 3)).drew)
    have HCA := Lib.hid (show Cur (w4.alloc (.cells #[.int .i64 0, .int .i64 1, .int .i64 1001] 3)).drew B c from HC4.out.alloc _)
    have HLIT := Lib.hid (show ∀ j, j < 3 → ∃ z : Int, -9223372036854775808 ≤ z ∧ z ≤ 9223372036854775807 ∧ (w4.alloc (.cells #[.int .i64 0, .int .i64 1, .int .i64 1001] 3)).drew.cell? ⟨w4.heap.size, j, none⟩ = some (.int .i64 z) from lit_cells w4 [0, 1, 1001] (by decide))
    have yA := (HWA.out.cell (p := ⟨w2.heap.size, 0, none⟩) (by show w2.heap.size < _; omega)).trans c30
    have yAg := (HWA.out.cell (p := ⟨g, 0, none⟩) hlt).trans yg
    have HOT := Lib.hid (hot.below HWA.out)
    have HOUA := Lib.hid (HO4.out.below HWA.out)
    have HGA := Lib.hid (show w.grownBy (w4.alloc (.cells #[.int .i64 0, .int .i64 1, .int .i64 1001] 3)).drew (some c) from grown_cur HG4.out HWA.out)
    have H2A := Lib.hid (H2.out.below HWA.out)
    have H3A := Lib.hid (H3.out.below HWA.out)
    have hcg : c ≠ g ∧ c ≠ w2.heap.size ∧ c ≠ w.heap.size ∧ c < w1.heap.size := by have := HLT.out; omega
    have HLL := Lib.hid (show g < w4.heap.size ∧ w2.heap.size < w4.heap.size ∧ w.heap.size < w4.heap.size from ⟨hlt, by omega, by omega⟩)
    have HSZA := Lib.hid HWA.out.size
    have hR1 : 0 < (R.length : Int) := by have := HSM.out.1; omega
    have hRn : R ≠ [] := fun e => by rw [e] at hR1; simp at hR1
    have hR0 : 0 < R.length := by omega
    have hl1 : 0 < ((l.length : Int) + 1) := by omega
    refine Lib.hid ?_
    go_wp2_with (fail)
    go_region_held3 (fun w' => w'.cell? ⟨w2.heap.size, 0, none⟩ = some (.slice (some ⟨g, 0, none⟩) R.length cap) ∧ w'.cell? ⟨g, 0, none⟩ = some (.slice (some ⟨g0, 0, none⟩) (l.length + 1) c0))
      (first | with_reducible exact ⟨y6, y6g⟩ | with_reducible exact ⟨y5, y5g⟩ | with_reducible exact ⟨yA, yAg⟩ | exact ⟨c30, yg⟩)
      ((go_at_call 54; (refine (l1PickInt_any B c w4.heap.size 3 _ HCA.out (by omega) (by omega) (by have := HCL.out; omega) HLIT.out).mono ?_); rintro e w5 ⟨y, rfl, hy0, hy1, hc5, hg5⟩; have y5 := (World.cell?_of_block (hg5.block w2.heap.size (by have := HLL.out; have := HSZA.out; omega) (fun e => by injection e with e; omega))).trans yA; have y5g := (World.cell?_of_block (hg5.block g (by have := HLL.out; have := HSZA.out; omega) (fun e => by injection e with e; omega))).trans yAg; have y6 : (w5.setCell ⟨g0, 1, none⟩ (.int .i64 y)).cell? ⟨w2.heap.size, 0, none⟩ = some (.slice (some ⟨g, 0, none⟩) R.length cap) := (World.cell?_setCell_other _ _ _ _ (by first | (simp; done) | (simp; omega))).trans y5; have y6g : (w5.setCell ⟨g0, 1, none⟩ (.int .i64 y)).cell? ⟨g, 0, none⟩ = some (.slice (some ⟨g0, 0, none⟩) (l.length + 1) c0) := (World.cell?_setCell_other _ _ _ _ (by first | (simp; done) | (simp; omega))).trans y5g; have HC5 := Lib.hid hc5; have HG5 := Lib.hid (grown_trans HGA.out hg5); have HOU5 := Lib.hid (HOUA.out.cur hg5 (by omega)); have h25 : BlkV w5 w.heap.size 26 #[.slice none 0 0] := (hg5.block w.heap.size H2A.out.lt (fun e => by injection e with e; omega)).trans H2A.out; have hot5 : OwnTs w5 w1.heap.size (.slice (some ⟨g0, 0, none⟩) (l.length + 1) c0) (t :: l) := row_keptO HOT.out hg5 (fun k hk e => by injection hk with hk; have := (World.ownsRow.lt HOT.out k e).1; omega); have t5 : w5.cell? ⟨g0, 1, none⟩ = some (.int .i64 t.1.2) := (by rw [World.ownsRow.cellAt hot5 1 (by omega)]; rfl); have ft5 := World.ownsRow.frozenAt hot5 1; have f25 := h25.frozen 0; have c25 : w5.cell? ⟨w.heap.size, 0, none⟩ = some (.slice none 0 0) := h25.cell 0; have H25 := Lib.hid h25; have HOT5 := Lib.hid hot5; clear hc5 hg5 h25 hot5))
    all_goals
      have hR : R = (t :: l) :: rulesU q2 := by rw [← HQ.out]; rfl
      have HTF := Lib.hid (HOT5.out.first 1 (by omega) (.int .i64 y) ((t.1.1, y), t.2) rfl)
      have HOUF := Lib.hid (OwnRu.setrow (q1 := []) (p := (t :: l, .slice (some ⟨g0, 0, none⟩) (l.length + 1) c0)) (q2 := q2) (l := ((t.1.1, y), t.2) :: l) HOU5.out HTF.out.2 HTF.out.1)
      have H2f := Lib.hid (H25.out.other ⟨g0, 1, none⟩ (.int .i64 y) (by simp; omega))
      have hup0 : ∀ k, some g0 = some k → w1.heap.size ≤ k := fun k hk => by injection hk with hk; omega
      have HG6 := Lib.hid (grown_up HG5.out HTF.out.2 (fun k hk => by have := hup0 k hk; omega))
      have HC6 := Lib.hid (HC5.out.below ((Below.refl w1.heap.size w5).grown HTF.out.2 (by have := HG5.out.size; have := (World.ownsRow.lt HOT5.out g0 rfl).2; omega) hup0) (by omega))
      have c26 : (w5.setCell ⟨g0, 1, none⟩ (.int .i64 y)).cell? ⟨w.heap.size, 0, none⟩ = some (.slice none 0 0) := H2f.out.cell 0
      have f26 := H2f.out.frozen 0
      have HSX := Lib.hid (small_x (small_first (l' := ((t.1.1, y), t.2) :: l) (by rw [← hR]; exact HSM.out) (by simp)))
      have HRR := Lib.hid (show R.length = ((((t.1.1, y), t.2) :: l) :: rulesU q2).length by rw [hR]; simp)
      clear hR
      go_wp2
      have z := H2f.out.set_ 0 (.slice (some ⟨g, 0, none⟩) R.length cap)
      have e0 : _ = some (Value.slice (some ⟨g, 0, none⟩) R.length cap) := z.cell 0
      have hst := egrown_set (w5.setCell ⟨g0, 1, none⟩ (.int .i64 y)) w.heap.size 0 (.slice (some ⟨g, 0, none⟩) R.length cap)
      have hup : ∀ k, some w.heap.size = some k → w.heap.size ≤ k := fun k hk => by injection hk with hk; omega
      have hz := HZ1.out
      refine bodyPost_ret (v := .agg #[.slice (some ⟨g, 0, none⟩) R.length cap]) (by simp [results, Tryz.results23, go_sem, e0]) rfl ⟨(((t.1.1, y), t.2) :: l) :: rulesU q2, (some ⟨g, 0, none⟩), cap, (((t.1.1, y), t.2) :: l, .slice (some ⟨g0, 0, none⟩) (l.length + 1) c0) :: q2, by rw [HRR.out], rfl, ?_, HSX.out, ?_, grown_up HG6.out hst hup⟩
      · rw [← HRR.out]
        exact (OwnRu.setc HOUF.out ⟨w.heap.size, 0, none⟩ _ (by show w.heap.size < _; omega)).mono (by omega)
      · exact (HC6.out).below ((Below.refl w.heap.size _).grown hst (HG6.out).size hup) HLT.out
  · have HQL := Lib.hid (show q.length = R.length by rw [← rulesU_len, HQ.out])
    obtain ⟨i0, hi, hz0, hz1, hz2⟩ := info_parts info_ru
    have HA := Lib.hid ((Below.refl w4.heap.size w4).alloc (Nat.le_refl _) (.cells #[.slice none 0 0] 66))
    have HNB := Lib.hid (BlkV.new w4 66 #[.slice none 0 0])
    have HRW := Lib.hid (HO4.out.below HA.out)
    have HLO := Lib.hid (fun g (hg : (Value.slice a R.length cap).ownBlock = some g) => show w1.heap.size ≤ g ∧ g < w2.heap.size from ⟨(World.ownsRow.lt HO4.out.out g hg).1, HUP.out g hg⟩)
    have HOUT := Lib.hid (show (w4.alloc (.cells #[.slice none 0 0] 66)).ownsRow w1.heap.size 66 1 (.slice a R.length cap) R.length (valsU q) by have h := HRW.out.out; rwa [HQL.out] at h)
    have hR4 := HSM.out.2.1
    have HLB := Lib.hid (show w.heap.size < w4.heap.size ∧ w2.heap.size < w4.heap.size ∧ w1.heap.size ≤ w4.heap.size ∧ w.heap.size < w1.heap.size by have := H3.out.lt; have := H2.out.lt; have := HZ1.out; have := HZ2.out; omega)
    refine Lib.hid ?_
    go_wp2_with (at_builtin; refine wpList_append_lies _ rfl (.tmp 35) (.tmp 37) 24 rfl w1.heap.size 66 i0 _ 1 24 Tryz.underlying24 hi hz0 hz1 hz2 rfl (by decide) (.slice a R.length cap) R.length (valsU q) rfl HOUT.out ⟨w4.heap.size, 0, none⟩ 1 1 [.slice none 0 0] rfl rfl (World.news_of_block (cs := #[.slice none 0 0]) (fr := (0, 0)) HNB.out) (by simp [Value.oneCell']) (by omega) (by unfold maxLen; omega) (by omega) (Nat.le_trans HLB.out.2.2.1 HA.out.size) _ rfl ?_; intro g cap5 w5 ho hg hat _; refine Hid.out ?_)
    have h25 : BlkV w5 w.heap.size 26 #[.slice none 0 0] := (hg.block w.heap.size (Nat.lt_of_lt_of_le HLB.out.1 HA.out.size) (fun e => by have := (HLO.out _ e.symm).1; have := HLB.out; omega)).trans (H2.out.below HA.out)
    have h35 : BlkV w5 w2.heap.size 26 #[.slice a R.length cap] := (hg.block w2.heap.size (Nat.lt_of_lt_of_le HLB.out.2.1 HA.out.size) (fun e => by have := (HLO.out _ e.symm).2; omega)).trans (H3.out.below HA.out)
    have hou := HRW.out.snoc (u := .slice none 0 0) (l := []) (OwnTs.nil _ _) (fun k hk => by simp [Value.ownBlock] at hk) hg (by rw [HQL.out]; exact ho) rfl hat
    have hgne : (Value.slice (some ⟨g, 0, none⟩) (R.length + 1) cap5).ownBlock ≠ some w2.heap.size := fun e => by
      have e2 : g = w2.heap.size := by simpa [Value.ownBlock] using e
      rcases hat with h1 | h1
      · have := HUP.out g h1; omega
      · have := HLB.out; have := HA.out.size; omega
    have HO5 := Lib.hid hou
    have HGNE := Lib.hid hgne
    have H35 := Lib.hid h35
    have HG5 := Lib.hid (grown_up (grown_trans HG4.out (grown_alloc w4 (.cells #[.slice none 0 0] 66) c)) hg (fun k hk => by have := (HLO.out k hk).1; have := HLB.out; omega))
    have HC5 := Lib.hid ((HC4.out.alloc (.cells #[.slice none 0 0] 66)).below ((Below.refl w1.heap.size _).grown hg (Nat.le_trans HLB.out.2.2.1 HA.out.size) (fun k hk => (HLO.out k hk).1)) (by have := HLT.out; have := HLB.out; omega))
    have c35 : w5.cell? ⟨w2.heap.size, 0, none⟩ = some (.slice a R.length cap) := h35.cell 0
    have f35 := h35.frozen 0
    have f25 := h25.frozen 0
    have c25 : w5.cell? ⟨w.heap.size, 0, none⟩ = some (.slice none 0 0) := h25.cell 0
    have hne : ¬ w2.heap.size = w.heap.size := by have := HLB.out; have := HZ2.out; omega
    have hne2 : ¬ w.heap.size = w2.heap.size := by have := HLB.out; have := HZ2.out; omega
    have H2f := Lib.hid (h25.other ⟨w2.heap.size, 0, none⟩ (.slice (some ⟨g, 0, none⟩) (R.length + 1) cap5) (by simpa using hne2))
    have hst3 := egrown_set w5 w2.heap.size 0 (.slice (some ⟨g, 0, none⟩) (R.length + 1) cap5)
    have HG6 := Lib.hid (grown_up HG5.out hst3 (fun k hk => by injection hk with hk; have := HLB.out; have := HZ2.out; omega))
    have HC6 := Lib.hid (HC5.out.below ((Below.refl w2.heap.size w5).grown hst3 (by have := HG5.out.size; have := h35.lt; omega) (fun k hk => by injection hk with hk; omega)) (by have := HLT.out; have := HLB.out; have := HZ2.out; omega))
    have HST3 := Lib.hid hst3
    clear ho hg hat hou h25 h35 hst3 hgne
    refine Lib.hid ?_
    go_wp2
    have z := H2f.out.set_ 0 (.slice (some ⟨g, 0, none⟩) (R.length + 1) cap5)
    have e0 : _ = some (Value.slice (some ⟨g, 0, none⟩) (R.length + 1) cap5) := z.cell 0
    have hst := egrown_set (w5.setCell ⟨w2.heap.size, 0, none⟩ (.slice (some ⟨g, 0, none⟩) (R.length + 1) cap5)) w.heap.size 0 (.slice (some ⟨g, 0, none⟩) (R.length + 1) cap5)
    have hup : ∀ k, some w.heap.size = some k → w.heap.size ≤ k := fun k hk => by injection hk with hk; omega
    have hz := HZ1.out
    refine bodyPost_ret (v := .agg #[.slice (some ⟨g, 0, none⟩) (R.length + 1) cap5]) (by simp [results, Tryz.results23, go_sem, e0]) rfl ⟨R ++ [[]], (some ⟨g, 0, none⟩), cap5, q ++ [([], .slice none 0 0)], by rw [List.length_append]; rfl, by rw [← HQ.out]; simp [rulesU], ?_, small_more HSM.out, ?_, grown_up HG6.out hst hup⟩
    · rw [List.length_append]
      exact ((HO5.out.far HST3.out HGNE.out (fun p hp e => by
        rcases List.mem_append.1 hp with h1 | h1
        · have := HUPR.out p h1 _ e; omega
        · simp at h1; subst h1; simp [Value.ownBlock] at e)).setc ⟨w.heap.size, 0, none⟩ _ (by show w.heap.size < _; omega)).mono (by omega)
    · exact (HC6.out).below ((Below.refl w.heap.size _).grown hst (HG6.out).size hup) HLT.out
  · have hn0 : ¬ x = 0 := by omega
    have hn1 : ¬ x = 1 := by omega
    have hn2 : ¬ x = 2 := by omega
    have H2f := Lib.hid H2.out
    refine Lib.hid ?_
    go_wp2
    have z := H2f.out.set_ 0 (.slice a R.length cap)
    have e0 : _ = some (Value.slice a R.length cap) := z.cell 0
    have hst := egrown_set w4 w.heap.size 0 (.slice a R.length cap)
    have hup : ∀ k, some w.heap.size = some k → w.heap.size ≤ k := fun k hk => by injection hk with hk; omega
    have hz := HZ1.out
    refine bodyPost_ret (v := .agg #[.slice a R.length cap]) (by simp [results, Tryz.results23, go_sem, e0]) rfl ⟨R, a, cap, q, rfl, HQ.out, ?_, small_x HSM.out, ?_, grown_up HG4.out hst hup⟩
    · exact (HO4.out.setc ⟨w.heap.size, 0, none⟩ _ (by show w.heap.size < _; omega)).mono (by omega)
    · exact (HC4.out).below ((Below.refl w.heap.size _).grown hst (HG4.out).size hup) HLT.out

end Go.Proofs.YtpmfabpnjacegaaGreatDoor
