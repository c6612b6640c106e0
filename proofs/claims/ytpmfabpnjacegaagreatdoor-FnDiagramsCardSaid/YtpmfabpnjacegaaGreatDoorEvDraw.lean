/-
  Diagrams drawn: spec.l15Any, spec.DrawEvaluateDiagram. By an AI agent.
-/
import Derived.Test.YtpmfabpnjacegaaGreatDoorFrDraw
import Derived.Test.YtpmfabpnjacegaaGreatDoorBdS
namespace Go.Proofs.YtpmfabpnjacegaaGreatDoor
open Go.RowKit
set_option linter.unusedVariables false
set_option linter.unusedSimpArgs false
set_option linter.unnecessarySimpa false

/-- the drawing function's diagram as it stands -/
structure EvS (w W : World) (B c b2 b3 lo : Nat) (z : Int) (a3 : Option Addr) (m3 c3 : Nat) (D : List DN) : Prop where
  cur : Cur W B c
  gr : w.grownBy W (some c)
  t3 : BlkV W b3 32 #[.int .i64 z, .slice a3 m3 c3]
  t2 : BlkV W b2 32 #[.int .i64 0, .slice none 0 0]
  own : OwnDn W lo (.slice a3 m3 c3) D
  len : D.length = m3
  far : (Value.slice a3 m3 c3).ownBlock ≠ some b3
  ne : c < b2 ∧ b2 < lo ∧ b2 < b3 ∧ w.heap.size ≤ b2
  losz : lo ≤ W.heap.size
theorem EvS.grown {w W W' : World} {B c b2 b3 lo : Nat} {z : Int} {a3 : Option Addr} {m3 c3 : Nat} {D : List DN} (h : EvS w W B c b2 b3 lo z a3 m3 c3 D) (hg : W.grownBy W' (some c)) (hc : Cur W' B c) : EvS w W' B c b2 b3 lo z a3 m3 c3 D := by
  have hn := h.ne
  exact ⟨hc, grown_trans h.gr hg, (hg.block b3 h.t3.lt (fun e => by injection e with e; omega)).trans h.t3, (hg.block b2 h.t2.lt (fun e => by injection e with e; omega)).trans h.t2, row_keptO h.own hg (fun k hk e => by injection hk with hk; subst hk; have := (World.ownsRow.lt h.own _ e).1; omega), h.len, h.far, hn, Nat.le_trans h.losz hg.size⟩
theorem EvS.below {w W W' : World} {B c b2 b3 lo : Nat} {z : Int} {a3 : Option Addr} {m3 c3 : Nat} {D : List DN} (h : EvS w W B c b2 b3 lo z a3 m3 c3 D) (hb : Below W.heap.size W W') : EvS w W' B c b2 b3 lo z a3 m3 c3 D :=
  ⟨h.cur.below hb h.cur.lt, grown_cur h.gr hb, h.t3.below hb, h.t2.below hb, h.own.below hb, h.len, h.far, h.ne, Nat.le_trans h.losz hb.size⟩
theorem cur_set {W : World} {B c b j : Nat} (h : Cur W B c) (hb : c < b) (u : Value) : Cur (W.setCell ⟨b, j, none⟩ u) B c :=
  h.below ((Below.refl (c + 1) W).grown (egrown_set W b j u) (by have := h.lt; omega) (fun k hk => by injection hk with hk; omega)) (by omega)
theorem EvS.root {w W : World} {B c b2 b3 lo : Nat} {z : Int} {a3 : Option Addr} {m3 c3 : Nat} {D : List DN} (h : EvS w W B c b2 b3 lo z a3 m3 c3 D) (y : Int) : EvS w (W.setCell ⟨b3, 0, none⟩ (.int .i64 y)) B c b2 b3 lo y a3 m3 c3 D := by
  have hn := h.ne
  have hst := egrown_set W b3 0 (.int .i64 y)
  exact ⟨cur_set h.cur (by omega) _, grown_up h.gr hst (fun k hk => by injection hk with hk; omega), h.t3.set_ 0 _, (hst.block b2 h.t2.lt (fun e => by injection e with e; omega)).trans h.t2, row_keptO h.own hst (fun k hk e => by injection hk with hk; subst hk; exact h.far e), h.len, h.far, hn, Nat.le_trans h.losz hst.size⟩
theorem EvS.app {w W W' : World} {B c b2 b3 lo : Nat} {z : Int} {a3 : Option Addr} {m3 c3 : Nat} {D F : List DN} {g cap m : Nat} (h : EvS w W B c b2 b3 lo z a3 m3 c3 D) (ho : OwnDn W' lo (.slice (some ⟨g, 0, none⟩) m cap) F) (hg : W.grownBy W' (Value.slice a3 m3 c3).ownBlock) (hat : (Value.slice a3 m3 c3).ownBlock = some g ∨ g = W.heap.size) :
    BlkV W' b3 32 #[.int .i64 z, .slice a3 m3 c3] ∧ ∀ u, u = Value.slice (some ⟨g, 0, none⟩) m cap → F.length = m → EvS w (W'.setCell ⟨b3, 1, none⟩ u) B c b2 b3 lo z (some ⟨g, 0, none⟩) m cap F := by
  have hn := h.ne
  have hlo := fun k (hk : (Value.slice a3 m3 c3).ownBlock = some k) => (World.ownsRow.lt h.own k hk).1
  have hlt3 := h.t3.lt
  have ht3 : BlkV W' b3 32 #[.int .i64 z, .slice a3 m3 c3] := (hg.block b3 hlt3 (fun e => h.far e.symm)).trans h.t3
  refine ⟨ht3, fun u hu hF => ?_⟩
  subst hu
  have hst := egrown_set W' b3 1 (.slice (some ⟨g, 0, none⟩) m cap)
  have hgb : g ≠ b3 := by
    rcases hat with h1 | h1
    · exact fun e => h.far (by rw [h1, e])
    · omega
  have hc' : Cur W' B c := h.cur.below ((Below.refl (c + 1) W).grown hg (by have := h.cur.lt; omega) (fun k hk => by have := hlo k hk; omega)) (by omega)
  exact ⟨cur_set hc' (by omega) _, grown_up (grown_up h.gr hg (fun k hk => by have := hlo k hk; omega)) hst (fun k hk => by injection hk with hk; omega), ht3.set_ 1 _, (hst.block b2 (Nat.lt_of_lt_of_le h.t2.lt hg.size) (fun e => by injection e with e; omega)).trans ((hg.block b2 h.t2.lt (fun e => by have := hlo b2 e.symm; omega)).trans h.t2), row_keptO ho hst (fun k hk e => by injection hk with hk; subst hk; injection e with e; exact hgb e), hF, fun e => by injection e with e; exact hgb e, hn, Nat.le_trans h.losz (Nat.le_trans hg.size hst.size)⟩
theorem EvS.fin {w W : World} {B c b2 b3 lo : Nat} {z : Int} {a3 : Option Addr} {m3 c3 : Nat} {D : List DN} (h : EvS w W B c b2 b3 lo z a3 m3 c3 D) (hb : b2 = w.heap.size) :
    BlkV ((W.setCell ⟨b2, 0, none⟩ (.int .i64 z)).setCell ⟨b2, 1, none⟩ (.slice a3 m3 c3)) b2 32 #[.int .i64 z, .slice a3 m3 c3] ∧ OwnDn ((W.setCell ⟨b2, 0, none⟩ (.int .i64 z)).setCell ⟨b2, 1, none⟩ (.slice a3 m3 c3)) w.heap.size (.slice a3 m3 c3) D ∧
      Cur ((W.setCell ⟨b2, 0, none⟩ (.int .i64 z)).setCell ⟨b2, 1, none⟩ (.slice a3 m3 c3)) B c ∧ w.grownBy ((W.setCell ⟨b2, 0, none⟩ (.int .i64 z)).setCell ⟨b2, 1, none⟩ (.slice a3 m3 c3)) (some c) := by
  have hn := h.ne
  refine ⟨(h.t2.set_ 0 _).set_ 1 _, ((h.own.setCell ⟨b2, 0, none⟩ _ hn.2.1).setCell ⟨b2, 1, none⟩ _ hn.2.1).mono (by omega), cur_set (cur_set h.cur hn.1 _) hn.1 _, ?_⟩
  exact grown_up (grown_up h.gr (egrown_set W b2 0 _) (fun k hk => by injection hk with hk; omega)) (egrown_set _ b2 1 _) (fun k hk => by injection hk with hk; omega)
theorem lit3 {W : World} {g : Nat} {x y z : Int} (h : BlkV W g 3 #[.int .i64 x, .int .i64 y, .int .i64 z]) (hx : -1000 ≤ x ∧ x ≤ 1000) (hy : -1000 ≤ y ∧ y ≤ 1000) (hz : -1000 ≤ z ∧ z ≤ 1000) : ∀ j, j < 3 → ∃ z : Int, -9223372036854775808 ≤ z ∧ z ≤ 9223372036854775807 ∧ W.cell? ⟨g, j, none⟩ = some (.int .i64 z) := by
  intro j hj
  rcases (show j = 0 ∨ j = 1 ∨ j = 2 by omega) with rfl | rfl | rfl
  · exact ⟨x, by omega, by omega, h.three0⟩
  · exact ⟨y, by omega, by omega, h.three1⟩
  · exact ⟨z, by omega, by omega, h.three2⟩
def SomeDg (w : World) (B c : Nat) (e : Ending) (w' : World) : Prop :=
  ∃ (z : Int) (a : Option Addr) (cap m : Nat) (D : List DN), e = .returned (.agg #[.int .i64 z, .slice a m cap]) ∧ OwnDn w' w.heap.size (.slice a m cap) D ∧ D.length = m ∧ m ≤ 600 ∧ Cur w' B c ∧ w.grownBy w' (some c)

set_option maxRecDepth 100000 in
set_option maxHeartbeats 8000000 in
theorem any15 (B c : Nat) (w : World) (hcur : Cur w B c) (hrules : ∀ (W : World), Cur W B c → Calls Tryz.prog 52 #[.pointer (some ⟨c, 0, none⟩)] W (SomeRs W B c)) : Calls Tryz.prog 39 #[.pointer (some ⟨c, 0, none⟩)] w (SomeDg w B c) := by
  obtain ⟨w1, hw1⟩ : ∃ w1, w.alloc (.cells #[.int .i64 0, .slice none 0 0] 32) = w1 := ⟨_, rfl⟩
  have hbx : BlkV w1 w.heap.size 32 #[.int .i64 0, .slice none 0 0] := by rw [← hw1]; exact BlkV.new _ _ _
  have HC1 := Lib.hid (show Cur w1 B c by rw [← hw1]; exact hcur.alloc _)
  have hlt := hcur.lt
  have hz1 : w1.heap.size = w.heap.size + 1 := by rw [← hw1]; simp
  have hg1 : w.grownBy w1 (some c) := by rw [← hw1]; exact World.grownBy_alloc _ _ _
  have HWE := Lib.hid hw1
  have HRL := Lib.hid (hrules w1 HC1.out)
  have HBX := Lib.hid hbx
  have HG1 := Lib.hid hg1
  have HZ1 := Lib.hid (And.intro hz1 hlt)
  clear hcur hw1 hrules hbx hlt hz1 hg1
  go_enter Tryz.func39, Tryz.ntmps39
  go_wp2_with (go_at_call 52; rw [HWE.out]; ((with_reducible refine HRL.out.mono ?_); rintro e w2 ⟨R, a, cap, q, rfl, hq, ho, hsm, hc2, hg2⟩; refine Hid.out ?_))
  obtain ⟨⟨⟨z, D⟩, rb⟩, hr⟩ : ∃ r, bdR R = r := ⟨_, rfl⟩
  have hDl := bd_len R
  rw [hr] at hDl
  have HDL := Lib.hid (show D.length ≤ 511 from hDl)
  have HC2 := Lib.hid hc2
  have HG2 := Lib.hid (grown_trans HG1.out hg2)
  have HX2 := Lib.hid (show BlkV w2 w.heap.size 32 #[.int .i64 0, .slice none 0 0] from (hg2.block w.heap.size HBX.out.lt (fun e => by injection e with e; have := HZ1.out; omega)).trans HBX.out)
  have HBD := Lib.hid (bd_spec a cap R z D rb w2 hr (ho.smRu hq (by have := hsm.2.1; omega) (fun x hx => by have := hsm.2.2.1 x hx; omega)))
  have HS2 := Lib.hid hg2.size
  clear hq ho hsm hc2 hg2 hr hDl
  refine Lib.hid ?_
  go_wp2_with (go_at_call 7; ((refine HBD.out.mono ?_); rintro e w3 ⟨a3, c3, rfl, hown, hb⟩; refine Hid.out ?_))
  obtain ⟨m3, hm3⟩ : ∃ m, D.length = m := ⟨_, rfl⟩
  rw [hm3] at hown ⊢
  have HM3 := Lib.hid (show m3 ≤ 511 by rw [← hm3]; exact HDL.out)
  obtain ⟨w4, hw4⟩ : ∃ w4, w3.alloc (.cells #[.int .i64 z, .slice a3 m3 c3] 32) = w4 := ⟨_, rfl⟩
  have hb4 : Below w3.heap.size w3 w4 := by rw [← hw4]; exact (Below.refl _ _).alloc (Nat.le_refl _) _
  have ht3 : BlkV w4 w3.heap.size 32 #[.int .i64 z, .slice a3 m3 c3] := by rw [← hw4]; exact BlkV.new _ _ _
  have hs := And.intro HZ1.out HS2.out
  have hbs := hb.size
  have hE4 : EvS w w4 B c w.heap.size w3.heap.size w2.heap.size z a3 m3 c3 D := ⟨(HC2.out.below hb HC2.out.lt).below hb4 (Nat.lt_of_lt_of_le HC2.out.lt hbs), grown_cur (grown_cur HG2.out hb) hb4, ht3, (HX2.out.below hb).below hb4, hown.below hb4, hm3, fun e => by have := (World.ownsRow.lt hown _ e).2; omega, by omega, by have := hb4.size; omega⟩
  have HW4 := Lib.hid hw4
  have HE4 := Lib.hid hE4
  clear hown hb hb4 ht3 hw4 hs hbs hE4 hm3
  obtain ⟨b2, hb2⟩ : ∃ b, w.heap.size = b := ⟨_, rfl⟩
  have HB2 := Lib.hid hb2.symm
  obtain ⟨b3, hb3⟩ : ∃ b, w3.heap.size = b := ⟨_, rfl⟩
  obtain ⟨lo, hlo⟩ : ∃ b, w2.heap.size = b := ⟨_, rfl⟩
  rw [hb2, hb3, hlo] at HE4
  refine Lib.hid ?_
  go_wp2_with (go_at_call 53; rw [HW4.out]; ((refine (l1Below_any B c _ _ HE4.out.cur (by omega) (by omega)).mono ?_); rintro e w5 ⟨x, rfl, hx0, hx1, hc5, hg5⟩; refine Hid.out ?_))
  (try rw [hb2])
  (try rw [hb3])
  have HE5 := Lib.hid (HE4.out.grown hg5 hc5)
  clear hc5 hg5 hb2 hb3 hlo
  have s5 := HE5.out.t3.two1
  refine Lib.hid ?_
  have hcase : x = 0 ∨ x = 1 ∨ 1 < x := by omega
  rcases hcase with rfl | rfl | hx
  · have hpk : ∀ j, j < 5 → ∃ z : Int, -9223372036854775808 ≤ z ∧ z ≤ 9223372036854775807 ∧ (w5.alloc (.cells #[.int .i64 0, .int .i64 1, .int .i64 2, .int .i64 99, .int .i64 (-1)] 3)).cell? ⟨w5.heap.size, j, none⟩ = some (.int .i64 z) := lit_cells w5 [0, 1, 2, 99, -1] (by decide)
    have HPK := Lib.hid hpk
    have HEA := Lib.hid (HE5.out.below ((Below.refl w5.heap.size w5).alloc (Nat.le_refl _) (.cells #[.int .i64 0, .int .i64 1, .int .i64 2, .int .i64 99, .int .i64 (-1)] 3)))
    have HCL := Lib.hid HE5.out.cur.lt
    clear hpk
    go_wp2_with (go_at_call 54; ((refine (l1PickInt_any B c w5.heap.size 5 _ HEA.out.cur (by omega) (by omega) (by have := HCL.out; omega) HPK.out).mono ?_); rintro e w6 ⟨y, rfl, hy0, hy1, hc6, hg6⟩; refine Hid.out ?_))
    have HE6 := Lib.hid (HEA.out.grown hg6 hc6)
    have r6 := HE6.out.t3.two0
    have r61 := HE6.out.t3.two1
    have rf6 := HE6.out.t3.frozen 0
    have HEF := Lib.hid (HE6.out.root y)
    have t0 := HEF.out.t3.two0
    have t1 := HEF.out.t3.two1
    have t2 := HEF.out.t2.two0
    have t3 := HEF.out.t2.two1
    have t4 := HEF.out.t2.frozen 0
    have t5 := HEF.out.t2.frozen 1
    clear hc6 hg6 hy0 hy1 s5
    refine Lib.hid ?_
    go_wp2
    generalize w6.setCell ⟨b3, 0, none⟩ (.int .i64 y) = wf at HEF t0 t1 t2 t3 t4 t5 ⊢
    have hfin := HEF.out.fin HB2.out
    generalize hwz : (wf.setCell ⟨b2, 0, none⟩ (.int .i64 y)).setCell ⟨b2, 1, none⟩ (.slice a3 m3 c3) = wz at hfin ⊢
    have e0 := hfin.1.two0
    have e1 := hfin.1.two1
    refine bodyPost_ret (v := .agg #[.int .i64 y, .slice a3 m3 c3]) (by simp [results, Tryz.results39, go_sem, e0, e1]) rfl ⟨y, a3, c3, m3, D, rfl, hfin.2.1, HEF.out.len, by have := HM3.out; omega, hfin.2.2.1, hfin.2.2.2⟩
  · go_wp2_with (fail)
    refine wp_region_noPanic ?_
    refine wp_region_E (S := fun w' => w'.cell? ⟨b3, 1, none⟩ = some (.slice a3 m3 c3)) 15 (by kernel_rfl) (s5) (fun hHeld => ?_)
    have HE6 := Lib.hid (HE5.out.below (show Below w5.heap.size w5 w5.drew from ⟨rfl, rfl, rfl, Nat.le_refl _, fun _ _ => rfl⟩))
    generalize w5.drew = w6 at hHeld HE6 ⊢
    refine anyE_take (i := 0) (v := ?vz1) rfl (by kernel_rfl) (by kernel_rfl) (by kernel_rfl) (by kernel_rfl) (by kernel_rfl) (fun _ _ _ h => h) (Or.inl ⟨by kernel_rfl, ?yz1⟩) (by assumption) ?rz1
    case yz1 => (intro w' hSw; (try dsimp only at hSw); go_simp; (try with_reducible rfl))
    (try simp only [Act.put, List.getElem_toArray, List.getElem_cons_succ, List.getElem_cons_zero, List.setIfInBounds_toArray, List.set_cons_zero, List.set_cons_succ])
    refine anyE_take (i := 1) (v := ?vz2) rfl (by kernel_rfl) (by kernel_rfl) (by kernel_rfl) (by kernel_rfl) (by kernel_rfl) (fun _ _ _ h => h) (Or.inl ⟨by kernel_rfl, ?yz2⟩) (by assumption) ?rz2
    case yz2 => (intro w' hSw; (try dsimp only at hSw); go_simp; (try with_reducible rfl))
    (try simp only [Act.put, List.getElem_toArray, List.getElem_cons_succ, List.getElem_cons_zero, List.setIfInBounds_toArray, List.set_cons_zero, List.set_cons_succ])
    refine anyE_take (i := 2) (v := ?vz3) rfl (by kernel_rfl) (by kernel_rfl) (by kernel_rfl) (by kernel_rfl) (by kernel_rfl) (fun _ _ _ h => h) (Or.inl ⟨by kernel_rfl, ?yz3⟩) (by assumption) ?rz3
    case yz3 => (intro w' hSw; (try dsimp only at hSw); go_simp; (try with_reducible rfl))
    (try simp only [Act.put, List.getElem_toArray, List.getElem_cons_succ, List.getElem_cons_zero, List.setIfInBounds_toArray, List.set_cons_zero, List.set_cons_succ])
    refine anyE_take (i := 4) (v := ?vz4) rfl (by kernel_rfl) (by kernel_rfl) (by kernel_rfl) (by kernel_rfl) (by kernel_rfl) (fun _ _ _ h => h) (Or.inl ⟨by kernel_rfl, ?yz4⟩) (by assumption) ?rz4
    case yz4 => (intro w' hSw; (try dsimp only at hSw); go_simp; (try with_reducible rfl))
    (try simp only [Act.put, List.getElem_toArray, List.getElem_cons_succ, List.getElem_cons_zero, List.setIfInBounds_toArray, List.set_cons_zero, List.set_cons_succ])
    refine anyE_take (i := 7) (v := ?vz5) rfl (by kernel_rfl) (by kernel_rfl) (by kernel_rfl) (by kernel_rfl) (by kernel_rfl) (fun _ _ _ h => h) (Or.inl ⟨by kernel_rfl, ?yz5⟩) (by assumption) ?rz5
    case yz5 => (intro w' hSw; (try dsimp only at hSw); go_simp; (try with_reducible rfl))
    (try simp only [Act.put, List.getElem_toArray, List.getElem_cons_succ, List.getElem_cons_zero, List.setIfInBounds_toArray, List.set_cons_zero, List.set_cons_succ])
    refine anyE_take (i := 9) (v := ?vz6) rfl (by kernel_rfl) (by kernel_rfl) (by kernel_rfl) (by kernel_rfl) (by kernel_rfl) (fun _ _ _ h => h) (Or.inl ⟨by kernel_rfl, ?yz6⟩) (by assumption) ?rz6
    case yz6 => (intro w' hSw; (try dsimp only at hSw); go_simp; (try with_reducible rfl))
    (try simp only [Act.put, List.getElem_toArray, List.getElem_cons_succ, List.getElem_cons_zero, List.setIfInBounds_toArray, List.set_cons_zero, List.set_cons_succ])
    refine anyE_two (i := 3) (j := 5) (by kernel_rfl) (anyE_step rfl (fun K hK => ?_)) (anyE_step rfl (fun K hK => ?_))
    · skip
      go_simp
      go_wp2_with (go_at_call 53; ((refine (l1Below_any B c _ _ HE6.out.cur (by omega) (by omega)).mono ?_); rintro e w7 ⟨y0, rfl, hx0, hx1, hc, hg⟩))
      have HE7 := Lib.hid (HE6.out.grown hg hc)
      have s7 := HE7.out.t3.two1
      clear hx0 hx1 hc hg
      refine hK.out _ _ (fun _ => s7) (fun hH => ?_)
      have hHeld := hH (by decide)
      clear hH
      clear hK K
      (try simp only [Act.put, List.getElem_toArray, List.getElem_cons_succ, List.getElem_cons_zero, List.setIfInBounds_toArray, List.set_cons_zero, List.set_cons_succ])
      refine anyE_one (i := 5) (by kernel_rfl) (anyE_step rfl (fun K hK => ?_))
      go_simp
      generalize hwn : w7.alloc (.cells #[.int .i64 1, .int .i64 500, .int .i64 0] 3) = w8
      have hb : Below w7.heap.size w7 w8 := by rw [← hwn]; exact (Below.refl _ _).alloc (Nat.le_refl _) _
      have hlx : BlkV w8 w7.heap.size 3 #[.int .i64 1, .int .i64 500, .int .i64 0] := by rw [← hwn]; exact BlkV.new _ _ _
      have HE8 := Lib.hid (HE7.out.below hb)
      have hcl := HE7.out.cur.lt
      clear hwn hb
      generalize hbl : w7.heap.size = bL at hlx hcl ⊢
      have HBL := Lib.hid (show c ≠ bL by omega)
      have HL8 := Lib.hid hlx
      have s8 := HE8.out.t3.two1
      clear hbl hlx hcl
      refine hK.out _ _ (fun _ => s8) (fun hH => ?_)
      have hHeld := hH (by decide)
      clear hH
      clear hK K
      (try simp only [Act.put, List.getElem_toArray, List.getElem_cons_succ, List.getElem_cons_zero, List.setIfInBounds_toArray, List.set_cons_zero, List.set_cons_succ])
      refine anyE_one (i := 6) (by kernel_rfl) (anyE_step rfl (fun K hK => ?_))
      go_simp
      go_wp2_with (go_at_call 54; ((refine (l1PickInt_any B c bL 3 _ HE8.out.cur (by omega) (by omega) (by have := HBL.out; omega) (lit3 HL8.out (by omega) (by omega) (by omega))).mono ?_); rintro e w9 ⟨y1, rfl, hx0, hx1, hc, hg⟩))
      have HE9 := Lib.hid (HE8.out.grown hg hc)
      have HL9 := Lib.hid (show BlkV w9 bL 3 #[.int .i64 1, .int .i64 500, .int .i64 0] from (hg.block bL (show BlkV w8 bL 3 #[.int .i64 1, .int .i64 500, .int .i64 0] from HL8.out).lt (fun e => by injection e with e; have := HBL.out; omega)).trans HL8.out)
      have s9 := HE9.out.t3.two1
      clear hx0 hx1 hc hg
      refine hK.out _ _ (fun _ => s9) (fun hH => ?_)
      have hHeld := hH (by decide)
      clear hH
      clear hK K
      (try simp only [Act.put, List.getElem_toArray, List.getElem_cons_succ, List.getElem_cons_zero, List.setIfInBounds_toArray, List.set_cons_zero, List.set_cons_succ])
      refine anyE_one (i := 8) (by kernel_rfl) (anyE_step rfl (fun K hK => ?_))
      go_simp
      go_wp2_with (go_at_call 53; ((refine (l1Below_any B c _ _ HE9.out.cur (by omega) (by omega)).mono ?_); rintro e w10 ⟨y2, rfl, hx0, hx1, hc, hg⟩))
      have HE10 := Lib.hid (HE9.out.grown hg hc)
      have HL10 := Lib.hid (show BlkV w10 bL 3 #[.int .i64 1, .int .i64 500, .int .i64 0] from (hg.block bL (show BlkV w9 bL 3 #[.int .i64 1, .int .i64 500, .int .i64 0] from HL9.out).lt (fun e => by injection e with e; have := HBL.out; omega)).trans HL9.out)
      have s10 := HE10.out.t3.two1
      clear hx0 hx1 hc hg
      refine hK.out _ _ (fun _ => s10) (fun hH => ?_)
      have hHeld := hH (by decide)
      clear hH
      clear hK K
      (try simp only [Act.put, List.getElem_toArray, List.getElem_cons_succ, List.getElem_cons_zero, List.setIfInBounds_toArray, List.set_cons_zero, List.set_cons_succ])
      refine anyE_one (i := 10) (by kernel_rfl) (anyE_step rfl (fun K hK => ?_))
      go_simp
      go_wp2_with (go_at_call 53; ((refine (l1Below_any B c _ _ HE10.out.cur (by omega) (by omega)).mono ?_); rintro e w12 ⟨y3, rfl, hx0, hx1, hc, hg⟩))
      have HE12 := Lib.hid (HE10.out.grown hg hc)
      have HL12 := Lib.hid (show BlkV w12 bL 3 #[.int .i64 1, .int .i64 500, .int .i64 0] from (hg.block bL (show BlkV w10 bL 3 #[.int .i64 1, .int .i64 500, .int .i64 0] from HL10.out).lt (fun e => by injection e with e; have := HBL.out; omega)).trans HL10.out)
      have s12 := HE12.out.t3.two1
      clear hx0 hx1 hc hg
      refine hK.out _ _ (fun _ => s12) (fun hH => ?_)
      have hHeld := hH (by decide)
      clear hH
      clear hK K
      (try simp only [Act.put, List.getElem_toArray, List.getElem_cons_succ, List.getElem_cons_zero, List.setIfInBounds_toArray, List.set_cons_zero, List.set_cons_succ])
      refine anyE_take (i := 11) (v := ?vz7) rfl (by kernel_rfl) (by kernel_rfl) (by kernel_rfl) (by kernel_rfl) (by kernel_rfl) (fun _ _ _ h => h) (Or.inl ⟨by kernel_rfl, ?yz7⟩) (by assumption) ?rz7
      case yz7 => (intro w' hSw; (try dsimp only at hSw); go_simp; (try with_reducible rfl))
      (try simp only [Act.put, List.getElem_toArray, List.getElem_cons_succ, List.getElem_cons_zero, List.setIfInBounds_toArray, List.set_cons_zero, List.set_cons_succ])
      refine anyE_one (i := 12) (by kernel_rfl) (anyE_step rfl (fun K hK => ?_))
      go_simp
      generalize hwn : w12.alloc (.cells #[.int .i64 y0, .int .i64 y1, .int .i64 y2, .int .i64 y3] 59) = w13
      have hb : Below w12.heap.size w12 w13 := by rw [← hwn]; exact (Below.refl _ _).alloc (Nat.le_refl _) _
      have hlx : BlkV w13 w12.heap.size 59 #[.int .i64 y0, .int .i64 y1, .int .i64 y2, .int .i64 y3] := by rw [← hwn]; exact BlkV.new _ _ _
      have HE13 := Lib.hid (HE12.out.below hb)
      clear hwn hb
      generalize w12.heap.size = bN at hlx ⊢
      have HN13 := Lib.hid hlx
      have s13 := HE13.out.t3.two1
      clear hlx
      refine hK.out _ _ (fun _ => s13) (fun hH => ?_)
      have hHeld := hH (by decide)
      clear hH
      clear hK K
      (try simp only [Act.put, List.getElem_toArray, List.getElem_cons_succ, List.getElem_cons_zero, List.setIfInBounds_toArray, List.set_cons_zero, List.set_cons_succ])
      refine anyE_one (i := 13) (by kernel_rfl) (anyE_step rfl (fun K hK => ?_))
      refine step_nodeP rfl (.tmp 22) (.tmp 33) rfl lo (.slice a3 m3 c3) D (D ++ [((y0, y1), (y2, y3))]) m3 (m3 + 1) ((y0, y1), (y2, y3)) HE13.out.own rfl rfl HE13.out.len rfl bN rfl HN13.out (by have := HM3.out; omega) HE13.out.losz ?_
      intro g5 c5 w14 ho hg hat
      have HA14 := Lib.hid (HE13.out.app ho hg hat)
      have s14 := HA14.out.1.two1
      have rf14 := HA14.out.1.frozen 1
      clear ho hg hat
      refine hK.out _ _ (fun _ => s14) (fun hH => ?_)
      have hHeld := hH (by decide)
      clear hH
      clear hK K
      (try simp only [Act.put, List.getElem_toArray, List.getElem_cons_succ, List.getElem_cons_zero, List.setIfInBounds_toArray, List.set_cons_zero, List.set_cons_succ])
      refine anyE_take (i := 14) (v := ?vz8) rfl (by kernel_rfl) (by kernel_rfl) (by kernel_rfl) (by kernel_rfl) (by kernel_rfl) (fun _ _ _ h => h) (Or.inl ⟨by kernel_rfl, ?yz8⟩) (by assumption) ?rz8
      case yz8 => (intro w' hSw; (try dsimp only at hSw); go_simp; (try with_reducible rfl))
      (try simp only [Act.put, List.getElem_toArray, List.getElem_cons_succ, List.getElem_cons_zero, List.setIfInBounds_toArray, List.set_cons_zero, List.set_cons_succ])
      refine anyE_one (i := 15) (by kernel_rfl) (anyE_step rfl (fun K hK => ?_))
      go_simp
      refine hK.out _ _ (fun h => absurd rfl h) (fun _ => ?_)
      clear hK K
      (try simp only [Act.put, List.getElem_toArray, List.getElem_cons_succ, List.getElem_cons_zero, List.setIfInBounds_toArray, List.set_cons_zero, List.set_cons_succ])
      refine anyE_done (by kernel_rfl) ?_ _
      refine NoPanic.normal ?_
      have HEF := Lib.hid (HA14.out.2 (.slice (some ⟨g5, 0, none⟩) (m3 + 1) c5) rfl (by rw [List.length_append, HE13.out.len]; rfl))
      generalize w14.setCell ⟨b3, 1, none⟩ (.slice (some ⟨g5, 0, none⟩) (m3 + 1) c5) = wf at HEF ⊢
      clear s5 s7 s8 s9 s10 s12 s13 s14 rf14
      have u0 := HEF.out.t3.two0
      have u1 := HEF.out.t3.two1
      have v0 := HEF.out.t2.two0
      have v1 := HEF.out.t2.two1
      have f0 := HEF.out.t2.frozen 0
      have f1 := HEF.out.t2.frozen 1
      go_wp2
      have hfin := HEF.out.fin HB2.out
      generalize hwz : (wf.setCell ⟨b2, 0, none⟩ (.int .i64 z)).setCell ⟨b2, 1, none⟩ (.slice (some ⟨g5, 0, none⟩) (m3 + 1) c5) = wz at hfin ⊢
      have e0 := hfin.1.two0
      have e1 := hfin.1.two1
      refine bodyPost_ret (v := .agg #[.int .i64 z, .slice (some ⟨g5, 0, none⟩) (m3 + 1) c5]) (by simp [results, Tryz.results39, go_sem, e0, e1]) rfl ⟨z, (some ⟨g5, 0, none⟩), c5, (m3 + 1), (D ++ [((y0, y1), (y2, y3))]), rfl, hfin.2.1, HEF.out.len, by have := HM3.out; omega, hfin.2.2.1, hfin.2.2.2⟩
    · skip
      go_simp
      generalize hwn : w6.alloc (.cells #[.int .i64 1, .int .i64 500, .int .i64 0] 3) = w7
      have hb : Below w6.heap.size w6 w7 := by rw [← hwn]; exact (Below.refl _ _).alloc (Nat.le_refl _) _
      have hlx : BlkV w7 w6.heap.size 3 #[.int .i64 1, .int .i64 500, .int .i64 0] := by rw [← hwn]; exact BlkV.new _ _ _
      have HE7 := Lib.hid (HE6.out.below hb)
      have hcl := HE6.out.cur.lt
      clear hwn hb
      generalize hbl : w6.heap.size = bL at hlx hcl ⊢
      have HBL := Lib.hid (show c ≠ bL by omega)
      have HL7 := Lib.hid hlx
      have s7 := HE7.out.t3.two1
      clear hbl hlx hcl
      refine hK.out _ _ (fun _ => s7) (fun hH => ?_)
      have hHeld := hH (by decide)
      clear hH
      clear hK K
      (try simp only [Act.put, List.getElem_toArray, List.getElem_cons_succ, List.getElem_cons_zero, List.setIfInBounds_toArray, List.set_cons_zero, List.set_cons_succ])
      refine anyE_one (i := 3) (by kernel_rfl) (anyE_step rfl (fun K hK => ?_))
      go_simp
      go_wp2_with (go_at_call 53; ((refine (l1Below_any B c _ _ HE7.out.cur (by omega) (by omega)).mono ?_); rintro e w8 ⟨y0, rfl, hx0, hx1, hc, hg⟩))
      have HE8 := Lib.hid (HE7.out.grown hg hc)
      have HL8 := Lib.hid (show BlkV w8 bL 3 #[.int .i64 1, .int .i64 500, .int .i64 0] from (hg.block bL (show BlkV w7 bL 3 #[.int .i64 1, .int .i64 500, .int .i64 0] from HL7.out).lt (fun e => by injection e with e; have := HBL.out; omega)).trans HL7.out)
      have s8 := HE8.out.t3.two1
      clear hx0 hx1 hc hg
      refine hK.out _ _ (fun _ => s8) (fun hH => ?_)
      have hHeld := hH (by decide)
      clear hH
      clear hK K
      (try simp only [Act.put, List.getElem_toArray, List.getElem_cons_succ, List.getElem_cons_zero, List.setIfInBounds_toArray, List.set_cons_zero, List.set_cons_succ])
      refine anyE_one (i := 6) (by kernel_rfl) (anyE_step rfl (fun K hK => ?_))
      go_simp
      go_wp2_with (go_at_call 54; ((refine (l1PickInt_any B c bL 3 _ HE8.out.cur (by omega) (by omega) (by have := HBL.out; omega) (lit3 HL8.out (by omega) (by omega) (by omega))).mono ?_); rintro e w9 ⟨y1, rfl, hx0, hx1, hc, hg⟩))
      have HE9 := Lib.hid (HE8.out.grown hg hc)
      have HL9 := Lib.hid (show BlkV w9 bL 3 #[.int .i64 1, .int .i64 500, .int .i64 0] from (hg.block bL (show BlkV w8 bL 3 #[.int .i64 1, .int .i64 500, .int .i64 0] from HL8.out).lt (fun e => by injection e with e; have := HBL.out; omega)).trans HL8.out)
      have s9 := HE9.out.t3.two1
      clear hx0 hx1 hc hg
      refine hK.out _ _ (fun _ => s9) (fun hH => ?_)
      have hHeld := hH (by decide)
      clear hH
      clear hK K
      (try simp only [Act.put, List.getElem_toArray, List.getElem_cons_succ, List.getElem_cons_zero, List.setIfInBounds_toArray, List.set_cons_zero, List.set_cons_succ])
      refine anyE_one (i := 8) (by kernel_rfl) (anyE_step rfl (fun K hK => ?_))
      go_simp
      go_wp2_with (go_at_call 53; ((refine (l1Below_any B c _ _ HE9.out.cur (by omega) (by omega)).mono ?_); rintro e w10 ⟨y2, rfl, hx0, hx1, hc, hg⟩))
      have HE10 := Lib.hid (HE9.out.grown hg hc)
      have HL10 := Lib.hid (show BlkV w10 bL 3 #[.int .i64 1, .int .i64 500, .int .i64 0] from (hg.block bL (show BlkV w9 bL 3 #[.int .i64 1, .int .i64 500, .int .i64 0] from HL9.out).lt (fun e => by injection e with e; have := HBL.out; omega)).trans HL9.out)
      have s10 := HE10.out.t3.two1
      clear hx0 hx1 hc hg
      refine hK.out _ _ (fun _ => s10) (fun hH => ?_)
      have hHeld := hH (by decide)
      clear hH
      clear hK K
      (try simp only [Act.put, List.getElem_toArray, List.getElem_cons_succ, List.getElem_cons_zero, List.setIfInBounds_toArray, List.set_cons_zero, List.set_cons_succ])
      refine anyE_one (i := 10) (by kernel_rfl) (anyE_step rfl (fun K hK => ?_))
      go_simp
      go_wp2_with (go_at_call 53; ((refine (l1Below_any B c _ _ HE10.out.cur (by omega) (by omega)).mono ?_); rintro e w12 ⟨y3, rfl, hx0, hx1, hc, hg⟩))
      have HE12 := Lib.hid (HE10.out.grown hg hc)
      have HL12 := Lib.hid (show BlkV w12 bL 3 #[.int .i64 1, .int .i64 500, .int .i64 0] from (hg.block bL (show BlkV w10 bL 3 #[.int .i64 1, .int .i64 500, .int .i64 0] from HL10.out).lt (fun e => by injection e with e; have := HBL.out; omega)).trans HL10.out)
      have s12 := HE12.out.t3.two1
      clear hx0 hx1 hc hg
      refine hK.out _ _ (fun _ => s12) (fun hH => ?_)
      have hHeld := hH (by decide)
      clear hH
      clear hK K
      (try simp only [Act.put, List.getElem_toArray, List.getElem_cons_succ, List.getElem_cons_zero, List.setIfInBounds_toArray, List.set_cons_zero, List.set_cons_succ])
      refine anyE_take (i := 11) (v := ?vz9) rfl (by kernel_rfl) (by kernel_rfl) (by kernel_rfl) (by kernel_rfl) (by kernel_rfl) (fun _ _ _ h => h) (Or.inl ⟨by kernel_rfl, ?yz9⟩) (by assumption) ?rz9
      case yz9 => (intro w' hSw; (try dsimp only at hSw); go_simp; (try with_reducible rfl))
      (try simp only [Act.put, List.getElem_toArray, List.getElem_cons_succ, List.getElem_cons_zero, List.setIfInBounds_toArray, List.set_cons_zero, List.set_cons_succ])
      refine anyE_one (i := 12) (by kernel_rfl) (anyE_step rfl (fun K hK => ?_))
      go_simp
      generalize hwn : w12.alloc (.cells #[.int .i64 y0, .int .i64 y1, .int .i64 y2, .int .i64 y3] 59) = w13
      have hb : Below w12.heap.size w12 w13 := by rw [← hwn]; exact (Below.refl _ _).alloc (Nat.le_refl _) _
      have hlx : BlkV w13 w12.heap.size 59 #[.int .i64 y0, .int .i64 y1, .int .i64 y2, .int .i64 y3] := by rw [← hwn]; exact BlkV.new _ _ _
      have HE13 := Lib.hid (HE12.out.below hb)
      clear hwn hb
      generalize w12.heap.size = bN at hlx ⊢
      have HN13 := Lib.hid hlx
      have s13 := HE13.out.t3.two1
      clear hlx
      refine hK.out _ _ (fun _ => s13) (fun hH => ?_)
      have hHeld := hH (by decide)
      clear hH
      clear hK K
      (try simp only [Act.put, List.getElem_toArray, List.getElem_cons_succ, List.getElem_cons_zero, List.setIfInBounds_toArray, List.set_cons_zero, List.set_cons_succ])
      refine anyE_one (i := 13) (by kernel_rfl) (anyE_step rfl (fun K hK => ?_))
      refine step_nodeP rfl (.tmp 22) (.tmp 33) rfl lo (.slice a3 m3 c3) D (D ++ [((y0, y1), (y2, y3))]) m3 (m3 + 1) ((y0, y1), (y2, y3)) HE13.out.own rfl rfl HE13.out.len rfl bN rfl HN13.out (by have := HM3.out; omega) HE13.out.losz ?_
      intro g5 c5 w14 ho hg hat
      have HA14 := Lib.hid (HE13.out.app ho hg hat)
      have s14 := HA14.out.1.two1
      have rf14 := HA14.out.1.frozen 1
      clear ho hg hat
      refine hK.out _ _ (fun _ => s14) (fun hH => ?_)
      have hHeld := hH (by decide)
      clear hH
      clear hK K
      (try simp only [Act.put, List.getElem_toArray, List.getElem_cons_succ, List.getElem_cons_zero, List.setIfInBounds_toArray, List.set_cons_zero, List.set_cons_succ])
      refine anyE_take (i := 14) (v := ?vz10) rfl (by kernel_rfl) (by kernel_rfl) (by kernel_rfl) (by kernel_rfl) (by kernel_rfl) (fun _ _ _ h => h) (Or.inl ⟨by kernel_rfl, ?yz10⟩) (by assumption) ?rz10
      case yz10 => (intro w' hSw; (try dsimp only at hSw); go_simp; (try with_reducible rfl))
      (try simp only [Act.put, List.getElem_toArray, List.getElem_cons_succ, List.getElem_cons_zero, List.setIfInBounds_toArray, List.set_cons_zero, List.set_cons_succ])
      refine anyE_one (i := 15) (by kernel_rfl) (anyE_step rfl (fun K hK => ?_))
      go_simp
      refine hK.out _ _ (fun h => absurd rfl h) (fun _ => ?_)
      clear hK K
      (try simp only [Act.put, List.getElem_toArray, List.getElem_cons_succ, List.getElem_cons_zero, List.setIfInBounds_toArray, List.set_cons_zero, List.set_cons_succ])
      refine anyE_done (by kernel_rfl) ?_ _
      refine NoPanic.normal ?_
      have HEF := Lib.hid (HA14.out.2 (.slice (some ⟨g5, 0, none⟩) (m3 + 1) c5) rfl (by rw [List.length_append, HE13.out.len]; rfl))
      generalize w14.setCell ⟨b3, 1, none⟩ (.slice (some ⟨g5, 0, none⟩) (m3 + 1) c5) = wf at HEF ⊢
      clear s5 s7 s8 s9 s10 s12 s13 s14 rf14
      have u0 := HEF.out.t3.two0
      have u1 := HEF.out.t3.two1
      have v0 := HEF.out.t2.two0
      have v1 := HEF.out.t2.two1
      have f0 := HEF.out.t2.frozen 0
      have f1 := HEF.out.t2.frozen 1
      go_wp2
      have hfin := HEF.out.fin HB2.out
      generalize hwz : (wf.setCell ⟨b2, 0, none⟩ (.int .i64 z)).setCell ⟨b2, 1, none⟩ (.slice (some ⟨g5, 0, none⟩) (m3 + 1) c5) = wz at hfin ⊢
      have e0 := hfin.1.two0
      have e1 := hfin.1.two1
      refine bodyPost_ret (v := .agg #[.int .i64 z, .slice (some ⟨g5, 0, none⟩) (m3 + 1) c5]) (by simp [results, Tryz.results39, go_sem, e0, e1]) rfl ⟨z, (some ⟨g5, 0, none⟩), c5, (m3 + 1), (D ++ [((y0, y1), (y2, y3))]), rfl, hfin.2.1, HEF.out.len, by have := HM3.out; omega, hfin.2.2.1, hfin.2.2.2⟩
  · have hx1' : ¬ x = 0 := by omega
    have hx2' : ¬ x = 1 := by omega
    have HEF := HE5
    generalize w5 = wf at HEF s5 ⊢
    clear s5
    have u0 := HEF.out.t3.two0
    have u1 := HEF.out.t3.two1
    have v0 := HEF.out.t2.two0
    have v1 := HEF.out.t2.two1
    have f0 := HEF.out.t2.frozen 0
    have f1 := HEF.out.t2.frozen 1
    go_wp2
    have hfin := HEF.out.fin HB2.out
    generalize hwz : (wf.setCell ⟨b2, 0, none⟩ (.int .i64 z)).setCell ⟨b2, 1, none⟩ (.slice a3 m3 c3) = wz at hfin ⊢
    have e0 := hfin.1.two0
    have e1 := hfin.1.two1
    refine bodyPost_ret (v := .agg #[.int .i64 z, .slice a3 m3 c3]) (by simp [results, Tryz.results39, go_sem, e0, e1]) rfl ⟨z, a3, c3, m3, D, rfl, hfin.2.1, HEF.out.len, by have := HM3.out; omega, hfin.2.2.1, hfin.2.2.2⟩

end Go.Proofs.YtpmfabpnjacegaaGreatDoor

