/-
  What spec.l13Put does: one pair more in an ascending list of the call's own. By an AI agent.
-/
import Derived.Test.YtebddnjccmaimaaGreatDoorGPr
import Derived.BigQuiet
import Derived.Deep.QuietTactic
namespace Go.Proofs.YtebddnjccmaimaaGreatDoor
open Go.RowKit
set_option linter.unusedVariables false
set_option linter.unusedSimpArgs false

def Ahead (l : List IP) (p : IP) (k : Nat) : Prop := ∀ j q, l[j]? = some q → j < k → plt q p
theorem Ahead.zero (l : List IP) (p : IP) : Ahead l p 0 := fun j q _ hj => absurd hj (Nat.not_lt_zero _)
theorem Ahead.succ {l : List IP} {p q : IP} {k : Nat} (h : Ahead l p k) (hq : l[k]? = some q) (hp : plt q p) : Ahead l p (k + 1) := fun j z hz hj => by
  by_cases e : j = k
  · rw [e, hq] at hz
    cases hz
    exact hp
  · exact h j z hz (by omega)

set_option maxRecDepth 100000 in
set_option maxHeartbeats 4000000 in
theorem putp_nil (base : Nat) (p0 p1 : Int) (w : World) (hbase : base ≤ w.heap.size) :
    Calls Tryz.prog 50 #[.slice none 0 0, .agg #[.int .i64 p0, .int .i64 p1]] w (PutsP w base (putP [] (p0, p1))) := by
  obtain ⟨w0, hw0⟩ : ∃ x, x = w.alloc (.cells #[.int .i64 p0, .int .i64 p1] 34) := ⟨_, rfl⟩
  have HW0 := Lib.hid hw0
  have HBw := Lib.hid (show Below w.heap.size w w0 by rw [hw0]; exact (Below.refl _ _).alloc (Nat.le_refl _) _)
  have HR0 := Lib.hid (show BlkV w0 w.heap.size 34 #[.int .i64 p0, .int .i64 p1] by rw [hw0]; exact BlkV.new _ _ _)
  have HB0 := Lib.hid hbase
  clear hw0 hbase
  have HE := Lib.hid (show putP [] (p0, p1) = ([] : List IP) ++ (p0, p1) :: ([] : List IP) from rfl)
  go_enter Tryz.func50, Tryz.ntmps50
  go_wp2
  rw [← HW0.out]
  go_loopw [5] (fun i wr => i = .int .i64 (0 : Nat) ∧ Below w0.heap.size w0 wr) (fun i _ => 0)
  case atStart => exact ⟨rfl, Below.refl _ _⟩
  case round =>
    obtain ⟨rfl, hb⟩ := hrel
    have HB := Lib.hid hb
    have HRr := Lib.hid (HR0.out.below hb)
    have c0 := HRr.out.two0
    have c1 := HRr.out.two1
    clear hb
    go_wp2_with (fail)
    go_quiet (fail)
    have HBx := Lib.hid (HB.out.trans (quiet_below w0.heap.size wr nq))
    generalize wr.drewN nq = wx at HBx ⊢
    clear c0 c1
    have HRx := Lib.hid (HR0.out.below HBx.out)
    have c0 := HRx.out.two0
    have c1 := HRx.out.two1
    go_wp2_with (fail)
    go_quiet (fail)
    have HBy := Lib.hid (HBx.out.trans (quiet_below w0.heap.size wx nq))
    generalize wx.drewN nq = wq at HBy ⊢
    clear c0 c1
    have HRq := Lib.hid (HR0.out.below HBy.out)
    have HBq := Lib.hid (HBw.out.trans (HBy.out.mono HBw.out.size))

    have hmin : ([] : List IP).length = 0 := rfl
    have hdr : ([] : List IP).length = 0 := rfl
    have O1 := Lib.hid (show OwnP (wq.alloc (.cells #[] 34)).drew wq.heap.size (.slice (some ⟨wq.heap.size, 0, none⟩) 0 0) [] from OwnP.new wq wq.heap.size wq.heap.size rfl (Nat.le_refl _))
    have B1 := Lib.hid ((Below.refl wq.heap.size wq).alloc (Nat.le_refl _) (.cells #[] 34)).drew
    have O2 := Lib.hid (show OwnP ((wq.alloc (.cells #[] 34)).alloc (.cells #[.int .i64 p0, .int .i64 p1] 34)).drew wq.heap.size (.slice (some ⟨wq.heap.size, 0, none⟩) 0 0) [] from (OwnP.new wq wq.heap.size wq.heap.size rfl (Nat.le_refl _)).alloc (.cells #[.int .i64 p0, .int .i64 p1] 34))
    have B2 := Lib.hid (((Below.refl wq.heap.size wq).alloc (Nat.le_refl _) (.cells #[] 34)).alloc (by simp) (.cells #[.int .i64 p0, .int .i64 p1] 34)).drew
    have S2 := Lib.hid (show InP ((wq.alloc (.cells #[] 34)).alloc (.cells #[.int .i64 p0, .int .i64 p1] 34)).drew (some ⟨wq.heap.size + 1, 0, none⟩) [(p0, p1)] from in_oneP (wq.alloc (.cells #[] 34)) (wq.heap.size + 1) p0 p1 (by simp))
    have O3 := Lib.hid (show OwnP ((wq.alloc (.cells #[.int .i64 p0, .int .i64 p1] 34)).alloc (.cells #[] 34)).drew wq.heap.size (.slice (some ⟨wq.heap.size + 1, 0, none⟩) 0 0) [] from OwnP.new (wq.alloc (.cells #[.int .i64 p0, .int .i64 p1] 34)) wq.heap.size (wq.heap.size + 1) (by simp) (by omega))
    have B3 := Lib.hid (((Below.refl wq.heap.size wq).alloc (Nat.le_refl _) (.cells #[.int .i64 p0, .int .i64 p1] 34)).alloc (by simp) (.cells #[] 34)).drew
    have S3 := Lib.hid (show InP ((wq.alloc (.cells #[.int .i64 p0, .int .i64 p1] 34)).alloc (.cells #[] 34)).drew (some ⟨wq.heap.size, 0, none⟩) [(p0, p1)] from (in_oneP wq wq.heap.size p0 p1 rfl).below ((Below.refl _ _).alloc (Nat.le_refl _) _).drew)
    have HM := Lib.hid hmin
    have HD := Lib.hid hdr
    have c0 := HRq.out.two0
    have c1 := HRq.out.two1
    have e0 := fun o => (HRq.out.alloc o).two0
    have e1 := fun o => (HRq.out.alloc o).two1
    clear hmin hdr
    go_wp2
    go_region_law (first
      | (refine step_appP (by rfl) (.tmp 55) (.tmp 58) (by rfl) wq.heap.size (.slice (some ⟨wq.heap.size, 0, none⟩) 0 0) [] (by rfl) none 0 0 ([] : List IP) (by rfl) HM.out.symm O1.out (InP.empty _ _ rfl) (fun _ => rfl) (by have e1 := HM.out; have e2 := HD.out; simp only [List.length_append, List.length_cons, List.length_nil] at e1 e2 ⊢; omega) B1.out.size ?_; intro v1 w1 ho1 hg1; have hb1 : Below wq.heap.size wq w1 := grownP_old B1.out hg1 O1.out (Nat.le_refl _); have l0 := (HRq.out.below hb1).two0; have l1 := (HRq.out.below hb1).two1)
      | (refine step_appP (by rfl) (.tmp 55) (.tmp 58) (by rfl) wq.heap.size (.slice (some ⟨wq.heap.size, 0, none⟩) 0 0) [] (by rfl) none 0 0 ([] : List IP) (by rfl) HM.out.symm O2.out (InP.empty _ _ rfl) (fun _ => rfl) (by have e1 := HM.out; have e2 := HD.out; simp only [List.length_append, List.length_cons, List.length_nil] at e1 e2 ⊢; omega) B2.out.size ?_; intro v1 w1 ho1 hg1; have hb1 : Below wq.heap.size wq w1 := grownP_old B2.out hg1 O2.out (Nat.le_refl _); have l0 := (HRq.out.below hb1).two0; have l1 := (HRq.out.below hb1).two1; have hs1 := S2.out.grown hg1 (by intro b off e; cases e; simp [Value.ownBlock]))
      | (refine step_appP (by rfl) (.tmp 55) (.tmp 58) (by rfl) wq.heap.size (.slice (some ⟨wq.heap.size + 1, 0, none⟩) 0 0) [] (by rfl) none 0 0 ([] : List IP) (by rfl) HM.out.symm O3.out (InP.empty _ _ rfl) (fun _ => rfl) (by have e1 := HM.out; have e2 := HD.out; simp only [List.length_append, List.length_cons, List.length_nil] at e1 e2 ⊢; omega) B3.out.size ?_; intro v1 w1 ho1 hg1; have hb1 : Below wq.heap.size wq w1 := grownP_old B3.out hg1 O3.out (Nat.le_refl _); have l0 := (HRq.out.below hb1).two0; have l1 := (HRq.out.below hb1).two1; have hs1 := S3.out.grown hg1 (by intro b off e; cases e; simp [Value.ownBlock]))
      | (refine step_appP (by rfl) (.tmp 59) (.tmp 61) (by rfl) wq.heap.size v1 ([] ++ ([] : List IP)) (by rfl) (some ⟨wq.heap.size + 1, 0, none⟩) 1 1 [(p0, p1)] (by rfl) rfl ho1 hs1 nofun (by have e1 := HM.out; have e2 := HD.out; simp only [List.length_append, List.length_cons, List.length_nil] at e1 e2 ⊢; omega) hb1.size ?_; intro v2 w2 ho2 hg2; have hb2 : Below wq.heap.size wq w2 := grownP_old hb1 hg2 ho1 (Nat.le_refl _))
      | (refine step_appP (by rfl) (.tmp 59) (.tmp 61) (by rfl) wq.heap.size v1 ([] ++ ([] : List IP)) (by rfl) (some ⟨wq.heap.size, 0, none⟩) 1 1 [(p0, p1)] (by rfl) rfl ho1 hs1 nofun (by have e1 := HM.out; have e2 := HD.out; simp only [List.length_append, List.length_cons, List.length_nil] at e1 e2 ⊢; omega) hb1.size ?_; intro v2 w2 ho2 hg2; have hb2 : Below wq.heap.size wq w2 := grownP_old hb1 hg2 ho1 (Nat.le_refl _))
      | (refine step_appP (by rfl) (.tmp 59) (.tmp 61) (by rfl) wq.heap.size v1 ([] ++ ([] : List IP)) (by rfl) (some ⟨w1.heap.size, 0, none⟩) 1 1 [(p0, p1)] (by rfl) rfl (ho1.alloc _) (in_oneP w1 w1.heap.size p0 p1 rfl) nofun (by have e1 := HM.out; have e2 := HD.out; simp only [List.length_append, List.length_cons, List.length_nil] at e1 e2 ⊢; omega) (hb1.alloc hb1.size _).size ?_; intro v2 w2 ho2 hg2; have hb2 : Below wq.heap.size wq w2 := grownP_old (hb1.alloc hb1.size _) hg2 (ho1.alloc _) (Nat.le_refl _))
      | (refine step_appP (by rfl) (.tmp 62) (.tmp 65) (by rfl) wq.heap.size v2 ([] ++ ([] : List IP) ++ [(p0, p1)]) (by rfl) none 0 0 ([] : List IP) (by rfl) HD.out.symm ho2 (InP.empty _ _ rfl) (fun _ => rfl) (by have e1 := HM.out; have e2 := HD.out; simp only [List.length_append, List.length_cons, List.length_nil] at e1 e2 ⊢; omega) hb2.size ?_; intro v3 w3 ho3 hg3; have hb3 : Below wq.heap.size wq w3 := grownP_old hb2 hg3 ho2 (Nat.le_refl _)))
    all_goals go_wp2
    all_goals go_ret
    all_goals
      have hfin : OwnP w3 base v3 (putP [] (p0, p1)) := by
        rw [HE.out]
        have h := OwnP.mono ho3 (Nat.le_trans HB0.out HBq.out.size)
        simpa using h
      exact PutsP.mk hfin (HBq.out.trans (hb3.mono HBq.out.size))

set_option maxRecDepth 100000 in
set_option maxHeartbeats 8000000 in
theorem putp_some (base b cap : Nat) (l : List IP) (p0 p1 : Int) (w : World) (hl : l.length ≤ 1000000) (hown : OwnP w base (.slice (some ⟨b, 0, none⟩) l.length cap) l) (hbase : base ≤ w.heap.size) :
    Calls Tryz.prog 50 #[.slice (some ⟨b, 0, none⟩) l.length cap, .agg #[.int .i64 p0, .int .i64 p1]] w (PutsP w base (putP l (p0, p1))) := by
  have hlc := hown.cap_ge
  obtain ⟨w0, hw0⟩ : ∃ x, x = w.alloc (.cells #[.int .i64 p0, .int .i64 p1] 34) := ⟨_, rfl⟩
  have HW0 := Lib.hid hw0
  have HBw := Lib.hid (show Below w.heap.size w w0 by rw [hw0]; exact (Below.refl _ _).alloc (Nat.le_refl _) _)
  have HR0 := Lib.hid (show BlkV w0 w.heap.size 34 #[.int .i64 p0, .int .i64 p1] by rw [hw0]; exact BlkV.new _ _ _)
  have HB0 := Lib.hid hbase
  clear hw0 hbase
  have HOWN := Lib.hid (hown.below HBw.out)
  have HIN := Lib.hid (hown.inP.below HBw.out)
  clear hown
  go_enter Tryz.func50, Tryz.ntmps50
  go_wp2
  rw [← HW0.out]
  go_loopw [5] (fun i wr => ∃ k : Nat, k ≤ l.length ∧ i = .int .i64 k ∧ Ahead l (p0, p1) k ∧ Below w0.heap.size w0 wr) (fun i _ => l.length - (intOf i).toNat)
  case atStart => exact ⟨0, Nat.zero_le _, rfl, Ahead.zero _ _, Below.refl _ _⟩
  case round =>
    obtain ⟨k, hk, rfl, hall, hb⟩ := hrel
    have HALL := Lib.hid hall
    have HB := Lib.hid hb
    have HRr := Lib.hid (HR0.out.below hb)
    have c0 := HRr.out.two0
    have c1 := HRr.out.two1
    have h1 : (0 : Int) ≤ (k : Int) := by omega
    have h2 : (k : Int) ≤ (cap : Int) := by omega
    have h3 : (k : Int) ≤ (l.length : Int) := by omega
    clear hall
    by_cases hlt : k < l.length
    · have hdl : decide (k < l.length) = true := decide_eq_true hlt
      obtain ⟨b', off', e', hbw, hc⟩ := HIN.out (by omega)
      obtain ⟨rfl, rfl⟩ : b = b' ∧ 0 = off' := by simpa using e'
      have hx := List.getElem?_eq_getElem hlt
      have HX := Lib.hid hx
      obtain ⟨d0, d1⟩ := hc k _ hx
      generalize l[k] = x at HX d0 d1
      obtain ⟨z0, z1⟩ := x
      rw [Nat.zero_add] at d0 d1
      have q0 : wr.cell? ⟨b, k * 2, none⟩ = some (.int .i64 z0) := by rw [hb.cell (p := ⟨b, k * 2, none⟩) hbw]; exact d0
      have q1 : wr.cell? ⟨b, k * 2 + 1, none⟩ = some (.int .i64 z1) := by rw [hb.cell (p := ⟨b, k * 2 + 1, none⟩) hbw]; exact d1
      have hkc : ¬ cap = k := by omega
      have hkc2 : ¬ (cap : Int) = (k : Int) := by omega
      clear hx hc e' d0 d1 hbw hb
      rcases Int.lt_trichotomy z0 p0 with hA | hA | hA
      · have HP := Lib.hid (show plt (z0, z1) (p0, p1) from .inl hA)
        have ha : decide (z0 < p0) = true := decide_eq_true hA
        clear hA
        go_wp2_with (fail)
        go_quiet (fail)
        go_wp2
        go_roundw
        case rel => exact ⟨k + 1, by omega, by go_num, HALL.out.succ HX.out HP.out, HB.out.trans (quiet_below _ _ _)⟩
        case measure => simp [intOf]; omega
      · have ha : decide (z0 < p0) = false := decide_eq_false (by omega)
        have hz : (z0 == p0) = true := by simpa using hA
        rcases Int.lt_trichotomy z1 p1 with hC | hC | hC
        · have HP := Lib.hid (show plt (z0, z1) (p0, p1) from .inr ⟨hA, hC⟩)
          have hc : decide (z1 < p1) = true := decide_eq_true hC
          clear hA hC
          go_wp2_with (fail)
          go_quiet (fail)
          go_wp2
          go_roundw
          case rel => exact ⟨k + 1, by omega, by go_num, HALL.out.succ HX.out HP.out, HB.out.trans (quiet_below _ _ _)⟩
          case measure => simp [intOf]; omega
        · have HE := Lib.hid (show putP l (p0, p1) = l from putP_same HALL.out (by rw [HX.out, hA, hC]))
          have hc : decide (z1 < p1) = false := decide_eq_false (by omega)
          have HZ := Lib.hid hz
          have HC := Lib.hid (show (z1 == p1) = true by simpa using hC)
          clear hA hC
          go_wp2_with (fail)
          go_quiet (fail)
          have HBx := Lib.hid (HB.out.trans (quiet_below w0.heap.size wr nq))
          generalize wr.drewN nq = wx at HBx ⊢
          clear c0 c1 q0 q1
          have HRx := Lib.hid (HR0.out.below HBx.out)
          have c0 := HRx.out.two0
          have c1 := HRx.out.two1
          obtain ⟨b2, off2, e2, hbw2, hc2⟩ := (HIN.out.below HBx.out) (by omega)
          obtain ⟨rfl, rfl⟩ : b = b2 ∧ 0 = off2 := by simpa using e2
          obtain ⟨q0, q1⟩ := hc2 k _ HX.out
          rw [Nat.zero_add] at q0 q1
          clear hc2 e2 hbw2
          have he := fun W => eql_ip z0 z1 p0 p1 true (by rw [HZ.out, HC.out]; rfl) W
          have hgd := fun x y xs ys W => geql_ip x y xs ys W
          go_wp2_with (fail)
          go_quiet (fail)
          have HBy := Lib.hid (HBx.out.trans (quiet_below w0.heap.size wx nq))
          generalize wx.drewN nq = wq at HBy ⊢
          clear c0 c1 q0 q1
          have HRq := Lib.hid (HR0.out.below HBy.out)
          have HBq := Lib.hid (HBw.out.trans (HBy.out.mono HBw.out.size))
          have HINq := Lib.hid (HIN.out.below HBy.out)
          go_wp2
          go_ret
          rw [HE.out]
          exact ⟨_, _, rfl, (HOWN.out.below HBy.out), HBq.out⟩
        · have HE := Lib.hid (putP_new HALL.out (fun z hz2 => by rw [HX.out] at hz2; cases hz2; exact ⟨by unfold plt; simp; omega, fun e => by injection e with e1 e2; omega⟩))
          have hc : decide (z1 < p1) = false := decide_eq_false (by omega)
          have HC := Lib.hid (show (z1 == p1) = false by simp; omega)
          clear hA hC
          go_wp2_with (fail)
          go_quiet (fail)
          have HBx := Lib.hid (HB.out.trans (quiet_below w0.heap.size wr nq))
          generalize wr.drewN nq = wx at HBx ⊢
          clear c0 c1 q0 q1
          have HRx := Lib.hid (HR0.out.below HBx.out)
          have c0 := HRx.out.two0
          have c1 := HRx.out.two1
          obtain ⟨b2, off2, e2, hbw2, hc2⟩ := (HIN.out.below HBx.out) (by omega)
          obtain ⟨rfl, rfl⟩ : b = b2 ∧ 0 = off2 := by simpa using e2
          obtain ⟨q0, q1⟩ := hc2 k _ HX.out
          rw [Nat.zero_add] at q0 q1
          clear hc2 e2 hbw2
          have he := fun W => eql_ip z0 z1 p0 p1 false (by rw [HC.out, Bool.and_false]) W
          have hgd := fun x y xs ys W => geql_ip x y xs ys W
          go_wp2_with (fail)
          go_quiet (fail)
          have HBy := Lib.hid (HBx.out.trans (quiet_below w0.heap.size wx nq))
          generalize wx.drewN nq = wq at HBy ⊢
          clear c0 c1 q0 q1
          have HRq := Lib.hid (HR0.out.below HBy.out)
          have HBq := Lib.hid (HBw.out.trans (HBy.out.mono HBw.out.size))
          have HINq := Lib.hid (HIN.out.below HBy.out)
          clear he hgd
          have hmin : (l.take k).length = k := by rw [List.length_take]; omega
          have hdr : (l.drop k).length = (l.length - k) := List.length_drop
          have O1 := Lib.hid (show OwnP (wq.alloc (.cells #[] 34)).drew wq.heap.size (.slice (some ⟨wq.heap.size, 0, none⟩) 0 0) [] from OwnP.new wq wq.heap.size wq.heap.size rfl (Nat.le_refl _))
          have B1 := Lib.hid ((Below.refl wq.heap.size wq).alloc (Nat.le_refl _) (.cells #[] 34)).drew
          have O2 := Lib.hid (show OwnP ((wq.alloc (.cells #[] 34)).alloc (.cells #[.int .i64 p0, .int .i64 p1] 34)).drew wq.heap.size (.slice (some ⟨wq.heap.size, 0, none⟩) 0 0) [] from (OwnP.new wq wq.heap.size wq.heap.size rfl (Nat.le_refl _)).alloc (.cells #[.int .i64 p0, .int .i64 p1] 34))
          have B2 := Lib.hid (((Below.refl wq.heap.size wq).alloc (Nat.le_refl _) (.cells #[] 34)).alloc (by simp) (.cells #[.int .i64 p0, .int .i64 p1] 34)).drew
          have S2 := Lib.hid (show InP ((wq.alloc (.cells #[] 34)).alloc (.cells #[.int .i64 p0, .int .i64 p1] 34)).drew (some ⟨wq.heap.size + 1, 0, none⟩) [(p0, p1)] from in_oneP (wq.alloc (.cells #[] 34)) (wq.heap.size + 1) p0 p1 (by simp))
          have O3 := Lib.hid (show OwnP ((wq.alloc (.cells #[.int .i64 p0, .int .i64 p1] 34)).alloc (.cells #[] 34)).drew wq.heap.size (.slice (some ⟨wq.heap.size + 1, 0, none⟩) 0 0) [] from OwnP.new (wq.alloc (.cells #[.int .i64 p0, .int .i64 p1] 34)) wq.heap.size (wq.heap.size + 1) (by simp) (by omega))
          have B3 := Lib.hid (((Below.refl wq.heap.size wq).alloc (Nat.le_refl _) (.cells #[.int .i64 p0, .int .i64 p1] 34)).alloc (by simp) (.cells #[] 34)).drew
          have S3 := Lib.hid (show InP ((wq.alloc (.cells #[.int .i64 p0, .int .i64 p1] 34)).alloc (.cells #[] 34)).drew (some ⟨wq.heap.size, 0, none⟩) [(p0, p1)] from (in_oneP wq wq.heap.size p0 p1 rfl).below ((Below.refl _ _).alloc (Nat.le_refl _) _).drew)
          have HM := Lib.hid hmin
          have HD := Lib.hid hdr
          have c0 := HRq.out.two0
          have c1 := HRq.out.two1
          have e0 := fun o => (HRq.out.alloc o).two0
          have e1 := fun o => (HRq.out.alloc o).two1
          clear hmin hdr
          go_wp2
          go_region_law (first
            | (refine step_appP (by rfl) (.tmp 55) (.tmp 58) (by rfl) wq.heap.size (.slice (some ⟨wq.heap.size, 0, none⟩) 0 0) [] (by rfl) (some ⟨b, 0, none⟩) k cap (l.take k) (by rfl) HM.out.symm O1.out ((HINq.out.below B1.out).take' k) nofun (by have e1 := HM.out; have e2 := HD.out; simp only [List.length_append, List.length_cons, List.length_nil] at e1 e2 ⊢; omega) B1.out.size ?_; intro v1 w1 ho1 hg1; have hb1 : Below wq.heap.size wq w1 := grownP_old B1.out hg1 O1.out (Nat.le_refl _); have l0 := (HRq.out.below hb1).two0; have l1 := (HRq.out.below hb1).two1)
            | (refine step_appP (by rfl) (.tmp 55) (.tmp 58) (by rfl) wq.heap.size (.slice (some ⟨wq.heap.size, 0, none⟩) 0 0) [] (by rfl) (some ⟨b, 0, none⟩) k cap (l.take k) (by rfl) HM.out.symm O2.out ((HINq.out.below B2.out).take' k) nofun (by have e1 := HM.out; have e2 := HD.out; simp only [List.length_append, List.length_cons, List.length_nil] at e1 e2 ⊢; omega) B2.out.size ?_; intro v1 w1 ho1 hg1; have hb1 : Below wq.heap.size wq w1 := grownP_old B2.out hg1 O2.out (Nat.le_refl _); have l0 := (HRq.out.below hb1).two0; have l1 := (HRq.out.below hb1).two1; have hs1 := S2.out.grown hg1 (by intro b off e; cases e; simp [Value.ownBlock]))
            | (refine step_appP (by rfl) (.tmp 55) (.tmp 58) (by rfl) wq.heap.size (.slice (some ⟨wq.heap.size + 1, 0, none⟩) 0 0) [] (by rfl) (some ⟨b, 0, none⟩) k cap (l.take k) (by rfl) HM.out.symm O3.out ((HINq.out.below B3.out).take' k) nofun (by have e1 := HM.out; have e2 := HD.out; simp only [List.length_append, List.length_cons, List.length_nil] at e1 e2 ⊢; omega) B3.out.size ?_; intro v1 w1 ho1 hg1; have hb1 : Below wq.heap.size wq w1 := grownP_old B3.out hg1 O3.out (Nat.le_refl _); have l0 := (HRq.out.below hb1).two0; have l1 := (HRq.out.below hb1).two1; have hs1 := S3.out.grown hg1 (by intro b off e; cases e; simp [Value.ownBlock]))
            | (refine step_appP (by rfl) (.tmp 59) (.tmp 61) (by rfl) wq.heap.size v1 ([] ++ (l.take k)) (by rfl) (some ⟨wq.heap.size + 1, 0, none⟩) 1 1 [(p0, p1)] (by rfl) rfl ho1 hs1 nofun (by have e1 := HM.out; have e2 := HD.out; simp only [List.length_append, List.length_cons, List.length_nil] at e1 e2 ⊢; omega) hb1.size ?_; intro v2 w2 ho2 hg2; have hb2 : Below wq.heap.size wq w2 := grownP_old hb1 hg2 ho1 (Nat.le_refl _))
            | (refine step_appP (by rfl) (.tmp 59) (.tmp 61) (by rfl) wq.heap.size v1 ([] ++ (l.take k)) (by rfl) (some ⟨wq.heap.size, 0, none⟩) 1 1 [(p0, p1)] (by rfl) rfl ho1 hs1 nofun (by have e1 := HM.out; have e2 := HD.out; simp only [List.length_append, List.length_cons, List.length_nil] at e1 e2 ⊢; omega) hb1.size ?_; intro v2 w2 ho2 hg2; have hb2 : Below wq.heap.size wq w2 := grownP_old hb1 hg2 ho1 (Nat.le_refl _))
            | (refine step_appP (by rfl) (.tmp 59) (.tmp 61) (by rfl) wq.heap.size v1 ([] ++ (l.take k)) (by rfl) (some ⟨w1.heap.size, 0, none⟩) 1 1 [(p0, p1)] (by rfl) rfl (ho1.alloc _) (in_oneP w1 w1.heap.size p0 p1 rfl) nofun (by have e1 := HM.out; have e2 := HD.out; simp only [List.length_append, List.length_cons, List.length_nil] at e1 e2 ⊢; omega) (hb1.alloc hb1.size _).size ?_; intro v2 w2 ho2 hg2; have hb2 : Below wq.heap.size wq w2 := grownP_old (hb1.alloc hb1.size _) hg2 (ho1.alloc _) (Nat.le_refl _))
            | (refine step_appP (by rfl) (.tmp 62) (.tmp 65) (by rfl) wq.heap.size v2 ([] ++ (l.take k) ++ [(p0, p1)]) (by rfl) (some ⟨b, k * 2, none⟩) (l.length - k) (cap - k) (l.drop k) (by rfl) HD.out.symm ho2 ((HINq.out.below hb2).drop0 k) nofun (by have e1 := HM.out; have e2 := HD.out; simp only [List.length_append, List.length_cons, List.length_nil] at e1 e2 ⊢; omega) hb2.size ?_; intro v3 w3 ho3 hg3; have hb3 : Below wq.heap.size wq w3 := grownP_old hb2 hg3 ho2 (Nat.le_refl _)))
          all_goals go_wp2
          all_goals go_ret
          all_goals
            have hfin : OwnP w3 base v3 (putP l (p0, p1)) := by
              rw [HE.out]
              have h := OwnP.mono ho3 (Nat.le_trans HB0.out HBq.out.size)
              simpa using h
            exact PutsP.mk hfin (HBq.out.trans (hb3.mono HBq.out.size))
      · have HE := Lib.hid (putP_new HALL.out (fun z hz2 => by rw [HX.out] at hz2; cases hz2; exact ⟨by unfold plt; simp; omega, fun e => by injection e with e1 e2; omega⟩))
        have ha : decide (z0 < p0) = false := decide_eq_false (by omega)
        have hz : (z0 == p0) = false := by simp; omega
        have HZ := Lib.hid hz
        clear hA
        go_wp2_with (fail)
        go_quiet (fail)
        have HBx := Lib.hid (HB.out.trans (quiet_below w0.heap.size wr nq))
        generalize wr.drewN nq = wx at HBx ⊢
        clear c0 c1 q0 q1
        have HRx := Lib.hid (HR0.out.below HBx.out)
        have c0 := HRx.out.two0
        have c1 := HRx.out.two1
        obtain ⟨b2, off2, e2, hbw2, hc2⟩ := (HIN.out.below HBx.out) (by omega)
        obtain ⟨rfl, rfl⟩ : b = b2 ∧ 0 = off2 := by simpa using e2
        obtain ⟨q0, q1⟩ := hc2 k _ HX.out
        rw [Nat.zero_add] at q0 q1
        clear hc2 e2 hbw2
        have he := fun W => eql_ip z0 z1 p0 p1 false (by rw [HZ.out, Bool.false_and]) W
        have hgd := fun x y xs ys W => geql_ip x y xs ys W
        go_wp2_with (fail)
        go_quiet (fail)
        have HBy := Lib.hid (HBx.out.trans (quiet_below w0.heap.size wx nq))
        generalize wx.drewN nq = wq at HBy ⊢
        clear c0 c1 q0 q1
        have HRq := Lib.hid (HR0.out.below HBy.out)
        have HBq := Lib.hid (HBw.out.trans (HBy.out.mono HBw.out.size))
        have HINq := Lib.hid (HIN.out.below HBy.out)
        clear he hgd
        have hmin : (l.take k).length = k := by rw [List.length_take]; omega
        have hdr : (l.drop k).length = (l.length - k) := List.length_drop
        have O1 := Lib.hid (show OwnP (wq.alloc (.cells #[] 34)).drew wq.heap.size (.slice (some ⟨wq.heap.size, 0, none⟩) 0 0) [] from OwnP.new wq wq.heap.size wq.heap.size rfl (Nat.le_refl _))
        have B1 := Lib.hid ((Below.refl wq.heap.size wq).alloc (Nat.le_refl _) (.cells #[] 34)).drew
        have O2 := Lib.hid (show OwnP ((wq.alloc (.cells #[] 34)).alloc (.cells #[.int .i64 p0, .int .i64 p1] 34)).drew wq.heap.size (.slice (some ⟨wq.heap.size, 0, none⟩) 0 0) [] from (OwnP.new wq wq.heap.size wq.heap.size rfl (Nat.le_refl _)).alloc (.cells #[.int .i64 p0, .int .i64 p1] 34))
        have B2 := Lib.hid (((Below.refl wq.heap.size wq).alloc (Nat.le_refl _) (.cells #[] 34)).alloc (by simp) (.cells #[.int .i64 p0, .int .i64 p1] 34)).drew
        have S2 := Lib.hid (show InP ((wq.alloc (.cells #[] 34)).alloc (.cells #[.int .i64 p0, .int .i64 p1] 34)).drew (some ⟨wq.heap.size + 1, 0, none⟩) [(p0, p1)] from in_oneP (wq.alloc (.cells #[] 34)) (wq.heap.size + 1) p0 p1 (by simp))
        have O3 := Lib.hid (show OwnP ((wq.alloc (.cells #[.int .i64 p0, .int .i64 p1] 34)).alloc (.cells #[] 34)).drew wq.heap.size (.slice (some ⟨wq.heap.size + 1, 0, none⟩) 0 0) [] from OwnP.new (wq.alloc (.cells #[.int .i64 p0, .int .i64 p1] 34)) wq.heap.size (wq.heap.size + 1) (by simp) (by omega))
        have B3 := Lib.hid (((Below.refl wq.heap.size wq).alloc (Nat.le_refl _) (.cells #[.int .i64 p0, .int .i64 p1] 34)).alloc (by simp) (.cells #[] 34)).drew
        have S3 := Lib.hid (show InP ((wq.alloc (.cells #[.int .i64 p0, .int .i64 p1] 34)).alloc (.cells #[] 34)).drew (some ⟨wq.heap.size, 0, none⟩) [(p0, p1)] from (in_oneP wq wq.heap.size p0 p1 rfl).below ((Below.refl _ _).alloc (Nat.le_refl _) _).drew)
        have HM := Lib.hid hmin
        have HD := Lib.hid hdr
        have c0 := HRq.out.two0
        have c1 := HRq.out.two1
        have e0 := fun o => (HRq.out.alloc o).two0
        have e1 := fun o => (HRq.out.alloc o).two1
        clear hmin hdr
        go_wp2
        go_region_law (first
          | (refine step_appP (by rfl) (.tmp 55) (.tmp 58) (by rfl) wq.heap.size (.slice (some ⟨wq.heap.size, 0, none⟩) 0 0) [] (by rfl) (some ⟨b, 0, none⟩) k cap (l.take k) (by rfl) HM.out.symm O1.out ((HINq.out.below B1.out).take' k) nofun (by have e1 := HM.out; have e2 := HD.out; simp only [List.length_append, List.length_cons, List.length_nil] at e1 e2 ⊢; omega) B1.out.size ?_; intro v1 w1 ho1 hg1; have hb1 : Below wq.heap.size wq w1 := grownP_old B1.out hg1 O1.out (Nat.le_refl _); have l0 := (HRq.out.below hb1).two0; have l1 := (HRq.out.below hb1).two1)
          | (refine step_appP (by rfl) (.tmp 55) (.tmp 58) (by rfl) wq.heap.size (.slice (some ⟨wq.heap.size, 0, none⟩) 0 0) [] (by rfl) (some ⟨b, 0, none⟩) k cap (l.take k) (by rfl) HM.out.symm O2.out ((HINq.out.below B2.out).take' k) nofun (by have e1 := HM.out; have e2 := HD.out; simp only [List.length_append, List.length_cons, List.length_nil] at e1 e2 ⊢; omega) B2.out.size ?_; intro v1 w1 ho1 hg1; have hb1 : Below wq.heap.size wq w1 := grownP_old B2.out hg1 O2.out (Nat.le_refl _); have l0 := (HRq.out.below hb1).two0; have l1 := (HRq.out.below hb1).two1; have hs1 := S2.out.grown hg1 (by intro b off e; cases e; simp [Value.ownBlock]))
          | (refine step_appP (by rfl) (.tmp 55) (.tmp 58) (by rfl) wq.heap.size (.slice (some ⟨wq.heap.size + 1, 0, none⟩) 0 0) [] (by rfl) (some ⟨b, 0, none⟩) k cap (l.take k) (by rfl) HM.out.symm O3.out ((HINq.out.below B3.out).take' k) nofun (by have e1 := HM.out; have e2 := HD.out; simp only [List.length_append, List.length_cons, List.length_nil] at e1 e2 ⊢; omega) B3.out.size ?_; intro v1 w1 ho1 hg1; have hb1 : Below wq.heap.size wq w1 := grownP_old B3.out hg1 O3.out (Nat.le_refl _); have l0 := (HRq.out.below hb1).two0; have l1 := (HRq.out.below hb1).two1; have hs1 := S3.out.grown hg1 (by intro b off e; cases e; simp [Value.ownBlock]))
          | (refine step_appP (by rfl) (.tmp 59) (.tmp 61) (by rfl) wq.heap.size v1 ([] ++ (l.take k)) (by rfl) (some ⟨wq.heap.size + 1, 0, none⟩) 1 1 [(p0, p1)] (by rfl) rfl ho1 hs1 nofun (by have e1 := HM.out; have e2 := HD.out; simp only [List.length_append, List.length_cons, List.length_nil] at e1 e2 ⊢; omega) hb1.size ?_; intro v2 w2 ho2 hg2; have hb2 : Below wq.heap.size wq w2 := grownP_old hb1 hg2 ho1 (Nat.le_refl _))
          | (refine step_appP (by rfl) (.tmp 59) (.tmp 61) (by rfl) wq.heap.size v1 ([] ++ (l.take k)) (by rfl) (some ⟨wq.heap.size, 0, none⟩) 1 1 [(p0, p1)] (by rfl) rfl ho1 hs1 nofun (by have e1 := HM.out; have e2 := HD.out; simp only [List.length_append, List.length_cons, List.length_nil] at e1 e2 ⊢; omega) hb1.size ?_; intro v2 w2 ho2 hg2; have hb2 : Below wq.heap.size wq w2 := grownP_old hb1 hg2 ho1 (Nat.le_refl _))
          | (refine step_appP (by rfl) (.tmp 59) (.tmp 61) (by rfl) wq.heap.size v1 ([] ++ (l.take k)) (by rfl) (some ⟨w1.heap.size, 0, none⟩) 1 1 [(p0, p1)] (by rfl) rfl (ho1.alloc _) (in_oneP w1 w1.heap.size p0 p1 rfl) nofun (by have e1 := HM.out; have e2 := HD.out; simp only [List.length_append, List.length_cons, List.length_nil] at e1 e2 ⊢; omega) (hb1.alloc hb1.size _).size ?_; intro v2 w2 ho2 hg2; have hb2 : Below wq.heap.size wq w2 := grownP_old (hb1.alloc hb1.size _) hg2 (ho1.alloc _) (Nat.le_refl _))
          | (refine step_appP (by rfl) (.tmp 62) (.tmp 65) (by rfl) wq.heap.size v2 ([] ++ (l.take k) ++ [(p0, p1)]) (by rfl) (some ⟨b, k * 2, none⟩) (l.length - k) (cap - k) (l.drop k) (by rfl) HD.out.symm ho2 ((HINq.out.below hb2).drop0 k) nofun (by have e1 := HM.out; have e2 := HD.out; simp only [List.length_append, List.length_cons, List.length_nil] at e1 e2 ⊢; omega) hb2.size ?_; intro v3 w3 ho3 hg3; have hb3 : Below wq.heap.size wq w3 := grownP_old hb2 hg3 ho2 (Nat.le_refl _)))
        all_goals go_wp2
        all_goals go_ret
        all_goals
          have hfin : OwnP w3 base v3 (putP l (p0, p1)) := by
            rw [HE.out]
            have h := OwnP.mono ho3 (Nat.le_trans HB0.out HBq.out.size)
            simpa using h
          exact PutsP.mk hfin (HBq.out.trans (hb3.mono HBq.out.size))
    · have hdl : decide (k < l.length) = false := decide_eq_false hlt
      have HE := Lib.hid (putP_new (p := (p0, p1)) HALL.out (fun z hz => absurd (List.getElem?_eq_some_iff.1 hz).1 hlt))
      by_cases hkc : cap = k
      · subst hkc
        go_wp2_with (fail)
        go_quiet (fail)
        have HBx := Lib.hid (HB.out.trans (quiet_below w0.heap.size wr nq))
        generalize wr.drewN nq = wx at HBx ⊢
        clear c0 c1 
        have HRx := Lib.hid (HR0.out.below HBx.out)
        have c0 := HRx.out.two0
        have c1 := HRx.out.two1
        skip
        go_wp2_with (fail)
        go_quiet (fail)
        have HBy := Lib.hid (HBx.out.trans (quiet_below w0.heap.size wx nq))
        generalize wx.drewN nq = wq at HBy ⊢
        clear c0 c1 
        have HRq := Lib.hid (HR0.out.below HBy.out)
        have HBq := Lib.hid (HBw.out.trans (HBy.out.mono HBw.out.size))
        have HINq := Lib.hid (HIN.out.below HBy.out)
        have hmin : (l.take cap).length = cap := by rw [List.length_take]; omega
        have hdr : (l.drop cap).length = 0 := by rw [List.length_drop]; omega
        have O1 := Lib.hid (show OwnP (wq.alloc (.cells #[] 34)).drew wq.heap.size (.slice (some ⟨wq.heap.size, 0, none⟩) 0 0) [] from OwnP.new wq wq.heap.size wq.heap.size rfl (Nat.le_refl _))
        have B1 := Lib.hid ((Below.refl wq.heap.size wq).alloc (Nat.le_refl _) (.cells #[] 34)).drew
        have O2 := Lib.hid (show OwnP ((wq.alloc (.cells #[] 34)).alloc (.cells #[.int .i64 p0, .int .i64 p1] 34)).drew wq.heap.size (.slice (some ⟨wq.heap.size, 0, none⟩) 0 0) [] from (OwnP.new wq wq.heap.size wq.heap.size rfl (Nat.le_refl _)).alloc (.cells #[.int .i64 p0, .int .i64 p1] 34))
        have B2 := Lib.hid (((Below.refl wq.heap.size wq).alloc (Nat.le_refl _) (.cells #[] 34)).alloc (by simp) (.cells #[.int .i64 p0, .int .i64 p1] 34)).drew
        have S2 := Lib.hid (show InP ((wq.alloc (.cells #[] 34)).alloc (.cells #[.int .i64 p0, .int .i64 p1] 34)).drew (some ⟨wq.heap.size + 1, 0, none⟩) [(p0, p1)] from in_oneP (wq.alloc (.cells #[] 34)) (wq.heap.size + 1) p0 p1 (by simp))
        have O3 := Lib.hid (show OwnP ((wq.alloc (.cells #[.int .i64 p0, .int .i64 p1] 34)).alloc (.cells #[] 34)).drew wq.heap.size (.slice (some ⟨wq.heap.size + 1, 0, none⟩) 0 0) [] from OwnP.new (wq.alloc (.cells #[.int .i64 p0, .int .i64 p1] 34)) wq.heap.size (wq.heap.size + 1) (by simp) (by omega))
        have B3 := Lib.hid (((Below.refl wq.heap.size wq).alloc (Nat.le_refl _) (.cells #[.int .i64 p0, .int .i64 p1] 34)).alloc (by simp) (.cells #[] 34)).drew
        have S3 := Lib.hid (show InP ((wq.alloc (.cells #[.int .i64 p0, .int .i64 p1] 34)).alloc (.cells #[] 34)).drew (some ⟨wq.heap.size, 0, none⟩) [(p0, p1)] from (in_oneP wq wq.heap.size p0 p1 rfl).below ((Below.refl _ _).alloc (Nat.le_refl _) _).drew)
        have HM := Lib.hid hmin
        have HD := Lib.hid hdr
        have c0 := HRq.out.two0
        have c1 := HRq.out.two1
        have e0 := fun o => (HRq.out.alloc o).two0
        have e1 := fun o => (HRq.out.alloc o).two1
        clear hmin hdr
        go_wp2
        go_region_law (first
          | (refine step_appP (by rfl) (.tmp 55) (.tmp 58) (by rfl) wq.heap.size (.slice (some ⟨wq.heap.size, 0, none⟩) 0 0) [] (by rfl) (some ⟨b, 0, none⟩) cap cap (l.take cap) (by rfl) HM.out.symm O1.out ((HINq.out.below B1.out).take' cap) nofun (by have e1 := HM.out; have e2 := HD.out; simp only [List.length_append, List.length_cons, List.length_nil] at e1 e2 ⊢; omega) B1.out.size ?_; intro v1 w1 ho1 hg1; have hb1 : Below wq.heap.size wq w1 := grownP_old B1.out hg1 O1.out (Nat.le_refl _); have l0 := (HRq.out.below hb1).two0; have l1 := (HRq.out.below hb1).two1)
          | (refine step_appP (by rfl) (.tmp 55) (.tmp 58) (by rfl) wq.heap.size (.slice (some ⟨wq.heap.size, 0, none⟩) 0 0) [] (by rfl) (some ⟨b, 0, none⟩) cap cap (l.take cap) (by rfl) HM.out.symm O2.out ((HINq.out.below B2.out).take' cap) nofun (by have e1 := HM.out; have e2 := HD.out; simp only [List.length_append, List.length_cons, List.length_nil] at e1 e2 ⊢; omega) B2.out.size ?_; intro v1 w1 ho1 hg1; have hb1 : Below wq.heap.size wq w1 := grownP_old B2.out hg1 O2.out (Nat.le_refl _); have l0 := (HRq.out.below hb1).two0; have l1 := (HRq.out.below hb1).two1; have hs1 := S2.out.grown hg1 (by intro b off e; cases e; simp [Value.ownBlock]))
          | (refine step_appP (by rfl) (.tmp 55) (.tmp 58) (by rfl) wq.heap.size (.slice (some ⟨wq.heap.size + 1, 0, none⟩) 0 0) [] (by rfl) (some ⟨b, 0, none⟩) cap cap (l.take cap) (by rfl) HM.out.symm O3.out ((HINq.out.below B3.out).take' cap) nofun (by have e1 := HM.out; have e2 := HD.out; simp only [List.length_append, List.length_cons, List.length_nil] at e1 e2 ⊢; omega) B3.out.size ?_; intro v1 w1 ho1 hg1; have hb1 : Below wq.heap.size wq w1 := grownP_old B3.out hg1 O3.out (Nat.le_refl _); have l0 := (HRq.out.below hb1).two0; have l1 := (HRq.out.below hb1).two1; have hs1 := S3.out.grown hg1 (by intro b off e; cases e; simp [Value.ownBlock]))
          | (refine step_appP (by rfl) (.tmp 59) (.tmp 61) (by rfl) wq.heap.size v1 ([] ++ (l.take cap)) (by rfl) (some ⟨wq.heap.size + 1, 0, none⟩) 1 1 [(p0, p1)] (by rfl) rfl ho1 hs1 nofun (by have e1 := HM.out; have e2 := HD.out; simp only [List.length_append, List.length_cons, List.length_nil] at e1 e2 ⊢; omega) hb1.size ?_; intro v2 w2 ho2 hg2; have hb2 : Below wq.heap.size wq w2 := grownP_old hb1 hg2 ho1 (Nat.le_refl _))
          | (refine step_appP (by rfl) (.tmp 59) (.tmp 61) (by rfl) wq.heap.size v1 ([] ++ (l.take cap)) (by rfl) (some ⟨wq.heap.size, 0, none⟩) 1 1 [(p0, p1)] (by rfl) rfl ho1 hs1 nofun (by have e1 := HM.out; have e2 := HD.out; simp only [List.length_append, List.length_cons, List.length_nil] at e1 e2 ⊢; omega) hb1.size ?_; intro v2 w2 ho2 hg2; have hb2 : Below wq.heap.size wq w2 := grownP_old hb1 hg2 ho1 (Nat.le_refl _))
          | (refine step_appP (by rfl) (.tmp 59) (.tmp 61) (by rfl) wq.heap.size v1 ([] ++ (l.take cap)) (by rfl) (some ⟨w1.heap.size, 0, none⟩) 1 1 [(p0, p1)] (by rfl) rfl (ho1.alloc _) (in_oneP w1 w1.heap.size p0 p1 rfl) nofun (by have e1 := HM.out; have e2 := HD.out; simp only [List.length_append, List.length_cons, List.length_nil] at e1 e2 ⊢; omega) (hb1.alloc hb1.size _).size ?_; intro v2 w2 ho2 hg2; have hb2 : Below wq.heap.size wq w2 := grownP_old (hb1.alloc hb1.size _) hg2 (ho1.alloc _) (Nat.le_refl _))
          | (refine step_appP (by rfl) (.tmp 62) (.tmp 65) (by rfl) wq.heap.size v2 ([] ++ (l.take cap) ++ [(p0, p1)]) (by rfl) (some ⟨b, 0, none⟩) 0 0 (l.drop cap) (by rfl) HD.out.symm ho2 (InP.empty _ _ (by rw [List.length_drop]; omega)) nofun (by have e1 := HM.out; have e2 := HD.out; simp only [List.length_append, List.length_cons, List.length_nil] at e1 e2 ⊢; omega) hb2.size ?_; intro v3 w3 ho3 hg3; have hb3 : Below wq.heap.size wq w3 := grownP_old hb2 hg3 ho2 (Nat.le_refl _)))
        all_goals go_wp2
        all_goals go_ret
        all_goals
          have hfin : OwnP w3 base v3 (putP l (p0, p1)) := by
            rw [HE.out]
            have h := OwnP.mono ho3 (Nat.le_trans HB0.out HBq.out.size)
            simpa using h
          exact PutsP.mk hfin (HBq.out.trans (hb3.mono HBq.out.size))
      · have hkc2 : ¬ (cap : Int) = (k : Int) := by omega
        go_wp2_with (fail)
        go_quiet (fail)
        have HBx := Lib.hid (HB.out.trans (quiet_below w0.heap.size wr nq))
        generalize wr.drewN nq = wx at HBx ⊢
        clear c0 c1 
        have HRx := Lib.hid (HR0.out.below HBx.out)
        have c0 := HRx.out.two0
        have c1 := HRx.out.two1
        skip
        go_wp2_with (fail)
        go_quiet (fail)
        have HBy := Lib.hid (HBx.out.trans (quiet_below w0.heap.size wx nq))
        generalize wx.drewN nq = wq at HBy ⊢
        clear c0 c1 
        have HRq := Lib.hid (HR0.out.below HBy.out)
        have HBq := Lib.hid (HBw.out.trans (HBy.out.mono HBw.out.size))
        have HINq := Lib.hid (HIN.out.below HBy.out)
        have hmin : (l.take k).length = k := by rw [List.length_take]; omega
        have hdr : (l.drop k).length = (l.length - k) := List.length_drop
        have O1 := Lib.hid (show OwnP (wq.alloc (.cells #[] 34)).drew wq.heap.size (.slice (some ⟨wq.heap.size, 0, none⟩) 0 0) [] from OwnP.new wq wq.heap.size wq.heap.size rfl (Nat.le_refl _))
        have B1 := Lib.hid ((Below.refl wq.heap.size wq).alloc (Nat.le_refl _) (.cells #[] 34)).drew
        have O2 := Lib.hid (show OwnP ((wq.alloc (.cells #[] 34)).alloc (.cells #[.int .i64 p0, .int .i64 p1] 34)).drew wq.heap.size (.slice (some ⟨wq.heap.size, 0, none⟩) 0 0) [] from (OwnP.new wq wq.heap.size wq.heap.size rfl (Nat.le_refl _)).alloc (.cells #[.int .i64 p0, .int .i64 p1] 34))
        have B2 := Lib.hid (((Below.refl wq.heap.size wq).alloc (Nat.le_refl _) (.cells #[] 34)).alloc (by simp) (.cells #[.int .i64 p0, .int .i64 p1] 34)).drew
        have S2 := Lib.hid (show InP ((wq.alloc (.cells #[] 34)).alloc (.cells #[.int .i64 p0, .int .i64 p1] 34)).drew (some ⟨wq.heap.size + 1, 0, none⟩) [(p0, p1)] from in_oneP (wq.alloc (.cells #[] 34)) (wq.heap.size + 1) p0 p1 (by simp))
        have O3 := Lib.hid (show OwnP ((wq.alloc (.cells #[.int .i64 p0, .int .i64 p1] 34)).alloc (.cells #[] 34)).drew wq.heap.size (.slice (some ⟨wq.heap.size + 1, 0, none⟩) 0 0) [] from OwnP.new (wq.alloc (.cells #[.int .i64 p0, .int .i64 p1] 34)) wq.heap.size (wq.heap.size + 1) (by simp) (by omega))
        have B3 := Lib.hid (((Below.refl wq.heap.size wq).alloc (Nat.le_refl _) (.cells #[.int .i64 p0, .int .i64 p1] 34)).alloc (by simp) (.cells #[] 34)).drew
        have S3 := Lib.hid (show InP ((wq.alloc (.cells #[.int .i64 p0, .int .i64 p1] 34)).alloc (.cells #[] 34)).drew (some ⟨wq.heap.size, 0, none⟩) [(p0, p1)] from (in_oneP wq wq.heap.size p0 p1 rfl).below ((Below.refl _ _).alloc (Nat.le_refl _) _).drew)
        have HM := Lib.hid hmin
        have HD := Lib.hid hdr
        have c0 := HRq.out.two0
        have c1 := HRq.out.two1
        have e0 := fun o => (HRq.out.alloc o).two0
        have e1 := fun o => (HRq.out.alloc o).two1
        clear hmin hdr
        go_wp2
        go_region_law (first
          | (refine step_appP (by rfl) (.tmp 55) (.tmp 58) (by rfl) wq.heap.size (.slice (some ⟨wq.heap.size, 0, none⟩) 0 0) [] (by rfl) (some ⟨b, 0, none⟩) k cap (l.take k) (by rfl) HM.out.symm O1.out ((HINq.out.below B1.out).take' k) nofun (by have e1 := HM.out; have e2 := HD.out; simp only [List.length_append, List.length_cons, List.length_nil] at e1 e2 ⊢; omega) B1.out.size ?_; intro v1 w1 ho1 hg1; have hb1 : Below wq.heap.size wq w1 := grownP_old B1.out hg1 O1.out (Nat.le_refl _); have l0 := (HRq.out.below hb1).two0; have l1 := (HRq.out.below hb1).two1)
          | (refine step_appP (by rfl) (.tmp 55) (.tmp 58) (by rfl) wq.heap.size (.slice (some ⟨wq.heap.size, 0, none⟩) 0 0) [] (by rfl) (some ⟨b, 0, none⟩) k cap (l.take k) (by rfl) HM.out.symm O2.out ((HINq.out.below B2.out).take' k) nofun (by have e1 := HM.out; have e2 := HD.out; simp only [List.length_append, List.length_cons, List.length_nil] at e1 e2 ⊢; omega) B2.out.size ?_; intro v1 w1 ho1 hg1; have hb1 : Below wq.heap.size wq w1 := grownP_old B2.out hg1 O2.out (Nat.le_refl _); have l0 := (HRq.out.below hb1).two0; have l1 := (HRq.out.below hb1).two1; have hs1 := S2.out.grown hg1 (by intro b off e; cases e; simp [Value.ownBlock]))
          | (refine step_appP (by rfl) (.tmp 55) (.tmp 58) (by rfl) wq.heap.size (.slice (some ⟨wq.heap.size + 1, 0, none⟩) 0 0) [] (by rfl) (some ⟨b, 0, none⟩) k cap (l.take k) (by rfl) HM.out.symm O3.out ((HINq.out.below B3.out).take' k) nofun (by have e1 := HM.out; have e2 := HD.out; simp only [List.length_append, List.length_cons, List.length_nil] at e1 e2 ⊢; omega) B3.out.size ?_; intro v1 w1 ho1 hg1; have hb1 : Below wq.heap.size wq w1 := grownP_old B3.out hg1 O3.out (Nat.le_refl _); have l0 := (HRq.out.below hb1).two0; have l1 := (HRq.out.below hb1).two1; have hs1 := S3.out.grown hg1 (by intro b off e; cases e; simp [Value.ownBlock]))
          | (refine step_appP (by rfl) (.tmp 59) (.tmp 61) (by rfl) wq.heap.size v1 ([] ++ (l.take k)) (by rfl) (some ⟨wq.heap.size + 1, 0, none⟩) 1 1 [(p0, p1)] (by rfl) rfl ho1 hs1 nofun (by have e1 := HM.out; have e2 := HD.out; simp only [List.length_append, List.length_cons, List.length_nil] at e1 e2 ⊢; omega) hb1.size ?_; intro v2 w2 ho2 hg2; have hb2 : Below wq.heap.size wq w2 := grownP_old hb1 hg2 ho1 (Nat.le_refl _))
          | (refine step_appP (by rfl) (.tmp 59) (.tmp 61) (by rfl) wq.heap.size v1 ([] ++ (l.take k)) (by rfl) (some ⟨wq.heap.size, 0, none⟩) 1 1 [(p0, p1)] (by rfl) rfl ho1 hs1 nofun (by have e1 := HM.out; have e2 := HD.out; simp only [List.length_append, List.length_cons, List.length_nil] at e1 e2 ⊢; omega) hb1.size ?_; intro v2 w2 ho2 hg2; have hb2 : Below wq.heap.size wq w2 := grownP_old hb1 hg2 ho1 (Nat.le_refl _))
          | (refine step_appP (by rfl) (.tmp 59) (.tmp 61) (by rfl) wq.heap.size v1 ([] ++ (l.take k)) (by rfl) (some ⟨w1.heap.size, 0, none⟩) 1 1 [(p0, p1)] (by rfl) rfl (ho1.alloc _) (in_oneP w1 w1.heap.size p0 p1 rfl) nofun (by have e1 := HM.out; have e2 := HD.out; simp only [List.length_append, List.length_cons, List.length_nil] at e1 e2 ⊢; omega) (hb1.alloc hb1.size _).size ?_; intro v2 w2 ho2 hg2; have hb2 : Below wq.heap.size wq w2 := grownP_old (hb1.alloc hb1.size _) hg2 (ho1.alloc _) (Nat.le_refl _))
          | (refine step_appP (by rfl) (.tmp 62) (.tmp 65) (by rfl) wq.heap.size v2 ([] ++ (l.take k) ++ [(p0, p1)]) (by rfl) (some ⟨b, k * 2, none⟩) (l.length - k) (cap - k) (l.drop k) (by rfl) HD.out.symm ho2 ((HINq.out.below hb2).drop0 k) nofun (by have e1 := HM.out; have e2 := HD.out; simp only [List.length_append, List.length_cons, List.length_nil] at e1 e2 ⊢; omega) hb2.size ?_; intro v3 w3 ho3 hg3; have hb3 : Below wq.heap.size wq w3 := grownP_old hb2 hg3 ho2 (Nat.le_refl _)))
        all_goals go_wp2
        all_goals go_ret
        all_goals
          have hfin : OwnP w3 base v3 (putP l (p0, p1)) := by
            rw [HE.out]
            have h := OwnP.mono ho3 (Nat.le_trans HB0.out HBq.out.size)
            simpa using h
          exact PutsP.mk hfin (HBq.out.trans (hb3.mono HBq.out.size))

theorem putp_any (base : Nat) (a : Option Addr) (cap : Nat) (l : List IP) (p0 p1 : Int) (w : World) (hl : l.length ≤ 1000000) (hown : OwnP w base (.slice a l.length cap) l) (hbase : base ≤ w.heap.size) :
    Calls Tryz.prog 50 #[.slice a l.length cap, .agg #[.int .i64 p0, .int .i64 p1]] w (PutsP w base (putP l (p0, p1))) := by
  have h2 := hown.2
  rcases h2 with ⟨hv, h0⟩ | ⟨g, cap', cur, hv, -⟩
  · obtain rfl : l = [] := List.eq_nil_of_length_eq_zero h0
    simp only [Value.slice.injEq] at hv
    obtain ⟨rfl, -, rfl⟩ := hv
    exact putp_nil base p0 p1 w hbase
  · simp only [Value.slice.injEq] at hv
    obtain ⟨rfl, -, rfl⟩ := hv
    exact putp_some base g cap l p0 p1 w hl hown hbase

end Go.Proofs.YtebddnjccmaimaaGreatDoor
