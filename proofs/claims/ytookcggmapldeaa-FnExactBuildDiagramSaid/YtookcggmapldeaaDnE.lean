/-
  Two nodes held against each other; what both EqualDiagrams answer. By an AI agent.
-/
import Derived.Test.YtookcggmapldeaaDnS
import Derived.Laws.StructEq
import Derived.BigQuiet
import Derived.Deep.QuietTactic
import Derived.Deep.RegionHeld3
namespace Go.Proofs.Ytookcggmapldeaa
open Go.RowKit
set_option linter.unusedVariables false
set_option linter.unusedSimpArgs false
set_option linter.unnecessarySimpa false

theorem same_dn (x y : DN) (r : Bool) (hr : decide (x = y) = r) (w : World) : (Op.equalIn 10000 86 (.agg #[.int .i64 x.1.1, .int .i64 x.1.2, .int .i64 x.2.1, .int .i64 x.2.2]) (.agg #[.int .i64 y.1.1, .int .i64 y.1.2, .int .i64 y.2.1, .int .i64 y.2.2])).run Try.prog w = .ok r w := by
  obtain ⟨⟨a, b⟩, c, d⟩ := x
  obtain ⟨⟨a', b'⟩, c', d'⟩ := y
  rw [run_equalIn_agg w 9999 _ _ _ (by kernel_rfl) (by kernel_rfl)]
  subst hr
  simp only [Prod.mk.injEq]
  by_cases h1 : a = a'
  · by_cases h2 : b = b'
    · by_cases h3 : c = c'
      · by_cases h4 : d = d'
        · simp [go_sem, Program.fieldsOf, Try.underlying86, Try.underlying3, h1, h2, h3, h4]
        · simp [go_sem, Program.fieldsOf, Try.underlying86, Try.underlying3, h1, h2, h3, h4]
      · simp [go_sem, Program.fieldsOf, Try.underlying86, Try.underlying3, h1, h2, h3]
    · simp [go_sem, Program.fieldsOf, Try.underlying86, Try.underlying3, h1, h2]
  · simp [go_sem, Program.fieldsOf, Try.underlying86, Try.underlying3, h1]
theorem eql_dn (a b c d a' b' c' d' : Int) (r : Bool) (hr : decide ((((a, b), (c, d)) : DN) = ((a', b'), (c', d'))) = r) (w : World) : (binOp .eql 86 (.agg #[.int .i64 a, .int .i64 b, .int .i64 c, .int .i64 d]) (.agg #[.int .i64 a', .int .i64 b', .int .i64 c', .int .i64 d'])).run Try.prog w = .ok (.bool r) w := by
  rw [run_eql_struct, same_dn ((a, b), (c, d)) ((a', b'), (c', d')) r hr]
  rfl
theorem neql_dn (a b c d a' b' c' d' : Int) (r : Bool) (hr : decide ((((a, b), (c, d)) : DN) = ((a', b'), (c', d'))) = r) (w : World) : (binOp .neq 86 (.agg #[.int .i64 a, .int .i64 b, .int .i64 c, .int .i64 d]) (.agg #[.int .i64 a', .int .i64 b', .int .i64 c', .int .i64 d'])).run Try.prog w = .ok (.bool (!r)) w := by
  rw [run_neq_struct, same_dn ((a, b), (c, d)) ((a', b'), (c', d')) r hr]
  rfl
theorem geql_dn (x y : Operand) (xs ys : Array Value) (w : World) : (eqGuard .eql 86 x y (.agg xs) (.agg ys)).run Try.prog w = .ok () w :=
  run_eqGuard_agg w _ _ _ _ _ _ (by kernel_rfl)
theorem gneq_dn (x y : Operand) (xs ys : Array Value) (w : World) : (eqGuard .neq 86 x y (.agg xs) (.agg ys)).run Try.prog w = .ok () w :=
  run_eqGuard_agg w _ _ _ _ _ _ (by kernel_rfl)
theorem BlkV.four0' {w : World} {g : Nat} {t : TypeId} {a b c d : Value} (h : BlkV w g t #[a, b, c, d]) : w.cell? ⟨g, 0, none⟩ = some a := h.cell 0
theorem BlkV.four1' {w : World} {g : Nat} {t : TypeId} {a b c d : Value} (h : BlkV w g t #[a, b, c, d]) : w.cell? ⟨g, 1, none⟩ = some b := h.cell 1
theorem BlkV.four2' {w : World} {g : Nat} {t : TypeId} {a b c d : Value} (h : BlkV w g t #[a, b, c, d]) : w.cell? ⟨g, 2, none⟩ = some c := h.cell 2
theorem BlkV.four3' {w : World} {g : Nat} {t : TypeId} {a b c d : Value} (h : BlkV w g t #[a, b, c, d]) : w.cell? ⟨g, 3, none⟩ = some d := h.cell 3
theorem dn_eq_len {D1 D2 : List DN} (h : D1.length ≠ D2.length) : decide (D1 = D2) = false := decide_eq_false (fun e => h (by rw [e]))
theorem dn_eq_at {D1 D2 : List DN} {k : Nat} {x y : DN} (h1 : D1[k]? = some x) (h2 : D2[k]? = some y) (h : x ≠ y) : decide (D1 = D2) = false := decide_eq_false (fun e => h (by rw [e, h2] at h1; exact (Option.some.inj h1).symm))
theorem dn_eq_all {D1 D2 : List DN} {k : Nat} (h1 : D1.length = k) (h2 : D2.length = k) (h : D1.take k = D2.take k) : decide (D1 = D2) = true := by
  rw [List.take_of_length_le (by omega), List.take_of_length_le (by omega)] at h
  exact decide_eq_true h
theorem dquiet_f (b : Nat) (w : World) (n : Nat) : Below b w (w.drewN n) := ⟨rfl, rfl, rfl, Nat.le_refl _, fun _ _ => rfl⟩
def eqDB (z1 z2 : Int) (D1 D2 : List DN) : Bool := decide (z1 = z2) && decide (D1 = D2)

set_option maxRecDepth 100000 in
set_option maxHeartbeats 2000000 in
theorem eqd_spec (z1 : Int) (a1 : Option Addr) (c1 : Nat) (D1 : List DN) (z2 : Int) (a2 : Option Addr) (c2 : Nat) (D2 : List DN) (r : Bool) (w : World) (hr : eqDB z1 z2 D1 D2 = r) (h1 : SmDn w a1 D1 c1) (h2 : SmDn w a2 D2 c2) :
    Calls Try.prog 33 #[.agg #[.int .i64 z1, .slice a1 D1.length c1], .agg #[.int .i64 z2, .slice a2 D2.length c2]] w fun e w' => e = .returned (.bool r) ∧ Below w.heap.size w w' := by
  have hl1 := h1.len
  have hl2 := h2.len
  obtain ⟨w1, hw1⟩ : ∃ w1, (w.alloc (.cells #[.int .i64 z1, .slice a1 D1.length c1] 39)).alloc (.cells #[.int .i64 z2, .slice a2 D2.length c2] 39) = w1 := ⟨_, rfl⟩
  have HB1 := Lib.hid (show Below w.heap.size w w1 by rw [← hw1]; exact ((Below.refl w.heap.size w).alloc (Nat.le_refl _) _).alloc (by simp) _)
  have HX1 := Lib.hid (show BlkV w1 w.heap.size 39 #[.int .i64 z1, .slice a1 D1.length c1] by rw [← hw1]; exact (BlkV.new _ _ _).alloc _)
  have HX2 := Lib.hid (show BlkV w1 (w.heap.size + 1) 39 #[.int .i64 z2, .slice a2 D2.length c2] by rw [← hw1]; exact BlkV.new_ _ _ _ _ (by simp))
  have HS1 := Lib.hid (h1.below HB1.out).inDn
  have HS2 := Lib.hid (h2.below HB1.out).inDn
  clear h1 h2
  obtain ⟨n1, hn1⟩ : ∃ n, D1.length = n := ⟨_, rfl⟩
  obtain ⟨n2, hn2⟩ : ∃ n, D2.length = n := ⟨_, rfl⟩
  have HN1 := Lib.hid hn1
  have HN2 := Lib.hid hn2
  have HR := Lib.hid hr
  rw [hn1] at HX1 hw1 ⊢
  rw [hn2] at HX2 hw1 ⊢
  rw [hn1] at hl1
  rw [hn2] at hl2
  clear hn1 hn2 hr
  have q10 := HX1.out.two0
  have q11 := HX1.out.two1
  have q20 := HX2.out.two0
  have q21 := HX2.out.two1
  by_cases hz : z1 = z2
  · subst hz
    have hzb : (z1 != z1) = false := by simp
    by_cases hn : n1 = n2
    · subst hn
      have hnb : ((n1 : Int) != (n1 : Int)) = false := by simp
      have HRD := Lib.hid (show decide (D1 = D2) = r by rw [← HR.out]; unfold eqDB; simp)
      go_enter Try.func33, Try.ntmps33
      go_wp2
      go_loopw [5] (fun i wr => ∃ k : Nat, k ≤ n1 ∧ i = .int .i64 k ∧ D1.take k = D2.take k ∧ Below w1.heap.size w1 wr) (fun i _ => n1 - (intOf i).toNat)
      case atStart => exact ⟨0, Nat.zero_le _, rfl, rfl, Below.refl _ _⟩
      case round =>
        obtain ⟨k, hk, rfl, htk, hb⟩ := hrel
        have HB := Lib.hid hb
        have HTK := Lib.hid htk
        have q0 := (HX1.out.below hb).two1
        have q1 := (HX2.out.below hb).two1
        clear hb htk
        by_cases hlt : k < n1
        · obtain ⟨b1, o1, f, t, u, z, rfl, hb1, hx1, p0, p1, p2, p3⟩ := (HS1.out.below HB.out).at_ (show k < D1.length by rw [HN1.out]; exact hlt)
          obtain ⟨b2, o2, f', t', u', z', rfl, hb2, hx2, p4, p5, p6, p7⟩ := (HS2.out.below HB.out).at_ (show k < D2.length by rw [HN2.out]; exact hlt)
          obtain ⟨b, hb⟩ : ∃ b, decide ((((f, t), (u, z)) : DN) = ((f', t'), (u', z'))) = b := ⟨_, rfl⟩
          have HBD := Lib.hid hb
          have he := fun W => neql_dn f t u z f' t' u' z' b hb W
          have hgd := fun x y xs ys W => gneq_dn x y xs ys W
          have H1 := Lib.hid hx1
          have H2 := Lib.hid hx2
          clear hx1 hx2 hb hb1 hb2
          have hki : (k : Int) < (n1 : Int) := by omega
          cases b
          · obtain rfl : false = r := by rw [← HRD.out, dn_eq_at H1.out H2.out (of_decide_eq_false HBD.out)]
            go_wp2_with (fail)
            go_quiet (fail)
            go_wp2
            go_ret
            exact ⟨rfl, HB1.out.trans ((HB.out.trans (dquiet_f _ _ _)).mono HB1.out.size)⟩
          · go_wp2_with (fail)
            go_quiet (fail)
            go_wp2
            go_roundw
            case rel => exact ⟨k + 1, by omega, by go_num, by rw [List.take_add_one, List.take_add_one, H1.out, H2.out, of_decide_eq_true HBD.out, HTK.out], HB.out.trans (dquiet_f _ _ _)⟩
            case measure => simp [intOf]; omega
        · obtain rfl : k = n1 := by omega
          obtain rfl : true = r := by rw [← HRD.out, dn_eq_all HN1.out HN2.out HTK.out]
          go_wp2
          go_ret
          exact ⟨rfl, HB1.out.trans (HB.out.mono HB1.out.size)⟩
    · obtain rfl : false = r := by rw [← HR.out]; unfold eqDB; rw [dn_eq_len (by rw [HN1.out, HN2.out]; exact hn), Bool.and_false]
      have hni : ((n1 : Int) != (n2 : Int)) = true := by simp; omega
      go_enter Try.func33, Try.ntmps33
      go_wp2
      go_ret
      exact ⟨rfl, HB1.out⟩
  · obtain rfl : false = r := by rw [← HR.out]; unfold eqDB; rw [decide_eq_false hz, Bool.false_and]
    have hzb : (z1 != z2) = true := by simp [hz]
    clear hz
    go_enter Try.func33, Try.ntmps33
    go_wp2
    go_ret
    exact ⟨rfl, HB1.out⟩

set_option maxRecDepth 100000 in
set_option maxHeartbeats 2000000 in
theorem eqd_impl (z1 : Int) (a1 : Option Addr) (c1 : Nat) (D1 : List DN) (z2 : Int) (a2 : Option Addr) (c2 : Nat) (D2 : List DN) (r : Bool) (w : World) (hr : eqDB z1 z2 D1 D2 = r) (h1 : SmDn w a1 D1 c1) (h2 : SmDn w a2 D2 c2) :
    Calls Try.prog 34 #[.agg #[.int .i64 z1, .slice a1 D1.length c1], .agg #[.int .i64 z2, .slice a2 D2.length c2]] w fun e w' => e = .returned (.bool r) ∧ Below w.heap.size w w' := by
  have hl1 := h1.len
  have hl2 := h2.len
  obtain ⟨w1, hw1⟩ : ∃ w1, (w.alloc (.cells #[.int .i64 z1, .slice a1 D1.length c1] 39)).alloc (.cells #[.int .i64 z2, .slice a2 D2.length c2] 39) = w1 := ⟨_, rfl⟩
  have HB1 := Lib.hid (show Below w.heap.size w w1 by rw [← hw1]; exact ((Below.refl w.heap.size w).alloc (Nat.le_refl _) _).alloc (by simp) _)
  have HX1 := Lib.hid (show BlkV w1 w.heap.size 39 #[.int .i64 z1, .slice a1 D1.length c1] by rw [← hw1]; exact (BlkV.new _ _ _).alloc _)
  have HX2 := Lib.hid (show BlkV w1 (w.heap.size + 1) 39 #[.int .i64 z2, .slice a2 D2.length c2] by rw [← hw1]; exact BlkV.new_ _ _ _ _ (by simp))
  have HS1 := Lib.hid (h1.below HB1.out).inDn
  have HS2 := Lib.hid (h2.below HB1.out).inDn
  clear h1 h2
  obtain ⟨n1, hn1⟩ : ∃ n, D1.length = n := ⟨_, rfl⟩
  obtain ⟨n2, hn2⟩ : ∃ n, D2.length = n := ⟨_, rfl⟩
  have HN1 := Lib.hid hn1
  have HN2 := Lib.hid hn2
  have HR := Lib.hid hr
  rw [hn1] at HX1 hw1 ⊢
  rw [hn2] at HX2 hw1 ⊢
  rw [hn1] at hl1
  rw [hn2] at hl2
  clear hn1 hn2 hr
  have q10 := HX1.out.two0
  have q11 := HX1.out.two1
  have q20 := HX2.out.two0
  have q21 := HX2.out.two1
  by_cases hz : z1 = z2
  · subst hz
    have hzb : (z1 != z1) = false := by simp
    by_cases hn : n1 = n2
    · subst hn
      have hnb : ((n1 : Int) != (n1 : Int)) = false := by simp
      have HRD := Lib.hid (show decide (D1 = D2) = r by rw [← HR.out]; unfold eqDB; simp)
      go_enter Try.func34, Try.ntmps34
      go_wp2
      go_loopw [24] (fun i wr => ∃ k : Nat, k ≤ n1 ∧ i = .int .i64 k ∧ D1.take k = D2.take k ∧ Below w1.heap.size w1 wr) (fun i _ => n1 - (intOf i).toNat)
      case atStart => exact ⟨0, Nat.zero_le _, rfl, rfl, Below.refl _ _⟩
      case round =>
        obtain ⟨k, hk, rfl, htk, hb⟩ := hrel
        have HB := Lib.hid hb
        have HTK := Lib.hid htk
        have q1 := (HX2.out.below hb).two1
        clear hb htk
        by_cases hlt : k < n1
        · obtain ⟨b1, o1, f, t, u, z, rfl, hb1, hx1, p0, p1, p2, p3⟩ := (HS1.out.below HB.out).at_ (show k < D1.length by rw [HN1.out]; exact hlt)
          obtain ⟨b2, o2, f', t', u', z', rfl, hb2, hx2, p4, p5, p6, p7⟩ := (HS2.out.below HB.out).at_ (show k < D2.length by rw [HN2.out]; exact hlt)
          obtain ⟨W1, hW1⟩ : ∃ W1, W1 = wr.alloc (.cells #[.int .i64 f, .int .i64 t, .int .i64 u, .int .i64 z] 86) := ⟨_, rfl⟩
          have HWB := Lib.hid (show Below wr.heap.size wr W1 by rw [hW1]; exact (Below.refl _ _).alloc (Nat.le_refl _) _)
          have HT4 := Lib.hid (show BlkV W1 wr.heap.size 86 #[.int .i64 f, .int .i64 t, .int .i64 u, .int .i64 z] by rw [hW1]; exact BlkV.new _ _ _)
          have x0 := HT4.out.four0'
          have x1 := HT4.out.four1'
          have x2 := HT4.out.four2'
          have x3 := HT4.out.four3'
          have y1 := (HX2.out.below (HB.out.trans (HWB.out.mono HB.out.size))).two1
          have y4 := (HWB.out.cell (p := ⟨b2, o2 + k * 4, none⟩) hb2).trans p4
          have y5 := (HWB.out.cell (p := ⟨b2, o2 + k * 4 + 1, none⟩) hb2).trans p5
          have y6 := (HWB.out.cell (p := ⟨b2, o2 + k * 4 + 2, none⟩) hb2).trans p6
          have y7 := (HWB.out.cell (p := ⟨b2, o2 + k * 4 + 3, none⟩) hb2).trans p7
          have HWW := Lib.hid hW1
          obtain ⟨b, hb⟩ : ∃ b, decide ((((f, t), (u, z)) : DN) = ((f', t'), (u', z'))) = b := ⟨_, rfl⟩
          have HBD := Lib.hid hb
          have he := fun W => neql_dn f t u z f' t' u' z' b hb W
          have hgd := fun x y xs ys W => gneq_dn x y xs ys W
          have H1 := Lib.hid hx1
          have H2 := Lib.hid hx2
          clear hx1 hx2 hb hb1 hb2 hW1 p4 p5 p6 p7 q1
          have hki : (k : Int) < (n1 : Int) := by omega
          cases b
          · obtain rfl : false = r := by rw [← HRD.out, dn_eq_at H1.out H2.out (of_decide_eq_false HBD.out)]
            go_wp2_with (fail)
            rw [← HWW.out]
            go_quiet (fail)
            go_wp2
            go_ret
            exact ⟨rfl, HB1.out.trans (((HB.out.trans (HWB.out.mono HB.out.size)).trans (dquiet_f _ _ _)).mono HB1.out.size)⟩
          · go_wp2_with (fail)
            rw [← HWW.out]
            go_quiet (fail)
            go_wp2
            go_roundw
            case rel => exact ⟨k + 1, by omega, by go_num, by rw [List.take_add_one, List.take_add_one, H1.out, H2.out, of_decide_eq_true HBD.out, HTK.out], (HB.out.trans (HWB.out.mono HB.out.size)).trans (dquiet_f _ _ _)⟩
            case measure => simp [intOf]; omega
        · obtain rfl : k = n1 := by omega
          obtain rfl : true = r := by rw [← HRD.out, dn_eq_all HN1.out HN2.out HTK.out]
          go_wp2
          go_ret
          exact ⟨rfl, HB1.out.trans (HB.out.mono HB1.out.size)⟩
    · obtain rfl : false = r := by rw [← HR.out]; unfold eqDB; rw [dn_eq_len (by rw [HN1.out, HN2.out]; exact hn), Bool.and_false]
      have hni : ((n1 : Int) != (n2 : Int)) = true := by simp; omega
      go_enter Try.func34, Try.ntmps34
      go_wp2
      go_ret
      exact ⟨rfl, HB1.out⟩
  · obtain rfl : false = r := by rw [← HR.out]; unfold eqDB; rw [decide_eq_false hz, Bool.false_and]
    have hzb : (z1 != z2) = true := by simp [hz]
    clear hz
    go_enter Try.func34, Try.ntmps34
    go_wp2
    go_ret
    exact ⟨rfl, HB1.out⟩

end Go.Proofs.Ytookcggmapldeaa
