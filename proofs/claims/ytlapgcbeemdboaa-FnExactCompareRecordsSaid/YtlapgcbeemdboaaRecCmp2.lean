/-
  What spec.CompareRecords and impl.CompareRecords answer. By an AI agent.
-/
import Derived.Test.YtlapgcbeemdboaaRecCmp
import Derived.Deep.RegionHeld3
namespace Go.Proofs.Ytlapgcbeemdboaa
open Go.RowKit
set_option linter.unusedVariables false

theorem belowN {B : Nat} {a w : World} (h : Below B a w) (n : Nat) : Below B a (w.drewN n) := ⟨h.os, h.tape, h.output, h.size, h.block⟩

set_option maxRecDepth 100000 in
set_option maxHeartbeats 3200000 in
theorem cr_spec (s0 k0 v0 s1 k1 v1 : Int) (b0 b1 : Option Addr) (d0 d1 : Nat) (l0 l1 : List Str) (r : Int) (w : World) (hr : crR s0 k0 v0 s1 k1 v1 l0 l1 = r) (h0 : Sm w b0 l0 d0) (h1 : Sm w b1 l1 d1) :
    Calls Try.prog 20 #[.agg #[.int .i64 s0, .int .i64 k0, .int .i64 v0, .slice b0 l0.length d0], .agg #[.int .i64 s1, .int .i64 k1, .int .i64 v1, .slice b1 l1.length d1]] w fun e w' => e = .returned (.int .i64 r) ∧ Below w.heap.size w w' := by
  have hl0 := h0.2.2.2.1
  have hl1 := h1.2.2.2.1
  obtain ⟨x1, hx1⟩ : ∃ x, ci s0 s1 = x := ⟨_, rfl⟩
  obtain ⟨x2, hx2⟩ : ∃ x, ci k0 k1 = x := ⟨_, rfl⟩
  obtain ⟨x3, hx3⟩ : ∃ x, ci v0 v1 = x := ⟨_, rfl⟩
  have hr2 : orI x1 (orI x2 (orI x3 (cmpL l0 l1))) = r := by rw [← hr, ← hx1, ← hx2, ← hx3]; rfl
  have X1 := Lib.hid hx1
  have X2 := Lib.hid hx2
  have X3 := Lib.hid hx3
  clear hx1 hx2 hx3 hr
  have hway : ∃ kk : Int, ((kk ≠ 0 ∧ kk = r) ∨ (kk = 0 ∧ cmpL l0 l1 = r)) ∧ ((x1 == 0) = false ∧ x1 = kk ∨ (x1 == 0) = true ∧ (x2 == 0) = false ∧ x2 = kk ∨ (x1 == 0) = true ∧ (x2 == 0) = true ∧ x3 = kk) := by
    by_cases e1 : x1 = 0
    · by_cases e2 : x2 = 0
      · rw [e1, e2, or_zero, or_zero] at hr2
        by_cases e3 : x3 = 0
        · rw [e3, or_zero] at hr2
          exact ⟨x3, .inr ⟨e3, hr2⟩, .inr (.inr ⟨by simp [e1], by simp [e2], rfl⟩)⟩
        · rw [or_some _ e3] at hr2
          exact ⟨x3, .inl ⟨e3, hr2⟩, .inr (.inr ⟨by simp [e1], by simp [e2], rfl⟩)⟩
      · rw [e1, or_zero, or_some _ e2] at hr2
        exact ⟨x2, .inl ⟨e2, hr2⟩, .inr (.inl ⟨by simp [e1], by simp [e2], rfl⟩)⟩
    · rw [or_some _ e1] at hr2
      exact ⟨x1, .inl ⟨e1, hr2⟩, .inl ⟨by simp [e1], rfl⟩⟩
  clear hr2
  obtain ⟨wb, hwb⟩ : ∃ wb, wb = (w.alloc (.cells #[.int .i64 s0, .int .i64 k0, .int .i64 v0, .slice b0 l0.length d0] 27)).alloc (.cells #[.int .i64 s1, .int .i64 k1, .int .i64 v1, .slice b1 l1.length d1] 27) := ⟨_, rfl⟩
  have HB0 := Lib.hid (show Below w.heap.size w wb by rw [hwb]; exact ((Below.refl w.heap.size w).alloc (Nat.le_refl _) _).alloc (by simp) _)
  have r0 : RecB 27 wb w.heap.size s0 k0 v0 (.slice b0 l0.length d0) := by rw [hwb]; exact (RecB.new _ _ _ _ _ _ _ rfl).alloc _
  have r1 : RecB 27 wb (w.heap.size + 1) s1 k1 v1 (.slice b1 l1.length d1) := by rw [hwb]; exact RecB.new _ _ _ _ _ _ _ (by simp)
  have q3 := r0.c3
  have p3 := r1.c3
  have H0 := Lib.hid (h0.1.below HB0.out)
  have H1 := Lib.hid (h1.1.below HB0.out)
  have HWB := Lib.hid hwb
  clear r0 r1 h0 h1 hwb
  obtain ⟨kk, hk, hway⟩ := hway
  have HK := Lib.hid hk
  clear hk
  rcases hway with ⟨t1, rfl⟩ | ⟨t1, t2, rfl⟩ | ⟨t1, t2, rfl⟩
  all_goals
    go_enter Try.func20, Try.ntmps20
    go_wp2_with (first
      | (go_at_call 31; (with_reducible refine (l8i_is s0 s1 _ _ X1.out).mono ?_); rintro e w1 ⟨rfl, rfl⟩)
      | (go_at_call 31; (with_reducible refine (l8i_is k0 k1 _ _ X2.out).mono ?_); rintro e w1 ⟨rfl, rfl⟩)
      | (go_at_call 31; (with_reducible refine (l8i_is v0 v1 _ _ X3.out).mono ?_); rintro e w1 ⟨rfl, rfl⟩))
    rw [← HWB.out]
    go_loopw [5, 6] (fun k i wr => ∃ (n q : Nat) (d : Int), n ≤ l0.length ∧ n ≤ l1.length ∧ i = .int .i64 n ∧ k = .int .i64 d ∧ wr = wb.drewN q ∧ ((d ≠ 0 ∧ d = r) ∨ (d = 0 ∧ cmpL (l0.drop n) (l1.drop n) = r))) (fun _ i _ => l0.length - (intOf i).toNat)
    case atStart => exact ⟨0, 0, _, Nat.zero_le _, Nat.zero_le _, rfl, rfl, rfl, HK.out⟩
    case round =>
      obtain ⟨n, q, d, hn0, hn1, rfl, rfl, rfl, hd⟩ := hrel
      have HD := Lib.hid hd
      clear hd
      by_cases ez : d = 0
      · have hz : (d == 0) = true := by simp [ez]
        have HE := Lib.hid (show cmpL (l0.drop n) (l1.drop n) = r by
          rcases HD.out with ⟨e, -⟩ | ⟨-, e⟩
          · exact absurd ez e
          · exact e)
        clear ez
        by_cases q0 : n < l0.length
        · by_cases q1 : n < l1.length
          · obtain ⟨g0, o0, rfl, hb0, hc0⟩ := H0.out (by omega)
            obtain ⟨g1, o1, rfl, hb1, hc1⟩ := H1.out (by omega)
            obtain ⟨x, s, hx1, hx2, hx3, hx4⟩ := str_at q0
            obtain ⟨y, t, hy1, hy2, hy3, hy4⟩ := str_at q1
            have hcell0 : wb.cell? ⟨g0, o0 + n, none⟩ = some (.string s) := by rw [← hx3]; exact hc0 n x hx1
            have hcell1 : wb.cell? ⟨g1, o1 + n, none⟩ = some (.string t) := by rw [← hy3]; exact hc1 n y hy1
            have HE2 := Lib.hid (show orI (cmpR x y) (cmpL (l0.drop (n + 1)) (l1.drop (n + 1))) = r by
              rw [← HE.out, drop_at hx1, drop_at hy1]
              rfl)
            have hcmp : (Op.bytesLess s.toList t.toList = true ∧ cmpR x y = -1) ∨ (Op.bytesLess s.toList t.toList = false ∧ (s.toList == t.toList) = false ∧ cmpR x y = 1) ∨ (Op.bytesLess s.toList t.toList = false ∧ (s.toList == t.toList) = true ∧ cmpR x y = 0) := by
              by_cases c1 : x < y
              · exact .inl ⟨less_yes hx2 hy2 c1, cmpR_lt c1⟩
              · by_cases c2 : y < x
                · exact .inr (.inl ⟨less_no hx2 hy2 c1, str_ne3 hx2 hy2 (fun e => str_ne_of c2 e.symm), cmpR_gt c2⟩)
                · obtain rfl : x = y := Decidable.byContradiction fun e => c1 (str_lt_of (List.not_lt.1 c2) e)
                  refine .inr (.inr ⟨less_no hx2 hy2 c1, ?_, cmpR_eq x⟩)
                  rw [str_eq3 hx2 hy2 rfl]
                  exact beq_self_eq_true _
            clear hc0 hc1 hx1 hx2 hx3 hx4 hy1 hy2 hy3 hy4
            rcases hcmp with ⟨m1, m2⟩ | ⟨m1, m3, m2⟩ | ⟨m1, m3, m2⟩
            · have HE3 := Lib.hid (show (-1 : Int) = r by rw [← HE2.out, m2, or_some _ (by decide)])
              clear m2
              go_wp2
              go_quiet (fail)
              go_wp2
              go_quiet (fail)
              go_wp2
              go_roundw
              case rel => exact ⟨n + 1, _, -1, by omega, by omega, by go_num, rfl, rfl, .inl ⟨by decide, HE3.out⟩⟩
              case measure => simp [intOf]; omega
            · have HE3 := Lib.hid (show (1 : Int) = r by rw [← HE2.out, m2, or_some _ (by decide)])
              clear m2
              go_wp2
              go_quiet (fail)
              go_wp2
              go_quiet (fail)
              go_wp2
              go_roundw
              case rel => exact ⟨n + 1, _, 1, by omega, by omega, by go_num, rfl, rfl, .inl ⟨by decide, HE3.out⟩⟩
              case measure => simp [intOf]; omega
            · have HE3 := Lib.hid (show cmpL (l0.drop (n + 1)) (l1.drop (n + 1)) = r by rw [← HE2.out, m2, or_zero])
              clear m2
              go_wp2
              go_quiet (fail)
              go_wp2
              go_quiet (fail)
              go_wp2
              go_roundw
              case rel => exact ⟨n + 1, _, d, by omega, by omega, by go_num, rfl, rfl, .inr ⟨by simpa using hz, HE3.out⟩⟩
              case measure => simp [intOf]; omega
          · have HE2 := Lib.hid (show ci (l0.length : Int) (l1.length : Int) = r by rw [← HE.out, cmpL_end hn0 hn1 (.inr (by omega))])
            go_wp2_with (go_at_call 31; (with_reducible refine (l8i_is _ _ _ _ HE2.out).mono ?_); rintro e w1 ⟨rfl, rfl⟩)
            go_ret
            exact ⟨rfl, belowN HB0.out _⟩
        · have HE2 := Lib.hid (show ci (l0.length : Int) (l1.length : Int) = r by rw [← HE.out, cmpL_end hn0 hn1 (.inl (by omega))])
          go_wp2_with (go_at_call 31; (with_reducible refine (l8i_is _ _ _ _ HE2.out).mono ?_); rintro e w1 ⟨rfl, rfl⟩)
          go_ret
          exact ⟨rfl, belowN HB0.out _⟩
      · have hz : (d == 0) = false := by simp [ez]
        have HE := Lib.hid (show d = r by
          rcases HD.out with ⟨-, e⟩ | ⟨e, -⟩
          · exact e
          · exact absurd e ez)
        clear ez
        have hq : (n < l0.length ∧ n < l1.length) ∨ (n < l0.length ∧ ¬ n < l1.length) ∨ ¬ n < l0.length := by omega
        rcases hq with ⟨q0, q1⟩ | ⟨q0, q1⟩ | q0
        all_goals
          go_wp2
          go_ret
          exact ⟨cret_int HE.out, belowN HB0.out _⟩

end Go.Proofs.Ytlapgcbeemdboaa
