/-
  What slices.Compact at tests without Below answers. By an AI agent.
-/
import Derived.Test.YtpmfabpnjacegaaGreatDoorGQ5
import Derived.BigQuiet
import Derived.Deep.QuietTactic
namespace Go.Proofs.YtpmfabpnjacegaaGreatDoor
open Go.RowKit
set_option linter.unusedVariables false
set_option linter.unusedSimpArgs false
set_option linter.unnecessarySimpa false

theorem vquiet_f (b : Nat) (w : World) (n : Nat) : Below b w (w.drewN n) := ⟨rfl, rfl, rfl, Nat.le_refl _, fun _ _ => rfl⟩
/-- how far the second loop has come -/
structure CmpAV (q C P : List IQ) (n b : Nat) : Prop where
  eq : P = cmpP (q.take (b + 1))
  len : C.length = n
  take : C.take P.length = P
  le : P.length ≤ b
  rest : ∀ t, b ≤ t → C[t]? = q[t]?
theorem CmpAV.start {q : List IQ} {n j : Nat} {y : IQ} (hn : q.length = n) (hj : j + 1 < n) (hc : cmpP (q.take (j + 1)) = q.take (j + 1)) (h0 : q[j]? = some y) (h1 : q[j + 1]? = some y) : CmpAV q q (q.take (j + 1)) n (j + 1) :=
  have hl : (q.take (j + 1)).length = j + 1 := by rw [List.length_take]; omega
  ⟨by rw [cmpP_stepV h0 h1, if_pos rfl, hc], hn, by rw [hl], by rw [hl]; exact Nat.le_refl _, fun _ _ => rfl⟩
theorem CmpAV.same {q C P : List IQ} {n b : Nat} {y : IQ} (h : CmpAV q C P n b) (h0 : q[b]? = some y) (h1 : q[b + 1]? = some y) : CmpAV q C P n (b + 1) :=
  ⟨by rw [cmpP_stepV h0 h1, if_pos rfl]; exact h.eq, h.len, h.take, Nat.le_succ_of_le h.le, fun t ht => h.rest t (by omega)⟩
theorem CmpAV.put {q C P : List IQ} {n b : Nat} {x y : IQ} (h : CmpAV q C P n b) (h0 : q[b]? = some y) (h1 : q[b + 1]? = some x) (hne : x ≠ y) (hb : b < n) : CmpAV q (C.set P.length x) (P ++ [x]) n (b + 1) := by
  have hle := h.le
  have hcl := h.len
  refine ⟨by rw [cmpP_stepV h0 h1, if_neg hne, ← h.eq], by rw [List.length_set]; exact h.len, ?_, by simp; omega, fun t ht => ?_⟩
  · have hlt : P.length < (C.set P.length x).length := by rw [List.length_set]; omega
    rw [List.length_append, List.length_singleton, List.take_succ_eq_append_getElem hlt, List.getElem_set_self, List.take_set_of_le (Nat.le_refl _), h.take]
  · rw [List.getElem?_set_ne (by omega)]
    exact h.rest t (by omega)

set_option maxRecDepth 100000 in
set_option maxHeartbeats 4000000 in
theorem cmpv_impl (g cap n base : Nat) (q r : List IQ) (w : World) (hr : cmpP q = r) (hn : q.length = n) (hl : n ≤ 4000000) (h : w.ownsRow base 86 3 (.slice (some ⟨g, 0, none⟩) n cap) n (flatV q)) :
    Calls Tryz.prog 51 #[.slice (some ⟨g, 0, none⟩) n cap] w fun e w' => e = .returned (.slice (some ⟨g, 0, none⟩) r.length cap) ∧ w'.ownsRow base 86 3 (.slice (some ⟨g, 0, none⟩) r.length cap) r.length (flatV r) ∧ w.grownBy w' (some g) := by
  have hnc := rowX_cap h
  by_cases h2 : n < 2
  · have e : q = r := by rw [← hr, cmpP_smallV (by omega)]
    subst e
    subst hn
    have HR := Lib.hid h
    clear h hr
    go_enter Tryz.func51, Tryz.ntmps51
    go_wp2
    go_ret
    exact ⟨rfl, HR.out, World.grownBy.refl _ _⟩
  have HR := Lib.hid hr
  have HROW := Lib.hid h
  have HN := Lib.hid hn
  clear h hr hn
  go_enter Tryz.func51, Tryz.ntmps51
  go_wp2
  go_loopw [3] (fun i wr => ∃ j : Nat, j + 1 ≤ n ∧ i = .int .i64 ((j : Int) + 1) ∧ cmpP (q.take (j + 1)) = q.take (j + 1) ∧ wr.ownsRow base 86 3 (.slice (some ⟨g, 0, none⟩) n cap) n (flatV q) ∧ w.grownBy wr (some g)) (fun i _ => n - (intOf i).toNat)
  case atStart => exact ⟨0, by omega, rfl, cmpP_smallV (by rw [List.length_take]; omega), HROW.out, World.grownBy.refl _ _⟩
  case round =>
    obtain ⟨j, hj, rfl, hc, hrow, hg⟩ := hrel
    have HC := Lib.hid hc
    have HRW := Lib.hid hrow
    have HG := Lib.hid hg
    clear hc hrow hg
    by_cases hlt : j + 1 < n
    · obtain ⟨⟨ya, yb⟩, h0⟩ : ∃ y, q[j]? = some y := ⟨_, List.getElem?_eq_getElem (by rw [HN.out]; omega)⟩
      obtain ⟨⟨xa, xb⟩, h1⟩ : ∃ y, q[j + 1]? = some y := ⟨_, List.getElem?_eq_getElem (by rw [HN.out]; omega)⟩
      obtain ⟨y0, y1, y2⟩ := flatV_at h0
      obtain ⟨x0, x1, x2⟩ := flatV_at h1
      rw [← HRW.out.cellAt _ (by omega)] at y0 y1 y2 x0 x1 x2
      have H0 := Lib.hid h0
      have H1 := Lib.hid h1
      clear h0 h1
      have hgd := fun x y xs ys W => geql_ts x y xs ys W
      have hi1 : (0 : Int) ≤ (j : Int) := by omega
      have hi2 : (j : Int) < (n : Int) := by omega
      have hi3 : (j : Int) + 1 < (n : Int) := by omega
      obtain ⟨b, hb⟩ : ∃ b, (xa == ya && xb == yb) = b := ⟨_, rfl⟩
      have he := fun W => eql_ts xa xb ya yb b hb W
      have hbd := same_boolV (p := (xa, xb)) (q := (ya, yb)) hb
      clear hb
      by_cases hxy : ((xa, xb) : IQ) = (ya, yb)
      · obtain rfl : b = true := by rw [hbd]; exact decide_eq_true hxy
        have HXY := Lib.hid hxy
        clear hxy hbd
        go_wp2_with (fail)
        go_quiet (fail)
        have HBx := Lib.hid (vquiet_f wr.heap.size wr nq)
        generalize wr.drewN nq = wx at HBx ⊢
        have HRX := Lib.hid (row_stillV HRW.out HBx.out)
        have HGX := Lib.hid (grownV HG.out (grown_belowV HBx.out (some g)))
        have HST := Lib.hid (CmpAV.start HN.out hlt HC.out H0.out (by rw [H1.out, HXY.out]))
        have hpl : (q.take (j + 1)).length = j + 1 := by rw [List.length_take, HN.out]; omega
        have HPL := Lib.hid hpl
        clear y0 y1 y2 x0 x1 x2 he hgd hpl
        have hc1 : ¬ cap = j + 1 := by omega
        have hc2 : ¬ (cap : Int) = (j : Int) + 1 := by omega
        go_wp2
        go_loopw [3, 5] (fun i kk wr' => ∃ (m : Nat) (C P : List IQ), m + 1 ≤ n - (j + 1) ∧ i = .int .i64 P.length ∧ kk = .int .i64 ((m : Int) + 1) ∧ CmpAV q C P n (j + 1 + m) ∧ wr'.ownsRow base 86 3 (.slice (some ⟨g, 0, none⟩) n cap) n (flatV C) ∧ w.grownBy wr' (some g)) (fun _ kk _ => n - (intOf kk).toNat)
        case atStart => exact ⟨0, q, q.take (j + 1), by omega, by rw [HPL.out]; go_num, rfl, HST.out, HRX.out, HGX.out⟩
        case round =>
          obtain ⟨m, C, P, hm, rfl, rfl, hat, hrow, hg⟩ := hrel
          have HAT := Lib.hid hat
          have HR2 := Lib.hid hrow
          have HG2 := Lib.hid hg
          have hple := hat.le
          have hcl := hat.len
          have HCL := Lib.hid hcl
          clear hat hrow hg hcl
          by_cases hlt2 : m + 1 < n - (j + 1)
          · obtain ⟨⟨ya, yb⟩, h0⟩ : ∃ y, q[j + 1 + m]? = some y := ⟨_, List.getElem?_eq_getElem (by rw [HN.out]; omega)⟩
            obtain ⟨⟨xa, xb⟩, h1⟩ : ∃ y, q[j + 1 + m + 1]? = some y := ⟨_, List.getElem?_eq_getElem (by rw [HN.out]; omega)⟩
            obtain ⟨y0, y1, y2⟩ := flatV_at ((HAT.out.rest _ (Nat.le_refl _)).trans h0)
            obtain ⟨x0, x1, x2⟩ := flatV_at ((HAT.out.rest _ (Nat.le_succ _)).trans h1)
            rw [← HR2.out.cellAt _ (by omega)] at y0 y1 y2 x0 x1 x2
            rw [show (j + 1 + m) * 3 = (j + 1) * 3 + m * 3 by omega] at y0 y1 y2
            rw [show (j + 1 + m + 1) * 3 = (j + 1) * 3 + (m + 1) * 3 by omega] at x0 x1 x2
            have H2 := Lib.hid h0
            have H3 := Lib.hid h1
            clear h0 h1
            have hgd := fun x y xs ys W => gneq_ts x y xs ys W
            have hk1 : (0 : Int) ≤ (m : Int) := by omega
            have hk2 : (m : Int) < ((n - (j + 1) : Nat) : Int) := by omega
            have hk3 : (m : Int) + 1 < ((n - (j + 1) : Nat) : Int) := by omega
            have hk4 : (P.length : Int) < (n : Int) := by omega
            have hk5 : P.length < n := by omega
            obtain ⟨b, hb⟩ : ∃ b, (xa == ya && xb == yb) = b := ⟨_, rfl⟩
            have he := fun W => neql_ts xa xb ya yb b hb W
            have hbd := same_boolV (p := (xa, xb)) (q := (ya, yb)) hb
            clear hb
            by_cases hxy2 : ((xa, xb) : IQ) = (ya, yb)
            · obtain rfl : b = true := by rw [hbd]; exact decide_eq_true hxy2
              have HXY2 := Lib.hid hxy2
              clear hxy2 hbd
              go_wp2_with (fail)
              go_quiet (fail)
              have HBy := Lib.hid (vquiet_f wr.heap.size wr nq)
              generalize wr.drewN nq = wy at HBy ⊢
              clear y0 y1 y2 x0 x1 x2 he hgd
              go_wp2
              go_roundw
              case rel => exact ⟨m + 1, C, P, by omega, rfl, by go_num, HAT.out.same H2.out (by rw [H3.out, HXY2.out]), row_stillV HR2.out HBy.out, grownV HG2.out (grown_belowV HBy.out (some g))⟩
              case measure => simp [intOf]; omega
            · obtain rfl : b = false := by rw [hbd]; exact decide_eq_false hxy2
              have HXY2 := Lib.hid hxy2
              clear hxy2 hbd
              go_wp2_with (fail)
              go_quiet (fail)
              have HBy := Lib.hid (vquiet_f wr.heap.size wr nq)
              generalize wr.drewN nq = wy at HBy ⊢
              have HRY := Lib.hid (row_stillV HR2.out HBy.out)
              have HGY := Lib.hid (grownV HG2.out (grown_belowV HBy.out (some g)))
              clear y0 y1 y2 x0 x1 x2 he hgd
              obtain ⟨x0, x1, x2⟩ := flatV_at ((HAT.out.rest _ (Nat.le_succ _)).trans H3.out)
              rw [← HRY.out.cellAt _ (by omega), show (j + 1 + m + 1) * 3 = (j + 1) * 3 + (m + 1) * 3 by omega] at x0 x1 x2
              obtain ⟨⟨za, zb⟩, hz⟩ : ∃ y, C[P.length]? = some y := ⟨_, List.getElem?_eq_getElem (by rw [HCL.out]; omega)⟩
              obtain ⟨z0, z1, z2⟩ := flatV_at hz
              rw [← HRY.out.cellAt _ (by omega)] at z0 z1 z2
              have f0 := HRY.out.frozenAt (P.length * 3)
              have f1 := HRY.out.frozenAt (P.length * 3 + 1)
              have f2 := HRY.out.frozenAt (P.length * 3 + 2)
              have HN2 := Lib.hid (row_threeV HRY.out P.length xa xb)
              have HPUT := Lib.hid (HAT.out.put H2.out H3.out HXY2.out (by omega))
              clear hz
              go_wp2
              go_roundw
              case rel => exact ⟨m + 1, C.set P.length (xa, xb), P ++ [(xa, xb)], by omega, by first | (simp; done) | rfl | go_num, by go_num, HPUT.out, HN2.out.1, grownV HGY.out HN2.out.2⟩
              case measure => simp [intOf]; omega
          · have hm2 : j + 1 + m + 1 = n := by omega
            have HPR := Lib.hid (show P = r by rw [HAT.out.eq, hm2, List.take_of_length_le (Nat.le_of_eq HN.out), HR.out])
            obtain ⟨w9, hcl, hrow9, hg9⟩ := run_clearV wr base g n cap P.length (cap - P.length) C HR2.out (by omega)
            have HT9 := Lib.hid (show w9.ownsRow base 86 3 (.slice (some ⟨g, 0, none⟩) P.length cap) P.length (flatV P) by have h := hrow9; rwa [HAT.out.take] at h)
            have HG9 := Lib.hid (grownV HG2.out hg9)
            have hk4 : (P.length : Int) < (n : Int) := by omega
            have hk5 : P.length < n := by omega
            have hk6 : ¬ cap = P.length := by omega
            have hk7 : ¬ (cap : Int) = (P.length : Int) := by omega
            clear hrow9 hg9
            go_wp2
            go_ret
            have e := HPR.out
            subst e
            exact ⟨rfl, HT9.out, HG9.out⟩
      · obtain rfl : b = false := by rw [hbd]; exact decide_eq_false hxy
        have HXY := Lib.hid hxy
        clear hxy hbd
        go_wp2_with (fail)
        go_quiet (fail)
        have HBx := Lib.hid (vquiet_f wr.heap.size wr nq)
        generalize wr.drewN nq = wx at HBx ⊢
        clear y0 y1 y2 x0 x1 x2 he hgd
        go_wp2
        go_roundw
        case rel => exact ⟨j + 1, by omega, by go_num, by rw [cmpP_stepV H0.out H1.out, if_neg HXY.out, HC.out, take_onepV H1.out], row_stillV HRW.out HBx.out, grownV HG.out (grown_belowV HBx.out (some g))⟩
        case measure => simp [intOf]; omega
    · have hj2 : j + 1 = n := by omega
      have e : q = r := by rw [← HR.out, ← List.take_of_length_le (Nat.le_of_eq (HN.out.trans hj2.symm)), HC.out]
      go_wp2
      go_ret
      subst e
      have hn := HN.out
      subst hn
      exact ⟨rfl, HRW.out, HG.out⟩

end Go.Proofs.YtpmfabpnjacegaaGreatDoor
