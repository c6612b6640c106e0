/-
  A row of pairs of the call's own: two cells written, cells past its end cleared; equal neighbours once. By an AI agent.
-/
import Derived.Test.YtebddnjccmaimaaGreatDoorGPr
import Derived.Lib.SliceRun
namespace Go.Proofs.YtebddnjccmaimaaGreatDoor
open Go.RowKit
set_option linter.unusedVariables false

theorem flatP_set : ∀ (C : List IP) (i : Nat) (x y : Int), flatP (C.set i (x, y)) = ((flatP C).set (i * 2) (.int .i64 x)).set (i * 2 + 1) (.int .i64 y)
  | [], _, _, _ => by simp [flatP]
  | z :: C, 0, x, y => by simp [flatP, encP]
  | z :: C, i + 1, x, y => by
    have ih := flatP_set C i x y
    have e : ∀ (z : IP) (D : List IP), flatP (z :: D) = .int .i64 z.1 :: .int .i64 z.2 :: flatP D := fun z D => by simp [flatP, encP]
    rw [List.set_cons_succ, e, e, ih, show (i + 1) * 2 = i * 2 + 1 + 1 by omega]
    rfl
theorem flatP_take : ∀ (C : List IP) (k : Nat), flatP (C.take k) = (flatP C).take (k * 2)
  | [], k => by simp [flatP]
  | z :: C, 0 => by simp [flatP]
  | z :: C, k + 1 => by
    have ih := flatP_take C k
    have e : ∀ (z : IP) (D : List IP), flatP (z :: D) = .int .i64 z.1 :: .int .i64 z.2 :: flatP D := fun z D => by simp [flatP, encP]
    rw [List.take_succ_cons, e, e, ih, show (k + 1) * 2 = k * 2 + 1 + 1 by omega]
    rfl
theorem row_two {w : World} {base g n cap : Nat} {C : List IP} (h : w.ownsRow base 34 2 (.slice (some ⟨g, 0, none⟩) n cap) n (flatP C)) (i : Nat) (x y : Int) :
    ((w.setCell ⟨g, i * 2, none⟩ (.int .i64 x)).setCell ⟨g, i * 2 + 1, none⟩ (.int .i64 y)).ownsRow base 34 2 (.slice (some ⟨g, 0, none⟩) n cap) n (flatP (C.set i (x, y))) ∧ w.grownBy ((w.setCell ⟨g, i * 2, none⟩ (.int .i64 x)).setCell ⟨g, i * 2 + 1, none⟩ (.int .i64 y)) (some g) := by
  have h1 := h.stored (i * 2) (.int .i64 x)
  have h2 := h1.1.stored (i * 2 + 1) (.int .i64 y)
  exact ⟨by rw [flatP_set]; exact h2.1, grown_trans' h1.2 h2.2⟩
theorem row_still {w w' : World} {base n size : Nat} {e : TypeId} {v : Value} {xs : List Value} (h : w.ownsRow base e size v n xs) (hb : Below w.heap.size w w') : w'.ownsRow base e size v n xs :=
  World.ownsRow.kept h (row := none) ⟨hb.os, hb.tape, hb.output, hb.size, fun i hi _ => hb.block i hi⟩ (by cases hv : v.ownBlock <;> simp)
/-- the row cut at k -/
theorem row_cut {w : World} {base g n cap k : Nat} {C : List IP} (h : w.ownsRow base 34 2 (.slice (some ⟨g, 0, none⟩) n cap) n (flatP C)) (hk : k ≤ n) :
    w.ownsRow base 34 2 (.slice (some ⟨g, 0, none⟩) k cap) k (flatP (C.take k)) := by
  have hl := h.1
  refine ⟨by rw [flatP_take, List.length_take]; omega, .inr ?_⟩
  rcases h.2 with ⟨hv, _⟩ | ⟨g', cap', cur, hv, hb, hg, h1, h2, h3, h4⟩
  · cases hv
  · simp only [Value.slice.injEq, Option.some.injEq, Addr.mk.injEq] at hv
    obtain ⟨⟨rfl, _⟩, _, rfl⟩ := hv
    refine ⟨g, cap, cur, rfl, hb, hg, by omega, h2, h3, ?_⟩
    rw [flatP_take, ← h4, List.take_take, Nat.min_eq_left (by omega)]
/-- a cell past the row's end -/
theorem row_past {w : World} {base g n cap k : Nat} {e : TypeId} {xs : List Value} (h : w.ownsRow base e k (.slice (some ⟨g, 0, none⟩) n cap) n xs) (o : Nat) (v : Value) (ho : n * k ≤ o) :
    (w.setCell ⟨g, o, none⟩ v).ownsRow base e k (.slice (some ⟨g, 0, none⟩) n cap) n xs ∧ w.grownBy (w.setCell ⟨g, o, none⟩ v) (some g) := by
  have h1 := h.stored o v
  rw [List.set_eq_of_length_le (by rw [h.1]; exact ho)] at h1
  exact h1
theorem row_clear {base g n cap k : Nat} {e : TypeId} {xs : List Value} : ∀ (vs : List Value) (o : Nat) (w : World), w.ownsRow base e k (.slice (some ⟨g, 0, none⟩) n cap) n xs → n * k ≤ o →
    (w.setCells g o vs).ownsRow base e k (.slice (some ⟨g, 0, none⟩) n cap) n xs ∧ w.grownBy (w.setCells g o vs) (some g)
  | [], _, w, h, _ => ⟨h, World.grownBy.refl _ _⟩
  | v :: vs, o, w, h, ho => by
    have h1 := row_past h o v ho
    have h2 := row_clear vs (o + 1) _ h1.1 (by omega)
    exact ⟨h2.1, grown_trans' h1.2 h2.2⟩
/-- 'clear' of what lies behind the row's first k pairs -/
theorem run_clearP (w : World) (base g n cap k c : Nat) (C : List IP) (h : w.ownsRow base 34 2 (.slice (some ⟨g, 0, none⟩) n cap) n (flatP C)) (hk : k < n) :
    ∃ w', (∀ ty, (Builtin.clear_ #[27] ty #[.slice (some ⟨g, k * 2, none⟩) (n - k) c]).run Tryz.prog w = .ok (.tuple #[]) w') ∧ w'.ownsRow base 34 2 (.slice (some ⟨g, 0, none⟩) k cap) k (flatP (C.take k)) ∧ w.grownBy w' (some g) := by
  have hv : ∀ w, (zeroValue 34).run Tryz.prog w = .ok (.agg #[.int .i64 0, .int .i64 0]) w := fun w => by kernel_rfl
  have hl := h.1
  obtain ⟨m, hm⟩ : ∃ m, n - k = m + 1 := ⟨n - k - 1, by omega⟩
  obtain ⟨Z, hZ⟩ : ∃ Z, (Builtin.zeroCells (Value.agg #[.int .i64 0, .int .i64 0]).cells (m + 1)).toList = Z := ⟨_, rfl⟩
  have hZl : Z.length = (m + 1) * 2 := by rw [← hZ]; simp [Builtin.zeroCells, Value.cells]
  have hZ1 : ∀ v ∈ Z, v.oneCell' = true := by
    intro v hv'
    rw [← hZ] at hv'
    simp [Builtin.zeroCells, Value.cells] at hv'
    obtain ⟨i, hi, rfl⟩ := hv'
    rcases Nat.mod_two_eq_zero_or_one i with h0 | h0
    · simp [h0, Value.oneCell']
    · simp [h0, Value.oneCell']
  have hst := run_storeCells_cells (P := Tryz.prog) g (k * 2) Z 0 w (by
      intro j hj
      rw [hZl] at hj
      have hc := h.cellAt (k * 2 + 0 + j) (by omega)
      rw [hc, List.getElem?_eq_getElem (by omega)]
      rfl) (fun j hj => h.frozenAt _) hZ1
  simp only [Nat.add_zero] at hst
  have hr := row_clear Z (k * 2) w (row_cut h (by omega)) (Nat.le_refl _)
  refine ⟨_, fun ty => ?_, hr.1, hr.2⟩
  rw [hm]
  simp [Builtin.clear_, run_underlying Tryz.underlying27, hv, hZ, hst]

/-! ### equal neighbours once -/
theorem cmpP_snoc : ∀ (l : List IP) (y x : IP), cmpP (l ++ [y, x]) = if x = y then cmpP (l ++ [y]) else cmpP (l ++ [y]) ++ [x]
  | [], y, x => by
    show (if x = y then cmpP [x] else y :: cmpP [x]) = _
    split
    · rename_i e; subst e; rfl
    · rfl
  | [z], y, x => by
    have ih := cmpP_snoc [] y x
    rw [List.nil_append, List.nil_append] at ih
    show (if y = z then cmpP [y, x] else z :: cmpP [y, x]) = if x = y then (if y = z then cmpP [y] else z :: cmpP [y]) else (if y = z then cmpP [y] else z :: cmpP [y]) ++ [x]
    rw [ih]
    split <;> split <;> rfl
  | z :: u :: l, y, x => by
    have ih := cmpP_snoc (u :: l) y x
    show (if u = z then cmpP (u :: l ++ [y, x]) else z :: cmpP (u :: l ++ [y, x])) = if x = y then (if u = z then cmpP (u :: l ++ [y]) else z :: cmpP (u :: l ++ [y])) else (if u = z then cmpP (u :: l ++ [y]) else z :: cmpP (u :: l ++ [y])) ++ [x]
    rw [ih]
    split <;> split <;> rfl
theorem take_two {q : List IP} {k : Nat} {y x : IP} (hy : q[k]? = some y) (hx : q[k + 1]? = some x) : q.take (k + 2) = q.take k ++ [y, x] := by
  obtain ⟨h1, e1⟩ := List.getElem?_eq_some_iff.1 hy
  obtain ⟨h2, e2⟩ := List.getElem?_eq_some_iff.1 hx
  rw [List.take_succ_eq_append_getElem h2, List.take_succ_eq_append_getElem h1, e1, e2, List.append_assoc]
  rfl
theorem take_onep {q : List IP} {k : Nat} {y : IP} (hy : q[k]? = some y) : q.take (k + 1) = q.take k ++ [y] := by
  obtain ⟨h1, e1⟩ := List.getElem?_eq_some_iff.1 hy
  rw [List.take_succ_eq_append_getElem h1, e1]
theorem cmpP_step {q : List IP} {k : Nat} {y x : IP} (hy : q[k]? = some y) (hx : q[k + 1]? = some x) : cmpP (q.take (k + 2)) = if x = y then cmpP (q.take (k + 1)) else cmpP (q.take (k + 1)) ++ [x] := by
  rw [take_two hy hx, take_onep hy, cmpP_snoc]
theorem cmpP_small {q : List IP} (h : q.length < 2) : cmpP q = q := by
  match q, h with
  | [], _ => rfl
  | [x], _ => rfl

end Go.Proofs.YtebddnjccmaimaaGreatDoor
