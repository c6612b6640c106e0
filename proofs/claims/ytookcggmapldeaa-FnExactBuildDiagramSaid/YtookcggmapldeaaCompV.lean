/-
  A row of variables (tests without Below) of the call's own: three cells written, cells past its end cleared. By an AI agent.
-/
import Derived.Test.YtookcggmapldeaaTsS
import Derived.Test.YtookcggmapldeaaPlainVar
import Derived.Laws.StructEq
import Derived.Lib.SliceRun
namespace Go.Proofs.Ytookcggmapldeaa
open Go.RowKit
set_option linter.unusedVariables false
set_option linter.unusedSimpArgs false
set_option linter.unnecessarySimpa false

def flatV (l : List IQ) : List Value := flatTs (l.map tsV)
theorem flatV_nil : flatV [] = [] := rfl
theorem flatV_cons (z : IQ) (D : List IQ) : flatV (z :: D) = .int .i64 z.1 :: .int .i64 z.2 :: .bool false :: flatV D := by simp [flatV, flatTs_cons, tsV]
theorem flatV_len (l : List IQ) : (flatV l).length = l.length * 3 := by unfold flatV; rw [flatTs_len, List.length_map]
theorem flatV_snoc (l : List IQ) (x : IQ) : flatV (l ++ [x]) = flatV l ++ [.int .i64 x.1, .int .i64 x.2, .bool false] := by simp [flatV, flatTs_append, flatTs, encTs, tsV]
theorem flatV_append (l m : List IQ) : flatV (l ++ m) = flatV l ++ flatV m := by simp [flatV, flatTs_append]
theorem flatV_at {l : List IQ} {j : Nat} {x : IQ} (h : l[j]? = some x) : (flatV l)[j * 3]? = some (.int .i64 x.1) ∧ (flatV l)[j * 3 + 1]? = some (.int .i64 x.2) ∧ (flatV l)[j * 3 + 2]? = some (.bool false) := by
  have h1 : (l.map tsV)[j]? = some (tsV x) := by rw [List.getElem?_map, h]; rfl
  exact flatTs_at h1
theorem same_ts (x y z u : Int) (r : Bool) (hr : (x == z && y == u) = r) (w : World) : (Op.equalIn 10000 62 (.agg #[.int .i64 x, .int .i64 y, .bool false]) (.agg #[.int .i64 z, .int .i64 u, .bool false])).run Try.prog w = .ok r w := by
  rw [run_equalIn_agg w 9999 _ _ _ (by kernel_rfl) (by kernel_rfl)]
  subst hr
  by_cases h1 : x = z
  · by_cases h2 : y = u
    · simp [go_sem, Program.fieldsOf, Try.underlying62, Try.underlying3, Try.underlying4, h1, h2]
    · simp [go_sem, Program.fieldsOf, Try.underlying62, Try.underlying3, Try.underlying4, h1, h2]
  · simp [go_sem, Program.fieldsOf, Try.underlying62, Try.underlying3, Try.underlying4, h1]
theorem eql_ts (x y z u : Int) (r : Bool) (hr : (x == z && y == u) = r) (w : World) : (binOp .eql 62 (.agg #[.int .i64 x, .int .i64 y, .bool false]) (.agg #[.int .i64 z, .int .i64 u, .bool false])).run Try.prog w = .ok (.bool r) w := by
  rw [run_eql_struct, same_ts x y z u r hr]
  rfl
theorem neql_ts (x y z u : Int) (r : Bool) (hr : (x == z && y == u) = r) (w : World) : (binOp .neq 62 (.agg #[.int .i64 x, .int .i64 y, .bool false]) (.agg #[.int .i64 z, .int .i64 u, .bool false])).run Try.prog w = .ok (.bool (!r)) w := by
  rw [run_neq_struct, same_ts x y z u r hr]
  rfl
theorem geql_ts (x y : Operand) (xs ys : Array Value) (w : World) : (eqGuard .eql 62 x y (.agg xs) (.agg ys)).run Try.prog w = .ok () w :=
  run_eqGuard_agg w _ _ _ _ _ _ (by kernel_rfl)
theorem gneq_ts (x y : Operand) (xs ys : Array Value) (w : World) : (eqGuard .neq 62 x y (.agg xs) (.agg ys)).run Try.prog w = .ok () w :=
  run_eqGuard_agg w _ _ _ _ _ _ (by kernel_rfl)
theorem same_boolV {p q : IQ} {r : Bool} (hr : (p.1 == q.1 && p.2 == q.2) = r) : r = decide (p = q) := by
  subst hr
  by_cases h : p = q
  · subst h; simp
  · have h2 : ¬ (p.1 = q.1 ∧ p.2 = q.2) := fun e => h (Prod.ext e.1 e.2)
    rw [decide_eq_false h]
    cases h3 : (p.1 == q.1 && p.2 == q.2) with
    | false => rfl
    | true => simp at h3; exact absurd h3 h2
theorem flatV_set : ∀ (C : List IQ) (i : Nat) (x y : Int), flatV (C.set i (x, y)) = (((flatV C).set (i * 3) (.int .i64 x)).set (i * 3 + 1) (.int .i64 y)).set (i * 3 + 2) (.bool false)
  | [], _, _, _ => by simp [flatV_nil]
  | z :: C, 0, x, y => by rw [List.set_cons_zero, flatV_cons, flatV_cons]; simp
  | z :: C, i + 1, x, y => by
    have ih := flatV_set C i x y
    rw [List.set_cons_succ, flatV_cons, flatV_cons, ih, show (i + 1) * 3 = i * 3 + 1 + 1 + 1 by omega]
    rfl
theorem flatV_take : ∀ (C : List IQ) (k : Nat), flatV (C.take k) = (flatV C).take (k * 3)
  | [], k => by simp [flatV_nil]
  | z :: C, 0 => by simp [flatV_nil]
  | z :: C, k + 1 => by
    have ih := flatV_take C k
    rw [List.take_succ_cons, flatV_cons, flatV_cons, ih, show (k + 1) * 3 = k * 3 + 1 + 1 + 1 by omega]
    rfl
theorem grownV {a b d : World} {r : Option Nat} (h1 : a.grownBy b r) (h2 : b.grownBy d r) : a.grownBy d r :=
  ⟨h2.os.trans h1.os, h2.tape.trans h1.tape, h2.output.trans h1.output, Nat.le_trans h1.size h2.size, fun k hk hne => (h2.block k (Nat.lt_of_lt_of_le hk h1.size) hne).trans (h1.block k hk hne)⟩
theorem grown_belowV {w w' : World} (h : Below w.heap.size w w') (r : Option Nat) : w.grownBy w' r := ⟨h.os, h.tape, h.output, h.size, fun k hk _ => h.block k hk⟩
theorem row_threeV {w : World} {base g n cap : Nat} {C : List IQ} (h : w.ownsRow base 62 3 (.slice (some ⟨g, 0, none⟩) n cap) n (flatV C)) (i : Nat) (x y : Int) :
    (((w.setCell ⟨g, i * 3, none⟩ (.int .i64 x)).setCell ⟨g, i * 3 + 1, none⟩ (.int .i64 y)).setCell ⟨g, i * 3 + 2, none⟩ (.bool false)).ownsRow base 62 3 (.slice (some ⟨g, 0, none⟩) n cap) n (flatV (C.set i (x, y))) ∧ w.grownBy (((w.setCell ⟨g, i * 3, none⟩ (.int .i64 x)).setCell ⟨g, i * 3 + 1, none⟩ (.int .i64 y)).setCell ⟨g, i * 3 + 2, none⟩ (.bool false)) (some g) := by
  have h1 := h.stored (i * 3) (.int .i64 x)
  have h2 := h1.1.stored (i * 3 + 1) (.int .i64 y)
  have h3 := h2.1.stored (i * 3 + 2) (.bool false)
  exact ⟨by rw [flatV_set]; exact h3.1, grownV (grownV h1.2 h2.2) h3.2⟩
theorem row_stillV {w w' : World} {base n size : Nat} {e : TypeId} {v : Value} {xs : List Value} (h : w.ownsRow base e size v n xs) (hb : Below w.heap.size w w') : w'.ownsRow base e size v n xs :=
  World.ownsRow.kept h (row := none) ⟨hb.os, hb.tape, hb.output, hb.size, fun i hi _ => hb.block i hi⟩ (by cases hv : v.ownBlock <;> simp)
/-- the row cut at k -/
theorem row_cutV {w : World} {base g n cap k : Nat} {C : List IQ} (h : w.ownsRow base 62 3 (.slice (some ⟨g, 0, none⟩) n cap) n (flatV C)) (hk : k ≤ n) :
    w.ownsRow base 62 3 (.slice (some ⟨g, 0, none⟩) k cap) k (flatV (C.take k)) := by
  have hl := h.1
  refine ⟨by rw [flatV_take, List.length_take]; omega, .inr ?_⟩
  rcases h.2 with ⟨hv, _⟩ | ⟨g', cap', cur, hv, hb, hg, h1, h2, h3, h4⟩
  · cases hv
  · simp only [Value.slice.injEq, Option.some.injEq, Addr.mk.injEq] at hv
    obtain ⟨⟨rfl, _⟩, _, rfl⟩ := hv
    refine ⟨g, cap, cur, rfl, hb, hg, by omega, h2, h3, ?_⟩
    rw [flatV_take, ← h4, List.take_take, Nat.min_eq_left (by omega)]
/-- a cell past the row's end -/
theorem row_pastV {w : World} {base g n cap k : Nat} {e : TypeId} {xs : List Value} (h : w.ownsRow base e k (.slice (some ⟨g, 0, none⟩) n cap) n xs) (o : Nat) (v : Value) (ho : n * k ≤ o) :
    (w.setCell ⟨g, o, none⟩ v).ownsRow base e k (.slice (some ⟨g, 0, none⟩) n cap) n xs ∧ w.grownBy (w.setCell ⟨g, o, none⟩ v) (some g) := by
  have h1 := h.stored o v
  rw [List.set_eq_of_length_le (by rw [h.1]; exact ho)] at h1
  exact h1
theorem row_clearV {base g n cap k : Nat} {e : TypeId} {xs : List Value} : ∀ (vs : List Value) (o : Nat) (w : World), w.ownsRow base e k (.slice (some ⟨g, 0, none⟩) n cap) n xs → n * k ≤ o →
    (w.setCells g o vs).ownsRow base e k (.slice (some ⟨g, 0, none⟩) n cap) n xs ∧ w.grownBy (w.setCells g o vs) (some g)
  | [], _, w, h, _ => ⟨h, World.grownBy.refl _ _⟩
  | v :: vs, o, w, h, ho => by
    have h1 := row_pastV h o v ho
    have h2 := row_clearV vs (o + 1) _ h1.1 (by omega)
    exact ⟨h2.1, grownV h1.2 h2.2⟩
/-- 'clear' of what lies behind the row's first k pairs -/
theorem run_clearV (w : World) (base g n cap k c : Nat) (C : List IQ) (h : w.ownsRow base 62 3 (.slice (some ⟨g, 0, none⟩) n cap) n (flatV C)) (hk : k < n) :
    ∃ w', (∀ ty, (Builtin.clear_ #[26] ty #[.slice (some ⟨g, k * 3, none⟩) (n - k) c]).run Try.prog w = .ok (.tuple #[]) w') ∧ w'.ownsRow base 62 3 (.slice (some ⟨g, 0, none⟩) k cap) k (flatV (C.take k)) ∧ w.grownBy w' (some g) := by
  have hv : ∀ w, (zeroValue 62).run Try.prog w = .ok (.agg #[.int .i64 0, .int .i64 0, .bool false]) w := fun w => by kernel_rfl
  have hl := h.1
  obtain ⟨m, hm⟩ : ∃ m, n - k = m + 1 := ⟨n - k - 1, by omega⟩
  obtain ⟨Z, hZ⟩ : ∃ Z, (Builtin.zeroCells (Value.agg #[.int .i64 0, .int .i64 0, .bool false]).cells (m + 1)).toList = Z := ⟨_, rfl⟩
  have hZl : Z.length = (m + 1) * 3 := by rw [← hZ]; simp [Builtin.zeroCells, Value.cells]
  have hZ1 : ∀ v ∈ Z, v.oneCell' = true := by
    intro v hv'
    rw [← hZ] at hv'
    simp [Builtin.zeroCells, Value.cells] at hv'
    obtain ⟨i, hi, rfl⟩ := hv'
    have h3 : i % 3 = 0 ∨ i % 3 = 1 ∨ i % 3 = 2 := by omega
    rcases h3 with h0 | h0 | h0
    · simp [h0, Value.oneCell']
    · simp [h0, Value.oneCell']
    · simp [h0, Value.oneCell']
  have hst := run_storeCells_cells (P := Try.prog) g (k * 3) Z 0 w (by
      intro j hj
      rw [hZl] at hj
      have hc := h.cellAt (k * 3 + 0 + j) (by omega)
      rw [hc, List.getElem?_eq_getElem (by omega)]
      rfl) (fun j hj => h.frozenAt _) hZ1
  simp only [Nat.add_zero] at hst
  have hr := row_clearV Z (k * 3) w (row_cutV h (by omega)) (Nat.le_refl _)
  refine ⟨_, fun ty => ?_, hr.1, hr.2⟩
  rw [hm]
  simp [Builtin.clear_, run_underlying Try.underlying26, hv, hZ, hst]

/-! ### equal neighbours once -/
theorem cmpP_snocV : ∀ (l : List IQ) (y x : IQ), cmpP (l ++ [y, x]) = if x = y then cmpP (l ++ [y]) else cmpP (l ++ [y]) ++ [x]
  | [], y, x => by
    show (if x = y then cmpP [x] else y :: cmpP [x]) = _
    split
    · rename_i e; subst e; rfl
    · rfl
  | [z], y, x => by
    have ih := cmpP_snocV [] y x
    rw [List.nil_append, List.nil_append] at ih
    show (if y = z then cmpP [y, x] else z :: cmpP [y, x]) = if x = y then (if y = z then cmpP [y] else z :: cmpP [y]) else (if y = z then cmpP [y] else z :: cmpP [y]) ++ [x]
    rw [ih]
    split <;> split <;> rfl
  | z :: u :: l, y, x => by
    have ih := cmpP_snocV (u :: l) y x
    show (if u = z then cmpP (u :: l ++ [y, x]) else z :: cmpP (u :: l ++ [y, x])) = if x = y then (if u = z then cmpP (u :: l ++ [y]) else z :: cmpP (u :: l ++ [y])) else (if u = z then cmpP (u :: l ++ [y]) else z :: cmpP (u :: l ++ [y])) ++ [x]
    rw [ih]
    split <;> split <;> rfl
theorem take_twoV {q : List IQ} {k : Nat} {y x : IQ} (hy : q[k]? = some y) (hx : q[k + 1]? = some x) : q.take (k + 2) = q.take k ++ [y, x] := by
  obtain ⟨h1, e1⟩ := List.getElem?_eq_some_iff.1 hy
  obtain ⟨h2, e2⟩ := List.getElem?_eq_some_iff.1 hx
  rw [List.take_succ_eq_append_getElem h2, List.take_succ_eq_append_getElem h1, e1, e2, List.append_assoc]
  rfl
theorem take_onepV {q : List IQ} {k : Nat} {y : IQ} (hy : q[k]? = some y) : q.take (k + 1) = q.take k ++ [y] := by
  obtain ⟨h1, e1⟩ := List.getElem?_eq_some_iff.1 hy
  rw [List.take_succ_eq_append_getElem h1, e1]
theorem cmpP_stepV {q : List IQ} {k : Nat} {y x : IQ} (hy : q[k]? = some y) (hx : q[k + 1]? = some x) : cmpP (q.take (k + 2)) = if x = y then cmpP (q.take (k + 1)) else cmpP (q.take (k + 1)) ++ [x] := by
  rw [take_twoV hy hx, take_onepV hy, cmpP_snocV]
theorem cmpP_smallV {q : List IQ} (h : q.length < 2) : cmpP q = q := by
  match q, h with
  | [], _ => rfl
  | [x], _ => rfl

end Go.Proofs.Ytookcggmapldeaa
