/-
  Two nodes held against each other; what both EqualDiagrams answer. By an AI agent.
-/
import Derived.Test.YtookcggmapldeaaDoorDnS
import Derived.Laws.StructEq
import Derived.BigQuiet
import Derived.Deep.QuietTactic
import Derived.Deep.RegionHeld3
namespace Go.Proofs.YtookcggmapldeaaDoor
open Go.RowKit
set_option linter.unusedVariables false
set_option linter.unusedSimpArgs false
set_option linter.unnecessarySimpa false

theorem same_dn (x y : DN) (r : Bool) (hr : decide (x = y) = r) (w : World) : (Op.equalIn 10000 37 (.agg #[.int .i64 x.1.1, .int .i64 x.1.2, .int .i64 x.2.1, .int .i64 x.2.2]) (.agg #[.int .i64 y.1.1, .int .i64 y.1.2, .int .i64 y.2.1, .int .i64 y.2.2])).run Tryd.prog w = .ok r w := by
  obtain ⟨⟨a, b⟩, c, d⟩ := x
  obtain ⟨⟨a', b'⟩, c', d'⟩ := y
  rw [run_equalIn_agg w 9999 _ _ _ (by kernel_rfl) (by kernel_rfl)]
  subst hr
  simp only [Prod.mk.injEq]
  by_cases h1 : a = a'
  · by_cases h2 : b = b'
    · by_cases h3 : c = c'
      · by_cases h4 : d = d'
        · simp [go_sem, Program.fieldsOf, Tryd.underlying37, Tryd.underlying3, h1, h2, h3, h4]
        · simp [go_sem, Program.fieldsOf, Tryd.underlying37, Tryd.underlying3, h1, h2, h3, h4]
      · simp [go_sem, Program.fieldsOf, Tryd.underlying37, Tryd.underlying3, h1, h2, h3]
    · simp [go_sem, Program.fieldsOf, Tryd.underlying37, Tryd.underlying3, h1, h2]
  · simp [go_sem, Program.fieldsOf, Tryd.underlying37, Tryd.underlying3, h1]
theorem eql_dn (a b c d a' b' c' d' : Int) (r : Bool) (hr : decide ((((a, b), (c, d)) : DN) = ((a', b'), (c', d'))) = r) (w : World) : (binOp .eql 37 (.agg #[.int .i64 a, .int .i64 b, .int .i64 c, .int .i64 d]) (.agg #[.int .i64 a', .int .i64 b', .int .i64 c', .int .i64 d'])).run Tryd.prog w = .ok (.bool r) w := by
  rw [run_eql_struct, same_dn ((a, b), (c, d)) ((a', b'), (c', d')) r hr]
  rfl
theorem neql_dn (a b c d a' b' c' d' : Int) (r : Bool) (hr : decide ((((a, b), (c, d)) : DN) = ((a', b'), (c', d'))) = r) (w : World) : (binOp .neq 37 (.agg #[.int .i64 a, .int .i64 b, .int .i64 c, .int .i64 d]) (.agg #[.int .i64 a', .int .i64 b', .int .i64 c', .int .i64 d'])).run Tryd.prog w = .ok (.bool (!r)) w := by
  rw [run_neq_struct, same_dn ((a, b), (c, d)) ((a', b'), (c', d')) r hr]
  rfl
theorem geql_dn (x y : Operand) (xs ys : Array Value) (w : World) : (eqGuard .eql 37 x y (.agg xs) (.agg ys)).run Tryd.prog w = .ok () w :=
  run_eqGuard_agg w _ _ _ _ _ _ (by kernel_rfl)
theorem gneq_dn (x y : Operand) (xs ys : Array Value) (w : World) : (eqGuard .neq 37 x y (.agg xs) (.agg ys)).run Tryd.prog w = .ok () w :=
  run_eqGuard_agg w _ _ _ _ _ _ (by kernel_rfl)
theorem BlkV.four0' {w : World} {g : Nat} {t : TypeId} {a b c d : Value} (h : BlkV w g t #[a, b, c, d]) : w.cell? ⟨g, 0, none⟩ = some a := h.cell 0
theorem BlkV.four1' {w : World} {g : Nat} {t : TypeId} {a b c d : Value} (h : BlkV w g t #[a, b, c, d]) : w.cell? ⟨g, 1, none⟩ = some b := h.cell 1
theorem BlkV.four2' {w : World} {g : Nat} {t : TypeId} {a b c d : Value} (h : BlkV w g t #[a, b, c, d]) : w.cell? ⟨g, 2, none⟩ = some c := h.cell 2
theorem BlkV.four3' {w : World} {g : Nat} {t : TypeId} {a b c d : Value} (h : BlkV w g t #[a, b, c, d]) : w.cell? ⟨g, 3, none⟩ = some d := h.cell 3
theorem dn_eq_len {D1 D2 : List DN} (h : D1.length ≠ D2.length) : decide (D1 = D2) = false := decide_eq_false (fun e => h (by rw [e]))
theorem dn_eq_at {D1 D2 : List DN} {k : Nat} {x y : DN} (h1 : D1[k]? = some x) (h2 : D2[k]? = some y) (h : x ≠ y) : decide (D1 = D2) = false := decide_eq_false (fun e => h (by rw [e, h2] at h1; exact (Option.some.inj h1).symm))
theorem dn_eq_all {D1 D2 : List DN} {k : Nat} (h1 : D1.length = k) (h2 : D2.length = k) (h : D1.take k = D2.take k) : decide (D1 = D2) = true := by
  rw [List.take_of_length_le (by omega), List.take_of_length_le (by omega)] at h
  exact decide_eq_true h
theorem dquiet_f (b : Nat) (w : World) (n : Nat) : Below b w (w.drewN n) := ⟨rfl, rfl, rfl, Nat.le_refl _, fun _ _ => rfl⟩
def eqDB (z1 z2 : Int) (D1 D2 : List DN) : Bool := decide (z1 = z2) && decide (D1 = D2)

end Go.Proofs.YtookcggmapldeaaDoor
