/-
  Bounds of what is found; laws.has; two pairs held against each other. By an AI agent.
-/
import Derived.Test.YthjbekgognfiiaaGreatPlainJn
import Derived.Test.YthjbekgognfiiaaGreatIxD4
import Derived.Test.YthjbekgognfiiaaGreatCdI
import Derived.Test.YthjbekgognfiiaaGreatPrS
import Derived.Test.YthjbekgognfiiaaGreatSameI
import Derived.Laws.StructEq
namespace Go.Proofs.YthjbekgognfiiaaGreat
open Go.RowKit
set_option linter.unusedVariables false

theorem cntq_small {m : Nat} {T : List TC} {S : List IS} (h : BIx m T S) (hm : m ≤ 1000) : cntQ S S.length ≤ 4000000 := by
  unfold cntQ
  rw [List.take_length]
  have h1 := flat_small S fun x hx => (h.2.2.2 x hx).1
  have h2 := h.2.2.1
  omega
theorem cand_len2 (t : Int) (T : List TC) (S : List IS) (l : List Str) : (candR t T S l).length ≤ S.length := by
  unfold candR
  split
  · rw [List.length_map]; exact List.length_filter_le ..
  · exact Nat.zero_le _
theorem sear_len2 (t : Int) (T : List TC) (S : List IS) (l : List Str) : (searR t T S l).length ≤ S.length := by
  unfold searR
  split
  · rw [List.length_map]; exact List.length_filter_le ..
  · exact Nat.zero_le _

set_option maxRecDepth 100000 in
theorem lhas_yes (a : Option Addr) (c : Nat) (l : List Int) (z : Int) (w : World) (hl : l.length ≤ 4000000) (hin : InI w a l) (hz : z ∈ l) :
    Calls Tryz.prog 12 #[.slice a l.length c, .int .i64 z] w fun e w' => e = .returned (.bool true) ∧ Below w.heap.size w w' := by
  have HIN := Lib.hid hin
  have HZ := Lib.hid hz
  clear hin hz
  go_enter Tryz.func12, Tryz.ntmps12
  go_wp2
  go_loopw [5] (fun i wr => ∃ k : Nat, k ≤ l.length ∧ i = .int .i64 k ∧ (∀ j y, j < k → l[j]? = some y → y ≠ z) ∧ Below w.heap.size w wr) (fun i _ => l.length - (intOf i).toNat)
  case atStart => exact ⟨0, Nat.zero_le _, rfl, fun j y hj => absurd hj (Nat.not_lt_zero _), Below.refl _ _⟩
  case round =>
    obtain ⟨k, hk, rfl, hno, hb⟩ := hrel
    have HNO := Lib.hid hno
    have HB := Lib.hid hb
    clear hno hb
    by_cases hlt : k < l.length
    · obtain ⟨b, off, rfl, hbl, hc⟩ := HIN.out (by omega)
      have hx := List.getElem?_eq_getElem hlt
      have c0 : wr.cell? ⟨b, off + k, none⟩ = some (.int .i64 l[k]) := by rw [HB.out.cell (p := ⟨b, off + k, none⟩) hbl]; exact hc k _ hx
      have HX1 := Lib.hid hx
      generalize l[k] = x at c0 HX1
      clear hx hc hbl
      by_cases he : x = z
      · subst he
        go_wp2
        go_ret
        exact ⟨rfl, HB.out⟩
      · have HE := Lib.hid he
        go_wp2
        go_roundw
        case rel =>
          refine ⟨k + 1, by omega, by go_num, fun j y hj hy => ?_, HB.out⟩
          by_cases e : j = k
          · subst e
            rw [HX1.out] at hy
            rw [← Option.some.inj hy]
            exact HE.out
          · exact HNO.out j y (by omega) hy
        case measure => simp [intOf]; omega
    · obtain ⟨j, hj⟩ := List.getElem?_of_mem HZ.out
      exact absurd rfl (HNO.out j z (by have := (List.getElem?_eq_some_iff.1 hj).1; omega) hj)

theorem neq_ip (x y : Int) (w : World) : (binOp .neq 38 (.agg #[.int .i64 x, .int .i64 y]) (.agg #[.int .i64 x, .int .i64 y])).run Tryz.prog w = .ok (.bool false) w := by
  have h : (Op.equalIn 10000 38 (.agg #[.int .i64 x, .int .i64 y]) (.agg #[.int .i64 x, .int .i64 y])).run Tryz.prog w = .ok true w := by
    rw [run_equalIn_agg w 9999 _ _ _ (by kernel_rfl) (by kernel_rfl)]
    simp [go_sem, Program.fieldsOf, Tryz.underlying38, Tryz.underlying3]
  rw [run_neq_struct, h]
  rfl
theorem guard_ip (x y : Operand) (xs ys : Array Value) (w : World) : (eqGuard .neq 38 x y (.agg xs) (.agg ys)).run Tryz.prog w = .ok () w :=
  run_eqGuard_agg w _ _ _ _ _ _ (by kernel_rfl)

end Go.Proofs.YthjbekgognfiiaaGreat
