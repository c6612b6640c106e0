/-
  slices.Delete of one element at a slice of indexed sets of the call's own. By an AI agent.
-/
import Derived.Test.YthjbekgognfiiaaSlIn
import Derived.Lib.SliceRun
namespace Go.Proofs.Ythjbekgognfiiaa
open Go.RowKit
set_option linter.unusedVariables false

theorem step_app_in {P : Program} {ops : Array Oper} {o : Oper} {a : Act} {w : World} {K : Act → World → Prop} {Q : Exit → Act → World → Prop} {E : Prop} (hg : o.guard = none) (s x : Operand) (t : TypeId)
    (hop : o.op = Op.call { callee := Callee.builtin Builtin.append, args := #[s, x], argTypes := #[t, t] }) (vs vx : Value) (hs : a.eval s = vs) (hx : a.eval x = vx) {v' : Value} {w' : World}
    (hr : (Builtin.append_ #[t, t] o.type #[vs, vx]).run P w = .ok v' w') (h : K (a.put o.dst v') w') : if Region.wanted o (yielded ops a.tmps) = true then Oper.wp P o a w K Q else E := by
  have hw : Region.wanted o (yielded ops a.tmps) = true := by simp [Region.wanted, hg]
  rw [if_pos hw]
  unfold Oper.wp
  simp [execOp, hop, resolve, invoke, builtin, hs, hx, hr, Result.andThen]
  exact h

/-- clear of one element of two cells -/
theorem run_clear_one {P : Program} (w : World) (t e ty : TypeId) (z0 z1 : Value) (ht : P.underlying t = some (.slice e)) (hv : ∀ w, (zeroValue e).run P w = .ok (.agg #[z0, z1]) w) (h0 : z0.oneCell' = true) (h1 : z1.oneCell' = true) (g o c : Nat) (cur : Array Value) (u : TypeId)
    (hg : w.heap[g]? = some (.cells cur u (0, 0))) (hfit : o + 2 ≤ cur.size) :
    (Builtin.clear_ #[t] ty #[.slice (some ⟨g, o, none⟩) 1 c]).run P w = .ok (.tuple #[]) (w.setRow g (cur.toList.take o ++ [z0, z1] ++ cur.toList.drop (o + 2)).toArray) := by
  have hst := run_storeCells_at P g o u [z0, z1] 0 cur w hg (by simpa using hfit) (by simp [h0, h1])
  simp only [Nat.add_zero] at hst
  have hzc : (Builtin.zeroCells (Value.agg #[z0, z1]).cells 1).toList = [z0, z1] := by
    simp [Builtin.zeroCells, Value.cells]
    rfl
  simp [Builtin.clear_, run_underlying ht, hv, hzc, hst]

theorem del_row {L xs : List Value} {n k c : Nat} {z0 z1 : Value} (hL : L.length = c * 2) (hx : L.take (n * 2) = xs) (hk : k < n) (hc : n ≤ c) :
    ∃ M N : List Value, M = L.take (k * 2) ++ xs.drop ((k + 1) * 2) ++ L.drop (k * 2 + (xs.drop ((k + 1) * 2)).length) ∧ M.length = c * 2 ∧ N = M.take ((n - 1) * 2) ++ [z0, z1] ++ M.drop ((n - 1) * 2 + 2) ∧ N.length = c * 2 ∧
      N.take ((n - 1) * 2) = xs.take (k * 2) ++ xs.drop ((k + 1) * 2) := by
  have hxl : xs.length = n * 2 := by rw [← hx, List.length_take]; omega
  have h0 : (L.take (k * 2)).length = k * 2 := by rw [List.length_take]; omega
  have hd : (xs.drop ((k + 1) * 2)).length = (n - 1) * 2 - k * 2 := by rw [List.length_drop]; omega
  refine ⟨_, _, rfl, by simp; omega, rfl, by simp; omega, ?_⟩
  rw [List.append_assoc, List.take_append_of_le_length (by simp; omega), List.take_take, Nat.min_self, List.take_append_of_le_length (by rw [List.length_append, h0, hd]; omega), List.take_of_length_le (by rw [List.length_append, h0, hd]; omega)]
  rw [← hx, List.take_take]
  congr 2
  omega

set_option maxRecDepth 100000 in
set_option maxHeartbeats 4000000 in
theorem del_any (base : Nat) (a : Option Addr) (n c k : Nat) (xs : List Value) (w : World)
    (hown : w.ownsRow base 50 2 (.slice a n c) n xs) (hk : k < n) (hn : n ≤ 4000000) (hx1 : ∀ u ∈ xs, u.oneCell' = true) :
    Calls Try.prog 40 #[.slice a n c, .int .i64 k, .int .i64 ((k : Int) + 1)] w fun e w' =>
      e = .returned (.slice a (n - 1) c) ∧ w'.ownsRow base 50 2 (.slice a (n - 1) c) (n - 1) (xs.take (k * 2) ++ xs.drop ((k + 1) * 2)) ∧ w.grownBy w' (Value.slice a n c).ownBlock := by
  obtain ⟨i0, hi0, hz0, hz1, hz2⟩ := info_parts info_ixs
  have hxl := hown.1
  rcases hown.2 with ⟨hv0, hn0⟩ | ⟨g, cap, cur, hv0, hbg, hg, hnc, hcm, hcs, htk⟩
  · omega
  injection hv0 with e1 e2 e3
  subst e1 e3
  unfold maxLen at hcm
  have hgl : g < w.heap.size := (Array.getElem?_eq_some_iff.1 hg).1
  have HG0 := Lib.hid hg
  obtain ⟨M, N, hM, hMl, hN, hNl, hNt⟩ := del_row (z0 := .int .i64 0) (z1 := .slice none 0 0) (L := cur.toList) (by simpa using hcs) htk hk hnc
  obtain ⟨m, hm⟩ : ∃ m, n - (k + 1) = m := ⟨_, rfl⟩
  have hdl : (xs.drop ((k + 1) * 2)).length = m * 2 := by rw [List.length_drop, hxl]; omega
  obtain ⟨A, hA, hsrc⟩ : ∃ A : Addr, (if c = k + 1 then (⟨g, 0, none⟩ : Addr) else ⟨g, (k + 1) * 2, none⟩) = A ∧ ∀ j u, (xs.drop ((k + 1) * 2))[j]? = some u → w.drew.cell? (A.add j) = some u := by
    by_cases h : c = k + 1
    · refine ⟨⟨g, 0, none⟩, by simp [h], fun j u hu => ?_⟩
      have := (List.getElem?_eq_some_iff.1 hu).1
      omega
    · refine ⟨⟨g, (k + 1) * 2, none⟩, by simp [h], fun j u hu => ?_⟩
      have e : (⟨g, (k + 1) * 2, none⟩ : Addr).add j = ⟨g, (k + 1) * 2 + j, none⟩ := by unfold Addr.add; split <;> simp_all
      rw [e, BlkV.cell (show BlkV w.drew g 50 cur from hg), ← Array.getElem?_toList]
      rw [List.getElem?_drop, ← htk] at hu
      have h2 := (List.getElem?_eq_some_iff.1 hu).1
      rw [List.length_take] at h2
      rwa [List.getElem?_take_of_lt (by omega)] at hu
  have hap : ∀ ty cc, (Builtin.append_ #[30, 30] ty #[.slice (some ⟨g, 0, none⟩) k c, .slice (some A) m cc]).run Try.prog w.drew = .ok (.slice (some ⟨g, 0, none⟩) (k + m) c) (w.drew.setRow g M.toArray) := fun ty cc => by
    have h := run_append_room (P := Try.prog) w.drew 30 ty 50 i0 Try.underlying30 hi0 g k c cur hg A m cc (xs.drop ((k + 1) * 2)) (by rw [hdl, hz1]) hsrc (fun u hu => hx1 u (List.mem_of_mem_drop hu)) (by omega) (by rw [hdl, hz1, hcs]; omega)
    rw [h, hM, hz1]
  have hW1 : BlkV (w.drew.setRow g M.toArray) g 50 M.toArray := setRow_heap w.drew g cur M.toArray 50 (0, 0) hg
  have hcl : ∀ ty cc, (Builtin.clear_ #[30] ty #[.slice (some ⟨g, (k + m) * 2, none⟩) (n - (k + m)) cc]).run Try.prog (w.drew.setRow g M.toArray) = .ok (.tuple #[]) ((w.drew.setRow g M.toArray).setRow g N.toArray) := fun ty cc => by
    have h := run_clear_one (P := Try.prog) (w.drew.setRow g M.toArray) 30 50 ty (.int .i64 0) (.slice none 0 0) Try.underlying30 Try.zeroValue50 rfl rfl g ((k + m) * 2) cc M.toArray 50 hW1 (by simp [hMl]; omega)
    rw [show n - (k + m) = 1 by omega, h, hN, show k + m = n - 1 by omega]
  have HFIN := Lib.hid (show ((w.drew.setRow g M.toArray).setRow g N.toArray).ownsRow base 50 2 (.slice (some ⟨g, 0, none⟩) (n - 1) c) (n - 1) (xs.take (k * 2) ++ xs.drop ((k + 1) * 2)) ∧ w.grownBy ((w.drew.setRow g M.toArray).setRow g N.toArray) (some g) by
    refine ⟨⟨?_, .inr ⟨g, c, _, rfl, hbg, hW1.row _, by omega, by unfold maxLen; omega, by simpa using hNl, ?_⟩⟩, ⟨rfl, rfl, rfl, ?_, fun j hj hne => ?_⟩⟩
    · rw [← hNt, List.length_take, hNl]; omega
    · simpa using hNt
    · rw [setRow_size, setRow_size]; exact Nat.le_refl _
    · have hkg : j ≠ g := fun e => hne (by rw [e])
      rw [setRow_other _ _ _ _ hkg, setRow_other _ _ _ _ hkg]; rfl)
  have hkm : k + m = n - 1 := by omega
  have HKM := Lib.hid hkm
  have hcA : (if c = k + 1 then (some ⟨g, 0, none⟩ : Option Addr) else some ⟨g, (k + 1) * 2, none⟩) = some A := by rw [← hA]; split <;> rfl
  have hw1 : IntKind.i64.wrap ((k : Int) + 1) = (k : Int) + 1 := by rw [IntKind.wrap_i64]; omega
  have hb1 : (0 : Int) ≤ (k : Int) + 1 := by omega
  have htn : ((k : Int) + 1).toNat = k + 1 := by omega
  have hb2 : (k : Int) + 1 ≤ (n : Int) := by omega
  have hb3 : (n : Int) ≤ (c : Int) := by omega
  have hb4 : ¬ ((k : Int) = (k : Int) + 1) := by omega
  have hb5 : (k : Int) ≤ (k : Int) + 1 := by omega
  have hb6 : k ≤ c := by omega
  have hb7 : ¬ (c = k + m) := by omega
  have hb8 : k + m ≤ n := by omega
  clear hM hMl hN hNl hNt hdl hsrc hW1 hown hxl htk hcs hg hA hkm hx1
  go_enter Try.func40, Try.ntmps40
  go_wp2
  go_region_law (refine step_app_in rfl _ _ 30 rfl (.slice (some ⟨g, 0, none⟩) k c) (.slice (some A) m (c - (k + 1))) (by simp [Act.eval, Act.put]) (by simp [Act.eval, Act.put]) (hap _ _) ?_)
  go_wp2
  go_ret
  rw [← HKM.out] at HFIN ⊢
  exact ⟨rfl, HFIN.out⟩

end Go.Proofs.Ythjbekgognfiiaa
