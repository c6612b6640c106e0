/-
  Texts laid together: CopyK, SlIn, SlDe. By an AI agent.
-/
import Derived.Test.YthjbekgognfiiaaGreatRows
import Derived.WalkKit
import Derived.Laws.CopyRow
import Derived.Test.YthjbekgognfiiaaGreatIxN
import Derived.Lib.Overlaps
import Derived.Lib.AppendZerosOnto
import Derived.Deep.RegionLaw
import Derived.Deep.AppendLies
import Derived.Maps.AppendAt
import Derived.Lib.SliceRun
/-
  copy within and between rows of elements of several cells. By an AI agent.
-/
namespace Go.Proofs.YthjbekgognfiiaaGreat
open Go

theorem run_copy_rowK {P : Program} (w : World) (dT sT ty elem : TypeId) (s g o dLen dCap : Nat) (a : Addr) (sLen sCap : Nat) (cur : Array Value) (t : TypeId) (cs : List Value)
    (hu : P.underlying dT = some (.slice elem)) (hs : (P.info? elem).map (·.size) = some s)
    (hg : w.heap[g]? = some (.cells cur t (0, 0))) (hn : cs.length = Nat.min sLen dLen * s)
    (hsrc : ∀ j v, cs[j]? = some v → w.cell? (a.add j) = some v) (hfit : o + cs.length ≤ cur.size) (h1 : ∀ v ∈ cs, v.oneCell' = true) :
    (Builtin.copy_ #[dT, sT] ty #[.slice (some ⟨g, o, none⟩) dLen dCap, .slice (some a) sLen sCap]).run P w =
      .ok (goInt (Nat.min sLen dLen)) (w.setRow g (cur.toList.take o ++ cs ++ cur.toList.drop (o + cs.length)).toArray) := by
  have hl := run_loadCells_list (P := P) w a cs hsrc
  have hst := run_storeCells_at P g o t cs 0 cur w hg (by simpa using hfit) h1
  cases hq : P.info? elem with
  | none => simp [hq] at hs
  | some i =>
    have hi : i.size = s := by simpa [hq] using hs
    simp [Builtin.copy_, run_underlying hu, Builtin.lenOf, Builtin.firstCells, sizeOf, typeInfo, hq, hi, ← hn, hl, hst]

end Go.Proofs.YthjbekgognfiiaaGreat

/-
  slices.Insert at a slice of indexed sets of the call's own. By an AI agent.
-/

namespace Go.Proofs.YthjbekgognfiiaaGreat
open Go.RowKit
set_option linter.unusedVariables false

/-- copy, its run known as an equation -/
theorem wpList_copyK {P : Program} {ops : Array Oper} {rest : List Oper} {o : Oper} {a : Act} {w : World} {Q : Exit → Act → World → Prop} (hgd : o.guard = none) (d s : Operand) (t : TypeId)
    (ho : o.op = .call { callee := .builtin .copy, args := #[d, s], argTypes := #[t, t] }) (v u : Value) (hd : a.eval d = v) (hs : a.eval s = u) {v' : Value} {w' : World}
    (hr : (Builtin.copy_ #[t, t] o.type #[v, u]).run P w = .ok v' w') (h : wpList P ops Q rest (a.put o.dst v') w') : wpList P ops Q (o :: rest) a w := by
  refine wpList_plain hgd fun K hK => ?_
  unfold Oper.wp execOp
  simp only [ho, resolve, invoke, builtin, Sem.run_bind, Sem.run_pure, Result.andThen_ok, List.map_toArray, List.map_cons, List.map_nil, hd, hs, hr]
  exact hK _ _ h
theorem step_copyK {P : Program} {ops : Array Oper} {o : Oper} {a : Act} {w : World} {K : Act → World → Prop} {Q : Exit → Act → World → Prop} {E : Prop} (hg : o.guard = none) (d s : Operand) (t : TypeId)
    (ho : o.op = Op.call { callee := Callee.builtin Builtin.copy, args := #[d, s], argTypes := #[t, t] }) (v u : Value) (hd : a.eval d = v) (hs : a.eval s = u) {v' : Value} {w' : World}
    (hr : (Builtin.copy_ #[t, t] o.type #[v, u]).run P w = .ok v' w') (h : K (a.put o.dst v') w') : if Region.wanted o (yielded ops a.tmps) = true then Oper.wp P o a w K Q else E := by
  have hw : Region.wanted o (yielded ops a.tmps) = true := by simp [Region.wanted, hg]
  rw [if_pos hw]
  unfold Oper.wp
  simp [execOp, ho, resolve, invoke, builtin, hd, hs, hr, Result.andThen]
  exact h

/-! ### plain lists -/
theorem shift_row {L xs : List Value} {n i c : Nat} {u0 u1 : Value} (hL : L.length = c * 2) (hx : L.take (n * 2) = xs) (hi : i < n) (hc : n + 1 ≤ c) :
    ∃ M : List Value, M = L.take ((i + 1) * 2) ++ xs.drop (i * 2) ++ L.drop ((i + 1) * 2 + (xs.drop (i * 2)).length) ∧ M.length = c * 2 ∧ (M.take (i * 2) ++ [u0, u1] ++ M.drop (i * 2 + [u0, u1].length)).length = c * 2 ∧
      (M.take (i * 2) ++ [u0, u1] ++ M.drop (i * 2 + [u0, u1].length)).take ((n + 1) * 2) = xs.take (i * 2) ++ [u0, u1] ++ xs.drop (i * 2) := by
  have hxl : xs.length = n * 2 := by rw [← hx, List.length_take]; omega
  have h0 : (L.take ((i + 1) * 2)).length = (i + 1) * 2 := by rw [List.length_take]; omega
  refine ⟨_, rfl, by simp; omega, by simp; omega, ?_⟩
  have e1 : (L.take ((i + 1) * 2) ++ xs.drop (i * 2) ++ L.drop ((i + 1) * 2 + (xs.drop (i * 2)).length)).take (i * 2) = xs.take (i * 2) := by
    rw [List.append_assoc, List.take_append_of_le_length (by omega), List.take_take, ← hx, List.take_take]
    congr 1
    omega
  have e2 : (L.take ((i + 1) * 2) ++ xs.drop (i * 2) ++ L.drop ((i + 1) * 2 + (xs.drop (i * 2)).length)).drop (i * 2 + [u0, u1].length) = xs.drop (i * 2) ++ L.drop ((i + 1) * 2 + (xs.drop (i * 2)).length) := by
    rw [List.append_assoc]
    refine List.drop_left' ?_
    rw [h0]
    simp
    omega
  rw [e1, e2, ← List.append_assoc]
  refine List.take_left' ?_
  simp
  omega
theorem grow_row {xs Z : List Value} {n i : Nat} {u0 u1 : Value} (hxl : xs.length = n * 2) (hZ : (n + 1 - i) * 2 ≤ Z.length) (hi : i < n) :
    ∃ M N : List Value, M = xs.take (i * 2) ++ Z ∧ N = M.take (i * 2) ++ [u0, u1] ++ M.drop (i * 2 + [u0, u1].length) ∧ N.length = M.length ∧
      (N.take ((i + 1) * 2) ++ xs.drop (i * 2) ++ N.drop ((i + 1) * 2 + (xs.drop (i * 2)).length)).length = M.length ∧
      (N.take ((i + 1) * 2) ++ xs.drop (i * 2) ++ N.drop ((i + 1) * 2 + (xs.drop (i * 2)).length)).take ((n + 1) * 2) = xs.take (i * 2) ++ [u0, u1] ++ xs.drop (i * 2) := by
  have h0 : (xs.take (i * 2)).length = i * 2 := by rw [List.length_take]; omega
  refine ⟨_, _, rfl, rfl, by simp; omega, by simp; omega, ?_⟩
  have e1 : (xs.take (i * 2) ++ Z).take (i * 2) = xs.take (i * 2) := List.take_left' h0
  rw [e1]
  have e2 : (xs.take (i * 2) ++ [u0, u1] ++ (xs.take (i * 2) ++ Z).drop (i * 2 + [u0, u1].length)).take ((i + 1) * 2) = xs.take (i * 2) ++ [u0, u1] := List.take_left' (by simp; omega)
  rw [e2]
  refine List.take_left' ?_
  simp
  omega

theorem run_overlaps_ix (w : World) (g g' o' lb cb lc : Nat) (cur : Array Value) (u0 u1 : Value) (hne : g ≠ g') (h1 : BlkV w g 71 #[u0, u1]) (h2 : BlkV w g' 71 cur) (hc : cur.size ≠ 0) :
    (callFunc 86 #[.slice (some ⟨g, 0, none⟩) 1 lc, .slice (some ⟨g', o', none⟩) lb cb]).run Tryz.prog w = .ok (.value (.bool false)) w := by
  obtain ⟨i0, hi, hz0, hz1, hz2⟩ := info_parts info_ixs
  rw [run_callFunc_extern Tryz.func86 (by kernel_rfl) (by kernel_rfl) (by kernel_rfl) (e := Extern.SlicesOverlaps.overlaps #[25, 25] #[4]) (by kernel_rfl),
    Lib.run_overlaps_apart w 25 4 71 Tryz.underlying25 2 (fun w => by simp [sizeOf, typeInfo, hi, hz1]) ⟨g, 0, none⟩ ⟨g', o', none⟩ 1 lc lb cb hne 71 71 2 cur.size (by unfold World.shape?; rw [h1]; rfl) (by unfold World.shape?; rw [h2]) hc (h1.frozen 0) (h1.frozen 2)]
  rfl

set_option maxRecDepth 100000 in
set_option maxHeartbeats 4000000 in
theorem ins_any (base : Nat) (a : Option Addr) (n c i vb : Nat) (u0 u1 : Value) (xs : List Value) (w : World)
    (hown : w.ownsRow base 71 2 (.slice a n c) n xs) (hi : i ≤ n) (hn : n ≤ 4000000) (hv : BlkV w vb 71 #[u0, u1]) (hne : (Value.slice a n c).ownBlock ≠ some vb) (hbase : base ≤ w.heap.size)
    (h0 : u0.oneCell' = true) (h1 : u1.oneCell' = true) (hx1 : ∀ u ∈ xs, u.oneCell' = true) :
    Calls Tryz.prog 46 #[.slice a n c, .int .i64 i, .slice (some ⟨vb, 0, none⟩) 1 1] w fun e w' =>
      ∃ v', e = .returned v' ∧ w'.ownsRow base 71 2 v' (n + 1) (xs.take (i * 2) ++ [u0, u1] ++ xs.drop (i * 2)) ∧ w.grownBy w' (Value.slice a n c).ownBlock ∧ (v'.ownBlock = (Value.slice a n c).ownBlock ∨ v'.ownBlock = some w.heap.size) := by
  obtain ⟨i0, hi0, hz0, hz1, hz2⟩ := info_parts info_ixs
  have HOWN := Lib.hid hown
  have HV := Lib.hid hv
  have hone : ∀ u ∈ [u0, u1], u.oneCell' = true := by simp [h0, h1]
  have hxl := hown.1
  have hzc : IntKind.i64.wrap 1 = 1 := by rw [IntKind.wrap_i64]; omega
  by_cases hin : i = n
  · subst hin
    have HXL := Lib.hid hxl
    rcases hown.2 with ⟨hv0, hn0⟩ | ⟨g, cap, cur, hv0, hbg, hg, hnc, hcm, hcs, htk⟩
    · injection hv0 with e1 e2 e3
      subst e1 e2 e3
      clear hown hv hxl
      go_enter Tryz.func46, Tryz.ntmps46
      go_wp2_with (at_builtin; refine wpList_append_own_at _ rfl _ _ 25 rfl base 71 i0 _ 2 32 Tryz.underlying25 hi0 hz0 hz1 hz2 rfl (by decide) (.slice none 0 0) 0 xs rfl HOWN.out ⟨vb, 0, none⟩ 1 1 [u0, u1] rfl rfl (World.news_of_block (cs := #[u0, u1]) (t := 71) (fr := (0, 0)) HV.out) hone (by unfold maxLen; omega) (by omega) hbase ?_; intro v' w1 ho hg1 hnn hat; have HAT := Lib.hid hat; clear hnn hat; have HO := Lib.hid ho; have HG := Lib.hid hg1; clear ho hg1)
      go_ret
      obtain rfl : xs = [] := List.eq_nil_of_length_eq_zero (by rw [HXL.out])
      exact ⟨v', rfl, HO.out, HG.out, HAT.out⟩
    · injection hv0 with e1 e2 e3
      subst e1 e3
      clear hown hv hxl
      unfold maxLen at hcm
      go_enter Tryz.func46, Tryz.ntmps46
      go_wp2_with (at_builtin; refine wpList_append_own_at _ rfl _ _ 25 rfl base 71 i0 _ 2 32 Tryz.underlying25 hi0 hz0 hz1 hz2 rfl (by decide) (.slice (some ⟨g, 0, none⟩) i c) i xs rfl HOWN.out ⟨vb, 0, none⟩ 1 1 [u0, u1] rfl rfl (World.news_of_block (cs := #[u0, u1]) (t := 71) (fr := (0, 0)) HV.out) hone (by unfold maxLen; omega) (by omega) hbase ?_; intro v' w1 ho hg1 hnn hat; have HAT := Lib.hid hat; clear hnn hat; have HO := Lib.hid ho; have HG := Lib.hid hg1; clear ho hg1)
      all_goals
        go_ret
        refine ⟨v', rfl, ?_, HG.out, HAT.out⟩
        have h := HO.out
        rw [List.take_of_length_le (by rw [HXL.out]; omega), List.drop_eq_nil_of_le (by rw [HXL.out]; omega)]
        exact h
  · rcases hown.2 with ⟨hv0, hn0⟩ | ⟨g, cap, cur, hv0, hbg, hg, hnc, hcm, hcs, htk⟩
    · omega
    injection hv0 with e1 e2 e3
    subst e1 e3
    have hlt : i < n := by omega
    unfold maxLen at hcm
    have hgv : g ≠ vb := fun e => hne (by rw [e]; rfl)
    have HG0 := Lib.hid hg
    have HCS := Lib.hid hcs
    have HTK := Lib.hid htk
    have HXL := Lib.hid hxl
    have HBG := Lib.hid hbg
    have hgl : g < w.heap.size := (Array.getElem?_eq_some_iff.1 hg).1
    have hz2' : ¬ ((i : Int) = (n : Int)) := by omega
    have hw1 : IntKind.i64.wrap ((i : Int) + 1) = (i : Int) + 1 := by rw [IntKind.wrap_i64]; omega
    have hw2 : IntKind.i64.wrap ((n : Int) + 1) = (n : Int) + 1 := by rw [IntKind.wrap_i64]; omega
    have hb1 : (0 : Int) ≤ (i : Int) + 1 := by omega
    have htn : ((i : Int) + 1).toNat = i + 1 := by omega
    have hb3 : (i : Int) ≤ (n : Int) := by omega
    have hb4 : ¬ (c = i) := by omega
    clear hown hv hxl hcs htk hg
    have HI0 := Lib.hid (show (Tryz.prog.info? 71).map (·.size) = some 2 by rw [hi0]; simp [hz1])
    have hxd : (xs.drop (i * 2)).length = (n - i) * 2 := by rw [List.length_drop, HXL.out]; omega
    have HXD := Lib.hid hxd
    have HCG := Lib.hid (fun (W : World) (hW : BlkV W g 71 cur) (j : Nat) (v : Value) (hj : (xs.drop (i * 2))[j]? = some v) => (show W.cell? ((⟨g, i * 2, none⟩ : Addr).add j) = some v by
      have e : (⟨g, i * 2, none⟩ : Addr).add j = ⟨g, i * 2 + j, none⟩ := by unfold Addr.add; split <;> simp_all
      rw [e, hW.cell, ← Array.getElem?_toList]
      rw [List.getElem?_drop, ← HTK.out] at hj
      have h2 := (List.getElem?_eq_some_iff.1 hj).1
      rw [List.length_take] at h2
      rwa [List.getElem?_take_of_lt (by omega)] at hj))
    have HCV := Lib.hid (fun (W : World) (hW : BlkV W vb 71 #[u0, u1]) (j : Nat) (v : Value) (hj : [u0, u1][j]? = some v) => (show W.cell? ((⟨vb, 0, none⟩ : Addr).add j) = some v by
      have e : (⟨vb, 0, none⟩ : Addr).add j = ⟨vb, 0 + j, none⟩ := by unfold Addr.add; split <;> simp_all
      rw [e, Nat.zero_add, hW.cell]
      simpa using hj))
    have HX1 := Lib.hid (fun v (hv : v ∈ xs.drop (i * 2)) => hx1 v (List.mem_of_mem_drop hv))
    have hvw : vb < w.heap.size := HV.out.lt
    by_cases hroom : n + 1 ≤ c
    · obtain ⟨M, hM, hMl, hNl, hN⟩ := shift_row (u0 := u0) (u1 := u1) (L := cur.toList) (by simpa using HCS.out) HTK.out hlt hroom
      have hz3 : ¬ ((c : Int) < (n : Int) + 1) := by omega
      have hz4 : (n : Int) + 1 ≤ (c : Int) := by omega
      have hz5 : (0 : Int) ≤ (n : Int) + 1 := by omega
      have hz6 : ((n : Int) + 1).toNat = n + 1 := by omega
      have hb2 : ¬ (c = i + 1) := by omega
      have hb5 : (i : Int) ≤ (n : Int) + 1 := by omega
      have hc0 : cur.size ≠ 0 := by have := HCS.out; omega
      have hov := fun (W : World) (hW : Below w.heap.size w W) (lb cb o' lc : Nat) => run_overlaps_ix W vb g o' lb cb lc cur u0 u1 (Ne.symm hgv) (HV.out.below hW) (show BlkV W g _ cur from (hW.block g hgl).trans HG0.out) hc0
      have hcp1 : ∀ ty dc sc, (Builtin.copy_ #[25, 25] ty #[.slice (some ⟨g, (i + 1) * 2, none⟩) (n - i) dc, .slice (some ⟨g, i * 2, none⟩) (n + 1 - i) sc]).run Tryz.prog w.drew = .ok (goInt (Nat.min (n + 1 - i) (n - i))) (w.drew.setRow g M.toArray) := fun ty dc sc => by
        rw [hM]
        exact run_copy_rowK w.drew 25 25 ty 71 2 g ((i + 1) * 2) (n - i) dc ⟨g, i * 2, none⟩ (n + 1 - i) sc cur 71 (xs.drop (i * 2)) Tryz.underlying25 HI0.out HG0.out (by rw [HXD.out]; simp only [Nat.min_def]; split <;> omega) (HCG.out w.drew HG0.out) (by rw [HXD.out, HCS.out]; omega) HX1.out
      have hW1 : BlkV (w.drew.setRow g M.toArray) g 71 M.toArray := setRow_heap w.drew g cur M.toArray 71 (0, 0) HG0.out
      have hW1v : BlkV (w.drew.setRow g M.toArray) vb 71 #[u0, u1] := (setRow_other w.drew g vb M.toArray (Ne.symm hgv)).trans HV.out
      have hcp2 : ∀ (W : World), W.heap = (w.drew.setRow g M.toArray).heap → ∀ ty dc, (Builtin.copy_ #[25, 25] ty #[.slice (some ⟨g, i * 2, none⟩) (n + 1 - i) dc, .slice (some ⟨vb, 0, none⟩) 1 1]).run Tryz.prog W = .ok (goInt (Nat.min 1 (n + 1 - i))) (W.setRow g (M.take (i * 2) ++ [u0, u1] ++ M.drop (i * 2 + [u0, u1].length)).toArray) := fun W hW ty dc => by
        have hWg : BlkV W g 71 M.toArray := by unfold BlkV; rw [hW]; exact hW1
        have hWv : BlkV W vb 71 #[u0, u1] := by unfold BlkV; rw [hW]; exact hW1v
        exact run_copy_rowK W 25 25 ty 71 2 g (i * 2) (n + 1 - i) dc ⟨vb, 0, none⟩ 1 1 M.toArray 71 [u0, u1] Tryz.underlying25 HI0.out hWg (by simp only [Nat.min_def, List.length_cons, List.length_nil]; split <;> omega) (HCV.out W hWv) (by simp [hMl]; omega) hone
      have HFIN := Lib.hid (fun (W : World) (hW : W.heap = (w.drew.setRow g M.toArray).heap) (ho : W.os = w.os) (ht : W.tape = w.tape) (hp : W.output = w.output) => (show (W.setRow g (M.take (i * 2) ++ [u0, u1] ++ M.drop (i * 2 + [u0, u1].length)).toArray).ownsRow base 71 2 (.slice (some ⟨g, 0, none⟩) (n + 1) c) (n + 1) (xs.take (i * 2) ++ [u0, u1] ++ xs.drop (i * 2)) ∧ w.grownBy (W.setRow g (M.take (i * 2) ++ [u0, u1] ++ M.drop (i * 2 + [u0, u1].length)).toArray) (some g) by
        have hWg : BlkV W g 71 M.toArray := by unfold BlkV; rw [hW]; exact hW1
        refine ⟨⟨?_, .inr ⟨g, c, _, rfl, hbg, hWg.row _, hroom, by unfold maxLen; omega, by simpa using hNl, ?_⟩⟩, ⟨ho, ht, hp, ?_, fun k hk hne => ?_⟩⟩
        · rw [← hN, List.length_take, hNl]; omega
        · simpa using hN
        · rw [setRow_size, hW, setRow_size]; exact Nat.le_refl _
        · have hkg : k ≠ g := fun e => hne (by rw [e])
          rw [setRow_other _ _ _ _ hkg, hW, setRow_other _ _ _ _ hkg]; rfl))
      obtain ⟨R, hR⟩ : ∃ R, R = (M.take (i * 2) ++ [u0, u1] ++ M.drop (i * 2 + [u0, u1].length)).toArray := ⟨_, rfl⟩
      rw [← hR] at hcp2 HFIN
      clear hM hMl hNl hN hR hxd hx1 hvw hW1 hW1v
      go_enter Tryz.func46, Tryz.ntmps46
      go_wp2_with (simp only [hov w (Below.refl _ _)])
      go_region_law (refine step_copyK rfl _ _ 25 rfl _ _ (by simp [Act.eval, Act.put]) (by simp [Act.eval, Act.put]) (hcp1 _ _ _) ?_)
      go_wp2_with (at_builtin; refine wpList_copyK rfl _ _ 25 rfl _ _ rfl rfl (hcp2 _ rfl _ _) ?_)
      go_ret
      exact ⟨_, rfl, (HFIN.out _ rfl rfl rfl rfl).1, (HFIN.out _ rfl rfl rfl rfl).2, .inl rfl⟩
    · have hz3 : (c : Int) < (n : Int) + 1 := by omega
      have hkk : (n : Int) + 1 - (i : Int) = ((n + 1 - i : Nat) : Int) := by omega
      have hik : i + (n + 1 - i) = n + 1 := by omega
      have hold : (Builtin.firstCells i0.size i (.slice (some ⟨g, 0, none⟩) i c)).run Tryz.prog w.drew = .ok (xs.take (i * 2)).toArray w.drew := by
        rw [hz1]
        refine run_firstCells_some w.drew 2 i ⟨g, 0, none⟩ i c (xs.take (i * 2)) (by rw [List.length_take, HXL.out]; omega) (fun j v hj => ?_)
        have e : (⟨g, 0, none⟩ : Addr).add j = ⟨g, 0 + j, none⟩ := by unfold Addr.add; split <;> simp_all
        have h2 := (List.getElem?_eq_some_iff.1 hj).1
        rw [List.length_take] at h2
        rw [List.getElem?_take_of_lt (by omega), ← HTK.out, List.getElem?_take_of_lt (by have := HXL.out; omega)] at hj
        rw [e, Nat.zero_add, BlkV.cell (show BlkV w.drew g 71 cur from HG0.out), ← Array.getElem?_toList]
        exact hj
      have hbf : (n + 1 - i) * i0.bytes ≤ 281474976710656 := by rw [hz2]; omega
      have hrz : ∀ ty, (Builtin.append_ #[25, 3] ty #[.slice (some ⟨g, 0, none⟩) i c, .int .i64 ((n : Int) + 1 - (i : Int))]).run Tryz.prog w =
          .ok (.slice (some ⟨w.heap.size, 0, none⟩) (n + 1) (grownCap w (n + 1) c 71)) (w.drew.alloc (.cells ((xs.take (i * 2)).toArray ++ Builtin.zeroCells #[.int .i64 0, .slice none 0 0] (n + 1 - i) ++ Builtin.zeroCells #[.int .i64 0, .slice none 0 0] (grownCap w (n + 1) c 71 - (n + 1))) 71)) := fun ty => by
        have h := Lib.run_append_grow_zeros w 25 3 ty 71 i0 _ .i64 .i64 Tryz.underlying25 Tryz.underlying3 hi0 hz0 (some ⟨g, 0, none⟩) i c (xs.take (i * 2)) hold (n + 1 - i) (by omega) (by omega) (by omega) (by omega) hbf (by rw [hz2, hik]; exact growslice_fits (by omega) (by omega))
        rw [hik] at h
        rw [hkk]
        exact h
      obtain ⟨G, hG⟩ : ∃ G, G = grownCap w (n + 1) c 71 := ⟨_, rfl⟩
      have hGn : n + 1 ≤ G := by rw [hG]; exact grownCap_ge w _ _ _
      have hGm : G ≤ maxLen := by rw [hG]; exact grownCap_le_maxLen w (n + 1) c 71 (by unfold maxLen; omega)
      rw [← hG] at hrz
      obtain ⟨Z, hZ⟩ : ∃ Z : List Value, Z = (Builtin.zeroCells #[.int .i64 0, .slice none 0 0] (n + 1 - i)).toList ++ (Builtin.zeroCells #[.int .i64 0, .slice none 0 0] (G - (n + 1))).toList := ⟨_, rfl⟩
      have hZl : Z.length = (n + 1 - i) * 2 + (G - (n + 1)) * 2 := by
        rw [hZ, List.length_append, Array.length_toList, Array.length_toList, size_zeroCells, size_zeroCells]
        rfl
      have hZe : (xs.take (i * 2)).toArray ++ Builtin.zeroCells #[.int .i64 0, .slice none 0 0] (n + 1 - i) ++ Builtin.zeroCells #[.int .i64 0, .slice none 0 0] (G - (n + 1)) = (xs.take (i * 2) ++ Z).toArray := by
        apply Array.toList_inj.1
        rw [hZ]
        simp
      rw [hZe] at hrz
      obtain ⟨M, N, hM, hN, hNl, hRl, hR⟩ := grow_row (u0 := u0) (u1 := u1) (xs := xs) (Z := Z) (n := n) (i := i) HXL.out (by omega) hlt
      rw [← hM] at hrz
      have hMl : M.length = G * 2 := by rw [hM, List.length_append, List.length_take, hZl, HXL.out]; omega
      have hgw : g ≠ w.heap.size := by omega
      have hW1 : BlkV (w.drew.alloc (.cells M.toArray 71)) w.heap.size 71 M.toArray := BlkV.new w.drew _ _
      have hW1v : BlkV (w.drew.alloc (.cells M.toArray 71)) vb 71 #[u0, u1] := BlkV.alloc (w := w.drew) HV.out _
      have hW1g : BlkV (w.drew.alloc (.cells M.toArray 71)) g 71 cur := BlkV.alloc (w := w.drew) (show BlkV w.drew g 71 cur from HG0.out) _
      have hcpA : ∀ (W : World), W.heap = (w.drew.alloc (.cells M.toArray 71)).heap → ∀ ty dc, (Builtin.copy_ #[25, 25] ty #[.slice (some ⟨w.heap.size, i * 2, none⟩) (n + 1 - i) dc, .slice (some ⟨vb, 0, none⟩) 1 1]).run Tryz.prog W = .ok (goInt (Nat.min 1 (n + 1 - i))) (W.setRow w.heap.size N.toArray) := fun W hW ty dc => by
        have hWg : BlkV W w.heap.size 71 M.toArray := by unfold BlkV; rw [hW]; exact hW1
        have hWv : BlkV W vb 71 #[u0, u1] := by unfold BlkV; rw [hW]; exact hW1v
        rw [hN]
        exact run_copy_rowK W 25 25 ty 71 2 w.heap.size (i * 2) (n + 1 - i) dc ⟨vb, 0, none⟩ 1 1 M.toArray 71 [u0, u1] Tryz.underlying25 HI0.out hWg (by simp only [Nat.min_def, List.length_cons, List.length_nil]; split <;> omega) (HCV.out W hWv) (by simp [hMl]; omega) hone
      obtain ⟨R, hRe⟩ : ∃ R, R = N.take ((i + 1) * 2) ++ xs.drop (i * 2) ++ N.drop ((i + 1) * 2 + (xs.drop (i * 2)).length) := ⟨_, rfl⟩
      rw [← hRe] at hRl hR
      have hcpB : ∀ (W : World), W.heap = ((w.drew.alloc (.cells M.toArray 71)).setRow w.heap.size N.toArray).heap → ∀ ty dc sc, (Builtin.copy_ #[25, 25] ty #[.slice (some ⟨w.heap.size, (i + 1) * 2, none⟩) (n - i) dc, .slice (some ⟨g, i * 2, none⟩) (n - i) sc]).run Tryz.prog W = .ok (goInt (Nat.min (n - i) (n - i))) (W.setRow w.heap.size R.toArray) := fun W hW ty dc sc => by
        have hWg : BlkV W w.heap.size 71 N.toArray := by unfold BlkV; rw [hW]; exact hW1.row _
        have hWo : BlkV W g 71 cur := by unfold BlkV; rw [hW]; exact (setRow_other _ _ _ _ hgw).trans hW1g
        rw [hRe]
        exact run_copy_rowK W 25 25 ty 71 2 w.heap.size ((i + 1) * 2) (n - i) dc ⟨g, i * 2, none⟩ (n - i) sc N.toArray 71 (xs.drop (i * 2)) Tryz.underlying25 HI0.out hWg (by rw [HXD.out]; simp only [Nat.min_def]; split <;> omega) (HCG.out W hWo) (by rw [HXD.out]; simp [hNl, hMl]; omega) HX1.out
      have HFIN := Lib.hid (fun (W : World) (hW : W.heap = ((w.drew.alloc (.cells M.toArray 71)).setRow w.heap.size N.toArray).heap) (ho : W.os = w.os) (ht : W.tape = w.tape) (hp : W.output = w.output) => (show (W.setRow w.heap.size R.toArray).ownsRow base 71 2 (.slice (some ⟨w.heap.size, 0, none⟩) (n + 1) G) (n + 1) (xs.take (i * 2) ++ [u0, u1] ++ xs.drop (i * 2)) ∧ w.grownBy (W.setRow w.heap.size R.toArray) (some g) by
        have hWg : BlkV W w.heap.size 71 N.toArray := by unfold BlkV; rw [hW]; exact hW1.row _
        refine ⟨⟨?_, .inr ⟨w.heap.size, G, _, rfl, hbase, hWg.row _, hGn, hGm, by simpa [hRl] using hMl, ?_⟩⟩, ⟨ho, ht, hp, ?_, fun k hk hne => ?_⟩⟩
        · rw [← hR, List.length_take, hRl]; omega
        · simpa using hR
        · rw [setRow_size, hW, setRow_size]; simp [World.alloc]
        · have hkg : k ≠ w.heap.size := by omega
          rw [setRow_other _ _ _ _ hkg, hW, setRow_other _ _ _ _ hkg]
          exact heap_alloc_old w.drew _ hk))
      have hGi : ¬ (G = i) := by omega
      have hGim : ¬ (G = i + 1) := by omega
      have hb3' : (i : Int) ≤ (n : Int) + 1 := by omega
      have hG63 : (G : Int) ≤ 9223372036854775807 := by unfold maxLen at hGm; omega
      clear hM hN hNl hRl hR hRe hMl hZ hZl hZe hxd hx1 hvw hW1 hW1v hW1g hold hG hkk hik hbf
      go_enter Tryz.func46, Tryz.ntmps46
      go_wp2_with (at_builtin; refine Lib.wpList_append_run _ rfl _ _ _ _ rfl _ _ rfl rfl _ _ (hrz _) ?_; refine Hid.out ?_)
      refine Lib.hid ?_
      have hcpA1 := hcpA (w.alloc (.cells M.toArray 71)).drew rfl
      have hcpB1 := hcpB ((w.alloc (.cells M.toArray 71)).drew.setRow w.heap.size N.toArray).drew rfl
      clear hcpA hcpB
      go_wp2
      go_region_law (refine step_copyK rfl _ _ 25 rfl _ _ (by simp [Act.eval, Act.put]) (by simp [Act.eval, Act.put]) (hcpB1 _ _ _) ?_)
      go_wp2
      go_ret
      have h := HFIN.out ((w.alloc (.cells M.toArray 71)).drew.setRow w.heap.size N.toArray).drew rfl rfl rfl rfl
      exact ⟨_, rfl, h.1, h.2, .inr rfl⟩

end Go.Proofs.YthjbekgognfiiaaGreat

/-
  slices.Delete of one element at a slice of indexed sets of the call's own. By an AI agent.
-/
namespace Go.Proofs.YthjbekgognfiiaaGreat
open Go.RowKit
set_option linter.unusedVariables false

theorem step_app_in {P : Program} {ops : Array Oper} {o : Oper} {a : Act} {w : World} {K : Act → World → Prop} {Q : Exit → Act → World → Prop} {E : Prop} (hg : o.guard = none) (s x : Operand) (t : TypeId)
    (hop : o.op = Op.call { callee := Callee.builtin Builtin.append, args := #[s, x], argTypes := #[t, t] }) (vs vx : Value) (hs : a.eval s = vs) (hx : a.eval x = vx) {v' : Value} {w' : World}
    (hr : (Builtin.append_ #[t, t] o.type #[vs, vx]).run P w = .ok v' w') (h : K (a.put o.dst v') w') : if Region.wanted o (yielded ops a.tmps) = true then Oper.wp P o a w K Q else E := by
  have hw : Region.wanted o (yielded ops a.tmps) = true := by simp [Region.wanted, hg]
  rw [if_pos hw]
  unfold Oper.wp
  simp [execOp, hop, resolve, invoke, builtin, hs, hx, hr, Result.andThen]
  exact h

/-- clear of one element of two cells -/
theorem run_clear_one {P : Program} (w : World) (t e ty : TypeId) (z0 z1 : Value) (ht : P.underlying t = some (.slice e)) (hv : ∀ w, (zeroValue e).run P w = .ok (.agg #[z0, z1]) w) (h0 : z0.oneCell' = true) (h1 : z1.oneCell' = true) (g o c : Nat) (cur : Array Value) (u : TypeId)
    (hg : w.heap[g]? = some (.cells cur u (0, 0))) (hfit : o + 2 ≤ cur.size) :
    (Builtin.clear_ #[t] ty #[.slice (some ⟨g, o, none⟩) 1 c]).run P w = .ok (.tuple #[]) (w.setRow g (cur.toList.take o ++ [z0, z1] ++ cur.toList.drop (o + 2)).toArray) := by
  have hst := run_storeCells_at P g o u [z0, z1] 0 cur w hg (by simpa using hfit) (by simp [h0, h1])
  simp only [Nat.add_zero] at hst
  have hzc : (Builtin.zeroCells (Value.agg #[z0, z1]).cells 1).toList = [z0, z1] := by
    simp [Builtin.zeroCells, Value.cells]
    rfl
  simp [Builtin.clear_, run_underlying ht, hv, hzc, hst]

theorem del_row {L xs : List Value} {n k c : Nat} {z0 z1 : Value} (hL : L.length = c * 2) (hx : L.take (n * 2) = xs) (hk : k < n) (hc : n ≤ c) :
    ∃ M N : List Value, M = L.take (k * 2) ++ xs.drop ((k + 1) * 2) ++ L.drop (k * 2 + (xs.drop ((k + 1) * 2)).length) ∧ M.length = c * 2 ∧ N = M.take ((n - 1) * 2) ++ [z0, z1] ++ M.drop ((n - 1) * 2 + 2) ∧ N.length = c * 2 ∧
      N.take ((n - 1) * 2) = xs.take (k * 2) ++ xs.drop ((k + 1) * 2) := by
  have hxl : xs.length = n * 2 := by rw [← hx, List.length_take]; omega
  have h0 : (L.take (k * 2)).length = k * 2 := by rw [List.length_take]; omega
  have hd : (xs.drop ((k + 1) * 2)).length = (n - 1) * 2 - k * 2 := by rw [List.length_drop]; omega
  refine ⟨_, _, rfl, by simp; omega, rfl, by simp; omega, ?_⟩
  rw [List.append_assoc, List.take_append_of_le_length (by simp; omega), List.take_take, Nat.min_self, List.take_append_of_le_length (by rw [List.length_append, h0, hd]; omega), List.take_of_length_le (by rw [List.length_append, h0, hd]; omega)]
  rw [← hx, List.take_take]
  congr 2
  omega

set_option maxRecDepth 100000 in
set_option maxHeartbeats 4000000 in
theorem del_any (base : Nat) (a : Option Addr) (n c k : Nat) (xs : List Value) (w : World)
    (hown : w.ownsRow base 71 2 (.slice a n c) n xs) (hk : k < n) (hn : n ≤ 4000000) (hx1 : ∀ u ∈ xs, u.oneCell' = true) :
    Calls Tryz.prog 49 #[.slice a n c, .int .i64 k, .int .i64 ((k : Int) + 1)] w fun e w' =>
      e = .returned (.slice a (n - 1) c) ∧ w'.ownsRow base 71 2 (.slice a (n - 1) c) (n - 1) (xs.take (k * 2) ++ xs.drop ((k + 1) * 2)) ∧ w.grownBy w' (Value.slice a n c).ownBlock := by
  obtain ⟨i0, hi0, hz0, hz1, hz2⟩ := info_parts info_ixs
  have hxl := hown.1
  rcases hown.2 with ⟨hv0, hn0⟩ | ⟨g, cap, cur, hv0, hbg, hg, hnc, hcm, hcs, htk⟩
  · omega
  injection hv0 with e1 e2 e3
  subst e1 e3
  unfold maxLen at hcm
  have hgl : g < w.heap.size := (Array.getElem?_eq_some_iff.1 hg).1
  have HG0 := Lib.hid hg
  obtain ⟨M, N, hM, hMl, hN, hNl, hNt⟩ := del_row (z0 := .int .i64 0) (z1 := .slice none 0 0) (L := cur.toList) (by simpa using hcs) htk hk hnc
  obtain ⟨m, hm⟩ : ∃ m, n - (k + 1) = m := ⟨_, rfl⟩
  have hdl : (xs.drop ((k + 1) * 2)).length = m * 2 := by rw [List.length_drop, hxl]; omega
  obtain ⟨A, hA, hsrc⟩ : ∃ A : Addr, (if c = k + 1 then (⟨g, 0, none⟩ : Addr) else ⟨g, (k + 1) * 2, none⟩) = A ∧ ∀ j u, (xs.drop ((k + 1) * 2))[j]? = some u → w.drew.cell? (A.add j) = some u := by
    by_cases h : c = k + 1
    · refine ⟨⟨g, 0, none⟩, by simp [h], fun j u hu => ?_⟩
      have := (List.getElem?_eq_some_iff.1 hu).1
      omega
    · refine ⟨⟨g, (k + 1) * 2, none⟩, by simp [h], fun j u hu => ?_⟩
      have e : (⟨g, (k + 1) * 2, none⟩ : Addr).add j = ⟨g, (k + 1) * 2 + j, none⟩ := by unfold Addr.add; split <;> simp_all
      rw [e, BlkV.cell (show BlkV w.drew g 71 cur from hg), ← Array.getElem?_toList]
      rw [List.getElem?_drop, ← htk] at hu
      have h2 := (List.getElem?_eq_some_iff.1 hu).1
      rw [List.length_take] at h2
      rwa [List.getElem?_take_of_lt (by omega)] at hu
  have hap : ∀ ty cc, (Builtin.append_ #[25, 25] ty #[.slice (some ⟨g, 0, none⟩) k c, .slice (some A) m cc]).run Tryz.prog w.drew = .ok (.slice (some ⟨g, 0, none⟩) (k + m) c) (w.drew.setRow g M.toArray) := fun ty cc => by
    have h := run_append_room (P := Tryz.prog) w.drew 25 ty 71 i0 Tryz.underlying25 hi0 g k c cur hg A m cc (xs.drop ((k + 1) * 2)) (by rw [hdl, hz1]) hsrc (fun u hu => hx1 u (List.mem_of_mem_drop hu)) (by omega) (by rw [hdl, hz1, hcs]; omega)
    rw [h, hM, hz1]
  have hW1 : BlkV (w.drew.setRow g M.toArray) g 71 M.toArray := setRow_heap w.drew g cur M.toArray 71 (0, 0) hg
  have hcl : ∀ ty cc, (Builtin.clear_ #[25] ty #[.slice (some ⟨g, (k + m) * 2, none⟩) (n - (k + m)) cc]).run Tryz.prog (w.drew.setRow g M.toArray) = .ok (.tuple #[]) ((w.drew.setRow g M.toArray).setRow g N.toArray) := fun ty cc => by
    have h := run_clear_one (P := Tryz.prog) (w.drew.setRow g M.toArray) 25 71 ty (.int .i64 0) (.slice none 0 0) Tryz.underlying25 Tryz.zeroValue71 rfl rfl g ((k + m) * 2) cc M.toArray 71 hW1 (by simp [hMl]; omega)
    rw [show n - (k + m) = 1 by omega, h, hN, show k + m = n - 1 by omega]
  have HFIN := Lib.hid (show ((w.drew.setRow g M.toArray).setRow g N.toArray).ownsRow base 71 2 (.slice (some ⟨g, 0, none⟩) (n - 1) c) (n - 1) (xs.take (k * 2) ++ xs.drop ((k + 1) * 2)) ∧ w.grownBy ((w.drew.setRow g M.toArray).setRow g N.toArray) (some g) by
    refine ⟨⟨?_, .inr ⟨g, c, _, rfl, hbg, hW1.row _, by omega, by unfold maxLen; omega, by simpa using hNl, ?_⟩⟩, ⟨rfl, rfl, rfl, ?_, fun j hj hne => ?_⟩⟩
    · rw [← hNt, List.length_take, hNl]; omega
    · simpa using hNt
    · rw [setRow_size, setRow_size]; exact Nat.le_refl _
    · have hkg : j ≠ g := fun e => hne (by rw [e])
      rw [setRow_other _ _ _ _ hkg, setRow_other _ _ _ _ hkg]; rfl)
  have hkm : k + m = n - 1 := by omega
  have HKM := Lib.hid hkm
  have hcA : (if c = k + 1 then (some ⟨g, 0, none⟩ : Option Addr) else some ⟨g, (k + 1) * 2, none⟩) = some A := by rw [← hA]; split <;> rfl
  have hw1 : IntKind.i64.wrap ((k : Int) + 1) = (k : Int) + 1 := by rw [IntKind.wrap_i64]; omega
  have hb1 : (0 : Int) ≤ (k : Int) + 1 := by omega
  have htn : ((k : Int) + 1).toNat = k + 1 := by omega
  have hb2 : (k : Int) + 1 ≤ (n : Int) := by omega
  have hb3 : (n : Int) ≤ (c : Int) := by omega
  have hb4 : ¬ ((k : Int) = (k : Int) + 1) := by omega
  have hb5 : (k : Int) ≤ (k : Int) + 1 := by omega
  have hb6 : k ≤ c := by omega
  have hb7 : ¬ (c = k + m) := by omega
  have hb8 : k + m ≤ n := by omega
  clear hM hMl hN hNl hNt hdl hsrc hW1 hown hxl htk hcs hg hA hkm hx1
  go_enter Tryz.func49, Tryz.ntmps49
  go_wp2
  go_region_law (refine step_app_in rfl _ _ 25 rfl (.slice (some ⟨g, 0, none⟩) k c) (.slice (some A) m (c - (k + 1))) (by simp [Act.eval, Act.put]) (by simp [Act.eval, Act.put]) (hap _ _) ?_)
  go_wp2
  go_ret
  rw [← HKM.out] at HFIN ⊢
  exact ⟨rfl, HFIN.out⟩

end Go.Proofs.YthjbekgognfiiaaGreat

