/-
  What impl's diagramBuilder.refer answers and appends. By an AI agent.
-/
import Derived.Test.YtpmfabpnjacegaaGreatDoorGQ3
import Derived.Test.YtpmfabpnjacegaaGreatDoorGQ4
import Derived.BigQuiet
import Derived.Deep.QuietTactic
namespace Go.Proofs.YtpmfabpnjacegaaGreatDoor
open Go.RowKit
set_option linter.unusedVariables false
set_option linter.unusedSimpArgs false
set_option linter.unnecessarySimpa false

/-- what stays but some blocks and a row -/
structure FrB (W W' : World) (G : List Nat) (v v' : Value) : Prop where
  os : W'.os = W.os
  tape : W'.tape = W.tape
  output : W'.output = W.output
  size : W.heap.size ≤ W'.heap.size
  block : ∀ k, k < W.heap.size → k ∉ G → v.ownBlock ≠ some k → W'.heap[k]? = W.heap[k]?
  own : ∀ k, v'.ownBlock = some k → v.ownBlock = some k ∨ W.heap.size ≤ k
theorem FrB.refl (W : World) (G : List Nat) (v : Value) : FrB W W G v v := ⟨rfl, rfl, rfl, Nat.le_refl _, fun _ _ _ _ => rfl, fun k h => .inl h⟩
theorem FrB.trans {W W1 W2 : World} {G : List Nat} {v v1 v2 : Value} (h : FrB W W1 G v v1) (k : FrB W1 W2 G v1 v2) : FrB W W2 G v v2 := by
  refine ⟨k.os.trans h.os, k.tape.trans h.tape, k.output.trans h.output, Nat.le_trans h.size k.size, fun j hj hg hv => (k.block j (Nat.lt_of_lt_of_le hj h.size) hg fun e => ?_).trans (h.block j hj hg hv), fun j hj => ?_⟩
  · rcases h.own j e with h1 | h1
    · exact hv h1
    · omega
  · rcases k.own j hj with h1 | h1
    · exact h.own j h1
    · exact .inr (Nat.le_trans h.size h1)
theorem FrB.weak {W W' : World} {G G' : List Nat} {v v' : Value} (h : FrB W W' G v v') (hg : ∀ k ∈ G, k ∈ G') : FrB W W' G' v v' :=
  ⟨h.os, h.tape, h.output, h.size, fun k hk hn hv => h.block k hk (fun e => hn (hg k e)) hv, h.own⟩
theorem FrB.below {W W1 W2 : World} {G : List Nat} {v v1 : Value} (h : FrB W W1 G v v1) (hb : Below W1.heap.size W1 W2) : FrB W W2 G v v1 :=
  h.trans ⟨hb.os, hb.tape, hb.output, hb.size, fun k hk _ _ => hb.block k hk, fun k h => .inl h⟩
theorem FrB.grown {W W1 W2 : World} {G : List Nat} {b : Nat} {v v1 v2 : Value} (h : FrB W W1 G v v1) (hg : W1.grownBy W2 v1.ownBlock) (hv : v2.ownBlock = some b) (hb : v1.ownBlock = some b ∨ b = W1.heap.size) : FrB W W2 G v v2 :=
  h.trans ⟨hg.os, hg.tape, hg.output, hg.size, fun k hk _ hn => hg.block k hk (fun e => hn e.symm), fun k hk => by
    rw [hv] at hk
    injection hk with hk
    subst hk
    rcases hb with h1 | h1
    · exact .inl h1
    · exact .inr (by omega)⟩
theorem FrB.one {W W1 W2 : World} {G : List Nat} {b : Nat} {v v1 : Value} (h : FrB W W1 G v v1) (hg : W1.grownBy W2 (some b)) (hb : b ∈ G) : FrB W W2 G v v1 :=
  h.trans ⟨hg.os, hg.tape, hg.output, hg.size, fun k hk hn _ => hg.block k hk (fun e => by injection e with e; subst e; exact hn hb), fun k h => .inl h⟩
theorem FrB.setg {W W1 : World} {G : List Nat} {g : Nat} {v v1 : Value} (h : FrB W W1 G v v1) (hg : g ∈ G) (j : Nat) (u : Value) : FrB W (W1.setCell ⟨g, j, none⟩ u) G v v1 :=
  h.trans ⟨rfl, rfl, rfl, by simp [World.setCell], fun k _ hk _ => Below.heap_setCell W1 ⟨g, j, none⟩ u k (fun e => hk (by rw [e]; exact hg)), fun k hk => .inl hk⟩

/-- the references to the nodes -/
def refF (D : List DN) (x : DN) : Option Value := if D.contains x then some (.int .i64 ((D.idxOf x : Int) + 2)) else none
theorem refF_new {D : List DN} {x : DN} (h : D.contains x = false) (y : DN) : (if y = x then some (Value.int .i64 ((D.length : Int) + 2)) else refF D y) = refF (D ++ [x]) y := by
  have hx : x ∉ D := fun e => by rw [List.contains_iff_mem.2 e] at h; cases h
  unfold refF
  by_cases e : y = x
  · subst e
    rw [if_pos rfl, if_pos (List.contains_iff_mem.2 (by simp)), List.idxOf_append, if_neg hx, List.idxOf_cons_self]
    simp
  · rw [if_neg e]
    by_cases hy : y ∈ D
    · rw [if_pos (List.contains_iff_mem.2 hy), if_pos (List.contains_iff_mem.2 (List.mem_append_left _ hy)), List.idxOf_append, if_pos hy]
    · rw [if_neg (fun c => hy (List.contains_iff_mem.1 c)), if_neg (fun c => by have := List.contains_iff_mem.1 c; simp at this; rcases this with h1 | h1; exact hy h1; exact e h1)]
theorem refF_old {D : List DN} {x : DN} (h : D.contains x = true) : refF D x = some (.int .i64 ((D.idxOf x : Int) + 2)) := if_pos h
theorem refF_none {D : List DN} {x : DN} (h : D.contains x = false) : refF D x = none := if_neg (by rw [h]; exact Bool.false_ne_true)
theorem refF_last (D : List DN) (x : DN) (h : D.contains x = false) : refF (D ++ [x]) x = some (.int .i64 ((D.length : Int) + 2)) := by rw [← refF_new h]; rw [if_pos rfl]

/-- the builder as it stands -/
structure BSt (W : World) (gB lo : Nat) (aR : Option Addr) (nR cR : Nat) (aV : Option Addr) (nV cV bm br : Nat) (a : Option Addr) (c m : Nat) (D : List DN) : Prop where
  box : BlkV W gB 54 #[.slice aR nR cR, .slice aV nV cV, .map (some bm), .map (some br), .slice a m c]
  len : D.length = m
  refs : DMap W br m (refF D)
  own : OwnDn W lo (.slice a m c) D
  ok : ∀ x ∈ D, okN x
theorem BSt.below {W W' : World} {gB lo : Nat} {aR : Option Addr} {nR cR : Nat} {aV : Option Addr} {nV cV bm br : Nat} {a : Option Addr} {c m : Nat} {D : List DN} (h : BSt W gB lo aR nR cR aV nV cV bm br a c m D) (hb : Below W.heap.size W W') : BSt W' gB lo aR nR cR aV nV cV bm br a c m D :=
  ⟨h.box.below hb, h.len, h.refs.below hb, h.own.below hb, h.ok⟩

set_option maxRecDepth 100000 in
set_option maxHeartbeats 8000000 in
theorem rf_impl (gB lo : Nat) (aR : Option Addr) (nR cR : Nat) (aV : Option Addr) (nV cV bm br : Nat) (a : Option Addr) (c m : Nat) (D : List DN) (f t u z y : Int) (D' : List DN) (W : World)
    (hr : refD ((f, t), (u, z)) D = (y, D')) (hok : okN ((f, t), (u, z))) (hm : m ≤ 1000000) (h : BSt W gB lo aR nR cR aV nV cV bm br a c m D) (hg : gB < lo) (hbr : br < lo) (hne : gB ≠ br) (hlo : lo ≤ W.heap.size) :
    Calls Tryz.prog 59 #[.pointer (some ⟨gB, 0, none⟩), .agg #[.int .i64 f, .int .i64 t, .int .i64 u, .int .i64 z]] W fun e W' =>
      ∃ a' c', e = .returned (.int .i64 y) ∧ BSt W' gB lo aR nR cR aV nV cV bm br a' c' D'.length D' ∧ FrB W W' [gB, br] (.slice a m c) (.slice a' D'.length c') := by
  obtain ⟨w1, hw1⟩ : ∃ w1, W.alloc (.cells #[.int .i64 f, .int .i64 t, .int .i64 u, .int .i64 z] 59) = w1 := ⟨_, rfl⟩
  have hB1 : Below W.heap.size W w1 := by rw [← hw1]; exact (Below.refl _ _).alloc (Nat.le_refl _) _
  have HB1 := Lib.hid hB1
  have HX1 := Lib.hid (show BlkV w1 W.heap.size 59 #[.int .i64 f, .int .i64 t, .int .i64 u, .int .i64 z] by rw [← hw1]; exact BlkV.new _ _ _)
  have HST := Lib.hid (h.below hB1)
  have HST0 := Lib.hid h
  have HR := Lib.hid hr
  have HM := Lib.hid h.len
  have HOK := Lib.hid hok
  have HF1 := Lib.hid (show FrB W w1 [gB, br] (.slice a m c) (.slice a m c) from (FrB.refl _ _ _).below hB1)
  have q0 := HX1.out.four0'
  have q1 := HX1.out.four1'
  have q2 := HX1.out.four2'
  have q3 := HX1.out.four3'
  have hzi : (zeroValue 3).run Tryz.prog w1 = .ok (.int .i64 0) w1 := by kernel_rfl
  clear h hr hok hB1
  by_cases huz : u = z
  · subst huz
    have hs := HR.out
    rw [ref_same rfl] at hs
    obtain ⟨h1, h2⟩ := Prod.mk.inj hs
    have h1 : u = y := h1
    subst h1 h2
    have huu : (u == u) = true := by simp
    clear hs
    go_enter Tryz.func59, Tryz.ntmps59
    go_wp2
    go_ret
    have e := HM.out
    subst e
    first | exact ⟨a, c, rfl, HST.out, HF1.out⟩ | exact ⟨rfl, a, c, HST.out, HF1.out⟩
  have huu : (u == z) = false := by simp [huz]
  have HUZ := Lib.hid huz
  have HBX := Lib.hid HST.out.box
  have b3 : w1.cell? ⟨gB, 3, none⟩ = some (.map (some br)) := HBX.out.cell 3
  have b4 : w1.cell? ⟨gB, 4, none⟩ = some (.slice a m c) := HBX.out.cell 4
  clear huz
  cases hct : D.contains ((f, t), (u, z))
  case true =>
    have hidx : ∃ i, D[i]? = some ((f, t), (u, z)) ∧ D.idxOf ((f, t), (u, z)) = i := ⟨_, by
      have hm := List.contains_iff_mem.1 hct
      have hlt := List.idxOf_lt_length_of_mem hm
      rw [List.getElem?_eq_getElem hlt, List.getElem_idxOf], rfl⟩
    obtain ⟨i, hDi, hi⟩ := hidx
    have hib : i < m := by rw [← HM.out]; exact (List.getElem?_eq_some_iff.1 hDi).1
    clear hDi
    have hs : refD ((f, t), (u, z)) D = ((i : Int) + 2, D) := by
      unfold refD
      rw [if_neg HUZ.out, if_pos hct, hi]
    have hs2 := HR.out
    rw [hs] at hs2
    obtain ⟨h1, h2⟩ := Prod.mk.inj hs2
    subst h1 h2
    have hl := fun n : Nat => (HST.out.refs.below (dquiet_f w1.heap.size w1 n)).look_ok keyN' Tryz.underlying52 (z := .int .i64 0) (by kernel_rfl) ((f, t), (u, z)) HOK.out
    have hk := fun n : Nat => (HST.out.refs.below (dquiet_f w1.heap.size w1 n)).look keyN' Tryz.underlying52 (z := .int .i64 0) (by kernel_rfl) ((f, t), (u, z)) HOK.out
    rw [refF_old hct, hi] at hl hk
    simp only [Option.getD_some, Option.isSome_some, keN] at hl hk
    have hl0 := hl 0
    have hk0 := hk 0
    have HREF := Lib.hid (show refF D ((f, t), (u, z)) = some (.int .i64 ((i : Int) + 2)) by rw [refF_old hct, hi])
    clear hs hs2 hct
    go_enter Tryz.func59, Tryz.ntmps59
    go_wp2
    go_quiet (fail)
    have HBx := Lib.hid (dquiet_f w1.heap.size w1 nq)
    generalize w1.drewN nq = w2 at HBx ⊢
    have HB2 := Lib.hid (HBX.out.below HBx.out)
    have HX2 := Lib.hid (HX1.out.below HBx.out)
    have HS2 := Lib.hid (HST.out.below HBx.out)
    clear q0 q1 q2 q3 b3 b4 hl hk hl0 hk0 hw1
    have b3 : w2.cell? ⟨gB, 3, none⟩ = some (.map (some br)) := HB2.out.cell 3
    have q0 := HX2.out.four0'
    have q1 := HX2.out.four1'
    have q2 := HX2.out.four2'
    have q3 := HX2.out.four3'
    have hk := fun n : Nat => (HS2.out.refs.below (dquiet_f w2.heap.size w2 n)).look keyN' Tryz.underlying52 (z := .int .i64 0) (by kernel_rfl) ((f, t), (u, z)) HOK.out
    rw [HREF.out] at hk
    simp only [Option.getD_some, keN] at hk
    have hk0 := hk 0
    go_wp2
    go_quiet (fail)
    have HBy := Lib.hid (dquiet_f w2.heap.size w2 nq)
    generalize w2.drewN nq = w3 at HBy ⊢
    clear q0 q1 q2 q3 b3 hk0 hk
    go_wp2
    go_ret
    have e := HM.out
    subst e
    first
      | exact ⟨a, c, rfl, HS2.out.below HBy.out, (HF1.out.below HBx.out).below HBy.out⟩
      | exact ⟨rfl, a, c, HS2.out.below HBy.out, (HF1.out.below HBx.out).below HBy.out⟩
  case false =>
    have hs := HR.out
    rw [ref_new HUZ.out hct] at hs
    obtain ⟨h1, h2⟩ := Prod.mk.inj hs
    have HY := Lib.hid (show (m : Int) + 2 = y by rw [← h1, HM.out])
    have HF := Lib.hid h2
    have HCT := Lib.hid hct
    have hl := fun n : Nat => (HST.out.refs.below (dquiet_f w1.heap.size w1 n)).look_ok keyN' Tryz.underlying52 (z := .int .i64 0) (by kernel_rfl) ((f, t), (u, z)) HOK.out
    rw [refF_none hct] at hl
    simp only [Option.getD_none, Option.isSome_none, keN] at hl
    have hl0 := hl 0
    clear hs hct h1 h2
    go_enter Tryz.func59, Tryz.ntmps59
    go_wp2
    go_quiet (fail)
    have HBx := Lib.hid (dquiet_f w1.heap.size w1 nq)
    generalize w1.drewN nq = w2 at HBx ⊢
    have HB2 := Lib.hid (HBX.out.below HBx.out)
    have HX2 := Lib.hid (HX1.out.below HBx.out)
    have HS2 := Lib.hid (HST.out.below HBx.out)
    have hq2 : Below w2.heap.size w2 w2.drew := ⟨rfl, rfl, rfl, Nat.le_refl _, fun _ _ => rfl⟩
    obtain ⟨w5, hup, hd5, hg5⟩ := (HS2.out.refs.below hq2).store keyN' Tryz.underlying52 (by unfold maxLen; omega) ((f, t), (u, z)) HOK.out (.int .i64 ((m : Int) + 2))
    have hup2 : (Instr.mapUpdate 52 (.map (some br)) (.agg #[.int .i64 f, .int .i64 t, .int .i64 u, .int .i64 z]) (.int .i64 (2 + (m : Int)))).run Tryz.prog w2.drew = .ok () w5 := by rw [Int.add_comm]; exact hup
    have HD5 := Lib.hid (show DMap w5 br (m + 1) (refF (D ++ [((f, t), (u, z))])) by
      obtain ⟨DD, g1, g2, g3⟩ := hd5
      have e : ∀ y, (if y = (((f, t), (u, z)) : DN) then some (Value.int .i64 ((m : Int) + 2)) else refF D y) = refF (D ++ [((f, t), (u, z))]) y := fun y => by rw [← HM.out]; exact refF_new HCT.out y
      exact ⟨DD, g1, fun y hy => (g2 y hy).trans (congrArg Option.isSome (e y)), fun y v hy => (g3 y v hy).trans (congrArg (fun o : Option Value => DataW.held (o.getD v)) (e y))⟩)
    have HG5 := Lib.hid (show w2.grownBy w5 (some br) from ⟨hg5.os, hg5.tape, hg5.output, hg5.size, hg5.block⟩)
    have HF5 := Lib.hid ((HF1.out.below HBx.out).one (show w2.grownBy w5 (some br) from ⟨hg5.os, hg5.tape, hg5.output, hg5.size, hg5.block⟩) (by simp))
    have HLOW0 := Lib.hid (fun q (hq : (Value.slice a m c).ownBlock = some q) => show lo ≤ q ∧ q < W.heap.size from World.ownsRow.lt HST0.out.own q hq)
    have HB5 := Lib.hid (show BlkV w5 gB 54 #[.slice aR nR cR, .slice aV nV cV, .map (some bm), .map (some br), .slice a m c] from (hg5.block gB HB2.out.lt (fun e => by injection e with e; exact hne e)).trans HB2.out)
    have HX5 := Lib.hid (show BlkV w5 W.heap.size 59 #[.int .i64 f, .int .i64 t, .int .i64 u, .int .i64 z] from (hg5.block W.heap.size HX2.out.lt (fun e => by injection e with e; omega)).trans HX2.out)
    have HO5 := Lib.hid (show OwnDn w5 lo (.slice a m c) D from row_keptO HS2.out.own (show w2.grownBy w5 (some br) from ⟨hg5.os, hg5.tape, hg5.output, hg5.size, hg5.block⟩) (fun k hk e => by injection hk with hk; subst hk; have := (HLOW0.out _ e).1; omega))
    clear q0 q1 q2 q3 b3 b4 hl0 hl hup hd5 hg5 hq2 hw1
    have b3 : w2.cell? ⟨gB, 3, none⟩ = some (.map (some br)) := HB2.out.cell 3
    have b4 : w2.cell? ⟨gB, 4, none⟩ = some (.slice a m c) := HB2.out.cell 4
    have x0 := HX2.out.four0'
    have x1 := HX2.out.four1'
    have x2 := HX2.out.four2'
    have x3 := HX2.out.four3'
    have hwm : IntKind.i64.wrap (2 + (m : Int)) = 2 + (m : Int) := IntWalk.i64_in _ (by omega)
    go_wp2_with (fail)
    refine wp_region_noPanic ?_
    refine wp_region_E (S := fun w' => w'.cell? ⟨gB, 3, none⟩ = some (.map (some br)) ∧ w'.cell? ⟨gB, 4, none⟩ = some (.slice a m c) ∧ w'.cell? ⟨W.heap.size, 0, none⟩ = some (.int .i64 f) ∧ w'.cell? ⟨W.heap.size, 1, none⟩ = some (.int .i64 t) ∧ w'.cell? ⟨W.heap.size, 2, none⟩ = some (.int .i64 u) ∧ w'.cell? ⟨W.heap.size, 3, none⟩ = some (.int .i64 z)) 11 (by kernel_rfl) (⟨b3, b4, x0, x1, x2, x3⟩) (fun hHeld => ?_)
    refine anyE_take (i := 0) (v := ?vz1) rfl (by kernel_rfl) (by kernel_rfl) (by kernel_rfl) (by kernel_rfl) (by kernel_rfl) (fun _ _ _ h => h) (Or.inl ⟨by kernel_rfl, ?yz1⟩) (by assumption) ?rz1
    case yz1 => (intro w' hSw; (try dsimp only at hSw); go_simp; (try with_reducible rfl))
    (try simp only [Act.put, List.getElem_toArray, List.getElem_cons_succ, List.getElem_cons_zero, List.setIfInBounds_toArray, List.set_cons_zero, List.set_cons_succ])
    refine anyE_take (i := 1) (v := ?vz2) rfl (by kernel_rfl) (by kernel_rfl) (by kernel_rfl) (by kernel_rfl) (by kernel_rfl) (fun _ _ _ h => h) (Or.inl ⟨by kernel_rfl, ?yz2⟩) (by assumption) ?rz2
    case yz2 => (intro w' hSw; (try dsimp only at hSw); go_simp; (try with_reducible rfl))
    (try simp only [Act.put, List.getElem_toArray, List.getElem_cons_succ, List.getElem_cons_zero, List.setIfInBounds_toArray, List.set_cons_zero, List.set_cons_succ])
    refine anyE_take (i := 2) (v := ?vz3) rfl (by kernel_rfl) (by kernel_rfl) (by kernel_rfl) (by kernel_rfl) (by kernel_rfl) (fun _ _ _ h => h) (Or.inl ⟨by kernel_rfl, ?yz3⟩) (by assumption) ?rz3
    case yz3 => (intro w' hSw; (try dsimp only at hSw); go_simp; (try with_reducible rfl))
    (try simp only [Act.put, List.getElem_toArray, List.getElem_cons_succ, List.getElem_cons_zero, List.setIfInBounds_toArray, List.set_cons_zero, List.set_cons_succ])
    refine anyE_take (i := 3) (v := ?vz4) rfl (by kernel_rfl) (by kernel_rfl) (by kernel_rfl) (by kernel_rfl) (by kernel_rfl) (fun _ _ _ h => h) (Or.inl ⟨by kernel_rfl, ?yz4⟩) (by assumption) ?rz4
    case yz4 => (intro w' hSw; (try dsimp only at hSw); go_simp; (try with_reducible rfl))
    (try simp only [Act.put, List.getElem_toArray, List.getElem_cons_succ, List.getElem_cons_zero, List.setIfInBounds_toArray, List.set_cons_zero, List.set_cons_succ])
    refine anyE_take (i := 4) (v := ?vz5) rfl (by kernel_rfl) (by kernel_rfl) (by kernel_rfl) (by kernel_rfl) (by kernel_rfl) (fun _ _ _ h => h) (Or.inl ⟨by kernel_rfl, ?yz5⟩) (by assumption) ?rz5
    case yz5 => (intro w' hSw; (try dsimp only at hSw); go_simp; (try with_reducible rfl))
    (try simp only [Act.put, List.getElem_toArray, List.getElem_cons_succ, List.getElem_cons_zero, List.setIfInBounds_toArray, List.set_cons_zero, List.set_cons_succ])
    refine anyE_take (i := 5) (v := ?vz6) rfl (by kernel_rfl) (by kernel_rfl) (by kernel_rfl) (by kernel_rfl) (by kernel_rfl) (fun _ _ _ h => h) (Or.inl ⟨by kernel_rfl, ?yz6⟩) (by assumption) ?rz6
    case yz6 => (intro w' hSw; (try dsimp only at hSw); go_simp; (try with_reducible rfl))
    (try simp only [Act.put, List.getElem_toArray, List.getElem_cons_succ, List.getElem_cons_zero, List.setIfInBounds_toArray, List.set_cons_zero, List.set_cons_succ])
    refine anyE_take (i := 6) (v := ?vz7) rfl (by kernel_rfl) (by kernel_rfl) (by kernel_rfl) (by kernel_rfl) (by kernel_rfl) (fun _ _ _ h => h) (Or.inl ⟨by kernel_rfl, ?yz7⟩) (by assumption) ?rz7
    case yz7 => (intro w' hSw; (try dsimp only at hSw); go_simp; (try with_reducible rfl))
    (try simp only [Act.put, List.getElem_toArray, List.getElem_cons_succ, List.getElem_cons_zero, List.setIfInBounds_toArray, List.set_cons_zero, List.set_cons_succ])
    refine anyE_take (i := 7) (v := ?vz8) rfl (by kernel_rfl) (by kernel_rfl) (by kernel_rfl) (by kernel_rfl) (by kernel_rfl) (fun _ _ _ h => h) (Or.inl ⟨by kernel_rfl, ?yz8⟩) (by assumption) ?rz8
    case yz8 => (intro w' hSw; (try dsimp only at hSw); go_simp; (try with_reducible rfl))
    (try simp only [Act.put, List.getElem_toArray, List.getElem_cons_succ, List.getElem_cons_zero, List.setIfInBounds_toArray, List.set_cons_zero, List.set_cons_succ])
    refine anyE_take (i := 8) (v := ?vz9) rfl (by kernel_rfl) (by kernel_rfl) (by kernel_rfl) (by kernel_rfl) (by kernel_rfl) (fun _ _ _ h => h) (Or.inl ⟨by kernel_rfl, ?yz9⟩) (by assumption) ?rz9
    case yz9 => (intro w' hSw; (try dsimp only at hSw); go_simp; (try with_reducible rfl))
    (try simp only [Act.put, List.getElem_toArray, List.getElem_cons_succ, List.getElem_cons_zero, List.setIfInBounds_toArray, List.set_cons_zero, List.set_cons_succ])
    refine anyE_take (i := 9) (v := ?vz10) rfl (by kernel_rfl) (by kernel_rfl) (by kernel_rfl) (by kernel_rfl) (by kernel_rfl) (fun _ _ _ h => h) (Or.inl ⟨by kernel_rfl, ?yz10⟩) (by assumption) ?rz10
    case yz10 => (intro w' hSw; (try dsimp only at hSw); go_simp; (try with_reducible rfl))
    (try simp only [Act.put, List.getElem_toArray, List.getElem_cons_succ, List.getElem_cons_zero, List.setIfInBounds_toArray, List.set_cons_zero, List.set_cons_succ])
    refine anyE_take (i := 10) (v := ?vz11) rfl (by kernel_rfl) (by kernel_rfl) (by kernel_rfl) (by kernel_rfl) (by kernel_rfl) (fun _ _ _ h => h) (Or.inl ⟨by kernel_rfl, ?yz11⟩) (by assumption) ?rz11
    case yz11 => (intro w' hSw; (try dsimp only at hSw); go_simp; (try with_reducible rfl))
    (try simp only [Act.put, List.getElem_toArray, List.getElem_cons_succ, List.getElem_cons_zero, List.setIfInBounds_toArray, List.set_cons_zero, List.set_cons_succ])
    refine anyE_one (i := 11) (by kernel_rfl) (anyE_step rfl (fun K hK => ?_))
    go_simp
    refine hK.out _ _ (fun h => absurd rfl h) (fun _ => ?_)
    clear hK K
    (try simp only [Act.put, List.getElem_toArray, List.getElem_cons_succ, List.getElem_cons_zero, List.setIfInBounds_toArray, List.set_cons_zero, List.set_cons_succ])
    refine anyE_done (by kernel_rfl) ?_ _
    refine NoPanic.normal ?_
    clear b3 b4 x0 x1 x2 x3 hup2 hwm
    obtain ⟨m3, hm3⟩ : ∃ m3, m + 1 = m3 := ⟨_, rfl⟩
    have HM3 := Lib.hid hm3
    have z0 : w5.cell? ⟨gB, 4, none⟩ = some (.slice a m c) := HB5.out.cell 4
    have z1 := HX5.out.four0'
    have z2 := HX5.out.four1'
    have z3 := HX5.out.four2'
    have z4 := HX5.out.four3'
    have HAA := Lib.hid (show Below w5.heap.size w5 (w5.alloc (.cells #[.int .i64 f, .int .i64 t, .int .i64 u, .int .i64 z] 59)).drew from ((Below.refl w5.heap.size w5).alloc (Nat.le_refl _) _).drew)
    have HNA := Lib.hid (show BlkV (w5.alloc (.cells #[.int .i64 f, .int .i64 t, .int .i64 u, .int .i64 z] 59)).drew w5.heap.size 59 #[.int .i64 f, .int .i64 t, .int .i64 u, .int .i64 z] from BlkV.new w5 _ _)
    have HOA := Lib.hid (HO5.out.below HAA.out)
    have HLOW := Lib.hid (fun q (hq : (Value.slice a m c).ownBlock = some q) => (HLOW0.out q hq).1)
    have HNE := Lib.hid (show (Value.slice a m c).ownBlock ≠ some W.heap.size from fun e => by have := (HLOW0.out _ e).2; omega)
    have HSZA := Lib.hid (show lo ≤ (w5.alloc (.cells #[.int .i64 f, .int .i64 t, .int .i64 u, .int .i64 z] 59)).drew.heap.size from Nat.le_trans hlo (Nat.le_trans HF5.out.size HAA.out.size))
    have v0 : (w5.alloc (.cells #[.int .i64 f, .int .i64 t, .int .i64 u, .int .i64 z] 59)).drew.cell? ⟨gB, 4, none⟩ = some (.slice a m c) := (HB5.out.below HAA.out).cell 4
    have v1 := (HX5.out.below HAA.out).four0'
    have v2 := (HX5.out.below HAA.out).four1'
    have v3 := (HX5.out.below HAA.out).four2'
    have v4 := (HX5.out.below HAA.out).four3'
    clear hm3
    go_wp2_with (fail)
    refine wp_region_noPanic ?_
    refine wp_region_E (S := fun w' => w'.cell? ⟨gB, 4, none⟩ = some (.slice a m c) ∧ w'.cell? ⟨W.heap.size, 0, none⟩ = some (.int .i64 f) ∧ w'.cell? ⟨W.heap.size, 1, none⟩ = some (.int .i64 t) ∧ w'.cell? ⟨W.heap.size, 2, none⟩ = some (.int .i64 u) ∧ w'.cell? ⟨W.heap.size, 3, none⟩ = some (.int .i64 z)) 10 (by kernel_rfl) (⟨z0, z1, z2, z3, z4⟩) (fun hHeld => ?_)
    refine anyE_take (i := 0) (v := ?vz12) rfl (by kernel_rfl) (by kernel_rfl) (by kernel_rfl) (by kernel_rfl) (by kernel_rfl) (fun _ _ _ h => h) (Or.inl ⟨by kernel_rfl, ?yz12⟩) (by assumption) ?rz12
    case yz12 => (intro w' hSw; (try dsimp only at hSw); go_simp; (try with_reducible rfl))
    (try simp only [Act.put, List.getElem_toArray, List.getElem_cons_succ, List.getElem_cons_zero, List.setIfInBounds_toArray, List.set_cons_zero, List.set_cons_succ])
    refine anyE_take (i := 1) (v := ?vz13) rfl (by kernel_rfl) (by kernel_rfl) (by kernel_rfl) (by kernel_rfl) (by kernel_rfl) (fun _ _ _ h => h) (Or.inl ⟨by kernel_rfl, ?yz13⟩) (by assumption) ?rz13
    case yz13 => (intro w' hSw; (try dsimp only at hSw); go_simp; (try with_reducible rfl))
    (try simp only [Act.put, List.getElem_toArray, List.getElem_cons_succ, List.getElem_cons_zero, List.setIfInBounds_toArray, List.set_cons_zero, List.set_cons_succ])
    refine anyE_take (i := 2) (v := ?vz14) rfl (by kernel_rfl) (by kernel_rfl) (by kernel_rfl) (by kernel_rfl) (by kernel_rfl) (fun _ _ _ h => h) (Or.inl ⟨by kernel_rfl, ?yz14⟩) (by assumption) ?rz14
    case yz14 => (intro w' hSw; (try dsimp only at hSw); go_simp; (try with_reducible rfl))
    (try simp only [Act.put, List.getElem_toArray, List.getElem_cons_succ, List.getElem_cons_zero, List.setIfInBounds_toArray, List.set_cons_zero, List.set_cons_succ])
    refine anyE_take (i := 3) (v := ?vz15) rfl (by kernel_rfl) (by kernel_rfl) (by kernel_rfl) (by kernel_rfl) (by kernel_rfl) (fun _ _ _ h => h) (Or.inl ⟨by kernel_rfl, ?yz15⟩) (by assumption) ?rz15
    case yz15 => (intro w' hSw; (try dsimp only at hSw); go_simp; (try with_reducible rfl))
    (try simp only [Act.put, List.getElem_toArray, List.getElem_cons_succ, List.getElem_cons_zero, List.setIfInBounds_toArray, List.set_cons_zero, List.set_cons_succ])
    refine anyE_take (i := 4) (v := ?vz16) rfl (by kernel_rfl) (by kernel_rfl) (by kernel_rfl) (by kernel_rfl) (by kernel_rfl) (fun _ _ _ h => h) (Or.inl ⟨by kernel_rfl, ?yz16⟩) (by assumption) ?rz16
    case yz16 => (intro w' hSw; (try dsimp only at hSw); go_simp; (try with_reducible rfl))
    (try simp only [Act.put, List.getElem_toArray, List.getElem_cons_succ, List.getElem_cons_zero, List.setIfInBounds_toArray, List.set_cons_zero, List.set_cons_succ])
    refine anyE_take (i := 5) (v := ?vz17) rfl (by kernel_rfl) (by kernel_rfl) (by kernel_rfl) (by kernel_rfl) (by kernel_rfl) (fun _ _ _ h => h) (Or.inl ⟨by kernel_rfl, ?yz17⟩) (by assumption) ?rz17
    case yz17 => (intro w' hSw; (try dsimp only at hSw); go_simp; (try with_reducible rfl))
    (try simp only [Act.put, List.getElem_toArray, List.getElem_cons_succ, List.getElem_cons_zero, List.setIfInBounds_toArray, List.set_cons_zero, List.set_cons_succ])
    refine anyE_one (i := 6) (by kernel_rfl) (anyE_step rfl (fun K hK => ?_))
    go_simp
    refine hK.out _ _ (fun _ => ⟨v0, v1, v2, v3, v4⟩) (fun hH => ?_)
    have hHeld := hH (by decide)
    clear hH
    clear hK K
    (try simp only [Act.put, List.getElem_toArray, List.getElem_cons_succ, List.getElem_cons_zero, List.setIfInBounds_toArray, List.set_cons_zero, List.set_cons_succ])
    refine anyE_one (i := 7) (by kernel_rfl) (anyE_step rfl (fun K hK => ?_))
    refine step_nodeP rfl (.tmp 40) (.tmp 42) rfl lo (.slice a m c) D D' m m3 ((f, t), (u, z)) HOA.out rfl HF.out HM.out HM3.out w5.heap.size rfl HNA.out (by omega) HSZA.out ?_
    intro g5 c5 w6 ho hg hat
    have HO6 := Lib.hid ho
    have HG6 := Lib.hid hg
    have HAT6 := Lib.hid hat
    have hB6 : BlkV w6 gB 54 #[.slice aR nR cR, .slice aV nV cV, .map (some bm), .map (some br), .slice a m c] := (hg.block gB (Nat.lt_of_lt_of_le HB5.out.lt HAA.out.size) (fun e => by have := HLOW.out gB e.symm; omega)).trans (HB5.out.below HAA.out)
    have hX6 : BlkV w6 W.heap.size 59 #[.int .i64 f, .int .i64 t, .int .i64 u, .int .i64 z] := (hg.block W.heap.size (Nat.lt_of_lt_of_le HX5.out.lt HAA.out.size) (fun e => HNE.out e.symm)).trans (HX5.out.below HAA.out)
    have y0 : w6.cell? ⟨gB, 4, none⟩ = some (.slice a m c) := hB6.cell 4
    have y1 := hX6.four0'
    have y2 := hX6.four1'
    have y3 := hX6.four2'
    have y4 := hX6.four3'
    have fg := hB6.frozen 4
    have HB6 := Lib.hid hB6
    have HX6 := Lib.hid hX6
    clear ho hg hat hB6 hX6
    refine hK.out _ _ (fun _ => ⟨y0, y1, y2, y3, y4⟩) (fun hH => ?_)
    have hHeld := hH (by decide)
    clear hH
    clear hK K
    (try simp only [Act.put, List.getElem_toArray, List.getElem_cons_succ, List.getElem_cons_zero, List.setIfInBounds_toArray, List.set_cons_zero, List.set_cons_succ])
    refine anyE_take (i := 8) (v := ?vz18) rfl (by kernel_rfl) (by kernel_rfl) (by kernel_rfl) (by kernel_rfl) (by kernel_rfl) (fun _ _ _ h => h) (Or.inl ⟨by kernel_rfl, ?yz18⟩) (by assumption) ?rz18
    case yz18 => (intro w' hSw; (try dsimp only at hSw); go_simp; (try with_reducible rfl))
    (try simp only [Act.put, List.getElem_toArray, List.getElem_cons_succ, List.getElem_cons_zero, List.setIfInBounds_toArray, List.set_cons_zero, List.set_cons_succ])
    refine anyE_take (i := 9) (v := ?vz19) rfl (by kernel_rfl) (by kernel_rfl) (by kernel_rfl) (by kernel_rfl) (by kernel_rfl) (fun _ _ _ h => h) (Or.inl ⟨by kernel_rfl, ?yz19⟩) (by assumption) ?rz19
    case yz19 => (intro w' hSw; (try dsimp only at hSw); go_simp; (try with_reducible rfl))
    (try simp only [Act.put, List.getElem_toArray, List.getElem_cons_succ, List.getElem_cons_zero, List.setIfInBounds_toArray, List.set_cons_zero, List.set_cons_succ])
    refine anyE_one (i := 10) (by kernel_rfl) (anyE_step rfl (fun K hK => ?_))
    go_simp
    refine hK.out _ _ (fun h => absurd rfl h) (fun _ => ?_)
    clear hK K
    (try simp only [Act.put, List.getElem_toArray, List.getElem_cons_succ, List.getElem_cons_zero, List.setIfInBounds_toArray, List.set_cons_zero, List.set_cons_succ])
    refine anyE_done (by kernel_rfl) ?_ _
    refine NoPanic.normal ?_
    have hD3 : D'.length = m3 := by rw [← HF.out, ← HM3.out, ← HM.out]; simp
    have hB7 : BlkV (w6.setCell ⟨gB, 4, none⟩ (.slice (some ⟨g5, 0, none⟩) m3 c5)) gB 54 #[.slice aR nR cR, .slice aV nV cV, .map (some bm), .map (some br), .slice (some ⟨g5, 0, none⟩) m3 c5] := HB6.out.set_ 4 (.slice (some ⟨g5, 0, none⟩) m3 c5)
    have hX7 : BlkV (w6.setCell ⟨gB, 4, none⟩ (.slice (some ⟨g5, 0, none⟩) m3 c5)) W.heap.size 59 #[.int .i64 f, .int .i64 t, .int .i64 u, .int .i64 z] := HX6.out.other _ _ (by show W.heap.size ≠ gB; omega)
    have hO7 := HO6.out.setCell ⟨gB, 4, none⟩ (.slice (some ⟨g5, 0, none⟩) m3 c5) hg
    have hd6 : DMap w6 br (m + 1) (refF (D ++ [((f, t), (u, z))])) := (HD5.out.below HAA.out).kept HG6.out (fun e => by have h1 := HLOW.out br e.symm; omega)
    have hd7 : DMap (w6.setCell ⟨gB, 4, none⟩ (.slice (some ⟨g5, 0, none⟩) m3 c5)) br (m + 1) (refF (D ++ [((f, t), (u, z))])) := hd6.kept (row := some gB) ⟨rfl, rfl, rfl, by simp [World.setCell], fun k _ hk => Below.heap_setCell w6 ⟨gB, 4, none⟩ _ k (fun e => hk (by rw [e]))⟩ (fun e => by injection e with e; exact hne e.symm)
    have hF7 := ((HF5.out.below HAA.out).grown (v2 := .slice (some ⟨g5, 0, none⟩) m3 c5) HG6.out rfl HAT6.out).setg (g := gB) (by simp) 4 (.slice (some ⟨g5, 0, none⟩) m3 c5)
    generalize w6.setCell ⟨gB, 4, none⟩ (.slice (some ⟨g5, 0, none⟩) m3 c5) = w7 at hB7 hX7 hO7 hd7 hF7 ⊢
    have HB7 := Lib.hid hB7
    have HO7 := Lib.hid hO7
    have HD7 := Lib.hid hd7
    have HF7 := Lib.hid hF7
    have HD3 := Lib.hid hD3
    have b3 : w7.cell? ⟨gB, 3, none⟩ = some (.map (some br)) := hB7.cell 3
    have q0 := hX7.four0'
    have q1 := hX7.four1'
    have q2 := hX7.four2'
    have q3 := hX7.four3'
    have hk := fun n : Nat => (hd7.below (dquiet_f w7.heap.size w7 n)).look keyN' Tryz.underlying52 (z := .int .i64 0) (by kernel_rfl) ((f, t), (u, z)) HOK.out
    rw [refF_last D _ HCT.out, HM.out, HY.out] at hk
    simp only [Option.getD_some, keN] at hk
    have hk0 := hk 0
    clear hB7 hX7 hO7 hd7 hd6 hF7 hD3 z0 z1 z2 z3 z4 v0 v1 v2 v3 v4 y0 y1 y2 y3 y4 fg
    go_wp2
    go_quiet (fail)
    have HBy := Lib.hid (dquiet_f w7.heap.size w7 nq)
    generalize w7.drewN nq = w8 at HBy ⊢
    clear q0 q1 q2 q3 b3 hk0 hk
    go_wp2
    go_ret
    have hst : BSt w8 gB lo aR nR cR aV nV cV bm br (some ⟨g5, 0, none⟩) c5 D'.length D' := by
      rw [HD3.out]
      refine ⟨HB7.out.below HBy.out, HD3.out, ?_, HO7.out.below HBy.out, fun x hx => ?_⟩
      · rw [← HM3.out, ← HF.out]; exact HD7.out.below HBy.out
      · rw [← HF.out] at hx
        rcases List.mem_append.1 hx with h1 | h1
        · exact HST0.out.ok x h1
        · simp at h1; subst h1; exact HOK.out
    have hfr : FrB W w8 [gB, br] (.slice a m c) (.slice (some ⟨g5, 0, none⟩) D'.length c5) := by rw [HD3.out]; exact HF7.out.below HBy.out
    first
      | exact ⟨some ⟨g5, 0, none⟩, c5, rfl, hst, hfr⟩
      | exact ⟨rfl, some ⟨g5, 0, none⟩, c5, hst, hfr⟩

end Go.Proofs.YtpmfabpnjacegaaGreatDoor

